/- Contract of package emit's load: the cells of a load. -/
import Derived.Test.YtcaibahniheohaaEmtSmall
namespace Go.Proofs.Ytcaibahniheohaa.Words
set_option maxRecDepth 100000
open Go.RowKit
set_option linter.unusedVariables false
set_option linter.unusedSimpArgs false

set_option maxHeartbeats 4000000 in
theorem load_e {b : Nat} {i : Ins} {z : List Int} {pc off : Int} {S : Nat → Prop} {w0 : World} {va ve : Value} {la le : List Cel} (w : World) (h : Em b i z pc off S w0 w va ve la le) (hr : rightB i = true) (hla : la.length ≤ 100) (hle : le.length ≤ 100) (hd : atO z i.d = 2) :
    Calls Try.prog 32 #[.pointer (some ⟨b, 0, none⟩)] w fun e w' => e = .returned (.tuple #[]) ∧ ∃ va' ve', Em b i z pc off S w0 w' va' ve' (la ++ [insC 3 i pc off]) (le ++ [insC 7 i pc off]) := by
  have HEw := Lib.hid h
  have HLA := Lib.hid hla
  have HLE := Lib.hid hle
  have hrr := right_range hr
  obtain ⟨nd, hdn, hd15⟩ := nat_of hrr.2.1
  have c1 := h.cellI (k := 1) rfl
  have d1 := h.cellR hd15
  have hq : (atO z nd == 2) = true := by rw [← hdn]; simpa using hd
  rw [hdn] at c1
  have e1 : (nd : Int) ≤ 15 := by omega
  clear h hr hla hle hd hdn hrr
  obtain ⟨i0, hi, hz0, hz1, hz2⟩ := info_parts info_cel
  have HI := Lib.hid hi
  have HZ0 := Lib.hid hz0
  have HZ1 := Lib.hid hz1
  have HZ2 := Lib.hid hz2
  clear hi hz0 hz1 hz2
  go_enter Try.func32, Try.ntmps32
  go_wp2_with fail
  go_quiet (fail)
  go_wp2_with fail
  obtain ⟨wD, hwD⟩ : ∃ wD, wD = w.drewN nq := ⟨_, rfl⟩
  have HEwD : Hid (Em b i z pc off S w0 wD va ve la le) := by rw [hwD]; exact HEw.out.drewN _
  rw [← hwD]
  clear c1 d1 hwD
  refine region_tree_ex (fun (act : Act) (B : Nat × Value) => (((((((((((act.put (some 13) (.pointer (some ⟨b, 0, none⟩))).put (some 14) (.pointer (some ⟨b, 0, none⟩))).put (some 15) (.pointer (some ⟨b, 0, none⟩))).put (some 16) (.pointer (some ⟨b, 23, none⟩))).put (some 17) va).put (some 18) (.pointer (some ⟨b, 0, none⟩))).put (some 19) (.agg (celCells (insC 3 i pc off)).toArray)).put (some 20) (.slice (some ⟨B.1, 0, none⟩) 1 1)).put (some 21) B.2).put (some 22) (.pointer (some ⟨b, 0, none⟩))).put (some 23) (.pointer (some ⟨b, 23, none⟩))))
    (fun B y => Em b i z pc off S w0 y B.2 ve (la ++ [insC 3 i pc off]) (le))
    (LinT.of [(0, true), (1, true), (2, true), (3, true), (5, true)] (.two 4 6 (LinT.of [(6, false), (7, false), (8, false), (9, true), (10, true), (11, false)] .nil) (LinT.of [] (.two 4 7 (LinT.of [(7, false), (8, false), (9, true), (10, true), (11, false)] .nil) (LinT.of [(4, false), (8, false), (9, true), (10, true), (11, false)] .nil)))))
    (by kernel_rfl) (by kernel_rfl) rfl (by kernel_rfl) (fun _ => True) ?_ ?_
  · simp only [LinT.of, LinT.look, List.getElem?_toArray, List.getElem?_cons_succ, List.getElem?_cons_zero]
    have cL : wD.drew.cell? ⟨b, 23, none⟩ = some va := HEwD.out.cellA
    have cL2 : wD.cell? ⟨b, 23, none⟩ = some va := HEwD.out.cellA
    iterate 5 (refine tree_take (v := ?_) trivial (by rfl) ?_ ?_; rotate_left; (intro x hx; (try dsimp only at hx); go_simp; try (with_reducible rfl)); (simp only [Act.put, List.setIfInBounds_toArray, List.set_cons_zero, List.set_cons_succ]))
    refine tree_two trivial (by rfl) (by rfl) (fun K hK => ?_) (fun K hK => ?_)
    · go_simp
      refine hK.out _ _ trivial (fun _ => ?_)
      clear hK K
      try (simp only [Act.put, List.setIfInBounds_toArray, List.set_cons_zero, List.set_cons_succ])
      refine tree_call trivial (by rfl) (fun K hK => ?_)
      go_simp
      refine (withIns_any 3 _ HEwD.out.drew).mono ?_; rintro e y0 ⟨rfl, hb0⟩
      go_wp2_with fail
      have HE0 := Lib.hid ((HEwD.out.drew).below hb0)
      have cL0 := HE0.out.cellA
      refine hK.out _ _ trivial (fun _ => ?_)
      clear hK K hb0
      try (simp only [Act.put, List.setIfInBounds_toArray, List.set_cons_zero, List.set_cons_succ])
      refine tree_call trivial (by rfl) (fun K hK => ?_)
      go_simp
      try rw [fold_cel]
      refine hK.out _ _ trivial (fun _ => ?_)
      clear hK K
      change wpT _ _ _ _ _ _ _ (y0.alloc (.cells (celCells (insC 3 i pc off)).toArray 36))
      try (simp only [Act.put, List.setIfInBounds_toArray, List.set_cons_zero, List.set_cons_succ])
      refine tree_call trivial (by rfl) (fun K hK => ?_)
      refine wp_append_new _ (.tmp 17) (.tmp 20) 26 rfl (b + 1) 36 i0 _ 9 72 Try.underlying26 HI.out HZ0.out HZ1.out HZ2.out rfl (by omega) va (la).length (flat celCells (la)) rfl (HE0.out.alloc _).oa _ (.slice (some ⟨y0.heap.size, 0, none⟩) 1 1) 1 (celCells (insC 3 i pc off)) rfl (row_new y0 (celCells (insC 3 i pc off)) 9 rfl (by omega) _) (celCells_one _) (by unfold maxLen; have := HLA.out; omega) (by have := HLA.out; omega) (by have := HE0.out.lt; simp; omega) ?_
      intro v1 y1 hO hg hn
      obtain ⟨hE1, q1, q2, q3, A1, k1, rfl⟩ := HE0.out.appA (c := insC 3 i pc off) hO hg hn
      have HE1 := Lib.hid hE1
      clear hO hg hn hE1
      refine hK.out _ _ trivial (fun _ => ?_)
      clear hK K
      try (simp only [Act.put, List.setIfInBounds_toArray, List.set_cons_zero, List.set_cons_succ])
      iterate 2 (refine tree_take (v := ?_) trivial (by rfl) ?_ ?_; rotate_left; (intro x hx; (try dsimp only at hx); go_simp; try (with_reducible rfl)); (simp only [Act.put, List.setIfInBounds_toArray, List.set_cons_zero, List.set_cons_succ]))
      refine tree_call trivial (by rfl) (fun K hK => ?_)
      go_simp
      refine hK.out _ _ trivial (fun _ => ?_)
      clear hK K
      exact tree_done ⟨(y0.heap.size, .slice A1 ((la).length + 1) k1), rfl, HE1.out⟩
    · go_simp
      refine (withIns_any 3 _ HEwD.out.drew).mono ?_; rintro e y0 ⟨rfl, hb0⟩
      go_wp2_with fail
      have HE0 := Lib.hid ((HEwD.out.drew).below hb0)
      have cL0 := HE0.out.cellA
      refine hK.out _ _ trivial (fun _ => ?_)
      clear hK K hb0
      try (simp only [Act.put, List.setIfInBounds_toArray, List.set_cons_zero, List.set_cons_succ])
      refine tree_two trivial (by rfl) (by rfl) (fun K hK => ?_) (fun K hK => ?_)
      · go_simp
        refine hK.out _ _ trivial (fun _ => ?_)
        clear hK K
        try (simp only [Act.put, List.setIfInBounds_toArray, List.set_cons_zero, List.set_cons_succ])
        refine tree_call trivial (by rfl) (fun K hK => ?_)
        go_simp
        try rw [fold_cel]
        refine hK.out _ _ trivial (fun _ => ?_)
        clear hK K
        change wpT _ _ _ _ _ _ _ (y0.alloc (.cells (celCells (insC 3 i pc off)).toArray 36))
        try (simp only [Act.put, List.setIfInBounds_toArray, List.set_cons_zero, List.set_cons_succ])
        refine tree_call trivial (by rfl) (fun K hK => ?_)
        refine wp_append_new _ (.tmp 17) (.tmp 20) 26 rfl (b + 1) 36 i0 _ 9 72 Try.underlying26 HI.out HZ0.out HZ1.out HZ2.out rfl (by omega) va (la).length (flat celCells (la)) rfl (HE0.out.alloc _).oa _ (.slice (some ⟨y0.heap.size, 0, none⟩) 1 1) 1 (celCells (insC 3 i pc off)) rfl (row_new y0 (celCells (insC 3 i pc off)) 9 rfl (by omega) _) (celCells_one _) (by unfold maxLen; have := HLA.out; omega) (by have := HLA.out; omega) (by have := HE0.out.lt; simp; omega) ?_
        intro v1 y1 hO hg hn
        obtain ⟨hE1, q1, q2, q3, A1, k1, rfl⟩ := HE0.out.appA (c := insC 3 i pc off) hO hg hn
        have HE1 := Lib.hid hE1
        clear hO hg hn hE1
        refine hK.out _ _ trivial (fun _ => ?_)
        clear hK K
        try (simp only [Act.put, List.setIfInBounds_toArray, List.set_cons_zero, List.set_cons_succ])
        iterate 2 (refine tree_take (v := ?_) trivial (by rfl) ?_ ?_; rotate_left; (intro x hx; (try dsimp only at hx); go_simp; try (with_reducible rfl)); (simp only [Act.put, List.setIfInBounds_toArray, List.set_cons_zero, List.set_cons_succ]))
        refine tree_call trivial (by rfl) (fun K hK => ?_)
        go_simp
        refine hK.out _ _ trivial (fun _ => ?_)
        clear hK K
        exact tree_done ⟨(y0.heap.size, .slice A1 ((la).length + 1) k1), rfl, HE1.out⟩
      · go_simp
        try rw [fold_cel]
        have cLa := (HE0.out.alloc (.cells (celCells (insC 3 i pc off)).toArray 36)).cellA
        refine hK.out _ _ trivial (fun _ => ?_)
        clear hK K
        change wpT _ _ _ _ _ _ _ (y0.alloc (.cells (celCells (insC 3 i pc off)).toArray 36))
        try (simp only [Act.put, List.setIfInBounds_toArray, List.set_cons_zero, List.set_cons_succ])
        refine tree_call trivial (by rfl) (fun K hK => ?_)
        go_simp
        refine hK.out _ _ trivial (fun _ => ?_)
        clear hK K
        try (simp only [Act.put, List.setIfInBounds_toArray, List.set_cons_zero, List.set_cons_succ])
        refine tree_call trivial (by rfl) (fun K hK => ?_)
        refine wp_append_new _ (.tmp 17) (.tmp 20) 26 rfl (b + 1) 36 i0 _ 9 72 Try.underlying26 HI.out HZ0.out HZ1.out HZ2.out rfl (by omega) va (la).length (flat celCells (la)) rfl (HE0.out.alloc _).oa _ (.slice (some ⟨y0.heap.size, 0, none⟩) 1 1) 1 (celCells (insC 3 i pc off)) rfl (row_new y0 (celCells (insC 3 i pc off)) 9 rfl (by omega) _) (celCells_one _) (by unfold maxLen; have := HLA.out; omega) (by have := HLA.out; omega) (by have := HE0.out.lt; simp; omega) ?_
        intro v1 y1 hO hg hn
        obtain ⟨hE1, q1, q2, q3, A1, k1, rfl⟩ := HE0.out.appA (c := insC 3 i pc off) hO hg hn
        have HE1 := Lib.hid hE1
        clear hO hg hn hE1
        refine hK.out _ _ trivial (fun _ => ?_)
        clear hK K
        try (simp only [Act.put, List.setIfInBounds_toArray, List.set_cons_zero, List.set_cons_succ])
        iterate 2 (refine tree_take (v := ?_) trivial (by rfl) ?_ ?_; rotate_left; (intro x hx; (try dsimp only at hx); go_simp; try (with_reducible rfl)); (simp only [Act.put, List.setIfInBounds_toArray, List.set_cons_zero, List.set_cons_succ]))
        refine tree_call trivial (by rfl) (fun K hK => ?_)
        go_simp
        refine hK.out _ _ trivial (fun _ => ?_)
        clear hK K
        exact tree_done ⟨(y0.heap.size, .slice A1 ((la).length + 1) k1), rfl, HE1.out⟩
  rintro ⟨B1, v1⟩ w1 hE1
  dsimp only at hE1
  have HEw1 := Lib.hid hE1
  clear hE1
  simp only [Act.put, List.setIfInBounds_toArray, List.set_cons_zero, List.set_cons_succ]
  go_wp2_with fail
  refine region_tree_ex (fun (act : Act) (B : Nat × Value) => (((((((((((act.put (some 24) (.pointer (some ⟨b, 0, none⟩))).put (some 25) (.pointer (some ⟨b, 0, none⟩))).put (some 26) (.pointer (some ⟨b, 0, none⟩))).put (some 27) (.pointer (some ⟨b, 24, none⟩))).put (some 28) ve).put (some 29) (.pointer (some ⟨b, 0, none⟩))).put (some 30) (.agg (celCells (insC 7 i pc off)).toArray)).put (some 31) (.slice (some ⟨B.1, 0, none⟩) 1 1)).put (some 32) B.2).put (some 33) (.pointer (some ⟨b, 0, none⟩))).put (some 34) (.pointer (some ⟨b, 24, none⟩))))
    (fun B y => Em b i z pc off S w0 y v1 B.2 (la ++ [insC 3 i pc off]) (le ++ [insC 7 i pc off]))
    (LinT.of [(0, true), (1, true), (2, true), (3, true), (5, true)] (.two 4 6 (LinT.of [(6, false), (7, false), (8, false), (9, true), (10, true), (11, false)] .nil) (LinT.of [] (.two 4 7 (LinT.of [(7, false), (8, false), (9, true), (10, true), (11, false)] .nil) (LinT.of [(4, false), (8, false), (9, true), (10, true), (11, false)] .nil)))))
    (by kernel_rfl) (by kernel_rfl) rfl (by kernel_rfl) (fun _ => True) ?_ ?_
  · simp only [LinT.of, LinT.look, List.getElem?_toArray, List.getElem?_cons_succ, List.getElem?_cons_zero]
    have cL : w1.drew.cell? ⟨b, 24, none⟩ = some ve := HEw1.out.cellE
    have cL2 : w1.cell? ⟨b, 24, none⟩ = some ve := HEw1.out.cellE
    iterate 5 (refine tree_take (v := ?_) trivial (by rfl) ?_ ?_; rotate_left; (intro x hx; (try dsimp only at hx); go_simp; try (with_reducible rfl)); (simp only [Act.put, List.setIfInBounds_toArray, List.set_cons_zero, List.set_cons_succ]))
    refine tree_two trivial (by rfl) (by rfl) (fun K hK => ?_) (fun K hK => ?_)
    · go_simp
      refine hK.out _ _ trivial (fun _ => ?_)
      clear hK K
      try (simp only [Act.put, List.setIfInBounds_toArray, List.set_cons_zero, List.set_cons_succ])
      refine tree_call trivial (by rfl) (fun K hK => ?_)
      go_simp
      refine (withIns_any 7 _ HEw1.out.drew).mono ?_; rintro e y0 ⟨rfl, hb0⟩
      go_wp2_with fail
      have HE0 := Lib.hid ((HEw1.out.drew).below hb0)
      have cL0 := HE0.out.cellE
      refine hK.out _ _ trivial (fun _ => ?_)
      clear hK K hb0
      try (simp only [Act.put, List.setIfInBounds_toArray, List.set_cons_zero, List.set_cons_succ])
      refine tree_call trivial (by rfl) (fun K hK => ?_)
      go_simp
      try rw [fold_cel]
      refine hK.out _ _ trivial (fun _ => ?_)
      clear hK K
      change wpT _ _ _ _ _ _ _ (y0.alloc (.cells (celCells (insC 7 i pc off)).toArray 36))
      try (simp only [Act.put, List.setIfInBounds_toArray, List.set_cons_zero, List.set_cons_succ])
      refine tree_call trivial (by rfl) (fun K hK => ?_)
      refine wp_append_new _ (.tmp 28) (.tmp 31) 26 rfl (b + 1) 36 i0 _ 9 72 Try.underlying26 HI.out HZ0.out HZ1.out HZ2.out rfl (by omega) ve (le).length (flat celCells (le)) rfl (HE0.out.alloc _).oe _ (.slice (some ⟨y0.heap.size, 0, none⟩) 1 1) 1 (celCells (insC 7 i pc off)) rfl (row_new y0 (celCells (insC 7 i pc off)) 9 rfl (by omega) _) (celCells_one _) (by unfold maxLen; have := HLE.out; omega) (by have := HLE.out; omega) (by have := HE0.out.lt; simp; omega) ?_
      intro v1 y1 hO hg hn
      obtain ⟨hE1, q1, q2, q3, A1, k1, rfl⟩ := HE0.out.appE (c := insC 7 i pc off) hO hg hn
      have HE1 := Lib.hid hE1
      clear hO hg hn hE1
      refine hK.out _ _ trivial (fun _ => ?_)
      clear hK K
      try (simp only [Act.put, List.setIfInBounds_toArray, List.set_cons_zero, List.set_cons_succ])
      iterate 2 (refine tree_take (v := ?_) trivial (by rfl) ?_ ?_; rotate_left; (intro x hx; (try dsimp only at hx); go_simp; try (with_reducible rfl)); (simp only [Act.put, List.setIfInBounds_toArray, List.set_cons_zero, List.set_cons_succ]))
      refine tree_call trivial (by rfl) (fun K hK => ?_)
      go_simp
      refine hK.out _ _ trivial (fun _ => ?_)
      clear hK K
      exact tree_done ⟨(y0.heap.size, .slice A1 ((le).length + 1) k1), rfl, HE1.out⟩
    · go_simp
      refine (withIns_any 7 _ HEw1.out.drew).mono ?_; rintro e y0 ⟨rfl, hb0⟩
      go_wp2_with fail
      have HE0 := Lib.hid ((HEw1.out.drew).below hb0)
      have cL0 := HE0.out.cellE
      refine hK.out _ _ trivial (fun _ => ?_)
      clear hK K hb0
      try (simp only [Act.put, List.setIfInBounds_toArray, List.set_cons_zero, List.set_cons_succ])
      refine tree_two trivial (by rfl) (by rfl) (fun K hK => ?_) (fun K hK => ?_)
      · go_simp
        refine hK.out _ _ trivial (fun _ => ?_)
        clear hK K
        try (simp only [Act.put, List.setIfInBounds_toArray, List.set_cons_zero, List.set_cons_succ])
        refine tree_call trivial (by rfl) (fun K hK => ?_)
        go_simp
        try rw [fold_cel]
        refine hK.out _ _ trivial (fun _ => ?_)
        clear hK K
        change wpT _ _ _ _ _ _ _ (y0.alloc (.cells (celCells (insC 7 i pc off)).toArray 36))
        try (simp only [Act.put, List.setIfInBounds_toArray, List.set_cons_zero, List.set_cons_succ])
        refine tree_call trivial (by rfl) (fun K hK => ?_)
        refine wp_append_new _ (.tmp 28) (.tmp 31) 26 rfl (b + 1) 36 i0 _ 9 72 Try.underlying26 HI.out HZ0.out HZ1.out HZ2.out rfl (by omega) ve (le).length (flat celCells (le)) rfl (HE0.out.alloc _).oe _ (.slice (some ⟨y0.heap.size, 0, none⟩) 1 1) 1 (celCells (insC 7 i pc off)) rfl (row_new y0 (celCells (insC 7 i pc off)) 9 rfl (by omega) _) (celCells_one _) (by unfold maxLen; have := HLE.out; omega) (by have := HLE.out; omega) (by have := HE0.out.lt; simp; omega) ?_
        intro v1 y1 hO hg hn
        obtain ⟨hE1, q1, q2, q3, A1, k1, rfl⟩ := HE0.out.appE (c := insC 7 i pc off) hO hg hn
        have HE1 := Lib.hid hE1
        clear hO hg hn hE1
        refine hK.out _ _ trivial (fun _ => ?_)
        clear hK K
        try (simp only [Act.put, List.setIfInBounds_toArray, List.set_cons_zero, List.set_cons_succ])
        iterate 2 (refine tree_take (v := ?_) trivial (by rfl) ?_ ?_; rotate_left; (intro x hx; (try dsimp only at hx); go_simp; try (with_reducible rfl)); (simp only [Act.put, List.setIfInBounds_toArray, List.set_cons_zero, List.set_cons_succ]))
        refine tree_call trivial (by rfl) (fun K hK => ?_)
        go_simp
        refine hK.out _ _ trivial (fun _ => ?_)
        clear hK K
        exact tree_done ⟨(y0.heap.size, .slice A1 ((le).length + 1) k1), rfl, HE1.out⟩
      · go_simp
        try rw [fold_cel]
        have cLa := (HE0.out.alloc (.cells (celCells (insC 7 i pc off)).toArray 36)).cellE
        refine hK.out _ _ trivial (fun _ => ?_)
        clear hK K
        change wpT _ _ _ _ _ _ _ (y0.alloc (.cells (celCells (insC 7 i pc off)).toArray 36))
        try (simp only [Act.put, List.setIfInBounds_toArray, List.set_cons_zero, List.set_cons_succ])
        refine tree_call trivial (by rfl) (fun K hK => ?_)
        go_simp
        refine hK.out _ _ trivial (fun _ => ?_)
        clear hK K
        try (simp only [Act.put, List.setIfInBounds_toArray, List.set_cons_zero, List.set_cons_succ])
        refine tree_call trivial (by rfl) (fun K hK => ?_)
        refine wp_append_new _ (.tmp 28) (.tmp 31) 26 rfl (b + 1) 36 i0 _ 9 72 Try.underlying26 HI.out HZ0.out HZ1.out HZ2.out rfl (by omega) ve (le).length (flat celCells (le)) rfl (HE0.out.alloc _).oe _ (.slice (some ⟨y0.heap.size, 0, none⟩) 1 1) 1 (celCells (insC 7 i pc off)) rfl (row_new y0 (celCells (insC 7 i pc off)) 9 rfl (by omega) _) (celCells_one _) (by unfold maxLen; have := HLE.out; omega) (by have := HLE.out; omega) (by have := HE0.out.lt; simp; omega) ?_
        intro v1 y1 hO hg hn
        obtain ⟨hE1, q1, q2, q3, A1, k1, rfl⟩ := HE0.out.appE (c := insC 7 i pc off) hO hg hn
        have HE1 := Lib.hid hE1
        clear hO hg hn hE1
        refine hK.out _ _ trivial (fun _ => ?_)
        clear hK K
        try (simp only [Act.put, List.setIfInBounds_toArray, List.set_cons_zero, List.set_cons_succ])
        iterate 2 (refine tree_take (v := ?_) trivial (by rfl) ?_ ?_; rotate_left; (intro x hx; (try dsimp only at hx); go_simp; try (with_reducible rfl)); (simp only [Act.put, List.setIfInBounds_toArray, List.set_cons_zero, List.set_cons_succ]))
        refine tree_call trivial (by rfl) (fun K hK => ?_)
        go_simp
        refine hK.out _ _ trivial (fun _ => ?_)
        clear hK K
        exact tree_done ⟨(y0.heap.size, .slice A1 ((le).length + 1) k1), rfl, HE1.out⟩
  rintro ⟨B2, v2⟩ w2 hE2
  dsimp only at hE2
  have HEw2 := Lib.hid hE2
  clear hE2
  simp only [Act.put, List.setIfInBounds_toArray, List.set_cons_zero, List.set_cons_succ]
  go_wp2_with fail
  first | exact bodyPost_ret (v := .tuple #[]) (by simp [results, Try.results32, go_sem]) rfl ⟨rfl, _, _, HEw2.out⟩ | exact bodyPost_end (v := .tuple #[]) (by simp [results, Try.results32, go_sem]) rfl ⟨rfl, _, _, HEw2.out⟩

set_option maxHeartbeats 4000000 in
theorem load_a {b : Nat} {i : Ins} {z : List Int} {pc off : Int} {S : Nat → Prop} {w0 : World} {va ve : Value} {la le : List Cel} (w : World) (h : Em b i z pc off S w0 w va ve la le) (hr : rightB i = true) (hla : la.length ≤ 100) (hle : le.length ≤ 100) (hd : ¬ atO z i.d = 2) :
    Calls Try.prog 32 #[.pointer (some ⟨b, 0, none⟩)] w fun e w' => e = .returned (.tuple #[]) ∧ ∃ va' ve', Em b i z pc off S w0 w' va' ve' (la ++ [insC 2 i pc off]) (le) := by
  have HEw := Lib.hid h
  have HLA := Lib.hid hla
  have HLE := Lib.hid hle
  have hrr := right_range hr
  obtain ⟨nd, hdn, hd15⟩ := nat_of hrr.2.1
  have c1 := h.cellI (k := 1) rfl
  have d1 := h.cellR hd15
  have hq : (atO z nd == 2) = false := by rw [← hdn]; simpa using hd
  rw [hdn] at c1
  have e1 : (nd : Int) ≤ 15 := by omega
  clear h hr hla hle hd hdn hrr
  obtain ⟨i0, hi, hz0, hz1, hz2⟩ := info_parts info_cel
  have HI := Lib.hid hi
  have HZ0 := Lib.hid hz0
  have HZ1 := Lib.hid hz1
  have HZ2 := Lib.hid hz2
  clear hi hz0 hz1 hz2
  go_enter Try.func32, Try.ntmps32
  go_wp2_with fail
  go_quiet (fail)
  go_wp2_with fail
  obtain ⟨wD, hwD⟩ : ∃ wD, wD = w.drewN nq := ⟨_, rfl⟩
  have HEwD : Hid (Em b i z pc off S w0 wD va ve la le) := by rw [hwD]; exact HEw.out.drewN _
  rw [← hwD]
  clear c1 d1 hwD
  refine region_tree_ex (fun (act : Act) (B : Nat × Value) => (((((((((((act.put (some 35) (.pointer (some ⟨b, 0, none⟩))).put (some 36) (.pointer (some ⟨b, 0, none⟩))).put (some 37) (.pointer (some ⟨b, 0, none⟩))).put (some 38) (.pointer (some ⟨b, 23, none⟩))).put (some 39) va).put (some 40) (.pointer (some ⟨b, 0, none⟩))).put (some 41) (.agg (celCells (insC 2 i pc off)).toArray)).put (some 42) (.slice (some ⟨B.1, 0, none⟩) 1 1)).put (some 43) B.2).put (some 44) (.pointer (some ⟨b, 0, none⟩))).put (some 45) (.pointer (some ⟨b, 23, none⟩))))
    (fun B y => Em b i z pc off S w0 y B.2 ve (la ++ [insC 2 i pc off]) (le))
    (LinT.of [(0, true), (1, true), (2, true), (3, true), (5, true)] (.two 4 6 (LinT.of [(6, false), (7, false), (8, false), (9, true), (10, true), (11, false)] .nil) (LinT.of [] (.two 4 7 (LinT.of [(7, false), (8, false), (9, true), (10, true), (11, false)] .nil) (LinT.of [(4, false), (8, false), (9, true), (10, true), (11, false)] .nil)))))
    (by kernel_rfl) (by kernel_rfl) rfl (by kernel_rfl) (fun _ => True) ?_ ?_
  · simp only [LinT.of, LinT.look, List.getElem?_toArray, List.getElem?_cons_succ, List.getElem?_cons_zero]
    have cL : wD.drew.cell? ⟨b, 23, none⟩ = some va := HEwD.out.cellA
    have cL2 : wD.cell? ⟨b, 23, none⟩ = some va := HEwD.out.cellA
    iterate 5 (refine tree_take (v := ?_) trivial (by rfl) ?_ ?_; rotate_left; (intro x hx; (try dsimp only at hx); go_simp; try (with_reducible rfl)); (simp only [Act.put, List.setIfInBounds_toArray, List.set_cons_zero, List.set_cons_succ]))
    refine tree_two trivial (by rfl) (by rfl) (fun K hK => ?_) (fun K hK => ?_)
    · go_simp
      refine hK.out _ _ trivial (fun _ => ?_)
      clear hK K
      try (simp only [Act.put, List.setIfInBounds_toArray, List.set_cons_zero, List.set_cons_succ])
      refine tree_call trivial (by rfl) (fun K hK => ?_)
      go_simp
      refine (withIns_any 2 _ HEwD.out.drew).mono ?_; rintro e y0 ⟨rfl, hb0⟩
      go_wp2_with fail
      have HE0 := Lib.hid ((HEwD.out.drew).below hb0)
      have cL0 := HE0.out.cellA
      refine hK.out _ _ trivial (fun _ => ?_)
      clear hK K hb0
      try (simp only [Act.put, List.setIfInBounds_toArray, List.set_cons_zero, List.set_cons_succ])
      refine tree_call trivial (by rfl) (fun K hK => ?_)
      go_simp
      try rw [fold_cel]
      refine hK.out _ _ trivial (fun _ => ?_)
      clear hK K
      change wpT _ _ _ _ _ _ _ (y0.alloc (.cells (celCells (insC 2 i pc off)).toArray 36))
      try (simp only [Act.put, List.setIfInBounds_toArray, List.set_cons_zero, List.set_cons_succ])
      refine tree_call trivial (by rfl) (fun K hK => ?_)
      refine wp_append_new _ (.tmp 39) (.tmp 42) 26 rfl (b + 1) 36 i0 _ 9 72 Try.underlying26 HI.out HZ0.out HZ1.out HZ2.out rfl (by omega) va (la).length (flat celCells (la)) rfl (HE0.out.alloc _).oa _ (.slice (some ⟨y0.heap.size, 0, none⟩) 1 1) 1 (celCells (insC 2 i pc off)) rfl (row_new y0 (celCells (insC 2 i pc off)) 9 rfl (by omega) _) (celCells_one _) (by unfold maxLen; have := HLA.out; omega) (by have := HLA.out; omega) (by have := HE0.out.lt; simp; omega) ?_
      intro v1 y1 hO hg hn
      obtain ⟨hE1, q1, q2, q3, A1, k1, rfl⟩ := HE0.out.appA (c := insC 2 i pc off) hO hg hn
      have HE1 := Lib.hid hE1
      clear hO hg hn hE1
      refine hK.out _ _ trivial (fun _ => ?_)
      clear hK K
      try (simp only [Act.put, List.setIfInBounds_toArray, List.set_cons_zero, List.set_cons_succ])
      iterate 2 (refine tree_take (v := ?_) trivial (by rfl) ?_ ?_; rotate_left; (intro x hx; (try dsimp only at hx); go_simp; try (with_reducible rfl)); (simp only [Act.put, List.setIfInBounds_toArray, List.set_cons_zero, List.set_cons_succ]))
      refine tree_call trivial (by rfl) (fun K hK => ?_)
      go_simp
      refine hK.out _ _ trivial (fun _ => ?_)
      clear hK K
      exact tree_done ⟨(y0.heap.size, .slice A1 ((la).length + 1) k1), rfl, HE1.out⟩
    · go_simp
      refine (withIns_any 2 _ HEwD.out.drew).mono ?_; rintro e y0 ⟨rfl, hb0⟩
      go_wp2_with fail
      have HE0 := Lib.hid ((HEwD.out.drew).below hb0)
      have cL0 := HE0.out.cellA
      refine hK.out _ _ trivial (fun _ => ?_)
      clear hK K hb0
      try (simp only [Act.put, List.setIfInBounds_toArray, List.set_cons_zero, List.set_cons_succ])
      refine tree_two trivial (by rfl) (by rfl) (fun K hK => ?_) (fun K hK => ?_)
      · go_simp
        refine hK.out _ _ trivial (fun _ => ?_)
        clear hK K
        try (simp only [Act.put, List.setIfInBounds_toArray, List.set_cons_zero, List.set_cons_succ])
        refine tree_call trivial (by rfl) (fun K hK => ?_)
        go_simp
        try rw [fold_cel]
        refine hK.out _ _ trivial (fun _ => ?_)
        clear hK K
        change wpT _ _ _ _ _ _ _ (y0.alloc (.cells (celCells (insC 2 i pc off)).toArray 36))
        try (simp only [Act.put, List.setIfInBounds_toArray, List.set_cons_zero, List.set_cons_succ])
        refine tree_call trivial (by rfl) (fun K hK => ?_)
        refine wp_append_new _ (.tmp 39) (.tmp 42) 26 rfl (b + 1) 36 i0 _ 9 72 Try.underlying26 HI.out HZ0.out HZ1.out HZ2.out rfl (by omega) va (la).length (flat celCells (la)) rfl (HE0.out.alloc _).oa _ (.slice (some ⟨y0.heap.size, 0, none⟩) 1 1) 1 (celCells (insC 2 i pc off)) rfl (row_new y0 (celCells (insC 2 i pc off)) 9 rfl (by omega) _) (celCells_one _) (by unfold maxLen; have := HLA.out; omega) (by have := HLA.out; omega) (by have := HE0.out.lt; simp; omega) ?_
        intro v1 y1 hO hg hn
        obtain ⟨hE1, q1, q2, q3, A1, k1, rfl⟩ := HE0.out.appA (c := insC 2 i pc off) hO hg hn
        have HE1 := Lib.hid hE1
        clear hO hg hn hE1
        refine hK.out _ _ trivial (fun _ => ?_)
        clear hK K
        try (simp only [Act.put, List.setIfInBounds_toArray, List.set_cons_zero, List.set_cons_succ])
        iterate 2 (refine tree_take (v := ?_) trivial (by rfl) ?_ ?_; rotate_left; (intro x hx; (try dsimp only at hx); go_simp; try (with_reducible rfl)); (simp only [Act.put, List.setIfInBounds_toArray, List.set_cons_zero, List.set_cons_succ]))
        refine tree_call trivial (by rfl) (fun K hK => ?_)
        go_simp
        refine hK.out _ _ trivial (fun _ => ?_)
        clear hK K
        exact tree_done ⟨(y0.heap.size, .slice A1 ((la).length + 1) k1), rfl, HE1.out⟩
      · go_simp
        try rw [fold_cel]
        have cLa := (HE0.out.alloc (.cells (celCells (insC 2 i pc off)).toArray 36)).cellA
        refine hK.out _ _ trivial (fun _ => ?_)
        clear hK K
        change wpT _ _ _ _ _ _ _ (y0.alloc (.cells (celCells (insC 2 i pc off)).toArray 36))
        try (simp only [Act.put, List.setIfInBounds_toArray, List.set_cons_zero, List.set_cons_succ])
        refine tree_call trivial (by rfl) (fun K hK => ?_)
        go_simp
        refine hK.out _ _ trivial (fun _ => ?_)
        clear hK K
        try (simp only [Act.put, List.setIfInBounds_toArray, List.set_cons_zero, List.set_cons_succ])
        refine tree_call trivial (by rfl) (fun K hK => ?_)
        refine wp_append_new _ (.tmp 39) (.tmp 42) 26 rfl (b + 1) 36 i0 _ 9 72 Try.underlying26 HI.out HZ0.out HZ1.out HZ2.out rfl (by omega) va (la).length (flat celCells (la)) rfl (HE0.out.alloc _).oa _ (.slice (some ⟨y0.heap.size, 0, none⟩) 1 1) 1 (celCells (insC 2 i pc off)) rfl (row_new y0 (celCells (insC 2 i pc off)) 9 rfl (by omega) _) (celCells_one _) (by unfold maxLen; have := HLA.out; omega) (by have := HLA.out; omega) (by have := HE0.out.lt; simp; omega) ?_
        intro v1 y1 hO hg hn
        obtain ⟨hE1, q1, q2, q3, A1, k1, rfl⟩ := HE0.out.appA (c := insC 2 i pc off) hO hg hn
        have HE1 := Lib.hid hE1
        clear hO hg hn hE1
        refine hK.out _ _ trivial (fun _ => ?_)
        clear hK K
        try (simp only [Act.put, List.setIfInBounds_toArray, List.set_cons_zero, List.set_cons_succ])
        iterate 2 (refine tree_take (v := ?_) trivial (by rfl) ?_ ?_; rotate_left; (intro x hx; (try dsimp only at hx); go_simp; try (with_reducible rfl)); (simp only [Act.put, List.setIfInBounds_toArray, List.set_cons_zero, List.set_cons_succ]))
        refine tree_call trivial (by rfl) (fun K hK => ?_)
        go_simp
        refine hK.out _ _ trivial (fun _ => ?_)
        clear hK K
        exact tree_done ⟨(y0.heap.size, .slice A1 ((la).length + 1) k1), rfl, HE1.out⟩
  rintro ⟨B1, v1⟩ w1 hE1
  dsimp only at hE1
  have HEw1 := Lib.hid hE1
  clear hE1
  simp only [Act.put, List.setIfInBounds_toArray, List.set_cons_zero, List.set_cons_succ]
  go_wp2_with fail
  first | exact bodyPost_ret (v := .tuple #[]) (by simp [results, Try.results32, go_sem]) rfl ⟨rfl, _, _, HEw1.out⟩ | exact bodyPost_end (v := .tuple #[]) (by simp [results, Try.results32, go_sem]) rfl ⟨rfl, _, _, HEw1.out⟩

end Go.Proofs.Ytcaibahniheohaa.Words

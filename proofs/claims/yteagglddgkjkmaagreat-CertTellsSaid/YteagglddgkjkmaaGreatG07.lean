/- Several texts in one: EmtLoad, EmtFind, EmtSend, EmtStore. -/
import Derived.Test.YteagglddgkjkmaaGreatG06
import Derived.LoopN

/- Contract of package emit's load: the cells of a load. -/
namespace Go.Proofs.YteagglddgkjkmaaGreat.Words
set_option maxRecDepth 100000
open Go.RowKit
set_option linter.unusedVariables false
set_option linter.unusedSimpArgs false

set_option maxHeartbeats 4000000 in
theorem load_e {b : Nat} {i : Ins} {z : List Int} {pc off : Int} {S : Nat → Prop} {w0 : World} {va ve : Value} {la le : List Cel} (w : World) (h : Em b i z pc off S w0 w va ve la le) (hr : rightB i = true) (hla : la.length ≤ 100) (hle : le.length ≤ 100) (hd : atO z i.d = 2) :
    Calls Tryz.prog 96 #[.pointer (some ⟨b, 0, none⟩)] w fun e w' => e = .returned (.tuple #[]) ∧ ∃ va' ve', Em b i z pc off S w0 w' va' ve' (la ++ [insC 3 i pc off]) (le ++ [insC 7 i pc off]) := by
  have HEw := Lib.hid h
  have HLA := Lib.hid hla
  have HLE := Lib.hid hle
  have hrr := right_range hr
  obtain ⟨nd, hdn, hd15⟩ := nat_of hrr.2.1
  have c1 := h.cellI (k := 1) rfl
  have d1 := h.cellR hd15
  have hq : (atO z nd == 2) = true := by rw [← hdn]; simpa using hd
  rw [hdn] at c1
  have e1 : (nd : Int) ≤ 15 := by omega
  clear h hr hla hle hd hdn hrr
  obtain ⟨i0, hi, hz0, hz1, hz2⟩ := info_parts info_cel
  have HI := Lib.hid hi
  have HZ0 := Lib.hid hz0
  have HZ1 := Lib.hid hz1
  have HZ2 := Lib.hid hz2
  clear hi hz0 hz1 hz2
  go_enter Tryz.func96, Tryz.ntmps96
  go_wp2_with fail
  go_quiet (fail)
  go_wp2_with fail
  obtain ⟨wD, hwD⟩ : ∃ wD, wD = w.drewN nq := ⟨_, rfl⟩
  have HEwD : Hid (Em b i z pc off S w0 wD va ve la le) := by rw [hwD]; exact HEw.out.drewN _
  rw [← hwD]
  clear c1 d1 hwD
  refine region_tree_ex (fun (act : Act) (B : Nat × Value) => (((((((((((act.put (some 13) (.pointer (some ⟨b, 0, none⟩))).put (some 14) (.pointer (some ⟨b, 0, none⟩))).put (some 15) (.pointer (some ⟨b, 0, none⟩))).put (some 16) (.pointer (some ⟨b, 23, none⟩))).put (some 17) va).put (some 18) (.pointer (some ⟨b, 0, none⟩))).put (some 19) (.agg (celCells (insC 3 i pc off)).toArray)).put (some 20) (.slice (some ⟨B.1, 0, none⟩) 1 1)).put (some 21) B.2).put (some 22) (.pointer (some ⟨b, 0, none⟩))).put (some 23) (.pointer (some ⟨b, 23, none⟩))))
    (fun B y => Em b i z pc off S w0 y B.2 ve (la ++ [insC 3 i pc off]) (le))
    (LinT.of [(0, true), (1, true), (2, true), (3, true), (5, true)] (.two 4 6 (LinT.of [(6, false), (7, false), (8, false), (9, true), (10, true), (11, false)] .nil) (LinT.of [] (.two 4 7 (LinT.of [(7, false), (8, false), (9, true), (10, true), (11, false)] .nil) (LinT.of [(4, false), (8, false), (9, true), (10, true), (11, false)] .nil)))))
    (by kernel_rfl) (by kernel_rfl) rfl (by kernel_rfl) (fun _ => True) ?_ ?_
  · simp only [LinT.of, LinT.look, List.getElem?_toArray, List.getElem?_cons_succ, List.getElem?_cons_zero]
    have cL : wD.drew.cell? ⟨b, 23, none⟩ = some va := HEwD.out.cellA
    have cL2 : wD.cell? ⟨b, 23, none⟩ = some va := HEwD.out.cellA
    iterate 5 (refine tree_take (v := ?_) trivial (by rfl) ?_ ?_; rotate_left; (intro x hx; (try dsimp only at hx); go_simp; try (with_reducible rfl)); (simp only [Act.put, List.setIfInBounds_toArray, List.set_cons_zero, List.set_cons_succ]))
    refine tree_two trivial (by rfl) (by rfl) (fun K hK => ?_) (fun K hK => ?_)
    · go_simp
      refine hK.out _ _ trivial (fun _ => ?_)
      clear hK K
      try (simp only [Act.put, List.setIfInBounds_toArray, List.set_cons_zero, List.set_cons_succ])
      refine tree_call trivial (by rfl) (fun K hK => ?_)
      go_simp
      refine (withIns_any 3 _ HEwD.out.drew).mono ?_; rintro e y0 ⟨rfl, hb0⟩
      go_wp2_with fail
      have HE0 := Lib.hid ((HEwD.out.drew).below hb0)
      have cL0 := HE0.out.cellA
      refine hK.out _ _ trivial (fun _ => ?_)
      clear hK K hb0
      try (simp only [Act.put, List.setIfInBounds_toArray, List.set_cons_zero, List.set_cons_succ])
      refine tree_call trivial (by rfl) (fun K hK => ?_)
      go_simp
      try rw [fold_cel]
      refine hK.out _ _ trivial (fun _ => ?_)
      clear hK K
      change wpT _ _ _ _ _ _ _ (y0.alloc (.cells (celCells (insC 3 i pc off)).toArray 49))
      try (simp only [Act.put, List.setIfInBounds_toArray, List.set_cons_zero, List.set_cons_succ])
      refine tree_call trivial (by rfl) (fun K hK => ?_)
      refine wp_append_new _ (.tmp 17) (.tmp 20) 22 rfl (b + 1) 49 i0 _ 9 72 Tryz.underlying22 HI.out HZ0.out HZ1.out HZ2.out rfl (by omega) va (la).length (flat celCells (la)) rfl (HE0.out.alloc _).oa _ (.slice (some ⟨y0.heap.size, 0, none⟩) 1 1) 1 (celCells (insC 3 i pc off)) rfl (row_new y0 (celCells (insC 3 i pc off)) 9 rfl (by omega) _) (celCells_one _) (by unfold maxLen; have := HLA.out; omega) (by have := HLA.out; omega) (by have := HE0.out.lt; simp; omega) ?_
      intro v1 y1 hO hg hn
      obtain ⟨hE1, q1, q2, q3, A1, k1, rfl⟩ := HE0.out.appA (c := insC 3 i pc off) hO hg hn
      have HE1 := Lib.hid hE1
      clear hO hg hn hE1
      refine hK.out _ _ trivial (fun _ => ?_)
      clear hK K
      try (simp only [Act.put, List.setIfInBounds_toArray, List.set_cons_zero, List.set_cons_succ])
      iterate 2 (refine tree_take (v := ?_) trivial (by rfl) ?_ ?_; rotate_left; (intro x hx; (try dsimp only at hx); go_simp; try (with_reducible rfl)); (simp only [Act.put, List.setIfInBounds_toArray, List.set_cons_zero, List.set_cons_succ]))
      refine tree_call trivial (by rfl) (fun K hK => ?_)
      go_simp
      refine hK.out _ _ trivial (fun _ => ?_)
      clear hK K
      exact tree_done ⟨(y0.heap.size, .slice A1 ((la).length + 1) k1), rfl, HE1.out⟩
    · go_simp
      refine (withIns_any 3 _ HEwD.out.drew).mono ?_; rintro e y0 ⟨rfl, hb0⟩
      go_wp2_with fail
      have HE0 := Lib.hid ((HEwD.out.drew).below hb0)
      have cL0 := HE0.out.cellA
      refine hK.out _ _ trivial (fun _ => ?_)
      clear hK K hb0
      try (simp only [Act.put, List.setIfInBounds_toArray, List.set_cons_zero, List.set_cons_succ])
      refine tree_two trivial (by rfl) (by rfl) (fun K hK => ?_) (fun K hK => ?_)
      · go_simp
        refine hK.out _ _ trivial (fun _ => ?_)
        clear hK K
        try (simp only [Act.put, List.setIfInBounds_toArray, List.set_cons_zero, List.set_cons_succ])
        refine tree_call trivial (by rfl) (fun K hK => ?_)
        go_simp
        try rw [fold_cel]
        refine hK.out _ _ trivial (fun _ => ?_)
        clear hK K
        change wpT _ _ _ _ _ _ _ (y0.alloc (.cells (celCells (insC 3 i pc off)).toArray 49))
        try (simp only [Act.put, List.setIfInBounds_toArray, List.set_cons_zero, List.set_cons_succ])
        refine tree_call trivial (by rfl) (fun K hK => ?_)
        refine wp_append_new _ (.tmp 17) (.tmp 20) 22 rfl (b + 1) 49 i0 _ 9 72 Tryz.underlying22 HI.out HZ0.out HZ1.out HZ2.out rfl (by omega) va (la).length (flat celCells (la)) rfl (HE0.out.alloc _).oa _ (.slice (some ⟨y0.heap.size, 0, none⟩) 1 1) 1 (celCells (insC 3 i pc off)) rfl (row_new y0 (celCells (insC 3 i pc off)) 9 rfl (by omega) _) (celCells_one _) (by unfold maxLen; have := HLA.out; omega) (by have := HLA.out; omega) (by have := HE0.out.lt; simp; omega) ?_
        intro v1 y1 hO hg hn
        obtain ⟨hE1, q1, q2, q3, A1, k1, rfl⟩ := HE0.out.appA (c := insC 3 i pc off) hO hg hn
        have HE1 := Lib.hid hE1
        clear hO hg hn hE1
        refine hK.out _ _ trivial (fun _ => ?_)
        clear hK K
        try (simp only [Act.put, List.setIfInBounds_toArray, List.set_cons_zero, List.set_cons_succ])
        iterate 2 (refine tree_take (v := ?_) trivial (by rfl) ?_ ?_; rotate_left; (intro x hx; (try dsimp only at hx); go_simp; try (with_reducible rfl)); (simp only [Act.put, List.setIfInBounds_toArray, List.set_cons_zero, List.set_cons_succ]))
        refine tree_call trivial (by rfl) (fun K hK => ?_)
        go_simp
        refine hK.out _ _ trivial (fun _ => ?_)
        clear hK K
        exact tree_done ⟨(y0.heap.size, .slice A1 ((la).length + 1) k1), rfl, HE1.out⟩
      · go_simp
        try rw [fold_cel]
        have cLa := (HE0.out.alloc (.cells (celCells (insC 3 i pc off)).toArray 49)).cellA
        refine hK.out _ _ trivial (fun _ => ?_)
        clear hK K
        change wpT _ _ _ _ _ _ _ (y0.alloc (.cells (celCells (insC 3 i pc off)).toArray 49))
        try (simp only [Act.put, List.setIfInBounds_toArray, List.set_cons_zero, List.set_cons_succ])
        refine tree_call trivial (by rfl) (fun K hK => ?_)
        go_simp
        refine hK.out _ _ trivial (fun _ => ?_)
        clear hK K
        try (simp only [Act.put, List.setIfInBounds_toArray, List.set_cons_zero, List.set_cons_succ])
        refine tree_call trivial (by rfl) (fun K hK => ?_)
        refine wp_append_new _ (.tmp 17) (.tmp 20) 22 rfl (b + 1) 49 i0 _ 9 72 Tryz.underlying22 HI.out HZ0.out HZ1.out HZ2.out rfl (by omega) va (la).length (flat celCells (la)) rfl (HE0.out.alloc _).oa _ (.slice (some ⟨y0.heap.size, 0, none⟩) 1 1) 1 (celCells (insC 3 i pc off)) rfl (row_new y0 (celCells (insC 3 i pc off)) 9 rfl (by omega) _) (celCells_one _) (by unfold maxLen; have := HLA.out; omega) (by have := HLA.out; omega) (by have := HE0.out.lt; simp; omega) ?_
        intro v1 y1 hO hg hn
        obtain ⟨hE1, q1, q2, q3, A1, k1, rfl⟩ := HE0.out.appA (c := insC 3 i pc off) hO hg hn
        have HE1 := Lib.hid hE1
        clear hO hg hn hE1
        refine hK.out _ _ trivial (fun _ => ?_)
        clear hK K
        try (simp only [Act.put, List.setIfInBounds_toArray, List.set_cons_zero, List.set_cons_succ])
        iterate 2 (refine tree_take (v := ?_) trivial (by rfl) ?_ ?_; rotate_left; (intro x hx; (try dsimp only at hx); go_simp; try (with_reducible rfl)); (simp only [Act.put, List.setIfInBounds_toArray, List.set_cons_zero, List.set_cons_succ]))
        refine tree_call trivial (by rfl) (fun K hK => ?_)
        go_simp
        refine hK.out _ _ trivial (fun _ => ?_)
        clear hK K
        exact tree_done ⟨(y0.heap.size, .slice A1 ((la).length + 1) k1), rfl, HE1.out⟩
  rintro ⟨B1, v1⟩ w1 hE1
  dsimp only at hE1
  have HEw1 := Lib.hid hE1
  clear hE1
  simp only [Act.put, List.setIfInBounds_toArray, List.set_cons_zero, List.set_cons_succ]
  go_wp2_with fail
  refine region_tree_ex (fun (act : Act) (B : Nat × Value) => (((((((((((act.put (some 24) (.pointer (some ⟨b, 0, none⟩))).put (some 25) (.pointer (some ⟨b, 0, none⟩))).put (some 26) (.pointer (some ⟨b, 0, none⟩))).put (some 27) (.pointer (some ⟨b, 24, none⟩))).put (some 28) ve).put (some 29) (.pointer (some ⟨b, 0, none⟩))).put (some 30) (.agg (celCells (insC 7 i pc off)).toArray)).put (some 31) (.slice (some ⟨B.1, 0, none⟩) 1 1)).put (some 32) B.2).put (some 33) (.pointer (some ⟨b, 0, none⟩))).put (some 34) (.pointer (some ⟨b, 24, none⟩))))
    (fun B y => Em b i z pc off S w0 y v1 B.2 (la ++ [insC 3 i pc off]) (le ++ [insC 7 i pc off]))
    (LinT.of [(0, true), (1, true), (2, true), (3, true), (5, true)] (.two 4 6 (LinT.of [(6, false), (7, false), (8, false), (9, true), (10, true), (11, false)] .nil) (LinT.of [] (.two 4 7 (LinT.of [(7, false), (8, false), (9, true), (10, true), (11, false)] .nil) (LinT.of [(4, false), (8, false), (9, true), (10, true), (11, false)] .nil)))))
    (by kernel_rfl) (by kernel_rfl) rfl (by kernel_rfl) (fun _ => True) ?_ ?_
  · simp only [LinT.of, LinT.look, List.getElem?_toArray, List.getElem?_cons_succ, List.getElem?_cons_zero]
    have cL : w1.drew.cell? ⟨b, 24, none⟩ = some ve := HEw1.out.cellE
    have cL2 : w1.cell? ⟨b, 24, none⟩ = some ve := HEw1.out.cellE
    iterate 5 (refine tree_take (v := ?_) trivial (by rfl) ?_ ?_; rotate_left; (intro x hx; (try dsimp only at hx); go_simp; try (with_reducible rfl)); (simp only [Act.put, List.setIfInBounds_toArray, List.set_cons_zero, List.set_cons_succ]))
    refine tree_two trivial (by rfl) (by rfl) (fun K hK => ?_) (fun K hK => ?_)
    · go_simp
      refine hK.out _ _ trivial (fun _ => ?_)
      clear hK K
      try (simp only [Act.put, List.setIfInBounds_toArray, List.set_cons_zero, List.set_cons_succ])
      refine tree_call trivial (by rfl) (fun K hK => ?_)
      go_simp
      refine (withIns_any 7 _ HEw1.out.drew).mono ?_; rintro e y0 ⟨rfl, hb0⟩
      go_wp2_with fail
      have HE0 := Lib.hid ((HEw1.out.drew).below hb0)
      have cL0 := HE0.out.cellE
      refine hK.out _ _ trivial (fun _ => ?_)
      clear hK K hb0
      try (simp only [Act.put, List.setIfInBounds_toArray, List.set_cons_zero, List.set_cons_succ])
      refine tree_call trivial (by rfl) (fun K hK => ?_)
      go_simp
      try rw [fold_cel]
      refine hK.out _ _ trivial (fun _ => ?_)
      clear hK K
      change wpT _ _ _ _ _ _ _ (y0.alloc (.cells (celCells (insC 7 i pc off)).toArray 49))
      try (simp only [Act.put, List.setIfInBounds_toArray, List.set_cons_zero, List.set_cons_succ])
      refine tree_call trivial (by rfl) (fun K hK => ?_)
      refine wp_append_new _ (.tmp 28) (.tmp 31) 22 rfl (b + 1) 49 i0 _ 9 72 Tryz.underlying22 HI.out HZ0.out HZ1.out HZ2.out rfl (by omega) ve (le).length (flat celCells (le)) rfl (HE0.out.alloc _).oe _ (.slice (some ⟨y0.heap.size, 0, none⟩) 1 1) 1 (celCells (insC 7 i pc off)) rfl (row_new y0 (celCells (insC 7 i pc off)) 9 rfl (by omega) _) (celCells_one _) (by unfold maxLen; have := HLE.out; omega) (by have := HLE.out; omega) (by have := HE0.out.lt; simp; omega) ?_
      intro v1 y1 hO hg hn
      obtain ⟨hE1, q1, q2, q3, A1, k1, rfl⟩ := HE0.out.appE (c := insC 7 i pc off) hO hg hn
      have HE1 := Lib.hid hE1
      clear hO hg hn hE1
      refine hK.out _ _ trivial (fun _ => ?_)
      clear hK K
      try (simp only [Act.put, List.setIfInBounds_toArray, List.set_cons_zero, List.set_cons_succ])
      iterate 2 (refine tree_take (v := ?_) trivial (by rfl) ?_ ?_; rotate_left; (intro x hx; (try dsimp only at hx); go_simp; try (with_reducible rfl)); (simp only [Act.put, List.setIfInBounds_toArray, List.set_cons_zero, List.set_cons_succ]))
      refine tree_call trivial (by rfl) (fun K hK => ?_)
      go_simp
      refine hK.out _ _ trivial (fun _ => ?_)
      clear hK K
      exact tree_done ⟨(y0.heap.size, .slice A1 ((le).length + 1) k1), rfl, HE1.out⟩
    · go_simp
      refine (withIns_any 7 _ HEw1.out.drew).mono ?_; rintro e y0 ⟨rfl, hb0⟩
      go_wp2_with fail
      have HE0 := Lib.hid ((HEw1.out.drew).below hb0)
      have cL0 := HE0.out.cellE
      refine hK.out _ _ trivial (fun _ => ?_)
      clear hK K hb0
      try (simp only [Act.put, List.setIfInBounds_toArray, List.set_cons_zero, List.set_cons_succ])
      refine tree_two trivial (by rfl) (by rfl) (fun K hK => ?_) (fun K hK => ?_)
      · go_simp
        refine hK.out _ _ trivial (fun _ => ?_)
        clear hK K
        try (simp only [Act.put, List.setIfInBounds_toArray, List.set_cons_zero, List.set_cons_succ])
        refine tree_call trivial (by rfl) (fun K hK => ?_)
        go_simp
        try rw [fold_cel]
        refine hK.out _ _ trivial (fun _ => ?_)
        clear hK K
        change wpT _ _ _ _ _ _ _ (y0.alloc (.cells (celCells (insC 7 i pc off)).toArray 49))
        try (simp only [Act.put, List.setIfInBounds_toArray, List.set_cons_zero, List.set_cons_succ])
        refine tree_call trivial (by rfl) (fun K hK => ?_)
        refine wp_append_new _ (.tmp 28) (.tmp 31) 22 rfl (b + 1) 49 i0 _ 9 72 Tryz.underlying22 HI.out HZ0.out HZ1.out HZ2.out rfl (by omega) ve (le).length (flat celCells (le)) rfl (HE0.out.alloc _).oe _ (.slice (some ⟨y0.heap.size, 0, none⟩) 1 1) 1 (celCells (insC 7 i pc off)) rfl (row_new y0 (celCells (insC 7 i pc off)) 9 rfl (by omega) _) (celCells_one _) (by unfold maxLen; have := HLE.out; omega) (by have := HLE.out; omega) (by have := HE0.out.lt; simp; omega) ?_
        intro v1 y1 hO hg hn
        obtain ⟨hE1, q1, q2, q3, A1, k1, rfl⟩ := HE0.out.appE (c := insC 7 i pc off) hO hg hn
        have HE1 := Lib.hid hE1
        clear hO hg hn hE1
        refine hK.out _ _ trivial (fun _ => ?_)
        clear hK K
        try (simp only [Act.put, List.setIfInBounds_toArray, List.set_cons_zero, List.set_cons_succ])
        iterate 2 (refine tree_take (v := ?_) trivial (by rfl) ?_ ?_; rotate_left; (intro x hx; (try dsimp only at hx); go_simp; try (with_reducible rfl)); (simp only [Act.put, List.setIfInBounds_toArray, List.set_cons_zero, List.set_cons_succ]))
        refine tree_call trivial (by rfl) (fun K hK => ?_)
        go_simp
        refine hK.out _ _ trivial (fun _ => ?_)
        clear hK K
        exact tree_done ⟨(y0.heap.size, .slice A1 ((le).length + 1) k1), rfl, HE1.out⟩
      · go_simp
        try rw [fold_cel]
        have cLa := (HE0.out.alloc (.cells (celCells (insC 7 i pc off)).toArray 49)).cellE
        refine hK.out _ _ trivial (fun _ => ?_)
        clear hK K
        change wpT _ _ _ _ _ _ _ (y0.alloc (.cells (celCells (insC 7 i pc off)).toArray 49))
        try (simp only [Act.put, List.setIfInBounds_toArray, List.set_cons_zero, List.set_cons_succ])
        refine tree_call trivial (by rfl) (fun K hK => ?_)
        go_simp
        refine hK.out _ _ trivial (fun _ => ?_)
        clear hK K
        try (simp only [Act.put, List.setIfInBounds_toArray, List.set_cons_zero, List.set_cons_succ])
        refine tree_call trivial (by rfl) (fun K hK => ?_)
        refine wp_append_new _ (.tmp 28) (.tmp 31) 22 rfl (b + 1) 49 i0 _ 9 72 Tryz.underlying22 HI.out HZ0.out HZ1.out HZ2.out rfl (by omega) ve (le).length (flat celCells (le)) rfl (HE0.out.alloc _).oe _ (.slice (some ⟨y0.heap.size, 0, none⟩) 1 1) 1 (celCells (insC 7 i pc off)) rfl (row_new y0 (celCells (insC 7 i pc off)) 9 rfl (by omega) _) (celCells_one _) (by unfold maxLen; have := HLE.out; omega) (by have := HLE.out; omega) (by have := HE0.out.lt; simp; omega) ?_
        intro v1 y1 hO hg hn
        obtain ⟨hE1, q1, q2, q3, A1, k1, rfl⟩ := HE0.out.appE (c := insC 7 i pc off) hO hg hn
        have HE1 := Lib.hid hE1
        clear hO hg hn hE1
        refine hK.out _ _ trivial (fun _ => ?_)
        clear hK K
        try (simp only [Act.put, List.setIfInBounds_toArray, List.set_cons_zero, List.set_cons_succ])
        iterate 2 (refine tree_take (v := ?_) trivial (by rfl) ?_ ?_; rotate_left; (intro x hx; (try dsimp only at hx); go_simp; try (with_reducible rfl)); (simp only [Act.put, List.setIfInBounds_toArray, List.set_cons_zero, List.set_cons_succ]))
        refine tree_call trivial (by rfl) (fun K hK => ?_)
        go_simp
        refine hK.out _ _ trivial (fun _ => ?_)
        clear hK K
        exact tree_done ⟨(y0.heap.size, .slice A1 ((le).length + 1) k1), rfl, HE1.out⟩
  rintro ⟨B2, v2⟩ w2 hE2
  dsimp only at hE2
  have HEw2 := Lib.hid hE2
  clear hE2
  simp only [Act.put, List.setIfInBounds_toArray, List.set_cons_zero, List.set_cons_succ]
  go_wp2_with fail
  first | exact bodyPost_ret (v := .tuple #[]) (by simp [results, Tryz.results96, go_sem]) rfl ⟨rfl, _, _, HEw2.out⟩ | exact bodyPost_end (v := .tuple #[]) (by simp [results, Tryz.results96, go_sem]) rfl ⟨rfl, _, _, HEw2.out⟩

set_option maxHeartbeats 4000000 in
theorem load_a {b : Nat} {i : Ins} {z : List Int} {pc off : Int} {S : Nat → Prop} {w0 : World} {va ve : Value} {la le : List Cel} (w : World) (h : Em b i z pc off S w0 w va ve la le) (hr : rightB i = true) (hla : la.length ≤ 100) (hle : le.length ≤ 100) (hd : ¬ atO z i.d = 2) :
    Calls Tryz.prog 96 #[.pointer (some ⟨b, 0, none⟩)] w fun e w' => e = .returned (.tuple #[]) ∧ ∃ va' ve', Em b i z pc off S w0 w' va' ve' (la ++ [insC 2 i pc off]) (le) := by
  have HEw := Lib.hid h
  have HLA := Lib.hid hla
  have HLE := Lib.hid hle
  have hrr := right_range hr
  obtain ⟨nd, hdn, hd15⟩ := nat_of hrr.2.1
  have c1 := h.cellI (k := 1) rfl
  have d1 := h.cellR hd15
  have hq : (atO z nd == 2) = false := by rw [← hdn]; simpa using hd
  rw [hdn] at c1
  have e1 : (nd : Int) ≤ 15 := by omega
  clear h hr hla hle hd hdn hrr
  obtain ⟨i0, hi, hz0, hz1, hz2⟩ := info_parts info_cel
  have HI := Lib.hid hi
  have HZ0 := Lib.hid hz0
  have HZ1 := Lib.hid hz1
  have HZ2 := Lib.hid hz2
  clear hi hz0 hz1 hz2
  go_enter Tryz.func96, Tryz.ntmps96
  go_wp2_with fail
  go_quiet (fail)
  go_wp2_with fail
  obtain ⟨wD, hwD⟩ : ∃ wD, wD = w.drewN nq := ⟨_, rfl⟩
  have HEwD : Hid (Em b i z pc off S w0 wD va ve la le) := by rw [hwD]; exact HEw.out.drewN _
  rw [← hwD]
  clear c1 d1 hwD
  refine region_tree_ex (fun (act : Act) (B : Nat × Value) => (((((((((((act.put (some 35) (.pointer (some ⟨b, 0, none⟩))).put (some 36) (.pointer (some ⟨b, 0, none⟩))).put (some 37) (.pointer (some ⟨b, 0, none⟩))).put (some 38) (.pointer (some ⟨b, 23, none⟩))).put (some 39) va).put (some 40) (.pointer (some ⟨b, 0, none⟩))).put (some 41) (.agg (celCells (insC 2 i pc off)).toArray)).put (some 42) (.slice (some ⟨B.1, 0, none⟩) 1 1)).put (some 43) B.2).put (some 44) (.pointer (some ⟨b, 0, none⟩))).put (some 45) (.pointer (some ⟨b, 23, none⟩))))
    (fun B y => Em b i z pc off S w0 y B.2 ve (la ++ [insC 2 i pc off]) (le))
    (LinT.of [(0, true), (1, true), (2, true), (3, true), (5, true)] (.two 4 6 (LinT.of [(6, false), (7, false), (8, false), (9, true), (10, true), (11, false)] .nil) (LinT.of [] (.two 4 7 (LinT.of [(7, false), (8, false), (9, true), (10, true), (11, false)] .nil) (LinT.of [(4, false), (8, false), (9, true), (10, true), (11, false)] .nil)))))
    (by kernel_rfl) (by kernel_rfl) rfl (by kernel_rfl) (fun _ => True) ?_ ?_
  · simp only [LinT.of, LinT.look, List.getElem?_toArray, List.getElem?_cons_succ, List.getElem?_cons_zero]
    have cL : wD.drew.cell? ⟨b, 23, none⟩ = some va := HEwD.out.cellA
    have cL2 : wD.cell? ⟨b, 23, none⟩ = some va := HEwD.out.cellA
    iterate 5 (refine tree_take (v := ?_) trivial (by rfl) ?_ ?_; rotate_left; (intro x hx; (try dsimp only at hx); go_simp; try (with_reducible rfl)); (simp only [Act.put, List.setIfInBounds_toArray, List.set_cons_zero, List.set_cons_succ]))
    refine tree_two trivial (by rfl) (by rfl) (fun K hK => ?_) (fun K hK => ?_)
    · go_simp
      refine hK.out _ _ trivial (fun _ => ?_)
      clear hK K
      try (simp only [Act.put, List.setIfInBounds_toArray, List.set_cons_zero, List.set_cons_succ])
      refine tree_call trivial (by rfl) (fun K hK => ?_)
      go_simp
      refine (withIns_any 2 _ HEwD.out.drew).mono ?_; rintro e y0 ⟨rfl, hb0⟩
      go_wp2_with fail
      have HE0 := Lib.hid ((HEwD.out.drew).below hb0)
      have cL0 := HE0.out.cellA
      refine hK.out _ _ trivial (fun _ => ?_)
      clear hK K hb0
      try (simp only [Act.put, List.setIfInBounds_toArray, List.set_cons_zero, List.set_cons_succ])
      refine tree_call trivial (by rfl) (fun K hK => ?_)
      go_simp
      try rw [fold_cel]
      refine hK.out _ _ trivial (fun _ => ?_)
      clear hK K
      change wpT _ _ _ _ _ _ _ (y0.alloc (.cells (celCells (insC 2 i pc off)).toArray 49))
      try (simp only [Act.put, List.setIfInBounds_toArray, List.set_cons_zero, List.set_cons_succ])
      refine tree_call trivial (by rfl) (fun K hK => ?_)
      refine wp_append_new _ (.tmp 39) (.tmp 42) 22 rfl (b + 1) 49 i0 _ 9 72 Tryz.underlying22 HI.out HZ0.out HZ1.out HZ2.out rfl (by omega) va (la).length (flat celCells (la)) rfl (HE0.out.alloc _).oa _ (.slice (some ⟨y0.heap.size, 0, none⟩) 1 1) 1 (celCells (insC 2 i pc off)) rfl (row_new y0 (celCells (insC 2 i pc off)) 9 rfl (by omega) _) (celCells_one _) (by unfold maxLen; have := HLA.out; omega) (by have := HLA.out; omega) (by have := HE0.out.lt; simp; omega) ?_
      intro v1 y1 hO hg hn
      obtain ⟨hE1, q1, q2, q3, A1, k1, rfl⟩ := HE0.out.appA (c := insC 2 i pc off) hO hg hn
      have HE1 := Lib.hid hE1
      clear hO hg hn hE1
      refine hK.out _ _ trivial (fun _ => ?_)
      clear hK K
      try (simp only [Act.put, List.setIfInBounds_toArray, List.set_cons_zero, List.set_cons_succ])
      iterate 2 (refine tree_take (v := ?_) trivial (by rfl) ?_ ?_; rotate_left; (intro x hx; (try dsimp only at hx); go_simp; try (with_reducible rfl)); (simp only [Act.put, List.setIfInBounds_toArray, List.set_cons_zero, List.set_cons_succ]))
      refine tree_call trivial (by rfl) (fun K hK => ?_)
      go_simp
      refine hK.out _ _ trivial (fun _ => ?_)
      clear hK K
      exact tree_done ⟨(y0.heap.size, .slice A1 ((la).length + 1) k1), rfl, HE1.out⟩
    · go_simp
      refine (withIns_any 2 _ HEwD.out.drew).mono ?_; rintro e y0 ⟨rfl, hb0⟩
      go_wp2_with fail
      have HE0 := Lib.hid ((HEwD.out.drew).below hb0)
      have cL0 := HE0.out.cellA
      refine hK.out _ _ trivial (fun _ => ?_)
      clear hK K hb0
      try (simp only [Act.put, List.setIfInBounds_toArray, List.set_cons_zero, List.set_cons_succ])
      refine tree_two trivial (by rfl) (by rfl) (fun K hK => ?_) (fun K hK => ?_)
      · go_simp
        refine hK.out _ _ trivial (fun _ => ?_)
        clear hK K
        try (simp only [Act.put, List.setIfInBounds_toArray, List.set_cons_zero, List.set_cons_succ])
        refine tree_call trivial (by rfl) (fun K hK => ?_)
        go_simp
        try rw [fold_cel]
        refine hK.out _ _ trivial (fun _ => ?_)
        clear hK K
        change wpT _ _ _ _ _ _ _ (y0.alloc (.cells (celCells (insC 2 i pc off)).toArray 49))
        try (simp only [Act.put, List.setIfInBounds_toArray, List.set_cons_zero, List.set_cons_succ])
        refine tree_call trivial (by rfl) (fun K hK => ?_)
        refine wp_append_new _ (.tmp 39) (.tmp 42) 22 rfl (b + 1) 49 i0 _ 9 72 Tryz.underlying22 HI.out HZ0.out HZ1.out HZ2.out rfl (by omega) va (la).length (flat celCells (la)) rfl (HE0.out.alloc _).oa _ (.slice (some ⟨y0.heap.size, 0, none⟩) 1 1) 1 (celCells (insC 2 i pc off)) rfl (row_new y0 (celCells (insC 2 i pc off)) 9 rfl (by omega) _) (celCells_one _) (by unfold maxLen; have := HLA.out; omega) (by have := HLA.out; omega) (by have := HE0.out.lt; simp; omega) ?_
        intro v1 y1 hO hg hn
        obtain ⟨hE1, q1, q2, q3, A1, k1, rfl⟩ := HE0.out.appA (c := insC 2 i pc off) hO hg hn
        have HE1 := Lib.hid hE1
        clear hO hg hn hE1
        refine hK.out _ _ trivial (fun _ => ?_)
        clear hK K
        try (simp only [Act.put, List.setIfInBounds_toArray, List.set_cons_zero, List.set_cons_succ])
        iterate 2 (refine tree_take (v := ?_) trivial (by rfl) ?_ ?_; rotate_left; (intro x hx; (try dsimp only at hx); go_simp; try (with_reducible rfl)); (simp only [Act.put, List.setIfInBounds_toArray, List.set_cons_zero, List.set_cons_succ]))
        refine tree_call trivial (by rfl) (fun K hK => ?_)
        go_simp
        refine hK.out _ _ trivial (fun _ => ?_)
        clear hK K
        exact tree_done ⟨(y0.heap.size, .slice A1 ((la).length + 1) k1), rfl, HE1.out⟩
      · go_simp
        try rw [fold_cel]
        have cLa := (HE0.out.alloc (.cells (celCells (insC 2 i pc off)).toArray 49)).cellA
        refine hK.out _ _ trivial (fun _ => ?_)
        clear hK K
        change wpT _ _ _ _ _ _ _ (y0.alloc (.cells (celCells (insC 2 i pc off)).toArray 49))
        try (simp only [Act.put, List.setIfInBounds_toArray, List.set_cons_zero, List.set_cons_succ])
        refine tree_call trivial (by rfl) (fun K hK => ?_)
        go_simp
        refine hK.out _ _ trivial (fun _ => ?_)
        clear hK K
        try (simp only [Act.put, List.setIfInBounds_toArray, List.set_cons_zero, List.set_cons_succ])
        refine tree_call trivial (by rfl) (fun K hK => ?_)
        refine wp_append_new _ (.tmp 39) (.tmp 42) 22 rfl (b + 1) 49 i0 _ 9 72 Tryz.underlying22 HI.out HZ0.out HZ1.out HZ2.out rfl (by omega) va (la).length (flat celCells (la)) rfl (HE0.out.alloc _).oa _ (.slice (some ⟨y0.heap.size, 0, none⟩) 1 1) 1 (celCells (insC 2 i pc off)) rfl (row_new y0 (celCells (insC 2 i pc off)) 9 rfl (by omega) _) (celCells_one _) (by unfold maxLen; have := HLA.out; omega) (by have := HLA.out; omega) (by have := HE0.out.lt; simp; omega) ?_
        intro v1 y1 hO hg hn
        obtain ⟨hE1, q1, q2, q3, A1, k1, rfl⟩ := HE0.out.appA (c := insC 2 i pc off) hO hg hn
        have HE1 := Lib.hid hE1
        clear hO hg hn hE1
        refine hK.out _ _ trivial (fun _ => ?_)
        clear hK K
        try (simp only [Act.put, List.setIfInBounds_toArray, List.set_cons_zero, List.set_cons_succ])
        iterate 2 (refine tree_take (v := ?_) trivial (by rfl) ?_ ?_; rotate_left; (intro x hx; (try dsimp only at hx); go_simp; try (with_reducible rfl)); (simp only [Act.put, List.setIfInBounds_toArray, List.set_cons_zero, List.set_cons_succ]))
        refine tree_call trivial (by rfl) (fun K hK => ?_)
        go_simp
        refine hK.out _ _ trivial (fun _ => ?_)
        clear hK K
        exact tree_done ⟨(y0.heap.size, .slice A1 ((la).length + 1) k1), rfl, HE1.out⟩
  rintro ⟨B1, v1⟩ w1 hE1
  dsimp only at hE1
  have HEw1 := Lib.hid hE1
  clear hE1
  simp only [Act.put, List.setIfInBounds_toArray, List.set_cons_zero, List.set_cons_succ]
  go_wp2_with fail
  first | exact bodyPost_ret (v := .tuple #[]) (by simp [results, Tryz.results96, go_sem]) rfl ⟨rfl, _, _, HEw1.out⟩ | exact bodyPost_end (v := .tuple #[]) (by simp [results, Tryz.results96, go_sem]) rfl ⟨rfl, _, _, HEw1.out⟩

end Go.Proofs.YteagglddgkjkmaaGreat.Words

/- Contracts of slices.Index, Contains, IndexFunc, ContainsFunc as package emit calls them, and of what they ask: is a register on E? -/
namespace Go.Proofs.YteagglddgkjkmaaGreat.Words
set_option maxRecDepth 100000
open Go.RowKit
set_option linter.unusedVariables false
set_option linter.unusedSimpArgs false

theorem mem_step {zs : List Int} {x : Int} {j : Nat} (h : j < zs.length) : (x ∈ zs.drop j) ↔ (x = zs.getD j 0 ∨ x ∈ zs.drop (j + 1)) := by
  rw [List.drop_eq_getElem_cons h, List.getD_eq_getElem?_getD, List.getElem?_eq_getElem h, List.mem_cons]; rfl

set_option maxHeartbeats 1000000 in
theorem index_any (A : Option Addr) (c n : Nat) (zs : List Int) (x : Int) (w : World) (hn : zs.length = n) (hr : Row w w.heap.size 1 (.slice A n c) n (zs.map (Value.int .i64))) (hs : n ≤ 100) :
    Calls Tryz.prog 113 #[.slice A n c, .int .i64 x] w fun e w' => (∃ k : Int, e = .returned (.int .i64 k) ∧ (0 ≤ k ↔ x ∈ zs)) ∧ w' = w := by
  have HN := Lib.hid hn
  have HR := Lib.hid hr
  have H0 := Lib.hid (show x ∈ zs ↔ x ∈ zs.drop 0 by rw [List.drop_zero])
  clear hr hn
  go_enter Tryz.func113, Tryz.ntmps113
  go_wp2_with fail
  go_loopw [8] (fun i wr => ∃ j : Nat, j ≤ n ∧ i = .int .i64 j ∧ wr = w ∧ (x ∈ zs ↔ x ∈ zs.drop j)) (fun i _ => n - (intOf i).toNat)
  case atStart => exact ⟨0, Nat.zero_le _, rfl, rfl, H0.out⟩
  case round =>
    obtain ⟨j, hj, rfl, rfl, hT⟩ := hrel
    have HT := Lib.hid hT
    clear hT
    by_cases hlt : j < n
    · have hl : j < zs.length := by rw [HN.out]; exact hlt
      obtain ⟨b, off, rfl, hb, hcells⟩ := HR.out.at_ (by omega)
      have d0 := hcells j _ (ints_get hl)
      have HS := Lib.hid (mem_step (x := x) hl)
      obtain ⟨r, hre⟩ : ∃ r, r = zs.getD j 0 := ⟨_, rfl⟩
      rw [← hre] at d0 HS
      clear hcells hre hl
      have k0 : (0 : Int) ≤ j := by omega
      have k1 : (j : Int) < n := by omega
      cases hq : (x == r)
      · have hne : ¬ x = r := by simpa using hq
        have HX := Lib.hid hne
        clear hne
        go_wp2_with fail
        go_roundw
        case rel => exact ⟨j + 1, by omega, by go_num, by first | rfl | trivial, by rw [HT.out, HS.out]; exact ⟨fun h => h.resolve_left HX.out, .inr⟩⟩
        case measure => simp only [intOf]; omega
      · have heq : x = r := by simpa using hq
        have HX := Lib.hid heq
        clear heq
        go_wp2_with fail
        go_ret
        exact ⟨⟨_, rfl, ⟨fun _ => by rw [HT.out, HS.out]; exact .inl HX.out, fun _ => by omega⟩⟩, by first | rfl | trivial⟩
    · have HE := Lib.hid (show zs.drop j = [] from List.drop_eq_nil_of_le (by rw [HN.out]; omega))
      go_wp2_with fail
      go_ret
      exact ⟨⟨_, rfl, ⟨fun h => by omega, fun h => by rw [HT.out, HE.out] at h; cases h⟩⟩, by first | rfl | trivial⟩

set_option maxHeartbeats 1000000 in
theorem contains_any (A : Option Addr) (c n : Nat) (zs : List Int) (x : Int) (w : World) (hn : zs.length = n) (hr : Row w w.heap.size 1 (.slice A n c) n (zs.map (Value.int .i64))) (hs : n ≤ 100) :
    Calls Tryz.prog 111 #[.slice A n c, .int .i64 x] w fun e w' => e = .returned (.bool (decide (x ∈ zs))) ∧ w' = w := by
  have HN := Lib.hid hn
  have HR := Lib.hid hr
  clear hr hn
  go_enter Tryz.func111, Tryz.ntmps111
  go_wp2_with fail
  refine (index_any A c n zs x w HN.out HR.out hs).mono ?_; rintro e w1 ⟨⟨k, rfl, hk⟩, rfl⟩
  have HK := Lib.hid hk
  clear hk
  by_cases h : 0 ≤ k
  · have HD := Lib.hid (decide_eq_true (HK.out.1 h))
    have g : decide (0 ≤ k) = true := decide_eq_true h
    go_wp2_with fail
    go_ret
    exact ⟨ret_bool HD.out.symm, by first | rfl | trivial⟩
  · have HD := Lib.hid (decide_eq_false (fun c => h (HK.out.2 c)))
    have g : decide (0 ≤ k) = false := decide_eq_false h
    go_wp2_with fail
    go_ret
    exact ⟨ret_bool HD.out.symm, by first | rfl | trivial⟩

set_option maxHeartbeats 1000000 in
theorem onE_any {b : Nat} {i : Ins} {z : List Int} {pc off : Int} {S : Nat → Prop} {w0 : World} {va ve : Value} {la le : List Cel} (r : Int) (w : World) (h : Em b i z pc off S w0 w va ve la le) (h0 : 0 ≤ r) (h1 : r ≤ 15) :
    Calls Tryz.prog 109 #[.pointer (some ⟨b, 0, none⟩), .int .i64 r] w fun e w' => e = .returned (.bool (decide (atO z r = 2))) ∧ w' = w := by
  obtain ⟨n, rfl, hn⟩ := nat_of ⟨h0, h1⟩
  have d0 := h.cellR hn
  have e1 : (n : Int) ≤ 15 := by omega
  clear h h0 h1 hn
  go_enter Tryz.func109, Tryz.ntmps109
  cases hq : (atO z n == 2)
  · have HD := Lib.hid (show decide (atO z n = 2) = false from decide_eq_false (by simpa using hq))
    go_wp2_with fail
    go_ret
    exact ⟨ret_bool HD.out.symm, by first | rfl | trivial⟩
  · have HD := Lib.hid (show decide (atO z n = 2) = true from decide_eq_true (by simpa using hq))
    go_wp2_with fail
    go_ret
    exact ⟨ret_bool HD.out.symm, by first | rfl | trivial⟩

theorem any_stepE {zs : List Int} {o : List Int} {j : Nat} (h : j < zs.length) : anyEB (zs.drop j) o = (decide (atO o (zs.getD j 0) = 2) || anyEB (zs.drop (j + 1)) o) := any_step h
set_option maxHeartbeats 1000000 in
theorem indexFunc_any {b : Nat} {i : Ins} {z : List Int} {pc off : Int} {S : Nat → Prop} {w0 : World} {va ve : Value} {la le : List Cel} (A : Option Addr) (c n : Nat) (zs : List Int) (w : World) (h : Em b i z pc off S w0 w va ve la le)
    (hn : zs.length = n) (hr : Row w w.heap.size 1 (.slice A n c) n (zs.map (Value.int .i64))) (hs : n ≤ 100) (hz : ∀ r ∈ zs, 0 ≤ r ∧ r ≤ 15) :
    Calls Tryz.prog 112 #[.slice A n c, .func (.func 109) #[.pointer (some ⟨b, 0, none⟩)] #[]] w fun e w' => (∃ k : Int, e = .returned (.int .i64 k) ∧ decide (0 ≤ k) = anyEB zs z) ∧ w' = w := by
  have HN := Lib.hid hn
  have HR := Lib.hid hr
  have HE := Lib.hid h
  have HZ := Lib.hid hz
  have H0 := Lib.hid (show anyEB zs z = anyEB (zs.drop 0) z by rw [List.drop_zero])
  clear hr hn h hz
  go_enter Tryz.func112, Tryz.ntmps112
  go_wp2_with fail
  go_loopw [8] (fun i wr => ∃ j : Nat, j ≤ n ∧ i = .int .i64 j ∧ wr = w ∧ anyEB zs z = anyEB (zs.drop j) z) (fun i _ => n - (intOf i).toNat)
  case atStart => exact ⟨0, Nat.zero_le _, rfl, rfl, H0.out⟩
  case round =>
    obtain ⟨j, hj, rfl, rfl, hT⟩ := hrel
    have HT := Lib.hid hT
    clear hT
    by_cases hlt : j < n
    · have hl : j < zs.length := by rw [HN.out]; exact hlt
      obtain ⟨g, o, rfl, hb, hcells⟩ := HR.out.at_ (by omega)
      have d0 := hcells j _ (ints_get hl)
      have HS := Lib.hid (any_step (o := z) hl)
      have HM := Lib.hid (HZ.out _ (getD_mem hl))
      obtain ⟨r, hre⟩ : ∃ r, r = zs.getD j 0 := ⟨_, rfl⟩
      rw [← hre] at d0 HS HM
      clear hcells hre hl
      have k0 : (0 : Int) ≤ j := by omega
      have k1 : (j : Int) < n := by omega
      go_wp2_with fail
      refine (onE_any r _ HE.out HM.out.1 HM.out.2).mono ?_; rintro e w1 ⟨rfl, rfl⟩
      try dsimp only
      cases hq : decide (atO z r = 2)
      · rw [hq] at HS
        go_wp2_with fail
        go_roundw
        case rel => exact ⟨j + 1, by omega, by go_num, by first | rfl | trivial, by rw [HT.out, HS.out]; rfl⟩
        case measure => simp only [intOf]; omega
      · rw [hq] at HS
        go_wp2_with fail
        go_ret
        exact ⟨⟨_, rfl, by rw [HT.out, HS.out]; simp⟩, by first | rfl | trivial⟩
    · have HE := Lib.hid (show zs.drop j = [] from List.drop_eq_nil_of_le (by rw [HN.out]; omega))
      go_wp2_with fail
      go_ret
      exact ⟨⟨_, rfl, by rw [HT.out, HE.out]; rfl⟩, by first | rfl | trivial⟩

set_option maxHeartbeats 1000000 in
theorem containsFunc_any {b : Nat} {i : Ins} {z : List Int} {pc off : Int} {S : Nat → Prop} {w0 : World} {va ve : Value} {la le : List Cel} (A : Option Addr) (c n : Nat) (zs : List Int) (w : World) (h : Em b i z pc off S w0 w va ve la le)
    (hn : zs.length = n) (hr : Row w w.heap.size 1 (.slice A n c) n (zs.map (Value.int .i64))) (hs : n ≤ 100) (hz : ∀ r ∈ zs, 0 ≤ r ∧ r ≤ 15) :
    Calls Tryz.prog 108 #[.slice A n c, .func (.func 109) #[.pointer (some ⟨b, 0, none⟩)] #[]] w fun e w' => e = .returned (.bool (anyEB zs z)) ∧ w' = w := by
  have HN := Lib.hid hn
  have HR := Lib.hid hr
  have HE := Lib.hid h
  have HZ := Lib.hid hz
  clear hr hn h hz
  go_enter Tryz.func108, Tryz.ntmps108
  go_wp2_with fail
  refine (indexFunc_any A c n zs w HE.out HN.out HR.out hs HZ.out).mono ?_; rintro e w1 ⟨⟨k, rfl, hk⟩, rfl⟩
  have HK := Lib.hid hk
  clear hk
  cases g : decide (0 ≤ k)
  · have HD := Lib.hid (show anyEB zs z = false by rw [← HK.out, g])
    go_wp2_with fail
    go_ret
    exact ⟨ret_bool HD.out.symm, by first | rfl | trivial⟩
  · have HD := Lib.hid (show anyEB zs z = true by rw [← HK.out, g])
    go_wp2_with fail
    go_ret
    exact ⟨ret_bool HD.out.symm, by first | rfl | trivial⟩
end Go.Proofs.YteagglddgkjkmaaGreat.Words

/- Contract of package emit's send: the cells by which E has what is on A. -/
namespace Go.Proofs.YteagglddgkjkmaaGreat.Words
set_option maxRecDepth 100000
open Go.RowKit
set_option linter.unusedVariables false
set_option linter.unusedSimpArgs false

theorem row_take {w : World} {B n c k : Nat} {A : Option Addr} {zs : List Int} (h : Row w B 1 (.slice A n c) n (zs.map (Value.int .i64))) (hk : k ≤ n) (hn : n ≠ 0) : Row w B 1 (.slice A k c) k ((zs.take k).map (Value.int .i64)) := by
  obtain ⟨h0, A', c', h1, h2, h3, h4, h5⟩ := h
  injection h1 with e1 _ e2
  subst e1 e2
  obtain ⟨b, off, e, hb, hc⟩ := h5 hn
  refine ⟨by simp at h0 ⊢; omega, _, _, rfl, by omega, h3, h4, fun _ => ⟨b, off, e, hb, fun j u hu => hc j u ?_⟩⟩
  rw [List.map_take, List.getElem?_take] at hu
  split at hu
  · exact hu
  · cases hu
theorem regsC_len (k pc off : Int) (l : List Int) : (regsC k pc off l).length = l.length := by simp [regsC]
set_option maxHeartbeats 4000000 in
theorem send_any {b : Nat} {i : Ins} {z : List Int} {pc off : Int} {S : Nat → Prop} {w0 : World} {va ve : Value} {la le : List Cel} (A : Option Addr) (c n : Nat) (zs : List Int) (w : World) (h : Em b i z pc off S w0 w va ve la le) (hla : la.length ≤ 50) (hle : le.length ≤ 50)
    (hn : zs.length = n) (hr : Row w w.heap.size 1 (.slice A n c) n (zs.map (Value.int .i64))) (hA : ∀ a, A = some a → ¬ (a.block = b ∨ va.ownBlock = some a.block ∨ ve.ownBlock = some a.block)) (hs : n ≤ 8) (hz : ∀ r ∈ zs, 0 ≤ r ∧ r ≤ 15) :
    Calls Tryz.prog 106 #[.pointer (some ⟨b, 0, none⟩), .slice A n c] w fun e w' => e = .returned (.tuple #[]) ∧ ∃ va' ve', Em b i z pc off S w0 w' va' ve' (la ++ regsC 5 pc off (sentL z zs)) (le ++ regsC 6 pc off (sentL z zs)) := by
  have HE0 := Lib.hid h
  have HF := Lib.hid h.from
  have HLA0 := Lib.hid hla
  have HLE0 := Lib.hid hle
  have HN := Lib.hid hn
  have HR := Lib.hid hr
  have HAN := Lib.hid hA
  have HZ := Lib.hid hz
  obtain ⟨u1, u2⟩ := hr.cap
  obtain ⟨i0, hi, hz0, hz1, hz2⟩ := info_parts info_cel
  have HI := Lib.hid hi
  have HZ0 := Lib.hid hz0
  have HZ1 := Lib.hid hz1
  have HZ2 := Lib.hid hz2
  clear hi hz0 hz1 hz2
  clear h hla hle hn hr hA hz
  go_enter Tryz.func106, Tryz.ntmps106
  go_wp2_with fail
  go_loopw [8] (fun ii wr => ∃ (j : Nat) (va' ve' : Value), j ≤ n ∧ ii = .int .i64 j ∧ Em b i z pc off (fun j => j = b ∨ va.ownBlock = some j ∨ ve.ownBlock = some j) w wr va' ve' (la ++ regsC 5 pc off (sentL z (zs.take j))) (le ++ regsC 6 pc off (sentL z (zs.take j)))) (fun ii _ => n - (intOf ii).toNat)
  case atStart => exact ⟨0, va, ve, Nat.zero_le _, rfl, by simpa [sentL, regsC] using HF.out⟩
  case round =>
    obtain ⟨j, va', ve', hj, rfl, hE⟩ := hrel
    have HEwr := Lib.hid hE
    clear hE
    by_cases hlt : j < n
    · have hl : j < zs.length := by rw [HN.out]; exact hlt
      have HRr := Lib.hid (row_keepS HR.out (Nat.le_refl _) HEwr.out.keep HAN.out)
      have HTK := Lib.hid (row_take HRr.out (Nat.le_of_lt hlt) (by omega))
      obtain ⟨g, o, rfl, hb, hcells⟩ := HRr.out.at_ (by omega)
      have d0 := hcells j _ (ints_get hl)
      have HST := Lib.hid (sent_step z (l := zs) (n := j) (r := zs.getD j 0) (by rw [List.getD_eq_getElem?_getD, List.getElem?_eq_getElem hl]; rfl))
      have HM := Lib.hid (HZ.out _ (getD_mem hl))
      have HSL := Lib.hid (show (sentL z (zs.take j)).length ≤ 8 from Nat.le_trans (sent_len _ _) (by simp; omega))
      obtain ⟨r, hre⟩ : ∃ r, r = zs.getD j 0 := ⟨_, rfl⟩
      rw [← hre] at d0 HST HM
      obtain ⟨x, hx, hx15⟩ := nat_of HM.out
      have d1 := HEwr.out.cellR hx15
      clear hcells hre hl
      subst hx
      have k0 : (0 : Int) ≤ j := by omega
      have k1 : (j : Int) < n := by omega
      have k2 : (x : Int) ≤ 15 := by omega
      have k4 : (j : Int) ≤ c := by omega
      have HLA : Hid ((la ++ regsC 5 pc off (sentL z (zs.take j))).length ≤ 100) := by rw [List.length_append, regsC_len]; have := HSL.out; have := HLA0.out; show _ ≤ _; omega
      have HLE : Hid ((le ++ regsC 6 pc off (sentL z (zs.take j))).length ≤ 100) := by rw [List.length_append, regsC_len]; have := HSL.out; have := HLE0.out; show _ ≤ _; omega
      have HSA := Lib.hid (fun (h : sentL z (zs.take (j + 1)) = sentL z (zs.take j) ++ [(x : Int)]) (k : Int) (l : List Cel) => (show l ++ regsC k pc off (sentL z (zs.take (j + 1))) = (l ++ regsC k pc off (sentL z (zs.take j))) ++ [regC k x pc off] by rw [h, regsC_append, List.append_assoc]; rfl))
      have HTL : Hid ((zs.take j).length = j) := by show _ = _; simp; have := HN.out; omega
      by_cases h1 : atO z x = 1
      · have q1 : (atO z x != 1) = false := by simpa using h1
        have HA1 := Lib.hid h1
        clear h1
        go_wp2_with fail
        refine (contains_any (some ⟨g, o, none⟩) c j (zs.take j) x _ HTL.out (HTK.out.more HEwr.out.keep.size) (by omega)).mono ?_; rintro e w9 ⟨rfl, rfl⟩
        try dsimp only
        cases hq : decide ((x : Int) ∈ zs.take j)
        · have HS1 := Lib.hid (HST.out.trans (if_pos ⟨HA1.out, of_decide_eq_false hq⟩))
          obtain ⟨LA, hLA⟩ : ∃ LA, LA = la ++ regsC 5 pc off (sentL z (zs.take j)) := ⟨_, rfl⟩
          obtain ⟨LE, hLE⟩ : ∃ LE, LE = le ++ regsC 6 pc off (sentL z (zs.take j)) := ⟨_, rfl⟩
          have HSA5 := Lib.hid (HSA.out HS1.out 5 la)
          have HSA6 := Lib.hid (HSA.out HS1.out 6 le)
          rw [← hLA] at HEwr HLA HSA5
          rw [← hLE] at HEwr HLE HSA6
          clear hLA hLE HSA d0 d1
          generalize hS' : (fun j => j = b ∨ va.ownBlock = some j ∨ ve.ownBlock = some j) = S' at HEwr
          have HS' := Lib.hid hS'
          clear hS'
          go_wp2_with fail
          have HEw9 := HEwr
          refine region_tree_ex (fun (act : Act) (B : Nat × Value) => ((((((((((((act.put (some 27) (.pointer (some ⟨b, 0, none⟩))).put (some 28) (.pointer (some ⟨b, 0, none⟩))).put (some 29) (.pointer (some ⟨b, 0, none⟩))).put (some 30) (.pointer (some ⟨b, 23, none⟩))).put (some 31) va').put (some 32) (.pointer (some ⟨b, 0, none⟩))).put (some 33) (.int .i64 x)).put (some 34) (.agg (celCells (regC 5 x pc off)).toArray)).put (some 35) (.slice (some ⟨B.1, 0, none⟩) 1 1)).put (some 36) B.2).put (some 37) (.pointer (some ⟨b, 0, none⟩))).put (some 38) (.pointer (some ⟨b, 23, none⟩))))
            (fun B y => Em b i z pc off S' w y B.2 ve' (LA ++ [regC 5 x pc off]) (LE))
            (LinT.of [(0, true), (1, true), (2, true), (3, true), (5, true), (6, true)] (.two 4 7 (LinT.of [(7, false), (8, false), (9, false), (10, true), (11, true), (12, false)] .nil) (LinT.of [] (.two 4 8 (LinT.of [(8, false), (9, false), (10, true), (11, true), (12, false)] .nil) (LinT.of [(4, false), (9, false), (10, true), (11, true), (12, false)] .nil)))))
            (by kernel_rfl) (by kernel_rfl) rfl (by kernel_rfl) (fun _ => True) ?_ ?_
          · simp only [LinT.of, LinT.look, List.getElem?_toArray, List.getElem?_cons_succ, List.getElem?_cons_zero]
            have cL : w9.drew.cell? ⟨b, 23, none⟩ = some va' := HEw9.out.cellA
            have cL2 : w9.cell? ⟨b, 23, none⟩ = some va' := HEw9.out.cellA
            iterate 6 (refine tree_take (v := ?_) trivial (by rfl) ?_ ?_; rotate_left; (intro x hx; (try dsimp only at hx); go_simp; try (with_reducible rfl)); (simp only [Act.put, List.setIfInBounds_toArray, List.set_cons_zero, List.set_cons_succ]))
            refine tree_two trivial (by rfl) (by rfl) (fun K hK => ?_) (fun K hK => ?_)
            · go_simp
              refine hK.out _ _ trivial (fun _ => ?_)
              clear hK K
              try (simp only [Act.put, List.setIfInBounds_toArray, List.set_cons_zero, List.set_cons_succ])
              refine tree_call trivial (by rfl) (fun K hK => ?_)
              go_simp
              refine (withReg_any 5 x _ HEw9.out.drew).mono ?_; rintro e y0 ⟨rfl, hb0⟩
              go_wp2_with fail
              have HE0 := Lib.hid ((HEw9.out.drew).below hb0)
              have cL0 := HE0.out.cellA
              refine hK.out _ _ trivial (fun _ => ?_)
              clear hK K hb0
              try (simp only [Act.put, List.setIfInBounds_toArray, List.set_cons_zero, List.set_cons_succ])
              refine tree_call trivial (by rfl) (fun K hK => ?_)
              go_simp
              try rw [fold_cel]
              refine hK.out _ _ trivial (fun _ => ?_)
              clear hK K
              change wpT _ _ _ _ _ _ _ (y0.alloc (.cells (celCells (regC 5 x pc off)).toArray 49))
              try (simp only [Act.put, List.setIfInBounds_toArray, List.set_cons_zero, List.set_cons_succ])
              refine tree_call trivial (by rfl) (fun K hK => ?_)
              refine wp_append_new _ (.tmp 31) (.tmp 35) 22 rfl (b + 1) 49 i0 _ 9 72 Tryz.underlying22 HI.out HZ0.out HZ1.out HZ2.out rfl (by omega) va' (LA).length (flat celCells (LA)) rfl (HE0.out.alloc _).oa _ (.slice (some ⟨y0.heap.size, 0, none⟩) 1 1) 1 (celCells (regC 5 x pc off)) rfl (row_new y0 (celCells (regC 5 x pc off)) 9 rfl (by omega) _) (celCells_one _) (by unfold maxLen; have := HLA.out; omega) (by have := HLA.out; omega) (by have := HE0.out.lt; simp; omega) ?_
              intro v1 y1 hO hg hn
              obtain ⟨hE1, q1, q2, q3, A1, k1, rfl⟩ := HE0.out.appA (c := regC 5 x pc off) hO hg hn
              have HE1 := Lib.hid hE1
              clear hO hg hn hE1
              refine hK.out _ _ trivial (fun _ => ?_)
              clear hK K
              try (simp only [Act.put, List.setIfInBounds_toArray, List.set_cons_zero, List.set_cons_succ])
              iterate 2 (refine tree_take (v := ?_) trivial (by rfl) ?_ ?_; rotate_left; (intro x hx; (try dsimp only at hx); go_simp; try (with_reducible rfl)); (simp only [Act.put, List.setIfInBounds_toArray, List.set_cons_zero, List.set_cons_succ]))
              refine tree_call trivial (by rfl) (fun K hK => ?_)
              go_simp
              refine hK.out _ _ trivial (fun _ => ?_)
              clear hK K
              exact tree_done ⟨(y0.heap.size, .slice A1 ((LA).length + 1) k1), rfl, HE1.out⟩
            · go_simp
              refine (withReg_any 5 x _ HEw9.out.drew).mono ?_; rintro e y0 ⟨rfl, hb0⟩
              go_wp2_with fail
              have HE0 := Lib.hid ((HEw9.out.drew).below hb0)
              have cL0 := HE0.out.cellA
              refine hK.out _ _ trivial (fun _ => ?_)
              clear hK K hb0
              try (simp only [Act.put, List.setIfInBounds_toArray, List.set_cons_zero, List.set_cons_succ])
              refine tree_two trivial (by rfl) (by rfl) (fun K hK => ?_) (fun K hK => ?_)
              · go_simp
                refine hK.out _ _ trivial (fun _ => ?_)
                clear hK K
                try (simp only [Act.put, List.setIfInBounds_toArray, List.set_cons_zero, List.set_cons_succ])
                refine tree_call trivial (by rfl) (fun K hK => ?_)
                go_simp
                try rw [fold_cel]
                refine hK.out _ _ trivial (fun _ => ?_)
                clear hK K
                change wpT _ _ _ _ _ _ _ (y0.alloc (.cells (celCells (regC 5 x pc off)).toArray 49))
                try (simp only [Act.put, List.setIfInBounds_toArray, List.set_cons_zero, List.set_cons_succ])
                refine tree_call trivial (by rfl) (fun K hK => ?_)
                refine wp_append_new _ (.tmp 31) (.tmp 35) 22 rfl (b + 1) 49 i0 _ 9 72 Tryz.underlying22 HI.out HZ0.out HZ1.out HZ2.out rfl (by omega) va' (LA).length (flat celCells (LA)) rfl (HE0.out.alloc _).oa _ (.slice (some ⟨y0.heap.size, 0, none⟩) 1 1) 1 (celCells (regC 5 x pc off)) rfl (row_new y0 (celCells (regC 5 x pc off)) 9 rfl (by omega) _) (celCells_one _) (by unfold maxLen; have := HLA.out; omega) (by have := HLA.out; omega) (by have := HE0.out.lt; simp; omega) ?_
                intro v1 y1 hO hg hn
                obtain ⟨hE1, q1, q2, q3, A1, k1, rfl⟩ := HE0.out.appA (c := regC 5 x pc off) hO hg hn
                have HE1 := Lib.hid hE1
                clear hO hg hn hE1
                refine hK.out _ _ trivial (fun _ => ?_)
                clear hK K
                try (simp only [Act.put, List.setIfInBounds_toArray, List.set_cons_zero, List.set_cons_succ])
                iterate 2 (refine tree_take (v := ?_) trivial (by rfl) ?_ ?_; rotate_left; (intro x hx; (try dsimp only at hx); go_simp; try (with_reducible rfl)); (simp only [Act.put, List.setIfInBounds_toArray, List.set_cons_zero, List.set_cons_succ]))
                refine tree_call trivial (by rfl) (fun K hK => ?_)
                go_simp
                refine hK.out _ _ trivial (fun _ => ?_)
                clear hK K
                exact tree_done ⟨(y0.heap.size, .slice A1 ((LA).length + 1) k1), rfl, HE1.out⟩
              · go_simp
                try rw [fold_cel]
                have cLa := (HE0.out.alloc (.cells (celCells (regC 5 x pc off)).toArray 49)).cellA
                refine hK.out _ _ trivial (fun _ => ?_)
                clear hK K
                change wpT _ _ _ _ _ _ _ (y0.alloc (.cells (celCells (regC 5 x pc off)).toArray 49))
                try (simp only [Act.put, List.setIfInBounds_toArray, List.set_cons_zero, List.set_cons_succ])
                refine tree_call trivial (by rfl) (fun K hK => ?_)
                go_simp
                refine hK.out _ _ trivial (fun _ => ?_)
                clear hK K
                try (simp only [Act.put, List.setIfInBounds_toArray, List.set_cons_zero, List.set_cons_succ])
                refine tree_call trivial (by rfl) (fun K hK => ?_)
                refine wp_append_new _ (.tmp 31) (.tmp 35) 22 rfl (b + 1) 49 i0 _ 9 72 Tryz.underlying22 HI.out HZ0.out HZ1.out HZ2.out rfl (by omega) va' (LA).length (flat celCells (LA)) rfl (HE0.out.alloc _).oa _ (.slice (some ⟨y0.heap.size, 0, none⟩) 1 1) 1 (celCells (regC 5 x pc off)) rfl (row_new y0 (celCells (regC 5 x pc off)) 9 rfl (by omega) _) (celCells_one _) (by unfold maxLen; have := HLA.out; omega) (by have := HLA.out; omega) (by have := HE0.out.lt; simp; omega) ?_
                intro v1 y1 hO hg hn
                obtain ⟨hE1, q1, q2, q3, A1, k1, rfl⟩ := HE0.out.appA (c := regC 5 x pc off) hO hg hn
                have HE1 := Lib.hid hE1
                clear hO hg hn hE1
                refine hK.out _ _ trivial (fun _ => ?_)
                clear hK K
                try (simp only [Act.put, List.setIfInBounds_toArray, List.set_cons_zero, List.set_cons_succ])
                iterate 2 (refine tree_take (v := ?_) trivial (by rfl) ?_ ?_; rotate_left; (intro x hx; (try dsimp only at hx); go_simp; try (with_reducible rfl)); (simp only [Act.put, List.setIfInBounds_toArray, List.set_cons_zero, List.set_cons_succ]))
                refine tree_call trivial (by rfl) (fun K hK => ?_)
                go_simp
                refine hK.out _ _ trivial (fun _ => ?_)
                clear hK K
                exact tree_done ⟨(y0.heap.size, .slice A1 ((LA).length + 1) k1), rfl, HE1.out⟩
          rintro ⟨B1, v1⟩ w1 hE1
          dsimp only at hE1
          have HEw1 := Lib.hid hE1
          clear hE1
          simp only [Act.put, List.setIfInBounds_toArray, List.set_cons_zero, List.set_cons_succ]
          go_wp2_with fail
          refine region_tree_ex (fun (act : Act) (B : Nat × Value) => ((((((((((((act.put (some 39) (.pointer (some ⟨b, 0, none⟩))).put (some 40) (.pointer (some ⟨b, 0, none⟩))).put (some 41) (.pointer (some ⟨b, 0, none⟩))).put (some 42) (.pointer (some ⟨b, 24, none⟩))).put (some 43) ve').put (some 44) (.pointer (some ⟨b, 0, none⟩))).put (some 45) (.int .i64 x)).put (some 46) (.agg (celCells (regC 6 x pc off)).toArray)).put (some 47) (.slice (some ⟨B.1, 0, none⟩) 1 1)).put (some 48) B.2).put (some 49) (.pointer (some ⟨b, 0, none⟩))).put (some 50) (.pointer (some ⟨b, 24, none⟩))))
            (fun B y => Em b i z pc off S' w y v1 B.2 (LA ++ [regC 5 x pc off]) (LE ++ [regC 6 x pc off]))
            (LinT.of [(0, true), (1, true), (2, true), (3, true), (5, true), (6, true)] (.two 4 7 (LinT.of [(7, false), (8, false), (9, false), (10, true), (11, true), (12, false)] .nil) (LinT.of [] (.two 4 8 (LinT.of [(8, false), (9, false), (10, true), (11, true), (12, false)] .nil) (LinT.of [(4, false), (9, false), (10, true), (11, true), (12, false)] .nil)))))
            (by kernel_rfl) (by kernel_rfl) rfl (by kernel_rfl) (fun _ => True) ?_ ?_
          · simp only [LinT.of, LinT.look, List.getElem?_toArray, List.getElem?_cons_succ, List.getElem?_cons_zero]
            have cL : w1.drew.cell? ⟨b, 24, none⟩ = some ve' := HEw1.out.cellE
            have cL2 : w1.cell? ⟨b, 24, none⟩ = some ve' := HEw1.out.cellE
            iterate 6 (refine tree_take (v := ?_) trivial (by rfl) ?_ ?_; rotate_left; (intro x hx; (try dsimp only at hx); go_simp; try (with_reducible rfl)); (simp only [Act.put, List.setIfInBounds_toArray, List.set_cons_zero, List.set_cons_succ]))
            refine tree_two trivial (by rfl) (by rfl) (fun K hK => ?_) (fun K hK => ?_)
            · go_simp
              refine hK.out _ _ trivial (fun _ => ?_)
              clear hK K
              try (simp only [Act.put, List.setIfInBounds_toArray, List.set_cons_zero, List.set_cons_succ])
              refine tree_call trivial (by rfl) (fun K hK => ?_)
              go_simp
              refine (withReg_any 6 x _ HEw1.out.drew).mono ?_; rintro e y0 ⟨rfl, hb0⟩
              go_wp2_with fail
              have HE0 := Lib.hid ((HEw1.out.drew).below hb0)
              have cL0 := HE0.out.cellE
              refine hK.out _ _ trivial (fun _ => ?_)
              clear hK K hb0
              try (simp only [Act.put, List.setIfInBounds_toArray, List.set_cons_zero, List.set_cons_succ])
              refine tree_call trivial (by rfl) (fun K hK => ?_)
              go_simp
              try rw [fold_cel]
              refine hK.out _ _ trivial (fun _ => ?_)
              clear hK K
              change wpT _ _ _ _ _ _ _ (y0.alloc (.cells (celCells (regC 6 x pc off)).toArray 49))
              try (simp only [Act.put, List.setIfInBounds_toArray, List.set_cons_zero, List.set_cons_succ])
              refine tree_call trivial (by rfl) (fun K hK => ?_)
              refine wp_append_new _ (.tmp 43) (.tmp 47) 22 rfl (b + 1) 49 i0 _ 9 72 Tryz.underlying22 HI.out HZ0.out HZ1.out HZ2.out rfl (by omega) ve' (LE).length (flat celCells (LE)) rfl (HE0.out.alloc _).oe _ (.slice (some ⟨y0.heap.size, 0, none⟩) 1 1) 1 (celCells (regC 6 x pc off)) rfl (row_new y0 (celCells (regC 6 x pc off)) 9 rfl (by omega) _) (celCells_one _) (by unfold maxLen; have := HLE.out; omega) (by have := HLE.out; omega) (by have := HE0.out.lt; simp; omega) ?_
              intro v1 y1 hO hg hn
              obtain ⟨hE1, q1, q2, q3, A1, k1, rfl⟩ := HE0.out.appE (c := regC 6 x pc off) hO hg hn
              have HE1 := Lib.hid hE1
              clear hO hg hn hE1
              refine hK.out _ _ trivial (fun _ => ?_)
              clear hK K
              try (simp only [Act.put, List.setIfInBounds_toArray, List.set_cons_zero, List.set_cons_succ])
              iterate 2 (refine tree_take (v := ?_) trivial (by rfl) ?_ ?_; rotate_left; (intro x hx; (try dsimp only at hx); go_simp; try (with_reducible rfl)); (simp only [Act.put, List.setIfInBounds_toArray, List.set_cons_zero, List.set_cons_succ]))
              refine tree_call trivial (by rfl) (fun K hK => ?_)
              go_simp
              refine hK.out _ _ trivial (fun _ => ?_)
              clear hK K
              exact tree_done ⟨(y0.heap.size, .slice A1 ((LE).length + 1) k1), rfl, HE1.out⟩
            · go_simp
              refine (withReg_any 6 x _ HEw1.out.drew).mono ?_; rintro e y0 ⟨rfl, hb0⟩
              go_wp2_with fail
              have HE0 := Lib.hid ((HEw1.out.drew).below hb0)
              have cL0 := HE0.out.cellE
              refine hK.out _ _ trivial (fun _ => ?_)
              clear hK K hb0
              try (simp only [Act.put, List.setIfInBounds_toArray, List.set_cons_zero, List.set_cons_succ])
              refine tree_two trivial (by rfl) (by rfl) (fun K hK => ?_) (fun K hK => ?_)
              · go_simp
                refine hK.out _ _ trivial (fun _ => ?_)
                clear hK K
                try (simp only [Act.put, List.setIfInBounds_toArray, List.set_cons_zero, List.set_cons_succ])
                refine tree_call trivial (by rfl) (fun K hK => ?_)
                go_simp
                try rw [fold_cel]
                refine hK.out _ _ trivial (fun _ => ?_)
                clear hK K
                change wpT _ _ _ _ _ _ _ (y0.alloc (.cells (celCells (regC 6 x pc off)).toArray 49))
                try (simp only [Act.put, List.setIfInBounds_toArray, List.set_cons_zero, List.set_cons_succ])
                refine tree_call trivial (by rfl) (fun K hK => ?_)
                refine wp_append_new _ (.tmp 43) (.tmp 47) 22 rfl (b + 1) 49 i0 _ 9 72 Tryz.underlying22 HI.out HZ0.out HZ1.out HZ2.out rfl (by omega) ve' (LE).length (flat celCells (LE)) rfl (HE0.out.alloc _).oe _ (.slice (some ⟨y0.heap.size, 0, none⟩) 1 1) 1 (celCells (regC 6 x pc off)) rfl (row_new y0 (celCells (regC 6 x pc off)) 9 rfl (by omega) _) (celCells_one _) (by unfold maxLen; have := HLE.out; omega) (by have := HLE.out; omega) (by have := HE0.out.lt; simp; omega) ?_
                intro v1 y1 hO hg hn
                obtain ⟨hE1, q1, q2, q3, A1, k1, rfl⟩ := HE0.out.appE (c := regC 6 x pc off) hO hg hn
                have HE1 := Lib.hid hE1
                clear hO hg hn hE1
                refine hK.out _ _ trivial (fun _ => ?_)
                clear hK K
                try (simp only [Act.put, List.setIfInBounds_toArray, List.set_cons_zero, List.set_cons_succ])
                iterate 2 (refine tree_take (v := ?_) trivial (by rfl) ?_ ?_; rotate_left; (intro x hx; (try dsimp only at hx); go_simp; try (with_reducible rfl)); (simp only [Act.put, List.setIfInBounds_toArray, List.set_cons_zero, List.set_cons_succ]))
                refine tree_call trivial (by rfl) (fun K hK => ?_)
                go_simp
                refine hK.out _ _ trivial (fun _ => ?_)
                clear hK K
                exact tree_done ⟨(y0.heap.size, .slice A1 ((LE).length + 1) k1), rfl, HE1.out⟩
              · go_simp
                try rw [fold_cel]
                have cLa := (HE0.out.alloc (.cells (celCells (regC 6 x pc off)).toArray 49)).cellE
                refine hK.out _ _ trivial (fun _ => ?_)
                clear hK K
                change wpT _ _ _ _ _ _ _ (y0.alloc (.cells (celCells (regC 6 x pc off)).toArray 49))
                try (simp only [Act.put, List.setIfInBounds_toArray, List.set_cons_zero, List.set_cons_succ])
                refine tree_call trivial (by rfl) (fun K hK => ?_)
                go_simp
                refine hK.out _ _ trivial (fun _ => ?_)
                clear hK K
                try (simp only [Act.put, List.setIfInBounds_toArray, List.set_cons_zero, List.set_cons_succ])
                refine tree_call trivial (by rfl) (fun K hK => ?_)
                refine wp_append_new _ (.tmp 43) (.tmp 47) 22 rfl (b + 1) 49 i0 _ 9 72 Tryz.underlying22 HI.out HZ0.out HZ1.out HZ2.out rfl (by omega) ve' (LE).length (flat celCells (LE)) rfl (HE0.out.alloc _).oe _ (.slice (some ⟨y0.heap.size, 0, none⟩) 1 1) 1 (celCells (regC 6 x pc off)) rfl (row_new y0 (celCells (regC 6 x pc off)) 9 rfl (by omega) _) (celCells_one _) (by unfold maxLen; have := HLE.out; omega) (by have := HLE.out; omega) (by have := HE0.out.lt; simp; omega) ?_
                intro v1 y1 hO hg hn
                obtain ⟨hE1, q1, q2, q3, A1, k1, rfl⟩ := HE0.out.appE (c := regC 6 x pc off) hO hg hn
                have HE1 := Lib.hid hE1
                clear hO hg hn hE1
                refine hK.out _ _ trivial (fun _ => ?_)
                clear hK K
                try (simp only [Act.put, List.setIfInBounds_toArray, List.set_cons_zero, List.set_cons_succ])
                iterate 2 (refine tree_take (v := ?_) trivial (by rfl) ?_ ?_; rotate_left; (intro x hx; (try dsimp only at hx); go_simp; try (with_reducible rfl)); (simp only [Act.put, List.setIfInBounds_toArray, List.set_cons_zero, List.set_cons_succ]))
                refine tree_call trivial (by rfl) (fun K hK => ?_)
                go_simp
                refine hK.out _ _ trivial (fun _ => ?_)
                clear hK K
                exact tree_done ⟨(y0.heap.size, .slice A1 ((LE).length + 1) k1), rfl, HE1.out⟩
          rintro ⟨B2, v2⟩ w2 hE2
          dsimp only at hE2
          have HEw2 := Lib.hid hE2
          clear hE2
          simp only [Act.put, List.setIfInBounds_toArray, List.set_cons_zero, List.set_cons_succ]
          go_wp2_with fail
          go_roundw
          case rel => exact ⟨j + 1, _, _, by omega, by go_num, by rw [HSA5.out, HSA6.out, HS'.out]; exact HEw2.out⟩
          case measure => simp only [intOf]; omega
        · have HS0 := Lib.hid (HST.out.trans (if_neg (fun c => c.2 (of_decide_eq_true hq))))
          go_wp2_with fail
          go_roundw
          case rel => exact ⟨j + 1, va', ve', by omega, by go_num, by rw [HS0.out]; exact HEwr.out⟩
          case measure => simp only [intOf]; omega
      · have HS0 := Lib.hid (HST.out.trans (if_neg (fun c => h1 c.1)))
        have q1 : (atO z x != 1) = true := by simpa using h1
        clear h1
        go_wp2_with fail
        go_roundw
        case rel => exact ⟨j + 1, va', ve', by omega, by go_num, by rw [HS0.out]; exact HEwr.out⟩
        case measure => simp only [intOf]; omega
    · have HT := Lib.hid (show zs.take j = zs from List.take_of_length_le (by rw [HN.out]; omega))
      go_wp2_with fail
      have hE := HEwr.out
      rw [HT.out] at hE
      first | exact bodyPost_ret (v := .tuple #[]) (by simp [results, Tryz.results106, go_sem]) rfl ⟨rfl, va', ve', HE0.out.to hE⟩ | exact bodyPost_end (v := .tuple #[]) (by simp [results, Tryz.results106, go_sem]) rfl ⟨rfl, va', ve', HE0.out.to hE⟩
end Go.Proofs.YteagglddgkjkmaaGreat.Words

/- Contract of package emit's store: the cells of a store. -/
namespace Go.Proofs.YteagglddgkjkmaaGreat.Words
set_option maxRecDepth 100000
open Go.RowKit
set_option linter.unusedVariables false
set_option linter.unusedSimpArgs false

set_option maxHeartbeats 4000000 in
theorem store_any {b : Nat} {i : Ins} {z : List Int} {pc off : Int} {S : Nat → Prop} {w0 : World} {va ve : Value} {la le : List Cel} (w : World) (h : Em b i z pc off S w0 w va ve la le) (hr : rightB i = true) (hla : la.length ≤ 50) (hle : le.length ≤ 50)  :
    Calls Tryz.prog 97 #[.pointer (some ⟨b, 0, none⟩)] w fun e w' => e = .returned (.tuple #[]) ∧ ∃ va' ve', Em b i z pc off S w0 w' va' ve' ((la ++ regsC 5 pc off (sentL z [i.b])) ++ [insC 4 i pc off]) ((le ++ regsC 6 pc off (sentL z [i.b])) ++ [regC 8 i.b pc off]) := by
  have HEw := Lib.hid h
  have HLA0 := Lib.hid hla
  have HLE0 := Lib.hid hle
  have HLA : Hid (la.length ≤ 100) := Nat.le_trans hla (by omega)
  have HLE : Hid (le.length ≤ 100) := Nat.le_trans hle (by omega)
  have hrr := right_range hr
  have HRR := Lib.hid hrr
  obtain ⟨i0, hi, hz0, hz1, hz2⟩ := info_parts info_cel
  have HI := Lib.hid hi
  have HZ0 := Lib.hid hz0
  have HZ1 := Lib.hid hz1
  have HZ2 := Lib.hid hz2
  clear hi hz0 hz1 hz2
  have c3 := h.cellI (k := 3) rfl
  clear h hla hle hr hrr
  go_enter Tryz.func97, Tryz.ntmps97
  go_wp2_with fail
  refine (send_any (some ⟨w.heap.size, 0, none⟩) 1 1 [i.b] _ (HEw.out.alloc _) HLA0.out HLE0.out rfl ((row_new w [.int .i64 i.b] 1 rfl (by omega) _).more (by simp)) ?_ (by omega) ?_).mono ?_
  · intro a ha
    injection ha with ha
    subst ha
    have h2 := HEw.out.lt
    rintro (e | e | e)
    · simp at e; omega
    · have := (HEw.out.oa.lt _ e).2; simp at this
    · have := (HEw.out.oe.lt _ e).2; simp at this
  · intro r hr
    simp at hr
    subst hr
    have := HRR.out; omega
  rintro e ws ⟨rfl, vs, us, hEs⟩
  have HEws := Lib.hid hEs
  clear hEs c3
  obtain ⟨LA, hLA⟩ : ∃ LA, LA = la ++ regsC 5 pc off (sentL z [i.b]) := ⟨_, rfl⟩
  obtain ⟨LE, hLE⟩ : ∃ LE, LE = le ++ regsC 6 pc off (sentL z [i.b]) := ⟨_, rfl⟩
  have HLA : Hid (LA.length ≤ 100) := by rw [hLA, List.length_append, regsC_len]; have := sent_len z [i.b]; have := (show ([i.b] : List Int).length ≤ 8 by simp); have := HLA0.out; show _ ≤ _; omega
  have HLE : Hid (LE.length ≤ 100) := by rw [hLE, List.length_append, regsC_len]; have := sent_len z [i.b]; have := (show ([i.b] : List Int).length ≤ 8 by simp); have := HLE0.out; show _ ≤ _; omega
  have HNA := Lib.hid hLA
  have HNE := Lib.hid hLE
  rw [← hLA, ← hLE] at HEws
  clear hLA hLE
  go_wp2_with fail
  refine region_tree_ex (fun (act : Act) (B : Nat × Value) => (((((((((((act.put (some 10) (.pointer (some ⟨b, 0, none⟩))).put (some 11) (.pointer (some ⟨b, 0, none⟩))).put (some 12) (.pointer (some ⟨b, 0, none⟩))).put (some 13) (.pointer (some ⟨b, 23, none⟩))).put (some 14) vs).put (some 15) (.pointer (some ⟨b, 0, none⟩))).put (some 16) (.agg (celCells (insC 4 i pc off)).toArray)).put (some 17) (.slice (some ⟨B.1, 0, none⟩) 1 1)).put (some 18) B.2).put (some 19) (.pointer (some ⟨b, 0, none⟩))).put (some 20) (.pointer (some ⟨b, 23, none⟩))))
    (fun B y => Em b i z pc off S w0 y B.2 us (LA ++ [insC 4 i pc off]) (LE))
    (LinT.of [(0, true), (1, true), (2, true), (3, true), (5, true)] (.two 4 6 (LinT.of [(6, false), (7, false), (8, false), (9, true), (10, true), (11, false)] .nil) (LinT.of [] (.two 4 7 (LinT.of [(7, false), (8, false), (9, true), (10, true), (11, false)] .nil) (LinT.of [(4, false), (8, false), (9, true), (10, true), (11, false)] .nil)))))
    (by kernel_rfl) (by kernel_rfl) rfl (by kernel_rfl) (fun _ => True) ?_ ?_
  · simp only [LinT.of, LinT.look, List.getElem?_toArray, List.getElem?_cons_succ, List.getElem?_cons_zero]
    have cL : ws.drew.cell? ⟨b, 23, none⟩ = some vs := HEws.out.cellA
    have cL2 : ws.cell? ⟨b, 23, none⟩ = some vs := HEws.out.cellA
    iterate 5 (refine tree_take (v := ?_) trivial (by rfl) ?_ ?_; rotate_left; (intro x hx; (try dsimp only at hx); go_simp; try (with_reducible rfl)); (simp only [Act.put, List.setIfInBounds_toArray, List.set_cons_zero, List.set_cons_succ]))
    refine tree_two trivial (by rfl) (by rfl) (fun K hK => ?_) (fun K hK => ?_)
    · go_simp
      refine hK.out _ _ trivial (fun _ => ?_)
      clear hK K
      try (simp only [Act.put, List.setIfInBounds_toArray, List.set_cons_zero, List.set_cons_succ])
      refine tree_call trivial (by rfl) (fun K hK => ?_)
      go_simp
      refine (withIns_any 4 _ HEws.out.drew).mono ?_; rintro e y0 ⟨rfl, hb0⟩
      go_wp2_with fail
      have HE0 := Lib.hid ((HEws.out.drew).below hb0)
      have cL0 := HE0.out.cellA
      refine hK.out _ _ trivial (fun _ => ?_)
      clear hK K hb0
      try (simp only [Act.put, List.setIfInBounds_toArray, List.set_cons_zero, List.set_cons_succ])
      refine tree_call trivial (by rfl) (fun K hK => ?_)
      go_simp
      try rw [fold_cel]
      refine hK.out _ _ trivial (fun _ => ?_)
      clear hK K
      change wpT _ _ _ _ _ _ _ (y0.alloc (.cells (celCells (insC 4 i pc off)).toArray 49))
      try (simp only [Act.put, List.setIfInBounds_toArray, List.set_cons_zero, List.set_cons_succ])
      refine tree_call trivial (by rfl) (fun K hK => ?_)
      refine wp_append_new _ (.tmp 14) (.tmp 17) 22 rfl (b + 1) 49 i0 _ 9 72 Tryz.underlying22 HI.out HZ0.out HZ1.out HZ2.out rfl (by omega) vs (LA).length (flat celCells (LA)) rfl (HE0.out.alloc _).oa _ (.slice (some ⟨y0.heap.size, 0, none⟩) 1 1) 1 (celCells (insC 4 i pc off)) rfl (row_new y0 (celCells (insC 4 i pc off)) 9 rfl (by omega) _) (celCells_one _) (by unfold maxLen; have := HLA.out; omega) (by have := HLA.out; omega) (by have := HE0.out.lt; simp; omega) ?_
      intro v1 y1 hO hg hn
      obtain ⟨hE1, q1, q2, q3, A1, k1, rfl⟩ := HE0.out.appA (c := insC 4 i pc off) hO hg hn
      have HE1 := Lib.hid hE1
      clear hO hg hn hE1
      refine hK.out _ _ trivial (fun _ => ?_)
      clear hK K
      try (simp only [Act.put, List.setIfInBounds_toArray, List.set_cons_zero, List.set_cons_succ])
      iterate 2 (refine tree_take (v := ?_) trivial (by rfl) ?_ ?_; rotate_left; (intro x hx; (try dsimp only at hx); go_simp; try (with_reducible rfl)); (simp only [Act.put, List.setIfInBounds_toArray, List.set_cons_zero, List.set_cons_succ]))
      refine tree_call trivial (by rfl) (fun K hK => ?_)
      go_simp
      refine hK.out _ _ trivial (fun _ => ?_)
      clear hK K
      exact tree_done ⟨(y0.heap.size, .slice A1 ((LA).length + 1) k1), rfl, HE1.out⟩
    · go_simp
      refine (withIns_any 4 _ HEws.out.drew).mono ?_; rintro e y0 ⟨rfl, hb0⟩
      go_wp2_with fail
      have HE0 := Lib.hid ((HEws.out.drew).below hb0)
      have cL0 := HE0.out.cellA
      refine hK.out _ _ trivial (fun _ => ?_)
      clear hK K hb0
      try (simp only [Act.put, List.setIfInBounds_toArray, List.set_cons_zero, List.set_cons_succ])
      refine tree_two trivial (by rfl) (by rfl) (fun K hK => ?_) (fun K hK => ?_)
      · go_simp
        refine hK.out _ _ trivial (fun _ => ?_)
        clear hK K
        try (simp only [Act.put, List.setIfInBounds_toArray, List.set_cons_zero, List.set_cons_succ])
        refine tree_call trivial (by rfl) (fun K hK => ?_)
        go_simp
        try rw [fold_cel]
        refine hK.out _ _ trivial (fun _ => ?_)
        clear hK K
        change wpT _ _ _ _ _ _ _ (y0.alloc (.cells (celCells (insC 4 i pc off)).toArray 49))
        try (simp only [Act.put, List.setIfInBounds_toArray, List.set_cons_zero, List.set_cons_succ])
        refine tree_call trivial (by rfl) (fun K hK => ?_)
        refine wp_append_new _ (.tmp 14) (.tmp 17) 22 rfl (b + 1) 49 i0 _ 9 72 Tryz.underlying22 HI.out HZ0.out HZ1.out HZ2.out rfl (by omega) vs (LA).length (flat celCells (LA)) rfl (HE0.out.alloc _).oa _ (.slice (some ⟨y0.heap.size, 0, none⟩) 1 1) 1 (celCells (insC 4 i pc off)) rfl (row_new y0 (celCells (insC 4 i pc off)) 9 rfl (by omega) _) (celCells_one _) (by unfold maxLen; have := HLA.out; omega) (by have := HLA.out; omega) (by have := HE0.out.lt; simp; omega) ?_
        intro v1 y1 hO hg hn
        obtain ⟨hE1, q1, q2, q3, A1, k1, rfl⟩ := HE0.out.appA (c := insC 4 i pc off) hO hg hn
        have HE1 := Lib.hid hE1
        clear hO hg hn hE1
        refine hK.out _ _ trivial (fun _ => ?_)
        clear hK K
        try (simp only [Act.put, List.setIfInBounds_toArray, List.set_cons_zero, List.set_cons_succ])
        iterate 2 (refine tree_take (v := ?_) trivial (by rfl) ?_ ?_; rotate_left; (intro x hx; (try dsimp only at hx); go_simp; try (with_reducible rfl)); (simp only [Act.put, List.setIfInBounds_toArray, List.set_cons_zero, List.set_cons_succ]))
        refine tree_call trivial (by rfl) (fun K hK => ?_)
        go_simp
        refine hK.out _ _ trivial (fun _ => ?_)
        clear hK K
        exact tree_done ⟨(y0.heap.size, .slice A1 ((LA).length + 1) k1), rfl, HE1.out⟩
      · go_simp
        try rw [fold_cel]
        have cLa := (HE0.out.alloc (.cells (celCells (insC 4 i pc off)).toArray 49)).cellA
        refine hK.out _ _ trivial (fun _ => ?_)
        clear hK K
        change wpT _ _ _ _ _ _ _ (y0.alloc (.cells (celCells (insC 4 i pc off)).toArray 49))
        try (simp only [Act.put, List.setIfInBounds_toArray, List.set_cons_zero, List.set_cons_succ])
        refine tree_call trivial (by rfl) (fun K hK => ?_)
        go_simp
        refine hK.out _ _ trivial (fun _ => ?_)
        clear hK K
        try (simp only [Act.put, List.setIfInBounds_toArray, List.set_cons_zero, List.set_cons_succ])
        refine tree_call trivial (by rfl) (fun K hK => ?_)
        refine wp_append_new _ (.tmp 14) (.tmp 17) 22 rfl (b + 1) 49 i0 _ 9 72 Tryz.underlying22 HI.out HZ0.out HZ1.out HZ2.out rfl (by omega) vs (LA).length (flat celCells (LA)) rfl (HE0.out.alloc _).oa _ (.slice (some ⟨y0.heap.size, 0, none⟩) 1 1) 1 (celCells (insC 4 i pc off)) rfl (row_new y0 (celCells (insC 4 i pc off)) 9 rfl (by omega) _) (celCells_one _) (by unfold maxLen; have := HLA.out; omega) (by have := HLA.out; omega) (by have := HE0.out.lt; simp; omega) ?_
        intro v1 y1 hO hg hn
        obtain ⟨hE1, q1, q2, q3, A1, k1, rfl⟩ := HE0.out.appA (c := insC 4 i pc off) hO hg hn
        have HE1 := Lib.hid hE1
        clear hO hg hn hE1
        refine hK.out _ _ trivial (fun _ => ?_)
        clear hK K
        try (simp only [Act.put, List.setIfInBounds_toArray, List.set_cons_zero, List.set_cons_succ])
        iterate 2 (refine tree_take (v := ?_) trivial (by rfl) ?_ ?_; rotate_left; (intro x hx; (try dsimp only at hx); go_simp; try (with_reducible rfl)); (simp only [Act.put, List.setIfInBounds_toArray, List.set_cons_zero, List.set_cons_succ]))
        refine tree_call trivial (by rfl) (fun K hK => ?_)
        go_simp
        refine hK.out _ _ trivial (fun _ => ?_)
        clear hK K
        exact tree_done ⟨(y0.heap.size, .slice A1 ((LA).length + 1) k1), rfl, HE1.out⟩
  rintro ⟨B1, v1⟩ w1 hE1
  dsimp only at hE1
  have HEw1 := Lib.hid hE1
  clear hE1
  simp only [Act.put, List.setIfInBounds_toArray, List.set_cons_zero, List.set_cons_succ]
  go_wp2_with fail
  refine region_tree_ex (fun (act : Act) (B : Nat × Value) => ((((((((((((((((act.put (some 21) (.pointer (some ⟨b, 0, none⟩))).put (some 22) (.pointer (some ⟨b, 0, none⟩))).put (some 23) (.pointer (some ⟨b, 0, none⟩))).put (some 24) (.pointer (some ⟨b, 24, none⟩))).put (some 25) us).put (some 26) (.pointer (some ⟨b, 0, none⟩))).put (some 27) (.pointer (some ⟨b, 0, none⟩))).put (some 28) (.pointer (some ⟨b, 0, none⟩))).put (some 29) (.pointer (some ⟨b, 0, none⟩))).put (some 30) (.pointer (some ⟨b, 3, none⟩))).put (some 31) (.int .i64 i.b)).put (some 32) (.agg (celCells (regC 8 i.b pc off)).toArray)).put (some 33) (.slice (some ⟨B.1, 0, none⟩) 1 1)).put (some 34) B.2).put (some 35) (.pointer (some ⟨b, 0, none⟩))).put (some 36) (.pointer (some ⟨b, 24, none⟩))))
    (fun B y => Em b i z pc off S w0 y v1 B.2 (LA ++ [insC 4 i pc off]) (LE ++ [regC 8 i.b pc off]))
    (LinT.of [(0, true), (1, true), (2, true), (3, true), (5, true), (6, true), (7, true), (8, true), (9, true), (10, true)] (.two 4 11 (LinT.of [(11, false), (12, false), (13, false), (14, true), (15, true), (16, false)] .nil) (LinT.of [] (.two 4 12 (LinT.of [(12, false), (13, false), (14, true), (15, true), (16, false)] .nil) (LinT.of [(4, false), (13, false), (14, true), (15, true), (16, false)] .nil)))))
    (by kernel_rfl) (by kernel_rfl) rfl (by kernel_rfl) (fun y => y.cell? ⟨b, 3, none⟩ = some (.int .i64 i.b)) ?_ ?_
  · simp only [LinT.of, LinT.look, List.getElem?_toArray, List.getElem?_cons_succ, List.getElem?_cons_zero]
    have cL : w1.drew.cell? ⟨b, 24, none⟩ = some us := HEw1.out.cellE
    have cL2 : w1.cell? ⟨b, 24, none⟩ = some us := HEw1.out.cellE
    iterate 10 (refine tree_take (v := ?_) ((HEw1.out.drew).cellI (k := 3) rfl) (by rfl) ?_ ?_; rotate_left; (intro x hx; (try dsimp only at hx); go_simp; try (with_reducible rfl)); (simp only [Act.put, List.setIfInBounds_toArray, List.set_cons_zero, List.set_cons_succ]))
    refine tree_two ((HEw1.out.drew).cellI (k := 3) rfl) (by rfl) (by rfl) (fun K hK => ?_) (fun K hK => ?_)
    · go_simp
      refine hK.out _ _ ((HEw1.out.drew).cellI (k := 3) rfl) (fun _ => ?_)
      clear hK K
      try (simp only [Act.put, List.setIfInBounds_toArray, List.set_cons_zero, List.set_cons_succ])
      refine tree_call ((HEw1.out.drew).cellI (k := 3) rfl) (by rfl) (fun K hK => ?_)
      go_simp
      refine (withReg_any 8 i.b _ HEw1.out.drew).mono ?_; rintro e y0 ⟨rfl, hb0⟩
      go_wp2_with fail
      have HE0 := Lib.hid ((HEw1.out.drew).below hb0)
      have cL0 := HE0.out.cellE
      refine hK.out _ _ ((HE0.out).cellI (k := 3) rfl) (fun _ => ?_)
      clear hK K hb0
      try (simp only [Act.put, List.setIfInBounds_toArray, List.set_cons_zero, List.set_cons_succ])
      refine tree_call ((HE0.out).cellI (k := 3) rfl) (by rfl) (fun K hK => ?_)
      go_simp
      try rw [fold_cel]
      refine hK.out _ _ ((HE0.out.alloc _).cellI (k := 3) rfl) (fun _ => ?_)
      clear hK K
      change wpT _ _ _ _ _ _ _ (y0.alloc (.cells (celCells (regC 8 i.b pc off)).toArray 49))
      try (simp only [Act.put, List.setIfInBounds_toArray, List.set_cons_zero, List.set_cons_succ])
      refine tree_call ((HE0.out.alloc _).cellI (k := 3) rfl) (by rfl) (fun K hK => ?_)
      refine wp_append_new _ (.tmp 25) (.tmp 33) 22 rfl (b + 1) 49 i0 _ 9 72 Tryz.underlying22 HI.out HZ0.out HZ1.out HZ2.out rfl (by omega) us (LE).length (flat celCells (LE)) rfl (HE0.out.alloc _).oe _ (.slice (some ⟨y0.heap.size, 0, none⟩) 1 1) 1 (celCells (regC 8 i.b pc off)) rfl (row_new y0 (celCells (regC 8 i.b pc off)) 9 rfl (by omega) _) (celCells_one _) (by unfold maxLen; have := HLE.out; omega) (by have := HLE.out; omega) (by have := HE0.out.lt; simp; omega) ?_
      intro v1 y1 hO hg hn
      obtain ⟨hE1, q1, q2, q3, A1, k1, rfl⟩ := HE0.out.appE (c := regC 8 i.b pc off) hO hg hn
      have HE1 := Lib.hid hE1
      clear hO hg hn hE1
      refine hK.out _ _ (boxI q3 (k := 3) rfl) (fun _ => ?_)
      clear hK K
      try (simp only [Act.put, List.setIfInBounds_toArray, List.set_cons_zero, List.set_cons_succ])
      iterate 2 (refine tree_take (v := ?_) (boxI q3 (k := 3) rfl) (by rfl) ?_ ?_; rotate_left; (intro x hx; (try dsimp only at hx); go_simp; try (with_reducible rfl)); (simp only [Act.put, List.setIfInBounds_toArray, List.set_cons_zero, List.set_cons_succ]))
      refine tree_call (boxI q3 (k := 3) rfl) (by rfl) (fun K hK => ?_)
      go_simp
      refine hK.out _ _ ((HE1.out).cellI (k := 3) rfl) (fun _ => ?_)
      clear hK K
      exact tree_done ⟨(y0.heap.size, .slice A1 ((LE).length + 1) k1), rfl, HE1.out⟩
    · go_simp
      refine (withReg_any 8 i.b _ HEw1.out.drew).mono ?_; rintro e y0 ⟨rfl, hb0⟩
      go_wp2_with fail
      have HE0 := Lib.hid ((HEw1.out.drew).below hb0)
      have cL0 := HE0.out.cellE
      refine hK.out _ _ ((HE0.out).cellI (k := 3) rfl) (fun _ => ?_)
      clear hK K hb0
      try (simp only [Act.put, List.setIfInBounds_toArray, List.set_cons_zero, List.set_cons_succ])
      refine tree_two ((HE0.out).cellI (k := 3) rfl) (by rfl) (by rfl) (fun K hK => ?_) (fun K hK => ?_)
      · go_simp
        refine hK.out _ _ ((HE0.out).cellI (k := 3) rfl) (fun _ => ?_)
        clear hK K
        try (simp only [Act.put, List.setIfInBounds_toArray, List.set_cons_zero, List.set_cons_succ])
        refine tree_call ((HE0.out).cellI (k := 3) rfl) (by rfl) (fun K hK => ?_)
        go_simp
        try rw [fold_cel]
        refine hK.out _ _ ((HE0.out.alloc _).cellI (k := 3) rfl) (fun _ => ?_)
        clear hK K
        change wpT _ _ _ _ _ _ _ (y0.alloc (.cells (celCells (regC 8 i.b pc off)).toArray 49))
        try (simp only [Act.put, List.setIfInBounds_toArray, List.set_cons_zero, List.set_cons_succ])
        refine tree_call ((HE0.out.alloc _).cellI (k := 3) rfl) (by rfl) (fun K hK => ?_)
        refine wp_append_new _ (.tmp 25) (.tmp 33) 22 rfl (b + 1) 49 i0 _ 9 72 Tryz.underlying22 HI.out HZ0.out HZ1.out HZ2.out rfl (by omega) us (LE).length (flat celCells (LE)) rfl (HE0.out.alloc _).oe _ (.slice (some ⟨y0.heap.size, 0, none⟩) 1 1) 1 (celCells (regC 8 i.b pc off)) rfl (row_new y0 (celCells (regC 8 i.b pc off)) 9 rfl (by omega) _) (celCells_one _) (by unfold maxLen; have := HLE.out; omega) (by have := HLE.out; omega) (by have := HE0.out.lt; simp; omega) ?_
        intro v1 y1 hO hg hn
        obtain ⟨hE1, q1, q2, q3, A1, k1, rfl⟩ := HE0.out.appE (c := regC 8 i.b pc off) hO hg hn
        have HE1 := Lib.hid hE1
        clear hO hg hn hE1
        refine hK.out _ _ (boxI q3 (k := 3) rfl) (fun _ => ?_)
        clear hK K
        try (simp only [Act.put, List.setIfInBounds_toArray, List.set_cons_zero, List.set_cons_succ])
        iterate 2 (refine tree_take (v := ?_) (boxI q3 (k := 3) rfl) (by rfl) ?_ ?_; rotate_left; (intro x hx; (try dsimp only at hx); go_simp; try (with_reducible rfl)); (simp only [Act.put, List.setIfInBounds_toArray, List.set_cons_zero, List.set_cons_succ]))
        refine tree_call (boxI q3 (k := 3) rfl) (by rfl) (fun K hK => ?_)
        go_simp
        refine hK.out _ _ ((HE1.out).cellI (k := 3) rfl) (fun _ => ?_)
        clear hK K
        exact tree_done ⟨(y0.heap.size, .slice A1 ((LE).length + 1) k1), rfl, HE1.out⟩
      · go_simp
        try rw [fold_cel]
        have cLa := (HE0.out.alloc (.cells (celCells (regC 8 i.b pc off)).toArray 49)).cellE
        refine hK.out _ _ ((HE0.out.alloc _).cellI (k := 3) rfl) (fun _ => ?_)
        clear hK K
        change wpT _ _ _ _ _ _ _ (y0.alloc (.cells (celCells (regC 8 i.b pc off)).toArray 49))
        try (simp only [Act.put, List.setIfInBounds_toArray, List.set_cons_zero, List.set_cons_succ])
        refine tree_call ((HE0.out.alloc _).cellI (k := 3) rfl) (by rfl) (fun K hK => ?_)
        go_simp
        refine hK.out _ _ ((HE0.out.alloc _).cellI (k := 3) rfl) (fun _ => ?_)
        clear hK K
        try (simp only [Act.put, List.setIfInBounds_toArray, List.set_cons_zero, List.set_cons_succ])
        refine tree_call ((HE0.out.alloc _).cellI (k := 3) rfl) (by rfl) (fun K hK => ?_)
        refine wp_append_new _ (.tmp 25) (.tmp 33) 22 rfl (b + 1) 49 i0 _ 9 72 Tryz.underlying22 HI.out HZ0.out HZ1.out HZ2.out rfl (by omega) us (LE).length (flat celCells (LE)) rfl (HE0.out.alloc _).oe _ (.slice (some ⟨y0.heap.size, 0, none⟩) 1 1) 1 (celCells (regC 8 i.b pc off)) rfl (row_new y0 (celCells (regC 8 i.b pc off)) 9 rfl (by omega) _) (celCells_one _) (by unfold maxLen; have := HLE.out; omega) (by have := HLE.out; omega) (by have := HE0.out.lt; simp; omega) ?_
        intro v1 y1 hO hg hn
        obtain ⟨hE1, q1, q2, q3, A1, k1, rfl⟩ := HE0.out.appE (c := regC 8 i.b pc off) hO hg hn
        have HE1 := Lib.hid hE1
        clear hO hg hn hE1
        refine hK.out _ _ (boxI q3 (k := 3) rfl) (fun _ => ?_)
        clear hK K
        try (simp only [Act.put, List.setIfInBounds_toArray, List.set_cons_zero, List.set_cons_succ])
        iterate 2 (refine tree_take (v := ?_) (boxI q3 (k := 3) rfl) (by rfl) ?_ ?_; rotate_left; (intro x hx; (try dsimp only at hx); go_simp; try (with_reducible rfl)); (simp only [Act.put, List.setIfInBounds_toArray, List.set_cons_zero, List.set_cons_succ]))
        refine tree_call (boxI q3 (k := 3) rfl) (by rfl) (fun K hK => ?_)
        go_simp
        refine hK.out _ _ ((HE1.out).cellI (k := 3) rfl) (fun _ => ?_)
        clear hK K
        exact tree_done ⟨(y0.heap.size, .slice A1 ((LE).length + 1) k1), rfl, HE1.out⟩
  rintro ⟨B2, v2⟩ w2 hE2
  dsimp only at hE2
  have HEw2 := Lib.hid hE2
  clear hE2
  simp only [Act.put, List.setIfInBounds_toArray, List.set_cons_zero, List.set_cons_succ]
  go_wp2_with fail
  have hE2 := HEw2.out
  rw [HNA.out, HNE.out] at hE2
  first | exact bodyPost_ret (v := .tuple #[]) (by simp [results, Tryz.results97, go_sem]) rfl ⟨rfl, _, _, hE2⟩ | exact bodyPost_end (v := .tuple #[]) (by simp [results, Tryz.results97, go_sem]) rfl ⟨rfl, _, _, hE2⟩
end Go.Proofs.YteagglddgkjkmaaGreat.Words

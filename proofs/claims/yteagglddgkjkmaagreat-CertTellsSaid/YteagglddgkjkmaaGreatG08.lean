/- Several texts in one: EmtBranch, EmtReckon. -/
import Derived.Test.YteagglddgkjkmaaGreatG07

/- Contract of package emit's branch: the cells of a branch. -/
namespace Go.Proofs.YteagglddgkjkmaaGreat.Words
set_option maxRecDepth 100000
open Go.RowKit
set_option linter.unusedVariables false
set_option linter.unusedSimpArgs false

set_option maxHeartbeats 4000000 in
theorem branch_a {b : Nat} {i : Ins} {z : List Int} {pc off : Int} {S : Nat → Prop} {w0 : World} {va ve : Value} {la le : List Cel} (w : World) (h : Em b i z pc off S w0 w va ve la le) (hr : rightB i = true) (hla : la.length ≤ 50) (hle : le.length ≤ 50) (ha : anyEB (readsZ i) z = false) :
    Calls Tryz.prog 98 #[.pointer (some ⟨b, 0, none⟩)] w fun e w' => e = .returned (.tuple #[]) ∧ ∃ va' ve', Em b i z pc off S w0 w' va' ve' (la ++ [insC 9 i pc off]) (le ++ [bareC 10 pc off]) := by
  have HEw := Lib.hid h
  have HLA0 := Lib.hid hla
  have HLE0 := Lib.hid hle
  have HLA : Hid (la.length ≤ 100) := Nat.le_trans hla (by omega)
  have HLE : Hid (le.length ≤ 100) := Nat.le_trans hle (by omega)
  have hrr := right_range hr
  have HRR := Lib.hid hrr
  obtain ⟨i0, hi, hz0, hz1, hz2⟩ := info_parts info_cel
  have HI := Lib.hid hi
  have HZ0 := Lib.hid hz0
  have HZ1 := Lib.hid hz1
  have HZ2 := Lib.hid hz2
  clear hi hz0 hz1 hz2
  have HAA := Lib.hid ha
  clear h hla hle hr hrr ha
  go_enter Tryz.func98, Tryz.ntmps98
  go_wp2_with (first
    | (refine wpList_load_box rfl 44 (.tmp 5) rfl b 0 rfl (cellsL i z pc off va ve) (insV i) HEw.out.bx (fun j v h => cellsL_ins h) _ Tryz.underlying44 rfl 5 size_ins5 rfl ?_))
  refine (readsN_any i _).mono ?_; rintro e wq ⟨v, rfl, hrow, hnew, hbq⟩
  have HEwq := Lib.hid (HEw.out.below hbq)
  obtain ⟨A1, cap1, rfl⟩ := hrow.form
  have HRQ := Lib.hid hrow
  have HAQ : Hid (∀ a, A1 = some a → ¬ (a.block = b ∨ va.ownBlock = some a.block ∨ ve.ownBlock = some a.block)) := by
    intro a ha
    have h1 := hnew a _ _ (by rw [ha])
    have h2 := HEw.out.lt
    rintro (e | e | e)
    · omega
    · have := (HEw.out.oa.lt _ e).2; omega
    · have := (HEw.out.oe.lt _ e).2; omega
  have HRL := Lib.hid (reads_len i)
  have HRM : Hid (∀ r ∈ readsZ i, 0 ≤ r ∧ r ≤ 15) := fun r hr => by have := reads_mem hr; omega
  clear hrow hnew hbq
  go_wp2_with fail
  refine (containsFunc_any A1 cap1 _ (readsZ i) _ HEwq.out rfl HRQ.out (by have := HRL.out; omega) HRM.out).mono ?_; rintro e wz ⟨rfl, rfl⟩
  try dsimp only
  rw [HAA.out]
  go_wp2_with fail
  refine region_tree_ex (fun (act : Act) (B : Nat × Value) => (((((((((((act.put (some 13) (.pointer (some ⟨b, 0, none⟩))).put (some 14) (.pointer (some ⟨b, 0, none⟩))).put (some 15) (.pointer (some ⟨b, 0, none⟩))).put (some 16) (.pointer (some ⟨b, 23, none⟩))).put (some 17) va).put (some 18) (.pointer (some ⟨b, 0, none⟩))).put (some 19) (.agg (celCells (insC 9 i pc off)).toArray)).put (some 20) (.slice (some ⟨B.1, 0, none⟩) 1 1)).put (some 21) B.2).put (some 22) (.pointer (some ⟨b, 0, none⟩))).put (some 23) (.pointer (some ⟨b, 23, none⟩))))
    (fun B y => Em b i z pc off S w0 y B.2 ve (la ++ [insC 9 i pc off]) (le))
    (LinT.of [(0, true), (1, true), (2, true), (3, true), (5, true)] (.two 4 6 (LinT.of [(6, false), (7, false), (8, false), (9, true), (10, true), (11, false)] .nil) (LinT.of [] (.two 4 7 (LinT.of [(7, false), (8, false), (9, true), (10, true), (11, false)] .nil) (LinT.of [(4, false), (8, false), (9, true), (10, true), (11, false)] .nil)))))
    (by kernel_rfl) (by kernel_rfl) rfl (by kernel_rfl) (fun _ => True) ?_ ?_
  · simp only [LinT.of, LinT.look, List.getElem?_toArray, List.getElem?_cons_succ, List.getElem?_cons_zero]
    have cL : wz.drew.cell? ⟨b, 23, none⟩ = some va := HEwq.out.cellA
    have cL2 : wz.cell? ⟨b, 23, none⟩ = some va := HEwq.out.cellA
    iterate 5 (refine tree_take (v := ?_) trivial (by rfl) ?_ ?_; rotate_left; (intro x hx; (try dsimp only at hx); go_simp; try (with_reducible rfl)); (simp only [Act.put, List.setIfInBounds_toArray, List.set_cons_zero, List.set_cons_succ]))
    refine tree_two trivial (by rfl) (by rfl) (fun K hK => ?_) (fun K hK => ?_)
    · go_simp
      refine hK.out _ _ trivial (fun _ => ?_)
      clear hK K
      try (simp only [Act.put, List.setIfInBounds_toArray, List.set_cons_zero, List.set_cons_succ])
      refine tree_call trivial (by rfl) (fun K hK => ?_)
      go_simp
      refine (withIns_any 9 _ HEwq.out.drew).mono ?_; rintro e y0 ⟨rfl, hb0⟩
      go_wp2_with fail
      have HE0 := Lib.hid ((HEwq.out.drew).below hb0)
      have cL0 := HE0.out.cellA
      refine hK.out _ _ trivial (fun _ => ?_)
      clear hK K hb0
      try (simp only [Act.put, List.setIfInBounds_toArray, List.set_cons_zero, List.set_cons_succ])
      refine tree_call trivial (by rfl) (fun K hK => ?_)
      go_simp
      try rw [fold_cel]
      refine hK.out _ _ trivial (fun _ => ?_)
      clear hK K
      change wpT _ _ _ _ _ _ _ (y0.alloc (.cells (celCells (insC 9 i pc off)).toArray 49))
      try (simp only [Act.put, List.setIfInBounds_toArray, List.set_cons_zero, List.set_cons_succ])
      refine tree_call trivial (by rfl) (fun K hK => ?_)
      refine wp_append_new _ (.tmp 17) (.tmp 20) 22 rfl (b + 1) 49 i0 _ 9 72 Tryz.underlying22 HI.out HZ0.out HZ1.out HZ2.out rfl (by omega) va (la).length (flat celCells (la)) rfl (HE0.out.alloc _).oa _ (.slice (some ⟨y0.heap.size, 0, none⟩) 1 1) 1 (celCells (insC 9 i pc off)) rfl (row_new y0 (celCells (insC 9 i pc off)) 9 rfl (by omega) _) (celCells_one _) (by unfold maxLen; have := HLA.out; omega) (by have := HLA.out; omega) (by have := HE0.out.lt; simp; omega) ?_
      intro v1 y1 hO hg hn
      obtain ⟨hE1, q1, q2, q3, A1, k1, rfl⟩ := HE0.out.appA (c := insC 9 i pc off) hO hg hn
      have HE1 := Lib.hid hE1
      clear hO hg hn hE1
      refine hK.out _ _ trivial (fun _ => ?_)
      clear hK K
      try (simp only [Act.put, List.setIfInBounds_toArray, List.set_cons_zero, List.set_cons_succ])
      iterate 2 (refine tree_take (v := ?_) trivial (by rfl) ?_ ?_; rotate_left; (intro x hx; (try dsimp only at hx); go_simp; try (with_reducible rfl)); (simp only [Act.put, List.setIfInBounds_toArray, List.set_cons_zero, List.set_cons_succ]))
      refine tree_call trivial (by rfl) (fun K hK => ?_)
      go_simp
      refine hK.out _ _ trivial (fun _ => ?_)
      clear hK K
      exact tree_done ⟨(y0.heap.size, .slice A1 ((la).length + 1) k1), rfl, HE1.out⟩
    · go_simp
      refine (withIns_any 9 _ HEwq.out.drew).mono ?_; rintro e y0 ⟨rfl, hb0⟩
      go_wp2_with fail
      have HE0 := Lib.hid ((HEwq.out.drew).below hb0)
      have cL0 := HE0.out.cellA
      refine hK.out _ _ trivial (fun _ => ?_)
      clear hK K hb0
      try (simp only [Act.put, List.setIfInBounds_toArray, List.set_cons_zero, List.set_cons_succ])
      refine tree_two trivial (by rfl) (by rfl) (fun K hK => ?_) (fun K hK => ?_)
      · go_simp
        refine hK.out _ _ trivial (fun _ => ?_)
        clear hK K
        try (simp only [Act.put, List.setIfInBounds_toArray, List.set_cons_zero, List.set_cons_succ])
        refine tree_call trivial (by rfl) (fun K hK => ?_)
        go_simp
        try rw [fold_cel]
        refine hK.out _ _ trivial (fun _ => ?_)
        clear hK K
        change wpT _ _ _ _ _ _ _ (y0.alloc (.cells (celCells (insC 9 i pc off)).toArray 49))
        try (simp only [Act.put, List.setIfInBounds_toArray, List.set_cons_zero, List.set_cons_succ])
        refine tree_call trivial (by rfl) (fun K hK => ?_)
        refine wp_append_new _ (.tmp 17) (.tmp 20) 22 rfl (b + 1) 49 i0 _ 9 72 Tryz.underlying22 HI.out HZ0.out HZ1.out HZ2.out rfl (by omega) va (la).length (flat celCells (la)) rfl (HE0.out.alloc _).oa _ (.slice (some ⟨y0.heap.size, 0, none⟩) 1 1) 1 (celCells (insC 9 i pc off)) rfl (row_new y0 (celCells (insC 9 i pc off)) 9 rfl (by omega) _) (celCells_one _) (by unfold maxLen; have := HLA.out; omega) (by have := HLA.out; omega) (by have := HE0.out.lt; simp; omega) ?_
        intro v1 y1 hO hg hn
        obtain ⟨hE1, q1, q2, q3, A1, k1, rfl⟩ := HE0.out.appA (c := insC 9 i pc off) hO hg hn
        have HE1 := Lib.hid hE1
        clear hO hg hn hE1
        refine hK.out _ _ trivial (fun _ => ?_)
        clear hK K
        try (simp only [Act.put, List.setIfInBounds_toArray, List.set_cons_zero, List.set_cons_succ])
        iterate 2 (refine tree_take (v := ?_) trivial (by rfl) ?_ ?_; rotate_left; (intro x hx; (try dsimp only at hx); go_simp; try (with_reducible rfl)); (simp only [Act.put, List.setIfInBounds_toArray, List.set_cons_zero, List.set_cons_succ]))
        refine tree_call trivial (by rfl) (fun K hK => ?_)
        go_simp
        refine hK.out _ _ trivial (fun _ => ?_)
        clear hK K
        exact tree_done ⟨(y0.heap.size, .slice A1 ((la).length + 1) k1), rfl, HE1.out⟩
      · go_simp
        try rw [fold_cel]
        have cLa := (HE0.out.alloc (.cells (celCells (insC 9 i pc off)).toArray 49)).cellA
        refine hK.out _ _ trivial (fun _ => ?_)
        clear hK K
        change wpT _ _ _ _ _ _ _ (y0.alloc (.cells (celCells (insC 9 i pc off)).toArray 49))
        try (simp only [Act.put, List.setIfInBounds_toArray, List.set_cons_zero, List.set_cons_succ])
        refine tree_call trivial (by rfl) (fun K hK => ?_)
        go_simp
        refine hK.out _ _ trivial (fun _ => ?_)
        clear hK K
        try (simp only [Act.put, List.setIfInBounds_toArray, List.set_cons_zero, List.set_cons_succ])
        refine tree_call trivial (by rfl) (fun K hK => ?_)
        refine wp_append_new _ (.tmp 17) (.tmp 20) 22 rfl (b + 1) 49 i0 _ 9 72 Tryz.underlying22 HI.out HZ0.out HZ1.out HZ2.out rfl (by omega) va (la).length (flat celCells (la)) rfl (HE0.out.alloc _).oa _ (.slice (some ⟨y0.heap.size, 0, none⟩) 1 1) 1 (celCells (insC 9 i pc off)) rfl (row_new y0 (celCells (insC 9 i pc off)) 9 rfl (by omega) _) (celCells_one _) (by unfold maxLen; have := HLA.out; omega) (by have := HLA.out; omega) (by have := HE0.out.lt; simp; omega) ?_
        intro v1 y1 hO hg hn
        obtain ⟨hE1, q1, q2, q3, A1, k1, rfl⟩ := HE0.out.appA (c := insC 9 i pc off) hO hg hn
        have HE1 := Lib.hid hE1
        clear hO hg hn hE1
        refine hK.out _ _ trivial (fun _ => ?_)
        clear hK K
        try (simp only [Act.put, List.setIfInBounds_toArray, List.set_cons_zero, List.set_cons_succ])
        iterate 2 (refine tree_take (v := ?_) trivial (by rfl) ?_ ?_; rotate_left; (intro x hx; (try dsimp only at hx); go_simp; try (with_reducible rfl)); (simp only [Act.put, List.setIfInBounds_toArray, List.set_cons_zero, List.set_cons_succ]))
        refine tree_call trivial (by rfl) (fun K hK => ?_)
        go_simp
        refine hK.out _ _ trivial (fun _ => ?_)
        clear hK K
        exact tree_done ⟨(y0.heap.size, .slice A1 ((la).length + 1) k1), rfl, HE1.out⟩
  rintro ⟨B1, v1⟩ w1 hE1
  dsimp only at hE1
  have HEw1 := Lib.hid hE1
  clear hE1
  simp only [Act.put, List.setIfInBounds_toArray, List.set_cons_zero, List.set_cons_succ]
  go_wp2_with fail
  refine region_tree_ex (fun (act : Act) (B : Nat × Value) => (((((((((((act.put (some 24) (.pointer (some ⟨b, 0, none⟩))).put (some 25) (.pointer (some ⟨b, 0, none⟩))).put (some 26) (.pointer (some ⟨b, 0, none⟩))).put (some 27) (.pointer (some ⟨b, 24, none⟩))).put (some 28) ve).put (some 29) (.pointer (some ⟨b, 0, none⟩))).put (some 30) (.agg (celCells (bareC 10 pc off)).toArray)).put (some 31) (.slice (some ⟨B.1, 0, none⟩) 1 1)).put (some 32) B.2).put (some 33) (.pointer (some ⟨b, 0, none⟩))).put (some 34) (.pointer (some ⟨b, 24, none⟩))))
    (fun B y => Em b i z pc off S w0 y v1 B.2 (la ++ [insC 9 i pc off]) (le ++ [bareC 10 pc off]))
    (LinT.of [(0, true), (1, true), (2, true), (3, true), (5, true)] (.two 4 6 (LinT.of [(6, false), (7, false), (8, false), (9, true), (10, true), (11, false)] .nil) (LinT.of [] (.two 4 7 (LinT.of [(7, false), (8, false), (9, true), (10, true), (11, false)] .nil) (LinT.of [(4, false), (8, false), (9, true), (10, true), (11, false)] .nil)))))
    (by kernel_rfl) (by kernel_rfl) rfl (by kernel_rfl) (fun _ => True) ?_ ?_
  · simp only [LinT.of, LinT.look, List.getElem?_toArray, List.getElem?_cons_succ, List.getElem?_cons_zero]
    have cL : w1.drew.cell? ⟨b, 24, none⟩ = some ve := HEw1.out.cellE
    have cL2 : w1.cell? ⟨b, 24, none⟩ = some ve := HEw1.out.cellE
    iterate 5 (refine tree_take (v := ?_) trivial (by rfl) ?_ ?_; rotate_left; (intro x hx; (try dsimp only at hx); go_simp; try (with_reducible rfl)); (simp only [Act.put, List.setIfInBounds_toArray, List.set_cons_zero, List.set_cons_succ]))
    refine tree_two trivial (by rfl) (by rfl) (fun K hK => ?_) (fun K hK => ?_)
    · go_simp
      refine hK.out _ _ trivial (fun _ => ?_)
      clear hK K
      try (simp only [Act.put, List.setIfInBounds_toArray, List.set_cons_zero, List.set_cons_succ])
      refine tree_call trivial (by rfl) (fun K hK => ?_)
      go_simp
      refine (bare_any 10 _ HEw1.out.drew).mono ?_; rintro e y0 ⟨rfl, hb0⟩
      go_wp2_with fail
      have HE0 := Lib.hid ((HEw1.out.drew).below hb0)
      have cL0 := HE0.out.cellE
      refine hK.out _ _ trivial (fun _ => ?_)
      clear hK K hb0
      try (simp only [Act.put, List.setIfInBounds_toArray, List.set_cons_zero, List.set_cons_succ])
      refine tree_call trivial (by rfl) (fun K hK => ?_)
      go_simp
      try rw [fold_cel]
      refine hK.out _ _ trivial (fun _ => ?_)
      clear hK K
      change wpT _ _ _ _ _ _ _ (y0.alloc (.cells (celCells (bareC 10 pc off)).toArray 49))
      try (simp only [Act.put, List.setIfInBounds_toArray, List.set_cons_zero, List.set_cons_succ])
      refine tree_call trivial (by rfl) (fun K hK => ?_)
      refine wp_append_new _ (.tmp 28) (.tmp 31) 22 rfl (b + 1) 49 i0 _ 9 72 Tryz.underlying22 HI.out HZ0.out HZ1.out HZ2.out rfl (by omega) ve (le).length (flat celCells (le)) rfl (HE0.out.alloc _).oe _ (.slice (some ⟨y0.heap.size, 0, none⟩) 1 1) 1 (celCells (bareC 10 pc off)) rfl (row_new y0 (celCells (bareC 10 pc off)) 9 rfl (by omega) _) (celCells_one _) (by unfold maxLen; have := HLE.out; omega) (by have := HLE.out; omega) (by have := HE0.out.lt; simp; omega) ?_
      intro v1 y1 hO hg hn
      obtain ⟨hE1, q1, q2, q3, A1, k1, rfl⟩ := HE0.out.appE (c := bareC 10 pc off) hO hg hn
      have HE1 := Lib.hid hE1
      clear hO hg hn hE1
      refine hK.out _ _ trivial (fun _ => ?_)
      clear hK K
      try (simp only [Act.put, List.setIfInBounds_toArray, List.set_cons_zero, List.set_cons_succ])
      iterate 2 (refine tree_take (v := ?_) trivial (by rfl) ?_ ?_; rotate_left; (intro x hx; (try dsimp only at hx); go_simp; try (with_reducible rfl)); (simp only [Act.put, List.setIfInBounds_toArray, List.set_cons_zero, List.set_cons_succ]))
      refine tree_call trivial (by rfl) (fun K hK => ?_)
      go_simp
      refine hK.out _ _ trivial (fun _ => ?_)
      clear hK K
      exact tree_done ⟨(y0.heap.size, .slice A1 ((le).length + 1) k1), rfl, HE1.out⟩
    · go_simp
      refine (bare_any 10 _ HEw1.out.drew).mono ?_; rintro e y0 ⟨rfl, hb0⟩
      go_wp2_with fail
      have HE0 := Lib.hid ((HEw1.out.drew).below hb0)
      have cL0 := HE0.out.cellE
      refine hK.out _ _ trivial (fun _ => ?_)
      clear hK K hb0
      try (simp only [Act.put, List.setIfInBounds_toArray, List.set_cons_zero, List.set_cons_succ])
      refine tree_two trivial (by rfl) (by rfl) (fun K hK => ?_) (fun K hK => ?_)
      · go_simp
        refine hK.out _ _ trivial (fun _ => ?_)
        clear hK K
        try (simp only [Act.put, List.setIfInBounds_toArray, List.set_cons_zero, List.set_cons_succ])
        refine tree_call trivial (by rfl) (fun K hK => ?_)
        go_simp
        try rw [fold_cel]
        refine hK.out _ _ trivial (fun _ => ?_)
        clear hK K
        change wpT _ _ _ _ _ _ _ (y0.alloc (.cells (celCells (bareC 10 pc off)).toArray 49))
        try (simp only [Act.put, List.setIfInBounds_toArray, List.set_cons_zero, List.set_cons_succ])
        refine tree_call trivial (by rfl) (fun K hK => ?_)
        refine wp_append_new _ (.tmp 28) (.tmp 31) 22 rfl (b + 1) 49 i0 _ 9 72 Tryz.underlying22 HI.out HZ0.out HZ1.out HZ2.out rfl (by omega) ve (le).length (flat celCells (le)) rfl (HE0.out.alloc _).oe _ (.slice (some ⟨y0.heap.size, 0, none⟩) 1 1) 1 (celCells (bareC 10 pc off)) rfl (row_new y0 (celCells (bareC 10 pc off)) 9 rfl (by omega) _) (celCells_one _) (by unfold maxLen; have := HLE.out; omega) (by have := HLE.out; omega) (by have := HE0.out.lt; simp; omega) ?_
        intro v1 y1 hO hg hn
        obtain ⟨hE1, q1, q2, q3, A1, k1, rfl⟩ := HE0.out.appE (c := bareC 10 pc off) hO hg hn
        have HE1 := Lib.hid hE1
        clear hO hg hn hE1
        refine hK.out _ _ trivial (fun _ => ?_)
        clear hK K
        try (simp only [Act.put, List.setIfInBounds_toArray, List.set_cons_zero, List.set_cons_succ])
        iterate 2 (refine tree_take (v := ?_) trivial (by rfl) ?_ ?_; rotate_left; (intro x hx; (try dsimp only at hx); go_simp; try (with_reducible rfl)); (simp only [Act.put, List.setIfInBounds_toArray, List.set_cons_zero, List.set_cons_succ]))
        refine tree_call trivial (by rfl) (fun K hK => ?_)
        go_simp
        refine hK.out _ _ trivial (fun _ => ?_)
        clear hK K
        exact tree_done ⟨(y0.heap.size, .slice A1 ((le).length + 1) k1), rfl, HE1.out⟩
      · go_simp
        try rw [fold_cel]
        have cLa := (HE0.out.alloc (.cells (celCells (bareC 10 pc off)).toArray 49)).cellE
        refine hK.out _ _ trivial (fun _ => ?_)
        clear hK K
        change wpT _ _ _ _ _ _ _ (y0.alloc (.cells (celCells (bareC 10 pc off)).toArray 49))
        try (simp only [Act.put, List.setIfInBounds_toArray, List.set_cons_zero, List.set_cons_succ])
        refine tree_call trivial (by rfl) (fun K hK => ?_)
        go_simp
        refine hK.out _ _ trivial (fun _ => ?_)
        clear hK K
        try (simp only [Act.put, List.setIfInBounds_toArray, List.set_cons_zero, List.set_cons_succ])
        refine tree_call trivial (by rfl) (fun K hK => ?_)
        refine wp_append_new _ (.tmp 28) (.tmp 31) 22 rfl (b + 1) 49 i0 _ 9 72 Tryz.underlying22 HI.out HZ0.out HZ1.out HZ2.out rfl (by omega) ve (le).length (flat celCells (le)) rfl (HE0.out.alloc _).oe _ (.slice (some ⟨y0.heap.size, 0, none⟩) 1 1) 1 (celCells (bareC 10 pc off)) rfl (row_new y0 (celCells (bareC 10 pc off)) 9 rfl (by omega) _) (celCells_one _) (by unfold maxLen; have := HLE.out; omega) (by have := HLE.out; omega) (by have := HE0.out.lt; simp; omega) ?_
        intro v1 y1 hO hg hn
        obtain ⟨hE1, q1, q2, q3, A1, k1, rfl⟩ := HE0.out.appE (c := bareC 10 pc off) hO hg hn
        have HE1 := Lib.hid hE1
        clear hO hg hn hE1
        refine hK.out _ _ trivial (fun _ => ?_)
        clear hK K
        try (simp only [Act.put, List.setIfInBounds_toArray, List.set_cons_zero, List.set_cons_succ])
        iterate 2 (refine tree_take (v := ?_) trivial (by rfl) ?_ ?_; rotate_left; (intro x hx; (try dsimp only at hx); go_simp; try (with_reducible rfl)); (simp only [Act.put, List.setIfInBounds_toArray, List.set_cons_zero, List.set_cons_succ]))
        refine tree_call trivial (by rfl) (fun K hK => ?_)
        go_simp
        refine hK.out _ _ trivial (fun _ => ?_)
        clear hK K
        exact tree_done ⟨(y0.heap.size, .slice A1 ((le).length + 1) k1), rfl, HE1.out⟩
  rintro ⟨B2, v2⟩ w2 hE2
  dsimp only at hE2
  have HEw2 := Lib.hid hE2
  clear hE2
  simp only [Act.put, List.setIfInBounds_toArray, List.set_cons_zero, List.set_cons_succ]
  go_wp2_with fail
  first | exact bodyPost_ret (v := .tuple #[]) (by simp [results, Tryz.results98, go_sem]) rfl ⟨rfl, _, _, HEw2.out⟩ | exact bodyPost_end (v := .tuple #[]) (by simp [results, Tryz.results98, go_sem]) rfl ⟨rfl, _, _, HEw2.out⟩

set_option maxHeartbeats 4000000 in
theorem branch_e {b : Nat} {i : Ins} {z : List Int} {pc off : Int} {S : Nat → Prop} {w0 : World} {va ve : Value} {la le : List Cel} (w : World) (h : Em b i z pc off S w0 w va ve la le) (hr : rightB i = true) (hla : la.length ≤ 50) (hle : le.length ≤ 50) (ha : anyEB (readsZ i) z = true) :
    Calls Tryz.prog 98 #[.pointer (some ⟨b, 0, none⟩)] w fun e w' => e = .returned (.tuple #[]) ∧ ∃ va' ve', Em b i z pc off S w0 w' va' ve' ((la ++ regsC 5 pc off (sentL z (readsZ i))) ++ [bareC 10 pc off]) ((le ++ regsC 6 pc off (sentL z (readsZ i))) ++ [insC 9 i pc off]) := by
  have HEw := Lib.hid h
  have HLA0 := Lib.hid hla
  have HLE0 := Lib.hid hle
  have HLA : Hid (la.length ≤ 100) := Nat.le_trans hla (by omega)
  have HLE : Hid (le.length ≤ 100) := Nat.le_trans hle (by omega)
  have hrr := right_range hr
  have HRR := Lib.hid hrr
  obtain ⟨i0, hi, hz0, hz1, hz2⟩ := info_parts info_cel
  have HI := Lib.hid hi
  have HZ0 := Lib.hid hz0
  have HZ1 := Lib.hid hz1
  have HZ2 := Lib.hid hz2
  clear hi hz0 hz1 hz2
  have HAA := Lib.hid ha
  clear h hla hle hr hrr ha
  go_enter Tryz.func98, Tryz.ntmps98
  go_wp2_with (first
    | (refine wpList_load_box rfl 44 (.tmp 5) rfl b 0 rfl (cellsL i z pc off va ve) (insV i) HEw.out.bx (fun j v h => cellsL_ins h) _ Tryz.underlying44 rfl 5 size_ins5 rfl ?_))
  refine (readsN_any i _).mono ?_; rintro e wq ⟨v, rfl, hrow, hnew, hbq⟩
  have HEwq := Lib.hid (HEw.out.below hbq)
  obtain ⟨A1, cap1, rfl⟩ := hrow.form
  have HRQ := Lib.hid hrow
  have HAQ : Hid (∀ a, A1 = some a → ¬ (a.block = b ∨ va.ownBlock = some a.block ∨ ve.ownBlock = some a.block)) := by
    intro a ha
    have h1 := hnew a _ _ (by rw [ha])
    have h2 := HEw.out.lt
    rintro (e | e | e)
    · omega
    · have := (HEw.out.oa.lt _ e).2; omega
    · have := (HEw.out.oe.lt _ e).2; omega
  have HRL := Lib.hid (reads_len i)
  have HRM : Hid (∀ r ∈ readsZ i, 0 ≤ r ∧ r ≤ 15) := fun r hr => by have := reads_mem hr; omega
  clear hrow hnew hbq
  go_wp2_with fail
  refine (containsFunc_any A1 cap1 _ (readsZ i) _ HEwq.out rfl HRQ.out (by have := HRL.out; omega) HRM.out).mono ?_; rintro e wz ⟨rfl, rfl⟩
  try dsimp only
  rw [HAA.out]
  go_wp2_with fail
  refine (send_any A1 cap1 _ (readsZ i) _ HEwq.out HLA0.out HLE0.out rfl HRQ.out HAQ.out (by have := HRL.out; omega) HRM.out).mono ?_
  rintro e ws ⟨rfl, vs, us, hEs⟩
  have HEws := Lib.hid hEs
  clear hEs
  obtain ⟨LA, hLA⟩ : ∃ LA, LA = la ++ regsC 5 pc off (sentL z (readsZ i)) := ⟨_, rfl⟩
  obtain ⟨LE, hLE⟩ : ∃ LE, LE = le ++ regsC 6 pc off (sentL z (readsZ i)) := ⟨_, rfl⟩
  have HLA : Hid (LA.length ≤ 100) := by rw [hLA, List.length_append, regsC_len]; have := sent_len z (readsZ i); have := HRL.out; have := HLA0.out; show _ ≤ _; omega
  have HLE : Hid (LE.length ≤ 100) := by rw [hLE, List.length_append, regsC_len]; have := sent_len z (readsZ i); have := HRL.out; have := HLE0.out; show _ ≤ _; omega
  have HNA := Lib.hid hLA
  have HNE := Lib.hid hLE
  rw [← hLA, ← hLE] at HEws
  clear hLA hLE
  go_wp2_with fail
  refine region_tree_ex (fun (act : Act) (B : Nat × Value) => (((((((((((act.put (some 38) (.pointer (some ⟨b, 0, none⟩))).put (some 39) (.pointer (some ⟨b, 0, none⟩))).put (some 40) (.pointer (some ⟨b, 0, none⟩))).put (some 41) (.pointer (some ⟨b, 23, none⟩))).put (some 42) vs).put (some 43) (.pointer (some ⟨b, 0, none⟩))).put (some 44) (.agg (celCells (bareC 10 pc off)).toArray)).put (some 45) (.slice (some ⟨B.1, 0, none⟩) 1 1)).put (some 46) B.2).put (some 47) (.pointer (some ⟨b, 0, none⟩))).put (some 48) (.pointer (some ⟨b, 23, none⟩))))
    (fun B y => Em b i z pc off S w0 y B.2 us (LA ++ [bareC 10 pc off]) (LE))
    (LinT.of [(0, true), (1, true), (2, true), (3, true), (5, true)] (.two 4 6 (LinT.of [(6, false), (7, false), (8, false), (9, true), (10, true), (11, false)] .nil) (LinT.of [] (.two 4 7 (LinT.of [(7, false), (8, false), (9, true), (10, true), (11, false)] .nil) (LinT.of [(4, false), (8, false), (9, true), (10, true), (11, false)] .nil)))))
    (by kernel_rfl) (by kernel_rfl) rfl (by kernel_rfl) (fun _ => True) ?_ ?_
  · simp only [LinT.of, LinT.look, List.getElem?_toArray, List.getElem?_cons_succ, List.getElem?_cons_zero]
    have cL : ws.drew.cell? ⟨b, 23, none⟩ = some vs := HEws.out.cellA
    have cL2 : ws.cell? ⟨b, 23, none⟩ = some vs := HEws.out.cellA
    iterate 5 (refine tree_take (v := ?_) trivial (by rfl) ?_ ?_; rotate_left; (intro x hx; (try dsimp only at hx); go_simp; try (with_reducible rfl)); (simp only [Act.put, List.setIfInBounds_toArray, List.set_cons_zero, List.set_cons_succ]))
    refine tree_two trivial (by rfl) (by rfl) (fun K hK => ?_) (fun K hK => ?_)
    · go_simp
      refine hK.out _ _ trivial (fun _ => ?_)
      clear hK K
      try (simp only [Act.put, List.setIfInBounds_toArray, List.set_cons_zero, List.set_cons_succ])
      refine tree_call trivial (by rfl) (fun K hK => ?_)
      go_simp
      refine (bare_any 10 _ HEws.out.drew).mono ?_; rintro e y0 ⟨rfl, hb0⟩
      go_wp2_with fail
      have HE0 := Lib.hid ((HEws.out.drew).below hb0)
      have cL0 := HE0.out.cellA
      refine hK.out _ _ trivial (fun _ => ?_)
      clear hK K hb0
      try (simp only [Act.put, List.setIfInBounds_toArray, List.set_cons_zero, List.set_cons_succ])
      refine tree_call trivial (by rfl) (fun K hK => ?_)
      go_simp
      try rw [fold_cel]
      refine hK.out _ _ trivial (fun _ => ?_)
      clear hK K
      change wpT _ _ _ _ _ _ _ (y0.alloc (.cells (celCells (bareC 10 pc off)).toArray 49))
      try (simp only [Act.put, List.setIfInBounds_toArray, List.set_cons_zero, List.set_cons_succ])
      refine tree_call trivial (by rfl) (fun K hK => ?_)
      refine wp_append_new _ (.tmp 42) (.tmp 45) 22 rfl (b + 1) 49 i0 _ 9 72 Tryz.underlying22 HI.out HZ0.out HZ1.out HZ2.out rfl (by omega) vs (LA).length (flat celCells (LA)) rfl (HE0.out.alloc _).oa _ (.slice (some ⟨y0.heap.size, 0, none⟩) 1 1) 1 (celCells (bareC 10 pc off)) rfl (row_new y0 (celCells (bareC 10 pc off)) 9 rfl (by omega) _) (celCells_one _) (by unfold maxLen; have := HLA.out; omega) (by have := HLA.out; omega) (by have := HE0.out.lt; simp; omega) ?_
      intro v1 y1 hO hg hn
      obtain ⟨hE1, q1, q2, q3, A1, k1, rfl⟩ := HE0.out.appA (c := bareC 10 pc off) hO hg hn
      have HE1 := Lib.hid hE1
      clear hO hg hn hE1
      refine hK.out _ _ trivial (fun _ => ?_)
      clear hK K
      try (simp only [Act.put, List.setIfInBounds_toArray, List.set_cons_zero, List.set_cons_succ])
      iterate 2 (refine tree_take (v := ?_) trivial (by rfl) ?_ ?_; rotate_left; (intro x hx; (try dsimp only at hx); go_simp; try (with_reducible rfl)); (simp only [Act.put, List.setIfInBounds_toArray, List.set_cons_zero, List.set_cons_succ]))
      refine tree_call trivial (by rfl) (fun K hK => ?_)
      go_simp
      refine hK.out _ _ trivial (fun _ => ?_)
      clear hK K
      exact tree_done ⟨(y0.heap.size, .slice A1 ((LA).length + 1) k1), rfl, HE1.out⟩
    · go_simp
      refine (bare_any 10 _ HEws.out.drew).mono ?_; rintro e y0 ⟨rfl, hb0⟩
      go_wp2_with fail
      have HE0 := Lib.hid ((HEws.out.drew).below hb0)
      have cL0 := HE0.out.cellA
      refine hK.out _ _ trivial (fun _ => ?_)
      clear hK K hb0
      try (simp only [Act.put, List.setIfInBounds_toArray, List.set_cons_zero, List.set_cons_succ])
      refine tree_two trivial (by rfl) (by rfl) (fun K hK => ?_) (fun K hK => ?_)
      · go_simp
        refine hK.out _ _ trivial (fun _ => ?_)
        clear hK K
        try (simp only [Act.put, List.setIfInBounds_toArray, List.set_cons_zero, List.set_cons_succ])
        refine tree_call trivial (by rfl) (fun K hK => ?_)
        go_simp
        try rw [fold_cel]
        refine hK.out _ _ trivial (fun _ => ?_)
        clear hK K
        change wpT _ _ _ _ _ _ _ (y0.alloc (.cells (celCells (bareC 10 pc off)).toArray 49))
        try (simp only [Act.put, List.setIfInBounds_toArray, List.set_cons_zero, List.set_cons_succ])
        refine tree_call trivial (by rfl) (fun K hK => ?_)
        refine wp_append_new _ (.tmp 42) (.tmp 45) 22 rfl (b + 1) 49 i0 _ 9 72 Tryz.underlying22 HI.out HZ0.out HZ1.out HZ2.out rfl (by omega) vs (LA).length (flat celCells (LA)) rfl (HE0.out.alloc _).oa _ (.slice (some ⟨y0.heap.size, 0, none⟩) 1 1) 1 (celCells (bareC 10 pc off)) rfl (row_new y0 (celCells (bareC 10 pc off)) 9 rfl (by omega) _) (celCells_one _) (by unfold maxLen; have := HLA.out; omega) (by have := HLA.out; omega) (by have := HE0.out.lt; simp; omega) ?_
        intro v1 y1 hO hg hn
        obtain ⟨hE1, q1, q2, q3, A1, k1, rfl⟩ := HE0.out.appA (c := bareC 10 pc off) hO hg hn
        have HE1 := Lib.hid hE1
        clear hO hg hn hE1
        refine hK.out _ _ trivial (fun _ => ?_)
        clear hK K
        try (simp only [Act.put, List.setIfInBounds_toArray, List.set_cons_zero, List.set_cons_succ])
        iterate 2 (refine tree_take (v := ?_) trivial (by rfl) ?_ ?_; rotate_left; (intro x hx; (try dsimp only at hx); go_simp; try (with_reducible rfl)); (simp only [Act.put, List.setIfInBounds_toArray, List.set_cons_zero, List.set_cons_succ]))
        refine tree_call trivial (by rfl) (fun K hK => ?_)
        go_simp
        refine hK.out _ _ trivial (fun _ => ?_)
        clear hK K
        exact tree_done ⟨(y0.heap.size, .slice A1 ((LA).length + 1) k1), rfl, HE1.out⟩
      · go_simp
        try rw [fold_cel]
        have cLa := (HE0.out.alloc (.cells (celCells (bareC 10 pc off)).toArray 49)).cellA
        refine hK.out _ _ trivial (fun _ => ?_)
        clear hK K
        change wpT _ _ _ _ _ _ _ (y0.alloc (.cells (celCells (bareC 10 pc off)).toArray 49))
        try (simp only [Act.put, List.setIfInBounds_toArray, List.set_cons_zero, List.set_cons_succ])
        refine tree_call trivial (by rfl) (fun K hK => ?_)
        go_simp
        refine hK.out _ _ trivial (fun _ => ?_)
        clear hK K
        try (simp only [Act.put, List.setIfInBounds_toArray, List.set_cons_zero, List.set_cons_succ])
        refine tree_call trivial (by rfl) (fun K hK => ?_)
        refine wp_append_new _ (.tmp 42) (.tmp 45) 22 rfl (b + 1) 49 i0 _ 9 72 Tryz.underlying22 HI.out HZ0.out HZ1.out HZ2.out rfl (by omega) vs (LA).length (flat celCells (LA)) rfl (HE0.out.alloc _).oa _ (.slice (some ⟨y0.heap.size, 0, none⟩) 1 1) 1 (celCells (bareC 10 pc off)) rfl (row_new y0 (celCells (bareC 10 pc off)) 9 rfl (by omega) _) (celCells_one _) (by unfold maxLen; have := HLA.out; omega) (by have := HLA.out; omega) (by have := HE0.out.lt; simp; omega) ?_
        intro v1 y1 hO hg hn
        obtain ⟨hE1, q1, q2, q3, A1, k1, rfl⟩ := HE0.out.appA (c := bareC 10 pc off) hO hg hn
        have HE1 := Lib.hid hE1
        clear hO hg hn hE1
        refine hK.out _ _ trivial (fun _ => ?_)
        clear hK K
        try (simp only [Act.put, List.setIfInBounds_toArray, List.set_cons_zero, List.set_cons_succ])
        iterate 2 (refine tree_take (v := ?_) trivial (by rfl) ?_ ?_; rotate_left; (intro x hx; (try dsimp only at hx); go_simp; try (with_reducible rfl)); (simp only [Act.put, List.setIfInBounds_toArray, List.set_cons_zero, List.set_cons_succ]))
        refine tree_call trivial (by rfl) (fun K hK => ?_)
        go_simp
        refine hK.out _ _ trivial (fun _ => ?_)
        clear hK K
        exact tree_done ⟨(y0.heap.size, .slice A1 ((LA).length + 1) k1), rfl, HE1.out⟩
  rintro ⟨B1, v1⟩ w1 hE1
  dsimp only at hE1
  have HEw1 := Lib.hid hE1
  clear hE1
  simp only [Act.put, List.setIfInBounds_toArray, List.set_cons_zero, List.set_cons_succ]
  go_wp2_with fail
  refine region_tree_ex (fun (act : Act) (B : Nat × Value) => (((((((((((act.put (some 49) (.pointer (some ⟨b, 0, none⟩))).put (some 50) (.pointer (some ⟨b, 0, none⟩))).put (some 51) (.pointer (some ⟨b, 0, none⟩))).put (some 52) (.pointer (some ⟨b, 24, none⟩))).put (some 53) us).put (some 54) (.pointer (some ⟨b, 0, none⟩))).put (some 55) (.agg (celCells (insC 9 i pc off)).toArray)).put (some 56) (.slice (some ⟨B.1, 0, none⟩) 1 1)).put (some 57) B.2).put (some 58) (.pointer (some ⟨b, 0, none⟩))).put (some 59) (.pointer (some ⟨b, 24, none⟩))))
    (fun B y => Em b i z pc off S w0 y v1 B.2 (LA ++ [bareC 10 pc off]) (LE ++ [insC 9 i pc off]))
    (LinT.of [(0, true), (1, true), (2, true), (3, true), (5, true)] (.two 4 6 (LinT.of [(6, false), (7, false), (8, false), (9, true), (10, true), (11, false)] .nil) (LinT.of [] (.two 4 7 (LinT.of [(7, false), (8, false), (9, true), (10, true), (11, false)] .nil) (LinT.of [(4, false), (8, false), (9, true), (10, true), (11, false)] .nil)))))
    (by kernel_rfl) (by kernel_rfl) rfl (by kernel_rfl) (fun _ => True) ?_ ?_
  · simp only [LinT.of, LinT.look, List.getElem?_toArray, List.getElem?_cons_succ, List.getElem?_cons_zero]
    have cL : w1.drew.cell? ⟨b, 24, none⟩ = some us := HEw1.out.cellE
    have cL2 : w1.cell? ⟨b, 24, none⟩ = some us := HEw1.out.cellE
    iterate 5 (refine tree_take (v := ?_) trivial (by rfl) ?_ ?_; rotate_left; (intro x hx; (try dsimp only at hx); go_simp; try (with_reducible rfl)); (simp only [Act.put, List.setIfInBounds_toArray, List.set_cons_zero, List.set_cons_succ]))
    refine tree_two trivial (by rfl) (by rfl) (fun K hK => ?_) (fun K hK => ?_)
    · go_simp
      refine hK.out _ _ trivial (fun _ => ?_)
      clear hK K
      try (simp only [Act.put, List.setIfInBounds_toArray, List.set_cons_zero, List.set_cons_succ])
      refine tree_call trivial (by rfl) (fun K hK => ?_)
      go_simp
      refine (withIns_any 9 _ HEw1.out.drew).mono ?_; rintro e y0 ⟨rfl, hb0⟩
      go_wp2_with fail
      have HE0 := Lib.hid ((HEw1.out.drew).below hb0)
      have cL0 := HE0.out.cellE
      refine hK.out _ _ trivial (fun _ => ?_)
      clear hK K hb0
      try (simp only [Act.put, List.setIfInBounds_toArray, List.set_cons_zero, List.set_cons_succ])
      refine tree_call trivial (by rfl) (fun K hK => ?_)
      go_simp
      try rw [fold_cel]
      refine hK.out _ _ trivial (fun _ => ?_)
      clear hK K
      change wpT _ _ _ _ _ _ _ (y0.alloc (.cells (celCells (insC 9 i pc off)).toArray 49))
      try (simp only [Act.put, List.setIfInBounds_toArray, List.set_cons_zero, List.set_cons_succ])
      refine tree_call trivial (by rfl) (fun K hK => ?_)
      refine wp_append_new _ (.tmp 53) (.tmp 56) 22 rfl (b + 1) 49 i0 _ 9 72 Tryz.underlying22 HI.out HZ0.out HZ1.out HZ2.out rfl (by omega) us (LE).length (flat celCells (LE)) rfl (HE0.out.alloc _).oe _ (.slice (some ⟨y0.heap.size, 0, none⟩) 1 1) 1 (celCells (insC 9 i pc off)) rfl (row_new y0 (celCells (insC 9 i pc off)) 9 rfl (by omega) _) (celCells_one _) (by unfold maxLen; have := HLE.out; omega) (by have := HLE.out; omega) (by have := HE0.out.lt; simp; omega) ?_
      intro v1 y1 hO hg hn
      obtain ⟨hE1, q1, q2, q3, A1, k1, rfl⟩ := HE0.out.appE (c := insC 9 i pc off) hO hg hn
      have HE1 := Lib.hid hE1
      clear hO hg hn hE1
      refine hK.out _ _ trivial (fun _ => ?_)
      clear hK K
      try (simp only [Act.put, List.setIfInBounds_toArray, List.set_cons_zero, List.set_cons_succ])
      iterate 2 (refine tree_take (v := ?_) trivial (by rfl) ?_ ?_; rotate_left; (intro x hx; (try dsimp only at hx); go_simp; try (with_reducible rfl)); (simp only [Act.put, List.setIfInBounds_toArray, List.set_cons_zero, List.set_cons_succ]))
      refine tree_call trivial (by rfl) (fun K hK => ?_)
      go_simp
      refine hK.out _ _ trivial (fun _ => ?_)
      clear hK K
      exact tree_done ⟨(y0.heap.size, .slice A1 ((LE).length + 1) k1), rfl, HE1.out⟩
    · go_simp
      refine (withIns_any 9 _ HEw1.out.drew).mono ?_; rintro e y0 ⟨rfl, hb0⟩
      go_wp2_with fail
      have HE0 := Lib.hid ((HEw1.out.drew).below hb0)
      have cL0 := HE0.out.cellE
      refine hK.out _ _ trivial (fun _ => ?_)
      clear hK K hb0
      try (simp only [Act.put, List.setIfInBounds_toArray, List.set_cons_zero, List.set_cons_succ])
      refine tree_two trivial (by rfl) (by rfl) (fun K hK => ?_) (fun K hK => ?_)
      · go_simp
        refine hK.out _ _ trivial (fun _ => ?_)
        clear hK K
        try (simp only [Act.put, List.setIfInBounds_toArray, List.set_cons_zero, List.set_cons_succ])
        refine tree_call trivial (by rfl) (fun K hK => ?_)
        go_simp
        try rw [fold_cel]
        refine hK.out _ _ trivial (fun _ => ?_)
        clear hK K
        change wpT _ _ _ _ _ _ _ (y0.alloc (.cells (celCells (insC 9 i pc off)).toArray 49))
        try (simp only [Act.put, List.setIfInBounds_toArray, List.set_cons_zero, List.set_cons_succ])
        refine tree_call trivial (by rfl) (fun K hK => ?_)
        refine wp_append_new _ (.tmp 53) (.tmp 56) 22 rfl (b + 1) 49 i0 _ 9 72 Tryz.underlying22 HI.out HZ0.out HZ1.out HZ2.out rfl (by omega) us (LE).length (flat celCells (LE)) rfl (HE0.out.alloc _).oe _ (.slice (some ⟨y0.heap.size, 0, none⟩) 1 1) 1 (celCells (insC 9 i pc off)) rfl (row_new y0 (celCells (insC 9 i pc off)) 9 rfl (by omega) _) (celCells_one _) (by unfold maxLen; have := HLE.out; omega) (by have := HLE.out; omega) (by have := HE0.out.lt; simp; omega) ?_
        intro v1 y1 hO hg hn
        obtain ⟨hE1, q1, q2, q3, A1, k1, rfl⟩ := HE0.out.appE (c := insC 9 i pc off) hO hg hn
        have HE1 := Lib.hid hE1
        clear hO hg hn hE1
        refine hK.out _ _ trivial (fun _ => ?_)
        clear hK K
        try (simp only [Act.put, List.setIfInBounds_toArray, List.set_cons_zero, List.set_cons_succ])
        iterate 2 (refine tree_take (v := ?_) trivial (by rfl) ?_ ?_; rotate_left; (intro x hx; (try dsimp only at hx); go_simp; try (with_reducible rfl)); (simp only [Act.put, List.setIfInBounds_toArray, List.set_cons_zero, List.set_cons_succ]))
        refine tree_call trivial (by rfl) (fun K hK => ?_)
        go_simp
        refine hK.out _ _ trivial (fun _ => ?_)
        clear hK K
        exact tree_done ⟨(y0.heap.size, .slice A1 ((LE).length + 1) k1), rfl, HE1.out⟩
      · go_simp
        try rw [fold_cel]
        have cLa := (HE0.out.alloc (.cells (celCells (insC 9 i pc off)).toArray 49)).cellE
        refine hK.out _ _ trivial (fun _ => ?_)
        clear hK K
        change wpT _ _ _ _ _ _ _ (y0.alloc (.cells (celCells (insC 9 i pc off)).toArray 49))
        try (simp only [Act.put, List.setIfInBounds_toArray, List.set_cons_zero, List.set_cons_succ])
        refine tree_call trivial (by rfl) (fun K hK => ?_)
        go_simp
        refine hK.out _ _ trivial (fun _ => ?_)
        clear hK K
        try (simp only [Act.put, List.setIfInBounds_toArray, List.set_cons_zero, List.set_cons_succ])
        refine tree_call trivial (by rfl) (fun K hK => ?_)
        refine wp_append_new _ (.tmp 53) (.tmp 56) 22 rfl (b + 1) 49 i0 _ 9 72 Tryz.underlying22 HI.out HZ0.out HZ1.out HZ2.out rfl (by omega) us (LE).length (flat celCells (LE)) rfl (HE0.out.alloc _).oe _ (.slice (some ⟨y0.heap.size, 0, none⟩) 1 1) 1 (celCells (insC 9 i pc off)) rfl (row_new y0 (celCells (insC 9 i pc off)) 9 rfl (by omega) _) (celCells_one _) (by unfold maxLen; have := HLE.out; omega) (by have := HLE.out; omega) (by have := HE0.out.lt; simp; omega) ?_
        intro v1 y1 hO hg hn
        obtain ⟨hE1, q1, q2, q3, A1, k1, rfl⟩ := HE0.out.appE (c := insC 9 i pc off) hO hg hn
        have HE1 := Lib.hid hE1
        clear hO hg hn hE1
        refine hK.out _ _ trivial (fun _ => ?_)
        clear hK K
        try (simp only [Act.put, List.setIfInBounds_toArray, List.set_cons_zero, List.set_cons_succ])
        iterate 2 (refine tree_take (v := ?_) trivial (by rfl) ?_ ?_; rotate_left; (intro x hx; (try dsimp only at hx); go_simp; try (with_reducible rfl)); (simp only [Act.put, List.setIfInBounds_toArray, List.set_cons_zero, List.set_cons_succ]))
        refine tree_call trivial (by rfl) (fun K hK => ?_)
        go_simp
        refine hK.out _ _ trivial (fun _ => ?_)
        clear hK K
        exact tree_done ⟨(y0.heap.size, .slice A1 ((LE).length + 1) k1), rfl, HE1.out⟩
  rintro ⟨B2, v2⟩ w2 hE2
  dsimp only at hE2
  have HEw2 := Lib.hid hE2
  clear hE2
  simp only [Act.put, List.setIfInBounds_toArray, List.set_cons_zero, List.set_cons_succ]
  go_wp2_with fail
  have hE2 := HEw2.out
  rw [HNA.out, HNE.out] at hE2
  first | exact bodyPost_ret (v := .tuple #[]) (by simp [results, Tryz.results98, go_sem]) rfl ⟨rfl, _, _, hE2⟩ | exact bodyPost_end (v := .tuple #[]) (by simp [results, Tryz.results98, go_sem]) rfl ⟨rfl, _, _, hE2⟩

end Go.Proofs.YteagglddgkjkmaaGreat.Words

/- Contract of package emit's reckon: the cells of what makes a word of words. -/
namespace Go.Proofs.YteagglddgkjkmaaGreat.Words
set_option maxRecDepth 100000
open Go.RowKit
set_option linter.unusedVariables false
set_option linter.unusedSimpArgs false

set_option maxHeartbeats 4000000 in
theorem reckon_a {b : Nat} {i : Ins} {z : List Int} {pc off : Int} {S : Nat → Prop} {w0 : World} {va ve : Value} {la le : List Cel} (w : World) (h : Em b i z pc off S w0 w va ve la le) (hr : rightB i = true) (hla : la.length ≤ 50) (hle : le.length ≤ 50) (ha : sideZ i z = 1) :
    Calls Tryz.prog 100 #[.pointer (some ⟨b, 0, none⟩)] w fun e w' => e = .returned (.tuple #[]) ∧ ∃ va' ve', Em b i z pc off S w0 w' va' ve' (la ++ [insC 1 i pc off]) (le) := by
  have HEw := Lib.hid h
  have HLA0 := Lib.hid hla
  have HLE0 := Lib.hid hle
  have HLA : Hid (la.length ≤ 100) := Nat.le_trans hla (by omega)
  have HLE : Hid (le.length ≤ 100) := Nat.le_trans hle (by omega)
  have hrr := right_range hr
  have HRR := Lib.hid hrr
  obtain ⟨i0, hi, hz0, hz1, hz2⟩ := info_parts info_cel
  have HI := Lib.hid hi
  have HZ0 := Lib.hid hz0
  have HZ1 := Lib.hid hz1
  have HZ2 := Lib.hid hz2
  clear hi hz0 hz1 hz2
  have HAA : Hid ((sideZ i z == 1) = true) := by show _ = _; simpa using ha
  have HZL := Lib.hid h.hz
  clear h hla hle hr hrr ha
  go_enter Tryz.func100, Tryz.ntmps100
  go_wp2_with fail
  refine wp_region_lin [(0, true), (1, true), (2, true), (3, true), (4, true), (5, true), (6, true), (7, true), (8, false), (9, true)]
    (by kernel_rfl) (by kernel_rfl) rfl (by kernel_rfl) (Below w.heap.size w) ?_
  have hkd : Below w.heap.size w w.drew := (Below.refl _ w).drew
  simp only [List.map_cons, List.map_nil, List.getElem?_toArray, List.getElem?_cons_succ, List.getElem?_cons_zero]
  iterate 3 (refine lin_take (v := ?_) hkd (by rfl) ?_ ?_; rotate_left; (intro x hx; (try dsimp only at hx); go_simp; try (with_reducible rfl)); (try simp only [Act.put, List.setIfInBounds_toArray, List.set_cons_zero, List.set_cons_succ]))
  refine lin_take_box hkd rfl 44 (.tmp 4) rfl b 0 rfl (cellsL i z pc off va ve) (insV i) (fun y hy => HEw.out.bx.below hy HEw.out.lt) (fun j v h => cellsL_ins h) _ Tryz.underlying44 rfl 5 size_ins5 rfl ?_
  simp only [Act.put, List.setIfInBounds_toArray, List.set_cons_zero, List.set_cons_succ]
  iterate 3 (refine lin_take (v := ?_) hkd (by rfl) ?_ ?_; rotate_left; (intro x hx; (try dsimp only at hx); go_simp; try (with_reducible rfl)); (try simp only [Act.put, List.setIfInBounds_toArray, List.set_cons_zero, List.set_cons_succ]))
  refine lin_take_box hkd rfl 30 (.tmp 8) rfl b 5 rfl (cellsL i z pc off va ve) (oV z) (fun y hy => HEw.out.bx.below hy HEw.out.lt) (fun j v h => cellsL_own h) _ Tryz.underlying30 rfl 16 (by kernel_rfl) ((oV_len z).trans HZL.out) ?_
  simp only [Act.put, List.setIfInBounds_toArray, List.set_cons_zero, List.set_cons_succ]
  refine lin_call hkd (by rfl) (fun K hK => ?_)
  go_simp
  refine (side_any i z _ HZL.out).mono ?_; rintro e wp ⟨rfl, hbp⟩
  go_wp2_with fail
  have hkp := hkd.trans (hbp.mono (Nat.le_refl _))
  refine hK.out _ _ hkp (fun _ => ?_)
  have HEwp := Lib.hid (HEw.out.below hkp)
  clear hK K hbp
  try simp only [Act.put, List.setIfInBounds_toArray, List.set_cons_zero, List.set_cons_succ]
  iterate 1 (refine lin_take (v := ?_) hkp (by rfl) ?_ ?_; rotate_left; (intro x hx; (try dsimp only at hx); go_simp; try (with_reducible rfl)); (try simp only [Act.put, List.setIfInBounds_toArray, List.set_cons_zero, List.set_cons_succ]))
  refine lin_done ?_
  try dsimp only
  rw [HAA.out]
  clear hkp hkd
  go_wp2_with fail
  refine region_tree_ex (fun (act : Act) (B : Nat × Value) => (((((((((((act.put (some 12) (.pointer (some ⟨b, 0, none⟩))).put (some 13) (.pointer (some ⟨b, 0, none⟩))).put (some 14) (.pointer (some ⟨b, 0, none⟩))).put (some 15) (.pointer (some ⟨b, 23, none⟩))).put (some 16) va).put (some 17) (.pointer (some ⟨b, 0, none⟩))).put (some 18) (.agg (celCells (insC 1 i pc off)).toArray)).put (some 19) (.slice (some ⟨B.1, 0, none⟩) 1 1)).put (some 20) B.2).put (some 21) (.pointer (some ⟨b, 0, none⟩))).put (some 22) (.pointer (some ⟨b, 23, none⟩))))
    (fun B y => Em b i z pc off S w0 y B.2 ve (la ++ [insC 1 i pc off]) (le))
    (LinT.of [(0, true), (1, true), (2, true), (3, true), (5, true)] (.two 4 6 (LinT.of [(6, false), (7, false), (8, false), (9, true), (10, true), (11, false)] .nil) (LinT.of [] (.two 4 7 (LinT.of [(7, false), (8, false), (9, true), (10, true), (11, false)] .nil) (LinT.of [(4, false), (8, false), (9, true), (10, true), (11, false)] .nil)))))
    (by kernel_rfl) (by kernel_rfl) rfl (by kernel_rfl) (fun _ => True) ?_ ?_
  · simp only [LinT.of, LinT.look, List.getElem?_toArray, List.getElem?_cons_succ, List.getElem?_cons_zero]
    have cL : wp.drew.cell? ⟨b, 23, none⟩ = some va := HEwp.out.cellA
    have cL2 : wp.cell? ⟨b, 23, none⟩ = some va := HEwp.out.cellA
    iterate 5 (refine tree_take (v := ?_) trivial (by rfl) ?_ ?_; rotate_left; (intro x hx; (try dsimp only at hx); go_simp; try (with_reducible rfl)); (simp only [Act.put, List.setIfInBounds_toArray, List.set_cons_zero, List.set_cons_succ]))
    refine tree_two trivial (by rfl) (by rfl) (fun K hK => ?_) (fun K hK => ?_)
    · go_simp
      refine hK.out _ _ trivial (fun _ => ?_)
      clear hK K
      try (simp only [Act.put, List.setIfInBounds_toArray, List.set_cons_zero, List.set_cons_succ])
      refine tree_call trivial (by rfl) (fun K hK => ?_)
      go_simp
      refine (withIns_any 1 _ HEwp.out.drew).mono ?_; rintro e y0 ⟨rfl, hb0⟩
      go_wp2_with fail
      have HE0 := Lib.hid ((HEwp.out.drew).below hb0)
      have cL0 := HE0.out.cellA
      refine hK.out _ _ trivial (fun _ => ?_)
      clear hK K hb0
      try (simp only [Act.put, List.setIfInBounds_toArray, List.set_cons_zero, List.set_cons_succ])
      refine tree_call trivial (by rfl) (fun K hK => ?_)
      go_simp
      try rw [fold_cel]
      refine hK.out _ _ trivial (fun _ => ?_)
      clear hK K
      change wpT _ _ _ _ _ _ _ (y0.alloc (.cells (celCells (insC 1 i pc off)).toArray 49))
      try (simp only [Act.put, List.setIfInBounds_toArray, List.set_cons_zero, List.set_cons_succ])
      refine tree_call trivial (by rfl) (fun K hK => ?_)
      refine wp_append_new _ (.tmp 16) (.tmp 19) 22 rfl (b + 1) 49 i0 _ 9 72 Tryz.underlying22 HI.out HZ0.out HZ1.out HZ2.out rfl (by omega) va (la).length (flat celCells (la)) rfl (HE0.out.alloc _).oa _ (.slice (some ⟨y0.heap.size, 0, none⟩) 1 1) 1 (celCells (insC 1 i pc off)) rfl (row_new y0 (celCells (insC 1 i pc off)) 9 rfl (by omega) _) (celCells_one _) (by unfold maxLen; have := HLA.out; omega) (by have := HLA.out; omega) (by have := HE0.out.lt; simp; omega) ?_
      intro v1 y1 hO hg hn
      obtain ⟨hE1, q1, q2, q3, A1, k1, rfl⟩ := HE0.out.appA (c := insC 1 i pc off) hO hg hn
      have HE1 := Lib.hid hE1
      clear hO hg hn hE1
      refine hK.out _ _ trivial (fun _ => ?_)
      clear hK K
      try (simp only [Act.put, List.setIfInBounds_toArray, List.set_cons_zero, List.set_cons_succ])
      iterate 2 (refine tree_take (v := ?_) trivial (by rfl) ?_ ?_; rotate_left; (intro x hx; (try dsimp only at hx); go_simp; try (with_reducible rfl)); (simp only [Act.put, List.setIfInBounds_toArray, List.set_cons_zero, List.set_cons_succ]))
      refine tree_call trivial (by rfl) (fun K hK => ?_)
      go_simp
      refine hK.out _ _ trivial (fun _ => ?_)
      clear hK K
      exact tree_done ⟨(y0.heap.size, .slice A1 ((la).length + 1) k1), rfl, HE1.out⟩
    · go_simp
      refine (withIns_any 1 _ HEwp.out.drew).mono ?_; rintro e y0 ⟨rfl, hb0⟩
      go_wp2_with fail
      have HE0 := Lib.hid ((HEwp.out.drew).below hb0)
      have cL0 := HE0.out.cellA
      refine hK.out _ _ trivial (fun _ => ?_)
      clear hK K hb0
      try (simp only [Act.put, List.setIfInBounds_toArray, List.set_cons_zero, List.set_cons_succ])
      refine tree_two trivial (by rfl) (by rfl) (fun K hK => ?_) (fun K hK => ?_)
      · go_simp
        refine hK.out _ _ trivial (fun _ => ?_)
        clear hK K
        try (simp only [Act.put, List.setIfInBounds_toArray, List.set_cons_zero, List.set_cons_succ])
        refine tree_call trivial (by rfl) (fun K hK => ?_)
        go_simp
        try rw [fold_cel]
        refine hK.out _ _ trivial (fun _ => ?_)
        clear hK K
        change wpT _ _ _ _ _ _ _ (y0.alloc (.cells (celCells (insC 1 i pc off)).toArray 49))
        try (simp only [Act.put, List.setIfInBounds_toArray, List.set_cons_zero, List.set_cons_succ])
        refine tree_call trivial (by rfl) (fun K hK => ?_)
        refine wp_append_new _ (.tmp 16) (.tmp 19) 22 rfl (b + 1) 49 i0 _ 9 72 Tryz.underlying22 HI.out HZ0.out HZ1.out HZ2.out rfl (by omega) va (la).length (flat celCells (la)) rfl (HE0.out.alloc _).oa _ (.slice (some ⟨y0.heap.size, 0, none⟩) 1 1) 1 (celCells (insC 1 i pc off)) rfl (row_new y0 (celCells (insC 1 i pc off)) 9 rfl (by omega) _) (celCells_one _) (by unfold maxLen; have := HLA.out; omega) (by have := HLA.out; omega) (by have := HE0.out.lt; simp; omega) ?_
        intro v1 y1 hO hg hn
        obtain ⟨hE1, q1, q2, q3, A1, k1, rfl⟩ := HE0.out.appA (c := insC 1 i pc off) hO hg hn
        have HE1 := Lib.hid hE1
        clear hO hg hn hE1
        refine hK.out _ _ trivial (fun _ => ?_)
        clear hK K
        try (simp only [Act.put, List.setIfInBounds_toArray, List.set_cons_zero, List.set_cons_succ])
        iterate 2 (refine tree_take (v := ?_) trivial (by rfl) ?_ ?_; rotate_left; (intro x hx; (try dsimp only at hx); go_simp; try (with_reducible rfl)); (simp only [Act.put, List.setIfInBounds_toArray, List.set_cons_zero, List.set_cons_succ]))
        refine tree_call trivial (by rfl) (fun K hK => ?_)
        go_simp
        refine hK.out _ _ trivial (fun _ => ?_)
        clear hK K
        exact tree_done ⟨(y0.heap.size, .slice A1 ((la).length + 1) k1), rfl, HE1.out⟩
      · go_simp
        try rw [fold_cel]
        have cLa := (HE0.out.alloc (.cells (celCells (insC 1 i pc off)).toArray 49)).cellA
        refine hK.out _ _ trivial (fun _ => ?_)
        clear hK K
        change wpT _ _ _ _ _ _ _ (y0.alloc (.cells (celCells (insC 1 i pc off)).toArray 49))
        try (simp only [Act.put, List.setIfInBounds_toArray, List.set_cons_zero, List.set_cons_succ])
        refine tree_call trivial (by rfl) (fun K hK => ?_)
        go_simp
        refine hK.out _ _ trivial (fun _ => ?_)
        clear hK K
        try (simp only [Act.put, List.setIfInBounds_toArray, List.set_cons_zero, List.set_cons_succ])
        refine tree_call trivial (by rfl) (fun K hK => ?_)
        refine wp_append_new _ (.tmp 16) (.tmp 19) 22 rfl (b + 1) 49 i0 _ 9 72 Tryz.underlying22 HI.out HZ0.out HZ1.out HZ2.out rfl (by omega) va (la).length (flat celCells (la)) rfl (HE0.out.alloc _).oa _ (.slice (some ⟨y0.heap.size, 0, none⟩) 1 1) 1 (celCells (insC 1 i pc off)) rfl (row_new y0 (celCells (insC 1 i pc off)) 9 rfl (by omega) _) (celCells_one _) (by unfold maxLen; have := HLA.out; omega) (by have := HLA.out; omega) (by have := HE0.out.lt; simp; omega) ?_
        intro v1 y1 hO hg hn
        obtain ⟨hE1, q1, q2, q3, A1, k1, rfl⟩ := HE0.out.appA (c := insC 1 i pc off) hO hg hn
        have HE1 := Lib.hid hE1
        clear hO hg hn hE1
        refine hK.out _ _ trivial (fun _ => ?_)
        clear hK K
        try (simp only [Act.put, List.setIfInBounds_toArray, List.set_cons_zero, List.set_cons_succ])
        iterate 2 (refine tree_take (v := ?_) trivial (by rfl) ?_ ?_; rotate_left; (intro x hx; (try dsimp only at hx); go_simp; try (with_reducible rfl)); (simp only [Act.put, List.setIfInBounds_toArray, List.set_cons_zero, List.set_cons_succ]))
        refine tree_call trivial (by rfl) (fun K hK => ?_)
        go_simp
        refine hK.out _ _ trivial (fun _ => ?_)
        clear hK K
        exact tree_done ⟨(y0.heap.size, .slice A1 ((la).length + 1) k1), rfl, HE1.out⟩
  rintro ⟨B1, v1⟩ w1 hE1
  dsimp only at hE1
  have HEw1 := Lib.hid hE1
  clear hE1
  simp only [Act.put, List.setIfInBounds_toArray, List.set_cons_zero, List.set_cons_succ]
  go_wp2_with fail
  first | exact bodyPost_ret (v := .tuple #[]) (by simp [results, Tryz.results100, go_sem]) rfl ⟨rfl, _, _, HEw1.out⟩ | exact bodyPost_end (v := .tuple #[]) (by simp [results, Tryz.results100, go_sem]) rfl ⟨rfl, _, _, HEw1.out⟩

set_option maxHeartbeats 4000000 in
theorem reckon_e {b : Nat} {i : Ins} {z : List Int} {pc off : Int} {S : Nat → Prop} {w0 : World} {va ve : Value} {la le : List Cel} (w : World) (h : Em b i z pc off S w0 w va ve la le) (hr : rightB i = true) (hla : la.length ≤ 50) (hle : le.length ≤ 50) (ha : ¬ sideZ i z = 1) :
    Calls Tryz.prog 100 #[.pointer (some ⟨b, 0, none⟩)] w fun e w' => e = .returned (.tuple #[]) ∧ ∃ va' ve', Em b i z pc off S w0 w' va' ve' (la ++ regsC 5 pc off (sentL z (readsZ i))) ((le ++ regsC 6 pc off (sentL z (readsZ i))) ++ [insC 1 i pc off]) := by
  have HEw := Lib.hid h
  have HLA0 := Lib.hid hla
  have HLE0 := Lib.hid hle
  have HLA : Hid (la.length ≤ 100) := Nat.le_trans hla (by omega)
  have HLE : Hid (le.length ≤ 100) := Nat.le_trans hle (by omega)
  have hrr := right_range hr
  have HRR := Lib.hid hrr
  obtain ⟨i0, hi, hz0, hz1, hz2⟩ := info_parts info_cel
  have HI := Lib.hid hi
  have HZ0 := Lib.hid hz0
  have HZ1 := Lib.hid hz1
  have HZ2 := Lib.hid hz2
  clear hi hz0 hz1 hz2
  have HAA : Hid ((sideZ i z == 1) = false) := by show _ = _; simpa using ha
  have HZL := Lib.hid h.hz
  clear h hla hle hr hrr ha
  go_enter Tryz.func100, Tryz.ntmps100
  go_wp2_with fail
  refine wp_region_lin [(0, true), (1, true), (2, true), (3, true), (4, true), (5, true), (6, true), (7, true), (8, false), (9, true)]
    (by kernel_rfl) (by kernel_rfl) rfl (by kernel_rfl) (Below w.heap.size w) ?_
  have hkd : Below w.heap.size w w.drew := (Below.refl _ w).drew
  simp only [List.map_cons, List.map_nil, List.getElem?_toArray, List.getElem?_cons_succ, List.getElem?_cons_zero]
  iterate 3 (refine lin_take (v := ?_) hkd (by rfl) ?_ ?_; rotate_left; (intro x hx; (try dsimp only at hx); go_simp; try (with_reducible rfl)); (try simp only [Act.put, List.setIfInBounds_toArray, List.set_cons_zero, List.set_cons_succ]))
  refine lin_take_box hkd rfl 44 (.tmp 4) rfl b 0 rfl (cellsL i z pc off va ve) (insV i) (fun y hy => HEw.out.bx.below hy HEw.out.lt) (fun j v h => cellsL_ins h) _ Tryz.underlying44 rfl 5 size_ins5 rfl ?_
  simp only [Act.put, List.setIfInBounds_toArray, List.set_cons_zero, List.set_cons_succ]
  iterate 3 (refine lin_take (v := ?_) hkd (by rfl) ?_ ?_; rotate_left; (intro x hx; (try dsimp only at hx); go_simp; try (with_reducible rfl)); (try simp only [Act.put, List.setIfInBounds_toArray, List.set_cons_zero, List.set_cons_succ]))
  refine lin_take_box hkd rfl 30 (.tmp 8) rfl b 5 rfl (cellsL i z pc off va ve) (oV z) (fun y hy => HEw.out.bx.below hy HEw.out.lt) (fun j v h => cellsL_own h) _ Tryz.underlying30 rfl 16 (by kernel_rfl) ((oV_len z).trans HZL.out) ?_
  simp only [Act.put, List.setIfInBounds_toArray, List.set_cons_zero, List.set_cons_succ]
  refine lin_call hkd (by rfl) (fun K hK => ?_)
  go_simp
  refine (side_any i z _ HZL.out).mono ?_; rintro e wp ⟨rfl, hbp⟩
  go_wp2_with fail
  have hkp := hkd.trans (hbp.mono (Nat.le_refl _))
  refine hK.out _ _ hkp (fun _ => ?_)
  have HEwp := Lib.hid (HEw.out.below hkp)
  clear hK K hbp
  try simp only [Act.put, List.setIfInBounds_toArray, List.set_cons_zero, List.set_cons_succ]
  iterate 1 (refine lin_take (v := ?_) hkp (by rfl) ?_ ?_; rotate_left; (intro x hx; (try dsimp only at hx); go_simp; try (with_reducible rfl)); (try simp only [Act.put, List.setIfInBounds_toArray, List.set_cons_zero, List.set_cons_succ]))
  refine lin_done ?_
  try dsimp only
  rw [HAA.out]
  clear hkp hkd
  go_wp2_with (first
    | (refine wpList_load_box rfl 44 (.tmp 26) rfl b 0 rfl (cellsL i z pc off va ve) (insV i) HEwp.out.bx (fun j v h => cellsL_ins h) _ Tryz.underlying44 rfl 5 size_ins5 rfl ?_))
  refine (readsN_any i _).mono ?_; rintro e wq ⟨v, rfl, hrow, hnew, hbq⟩
  have HEwq := Lib.hid (HEwp.out.below hbq)
  obtain ⟨A1, cap1, rfl⟩ := hrow.form
  have HRQ := Lib.hid hrow
  have HAQ : Hid (∀ a, A1 = some a → ¬ (a.block = b ∨ va.ownBlock = some a.block ∨ ve.ownBlock = some a.block)) := by
    intro a ha
    have h1 := hnew a _ _ (by rw [ha])
    have h2 := HEwp.out.lt
    rintro (e | e | e)
    · omega
    · have := (HEwp.out.oa.lt _ e).2; omega
    · have := (HEwp.out.oe.lt _ e).2; omega
  have HRL := Lib.hid (reads_len i)
  have HRM : Hid (∀ r ∈ readsZ i, 0 ≤ r ∧ r ≤ 15) := fun r hr => by have := reads_mem hr; omega
  clear hrow hnew hbq
  go_wp2_with fail
  refine (send_any A1 cap1 _ (readsZ i) _ HEwq.out HLA0.out HLE0.out rfl HRQ.out HAQ.out (by have := HRL.out; omega) HRM.out).mono ?_
  rintro e ws ⟨rfl, vs, us, hEs⟩
  have HEws := Lib.hid hEs
  clear hEs
  obtain ⟨LA, hLA⟩ : ∃ LA, LA = la ++ regsC 5 pc off (sentL z (readsZ i)) := ⟨_, rfl⟩
  obtain ⟨LE, hLE⟩ : ∃ LE, LE = le ++ regsC 6 pc off (sentL z (readsZ i)) := ⟨_, rfl⟩
  have HLA : Hid (LA.length ≤ 100) := by rw [hLA, List.length_append, regsC_len]; have := sent_len z (readsZ i); have := HRL.out; have := HLA0.out; show _ ≤ _; omega
  have HLE : Hid (LE.length ≤ 100) := by rw [hLE, List.length_append, regsC_len]; have := sent_len z (readsZ i); have := HRL.out; have := HLE0.out; show _ ≤ _; omega
  have HNA := Lib.hid hLA
  have HNE := Lib.hid hLE
  rw [← hLA, ← hLE] at HEws
  clear hLA hLE
  go_wp2_with fail
  refine region_tree_ex (fun (act : Act) (B : Nat × Value) => (((((((((((act.put (some 30) (.pointer (some ⟨b, 0, none⟩))).put (some 31) (.pointer (some ⟨b, 0, none⟩))).put (some 32) (.pointer (some ⟨b, 0, none⟩))).put (some 33) (.pointer (some ⟨b, 24, none⟩))).put (some 34) us).put (some 35) (.pointer (some ⟨b, 0, none⟩))).put (some 36) (.agg (celCells (insC 1 i pc off)).toArray)).put (some 37) (.slice (some ⟨B.1, 0, none⟩) 1 1)).put (some 38) B.2).put (some 39) (.pointer (some ⟨b, 0, none⟩))).put (some 40) (.pointer (some ⟨b, 24, none⟩))))
    (fun B y => Em b i z pc off S w0 y vs B.2 (LA) (LE ++ [insC 1 i pc off]))
    (LinT.of [(0, true), (1, true), (2, true), (3, true), (5, true)] (.two 4 6 (LinT.of [(6, false), (7, false), (8, false), (9, true), (10, true), (11, false)] .nil) (LinT.of [] (.two 4 7 (LinT.of [(7, false), (8, false), (9, true), (10, true), (11, false)] .nil) (LinT.of [(4, false), (8, false), (9, true), (10, true), (11, false)] .nil)))))
    (by kernel_rfl) (by kernel_rfl) rfl (by kernel_rfl) (fun _ => True) ?_ ?_
  · simp only [LinT.of, LinT.look, List.getElem?_toArray, List.getElem?_cons_succ, List.getElem?_cons_zero]
    have cL : ws.drew.cell? ⟨b, 24, none⟩ = some us := HEws.out.cellE
    have cL2 : ws.cell? ⟨b, 24, none⟩ = some us := HEws.out.cellE
    iterate 5 (refine tree_take (v := ?_) trivial (by rfl) ?_ ?_; rotate_left; (intro x hx; (try dsimp only at hx); go_simp; try (with_reducible rfl)); (simp only [Act.put, List.setIfInBounds_toArray, List.set_cons_zero, List.set_cons_succ]))
    refine tree_two trivial (by rfl) (by rfl) (fun K hK => ?_) (fun K hK => ?_)
    · go_simp
      refine hK.out _ _ trivial (fun _ => ?_)
      clear hK K
      try (simp only [Act.put, List.setIfInBounds_toArray, List.set_cons_zero, List.set_cons_succ])
      refine tree_call trivial (by rfl) (fun K hK => ?_)
      go_simp
      refine (withIns_any 1 _ HEws.out.drew).mono ?_; rintro e y0 ⟨rfl, hb0⟩
      go_wp2_with fail
      have HE0 := Lib.hid ((HEws.out.drew).below hb0)
      have cL0 := HE0.out.cellE
      refine hK.out _ _ trivial (fun _ => ?_)
      clear hK K hb0
      try (simp only [Act.put, List.setIfInBounds_toArray, List.set_cons_zero, List.set_cons_succ])
      refine tree_call trivial (by rfl) (fun K hK => ?_)
      go_simp
      try rw [fold_cel]
      refine hK.out _ _ trivial (fun _ => ?_)
      clear hK K
      change wpT _ _ _ _ _ _ _ (y0.alloc (.cells (celCells (insC 1 i pc off)).toArray 49))
      try (simp only [Act.put, List.setIfInBounds_toArray, List.set_cons_zero, List.set_cons_succ])
      refine tree_call trivial (by rfl) (fun K hK => ?_)
      refine wp_append_new _ (.tmp 34) (.tmp 37) 22 rfl (b + 1) 49 i0 _ 9 72 Tryz.underlying22 HI.out HZ0.out HZ1.out HZ2.out rfl (by omega) us (LE).length (flat celCells (LE)) rfl (HE0.out.alloc _).oe _ (.slice (some ⟨y0.heap.size, 0, none⟩) 1 1) 1 (celCells (insC 1 i pc off)) rfl (row_new y0 (celCells (insC 1 i pc off)) 9 rfl (by omega) _) (celCells_one _) (by unfold maxLen; have := HLE.out; omega) (by have := HLE.out; omega) (by have := HE0.out.lt; simp; omega) ?_
      intro v1 y1 hO hg hn
      obtain ⟨hE1, q1, q2, q3, A1, k1, rfl⟩ := HE0.out.appE (c := insC 1 i pc off) hO hg hn
      have HE1 := Lib.hid hE1
      clear hO hg hn hE1
      refine hK.out _ _ trivial (fun _ => ?_)
      clear hK K
      try (simp only [Act.put, List.setIfInBounds_toArray, List.set_cons_zero, List.set_cons_succ])
      iterate 2 (refine tree_take (v := ?_) trivial (by rfl) ?_ ?_; rotate_left; (intro x hx; (try dsimp only at hx); go_simp; try (with_reducible rfl)); (simp only [Act.put, List.setIfInBounds_toArray, List.set_cons_zero, List.set_cons_succ]))
      refine tree_call trivial (by rfl) (fun K hK => ?_)
      go_simp
      refine hK.out _ _ trivial (fun _ => ?_)
      clear hK K
      exact tree_done ⟨(y0.heap.size, .slice A1 ((LE).length + 1) k1), rfl, HE1.out⟩
    · go_simp
      refine (withIns_any 1 _ HEws.out.drew).mono ?_; rintro e y0 ⟨rfl, hb0⟩
      go_wp2_with fail
      have HE0 := Lib.hid ((HEws.out.drew).below hb0)
      have cL0 := HE0.out.cellE
      refine hK.out _ _ trivial (fun _ => ?_)
      clear hK K hb0
      try (simp only [Act.put, List.setIfInBounds_toArray, List.set_cons_zero, List.set_cons_succ])
      refine tree_two trivial (by rfl) (by rfl) (fun K hK => ?_) (fun K hK => ?_)
      · go_simp
        refine hK.out _ _ trivial (fun _ => ?_)
        clear hK K
        try (simp only [Act.put, List.setIfInBounds_toArray, List.set_cons_zero, List.set_cons_succ])
        refine tree_call trivial (by rfl) (fun K hK => ?_)
        go_simp
        try rw [fold_cel]
        refine hK.out _ _ trivial (fun _ => ?_)
        clear hK K
        change wpT _ _ _ _ _ _ _ (y0.alloc (.cells (celCells (insC 1 i pc off)).toArray 49))
        try (simp only [Act.put, List.setIfInBounds_toArray, List.set_cons_zero, List.set_cons_succ])
        refine tree_call trivial (by rfl) (fun K hK => ?_)
        refine wp_append_new _ (.tmp 34) (.tmp 37) 22 rfl (b + 1) 49 i0 _ 9 72 Tryz.underlying22 HI.out HZ0.out HZ1.out HZ2.out rfl (by omega) us (LE).length (flat celCells (LE)) rfl (HE0.out.alloc _).oe _ (.slice (some ⟨y0.heap.size, 0, none⟩) 1 1) 1 (celCells (insC 1 i pc off)) rfl (row_new y0 (celCells (insC 1 i pc off)) 9 rfl (by omega) _) (celCells_one _) (by unfold maxLen; have := HLE.out; omega) (by have := HLE.out; omega) (by have := HE0.out.lt; simp; omega) ?_
        intro v1 y1 hO hg hn
        obtain ⟨hE1, q1, q2, q3, A1, k1, rfl⟩ := HE0.out.appE (c := insC 1 i pc off) hO hg hn
        have HE1 := Lib.hid hE1
        clear hO hg hn hE1
        refine hK.out _ _ trivial (fun _ => ?_)
        clear hK K
        try (simp only [Act.put, List.setIfInBounds_toArray, List.set_cons_zero, List.set_cons_succ])
        iterate 2 (refine tree_take (v := ?_) trivial (by rfl) ?_ ?_; rotate_left; (intro x hx; (try dsimp only at hx); go_simp; try (with_reducible rfl)); (simp only [Act.put, List.setIfInBounds_toArray, List.set_cons_zero, List.set_cons_succ]))
        refine tree_call trivial (by rfl) (fun K hK => ?_)
        go_simp
        refine hK.out _ _ trivial (fun _ => ?_)
        clear hK K
        exact tree_done ⟨(y0.heap.size, .slice A1 ((LE).length + 1) k1), rfl, HE1.out⟩
      · go_simp
        try rw [fold_cel]
        have cLa := (HE0.out.alloc (.cells (celCells (insC 1 i pc off)).toArray 49)).cellE
        refine hK.out _ _ trivial (fun _ => ?_)
        clear hK K
        change wpT _ _ _ _ _ _ _ (y0.alloc (.cells (celCells (insC 1 i pc off)).toArray 49))
        try (simp only [Act.put, List.setIfInBounds_toArray, List.set_cons_zero, List.set_cons_succ])
        refine tree_call trivial (by rfl) (fun K hK => ?_)
        go_simp
        refine hK.out _ _ trivial (fun _ => ?_)
        clear hK K
        try (simp only [Act.put, List.setIfInBounds_toArray, List.set_cons_zero, List.set_cons_succ])
        refine tree_call trivial (by rfl) (fun K hK => ?_)
        refine wp_append_new _ (.tmp 34) (.tmp 37) 22 rfl (b + 1) 49 i0 _ 9 72 Tryz.underlying22 HI.out HZ0.out HZ1.out HZ2.out rfl (by omega) us (LE).length (flat celCells (LE)) rfl (HE0.out.alloc _).oe _ (.slice (some ⟨y0.heap.size, 0, none⟩) 1 1) 1 (celCells (insC 1 i pc off)) rfl (row_new y0 (celCells (insC 1 i pc off)) 9 rfl (by omega) _) (celCells_one _) (by unfold maxLen; have := HLE.out; omega) (by have := HLE.out; omega) (by have := HE0.out.lt; simp; omega) ?_
        intro v1 y1 hO hg hn
        obtain ⟨hE1, q1, q2, q3, A1, k1, rfl⟩ := HE0.out.appE (c := insC 1 i pc off) hO hg hn
        have HE1 := Lib.hid hE1
        clear hO hg hn hE1
        refine hK.out _ _ trivial (fun _ => ?_)
        clear hK K
        try (simp only [Act.put, List.setIfInBounds_toArray, List.set_cons_zero, List.set_cons_succ])
        iterate 2 (refine tree_take (v := ?_) trivial (by rfl) ?_ ?_; rotate_left; (intro x hx; (try dsimp only at hx); go_simp; try (with_reducible rfl)); (simp only [Act.put, List.setIfInBounds_toArray, List.set_cons_zero, List.set_cons_succ]))
        refine tree_call trivial (by rfl) (fun K hK => ?_)
        go_simp
        refine hK.out _ _ trivial (fun _ => ?_)
        clear hK K
        exact tree_done ⟨(y0.heap.size, .slice A1 ((LE).length + 1) k1), rfl, HE1.out⟩
  rintro ⟨B2, v2⟩ w2 hE2
  dsimp only at hE2
  have HEw2 := Lib.hid hE2
  clear hE2
  simp only [Act.put, List.setIfInBounds_toArray, List.set_cons_zero, List.set_cons_succ]
  go_wp2_with fail
  have hE2 := HEw2.out
  rw [HNA.out, HNE.out] at hE2
  first | exact bodyPost_ret (v := .tuple #[]) (by simp [results, Tryz.results100, go_sem]) rfl ⟨rfl, _, _, hE2⟩ | exact bodyPost_end (v := .tuple #[]) (by simp [results, Tryz.results100, go_sem]) rfl ⟨rfl, _, _, hE2⟩

end Go.Proofs.YteagglddgkjkmaaGreat.Words

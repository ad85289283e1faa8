/- Contract of package emit's store: the cells of a store. -/
import Derived.Test.YtcaibahniheohaaEmtSend
namespace Go.Proofs.Ytcaibahniheohaa.Words
set_option maxRecDepth 100000
open Go.RowKit
set_option linter.unusedVariables false
set_option linter.unusedSimpArgs false

set_option maxHeartbeats 4000000 in
theorem store_any {b : Nat} {i : Ins} {z : List Int} {pc off : Int} {S : Nat → Prop} {w0 : World} {va ve : Value} {la le : List Cel} (w : World) (h : Em b i z pc off S w0 w va ve la le) (hr : rightB i = true) (hla : la.length ≤ 50) (hle : le.length ≤ 50)  :
    Calls Try.prog 33 #[.pointer (some ⟨b, 0, none⟩)] w fun e w' => e = .returned (.tuple #[]) ∧ ∃ va' ve', Em b i z pc off S w0 w' va' ve' ((la ++ regsC 5 pc off (sentL z [i.b])) ++ [insC 4 i pc off]) ((le ++ regsC 6 pc off (sentL z [i.b])) ++ [regC 8 i.b pc off]) := by
  have HEw := Lib.hid h
  have HLA0 := Lib.hid hla
  have HLE0 := Lib.hid hle
  have HLA : Hid (la.length ≤ 100) := Nat.le_trans hla (by omega)
  have HLE : Hid (le.length ≤ 100) := Nat.le_trans hle (by omega)
  have hrr := right_range hr
  have HRR := Lib.hid hrr
  obtain ⟨i0, hi, hz0, hz1, hz2⟩ := info_parts info_cel
  have HI := Lib.hid hi
  have HZ0 := Lib.hid hz0
  have HZ1 := Lib.hid hz1
  have HZ2 := Lib.hid hz2
  clear hi hz0 hz1 hz2
  have c3 := h.cellI (k := 3) rfl
  clear h hla hle hr hrr
  go_enter Try.func33, Try.ntmps33
  go_wp2_with fail
  refine (send_any (some ⟨w.heap.size, 0, none⟩) 1 1 [i.b] _ (HEw.out.alloc _) HLA0.out HLE0.out rfl ((row_new w [.int .i64 i.b] 1 rfl (by omega) _).more (by simp)) ?_ (by omega) ?_).mono ?_
  · intro a ha
    injection ha with ha
    subst ha
    have h2 := HEw.out.lt
    rintro (e | e | e)
    · simp at e; omega
    · have := (HEw.out.oa.lt _ e).2; simp at this
    · have := (HEw.out.oe.lt _ e).2; simp at this
  · intro r hr
    simp at hr
    subst hr
    have := HRR.out; omega
  rintro e ws ⟨rfl, vs, us, hEs⟩
  have HEws := Lib.hid hEs
  clear hEs c3
  obtain ⟨LA, hLA⟩ : ∃ LA, LA = la ++ regsC 5 pc off (sentL z [i.b]) := ⟨_, rfl⟩
  obtain ⟨LE, hLE⟩ : ∃ LE, LE = le ++ regsC 6 pc off (sentL z [i.b]) := ⟨_, rfl⟩
  have HLA : Hid (LA.length ≤ 100) := by rw [hLA, List.length_append, regsC_len]; have := sent_len z [i.b]; have := (show ([i.b] : List Int).length ≤ 8 by simp); have := HLA0.out; show _ ≤ _; omega
  have HLE : Hid (LE.length ≤ 100) := by rw [hLE, List.length_append, regsC_len]; have := sent_len z [i.b]; have := (show ([i.b] : List Int).length ≤ 8 by simp); have := HLE0.out; show _ ≤ _; omega
  have HNA := Lib.hid hLA
  have HNE := Lib.hid hLE
  rw [← hLA, ← hLE] at HEws
  clear hLA hLE
  go_wp2_with fail
  refine region_tree_ex (fun (act : Act) (B : Nat × Value) => (((((((((((act.put (some 10) (.pointer (some ⟨b, 0, none⟩))).put (some 11) (.pointer (some ⟨b, 0, none⟩))).put (some 12) (.pointer (some ⟨b, 0, none⟩))).put (some 13) (.pointer (some ⟨b, 23, none⟩))).put (some 14) vs).put (some 15) (.pointer (some ⟨b, 0, none⟩))).put (some 16) (.agg (celCells (insC 4 i pc off)).toArray)).put (some 17) (.slice (some ⟨B.1, 0, none⟩) 1 1)).put (some 18) B.2).put (some 19) (.pointer (some ⟨b, 0, none⟩))).put (some 20) (.pointer (some ⟨b, 23, none⟩))))
    (fun B y => Em b i z pc off S w0 y B.2 us (LA ++ [insC 4 i pc off]) (LE))
    (LinT.of [(0, true), (1, true), (2, true), (3, true), (5, true)] (.two 4 6 (LinT.of [(6, false), (7, false), (8, false), (9, true), (10, true), (11, false)] .nil) (LinT.of [] (.two 4 7 (LinT.of [(7, false), (8, false), (9, true), (10, true), (11, false)] .nil) (LinT.of [(4, false), (8, false), (9, true), (10, true), (11, false)] .nil)))))
    (by kernel_rfl) (by kernel_rfl) rfl (by kernel_rfl) (fun _ => True) ?_ ?_
  · simp only [LinT.of, LinT.look, List.getElem?_toArray, List.getElem?_cons_succ, List.getElem?_cons_zero]
    have cL : ws.drew.cell? ⟨b, 23, none⟩ = some vs := HEws.out.cellA
    have cL2 : ws.cell? ⟨b, 23, none⟩ = some vs := HEws.out.cellA
    iterate 5 (refine tree_take (v := ?_) trivial (by rfl) ?_ ?_; rotate_left; (intro x hx; (try dsimp only at hx); go_simp; try (with_reducible rfl)); (simp only [Act.put, List.setIfInBounds_toArray, List.set_cons_zero, List.set_cons_succ]))
    refine tree_two trivial (by rfl) (by rfl) (fun K hK => ?_) (fun K hK => ?_)
    · go_simp
      refine hK.out _ _ trivial (fun _ => ?_)
      clear hK K
      try (simp only [Act.put, List.setIfInBounds_toArray, List.set_cons_zero, List.set_cons_succ])
      refine tree_call trivial (by rfl) (fun K hK => ?_)
      go_simp
      refine (withIns_any 4 _ HEws.out.drew).mono ?_; rintro e y0 ⟨rfl, hb0⟩
      go_wp2_with fail
      have HE0 := Lib.hid ((HEws.out.drew).below hb0)
      have cL0 := HE0.out.cellA
      refine hK.out _ _ trivial (fun _ => ?_)
      clear hK K hb0
      try (simp only [Act.put, List.setIfInBounds_toArray, List.set_cons_zero, List.set_cons_succ])
      refine tree_call trivial (by rfl) (fun K hK => ?_)
      go_simp
      try rw [fold_cel]
      refine hK.out _ _ trivial (fun _ => ?_)
      clear hK K
      change wpT _ _ _ _ _ _ _ (y0.alloc (.cells (celCells (insC 4 i pc off)).toArray 36))
      try (simp only [Act.put, List.setIfInBounds_toArray, List.set_cons_zero, List.set_cons_succ])
      refine tree_call trivial (by rfl) (fun K hK => ?_)
      refine wp_append_new _ (.tmp 14) (.tmp 17) 26 rfl (b + 1) 36 i0 _ 9 72 Try.underlying26 HI.out HZ0.out HZ1.out HZ2.out rfl (by omega) vs (LA).length (flat celCells (LA)) rfl (HE0.out.alloc _).oa _ (.slice (some ⟨y0.heap.size, 0, none⟩) 1 1) 1 (celCells (insC 4 i pc off)) rfl (row_new y0 (celCells (insC 4 i pc off)) 9 rfl (by omega) _) (celCells_one _) (by unfold maxLen; have := HLA.out; omega) (by have := HLA.out; omega) (by have := HE0.out.lt; simp; omega) ?_
      intro v1 y1 hO hg hn
      obtain ⟨hE1, q1, q2, q3, A1, k1, rfl⟩ := HE0.out.appA (c := insC 4 i pc off) hO hg hn
      have HE1 := Lib.hid hE1
      clear hO hg hn hE1
      refine hK.out _ _ trivial (fun _ => ?_)
      clear hK K
      try (simp only [Act.put, List.setIfInBounds_toArray, List.set_cons_zero, List.set_cons_succ])
      iterate 2 (refine tree_take (v := ?_) trivial (by rfl) ?_ ?_; rotate_left; (intro x hx; (try dsimp only at hx); go_simp; try (with_reducible rfl)); (simp only [Act.put, List.setIfInBounds_toArray, List.set_cons_zero, List.set_cons_succ]))
      refine tree_call trivial (by rfl) (fun K hK => ?_)
      go_simp
      refine hK.out _ _ trivial (fun _ => ?_)
      clear hK K
      exact tree_done ⟨(y0.heap.size, .slice A1 ((LA).length + 1) k1), rfl, HE1.out⟩
    · go_simp
      refine (withIns_any 4 _ HEws.out.drew).mono ?_; rintro e y0 ⟨rfl, hb0⟩
      go_wp2_with fail
      have HE0 := Lib.hid ((HEws.out.drew).below hb0)
      have cL0 := HE0.out.cellA
      refine hK.out _ _ trivial (fun _ => ?_)
      clear hK K hb0
      try (simp only [Act.put, List.setIfInBounds_toArray, List.set_cons_zero, List.set_cons_succ])
      refine tree_two trivial (by rfl) (by rfl) (fun K hK => ?_) (fun K hK => ?_)
      · go_simp
        refine hK.out _ _ trivial (fun _ => ?_)
        clear hK K
        try (simp only [Act.put, List.setIfInBounds_toArray, List.set_cons_zero, List.set_cons_succ])
        refine tree_call trivial (by rfl) (fun K hK => ?_)
        go_simp
        try rw [fold_cel]
        refine hK.out _ _ trivial (fun _ => ?_)
        clear hK K
        change wpT _ _ _ _ _ _ _ (y0.alloc (.cells (celCells (insC 4 i pc off)).toArray 36))
        try (simp only [Act.put, List.setIfInBounds_toArray, List.set_cons_zero, List.set_cons_succ])
        refine tree_call trivial (by rfl) (fun K hK => ?_)
        refine wp_append_new _ (.tmp 14) (.tmp 17) 26 rfl (b + 1) 36 i0 _ 9 72 Try.underlying26 HI.out HZ0.out HZ1.out HZ2.out rfl (by omega) vs (LA).length (flat celCells (LA)) rfl (HE0.out.alloc _).oa _ (.slice (some ⟨y0.heap.size, 0, none⟩) 1 1) 1 (celCells (insC 4 i pc off)) rfl (row_new y0 (celCells (insC 4 i pc off)) 9 rfl (by omega) _) (celCells_one _) (by unfold maxLen; have := HLA.out; omega) (by have := HLA.out; omega) (by have := HE0.out.lt; simp; omega) ?_
        intro v1 y1 hO hg hn
        obtain ⟨hE1, q1, q2, q3, A1, k1, rfl⟩ := HE0.out.appA (c := insC 4 i pc off) hO hg hn
        have HE1 := Lib.hid hE1
        clear hO hg hn hE1
        refine hK.out _ _ trivial (fun _ => ?_)
        clear hK K
        try (simp only [Act.put, List.setIfInBounds_toArray, List.set_cons_zero, List.set_cons_succ])
        iterate 2 (refine tree_take (v := ?_) trivial (by rfl) ?_ ?_; rotate_left; (intro x hx; (try dsimp only at hx); go_simp; try (with_reducible rfl)); (simp only [Act.put, List.setIfInBounds_toArray, List.set_cons_zero, List.set_cons_succ]))
        refine tree_call trivial (by rfl) (fun K hK => ?_)
        go_simp
        refine hK.out _ _ trivial (fun _ => ?_)
        clear hK K
        exact tree_done ⟨(y0.heap.size, .slice A1 ((LA).length + 1) k1), rfl, HE1.out⟩
      · go_simp
        try rw [fold_cel]
        have cLa := (HE0.out.alloc (.cells (celCells (insC 4 i pc off)).toArray 36)).cellA
        refine hK.out _ _ trivial (fun _ => ?_)
        clear hK K
        change wpT _ _ _ _ _ _ _ (y0.alloc (.cells (celCells (insC 4 i pc off)).toArray 36))
        try (simp only [Act.put, List.setIfInBounds_toArray, List.set_cons_zero, List.set_cons_succ])
        refine tree_call trivial (by rfl) (fun K hK => ?_)
        go_simp
        refine hK.out _ _ trivial (fun _ => ?_)
        clear hK K
        try (simp only [Act.put, List.setIfInBounds_toArray, List.set_cons_zero, List.set_cons_succ])
        refine tree_call trivial (by rfl) (fun K hK => ?_)
        refine wp_append_new _ (.tmp 14) (.tmp 17) 26 rfl (b + 1) 36 i0 _ 9 72 Try.underlying26 HI.out HZ0.out HZ1.out HZ2.out rfl (by omega) vs (LA).length (flat celCells (LA)) rfl (HE0.out.alloc _).oa _ (.slice (some ⟨y0.heap.size, 0, none⟩) 1 1) 1 (celCells (insC 4 i pc off)) rfl (row_new y0 (celCells (insC 4 i pc off)) 9 rfl (by omega) _) (celCells_one _) (by unfold maxLen; have := HLA.out; omega) (by have := HLA.out; omega) (by have := HE0.out.lt; simp; omega) ?_
        intro v1 y1 hO hg hn
        obtain ⟨hE1, q1, q2, q3, A1, k1, rfl⟩ := HE0.out.appA (c := insC 4 i pc off) hO hg hn
        have HE1 := Lib.hid hE1
        clear hO hg hn hE1
        refine hK.out _ _ trivial (fun _ => ?_)
        clear hK K
        try (simp only [Act.put, List.setIfInBounds_toArray, List.set_cons_zero, List.set_cons_succ])
        iterate 2 (refine tree_take (v := ?_) trivial (by rfl) ?_ ?_; rotate_left; (intro x hx; (try dsimp only at hx); go_simp; try (with_reducible rfl)); (simp only [Act.put, List.setIfInBounds_toArray, List.set_cons_zero, List.set_cons_succ]))
        refine tree_call trivial (by rfl) (fun K hK => ?_)
        go_simp
        refine hK.out _ _ trivial (fun _ => ?_)
        clear hK K
        exact tree_done ⟨(y0.heap.size, .slice A1 ((LA).length + 1) k1), rfl, HE1.out⟩
  rintro ⟨B1, v1⟩ w1 hE1
  dsimp only at hE1
  have HEw1 := Lib.hid hE1
  clear hE1
  simp only [Act.put, List.setIfInBounds_toArray, List.set_cons_zero, List.set_cons_succ]
  go_wp2_with fail
  refine region_tree_ex (fun (act : Act) (B : Nat × Value) => ((((((((((((((((act.put (some 21) (.pointer (some ⟨b, 0, none⟩))).put (some 22) (.pointer (some ⟨b, 0, none⟩))).put (some 23) (.pointer (some ⟨b, 0, none⟩))).put (some 24) (.pointer (some ⟨b, 24, none⟩))).put (some 25) us).put (some 26) (.pointer (some ⟨b, 0, none⟩))).put (some 27) (.pointer (some ⟨b, 0, none⟩))).put (some 28) (.pointer (some ⟨b, 0, none⟩))).put (some 29) (.pointer (some ⟨b, 0, none⟩))).put (some 30) (.pointer (some ⟨b, 3, none⟩))).put (some 31) (.int .i64 i.b)).put (some 32) (.agg (celCells (regC 8 i.b pc off)).toArray)).put (some 33) (.slice (some ⟨B.1, 0, none⟩) 1 1)).put (some 34) B.2).put (some 35) (.pointer (some ⟨b, 0, none⟩))).put (some 36) (.pointer (some ⟨b, 24, none⟩))))
    (fun B y => Em b i z pc off S w0 y v1 B.2 (LA ++ [insC 4 i pc off]) (LE ++ [regC 8 i.b pc off]))
    (LinT.of [(0, true), (1, true), (2, true), (3, true), (5, true), (6, true), (7, true), (8, true), (9, true), (10, true)] (.two 4 11 (LinT.of [(11, false), (12, false), (13, false), (14, true), (15, true), (16, false)] .nil) (LinT.of [] (.two 4 12 (LinT.of [(12, false), (13, false), (14, true), (15, true), (16, false)] .nil) (LinT.of [(4, false), (13, false), (14, true), (15, true), (16, false)] .nil)))))
    (by kernel_rfl) (by kernel_rfl) rfl (by kernel_rfl) (fun y => y.cell? ⟨b, 3, none⟩ = some (.int .i64 i.b)) ?_ ?_
  · simp only [LinT.of, LinT.look, List.getElem?_toArray, List.getElem?_cons_succ, List.getElem?_cons_zero]
    have cL : w1.drew.cell? ⟨b, 24, none⟩ = some us := HEw1.out.cellE
    have cL2 : w1.cell? ⟨b, 24, none⟩ = some us := HEw1.out.cellE
    iterate 10 (refine tree_take (v := ?_) ((HEw1.out.drew).cellI (k := 3) rfl) (by rfl) ?_ ?_; rotate_left; (intro x hx; (try dsimp only at hx); go_simp; try (with_reducible rfl)); (simp only [Act.put, List.setIfInBounds_toArray, List.set_cons_zero, List.set_cons_succ]))
    refine tree_two ((HEw1.out.drew).cellI (k := 3) rfl) (by rfl) (by rfl) (fun K hK => ?_) (fun K hK => ?_)
    · go_simp
      refine hK.out _ _ ((HEw1.out.drew).cellI (k := 3) rfl) (fun _ => ?_)
      clear hK K
      try (simp only [Act.put, List.setIfInBounds_toArray, List.set_cons_zero, List.set_cons_succ])
      refine tree_call ((HEw1.out.drew).cellI (k := 3) rfl) (by rfl) (fun K hK => ?_)
      go_simp
      refine (withReg_any 8 i.b _ HEw1.out.drew).mono ?_; rintro e y0 ⟨rfl, hb0⟩
      go_wp2_with fail
      have HE0 := Lib.hid ((HEw1.out.drew).below hb0)
      have cL0 := HE0.out.cellE
      refine hK.out _ _ ((HE0.out).cellI (k := 3) rfl) (fun _ => ?_)
      clear hK K hb0
      try (simp only [Act.put, List.setIfInBounds_toArray, List.set_cons_zero, List.set_cons_succ])
      refine tree_call ((HE0.out).cellI (k := 3) rfl) (by rfl) (fun K hK => ?_)
      go_simp
      try rw [fold_cel]
      refine hK.out _ _ ((HE0.out.alloc _).cellI (k := 3) rfl) (fun _ => ?_)
      clear hK K
      change wpT _ _ _ _ _ _ _ (y0.alloc (.cells (celCells (regC 8 i.b pc off)).toArray 36))
      try (simp only [Act.put, List.setIfInBounds_toArray, List.set_cons_zero, List.set_cons_succ])
      refine tree_call ((HE0.out.alloc _).cellI (k := 3) rfl) (by rfl) (fun K hK => ?_)
      refine wp_append_new _ (.tmp 25) (.tmp 33) 26 rfl (b + 1) 36 i0 _ 9 72 Try.underlying26 HI.out HZ0.out HZ1.out HZ2.out rfl (by omega) us (LE).length (flat celCells (LE)) rfl (HE0.out.alloc _).oe _ (.slice (some ⟨y0.heap.size, 0, none⟩) 1 1) 1 (celCells (regC 8 i.b pc off)) rfl (row_new y0 (celCells (regC 8 i.b pc off)) 9 rfl (by omega) _) (celCells_one _) (by unfold maxLen; have := HLE.out; omega) (by have := HLE.out; omega) (by have := HE0.out.lt; simp; omega) ?_
      intro v1 y1 hO hg hn
      obtain ⟨hE1, q1, q2, q3, A1, k1, rfl⟩ := HE0.out.appE (c := regC 8 i.b pc off) hO hg hn
      have HE1 := Lib.hid hE1
      clear hO hg hn hE1
      refine hK.out _ _ (boxI q3 (k := 3) rfl) (fun _ => ?_)
      clear hK K
      try (simp only [Act.put, List.setIfInBounds_toArray, List.set_cons_zero, List.set_cons_succ])
      iterate 2 (refine tree_take (v := ?_) (boxI q3 (k := 3) rfl) (by rfl) ?_ ?_; rotate_left; (intro x hx; (try dsimp only at hx); go_simp; try (with_reducible rfl)); (simp only [Act.put, List.setIfInBounds_toArray, List.set_cons_zero, List.set_cons_succ]))
      refine tree_call (boxI q3 (k := 3) rfl) (by rfl) (fun K hK => ?_)
      go_simp
      refine hK.out _ _ ((HE1.out).cellI (k := 3) rfl) (fun _ => ?_)
      clear hK K
      exact tree_done ⟨(y0.heap.size, .slice A1 ((LE).length + 1) k1), rfl, HE1.out⟩
    · go_simp
      refine (withReg_any 8 i.b _ HEw1.out.drew).mono ?_; rintro e y0 ⟨rfl, hb0⟩
      go_wp2_with fail
      have HE0 := Lib.hid ((HEw1.out.drew).below hb0)
      have cL0 := HE0.out.cellE
      refine hK.out _ _ ((HE0.out).cellI (k := 3) rfl) (fun _ => ?_)
      clear hK K hb0
      try (simp only [Act.put, List.setIfInBounds_toArray, List.set_cons_zero, List.set_cons_succ])
      refine tree_two ((HE0.out).cellI (k := 3) rfl) (by rfl) (by rfl) (fun K hK => ?_) (fun K hK => ?_)
      · go_simp
        refine hK.out _ _ ((HE0.out).cellI (k := 3) rfl) (fun _ => ?_)
        clear hK K
        try (simp only [Act.put, List.setIfInBounds_toArray, List.set_cons_zero, List.set_cons_succ])
        refine tree_call ((HE0.out).cellI (k := 3) rfl) (by rfl) (fun K hK => ?_)
        go_simp
        try rw [fold_cel]
        refine hK.out _ _ ((HE0.out.alloc _).cellI (k := 3) rfl) (fun _ => ?_)
        clear hK K
        change wpT _ _ _ _ _ _ _ (y0.alloc (.cells (celCells (regC 8 i.b pc off)).toArray 36))
        try (simp only [Act.put, List.setIfInBounds_toArray, List.set_cons_zero, List.set_cons_succ])
        refine tree_call ((HE0.out.alloc _).cellI (k := 3) rfl) (by rfl) (fun K hK => ?_)
        refine wp_append_new _ (.tmp 25) (.tmp 33) 26 rfl (b + 1) 36 i0 _ 9 72 Try.underlying26 HI.out HZ0.out HZ1.out HZ2.out rfl (by omega) us (LE).length (flat celCells (LE)) rfl (HE0.out.alloc _).oe _ (.slice (some ⟨y0.heap.size, 0, none⟩) 1 1) 1 (celCells (regC 8 i.b pc off)) rfl (row_new y0 (celCells (regC 8 i.b pc off)) 9 rfl (by omega) _) (celCells_one _) (by unfold maxLen; have := HLE.out; omega) (by have := HLE.out; omega) (by have := HE0.out.lt; simp; omega) ?_
        intro v1 y1 hO hg hn
        obtain ⟨hE1, q1, q2, q3, A1, k1, rfl⟩ := HE0.out.appE (c := regC 8 i.b pc off) hO hg hn
        have HE1 := Lib.hid hE1
        clear hO hg hn hE1
        refine hK.out _ _ (boxI q3 (k := 3) rfl) (fun _ => ?_)
        clear hK K
        try (simp only [Act.put, List.setIfInBounds_toArray, List.set_cons_zero, List.set_cons_succ])
        iterate 2 (refine tree_take (v := ?_) (boxI q3 (k := 3) rfl) (by rfl) ?_ ?_; rotate_left; (intro x hx; (try dsimp only at hx); go_simp; try (with_reducible rfl)); (simp only [Act.put, List.setIfInBounds_toArray, List.set_cons_zero, List.set_cons_succ]))
        refine tree_call (boxI q3 (k := 3) rfl) (by rfl) (fun K hK => ?_)
        go_simp
        refine hK.out _ _ ((HE1.out).cellI (k := 3) rfl) (fun _ => ?_)
        clear hK K
        exact tree_done ⟨(y0.heap.size, .slice A1 ((LE).length + 1) k1), rfl, HE1.out⟩
      · go_simp
        try rw [fold_cel]
        have cLa := (HE0.out.alloc (.cells (celCells (regC 8 i.b pc off)).toArray 36)).cellE
        refine hK.out _ _ ((HE0.out.alloc _).cellI (k := 3) rfl) (fun _ => ?_)
        clear hK K
        change wpT _ _ _ _ _ _ _ (y0.alloc (.cells (celCells (regC 8 i.b pc off)).toArray 36))
        try (simp only [Act.put, List.setIfInBounds_toArray, List.set_cons_zero, List.set_cons_succ])
        refine tree_call ((HE0.out.alloc _).cellI (k := 3) rfl) (by rfl) (fun K hK => ?_)
        go_simp
        refine hK.out _ _ ((HE0.out.alloc _).cellI (k := 3) rfl) (fun _ => ?_)
        clear hK K
        try (simp only [Act.put, List.setIfInBounds_toArray, List.set_cons_zero, List.set_cons_succ])
        refine tree_call ((HE0.out.alloc _).cellI (k := 3) rfl) (by rfl) (fun K hK => ?_)
        refine wp_append_new _ (.tmp 25) (.tmp 33) 26 rfl (b + 1) 36 i0 _ 9 72 Try.underlying26 HI.out HZ0.out HZ1.out HZ2.out rfl (by omega) us (LE).length (flat celCells (LE)) rfl (HE0.out.alloc _).oe _ (.slice (some ⟨y0.heap.size, 0, none⟩) 1 1) 1 (celCells (regC 8 i.b pc off)) rfl (row_new y0 (celCells (regC 8 i.b pc off)) 9 rfl (by omega) _) (celCells_one _) (by unfold maxLen; have := HLE.out; omega) (by have := HLE.out; omega) (by have := HE0.out.lt; simp; omega) ?_
        intro v1 y1 hO hg hn
        obtain ⟨hE1, q1, q2, q3, A1, k1, rfl⟩ := HE0.out.appE (c := regC 8 i.b pc off) hO hg hn
        have HE1 := Lib.hid hE1
        clear hO hg hn hE1
        refine hK.out _ _ (boxI q3 (k := 3) rfl) (fun _ => ?_)
        clear hK K
        try (simp only [Act.put, List.setIfInBounds_toArray, List.set_cons_zero, List.set_cons_succ])
        iterate 2 (refine tree_take (v := ?_) (boxI q3 (k := 3) rfl) (by rfl) ?_ ?_; rotate_left; (intro x hx; (try dsimp only at hx); go_simp; try (with_reducible rfl)); (simp only [Act.put, List.setIfInBounds_toArray, List.set_cons_zero, List.set_cons_succ]))
        refine tree_call (boxI q3 (k := 3) rfl) (by rfl) (fun K hK => ?_)
        go_simp
        refine hK.out _ _ ((HE1.out).cellI (k := 3) rfl) (fun _ => ?_)
        clear hK K
        exact tree_done ⟨(y0.heap.size, .slice A1 ((LE).length + 1) k1), rfl, HE1.out⟩
  rintro ⟨B2, v2⟩ w2 hE2
  dsimp only at hE2
  have HEw2 := Lib.hid hE2
  clear hE2
  simp only [Act.put, List.setIfInBounds_toArray, List.set_cons_zero, List.set_cons_succ]
  go_wp2_with fail
  have hE2 := HEw2.out
  rw [HNA.out, HNE.out] at hE2
  first | exact bodyPost_ret (v := .tuple #[]) (by simp [results, Try.results33, go_sem]) rfl ⟨rfl, _, _, hE2⟩ | exact bodyPost_end (v := .tuple #[]) (by simp [results, Try.results33, go_sem]) rfl ⟨rfl, _, _, hE2⟩
end Go.Proofs.Ytcaibahniheohaa.Words

/- Contracts of package emit's makers of one cell: bare, with the instruction, with a register. -/
import Derived.Test.YtcaibahniheohaaEmtData
namespace Go.Proofs.Ytcaibahniheohaa.Words
set_option maxRecDepth 100000
open Go.RowKit
set_option linter.unusedVariables false
set_option linter.unusedSimpArgs false

theorem load_cel {w : World} {b : Nat} {c : Cel} (h : Box w b (celCells c)) : (loadVar 36 ⟨b, 0, none⟩).run Try.prog w = .ok (.agg (celCells c).toArray) w :=
  run_loadVar_mid w b 0 36 (celCells c) _ h.whole Try.underlying36 rfl (by rw [celCells_len]; exact size_cel)
theorem size_ins5 : (Try.prog.info? 23).map (·.size) = some 5 := by kernel_rfl
theorem insV_one (i : Ins) : ∀ u ∈ insV i, u.oneCell' = true := by
  intro u hu
  simp only [insV, List.mem_cons, List.not_mem_nil, or_false] at hu
  rcases hu with rfl | rfl | rfl | rfl | rfl <;> rfl
/-- A cell as the one element of a new row. -/
theorem fold_cel (c : Cel) : List.foldl (fun (cs : Array Value) (x : Value × Nat) => cs.setIfInBounds x.snd x.fst) #[.int .i64 0, .int .i64 0, .int .i64 0, .int .i64 0, .int .i64 0, .int .i64 0, .int .i64 0, .int .i64 0, .int .i64 0] (celCells c).zipIdx = (celCells c).toArray := by
  simp [celCells, List.zipIdx]
def zeroCel : Cel := ⟨0, noI, 0, 0, 0⟩

set_option maxHeartbeats 2000000 in
theorem bare_any {b : Nat} {i : Ins} {z : List Int} {pc off : Int} {S : Nat → Prop} {w0 : World} {va ve : Value} {la le : List Cel} (k : Int) (w : World) (h : Em b i z pc off S w0 w va ve la le) :
    Calls Try.prog 35 #[.pointer (some ⟨b, 0, none⟩), .int .i64 k] w fun e w' => e = .returned (.agg (celCells (bareC k pc off)).toArray) ∧ Below w.heap.size w w' := by
  have hlt := h.lt
  have D0 := Lib.hid (fun (y : World) (hy : Below w.heap.size w y) => below_cell hy hlt h.cellPc)
  have D1 := Lib.hid (fun (y : World) (hy : Below w.heap.size w y) => below_cell hy hlt h.cellOff)
  obtain ⟨W, hW⟩ : ∃ W, W = w.alloc (.cells (celCells zeroCel).toArray 36) := ⟨_, rfl⟩
  have HB : Hid (Box W w.heap.size (celCells zeroCel)) := by rw [hW]; exact Box.new w _ _
  have HK : Hid (Below w.heap.size w W) := by rw [hW]; exact (Below.refl _ w).alloc (Nat.le_refl _) _
  have hzW : w.heap.size < W.heap.size := by rw [hW]; simp
  clear h
  go_enter Try.func35, Try.ntmps35
  go_wp2_with fail
  change Code.wp _ _ _ _ (w.alloc (.cells (celCells zeroCel).toArray 36))
  rw [← hW]
  clear hW
  refine wp_region_lin [(0, true), (1, true), (2, true), (3, true), (4, true), (5, true), (6, true), (7, true), (8, true), (9, true), (10, false)] (by kernel_rfl) (by kernel_rfl) rfl (by kernel_rfl) (Below w.heap.size w) ?_
  have hkd : Below w.heap.size w W.drew := HK.out.drew
  simp only [List.map_cons, List.map_nil, List.getElem?_toArray, List.getElem?_cons_succ, List.getElem?_cons_zero]
  iterate 10 (refine lin_take (v := ?_) hkd (by rfl) ?_ ?_; rotate_left; (intro x hx; (try dsimp only at hx); (try have d0 := D0.out x hx); (try have d1 := D1.out x hx); go_simp; try (with_reducible rfl)); (try simp only [Act.put, List.setIfInBounds_toArray, List.set_cons_zero, List.set_cons_succ]))
  refine lin_put_cells hkd (by rfl) 36 (.tmp 4) (.tmp 14) rfl w.heap.size 0 (celCells (bareC k pc off)) rfl rfl (celCells zeroCel) HB.out.drew (by simp [celCells_len]) 9 size_cel rfl (celCells_one _) (fun y hy hg => Below.grown hkd hg (Nat.le_of_lt hzW) (fun i hi => by injection hi with hi; omega)) ?_
  intro w3 B3 hg3
  rw [splice_whole (celCells zeroCel) (celCells (bareC k pc off)) rfl] at B3
  refine lin_done ?_
  go_wp2_with fail
  refine bodyPost_ret (v := .agg (celCells (bareC k pc off)).toArray) ?_ rfl ⟨rfl, ?_⟩
  · exact results_cell Try.results35 _ _ _ ⟨w.heap.size, 0, none⟩ _ rfl (load_cel B3)
  · exact Below.grown hkd hg3 (Nat.le_of_lt hzW) (fun i hi => by injection hi with hi; omega)

set_option maxHeartbeats 2000000 in
theorem withIns_any {b : Nat} {i : Ins} {z : List Int} {pc off : Int} {S : Nat → Prop} {w0 : World} {va ve : Value} {la le : List Cel} (k : Int) (w : World) (h : Em b i z pc off S w0 w va ve la le) :
    Calls Try.prog 40 #[.pointer (some ⟨b, 0, none⟩), .int .i64 k] w fun e w' => e = .returned (.agg (celCells (insC k i pc off)).toArray) ∧ Below w.heap.size w w' := by
  have hlt := h.lt
  obtain ⟨W, hW⟩ : ∃ W, W = w.alloc (.cells (celCells zeroCel).toArray 36) := ⟨_, rfl⟩
  have HB : Hid (Box W w.heap.size (celCells zeroCel)) := by rw [hW]; exact Box.new w _ _
  have HK : Hid (Below w.heap.size w W) := by rw [hW]; exact (Below.refl _ w).alloc (Nat.le_refl _) _
  have HE : Hid (Em b i z pc off S w0 W va ve la le) := by rw [hW]; exact h.alloc _
  have hzW : w.heap.size < W.heap.size := by rw [hW]; simp
  clear h
  go_enter Try.func40, Try.ntmps40
  go_wp2_with fail
  change Calls _ _ _ (w.alloc (.cells (celCells zeroCel).toArray 36)) _
  rw [← hW]
  clear hW
  refine (bare_any k _ HE.out).mono ?_; rintro e w2 ⟨rfl, hb2⟩
  have HE2 := Lib.hid (HE.out.below hb2)
  have HB2 := Lib.hid (HB.out.below hb2 hzW)
  have HK2 := Lib.hid (HK.out.trans (hb2.mono (Nat.le_of_lt hzW)))
  have hz2 : w.heap.size < w2.heap.size := Nat.lt_of_lt_of_le hzW hb2.size
  have hbl2 : b < w2.heap.size := HE2.out.lt
  have HB3 := Lib.hid (HB2.out.alloc (.cells (celCells zeroCel).toArray 36))
  have HC3 := Lib.hid (Box.new w2 (celCells zeroCel) 36)
  have HE3 := Lib.hid (HE2.out.alloc (.cells (celCells zeroCel).toArray 36))
  have HK3 := Lib.hid (HK2.out.alloc (Nat.le_of_lt hz2) (.cells (celCells zeroCel).toArray 36))
  clear hb2
  go_wp2_with (first
    | (refine wpList_store_box rfl 36 (.tmp 5) (.tmp 8) rfl w2.heap.size 0 (celCells (bareC k pc off)) rfl rfl (celCells zeroCel) HC3.out (by simp [celCells_len]) 9 size_cel rfl (celCells_one _) ?_; intro w4 B4 hg4; rw [splice_whole (celCells zeroCel) (celCells (bareC k pc off)) rfl] at B4; have HC4 := Lib.hid B4; have HB4 := Lib.hid (HB3.out.grown hg4 (fun e => by injection e with e; omega)); have HE4 := Lib.hid (HE2.out.keepS (((KeepS.refl (fun j => w2.heap.size ≤ j) w2).alloc _).trans (KeepS.of_grown hg4 (fun g e => by injection e with e; omega))) (fun j e => e)); have HK4 := Lib.hid (Below.grown HK3.out hg4 (by simp; omega) (fun q hq => by injection hq with hq; omega)); clear B4 hg4)
    | (refine wpList_load_box rfl 23 (.tmp 11) rfl b 0 rfl (cellsL i z pc off va ve) (insV i) HE4.out.bx (fun j v h => cellsL_ins h) _ Try.underlying23 rfl 5 size_ins5 rfl ?_)
    | (refine wpList_store_box rfl 23 (.tmp 13) (.tmp 12) rfl w2.heap.size 1 (insV i) rfl rfl (celCells (bareC k pc off)) HC4.out (by simp [celCells_len, insV]) 5 size_ins5 rfl (insV_one _) ?_; intro w5 B5 hg5; have HC5 : Hid (Box w5 w2.heap.size (celCells (insC k i pc off))) := B5; have HB5 := Lib.hid (HB4.out.grown hg5 (fun e => by injection e with e; omega)); have HK5 := Lib.hid (Below.grown HK4.out hg5 (by have := HB4.out.lt; omega) (fun q hq => by injection hq with hq; omega)); clear B5 hg5)
    | (refine wpList_load_box rfl 36 (.tmp 5) rfl w2.heap.size 0 rfl (celCells (insC k i pc off)) (celCells (insC k i pc off)) HC5.out whole_at _ Try.underlying36 rfl 9 size_cel rfl ?_)
    | (refine wpList_store_box rfl 36 (.tmp 4) (.tmp 14) rfl w.heap.size 0 (celCells (insC k i pc off)) rfl rfl (celCells zeroCel) HB5.out (by simp [celCells_len]) 9 size_cel rfl (celCells_one _) ?_; intro w6 B6 hg6; rw [splice_whole (celCells zeroCel) (celCells (insC k i pc off)) rfl] at B6))
  refine bodyPost_ret (v := .agg (celCells (insC k i pc off)).toArray) ?_ rfl ⟨rfl, ?_⟩
  · exact results_cell Try.results40 _ _ _ ⟨w.heap.size, 0, none⟩ _ rfl (load_cel B6)
  · exact Below.grown HK5.out hg6 (Nat.le_of_lt HB5.out.lt) (fun i hi => by injection hi with hi; omega)

set_option maxHeartbeats 2000000 in
theorem withReg_any {b : Nat} {i : Ins} {z : List Int} {pc off : Int} {S : Nat → Prop} {w0 : World} {va ve : Value} {la le : List Cel} (k r : Int) (w : World) (h : Em b i z pc off S w0 w va ve la le) :
    Calls Try.prog 42 #[.pointer (some ⟨b, 0, none⟩), .int .i64 k, .int .i64 r] w fun e w' => e = .returned (.agg (celCells (regC k r pc off)).toArray) ∧ Below w.heap.size w w' := by
  have hlt := h.lt
  obtain ⟨W, hW⟩ : ∃ W, W = w.alloc (.cells (celCells zeroCel).toArray 36) := ⟨_, rfl⟩
  have HB : Hid (Box W w.heap.size (celCells zeroCel)) := by rw [hW]; exact Box.new w _ _
  have HK : Hid (Below w.heap.size w W) := by rw [hW]; exact (Below.refl _ w).alloc (Nat.le_refl _) _
  have HE : Hid (Em b i z pc off S w0 W va ve la le) := by rw [hW]; exact h.alloc _
  have hzW : w.heap.size < W.heap.size := by rw [hW]; simp
  clear h
  go_enter Try.func42, Try.ntmps42
  go_wp2_with fail
  change Calls _ _ _ (w.alloc (.cells (celCells zeroCel).toArray 36)) _
  rw [← hW]
  clear hW
  refine (bare_any k _ HE.out).mono ?_; rintro e w2 ⟨rfl, hb2⟩
  have HE2 := Lib.hid (HE.out.below hb2)
  have HB2 := Lib.hid (HB.out.below hb2 hzW)
  have HK2 := Lib.hid (HK.out.trans (hb2.mono (Nat.le_of_lt hzW)))
  have hz2 : w.heap.size < w2.heap.size := Nat.lt_of_lt_of_le hzW hb2.size
  have hbl2 : b < w2.heap.size := HE2.out.lt
  have HB3 := Lib.hid (HB2.out.alloc (.cells (celCells zeroCel).toArray 36))
  have HC3 := Lib.hid (Box.new w2 (celCells zeroCel) 36)
  have HE3 := Lib.hid (HE2.out.alloc (.cells (celCells zeroCel).toArray 36))
  have HK3 := Lib.hid (HK2.out.alloc (Nat.le_of_lt hz2) (.cells (celCells zeroCel).toArray 36))
  clear hb2
  go_wp2_with (first
    | (refine wpList_store_box rfl 36 (.tmp 7) (.tmp 10) rfl w2.heap.size 0 (celCells (bareC k pc off)) rfl rfl (celCells zeroCel) HC3.out (by simp [celCells_len]) 9 size_cel rfl (celCells_one _) ?_; intro w4 B4 hg4; rw [splice_whole (celCells zeroCel) (celCells (bareC k pc off)) rfl] at B4; have HC4 := Lib.hid B4; have HB4 := Lib.hid (HB3.out.grown hg4 (fun e => by injection e with e; omega)); have HE4 := Lib.hid (HE2.out.keepS (((KeepS.refl (fun j => w2.heap.size ≤ j) w2).alloc _).trans (KeepS.of_grown hg4 (fun g e => by injection e with e; omega))) (fun j e => e)); have HK4 := Lib.hid (Below.grown HK3.out hg4 (by simp; omega) (fun q hq => by injection hq with hq; omega)); have c6 : w4.cell? ⟨w2.heap.size, 6, none⟩ = some (.int .i64 0) := B4.cell (k := 6) rfl; have f6 := B4.frozen 6; have HZ4 : Hid (w2.heap.size < w4.heap.size) := B4.lt; clear B4 hg4)
    | (refine wpList_load_box rfl 36 (.tmp 7) rfl w2.heap.size 0 rfl (celCells (regC k r pc off)) (celCells (regC k r pc off)) (show Box _ w2.heap.size (celCells (regC k r pc off)) from HC4.out.setCell 6 (.int .i64 r)) whole_at _ Try.underlying36 rfl 9 size_cel rfl ?_)
    | (refine wpList_store_box rfl 36 (.tmp 6) (.tmp 13) rfl w.heap.size 0 (celCells (regC k r pc off)) rfl rfl (celCells zeroCel) (HB4.out.setCell_other (b' := w2.heap.size) (Nat.ne_of_lt hz2) 6 (.int .i64 r)) (by simp [celCells_len]) 9 size_cel rfl (celCells_one _) ?_; intro w6 B6 hg6; rw [splice_whole (celCells zeroCel) (celCells (regC k r pc off)) rfl] at B6))
  refine bodyPost_ret (v := .agg (celCells (regC k r pc off)).toArray) ?_ rfl ⟨rfl, ?_⟩
  · exact results_cell Try.results42 _ _ _ ⟨w.heap.size, 0, none⟩ _ rfl (load_cel B6)
  · exact Below.grown (HK4.out.setCell (p := ⟨w2.heap.size, 6, none⟩) (Nat.le_of_lt hz2) _) hg6 (by simp [World.setCell]; have := HB4.out.lt; omega) (fun i hi => by injection hi with hi; omega)
end Go.Proofs.Ytcaibahniheohaa.Words

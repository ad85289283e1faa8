/- Contracts of package emit's A and E. -/
import Derived.Test.YtcaibahniheohaaEmtCells
namespace Go.Proofs.Ytcaibahniheohaa.Words
set_option maxRecDepth 100000
open Go.RowKit
set_option linter.unusedVariables false
set_option linter.unusedSimpArgs false

/-- Cells in memory that was not there before. -/
def CelsN (w : World) (l : List Cel) (e : Ending) (w' : World) : Prop :=
  ∃ v, e = .returned v ∧ Row w' w'.heap.size 9 v l.length (flat celCells l) ∧ NewV w.heap.size v ∧ Below w.heap.size w w'
theorem field_cells_aux (i : Ins) (pc off : Int) (va ve : Value) (y : World) (a0 a1 a2 a3 a4 a5 a6 a7 a8 a9 a10 a11 a12 a13 a14 a15 : Int) :
    (Instr.field 58 (.agg (cellsL i [a0, a1, a2, a3, a4, a5, a6, a7, a8, a9, a10, a11, a12, a13, a14, a15] pc off va ve).toArray) 4).run Try.prog y = .ok va y ∧ (Instr.field 58 (.agg (cellsL i [a0, a1, a2, a3, a4, a5, a6, a7, a8, a9, a10, a11, a12, a13, a14, a15] pc off va ve).toArray) 5).run Try.prog y = .ok ve y := ⟨by kernel_rfl, by kernel_rfl⟩
theorem field_cells (i : Ins) (z : List Int) (pc off : Int) (va ve : Value) (y : World) (h : z.length = 16) :
    (Instr.field 58 (.agg (cellsL i z pc off va ve).toArray) 4).run Try.prog y = .ok va y ∧ (Instr.field 58 (.agg (cellsL i z pc off va ve).toArray) 5).run Try.prog y = .ok ve y := by
  match z, h with
  | [a0, a1, a2, a3, a4, a5, a6, a7, a8, a9, a10, a11, a12, a13, a14, a15], _ => exact field_cells_aux i pc off va ve y a0 a1 a2 a3 a4 a5 a6 a7 a8 a9 a10 a11 a12 a13 a14 a15

set_option maxHeartbeats 4000000 in
theorem emitA_any (i : Ins) (o : List Int) (pc off : Int) (w : World) (ho : o.length = 16) :
    Calls Try.prog 10 #[.agg #[.int .i64 i.op, .int .i64 i.d, .int .i64 i.a, .int .i64 i.b, .int .i64 i.imm], .agg (oV o).toArray, .int .i64 pc, .int .i64 off] w (CelsN w (emitA (zeroed o) i pc off)) := by
  have HOL := Lib.hid ho
  have HK : Hid (Below w.heap.size w ((w.alloc (.cells (insV i).toArray 23)).alloc (.cells (oV o).toArray 24))) := ((Below.refl w.heap.size w).alloc (Nat.le_refl _) _).alloc (by simp) _
  have HY : Hid (Box ((w.alloc (.cells (insV i).toArray 23)).alloc (.cells (oV o).toArray 24)) (w.heap.size + 1) (oV o)) := by
    have h := Box.new (w.alloc (.cells (insV i).toArray 23)) (oV o) 24
    have e : (w.alloc (.cells (insV i).toArray 23)).heap.size = w.heap.size + 1 := by simp
    rw [e] at h
    exact h
  have HX : Hid (Box ((w.alloc (.cells (insV i).toArray 23)).alloc (.cells (oV o).toArray 24)) w.heap.size (insV i)) := (Box.new w (insV i) _).alloc _
  clear ho
  go_enter Try.func10, Try.ntmps10
  go_wp2_with (first
    | (refine wpList_load_box rfl 23 (.tmp 4) rfl w.heap.size 0 rfl (insV i) (insV i) HX.out whole_at _ Try.underlying23 rfl 5 size_ins5 rfl ?_)
    | (refine wpList_load_box rfl 24 (.tmp 5) rfl (w.heap.size + 1) 0 rfl (oV o) (oV o) HY.out whole_at _ Try.underlying24 rfl 16 (by kernel_rfl) ((oV_len o).trans HOL.out) ?_))
  refine (cellsOf_any i o pc off _ HOL.out).mono ?_; rintro e w1 ⟨va, ve, rfl, ha, he, na, ne, hb⟩
  have HA := Lib.hid ha
  have HNA : Hid (NewV w.heap.size va) := fun a n c hv => Nat.le_trans (by simp; omega) (na a n c hv)
  have HKB := Lib.hid (HK.out.trans (hb.mono (by simp; omega)))
  have fd := fun y => (field_cells i (zeroed o) pc off va ve y (zeroed_len HOL.out)).1
  clear ha he na ne hb
  go_wp2_with fail
  refine bodyPost_ret (v := va) (by simp [results, Try.results10, go_sem]) rfl ⟨_, rfl, HA.out, HNA.out, HKB.out⟩

set_option maxHeartbeats 4000000 in
theorem emitE_any (i : Ins) (o : List Int) (pc off : Int) (w : World) (ho : o.length = 16) :
    Calls Try.prog 11 #[.agg #[.int .i64 i.op, .int .i64 i.d, .int .i64 i.a, .int .i64 i.b, .int .i64 i.imm], .agg (oV o).toArray, .int .i64 pc, .int .i64 off] w (CelsN w (emitE (zeroed o) i pc off)) := by
  have HOL := Lib.hid ho
  have HK : Hid (Below w.heap.size w ((w.alloc (.cells (insV i).toArray 23)).alloc (.cells (oV o).toArray 24))) := ((Below.refl w.heap.size w).alloc (Nat.le_refl _) _).alloc (by simp) _
  have HY : Hid (Box ((w.alloc (.cells (insV i).toArray 23)).alloc (.cells (oV o).toArray 24)) (w.heap.size + 1) (oV o)) := by
    have h := Box.new (w.alloc (.cells (insV i).toArray 23)) (oV o) 24
    have e : (w.alloc (.cells (insV i).toArray 23)).heap.size = w.heap.size + 1 := by simp
    rw [e] at h
    exact h
  have HX : Hid (Box ((w.alloc (.cells (insV i).toArray 23)).alloc (.cells (oV o).toArray 24)) w.heap.size (insV i)) := (Box.new w (insV i) _).alloc _
  clear ho
  go_enter Try.func11, Try.ntmps11
  go_wp2_with (first
    | (refine wpList_load_box rfl 23 (.tmp 4) rfl w.heap.size 0 rfl (insV i) (insV i) HX.out whole_at _ Try.underlying23 rfl 5 size_ins5 rfl ?_)
    | (refine wpList_load_box rfl 24 (.tmp 5) rfl (w.heap.size + 1) 0 rfl (oV o) (oV o) HY.out whole_at _ Try.underlying24 rfl 16 (by kernel_rfl) ((oV_len o).trans HOL.out) ?_))
  refine (cellsOf_any i o pc off _ HOL.out).mono ?_; rintro e w1 ⟨va, ve, rfl, ha, he, na, ne, hb⟩
  have HA := Lib.hid he
  have HNA : Hid (NewV w.heap.size ve) := fun a n c hv => Nat.le_trans (by simp; omega) (ne a n c hv)
  have HKB := Lib.hid (HK.out.trans (hb.mono (by simp; omega)))
  have fd := fun y => (field_cells i (zeroed o) pc off va ve y (zeroed_len HOL.out)).2
  clear ha he na ne hb
  go_wp2_with fail
  refine bodyPost_ret (v := ve) (by simp [results, Try.results11, go_sem]) rfl ⟨_, rfl, HA.out, HNA.out, HKB.out⟩

end Go.Proofs.Ytcaibahniheohaa.Words

/- The walk of the law EmitTells. -/
import Derived.Test.YtcaibahniheohaaEmtAlive
namespace Go.Proofs.Ytcaibahniheohaa.Words
set_option maxRecDepth 100000
open Go.RowKit
set_option linter.unusedVariables false
set_option linter.unusedSimpArgs false

set_option maxHeartbeats 4000000 in
theorem emitTells_walk (i : Ins) (o : List Int) (pc off : Int) (w : World) (hi : i.Fits) (ho : o.length = 16) (hp : -9223372036854775808 ≤ pc ∧ pc ≤ 9223372036854775807) (hf : -9223372036854775808 ≤ off ∧ off ≤ 9223372036854775807) :
    Calls Try.prog 3 #[.agg #[.int .i64 i.op, .int .i64 i.d, .int .i64 i.a, .int .i64 i.b, .int .i64 i.imm], .agg (oV o).toArray, .int .i64 pc, .int .i64 off] w fun e w' => e = .returned (.bool true) ∧ Below w.heap.size w w' := by
  obtain ⟨W1, hW1⟩ : ∃ W1, W1 = w.alloc (.cells (insV i).toArray 23) := ⟨_, rfl⟩
  obtain ⟨W2, hW2⟩ : ∃ W2, W2 = W1.alloc (.cells (oV o).toArray 24) := ⟨_, rfl⟩
  have hz1 : W1.heap.size = w.heap.size + 1 := by rw [hW1]; simp
  have hz2 : W2.heap.size = w.heap.size + 2 := by rw [hW2]; simp [hz1]
  have HK0 : Hid (Below w.heap.size w W2) := by rw [hW2, hW1]; exact ((Below.refl w.heap.size w).alloc (Nat.le_refl _) _).alloc (by simp) _
  have HX0 : Hid (Box W2 w.heap.size (insV i)) := by rw [hW2, hW1]; exact (Box.new w (insV i) _).alloc _
  have HY0 : Hid (Box W2 (w.heap.size + 1) (oV o)) := by rw [hW2, ← hz1]; exact Box.new W1 (oV o) _
  have HOL := Lib.hid ho
  clear ho hz1 hz2 hi hp hf
  go_enter Try.func3, Try.ntmps3
  go_wp2_with fail
  change Calls _ _ _ ((w.alloc (.cells (insV i).toArray 23)).alloc (.cells (oV o).toArray 24)) _
  rw [← hW1, ← hW2]
  clear hW1 hW2
  refine (alive12_any _).mono ?_; rintro e w1 ⟨rfl, hb⟩
  have HK1 := Lib.hid (HK0.out.trans (hb.mono HK0.out.size))
  have HX1 := Lib.hid (HX0.out.below hb HX0.out.lt)
  have HY1 := Lib.hid (HY0.out.below hb HY0.out.lt)
  clear hb
  go_wp2_with (first
    | (refine wpList_load_box rfl 23 (.tmp 4) rfl w.heap.size 0 rfl (insV i) (insV i) HX1.out whole_at _ Try.underlying23 rfl 5 size_ins5 rfl ?_)
    | (refine wpList_load_box rfl 24 (.tmp 5) rfl (w.heap.size + 1) 0 rfl (oV o) (oV o) HY1.out whole_at _ Try.underlying24 rfl 16 (by kernel_rfl) ((oV_len o).trans HOL.out) ?_))
  refine (refEmit_any i o pc off _ HOL.out).mono ?_; rintro e w2 ⟨va, ve, rfl, ha, he, na, ne, hb⟩
  have HK2 := Lib.hid (HK1.out.trans (hb.mono HK1.out.size))
  have HX2 := Lib.hid (HX1.out.below hb HX1.out.lt)
  have HY2 := Lib.hid (HY1.out.below hb HY1.out.lt)
  obtain ⟨A1, c1, rfl⟩ := ha.form
  obtain ⟨E1, d1, rfl⟩ := he.form
  have HA2 := Lib.hid ha
  have HE2 := Lib.hid he
  clear ha he na ne hb
  go_wp2_with (first
    | (refine wpList_load_box rfl 23 (.tmp 4) rfl w.heap.size 0 rfl (insV i) (insV i) HX2.out whole_at _ Try.underlying23 rfl 5 size_ins5 rfl ?_)
    | (refine wpList_load_box rfl 24 (.tmp 5) rfl (w.heap.size + 1) 0 rfl (oV o) (oV o) HY2.out whole_at _ Try.underlying24 rfl 16 (by kernel_rfl) ((oV_len o).trans HOL.out) ?_))
  refine (emitA_any i o pc off _ HOL.out).mono ?_; rintro e w3 ⟨v3, rfl, ha, na, hb⟩
  obtain ⟨A3, c3, rfl⟩ := ha.form
  have HA3 := Lib.hid ha
  have HA2b := Lib.hid ((HA2.out.below hb).more hb.size)
  have HE3 := Lib.hid ((HE2.out.below hb).more hb.size)
  have HK3 := Lib.hid (HK2.out.trans (hb.mono HK2.out.size))
  have HX3 := Lib.hid (HX2.out.below hb HX2.out.lt)
  have HY3 := Lib.hid (HY2.out.below hb HY2.out.lt)
  clear ha na hb
  go_wp2_with fail
  refine (row_same A3 A1 c3 c1 (emitA (zeroed o) i pc off) _ HA3.out HA2b.out).mono ?_; rintro e w4 ⟨rfl, hb⟩
  have HE4 := Lib.hid ((HE3.out.below hb).more hb.size)
  have HK4 := Lib.hid (HK3.out.trans (hb.mono HK3.out.size))
  have HX4 := Lib.hid (HX3.out.below hb HX3.out.lt)
  have HY4 := Lib.hid (HY3.out.below hb HY3.out.lt)
  clear hb
  go_wp2_with (first
    | (refine wpList_load_box rfl 23 (.tmp 4) rfl w.heap.size 0 rfl (insV i) (insV i) HX4.out whole_at _ Try.underlying23 rfl 5 size_ins5 rfl ?_)
    | (refine wpList_load_box rfl 24 (.tmp 5) rfl (w.heap.size + 1) 0 rfl (oV o) (oV o) HY4.out whole_at _ Try.underlying24 rfl 16 (by kernel_rfl) ((oV_len o).trans HOL.out) ?_))
  refine (emitE_any i o pc off _ HOL.out).mono ?_; rintro e w5 ⟨v5, rfl, he, ne, hb⟩
  obtain ⟨E5, c5, rfl⟩ := he.form
  have HE5 := Lib.hid he
  have HE4b := Lib.hid ((HE4.out.below hb).more hb.size)
  have HK5 := Lib.hid (HK4.out.trans (hb.mono HK4.out.size))
  clear he ne hb
  go_wp2_with fail
  refine (row_same E5 E1 c5 d1 (emitE (zeroed o) i pc off) _ HE5.out HE4b.out).mono ?_; rintro e w6 ⟨rfl, hb⟩
  have HK6 := Lib.hid (HK5.out.trans (hb.mono HK5.out.size))
  clear hb
  go_wp2_with fail
  go_ret
  exact ⟨by first | rfl | trivial, HK6.out⟩
end Go.Proofs.Ytcaibahniheohaa.Words

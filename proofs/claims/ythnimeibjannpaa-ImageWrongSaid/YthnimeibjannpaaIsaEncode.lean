/- Contracts of isa.Encode and of the document's own: the word of an instruction, and whether there is one. No conditions. -/
import Derived.Test.YthnimeibjannpaaIsaRight
namespace Go.Proofs.Ythnimeibjannpaa.Words
open Go.RowKit

set_option maxHeartbeats 400000 in
theorem lowest14 (x : Int) (w : World) (h0 : 0 ≤ x) (h1 : x ≤ 4294967295) :
    Calls Try.prog 47 #[.int .u32 x, .int .i64 14] w fun e w' => e = .returned (.int .u32 (x % 16384)) ∧ w = w' := by
  have hx := Lib.hid (and_16383 x h0 (by omega))
  go_enter Try.func47, Try.ntmps47
  go_wp2
  go_ret
  exact ⟨ret_int hx.out, rfl⟩

set_option maxHeartbeats 400000 in
theorem signed_any (x : Int) (w : World) (h0 : 0 ≤ x) (h1 : x ≤ 16383) :
    Calls Try.prog 49 #[.int .u32 x] w fun e w' => e = .returned (.int .i64 (sgn14 x)) ∧ w = w' := by
  have hc := sgn14_cases x
  go_enter Try.func49, Try.ntmps49
  go_wp2
  all_goals
    go_ret
    exact ⟨ret_int (by omega), rfl⟩

set_option maxHeartbeats 1000000 in
theorem encode_no (i : Ins) (w : World) (h : rightB i = false) :
    Calls Try.prog 37 #[.agg #[.int .i64 i.op, .int .i64 i.d, .int .i64 i.a, .int .i64 i.b, .int .i64 i.imm]] w fun e w' => e = .returned (.tuple #[.int .u32 0, .bool false]) ∧ Below w.heap.size w w' := by
  go_enter Try.func37, Try.ntmps37
  go_wp2_with fail
  refine (right_any _ _).mono ?_; rintro e w1 ⟨rfl, hb1⟩
  rw [h]
  go_wp2_with fail
  go_ret2
  exact ⟨rfl, ((Below.refl w.heap.size w).alloc (Nat.le_refl _) _).trans (hb1.mono (by simp))⟩

set_option maxHeartbeats 1000000 in
theorem encode_yes (i : Ins) (w : World) (h : rightB i = true) :
    Calls Try.prog 37 #[.agg #[.int .i64 i.op, .int .i64 i.d, .int .i64 i.a, .int .i64 i.b, .int .i64 i.imm]] w fun e w' => e = .returned (.tuple #[.int .u32 (encZ i), .bool true]) ∧ Below w.heap.size w w' := by
  obtain ⟨ho, hd, ha, hb, hm⟩ := right_range h
  have hp := Lib.hid (or_parts i.op i.d i.a i.b (i.imm % 16384) (by omega) hd ha hb (by omega))
  have HR := Lib.hid h
  clear h
  go_enter Try.func37, Try.ntmps37
  go_wp2_with fail
  refine (right_any _ _).mono ?_; rintro e w1 ⟨rfl, hb1⟩
  rw [HR.out]
  obtain ⟨hc1, hf1⟩ := bcell hb1
  go_wp2_with fail
  refine (lowest14 _ _ (by omega) (by omega)).mono ?_; rintro e w2 ⟨rfl, rfl⟩
  go_wp2_with fail
  go_ret2
  exact ⟨ret_wb hp.out rfl, ((Below.refl w.heap.size w).alloc (Nat.le_refl _) _).trans (hb1.mono (by simp))⟩

theorem encode_any (i : Ins) (w : World) :
    Calls Try.prog 37 #[.agg #[.int .i64 i.op, .int .i64 i.d, .int .i64 i.a, .int .i64 i.b, .int .i64 i.imm]] w fun e w' => e = .returned (.tuple #[.int .u32 (encV i), .bool (rightB i)]) ∧ Below w.heap.size w w' := by
  cases h : rightB i
  · rw [encV_no h]; exact encode_no i w h
  · rw [encV_yes h]; exact encode_yes i w h

set_option maxHeartbeats 1000000 in
theorem refEncode_no (i : Ins) (w : World) (h : rightB i = false) :
    Calls Try.prog 38 #[.agg #[.int .i64 i.op, .int .i64 i.d, .int .i64 i.a, .int .i64 i.b, .int .i64 i.imm]] w fun e w' => e = .returned (.tuple #[.int .u32 0, .bool false]) ∧ Below w.heap.size w w' := by
  go_enter Try.func38, Try.ntmps38
  go_wp2_with fail
  refine (rightIns_any _ _).mono ?_; rintro e w1 ⟨rfl, hb1⟩
  rw [h]
  go_wp2_with fail
  go_ret2
  exact ⟨rfl, ((Below.refl w.heap.size w).alloc (Nat.le_refl _) _).trans (hb1.mono (by simp))⟩

set_option maxHeartbeats 1000000 in
theorem refEncode_yes (i : Ins) (w : World) (h : rightB i = true) :
    Calls Try.prog 38 #[.agg #[.int .i64 i.op, .int .i64 i.d, .int .i64 i.a, .int .i64 i.b, .int .i64 i.imm]] w fun e w' => e = .returned (.tuple #[.int .u32 (encZ i), .bool true]) ∧ Below w.heap.size w w' := by
  obtain ⟨ho, hd, ha, hb, hm⟩ := right_range h
  have hp := Lib.hid (or_parts i.op i.d i.a i.b (i.imm % 16384) (by omega) hd ha hb (by omega))
  have hx := Lib.hid (and_16383 (i.imm % 4294967296) (by omega) (by omega))
  have HR := Lib.hid h
  clear h
  go_enter Try.func38, Try.ntmps38
  go_wp2_with fail
  refine (rightIns_any _ _).mono ?_; rintro e w1 ⟨rfl, hb1⟩
  rw [HR.out]
  obtain ⟨hc1, hf1⟩ := bcell hb1
  go_wp2_with fail
  go_ret2
  exact ⟨ret_wb (by rw [hx.out, show i.imm % 4294967296 % 16384 = i.imm % 16384 by omega]; exact hp.out) rfl, ((Below.refl w.heap.size w).alloc (Nat.le_refl _) _).trans (hb1.mono (by simp))⟩

theorem refEncode_any (i : Ins) (w : World) :
    Calls Try.prog 38 #[.agg #[.int .i64 i.op, .int .i64 i.d, .int .i64 i.a, .int .i64 i.b, .int .i64 i.imm]] w fun e w' => e = .returned (.tuple #[.int .u32 (encV i), .bool (rightB i)]) ∧ Below w.heap.size w w' := by
  cases h : rightB i
  · rw [encV_no h]; exact refEncode_no i w h
  · rw [encV_yes h]; exact refEncode_yes i w h
end Go.Proofs.Ythnimeibjannpaa.Words

/- Contracts of package bytes: Size, Check, Overlap and the small calls behind them. -/
import Derived.Test.YtjkijjbakocilaaRows
import Derived.Test.YtjkijjbakocilaaBase
import Derived.Test.YtjkijjbakocilaaBytesMath
import Derived.Test.YtjkijjbakocilaaWordOf1
namespace Go.Proofs.Ytjkijjbakocilaa.Words
set_option maxRecDepth 100000
open Go.RowKit
set_option linter.unusedVariables false

set_option maxHeartbeats 400000 in
theorem size_any (op : Int) (w : World) :
    Calls Try.prog 24 #[.int .i64 op] w fun e w' => e = .returned (.int .i64 (sizeZ op)) ∧ w = w' := by
  have hc := sizeZ_cases op
  go_enter Try.func24, Try.ntmps24
  go_wp2
  all_goals
    go_ret
    exact ⟨ret_int (by (try simp only [beq_iff_eq, beq_eq_false_iff_ne, ne_eq] at *); omega), rfl⟩

theorem wrapu64 (x : Int) : IntKind.u64.wrap x = x % 18446744073709551616 := rfl
theorem wrapi16 (x : Int) : IntKind.i16.wrap x = if x % 65536 < 32768 then x % 65536 else x % 65536 - 65536 := by
  simp only [IntKind.wrap, IntKind.bits, IntKind.signed]; simp; split <;> split <;> omega
theorem wrapi8 (x : Int) : IntKind.i8.wrap x = if x % 256 < 128 then x % 256 else x % 256 - 256 := by
  simp only [IntKind.wrap, IntKind.bits, IntKind.signed]; simp; split <;> split <;> omega

set_option maxHeartbeats 400000 in
theorem isAmong_any (p a n : Int) (w : World) (h : a ≤ p) (h0 : -9223372036854775808 ≤ a) (h1 : p ≤ 9223372036854775807) (h2 : 1 ≤ n) (h3 : n ≤ 9223372036854775807) :
    Calls Try.prog 27 #[.int .i64 p, .int .i64 a, .int .i64 n] w fun e w' => e = .returned (.bool (decide (p < a + n))) ∧ w = w' := by
  have e1 : (p % 18446744073709551616 - a % 18446744073709551616) % 18446744073709551616 = p - a := by omega
  have e2 : n % 18446744073709551616 = n := by omega
  go_enter Try.func27, Try.ntmps27
  go_wp2_with fail
  go_ret
  exact ⟨ret_bool (by simp only [wrapu64, e1]; congr 1; apply propext; omega), rfl⟩

set_option maxHeartbeats 1000000 in
theorem overlap_any (a n b m : Int) (w : World) (ha : -9223372036854775808 ≤ a ∧ a ≤ 9223372036854775807) (hn : -9223372036854775808 ≤ n ∧ n ≤ 9223372036854775807) (hb : -9223372036854775808 ≤ b ∧ b ≤ 9223372036854775807) (hm : -9223372036854775808 ≤ m ∧ m ≤ 9223372036854775807) :
    Calls Try.prog 22 #[.int .i64 a, .int .i64 n, .int .i64 b, .int .i64 m] w fun e w' => e = .returned (.bool (overlapB a n b m)) ∧ w = w' := by
  obtain ⟨a0, a1⟩ := ha
  obtain ⟨n0, n1⟩ := hn
  obtain ⟨b0, b1⟩ := hb
  obtain ⟨m0, m1⟩ := hm
  by_cases hn : n < 1
  · have t := Lib.hid (overlapB_no (a := a) (b := b) (m := m) (.inl hn))
    go_enter Try.func22, Try.ntmps22
    go_wp2_with fail
    go_ret
    exact ⟨ret_bool t.out.symm, rfl⟩
  by_cases hm : m < 1
  · have t := Lib.hid (overlapB_no (a := a) (b := b) (n := n) (.inr (.inl hm)))
    go_enter Try.func22, Try.ntmps22
    go_wp2_with fail
    go_ret
    exact ⟨ret_bool t.out.symm, rfl⟩
  by_cases hab : a ≤ b
  · have t : decide (b < a + n) = overlapB a n b m := by unfold overlapB; congr 1; apply propext; omega
    have T := Lib.hid t
    clear t
    go_enter Try.func22, Try.ntmps22
    go_wp2_with fail
    refine (isAmong_any b a n _ hab (by omega) (by omega) (by omega) (by omega)).mono ?_; rintro e w1 ⟨rfl, rfl⟩
    go_wp2_with fail
    go_ret
    exact ⟨ret_bool T.out, rfl⟩
  · have t : decide (a < b + m) = overlapB a n b m := by unfold overlapB; congr 1; apply propext; omega
    have T := Lib.hid t
    clear t
    go_enter Try.func22, Try.ntmps22
    go_wp2_with fail
    refine (isAmong_any a b m _ (by omega) (by omega) (by omega) (by omega) (by omega)).mono ?_; rintro e w1 ⟨rfl, rfl⟩
    go_wp2_with fail
    go_ret
    exact ⟨ret_bool T.out, rfl⟩

end Go.Proofs.Ytjkijjbakocilaa.Words

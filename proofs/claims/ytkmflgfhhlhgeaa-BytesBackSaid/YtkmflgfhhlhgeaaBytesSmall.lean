/- Contracts of package bytes: Size, Check, Overlap and the small calls behind them. -/
import Derived.Test.YtkmflgfhhlhgeaaRows
import Derived.Test.YtkmflgfhhlhgeaaBase
import Derived.Test.YtkmflgfhhlhgeaaBytesMath
import Derived.Test.YtkmflgfhhlhgeaaWordOf1
namespace Go.Proofs.Ytkmflgfhhlhgeaa.Words
open Go.RowKit
set_option linter.unusedVariables false

set_option maxHeartbeats 400000 in
theorem size_any (op : Int) (w : World) :
    Calls Try.prog 10 #[.int .i64 op] w fun e w' => e = .returned (.int .i64 (sizeZ op)) ∧ w = w' := by
  have hc := sizeZ_cases op
  go_enter Try.func10, Try.ntmps10
  go_wp2
  all_goals
    go_ret
    exact ⟨ret_int (by (try simp only [beq_iff_eq, beq_eq_false_iff_ne, ne_eq] at *); omega), rfl⟩

set_option maxHeartbeats 1000000 in
theorem check_any (size addr n : Int) (w : World) (h0 : 0 ≤ addr) (h1 : addr ≤ 4294967295) (hs : -9223372036854775808 ≤ size ∧ size ≤ 9223372036854775807) (hn : -9223372036854775808 ≤ n ∧ n ≤ 9223372036854775807) :
    Calls Try.prog 12 #[.int .i64 size, .int .u32 addr, .int .i64 n] w fun e w' => e = .returned (.int .i64 (checkZ size addr n)) ∧ w = w' := by
  obtain ⟨s0, s1⟩ := hs
  obtain ⟨n0, n1⟩ := hn
  by_cases hs : size < 1
  · by_cases hr : n < addr + size
    · have t := Lib.hid (checkZ_range (n := n) (addr := addr) (.inl hs) hr)
      go_enter Try.func12, Try.ntmps12
      go_wp2_with fail
      go_ret
      exact ⟨ret_int t.out.symm, rfl⟩
    · have t := Lib.hid (checkZ_ok (n := n) (addr := addr) (.inl hs) (by omega))
      go_enter Try.func12, Try.ntmps12
      go_wp2_with fail
      go_ret
      exact ⟨ret_int t.out.symm, rfl⟩
  have hm0 : 0 ≤ addr % size := Int.emod_nonneg _ (by omega)
  have hm1 : addr % size < size := Int.emod_lt_of_pos _ (by omega)
  by_cases hm : addr % size = 0
  · have HM := Lib.hid hm
    have hle : addr + size ≤ 9223372036854775807 := by
      by_cases hz : addr = 0
      · omega
      · have : size ≤ addr := Int.le_of_dvd (by omega) (Int.dvd_of_emod_eq_zero hm)
        omega
    by_cases hq : n < addr + size
    · have t := Lib.hid (checkZ_range (n := n) (addr := addr) (.inr hm) hq)
      go_enter Try.func12, Try.ntmps12
      go_wp2_with fail
      go_ret
      exact ⟨ret_int t.out.symm, rfl⟩
    · have t := Lib.hid (checkZ_ok (n := n) (addr := addr) (.inr hm) (by omega))
      go_enter Try.func12, Try.ntmps12
      go_wp2_with fail
      go_ret
      exact ⟨ret_int t.out.symm, rfl⟩
  · have t := Lib.hid (checkZ_mis (n := n) (show 1 ≤ size by omega) hm)
    have hq : (addr % size != 0) = true := by simp [hm]
    go_enter Try.func12, Try.ntmps12
    go_wp2_with fail
    go_ret
    exact ⟨ret_int t.out.symm, rfl⟩

theorem wrapu64 (x : Int) : IntKind.u64.wrap x = x % 18446744073709551616 := rfl
theorem wrapi16 (x : Int) : IntKind.i16.wrap x = if x % 65536 < 32768 then x % 65536 else x % 65536 - 65536 := by
  simp only [IntKind.wrap, IntKind.bits, IntKind.signed]; simp; split <;> split <;> omega
theorem wrapi8 (x : Int) : IntKind.i8.wrap x = if x % 256 < 128 then x % 256 else x % 256 - 256 := by
  simp only [IntKind.wrap, IntKind.bits, IntKind.signed]; simp; split <;> split <;> omega

set_option maxHeartbeats 400000 in
theorem isAmong_any (p a n : Int) (w : World) (h : a ≤ p) (h0 : -9223372036854775808 ≤ a) (h1 : p ≤ 9223372036854775807) (h2 : 1 ≤ n) (h3 : n ≤ 9223372036854775807) :
    Calls Try.prog 28 #[.int .i64 p, .int .i64 a, .int .i64 n] w fun e w' => e = .returned (.bool (decide (p < a + n))) ∧ w = w' := by
  have e1 : (p % 18446744073709551616 - a % 18446744073709551616) % 18446744073709551616 = p - a := by omega
  have e2 : n % 18446744073709551616 = n := by omega
  go_enter Try.func28, Try.ntmps28
  go_wp2_with fail
  go_ret
  exact ⟨ret_bool (by simp only [wrapu64, e1]; congr 1; apply propext; omega), rfl⟩

set_option maxHeartbeats 1000000 in
theorem overlap_any (a n b m : Int) (w : World) (ha : -9223372036854775808 ≤ a ∧ a ≤ 9223372036854775807) (hn : -9223372036854775808 ≤ n ∧ n ≤ 9223372036854775807) (hb : -9223372036854775808 ≤ b ∧ b ≤ 9223372036854775807) (hm : -9223372036854775808 ≤ m ∧ m ≤ 9223372036854775807) :
    Calls Try.prog 18 #[.int .i64 a, .int .i64 n, .int .i64 b, .int .i64 m] w fun e w' => e = .returned (.bool (overlapB a n b m)) ∧ w = w' := by
  obtain ⟨a0, a1⟩ := ha
  obtain ⟨n0, n1⟩ := hn
  obtain ⟨b0, b1⟩ := hb
  obtain ⟨m0, m1⟩ := hm
  by_cases hn : n < 1
  · have t := Lib.hid (overlapB_no (a := a) (b := b) (m := m) (.inl hn))
    go_enter Try.func18, Try.ntmps18
    go_wp2_with fail
    go_ret
    exact ⟨ret_bool t.out.symm, rfl⟩
  by_cases hm : m < 1
  · have t := Lib.hid (overlapB_no (a := a) (b := b) (n := n) (.inr (.inl hm)))
    go_enter Try.func18, Try.ntmps18
    go_wp2_with fail
    go_ret
    exact ⟨ret_bool t.out.symm, rfl⟩
  by_cases hab : a ≤ b
  · have t : decide (b < a + n) = overlapB a n b m := by unfold overlapB; congr 1; apply propext; omega
    have T := Lib.hid t
    clear t
    go_enter Try.func18, Try.ntmps18
    go_wp2_with fail
    refine (isAmong_any b a n _ hab (by omega) (by omega) (by omega) (by omega)).mono ?_; rintro e w1 ⟨rfl, rfl⟩
    go_wp2_with fail
    go_ret
    exact ⟨ret_bool T.out, rfl⟩
  · have t : decide (a < b + m) = overlapB a n b m := by unfold overlapB; congr 1; apply propext; omega
    have T := Lib.hid t
    clear t
    go_enter Try.func18, Try.ntmps18
    go_wp2_with fail
    refine (isAmong_any a b m _ (by omega) (by omega) (by omega) (by omega) (by omega)).mono ?_; rintro e w1 ⟨rfl, rfl⟩
    go_wp2_with fail
    go_ret
    exact ⟨ret_bool T.out, rfl⟩

set_option maxHeartbeats 400000 in
theorem isLoad_any (op : Int) (w : World) :
    Calls Try.prog 21 #[.int .i64 op] w fun e w' => e = .returned (.bool (decide (26 ≤ op ∧ op ≤ 30))) ∧ w = w' := by
  go_enter Try.func21, Try.ntmps21
  go_wp2
  all_goals
    go_ret
    refine ⟨ret_bool ?_, rfl⟩
    (try simp only [beq_iff_eq, beq_eq_false_iff_ne, ne_eq] at *)
    symm
    first
      | exact decide_eq_true (by omega)
      | exact decide_eq_false (by omega)

set_option maxHeartbeats 400000 in
theorem signed_any (op x : Int) (w : World) (h0 : 0 ≤ x) (h1 : x < 4294967296) :
    Calls Try.prog 23 #[.int .i64 op, .int .u32 x] w fun e w' => e = .returned (.int .u32 (extendZ op x)) ∧ w = w' := by
  go_enter Try.func23, Try.ntmps23
  go_wp2
  all_goals
    go_ret
    refine ⟨ret_int ?_, rfl⟩
    (try simp only [beq_iff_eq, beq_eq_false_iff_ne, ne_eq] at *)
    unfold extendZ
    (try simp only [wrapi16, wrapi8])
    repeat' split
    all_goals omega

set_option maxHeartbeats 400000 in
theorem isSize_any (n : Int) (w : World) :
    Calls Try.prog 30 #[.int .i64 n] w fun e w' => e = .returned (.bool (decide (n = 1 ∨ n = 2 ∨ n = 4))) ∧ w = w' := by
  by_cases a : n = 4
  · subst a
    go_enter Try.func30, Try.ntmps30
    go_wp2_with fail
    go_ret
    exact ⟨rfl, rfl⟩
  by_cases b : n = 2
  · subst b
    go_enter Try.func30, Try.ntmps30
    go_wp2_with fail
    go_ret
    exact ⟨rfl, rfl⟩
  by_cases c : n = 1
  · subst c
    go_enter Try.func30, Try.ntmps30
    go_wp2_with fail
    go_ret
    exact ⟨rfl, rfl⟩
  · have t := Lib.hid (show decide (n = 1 ∨ n = 2 ∨ n = 4) = false from decide_eq_false (by omega))
    have q1 : (n == 4) = false := by simp; exact a
    have q2 : (n == 2) = false := by simp; exact b
    have q3 : (n == 1) = false := by simp; exact c
    clear a b c
    go_enter Try.func30, Try.ntmps30
    go_wp2_with fail
    go_ret
    exact ⟨ret_bool t.out.symm, rfl⟩

set_option maxHeartbeats 400000 in
theorem isAddress_any (n : Int) (w : World) :
    Calls Try.prog 31 #[.int .i64 n] w fun e w' => e = .returned (.bool (decide (0 ≤ n ∧ n ≤ 4294967295))) ∧ w = w' := by
  by_cases a : n < 0
  · have t := Lib.hid (show decide (0 ≤ n ∧ n ≤ 4294967295) = false from decide_eq_false (by omega))
    go_enter Try.func31, Try.ntmps31
    go_wp2_with fail
    go_ret
    exact ⟨ret_bool (t.out.symm ▸ (by simp; try omega)), rfl⟩
  by_cases b : n ≤ 4294967295
  · have t := Lib.hid (show decide (0 ≤ n ∧ n ≤ 4294967295) = true from decide_eq_true (by omega))
    go_enter Try.func31, Try.ntmps31
    go_wp2_with fail
    go_ret
    exact ⟨ret_bool (t.out.symm ▸ (by simp; try omega)), rfl⟩
  · have t := Lib.hid (show decide (0 ≤ n ∧ n ≤ 4294967295) = false from decide_eq_false (by omega))
    go_enter Try.func31, Try.ntmps31
    go_wp2_with fail
    go_ret
    exact ⟨ret_bool (t.out.symm ▸ (by simp; try omega)), rfl⟩
end Go.Proofs.Ytkmflgfhhlhgeaa.Words

/- Contracts of the document's own Size, Check and Overlap. -/
import Derived.Test.YtkmflgfhhlhgeaaRows
import Derived.Test.YtkmflgfhhlhgeaaBase
import Derived.Test.YtkmflgfhhlhgeaaBytesMath
namespace Go.Proofs.Ytkmflgfhhlhgeaa.Words
open Go.RowKit
set_option linter.unusedVariables false

set_option maxHeartbeats 400000 in
theorem refSize_any (op : Int) (w : World) :
    Calls Try.prog 11 #[.int .i64 op] w fun e w' => e = .returned (.int .i64 (sizeZ op)) ∧ w = w' := by
  have hc := sizeZ_cases op
  go_enter Try.func11, Try.ntmps11
  go_wp2
  all_goals
    go_ret
    exact ⟨ret_int (by (try simp only [beq_iff_eq, beq_eq_false_iff_ne, ne_eq] at *); omega), rfl⟩

set_option maxHeartbeats 1000000 in
theorem refCheck_any (size addr n : Int) (w : World) (h0 : 0 ≤ addr) (h1 : addr ≤ 4294967295) (hs : -9223372036854775808 ≤ size ∧ size ≤ 9223372036854775807) (hn : -9223372036854775808 ≤ n ∧ n ≤ 9223372036854775807) :
    Calls Try.prog 13 #[.int .i64 size, .int .u32 addr, .int .i64 n] w fun e w' => e = .returned (.int .i64 (checkZ size addr n)) ∧ w = w' := by
  obtain ⟨s0, s1⟩ := hs
  obtain ⟨n0, n1⟩ := hn
  by_cases hs : size < 1
  · by_cases hr : n < addr + size
    · have t := Lib.hid (checkZ_range (n := n) (addr := addr) (.inl hs) hr)
      go_enter Try.func13, Try.ntmps13
      go_wp2_with fail
      go_ret
      exact ⟨ret_int t.out.symm, rfl⟩
    · have t := Lib.hid (checkZ_ok (n := n) (addr := addr) (.inl hs) (by omega))
      go_enter Try.func13, Try.ntmps13
      go_wp2_with fail
      go_ret
      exact ⟨ret_int t.out.symm, rfl⟩
  have hm0 : 0 ≤ addr % size := Int.emod_nonneg _ (by omega)
  have hm1 : addr % size < size := Int.emod_lt_of_pos _ (by omega)
  by_cases hm : addr % size = 0
  · have HM := Lib.hid hm
    by_cases hr : n < size
    · have t := Lib.hid (checkZ_range (n := n) (addr := addr) (.inr hm) (by omega))
      go_enter Try.func13, Try.ntmps13
      go_wp2_with fail
      go_ret
      exact ⟨ret_int t.out.symm, rfl⟩
    by_cases hq : n < addr + size
    · have t := Lib.hid (checkZ_range (n := n) (addr := addr) (.inr hm) hq)
      go_enter Try.func13, Try.ntmps13
      go_wp2_with fail
      go_ret
      exact ⟨ret_int t.out.symm, rfl⟩
    · have t := Lib.hid (checkZ_ok (n := n) (addr := addr) (.inr hm) (by omega))
      go_enter Try.func13, Try.ntmps13
      go_wp2_with fail
      go_ret
      exact ⟨ret_int t.out.symm, rfl⟩
  · have t := Lib.hid (checkZ_mis (n := n) (show 1 ≤ size by omega) hm)
    have hq : (addr % size != 0) = true := by simp [hm]
    go_enter Try.func13, Try.ntmps13
    go_wp2_with fail
    go_ret
    exact ⟨ret_int t.out.symm, rfl⟩

set_option maxHeartbeats 1000000 in
theorem refOverlap_any (a n b m : Int) (w : World) (ha : -9223372036854775808 ≤ a ∧ a ≤ 9223372036854775807) (hn : -9223372036854775808 ≤ n ∧ n ≤ 9223372036854775807) (hb : -9223372036854775808 ≤ b ∧ b ≤ 9223372036854775807) (hm : -9223372036854775808 ≤ m ∧ m ≤ 9223372036854775807) :
    Calls Try.prog 19 #[.int .i64 a, .int .i64 n, .int .i64 b, .int .i64 m] w fun e w' => e = .returned (.bool (overlapB a n b m)) ∧ w = w' := by
  obtain ⟨a0, a1⟩ := ha
  obtain ⟨n0, n1⟩ := hn
  obtain ⟨b0, b1⟩ := hb
  obtain ⟨m0, m1⟩ := hm
  by_cases hn : n < 1
  · have t := Lib.hid (overlapB_no (a := a) (b := b) (m := m) (.inl hn))
    go_enter Try.func19, Try.ntmps19
    go_wp2_with fail
    go_ret
    exact ⟨ret_bool t.out.symm, rfl⟩
  by_cases hm : m < 1
  · have t := Lib.hid (overlapB_no (a := a) (b := b) (n := n) (.inr (.inl hm)))
    go_enter Try.func19, Try.ntmps19
    go_wp2_with fail
    go_ret
    exact ⟨ret_bool t.out.symm, rfl⟩
  by_cases hab : a ≤ b
  · by_cases hbig : a + n ≤ 9223372036854775807
    · by_cases hlt : b < a + n
      · have t := Lib.hid (overlapB_yes (a := a) (n := n) (b := b) (m := m) (by omega) (by omega) (by omega) hlt)
        go_enter Try.func19, Try.ntmps19
        go_wp2_with fail
        go_ret
        exact ⟨ret_bool t.out.symm, rfl⟩
      · have t := Lib.hid (overlapB_no (a := a) (n := n) (b := b) (m := m) (.inr (.inr (.inr (by omega)))))
        go_enter Try.func19, Try.ntmps19
        go_wp2_with fail
        go_ret
        exact ⟨ret_bool (t.out.symm ▸ (by simp; omega)), rfl⟩
    · have t := Lib.hid (overlapB_yes (a := a) (n := n) (b := b) (m := m) (by omega) (by omega) (by omega) (by omega))
      have hwr : wrap64 (a + n) = a + n - 18446744073709551616 := by unfold wrap64; omega
      go_enter Try.func19, Try.ntmps19
      go_wp2_with fail
      go_ret
      exact ⟨ret_bool (t.out.symm ▸ (by simp; omega)), rfl⟩
  · by_cases hbig : b + m ≤ 9223372036854775807
    · by_cases hlt : a < b + m
      · have t := Lib.hid (overlapB_yes (a := a) (n := n) (b := b) (m := m) (by omega) (by omega) hlt (by omega))
        go_enter Try.func19, Try.ntmps19
        go_wp2_with fail
        go_ret
        exact ⟨ret_bool t.out.symm, rfl⟩
      · have t := Lib.hid (overlapB_no (a := a) (n := n) (b := b) (m := m) (.inr (.inr (.inl (by omega)))))
        go_enter Try.func19, Try.ntmps19
        go_wp2_with fail
        go_ret
        exact ⟨ret_bool (t.out.symm ▸ (by simp; omega)), rfl⟩
    · have t := Lib.hid (overlapB_yes (a := a) (n := n) (b := b) (m := m) (by omega) (by omega) (by omega) (by omega))
      have hwr : wrap64 (b + m) = b + m - 18446744073709551616 := by unfold wrap64; omega
      go_enter Try.func19, Try.ntmps19
      go_wp2_with fail
      go_ret
      exact ⟨ret_bool (t.out.symm ▸ (by simp; omega)), rfl⟩
end Go.Proofs.Ytkmflgfhhlhgeaa.Words

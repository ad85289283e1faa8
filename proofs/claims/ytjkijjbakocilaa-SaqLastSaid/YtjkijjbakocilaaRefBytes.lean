/- Contract of the document's own Overlap. -/
import Derived.Test.YtjkijjbakocilaaRefSizes
namespace Go.Proofs.Ytjkijjbakocilaa.Words
set_option maxRecDepth 100000
open Go.RowKit
set_option linter.unusedVariables false

set_option maxHeartbeats 1000000 in
theorem refOverlap_any (a n b m : Int) (w : World) (ha : -9223372036854775808 ≤ a ∧ a ≤ 9223372036854775807) (hn : -9223372036854775808 ≤ n ∧ n ≤ 9223372036854775807) (hb : -9223372036854775808 ≤ b ∧ b ≤ 9223372036854775807) (hm : -9223372036854775808 ≤ m ∧ m ≤ 9223372036854775807) :
    Calls Try.prog 23 #[.int .i64 a, .int .i64 n, .int .i64 b, .int .i64 m] w fun e w' => e = .returned (.bool (overlapB a n b m)) ∧ w = w' := by
  obtain ⟨a0, a1⟩ := ha
  obtain ⟨n0, n1⟩ := hn
  obtain ⟨b0, b1⟩ := hb
  obtain ⟨m0, m1⟩ := hm
  by_cases hn : n < 1
  · have t := Lib.hid (overlapB_no (a := a) (b := b) (m := m) (.inl hn))
    go_enter Try.func23, Try.ntmps23
    go_wp2_with fail
    go_ret
    exact ⟨ret_bool t.out.symm, rfl⟩
  by_cases hm : m < 1
  · have t := Lib.hid (overlapB_no (a := a) (b := b) (n := n) (.inr (.inl hm)))
    go_enter Try.func23, Try.ntmps23
    go_wp2_with fail
    go_ret
    exact ⟨ret_bool t.out.symm, rfl⟩
  by_cases hab : a ≤ b
  · by_cases hbig : a + n ≤ 9223372036854775807
    · by_cases hlt : b < a + n
      · have t := Lib.hid (overlapB_yes (a := a) (n := n) (b := b) (m := m) (by omega) (by omega) (by omega) hlt)
        go_enter Try.func23, Try.ntmps23
        go_wp2_with fail
        go_ret
        exact ⟨ret_bool t.out.symm, rfl⟩
      · have t := Lib.hid (overlapB_no (a := a) (n := n) (b := b) (m := m) (.inr (.inr (.inr (by omega)))))
        go_enter Try.func23, Try.ntmps23
        go_wp2_with fail
        go_ret
        exact ⟨ret_bool (t.out.symm ▸ (by simp; omega)), rfl⟩
    · have t := Lib.hid (overlapB_yes (a := a) (n := n) (b := b) (m := m) (by omega) (by omega) (by omega) (by omega))
      have hwr : wrap64 (a + n) = a + n - 18446744073709551616 := by unfold wrap64; omega
      go_enter Try.func23, Try.ntmps23
      go_wp2_with fail
      go_ret
      exact ⟨ret_bool (t.out.symm ▸ (by simp; omega)), rfl⟩
  · by_cases hbig : b + m ≤ 9223372036854775807
    · by_cases hlt : a < b + m
      · have t := Lib.hid (overlapB_yes (a := a) (n := n) (b := b) (m := m) (by omega) (by omega) hlt (by omega))
        go_enter Try.func23, Try.ntmps23
        go_wp2_with fail
        go_ret
        exact ⟨ret_bool t.out.symm, rfl⟩
      · have t := Lib.hid (overlapB_no (a := a) (n := n) (b := b) (m := m) (.inr (.inr (.inl (by omega)))))
        go_enter Try.func23, Try.ntmps23
        go_wp2_with fail
        go_ret
        exact ⟨ret_bool (t.out.symm ▸ (by simp; omega)), rfl⟩
    · have t := Lib.hid (overlapB_yes (a := a) (n := n) (b := b) (m := m) (by omega) (by omega) (by omega) (by omega))
      have hwr : wrap64 (b + m) = b + m - 18446744073709551616 := by unfold wrap64; omega
      go_enter Try.func23, Try.ntmps23
      go_wp2_with fail
      go_ret
      exact ⟨ret_bool (t.out.symm ▸ (by simp; omega)), rfl⟩
end Go.Proofs.Ytjkijjbakocilaa.Words

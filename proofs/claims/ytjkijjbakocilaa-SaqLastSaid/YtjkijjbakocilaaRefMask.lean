/- Contract of the document's own Mask. -/
import Derived.Test.YtjkijjbakocilaaRows
import Derived.Test.YtjkijjbakocilaaBase
import Derived.Test.YtjkijjbakocilaaIsaMath
namespace Go.Proofs.Ytjkijjbakocilaa.Words
set_option maxRecDepth 100000
open Go.RowKit
set_option linter.unusedVariables false

/-- A word's lowest bytes. -/
def maskZ (v size : Int) : Int := if size = 1 then v % 256 else if size = 2 then v % 65536 else if size = 4 then v else 0
theorem and_one (x : Int) (h0 : 0 ≤ x) (h1 : x < 4294967296) : bits .and .u32 x 1 = x % 2 := by
  obtain ⟨a, rfl⟩ := Int.eq_ofNat_of_zero_le h0
  rw [show (1 : Int) = ((1 : Nat) : Int) from rfl, u32_and_nat a 1 (by omega) (by omega), show a &&& 1 = a % 2 from Nat.and_two_pow_sub_one_eq_mod a 1]
  omega
theorem and_255 (x : Int) (h0 : 0 ≤ x) (h1 : x < 4294967296) : bits .and .u32 x 255 = x % 256 := by
  obtain ⟨a, rfl⟩ := Int.eq_ofNat_of_zero_le h0
  rw [show (255 : Int) = ((255 : Nat) : Int) from rfl, u32_and_nat a 255 (by omega) (by omega), show a &&& 255 = a % 256 from Nat.and_two_pow_sub_one_eq_mod a 8]
  omega
theorem and_65535 (x : Int) (h0 : 0 ≤ x) (h1 : x < 4294967296) : bits .and .u32 x 65535 = x % 65536 := by
  obtain ⟨a, rfl⟩ := Int.eq_ofNat_of_zero_le h0
  rw [show (65535 : Int) = ((65535 : Nat) : Int) from rfl, u32_and_nat a 65535 (by omega) (by omega), show a &&& 65535 = a % 65536 from Nat.and_two_pow_sub_one_eq_mod a 16]
  omega

set_option maxHeartbeats 400000 in
theorem refMask_any (v size : Int) (w : World) (h0 : 0 ≤ v) (h1 : v < 4294967296) :
    Calls Try.prog 16 #[.int .u32 v, .int .i64 size] w fun e w' => e = .returned (.int .u32 (maskZ v size)) ∧ w = w' := by
  have e1 := and_255 v h0 h1
  have e2 := and_65535 v h0 h1
  by_cases a : size = 1
  · subst a
    go_enter Try.func16, Try.ntmps16
    go_wp2_with fail
    go_ret
    exact ⟨rfl, rfl⟩
  by_cases b : size = 2
  · subst b
    go_enter Try.func16, Try.ntmps16
    go_wp2_with fail
    go_ret
    exact ⟨rfl, rfl⟩
  by_cases c : size = 4
  · subst c
    go_enter Try.func16, Try.ntmps16
    go_wp2_with fail
    go_ret
    exact ⟨rfl, rfl⟩
  · have t := Lib.hid (show maskZ v size = 0 by unfold maskZ; rw [if_neg a, if_neg b, if_neg c])
    have q1 : (size == 1) = false := by simp; exact a
    have q2 : (size == 2) = false := by simp; exact b
    have q4 : (size == 4) = false := by simp; exact c
    clear a b c e1 e2
    go_enter Try.func16, Try.ntmps16
    go_wp2_with fail
    go_ret
    exact ⟨ret_int t.out.symm, rfl⟩
end Go.Proofs.Ytjkijjbakocilaa.Words

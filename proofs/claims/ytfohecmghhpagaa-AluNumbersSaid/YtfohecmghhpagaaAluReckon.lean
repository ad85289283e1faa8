/- Contracts of alu's inner calls and of the document's own: what an operation of form 1 makes of two words. -/
import Derived.Test.YtfohecmghhpagaaAluMath
import Derived.Test.YtfohecmghhpagaaIsaRight
namespace Go.Proofs.Ytfohecmghhpagaa.Words
open Go.RowKit

theorem and_31 (x : Int) (h0 : 0 ≤ x) (h1 : x < 4294967296) : bits .and .u32 x 31 = x % 32 := by
  obtain ⟨a, rfl⟩ := Int.eq_ofNat_of_zero_le h0
  rw [show (31 : Int) = ((31 : Nat) : Int) from rfl, u32_and_nat a 31 (by omega) (by omega), show a &&& 31 = a % 32 from Nat.and_two_pow_sub_one_eq_mod a 5]
  omega

set_option maxHeartbeats 400000 in
theorem oneIf_any (t : Bool) (w : World) :
    Calls Try.prog 38 #[.bool t] w fun e w' => e = .returned (.int .u32 (if t = true then 1 else 0)) ∧ w = w' := by
  cases t
  all_goals
    go_enter Try.func38, Try.ntmps38
    go_wp2
    go_ret
    exact ⟨rfl, rfl⟩
set_option maxHeartbeats 400000 in
theorem one_any (t : Bool) (w : World) :
    Calls Try.prog 29 #[.bool t] w fun e w' => e = .returned (.int .u32 (if t = true then 1 else 0)) ∧ w = w' := by
  cases t
  all_goals
    go_enter Try.func29, Try.ntmps29
    go_wp2
    go_ret
    exact ⟨rfl, rfl⟩
theorem wrap32_sgn {a : Int} (h : 0 ≤ a ∧ a < 4294967296) : wrap32 a = sgn a := by
  unfold wrap32 sgn; split <;> omega
theorem prod_range {x y : Int} (hx : -2147483648 ≤ x ∧ x ≤ 2147483647) (hy : -2147483648 ≤ y ∧ y ≤ 2147483647) : -4611686018427387904 ≤ x * y ∧ x * y ≤ 4611686018427387904 := by
  have h1 : x * y ≤ 2147483648 * 2147483648 := by
    rcases Int.le_total 0 x with h | h
    · rcases Int.le_total 0 y with g | g
      · exact Int.mul_le_mul (by omega) (by omega) g (by omega)
      · have := Int.mul_nonpos_of_nonneg_of_nonpos h g; omega
    · rcases Int.le_total 0 y with g | g
      · have := Int.mul_nonpos_of_nonpos_of_nonneg h g; omega
      · have := Int.mul_le_mul (a := -x) (b := -y) (c := 2147483648) (d := 2147483648) (by omega) (by omega) (by omega) (by omega)
        rw [Int.neg_mul_neg] at this; exact this
  have h2 : -(x * y) ≤ 2147483648 * 2147483648 := by
    rcases Int.le_total 0 x with h | h
    · rcases Int.le_total 0 y with g | g
      · have := Int.mul_nonneg h g; omega
      · have := Int.mul_le_mul (a := x) (b := -y) (c := 2147483648) (d := 2147483648) (by omega) (by omega) (by omega) (by omega)
        rw [Int.mul_neg] at this; exact this
    · rcases Int.le_total 0 y with g | g
      · have := Int.mul_le_mul (a := -x) (b := y) (c := 2147483648) (d := 2147483648) (by omega) (by omega) (by omega) (by omega)
        rw [Int.neg_mul] at this; exact this
      · have := Int.mul_nonneg_of_nonpos_of_nonpos h g; omega
  omega
theorem wrap64_in {n : Int} (h : -9223372036854775808 ≤ n ∧ n ≤ 9223372036854775807) : wrap64 n = n := by unfold wrap64; omega
theorem sgn_range' {a : Int} (h : 0 ≤ a ∧ a < 4294967296) : -2147483648 ≤ sgn a ∧ sgn a ≤ 2147483647 := sgn_range h.1 h.2
theorem ret_wb {a b : Int} {s t : Bool} (h : a = b) (h' : s = t) : Ending.returned (.tuple #[.int .u32 a, .bool s]) = .returned (.tuple #[.int .u32 b, .bool t]) := by rw [h, h']
set_option maxHeartbeats 400000 in
theorem highest_any (a b : Int) (w : World) (ha : 0 ≤ a ∧ a < 4294967296) (hb : 0 ≤ b ∧ b < 4294967296) :
    Calls Try.prog 39 #[.int .u32 a, .int .u32 b] w fun e w' => e = .returned (.int .u32 (threeZ 12 a b)) ∧ w = w' := by
  go_enter Try.func39, Try.ntmps39
  go_wp2
  go_ret
  refine ⟨ret_int ?_, rfl⟩
  have h1 := sgn_range' ha
  have h2 := sgn_range' hb
  have h3 := prod_range h1 h2
  rw [wrap32_sgn ha, wrap32_sgn hb, wrap64_in (n := sgn a) (by omega), wrap64_in (n := sgn b) (by omega), wrap64_in (by omega), threeZ_12]
set_option maxHeartbeats 400000 in
theorem divide_any (op a b : Int) (w : World) (ho : 13 ≤ op ∧ op ≤ 16) (ha : 0 ≤ a ∧ a < 4294967296) (hb : 0 ≤ b ∧ b < 4294967296) :
    Calls Try.prog 40 #[.int .i64 op, .int .u32 a, .int .u32 b] w fun e w' => e = .returned (.tuple #[.int .u32 (threeZ op a b), .bool (threeB op b)]) ∧ w = w' := by
  have ho' : op = 13 ∨ op = 14 ∨ op = 15 ∨ op = 16 := by omega
  by_cases h0 : b = 0
  · subst h0
    rcases ho' with rfl | rfl | rfl | rfl
    all_goals
      go_enter Try.func40, Try.ntmps40
      go_wp2
      go_ret2
      exact ⟨rfl, rfl⟩
  · have h1 : (b == 0) = false := by simpa using h0
    have h2 : (wrap32 b == 0) = false := by rw [wrap32_sgn hb]; simpa using sgn_zero hb h0
    have h3 : ¬ wrap32 b = 0 := by simpa using h2
    rcases ho' with rfl | rfl | rfl | rfl
    all_goals
      go_enter Try.func40, Try.ntmps40
      go_wp2
      go_ret2
      refine ⟨ret_wb (?_ : _ = threeZ _ _ _) (by simp [threeB, h0]), rfl⟩
      first
        | exact (threeZ_14 _ _ h0).symm
        | exact (threeZ_16 _ _ h0).symm
        | (rw [threeZ_13 _ _ h0, wrap32_sgn ha, wrap32_sgn hb]; unfold wrap32; omega)
        | (rw [threeZ_15 _ _ h0, wrap32_sgn ha, wrap32_sgn hb])

set_option maxHeartbeats 400000 in
theorem reckon_any (op a b : Int) (w : World) (ho : 1 ≤ op ∧ op ≤ 16) (ha : 0 ≤ a ∧ a < 4294967296) (hb : 0 ≤ b ∧ b < 4294967296) :
    Calls Try.prog 26 #[.int .i64 op, .int .u32 a, .int .u32 b] w fun e w' => e = .returned (.tuple #[.int .u32 (threeZ op a b), .bool (threeB op b)]) ∧ w = w' := by
  have h31 := and_31 b hb.1 hb.2
  have hs0 : 0 ≤ b % 32 := by omega
  have hs1 : b % 32 < 32 := by omega
  have ho' : op = 1 ∨ op = 2 ∨ op = 3 ∨ op = 4 ∨ op = 5 ∨ op = 6 ∨ op = 7 ∨ op = 8 ∨ op = 9 ∨ op = 10 ∨ op = 11 ∨ op = 12 ∨ 13 ≤ op := by omega
  rcases ho' with rfl | rfl | rfl | rfl | rfl | rfl | rfl | rfl | rfl | rfl | rfl | rfl | ho'
  case inr.inr.inr.inr.inr.inr.inr.inr.inr.inr.inr.inr =>
    have ho2 : op = 13 ∨ op = 14 ∨ op = 15 ∨ op = 16 := by omega
    rcases ho2 with rfl | rfl | rfl | rfl
    all_goals
      go_enter Try.func26, Try.ntmps26
      go_wp2_with (refine (divide_any _ _ _ _ (by omega) ha hb).mono ?_; rintro e w' ⟨rfl, rfl⟩)
      go_ret2
      exact ⟨rfl, rfl⟩
  all_goals
    go_enter Try.func26, Try.ntmps26
    go_wp2_with (first
      | (refine (int_any _ _ ha.1 ha.2).mono ?_; rintro e w' ⟨rfl, rfl⟩)
      | (refine (int_any _ _ hb.1 hb.2).mono ?_; rintro e w' ⟨rfl, rfl⟩)
      | (refine (oneIf_any _ _).mono ?_; rintro e w' ⟨rfl, rfl⟩)
      | (refine (highest_any _ _ _ ha hb).mono ?_; rintro e w' ⟨rfl, rfl⟩))
    all_goals
      go_ret2
      first
        | exact ⟨rfl, rfl⟩
        | exact ⟨ret_wb (by rw [threeZ_8, wrap32_sgn ha]) rfl, rfl⟩
        | exact ⟨ret_wb (by rw [threeZ_9]; split <;> first | rfl | (exfalso; simp at *; omega)) rfl, rfl⟩
        | exact ⟨ret_wb (by rw [threeZ_10]; split <;> first | rfl | (exfalso; simp at *; omega)) rfl, rfl⟩
end Go.Proofs.Ytfohecmghhpagaa.Words

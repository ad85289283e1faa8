/- Plain mathematics behind the laws of chapter 3. Nothing here speaks of one program. -/
import Derived.Test.YtfohecmghhpagaaAluMath
namespace Go.Proofs.Ytfohecmghhpagaa.Words
open Go.RowKit
set_option linter.unusedVariables false

theorem nat_and_or : ∀ (n x y : Nat), x ≤ n → (x &&& y) + (x ||| y) = x + y ∧ (x ||| y) = (x &&& y) + (x ^^^ y) := by
  intro n
  induction n with
  | zero =>
    intro x y h
    obtain rfl : x = 0 := by omega
    simp
  | succ n ih =>
    intro x y h
    by_cases h0 : x = 0
    · subst h0; simp
    obtain ⟨h1, h2⟩ := ih (x / 2) (y / 2) (by omega)
    have a1 := @Nat.and_div_two x y
    have a2 := @Nat.or_div_two x y
    have a3 := @Nat.xor_div_two x y
    have b1 := @Nat.and_mod_two_eq_one x y
    have b2 := @Nat.or_mod_two_eq_one x y
    have b3 := @Nat.xor_mod_two_eq_one x y
    rw [← a1, ← a2] at h1
    rw [← a1, ← a2, ← a3] at h2
    omega
section
variable {a b : Int} (ha : 0 ≤ a ∧ a < 4294967296) (hb : 0 ≤ b ∧ b < 4294967296)
include ha hb
theorem and_plus_or : (bits .and .u32 a b + bits .or .u32 a b) % 4294967296 = (a + b) % 4294967296 := by
  obtain ⟨x, rfl⟩ := Int.eq_ofNat_of_zero_le ha.1
  obtain ⟨y, rfl⟩ := Int.eq_ofNat_of_zero_le hb.1
  rw [u32_and_nat x y (by omega) (by omega), u32_or_nat x y (by omega) (by omega)]
  have := (nat_and_or x x y (by omega)).1
  omega
theorem or_minus_and : (bits .or .u32 a b - bits .and .u32 a b) % 4294967296 = bits .xor .u32 a b := by
  obtain ⟨x, rfl⟩ := Int.eq_ofNat_of_zero_le ha.1
  obtain ⟨y, rfl⟩ := Int.eq_ofNat_of_zero_le hb.1
  have hx : x < 2 ^ 32 := by omega
  have hy : y < 2 ^ 32 := by omega
  have hlt := Nat.xor_lt_two_pow hx hy
  rw [u32_and_nat x y (by omega) (by omega), u32_or_nat x y (by omega) (by omega), u32_xor_nat x y (by omega) (by omega)]
  have := (nat_and_or x x y (by omega)).2
  omega
theorem xor_xor : bits .xor .u32 (bits .xor .u32 a b) b = a := by
  obtain ⟨x, rfl⟩ := Int.eq_ofNat_of_zero_le ha.1
  obtain ⟨y, rfl⟩ := Int.eq_ofNat_of_zero_le hb.1
  have hx : x < 2 ^ 32 := by omega
  have hy : y < 2 ^ 32 := by omega
  have hlt := Nat.xor_lt_two_pow hx hy
  rw [u32_xor_nat x y (by omega) (by omega), u32_xor_nat _ y (by omega) (by omega), Nat.xor_assoc, Nat.xor_self, Nat.xor_zero]
end
theorem mul_comm_w (a b : Int) : a * b % 4294967296 = b * a % 4294967296 := by rw [Int.mul_comm]

theorem sgn_mod (a : Int) : sgn a % 4294967296 = a % 4294967296 := by unfold sgn; split <;> omega
theorem mod_mul (x b : Int) : x % 4294967296 * b % 4294967296 = x * b % 4294967296 := by
  rw [Int.mul_emod, Int.emod_emod_of_dvd _ (Int.dvd_refl _), ← Int.mul_emod]
/-- With signs: the quotient times the divisor, and the rest. -/
theorem quo_rem (a b : Int) (ha : 0 ≤ a ∧ a < 4294967296) : ((sgn a).tdiv (sgn b) % 4294967296 * b % 4294967296 + (sgn a).tmod (sgn b) % 4294967296) % 4294967296 = a := by
  rw [mod_mul]
  have h1 : (sgn a).tdiv (sgn b) * b % 4294967296 = (sgn a).tdiv (sgn b) * sgn b % 4294967296 := by
    rw [Int.mul_emod, ← sgn_mod b, ← Int.mul_emod]
  rw [h1]
  have h2 := Int.tdiv_mul_add_tmod (sgn a) (sgn b)
  have h3 := sgn_of a ha.1 ha.2
  omega
/-- Without signs. -/
theorem quo_rem_u (a b : Int) (ha : 0 ≤ a ∧ a < 4294967296) : (a / b * b % 4294967296 + a % b) % 4294967296 = a := by
  have h2 := Int.ediv_mul_add_emod a b
  omega
theorem tmod_lt {a b : Int} (ha : 0 ≤ a ∧ a < 4294967296) (hb : 0 ≤ b ∧ b < 4294967296) (h : b ≠ 0) :
    (sgn a).tmod (sgn b) < (if sgn b < 0 then -sgn b else sgn b) ∧ -(sgn a).tmod (sgn b) < (if sgn b < 0 then -sgn b else sgn b) ∧
    (0 ≤ sgn a → 0 ≤ (sgn a).tmod (sgn b)) ∧ (sgn a ≤ 0 → (sgn a).tmod (sgn b) ≤ 0) := by
  have hs := sgn_zero hb h
  have h1 : ((sgn a).tmod (sgn b)).natAbs = (sgn a).natAbs % (sgn b).natAbs := Int.natAbs_tmod _ _
  have h2 : (sgn a).natAbs % (sgn b).natAbs < (sgn b).natAbs := Nat.mod_lt _ (by omega)
  refine ⟨by split <;> omega, by split <;> omega, fun h => Int.tmod_nonneg _ h, fun h => ?_⟩
  have h3 := Int.tmod_nonneg (sgn b) (show 0 ≤ -sgn a by omega)
  rw [Int.neg_tmod] at h3
  omega
theorem sgn_mod_of {n : Int} (h : -2147483648 ≤ n ∧ n ≤ 2147483647) : sgn (n % 4294967296) = n := of_sgn n h.1 h.2
theorem sgn_mul (a b : Int) : sgn a * sgn b % 4294967296 = a * b % 4294967296 := by
  have h1 : sgn a % 4294967296 = a % 4294967296 := by unfold sgn; split <;> omega
  have h2 : sgn b % 4294967296 = b % 4294967296 := by unfold sgn; split <;> omega
  rw [Int.mul_emod, h1, h2, ← Int.mul_emod]
end Go.Proofs.Ytfohecmghhpagaa.Words

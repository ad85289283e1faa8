/- Plain mathematics behind the law AluShifts: the bits of shifted words. Nothing here speaks of one program. -/
import Derived.Test.YtfohecmghhpagaaAluMath
namespace Go.Proofs.Ytfohecmghhpagaa.Words
open Go.RowKit

theorem bit_of (x i : Nat) (h : x < 4294967296) : bits .and .u32 ((x : Int) / 2 ^ i) 1 = if x.testBit i = true then 1 else 0 := by
  have hp : (2 : Int) ^ i = ((2 ^ i : Nat) : Int) := by simp
  have hd : x / 2 ^ i ≤ x := Nat.div_le_self _ _
  have e : (x : Int) / 2 ^ i = ((x / 2 ^ i : Nat) : Int) := by rw [hp]; exact (Int.natCast_ediv _ _).symm
  rw [e, show (1 : Int) = ((1 : Nat) : Int) from rfl, u32_and_nat _ 1 (by omega) (by omega), Nat.and_one_is_mod, Nat.testBit_eq_decide_div_mod_eq]
  by_cases g : x / 2 ^ i % 2 = 1
  · simp [g]
  · have : x / 2 ^ i % 2 = 0 := by omega
    simp [this]

theorem nat_shl_bit (x k j : Nat) (hj : j < 32) : (x * 2 ^ k % 2 ^ 32).testBit j = (decide (k ≤ j) && x.testBit (j - k)) := by
  rw [Nat.testBit_mod_two_pow, Nat.testBit_mul_two_pow]
  simp [hj]
theorem nat_shr_bit (x k j : Nat) : (x / 2 ^ k).testBit j = x.testBit (j + k) := by
  rw [Nat.testBit_div_two_pow]
theorem nat_top (x i : Nat) (h : x < 2 ^ 32) (hi : 32 ≤ i) : x.testBit i = false := Nat.testBit_lt_two_pow (Nat.lt_of_lt_of_le h (Nat.pow_le_pow_right (by omega) hi))

/-- With the sign: what lies above. -/
def sraN (x k : Nat) : Nat := if x < 2 ^ 31 then x / 2 ^ k else 2 ^ (32 - k) * (2 ^ k - 1) + x / 2 ^ k
theorem sra_val (x k : Nat) (hx : x < 2 ^ 32) (hk : k < 32) :
    sgn (x : Int) / 2 ^ k % 4294967296 = ((sraN x k : Nat) : Int) := by
  unfold sraN
  have hp : (2 : Int) ^ k = ((2 ^ k : Nat) : Int) := by simp
  have hpos : 0 < 2 ^ k := Nat.pow_pos (by omega)
  have hN : 2 ^ (32 - k) * 2 ^ k = 2 ^ 32 := by rw [← Nat.pow_add]; congr 1; omega
  have hle : x / 2 ^ k ≤ x := Nat.div_le_self _ _
  have hlt : x / 2 ^ k < 2 ^ (32 - k) := by
    rw [Nat.div_lt_iff_lt_mul hpos, hN]; exact hx
  by_cases h : x < 2 ^ 31
  · rw [if_pos h, sgn_low (by omega), hp, ← Int.natCast_ediv]
    generalize x / 2 ^ k = q at *
    omega
  · rw [if_neg h, sgn_high (by omega), hp]
    have e1 : (x : Int) - 4294967296 = x + (-(2 ^ (32 - k) : Nat) : Int) * ((2 ^ k : Nat) : Int) := by
      have : ((2 ^ (32 - k) : Nat) : Int) * ((2 ^ k : Nat) : Int) = 4294967296 := by
        rw [← Int.natCast_mul, hN]; rfl
      rw [Int.neg_mul, this]; omega
    rw [e1, Int.add_mul_ediv_right _ _ (by omega), ← Int.natCast_ediv]
    have h1 : 2 ^ (32 - k) * (2 ^ k - 1) = 2 ^ 32 - 2 ^ (32 - k) := by rw [Nat.mul_sub, hN, Nat.mul_one]
    have h2 : 2 ^ (32 - k) ≤ 2 ^ 32 := Nat.pow_le_pow_right (by omega) (by omega)
    rw [h1]
    generalize x / 2 ^ k = q at *
    generalize 2 ^ (32 - k) = u at *
    omega
theorem nat_sra_bit (x k j : Nat) (hx : x < 2 ^ 32) (hk : k < 32) (hj : j < 32) :
    (sraN x k).testBit j = if j + k < 32 then x.testBit (j + k) else x.testBit 31 := by
  unfold sraN
  have hpos : 0 < 2 ^ k := Nat.pow_pos (by omega)
  have hN : 2 ^ (32 - k) * 2 ^ k = 2 ^ 32 := by rw [← Nat.pow_add]; congr 1; omega
  have hlt : x / 2 ^ k < 2 ^ (32 - k) := by
    rw [Nat.div_lt_iff_lt_mul hpos, hN]; exact hx
  have h31 : x.testBit 31 = decide (¬ x < 2 ^ 31) := by
    rw [Nat.testBit_eq_decide_div_mod_eq]
    by_cases h : x < 2 ^ 31
    · have : x / 2 ^ 31 = 0 := Nat.div_eq_of_lt h
      rw [this]; simpa using h
    · have : x / 2 ^ 31 = 1 := by omega
      rw [this]; simpa using h
  by_cases h : x < 2 ^ 31
  · rw [if_pos h, nat_shr_bit]
    by_cases g : j + k < 32
    · rw [if_pos g]
    · rw [if_neg g, nat_top x _ hx (by omega), h31]
      simp; omega
  · rw [if_neg h, Nat.testBit_two_pow_mul_add _ hlt, nat_shr_bit]
    by_cases g : j + k < 32
    · rw [if_pos g, if_pos (by omega)]
    · rw [if_neg g, if_neg (by omega), h31, Nat.testBit_two_pow_sub_one]
      simp; omega

/-- What one round of the law reads. -/
theorem shift_facts (a n κ : Int) (j : Nat) (ha : 0 ≤ a ∧ a < 4294967296) (hκ : n % 32 = κ) (hj : j < 32) :
    (κ ≤ j → bits .and .u32 (threeZ 6 a n / 2 ^ j) 1 = bits .and .u32 (a / 2 ^ ((j : Int) - κ).toNat) 1) ∧
    (¬ κ ≤ j → bits .and .u32 (threeZ 6 a n / 2 ^ j) 1 = 0) ∧
    ((j : Int) + κ < 32 → bits .and .u32 (threeZ 7 a n / 2 ^ j) 1 = bits .and .u32 (a / 2 ^ ((j : Int) + κ).toNat) 1 ∧ bits .and .u32 (threeZ 8 a n / 2 ^ j) 1 = bits .and .u32 (a / 2 ^ ((j : Int) + κ).toNat) 1) ∧
    (¬ (j : Int) + κ < 32 → bits .and .u32 (threeZ 7 a n / 2 ^ j) 1 = 0 ∧ bits .and .u32 (threeZ 8 a n / 2 ^ j) 1 = a / 2147483648) := by
  obtain ⟨x, rfl⟩ := Int.eq_ofNat_of_zero_le ha.1
  have hk : 0 ≤ κ ∧ κ < 32 := by omega
  obtain ⟨k, rfl⟩ := Int.eq_ofNat_of_zero_le hk.1
  have hx : x < 2 ^ 32 := by omega
  have hx' : x < 4294967296 := by omega
  have hp : (2 : Int) ^ k = ((2 ^ k : Nat) : Int) := by simp
  have hle : x / 2 ^ k ≤ x := Nat.div_le_self _ _
  have e6 : threeZ 6 x n = ((x * 2 ^ k % 2 ^ 32 : Nat) : Int) := by
    rw [threeZ_6, hκ, Int.toNat_natCast, hp, ← Int.natCast_mul]
    generalize x * 2 ^ k = m
    omega
  have e7 : threeZ 7 x n = ((x / 2 ^ k : Nat) : Int) := by
    rw [threeZ_7, hκ, Int.toNat_natCast, hp, ← Int.natCast_ediv]
  have e8 := sra_val x k hx (by omega)
  rw [← Int.toNat_natCast k, ← hκ, ← threeZ_8] at e8
  simp only [hκ, Int.toNat_natCast] at e8
  have l6 : x * 2 ^ k % 2 ^ 32 < 4294967296 := by
    have := Nat.mod_lt (x * 2 ^ k) (show 0 < 2 ^ 32 by omega)
    generalize x * 2 ^ k = m at *
    omega
  have b8 := nat_sra_bit x k j hx (by omega) hj
  have l8 : ((sraN x k : Nat) : Int) < 4294967296 := by
    rw [← e8, threeZ_8]; exact Int.emod_lt_of_pos _ (by omega)
  have l7 : x / 2 ^ k < 4294967296 := Nat.lt_of_le_of_lt hle hx'
  generalize sraN x k = z8 at *
  have l8' : z8 < 4294967296 := by omega
  refine ⟨fun h => ?_, fun h => ?_, fun h => ⟨?_, ?_⟩, fun h => ⟨?_, ?_⟩⟩
  · rw [e6, bit_of _ _ l6, nat_shl_bit _ _ _ hj, show ((j : Int) - k).toNat = j - k by omega, bit_of _ _ hx']
    have : k ≤ j := by omega
    simp [this]
  · rw [e6, bit_of _ _ l6, nat_shl_bit _ _ _ hj]
    have : ¬ k ≤ j := by omega
    simp [this]
  · rw [e7, bit_of _ _ l7, nat_shr_bit, show ((j : Int) + k).toNat = j + k by omega, bit_of _ _ hx']
  · rw [if_pos (by omega)] at b8
    rw [e8, bit_of _ _ l8', b8, show ((j : Int) + k).toNat = j + k by omega, bit_of _ _ hx']
  · rw [e7, bit_of _ _ l7, nat_shr_bit, nat_top x _ hx (by omega)]; rfl
  · rw [if_neg (by omega)] at b8
    rw [e8, bit_of _ _ l8', b8, Nat.testBit_eq_decide_div_mod_eq]
    by_cases g : x < 2 ^ 31
    · have : x / 2 ^ 31 = 0 := Nat.div_eq_of_lt g
      rw [this, if_neg (by decide)]; omega
    · have : x / 2 ^ 31 = 1 := by omega
      rw [this, if_pos (by decide)]; omega
theorem bit_cases (a : Int) (i : Nat) (ha : 0 ≤ a ∧ a < 4294967296) : bits .and .u32 (a / 2 ^ i) 1 = 0 ∨ bits .and .u32 (a / 2 ^ i) 1 = 1 := by
  obtain ⟨x, rfl⟩ := Int.eq_ofNat_of_zero_le ha.1
  rw [bit_of _ _ (by omega)]
  split
  · exact .inr rfl
  · exact .inl rfl
end Go.Proofs.Ytfohecmghhpagaa.Words

/- Plain mathematics of chapter 3: what each operation makes of two words, which branch is taken, how long an operation takes. Nothing here speaks of one program. -/
import Derived.Test.YtfohecmghhpagaaIsaMath
import Derived.Test.YtfohecmghhpagaaWordInts
namespace Go.Proofs.Ytfohecmghhpagaa.Words
open Go.RowKit

/-- What an operation of form 1 makes of two words. -/
def threeZ (op a b : Int) : Int :=
  if op = 1 then (a + b) % 4294967296
  else if op = 2 then (a - b) % 4294967296
  else if op = 3 then bits .and .u32 a b
  else if op = 4 then bits .or .u32 a b
  else if op = 5 then bits .xor .u32 a b
  else if op = 6 then a * 2 ^ (b % 32).toNat % 4294967296
  else if op = 7 then a / 2 ^ (b % 32).toNat
  else if op = 8 then sgn a / 2 ^ (b % 32).toNat % 4294967296
  else if op = 9 then (if sgn a < sgn b then 1 else 0)
  else if op = 10 then (if a < b then 1 else 0)
  else if op = 11 then a * b % 4294967296
  else if op = 12 then sgn a * sgn b / 4294967296 % 4294967296
  else if b = 0 then 0
  else if op = 13 then (sgn a).tdiv (sgn b) % 4294967296
  else if op = 14 then a / b
  else if op = 15 then (sgn a).tmod (sgn b) % 4294967296
  else a % b
/-- Does it divide by nought? false: so. -/
def threeB (op b : Int) : Bool := decide (op ≤ 12 ∨ b ≠ 0)

theorem threeZ_1 (a b : Int) : threeZ 1 a b = (a + b) % 4294967296 := rfl
theorem threeZ_2 (a b : Int) : threeZ 2 a b = (a - b) % 4294967296 := rfl
theorem threeZ_3 (a b : Int) : threeZ 3 a b = bits .and .u32 a b := rfl
theorem threeZ_4 (a b : Int) : threeZ 4 a b = bits .or .u32 a b := rfl
theorem threeZ_5 (a b : Int) : threeZ 5 a b = bits .xor .u32 a b := rfl
theorem threeZ_6 (a b : Int) : threeZ 6 a b = a * 2 ^ (b % 32).toNat % 4294967296 := rfl
theorem threeZ_7 (a b : Int) : threeZ 7 a b = a / 2 ^ (b % 32).toNat := rfl
theorem threeZ_8 (a b : Int) : threeZ 8 a b = sgn a / 2 ^ (b % 32).toNat % 4294967296 := rfl
theorem threeZ_9 (a b : Int) : threeZ 9 a b = if sgn a < sgn b then 1 else 0 := rfl
theorem threeZ_10 (a b : Int) : threeZ 10 a b = if a < b then 1 else 0 := rfl
theorem threeZ_11 (a b : Int) : threeZ 11 a b = a * b % 4294967296 := rfl
theorem threeZ_12 (a b : Int) : threeZ 12 a b = sgn a * sgn b / 4294967296 % 4294967296 := rfl
theorem threeZ_0 (op a : Int) (h : 13 ≤ op) : threeZ op a 0 = 0 := by
  unfold threeZ
  repeat rw [if_neg (by omega)]
  rw [if_pos rfl]
theorem threeZ_13 (a b : Int) (h : b ≠ 0) : threeZ 13 a b = (sgn a).tdiv (sgn b) % 4294967296 := by
  show (if b = 0 then 0 else _) = _
  rw [if_neg h]; rfl
theorem threeZ_14 (a b : Int) (h : b ≠ 0) : threeZ 14 a b = a / b := by
  show (if b = 0 then 0 else _) = _
  rw [if_neg h]; rfl
theorem threeZ_15 (a b : Int) (h : b ≠ 0) : threeZ 15 a b = (sgn a).tmod (sgn b) % 4294967296 := by
  show (if b = 0 then 0 else _) = _
  rw [if_neg h]; rfl
theorem threeZ_16 (a b : Int) (h : b ≠ 0) : threeZ 16 a b = a % b := by
  show (if b = 0 then 0 else _) = _
  rw [if_neg h]; rfl

/-- The operation of form 1 that reckons as one of form 2 does. -/
def likeZ (op : Int) : Int :=
  if op = 17 then 1 else if op = 18 then 3 else if op = 19 then 4 else if op = 20 then 5 else if op = 21 then 9 else if op = 22 then 6 else if op = 23 then 7 else if op = 24 then 8 else 0
/-- What an instruction makes of two words. -/
def doZ (i : Ins) (a b : Int) : Int :=
  if rightB i = true then
    (if formZ i.op = 1 then threeZ i.op a b else if formZ i.op = 2 then threeZ (likeZ i.op) a (i.imm % 4294967296) else if formZ i.op = 3 then i.imm * 262144 % 4294967296 else 0)
  else 0
def doB (i : Ins) (b : Int) : Bool := if rightB i = true ∧ formZ i.op = 1 then threeB i.op b else true

/-- Is the branch taken? -/
def takenB (op a b : Int) : Bool :=
  if op = 34 then decide (a = b) else if op = 35 then decide (a ≠ b) else if op = 36 then decide (sgn a < sgn b) else if op = 37 then decide (sgn b ≤ sgn a)
  else if op = 38 then decide (a < b) else if op = 39 then decide (b ≤ a) else false
/-- How long an operation takes. -/
def unitZ (n : Int) : Int := if n < 1 ∨ 50 < n then 1 else n
def latZ (mul div op : Int) : Int := if op = 11 ∨ op = 12 then unitZ mul else if 13 ≤ op ∧ op ≤ 16 then unitZ div else 1

theorem pow_pos' (k : Nat) : (0 : Int) < 2 ^ k := Int.pow_pos (by omega)
theorem ediv_small {a d : Int} (h0 : 0 ≤ a) (h1 : a < 4294967296) (hd : 0 < d) : 0 ≤ a / d ∧ a / d < 4294967296 := by
  refine ⟨Int.ediv_nonneg h0 (by omega), ?_⟩
  have := Int.ediv_le_self d h0
  omega
theorem bits_u32 {op : BinOp} {a b : Int} (ha : 0 ≤ a ∧ a < 4294967296) (hb : 0 ≤ b ∧ b < 4294967296) (h : op = .and ∨ op = .or ∨ op = .xor) : 0 ≤ bits op .u32 a b ∧ bits op .u32 a b < 4294967296 := by
  obtain ⟨x, rfl⟩ := Int.eq_ofNat_of_zero_le ha.1
  obtain ⟨y, rfl⟩ := Int.eq_ofNat_of_zero_le hb.1
  have hx : x < 2 ^ 32 := by omega
  have hy : y < 2 ^ 32 := by omega
  rcases h with rfl | rfl | rfl
  · rw [u32_and_nat x y (by omega) (by omega)]
    have := Nat.and_lt_two_pow x hy
    omega
  · rw [u32_or_nat x y (by omega) (by omega)]
    have := Nat.or_lt_two_pow hx hy
    omega
  · rw [u32_xor_nat x y (by omega) (by omega)]
    have := Nat.xor_lt_two_pow hx hy
    omega
theorem threeZ_range (op a b : Int) (ha : 0 ≤ a ∧ a < 4294967296) (hb : 0 ≤ b ∧ b < 4294967296) : 0 ≤ threeZ op a b ∧ threeZ op a b < 4294967296 := by
  by_cases h1 : op = 1
  · subst h1; rw [threeZ_1]; omega
  by_cases h2 : op = 2
  · subst h2; rw [threeZ_2]; omega
  by_cases h3 : op = 3
  · subst h3; rw [threeZ_3]; exact bits_u32 (op := .and) ha hb (.inl rfl)
  by_cases h4 : op = 4
  · subst h4; rw [threeZ_4]; exact bits_u32 (op := .or) ha hb (.inr (.inl rfl))
  by_cases h5 : op = 5
  · subst h5; rw [threeZ_5]; exact bits_u32 (op := .xor) ha hb (.inr (.inr rfl))
  by_cases h6 : op = 6
  · subst h6; rw [threeZ_6]; omega
  by_cases h7 : op = 7
  · subst h7; rw [threeZ_7]; exact ediv_small ha.1 ha.2 (pow_pos' _)
  by_cases h8 : op = 8
  · subst h8; rw [threeZ_8]; omega
  by_cases h9 : op = 9
  · subst h9; rw [threeZ_9]; split <;> omega
  by_cases h10 : op = 10
  · subst h10; rw [threeZ_10]; split <;> omega
  by_cases h11 : op = 11
  · subst h11; rw [threeZ_11]; omega
  by_cases h12 : op = 12
  · subst h12; rw [threeZ_12]; omega
  by_cases h0 : b = 0
  · unfold threeZ
    rw [if_neg h1, if_neg h2, if_neg h3, if_neg h4, if_neg h5, if_neg h6, if_neg h7, if_neg h8, if_neg h9, if_neg h10, if_neg h11, if_neg h12, if_pos h0]; omega
  by_cases h13 : op = 13
  · subst h13; rw [threeZ_13 _ _ h0]; omega
  by_cases h14 : op = 14
  · subst h14; rw [threeZ_14 _ _ h0]; exact ediv_small ha.1 ha.2 (by omega)
  by_cases h15 : op = 15
  · subst h15; rw [threeZ_15 _ _ h0]; omega
  unfold threeZ
  rw [if_neg h1, if_neg h2, if_neg h3, if_neg h4, if_neg h5, if_neg h6, if_neg h7, if_neg h8, if_neg h9, if_neg h10, if_neg h11, if_neg h12, if_neg h0, if_neg h13, if_neg h14, if_neg h15]
  exact ⟨Int.emod_nonneg _ (by omega), by have := Int.emod_lt_of_pos a (show 0 < b by omega); omega⟩
theorem sgn_zero {b : Int} (hb : 0 ≤ b ∧ b < 4294967296) (h : b ≠ 0) : sgn b ≠ 0 := by unfold sgn; split <;> omega
end Go.Proofs.Ytfohecmghhpagaa.Words

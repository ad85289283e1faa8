/- Plain mathematics of chapter 2: forms of operations, which instructions may be, the word of an instruction and the instruction of a word. Nothing here speaks of one program. -/
import Derived.WalkKit
import Derived.Laws.BitsAllLaws
namespace Go.Proofs.Ytjkijjbakocilaa.Words
set_option maxRecDepth 100000
open Go.RowKit

/-- An instruction's five numbers. -/
structure Ins where
  op : Int
  d : Int
  a : Int
  b : Int
  imm : Int
deriving DecidableEq

theorem Ins.eq_iff (i k : Ins) : i = k ↔ i.op = k.op ∧ i.d = k.d ∧ i.a = k.a ∧ i.b = k.b ∧ i.imm = k.imm := by
  cases i; cases k; simp
/-- Its numbers are of Go's int. -/
def Ins.Fits (i : Ins) : Prop :=
  (-9223372036854775808 ≤ i.op ∧ i.op ≤ 9223372036854775807) ∧ (-9223372036854775808 ≤ i.d ∧ i.d ≤ 9223372036854775807) ∧ (-9223372036854775808 ≤ i.a ∧ i.a ≤ 9223372036854775807) ∧
  (-9223372036854775808 ≤ i.b ∧ i.b ≤ 9223372036854775807) ∧ (-9223372036854775808 ≤ i.imm ∧ i.imm ≤ 9223372036854775807)

/-- The form of an operation. -/
def formZ (op : Int) : Int :=
  if op < 1 ∨ 41 < op then 0 else if op ≤ 16 then 1 else if op ≤ 24 then 2 else if op = 25 then 3 else if op ≤ 30 then 4 else if op ≤ 33 then 5 else if op ≤ 39 then 6 else if op = 40 then 7 else 8
theorem formZ_cases (op : Int) : (formZ op = 0 ∧ (op < 1 ∨ 41 < op)) ∨ (formZ op = 1 ∧ 1 ≤ op ∧ op ≤ 16) ∨ (formZ op = 2 ∧ 17 ≤ op ∧ op ≤ 24) ∨ (formZ op = 3 ∧ op = 25) ∨ (formZ op = 4 ∧ 26 ≤ op ∧ op ≤ 30) ∨
    (formZ op = 5 ∧ 31 ≤ op ∧ op ≤ 33) ∨ (formZ op = 6 ∧ 34 ≤ op ∧ op ≤ 39) ∨ (formZ op = 7 ∧ op = 40) ∨ (formZ op = 8 ∧ op = 41) := by
  unfold formZ; repeat' split
  all_goals omega
theorem formZ_range (op : Int) : 0 ≤ formZ op ∧ formZ op ≤ 8 := by
  have := formZ_cases op; omega

def hasD (f : Int) : Bool := decide (f = 1 ∨ f = 2 ∨ f = 3 ∨ f = 4)
def hasA (f : Int) : Bool := decide (f = 1 ∨ f = 2 ∨ f = 4 ∨ f = 5 ∨ f = 6)
def hasB (f : Int) : Bool := decide (f = 1 ∨ f = 5 ∨ f = 6)
def hasI (f : Int) : Bool := decide (f = 2 ∨ f = 3 ∨ f = 4 ∨ f = 5 ∨ f = 6 ∨ f = 7)
def lowI (op : Int) : Int := if op = 22 ∨ op = 23 ∨ op = 24 then 0 else -8192
def highI (op : Int) : Int := if op = 22 ∨ op = 23 ∨ op = 24 then 31 else 8191
theorem lowI_cases (op : Int) : (lowI op = 0 ∧ highI op = 31 ∧ 22 ≤ op ∧ op ≤ 24) ∨ (lowI op = -8192 ∧ highI op = 8191 ∧ (op < 22 ∨ 24 < op)) := by
  unfold lowI highI; split <;> omega
/-- May a field be that? -/
def fitsB (n lo hi : Int) (had : Bool) : Bool := if had = true then decide (lo ≤ n ∧ n ≤ hi) else decide (n = 0)
theorem fitsB_yes (n lo hi : Int) : fitsB n lo hi true = true ↔ lo ≤ n ∧ n ≤ hi := by unfold fitsB; simp
theorem fitsB_no (n lo hi : Int) : fitsB n lo hi false = true ↔ n = 0 := by unfold fitsB; simp

/-- May the instruction be? -/
def rightB (i : Ins) : Bool :=
  decide (formZ i.op ≠ 0) && fitsB i.d 0 15 (hasD (formZ i.op)) && fitsB i.a 0 15 (hasA (formZ i.op)) && fitsB i.b 0 15 (hasB (formZ i.op)) && fitsB i.imm (lowI i.op) (highI i.op) (hasI (formZ i.op))

/-- What is right, form by form. -/
theorem rightB_iff (i : Ins) : rightB i = true ↔
    (1 ≤ i.op ∧ i.op ≤ 41) ∧
    (if 1 ≤ i.op ∧ i.op ≤ 30 then 0 ≤ i.d ∧ i.d ≤ 15 else i.d = 0) ∧
    (if (1 ≤ i.op ∧ i.op ≤ 24) ∨ (26 ≤ i.op ∧ i.op ≤ 39) then 0 ≤ i.a ∧ i.a ≤ 15 else i.a = 0) ∧
    (if (1 ≤ i.op ∧ i.op ≤ 16) ∨ (31 ≤ i.op ∧ i.op ≤ 39) then 0 ≤ i.b ∧ i.b ≤ 15 else i.b = 0) ∧
    (if 17 ≤ i.op ∧ i.op ≤ 40 then lowI i.op ≤ i.imm ∧ i.imm ≤ highI i.op else i.imm = 0) := by
  have hd : fitsB i.d 0 15 (hasD (formZ i.op)) = true ↔ (if formZ i.op = 1 ∨ formZ i.op = 2 ∨ formZ i.op = 3 ∨ formZ i.op = 4 then 0 ≤ i.d ∧ i.d ≤ 15 else i.d = 0) := by
    unfold hasD; split <;> simp [fitsB, *]
  have ha : fitsB i.a 0 15 (hasA (formZ i.op)) = true ↔ (if formZ i.op = 1 ∨ formZ i.op = 2 ∨ formZ i.op = 4 ∨ formZ i.op = 5 ∨ formZ i.op = 6 then 0 ≤ i.a ∧ i.a ≤ 15 else i.a = 0) := by
    unfold hasA; split <;> simp [fitsB, *]
  have hb : fitsB i.b 0 15 (hasB (formZ i.op)) = true ↔ (if formZ i.op = 1 ∨ formZ i.op = 5 ∨ formZ i.op = 6 then 0 ≤ i.b ∧ i.b ≤ 15 else i.b = 0) := by
    unfold hasB; split <;> simp [fitsB, *]
  have hi : fitsB i.imm (lowI i.op) (highI i.op) (hasI (formZ i.op)) = true ↔ (if formZ i.op = 2 ∨ formZ i.op = 3 ∨ formZ i.op = 4 ∨ formZ i.op = 5 ∨ formZ i.op = 6 ∨ formZ i.op = 7 then lowI i.op ≤ i.imm ∧ i.imm ≤ highI i.op else i.imm = 0) := by
    unfold hasI; split <;> simp [fitsB, *]
  have c := formZ_cases i.op
  have hd' : (formZ i.op = 1 ∨ formZ i.op = 2 ∨ formZ i.op = 3 ∨ formZ i.op = 4) ↔ (1 ≤ i.op ∧ i.op ≤ 30) := by omega
  have ha' : (formZ i.op = 1 ∨ formZ i.op = 2 ∨ formZ i.op = 4 ∨ formZ i.op = 5 ∨ formZ i.op = 6) ↔ ((1 ≤ i.op ∧ i.op ≤ 24) ∨ (26 ≤ i.op ∧ i.op ≤ 39)) := by omega
  have hb' : (formZ i.op = 1 ∨ formZ i.op = 5 ∨ formZ i.op = 6) ↔ ((1 ≤ i.op ∧ i.op ≤ 16) ∨ (31 ≤ i.op ∧ i.op ≤ 39)) := by omega
  have hi' : (formZ i.op = 2 ∨ formZ i.op = 3 ∨ formZ i.op = 4 ∨ formZ i.op = 5 ∨ formZ i.op = 6 ∨ formZ i.op = 7) ↔ (17 ≤ i.op ∧ i.op ≤ 40) := by omega
  have h0' : (formZ i.op ≠ 0) ↔ (1 ≤ i.op ∧ i.op ≤ 41) := by omega
  simp only [hd', ha', hb', hi'] at hd ha hb hi
  unfold rightB
  rw [Bool.and_eq_true, Bool.and_eq_true, Bool.and_eq_true, Bool.and_eq_true, hd, ha, hb, hi, decide_eq_true_iff, h0', and_assoc, and_assoc, and_assoc]

theorem right_range {i : Ins} (h : rightB i = true) : (1 ≤ i.op ∧ i.op ≤ 41) ∧ (0 ≤ i.d ∧ i.d ≤ 15) ∧ (0 ≤ i.a ∧ i.a ≤ 15) ∧ (0 ≤ i.b ∧ i.b ≤ 15) ∧ (-8192 ≤ i.imm ∧ i.imm ≤ 8191) := by
  rw [rightB_iff] at h
  have := lowI_cases i.op
  obtain ⟨h0, h1, h2, h3, h4⟩ := h
  refine ⟨h0, ?_, ?_, ?_, ?_⟩
  · split at h1 <;> omega
  · split at h2 <;> omega
  · split at h3 <;> omega
  · split at h4 <;> omega

/-- The word of an instruction that is right. -/
def encZ (i : Ins) : Int := i.op * 67108864 + i.d * 4194304 + i.a * 262144 + i.b * 16384 + i.imm % 16384
theorem enc_range {i : Ins} (h : rightB i = true) : 0 ≤ encZ i ∧ encZ i ≤ 4294967295 := by
  have := right_range h; unfold encZ; omega
/-- What Encode tells. -/
def encV (i : Ins) : Int := if rightB i = true then encZ i else 0
theorem encV_yes {i : Ins} (h : rightB i = true) : encV i = encZ i := by unfold encV; rw [if_pos h]
theorem encV_no {i : Ins} (h : rightB i = false) : encV i = 0 := by unfold encV; rw [if_neg (by simp [h])]
theorem encV_range (i : Ins) : 0 ≤ encV i ∧ encV i ≤ 4294967295 := by
  unfold encV; split
  · exact enc_range ‹_›
  · omega

/-- 14 bits as a number with a sign. -/
def sgn14 (n : Int) : Int := if 8192 ≤ n then n - 16384 else n
theorem sgn14_cases (n : Int) : (sgn14 n = n ∧ n ≤ 8191) ∨ (sgn14 n = n - 16384 ∧ 8192 ≤ n) := by unfold sgn14; split <;> omega
/-- A word's fields. -/
def fieldsZ (w : Int) : Ins := ⟨w / 67108864, w / 4194304 % 16, w / 262144 % 16, w / 16384 % 16, sgn14 (w % 16384)⟩
theorem enc_fields (w : Int) : encZ (fieldsZ w) = w := by
  have := sgn14_cases (w % 16384)
  unfold encZ fieldsZ
  simp only
  omega
theorem fields_enc {i : Ins} (h : rightB i = true) : fieldsZ (encZ i) = i := by
  have hr := right_range h
  have hs := sgn14_cases (encZ i % 16384)
  rw [Ins.eq_iff]
  unfold fieldsZ
  simp only
  unfold encZ at *
  omega
def noIns : Ins := ⟨0, 0, 0, 0, 0⟩
/-- What Decode tells. -/
def decB (w : Int) : Bool := rightB (fieldsZ w)
def decZ (w : Int) : Ins := if decB w = true then fieldsZ w else noIns
theorem decZ_yes {w : Int} (h : decB w = true) : decZ w = fieldsZ w := by unfold decZ; rw [if_pos h]
theorem decZ_no {w : Int} (h : decB w = false) : decZ w = noIns := by unfold decZ; rw [if_neg (by simp [h])]
theorem dec_enc {i : Ins} (h : rightB i = true) : decB (encZ i) = true ∧ decZ (encZ i) = i := by
  have e := fields_enc h
  have hb : decB (encZ i) = true := by unfold decB; rw [e]; exact h
  exact ⟨hb, by rw [decZ_yes hb, e]⟩
theorem enc_inj {i k : Ins} (hi : rightB i = true) (hk : rightB k = true) : encZ i = encZ k ↔ i = k :=
  ⟨fun h => by rw [← fields_enc hi, ← fields_enc hk, h], fun h => by rw [h]⟩

/-- The registers that an instruction reads. -/
def readsZ (i : Ins) : List Int := if rightB i = true then (if i.a = 0 then [] else [i.a]) ++ (if i.b = 0 then [] else [i.b]) else []
theorem readsZ_no {i : Ins} (h : rightB i = false) : readsZ i = [] := by unfold readsZ; rw [if_neg (by simp [h])]
theorem readsZ_yes {i : Ins} (h : rightB i = true) : readsZ i = (if i.a = 0 then [] else [i.a]) ++ (if i.b = 0 then [] else [i.b]) := by unfold readsZ; rw [if_pos h]
def writesZ (i : Ins) : Int := if rightB i = true then i.d else 0
theorem writesZ_no {i : Ins} (h : rightB i = false) : writesZ i = 0 := by unfold writesZ; rw [if_neg (by simp [h])]
theorem writesZ_yes {i : Ins} (h : rightB i = true) : writesZ i = i.d := by unfold writesZ; rw [if_pos h]

/-- Two words without a bit in common, one from bit i on, the other below it. -/
theorem or_low (i : Nat) (x y : Int) (hx0 : 0 ≤ x) (hx : x % 2 ^ i = 0) (hx1 : x < 4294967296) (hy0 : 0 ≤ y) (hy : y < 2 ^ i) (hi : i ≤ 32) : bits .or .u32 x y = x + y := by
  obtain ⟨a, rfl⟩ := Int.eq_ofNat_of_zero_le hx0
  obtain ⟨c, rfl⟩ := Int.eq_ofNat_of_zero_le hy0
  have hp : (2 : Nat) ^ i ≤ 2 ^ 32 := Nat.pow_le_pow_right (by omega) hi
  have hc : c < 2 ^ i := by exact_mod_cast hy
  have ha : a % 2 ^ i = 0 := by exact_mod_cast hx
  rw [u32_or_nat a c (by omega) (by simp at hp; omega), nat_join i a c ha hc]
  omega
theorem and_15 (x : Int) (h0 : 0 ≤ x) (h1 : x < 4294967296) : bits .and .u32 x 15 = x % 16 := by
  obtain ⟨a, rfl⟩ := Int.eq_ofNat_of_zero_le h0
  rw [show (15 : Int) = ((15 : Nat) : Int) from rfl, u32_and_nat a 15 (by omega) (by omega), nat_mask4]
  omega
theorem and_16383 (x : Int) (h0 : 0 ≤ x) (h1 : x < 4294967296) : bits .and .u32 x 16383 = x % 16384 := by
  obtain ⟨a, rfl⟩ := Int.eq_ofNat_of_zero_le h0
  rw [show (16383 : Int) = ((16383 : Nat) : Int) from rfl, u32_and_nat a 16383 (by omega) (by omega), show a &&& 16383 = a % 16384 from Nat.and_two_pow_sub_one_eq_mod a 14]
  omega
/-- The five parts of a word, put together one by one. -/
theorem or_parts (o d a b m : Int) (ho : 0 ≤ o ∧ o ≤ 63) (hd : 0 ≤ d ∧ d ≤ 15) (ha : 0 ≤ a ∧ a ≤ 15) (hb : 0 ≤ b ∧ b ≤ 15) (hm : 0 ≤ m ∧ m < 16384) :
    bits .or .u32 (bits .or .u32 (bits .or .u32 (bits .or .u32 (o * 67108864) (d * 4194304)) (a * 262144)) (b * 16384)) m = o * 67108864 + d * 4194304 + a * 262144 + b * 16384 + m := by
  rw [or_low 26 (o * 67108864) (d * 4194304) (by omega) (by simp only [Int.reducePow]; omega) (by omega) (by omega) (by simp only [Int.reducePow]; omega) (by omega),
    or_low 22 _ (a * 262144) (by omega) (by simp only [Int.reducePow]; omega) (by omega) (by omega) (by simp only [Int.reducePow]; omega) (by omega),
    or_low 18 _ (b * 16384) (by omega) (by simp only [Int.reducePow]; omega) (by omega) (by omega) (by simp only [Int.reducePow]; omega) (by omega),
    or_low 14 _ m (by omega) (by simp only [Int.reducePow]; omega) (by omega) (by omega) (by simp only [Int.reducePow]; omega) (by omega)]
/-- A word of which a bit was turned: it is a word, and another one. -/
theorem turned_ne (x bit : Int) (h0 : 0 ≤ x) (h1 : x ≤ 4294967295) (b0 : 0 ≤ bit) (b1 : bit ≤ 31) :
    0 ≤ bits .xor .u32 x (2 ^ bit.toNat % 4294967296) ∧ bits .xor .u32 x (2 ^ bit.toNat % 4294967296) ≤ 4294967295 ∧ bits .xor .u32 x (2 ^ bit.toNat % 4294967296) ≠ x := by
  obtain ⟨a, rfl⟩ := Int.eq_ofNat_of_zero_le h0
  obtain ⟨c, rfl⟩ := Int.eq_ofNat_of_zero_le b0
  have hp : (2 : Nat) ^ c ≤ 2 ^ 31 := Nat.pow_le_pow_right (by omega) (by omega)
  have hp' : 0 < (2 : Nat) ^ c := Nat.pow_pos (by omega)
  have e : (2 : Int) ^ ((c : Int).toNat) % 4294967296 = ((2 ^ c : Nat) : Int) := by
    rw [Int.toNat_natCast]
    have : ((2 : Int) ^ c) = ((2 ^ c : Nat) : Int) := by simp
    rw [this]; omega
  rw [e, u32_xor_nat a (2 ^ c) (by omega) (by omega)]
  have hx : a ^^^ 2 ^ c < 2 ^ 32 := Nat.xor_lt_two_pow (by omega) (by omega)
  refine ⟨by omega, by omega, fun h => ?_⟩
  have h' : a ^^^ 2 ^ c = a := by exact_mod_cast h
  have h2 : a ^^^ (a ^^^ 2 ^ c) = a ^^^ a := by rw [h']
  rw [← Nat.xor_assoc, Nat.xor_self, Nat.zero_xor] at h2
  omega
end Go.Proofs.Ytjkijjbakocilaa.Words

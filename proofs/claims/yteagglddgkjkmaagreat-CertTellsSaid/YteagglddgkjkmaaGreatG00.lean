/- Several texts in one: IsaMath, OnrMath, Base, RefForm, IsaForm, IsaRight, IsaEncode. -/
import Derived.WalkKit
import Derived.Laws.BitsAllLaws
import Derived.WalkSpells
import Derived.WalkLawsBesides
import Derived.Lib.Hide
import Derived.Deep.QuietTactic
import Derived.BigQuiet
import Derived.Test.YteagglddgkjkmaaGreatRows

/- Plain mathematics of chapter 2: forms of operations, which instructions may be, the word of an instruction and the instruction of a word. Nothing here speaks of one program. -/
namespace Go.Proofs.YteagglddgkjkmaaGreat.Words
set_option maxRecDepth 100000
open Go.RowKit

/-- An instruction's five numbers. -/
structure Ins where
  op : Int
  d : Int
  a : Int
  b : Int
  imm : Int
deriving DecidableEq

theorem Ins.eq_iff (i k : Ins) : i = k ↔ i.op = k.op ∧ i.d = k.d ∧ i.a = k.a ∧ i.b = k.b ∧ i.imm = k.imm := by
  cases i; cases k; simp
/-- Its numbers are of Go's int. -/
def Ins.Fits (i : Ins) : Prop :=
  (-9223372036854775808 ≤ i.op ∧ i.op ≤ 9223372036854775807) ∧ (-9223372036854775808 ≤ i.d ∧ i.d ≤ 9223372036854775807) ∧ (-9223372036854775808 ≤ i.a ∧ i.a ≤ 9223372036854775807) ∧
  (-9223372036854775808 ≤ i.b ∧ i.b ≤ 9223372036854775807) ∧ (-9223372036854775808 ≤ i.imm ∧ i.imm ≤ 9223372036854775807)

/-- The form of an operation. -/
def formZ (op : Int) : Int :=
  if op < 1 ∨ 41 < op then 0 else if op ≤ 16 then 1 else if op ≤ 24 then 2 else if op = 25 then 3 else if op ≤ 30 then 4 else if op ≤ 33 then 5 else if op ≤ 39 then 6 else if op = 40 then 7 else 8
theorem formZ_cases (op : Int) : (formZ op = 0 ∧ (op < 1 ∨ 41 < op)) ∨ (formZ op = 1 ∧ 1 ≤ op ∧ op ≤ 16) ∨ (formZ op = 2 ∧ 17 ≤ op ∧ op ≤ 24) ∨ (formZ op = 3 ∧ op = 25) ∨ (formZ op = 4 ∧ 26 ≤ op ∧ op ≤ 30) ∨
    (formZ op = 5 ∧ 31 ≤ op ∧ op ≤ 33) ∨ (formZ op = 6 ∧ 34 ≤ op ∧ op ≤ 39) ∨ (formZ op = 7 ∧ op = 40) ∨ (formZ op = 8 ∧ op = 41) := by
  unfold formZ; repeat' split
  all_goals omega
theorem formZ_range (op : Int) : 0 ≤ formZ op ∧ formZ op ≤ 8 := by
  have := formZ_cases op; omega

def hasD (f : Int) : Bool := decide (f = 1 ∨ f = 2 ∨ f = 3 ∨ f = 4)
def hasA (f : Int) : Bool := decide (f = 1 ∨ f = 2 ∨ f = 4 ∨ f = 5 ∨ f = 6)
def hasB (f : Int) : Bool := decide (f = 1 ∨ f = 5 ∨ f = 6)
def hasI (f : Int) : Bool := decide (f = 2 ∨ f = 3 ∨ f = 4 ∨ f = 5 ∨ f = 6 ∨ f = 7)
def lowI (op : Int) : Int := if op = 22 ∨ op = 23 ∨ op = 24 then 0 else -8192
def highI (op : Int) : Int := if op = 22 ∨ op = 23 ∨ op = 24 then 31 else 8191
theorem lowI_cases (op : Int) : (lowI op = 0 ∧ highI op = 31 ∧ 22 ≤ op ∧ op ≤ 24) ∨ (lowI op = -8192 ∧ highI op = 8191 ∧ (op < 22 ∨ 24 < op)) := by
  unfold lowI highI; split <;> omega
/-- May a field be that? -/
def fitsB (n lo hi : Int) (had : Bool) : Bool := if had = true then decide (lo ≤ n ∧ n ≤ hi) else decide (n = 0)
theorem fitsB_yes (n lo hi : Int) : fitsB n lo hi true = true ↔ lo ≤ n ∧ n ≤ hi := by unfold fitsB; simp
theorem fitsB_no (n lo hi : Int) : fitsB n lo hi false = true ↔ n = 0 := by unfold fitsB; simp

/-- May the instruction be? -/
def rightB (i : Ins) : Bool :=
  decide (formZ i.op ≠ 0) && fitsB i.d 0 15 (hasD (formZ i.op)) && fitsB i.a 0 15 (hasA (formZ i.op)) && fitsB i.b 0 15 (hasB (formZ i.op)) && fitsB i.imm (lowI i.op) (highI i.op) (hasI (formZ i.op))

/-- What is right, form by form. -/
theorem rightB_iff (i : Ins) : rightB i = true ↔
    (1 ≤ i.op ∧ i.op ≤ 41) ∧
    (if 1 ≤ i.op ∧ i.op ≤ 30 then 0 ≤ i.d ∧ i.d ≤ 15 else i.d = 0) ∧
    (if (1 ≤ i.op ∧ i.op ≤ 24) ∨ (26 ≤ i.op ∧ i.op ≤ 39) then 0 ≤ i.a ∧ i.a ≤ 15 else i.a = 0) ∧
    (if (1 ≤ i.op ∧ i.op ≤ 16) ∨ (31 ≤ i.op ∧ i.op ≤ 39) then 0 ≤ i.b ∧ i.b ≤ 15 else i.b = 0) ∧
    (if 17 ≤ i.op ∧ i.op ≤ 40 then lowI i.op ≤ i.imm ∧ i.imm ≤ highI i.op else i.imm = 0) := by
  have hd : fitsB i.d 0 15 (hasD (formZ i.op)) = true ↔ (if formZ i.op = 1 ∨ formZ i.op = 2 ∨ formZ i.op = 3 ∨ formZ i.op = 4 then 0 ≤ i.d ∧ i.d ≤ 15 else i.d = 0) := by
    unfold hasD; split <;> simp [fitsB, *]
  have ha : fitsB i.a 0 15 (hasA (formZ i.op)) = true ↔ (if formZ i.op = 1 ∨ formZ i.op = 2 ∨ formZ i.op = 4 ∨ formZ i.op = 5 ∨ formZ i.op = 6 then 0 ≤ i.a ∧ i.a ≤ 15 else i.a = 0) := by
    unfold hasA; split <;> simp [fitsB, *]
  have hb : fitsB i.b 0 15 (hasB (formZ i.op)) = true ↔ (if formZ i.op = 1 ∨ formZ i.op = 5 ∨ formZ i.op = 6 then 0 ≤ i.b ∧ i.b ≤ 15 else i.b = 0) := by
    unfold hasB; split <;> simp [fitsB, *]
  have hi : fitsB i.imm (lowI i.op) (highI i.op) (hasI (formZ i.op)) = true ↔ (if formZ i.op = 2 ∨ formZ i.op = 3 ∨ formZ i.op = 4 ∨ formZ i.op = 5 ∨ formZ i.op = 6 ∨ formZ i.op = 7 then lowI i.op ≤ i.imm ∧ i.imm ≤ highI i.op else i.imm = 0) := by
    unfold hasI; split <;> simp [fitsB, *]
  have c := formZ_cases i.op
  have hd' : (formZ i.op = 1 ∨ formZ i.op = 2 ∨ formZ i.op = 3 ∨ formZ i.op = 4) ↔ (1 ≤ i.op ∧ i.op ≤ 30) := by omega
  have ha' : (formZ i.op = 1 ∨ formZ i.op = 2 ∨ formZ i.op = 4 ∨ formZ i.op = 5 ∨ formZ i.op = 6) ↔ ((1 ≤ i.op ∧ i.op ≤ 24) ∨ (26 ≤ i.op ∧ i.op ≤ 39)) := by omega
  have hb' : (formZ i.op = 1 ∨ formZ i.op = 5 ∨ formZ i.op = 6) ↔ ((1 ≤ i.op ∧ i.op ≤ 16) ∨ (31 ≤ i.op ∧ i.op ≤ 39)) := by omega
  have hi' : (formZ i.op = 2 ∨ formZ i.op = 3 ∨ formZ i.op = 4 ∨ formZ i.op = 5 ∨ formZ i.op = 6 ∨ formZ i.op = 7) ↔ (17 ≤ i.op ∧ i.op ≤ 40) := by omega
  have h0' : (formZ i.op ≠ 0) ↔ (1 ≤ i.op ∧ i.op ≤ 41) := by omega
  simp only [hd', ha', hb', hi'] at hd ha hb hi
  unfold rightB
  rw [Bool.and_eq_true, Bool.and_eq_true, Bool.and_eq_true, Bool.and_eq_true, hd, ha, hb, hi, decide_eq_true_iff, h0', and_assoc, and_assoc, and_assoc]

theorem right_range {i : Ins} (h : rightB i = true) : (1 ≤ i.op ∧ i.op ≤ 41) ∧ (0 ≤ i.d ∧ i.d ≤ 15) ∧ (0 ≤ i.a ∧ i.a ≤ 15) ∧ (0 ≤ i.b ∧ i.b ≤ 15) ∧ (-8192 ≤ i.imm ∧ i.imm ≤ 8191) := by
  rw [rightB_iff] at h
  have := lowI_cases i.op
  obtain ⟨h0, h1, h2, h3, h4⟩ := h
  refine ⟨h0, ?_, ?_, ?_, ?_⟩
  · split at h1 <;> omega
  · split at h2 <;> omega
  · split at h3 <;> omega
  · split at h4 <;> omega

/-- The word of an instruction that is right. -/
def encZ (i : Ins) : Int := i.op * 67108864 + i.d * 4194304 + i.a * 262144 + i.b * 16384 + i.imm % 16384
theorem enc_range {i : Ins} (h : rightB i = true) : 0 ≤ encZ i ∧ encZ i ≤ 4294967295 := by
  have := right_range h; unfold encZ; omega
/-- What Encode tells. -/
def encV (i : Ins) : Int := if rightB i = true then encZ i else 0
theorem encV_yes {i : Ins} (h : rightB i = true) : encV i = encZ i := by unfold encV; rw [if_pos h]
theorem encV_no {i : Ins} (h : rightB i = false) : encV i = 0 := by unfold encV; rw [if_neg (by simp [h])]
theorem encV_range (i : Ins) : 0 ≤ encV i ∧ encV i ≤ 4294967295 := by
  unfold encV; split
  · exact enc_range ‹_›
  · omega

/-- 14 bits as a number with a sign. -/
def sgn14 (n : Int) : Int := if 8192 ≤ n then n - 16384 else n
theorem sgn14_cases (n : Int) : (sgn14 n = n ∧ n ≤ 8191) ∨ (sgn14 n = n - 16384 ∧ 8192 ≤ n) := by unfold sgn14; split <;> omega
/-- A word's fields. -/
def fieldsZ (w : Int) : Ins := ⟨w / 67108864, w / 4194304 % 16, w / 262144 % 16, w / 16384 % 16, sgn14 (w % 16384)⟩
theorem enc_fields (w : Int) : encZ (fieldsZ w) = w := by
  have := sgn14_cases (w % 16384)
  unfold encZ fieldsZ
  simp only
  omega
theorem fields_enc {i : Ins} (h : rightB i = true) : fieldsZ (encZ i) = i := by
  have hr := right_range h
  have hs := sgn14_cases (encZ i % 16384)
  rw [Ins.eq_iff]
  unfold fieldsZ
  simp only
  unfold encZ at *
  omega
def noIns : Ins := ⟨0, 0, 0, 0, 0⟩
/-- What Decode tells. -/
def decB (w : Int) : Bool := rightB (fieldsZ w)
def decZ (w : Int) : Ins := if decB w = true then fieldsZ w else noIns
theorem decZ_yes {w : Int} (h : decB w = true) : decZ w = fieldsZ w := by unfold decZ; rw [if_pos h]
theorem decZ_no {w : Int} (h : decB w = false) : decZ w = noIns := by unfold decZ; rw [if_neg (by simp [h])]
theorem dec_enc {i : Ins} (h : rightB i = true) : decB (encZ i) = true ∧ decZ (encZ i) = i := by
  have e := fields_enc h
  have hb : decB (encZ i) = true := by unfold decB; rw [e]; exact h
  exact ⟨hb, by rw [decZ_yes hb, e]⟩
theorem enc_inj {i k : Ins} (hi : rightB i = true) (hk : rightB k = true) : encZ i = encZ k ↔ i = k :=
  ⟨fun h => by rw [← fields_enc hi, ← fields_enc hk, h], fun h => by rw [h]⟩

/-- The registers that an instruction reads. -/
def readsZ (i : Ins) : List Int := if rightB i = true then (if i.a = 0 then [] else [i.a]) ++ (if i.b = 0 then [] else [i.b]) else []
theorem readsZ_no {i : Ins} (h : rightB i = false) : readsZ i = [] := by unfold readsZ; rw [if_neg (by simp [h])]
theorem readsZ_yes {i : Ins} (h : rightB i = true) : readsZ i = (if i.a = 0 then [] else [i.a]) ++ (if i.b = 0 then [] else [i.b]) := by unfold readsZ; rw [if_pos h]
def writesZ (i : Ins) : Int := if rightB i = true then i.d else 0
theorem writesZ_no {i : Ins} (h : rightB i = false) : writesZ i = 0 := by unfold writesZ; rw [if_neg (by simp [h])]
theorem writesZ_yes {i : Ins} (h : rightB i = true) : writesZ i = i.d := by unfold writesZ; rw [if_pos h]

/-- Two words without a bit in common, one from bit i on, the other below it. -/
theorem or_low (i : Nat) (x y : Int) (hx0 : 0 ≤ x) (hx : x % 2 ^ i = 0) (hx1 : x < 4294967296) (hy0 : 0 ≤ y) (hy : y < 2 ^ i) (hi : i ≤ 32) : bits .or .u32 x y = x + y := by
  obtain ⟨a, rfl⟩ := Int.eq_ofNat_of_zero_le hx0
  obtain ⟨c, rfl⟩ := Int.eq_ofNat_of_zero_le hy0
  have hp : (2 : Nat) ^ i ≤ 2 ^ 32 := Nat.pow_le_pow_right (by omega) hi
  have hc : c < 2 ^ i := by exact_mod_cast hy
  have ha : a % 2 ^ i = 0 := by exact_mod_cast hx
  rw [u32_or_nat a c (by omega) (by simp at hp; omega), nat_join i a c ha hc]
  omega
theorem and_15 (x : Int) (h0 : 0 ≤ x) (h1 : x < 4294967296) : bits .and .u32 x 15 = x % 16 := by
  obtain ⟨a, rfl⟩ := Int.eq_ofNat_of_zero_le h0
  rw [show (15 : Int) = ((15 : Nat) : Int) from rfl, u32_and_nat a 15 (by omega) (by omega), nat_mask4]
  omega
theorem and_16383 (x : Int) (h0 : 0 ≤ x) (h1 : x < 4294967296) : bits .and .u32 x 16383 = x % 16384 := by
  obtain ⟨a, rfl⟩ := Int.eq_ofNat_of_zero_le h0
  rw [show (16383 : Int) = ((16383 : Nat) : Int) from rfl, u32_and_nat a 16383 (by omega) (by omega), show a &&& 16383 = a % 16384 from Nat.and_two_pow_sub_one_eq_mod a 14]
  omega
/-- The five parts of a word, put together one by one. -/
theorem or_parts (o d a b m : Int) (ho : 0 ≤ o ∧ o ≤ 63) (hd : 0 ≤ d ∧ d ≤ 15) (ha : 0 ≤ a ∧ a ≤ 15) (hb : 0 ≤ b ∧ b ≤ 15) (hm : 0 ≤ m ∧ m < 16384) :
    bits .or .u32 (bits .or .u32 (bits .or .u32 (bits .or .u32 (o * 67108864) (d * 4194304)) (a * 262144)) (b * 16384)) m = o * 67108864 + d * 4194304 + a * 262144 + b * 16384 + m := by
  rw [or_low 26 (o * 67108864) (d * 4194304) (by omega) (by simp only [Int.reducePow]; omega) (by omega) (by omega) (by simp only [Int.reducePow]; omega) (by omega),
    or_low 22 _ (a * 262144) (by omega) (by simp only [Int.reducePow]; omega) (by omega) (by omega) (by simp only [Int.reducePow]; omega) (by omega),
    or_low 18 _ (b * 16384) (by omega) (by simp only [Int.reducePow]; omega) (by omega) (by omega) (by simp only [Int.reducePow]; omega) (by omega),
    or_low 14 _ m (by omega) (by simp only [Int.reducePow]; omega) (by omega) (by omega) (by simp only [Int.reducePow]; omega) (by omega)]
/-- A word of which a bit was turned: it is a word, and another one. -/
theorem turned_ne (x bit : Int) (h0 : 0 ≤ x) (h1 : x ≤ 4294967295) (b0 : 0 ≤ bit) (b1 : bit ≤ 31) :
    0 ≤ bits .xor .u32 x (2 ^ bit.toNat % 4294967296) ∧ bits .xor .u32 x (2 ^ bit.toNat % 4294967296) ≤ 4294967295 ∧ bits .xor .u32 x (2 ^ bit.toNat % 4294967296) ≠ x := by
  obtain ⟨a, rfl⟩ := Int.eq_ofNat_of_zero_le h0
  obtain ⟨c, rfl⟩ := Int.eq_ofNat_of_zero_le b0
  have hp : (2 : Nat) ^ c ≤ 2 ^ 31 := Nat.pow_le_pow_right (by omega) (by omega)
  have hp' : 0 < (2 : Nat) ^ c := Nat.pow_pos (by omega)
  have e : (2 : Int) ^ ((c : Int).toNat) % 4294967296 = ((2 ^ c : Nat) : Int) := by
    rw [Int.toNat_natCast]
    have : ((2 : Int) ^ c) = ((2 ^ c : Nat) : Int) := by simp
    rw [this]; omega
  rw [e, u32_xor_nat a (2 ^ c) (by omega) (by omega)]
  have hx : a ^^^ 2 ^ c < 2 ^ 32 := Nat.xor_lt_two_pow (by omega) (by omega)
  refine ⟨by omega, by omega, fun h => ?_⟩
  have h' : a ^^^ 2 ^ c = a := by exact_mod_cast h
  have h2 : a ^^^ (a ^^^ 2 ^ c) = a ^^^ a := by rw [h']
  rw [← Nat.xor_assoc, Nat.xor_self, Nat.zero_xor] at h2
  omega
end Go.Proofs.YteagglddgkjkmaaGreat.Words

/- Plain mathematics of chapter 11: which registers A needs, round by round; the least owner that may be. Nothing here speaks of one program text. -/
namespace Go.Proofs.YteagglddgkjkmaaGreat.Words
set_option maxRecDepth 100000
open Go.RowKit
set_option linter.unusedVariables false

/-- An owner's register. -/
def atO (o : List Int) (n : Int) : Int := o.getD n.toNat 0
def putA (o : List Int) (r : Int) : List Int := if atO o r = 2 then o.set r.toNat 1 else o
def recB (op : Int) : Bool := decide (1 ≤ formZ op ∧ formZ op ≤ 3)
def memB (op : Int) : Bool := decide (formZ op = 4 ∨ formZ op = 5)
/-- What may not be on E because of an instruction. -/
def needZ (i : Ins) (o : List Int) : List Int := if memB i.op = true then [i.a] else if recB i.op = true ∧ atO o i.d = 1 then readsZ i else []
def stepO (o : List Int) (i : Ins) : List Int := (needZ i o).foldl putA o
def roundO (code : List Ins) (o : List Int) : List Int := code.foldl stepO o
def iterO (code : List Ins) : Nat → List Int → List Int
  | 0, o => o
  | k + 1, o => iterO code k (roundO code o)
def firstO : List Int := [0, 2, 2, 2, 2, 2, 2, 2, 2, 2, 2, 2, 2, 2, 2, 2]
def zeroO : List Int := [0, 0, 0, 0, 0, 0, 0, 0, 0, 0, 0, 0, 0, 0, 0, 0]
def leastO (code : List Ins) : List Int := iterO code 17 firstO
def cntE (o : List Int) : Nat := o.count 2
/-- Each register but the first on a side. -/
def OkO (o : List Int) : Prop := o.length = 16 ∧ atO o 0 = 0 ∧ ∀ k : Nat, 1 ≤ k → k ≤ 15 → (atO o k = 1 ∨ atO o k = 2)
theorem firstO_ok : OkO firstO := ⟨rfl, rfl, fun k h1 h2 => (by decide : ∀ k : Fin 16, 1 ≤ k.val → (atO firstO (k.val : Int) = 1 ∨ atO firstO (k.val : Int) = 2)) ⟨k, by omega⟩ h1⟩

theorem atO_nat (o : List Int) (k : Nat) : atO o k = o.getD k 0 := by unfold atO; simp
theorem atO_set (o : List Int) (r k : Nat) (x : Int) (hr : r < o.length) : atO (o.set r x) k = if k = r then x else atO o k := by
  rw [atO_nat, atO_nat, List.getD_eq_getElem?_getD, List.getD_eq_getElem?_getD, List.getElem?_set]
  by_cases h : r = k
  · subst h; simp [hr]
  · rw [if_neg h, if_neg (fun e => h e.symm)]
theorem ext_O {o p : List Int} (ho : o.length = 16) (hp : p.length = 16) (h : ∀ k : Nat, k ≤ 15 → atO o k = atO p k) : o = p := by
  refine List.ext_getElem (by omega) fun i h1 h2 => ?_
  have := h i (by omega)
  rw [atO_nat, atO_nat, List.getD_eq_getElem?_getD, List.getD_eq_getElem?_getD, List.getElem?_eq_getElem h1, List.getElem?_eq_getElem h2] at this
  simpa using this
theorem nat_of {r : Int} (h : 0 ≤ r ∧ r ≤ 15) : ∃ n : Nat, r = n ∧ n ≤ 15 := ⟨r.toNat, by omega, by omega⟩
theorem putA_at {o : List Int} (ho : o.length = 16) {r k : Nat} (hr : r ≤ 15) : atO (putA o r) k = if k = r ∧ atO o r = 2 then 1 else atO o k := by
  unfold putA
  split
  · rename_i h
    rw [show (r : Int).toNat = r from by simp, atO_set o r k 1 (by omega)]
    by_cases e : k = r <;> simp [e, h]
  · rename_i h
    rw [if_neg (fun c => h c.2)]
theorem putA_len (o : List Int) (r : Int) : (putA o r).length = o.length := by unfold putA; split <;> simp
theorem putA_ok {o : List Int} (ho : OkO o) {r : Int} (hr : 0 ≤ r ∧ r ≤ 15) : OkO (putA o r) := by
  obtain ⟨n, rfl, hn⟩ := nat_of hr
  obtain ⟨h1, h2, h3⟩ := ho
  refine ⟨by rw [putA_len, h1], ?_, fun k ha hb => ?_⟩
  · have := putA_at h1 hn (k := 0)
    rw [show ((0 : Nat) : Int) = 0 from rfl] at this
    rw [this]
    split
    · rename_i c; obtain ⟨c1, c2⟩ := c; subst c1; rw [show ((0 : Nat) : Int) = 0 from rfl, h2] at c2; omega
    · exact h2
  · rw [putA_at h1 hn]; split
    · exact Or.inl rfl
    · exact h3 k ha hb
theorem putA_no {o : List Int} {r : Int} (h : atO o r ≠ 2) : putA o r = o := by unfold putA; rw [if_neg h]
theorem cnt_put {o : List Int} (ho : o.length = 16) {r : Int} (hr : 0 ≤ r ∧ r ≤ 15) (h : atO o r = 2) : cntE (o.set r.toNat 1) + 1 = cntE o := by
  obtain ⟨n, rfl, hn⟩ := nat_of hr
  have hl : n < o.length := by omega
  rw [atO_nat, List.getD_eq_getElem?_getD, List.getElem?_eq_getElem hl] at h
  simp only [Option.getD_some] at h
  have hp : 0 < o.count 2 := List.count_pos_iff.2 (by rw [← h]; exact List.getElem_mem hl)
  unfold cntE
  rw [show (n : Int).toNat = n from by simp, List.count_set hl]
  simp only [h, beq_self_eq_true, if_true]
  rw [if_neg (by decide)]; omega
theorem cnt_le {o : List Int} (ho : o.length = 16) {r : Int} (hr : 0 ≤ r ∧ r ≤ 15) : cntE (putA o r) ≤ cntE o ∧ (cntE (putA o r) = cntE o → putA o r = o) := by
  unfold putA
  split
  · rename_i h
    have := cnt_put ho hr h
    omega
  · exact ⟨Nat.le_refl _, fun _ => rfl⟩

/-- A fold that turns less and less. -/
theorem fold_down {α : Type} {f : List Int → α → List Int} {C : α → Prop} (hok : ∀ o x, OkO o → C x → OkO (f o x)) (hd : ∀ o x, OkO o → C x → cntE (f o x) ≤ cntE o ∧ (cntE (f o x) = cntE o → f o x = o)) :
    ∀ (l : List α) (o : List Int), (∀ x ∈ l, C x) → OkO o → OkO (l.foldl f o) ∧ cntE (l.foldl f o) ≤ cntE o ∧ (cntE (l.foldl f o) = cntE o → l.foldl f o = o ∧ ∀ x ∈ l, f o x = o)
  | [], o, _, ho => ⟨ho, Nat.le_refl _, fun _ => ⟨rfl, fun x hx => by cases hx⟩⟩
  | x :: r, o, hC, ho => by
    have hx := hC x (by simp)
    obtain ⟨a1, a2⟩ := hd o x ho hx
    obtain ⟨b1, b2, b3⟩ := fold_down hok hd r (f o x) (fun y hy => hC y (by simp [hy])) (hok o x ho hx)
    rw [List.foldl_cons]
    refine ⟨b1, by omega, fun e => ?_⟩
    have e1 : f o x = o := a2 (by omega)
    rw [e1] at b3 e ⊢
    obtain ⟨c1, c2⟩ := b3 e
    refine ⟨c1, fun y hy => ?_⟩
    rcases List.mem_cons.1 hy with rfl | hy
    · exact e1
    · exact c2 y hy
theorem reads_mem {i : Ins} {r : Int} (h : r ∈ readsZ i) : rightB i = true ∧ 1 ≤ r ∧ r ≤ 15 ∧ (r = i.a ∨ r = i.b) := by
  cases hb : rightB i
  · rw [readsZ_no hb] at h; cases h
  · have := right_range hb
    rw [readsZ_yes hb] at h
    simp only [List.mem_append] at h
    refine ⟨rfl, ?_⟩
    rcases h with h | h
    · split at h
      · cases h
      · simp only [List.mem_singleton] at h; omega
    · split at h
      · cases h
      · simp only [List.mem_singleton] at h; omega
theorem need_range {i : Ins} (hi : rightB i = true) {o : List Int} {r : Int} (h : r ∈ needZ i o) : 0 ≤ r ∧ r ≤ 15 := by
  have := right_range hi
  unfold needZ at h
  split at h
  · simp only [List.mem_singleton] at h; omega
  · split at h
    · have := reads_mem h; omega
    · cases h
theorem puts_down (l : List Int) (o : List Int) (hl : ∀ r ∈ l, 0 ≤ r ∧ r ≤ 15) (ho : OkO o) : OkO (l.foldl putA o) ∧ cntE (l.foldl putA o) ≤ cntE o ∧ (cntE (l.foldl putA o) = cntE o → l.foldl putA o = o ∧ ∀ x ∈ l, putA o x = o) :=
  fold_down (C := fun r => 0 ≤ r ∧ r ≤ 15) (fun o x h c => putA_ok h c) (fun o x h c => cnt_le h.1 c) l o hl ho
theorem step_down (o : List Int) (i : Ins) (ho : OkO o) (hi : rightB i = true) : OkO (stepO o i) ∧ cntE (stepO o i) ≤ cntE o ∧ (cntE (stepO o i) = cntE o → stepO o i = o ∧ ∀ x ∈ needZ i o, putA o x = o) :=
  puts_down (needZ i o) o (fun r h => need_range hi h) ho
theorem round_down (code : List Ins) (o : List Int) (hc : ∀ i ∈ code, rightB i = true) (ho : OkO o) : OkO (roundO code o) ∧ cntE (roundO code o) ≤ cntE o ∧ (cntE (roundO code o) = cntE o → roundO code o = o ∧ ∀ x ∈ code, stepO o x = o) :=
  fold_down (C := fun i => rightB i = true) (fun o x h c => (step_down o x h c).1) (fun o x h c => ⟨(step_down o x h c).2.1, fun e => ((step_down o x h c).2.2 e).1⟩) code o hc ho
theorem iter_fix (code : List Ins) {o : List Int} (h : roundO code o = o) : ∀ k, iterO code k o = o
  | 0 => rfl
  | k + 1 => by rw [iterO, h]; exact iter_fix code h k
theorem iter_add (code : List Ins) : ∀ (j k : Nat) (o : List Int), iterO code (j + k) o = iterO code k (iterO code j o)
  | 0, k, o => by rw [Nat.zero_add]; rfl
  | j + 1, k, o => by rw [show j + 1 + k = (j + k) + 1 from by omega, iterO, iter_add code j k]; rfl
theorem iter_succ (code : List Ins) (j : Nat) (o : List Int) : iterO code (j + 1) o = roundO code (iterO code j o) := by rw [iter_add]; rfl
/-- What the rounds come to stands. -/
theorem least_of (code : List Ins) {j : Nat} {o : List Int} (hj : o = iterO code j firstO) (h17 : j ≤ 17) (hf : roundO code o = o) : leastO code = o := by
  unfold leastO
  rw [show 17 = j + (17 - j) from by omega, iter_add, ← hj, iter_fix code hf]
theorem iter_ok (code : List Ins) (hc : ∀ i ∈ code, rightB i = true) : ∀ (k : Nat) (o : List Int), OkO o → OkO (iterO code k o)
  | 0, o, h => h
  | k + 1, o, h => iter_ok code hc k _ (round_down code o hc h).1
theorem iter_stands (code : List Ins) (hc : ∀ i ∈ code, rightB i = true) : ∀ (k : Nat) (o : List Int), OkO o → cntE o < k → roundO code (iterO code k o) = iterO code k o
  | 0, o, h, hk => absurd hk (by omega)
  | k + 1, o, h, hk => by
    obtain ⟨a, b, c⟩ := round_down code o hc h
    by_cases e : cntE (roundO code o) = cntE o
    · have := (c e).1
      rw [iter_fix code this]; exact this
    · rw [iterO]; exact iter_stands code hc k _ a (by omega)
theorem least_ok (code : List Ins) (hc : ∀ i ∈ code, rightB i = true) : OkO (leastO code) := iter_ok code hc 17 _ firstO_ok
theorem least_stands (code : List Ins) (hc : ∀ i ∈ code, rightB i = true) : roundO code (leastO code) = leastO code := iter_stands code hc 17 _ firstO_ok (by decide)

/-- May the owner be? -/
def ownersB (o : List Int) : Bool := decide (atO o 0 = 0) && (List.range 15).all fun k => decide (atO o ((k : Int) + 1) = 1 ∨ atO o ((k : Int) + 1) = 2)
def anyEB (l : List Int) (o : List Int) : Bool := l.any fun r => decide (atO o r = 2)
def freeB (o : List Int) (i : Ins) : Bool := !anyEB (needZ i o) o
theorem ownersB_ok {o : List Int} (hl : o.length = 16) : ownersB o = true ↔ OkO o := by
  unfold ownersB OkO
  rw [Bool.and_eq_true, decide_eq_true_iff, List.all_eq_true]
  constructor
  · rintro ⟨h0, h⟩
    refine ⟨hl, h0, fun k h1 h15 => ?_⟩
    have := of_decide_eq_true (h (k - 1) (List.mem_range.2 (by omega)))
    rwa [show ((k - 1 : Nat) : Int) + 1 = k from by omega] at this
  · rintro ⟨_, h0, h⟩
    refine ⟨h0, fun k hk => decide_eq_true ?_⟩
    have := h (k + 1) (by omega) (by have := List.mem_range.1 hk; omega)
    rwa [show ((k + 1 : Nat) : Int) = (k : Int) + 1 from by omega] at this
/-- A has all that it needs. -/
def AllO (code : List Ins) (o : List Int) : Prop := ∀ i ∈ code, ∀ r ∈ needZ i o, atO o r ≠ 2
theorem all_free {code : List Ins} {o : List Int} : code.all (freeB o) = true ↔ AllO code o := by
  unfold AllO freeB anyEB
  simp only [List.all_eq_true, Bool.not_eq_true', List.any_eq_false, decide_eq_true_eq]
theorem put_stays {o : List Int} (ho : o.length = 16) {r : Int} (hr : 0 ≤ r ∧ r ≤ 15) (h : putA o r = o) : atO o r ≠ 2 := by
  intro e
  have := cnt_put ho hr e
  unfold putA at h
  rw [if_pos e] at h
  rw [h] at this; omega
theorem stands_all {code : List Ins} (hc : ∀ i ∈ code, rightB i = true) {o : List Int} (ho : OkO o) (h : roundO code o = o) : AllO code o := by
  intro i hi r hr
  have h1 := ((round_down code o hc ho).2.2 (by rw [h])).2 i hi
  have h2 := ((step_down o i ho (hc i hi)).2.2 (by rw [h1])).2 r hr
  exact put_stays ho.1 (need_range (hc i hi) hr) h2
theorem least_all {code : List Ins} (hc : ∀ i ∈ code, rightB i = true) : AllO code (leastO code) := stands_all hc (least_ok code hc) (least_stands code hc)

/-- What is on A in one is on A in the other. -/
def SubO (s o : List Int) : Prop := ∀ k : Nat, k ≤ 15 → atO s k = 1 → atO o k = 1
theorem first_sub (o : List Int) : SubO firstO o := by
  intro k hk h
  exact absurd h ((by decide : ∀ k : Fin 16, atO firstO (k.val : Int) ≠ 1) ⟨k, by omega⟩)
theorem on_of {o : List Int} (ho : OkO o) {r : Int} (hr : 1 ≤ r ∧ r ≤ 15) (h : atO o r ≠ 2) : atO o r = 1 := by
  have := ho.2.2 r.toNat (by omega) (by omega)
  rw [show ((r.toNat : Nat) : Int) = r from by omega] at this
  omega
theorem puts_sub {o : List Int} (ho : OkO o) : ∀ (l : List Int) (s : List Int), OkO s → SubO s o → (∀ r ∈ l, (0 ≤ r ∧ r ≤ 15) ∧ atO o r ≠ 2) → SubO (l.foldl putA s) o
  | [], s, _, hs, _ => hs
  | r :: l, s, hk, hs, h => by
    rw [List.foldl_cons]
    obtain ⟨h1, h2⟩ := h r (by simp)
    refine puts_sub ho l _ (putA_ok hk h1) ?_ (fun x hx => h x (by simp [hx]))
    obtain ⟨n, rfl, hn⟩ := nat_of h1
    intro k hk15 e
    rw [putA_at hk.1 hn] at e
    split at e
    · rename_i c
      obtain ⟨rfl, c2⟩ := c
      refine on_of ho ⟨?_, by omega⟩ h2
      rcases Nat.eq_zero_or_pos k with z | z
      · subst z; rw [show ((0 : Nat) : Int) = 0 from rfl, hk.2.1] at c2; omega
      · omega
    · exact hs k hk15 e
theorem need_sub {i : Ins} (hi : rightB i = true) {s o : List Int} (hs : SubO s o) {r : Int} (h : r ∈ needZ i s) : r ∈ needZ i o := by
  have hr := right_range hi
  unfold needZ at *
  split
  · rename_i c; rwa [if_pos c] at h
  · rename_i c
    rw [if_neg c] at h
    split at h
    · rename_i e
      have := hs i.d.toNat (by omega) (by rw [show ((i.d.toNat : Nat) : Int) = i.d from by omega]; exact e.2)
      rw [show ((i.d.toNat : Nat) : Int) = i.d from by omega] at this
      rw [if_pos ⟨e.1, this⟩]; exact h
    · cases h
theorem steps_sub {o : List Int} (ho : OkO o) : ∀ (code : List Ins) (s : List Int), (∀ i ∈ code, rightB i = true) → AllO code o → OkO s → SubO s o → SubO (roundO code s) o
  | [], s, _, _, _, hs => hs
  | i :: l, s, hc, ha, hk, hs => by
    show SubO (roundO l (stepO s i)) o
    have hi := hc i (by simp)
    refine steps_sub ho l _ (fun x hx => hc x (by simp [hx])) (fun x hx => ha x (by simp [hx])) (step_down s i hk hi).1 ?_
    exact puts_sub ho _ s hk hs fun r hr => ⟨need_range hi hr, ha i (by simp) r (need_sub hi hs hr)⟩
theorem iter_sub {code : List Ins} {o : List Int} (ho : OkO o) (hc : ∀ i ∈ code, rightB i = true) (ha : AllO code o) : ∀ (k : Nat) (s : List Int), OkO s → SubO s o → SubO (iterO code k s) o
  | 0, s, _, hs => hs
  | k + 1, s, hk, hs => iter_sub ho hc ha k _ (round_down code s hc hk).1 (steps_sub ho code s hc ha hk hs)
/-- The least owner that may be. -/
theorem least_sub {code : List Ins} {o : List Int} (hc : ∀ i ∈ code, rightB i = true) (ho : OkO o) (ha : AllO code o) : SubO (leastO code) o := iter_sub ho hc ha 17 _ firstO_ok (first_sub o)

/-- The document's step: it sets what is on A already, too. -/
def setA (o : List Int) (r : Int) : List Int := o.set r.toNat 1
def stepR (o : List Int) (i : Ins) : List Int := if memB i.op = true then (if 0 < i.a then setA o i.a else o) else if recB i.op = true ∧ 0 < i.d ∧ atO o i.d = 1 then (readsZ i).foldl setA o else o
theorem set_put {o : List Int} (ho : OkO o) {r : Int} (hr : 1 ≤ r ∧ r ≤ 15) : setA o r = putA o r := by
  unfold setA putA
  split
  · rfl
  · rename_i h
    have := on_of ho hr h
    obtain ⟨n, rfl, hn⟩ := nat_of (r := r) (by omega)
    rw [show (n : Int).toNat = n from by simp]
    refine ext_O (by rw [List.length_set, ho.1]) ho.1 fun k hk => ?_
    rw [atO_set o n k 1 (by rw [ho.1]; omega)]
    split
    · subst_vars; exact this.symm
    · rfl
theorem sets_puts : ∀ (l : List Int) (o : List Int), OkO o → (∀ r ∈ l, 1 ≤ r ∧ r ≤ 15) → l.foldl setA o = l.foldl putA o
  | [], o, _, _ => rfl
  | r :: l, o, ho, h => by
    have hr := h r (by simp)
    rw [List.foldl_cons, List.foldl_cons, set_put ho hr]
    exact sets_puts l _ (putA_ok ho (by omega)) (fun x hx => h x (by simp [hx]))
theorem step_same {o : List Int} (ho : OkO o) {i : Ins} (hi : rightB i = true) : stepR o i = stepO o i := by
  have hr := right_range hi
  unfold stepR stepO needZ
  by_cases hm : memB i.op = true
  · rw [if_pos hm, if_pos hm]
    show _ = putA o i.a
    by_cases h0 : 0 < i.a
    · rw [if_pos h0]; exact set_put ho (by omega)
    · rw [if_neg h0, putA_no]
      rw [show i.a = 0 from by omega, ho.2.1]; omega
  · rw [if_neg hm, if_neg hm]
    by_cases hd : recB i.op = true ∧ atO o i.d = 1
    · have : 0 < i.d := by
        rcases Int.lt_or_eq_of_le hr.2.1.1 with h | h
        · exact h
        · have := hd.2; rw [← h, ho.2.1] at this; omega
      rw [if_pos ⟨hd.1, this, hd.2⟩, if_pos hd]
      exact sets_puts _ _ ho fun r h => by have := reads_mem h; omega
    · rw [if_neg (fun c => hd ⟨c.1, c.2.2⟩), if_neg hd]; rfl
theorem round_same : ∀ (code : List Ins) (o : List Int), OkO o → (∀ i ∈ code, rightB i = true) → code.foldl stepR o = roundO code o
  | [], o, _, _ => rfl
  | i :: l, o, ho, h => by
    have hi := h i (by simp)
    show l.foldl stepR (stepR o i) = roundO l (stepO o i)
    rw [step_same ho hi]
    exact round_same l _ (step_down o i ho hi).1 (fun x hx => h x (by simp [hx]))
end Go.Proofs.YteagglddgkjkmaaGreat.Words

/- Plain lemmas for walks over slices: what a slice reads as ('Row'), kept over new blocks, draws and whatever turns nothing below a block number. Nothing here speaks of one program. -/
namespace Go.Proofs.YteagglddgkjkmaaGreat.Words
set_option maxRecDepth 100000
open Go.RowKit

/-- The slice value v has n elements of 'size' cells each; its cells are xs, and lie below block B. -/
def Row (w : World) (B size : Nat) (v : Value) (n : Nat) (xs : List Value) : Prop :=
  xs.length = n * size ∧ ∃ A c, v = .slice A n c ∧ n ≤ c ∧ c ≤ 9223372036854775807 ∧ (A = none → c = 0) ∧
    (n ≠ 0 → ∃ b off, A = some ⟨b, off, none⟩ ∧ b < B ∧ ∀ j u, xs[j]? = some u → w.cell? ⟨b, off + j, none⟩ = some u)

theorem add_spot (b off j : Nat) : (⟨b, off, none⟩ : Addr).add j = ⟨b, off + j, none⟩ := by
  unfold Addr.add
  split
  · subst_vars; rfl
  · rfl

section
variable {w w' : World} {B size : Nat} {v : Value} {n : Nat} {xs : List Value}
theorem Row.keep (h : Row w B size v n xs) (hk : ∀ p : Addr, p.block < B → w'.cell? p = w.cell? p) : Row w' B size v n xs := by
  obtain ⟨h0, A, c, h1, h2, h3, h4, h5⟩ := h
  refine ⟨h0, A, c, h1, h2, h3, h4, fun hn => ?_⟩
  obtain ⟨b, off, e, hb, hc⟩ := h5 hn
  exact ⟨b, off, e, hb, fun j u hu => (hk _ hb).trans (hc j u hu)⟩
theorem Row.more {B' : Nat} (h : Row w B size v n xs) (hB : B ≤ B') : Row w B' size v n xs := by
  obtain ⟨h0, A, c, h1, h2, h3, h4, h5⟩ := h
  refine ⟨h0, A, c, h1, h2, h3, h4, fun hn => ?_⟩
  obtain ⟨b, off, e, hb, hc⟩ := h5 hn
  exact ⟨b, off, e, Nat.lt_of_lt_of_le hb hB, hc⟩
theorem Row.below (h : Row w B size v n xs) (hb : Below B w w') : Row w' B size v n xs := h.keep fun _ hp => hb.cell hp
theorem Row.drewN (h : Row w B size v n xs) (k : Nat) : Row (w.drewN k) B size v n xs := h
theorem Row.drew (h : Row w B size v n xs) : Row w.drew B size v n xs := h
theorem Row.alloc (h : Row w B size v n xs) (hB : B ≤ w.heap.size) (o : Obj) : Row (w.alloc o) B size v n xs := h.keep fun p hp => World.cell?_alloc_lt w o p (by omega)
theorem Row.nil (w : World) (B size : Nat) : Row w B size (.slice none 0 0) 0 [] := ⟨by simp, none, 0, rfl, Nat.le_refl _, by omega, fun _ => rfl, fun h => absurd rfl h⟩
theorem Row.of_own {base : Nat} {e : TypeId} (h : w.ownsRow base e size v n xs) : Row w w.heap.size size v n xs := by
  refine ⟨h.1, ?_⟩
  rcases h.2 with ⟨rfl, rfl⟩ | ⟨g, cap, cur, rfl, hb, hg, h1, h2, h3, h4⟩
  · exact ⟨none, 0, rfl, Nat.le_refl _, by omega, fun _ => rfl, fun h => absurd rfl h⟩
  · refine ⟨_, _, rfl, h1, by simpa [maxLen] using h2, (fun h => by cases h), fun _ => ⟨g, 0, rfl, (Array.getElem?_eq_some_iff.1 hg).1, fun j u hu => ?_⟩⟩
    have := h.cells (g := g) rfl j u hu
    rwa [add_spot] at this
theorem Row.of_ints {k : IntKind} {x : Addr} {len cap : Nat} {zs : List Int} (hl : len ≤ cap) (hm : cap ≤ maxLen) (hz : zs.length = cap) (hc : ∀ i, i < zs.length → w.cell? (x.add i) = some (.int k (zs.getD i 0))) :
    Row w w.heap.size 1 (.slice (some x) len cap) len ((zs.take len).map (Value.int k)) := by
  refine ⟨by simp; omega, some x, cap, rfl, hl, by simpa [maxLen] using hm, (fun h => by cases h), fun hn => ?_⟩
  obtain ⟨b, off, spot⟩ := x
  have h0 := hc 0 (by omega)
  have hs : spot = none := by simpa [Addr.add] using World.cell?_spot h0
  subst hs
  refine ⟨b, off, rfl, ?_, fun j u hu => ?_⟩
  · rw [add_spot] at h0
    unfold World.cell? at h0
    rcases hh : w.heap[b]? with _ | o
    · simp [hh] at h0
    · exact (Array.getElem?_eq_some_iff.1 hh).1
  · have hj : j < len := by
      rw [List.getElem?_eq_some_iff] at hu
      obtain ⟨h, _⟩ := hu
      simp at h; omega
    have := hc j (by omega)
    rw [add_spot] at this
    rw [this, ← hu, List.getElem?_map, List.getElem?_take, if_pos hj, List.getD_eq_getElem?_getD, List.getElem?_eq_getElem (by omega)]
    rfl
theorem Row.cells {A : Option Addr} {c : Nat} (h : Row w B size (.slice A n c) n xs) : ∀ ad, A = some ad → ∀ j u, xs[j]? = some u → w.cell? (ad.add j) = some u := by
  obtain ⟨h0, A', c', h1, h2, h3, h4, h5⟩ := h
  injection h1 with e1 _ e2
  subst e1 e2
  intro ad had j u hu
  by_cases hn : n = 0
  · subst hn
    have : xs = [] := List.eq_nil_of_length_eq_zero (by simpa using h0)
    subst this
    simp at hu
  · obtain ⟨b, off, e, hb, hc⟩ := h5 hn
    rw [had] at e
    injection e with e
    subst e
    rw [add_spot]
    exact hc j u hu
theorem Row.bare {A : Option Addr} {c : Nat} (h : Row w B size (.slice A n c) n xs) : A = none → n = 0 ∧ c = 0 := by
  obtain ⟨h0, A', c', h1, h2, h3, h4, h5⟩ := h
  injection h1 with e1 _ e2
  subst e1 e2
  intro hA
  have := h4 hA
  exact ⟨by omega, this⟩
theorem Row.cap {A : Option Addr} {c : Nat} (h : Row w B size (.slice A n c) n xs) : n ≤ c ∧ c ≤ 9223372036854775807 := by
  obtain ⟨h0, A', c', h1, h2, h3, h4, h5⟩ := h
  injection h1 with e1 _ e2
  subst e1 e2
  exact ⟨h2, h3⟩
theorem Row.len {A : Option Addr} {c : Nat} (h : Row w B size (.slice A n c) n xs) : xs.length = n * size := h.1
theorem Row.form (h : Row w B size v n xs) : ∃ A c, v = .slice A n c := by
  obtain ⟨h0, A, c, h1, _⟩ := h
  exact ⟨A, c, h1⟩
/-- Its cells, where there is one. -/
theorem Row.at_ {A : Option Addr} {c : Nat} (h : Row w B size (.slice A n c) n xs) (hn : n ≠ 0) :
    ∃ b off, A = some ⟨b, off, none⟩ ∧ b < B ∧ ∀ j u, xs[j]? = some u → w.cell? ⟨b, off + j, none⟩ = some u := by
  obtain ⟨h0, A', c', h1, h2, h3, h4, h5⟩ := h
  injection h1 with e1 _ e2
  subst e1 e2
  exact h5 hn
end

/-- The cells of a block that was just laid. -/
theorem new_cells (w : World) (cs : Array Value) (t : TypeId) (xs : List Value) (h : cs.toList = xs) : ∀ j u, xs[j]? = some u → (w.alloc (.cells cs t)).cell? ((⟨w.heap.size, 0, none⟩ : Addr).add j) = some u := by
  intro j u hu
  subst h
  rw [add_spot, Nat.zero_add, World.cell?_alloc_new]
  simpa using hu
theorem own_ge {k b : Nat} : some k = some b → b ≤ k := fun h => by injection h with h; omega
theorem own_ge' {B : Nat} : ∀ k, some B = some k → B ≤ k := fun _ h => by injection h with h; omega
theorem Below.drewN_ {B : Nat} {a w : World} (h : Below B a w) (n : Nat) : Below B a (w.drewN n) := ⟨h.os, h.tape, h.output, h.size, h.block⟩
theorem ret_int {k : IntKind} {a b : Int} (h : a = b) : Ending.returned (.int k a) = .returned (.int k b) := by rw [h]
theorem ret_bool_iff {a b : Bool} (h : a = true ↔ b = true) : Ending.returned (.bool a) = .returned (.bool b) := by rw [Bool.eq_iff_iff.2 h]
theorem ret_bool {a b : Bool} (h : a = b) : Ending.returned (.bool a) = .returned (.bool b) := by rw [h]
/-- What was there reads as it did, and its marks. -/
theorem bcell {W w1 : World} (hb : Below W.heap.size W w1) : (∀ b o, b < W.heap.size → w1.cell? ⟨b, o, none⟩ = W.cell? ⟨b, o, none⟩) ∧ (∀ b o, b < W.heap.size → w1.frozen? ⟨b, o, none⟩ = W.frozen? ⟨b, o, none⟩) :=
  ⟨fun b o h => hb.cell (p := ⟨b, o, none⟩) h, fun b o h => hb.frozen (p := ⟨b, o, none⟩) h⟩
/-- What lay there before a new block and an append reads as it did. -/
theorem grown_cell {w1 w2 : World} {o : Obj} {row : Option Nat} (hg : (w1.alloc o).grownBy w2 row) {b : Nat} (j : Nat) (hb : b < w1.heap.size) (hr : some b ≠ row) : w2.cell? ⟨b, j, none⟩ = w1.cell? ⟨b, j, none⟩ := by
  have hblk := hg.block b (by simp; omega) hr
  rw [World.cell?_of_block (a := ⟨b, j, none⟩) hblk, World.cell?_alloc_lt _ _ _ hb]
theorem grown_size {w1 w2 : World} {o : Obj} {row : Option Nat} (hg : (w1.alloc o).grownBy w2 row) : w1.heap.size < w2.heap.size := by
  have := hg.size; simp at this; omega
theorem own_none {A c : Nat} : ∀ k, (Value.slice none A c).ownBlock = some k → False := fun k hk => by simp [Value.ownBlock] at hk
theorem own_not {A c b : Nat} : some b ≠ (Value.slice none A c).ownBlock := fun h => by simp [Value.ownBlock] at h
end Go.Proofs.YteagglddgkjkmaaGreat.Words

/- Contract of the document's own answer on forms. No conditions. -/
namespace Go.Proofs.YteagglddgkjkmaaGreat.Words
set_option maxRecDepth 100000
open Go.RowKit

set_option maxHeartbeats 400000 in
theorem refForm_any (op : Int) (w : World) :
    Calls Tryz.prog 51 #[.int .i64 op] w fun e w' => e = .returned (.int .i64 (formZ op)) ∧ w = w' := by
  have hc := formZ_cases op
  go_enter Tryz.func51, Tryz.ntmps51
  go_wp2
  all_goals
    go_ret
    exact ⟨ret_int (by (try simp only [beq_iff_eq, beq_eq_false_iff_ne, ne_eq] at *); omega), rfl⟩

end Go.Proofs.YteagglddgkjkmaaGreat.Words

/- Contracts of package isa and of the document's own answers on forms and on which instructions may be: Form, Right. No conditions. -/
namespace Go.Proofs.YteagglddgkjkmaaGreat.Words
set_option maxRecDepth 100000
open Go.RowKit

theorem results_tmp4 {fn : Func} {t u v x : Tmp} (h : fn.results = #[.tmp t, .tmp u, .tmp v, .tmp x]) (tmps : Array Value) (P : Program) (w : World) :
    (results fn tmps).run P w = .ok (.tuple #[tmps.getD t undef, tmps.getD u undef, tmps.getD v undef, tmps.getD x undef]) w := by simp [results, h]

theorem ret_ints {k l : IntKind} {a b c d : Int} (h : a = b) (h' : c = d) : Ending.returned (.tuple #[.int k a, .int l c]) = .returned (.tuple #[.int k b, .int l d]) := by rw [h, h']

theorem ret_wb {a b : Int} {t u : Bool} (h : a = b) (h' : t = u) : Ending.returned (.tuple #[.int .u32 a, .bool t]) = .returned (.tuple #[.int .u32 b, .bool u]) := by rw [h, h']

set_option maxHeartbeats 400000 in
theorem form_any (op : Int) (w : World) :
    Calls Tryz.prog 83 #[.int .i64 op] w fun e w' => e = .returned (.int .i64 (formZ op)) ∧ w = w' := by
  have hc := formZ_cases op
  go_enter Tryz.func83, Tryz.ntmps83
  go_wp2
  all_goals
    go_ret
    exact ⟨ret_int (by (try simp only [beq_iff_eq, beq_eq_false_iff_ne, ne_eq] at *); omega), rfl⟩

set_option maxHeartbeats 400000 in
theorem fits_any (n lo hi : Int) (had : Bool) (w : World) :
    Calls Tryz.prog 103 #[.int .i64 n, .int .i64 lo, .int .i64 hi, .bool had] w fun e w' => e = .returned (.bool (fitsB n lo hi had)) ∧ w = w' := by
  rcases had with _ | _
  · go_enter Tryz.func103, Tryz.ntmps103
    go_wp2
    all_goals
      go_ret
      exact ⟨ret_bool_iff (by simp [fitsB]), rfl⟩
  · go_enter Tryz.func103, Tryz.ntmps103
    go_wp2
    all_goals
      go_ret
      exact ⟨ret_bool_iff (by simp [fitsB]; try omega), rfl⟩

set_option maxHeartbeats 400000 in
theorem limits_any (op : Int) (w : World) :
    Calls Tryz.prog 102 #[.int .i64 op] w fun e w' => e = .returned (.tuple #[.int .i64 (lowI op), .int .i64 (highI op)]) ∧ w = w' := by
  have hc := lowI_cases op
  go_enter Tryz.func102, Tryz.ntmps102
  go_wp2
  all_goals
    go_ret2
    exact ⟨ret_ints (by (try simp only [beq_iff_eq, beq_eq_false_iff_ne, ne_eq] at *); omega) (by (try simp only [beq_iff_eq, beq_eq_false_iff_ne, ne_eq] at *); omega), rfl⟩

set_option maxHeartbeats 400000 in
theorem fieldsOf_any (f : Int) (w : World) (h0 : 0 ≤ f) (h8 : f ≤ 8) :
    Calls Tryz.prog 101 #[.int .i64 f] w fun e w' => e = .returned (.agg #[.bool (hasD f), .bool (hasA f), .bool (hasB f), .bool (hasI f)]) ∧ Below w.heap.size w w' := by
  have hf : f = 0 ∨ f = 1 ∨ f = 2 ∨ f = 3 ∨ f = 4 ∨ f = 5 ∨ f = 6 ∨ f = 7 ∨ f = 8 := by omega
  rcases hf with rfl | rfl | rfl | rfl | rfl | rfl | rfl | rfl | rfl
  all_goals
    go_enter Tryz.func101, Tryz.ntmps101
    go_wp2
    refine bodyPost_ret (v := .agg #[.bool (hasD _), .bool (hasA _), .bool (hasB _), .bool (hasI _)]) (by simp [results, Tryz.results101, go_sem]; try decide) rfl ⟨rfl, ?_⟩
    exact (Below.refl _ _).alloc (Nat.le_refl _) _


set_option maxHeartbeats 400000 in
theorem has_any (f : Int) (w : World) :
    Calls Tryz.prog 78 #[.int .i64 f] w fun e w' => e = .returned (.tuple #[.bool (hasD f), .bool (hasA f), .bool (hasB f), .bool (hasI f)]) ∧ w = w' := by
  by_cases hf : f = 1 ∨ f = 2 ∨ f = 3 ∨ f = 4 ∨ f = 5 ∨ f = 6 ∨ f = 7
  · rcases hf with rfl | rfl | rfl | rfl | rfl | rfl | rfl
    all_goals
      go_enter Tryz.func78, Tryz.ntmps78
      go_wp2
      refine bodyPost_ret (results_tmp4 rfl _ _ _) rfl ⟨rfl, rfl⟩
  · have h1 : (f == 1) = false := by simp; omega
    have h2 : (f == 2) = false := by simp; omega
    have h3 : (f == 3) = false := by simp; omega
    have h4 : (f == 4) = false := by simp; omega
    have h5 : (f == 5) = false := by simp; omega
    have h6 : (f == 6) = false := by simp; omega
    have h7 : (f == 7) = false := by simp; omega
    have e1 : hasD f = false := by unfold hasD; simp; omega
    have e2 : hasA f = false := by unfold hasA; simp; omega
    have e3 : hasB f = false := by unfold hasB; simp; omega
    have e4 : hasI f = false := by unfold hasI; simp; omega
    rw [e1, e2, e3, e4]
    clear e1 e2 e3 e4
    go_enter Tryz.func78, Tryz.ntmps78
    go_wp2
    refine bodyPost_ret (results_tmp4 rfl _ _ _) rfl ⟨rfl, rfl⟩

theorem fitsB_reg (n : Int) (had : Bool) : fitsB n 0 15 had = (n == 0 || (had && decide (0 < n) && decide (n ≤ 15))) := by
  rw [Bool.eq_iff_iff]; cases had <;> simp [fitsB]; omega
set_option maxHeartbeats 400000 in
theorem reg_any (n : Int) (had : Bool) (w : World) :
    Calls Tryz.prog 90 #[.int .i64 n, .bool had] w fun e w' => e = .returned (.bool (fitsB n 0 15 had)) ∧ w = w' := by
  rw [fitsB_reg]
  by_cases h0 : n = 0
  · subst h0
    go_enter Tryz.func90, Tryz.ntmps90
    go_wp2
    go_ret
    exact ⟨rfl, rfl⟩
  · have h1 : (n == 0) = false := by simpa using h0
    have h2 : ¬ n = 0 := h0
    rcases had with _ | _
    · go_enter Tryz.func90, Tryz.ntmps90
      go_wp2
      all_goals
        go_ret
        exact ⟨ret_bool (by simp [h1]), rfl⟩
    · by_cases h3 : 0 < n
      · go_enter Tryz.func90, Tryz.ntmps90
        go_wp2
        all_goals
          go_ret
          exact ⟨ret_bool (by simp [h1, h3]), rfl⟩
      · have h4 : n < 0 := by omega
        go_enter Tryz.func90, Tryz.ntmps90
        go_wp2
        all_goals
          go_ret
          exact ⟨ret_bool (by simp; omega), rfl⟩
end Go.Proofs.YteagglddgkjkmaaGreat.Words

/- Contracts of isa.Right and of the document's own RightIns: whether an instruction is one that may be. No conditions. -/
namespace Go.Proofs.YteagglddgkjkmaaGreat.Words
set_option maxRecDepth 100000
open Go.RowKit

theorem right_none {i : Ins} (h : (formZ i.op == 0) = true) : rightB i = false := by
  have : formZ i.op = 0 := by simpa using h
  unfold rightB; simp [this]
theorem right_some {i : Ins} (h : (formZ i.op == 0) = false) : rightB i = (fitsB i.d 0 15 (hasD (formZ i.op)) && fitsB i.a 0 15 (hasA (formZ i.op)) && fitsB i.b 0 15 (hasB (formZ i.op)) && fitsB i.imm (lowI i.op) (highI i.op) (hasI (formZ i.op))) := by
  have : formZ i.op ≠ 0 := by simpa using h
  unfold rightB; simp [this]

set_option maxHeartbeats 1000000 in
/-- Right: the instruction is boxed, and its fields, in new memory. -/
theorem right_any (i : Ins) (w : World) :
    Calls Tryz.prog 91 #[.agg #[.int .i64 i.op, .int .i64 i.d, .int .i64 i.a, .int .i64 i.b, .int .i64 i.imm]] w fun e w' => e = .returned (.bool (rightB i)) ∧ Below w.heap.size w w' := by
  have hr := formZ_range i.op
  cases h0 : (formZ i.op == 0)
  · have hright := Lib.hid (right_some h0)
    go_enter Tryz.func91, Tryz.ntmps91
    go_wp2_with fail
    refine (form_any _ _).mono ?_; rintro e w1 ⟨rfl, rfl⟩
    go_wp2_with fail
    refine (fieldsOf_any _ _ hr.1 hr.2).mono ?_; rintro e w1 ⟨rfl, hb1⟩
    obtain ⟨hc1, hf1⟩ := bcell hb1
    have hz1 : w.heap.size < w1.heap.size := by have := hb1.size; simp at this; omega
    have hB := (((Below.refl w.heap.size w).alloc (Nat.le_refl _) _).trans (hb1.mono (by simp)))
    cases hd : fitsB i.d 0 15 (hasD (formZ i.op))
    · rw [hd] at hright
      go_wp2_with fail
      refine (limits_any _ _).mono ?_; rintro e w2 ⟨rfl, rfl⟩
      go_wp2_with fail
      refine (fits_any _ _ _ _ _).mono ?_; rintro e w2 ⟨rfl, rfl⟩
      rw [hd]
      go_wp2_with fail
      go_ret
      exact ⟨ret_bool (by rw [hright.out]; rfl), hB.alloc (by omega) _⟩
    cases ha : fitsB i.a 0 15 (hasA (formZ i.op))
    · rw [hd, ha] at hright
      go_wp2_with fail
      refine (limits_any _ _).mono ?_; rintro e w2 ⟨rfl, rfl⟩
      go_wp2_with fail
      refine (fits_any _ _ _ _ _).mono ?_; rintro e w2 ⟨rfl, rfl⟩
      rw [hd]
      go_wp2_with fail
      refine (fits_any _ _ _ _ _).mono ?_; rintro e w2 ⟨rfl, rfl⟩
      rw [ha]
      go_wp2_with fail
      go_ret
      exact ⟨ret_bool (by rw [hright.out]; rfl), hB.alloc (by omega) _⟩
    cases hb : fitsB i.b 0 15 (hasB (formZ i.op))
    · rw [hd, ha, hb] at hright
      go_wp2_with fail
      refine (limits_any _ _).mono ?_; rintro e w2 ⟨rfl, rfl⟩
      go_wp2_with fail
      refine (fits_any _ _ _ _ _).mono ?_; rintro e w2 ⟨rfl, rfl⟩
      rw [hd]
      go_wp2_with fail
      refine (fits_any _ _ _ _ _).mono ?_; rintro e w2 ⟨rfl, rfl⟩
      rw [ha]
      go_wp2_with fail
      refine (fits_any _ _ _ _ _).mono ?_; rintro e w2 ⟨rfl, rfl⟩
      rw [hb]
      go_wp2_with fail
      go_ret
      exact ⟨ret_bool (by rw [hright.out]; rfl), hB.alloc (by omega) _⟩
    · rw [hd, ha, hb] at hright
      go_wp2_with fail
      refine (limits_any _ _).mono ?_; rintro e w2 ⟨rfl, rfl⟩
      go_wp2_with fail
      refine (fits_any _ _ _ _ _).mono ?_; rintro e w2 ⟨rfl, rfl⟩
      rw [hd]
      go_wp2_with fail
      refine (fits_any _ _ _ _ _).mono ?_; rintro e w2 ⟨rfl, rfl⟩
      rw [ha]
      go_wp2_with fail
      refine (fits_any _ _ _ _ _).mono ?_; rintro e w2 ⟨rfl, rfl⟩
      rw [hb]
      go_wp2_with fail
      refine (fits_any _ _ _ _ _).mono ?_; rintro e w2 ⟨rfl, rfl⟩
      go_wp2_with fail
      go_ret
      exact ⟨ret_bool (by rw [hright.out]; rfl), hB.alloc (by omega) _⟩
  · have hright := Lib.hid (right_none h0)
    go_enter Tryz.func91, Tryz.ntmps91
    go_wp2_with fail
    refine (form_any _ _).mono ?_; rintro e w1 ⟨rfl, rfl⟩
    go_wp2_with fail
    go_ret
    exact ⟨ret_bool hright.out.symm, (Below.refl _ _).alloc (Nat.le_refl _) _⟩

set_option maxHeartbeats 1000000 in
theorem rightIns_any (i : Ins) (w : World) :
    Calls Tryz.prog 69 #[.agg #[.int .i64 i.op, .int .i64 i.d, .int .i64 i.a, .int .i64 i.b, .int .i64 i.imm]] w fun e w' => e = .returned (.bool (rightB i)) ∧ Below w.heap.size w w' := by
  have hB : ∀ o, Below w.heap.size w (w.alloc o) := fun o => (Below.refl w.heap.size w).alloc (Nat.le_refl _) o
  have HB := Lib.hid hB
  clear hB
  cases h0 : (formZ i.op == 0)
  · have hright := Lib.hid (right_some h0)
    cases hd : fitsB i.d 0 15 (hasD (formZ i.op))
    · rw [hd] at hright
      go_enter Tryz.func69, Tryz.ntmps69
      go_wp2_with fail
      refine (refForm_any _ _).mono ?_; rintro e w1 ⟨rfl, rfl⟩
      go_wp2_with fail
      refine (has_any _ _).mono ?_; rintro e w1 ⟨rfl, rfl⟩
      go_wp2_with fail
      refine (reg_any _ _ _).mono ?_; rintro e w1 ⟨rfl, rfl⟩
      rw [hd]
      go_wp2_with fail
      go_ret
      exact ⟨ret_bool (by rw [hright.out]; rfl), HB.out _⟩
    cases ha : fitsB i.a 0 15 (hasA (formZ i.op))
    · rw [hd, ha] at hright
      go_enter Tryz.func69, Tryz.ntmps69
      go_wp2_with fail
      refine (refForm_any _ _).mono ?_; rintro e w1 ⟨rfl, rfl⟩
      go_wp2_with fail
      refine (has_any _ _).mono ?_; rintro e w1 ⟨rfl, rfl⟩
      go_wp2_with fail
      refine (reg_any _ _ _).mono ?_; rintro e w1 ⟨rfl, rfl⟩
      rw [hd]
      go_wp2_with fail
      refine (reg_any _ _ _).mono ?_; rintro e w1 ⟨rfl, rfl⟩
      rw [ha]
      go_wp2_with fail
      go_ret
      exact ⟨ret_bool (by rw [hright.out]; rfl), HB.out _⟩
    cases hb : fitsB i.b 0 15 (hasB (formZ i.op))
    · rw [hd, ha, hb] at hright
      go_enter Tryz.func69, Tryz.ntmps69
      go_wp2_with fail
      refine (refForm_any _ _).mono ?_; rintro e w1 ⟨rfl, rfl⟩
      go_wp2_with fail
      refine (has_any _ _).mono ?_; rintro e w1 ⟨rfl, rfl⟩
      go_wp2_with fail
      refine (reg_any _ _ _).mono ?_; rintro e w1 ⟨rfl, rfl⟩
      rw [hd]
      go_wp2_with fail
      refine (reg_any _ _ _).mono ?_; rintro e w1 ⟨rfl, rfl⟩
      rw [ha]
      go_wp2_with fail
      refine (reg_any _ _ _).mono ?_; rintro e w1 ⟨rfl, rfl⟩
      rw [hb]
      go_wp2_with fail
      go_ret
      exact ⟨ret_bool (by rw [hright.out]; rfl), HB.out _⟩
    · rw [hd, ha, hb] at hright
      have hl := lowI_cases i.op
      cases hi : hasI (formZ i.op)
      · rw [hi] at hright
        by_cases hz : i.imm = 0
        · have hz' : (i.imm != 0) = false := by simp [hz]
          have hv : rightB i = true := by rw [hright.out]; simp [fitsB, hz]
          have HV := Lib.hid hv
          clear hv
          go_enter Tryz.func69, Tryz.ntmps69
          go_wp2_with fail
          refine (refForm_any _ _).mono ?_; rintro e w1 ⟨rfl, rfl⟩
          go_wp2_with fail
          refine (has_any _ _).mono ?_; rintro e w1 ⟨rfl, rfl⟩
          rw [hi]
          go_wp2_with fail
          refine (reg_any _ _ _).mono ?_; rintro e w1 ⟨rfl, rfl⟩
          rw [hd]
          go_wp2_with fail
          refine (reg_any _ _ _).mono ?_; rintro e w1 ⟨rfl, rfl⟩
          rw [ha]
          go_wp2_with fail
          refine (reg_any _ _ _).mono ?_; rintro e w1 ⟨rfl, rfl⟩
          rw [hb]
          go_wp2_with fail
          all_goals
            go_ret
            exact ⟨ret_bool_iff (by first | (rw [HV.out]; done) | (rw [HV.out]; simp; done) | (rw [HV.out]; simp; omega)), HB.out _⟩
        · have hz' : (i.imm != 0) = true := by simp [hz]
          have hv : rightB i = false := by rw [hright.out]; simp [fitsB, hz]
          have HV := Lib.hid hv
          clear hv
          go_enter Tryz.func69, Tryz.ntmps69
          go_wp2_with fail
          refine (refForm_any _ _).mono ?_; rintro e w1 ⟨rfl, rfl⟩
          go_wp2_with fail
          refine (has_any _ _).mono ?_; rintro e w1 ⟨rfl, rfl⟩
          rw [hi]
          go_wp2_with fail
          refine (reg_any _ _ _).mono ?_; rintro e w1 ⟨rfl, rfl⟩
          rw [hd]
          go_wp2_with fail
          refine (reg_any _ _ _).mono ?_; rintro e w1 ⟨rfl, rfl⟩
          rw [ha]
          go_wp2_with fail
          refine (reg_any _ _ _).mono ?_; rintro e w1 ⟨rfl, rfl⟩
          rw [hb]
          go_wp2_with fail
          go_ret
          exact ⟨ret_bool HV.out.symm, HB.out _⟩
      · rw [hi] at hright
        have hv : rightB i = decide (lowI i.op ≤ i.imm ∧ i.imm ≤ highI i.op) := by rw [hright.out]; simp [fitsB]
        have HV := Lib.hid hv
        clear hv
        go_enter Tryz.func69, Tryz.ntmps69
        go_wp2_with fail
        refine (refForm_any _ _).mono ?_; rintro e w1 ⟨rfl, rfl⟩
        go_wp2_with fail
        refine (has_any _ _).mono ?_; rintro e w1 ⟨rfl, rfl⟩
        rw [hi]
        go_wp2_with fail
        refine (reg_any _ _ _).mono ?_; rintro e w1 ⟨rfl, rfl⟩
        rw [hd]
        go_wp2_with fail
        refine (reg_any _ _ _).mono ?_; rintro e w1 ⟨rfl, rfl⟩
        rw [ha]
        go_wp2_with fail
        refine (reg_any _ _ _).mono ?_; rintro e w1 ⟨rfl, rfl⟩
        rw [hb]
        go_wp2_with fail
        all_goals
          go_ret
          exact ⟨ret_bool_iff (by rw [HV.out]; (try simp only [beq_iff_eq, beq_eq_false_iff_ne, ne_eq] at *); first | (simp; done) | (simp; omega)), HB.out _⟩
  · have hright := Lib.hid (right_none h0)
    go_enter Tryz.func69, Tryz.ntmps69
    go_wp2_with fail
    refine (refForm_any _ _).mono ?_; rintro e w1 ⟨rfl, rfl⟩
    go_wp2_with fail
    refine (has_any _ _).mono ?_; rintro e w1 ⟨rfl, rfl⟩
    go_wp2_with fail
    go_ret
    exact ⟨ret_bool hright.out.symm, HB.out _⟩
end Go.Proofs.YteagglddgkjkmaaGreat.Words

/- Contracts of isa.Encode and of the document's own: the word of an instruction, and whether there is one. No conditions. -/
namespace Go.Proofs.YteagglddgkjkmaaGreat.Words
set_option maxRecDepth 100000
open Go.RowKit

end Go.Proofs.YteagglddgkjkmaaGreat.Words

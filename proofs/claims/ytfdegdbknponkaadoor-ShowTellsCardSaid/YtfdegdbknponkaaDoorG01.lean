/- Several texts in one: IsaMath, Base, PData, AsmMath, AsmSay, SayWords, LexTabs. -/
import Derived.WalkKit
import Derived.Laws.BitsAllLaws
import Derived.WalkSpells
import Derived.WalkLawsBesides
import Derived.Lib.Hide
import Derived.Deep.QuietTactic
import Derived.BigQuiet
import Derived.Test.YtfdegdbknponkaaDoorG00
import Derived.Test.YtfdegdbknponkaaDoorShelf
import Derived.Lib.OthersKept

/- Plain mathematics of chapter 2: forms of operations, which instructions may be, the word of an instruction and the instruction of a word. Nothing here speaks of one program. -/
namespace Go.Proofs.YtfdegdbknponkaaDoor.Words
set_option maxRecDepth 100000
open Go.RowKit

/-- An instruction's five numbers. -/
structure Ins where
  op : Int
  d : Int
  a : Int
  b : Int
  imm : Int
deriving DecidableEq

theorem Ins.eq_iff (i k : Ins) : i = k ↔ i.op = k.op ∧ i.d = k.d ∧ i.a = k.a ∧ i.b = k.b ∧ i.imm = k.imm := by
  cases i; cases k; simp
/-- Its numbers are of Go's int. -/
def Ins.Fits (i : Ins) : Prop :=
  (-9223372036854775808 ≤ i.op ∧ i.op ≤ 9223372036854775807) ∧ (-9223372036854775808 ≤ i.d ∧ i.d ≤ 9223372036854775807) ∧ (-9223372036854775808 ≤ i.a ∧ i.a ≤ 9223372036854775807) ∧
  (-9223372036854775808 ≤ i.b ∧ i.b ≤ 9223372036854775807) ∧ (-9223372036854775808 ≤ i.imm ∧ i.imm ≤ 9223372036854775807)

/-- The form of an operation. -/
def formZ (op : Int) : Int :=
  if op < 1 ∨ 41 < op then 0 else if op ≤ 16 then 1 else if op ≤ 24 then 2 else if op = 25 then 3 else if op ≤ 30 then 4 else if op ≤ 33 then 5 else if op ≤ 39 then 6 else if op = 40 then 7 else 8
theorem formZ_cases (op : Int) : (formZ op = 0 ∧ (op < 1 ∨ 41 < op)) ∨ (formZ op = 1 ∧ 1 ≤ op ∧ op ≤ 16) ∨ (formZ op = 2 ∧ 17 ≤ op ∧ op ≤ 24) ∨ (formZ op = 3 ∧ op = 25) ∨ (formZ op = 4 ∧ 26 ≤ op ∧ op ≤ 30) ∨
    (formZ op = 5 ∧ 31 ≤ op ∧ op ≤ 33) ∨ (formZ op = 6 ∧ 34 ≤ op ∧ op ≤ 39) ∨ (formZ op = 7 ∧ op = 40) ∨ (formZ op = 8 ∧ op = 41) := by
  unfold formZ; repeat' split
  all_goals omega
theorem formZ_range (op : Int) : 0 ≤ formZ op ∧ formZ op ≤ 8 := by
  have := formZ_cases op; omega

def hasD (f : Int) : Bool := decide (f = 1 ∨ f = 2 ∨ f = 3 ∨ f = 4)
def hasA (f : Int) : Bool := decide (f = 1 ∨ f = 2 ∨ f = 4 ∨ f = 5 ∨ f = 6)
def hasB (f : Int) : Bool := decide (f = 1 ∨ f = 5 ∨ f = 6)
def hasI (f : Int) : Bool := decide (f = 2 ∨ f = 3 ∨ f = 4 ∨ f = 5 ∨ f = 6 ∨ f = 7)
def lowI (op : Int) : Int := if op = 22 ∨ op = 23 ∨ op = 24 then 0 else -8192
def highI (op : Int) : Int := if op = 22 ∨ op = 23 ∨ op = 24 then 31 else 8191
theorem lowI_cases (op : Int) : (lowI op = 0 ∧ highI op = 31 ∧ 22 ≤ op ∧ op ≤ 24) ∨ (lowI op = -8192 ∧ highI op = 8191 ∧ (op < 22 ∨ 24 < op)) := by
  unfold lowI highI; split <;> omega
/-- May a field be that? -/
def fitsB (n lo hi : Int) (had : Bool) : Bool := if had = true then decide (lo ≤ n ∧ n ≤ hi) else decide (n = 0)
theorem fitsB_yes (n lo hi : Int) : fitsB n lo hi true = true ↔ lo ≤ n ∧ n ≤ hi := by unfold fitsB; simp
theorem fitsB_no (n lo hi : Int) : fitsB n lo hi false = true ↔ n = 0 := by unfold fitsB; simp

/-- May the instruction be? -/
def rightB (i : Ins) : Bool :=
  decide (formZ i.op ≠ 0) && fitsB i.d 0 15 (hasD (formZ i.op)) && fitsB i.a 0 15 (hasA (formZ i.op)) && fitsB i.b 0 15 (hasB (formZ i.op)) && fitsB i.imm (lowI i.op) (highI i.op) (hasI (formZ i.op))

/-- What is right, form by form. -/
theorem rightB_iff (i : Ins) : rightB i = true ↔
    (1 ≤ i.op ∧ i.op ≤ 41) ∧
    (if 1 ≤ i.op ∧ i.op ≤ 30 then 0 ≤ i.d ∧ i.d ≤ 15 else i.d = 0) ∧
    (if (1 ≤ i.op ∧ i.op ≤ 24) ∨ (26 ≤ i.op ∧ i.op ≤ 39) then 0 ≤ i.a ∧ i.a ≤ 15 else i.a = 0) ∧
    (if (1 ≤ i.op ∧ i.op ≤ 16) ∨ (31 ≤ i.op ∧ i.op ≤ 39) then 0 ≤ i.b ∧ i.b ≤ 15 else i.b = 0) ∧
    (if 17 ≤ i.op ∧ i.op ≤ 40 then lowI i.op ≤ i.imm ∧ i.imm ≤ highI i.op else i.imm = 0) := by
  have hd : fitsB i.d 0 15 (hasD (formZ i.op)) = true ↔ (if formZ i.op = 1 ∨ formZ i.op = 2 ∨ formZ i.op = 3 ∨ formZ i.op = 4 then 0 ≤ i.d ∧ i.d ≤ 15 else i.d = 0) := by
    unfold hasD; split <;> simp [fitsB, *]
  have ha : fitsB i.a 0 15 (hasA (formZ i.op)) = true ↔ (if formZ i.op = 1 ∨ formZ i.op = 2 ∨ formZ i.op = 4 ∨ formZ i.op = 5 ∨ formZ i.op = 6 then 0 ≤ i.a ∧ i.a ≤ 15 else i.a = 0) := by
    unfold hasA; split <;> simp [fitsB, *]
  have hb : fitsB i.b 0 15 (hasB (formZ i.op)) = true ↔ (if formZ i.op = 1 ∨ formZ i.op = 5 ∨ formZ i.op = 6 then 0 ≤ i.b ∧ i.b ≤ 15 else i.b = 0) := by
    unfold hasB; split <;> simp [fitsB, *]
  have hi : fitsB i.imm (lowI i.op) (highI i.op) (hasI (formZ i.op)) = true ↔ (if formZ i.op = 2 ∨ formZ i.op = 3 ∨ formZ i.op = 4 ∨ formZ i.op = 5 ∨ formZ i.op = 6 ∨ formZ i.op = 7 then lowI i.op ≤ i.imm ∧ i.imm ≤ highI i.op else i.imm = 0) := by
    unfold hasI; split <;> simp [fitsB, *]
  have c := formZ_cases i.op
  have hd' : (formZ i.op = 1 ∨ formZ i.op = 2 ∨ formZ i.op = 3 ∨ formZ i.op = 4) ↔ (1 ≤ i.op ∧ i.op ≤ 30) := by omega
  have ha' : (formZ i.op = 1 ∨ formZ i.op = 2 ∨ formZ i.op = 4 ∨ formZ i.op = 5 ∨ formZ i.op = 6) ↔ ((1 ≤ i.op ∧ i.op ≤ 24) ∨ (26 ≤ i.op ∧ i.op ≤ 39)) := by omega
  have hb' : (formZ i.op = 1 ∨ formZ i.op = 5 ∨ formZ i.op = 6) ↔ ((1 ≤ i.op ∧ i.op ≤ 16) ∨ (31 ≤ i.op ∧ i.op ≤ 39)) := by omega
  have hi' : (formZ i.op = 2 ∨ formZ i.op = 3 ∨ formZ i.op = 4 ∨ formZ i.op = 5 ∨ formZ i.op = 6 ∨ formZ i.op = 7) ↔ (17 ≤ i.op ∧ i.op ≤ 40) := by omega
  have h0' : (formZ i.op ≠ 0) ↔ (1 ≤ i.op ∧ i.op ≤ 41) := by omega
  simp only [hd', ha', hb', hi'] at hd ha hb hi
  unfold rightB
  rw [Bool.and_eq_true, Bool.and_eq_true, Bool.and_eq_true, Bool.and_eq_true, hd, ha, hb, hi, decide_eq_true_iff, h0', and_assoc, and_assoc, and_assoc]

theorem right_range {i : Ins} (h : rightB i = true) : (1 ≤ i.op ∧ i.op ≤ 41) ∧ (0 ≤ i.d ∧ i.d ≤ 15) ∧ (0 ≤ i.a ∧ i.a ≤ 15) ∧ (0 ≤ i.b ∧ i.b ≤ 15) ∧ (-8192 ≤ i.imm ∧ i.imm ≤ 8191) := by
  rw [rightB_iff] at h
  have := lowI_cases i.op
  obtain ⟨h0, h1, h2, h3, h4⟩ := h
  refine ⟨h0, ?_, ?_, ?_, ?_⟩
  · split at h1 <;> omega
  · split at h2 <;> omega
  · split at h3 <;> omega
  · split at h4 <;> omega

/-- The word of an instruction that is right. -/
def encZ (i : Ins) : Int := i.op * 67108864 + i.d * 4194304 + i.a * 262144 + i.b * 16384 + i.imm % 16384
theorem enc_range {i : Ins} (h : rightB i = true) : 0 ≤ encZ i ∧ encZ i ≤ 4294967295 := by
  have := right_range h; unfold encZ; omega
/-- What Encode tells. -/
def encV (i : Ins) : Int := if rightB i = true then encZ i else 0
theorem encV_yes {i : Ins} (h : rightB i = true) : encV i = encZ i := by unfold encV; rw [if_pos h]
theorem encV_no {i : Ins} (h : rightB i = false) : encV i = 0 := by unfold encV; rw [if_neg (by simp [h])]
theorem encV_range (i : Ins) : 0 ≤ encV i ∧ encV i ≤ 4294967295 := by
  unfold encV; split
  · exact enc_range ‹_›
  · omega

/-- 14 bits as a number with a sign. -/
def sgn14 (n : Int) : Int := if 8192 ≤ n then n - 16384 else n
theorem sgn14_cases (n : Int) : (sgn14 n = n ∧ n ≤ 8191) ∨ (sgn14 n = n - 16384 ∧ 8192 ≤ n) := by unfold sgn14; split <;> omega
/-- A word's fields. -/
def fieldsZ (w : Int) : Ins := ⟨w / 67108864, w / 4194304 % 16, w / 262144 % 16, w / 16384 % 16, sgn14 (w % 16384)⟩
theorem enc_fields (w : Int) : encZ (fieldsZ w) = w := by
  have := sgn14_cases (w % 16384)
  unfold encZ fieldsZ
  simp only
  omega
theorem fields_enc {i : Ins} (h : rightB i = true) : fieldsZ (encZ i) = i := by
  have hr := right_range h
  have hs := sgn14_cases (encZ i % 16384)
  rw [Ins.eq_iff]
  unfold fieldsZ
  simp only
  unfold encZ at *
  omega
def noIns : Ins := ⟨0, 0, 0, 0, 0⟩
/-- What Decode tells. -/
def decB (w : Int) : Bool := rightB (fieldsZ w)
def decZ (w : Int) : Ins := if decB w = true then fieldsZ w else noIns
theorem decZ_yes {w : Int} (h : decB w = true) : decZ w = fieldsZ w := by unfold decZ; rw [if_pos h]
theorem decZ_no {w : Int} (h : decB w = false) : decZ w = noIns := by unfold decZ; rw [if_neg (by simp [h])]
theorem dec_enc {i : Ins} (h : rightB i = true) : decB (encZ i) = true ∧ decZ (encZ i) = i := by
  have e := fields_enc h
  have hb : decB (encZ i) = true := by unfold decB; rw [e]; exact h
  exact ⟨hb, by rw [decZ_yes hb, e]⟩
theorem enc_inj {i k : Ins} (hi : rightB i = true) (hk : rightB k = true) : encZ i = encZ k ↔ i = k :=
  ⟨fun h => by rw [← fields_enc hi, ← fields_enc hk, h], fun h => by rw [h]⟩

/-- The registers that an instruction reads. -/
def readsZ (i : Ins) : List Int := if rightB i = true then (if i.a = 0 then [] else [i.a]) ++ (if i.b = 0 then [] else [i.b]) else []
theorem readsZ_no {i : Ins} (h : rightB i = false) : readsZ i = [] := by unfold readsZ; rw [if_neg (by simp [h])]
theorem readsZ_yes {i : Ins} (h : rightB i = true) : readsZ i = (if i.a = 0 then [] else [i.a]) ++ (if i.b = 0 then [] else [i.b]) := by unfold readsZ; rw [if_pos h]
def writesZ (i : Ins) : Int := if rightB i = true then i.d else 0
theorem writesZ_no {i : Ins} (h : rightB i = false) : writesZ i = 0 := by unfold writesZ; rw [if_neg (by simp [h])]
theorem writesZ_yes {i : Ins} (h : rightB i = true) : writesZ i = i.d := by unfold writesZ; rw [if_pos h]

/-- Two words without a bit in common, one from bit i on, the other below it. -/
theorem or_low (i : Nat) (x y : Int) (hx0 : 0 ≤ x) (hx : x % 2 ^ i = 0) (hx1 : x < 4294967296) (hy0 : 0 ≤ y) (hy : y < 2 ^ i) (hi : i ≤ 32) : bits .or .u32 x y = x + y := by
  obtain ⟨a, rfl⟩ := Int.eq_ofNat_of_zero_le hx0
  obtain ⟨c, rfl⟩ := Int.eq_ofNat_of_zero_le hy0
  have hp : (2 : Nat) ^ i ≤ 2 ^ 32 := Nat.pow_le_pow_right (by omega) hi
  have hc : c < 2 ^ i := by exact_mod_cast hy
  have ha : a % 2 ^ i = 0 := by exact_mod_cast hx
  rw [u32_or_nat a c (by omega) (by simp at hp; omega), nat_join i a c ha hc]
  omega
theorem and_15 (x : Int) (h0 : 0 ≤ x) (h1 : x < 4294967296) : bits .and .u32 x 15 = x % 16 := by
  obtain ⟨a, rfl⟩ := Int.eq_ofNat_of_zero_le h0
  rw [show (15 : Int) = ((15 : Nat) : Int) from rfl, u32_and_nat a 15 (by omega) (by omega), nat_mask4]
  omega
theorem and_16383 (x : Int) (h0 : 0 ≤ x) (h1 : x < 4294967296) : bits .and .u32 x 16383 = x % 16384 := by
  obtain ⟨a, rfl⟩ := Int.eq_ofNat_of_zero_le h0
  rw [show (16383 : Int) = ((16383 : Nat) : Int) from rfl, u32_and_nat a 16383 (by omega) (by omega), show a &&& 16383 = a % 16384 from Nat.and_two_pow_sub_one_eq_mod a 14]
  omega
/-- The five parts of a word, put together one by one. -/
theorem or_parts (o d a b m : Int) (ho : 0 ≤ o ∧ o ≤ 63) (hd : 0 ≤ d ∧ d ≤ 15) (ha : 0 ≤ a ∧ a ≤ 15) (hb : 0 ≤ b ∧ b ≤ 15) (hm : 0 ≤ m ∧ m < 16384) :
    bits .or .u32 (bits .or .u32 (bits .or .u32 (bits .or .u32 (o * 67108864) (d * 4194304)) (a * 262144)) (b * 16384)) m = o * 67108864 + d * 4194304 + a * 262144 + b * 16384 + m := by
  rw [or_low 26 (o * 67108864) (d * 4194304) (by omega) (by simp only [Int.reducePow]; omega) (by omega) (by omega) (by simp only [Int.reducePow]; omega) (by omega),
    or_low 22 _ (a * 262144) (by omega) (by simp only [Int.reducePow]; omega) (by omega) (by omega) (by simp only [Int.reducePow]; omega) (by omega),
    or_low 18 _ (b * 16384) (by omega) (by simp only [Int.reducePow]; omega) (by omega) (by omega) (by simp only [Int.reducePow]; omega) (by omega),
    or_low 14 _ m (by omega) (by simp only [Int.reducePow]; omega) (by omega) (by omega) (by simp only [Int.reducePow]; omega) (by omega)]
/-- A word of which a bit was turned: it is a word, and another one. -/
theorem turned_ne (x bit : Int) (h0 : 0 ≤ x) (h1 : x ≤ 4294967295) (b0 : 0 ≤ bit) (b1 : bit ≤ 31) :
    0 ≤ bits .xor .u32 x (2 ^ bit.toNat % 4294967296) ∧ bits .xor .u32 x (2 ^ bit.toNat % 4294967296) ≤ 4294967295 ∧ bits .xor .u32 x (2 ^ bit.toNat % 4294967296) ≠ x := by
  obtain ⟨a, rfl⟩ := Int.eq_ofNat_of_zero_le h0
  obtain ⟨c, rfl⟩ := Int.eq_ofNat_of_zero_le b0
  have hp : (2 : Nat) ^ c ≤ 2 ^ 31 := Nat.pow_le_pow_right (by omega) (by omega)
  have hp' : 0 < (2 : Nat) ^ c := Nat.pow_pos (by omega)
  have e : (2 : Int) ^ ((c : Int).toNat) % 4294967296 = ((2 ^ c : Nat) : Int) := by
    rw [Int.toNat_natCast]
    have : ((2 : Int) ^ c) = ((2 ^ c : Nat) : Int) := by simp
    rw [this]; omega
  rw [e, u32_xor_nat a (2 ^ c) (by omega) (by omega)]
  have hx : a ^^^ 2 ^ c < 2 ^ 32 := Nat.xor_lt_two_pow (by omega) (by omega)
  refine ⟨by omega, by omega, fun h => ?_⟩
  have h' : a ^^^ 2 ^ c = a := by exact_mod_cast h
  have h2 : a ^^^ (a ^^^ 2 ^ c) = a ^^^ a := by rw [h']
  rw [← Nat.xor_assoc, Nat.xor_self, Nat.zero_xor] at h2
  omega
end Go.Proofs.YtfdegdbknponkaaDoor.Words

/- Plain lemmas for walks over slices: what a slice reads as ('Row'), kept over new blocks, draws and whatever turns nothing below a block number. Nothing here speaks of one program. -/
namespace Go.Proofs.YtfdegdbknponkaaDoor.Words
set_option maxRecDepth 100000
open Go.RowKit

/-- The slice value v has n elements of 'size' cells each; its cells are xs, and lie below block B. -/
def Row (w : World) (B size : Nat) (v : Value) (n : Nat) (xs : List Value) : Prop :=
  xs.length = n * size ∧ ∃ A c, v = .slice A n c ∧ n ≤ c ∧ c ≤ 9223372036854775807 ∧ (A = none → c = 0) ∧
    (n ≠ 0 → ∃ b off, A = some ⟨b, off, none⟩ ∧ b < B ∧ ∀ j u, xs[j]? = some u → w.cell? ⟨b, off + j, none⟩ = some u)

theorem add_spot (b off j : Nat) : (⟨b, off, none⟩ : Addr).add j = ⟨b, off + j, none⟩ := by
  unfold Addr.add
  split
  · subst_vars; rfl
  · rfl

section
variable {w w' : World} {B size : Nat} {v : Value} {n : Nat} {xs : List Value}
theorem Row.keep (h : Row w B size v n xs) (hk : ∀ p : Addr, p.block < B → w'.cell? p = w.cell? p) : Row w' B size v n xs := by
  obtain ⟨h0, A, c, h1, h2, h3, h4, h5⟩ := h
  refine ⟨h0, A, c, h1, h2, h3, h4, fun hn => ?_⟩
  obtain ⟨b, off, e, hb, hc⟩ := h5 hn
  exact ⟨b, off, e, hb, fun j u hu => (hk _ hb).trans (hc j u hu)⟩
theorem Row.more {B' : Nat} (h : Row w B size v n xs) (hB : B ≤ B') : Row w B' size v n xs := by
  obtain ⟨h0, A, c, h1, h2, h3, h4, h5⟩ := h
  refine ⟨h0, A, c, h1, h2, h3, h4, fun hn => ?_⟩
  obtain ⟨b, off, e, hb, hc⟩ := h5 hn
  exact ⟨b, off, e, Nat.lt_of_lt_of_le hb hB, hc⟩
theorem Row.below (h : Row w B size v n xs) (hb : Below B w w') : Row w' B size v n xs := h.keep fun _ hp => hb.cell hp
theorem Row.drewN (h : Row w B size v n xs) (k : Nat) : Row (w.drewN k) B size v n xs := h
theorem Row.drew (h : Row w B size v n xs) : Row w.drew B size v n xs := h
theorem Row.alloc (h : Row w B size v n xs) (hB : B ≤ w.heap.size) (o : Obj) : Row (w.alloc o) B size v n xs := h.keep fun p hp => World.cell?_alloc_lt w o p (by omega)
theorem Row.nil (w : World) (B size : Nat) : Row w B size (.slice none 0 0) 0 [] := ⟨by simp, none, 0, rfl, Nat.le_refl _, by omega, fun _ => rfl, fun h => absurd rfl h⟩
theorem Row.of_own {base : Nat} {e : TypeId} (h : w.ownsRow base e size v n xs) : Row w w.heap.size size v n xs := by
  refine ⟨h.1, ?_⟩
  rcases h.2 with ⟨rfl, rfl⟩ | ⟨g, cap, cur, rfl, hb, hg, h1, h2, h3, h4⟩
  · exact ⟨none, 0, rfl, Nat.le_refl _, by omega, fun _ => rfl, fun h => absurd rfl h⟩
  · refine ⟨_, _, rfl, h1, by simpa [maxLen] using h2, (fun h => by cases h), fun _ => ⟨g, 0, rfl, (Array.getElem?_eq_some_iff.1 hg).1, fun j u hu => ?_⟩⟩
    have := h.cells (g := g) rfl j u hu
    rwa [add_spot] at this
theorem Row.of_ints {k : IntKind} {x : Addr} {len cap : Nat} {zs : List Int} (hl : len ≤ cap) (hm : cap ≤ maxLen) (hz : zs.length = cap) (hc : ∀ i, i < zs.length → w.cell? (x.add i) = some (.int k (zs.getD i 0))) :
    Row w w.heap.size 1 (.slice (some x) len cap) len ((zs.take len).map (Value.int k)) := by
  refine ⟨by simp; omega, some x, cap, rfl, hl, by simpa [maxLen] using hm, (fun h => by cases h), fun hn => ?_⟩
  obtain ⟨b, off, spot⟩ := x
  have h0 := hc 0 (by omega)
  have hs : spot = none := by simpa [Addr.add] using World.cell?_spot h0
  subst hs
  refine ⟨b, off, rfl, ?_, fun j u hu => ?_⟩
  · rw [add_spot] at h0
    unfold World.cell? at h0
    rcases hh : w.heap[b]? with _ | o
    · simp [hh] at h0
    · exact (Array.getElem?_eq_some_iff.1 hh).1
  · have hj : j < len := by
      rw [List.getElem?_eq_some_iff] at hu
      obtain ⟨h, _⟩ := hu
      simp at h; omega
    have := hc j (by omega)
    rw [add_spot] at this
    rw [this, ← hu, List.getElem?_map, List.getElem?_take, if_pos hj, List.getD_eq_getElem?_getD, List.getElem?_eq_getElem (by omega)]
    rfl
theorem Row.cells {A : Option Addr} {c : Nat} (h : Row w B size (.slice A n c) n xs) : ∀ ad, A = some ad → ∀ j u, xs[j]? = some u → w.cell? (ad.add j) = some u := by
  obtain ⟨h0, A', c', h1, h2, h3, h4, h5⟩ := h
  injection h1 with e1 _ e2
  subst e1 e2
  intro ad had j u hu
  by_cases hn : n = 0
  · subst hn
    have : xs = [] := List.eq_nil_of_length_eq_zero (by simpa using h0)
    subst this
    simp at hu
  · obtain ⟨b, off, e, hb, hc⟩ := h5 hn
    rw [had] at e
    injection e with e
    subst e
    rw [add_spot]
    exact hc j u hu
theorem Row.bare {A : Option Addr} {c : Nat} (h : Row w B size (.slice A n c) n xs) : A = none → n = 0 ∧ c = 0 := by
  obtain ⟨h0, A', c', h1, h2, h3, h4, h5⟩ := h
  injection h1 with e1 _ e2
  subst e1 e2
  intro hA
  have := h4 hA
  exact ⟨by omega, this⟩
theorem Row.cap {A : Option Addr} {c : Nat} (h : Row w B size (.slice A n c) n xs) : n ≤ c ∧ c ≤ 9223372036854775807 := by
  obtain ⟨h0, A', c', h1, h2, h3, h4, h5⟩ := h
  injection h1 with e1 _ e2
  subst e1 e2
  exact ⟨h2, h3⟩
theorem Row.len {A : Option Addr} {c : Nat} (h : Row w B size (.slice A n c) n xs) : xs.length = n * size := h.1
theorem Row.form (h : Row w B size v n xs) : ∃ A c, v = .slice A n c := by
  obtain ⟨h0, A, c, h1, _⟩ := h
  exact ⟨A, c, h1⟩
/-- Its cells, where there is one. -/
theorem Row.at_ {A : Option Addr} {c : Nat} (h : Row w B size (.slice A n c) n xs) (hn : n ≠ 0) :
    ∃ b off, A = some ⟨b, off, none⟩ ∧ b < B ∧ ∀ j u, xs[j]? = some u → w.cell? ⟨b, off + j, none⟩ = some u := by
  obtain ⟨h0, A', c', h1, h2, h3, h4, h5⟩ := h
  injection h1 with e1 _ e2
  subst e1 e2
  exact h5 hn
end

/-- The cells of a block that was just laid. -/
theorem new_cells (w : World) (cs : Array Value) (t : TypeId) (xs : List Value) (h : cs.toList = xs) : ∀ j u, xs[j]? = some u → (w.alloc (.cells cs t)).cell? ((⟨w.heap.size, 0, none⟩ : Addr).add j) = some u := by
  intro j u hu
  subst h
  rw [add_spot, Nat.zero_add, World.cell?_alloc_new]
  simpa using hu
theorem own_ge {k b : Nat} : some k = some b → b ≤ k := fun h => by injection h with h; omega
theorem own_ge' {B : Nat} : ∀ k, some B = some k → B ≤ k := fun _ h => by injection h with h; omega
theorem Below.drewN_ {B : Nat} {a w : World} (h : Below B a w) (n : Nat) : Below B a (w.drewN n) := ⟨h.os, h.tape, h.output, h.size, h.block⟩
theorem ret_int {k : IntKind} {a b : Int} (h : a = b) : Ending.returned (.int k a) = .returned (.int k b) := by rw [h]
theorem ret_bool_iff {a b : Bool} (h : a = true ↔ b = true) : Ending.returned (.bool a) = .returned (.bool b) := by rw [Bool.eq_iff_iff.2 h]
theorem ret_bool {a b : Bool} (h : a = b) : Ending.returned (.bool a) = .returned (.bool b) := by rw [h]
/-- What was there reads as it did, and its marks. -/
theorem bcell {W w1 : World} (hb : Below W.heap.size W w1) : (∀ b o, b < W.heap.size → w1.cell? ⟨b, o, none⟩ = W.cell? ⟨b, o, none⟩) ∧ (∀ b o, b < W.heap.size → w1.frozen? ⟨b, o, none⟩ = W.frozen? ⟨b, o, none⟩) :=
  ⟨fun b o h => hb.cell (p := ⟨b, o, none⟩) h, fun b o h => hb.frozen (p := ⟨b, o, none⟩) h⟩
/-- What lay there before a new block and an append reads as it did. -/
theorem grown_cell {w1 w2 : World} {o : Obj} {row : Option Nat} (hg : (w1.alloc o).grownBy w2 row) {b : Nat} (j : Nat) (hb : b < w1.heap.size) (hr : some b ≠ row) : w2.cell? ⟨b, j, none⟩ = w1.cell? ⟨b, j, none⟩ := by
  have hblk := hg.block b (by simp; omega) hr
  rw [World.cell?_of_block (a := ⟨b, j, none⟩) hblk, World.cell?_alloc_lt _ _ _ hb]
theorem grown_size {w1 w2 : World} {o : Obj} {row : Option Nat} (hg : (w1.alloc o).grownBy w2 row) : w1.heap.size < w2.heap.size := by
  have := hg.size; simp at this; omega
theorem own_none {A c : Nat} : ∀ k, (Value.slice none A c).ownBlock = some k → False := fun k hk => by simp [Value.ownBlock] at hk
theorem own_not {A c b : Nat} : some b ≠ (Value.slice none A c).ownBlock := fun h => by simp [Value.ownBlock] at h
end Go.Proofs.YtfdegdbknponkaaDoor.Words

/- Programs as plain data: a program's value (two slices and a size), what its rows read as, cell by cell. Nothing here speaks of one program text. -/
namespace Go.Proofs.YtfdegdbknponkaaDoor.Words
set_option maxRecDepth 100000
open Go.RowKit

/-- The five cells of an instruction. -/
def insCells (i : Ins) : List Value := [.int .i64 i.op, .int .i64 i.d, .int .i64 i.a, .int .i64 i.b, .int .i64 i.imm]
/-- The cells of a list of instructions. -/
def codeCells (l : List Ins) : List Value := l.flatMap insCells
theorem codeCells_nil : codeCells [] = [] := rfl
theorem codeCells_cons (i : Ins) (l : List Ins) : codeCells (i :: l) = insCells i ++ codeCells l := by simp [codeCells]
theorem codeCells_append (l m : List Ins) : codeCells (l ++ m) = codeCells l ++ codeCells m := by simp [codeCells]
theorem codeCells_length (l : List Ins) : (codeCells l).length = l.length * 5 := by
  induction l with
  | nil => rfl
  | cons i l ih => rw [codeCells_cons, List.length_append, ih]; simp [insCells]; omega
theorem codeCells_at (l : List Ins) (k : Nat) (i : Ins) (h : l[k]? = some i) (j : Nat) (hj : j < 5) : (codeCells l)[k * 5 + j]? = (insCells i)[j]? := by
  induction l generalizing k with
  | nil => simp at h
  | cons x l ih =>
    rw [codeCells_cons]
    cases k with
    | zero =>
      simp at h; subst h
      rw [List.getElem?_append_left (by simp [insCells]; omega), Nat.zero_mul, Nat.zero_add]
    | succ k =>
      simp at h
      have h5 : (insCells x).length = 5 := rfl
      rw [List.getElem?_append_right (by omega), h5, show (k + 1) * 5 + j - 5 = k * 5 + j by omega]
      exact ih k h

/-- A program's plain data. -/
structure Prog where
  code : List Ins
  size : Int
  data : List Int
deriving DecidableEq
theorem Prog.eq_iff (p q : Prog) : p = q ↔ p.code = q.code ∧ p.size = q.size ∧ p.data = q.data := by cases p; cases q; simp
def Prog.Fits (p : Prog) : Prop :=
  (∀ i ∈ p.code, i.Fits) ∧ (-9223372036854775808 ≤ p.size ∧ p.size ≤ 9223372036854775807) ∧ (∀ b ∈ p.data, 0 ≤ b ∧ b ≤ 255)
/-- The two rows of a program's value. -/
structure ProgV (w : World) (B : Nat) (vc vd : Value) (p : Prog) : Prop where
  code : Row w B 5 vc p.code.length (codeCells p.code)
  data : Row w B 1 vd p.data.length (p.data.map (Value.int .u8))
section
variable {w w' : World} {B : Nat} {vc vd : Value} {p : Prog}
theorem ProgV.keep (h : ProgV w B vc vd p) (hk : ∀ a : Addr, a.block < B → w'.cell? a = w.cell? a) : ProgV w' B vc vd p := ⟨h.code.keep hk, h.data.keep hk⟩
theorem ProgV.more {B' : Nat} (h : ProgV w B vc vd p) (hB : B ≤ B') : ProgV w B' vc vd p := ⟨h.code.more hB, h.data.more hB⟩
theorem ProgV.below (h : ProgV w B vc vd p) (hb : Below B w w') : ProgV w' B vc vd p := ⟨h.code.below hb, h.data.below hb⟩
theorem ProgV.drewN (h : ProgV w B vc vd p) (k : Nat) : ProgV (w.drewN k) B vc vd p := ⟨h.code, h.data⟩
theorem ProgV.alloc (h : ProgV w B vc vd p) (hB : B ≤ w.heap.size) (o : Obj) : ProgV (w.alloc o) B vc vd p := ⟨h.code.alloc hB o, h.data.alloc hB o⟩
end
/-- The five cells of an instruction of a row. -/
theorem Row.ins {w : World} {B n c : Nat} {b off : Nat} {l : List Ins} (h : Row w B 5 (.slice (some ⟨b, off, none⟩) n c) n (codeCells l)) {k : Nat} {i : Ins} (hi : l[k]? = some i) :
    w.cell? ⟨b, off + k * 5, none⟩ = some (.int .i64 i.op) ∧ w.cell? ⟨b, off + k * 5 + 1, none⟩ = some (.int .i64 i.d) ∧ w.cell? ⟨b, off + k * 5 + 2, none⟩ = some (.int .i64 i.a) ∧
    w.cell? ⟨b, off + k * 5 + 3, none⟩ = some (.int .i64 i.b) ∧ w.cell? ⟨b, off + k * 5 + 4, none⟩ = some (.int .i64 i.imm) := by
  have g : ∀ j u, j < 5 → (insCells i)[j]? = some u → w.cell? ⟨b, off + k * 5 + j, none⟩ = some u := by
    intro j u hj hu
    have := h.cells ⟨b, off, none⟩ rfl (k * 5 + j) u ((codeCells_at l k i hi j hj).trans hu)
    rwa [add_spot, ← Nat.add_assoc] at this
  exact ⟨g 0 _ (by omega) rfl, g 1 _ (by omega) rfl, g 2 _ (by omega) rfl, g 3 _ (by omega) rfl, g 4 _ (by omega) rfl⟩

/-- Where an instruction leads to, below 0: nowhere in the code. -/
def isJump (i : Ins) : Bool := decide (34 ≤ i.op ∧ i.op ≤ 40)
def targetZ (n : Nat) (k : Nat) (i : Ins) : Int :=
  if isJump i = false ∨ i.imm < -8192 ∨ 8191 < i.imm ∨ (k : Int) + i.imm < 0 ∨ (n : Int) ≤ k + i.imm then -1 else k + i.imm
theorem isJump_form (i : Ins) : isJump i = true ↔ formZ i.op = 6 ∨ formZ i.op = 7 := by
  have := formZ_cases i.op
  unfold isJump; rw [decide_eq_true_iff]; omega
/-- Is some target not in the code? -/
def badTarget (n k : Nat) (i : Ins) : Bool := isJump i && decide (targetZ n k i < 0)
def targetsOk (n : Nat) : Nat → List Ins → Bool
  | _, [] => true
  | k, i :: l => !badTarget n k i && targetsOk n (k + 1) l
def Prog.targets (p : Prog) : Bool := targetsOk p.code.length 0 p.code
def Prog.right (p : Prog) : Bool :=
  decide (1 ≤ p.code.length ∧ p.code.length ≤ 2000 ∧ 0 ≤ p.size ∧ p.size ≤ 65536 ∧ (p.data.length : Int) ≤ p.size) && p.code.all rightB && p.targets
end Go.Proofs.YtfdegdbknponkaaDoor.Words

/- Programs of tokens: plain mathematics over lists of tokens. Nothing here speaks of one program text. -/
namespace Go.Proofs.YtfdegdbknponkaaDoor.Words
set_option maxRecDepth 100000
set_option linter.unusedVariables false

/-- The register of a name: byte by byte. -/
def regF (l : List UInt8) : Nat → Nat → Int → Option Int
  | 0, _, n => if 1 < l.length then some n else none
  | f + 1, p, n =>
    if p < l.length then
      (if p = 0 ∧ runeR (l.drop p) = 114 then regF l f (p + wideR (l.drop p)) n
       else if p = 0 ∨ runeR (l.drop p) < 48 ∨ 57 < runeR (l.drop p) ∨ (1 < p ∧ n = 0) then none
       else if 15 < n * 10 + (runeR (l.drop p) - 48) then none
       else regF l f (p + wideR (l.drop p)) (n * 10 + (runeR (l.drop p) - 48)))
    else if 1 < l.length then some n else none
def regZ (l : List UInt8) : Option Int := regF l l.length 0 0
theorem regF_range (l : List UInt8) : ∀ f p n k, 0 ≤ n → n ≤ 15 → regF l f p n = some k → 0 ≤ k ∧ k ≤ 15
  | 0, p, n, k, h0, h1, h => by unfold regF at h; split at h <;> simp at h; omega
  | f + 1, p, n, k, h0, h1, h => by
    unfold regF at h
    split at h
    · split at h
      · exact regF_range l f _ n k h0 h1 h
      · split at h
        · cases h
        · split at h
          · cases h
          · rename_i h2 h3 h4
            exact regF_range l f _ _ k (by omega) (by omega) h
    · split at h <;> simp at h; omega
theorem regZ_range {l : List UInt8} {k : Int} (h : regZ l = some k) : 0 ≤ k ∧ k ≤ 15 := regF_range l _ 0 0 k (Int.le_refl _) (by omega) h

/-- The operations' names. -/
def namesZ : List (List UInt8) := [[97, 100, 100], [115, 117, 98], [97, 110, 100], [111, 114], [120, 111, 114], [115, 108, 108], [115, 114, 108], [115, 114, 97], [115, 108, 116], [115, 108, 116, 117], [109, 117, 108], [109, 117, 108, 104], [100, 105, 118], [100, 105, 118, 117], [114, 101, 109], [114, 101, 109, 117], [97, 100, 100, 105], [97, 110, 100, 105], [111, 114, 105], [120, 111, 114, 105], [115, 108, 116, 105], [115, 108, 108, 105], [115, 114, 108, 105], [115, 114, 97, 105], [108, 117, 105], [108, 119], [108, 104], [108, 104, 117], [108, 98], [108, 98, 117], [115, 119], [115, 104], [115, 98], [98, 101, 113], [98, 110, 101], [98, 108, 116], [98, 103, 101], [98, 108, 116, 117], [98, 103, 101, 117], [106], [104, 97, 108, 116]]
def opF (t : List UInt8) : List (List UInt8) → Int → Int
  | [], _ => 0
  | n :: ns, i => if n = t then i + 1 else opF t ns (i + 1)
/-- The operation of a name; nought: of none. -/
def opZ (t : List UInt8) : Int := opF t namesZ 0
theorem opF_range (t : List UInt8) : ∀ ns i, 0 ≤ i → 0 ≤ opF t ns i ∧ opF t ns i ≤ i + ns.length
  | [], i, h => by unfold opF; simp; omega
  | n :: ns, i, h => by
    unfold opF
    have := opF_range t ns (i + 1) (by omega)
    split
    · simp; omega
    · simp; omega
theorem opZ_range (t : List UInt8) : 0 ≤ opZ t ∧ opZ t ≤ 41 := opF_range t namesZ 0 (Int.le_refl _)

/-- A label (1), an instruction (2), a size (3) or a byte (4), which begins at a byte. -/
structure PartZ where
  kind : Int
  at_ : Nat
  num : Int
  name : List UInt8
  ins : Ins
  target : Tok
deriving DecidableEq
abbrev tok0 : Tok := ⟨0, 0, 0, []⟩
abbrev ins0 : Ins := ⟨0, 0, 0, 0, 0⟩
def headAt (r : List Tok) (e : Nat) : Nat := match r with | t :: _ => t.at_ | [] => e
/-- The token that is next. -/
def nextT (r : List Tok) (e : Nat) : Tok := match r with | t :: _ => t | [] => ⟨0, 0, e, []⟩
def isS (t : Tok) (c : List UInt8) : Bool := decide (t.kind = 3 ∧ t.text = c)
def signT (c : List UInt8) : List Tok → Bool × List Tok
  | t :: ts => if isS t c = true then (true, ts) else (false, t :: ts)
  | [] => (false, [])
def immT : List Tok → Option Int × List Tok
  | t :: ts => if t.kind = 2 then (some t.num, ts) else (none, t :: ts)
  | [] => (none, [])
def regT : List Tok → Option Int × List Tok
  | t :: ts => match regZ t.text with | some n => (some n, ts) | none => (none, t :: ts)
  | [] => (none, [])
/-- What a rune of a shape stands for. -/
def fieldT (c : Int) (x : PartZ) (r : List Tok) : Bool × PartZ × List Tok :=
  if c = 68 then (match regT r with | (some n, ts) => (true, { x with ins := { x.ins with d := n } }, ts) | (none, ts) => (false, x, ts))
  else if c = 65 then (match regT r with | (some n, ts) => (true, { x with ins := { x.ins with a := n } }, ts) | (none, ts) => (false, x, ts))
  else if c = 66 then (match regT r with | (some n, ts) => (true, { x with ins := { x.ins with b := n } }, ts) | (none, ts) => (false, x, ts))
  else if c = 78 then (match immT r with | (some n, ts) => (true, { x with ins := { x.ins with imm := n } }, ts) | (none, ts) => (false, x, ts))
  else if c = 84 then (match r with
    | t :: ts => if t.kind = 1 then (true, { x with target := t }, ts) else (match immT (t :: ts) with | (some n, ts) => (true, { x with ins := { x.ins with imm := n } }, ts) | (none, ts) => (false, x, ts))
    | [] => (false, x, []))
  else ((signT [UInt8.ofNat c.toNat] r).1, x, (signT [UInt8.ofNat c.toNat] r).2)
def fieldsT : List UInt8 → PartZ → List Tok → Bool × PartZ × List Tok
  | [], x, r => (true, x, r)
  | c :: cs, x, r => if (fieldT c.toNat x r).1 = true then fieldsT cs (fieldT c.toNat x r).2.1 (fieldT c.toNat x r).2.2 else fieldT c.toNat x r
/-- What stands behind an operation's name. -/
def shapesZ : List (List UInt8) := [[], [68, 44, 65, 44, 66], [68, 44, 65, 44, 78], [68, 44, 78], [68, 44, 78, 40, 65, 41], [66, 44, 78, 40, 65, 41], [65, 44, 66, 44, 84], [84], []]
def shapeZ (op : Int) : List UInt8 := shapesZ.getD (formZ op).toNat []
def insT (op : Int) (at_ : Nat) (r : List Tok) : Bool × List Tok × List PartZ :=
  if (fieldsT (shapeZ op) ⟨2, at_, 0, [], ⟨op, 0, 0, 0, 0⟩, tok0⟩ r).1 = true then
    (true, (fieldsT (shapeZ op) ⟨2, at_, 0, [], ⟨op, 0, 0, 0, 0⟩, tok0⟩ r).2.2, [(fieldsT (shapeZ op) ⟨2, at_, 0, [], ⟨op, 0, 0, 0, 0⟩, tok0⟩ r).2.1])
  else (false, (fieldsT (shapeZ op) ⟨2, at_, 0, [], ⟨op, 0, 0, 0, 0⟩, tok0⟩ r).2.2, [])
def numT (kind : Int) : List Tok → Bool × List Tok × List PartZ
  | t :: ts => if t.kind = 2 then (true, ts, [⟨kind, t.at_, t.num, [], ins0, tok0⟩]) else (false, t :: ts, [])
  | [] => (false, [], [])
def byteF : Nat → Bool → List Tok → Bool × List Tok × List PartZ
  | 0, ok, r => (ok, r, [])
  | f + 1, ok, r =>
    if ok = true then
      (if (signT [44] r).1 = true then
        ((byteF f (numT 4 (signT [44] r).2).1 (numT 4 (signT [44] r).2).2.1).1, (byteF f (numT 4 (signT [44] r).2).1 (numT 4 (signT [44] r).2).2.1).2.1,
          (numT 4 (signT [44] r).2).2.2 ++ (byteF f (numT 4 (signT [44] r).2).1 (numT 4 (signT [44] r).2).2.1).2.2)
       else (true, r, []))
    else (false, r, [])
def bytesT (r : List Tok) : Bool × List Tok × List PartZ :=
  ((byteF r.length (numT 4 r).1 (numT 4 r).2.1).1, (byteF r.length (numT 4 r).1 (numT 4 r).2.1).2.1, (numT 4 r).2.2 ++ (byteF r.length (numT 4 r).1 (numT 4 r).2.1).2.2)
/-- A label, if one is next. -/
def labelT : List Tok → Option (PartZ × List Tok)
  | n :: c :: ts => if n.kind = 1 ∧ isS c [58] = true then some (⟨1, n.at_, 0, n.text, ins0, tok0⟩, ts) else none
  | _ => none
def labelsF : Nat → List Tok → List Tok × List PartZ
  | 0, r => (r, [])
  | f + 1, r => match labelT r with
    | some (p, ts) => ((labelsF f ts).1, p :: (labelsF f ts).2)
    | none => (r, [])
def sizeN : List UInt8 := [115, 105, 122, 101]
def byteN : List UInt8 := [98, 121, 116, 101]
/-- What a line has behind its labels. -/
def stmtT : List Tok → Bool × List Tok × List PartZ
  | t :: ts =>
    if t.kind ≠ 1 then (true, t :: ts, [])
    else if 0 < opZ t.text then insT (opZ t.text) t.at_ ts
    else if t.text = sizeN then numT 3 ts
    else if t.text = byteN then bytesT ts
    else (false, t :: ts, [])
  | [] => (true, [], [])
def endT : List Tok → Bool × List Tok
  | t :: ts => if t.kind = 4 then (true, ts) else (false, t :: ts)
  | [] => (true, [])
def lineT (r : List Tok) : Bool × List Tok × List PartZ :=
  if (stmtT (labelsF r.length r).1).1 = true then
    ((endT (stmtT (labelsF r.length r).1).2.1).1, (endT (stmtT (labelsF r.length r).1).2.1).2, (labelsF r.length r).2 ++ (stmtT (labelsF r.length r).1).2.2)
  else (false, (stmtT (labelsF r.length r).1).2.1, (labelsF r.length r).2 ++ (stmtT (labelsF r.length r).1).2.2)
def textF : Nat → List Tok → Bool × List Tok × List PartZ
  | 0, r => (true, r, [])
  | f + 1, r =>
    if r = [] then (true, [], [])
    else if (lineT r).1 = true then ((textF f (lineT r).2.1).1, (textF f (lineT r).2.1).2.1, (lineT r).2.2 ++ (textF f (lineT r).2.1).2.2)
    else lineT r
/-- The parts of a text's tokens; or what is left where the first one does not fit. -/
def textT (r : List Tok) : Bool × List Tok × List PartZ := textF r.length r

/-- The place of a label that is there first. -/
def placeF (name : List UInt8) : List PartZ → Int → Option Int
  | [], _ => none
  | x :: xs, n => if x.kind = 1 ∧ x.name = name then some n else placeF name xs (if x.kind = 2 then n + 1 else n)
/-- Is there a label of that name? -/
def hasL (name : List UInt8) (l : List PartZ) : Bool := l.any (fun y => decide (y.kind = 1 ∧ y.name = name))
inductive AsmR where
  | ok (p : Prog)
  | bad (at_ : Nat) (e : Int)
deriving DecidableEq
/-- An instruction, its label's place reckoned. -/
def aimZ (all : List PartZ) (x : PartZ) (n : Nat) : Option Ins :=
  if x.target.kind = 1 then (match placeF x.target.text all 0 with | some k => some { x.ins with imm := k - n } | none => none) else some x.ins
/-- Part by part. -/
def layF (all : List PartZ) : List PartZ → List PartZ → Prog → AsmR
  | _, [], p => .ok p
  | pre, x :: xs, p =>
    if x.kind = 1 then (if hasL x.name pre = true then .bad x.at_ 6 else layF all (pre ++ [x]) xs p)
    else if x.kind = 3 then layF all (pre ++ [x]) xs { p with size := x.num }
    else if x.kind = 4 then (if x.num < 0 ∨ 255 < x.num then .bad x.at_ 8 else layF all (pre ++ [x]) xs { p with data := p.data ++ [x.num] })
    else if x.kind = 2 then (match aimZ all x p.code.length with
      | none => .bad x.target.at_ 6
      | some i => if rightB i = true then layF all (pre ++ [x]) xs { p with code := p.code ++ [i] } else .bad x.at_ 8)
    else layF all (pre ++ [x]) xs p
end Go.Proofs.YtfdegdbknponkaaDoor.Words

/- Programs of lines: the tokens of each line, and what program they are, wherever they stand. Plain mathematics. -/
namespace Go.Proofs.YtfdegdbknponkaaDoor.Words
set_option maxRecDepth 100000
set_option linter.unusedVariables false
set_option linter.unusedSimpArgs false
open Go.Lib

abbrev kN (t : List UInt8) : Key := ⟨1, 0, t⟩
abbrev kI (n : Int) : Key := ⟨2, n, []⟩
abbrev kS (c : UInt8) : Key := ⟨3, 0, [c]⟩
abbrev k4 : Key := ⟨4, 0, [10]⟩
/-- A register's name, an operation's name. -/
def regN (d : Int) : List UInt8 := 114 :: digs 10 false d.toNat
def nameN (op : Int) : List UInt8 := namesZ.getD (op - 1).toNat []
theorem regN_all : ((List.range 16).all fun d => decide (regZ (regN (d : Int)) = some (d : Int))) = true := by decide +kernel
theorem regN_reg {d : Int} (h : 0 ≤ d ∧ d ≤ 15) : regZ (regN d) = some d := by
  have := List.all_eq_true.1 regN_all d.toNat (List.mem_range.2 (by omega))
  rw [decide_eq_true_eq, show ((d.toNat : Nat) : Int) = d by omega] at this
  exact this
theorem nameN_all : ((List.range 42).all fun op => decide (op = 0) || decide (opZ (nameN (op : Int)) = (op : Int))) = true := by decide +kernel
theorem nameN_op {op : Int} (h : 1 ≤ op ∧ op ≤ 41) : opZ (nameN op) = op := by
  have := List.all_eq_true.1 nameN_all op.toNat (List.mem_range.2 (by omega))
  rw [Bool.or_eq_true, decide_eq_true_eq, decide_eq_true_eq, show ((op.toNat : Nat) : Int) = op by omega] at this
  rcases this with this | this
  · omega
  · exact this

inductive Stm where
  | none
  | size (n : Int)
  | bytes (n : Int) (ns : List Int)
  | ins (i : Ins) (t : List UInt8)
structure Ln where
  labs : List (List UInt8)
  stm : Stm
def tgtK (i : Ins) (t : List UInt8) : Key := if t = [] then kI i.imm else kN t
def insKeys (i : Ins) (t : List UInt8) : List Key :=
  if formZ i.op = 1 then [kN (regN i.d), kS 44, kN (regN i.a), kS 44, kN (regN i.b)]
  else if formZ i.op = 2 then [kN (regN i.d), kS 44, kN (regN i.a), kS 44, kI i.imm]
  else if formZ i.op = 3 then [kN (regN i.d), kS 44, kI i.imm]
  else if formZ i.op = 4 then [kN (regN i.d), kS 44, kI i.imm, kS 40, kN (regN i.a), kS 41]
  else if formZ i.op = 5 then [kN (regN i.b), kS 44, kI i.imm, kS 40, kN (regN i.a), kS 41]
  else if formZ i.op = 6 then [kN (regN i.a), kS 44, kN (regN i.b), kS 44, tgtK i t]
  else if formZ i.op = 7 then [tgtK i t]
  else []
def byteKeys (ns : List Int) : List Key := ns.flatMap fun m => [kS 44, kI m]
def stmKeys : Stm → List Key
  | .none => []
  | .size n => [kN sizeN, kI n]
  | .bytes n ns => kN byteN :: kI n :: byteKeys ns
  | .ins i t => kN (nameN i.op) :: insKeys i t
def labKeys (l : List (List UInt8)) : List Key := l.flatMap fun t => [kN t, kS 58]
def lnKeys (L : Ln) : List Key := labKeys L.labs ++ stmKeys L.stm
/-- An instruction with all its fields right, but for its label's place. -/
structure InsOk (i : Ins) (t : List UInt8) : Prop where
  right : rightB i = true
  tgt : t ≠ [] → (formZ i.op = 6 ∨ formZ i.op = 7) ∧ i.imm = 0
def StmOk : Stm → Prop
  | .ins i t => InsOk i t
  | _ => True
def LnOk (L : Ln) : Prop := StmOk L.stm ∧ lnKeys L ≠ []
structure PartK where
  kind : Int
  num : Int
  name : List UInt8
  ins : Ins
  target : Key
deriving DecidableEq
def partK (x : PartZ) : PartK := ⟨x.kind, x.num, x.name, x.ins, keyK x.target⟩
abbrev key0 : Key := ⟨0, 0, []⟩
def stmParts : Stm → List PartK
  | .none => []
  | .size n => [⟨3, n, [], ins0, key0⟩]
  | .bytes n ns => ⟨4, n, [], ins0, key0⟩ :: ns.map fun m => ⟨4, m, [], ins0, key0⟩
  | .ins i t => [⟨2, 0, [], i, if t = [] then key0 else kN t⟩]
def labParts (l : List (List UInt8)) : List PartK := l.map fun t => ⟨1, 0, t, ins0, key0⟩
def lnParts (L : Ln) : List PartK := labParts L.labs ++ stmParts L.stm

theorem keys_cons {T : List Tok} {k : Key} {ks : List Key} (h : T.map keyK = k :: ks) : ∃ t T', T = t :: T' ∧ keyK t = k ∧ T'.map keyK = ks := by
  cases T with
  | nil => cases h
  | cons t T' =>
    rw [List.map_cons] at h
    injection h with h1 h2
    exact ⟨t, T', rfl, h1, h2⟩
theorem keys_nil {T : List Tok} (h : T.map keyK = []) : T = [] := List.map_eq_nil_iff.1 h
theorem keys_append {T : List Tok} {a b : List Key} (h : T.map keyK = a ++ b) : ∃ A B, T = A ++ B ∧ A.map keyK = a ∧ B.map keyK = b := by
  obtain ⟨A, B, h1, h2, h3⟩ := List.map_eq_append_iff.1 h
  exact ⟨A, B, h1, h2, h3⟩
theorem key_N {t : Tok} {x : List UInt8} (h : keyK t = kN x) : t.kind = 1 ∧ t.text = x := by
  unfold keyK at h
  injection h with h1 h2 h3
  rw [if_neg (by omega)] at h3
  exact ⟨h1, h3⟩
theorem key_I {t : Tok} {n : Int} (h : keyK t = kI n) : t.kind = 2 ∧ t.num = n := by
  unfold keyK at h
  injection h with h1 h2 h3
  exact ⟨h1, h2⟩
theorem key_S {t : Tok} {c : UInt8} (h : keyK t = kS c) : t.kind = 3 ∧ t.text = [c] := by
  unfold keyK at h
  injection h with h1 h2 h3
  rw [if_neg (by omega)] at h3
  exact ⟨h1, h3⟩
theorem key_4 {t : Tok} (h : keyK t = k4) : t.kind = 4 := by
  unfold keyK at h
  injection h
theorem isS_of {t : Tok} {c : UInt8} (h : keyK t = kS c) : isS t [c] = true := by
  obtain ⟨h1, h2⟩ := key_S h
  unfold isS; simp [h1, h2]
theorem byteKeys_len (ns : List Int) : (byteKeys ns).length = 2 * ns.length := by
  induction ns with
  | nil => rfl
  | cons n ns ih => have e : byteKeys (n :: ns) = kS 44 :: kI n :: byteKeys ns := by simp [byteKeys]
                    rw [e, List.length_cons, List.length_cons, ih, List.length_cons]; omega
theorem labKeys_len (l : List (List UInt8)) : (labKeys l).length = 2 * l.length := by
  induction l with
  | nil => rfl
  | cons t l ih => have e : labKeys (t :: l) = kN t :: kS 58 :: labKeys l := by simp [labKeys]
                   rw [e, List.length_cons, List.length_cons, ih, List.length_cons]; omega
/-! ### fields -/
theorem regT_kc (t : Tok) (r : List Tok) : regT (t :: r) = match regZ t.text with | some n => (some n, r) | none => (none, t :: r) := rfl
theorem immT_kc (t : Tok) (r : List Tok) : immT (t :: r) = if t.kind = 2 then (some t.num, r) else (none, t :: r) := rfl
theorem signT_kc (c : List UInt8) (t : Tok) (r : List Tok) : signT c (t :: r) = if isS t c = true then (true, r) else (false, t :: r) := rfl
theorem numT_kc (k : Int) (t : Tok) (r : List Tok) : numT k (t :: r) = if t.kind = 2 then (true, r, [⟨k, t.at_, t.num, [], ins0, tok0⟩]) else (false, t :: r, []) := rfl
theorem endT_kc (t : Tok) (r : List Tok) : endT (t :: r) = if t.kind = 4 then (true, r) else (false, t :: r) := rfl
theorem labelT_kc (n c : Tok) (ts : List Tok) : labelT (n :: c :: ts) = if n.kind = 1 ∧ isS c [58] = true then some (⟨1, n.at_, 0, n.text, ins0, tok0⟩, ts) else none := rfl
section
variable {x : PartZ} {t : Tok} {r : List Tok} {cs : List UInt8}
theorem regT_of {n : Int} (h : keyK t = kN (regN n)) (hn : 0 ≤ n ∧ n ≤ 15) : regT (t :: r) = (some n, r) := by
  obtain ⟨h1, h2⟩ := key_N h
  rw [regT_kc, h2, regN_reg hn]
theorem immT_of {n : Int} (h : keyK t = kI n) : immT (t :: r) = (some n, r) := by
  obtain ⟨h1, h2⟩ := key_I h
  rw [immT_kc, if_pos h1, h2]
theorem f_d {n : Int} (h : keyK t = kN (regN n)) (hn : 0 ≤ n ∧ n ≤ 15) : fieldsT (68 :: cs) x (t :: r) = fieldsT cs { x with ins := { x.ins with d := n } } r := by
  have : fieldT ((68 : UInt8).toNat : Int) x (t :: r) = (true, { x with ins := { x.ins with d := n } }, r) := by
    unfold fieldT; rw [if_pos (by decide), regT_of h hn]
  conv => lhs; unfold fieldsT
  rw [this, if_pos rfl]
theorem f_a {n : Int} (h : keyK t = kN (regN n)) (hn : 0 ≤ n ∧ n ≤ 15) : fieldsT (65 :: cs) x (t :: r) = fieldsT cs { x with ins := { x.ins with a := n } } r := by
  have : fieldT ((65 : UInt8).toNat : Int) x (t :: r) = (true, { x with ins := { x.ins with a := n } }, r) := by
    unfold fieldT; rw [if_neg (by decide), if_pos (by decide), regT_of h hn]
  conv => lhs; unfold fieldsT
  rw [this, if_pos rfl]
theorem f_b {n : Int} (h : keyK t = kN (regN n)) (hn : 0 ≤ n ∧ n ≤ 15) : fieldsT (66 :: cs) x (t :: r) = fieldsT cs { x with ins := { x.ins with b := n } } r := by
  have : fieldT ((66 : UInt8).toNat : Int) x (t :: r) = (true, { x with ins := { x.ins with b := n } }, r) := by
    unfold fieldT; rw [if_neg (by decide), if_neg (by decide), if_pos (by decide), regT_of h hn]
  conv => lhs; unfold fieldsT
  rw [this, if_pos rfl]
theorem f_n {n : Int} (h : keyK t = kI n) : fieldsT (78 :: cs) x (t :: r) = fieldsT cs { x with ins := { x.ins with imm := n } } r := by
  have : fieldT ((78 : UInt8).toNat : Int) x (t :: r) = (true, { x with ins := { x.ins with imm := n } }, r) := by
    unfold fieldT; rw [if_neg (by decide), if_neg (by decide), if_neg (by decide), if_pos (by decide), immT_of h]
  conv => lhs; unfold fieldsT
  rw [this, if_pos rfl]
theorem f_ti {n : Int} (h : keyK t = kI n) : fieldsT (84 :: cs) x (t :: r) = fieldsT cs { x with ins := { x.ins with imm := n } } r := by
  have : fieldT ((84 : UInt8).toNat : Int) x (t :: r) = (true, { x with ins := { x.ins with imm := n } }, r) := by
    unfold fieldT; rw [if_neg (by decide), if_neg (by decide), if_neg (by decide), if_neg (by decide), if_pos (by decide)]
    simp only
    rw [if_neg (by have := (key_I h).1; omega), immT_of h]
  conv => lhs; unfold fieldsT
  rw [this, if_pos rfl]
theorem f_tn {s : List UInt8} (h : keyK t = kN s) : fieldsT (84 :: cs) x (t :: r) = fieldsT cs { x with target := t } r := by
  have : fieldT ((84 : UInt8).toNat : Int) x (t :: r) = (true, { x with target := t }, r) := by
    unfold fieldT; rw [if_neg (by decide), if_neg (by decide), if_neg (by decide), if_neg (by decide), if_pos (by decide)]
    simp only
    rw [if_pos (key_N h).1]
  conv => lhs; unfold fieldsT
  rw [this, if_pos rfl]
theorem f_s {c : UInt8} (h : keyK t = kS c) (hc : c = 44 ∨ c = 40 ∨ c = 41) : fieldsT (c :: cs) x (t :: r) = fieldsT cs x r := by
  have : fieldT (c.toNat : Int) x (t :: r) = (true, x, r) := by
    have hs : signT [UInt8.ofNat (c.toNat : Int).toNat] (t :: r) = (true, r) := by
      rw [signT_kc, show (UInt8.ofNat (c.toNat : Int).toNat) = c by simp, if_pos (isS_of h)]
    unfold fieldT
    rw [if_neg (by rcases hc with rfl | rfl | rfl <;> decide), if_neg (by rcases hc with rfl | rfl | rfl <;> decide), if_neg (by rcases hc with rfl | rfl | rfl <;> decide), if_neg (by rcases hc with rfl | rfl | rfl <;> decide), if_neg (by rcases hc with rfl | rfl | rfl <;> decide), hs]
  conv => lhs; unfold fieldsT
  rw [this, if_pos rfl]
end
theorem fields_end {x : PartZ} {r : List Tok} : fieldsT [] x r = (true, x, r) := rfl
theorem shape_of {op k : Int} (h : formZ op = k) : shapeZ op = shapesZ.getD k.toNat [] := by unfold shapeZ; rw [h]
/-- An instruction's fields. -/
theorem ins_fields {i : Ins} {t : List UInt8} (ho : InsOk i t) {T : List Tok} (hT : T.map keyK = insKeys i t) (r : List Tok) (at_ : Nat) :
    ∃ g : Tok, keyK g = (if t = [] then key0 else kN t) ∧ fieldsT (shapeZ i.op) ⟨2, at_, 0, [], ⟨i.op, 0, 0, 0, 0⟩, tok0⟩ (T ++ r) = (true, ⟨2, at_, 0, [], i, g⟩, r) := by
  have hr := ho.right
  have hrg := right_range hr
  have hz := (rightB_iff i).1 hr
  obtain ⟨op, d, a, b, imm⟩ := i
  simp only at hrg hz hT ⊢
  obtain ⟨_, hd, ha, hb, _⟩ := hrg
  obtain ⟨_, z1, z2, z3, z4⟩ := hz
  have hnt : (formZ op ≠ 6 ∧ formZ op ≠ 7) → t = [] := fun h => Classical.byContradiction fun hne => by have := (ho.tgt hne).1; simp only at this; omega
  unfold insKeys tgtK at hT
  simp only at hT
  rcases formZ_cases op with ⟨hf, h⟩ | ⟨hf, h⟩ | ⟨hf, h⟩ | ⟨hf, h⟩ | ⟨hf, h⟩ | ⟨hf, h⟩ | ⟨hf, h⟩ | ⟨hf, h⟩ | ⟨hf, h⟩
  · omega
  · rw [hf] at hT
    have ht := hnt (by omega)
    subst ht
    rw [if_pos rfl] at hT
    obtain ⟨t1, T, rfl, e1, hT⟩ := keys_cons hT
    obtain ⟨t2, T, rfl, e2, hT⟩ := keys_cons hT
    obtain ⟨t3, T, rfl, e3, hT⟩ := keys_cons hT
    obtain ⟨t4, T, rfl, e4, hT⟩ := keys_cons hT
    obtain ⟨t5, T, rfl, e5, hT⟩ := keys_cons hT
    obtain rfl := keys_nil hT
    refine ⟨tok0, rfl, ?_⟩
    rw [shape_of hf]
    show fieldsT [68, 44, 65, 44, 66] _ (t1 :: t2 :: t3 :: t4 :: t5 :: r) = _
    rw [f_d e1 hd, f_s e2 (by decide), f_a e3 ha, f_s e4 (by decide), f_b e5 hb, fields_end]
    have : imm = 0 := by rw [if_neg (by omega)] at z4; exact z4
    subst this; rfl
  · rw [hf] at hT
    have ht := hnt (by omega)
    subst ht
    rw [if_neg (by decide), if_pos rfl] at hT
    obtain ⟨t1, T, rfl, e1, hT⟩ := keys_cons hT
    obtain ⟨t2, T, rfl, e2, hT⟩ := keys_cons hT
    obtain ⟨t3, T, rfl, e3, hT⟩ := keys_cons hT
    obtain ⟨t4, T, rfl, e4, hT⟩ := keys_cons hT
    obtain ⟨t5, T, rfl, e5, hT⟩ := keys_cons hT
    obtain rfl := keys_nil hT
    refine ⟨tok0, rfl, ?_⟩
    rw [shape_of hf]
    show fieldsT [68, 44, 65, 44, 78] _ (t1 :: t2 :: t3 :: t4 :: t5 :: r) = _
    rw [f_d e1 hd, f_s e2 (by decide), f_a e3 ha, f_s e4 (by decide), f_n e5, fields_end]
    have : b = 0 := by rw [if_neg (by omega)] at z3; exact z3
    subst this; rfl
  · rw [hf] at hT
    have ht := hnt (by omega)
    subst ht
    rw [if_neg (by decide), if_neg (by decide), if_pos rfl] at hT
    obtain ⟨t1, T, rfl, e1, hT⟩ := keys_cons hT
    obtain ⟨t2, T, rfl, e2, hT⟩ := keys_cons hT
    obtain ⟨t3, T, rfl, e3, hT⟩ := keys_cons hT
    obtain rfl := keys_nil hT
    refine ⟨tok0, rfl, ?_⟩
    rw [shape_of hf]
    show fieldsT [68, 44, 78] _ (t1 :: t2 :: t3 :: r) = _
    rw [f_d e1 hd, f_s e2 (by decide), f_n e3, fields_end]
    have h3 : b = 0 := by rw [if_neg (by omega)] at z3; exact z3
    have h2 : a = 0 := by rw [if_neg (by omega)] at z2; exact z2
    subst h3 h2; rfl
  · rw [hf] at hT
    have ht := hnt (by omega)
    subst ht
    rw [if_neg (by decide), if_neg (by decide), if_neg (by decide), if_pos rfl] at hT
    obtain ⟨t1, T, rfl, e1, hT⟩ := keys_cons hT
    obtain ⟨t2, T, rfl, e2, hT⟩ := keys_cons hT
    obtain ⟨t3, T, rfl, e3, hT⟩ := keys_cons hT
    obtain ⟨t4, T, rfl, e4, hT⟩ := keys_cons hT
    obtain ⟨t5, T, rfl, e5, hT⟩ := keys_cons hT
    obtain ⟨t6, T, rfl, e6, hT⟩ := keys_cons hT
    obtain rfl := keys_nil hT
    refine ⟨tok0, rfl, ?_⟩
    rw [shape_of hf]
    show fieldsT [68, 44, 78, 40, 65, 41] _ (t1 :: t2 :: t3 :: t4 :: t5 :: t6 :: r) = _
    rw [f_d e1 hd, f_s e2 (by decide), f_n e3, f_s e4 (by decide), f_a e5 ha, f_s e6 (by decide), fields_end]
    have : b = 0 := by rw [if_neg (by omega)] at z3; exact z3
    subst this; rfl
  · rw [hf] at hT
    have ht := hnt (by omega)
    subst ht
    rw [if_neg (by decide), if_neg (by decide), if_neg (by decide), if_neg (by decide), if_pos rfl] at hT
    obtain ⟨t1, T, rfl, e1, hT⟩ := keys_cons hT
    obtain ⟨t2, T, rfl, e2, hT⟩ := keys_cons hT
    obtain ⟨t3, T, rfl, e3, hT⟩ := keys_cons hT
    obtain ⟨t4, T, rfl, e4, hT⟩ := keys_cons hT
    obtain ⟨t5, T, rfl, e5, hT⟩ := keys_cons hT
    obtain ⟨t6, T, rfl, e6, hT⟩ := keys_cons hT
    obtain rfl := keys_nil hT
    refine ⟨tok0, rfl, ?_⟩
    rw [shape_of hf]
    show fieldsT [66, 44, 78, 40, 65, 41] _ (t1 :: t2 :: t3 :: t4 :: t5 :: t6 :: r) = _
    rw [f_b e1 hb, f_s e2 (by decide), f_n e3, f_s e4 (by decide), f_a e5 ha, f_s e6 (by decide), fields_end]
    have : d = 0 := by rw [if_neg (by omega)] at z1; exact z1
    subst this; rfl
  · rw [hf] at hT
    rw [if_neg (by decide), if_neg (by decide), if_neg (by decide), if_neg (by decide), if_neg (by decide), if_pos rfl] at hT
    obtain ⟨t1, T, rfl, e1, hT⟩ := keys_cons hT
    obtain ⟨t2, T, rfl, e2, hT⟩ := keys_cons hT
    obtain ⟨t3, T, rfl, e3, hT⟩ := keys_cons hT
    obtain ⟨t4, T, rfl, e4, hT⟩ := keys_cons hT
    obtain ⟨t5, T, rfl, e5, hT⟩ := keys_cons hT
    obtain rfl := keys_nil hT
    have h1 : d = 0 := by rw [if_neg (by omega)] at z1; exact z1
    rw [shape_of hf]
    by_cases ht : t = []
    · subst ht
      rw [if_pos rfl] at e5
      refine ⟨tok0, rfl, ?_⟩
      show fieldsT [65, 44, 66, 44, 84] _ (t1 :: t2 :: t3 :: t4 :: t5 :: r) = _
      rw [f_a e1 ha, f_s e2 (by decide), f_b e3 hb, f_s e4 (by decide), f_ti e5, fields_end]
      subst h1; rfl
    · rw [if_neg ht] at e5 ⊢
      refine ⟨t5, e5, ?_⟩
      show fieldsT [65, 44, 66, 44, 84] _ (t1 :: t2 :: t3 :: t4 :: t5 :: r) = _
      rw [f_a e1 ha, f_s e2 (by decide), f_b e3 hb, f_s e4 (by decide), f_tn e5, fields_end]
      have h4 : imm = 0 := (ho.tgt ht).2
      subst h1 h4; rfl
  · rw [hf] at hT
    rw [if_neg (by decide), if_neg (by decide), if_neg (by decide), if_neg (by decide), if_neg (by decide), if_neg (by decide), if_pos rfl] at hT
    obtain ⟨t1, T, rfl, e1, hT⟩ := keys_cons hT
    obtain rfl := keys_nil hT
    have h1 : d = 0 := by rw [if_neg (by omega)] at z1; exact z1
    have h2 : a = 0 := by rw [if_neg (by omega)] at z2; exact z2
    have h3 : b = 0 := by rw [if_neg (by omega)] at z3; exact z3
    rw [shape_of hf]
    by_cases ht : t = []
    · subst ht
      rw [if_pos rfl] at e1
      refine ⟨tok0, rfl, ?_⟩
      show fieldsT [84] _ (t1 :: r) = _
      rw [f_ti e1, fields_end]
      subst h1 h2 h3; rfl
    · rw [if_neg ht] at e1 ⊢
      refine ⟨t1, e1, ?_⟩
      show fieldsT [84] _ (t1 :: r) = _
      rw [f_tn e1, fields_end]
      have h4 : imm = 0 := (ho.tgt ht).2
      subst h1 h2 h3 h4; rfl
  · rw [hf] at hT
    have ht := hnt (by omega)
    subst ht
    rw [if_neg (by decide), if_neg (by decide), if_neg (by decide), if_neg (by decide), if_neg (by decide), if_neg (by decide), if_neg (by decide)] at hT
    obtain rfl := keys_nil hT
    refine ⟨tok0, rfl, ?_⟩
    rw [shape_of hf]
    show fieldsT [] _ ([] ++ r) = _
    rw [fields_end]
    have h1 : d = 0 := by rw [if_neg (by omega)] at z1; exact z1
    have h2 : a = 0 := by rw [if_neg (by omega)] at z2; exact z2
    have h3 : b = 0 := by rw [if_neg (by omega)] at z3; exact z3
    have h4 : imm = 0 := by rw [if_neg (by omega)] at z4; exact z4
    subst h1 h2 h3 h4; rfl
/-! ### lines -/
/-- What stands behind a line: nothing, or a line's end. -/
def Behind (r : List Tok) : Prop := ∀ e r', r = e :: r' → e.kind = 4
theorem Behind.sign {r : List Tok} (h : Behind r) (c : List UInt8) : signT c r = (false, r) := by
  cases r with
  | nil => rfl
  | cons e r' =>
    have h1 := h e r' rfl
    rw [signT_kc, if_neg (by unfold isS; simp [h1])]
theorem Behind.end_ {r : List Tok} (h : Behind r) : endT r = (true, r.tail) := by
  cases r with
  | nil => rfl
  | cons e r' => rw [endT_kc, if_pos (h e r' rfl)]; rfl
theorem byteF_keys : ∀ (ns : List Int) (f : Nat) (T r : List Tok), ns.length ≤ f → T.map keyK = byteKeys ns → Behind r →
    ∃ ps, ps.map partK = (ns.map fun m => (⟨4, m, [], ins0, key0⟩ : PartK)) ∧ byteF f true (T ++ r) = (true, r, ps)
  | [], f, T, r, hf, hT, hr => by
    obtain rfl := keys_nil hT
    refine ⟨[], rfl, ?_⟩
    cases f with
    | zero => rfl
    | succ f =>
      unfold byteF
      rw [List.nil_append, hr.sign, if_pos rfl, if_neg (by simp)]
  | m :: ns, f, T, r, hf, hT, hr => by
    have e : byteKeys (m :: ns) = kS 44 :: kI m :: byteKeys ns := by simp [byteKeys]
    rw [e] at hT
    obtain ⟨t1, T, rfl, e1, hT⟩ := keys_cons hT
    obtain ⟨t2, T, rfl, e2, hT⟩ := keys_cons hT
    obtain ⟨f, rfl⟩ : ∃ g, f = g + 1 := ⟨f - 1, by simp at hf; omega⟩
    obtain ⟨ps, p1, p2⟩ := byteF_keys ns f T r (by simpa using hf) hT hr
    obtain ⟨q1, q2⟩ := key_I e2
    have hs : signT [44] (t1 :: t2 :: (T ++ r)) = (true, t2 :: (T ++ r)) := by rw [signT_kc, if_pos (isS_of e1)]
    have hn : numT 4 (t2 :: (T ++ r)) = (true, T ++ r, [⟨4, t2.at_, m, [], ins0, tok0⟩]) := by rw [numT_kc, if_pos q1, q2]
    refine ⟨⟨4, t2.at_, m, [], ins0, tok0⟩ :: ps, ?_, ?_⟩
    · rw [List.map_cons, List.map_cons, p1]; rfl
    · rw [List.cons_append, List.cons_append]
      unfold byteF
      rw [if_pos rfl, hs, if_pos rfl, hn, p2]
      rfl
theorem size_op : opZ sizeN = 0 := by decide +kernel
theorem byte_op : opZ byteN = 0 := by decide +kernel
theorem stmtT_name {t : Tok} {ts : List Tok} (h : t.kind = 1) : stmtT (t :: ts) = if 0 < opZ t.text then insT (opZ t.text) t.at_ ts else if t.text = sizeN then numT 3 ts else if t.text = byteN then bytesT ts else (false, t :: ts, []) := by
  conv => lhs; unfold stmtT
  simp only
  rw [if_neg (by simp [h])]
theorem stmt_keys {s : Stm} (ho : StmOk s) {T r : List Tok} (hT : T.map keyK = stmKeys s) (hr : Behind r) : ∃ ps, ps.map partK = stmParts s ∧ stmtT (T ++ r) = (true, r, ps) := by
  cases s with
  | none =>
    obtain rfl := keys_nil hT
    refine ⟨[], rfl, ?_⟩
    cases r with
    | nil => rfl
    | cons e r' =>
      have := hr e r' rfl
      show stmtT (e :: r') = _
      unfold stmtT
      simp only
      rw [if_pos (by omega)]
  | size n =>
    obtain ⟨t1, T, rfl, e1, hT⟩ := keys_cons hT
    obtain ⟨t2, T, rfl, e2, hT⟩ := keys_cons hT
    obtain rfl := keys_nil hT
    obtain ⟨a1, a2⟩ := key_N e1
    obtain ⟨b1, b2⟩ := key_I e2
    refine ⟨[⟨3, t2.at_, n, [], ins0, tok0⟩], rfl, ?_⟩
    show stmtT (t1 :: t2 :: r) = _
    rw [stmtT_name a1, a2, size_op, if_neg (by omega), if_pos rfl]
    rw [numT_kc, if_pos b1, b2]
  | bytes n ns =>
    obtain ⟨t1, T, rfl, e1, hT⟩ := keys_cons hT
    obtain ⟨t2, T, rfl, e2, hT⟩ := keys_cons hT
    obtain ⟨a1, a2⟩ := key_N e1
    obtain ⟨b1, b2⟩ := key_I e2
    have hlen : T.length = 2 * ns.length := by
      have := congrArg List.length hT
      rw [List.length_map, byteKeys_len] at this
      exact this
    obtain ⟨ps, p1, p2⟩ := byteF_keys ns (t2 :: (T ++ r)).length T r (by simp; omega) hT hr
    have hn : numT 4 (t2 :: (T ++ r)) = (true, T ++ r, [⟨4, t2.at_, n, [], ins0, tok0⟩]) := by rw [numT_kc, if_pos b1, b2]
    refine ⟨⟨4, t2.at_, n, [], ins0, tok0⟩ :: ps, ?_, ?_⟩
    · rw [List.map_cons, p1]; rfl
    · show stmtT (t1 :: t2 :: (T ++ r)) = _
      rw [stmtT_name a1, a2, byte_op, if_neg (by omega), if_neg (by decide), if_pos rfl]
      unfold bytesT
      rw [hn, p2]
      rfl
  | ins i t =>
    obtain ⟨t1, T, rfl, e1, hT⟩ := keys_cons hT
    obtain ⟨a1, a2⟩ := key_N e1
    obtain ⟨g, g1, g2⟩ := ins_fields ho hT r t1.at_
    have hop := (right_range ho.right).1
    refine ⟨[⟨2, t1.at_, 0, [], i, g⟩], ?_, ?_⟩
    · rw [List.map_cons, List.map_nil]; unfold partK stmParts; rw [g1]
    · show stmtT (t1 :: (T ++ r)) = _
      rw [stmtT_name a1, a2, nameN_op hop, if_pos (by omega)]
      unfold insT
      rw [g2, if_pos rfl]
theorem labelT_no {R : List Tok} (h : ∀ n c ts, R = n :: c :: ts → ¬ (n.kind = 1 ∧ isS c [58] = true)) : labelT R = none := by
  rcases R with _ | ⟨n, _ | ⟨c, ts⟩⟩
  · rfl
  · rfl
  · rw [labelT_kc, if_neg (h n c ts rfl)]
theorem isS_no {c : Tok} (h : c.kind ≠ 3 ∨ c.text ≠ [58]) : ¬ isS c [58] = true := by
  unfold isS
  rw [decide_eq_true_eq]
  intro ⟨h1, h2⟩
  rcases h with h | h
  · exact h h1
  · exact h h2
theorem stm_nolab {s : Stm} {T r : List Tok} (hT : T.map keyK = stmKeys s) (hr : Behind r) : labelT (T ++ r) = none := by
  apply labelT_no
  intro n c ts he hh
  obtain ⟨h1, h2⟩ := hh
  have hrk : ∀ e r', r = e :: r' → ¬ isS e [58] = true := fun e r' h => isS_no (.inl (by have := hr e r' h; omega))
  cases s with
  | none =>
    obtain rfl := keys_nil hT
    have := hr n (c :: ts) he
    omega
  | size m =>
    obtain ⟨t1, T, rfl, e1, hT⟩ := keys_cons hT
    obtain ⟨t2, T, rfl, e2, hT⟩ := keys_cons hT
    injection he with _ he
    injection he with he _
    subst he
    exact isS_no (.inl (by have := (key_I e2).1; omega)) h2
  | bytes m ns =>
    obtain ⟨t1, T, rfl, e1, hT⟩ := keys_cons hT
    obtain ⟨t2, T, rfl, e2, hT⟩ := keys_cons hT
    injection he with _ he
    injection he with he _
    subst he
    exact isS_no (.inl (by have := (key_I e2).1; omega)) h2
  | ins i t =>
    obtain ⟨t1, T, rfl, e1, hT⟩ := keys_cons hT
    injection he with _ he
    have hk : ∀ (k : Key) (ks : List Key), insKeys i t = k :: ks → k.kind ≠ 3 := by
      intro k ks hh
      unfold insKeys tgtK at hh
      repeat' split at hh
      all_goals first
        | (cases hh; done)
        | (injection hh with hh _; subst hh; simp)
    cases hI : insKeys i t with
    | nil =>
      rw [hI] at hT
      obtain rfl := keys_nil hT
      exact hrk c ts he h2
    | cons k ks =>
      rw [hI] at hT
      obtain ⟨t2, T, rfl, e2, hT⟩ := keys_cons hT
      injection he with he _
      subst he
      have := hk k ks hI
      rw [← e2] at this
      exact isS_no (.inl this) h2
theorem labelsF_keys : ∀ (labs : List (List UInt8)) (f : Nat) (T R : List Tok), labs.length ≤ f → T.map keyK = labKeys labs → labelT R = none →
    ∃ ps, ps.map partK = labParts labs ∧ labelsF f (T ++ R) = (R, ps)
  | [], f, T, R, hf, hT, hR => by
    obtain rfl := keys_nil hT
    refine ⟨[], rfl, ?_⟩
    cases f with
    | zero => rfl
    | succ f => unfold labelsF; rw [List.nil_append, hR]
  | t :: labs, f, T, R, hf, hT, hR => by
    have e : labKeys (t :: labs) = kN t :: kS 58 :: labKeys labs := by simp [labKeys]
    rw [e] at hT
    obtain ⟨t1, T, rfl, e1, hT⟩ := keys_cons hT
    obtain ⟨t2, T, rfl, e2, hT⟩ := keys_cons hT
    obtain ⟨f, rfl⟩ : ∃ g, f = g + 1 := ⟨f - 1, by simp at hf; omega⟩
    obtain ⟨ps, p1, p2⟩ := labelsF_keys labs f T R (by simpa using hf) hT hR
    obtain ⟨a1, a2⟩ := key_N e1
    have hl : labelT (t1 :: t2 :: (T ++ R)) = some (⟨1, t1.at_, 0, t1.text, ins0, tok0⟩, T ++ R) := by
      rw [labelT_kc, if_pos ⟨a1, isS_of e2⟩]
    refine ⟨⟨1, t1.at_, 0, t1.text, ins0, tok0⟩ :: ps, ?_, ?_⟩
    · rw [List.map_cons, p1, a2]; rfl
    · rw [List.cons_append, List.cons_append]
      unfold labelsF
      rw [hl]
      simp only
      rw [p2]
theorem line_keys {L : Ln} (ho : LnOk L) {T r : List Tok} (hT : T.map keyK = lnKeys L) (hr : Behind r) : ∃ ps, ps.map partK = lnParts L ∧ lineT (T ++ r) = (true, r.tail, ps) := by
  obtain ⟨A, B, rfl, hA, hB⟩ := keys_append hT
  have hl : A.length = 2 * L.labs.length := by
    have := congrArg List.length hA
    rw [List.length_map, labKeys_len] at this
    exact this
  obtain ⟨ps, p1, p2⟩ := labelsF_keys L.labs (A ++ B ++ r).length A (B ++ r) (by simp; omega) hA (stm_nolab hB hr)
  obtain ⟨qs, q1, q2⟩ := stmt_keys ho.1 hB hr
  rw [← List.append_assoc] at p2
  refine ⟨ps ++ qs, ?_, ?_⟩
  · rw [List.map_append, p1, q1]; rfl
  · unfold lineT
    rw [p2]
    simp only
    rw [q2, if_pos rfl, hr.end_]
/-- Lines with a line's end between each two; z: behind the last one. -/
def textKeys (z : List Key) : List Ln → List Key
  | [] => []
  | [L] => lnKeys L ++ z
  | L :: L2 :: Ls => lnKeys L ++ k4 :: textKeys z (L2 :: Ls)
theorem textF_keys {z : List Key} (hz : z = [] ∨ z = [k4]) : ∀ (Ls : List Ln) (f : Nat) (T : List Tok), (∀ L ∈ Ls, LnOk L) → T.length ≤ f → T.map keyK = textKeys z Ls →
    ∃ ps, ps.map partK = Ls.flatMap lnParts ∧ textF f T = (true, [], ps)
  | [], f, T, ho, hf, hT => by
    obtain rfl := keys_nil hT
    refine ⟨[], rfl, ?_⟩
    cases f with
    | zero => rfl
    | succ f => unfold textF; rw [if_pos rfl]
  | [L], f, T, ho, hf, hT => by
    obtain ⟨A, B, rfl, hA, hB⟩ := keys_append hT
    have hoL := ho L (by simp)
    have hr : Behind B := by
      intro e r' h
      subst h
      rcases hz with rfl | rfl
      · cases hB
      · rw [List.map_cons] at hB; injection hB with hB _; exact key_4 hB
    have hBt : B.tail = [] := by
      rcases hz with rfl | rfl
      · rw [keys_nil hB]; rfl
      · obtain ⟨t, T', rfl, _, h⟩ := keys_cons hB; rw [keys_nil h]; rfl
    have hA0 : A ≠ [] := by rintro rfl; exact hoL.2 hA.symm
    have hAl : 0 < A.length := List.length_pos_iff.2 hA0
    obtain ⟨ps, p1, p2⟩ := line_keys hoL hA hr
    obtain ⟨f, rfl⟩ : ∃ g, f = g + 1 := ⟨f - 1, by simp at hf; omega⟩
    refine ⟨ps, by simpa using p1, ?_⟩
    unfold textF
    rw [if_neg (by simp [hA0]), p2, if_pos rfl, hBt]
    cases f with
    | zero => simp [textF]
    | succ f => simp [textF]
  | L :: L2 :: Ls, f, T, ho, hf, hT => by
    obtain ⟨A, B, rfl, hA, hB⟩ := keys_append hT
    obtain ⟨t, B, rfl, e1, hB⟩ := keys_cons hB
    have hoL := ho L (by simp)
    have hr : Behind (t :: B) := by intro e r' h; injection h with h _; subst h; exact key_4 e1
    have hA0 : A ≠ [] := by rintro rfl; exact hoL.2 hA.symm
    obtain ⟨ps, p1, p2⟩ := line_keys hoL hA hr
    obtain ⟨f, rfl⟩ : ∃ g, f = g + 1 := ⟨f - 1, by simp at hf; omega⟩
    obtain ⟨qs, q1, q2⟩ := textF_keys hz (L2 :: Ls) f B (fun x hx => ho x (by simp [hx])) (by simp at hf; omega) hB
    refine ⟨ps ++ qs, ?_, ?_⟩
    · rw [List.map_append, p1, q1]; rfl
    · unfold textF
      rw [if_neg (by simp [hA0]), p2, if_pos rfl]
      simp only [List.tail_cons]
      rw [q2]
/-! ### what is laid -/
def hasK (name : List UInt8) (l : List PartK) : Bool := l.any (fun y => decide (y.kind = 1 ∧ y.name = name))
def placeK (name : List UInt8) : List PartK → Int → Option Int
  | [], _ => none
  | x :: xs, n => if x.kind = 1 ∧ x.name = name then some n else placeK name xs (if x.kind = 2 then n + 1 else n)
def aimK (all : List PartK) (x : PartK) (n : Nat) : Option Ins :=
  if x.target.kind = 1 then (match placeK x.target.text all 0 with | some k => some { x.ins with imm := k - n } | none => none) else some x.ins
def layK (all : List PartK) : List PartK → List PartK → Prog → Option Prog
  | _, [], p => some p
  | pre, x :: xs, p =>
    if x.kind = 1 then (if hasK x.name pre = true then none else layK all (pre ++ [x]) xs p)
    else if x.kind = 3 then layK all (pre ++ [x]) xs { p with size := x.num }
    else if x.kind = 4 then (if x.num < 0 ∨ 255 < x.num then none else layK all (pre ++ [x]) xs { p with data := p.data ++ [x.num] })
    else if x.kind = 2 then (match aimK all x p.code.length with
      | none => none
      | some i => if rightB i = true then layK all (pre ++ [x]) xs { p with code := p.code ++ [i] } else none)
    else layK all (pre ++ [x]) xs p
theorem hasL_K (name : List UInt8) (l : List PartZ) : hasK name (l.map partK) = hasL name l := by
  unfold hasK hasL
  rw [List.any_map]
  rfl
theorem placeF_K (name : List UInt8) : ∀ (l : List PartZ) (n : Int), placeK name (l.map partK) n = placeF name l n
  | [], n => rfl
  | x :: l, n => by
    rw [List.map_cons]
    unfold placeK placeF
    rw [placeF_K name l]
    rfl
theorem aimZ_K (all : List PartZ) (x : PartZ) (n : Nat) : aimK (all.map partK) (partK x) n = aimZ all x n := by
  unfold aimK aimZ
  rw [placeF_K]
  by_cases h : x.target.kind = 1
  · have h' : (partK x).target.kind = 1 := h
    have ht : (partK x).target.text = x.target.text := by show (if x.target.kind = 2 then _ else _) = _; rw [if_neg (by omega)]
    rw [if_pos h, if_pos h', ht]
    rfl
  · have h' : ¬ (partK x).target.kind = 1 := h
    rw [if_neg h, if_neg h']
    rfl
theorem layF_K (all : List PartZ) : ∀ (xs pre : List PartZ) (p q : Prog), layK (all.map partK) (pre.map partK) (xs.map partK) p = some q → layF all pre xs p = .ok q
  | [], pre, p, q, h => by
    rw [List.map_nil] at h
    unfold layK at h
    injection h with h
    subst h; rfl
  | x :: xs, pre, p, q, h => by
    rw [List.map_cons] at h
    unfold layK at h
    unfold layF
    have e : pre.map partK ++ [partK x] = (pre ++ [x]).map partK := by simp
    rw [hasL_K (partK x).name pre, aimZ_K, e] at h
    by_cases h1 : x.kind = 1
    · rw [if_pos (show (partK x).kind = 1 from h1)] at h
      rw [if_pos h1]
      split at h
      · cases h
      · rename_i hh
        rw [if_neg (by exact hh)]
        exact layF_K all xs _ _ _ h
    · rw [if_neg (show ¬ (partK x).kind = 1 from h1)] at h
      rw [if_neg h1]
      by_cases h3 : x.kind = 3
      · rw [if_pos (show (partK x).kind = 3 from h3)] at h
        rw [if_pos h3]
        exact layF_K all xs _ _ _ h
      · rw [if_neg (show ¬ (partK x).kind = 3 from h3)] at h
        rw [if_neg h3]
        by_cases h4 : x.kind = 4
        · rw [if_pos (show (partK x).kind = 4 from h4)] at h
          rw [if_pos h4]
          split at h
          · cases h
          · rename_i hh
            rw [if_neg (by exact hh)]
            exact layF_K all xs _ _ _ h
        · rw [if_neg (show ¬ (partK x).kind = 4 from h4)] at h
          rw [if_neg h4]
          by_cases h2 : x.kind = 2
          · rw [if_pos (show (partK x).kind = 2 from h2)] at h
            rw [if_pos h2]
            cases ha : aimZ all x p.code.length with
            | none => rw [ha] at h; cases h
            | some i =>
              rw [ha] at h
              simp only at h ⊢
              split at h
              · rename_i hr
                rw [if_pos hr]
                exact layF_K all xs _ _ _ h
              · cases h
          · rw [if_neg (show ¬ (partK x).kind = 2 from h2)] at h
            rw [if_neg h2]
            exact layF_K all xs _ _ _ h
end Go.Proofs.YtfdegdbknponkaaDoor.Words

/- Words, registers, numbers and instructions as pieces of a text. Plain mathematics. -/
namespace Go.Proofs.YtfdegdbknponkaaDoor.Words
set_option maxRecDepth 100000
set_option linter.unusedVariables false
set_option linter.unusedSimpArgs false
open Go.Lib

def isNameB (t : List UInt8) : Bool := (match t with | c :: _ => firstR (c.toNat : Int) | [] => false) && t.all inName
theorem isName_of {t : List UInt8} (h : isNameB t = true) : IsName t := by
  unfold isNameB at h
  rw [Bool.and_eq_true] at h
  cases t with
  | nil => exact absurd h.1 (by simp)
  | cons c r => exact ⟨⟨c, r, rfl, h.1⟩, fun x hx => List.all_eq_true.1 h.2 x hx⟩
theorem nameN_names : ((List.range 42).all fun op => decide (op = 0) || isNameB (nameN (op : Int))) = true := by decide +kernel
theorem nameN_name {op : Int} (h : 1 ≤ op ∧ op ≤ 41) : IsName (nameN op) := by
  have := List.all_eq_true.1 nameN_names op.toNat (List.mem_range.2 (by omega))
  rw [Bool.or_eq_true, decide_eq_true_eq, show ((op.toNat : Nat) : Int) = op by omega] at this
  rcases this with this | this
  · omega
  · exact isName_of this
theorem regN_names : ((List.range 16).all fun d => isNameB (regN (d : Int))) = true := by decide +kernel
theorem regN_name {d : Int} (h : 0 ≤ d ∧ d ≤ 15) : IsName (regN d) := by
  have := List.all_eq_true.1 regN_names d.toNat (List.mem_range.2 (by omega))
  rw [show ((d.toNat : Nat) : Int) = d by omega] at this
  exact isName_of this
theorem size_name : IsName sizeN := isName_of (by decide +kernel)
theorem byte_name : IsName byteN := isName_of (by decide +kernel)
theorem nameN_len {op : Int} (h : 1 ≤ op ∧ op ≤ 41) : (nameN op).length ≤ 4 := by
  have key : ((List.range 42).all fun op => decide ((nameN (op : Int)).length ≤ 4)) = true := by decide +kernel
  have := List.all_eq_true.1 key op.toNat (List.mem_range.2 (by omega))
  rw [decide_eq_true_eq, show ((op.toNat : Nat) : Int) = op by omega] at this
  exact this
theorem regN_len {d : Int} (h : 0 ≤ d ∧ d ≤ 15) : (regN d).length ≤ 3 := by
  have key : ((List.range 16).all fun op => decide ((regN (op : Int)).length ≤ 3)) = true := by decide +kernel
  have := List.all_eq_true.1 key d.toNat (List.mem_range.2 (by omega))
  rw [decide_eq_true_eq, show ((d.toNat : Nat) : Int) = d by omega] at this
  exact this
theorem decN_num {n : Int} (h : -4294967296 ≤ n ∧ n ≤ 4294967296) : IsNum n (decN n) := by
  have hdig := digs_dig (b := 10) (by omega) (by omega) false n.natAbs
  by_cases h0 : n < 0
  · have e : decN n = 45 :: digs 10 false n.natAbs := by unfold decN; rw [if_pos h0]
    rw [e]
    refine ⟨⟨45, _, rfl, .inl (by decide)⟩, ?_, ?_, h⟩
    · intro c hc
      rcases List.mem_cons.1 hc with rfl | hc
      · decide
      · exact (hdig c hc).low
    · rw [numZ_neg, List.length_cons]
      congr 1
      · omega
      · omega
  · have e : decN n = digs 10 false n.natAbs := by unfold decN; rw [if_neg h0]
    rw [e]
    obtain ⟨c, r, hc, h1, h2⟩ := digs_head (n := n.natAbs)
    refine ⟨⟨c, r, hc, .inr ⟨h1, h2⟩⟩, fun c hc => (hdig c hc).low, ?_, h⟩
    rw [numZ_dec]
    congr 1
    omega
/-- Digits of base 16, some of them great. -/
def mixB (c : UInt8) : UInt8 := if c = 98 then 66 else if c = 100 then 68 else if c = 102 then 70 else c
theorem mixB_dig (c : UInt8) : digR ((mixB c).toNat : Int) = digR (c.toNat : Int) := by
  unfold mixB
  split
  · rename_i h; subst h; decide
  split
  · rename_i h; subst h; decide
  split
  · rename_i h; subst h; decide
  · rfl
theorem mixB_is {c : UInt8} (h : IsDig 16 c) : IsDig 16 (mixB c) := by
  refine ⟨?_, ?_, ?_⟩
  · have := h.low
    unfold mixB; repeat' split
    all_goals first | decide | exact this
  · rw [mixB_dig]; exact h.dig
  · have := h.ne10
    unfold mixB; repeat' split
    all_goals first | decide | exact this
def mixL (l : List UInt8) : List UInt8 := l.map mixB
theorem foldD_mix (l : List UInt8) : ∀ n, foldD 16 (mixL l) n = foldD 16 l n := by
  induction l with
  | nil => intro n; rfl
  | cons c l ih =>
    intro n
    have h1 : foldD 16 (mixL (c :: l)) n = foldD 16 (mixL l) (min (n * 16 + digR ((mixB c).toNat : Int)) 4294967297) := rfl
    have h2 : foldD 16 (c :: l) n = foldD 16 l (min (n * 16 + digR (c.toNat : Int)) 4294967297) := rfl
    rw [h1, h2, ih, mixB_dig]
theorem digZ_run {b : Nat} {cs : List UInt8} (h : ∀ c ∈ cs, IsDig b c) : digZ cs b = (foldD b cs 0, cs.length) := by
  unfold digZ
  have := digF_run (b := b) (tail := []) cs [] 0 0 h
  simp only [List.nil_append, List.append_nil, List.length_nil, Nat.zero_add] at this
  rw [this]
  exact digF_end _ _ _ _ _ (by omega)
theorem mix_num {n : Nat} (h : n ≤ 4294967296) : IsNum (n : Int) (48 :: 120 :: mixL (digs 16 false n)) := by
  have hd : ∀ c ∈ mixL (digs 16 false n), IsDig 16 c := by
    intro c hc
    obtain ⟨x, hx, rfl⟩ := List.mem_map.1 hc
    exact mixB_is (digs_dig (b := 16) (by omega) (by omega) false n x hx)
  have hz : digZ (mixL (digs 16 false n)) 16 = ((n : Int), (mixL (digs 16 false n)).length) := by
    have h1 := digZ_run hd
    have h2 := foldD_digs (b := 16) (by omega) (by omega) false n
    have h3 := foldD_mix (digs 16 false n) 0
    have h4 : ((16 : Nat) : Int) = 16 := rfl
    rw [h4] at h1 h2
    rw [h1, h3, h2]
    congr 1
    omega
  have hl : 0 < (mixL (digs 16 false n)).length := by
    unfold mixL
    rw [List.length_map]
    exact List.length_pos_iff.2 (digs_ne (by omega) false n)
  refine ⟨⟨48, _, rfl, .inr (by decide)⟩, ?_, ?_, by omega⟩
  · intro c hc
    rcases List.mem_cons.1 hc with rfl | hc
    · decide
    rcases List.mem_cons.1 hc with rfl | hc
    · decide
    · exact (hd c hc).low
  · unfold numZ
    have hdz : digZ ((48 :: 120 :: mixL (digs 16 false n)).drop 2) 16 = ((n : Int), (mixL (digs 16 false n)).length) := hz
    rw [hdz, if_pos ⟨by simp [hasPrefix, List.isPrefixOf], hl⟩]
    simp only [List.length_cons]
    congr 1
    omega

/-! ### instructions -/
abbrev SP : Pc := .blank 32
abbrev CM : Pc := .sign 44
/-- The target of a branch. -/
def tgtP (i : Ins) (t nt : List UInt8) : Pc := if t = [] then .num i.imm nt else .name t
def insPcs (i : Ins) (t nt : List UInt8) : List Pc :=
  .name (nameN i.op) ::
  (if formZ i.op = 1 then [SP, .name (regN i.d), CM, SP, .name (regN i.a), CM, SP, .name (regN i.b)]
  else if formZ i.op = 2 then [SP, .name (regN i.d), CM, SP, .name (regN i.a), CM, SP, .num i.imm nt]
  else if formZ i.op = 3 then [SP, .name (regN i.d), CM, SP, .num i.imm nt]
  else if formZ i.op = 4 then [SP, .name (regN i.d), CM, SP, .num i.imm nt, .sign 40, .name (regN i.a), .sign 41]
  else if formZ i.op = 5 then [SP, .name (regN i.b), CM, SP, .num i.imm nt, .sign 40, .name (regN i.a), .sign 41]
  else if formZ i.op = 6 then [SP, .name (regN i.a), CM, SP, .name (regN i.b), CM, SP, tgtP i t nt]
  else if formZ i.op = 7 then [SP, tgtP i t nt]
  else [])
theorem lexK_tgt (i : Ins) (t nt : List UInt8) (o : Bool) (ps : List Pc) : lexK o (tgtP i t nt :: ps) = tgtK i t :: lexK true ps := by
  unfold tgtP tgtK; split <;> rfl
theorem openK_tgt (i : Ins) (t nt : List UInt8) (o : Bool) (ps : List Pc) : openK o (tgtP i t nt :: ps) = openK true ps := by
  unfold tgtP; split <;> rfl
theorem stmKeys_ins (i : Ins) (t : List UInt8) : stmKeys (.ins i t) = kN (nameN i.op) :: insKeys i t := rfl
theorem lexK_ins (i : Ins) (t nt : List UInt8) (o : Bool) : lexK o (insPcs i t nt) = stmKeys (.ins i t) ∧ openK o (insPcs i t nt) = true := by
  rw [stmKeys_ins]
  unfold insPcs insKeys
  rcases formZ_cases i.op with ⟨hf, _⟩ | ⟨hf, _⟩ | ⟨hf, _⟩ | ⟨hf, _⟩ | ⟨hf, _⟩ | ⟨hf, _⟩ | ⟨hf, _⟩ | ⟨hf, _⟩ | ⟨hf, _⟩ <;>
    (rw [hf]; simp [lexK, openK, lexK_tgt, openK_tgt])
theorem goodP_tgt {i : Ins} {t nt : List UInt8} (hn : IsNum i.imm nt) (ht : t ≠ [] → IsName t) : okP (tgtP i t nt) := by
  unfold tgtP; split
  · exact hn
  · rename_i h; exact ht h
theorem next_sp (p : Pc) (ps : List Pc) (h : ∀ t, p ≠ .hash t) : nextP p (SP :: ps) := by cases p <;> first | trivial | exact absurd rfl (h _)
theorem next_line (p : Pc) (ps : List Pc) : nextP p (.line :: ps) := by cases p <;> trivial
theorem next_hash (p : Pc) (t : List UInt8) (ps : List Pc) (h : ∀ t, p ≠ .hash t) : nextP p (.hash t :: ps) := by cases p <;> first | trivial | exact absurd rfl (h _)
theorem next_nil (p : Pc) : nextP p [] := by cases p <;> trivial
theorem goodP_ins {i : Ins} {t nt : List UInt8} (hr : rightB i = true) (hn : IsNum i.imm nt) (ht : t ≠ [] → IsName t) : goodP (insPcs i t nt) := by
  obtain ⟨ho, hd, ha, hb, _⟩ := right_range hr
  have n0 := nameN_name ho
  have nd := regN_name hd
  have na := regN_name ha
  have nb := regN_name hb
  have hg := goodP_tgt hn ht
  have hc : okP CM := .inl rfl
  have hs : okP SP := .inl rfl
  have ho1 : okP (.sign 40) := .inr (.inr (.inl rfl))
  have ho2 : okP (.sign 41) := .inr (.inr (.inr rfl))
  unfold insPcs
  repeat' split
  · exact ⟨n0, trivial, hs, trivial, nd, trivial, hc, trivial, hs, trivial, na, trivial, hc, trivial, hs, trivial, nb, trivial, trivial⟩
  · exact ⟨n0, trivial, hs, trivial, nd, trivial, hc, trivial, hs, trivial, na, trivial, hc, trivial, hs, trivial, hn, trivial, trivial⟩
  · exact ⟨n0, trivial, hs, trivial, nd, trivial, hc, trivial, hs, trivial, hn, trivial, trivial⟩
  · exact ⟨n0, trivial, hs, trivial, nd, trivial, hc, trivial, hs, trivial, hn, trivial, ho1, trivial, na, trivial, ho2, trivial, trivial⟩
  · exact ⟨n0, trivial, hs, trivial, nb, trivial, hc, trivial, hs, trivial, hn, trivial, ho1, trivial, na, trivial, ho2, trivial, trivial⟩
  · refine ⟨n0, trivial, hs, trivial, na, trivial, hc, trivial, hs, trivial, nb, trivial, hc, trivial, hs, ?_, hg, next_nil _, trivial⟩
    unfold tgtP; split <;> trivial
  · refine ⟨n0, trivial, hs, ?_, hg, next_nil _, trivial⟩
    unfold tgtP; split <;> trivial
  · exact ⟨n0, trivial, trivial⟩
def isHash : Pc → Bool
  | .hash _ => true
  | _ => false
theorem tgt_nohash (i : Ins) (t nt : List UInt8) : isHash (tgtP i t nt) = false := by unfold tgtP; split <;> rfl
theorem ins_nohash (i : Ins) (t nt : List UInt8) : ∀ p ∈ insPcs i t nt, isHash p = false := by
  have h : (insPcs i t nt).all (fun p => !isHash p) = true := by
    unfold insPcs
    rcases formZ_cases i.op with ⟨hf, _⟩ | ⟨hf, _⟩ | ⟨hf, _⟩ | ⟨hf, _⟩ | ⟨hf, _⟩ | ⟨hf, _⟩ | ⟨hf, _⟩ | ⟨hf, _⟩ | ⟨hf, _⟩ <;>
      (rw [hf]; unfold tgtP; by_cases ht : t = [] <;> simp [isHash, ht])
  intro p hp
  have := List.all_eq_true.1 h p hp
  simpa using this
theorem nohash_ne {p : Pc} (h : isHash p = false) (u : List UInt8) : p ≠ .hash u := by rintro rfl; cases h
/-- What stands behind a text of no remark may stand there if it begins with no word and no number. -/
def softN : List Pc → Bool
  | .name _ :: _ => false
  | .num _ _ :: _ => false
  | _ => true
theorem goodP_behind {a b : List Pc} (ha : goodP a) (hn : ∀ p ∈ a, isHash p = false) (hb : goodP b) (hs : softN b = true) : goodP (a ++ b) := by
  refine goodP_append a b ha hb (fun x hx => ?_)
  have hm := nohash_ne (hn x (List.mem_of_getLast? hx))
  cases b with
  | nil => exact next_nil _
  | cons q qs =>
    cases q with
    | name => cases hs
    | num => cases hs
    | sign c => cases x <;> first | trivial | exact absurd rfl (hm _)
    | blank c => cases x <;> first | trivial | exact absurd rfl (hm _)
    | line => cases x <;> trivial
    | hash t => cases x <;> first | trivial | exact absurd rfl (hm _)
end Go.Proofs.YtfdegdbknponkaaDoor.Words

/- The library's tables that a text's splitting reads, kept; contracts of package lex's small functions. -/
namespace Go.Proofs.YtfdegdbknponkaaDoor.Words
set_option maxRecDepth 100000
open Go.RowKit Go.Shelf Go.Lib
set_option linter.unusedVariables false

/-- The library's tables are laid. -/
def Tabs (w : World) : Prop := Lib.TabIs Tryd.prog w "unicode.properties" .u8 Lib.propertiesTab ∧ RVar 1 letterT w ∧ Lib.Utf8Tabs 4 5 w
theorem Tabs.below {w w' : World} (h : Tabs w) (hb : Below w.heap.size w w') : Tabs w' :=
  ⟨TabIs_below (g := 0) (by kernel_rfl) h.1 hb, RVar_below h.2.1 hb, Utf8Tabs_below h.2.2 hb⟩
/-- They are, whatever turns from block B on. -/
def TabsB (B : Nat) (w : World) : Prop := ∀ x, Below B w x → Tabs x
theorem TabsB.now {B : Nat} {w : World} (h : TabsB B w) : Tabs w := h w (Below.refl _ _)
theorem TabsB.go {B : Nat} {w w' : World} (h : TabsB B w) (hb : Below B w w') : TabsB B w' := fun x hx => h x (hb.trans hx)
theorem Tabs.all {w : World} (h : Tabs w) : TabsB w.heap.size w := fun x hx => h.below hx

theorem isLetter_any (r : Int) (w : World) (hr : -2147483648 ≤ r ∧ r ≤ 2147483647) (hT : Tabs w) :
    Calls Tryd.prog 78 #[.int .i32 r] w fun e w' => e = .returned (.bool (isLetterU r)) ∧ Below w.heap.size w w' :=
  Tryd.unicode_IsLetter_all r w hr.1 hr.2 hT.1 hT.2.1
theorem isBlank_any (r : Int) (w : World) : Calls Tryd.prog 63 #[.int .i32 r] w fun e w' => e = .returned (.bool (blankR r)) ∧ w = w' := by
  by_cases h1 : r = 32
  · subst h1
    go_enter Tryd.func63, Tryd.ntmps63
    go_wp2
    go_ret
    exact ⟨rfl, rfl⟩
  have k1 : (r == 32) = false := by simpa using h1
  by_cases h2 : r = 9
  · subst h2
    go_enter Tryd.func63, Tryd.ntmps63
    go_wp2
    go_ret
    exact ⟨rfl, rfl⟩
  have k2 : (r == 9) = false := by simpa using h2
  have hb : blankR r = (r == 13) := by unfold blankR; rw [Bool.eq_iff_iff]; simp [h1, h2]
  have HB := Lib.hid hb
  clear h1 h2 hb
  go_enter Tryd.func63, Tryd.ntmps63
  go_wp2
  go_ret
  exact ⟨ret_bool HB.out.symm, rfl⟩
theorem isSign_any (r : Int) (w : World) : Calls Tryd.prog 67 #[.int .i32 r] w fun e w' => e = .returned (.bool (signR r)) ∧ w = w' := by
  by_cases h1 : r = 44
  · subst h1
    go_enter Tryd.func67, Tryd.ntmps67
    go_wp2
    go_ret
    exact ⟨rfl, rfl⟩
  have k1 : (r == 44) = false := by simpa using h1
  by_cases h2 : r = 58
  · subst h2
    go_enter Tryd.func67, Tryd.ntmps67
    go_wp2
    go_ret
    exact ⟨rfl, rfl⟩
  have k2 : (r == 58) = false := by simpa using h2
  by_cases h3 : r = 40
  · subst h3
    go_enter Tryd.func67, Tryd.ntmps67
    go_wp2
    go_ret
    exact ⟨rfl, rfl⟩
  have k3 : (r == 40) = false := by simpa using h3
  have hb : signR r = (r == 41) := by unfold signR; rw [Bool.eq_iff_iff]; simp [h1, h2, h3]
  have HB := Lib.hid hb
  clear h1 h2 h3 hb
  go_enter Tryd.func67, Tryd.ntmps67
  go_wp2
  go_ret
  exact ⟨ret_bool HB.out.symm, rfl⟩
theorem digit_any (r : Int) (w : World) (hr : -2147483648 ≤ r ∧ r ≤ 2147483647) : Calls Tryd.prog 86 #[.int .i32 r] w fun e w' => e = .returned (.int .i64 (digR r)) ∧ w = w' := by
  obtain ⟨r0, r1⟩ := hr
  go_enter Tryd.func86, Tryd.ntmps86
  go_wp2
  all_goals first
    | (exfalso; omega)
    | (go_ret; exact ⟨ret_int (by unfold digR; repeat' split; all_goals omega), rfl⟩)
theorem isFirst_any (r : Int) (w : World) (hr : -2147483648 ≤ r ∧ r ≤ 2147483647) (hT : Tabs w) :
    Calls Tryd.prog 64 #[.int .i32 r] w fun e w' => e = .returned (.bool (firstR r)) ∧ Below w.heap.size w w' := by
  have cL := isLetter_any r w hr hT
  have HF := Lib.hid (show firstR r = (isLetterU r || decide (r = 95)) from rfl)
  clear hT
  cases hl : isLetterU r
  · rw [hl] at cL HF
    have k : (r == 95) = decide (r = 95) := by rw [Bool.eq_iff_iff]; simp
    have HK := Lib.hid k
    clear k hl
    go_enter Tryd.func64, Tryd.ntmps64
    go_wp2_with (go_at_call 78; refine cL.mono ?_; rintro e w1 ⟨rfl, hb⟩)
    go_ret
    exact ⟨ret_bool (by rw [HF.out, HK.out]; rfl), hb⟩
  · rw [hl] at cL HF
    clear hl
    go_enter Tryd.func64, Tryd.ntmps64
    go_wp2_with (go_at_call 78; refine cL.mono ?_; rintro e w1 ⟨rfl, hb⟩)
    go_ret
    exact ⟨ret_bool (by rw [HF.out]; rfl), hb⟩
theorem isBroken_any (s : ByteArray) (r : Int) (w : World) (hs : s.data.toList ≠ []) (hT : Tabs w) (hr : r = runeR s.data.toList) :
    Calls Tryd.prog 61 #[.string s, .int .i32 r] w fun e w' => e = .returned (.bool (badR s.data.toList)) ∧ Below w.heap.size w w' := by
  have cD := Tryd.utf8_DecodeRuneInString s w hT.2.2
  have h0 : s.size ≠ 0 := fun e => hs (List.eq_nil_of_length_eq_zero (by rw [← Lib.size_eq]; exact e))
  have hd : Lib.decodeGo s = decodeL s.data.toList := by
    unfold Lib.decodeGo
    rw [if_neg h0]
    have := Lib.decodeL_drop s 0
    rw [List.drop_zero] at this
    exact this.symm
  rw [hd] at cD
  have hB := Lib.hid (show badR s.data.toList = (decide (runeR s.data.toList = 65533) && decide (wideR s.data.toList = 1)) by unfold badR; rw [Bool.decide_and])
  rw [← hr] at hB
  obtain ⟨k, hk⟩ : ∃ k : Nat, k = wideR s.data.toList := ⟨_, rfl⟩
  have cD' : Calls Tryd.prog 84 #[.string s] w fun e w' => e = .returned (.tuple #[.int .i32 (runeR s.data.toList), .int .i64 (k : Int)]) ∧ Below w.heap.size w w' := by rw [hk]; exact cD
  rw [← hk] at hB
  clear cD hT hd h0 hs hk
  by_cases h1 : r = 65533
  · have k1 : (r == 65533) = true := by simpa using h1
    have hB2 : Hid (badR s.data.toList = ((k : Int) == 1)) := by
      show _ = _
      rw [hB.out, decide_eq_true h1, Bool.true_and, Bool.eq_iff_iff]; simp; omega
    clear h1 hr
    go_enter Tryd.func61, Tryd.ntmps61
    go_wp2_with (go_at_call 84; refine cD'.mono ?_; rintro e w1 ⟨rfl, hb⟩)
    go_ret
    exact ⟨ret_bool hB2.out.symm, hb⟩
  · have k1 : (r == 65533) = false := by simpa using h1
    have hB2 : Hid (badR s.data.toList = false) := by show _ = _; rw [hB.out, decide_eq_false h1]; rfl
    clear h1 hr
    go_enter Tryd.func61, Tryd.ntmps61
    go_wp2_with (go_at_call 84; refine cD'.mono ?_; rintro e w1 ⟨rfl, hb⟩)
    go_ret
    exact ⟨ret_bool hB2.out.symm, hb⟩
end Go.Proofs.YtfdegdbknponkaaDoor.Words

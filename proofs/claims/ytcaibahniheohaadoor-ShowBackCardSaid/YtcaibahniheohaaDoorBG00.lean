/- Several texts in one: LexMath, IsaMath, Base, PData, AsmMath, LexTabs, LexScan. -/
import Derived.Lib.IsU
import Derived.Lib.TrimUEq
import Derived.Lib.MapLaws
import Derived.Lib.Small
import Derived.WalkKit
import Derived.Laws.BitsAllLaws
import Derived.WalkSpells
import Derived.WalkLawsBesides
import Derived.Lib.Hide
import Derived.Deep.QuietTactic
import Derived.BigQuiet
import Derived.Test.YtcaibahniheohaaDoorBSShelf
import Derived.Lib.OthersKept
import Derived.WalkMore
import Derived.LoopTactic

/- Texts taken apart: plain mathematics over lists of bytes. Nothing here speaks of one program text. -/
namespace Go.Proofs.YtcaibahniheohaaDoor.Words
set_option maxRecDepth 100000
set_option linter.unusedVariables false
open Go.Lib
def digR (r : Int) : Int := if 48 ≤ r ∧ r ≤ 57 then r - 48 else if 97 ≤ r ∧ r ≤ 102 then r - 97 + 10 else if 65 ≤ r ∧ r ≤ 70 then r - 65 + 10 else 16
def blankR (r : Int) : Bool := decide (r = 32 ∨ r = 9 ∨ r = 13)
def signR (r : Int) : Bool := decide (r = 44 ∨ r = 58 ∨ r = 40 ∨ r = 41)
def firstR (r : Int) : Bool := isLetterU r || decide (r = 95)
def nameR (r : Int) : Bool := firstR r || decide (digR r < 10)
def runeR (l : List UInt8) : Int := ((decodeL l).1 : Int)
def wideR (l : List UInt8) : Nat := (decodeL l).2
def badR (l : List UInt8) : Bool := decide (runeR l = 65533 ∧ wideR l = 1)
theorem wideR_pos (l : List UInt8) : 1 ≤ wideR l := decodeL_width l
theorem wideR_le {l : List UInt8} (h : l ≠ []) : wideR l ≤ l.length := decodeL_le l h
theorem runeR_range (l : List UInt8) : 0 ≤ runeR l ∧ runeR l ≤ 1114111 := by have := decodeL_rune l; unfold runeR; omega
theorem digR_range (r : Int) : 0 ≤ digR r ∧ digR r ≤ 16 := by unfold digR; repeat' split; all_goals omega
abbrev from_ (l : List UInt8) (p : Nat) : List UInt8 := l.drop p
theorem from_ne {l : List UInt8} {p : Nat} (h : p < l.length) : l.drop p ≠ [] := fun e => by have := congrArg List.length e; simp at this; omega
theorem wide_in {l : List UInt8} {p : Nat} (h : p < l.length) : p + wideR (l.drop p) ≤ l.length := by have := wideR_le (from_ne h); simp at this; omega
def nameF (l : List UInt8) : Nat → Nat → Nat
 | 0, p => p
 | f + 1, p => if p < l.length then (if nameR (runeR (l.drop p)) then nameF l f (p + wideR (l.drop p)) else p) else p
def digF (l : List UInt8) (base : Int) : Nat → Nat → Int → Int × Nat
 | 0, p, n => (n, p)
 | f + 1, p, n => if p < l.length then (if base ≤ digR (runeR (l.drop p)) then (n, p) else digF l base f (p + wideR (l.drop p)) (min (n * base + digR (runeR (l.drop p))) 4294967297)) else (n, p)
theorem nameF_le (l : List UInt8) : ∀ f p, p ≤ l.length → p ≤ nameF l f p ∧ nameF l f p ≤ l.length
 | 0, p, h => ⟨Nat.le_refl _, h⟩
 | f + 1, p, h => by
  unfold nameF
  split
  ·rename_i hp
   split
   ·have h1 := wide_in hp
    have h2 := nameF_le l f _ h1
    exact ⟨by omega, h2.2⟩
   ·exact ⟨Nat.le_refl _, h⟩
  ·exact ⟨Nat.le_refl _, h⟩
theorem digF_le (l : List UInt8) (base : Int) : ∀ f p n, p ≤ l.length → p ≤ (digF l base f p n).2 ∧ (digF l base f p n).2 ≤ l.length
 | 0, p, n, h => ⟨Nat.le_refl _, h⟩
 | f + 1, p, n, h => by
  unfold digF
  split
  ·rename_i hp
   split
   ·exact ⟨Nat.le_refl _, h⟩
   ·have h1 := wide_in hp
    have h2 := digF_le l base f _ (min (n * base + digR (runeR (l.drop p))) 4294967297) h1
    exact ⟨by omega, h2.2⟩
  ·exact ⟨Nat.le_refl _, h⟩
theorem digF_range (l : List UInt8) (base : Int) (hb : 0 ≤ base) : ∀ f p n, 0 ≤ n → n ≤ 4294967297 → 0 ≤ (digF l base f p n).1 ∧ (digF l base f p n).1 ≤ 4294967297
 | 0, p, n, h, h' => ⟨h, h'⟩
 | f + 1, p, n, h, h' => by
  unfold digF
  split
  ·split
   ·exact ⟨h, h'⟩
   ·have h1 := digR_range (runeR (l.drop p))
    have h2 : 0 ≤ n * base := Int.mul_nonneg h hb
    exact digF_range l base hb f _ _ (by omega) (by omega)
  ·exact ⟨h, h'⟩
theorem nameF_more (l : List UInt8) : ∀ f p g, l.length ≤ p + f → nameF l (f + g) p = nameF l f p
 | 0, p, g, h => by
  rw [Nat.zero_add]
  cases g with
  | zero => rfl
  | succ g => unfold nameF; rw [if_neg (by omega)]
 | f + 1, p, g, h => by
  rw [show f + 1 + g = (f + g) + 1 by omega]
  unfold nameF
  split
  ·split
   ·exact nameF_more l f _ g (by have := wideR_pos (l.drop p); omega)
   ·rfl
  ·rfl
theorem digF_more (l : List UInt8) (base : Int) : ∀ f p n g, l.length ≤ p + f → digF l base (f + g) p n = digF l base f p n
 | 0, p, n, g, h => by
  rw [Nat.zero_add]
  cases g with
  | zero => rfl
  | succ g => unfold digF; rw [if_neg (by omega)]
 | f + 1, p, n, g, h => by
  rw [show f + 1 + g = (f + g) + 1 by omega]
  unfold digF
  split
  ·split
   ·rfl
   ·exact digF_more l base f _ _ g (by have := wideR_pos (l.drop p); omega)
  ·rfl
theorem nameF_drop (l : List UInt8) (q : Nat) (hq : q ≤ l.length) : ∀ f p, nameF (l.drop q) f p + q = nameF l f (q + p)
 | 0, p => Nat.add_comm _ _
 | f + 1, p => by
  unfold nameF
  rw [List.length_drop, List.drop_drop]
  by_cases h : q + p < l.length
  ·rw [if_pos (by omega), if_pos h]
   split
   ·rw [nameF_drop l q hq f _, Nat.add_assoc]
   ·exact Nat.add_comm _ _
  ·rw [if_neg (by omega), if_neg h]; exact Nat.add_comm _ _
theorem digF_drop (l : List UInt8) (base : Int) (q : Nat) (hq : q ≤ l.length) : ∀ f p n, (digF (l.drop q) base f p n).1 = (digF l base f (q + p) n).1 ∧ (digF (l.drop q) base f p n).2 + q = (digF l base f (q + p) n).2
 | 0, p, n => ⟨rfl, Nat.add_comm _ _⟩
 | f + 1, p, n => by
  unfold digF
  rw [List.length_drop, List.drop_drop]
  by_cases h : q + p < l.length
  ·rw [if_pos (by omega), if_pos h]
   split
   ·exact ⟨rfl, Nat.add_comm _ _⟩
   ·have := digF_drop l base q hq f (p + wideR (l.drop (q + p))) (min (n * base + digR (runeR (l.drop (q + p)))) 4294967297)
    rw [Nat.add_assoc]
    exact this
  ·rw [if_neg (by omega), if_neg h]; exact ⟨rfl, Nat.add_comm _ _⟩
def nameZ (l : List UInt8) : Nat := nameF l l.length 0
def digZ (l : List UInt8) (base : Int) : Int × Nat := digF l base l.length 0 0
def numZ (l : List UInt8) : Int × Nat :=
 if hasPrefix l [48, 120] = true ∧ 0 < (digZ (l.drop 2) 16).2 then ((digZ (l.drop 2) 16).1, 2 + (digZ (l.drop 2) 16).2)
 else if hasPrefix l [45] = true ∧ 0 < (digZ (l.drop 1) 10).2 then (-(digZ (l.drop 1) 10).1, 1 + (digZ (l.drop 1) 10).2)
 else digZ l 10
theorem nameZ_le (l : List UInt8) : nameZ l ≤ l.length := (nameF_le l _ 0 (Nat.zero_le _)).2
theorem digZ_le (l : List UInt8) (base : Int) : (digZ l base).2 ≤ l.length := (digF_le l base _ 0 0 (Nat.zero_le _)).2
theorem digZ_range (l : List UInt8) {base : Int} (hb : 0 ≤ base) : 0 ≤ (digZ l base).1 ∧ (digZ l base).1 ≤ 4294967297 := digF_range l base hb _ _ _ (Int.le_refl _) (by omega)
theorem prefix_len {l p : List UInt8} (h : hasPrefix l p = true) : p.length ≤ l.length := by
 unfold hasPrefix at h
 exact (List.isPrefixOf_iff_prefix.1 h).length_le
theorem numZ_le (l : List UInt8) : (numZ l).2 ≤ l.length := by
 unfold numZ
 have h1 := digZ_le (l.drop 2) 16
 have h2 := digZ_le (l.drop 1) 10
 simp only [List.length_drop] at h1 h2
 split
 ·rename_i h; have := prefix_len h.1; simp at this; simp only; omega
 split
 ·rename_i h; have := prefix_len h.1; simp at this; simp only; omega
 ·exact digZ_le l 10
theorem numZ_range (l : List UInt8) : -4294967297 ≤ (numZ l).1 ∧ (numZ l).1 ≤ 4294967297 := by
 unfold numZ
 have h1 := digZ_range (l.drop 2) (base := 16) (by omega)
 have h2 := digZ_range (l.drop 1) (base := 10) (by omega)
 have h3 := digZ_range l (base := 10) (by omega)
 split
 ·simp only; omega
 split
 ·simp only; omega
 ·omega
structure Tok where
 kind : Int
 num : Int
 at_ : Nat
 text : List UInt8
deriving DecidableEq
inductive LexR where
 | toks (t : List Tok)
 | bad (at_ : Nat) (e : Int)
deriving DecidableEq
structure LexS where
 behind : Nat
 remark : Bool
 toks : List Tok
def addZ (l : List UInt8) (kind num : Int) (p size : Nat) (x : LexS) : LexS := ⟨p + size, x.remark, x.toks ++ [⟨kind, num, p, (l.drop p).take size⟩]⟩
def lineB (t : List Tok) : Bool := match t.getLast? with | some k => decide (k.kind ≠ 4) | none => false
def lineZ (l : List UInt8) (p : Nat) (x : LexS) : LexS := if lineB x.toks = true then addZ l 4 0 p 1 x else x
def numberZ (l : List UInt8) (p : Nat) (x : LexS) : Int × LexS :=
 if (numZ (l.drop p)).2 = 0 then (5, x)
 else if (numZ (l.drop p)).1 < -4294967296 ∨ 4294967296 < (numZ (l.drop p)).1 then (8, x)
 else (0, addZ l 2 (numZ (l.drop p)).1 p (numZ (l.drop p)).2 x)
def takeZ (l : List UInt8) (p : Nat) (x : LexS) : Int × LexS :=
 if badR (l.drop p) = true then (5, x)
 else if runeR (l.drop p) = 10 then (0, lineZ l p { x with remark := false })
 else if x.remark = true ∨ blankR (runeR (l.drop p)) = true then (0, x)
 else if runeR (l.drop p) = 35 then (0, { x with remark := true })
 else if firstR (runeR (l.drop p)) = true then (0, addZ l 1 0 p (nameZ (l.drop p)) x)
 else if signR (runeR (l.drop p)) = true then (0, addZ l 3 0 p 1 x)
 else numberZ l p x
def lexF (l : List UInt8) : Nat → Nat → LexS → LexR
 | 0, _, x => .toks x.toks
 | f + 1, p, x =>
  if p < l.length then
   (if p < x.behind then lexF l f (p + wideR (l.drop p)) x
    else if (takeZ l p x).1 = 0 then lexF l f (p + wideR (l.drop p)) (takeZ l p x).2
    else .bad p (takeZ l p x).1)
  else .toks x.toks
def lexZ (l : List UInt8) : LexR := if 20000 < l.length then .bad 0 7 else lexF l l.length 0 ⟨0, false, []⟩
theorem lexF_more (l : List UInt8) : ∀ f p x g, l.length ≤ p + f → lexF l (f + g) p x = lexF l f p x
 | 0, p, x, g, h => by
  rw [Nat.zero_add]
  cases g with
  | zero => rfl
  | succ g => unfold lexF; rw [if_neg (by omega)]
 | f + 1, p, x, g, h => by
  rw [show f + 1 + g = (f + g) + 1 by omega]
  unfold lexF
  have hw := wideR_pos (l.drop p)
  split
  ·split
   ·exact lexF_more l f _ _ g (by omega)
   ·split
    ·exact lexF_more l f _ _ g (by omega)
    ·rfl
  ·rfl
end Go.Proofs.YtcaibahniheohaaDoor.Words

/- Plain mathematics of chapter 2: forms of operations, which instructions may be, the word of an instruction and the instruction of a word. Nothing here speaks of one program. -/
namespace Go.Proofs.YtcaibahniheohaaDoor.Words
set_option maxRecDepth 100000
open Go.RowKit
structure Ins where
 op : Int
 d : Int
 a : Int
 b : Int
 imm : Int
deriving DecidableEq
theorem Ins.eq_iff (i k : Ins) : i = k ↔ i.op = k.op ∧ i.d = k.d ∧ i.a = k.a ∧ i.b = k.b ∧ i.imm = k.imm := by
 cases i; cases k; simp
def Ins.Fits (i : Ins) : Prop :=
 (-9223372036854775808 ≤ i.op ∧ i.op ≤ 9223372036854775807) ∧ (-9223372036854775808 ≤ i.d ∧ i.d ≤ 9223372036854775807) ∧ (-9223372036854775808 ≤ i.a ∧ i.a ≤ 9223372036854775807) ∧
 (-9223372036854775808 ≤ i.b ∧ i.b ≤ 9223372036854775807) ∧ (-9223372036854775808 ≤ i.imm ∧ i.imm ≤ 9223372036854775807)
def formZ (op : Int) : Int :=
 if op < 1 ∨ 41 < op then 0 else if op ≤ 16 then 1 else if op ≤ 24 then 2 else if op = 25 then 3 else if op ≤ 30 then 4 else if op ≤ 33 then 5 else if op ≤ 39 then 6 else if op = 40 then 7 else 8
theorem formZ_cases (op : Int) : (formZ op = 0 ∧ (op < 1 ∨ 41 < op)) ∨ (formZ op = 1 ∧ 1 ≤ op ∧ op ≤ 16) ∨ (formZ op = 2 ∧ 17 ≤ op ∧ op ≤ 24) ∨ (formZ op = 3 ∧ op = 25) ∨ (formZ op = 4 ∧ 26 ≤ op ∧ op ≤ 30) ∨
  (formZ op = 5 ∧ 31 ≤ op ∧ op ≤ 33) ∨ (formZ op = 6 ∧ 34 ≤ op ∧ op ≤ 39) ∨ (formZ op = 7 ∧ op = 40) ∨ (formZ op = 8 ∧ op = 41) := by
 unfold formZ; repeat' split
 all_goals omega
theorem formZ_range (op : Int) : 0 ≤ formZ op ∧ formZ op ≤ 8 := by
 have := formZ_cases op; omega
def hasD (f : Int) : Bool := decide (f = 1 ∨ f = 2 ∨ f = 3 ∨ f = 4)
def hasA (f : Int) : Bool := decide (f = 1 ∨ f = 2 ∨ f = 4 ∨ f = 5 ∨ f = 6)
def hasB (f : Int) : Bool := decide (f = 1 ∨ f = 5 ∨ f = 6)
def hasI (f : Int) : Bool := decide (f = 2 ∨ f = 3 ∨ f = 4 ∨ f = 5 ∨ f = 6 ∨ f = 7)
def lowI (op : Int) : Int := if op = 22 ∨ op = 23 ∨ op = 24 then 0 else -8192
def highI (op : Int) : Int := if op = 22 ∨ op = 23 ∨ op = 24 then 31 else 8191
theorem lowI_cases (op : Int) : (lowI op = 0 ∧ highI op = 31 ∧ 22 ≤ op ∧ op ≤ 24) ∨ (lowI op = -8192 ∧ highI op = 8191 ∧ (op < 22 ∨ 24 < op)) := by
 unfold lowI highI; split <;> omega
def fitsB (n lo hi : Int) (had : Bool) : Bool := if had = true then decide (lo ≤ n ∧ n ≤ hi) else decide (n = 0)
def rightB (i : Ins) : Bool :=
 decide (formZ i.op ≠ 0) && fitsB i.d 0 15 (hasD (formZ i.op)) && fitsB i.a 0 15 (hasA (formZ i.op)) && fitsB i.b 0 15 (hasB (formZ i.op)) && fitsB i.imm (lowI i.op) (highI i.op) (hasI (formZ i.op))
theorem rightB_iff (i : Ins) : rightB i = true ↔
  (1 ≤ i.op ∧ i.op ≤ 41) ∧
  (if 1 ≤ i.op ∧ i.op ≤ 30 then 0 ≤ i.d ∧ i.d ≤ 15 else i.d = 0) ∧
  (if (1 ≤ i.op ∧ i.op ≤ 24) ∨ (26 ≤ i.op ∧ i.op ≤ 39) then 0 ≤ i.a ∧ i.a ≤ 15 else i.a = 0) ∧
  (if (1 ≤ i.op ∧ i.op ≤ 16) ∨ (31 ≤ i.op ∧ i.op ≤ 39) then 0 ≤ i.b ∧ i.b ≤ 15 else i.b = 0) ∧
  (if 17 ≤ i.op ∧ i.op ≤ 40 then lowI i.op ≤ i.imm ∧ i.imm ≤ highI i.op else i.imm = 0) := by
 have hd : fitsB i.d 0 15 (hasD (formZ i.op)) = true ↔ (if formZ i.op = 1 ∨ formZ i.op = 2 ∨ formZ i.op = 3 ∨ formZ i.op = 4 then 0 ≤ i.d ∧ i.d ≤ 15 else i.d = 0) := by
  unfold hasD; split <;> simp [fitsB, *]
 have ha : fitsB i.a 0 15 (hasA (formZ i.op)) = true ↔ (if formZ i.op = 1 ∨ formZ i.op = 2 ∨ formZ i.op = 4 ∨ formZ i.op = 5 ∨ formZ i.op = 6 then 0 ≤ i.a ∧ i.a ≤ 15 else i.a = 0) := by
  unfold hasA; split <;> simp [fitsB, *]
 have hb : fitsB i.b 0 15 (hasB (formZ i.op)) = true ↔ (if formZ i.op = 1 ∨ formZ i.op = 5 ∨ formZ i.op = 6 then 0 ≤ i.b ∧ i.b ≤ 15 else i.b = 0) := by
  unfold hasB; split <;> simp [fitsB, *]
 have hi : fitsB i.imm (lowI i.op) (highI i.op) (hasI (formZ i.op)) = true ↔ (if formZ i.op = 2 ∨ formZ i.op = 3 ∨ formZ i.op = 4 ∨ formZ i.op = 5 ∨ formZ i.op = 6 ∨ formZ i.op = 7 then lowI i.op ≤ i.imm ∧ i.imm ≤ highI i.op else i.imm = 0) := by
  unfold hasI; split <;> simp [fitsB, *]
 have c := formZ_cases i.op
 have hd' : (formZ i.op = 1 ∨ formZ i.op = 2 ∨ formZ i.op = 3 ∨ formZ i.op = 4) ↔ (1 ≤ i.op ∧ i.op ≤ 30) := by omega
 have ha' : (formZ i.op = 1 ∨ formZ i.op = 2 ∨ formZ i.op = 4 ∨ formZ i.op = 5 ∨ formZ i.op = 6) ↔ ((1 ≤ i.op ∧ i.op ≤ 24) ∨ (26 ≤ i.op ∧ i.op ≤ 39)) := by omega
 have hb' : (formZ i.op = 1 ∨ formZ i.op = 5 ∨ formZ i.op = 6) ↔ ((1 ≤ i.op ∧ i.op ≤ 16) ∨ (31 ≤ i.op ∧ i.op ≤ 39)) := by omega
 have hi' : (formZ i.op = 2 ∨ formZ i.op = 3 ∨ formZ i.op = 4 ∨ formZ i.op = 5 ∨ formZ i.op = 6 ∨ formZ i.op = 7) ↔ (17 ≤ i.op ∧ i.op ≤ 40) := by omega
 have h0' : (formZ i.op ≠ 0) ↔ (1 ≤ i.op ∧ i.op ≤ 41) := by omega
 simp only [hd', ha', hb', hi'] at hd ha hb hi
 unfold rightB
 rw [Bool.and_eq_true, Bool.and_eq_true, Bool.and_eq_true, Bool.and_eq_true, hd, ha, hb, hi, decide_eq_true_iff, h0', and_assoc, and_assoc, and_assoc]
theorem right_range {i : Ins} (h : rightB i = true) : (1 ≤ i.op ∧ i.op ≤ 41) ∧ (0 ≤ i.d ∧ i.d ≤ 15) ∧ (0 ≤ i.a ∧ i.a ≤ 15) ∧ (0 ≤ i.b ∧ i.b ≤ 15) ∧ (-8192 ≤ i.imm ∧ i.imm ≤ 8191) := by
 rw [rightB_iff] at h
 have := lowI_cases i.op
 obtain ⟨h0, h1, h2, h3, h4⟩ := h
 refine ⟨h0, ?_, ?_, ?_, ?_⟩
 ·split at h1 <;> omega
 ·split at h2 <;> omega
 ·split at h3 <;> omega
 ·split at h4 <;> omega
end Go.Proofs.YtcaibahniheohaaDoor.Words

/- Plain lemmas for walks over slices: what a slice reads as ('Row'), kept over new blocks, draws and whatever turns nothing below a block number. Nothing here speaks of one program. -/
namespace Go.Proofs.YtcaibahniheohaaDoor.Words
set_option maxRecDepth 100000
open Go.RowKit
def Row (w : World) (B size : Nat) (v : Value) (n : Nat) (xs : List Value) : Prop :=
 xs.length = n * size ∧ ∃ A c, v = .slice A n c ∧ n ≤ c ∧ c ≤ 9223372036854775807 ∧ (A = none → c = 0) ∧
  (n ≠ 0 → ∃ b off, A = some ⟨b, off, none⟩ ∧ b < B ∧ ∀ j u, xs[j]? = some u → w.cell? ⟨b, off + j, none⟩ = some u)
theorem add_spot (b off j : Nat) : (⟨b, off, none⟩ : Addr).add j = ⟨b, off + j, none⟩ := by
 unfold Addr.add
 split
 ·subst_vars; rfl
 ·rfl
section
variable {w w' : World} {B size : Nat} {v : Value} {n : Nat} {xs : List Value}
theorem Row.keep (h : Row w B size v n xs) (hk : ∀ p : Addr, p.block < B → w'.cell? p = w.cell? p) : Row w' B size v n xs := by
 obtain ⟨h0, A, c, h1, h2, h3, h4, h5⟩ := h
 refine ⟨h0, A, c, h1, h2, h3, h4, fun hn => ?_⟩
 obtain ⟨b, off, e, hb, hc⟩ := h5 hn
 exact ⟨b, off, e, hb, fun j u hu => (hk _ hb).trans (hc j u hu)⟩
theorem Row.more {B' : Nat} (h : Row w B size v n xs) (hB : B ≤ B') : Row w B' size v n xs := by
 obtain ⟨h0, A, c, h1, h2, h3, h4, h5⟩ := h
 refine ⟨h0, A, c, h1, h2, h3, h4, fun hn => ?_⟩
 obtain ⟨b, off, e, hb, hc⟩ := h5 hn
 exact ⟨b, off, e, Nat.lt_of_lt_of_le hb hB, hc⟩
theorem Row.below (h : Row w B size v n xs) (hb : Below B w w') : Row w' B size v n xs := h.keep fun _ hp => hb.cell hp
theorem Row.drewN (h : Row w B size v n xs) (k : Nat) : Row (w.drewN k) B size v n xs := h
theorem Row.drew (h : Row w B size v n xs) : Row w.drew B size v n xs := h
theorem Row.alloc (h : Row w B size v n xs) (hB : B ≤ w.heap.size) (o : Obj) : Row (w.alloc o) B size v n xs := h.keep fun p hp => World.cell?_alloc_lt w o p (by omega)
theorem Row.nil (w : World) (B size : Nat) : Row w B size (.slice none 0 0) 0 [] := ⟨by simp, none, 0, rfl, Nat.le_refl _, by omega, fun _ => rfl, fun h => absurd rfl h⟩
theorem Row.of_own {base : Nat} {e : TypeId} (h : w.ownsRow base e size v n xs) : Row w w.heap.size size v n xs := by
 refine ⟨h.1, ?_⟩
 rcases h.2 with ⟨rfl, rfl⟩ | ⟨g, cap, cur, rfl, hb, hg, h1, h2, h3, h4⟩
 ·exact ⟨none, 0, rfl, Nat.le_refl _, by omega, fun _ => rfl, fun h => absurd rfl h⟩
 ·refine ⟨_, _, rfl, h1, by simpa [maxLen] using h2, (fun h => by cases h), fun _ => ⟨g, 0, rfl, (Array.getElem?_eq_some_iff.1 hg).1, fun j u hu => ?_⟩⟩
  have := h.cells (g := g) rfl j u hu
  rwa [add_spot] at this
theorem Row.of_ints {k : IntKind} {x : Addr} {len cap : Nat} {zs : List Int} (hl : len ≤ cap) (hm : cap ≤ maxLen) (hz : zs.length = cap) (hc : ∀ i, i < zs.length → w.cell? (x.add i) = some (.int k (zs.getD i 0))) :
  Row w w.heap.size 1 (.slice (some x) len cap) len ((zs.take len).map (Value.int k)) := by
 refine ⟨by simp; omega, some x, cap, rfl, hl, by simpa [maxLen] using hm, (fun h => by cases h), fun hn => ?_⟩
 obtain ⟨b, off, spot⟩ := x
 have h0 := hc 0 (by omega)
 have hs : spot = none := by simpa [Addr.add] using World.cell?_spot h0
 subst hs
 refine ⟨b, off, rfl, ?_, fun j u hu => ?_⟩
 ·rw [add_spot] at h0
  unfold World.cell? at h0
  rcases hh : w.heap[b]? with _ | o
  ·simp [hh] at h0
  ·exact (Array.getElem?_eq_some_iff.1 hh).1
 ·have hj : j < len := by
   rw [List.getElem?_eq_some_iff] at hu
   obtain ⟨h, _⟩ := hu
   simp at h; omega
  have := hc j (by omega)
  rw [add_spot] at this
  rw [this, ← hu, List.getElem?_map, List.getElem?_take, if_pos hj, List.getD_eq_getElem?_getD, List.getElem?_eq_getElem (by omega)]
  rfl
theorem Row.cells {A : Option Addr} {c : Nat} (h : Row w B size (.slice A n c) n xs) : ∀ ad, A = some ad → ∀ j u, xs[j]? = some u → w.cell? (ad.add j) = some u := by
 obtain ⟨h0, A', c', h1, h2, h3, h4, h5⟩ := h
 injection h1 with e1 _ e2
 subst e1 e2
 intro ad had j u hu
 by_cases hn : n = 0
 ·subst hn
  have : xs = [] := List.eq_nil_of_length_eq_zero (by simpa using h0)
  subst this
  simp at hu
 ·obtain ⟨b, off, e, hb, hc⟩ := h5 hn
  rw [had] at e
  injection e with e
  subst e
  rw [add_spot]
  exact hc j u hu
theorem Row.bare {A : Option Addr} {c : Nat} (h : Row w B size (.slice A n c) n xs) : A = none → n = 0 ∧ c = 0 := by
 obtain ⟨h0, A', c', h1, h2, h3, h4, h5⟩ := h
 injection h1 with e1 _ e2
 subst e1 e2
 intro hA
 have := h4 hA
 exact ⟨by omega, this⟩
theorem Row.cap {A : Option Addr} {c : Nat} (h : Row w B size (.slice A n c) n xs) : n ≤ c ∧ c ≤ 9223372036854775807 := by
 obtain ⟨h0, A', c', h1, h2, h3, h4, h5⟩ := h
 injection h1 with e1 _ e2
 subst e1 e2
 exact ⟨h2, h3⟩
theorem Row.len {A : Option Addr} {c : Nat} (h : Row w B size (.slice A n c) n xs) : xs.length = n * size := h.1
theorem Row.form (h : Row w B size v n xs) : ∃ A c, v = .slice A n c := by
 obtain ⟨h0, A, c, h1, _⟩ := h
 exact ⟨A, c, h1⟩
theorem Row.at_ {A : Option Addr} {c : Nat} (h : Row w B size (.slice A n c) n xs) (hn : n ≠ 0) :
  ∃ b off, A = some ⟨b, off, none⟩ ∧ b < B ∧ ∀ j u, xs[j]? = some u → w.cell? ⟨b, off + j, none⟩ = some u := by
 obtain ⟨h0, A', c', h1, h2, h3, h4, h5⟩ := h
 injection h1 with e1 _ e2
 subst e1 e2
 exact h5 hn
end
theorem new_cells (w : World) (cs : Array Value) (t : TypeId) (xs : List Value) (h : cs.toList = xs) : ∀ j u, xs[j]? = some u → (w.alloc (.cells cs t)).cell? ((⟨w.heap.size, 0, none⟩ : Addr).add j) = some u := by
 intro j u hu
 subst h
 rw [add_spot, Nat.zero_add, World.cell?_alloc_new]
 simpa using hu
theorem Below.drewN_ {B : Nat} {a w : World} (h : Below B a w) (n : Nat) : Below B a (w.drewN n) := ⟨h.os, h.tape, h.output, h.size, h.block⟩
theorem ret_int {k : IntKind} {a b : Int} (h : a = b) : Ending.returned (.int k a) = .returned (.int k b) := by rw [h]
theorem ret_bool_iff {a b : Bool} (h : a = true ↔ b = true) : Ending.returned (.bool a) = .returned (.bool b) := by rw [Bool.eq_iff_iff.2 h]
theorem ret_bool {a b : Bool} (h : a = b) : Ending.returned (.bool a) = .returned (.bool b) := by rw [h]
theorem bcell {W w1 : World} (hb : Below W.heap.size W w1) : (∀ b o, b < W.heap.size → w1.cell? ⟨b, o, none⟩ = W.cell? ⟨b, o, none⟩) ∧ (∀ b o, b < W.heap.size → w1.frozen? ⟨b, o, none⟩ = W.frozen? ⟨b, o, none⟩) :=
 ⟨fun b o h => hb.cell (p := ⟨b, o, none⟩) h, fun b o h => hb.frozen (p := ⟨b, o, none⟩) h⟩
end Go.Proofs.YtcaibahniheohaaDoor.Words

/- Programs as plain data: a program's value (two slices and a size), what its rows read as, cell by cell. Nothing here speaks of one program text. -/
namespace Go.Proofs.YtcaibahniheohaaDoor.Words
set_option maxRecDepth 100000
open Go.RowKit
def insCells (i : Ins) : List Value := [.int .i64 i.op, .int .i64 i.d, .int .i64 i.a, .int .i64 i.b, .int .i64 i.imm]
def codeCells (l : List Ins) : List Value := l.flatMap insCells
theorem codeCells_cons (i : Ins) (l : List Ins) : codeCells (i :: l) = insCells i ++ codeCells l := by simp [codeCells]
theorem codeCells_append (l m : List Ins) : codeCells (l ++ m) = codeCells l ++ codeCells m := by simp [codeCells]
theorem codeCells_length (l : List Ins) : (codeCells l).length = l.length * 5 := by
 induction l with
 | nil => rfl
 | cons i l ih => rw [codeCells_cons, List.length_append, ih]; simp [insCells]; omega
theorem codeCells_at (l : List Ins) (k : Nat) (i : Ins) (h : l[k]? = some i) (j : Nat) (hj : j < 5) : (codeCells l)[k * 5 + j]? = (insCells i)[j]? := by
 induction l generalizing k with
 | nil => simp at h
 | cons x l ih =>
  rw [codeCells_cons]
  cases k with
  | zero =>
   simp at h; subst h
   rw [List.getElem?_append_left (by simp [insCells]; omega), Nat.zero_mul, Nat.zero_add]
  | succ k =>
   simp at h
   have h5 : (insCells x).length = 5 := rfl
   rw [List.getElem?_append_right (by omega), h5, show (k + 1) * 5 + j - 5 = k * 5 + j by omega]
   exact ih k h
structure Prog where
 code : List Ins
 size : Int
 data : List Int
deriving DecidableEq
theorem Prog.eq_iff (p q : Prog) : p = q ↔ p.code = q.code ∧ p.size = q.size ∧ p.data = q.data := by cases p; cases q; simp
def Prog.Fits (p : Prog) : Prop :=
 (∀ i ∈ p.code, i.Fits) ∧ (-9223372036854775808 ≤ p.size ∧ p.size ≤ 9223372036854775807) ∧ (∀ b ∈ p.data, 0 ≤ b ∧ b ≤ 255)
structure ProgV (w : World) (B : Nat) (vc vd : Value) (p : Prog) : Prop where
 code : Row w B 5 vc p.code.length (codeCells p.code)
 data : Row w B 1 vd p.data.length (p.data.map (Value.int .u8))
section
variable {w w' : World} {B : Nat} {vc vd : Value} {p : Prog}
theorem ProgV.keep (h : ProgV w B vc vd p) (hk : ∀ a : Addr, a.block < B → w'.cell? a = w.cell? a) : ProgV w' B vc vd p := ⟨h.code.keep hk, h.data.keep hk⟩
theorem ProgV.more {B' : Nat} (h : ProgV w B vc vd p) (hB : B ≤ B') : ProgV w B' vc vd p := ⟨h.code.more hB, h.data.more hB⟩
theorem ProgV.below (h : ProgV w B vc vd p) (hb : Below B w w') : ProgV w' B vc vd p := ⟨h.code.below hb, h.data.below hb⟩
theorem ProgV.drewN (h : ProgV w B vc vd p) (k : Nat) : ProgV (w.drewN k) B vc vd p := ⟨h.code, h.data⟩
theorem ProgV.alloc (h : ProgV w B vc vd p) (hB : B ≤ w.heap.size) (o : Obj) : ProgV (w.alloc o) B vc vd p := ⟨h.code.alloc hB o, h.data.alloc hB o⟩
end
theorem Row.ins {w : World} {B n c : Nat} {b off : Nat} {l : List Ins} (h : Row w B 5 (.slice (some ⟨b, off, none⟩) n c) n (codeCells l)) {k : Nat} {i : Ins} (hi : l[k]? = some i) :
  w.cell? ⟨b, off + k * 5, none⟩ = some (.int .i64 i.op) ∧ w.cell? ⟨b, off + k * 5 + 1, none⟩ = some (.int .i64 i.d) ∧ w.cell? ⟨b, off + k * 5 + 2, none⟩ = some (.int .i64 i.a) ∧
  w.cell? ⟨b, off + k * 5 + 3, none⟩ = some (.int .i64 i.b) ∧ w.cell? ⟨b, off + k * 5 + 4, none⟩ = some (.int .i64 i.imm) := by
 have g : ∀ j u, j < 5 → (insCells i)[j]? = some u → w.cell? ⟨b, off + k * 5 + j, none⟩ = some u := by
  intro j u hj hu
  have := h.cells ⟨b, off, none⟩ rfl (k * 5 + j) u ((codeCells_at l k i hi j hj).trans hu)
  rwa [add_spot, ← Nat.add_assoc] at this
 exact ⟨g 0 _ (by omega) rfl, g 1 _ (by omega) rfl, g 2 _ (by omega) rfl, g 3 _ (by omega) rfl, g 4 _ (by omega) rfl⟩
def isJump (i : Ins) : Bool := decide (34 ≤ i.op ∧ i.op ≤ 40)
def targetZ (n : Nat) (k : Nat) (i : Ins) : Int :=
 if isJump i = false ∨ i.imm < -8192 ∨ 8191 < i.imm ∨ (k : Int) + i.imm < 0 ∨ (n : Int) ≤ k + i.imm then -1 else k + i.imm
theorem isJump_form (i : Ins) : isJump i = true ↔ formZ i.op = 6 ∨ formZ i.op = 7 := by
 have := formZ_cases i.op
 unfold isJump; rw [decide_eq_true_iff]; omega
def badTarget (n k : Nat) (i : Ins) : Bool := isJump i && decide (targetZ n k i < 0)
def targetsOk (n : Nat) : Nat → List Ins → Bool
 | _, [] => true
 | k, i :: l => !badTarget n k i && targetsOk n (k + 1) l
def Prog.targets (p : Prog) : Bool := targetsOk p.code.length 0 p.code
def Prog.right (p : Prog) : Bool :=
 decide (1 ≤ p.code.length ∧ p.code.length ≤ 2000 ∧ 0 ≤ p.size ∧ p.size ≤ 65536 ∧ (p.data.length : Int) ≤ p.size) && p.code.all rightB && p.targets
end Go.Proofs.YtcaibahniheohaaDoor.Words

/- Programs of tokens: plain mathematics over lists of tokens. Nothing here speaks of one program text. -/
namespace Go.Proofs.YtcaibahniheohaaDoor.Words
set_option maxRecDepth 100000
set_option linter.unusedVariables false
def regF (l : List UInt8) : Nat → Nat → Int → Option Int
 | 0, _, n => if 1 < l.length then some n else none
 | f + 1, p, n =>
  if p < l.length then
   (if p = 0 ∧ runeR (l.drop p) = 114 then regF l f (p + wideR (l.drop p)) n
    else if p = 0 ∨ runeR (l.drop p) < 48 ∨ 57 < runeR (l.drop p) ∨ (1 < p ∧ n = 0) then none
    else if 15 < n * 10 + (runeR (l.drop p) - 48) then none
    else regF l f (p + wideR (l.drop p)) (n * 10 + (runeR (l.drop p) - 48)))
  else if 1 < l.length then some n else none
def regZ (l : List UInt8) : Option Int := regF l l.length 0 0
theorem regF_range (l : List UInt8) : ∀ f p n k, 0 ≤ n → n ≤ 15 → regF l f p n = some k → 0 ≤ k ∧ k ≤ 15
 | 0, p, n, k, h0, h1, h => by unfold regF at h; split at h <;> simp at h; omega
 | f + 1, p, n, k, h0, h1, h => by
  unfold regF at h
  split at h
  ·split at h
   ·exact regF_range l f _ n k h0 h1 h
   ·split at h
    ·cases h
    ·split at h
     ·cases h
     ·rename_i h2 h3 h4
      exact regF_range l f _ _ k (by omega) (by omega) h
  ·split at h <;> simp at h; omega
theorem regZ_range {l : List UInt8} {k : Int} (h : regZ l = some k) : 0 ≤ k ∧ k ≤ 15 := regF_range l _ 0 0 k (Int.le_refl _) (by omega) h
def namesZ : List (List UInt8) := [[97, 100, 100], [115, 117, 98], [97, 110, 100], [111, 114], [120, 111, 114], [115, 108, 108], [115, 114, 108], [115, 114, 97], [115, 108, 116], [115, 108, 116, 117], [109, 117, 108], [109, 117, 108, 104], [100, 105, 118], [100, 105, 118, 117], [114, 101, 109], [114, 101, 109, 117], [97, 100, 100, 105], [97, 110, 100, 105], [111, 114, 105], [120, 111, 114, 105], [115, 108, 116, 105], [115, 108, 108, 105], [115, 114, 108, 105], [115, 114, 97, 105], [108, 117, 105], [108, 119], [108, 104], [108, 104, 117], [108, 98], [108, 98, 117], [115, 119], [115, 104], [115, 98], [98, 101, 113], [98, 110, 101], [98, 108, 116], [98, 103, 101], [98, 108, 116, 117], [98, 103, 101, 117], [106], [104, 97, 108, 116]]
def opF (t : List UInt8) : List (List UInt8) → Int → Int
 | [], _ => 0
 | n :: ns, i => if n = t then i + 1 else opF t ns (i + 1)
def opZ (t : List UInt8) : Int := opF t namesZ 0
structure PartZ where
 kind : Int
 at_ : Nat
 num : Int
 name : List UInt8
 ins : Ins
 target : Tok
deriving DecidableEq
abbrev tok0 : Tok := ⟨0, 0, 0, []⟩
abbrev ins0 : Ins := ⟨0, 0, 0, 0, 0⟩
def headAt (r : List Tok) (e : Nat) : Nat := match r with | t :: _ => t.at_ | [] => e
def nextT (r : List Tok) (e : Nat) : Tok := match r with | t :: _ => t | [] => ⟨0, 0, e, []⟩
def isS (t : Tok) (c : List UInt8) : Bool := decide (t.kind = 3 ∧ t.text = c)
def signT (c : List UInt8) : List Tok → Bool × List Tok
 | t :: ts => if isS t c = true then (true, ts) else (false, t :: ts)
 | [] => (false, [])
def immT : List Tok → Option Int × List Tok
 | t :: ts => if t.kind = 2 then (some t.num, ts) else (none, t :: ts)
 | [] => (none, [])
def regT : List Tok → Option Int × List Tok
 | t :: ts => match regZ t.text with | some n => (some n, ts) | none => (none, t :: ts)
 | [] => (none, [])
def fieldT (c : Int) (x : PartZ) (r : List Tok) : Bool × PartZ × List Tok :=
 if c = 68 then (match regT r with | (some n, ts) => (true, { x with ins := { x.ins with d := n } }, ts) | (none, ts) => (false, x, ts))
 else if c = 65 then (match regT r with | (some n, ts) => (true, { x with ins := { x.ins with a := n } }, ts) | (none, ts) => (false, x, ts))
 else if c = 66 then (match regT r with | (some n, ts) => (true, { x with ins := { x.ins with b := n } }, ts) | (none, ts) => (false, x, ts))
 else if c = 78 then (match immT r with | (some n, ts) => (true, { x with ins := { x.ins with imm := n } }, ts) | (none, ts) => (false, x, ts))
 else if c = 84 then (match r with
  | t :: ts => if t.kind = 1 then (true, { x with target := t }, ts) else (match immT (t :: ts) with | (some n, ts) => (true, { x with ins := { x.ins with imm := n } }, ts) | (none, ts) => (false, x, ts))
  | [] => (false, x, []))
 else ((signT [UInt8.ofNat c.toNat] r).1, x, (signT [UInt8.ofNat c.toNat] r).2)
def fieldsT : List UInt8 → PartZ → List Tok → Bool × PartZ × List Tok
 | [], x, r => (true, x, r)
 | c :: cs, x, r => if (fieldT c.toNat x r).1 = true then fieldsT cs (fieldT c.toNat x r).2.1 (fieldT c.toNat x r).2.2 else fieldT c.toNat x r
def shapesZ : List (List UInt8) := [[], [68, 44, 65, 44, 66], [68, 44, 65, 44, 78], [68, 44, 78], [68, 44, 78, 40, 65, 41], [66, 44, 78, 40, 65, 41], [65, 44, 66, 44, 84], [84], []]
def shapeZ (op : Int) : List UInt8 := shapesZ.getD (formZ op).toNat []
def insT (op : Int) (at_ : Nat) (r : List Tok) : Bool × List Tok × List PartZ :=
 if (fieldsT (shapeZ op) ⟨2, at_, 0, [], ⟨op, 0, 0, 0, 0⟩, tok0⟩ r).1 = true then
  (true, (fieldsT (shapeZ op) ⟨2, at_, 0, [], ⟨op, 0, 0, 0, 0⟩, tok0⟩ r).2.2, [(fieldsT (shapeZ op) ⟨2, at_, 0, [], ⟨op, 0, 0, 0, 0⟩, tok0⟩ r).2.1])
 else (false, (fieldsT (shapeZ op) ⟨2, at_, 0, [], ⟨op, 0, 0, 0, 0⟩, tok0⟩ r).2.2, [])
def numT (kind : Int) : List Tok → Bool × List Tok × List PartZ
 | t :: ts => if t.kind = 2 then (true, ts, [⟨kind, t.at_, t.num, [], ins0, tok0⟩]) else (false, t :: ts, [])
 | [] => (false, [], [])
def byteF : Nat → Bool → List Tok → Bool × List Tok × List PartZ
 | 0, ok, r => (ok, r, [])
 | f + 1, ok, r =>
  if ok = true then
   (if (signT [44] r).1 = true then
    ((byteF f (numT 4 (signT [44] r).2).1 (numT 4 (signT [44] r).2).2.1).1, (byteF f (numT 4 (signT [44] r).2).1 (numT 4 (signT [44] r).2).2.1).2.1,
     (numT 4 (signT [44] r).2).2.2 ++ (byteF f (numT 4 (signT [44] r).2).1 (numT 4 (signT [44] r).2).2.1).2.2)
    else (true, r, []))
  else (false, r, [])
def bytesT (r : List Tok) : Bool × List Tok × List PartZ :=
 ((byteF r.length (numT 4 r).1 (numT 4 r).2.1).1, (byteF r.length (numT 4 r).1 (numT 4 r).2.1).2.1, (numT 4 r).2.2 ++ (byteF r.length (numT 4 r).1 (numT 4 r).2.1).2.2)
def labelT : List Tok → Option (PartZ × List Tok)
 | n :: c :: ts => if n.kind = 1 ∧ isS c [58] = true then some (⟨1, n.at_, 0, n.text, ins0, tok0⟩, ts) else none
 | _ => none
def labelsF : Nat → List Tok → List Tok × List PartZ
 | 0, r => (r, [])
 | f + 1, r => match labelT r with
  | some (p, ts) => ((labelsF f ts).1, p :: (labelsF f ts).2)
  | none => (r, [])
def sizeN : List UInt8 := [115, 105, 122, 101]
def byteN : List UInt8 := [98, 121, 116, 101]
def stmtT : List Tok → Bool × List Tok × List PartZ
 | t :: ts =>
  if t.kind ≠ 1 then (true, t :: ts, [])
  else if 0 < opZ t.text then insT (opZ t.text) t.at_ ts
  else if t.text = sizeN then numT 3 ts
  else if t.text = byteN then bytesT ts
  else (false, t :: ts, [])
 | [] => (true, [], [])
def endT : List Tok → Bool × List Tok
 | t :: ts => if t.kind = 4 then (true, ts) else (false, t :: ts)
 | [] => (true, [])
def lineT (r : List Tok) : Bool × List Tok × List PartZ :=
 if (stmtT (labelsF r.length r).1).1 = true then
  ((endT (stmtT (labelsF r.length r).1).2.1).1, (endT (stmtT (labelsF r.length r).1).2.1).2, (labelsF r.length r).2 ++ (stmtT (labelsF r.length r).1).2.2)
 else (false, (stmtT (labelsF r.length r).1).2.1, (labelsF r.length r).2 ++ (stmtT (labelsF r.length r).1).2.2)
def textF : Nat → List Tok → Bool × List Tok × List PartZ
 | 0, r => (true, r, [])
 | f + 1, r =>
  if r = [] then (true, [], [])
  else if (lineT r).1 = true then ((textF f (lineT r).2.1).1, (textF f (lineT r).2.1).2.1, (lineT r).2.2 ++ (textF f (lineT r).2.1).2.2)
  else lineT r
def textT (r : List Tok) : Bool × List Tok × List PartZ := textF r.length r
def placeF (name : List UInt8) : List PartZ → Int → Option Int
 | [], _ => none
 | x :: xs, n => if x.kind = 1 ∧ x.name = name then some n else placeF name xs (if x.kind = 2 then n + 1 else n)
def hasL (name : List UInt8) (l : List PartZ) : Bool := l.any (fun y => decide (y.kind = 1 ∧ y.name = name))
inductive AsmR where
 | ok (p : Prog)
 | bad (at_ : Nat) (e : Int)
deriving DecidableEq
def aimZ (all : List PartZ) (x : PartZ) (n : Nat) : Option Ins :=
 if x.target.kind = 1 then (match placeF x.target.text all 0 with | some k => some { x.ins with imm := k - n } | none => none) else some x.ins
def layF (all : List PartZ) : List PartZ → List PartZ → Prog → AsmR
 | _, [], p => .ok p
 | pre, x :: xs, p =>
  if x.kind = 1 then (if hasL x.name pre = true then .bad x.at_ 6 else layF all (pre ++ [x]) xs p)
  else if x.kind = 3 then layF all (pre ++ [x]) xs { p with size := x.num }
  else if x.kind = 4 then (if x.num < 0 ∨ 255 < x.num then .bad x.at_ 8 else layF all (pre ++ [x]) xs { p with data := p.data ++ [x.num] })
  else if x.kind = 2 then (match aimZ all x p.code.length with
   | none => .bad x.target.at_ 6
   | some i => if rightB i = true then layF all (pre ++ [x]) xs { p with code := p.code ++ [i] } else .bad x.at_ 8)
  else layF all (pre ++ [x]) xs p
end Go.Proofs.YtcaibahniheohaaDoor.Words

/- The library's tables that a text's splitting reads, kept; contracts of package lex's small functions. -/
namespace Go.Proofs.YtcaibahniheohaaDoor.Words
set_option maxRecDepth 100000
open Go.RowKit Go.Shelf Go.Lib
set_option linter.unusedVariables false
def Tabs (w : World) : Prop := Lib.TabIs Tryd.prog w "unicode.properties" .u8 Lib.propertiesTab ∧ RVar 1 letterT w ∧ Lib.Utf8Tabs 4 5 w
theorem Tabs.below {w w' : World} (h : Tabs w) (hb : Below w.heap.size w w') : Tabs w' :=
 ⟨TabIs_below (g := 0) (by kernel_rfl) h.1 hb, RVar_below h.2.1 hb, Utf8Tabs_below h.2.2 hb⟩
def TabsB (B : Nat) (w : World) : Prop := ∀ x, Below B w x → Tabs x
theorem TabsB.now {B : Nat} {w : World} (h : TabsB B w) : Tabs w := h w (Below.refl _ _)
theorem TabsB.go {B : Nat} {w w' : World} (h : TabsB B w) (hb : Below B w w') : TabsB B w' := fun x hx => h x (hb.trans hx)
theorem Tabs.all {w : World} (h : Tabs w) : TabsB w.heap.size w := fun x hx => h.below hx
end Go.Proofs.YtcaibahniheohaaDoor.Words

/- Contracts of package lex's loops over a text: the name, the digits and the number that it begins with. -/
namespace Go.Proofs.YtcaibahniheohaaDoor.Words
set_option maxRecDepth 100000
open Go.RowKit Go.Shelf Go.Lib
set_option linter.unusedVariables false
theorem next_rune {P : Program} {wr : World} {k : Nat} {s : ByteArray} {pos : Nat} (hk : wr.heap[k]? = some (.stringIter s pos)) (h : pos < s.size) (ty : TypeId) :
  (Instr.next (.pointer (some ⟨k, 0, none⟩)) true ty).run P wr = .ok (.tuple #[.bool true, .int .i64 (pos : Int), .int .i32 (runeR (s.data.toList.drop pos))]) (wr.iterAt k s (pos + wideR (s.data.toList.drop pos))) := by
 have := Lib.run_next_any_at (P := P) wr k s pos ty hk h
 rw [← Lib.decodeL_drop] at this
 exact this
theorem next_none {P : Program} {wr : World} {k : Nat} {s : ByteArray} {pos : Nat} (hk : wr.heap[k]? = some (.stringIter s pos)) (h : ¬ pos < s.size) (ty : TypeId) :
  (Instr.next (.pointer (some ⟨k, 0, none⟩)) true ty).run P wr = .ok (.tuple #[.bool false]) wr := Lib.run_next_end_at wr k s pos ty hk h
theorem data_len (s : ByteArray) : s.data.toList.length = s.size := (Lib.size_eq s).symm
end Go.Proofs.YtcaibahniheohaaDoor.Words

/- Texts taken apart: plain mathematics over lists of bytes. Nothing here speaks of one program text. -/
import Derived.Lib.IsU
import Derived.Lib.TrimUEq
import Derived.Lib.MapLaws
import Derived.Lib.Small
namespace Go.Proofs.YtimdojeagkbgbaaDoor.Words
set_option maxRecDepth 100000
set_option linter.unusedVariables false
open Go.Lib

/-- What a rune stands for as a digit; of one that is none, sixteen. -/
def digR (r : Int) : Int := if 48 ≤ r ∧ r ≤ 57 then r - 48 else if 97 ≤ r ∧ r ≤ 102 then r - 97 + 10 else if 65 ≤ r ∧ r ≤ 70 then r - 65 + 10 else 16
def blankR (r : Int) : Bool := decide (r = 32 ∨ r = 9 ∨ r = 13)
def signR (r : Int) : Bool := decide (r = 44 ∨ r = 58 ∨ r = 40 ∨ r = 41)
/-- May a name begin with it? -/
def firstR (r : Int) : Bool := isLetterU r || decide (r = 95)
/-- May it stand in a name? -/
def nameR (r : Int) : Bool := firstR r || decide (digR r < 10)
/-- The rune that a text begins with, and how many bytes it has. -/
def runeR (l : List UInt8) : Int := ((decodeL l).1 : Int)
def wideR (l : List UInt8) : Nat := (decodeL l).2
/-- Are the bytes none? -/
def badR (l : List UInt8) : Bool := decide (runeR l = 65533 ∧ wideR l = 1)
theorem wideR_pos (l : List UInt8) : 1 ≤ wideR l := decodeL_width l
theorem wideR_le {l : List UInt8} (h : l ≠ []) : wideR l ≤ l.length := decodeL_le l h
theorem runeR_range (l : List UInt8) : 0 ≤ runeR l ∧ runeR l ≤ 1114111 := by have := decodeL_rune l; unfold runeR; omega
theorem digR_range (r : Int) : 0 ≤ digR r ∧ digR r ≤ 16 := by unfold digR; repeat' split; all_goals omega

/-- The text behind a place. -/
abbrev from_ (l : List UInt8) (p : Nat) : List UInt8 := l.drop p
theorem from_ne {l : List UInt8} {p : Nat} (h : p < l.length) : l.drop p ≠ [] := fun e => by have := congrArg List.length e; simp at this; omega
theorem wide_in {l : List UInt8} {p : Nat} (h : p < l.length) : p + wideR (l.drop p) ≤ l.length := by have := wideR_le (from_ne h); simp at this; omega
/-- How many bytes the name has that stands at a place. -/
def nameF (l : List UInt8) : Nat → Nat → Nat
  | 0, p => p
  | f + 1, p => if p < l.length then (if nameR (runeR (l.drop p)) then nameF l f (p + wideR (l.drop p)) else p) else p
/-- The number of the digits at a place, and where they end. -/
def digF (l : List UInt8) (base : Int) : Nat → Nat → Int → Int × Nat
  | 0, p, n => (n, p)
  | f + 1, p, n => if p < l.length then (if base ≤ digR (runeR (l.drop p)) then (n, p) else digF l base f (p + wideR (l.drop p)) (min (n * base + digR (runeR (l.drop p))) 4294967297)) else (n, p)
theorem nameF_le (l : List UInt8) : ∀ f p, p ≤ l.length → p ≤ nameF l f p ∧ nameF l f p ≤ l.length
  | 0, p, h => ⟨Nat.le_refl _, h⟩
  | f + 1, p, h => by
    unfold nameF
    split
    · rename_i hp
      split
      · have h1 := wide_in hp
        have h2 := nameF_le l f _ h1
        exact ⟨by omega, h2.2⟩
      · exact ⟨Nat.le_refl _, h⟩
    · exact ⟨Nat.le_refl _, h⟩
theorem digF_le (l : List UInt8) (base : Int) : ∀ f p n, p ≤ l.length → p ≤ (digF l base f p n).2 ∧ (digF l base f p n).2 ≤ l.length
  | 0, p, n, h => ⟨Nat.le_refl _, h⟩
  | f + 1, p, n, h => by
    unfold digF
    split
    · rename_i hp
      split
      · exact ⟨Nat.le_refl _, h⟩
      · have h1 := wide_in hp
        have h2 := digF_le l base f _ (min (n * base + digR (runeR (l.drop p))) 4294967297) h1
        exact ⟨by omega, h2.2⟩
    · exact ⟨Nat.le_refl _, h⟩
theorem digF_range (l : List UInt8) (base : Int) (hb : 0 ≤ base) : ∀ f p n, 0 ≤ n → n ≤ 4294967297 → 0 ≤ (digF l base f p n).1 ∧ (digF l base f p n).1 ≤ 4294967297
  | 0, p, n, h, h' => ⟨h, h'⟩
  | f + 1, p, n, h, h' => by
    unfold digF
    split
    · split
      · exact ⟨h, h'⟩
      · have h1 := digR_range (runeR (l.drop p))
        have h2 : 0 ≤ n * base := Int.mul_nonneg h hb
        exact digF_range l base hb f _ _ (by omega) (by omega)
    · exact ⟨h, h'⟩
/-- Enough rounds are enough. -/
theorem nameF_more (l : List UInt8) : ∀ f p g, l.length ≤ p + f → nameF l (f + g) p = nameF l f p
  | 0, p, g, h => by
    rw [Nat.zero_add]
    cases g with
    | zero => rfl
    | succ g => unfold nameF; rw [if_neg (by omega)]
  | f + 1, p, g, h => by
    rw [show f + 1 + g = (f + g) + 1 by omega]
    unfold nameF
    split
    · split
      · exact nameF_more l f _ g (by have := wideR_pos (l.drop p); omega)
      · rfl
    · rfl
theorem digF_more (l : List UInt8) (base : Int) : ∀ f p n g, l.length ≤ p + f → digF l base (f + g) p n = digF l base f p n
  | 0, p, n, g, h => by
    rw [Nat.zero_add]
    cases g with
    | zero => rfl
    | succ g => unfold digF; rw [if_neg (by omega)]
  | f + 1, p, n, g, h => by
    rw [show f + 1 + g = (f + g) + 1 by omega]
    unfold digF
    split
    · split
      · rfl
      · exact digF_more l base f _ _ g (by have := wideR_pos (l.drop p); omega)
    · rfl
/-- The same, of a text that begins there. -/
theorem nameF_drop (l : List UInt8) (q : Nat) (hq : q ≤ l.length) : ∀ f p, nameF (l.drop q) f p + q = nameF l f (q + p)
  | 0, p => Nat.add_comm _ _
  | f + 1, p => by
    unfold nameF
    rw [List.length_drop, List.drop_drop]
    by_cases h : q + p < l.length
    · rw [if_pos (by omega), if_pos h]
      split
      · rw [nameF_drop l q hq f _, Nat.add_assoc]
      · exact Nat.add_comm _ _
    · rw [if_neg (by omega), if_neg h]; exact Nat.add_comm _ _
theorem digF_drop (l : List UInt8) (base : Int) (q : Nat) (hq : q ≤ l.length) : ∀ f p n, (digF (l.drop q) base f p n).1 = (digF l base f (q + p) n).1 ∧ (digF (l.drop q) base f p n).2 + q = (digF l base f (q + p) n).2
  | 0, p, n => ⟨rfl, Nat.add_comm _ _⟩
  | f + 1, p, n => by
    unfold digF
    rw [List.length_drop, List.drop_drop]
    by_cases h : q + p < l.length
    · rw [if_pos (by omega), if_pos h]
      split
      · exact ⟨rfl, Nat.add_comm _ _⟩
      · have := digF_drop l base q hq f (p + wideR (l.drop (q + p))) (min (n * base + digR (runeR (l.drop (q + p)))) 4294967297)
        rw [Nat.add_assoc]
        exact this
    · rw [if_neg (by omega), if_neg h]; exact ⟨rfl, Nat.add_comm _ _⟩

/-- How many bytes the name has that a text begins with. -/
def nameZ (l : List UInt8) : Nat := nameF l l.length 0
/-- The number of the digits that a text begins with, and how many there are. -/
def digZ (l : List UInt8) (base : Int) : Int × Nat := digF l base l.length 0 0
/-- The number that a text begins with, and how many bytes it has. -/
def numZ (l : List UInt8) : Int × Nat :=
  if hasPrefix l [48, 120] = true ∧ 0 < (digZ (l.drop 2) 16).2 then ((digZ (l.drop 2) 16).1, 2 + (digZ (l.drop 2) 16).2)
  else if hasPrefix l [45] = true ∧ 0 < (digZ (l.drop 1) 10).2 then (-(digZ (l.drop 1) 10).1, 1 + (digZ (l.drop 1) 10).2)
  else digZ l 10
theorem nameZ_le (l : List UInt8) : nameZ l ≤ l.length := (nameF_le l _ 0 (Nat.zero_le _)).2
theorem digZ_le (l : List UInt8) (base : Int) : (digZ l base).2 ≤ l.length := (digF_le l base _ 0 0 (Nat.zero_le _)).2
theorem digZ_range (l : List UInt8) {base : Int} (hb : 0 ≤ base) : 0 ≤ (digZ l base).1 ∧ (digZ l base).1 ≤ 4294967297 := digF_range l base hb _ _ _ (Int.le_refl _) (by omega)
theorem prefix_len {l p : List UInt8} (h : hasPrefix l p = true) : p.length ≤ l.length := by
  unfold hasPrefix at h
  exact (List.isPrefixOf_iff_prefix.1 h).length_le
theorem numZ_le (l : List UInt8) : (numZ l).2 ≤ l.length := by
  unfold numZ
  have h1 := digZ_le (l.drop 2) 16
  have h2 := digZ_le (l.drop 1) 10
  simp only [List.length_drop] at h1 h2
  split
  · rename_i h; have := prefix_len h.1; simp at this; simp only; omega
  split
  · rename_i h; have := prefix_len h.1; simp at this; simp only; omega
  · exact digZ_le l 10
theorem numZ_range (l : List UInt8) : -4294967297 ≤ (numZ l).1 ∧ (numZ l).1 ≤ 4294967297 := by
  unfold numZ
  have h1 := digZ_range (l.drop 2) (base := 16) (by omega)
  have h2 := digZ_range (l.drop 1) (base := 10) (by omega)
  have h3 := digZ_range l (base := 10) (by omega)
  split
  · simp only; omega
  split
  · simp only; omega
  · omega

/-- A token. -/
structure Tok where
  kind : Int
  num : Int
  at_ : Nat
  text : List UInt8
deriving DecidableEq
/-- What a text is: its tokens, or where it has its first fault, and which. -/
inductive LexR where
  | toks (t : List Tok)
  | bad (at_ : Nat) (e : Int)
deriving DecidableEq
/-- The way of a text into tokens: the last one ends there; in a remark; the tokens. -/
structure LexS where
  behind : Nat
  remark : Bool
  toks : List Tok
/-- A token more, of so many bytes at a place. -/
def addZ (l : List UInt8) (kind num : Int) (p size : Nat) (x : LexS) : LexS := ⟨p + size, x.remark, x.toks ++ [⟨kind, num, p, (l.drop p).take size⟩]⟩
/-- Is a line's end a token? -/
def lineB (t : List Tok) : Bool := match t.getLast? with | some k => decide (k.kind ≠ 4) | none => false
/-- A line's end at a place. -/
def lineZ (l : List UInt8) (p : Nat) (x : LexS) : LexS := if lineB x.toks = true then addZ l 4 0 p 1 x else x
/-- What a number at a place leaves. -/
def numberZ (l : List UInt8) (p : Nat) (x : LexS) : Int × LexS :=
  if (numZ (l.drop p)).2 = 0 then (5, x)
  else if (numZ (l.drop p)).1 < -4294967296 ∨ 4294967296 < (numZ (l.drop p)).1 then (8, x)
  else (0, addZ l 2 (numZ (l.drop p)).1 p (numZ (l.drop p)).2 x)
/-- What begins at a place; or the fault. -/
def takeZ (l : List UInt8) (p : Nat) (x : LexS) : Int × LexS :=
  if badR (l.drop p) = true then (5, x)
  else if runeR (l.drop p) = 10 then (0, lineZ l p { x with remark := false })
  else if x.remark = true ∨ blankR (runeR (l.drop p)) = true then (0, x)
  else if runeR (l.drop p) = 35 then (0, { x with remark := true })
  else if firstR (runeR (l.drop p)) = true then (0, addZ l 1 0 p (nameZ (l.drop p)) x)
  else if signR (runeR (l.drop p)) = true then (0, addZ l 3 0 p 1 x)
  else numberZ l p x
/-- Rune by rune. -/
def lexF (l : List UInt8) : Nat → Nat → LexS → LexR
  | 0, _, x => .toks x.toks
  | f + 1, p, x =>
    if p < l.length then
      (if p < x.behind then lexF l f (p + wideR (l.drop p)) x
       else if (takeZ l p x).1 = 0 then lexF l f (p + wideR (l.drop p)) (takeZ l p x).2
       else .bad p (takeZ l p x).1)
    else .toks x.toks
/-- What a text is. -/
def lexZ (l : List UInt8) : LexR := if 20000 < l.length then .bad 0 7 else lexF l l.length 0 ⟨0, false, []⟩
theorem lexF_more (l : List UInt8) : ∀ f p x g, l.length ≤ p + f → lexF l (f + g) p x = lexF l f p x
  | 0, p, x, g, h => by
    rw [Nat.zero_add]
    cases g with
    | zero => rfl
    | succ g => unfold lexF; rw [if_neg (by omega)]
  | f + 1, p, x, g, h => by
    rw [show f + 1 + g = (f + g) + 1 by omega]
    unfold lexF
    have hw := wideR_pos (l.drop p)
    split
    · split
      · exact lexF_more l f _ _ g (by omega)
      · split
        · exact lexF_more l f _ _ g (by omega)
        · rfl
    · rfl
end Go.Proofs.YtimdojeagkbgbaaDoor.Words

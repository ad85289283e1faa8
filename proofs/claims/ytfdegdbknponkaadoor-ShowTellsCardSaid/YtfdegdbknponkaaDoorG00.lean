/- Several texts in one: LexMath, PtMath, SplMath, LexCat, LexLinesMath, LexNumMath, Say. -/
import Derived.Lib.IsU
import Derived.Lib.TrimUEq
import Derived.Lib.MapLaws
import Derived.Lib.Small
import Derived.Lib.TrimAscii

/- Texts taken apart: plain mathematics over lists of bytes. Nothing here speaks of one program text. -/
namespace Go.Proofs.YtfdegdbknponkaaDoor.Words
set_option maxRecDepth 100000
set_option linter.unusedVariables false
open Go.Lib

/-- What a rune stands for as a digit; of one that is none, sixteen. -/
def digR (r : Int) : Int := if 48 ≤ r ∧ r ≤ 57 then r - 48 else if 97 ≤ r ∧ r ≤ 102 then r - 97 + 10 else if 65 ≤ r ∧ r ≤ 70 then r - 65 + 10 else 16
def blankR (r : Int) : Bool := decide (r = 32 ∨ r = 9 ∨ r = 13)
def signR (r : Int) : Bool := decide (r = 44 ∨ r = 58 ∨ r = 40 ∨ r = 41)
/-- May a name begin with it? -/
def firstR (r : Int) : Bool := isLetterU r || decide (r = 95)
/-- May it stand in a name? -/
def nameR (r : Int) : Bool := firstR r || decide (digR r < 10)
/-- The rune that a text begins with, and how many bytes it has. -/
def runeR (l : List UInt8) : Int := ((decodeL l).1 : Int)
def wideR (l : List UInt8) : Nat := (decodeL l).2
/-- Are the bytes none? -/
def badR (l : List UInt8) : Bool := decide (runeR l = 65533 ∧ wideR l = 1)
theorem wideR_pos (l : List UInt8) : 1 ≤ wideR l := decodeL_width l
theorem wideR_le {l : List UInt8} (h : l ≠ []) : wideR l ≤ l.length := decodeL_le l h
theorem runeR_range (l : List UInt8) : 0 ≤ runeR l ∧ runeR l ≤ 1114111 := by have := decodeL_rune l; unfold runeR; omega
theorem digR_range (r : Int) : 0 ≤ digR r ∧ digR r ≤ 16 := by unfold digR; repeat' split; all_goals omega

/-- The text behind a place. -/
abbrev from_ (l : List UInt8) (p : Nat) : List UInt8 := l.drop p
theorem from_ne {l : List UInt8} {p : Nat} (h : p < l.length) : l.drop p ≠ [] := fun e => by have := congrArg List.length e; simp at this; omega
theorem wide_in {l : List UInt8} {p : Nat} (h : p < l.length) : p + wideR (l.drop p) ≤ l.length := by have := wideR_le (from_ne h); simp at this; omega
/-- How many bytes the name has that stands at a place. -/
def nameF (l : List UInt8) : Nat → Nat → Nat
  | 0, p => p
  | f + 1, p => if p < l.length then (if nameR (runeR (l.drop p)) then nameF l f (p + wideR (l.drop p)) else p) else p
/-- The number of the digits at a place, and where they end. -/
def digF (l : List UInt8) (base : Int) : Nat → Nat → Int → Int × Nat
  | 0, p, n => (n, p)
  | f + 1, p, n => if p < l.length then (if base ≤ digR (runeR (l.drop p)) then (n, p) else digF l base f (p + wideR (l.drop p)) (min (n * base + digR (runeR (l.drop p))) 4294967297)) else (n, p)
theorem nameF_le (l : List UInt8) : ∀ f p, p ≤ l.length → p ≤ nameF l f p ∧ nameF l f p ≤ l.length
  | 0, p, h => ⟨Nat.le_refl _, h⟩
  | f + 1, p, h => by
    unfold nameF
    split
    · rename_i hp
      split
      · have h1 := wide_in hp
        have h2 := nameF_le l f _ h1
        exact ⟨by omega, h2.2⟩
      · exact ⟨Nat.le_refl _, h⟩
    · exact ⟨Nat.le_refl _, h⟩
theorem digF_le (l : List UInt8) (base : Int) : ∀ f p n, p ≤ l.length → p ≤ (digF l base f p n).2 ∧ (digF l base f p n).2 ≤ l.length
  | 0, p, n, h => ⟨Nat.le_refl _, h⟩
  | f + 1, p, n, h => by
    unfold digF
    split
    · rename_i hp
      split
      · exact ⟨Nat.le_refl _, h⟩
      · have h1 := wide_in hp
        have h2 := digF_le l base f _ (min (n * base + digR (runeR (l.drop p))) 4294967297) h1
        exact ⟨by omega, h2.2⟩
    · exact ⟨Nat.le_refl _, h⟩
theorem digF_range (l : List UInt8) (base : Int) (hb : 0 ≤ base) : ∀ f p n, 0 ≤ n → n ≤ 4294967297 → 0 ≤ (digF l base f p n).1 ∧ (digF l base f p n).1 ≤ 4294967297
  | 0, p, n, h, h' => ⟨h, h'⟩
  | f + 1, p, n, h, h' => by
    unfold digF
    split
    · split
      · exact ⟨h, h'⟩
      · have h1 := digR_range (runeR (l.drop p))
        have h2 : 0 ≤ n * base := Int.mul_nonneg h hb
        exact digF_range l base hb f _ _ (by omega) (by omega)
    · exact ⟨h, h'⟩
/-- Enough rounds are enough. -/
theorem nameF_more (l : List UInt8) : ∀ f p g, l.length ≤ p + f → nameF l (f + g) p = nameF l f p
  | 0, p, g, h => by
    rw [Nat.zero_add]
    cases g with
    | zero => rfl
    | succ g => unfold nameF; rw [if_neg (by omega)]
  | f + 1, p, g, h => by
    rw [show f + 1 + g = (f + g) + 1 by omega]
    unfold nameF
    split
    · split
      · exact nameF_more l f _ g (by have := wideR_pos (l.drop p); omega)
      · rfl
    · rfl
theorem digF_more (l : List UInt8) (base : Int) : ∀ f p n g, l.length ≤ p + f → digF l base (f + g) p n = digF l base f p n
  | 0, p, n, g, h => by
    rw [Nat.zero_add]
    cases g with
    | zero => rfl
    | succ g => unfold digF; rw [if_neg (by omega)]
  | f + 1, p, n, g, h => by
    rw [show f + 1 + g = (f + g) + 1 by omega]
    unfold digF
    split
    · split
      · rfl
      · exact digF_more l base f _ _ g (by have := wideR_pos (l.drop p); omega)
    · rfl
/-- The same, of a text that begins there. -/
theorem nameF_drop (l : List UInt8) (q : Nat) (hq : q ≤ l.length) : ∀ f p, nameF (l.drop q) f p + q = nameF l f (q + p)
  | 0, p => Nat.add_comm _ _
  | f + 1, p => by
    unfold nameF
    rw [List.length_drop, List.drop_drop]
    by_cases h : q + p < l.length
    · rw [if_pos (by omega), if_pos h]
      split
      · rw [nameF_drop l q hq f _, Nat.add_assoc]
      · exact Nat.add_comm _ _
    · rw [if_neg (by omega), if_neg h]; exact Nat.add_comm _ _
theorem digF_drop (l : List UInt8) (base : Int) (q : Nat) (hq : q ≤ l.length) : ∀ f p n, (digF (l.drop q) base f p n).1 = (digF l base f (q + p) n).1 ∧ (digF (l.drop q) base f p n).2 + q = (digF l base f (q + p) n).2
  | 0, p, n => ⟨rfl, Nat.add_comm _ _⟩
  | f + 1, p, n => by
    unfold digF
    rw [List.length_drop, List.drop_drop]
    by_cases h : q + p < l.length
    · rw [if_pos (by omega), if_pos h]
      split
      · exact ⟨rfl, Nat.add_comm _ _⟩
      · have := digF_drop l base q hq f (p + wideR (l.drop (q + p))) (min (n * base + digR (runeR (l.drop (q + p)))) 4294967297)
        rw [Nat.add_assoc]
        exact this
    · rw [if_neg (by omega), if_neg h]; exact ⟨rfl, Nat.add_comm _ _⟩

/-- How many bytes the name has that a text begins with. -/
def nameZ (l : List UInt8) : Nat := nameF l l.length 0
/-- The number of the digits that a text begins with, and how many there are. -/
def digZ (l : List UInt8) (base : Int) : Int × Nat := digF l base l.length 0 0
/-- The number that a text begins with, and how many bytes it has. -/
def numZ (l : List UInt8) : Int × Nat :=
  if hasPrefix l [48, 120] = true ∧ 0 < (digZ (l.drop 2) 16).2 then ((digZ (l.drop 2) 16).1, 2 + (digZ (l.drop 2) 16).2)
  else if hasPrefix l [45] = true ∧ 0 < (digZ (l.drop 1) 10).2 then (-(digZ (l.drop 1) 10).1, 1 + (digZ (l.drop 1) 10).2)
  else digZ l 10
theorem nameZ_le (l : List UInt8) : nameZ l ≤ l.length := (nameF_le l _ 0 (Nat.zero_le _)).2
theorem digZ_le (l : List UInt8) (base : Int) : (digZ l base).2 ≤ l.length := (digF_le l base _ 0 0 (Nat.zero_le _)).2
theorem digZ_range (l : List UInt8) {base : Int} (hb : 0 ≤ base) : 0 ≤ (digZ l base).1 ∧ (digZ l base).1 ≤ 4294967297 := digF_range l base hb _ _ _ (Int.le_refl _) (by omega)
theorem prefix_len {l p : List UInt8} (h : hasPrefix l p = true) : p.length ≤ l.length := by
  unfold hasPrefix at h
  exact (List.isPrefixOf_iff_prefix.1 h).length_le
theorem numZ_le (l : List UInt8) : (numZ l).2 ≤ l.length := by
  unfold numZ
  have h1 := digZ_le (l.drop 2) 16
  have h2 := digZ_le (l.drop 1) 10
  simp only [List.length_drop] at h1 h2
  split
  · rename_i h; have := prefix_len h.1; simp at this; simp only; omega
  split
  · rename_i h; have := prefix_len h.1; simp at this; simp only; omega
  · exact digZ_le l 10
theorem numZ_range (l : List UInt8) : -4294967297 ≤ (numZ l).1 ∧ (numZ l).1 ≤ 4294967297 := by
  unfold numZ
  have h1 := digZ_range (l.drop 2) (base := 16) (by omega)
  have h2 := digZ_range (l.drop 1) (base := 10) (by omega)
  have h3 := digZ_range l (base := 10) (by omega)
  split
  · simp only; omega
  split
  · simp only; omega
  · omega

/-- A token. -/
structure Tok where
  kind : Int
  num : Int
  at_ : Nat
  text : List UInt8
deriving DecidableEq
/-- What a text is: its tokens, or where it has its first fault, and which. -/
inductive LexR where
  | toks (t : List Tok)
  | bad (at_ : Nat) (e : Int)
deriving DecidableEq
/-- The way of a text into tokens: the last one ends there; in a remark; the tokens. -/
structure LexS where
  behind : Nat
  remark : Bool
  toks : List Tok
/-- A token more, of so many bytes at a place. -/
def addZ (l : List UInt8) (kind num : Int) (p size : Nat) (x : LexS) : LexS := ⟨p + size, x.remark, x.toks ++ [⟨kind, num, p, (l.drop p).take size⟩]⟩
/-- Is a line's end a token? -/
def lineB (t : List Tok) : Bool := match t.getLast? with | some k => decide (k.kind ≠ 4) | none => false
/-- A line's end at a place. -/
def lineZ (l : List UInt8) (p : Nat) (x : LexS) : LexS := if lineB x.toks = true then addZ l 4 0 p 1 x else x
/-- What a number at a place leaves. -/
def numberZ (l : List UInt8) (p : Nat) (x : LexS) : Int × LexS :=
  if (numZ (l.drop p)).2 = 0 then (5, x)
  else if (numZ (l.drop p)).1 < -4294967296 ∨ 4294967296 < (numZ (l.drop p)).1 then (8, x)
  else (0, addZ l 2 (numZ (l.drop p)).1 p (numZ (l.drop p)).2 x)
/-- What begins at a place; or the fault. -/
def takeZ (l : List UInt8) (p : Nat) (x : LexS) : Int × LexS :=
  if badR (l.drop p) = true then (5, x)
  else if runeR (l.drop p) = 10 then (0, lineZ l p { x with remark := false })
  else if x.remark = true ∨ blankR (runeR (l.drop p)) = true then (0, x)
  else if runeR (l.drop p) = 35 then (0, { x with remark := true })
  else if firstR (runeR (l.drop p)) = true then (0, addZ l 1 0 p (nameZ (l.drop p)) x)
  else if signR (runeR (l.drop p)) = true then (0, addZ l 3 0 p 1 x)
  else numberZ l p x
/-- Rune by rune. -/
def lexF (l : List UInt8) : Nat → Nat → LexS → LexR
  | 0, _, x => .toks x.toks
  | f + 1, p, x =>
    if p < l.length then
      (if p < x.behind then lexF l f (p + wideR (l.drop p)) x
       else if (takeZ l p x).1 = 0 then lexF l f (p + wideR (l.drop p)) (takeZ l p x).2
       else .bad p (takeZ l p x).1)
    else .toks x.toks
/-- What a text is. -/
def lexZ (l : List UInt8) : LexR := if 20000 < l.length then .bad 0 7 else lexF l l.length 0 ⟨0, false, []⟩
theorem lexF_more (l : List UInt8) : ∀ f p x g, l.length ≤ p + f → lexF l (f + g) p x = lexF l f p x
  | 0, p, x, g, h => by
    rw [Nat.zero_add]
    cases g with
    | zero => rfl
    | succ g => unfold lexF; rw [if_neg (by omega)]
  | f + 1, p, x, g, h => by
    rw [show f + 1 + g = (f + g) + 1 by omega]
    unfold lexF
    have hw := wideR_pos (l.drop p)
    split
    · split
      · exact lexF_more l f _ _ g (by omega)
      · split
        · exact lexF_more l f _ _ g (by omega)
        · rfl
    · rfl
end Go.Proofs.YtfdegdbknponkaaDoor.Words

/- The runes of a text, one behind the other, with their places: plain mathematics. -/
namespace Go.Proofs.YtfdegdbknponkaaDoor.Words
set_option maxRecDepth 100000
set_option linter.unusedVariables false
open Go.Lib

/-- A rune of a text: what it is, where it begins, where it ends; is it one? -/
structure Pt where
  r : Int
  at_ : Nat
  end_ : Nat
  ok : Bool
/-- The rune at a place. -/
def ptAt (l : List UInt8) (p : Nat) : Pt := ⟨runeR (l.drop p), p, p + wideR (l.drop p), !badR (l.drop p)⟩
def ptF (l : List UInt8) : Nat → Nat → List Pt
  | 0, p => []
  | f + 1, p => if p < l.length then ptAt l p :: ptF l f (p + wideR (l.drop p)) else []
def ptZ (l : List UInt8) : List Pt := ptF l l.length 0
theorem ptF_len (l : List UInt8) : ∀ f p, p ≤ l.length → (ptF l f p).length ≤ l.length - p
  | 0, p, h => by simp [ptF]
  | f + 1, p, h => by
    unfold ptF
    split
    · rename_i hp
      have h1 := ptF_len l f _ (wide_in hp)
      have h2 := wideR_pos (l.drop p)
      have h3 := wide_in hp
      rw [List.length_cons]
      omega
    · simp
theorem ptZ_len (l : List UInt8) : (ptZ l).length ≤ l.length := ptF_len l _ 0 (Nat.zero_le _)
/-- The runes from the i-th on are those from the place p on. -/
structure At (l : List UInt8) (L : List Pt) (i p f : Nat) : Prop where
  rest : L.drop i = ptF l f p
  fuel : l.length ≤ p + f
  le : p ≤ l.length
  prev : 0 < i → ∃ q, L[i - 1]? = some q ∧ q.end_ = p
theorem At.start (l : List UInt8) : At l (ptZ l) 0 0 l.length := ⟨rfl, by omega, by omega, fun h => by omega⟩
theorem At.stop {l : List UInt8} {L : List Pt} {i p f : Nat} (h : At l L i p f) (hi : ¬ i < L.length) : ¬ p < l.length := by
  intro hp
  have h1 := h.rest
  have h2 := h.fuel
  obtain ⟨g, rfl⟩ : ∃ g, f = g + 1 := ⟨f - 1, by omega⟩
  rw [List.drop_eq_nil_of_le (by omega)] at h1
  unfold ptF at h1
  rw [if_pos hp] at h1
  cases h1
theorem At.step {l : List UInt8} {L : List Pt} {i p f : Nat} (h : At l L i p f) (hi : i < L.length) : ∃ g, f = g + 1 ∧ p < l.length ∧ L[i]? = some (ptAt l p) ∧ At l L (i + 1) (p + wideR (l.drop p)) g := by
  have h1 := h.rest
  have h2 := h.fuel
  have hne : ptF l f p ≠ [] := fun e => by rw [e] at h1; have := congrArg List.length h1; simp at this; omega
  cases f with
  | zero => exact absurd rfl hne
  | succ g =>
    by_cases hp : p < l.length
    · have h3 : ptF l (g + 1) p = ptAt l p :: ptF l g (p + wideR (l.drop p)) := by
        conv => lhs; unfold ptF
        rw [if_pos hp]
      rw [h3] at h1
      have h4 : L[i]? = some (ptAt l p) := by
        have := congrArg (fun t => t[0]?) h1
        simpa [List.getElem?_drop] using this
      have h5 : L.drop (i + 1) = ptF l g (p + wideR (l.drop p)) := by
        have := congrArg List.tail h1
        simpa [List.tail_drop] using this
      have hw := wideR_pos (l.drop p)
      exact ⟨g, rfl, hp, h4, ⟨h5, by omega, wide_in hp, fun _ => ⟨ptAt l p, h4, rfl⟩⟩⟩
    · exact absurd (by unfold ptF; rw [if_neg hp]) hne
theorem At.lt {l : List UInt8} {L : List Pt} {i p f : Nat} (h : At l L i p f) : i < L.length ↔ p < l.length := by
  constructor
  · intro hi; obtain ⟨g, _, hp, _⟩ := h.step hi; exact hp
  · intro hp
    by_cases hi : i < L.length
    · exact hi
    · exact absurd hp (h.stop hi)

/-! ### Runes and bytes -/
theorem enc_wide {l : List UInt8} (hne : l ≠ []) (hb : badR l = false) : (encodeRune (runeR l)).length = wideR l := by
  have hb' : ¬ ((decodeL l).1 = 65533 ∧ (decodeL l).2 = 1) := by
    unfold badR runeR wideR at hb
    have := of_decide_eq_false hb
    omega
  unfold runeR wideR
  rw [encode_decode l hne hb', List.length_take]
  have := decodeL_le l hne
  omega
theorem ok_rune {l : List UInt8} (hne : l ≠ []) : (decide (runeR l ≠ 65533) || (decide (3 ≤ l.length) && decide (l.take 3 = [239, 191, 189]))) = !badR l := by
  by_cases hr : runeR l = 65533
  · rw [decide_eq_false (by omega), Bool.false_or]
    cases hb : badR l
    · have h1 := enc_wide hne hb
      have hb' : ¬ ((decodeL l).1 = 65533 ∧ (decodeL l).2 = 1) := by
        unfold badR runeR wideR at hb
        have := of_decide_eq_false hb
        omega
      have h2 := encode_decode l hne hb'
      rw [show ((decodeL l).1 : Int) = 65533 from hr] at h2
      rw [hr] at h1
      have h3 : encodeRune 65533 = [239, 191, 189] := by decide
      have h4 : (decodeL l).2 = 3 := by rw [h3] at h1; exact h1.symm
      have h5 := decodeL_le l hne
      rw [h3, h4] at h2
      rw [decide_eq_true (by omega), decide_eq_true h2.symm]; rfl
    · have hn : ¬ (3 ≤ l.length ∧ l.take 3 = [239, 191, 189]) := by
        rintro ⟨h1, h2⟩
        have h3 : l = 239 :: 191 :: 189 :: l.drop 3 := by
          conv => lhs; rw [← List.take_append_drop 3 l, h2]
          rfl
        have h4 : (decodeL (239 :: 191 :: 189 :: l.drop 3)).2 = 3 := by
          rw [decodeL_N]
          have : 3 ≤ (239 :: 191 :: 189 :: l.drop 3 : List UInt8).length := by simp
          generalize (239 :: 191 :: 189 :: l.drop 3 : List UInt8).length = n at *
          simp only [List.getD_cons_zero, List.getD_cons_succ]
          obtain ⟨m, rfl⟩ : ∃ m, n = m + 3 := ⟨n - 3, by omega⟩
          unfold decodeN
          simp
        unfold badR at hb
        have h5 := of_decide_eq_true hb
        unfold wideR at h5
        rw [h3] at h5
        omega
      cases h1 : decide (3 ≤ l.length)
      · rfl
      · rw [decide_eq_false (fun h2 => hn ⟨of_decide_eq_true h1, h2⟩)]; rfl
  · rw [decide_eq_true (by omega), Bool.true_or]
    unfold badR
    rw [decide_eq_false (fun h => hr h.1)]; rfl
/-- A rune below 128 is a byte. -/
theorem ascii_rune {l : List UInt8} (hne : l ≠ []) (h : runeR l < 128) : ∃ c t, l = c :: t ∧ (c.toNat : Int) = runeR l ∧ wideR l = 1 := by
  cases l with
  | nil => exact absurd rfl hne
  | cons c t =>
    by_cases hc : c.toNat < 128
    · unfold runeR wideR
      rw [decodeL_ascii c t hc]
      exact ⟨c, t, rfl, rfl, rfl⟩
    · exfalso
      have hb : badR (c :: t) = false := by unfold badR; exact decide_eq_false (by omega)
      have hb' : ¬ ((decodeL (c :: t)).1 = 65533 ∧ (decodeL (c :: t)).2 = 1) := by
        unfold badR runeR wideR at hb
        have := of_decide_eq_false hb
        omega
      have h2 := encode_decode (c :: t) hne hb'
      have hpos := wideR_pos (c :: t)
      unfold wideR at hpos
      obtain ⟨m, hm⟩ : ∃ m, (decodeL (c :: t)).2 = m + 1 := ⟨(decodeL (c :: t)).2 - 1, by omega⟩
      rw [hm, List.take_succ_cons] at h2
      have hr := runeR_range (c :: t)
      obtain ⟨n, hn⟩ : ∃ n : Nat, runeR (c :: t) = n := ⟨(runeR (c :: t)).toNat, by omega⟩
      have hn' : ((decodeL (c :: t)).1 : Int) = n := hn
      rw [hn'] at h2
      have hlt : n < 128 := by omega
      have h3 : ((List.range 128).all fun n => decide ((encodeRune (n : Int)).head? = some (UInt8.ofNat n))) = true := by decide +kernel
      have h4 := of_decide_eq_true (List.all_eq_true.1 h3 n (List.mem_range.2 hlt))
      rw [h2] at h4
      simp only [List.head?_cons, Option.some.injEq] at h4
      rw [h4] at hc
      simp at hc
      omega
end Go.Proofs.YtfdegdbknponkaaDoor.Words

/- What one rune does on the way of a text into tokens, case by case: plain mathematics. -/
namespace Go.Proofs.YtfdegdbknponkaaDoor.Words
set_option maxRecDepth 100000
set_option linter.unusedVariables false
open Go.Lib

section
variable {l : List UInt8} {f p b : Nat} {out : List Tok} {Z : LexR}
theorem nameF_eq {f g p : Nat} (h1 : l.length ≤ p + f) (h2 : l.length ≤ p + g) : nameF l f p = nameF l g p := by
  rcases Nat.le_total f g with h | h
  · obtain ⟨d, rfl⟩ := Nat.exists_eq_add_of_le h
    exact (nameF_more l f p d h1).symm
  · obtain ⟨d, rfl⟩ := Nat.exists_eq_add_of_le h
    exact nameF_more l g p d h2
theorem digF_eq {base : Int} {f g p : Nat} {n : Int} (h1 : l.length ≤ p + f) (h2 : l.length ≤ p + g) : digF l base f p n = digF l base g p n := by
  rcases Nat.le_total f g with h | h
  · obtain ⟨d, rfl⟩ := Nat.exists_eq_add_of_le h
    exact (digF_more l base f p n d h1).symm
  · obtain ⟨d, rfl⟩ := Nat.exists_eq_add_of_le h
    exact digF_more l base g p n d h2
theorem lex_go {x : LexS} (hp : p < l.length) (hb : x.behind ≤ p) : lexF l (f + 1) p x = if (takeZ l p x).1 = 0 then lexF l f (p + wideR (l.drop p)) (takeZ l p x).2 else .bad p (takeZ l p x).1 := by
  conv => lhs; unfold lexF
  rw [if_pos hp, if_neg (by omega)]
theorem lex_over {x : LexS} (hp : p < l.length) (hb : p < x.behind) : lexF l (f + 1) p x = lexF l f (p + wideR (l.drop p)) x := by
  conv => lhs; unfold lexF
  rw [if_pos hp, if_pos hb]
theorem lex_stop {x : LexS} (hp : ¬ p < l.length) : lexF l f p x = .toks x.toks := by
  cases f with
  | zero => rfl
  | succ f => unfold lexF; rw [if_neg hp]
/-- How the way goes on. -/
theorem lex_on {x x' : LexS} (h : lexF l (f + 1) p x = Z) (hp : p < l.length) (hb : x.behind ≤ p) (ht : takeZ l p x = (0, x')) : lexF l f (p + wideR (l.drop p)) x' = Z := by
  rw [← h, lex_go hp hb, ht, if_pos rfl]
theorem lex_err {x x' : LexS} {e : Int} (h : lexF l (f + 1) p x = Z) (hp : p < l.length) (hb : x.behind ≤ p) (ht : takeZ l p x = (e, x')) (he : e ≠ 0) : Z = .bad p e := by
  rw [← h, lex_go hp hb, ht, if_neg he]
theorem bad_fffd (h : badR (l.drop p) = true) : runeR (l.drop p) = 65533 := (of_decide_eq_true (show decide (runeR (l.drop p) = 65533 ∧ wideR (l.drop p) = 1) = true from h)).1
theorem good {r : Int} (hr : runeR (l.drop p) = r) (h : r ≠ 65533) : badR (l.drop p) = false := by
  cases hb : badR (l.drop p)
  · rfl
  · exact absurd ((bad_fffd hb).symm.trans hr).symm (fun e => h e)
abbrev S0 (b : Nat) (rm : Bool) (out : List Tok) : LexS := ⟨b, rm, out⟩
theorem at_bad {x : LexS} (h : badR (l.drop p) = true) : takeZ l p x = (5, x) := by unfold takeZ; rw [if_pos h]
theorem at_blank {x : LexS} (h : badR (l.drop p) = false) (hr : blankR (runeR (l.drop p)) = true) : takeZ l p x = (0, x) := by
  have h10 : runeR (l.drop p) ≠ 10 := fun e => by rw [e] at hr; exact absurd hr (by decide)
  unfold takeZ
  rw [if_neg (by simp [h]), if_neg h10, if_pos (.inr hr)]
theorem at_remark {x : LexS} (h : badR (l.drop p) = false) (hx : x.remark = true) (h10 : runeR (l.drop p) ≠ 10) : takeZ l p x = (0, x) := by
  unfold takeZ
  rw [if_neg (by simp [h]), if_neg h10, if_pos (.inl hx)]
theorem at_hash (h : runeR (l.drop p) = 35) : takeZ l p (S0 b false out) = (0, S0 b true out) := by
  unfold takeZ
  rw [if_neg (by simp [good h (by decide)]), h, if_neg (by decide), if_neg (by simp; decide), if_pos rfl]
theorem at_line (rm : Bool) (h : runeR (l.drop p) = 10) : takeZ l p (S0 b rm out) = (0, lineZ l p (S0 b false out)) := by
  unfold takeZ
  rw [if_neg (by simp [good h (by decide)]), h, if_pos rfl]
theorem first_not {r : Int} (h : firstR r = true) : r ≠ 10 ∧ r ≠ 35 ∧ r ≠ 65533 ∧ blankR r = false ∧ signR r = false ∧ ¬ digR r < 10 ∧ r ≠ 45 := by
  refine ⟨?_, ?_, ?_, ?_, ?_, ?_, ?_⟩
  · rintro rfl; revert h; decide +kernel
  · rintro rfl; revert h; decide +kernel
  · rintro rfl; revert h; decide +kernel
  · cases hb : blankR r
    · rfl
    · unfold blankR at hb
      rcases of_decide_eq_true hb with rfl | rfl | rfl
      all_goals (revert h; decide +kernel)
  · cases hb : signR r
    · rfl
    · unfold signR at hb
      rcases of_decide_eq_true hb with rfl | rfl | rfl | rfl
      all_goals (revert h; decide +kernel)
  · intro hd
    have h0 : 48 ≤ r ∧ r ≤ 57 := by unfold digR at hd; repeat' split at hd; all_goals omega
    have h2 : ((List.range 58).all fun c => decide (c < 48) || !firstR (c : Int)) = true := by decide +kernel
    have h3 := List.all_eq_true.1 h2 r.toNat (List.mem_range.2 (by omega))
    rw [decide_eq_false (by omega), Bool.false_or, show ((r.toNat : Nat) : Int) = r by omega, h] at h3
    cases h3
  · rintro rfl; revert h; decide +kernel
theorem at_name {x : LexS} (hx : x.remark = false) (h : firstR (runeR (l.drop p)) = true) : takeZ l p x = (0, addZ l 1 0 p (nameZ (l.drop p)) x) := by
  obtain ⟨h1, h2, h3, h4, _⟩ := first_not h
  unfold takeZ
  rw [if_neg (by simp [good rfl h3]), if_neg h1, if_neg (by simp [hx, h4]), if_neg h2, if_pos h]
theorem at_sign {x : LexS} (hx : x.remark = false) (h : signR (runeR (l.drop p)) = true) : takeZ l p x = (0, addZ l 3 0 p 1 x) := by
  have hr := of_decide_eq_true (show decide (runeR (l.drop p) = 44 ∨ runeR (l.drop p) = 58 ∨ runeR (l.drop p) = 40 ∨ runeR (l.drop p) = 41) = true from h)
  have hf : firstR (runeR (l.drop p)) = false := by
    cases hf : firstR (runeR (l.drop p))
    · rfl
    · have := (first_not hf).2.2.2.2.1; rw [h] at this; cases this
  have hb : blankR (runeR (l.drop p)) = false := decide_eq_false (by omega)
  unfold takeZ
  rw [if_neg (by simp [good (l := l) (p := p) rfl (by omega)]), if_neg (by omega), if_neg (by simp [hx, hb]), if_neg (by omega), if_neg (by simp [hf]), if_pos h]
theorem at_other {x : LexS} (hx : x.remark = false) (hb : badR (l.drop p) = false) (h1 : runeR (l.drop p) ≠ 10) (h2 : runeR (l.drop p) ≠ 35) (h3 : blankR (runeR (l.drop p)) = false) (h4 : firstR (runeR (l.drop p)) = false) (h5 : signR (runeR (l.drop p)) = false) : takeZ l p x = numberZ l p x := by
  unfold takeZ
  rw [if_neg (by simp [hb]), if_neg h1, if_neg (by simp [hx, h3]), if_neg h2, if_neg (by simp [h4]), if_neg (by simp [h5])]
/-- A remark's end. -/
theorem remark_end (h : lexF l f p (S0 b true out) = Z) (hb : b ≤ p) (hf : l.length ≤ p + f) (he : ¬ p < l.length ∨ badR (l.drop p) = true ∨ runeR (l.drop p) = 10) : lexF l f p (S0 b false out) = Z := by
  by_cases hp : p < l.length
  · obtain ⟨g, rfl⟩ : ∃ g, f = g + 1 := ⟨f - 1, by omega⟩
    rw [← h, lex_go hp (by exact hb), lex_go hp (by exact hb)]
    rcases he with he | he | he
    · exact absurd hp he
    · rw [at_bad he, at_bad he, if_neg (show ¬ (5 : Int) = 0 by decide), if_neg (show ¬ (5 : Int) = 0 by decide)]
    · rw [at_line true he, at_line false he]
  · rw [← h, lex_stop hp, lex_stop hp]
/-- Where a name at a place ends. -/
theorem name_place (hf : l.length ≤ p + f) (hp : p ≤ l.length) : p + nameZ (l.drop p) = nameF l f p := by
  unfold nameZ
  rw [List.length_drop, nameF_eq hf (g := l.length - p) (by omega), Nat.add_comm]
  have := nameF_drop l p hp (l.length - p) 0
  rw [Nat.add_zero] at this
  exact this
theorem dig_place (base : Int) (hf : l.length ≤ p + f) (hp : p ≤ l.length) : (digZ (l.drop p) base).1 = (digF l base f p 0).1 ∧ p + (digZ (l.drop p) base).2 = (digF l base f p 0).2 := by
  unfold digZ
  rw [List.length_drop, digF_eq hf (g := l.length - p) (by omega), Nat.add_comm p]
  have := digF_drop l base p hp (l.length - p) 0 0
  rw [Nat.add_zero] at this
  exact this
theorem drop_cons {c : Nat} (hp : p < l.length) (hc : c < 128) (hr : runeR (l.drop p) = c) : ∃ t, l.drop p = UInt8.ofNat c :: t ∧ t = l.drop (p + 1) ∧ wideR (l.drop p) = 1 := by
  obtain ⟨d, t, h1, h2, h3⟩ := ascii_rune (from_ne hp) (by omega)
  have hd : d = UInt8.ofNat c := by
    have h4 : d.toNat = c := by omega
    rw [← h4]; simp
  refine ⟨t, by rw [h1, hd], ?_, h3⟩
  have := congrArg List.tail h1
  simpa [List.tail_drop] using this.symm
theorem digF_zero (base : Int) (h : ¬ p < l.length ∨ base ≤ digR (runeR (l.drop p))) (n : Int) : (digF l base f p n) = (n, p) := by
  cases f with
  | zero => rfl
  | succ f =>
    unfold digF
    split
    · rename_i hp
      rcases h with h | h
      · exact absurd hp h
      · rw [if_pos h]
    · rfl
theorem digF_pos (base : Int) (hf : l.length ≤ p + f) (hp : p < l.length) (h : digR (runeR (l.drop p)) < base) : p < (digF l base f p 0).2 := by
  obtain ⟨g, rfl⟩ : ∃ g, f = g + 1 := ⟨f - 1, by omega⟩
  unfold digF
  rw [if_pos hp, if_neg (by omega)]
  have := (digF_le l base g _ (min (0 * base + digR (runeR (l.drop p))) 4294967297) (wide_in hp)).1
  have := wideR_pos (l.drop p)
  omega
/-- Is it a number in base 16? -/
def hexAt (l : List UInt8) (p : Nat) : Prop := runeR (l.drop p) = 48 ∧ p + 1 < l.length ∧ runeR (l.drop (p + 1)) = 120 ∧ p + 2 < l.length ∧ digR (runeR (l.drop (p + 2))) < 16
theorem pre_hex (hp : p < l.length) : hasPrefix (l.drop p) [48, 120] = true ↔ runeR (l.drop p) = 48 ∧ p + 1 < l.length ∧ runeR (l.drop (p + 1)) = 120 := by
  constructor
  · intro h
    unfold hasPrefix at h
    obtain ⟨t, ht⟩ := List.isPrefixOf_iff_prefix.1 h
    have e0 : l.drop p = 48 :: 120 :: t := by rw [← ht]; rfl
    have e1 : l.drop (p + 1) = 120 :: t := by
      have := congrArg List.tail e0
      simpa [List.tail_drop] using this
    have hlen := congrArg List.length e0
    simp only [List.length_drop, List.length_cons] at hlen
    refine ⟨?_, by omega, ?_⟩
    · rw [e0]; unfold runeR; rw [decodeL_ascii _ _ (by decide)]; rfl
    · rw [e1]; unfold runeR; rw [decodeL_ascii _ _ (by decide)]; rfl
  · rintro ⟨h1, h2, h3⟩
    obtain ⟨t, e0, e1, _⟩ := drop_cons (c := 48) hp (by omega) h1
    obtain ⟨t2, e2, _, _⟩ := drop_cons (c := 120) h2 (by omega) h3
    rw [e0, e1, e2]
    unfold hasPrefix
    simp [List.isPrefixOf]
theorem pre_neg (hp : p < l.length) : hasPrefix (l.drop p) [45] = true ↔ runeR (l.drop p) = 45 := by
  constructor
  · intro h
    unfold hasPrefix at h
    obtain ⟨t, ht⟩ := List.isPrefixOf_iff_prefix.1 h
    have e0 : l.drop p = 45 :: t := by rw [← ht]; rfl
    rw [e0]; unfold runeR; rw [decodeL_ascii _ _ (by decide)]; rfl
  · intro h1
    obtain ⟨t, e0, _, _⟩ := drop_cons (c := 45) hp (by omega) h1
    rw [e0]
    unfold hasPrefix
    simp [List.isPrefixOf]
theorem num_hex (h : hexAt l p) (hp : p < l.length) (hf : l.length ≤ p + 2 + f) : (numZ (l.drop p)).1 = (digF l 16 f (p + 2) 0).1 ∧ p + (numZ (l.drop p)).2 = (digF l 16 f (p + 2) 0).2 ∧ 0 < (numZ (l.drop p)).2 := by
  obtain ⟨h1, h2, h3, h4, h5⟩ := h
  have hpre := (pre_hex hp).2 ⟨h1, h2, h3⟩
  obtain ⟨a1, a2⟩ := dig_place (l := l) (p := p + 2) 16 hf (by omega)
  have a3 := digF_pos (l := l) (p := p + 2) 16 hf h4 h5
  have a4 : 0 < (digZ (l.drop (p + 2)) 16).2 := by omega
  unfold numZ
  rw [List.drop_drop, if_pos ⟨hpre, a4⟩]
  exact ⟨a1, by simp only; omega, by simp only; omega⟩
theorem num_dec (hx : ¬ hexAt l p) (hp : p < l.length) (h : digR (runeR (l.drop p)) < 10) (hf : l.length ≤ p + f) : (numZ (l.drop p)).1 = (digF l 10 f p 0).1 ∧ p + (numZ (l.drop p)).2 = (digF l 10 f p 0).2 ∧ 0 < (numZ (l.drop p)).2 := by
  obtain ⟨a1, a2⟩ := dig_place (l := l) (p := p) 10 hf (by omega)
  have a3 := digF_pos (l := l) (p := p) 10 hf hp h
  have hn : ¬ hasPrefix (l.drop p) [45] = true := fun e => by rw [(pre_neg hp).1 e] at h; exact absurd h (by decide)
  have hx2 : ¬ (hasPrefix (l.drop p) [48, 120] = true ∧ 0 < (digZ (l.drop (p + 2)) 16).2) := by
    rintro ⟨e1, e2⟩
    obtain ⟨b1, b2, b3⟩ := (pre_hex hp).1 e1
    obtain ⟨c1, c2⟩ := dig_place (l := l) (f := l.length) (p := p + 2) 16 (by omega) (by omega)
    by_cases b4 : p + 2 < l.length ∧ digR (runeR (l.drop (p + 2))) < 16
    · exact hx ⟨b1, b2, b3, b4.1, b4.2⟩
    · rw [digF_zero 16 (by omega)] at c2
      simp only at c2
      omega
  unfold numZ
  rw [List.drop_drop, if_neg hx2, if_neg (fun e => hn e.1)]
  exact ⟨a1, a2, by omega⟩
theorem num_neg (hp : p < l.length) (h : runeR (l.drop p) = 45) (hp1 : p + 1 < l.length) (hd : digR (runeR (l.drop (p + 1))) < 10) (hf : l.length ≤ p + 1 + f) : (numZ (l.drop p)).1 = -(digF l 10 f (p + 1) 0).1 ∧ p + (numZ (l.drop p)).2 = (digF l 10 f (p + 1) 0).2 ∧ 0 < (numZ (l.drop p)).2 := by
  obtain ⟨a1, a2⟩ := dig_place (l := l) (p := p + 1) 10 hf (by omega)
  have a3 := digF_pos (l := l) (p := p + 1) 10 hf hp1 hd
  have hx2 : ¬ hasPrefix (l.drop p) [48, 120] = true := fun e => by have := ((pre_hex hp).1 e).1; omega
  have a4 : 0 < (digZ (l.drop (p + 1)) 10).2 := by omega
  unfold numZ
  rw [if_neg (fun e => hx2 e.1), List.drop_drop, if_pos ⟨(pre_neg hp).2 h, a4⟩]
  exact ⟨by rw [a1], by simp only; omega, by simp only; omega⟩
theorem num_none (hx : ¬ hexAt l p) (hp : p < l.length) (h : ¬ digR (runeR (l.drop p)) < 10) (hn : ¬ (runeR (l.drop p) = 45 ∧ p + 1 < l.length ∧ digR (runeR (l.drop (p + 1))) < 10)) : (numZ (l.drop p)).2 = 0 := by
  have hx2 : ¬ hasPrefix (l.drop p) [48, 120] = true := fun e => by have := ((pre_hex hp).1 e).1; rw [this] at h; exact h (by decide)
  have hn2 : ¬ (hasPrefix (l.drop p) [45] = true ∧ 0 < (digZ (l.drop (p + 1)) 10).2) := by
    rintro ⟨e1, e2⟩
    have b1 := (pre_neg hp).1 e1
    obtain ⟨c1, c2⟩ := dig_place (l := l) (f := l.length) (p := p + 1) 10 (by omega) (by omega)
    rw [digF_zero 10 (by by_cases b2 : p + 1 < l.length
                         · right
                           have : ¬ digR (runeR (l.drop (p + 1))) < 10 := fun b3 => hn ⟨b1, b2, b3⟩
                           omega
                         · exact .inl b2)] at c2
    simp only at c2
    omega
  obtain ⟨c1, c2⟩ := dig_place (l := l) (f := l.length) (p := p) 10 (by omega) (by omega)
  rw [digF_zero 10 (.inr (by omega))] at c2
  unfold numZ
  rw [if_neg (fun e => hx2 e.1), List.drop_drop, if_neg hn2]
  simp only at c2
  omega
end
end Go.Proofs.YtfdegdbknponkaaDoor.Words

/- Texts one behind the other, taken apart: what a text's beginning leaves, whatever stands behind it. Plain mathematics. -/
namespace Go.Proofs.YtfdegdbknponkaaDoor.Words
set_option maxRecDepth 100000
set_option linter.unusedVariables false
open Go.Lib

/-- Rune by rune, with rounds enough. -/
def lexL (l : List UInt8) (p : Nat) (x : LexS) : LexR := lexF l l.length p x
theorem lexL_fuel (l : List UInt8) (f p : Nat) (x : LexS) (h : l.length ≤ p + f) : lexF l f p x = lexL l p x := by
  unfold lexL
  rcases Nat.le_total f l.length with h2 | h2
  · obtain ⟨d, hd⟩ := Nat.exists_eq_add_of_le h2
    have := lexF_more l f p x d h
    rw [← hd] at this
    exact this.symm
  · obtain ⟨d, hd⟩ := Nat.exists_eq_add_of_le h2
    have := lexF_more l l.length p x d (by omega)
    rw [← hd] at this
    exact this
theorem lexL_end {l : List UInt8} {p : Nat} {x : LexS} (h : ¬ p < l.length) : lexL l p x = .toks x.toks := lex_stop h
theorem lexL_over {l : List UInt8} {p : Nat} {x : LexS} (h : p < l.length) (hb : p < x.behind) : lexL l p x = lexL l (p + wideR (l.drop p)) x := by
  have hw := wideR_pos (l.drop p)
  obtain ⟨f, hf⟩ : ∃ f, l.length = f + 1 := ⟨l.length - 1, by omega⟩
  rw [← lexL_fuel l (f + 1) p x (by omega), lex_over h hb, lexL_fuel l f _ x (by omega)]
theorem lexL_go {l : List UInt8} {p : Nat} {x : LexS} (h : p < l.length) (hb : x.behind ≤ p) : lexL l p x = if (takeZ l p x).1 = 0 then lexL l (p + wideR (l.drop p)) (takeZ l p x).2 else .bad p (takeZ l p x).1 := by
  have hw := wideR_pos (l.drop p)
  obtain ⟨f, hf⟩ : ∃ f, l.length = f + 1 := ⟨l.length - 1, by omega⟩
  rw [← lexL_fuel l (f + 1) p x (by omega), lex_go h hb, lexL_fuel l f _ _ (by omega)]
theorem lexZ_L (l : List UInt8) : lexZ l = if 20000 < l.length then .bad 0 7 else lexL l 0 ⟨0, false, []⟩ := rfl

/-- What no name and no number goes on with: an ascii that is no letter, no digit. -/
structure Stop (r : List UInt8) : Prop where
  head : ∃ c t, r = c :: t ∧ c.toNat < 128 ∧ nameR (c.toNat : Int) = false ∧ digR (c.toNat : Int) = 16
theorem stop_of {c : UInt8} {t : List UInt8} (h : c = 10 ∨ c = 32 ∨ c = 9 ∨ c = 13 ∨ c = 35 ∨ c = 44 ∨ c = 58 ∨ c = 40 ∨ c = 41) : Stop (c :: t) := by
  refine ⟨c, t, rfl, ?_⟩
  rcases h with rfl | rfl | rfl | rfl | rfl | rfl | rfl | rfl | rfl <;> exact ⟨by decide, by decide +kernel, by decide +kernel⟩
/-- A rune is what it is, whatever ascii stands behind the text. -/
theorem decode_app {u r : List UInt8} (hu : u ≠ []) (hr : ∃ c t, r = c :: t ∧ c.toNat < 128) : decodeL (u ++ r) = decodeL u := by
  obtain ⟨c, t, rfl, hc⟩ := hr
  rw [decodeL_N, decodeL_N]
  have hc2 : ¬ c.toNat / 64 = 2 := by omega
  rcases u with _ | ⟨a0, _ | ⟨a1, _ | ⟨a2, _ | ⟨a3, u⟩⟩⟩⟩
  · exact absurd rfl hu
  · simp only [List.cons_append, List.nil_append, List.length_cons, List.length_nil, List.getD_cons_zero, List.getD_cons_succ, List.getD_nil]
    unfold decodeN
    simp only [show (1 < 0 + 1) = False by simp, false_and, and_false, if_false, hc2]
  · simp only [List.cons_append, List.nil_append, List.length_cons, List.length_nil, List.getD_cons_zero, List.getD_cons_succ, List.getD_nil]
    unfold decodeN
    simp only [show (1 < 0 + 1 + 1) = True by simp, show (2 < 0 + 1 + 1) = False by simp, show (1 < t.length + 1 + 1 + 1) = True by simp, true_and, false_and, and_false, if_false, hc2]
  · simp only [List.cons_append, List.nil_append, List.length_cons, List.length_nil, List.getD_cons_zero, List.getD_cons_succ, List.getD_nil]
    unfold decodeN
    simp only [show (1 < 0 + 1 + 1 + 1) = True by simp, show (2 < 0 + 1 + 1 + 1) = True by simp, show (3 < 0 + 1 + 1 + 1) = False by simp, show (1 < t.length + 1 + 1 + 1 + 1) = True by simp, show (2 < t.length + 1 + 1 + 1 + 1) = True by simp, true_and, false_and, and_false, if_false, hc2]
  · simp only [List.cons_append, List.length_cons, List.getD_cons_zero, List.getD_cons_succ]
    unfold decodeN
    simp
theorem Stop.ascii {r : List UInt8} (h : Stop r) : ∃ c t, r = c :: t ∧ c.toNat < 128 := by obtain ⟨c, t, h1, h2, _⟩ := h.head; exact ⟨c, t, h1, h2⟩
theorem Stop.rune {r : List UInt8} (h : Stop r) : nameR (runeR r) = false ∧ digR (runeR r) = 16 ∧ 0 < r.length := by
  obtain ⟨c, t, rfl, h2, h3, h4⟩ := h.head
  have : runeR (c :: t) = c.toNat := by unfold runeR; rw [decodeL_ascii _ _ h2]
  rw [this]
  exact ⟨h3, h4, by simp⟩
section
variable {u r : List UInt8}
theorem rune_app (hu : u ≠ []) (hr : Stop r) : runeR (u ++ r) = runeR u := by unfold runeR; rw [decode_app hu hr.ascii]
theorem wide_app (hu : u ≠ []) (hr : Stop r) : wideR (u ++ r) = wideR u := by unfold wideR; rw [decode_app hu hr.ascii]
theorem bad_app (hu : u ≠ []) (hr : Stop r) : badR (u ++ r) = badR u := by unfold badR; rw [rune_app hu hr, wide_app hu hr]
theorem nameF_app (hr : Stop r) : ∀ f p F, f < F → u.length ≤ p + f → p ≤ u.length → nameF (u ++ r) F p = nameF u f p
  | 0, p, F + 1, _, h1, h2 => by
    have hp : p = u.length := by omega
    subst hp
    unfold nameF
    rw [if_pos (by have := hr.rune.2.2; simp; omega), List.drop_left, hr.rune.1]
    rfl
  | f + 1, p, F + 1, hF, h1, h2 => by
    by_cases hp : p < u.length
    · have hne := from_ne hp
      conv => lhs; unfold nameF
      conv => rhs; unfold nameF
      rw [if_pos (by simp; omega), if_pos hp, List.drop_append_of_le_length h2, rune_app hne hr, wide_app hne hr]
      have hw := wide_in hp
      have hw2 := wideR_pos (u.drop p)
      split
      · exact nameF_app hr f _ F (by omega) (by omega) hw
      · rfl
    · have hp2 : p = u.length := by omega
      subst hp2
      conv => rhs; unfold nameF
      rw [if_neg hp]
      unfold nameF
      rw [if_pos (by have := hr.rune.2.2; simp; omega), List.drop_left, hr.rune.1]
      rfl
theorem digF_app (hr : Stop r) {base : Int} (hb : base ≤ 16) : ∀ f p F n, f < F → u.length ≤ p + f → p ≤ u.length → digF (u ++ r) base F p n = digF u base f p n
  | 0, p, F + 1, n, _, h1, h2 => by
    have hp : p = u.length := by omega
    subst hp
    unfold digF
    rw [if_pos (by have := hr.rune.2.2; simp; omega), List.drop_left, hr.rune.2.1, if_pos hb]
  | f + 1, p, F + 1, n, hF, h1, h2 => by
    by_cases hp : p < u.length
    · have hne := from_ne hp
      conv => lhs; unfold digF
      conv => rhs; unfold digF
      rw [if_pos (by simp; omega), if_pos hp, List.drop_append_of_le_length h2, rune_app hne hr, wide_app hne hr]
      have hw := wide_in hp
      have hw2 := wideR_pos (u.drop p)
      split
      · rfl
      · exact digF_app hr hb f _ F _ (by omega) (by omega) hw
    · have hp2 : p = u.length := by omega
      subst hp2
      conv => rhs; unfold digF
      rw [if_neg hp]
      unfold digF
      rw [if_pos (by have := hr.rune.2.2; simp; omega), List.drop_left, hr.rune.2.1, if_pos hb]
theorem nameZ_app (hr : Stop r) : nameZ (u ++ r) = nameZ u := by
  unfold nameZ
  exact nameF_app hr _ _ _ (by have := hr.rune.2.2; simp; omega) (by omega) (Nat.zero_le _)
theorem digZ_app (hr : Stop r) {base : Int} (hb : base ≤ 16) : digZ (u ++ r) base = digZ u base := by
  unfold digZ
  exact digF_app hr hb _ _ _ _ (by have := hr.rune.2.2; simp; omega) (by omega) (Nat.zero_le _)
theorem pre_app2 (hu : u ≠ []) (hr : Stop r) : hasPrefix (u ++ r) [48, 120] = hasPrefix u [48, 120] := by
  obtain ⟨c, t, rfl, h2, h3, h4⟩ := hr.head
  have hc : c ≠ 120 := by rintro rfl; exact absurd h3 (by decide +kernel)
  rcases u with _ | ⟨a, _ | ⟨b, u⟩⟩
  · exact absurd rfl hu
  · unfold hasPrefix
    simp only [List.cons_append, List.nil_append, List.isPrefixOf, beq_eq_false_iff_ne.2 (fun e : (120 : UInt8) = c => hc e.symm), Bool.false_and, Bool.and_false]
  · unfold hasPrefix
    simp [List.isPrefixOf]
theorem pre_app1 (hu : u ≠ []) : hasPrefix (u ++ r) [45] = hasPrefix u [45] := by
  rcases u with _ | ⟨a, u⟩
  · exact absurd rfl hu
  · unfold hasPrefix
    simp [List.isPrefixOf]
theorem numZ_app (hu : u ≠ []) (hr : Stop r) : numZ (u ++ r) = numZ u := by
  have h1 : hasPrefix u [48, 120] = true → (u ++ r).drop 2 = u.drop 2 ++ r := fun h => List.drop_append_of_le_length (by have := prefix_len h; simpa using this)
  have h2 : (u ++ r).drop 1 = u.drop 1 ++ r := List.drop_append_of_le_length (List.length_pos_iff.2 hu)
  unfold numZ
  rw [pre_app2 hu hr, pre_app1 hu, h2, digZ_app hr (by omega), digZ_app hr (by omega)]
  by_cases h : hasPrefix u [48, 120] = true
  · rw [h1 h, digZ_app hr (by omega)]
  · have e : ∀ n : Nat, ¬ (hasPrefix u [48, 120] = true ∧ 0 < n) := fun n e => h e.1
    rw [if_neg (e _), if_neg (e _)]
theorem take_app {n : Nat} (h : n ≤ u.length) : (u ++ r).take n = u.take n := List.take_append_of_le_length h
/-- What begins at a place of a text does not hang on what stands behind the text. -/
theorem takeZ_app {a : List UInt8} {p : Nat} (x : LexS) (hp : p < a.length) (hr : Stop r) : takeZ (a ++ r) p x = takeZ a p x ∧ wideR ((a ++ r).drop p) = wideR (a.drop p) := by
  have hne := from_ne hp
  have hd : (a ++ r).drop p = a.drop p ++ r := List.drop_append_of_le_length (Nat.le_of_lt hp)
  have hl : 1 ≤ (a.drop p).length := List.length_pos_iff.2 hne
  refine ⟨?_, by rw [hd, wide_app hne hr]⟩
  unfold takeZ lineZ numberZ addZ
  rw [hd, bad_app hne hr, rune_app hne hr, nameZ_app hr, numZ_app hne hr, take_app hl, take_app (nameZ_le _), take_app (numZ_le _)]
theorem takeZ_behind {a : List UInt8} {p : Nat} (x : LexS) (hp : p < a.length) (hb : x.behind ≤ a.length) : (takeZ a p x).2.behind ≤ a.length := by
  have hl : (a.drop p).length = a.length - p := by simp
  have h1 := nameZ_le (a.drop p)
  have h2 := numZ_le (a.drop p)
  unfold takeZ lineZ numberZ addZ
  repeat' split
  all_goals simp only
  all_goals omega
/-- The way through a text that has tokens, whatever stands behind it. -/
theorem lex_pre {a : List UInt8} (hr : Stop r) : ∀ n p x ts, a.length ≤ p + n → p ≤ a.length → x.behind ≤ a.length → lexL a p x = .toks ts → ∃ y : LexS, y.toks = ts ∧ y.behind ≤ a.length ∧ lexL (a ++ r) p x = lexL (a ++ r) a.length y
  | 0, p, x, ts, h1, h2, hb, h => by
    have hp : p = a.length := by omega
    subst hp
    rw [lexL_end (by omega)] at h
    injection h with h
    exact ⟨x, h, hb, rfl⟩
  | n + 1, p, x, ts, h1, h2, hb, h => by
    by_cases hp : p < a.length
    · have hw := wide_in hp
      have hw2 := wideR_pos (a.drop p)
      have hpr : p < (a ++ r).length := by simp; omega
      obtain ⟨t1, t2⟩ := takeZ_app (r := r) x hp hr
      by_cases hx : p < x.behind
      · rw [lexL_over hp hx] at h
        rw [lexL_over hpr hx, t2]
        exact lex_pre hr n _ x ts (by omega) hw hb h
      · rw [lexL_go hp (by omega)] at h
        rw [lexL_go hpr (by omega), t1, t2]
        split at h
        · rename_i h0
          rw [if_pos h0]
          exact lex_pre hr n _ _ ts (by omega) hw (takeZ_behind x hp hb) h
        · cases h
    · have hp2 : p = a.length := by omega
      subst hp2
      rw [lexL_end hp] at h
      injection h with h
      exact ⟨x, h, hb, rfl⟩
end
/-- A token so many bytes on. -/
def shiftT (n : Nat) (t : Tok) : Tok := { t with at_ := t.at_ + n }
/-- What a text's end leaves, behind tokens of another one that end with a line's end, or behind none. -/
def behindR (n : Nat) (T : List Tok) : LexR → LexR
  | .toks us => .toks (T ++ us.map (shiftT n))
  | .bad a e => .bad (n + a) e
theorem lineB_snoc (T : List Tok) (us : List Tok) (hT : lineB T = false) (n : Nat) : lineB (T ++ us.map (shiftT n)) = lineB us := by
  unfold lineB
  rcases List.eq_nil_or_concat us with rfl | ⟨vs, v, rfl⟩
  · simpa [lineB] using hT
  · simp [shiftT]
theorem take_shift (c b : List UInt8) (p : Nat) (bh : Nat) (rm : Bool) (T us : List Tok) (hT : lineB T = false) :
    (takeZ (c ++ b) (c.length + p) ⟨c.length + bh, rm, T ++ us.map (shiftT c.length)⟩).1 = (takeZ b p ⟨bh, rm, us⟩).1 ∧
    (takeZ (c ++ b) (c.length + p) ⟨c.length + bh, rm, T ++ us.map (shiftT c.length)⟩).2 = ⟨c.length + (takeZ b p ⟨bh, rm, us⟩).2.behind, (takeZ b p ⟨bh, rm, us⟩).2.remark, T ++ (takeZ b p ⟨bh, rm, us⟩).2.toks.map (shiftT c.length)⟩ := by
  have hd : (c ++ b).drop (c.length + p) = b.drop p := by rw [List.drop_append]; simp
  have hl := lineB_snoc T us hT c.length
  have hs : ∀ (k n : Int) (s : Nat) (x : List UInt8), (⟨k, n, c.length + p, x⟩ : Tok) = shiftT c.length ⟨k, n, p, x⟩ := fun k n s x => by unfold shiftT; simp [Nat.add_comm]
  unfold takeZ lineZ numberZ addZ
  rw [hd]
  simp only [hl, hs _ _ 0]
  repeat' split
  all_goals first
    | exact ⟨rfl, rfl⟩
    | (refine ⟨rfl, ?_⟩; simp [Nat.add_assoc])
    | simp_all
theorem lex_shift (c b : List UInt8) (T : List Tok) (hT : lineB T = false) : ∀ n p bh rm us, b.length ≤ p + n → lexL (c ++ b) (c.length + p) ⟨c.length + bh, rm, T ++ us.map (shiftT c.length)⟩ = behindR c.length T (lexL b p ⟨bh, rm, us⟩)
  | n, p, bh, rm, us, h => by
    by_cases hp : p < b.length
    · have hpc : c.length + p < (c ++ b).length := by simp; omega
      have hd : (c ++ b).drop (c.length + p) = b.drop p := by rw [List.drop_append]; simp
      have hw2 := wideR_pos (b.drop p)
      obtain ⟨m, rfl⟩ : ∃ m, n = m + 1 := ⟨n - 1, by omega⟩
      by_cases hx : p < bh
      · rw [lexL_over hp (by exact hx), lexL_over hpc (by show c.length + p < c.length + bh; omega), hd, Nat.add_assoc]
        exact lex_shift c b T hT m _ bh rm us (by omega)
      · obtain ⟨t1, t2⟩ := take_shift c b p bh rm T us hT
        rw [lexL_go hp (by exact Nat.le_of_not_lt hx), lexL_go hpc (by show c.length + bh ≤ c.length + p; omega), hd, t1, t2]
        split
        · rw [Nat.add_assoc]
          exact lex_shift c b T hT m _ _ _ _ (by omega)
        · rfl
    · rw [lexL_end hp, lexL_end (by simp; omega)]; rfl
/-- An ascii that stands at a place. -/
theorem at_ascii {l : List UInt8} {p : Nat} {c : UInt8} {t : List UInt8} (hd : l.drop p = c :: t) (hc : c.toNat < 128) : p < l.length ∧ runeR (l.drop p) = c.toNat ∧ wideR (l.drop p) = 1 ∧ l.drop (p + 1) = t := by
  refine ⟨?_, ?_, ?_, ?_⟩
  · apply Nat.lt_of_not_le
    intro h
    rw [List.drop_eq_nil_of_le h] at hd; cases hd
  · rw [hd]; unfold runeR; rw [decodeL_ascii _ _ hc]
  · rw [hd]; unfold wideR; rw [decodeL_ascii _ _ hc]
  · have := congrArg List.tail hd
    simpa [List.tail_drop] using this
/-- A line's end. -/
theorem step_line {l : List UInt8} {p : Nat} {t : List UInt8} {b : Nat} {rm : Bool} {ts : List Tok} (hd : l.drop p = 10 :: t) (hb : b ≤ p) : lexL l p ⟨b, rm, ts⟩ = lexL l (p + 1) (lineZ l p ⟨b, false, ts⟩) := by
  obtain ⟨h1, h2, h3, _⟩ := at_ascii hd (by decide)
  rw [lexL_go h1 (by exact hb), at_line rm (show runeR (l.drop p) = 10 from h2), h3]
  rfl
/-- A blank. -/
theorem step_blank {l : List UInt8} {p : Nat} {c : UInt8} {t : List UInt8} {x : LexS} (hd : l.drop p = c :: t) (hc : c = 32 ∨ c = 9 ∨ c = 13) (hb : x.behind ≤ p) : lexL l p x = lexL l (p + 1) x := by
  have hc2 : c.toNat < 128 := by rcases hc with rfl | rfl | rfl <;> decide
  obtain ⟨h1, h2, h3, _⟩ := at_ascii hd hc2
  have hbl : blankR (runeR (l.drop p)) = true := by rw [h2]; rcases hc with rfl | rfl | rfl <;> decide
  have hbd : badR (l.drop p) = false := good h2 (by rcases hc with rfl | rfl | rfl <;> decide)
  rw [lexL_go h1 hb, at_blank hbd hbl, h3]
  rfl
/-- A remark begins. -/
theorem step_hash {l : List UInt8} {p : Nat} {t : List UInt8} {b : Nat} {ts : List Tok} (hd : l.drop p = 35 :: t) (hb : b ≤ p) : lexL l p ⟨b, false, ts⟩ = lexL l (p + 1) ⟨b, true, ts⟩ := by
  obtain ⟨h1, h2, h3, _⟩ := at_ascii hd (by decide)
  rw [lexL_go h1 (by exact hb), at_hash (show runeR (l.drop p) = 35 from h2), h3]
  rfl
/-- In a remark. -/
theorem step_remark {l : List UInt8} {p : Nat} {c : UInt8} {t : List UInt8} {b : Nat} {ts : List Tok} (hd : l.drop p = c :: t) (hc : c.toNat < 128) (hn : c ≠ 10) (hb : b ≤ p) : lexL l p ⟨b, true, ts⟩ = lexL l (p + 1) ⟨b, true, ts⟩ := by
  obtain ⟨h1, h2, h3, _⟩ := at_ascii hd hc
  have hbd : badR (l.drop p) = false := good h2 (by omega)
  have h10 : runeR (l.drop p) ≠ 10 := by
    rw [h2]; intro e; apply hn
    exact UInt8.toNat_inj.1 (by show c.toNat = 10; omega)
  rw [lexL_go h1 (by exact hb), at_remark hbd rfl h10, h3]
  rfl
end Go.Proofs.YtfdegdbknponkaaDoor.Words

/- The tokens of two texts with a line's end between. Plain mathematics. -/
namespace Go.Proofs.YtfdegdbknponkaaDoor.Words
set_option maxRecDepth 100000
set_option linter.unusedVariables false
open Go.Lib

theorem takeZ_two (l : List UInt8) (p b1 b2 : Nat) (rm : Bool) (ts : List Tok) : (takeZ l p ⟨b1, rm, ts⟩).1 = (takeZ l p ⟨b2, rm, ts⟩).1 ∧
    ((takeZ l p ⟨b1, rm, ts⟩).2 = (takeZ l p ⟨b2, rm, ts⟩).2 ∨ ∃ rm', (takeZ l p ⟨b1, rm, ts⟩).2 = ⟨b1, rm', ts⟩ ∧ (takeZ l p ⟨b2, rm, ts⟩).2 = ⟨b2, rm', ts⟩) := by
  unfold takeZ lineZ numberZ addZ
  repeat' split
  all_goals first
    | exact ⟨rfl, .inl rfl⟩
    | exact ⟨rfl, .inr ⟨_, rfl, rfl⟩⟩
/-- What ends ahead of a place is forgotten there. -/
theorem lexL_behind (l : List UInt8) : ∀ n p b1 b2 rm ts, l.length ≤ p + n → b1 ≤ p → b2 ≤ p → lexL l p ⟨b1, rm, ts⟩ = lexL l p ⟨b2, rm, ts⟩
  | n, p, b1, b2, rm, ts, h, h1, h2 => by
    by_cases hp : p < l.length
    · have hw := wideR_pos (l.drop p)
      obtain ⟨m, rfl⟩ : ∃ m, n = m + 1 := ⟨n - 1, by omega⟩
      obtain ⟨t1, t2⟩ := takeZ_two l p b1 b2 rm ts
      rw [lexL_go hp (by exact h1), lexL_go hp (by exact h2), t1]
      split
      · rcases t2 with t2 | ⟨rm', t3, t4⟩
        · rw [t2]
        · rw [t3, t4]
          exact lexL_behind l m _ b1 b2 rm' ts (by omega) (by omega) (by omega)
      · rfl
    · rw [lexL_end hp, lexL_end hp]
/-- A step that makes no token. -/
theorem step_free {l : List UInt8} {p : Nat} {c : UInt8} {t : List UInt8} {b : Nat} {rm : Bool} {ts : List Tok} (hd : l.drop p = c :: t) (hc : c.toNat < 128) (hn : c ≠ 10) (hf : rm = true ∨ c = 32 ∨ c = 9 ∨ c = 13 ∨ c = 35) (hb : b ≤ p) :
    lexL l p ⟨b, rm, ts⟩ = lexL l (p + 1) ⟨b, rm || decide (c = 35), ts⟩ := by
  cases rm
  · rcases hf with hf | hf | hf | hf | hf
    · cases hf
    · rw [step_blank hd (.inl hf) (by exact hb), hf]; rfl
    · rw [step_blank hd (.inr (.inl hf)) (by exact hb), hf]; rfl
    · rw [step_blank hd (.inr (.inr hf)) (by exact hb), hf]; rfl
    · subst hf; rw [step_hash hd hb]; rfl
  · rw [step_remark hd hc hn hb]; rfl
/-- A rune of two bytes in a remark. -/
theorem step_e {l : List UInt8} {p : Nat} {t : List UInt8} {b : Nat} {ts : List Tok} (hd : l.drop p = 195 :: 169 :: t) (hb : b ≤ p) : lexL l p ⟨b, true, ts⟩ = lexL l (p + 2) ⟨b, true, ts⟩ := by
  have hp : p < l.length := by
    apply Nat.lt_of_not_le
    intro h
    rw [List.drop_eq_nil_of_le h] at hd; cases hd
  have hde : decodeL (l.drop p) = (233, 2) := by
    rw [hd, decodeL_N]
    simp only [List.length_cons, List.getD_cons_zero, List.getD_cons_succ]
    unfold decodeN
    simp
  have h2 : runeR (l.drop p) = 233 := by unfold runeR; rw [hde]; rfl
  have h3 : wideR (l.drop p) = 2 := by unfold wideR; rw [hde]
  have hbd : badR (l.drop p) = false := good h2 (by decide)
  rw [lexL_go hp (by exact hb), at_remark hbd rfl (by rw [h2]; decide), h3]
  rfl
theorem step_nl {l : List UInt8} {p : Nat} {t : List UInt8} {b : Nat} {rm : Bool} {ts : List Tok} (hd : l.drop p = 10 :: t) (hb : b ≤ p) (hl : lineB ts = true) : lexL l p ⟨b, rm, ts⟩ = lexL l (p + 1) ⟨p + 1, false, ts ++ [⟨4, 0, p, [10]⟩]⟩ := by
  rw [step_line hd hb]
  unfold lineZ addZ
  rw [if_pos hl, hd]
  rfl
theorem step_nl2 {l : List UInt8} {p : Nat} {t : List UInt8} {b : Nat} {rm : Bool} {ts : List Tok} (hd : l.drop p = 10 :: t) (hb : b ≤ p) (hl : lineB ts = false) : lexL l p ⟨b, rm, ts⟩ = lexL l (p + 1) ⟨b, false, ts⟩ := by
  rw [step_line hd hb]
  unfold lineZ
  rw [if_neg (by show ¬ lineB ts = true; rw [hl]; decide)]
theorem lineB_end (T : List Tok) (z : Tok) (hz : z.kind = 4) : lineB (T ++ [z]) = false := by unfold lineB; simp [hz]
def betweenZ : List (List UInt8) := [[10], [10, 10], [32, 35, 32, 97, 58, 32, 98, 10], [13, 10], [9, 10, 32, 35, 32, 195, 169, 10, 32]]
theorem between_run (a b k : List UInt8) (hk : k ∈ betweenZ) (bh : Nat) (rm : Bool) (l : List Tok) (hb : bh ≤ a.length) (hl : lineB l = true) :
    ∃ z : Tok, z.kind = 4 ∧ ∃ bh', bh' ≤ a.length + k.length ∧ lexL (a ++ (k ++ b)) a.length ⟨bh, rm, l⟩ = lexL (a ++ (k ++ b)) (a.length + k.length) ⟨bh', false, l ++ [z]⟩ := by
  have hd : ∀ i, i ≤ k.length → (a ++ (k ++ b)).drop (a.length + i) = k.drop i ++ b := by
    intro i hi
    rw [← List.drop_drop, List.drop_left, List.drop_append_of_le_length hi]
  simp only [betweenZ, List.mem_cons, List.not_mem_nil, or_false] at hk
  rcases hk with rfl | rfl | rfl | rfl | rfl
  · refine ⟨⟨4, 0, a.length, [10]⟩, rfl, a.length + 1, by simp, ?_⟩
    exact step_nl (t := b) (hd 0 (by simp)) hb hl
  · refine ⟨⟨4, 0, a.length, [10]⟩, rfl, a.length + 1, by simp, ?_⟩
    exact (step_nl (t := 10 :: b) (hd 0 (by simp)) hb hl).trans (step_nl2 (t := b) (hd 1 (by simp)) (by omega) (lineB_end _ _ rfl))
  · refine ⟨⟨4, 0, a.length + 7, [10]⟩, rfl, a.length + 7 + 1, by simp, ?_⟩
    exact ((step_free (hd 0 (by simp)) (by decide) (by decide) (by simp) hb)).trans (((step_free (hd 1 (by simp)) (by decide) (by decide) (by simp) (by omega))).trans (((step_free (hd 2 (by simp)) (by decide) (by decide) (by simp) (by omega))).trans (((step_free (hd 3 (by simp)) (by decide) (by decide) (by simp) (by omega))).trans (((step_free (hd 4 (by simp)) (by decide) (by decide) (by simp) (by omega))).trans (((step_free (hd 5 (by simp)) (by decide) (by decide) (by simp) (by omega))).trans (((step_free (hd 6 (by simp)) (by decide) (by decide) (by simp) (by omega))).trans (step_nl (t := b) (hd 7 (by simp)) (by omega) hl)))))))
  · refine ⟨⟨4, 0, a.length + 1, [10]⟩, rfl, a.length + 1 + 1, by simp, ?_⟩
    exact ((step_free (hd 0 (by simp)) (by decide) (by decide) (by simp) hb)).trans (step_nl (t := b) (hd 1 (by simp)) (by omega) hl)
  · refine ⟨⟨4, 0, a.length + 1, [10]⟩, rfl, a.length + 1 + 1, by simp, ?_⟩
    exact ((step_free (hd 0 (by simp)) (by decide) (by decide) (by simp) hb)).trans ((step_nl (t := [32, 35, 32, 195, 169, 10, 32] ++ b) (hd 1 (by simp)) (by omega) hl).trans (((step_free (hd 2 (by simp)) (by decide) (by decide) (by simp) (by omega))).trans (((step_free (hd 3 (by simp)) (by decide) (by decide) (by simp) (by omega))).trans (((step_free (hd 4 (by simp)) (by decide) (by decide) (by simp) (by omega))).trans ((step_e (t := [10, 32] ++ b) (hd 5 (by simp)) (by omega)).trans ((step_nl2 (t := [32] ++ b) (hd 7 (by simp)) (by omega) (lineB_end _ _ rfl)).trans ((step_free (hd 8 (by simp)) (by decide) (by decide) (by simp) (by omega)))))))))
/-- Two texts with a line's end between have the tokens of each, and a line's end. -/
theorem lex_lines (a b k : List UInt8) (hk : k ∈ betweenZ) (l m : List Tok) (ha : lexZ a = .toks l) (hb : lexZ b = .toks m) (hla : a.length ≤ 1000) (hlb : b.length ≤ 1000) (hl : lineB l = true) :
    ∃ z : Tok, z.kind = 4 ∧ lexZ (a ++ (k ++ b)) = .toks (l ++ (z :: m.map (shiftT (a.length + k.length)))) := by
  have hkl : k.length ≤ 10 := by
    have : ∀ x ∈ betweenZ, x.length ≤ 10 := by decide
    exact this k hk
  have hstop : Stop (k ++ b) := by
    simp only [betweenZ, List.mem_cons, List.not_mem_nil, or_false] at hk
    rcases hk with rfl | rfl | rfl | rfl | rfl <;> exact stop_of (by simp)
  rw [lexZ_L, if_neg (by omega)] at ha hb
  obtain ⟨y, y1, y2, y3⟩ := lex_pre hstop a.length 0 ⟨0, false, []⟩ l (by omega) (Nat.zero_le _) (Nat.zero_le _) ha
  obtain ⟨bh, rm, ts⟩ := y
  simp only at y1 y2
  subst y1
  obtain ⟨z, z1, bh', z2, z3⟩ := between_run a b k hk bh rm ts y2 hl
  refine ⟨z, z1, ?_⟩
  have hlen : (a ++ (k ++ b)).length = a.length + (k.length + b.length) := by simp
  rw [lexZ_L, if_neg (by omega), y3, z3]
  have hc : a ++ (k ++ b) = (a ++ k) ++ b := by simp
  have hcl : (a ++ k).length = a.length + k.length := by simp
  rw [hc, ← hcl, lexL_behind ((a ++ k) ++ b) ((a ++ k) ++ b).length _ bh' (a ++ k).length false _ (by omega) (by omega) (Nat.le_refl _)]
  have := lex_shift (a ++ k) b (ts ++ [z]) (lineB_end _ _ z1) b.length 0 0 false [] (by omega)
  simp only [List.map_nil, List.append_nil, Nat.add_zero] at this
  rw [this, hb]
  simp [behindR]
end Go.Proofs.YtfdegdbknponkaaDoor.Words

/- Numbers as texts, and read again: plain mathematics over lexZ. -/
namespace Go.Proofs.YtfdegdbknponkaaDoor.Words
set_option maxRecDepth 100000
set_option linter.unusedVariables false
open Go.Lib

/-- A digit of base 16: small letters, or great ones. -/
def hexB (great : Bool) (d : Nat) : UInt8 := if d < 10 then UInt8.ofNat (48 + d) else if great then UInt8.ofNat (55 + d) else UInt8.ofNat (87 + d)
/-- A number in a base: its digits. -/
def digsB (b : Nat) (great : Bool) : Nat → Nat → List UInt8
  | 0, n => []
  | f + 1, n => if n < b then [hexB great n] else digsB b great f (n / b) ++ [hexB great (n % b)]
/-- Enough rounds are enough. -/
theorem digsB_more {b : Nat} (hb : 2 ≤ b) (g : Bool) : ∀ f n, n < f → digsB b g f n = digsB b g (n + 1) n
  | 0, n, h => by omega
  | f + 1, n, h => by
    unfold digsB
    split
    · rfl
    · rename_i hn
      have h1 : n / b < n := Nat.div_lt_self (by omega) (by omega)
      rw [digsB_more hb g f (n / b) (by omega), digsB_more hb g n (n / b) h1]
/-- The digits of a number. -/
def digs (b : Nat) (g : Bool) (n : Nat) : List UInt8 := digsB b g (n + 1) n
theorem digs_lo {b n : Nat} (g : Bool) (h : n < b) : digs b g n = [hexB g n] := by unfold digs digsB; rw [if_pos h]
theorem digs_hi {b n : Nat} (hb : 2 ≤ b) (g : Bool) (h : b ≤ n) : digs b g n = digs b g (n / b) ++ [hexB g (n % b)] := by
  have h1 : n / b < n := Nat.div_lt_self (by omega) (by omega)
  unfold digs
  conv => lhs; unfold digsB
  rw [if_neg (by omega), digsB_more hb g n (n / b) h1]
theorem digs_ne {b : Nat} (hb : 2 ≤ b) (g : Bool) (n : Nat) : digs b g n ≠ [] := by
  by_cases h : n < b
  · rw [digs_lo g h]; simp
  · rw [digs_hi hb g (by omega)]; simp
/-- What is so of each digit. -/
structure IsDig (b : Nat) (c : UInt8) : Prop where
  low : c.toNat < 128
  dig : 0 ≤ digR c.toNat ∧ digR c.toNat < b
  ne10 : c.toNat ≠ 120 ∧ c.toNat ≠ 45
theorem hexB_dig {b d : Nat} (g : Bool) (hb : b ≤ 16) (h : d < b) : IsDig b (hexB g d) ∧ digR ((hexB g d).toNat : Int) = d := by
  have hd : d < 16 := by omega
  have h1 : ((List.range 16).all fun d => decide ((hexB g d).toNat < 128) && (decide (digR ((hexB g d).toNat : Int) = (d : Int)) && (decide ((hexB g d).toNat ≠ 120) && decide ((hexB g d).toNat ≠ 45)))) = true := by cases g <;> decide +kernel
  have h2 := List.all_eq_true.1 h1 d (List.mem_range.2 hd)
  simp only [Bool.and_eq_true, decide_eq_true_eq] at h2
  obtain ⟨a1, a2, a3, a4⟩ := h2
  exact ⟨⟨a1, by rw [a2]; omega, a3, a4⟩, a2⟩
theorem digs_dig {b : Nat} (hb : 2 ≤ b) (hb16 : b ≤ 16) (g : Bool) : ∀ n, ∀ c ∈ digs b g n, IsDig b c := by
  intro n
  induction n using Nat.strongRecOn with
  | _ n ih =>
    intro c hc
    by_cases h : n < b
    · rw [digs_lo g h] at hc
      simp only [List.mem_cons, List.not_mem_nil, or_false] at hc
      subst hc
      exact (hexB_dig g hb16 h).1
    · rw [digs_hi hb g (by omega), List.mem_append] at hc
      rcases hc with hc | hc
      · exact ih _ (Nat.div_lt_self (by omega) (by omega)) c hc
      · simp only [List.mem_cons, List.not_mem_nil, or_false] at hc
        subst hc
        exact (hexB_dig g hb16 (Nat.mod_lt _ (by omega))).1
/-- The value that digits give, no more than so far. -/
def foldD (b : Int) (cs : List UInt8) (n : Int) : Int := cs.foldl (fun n c => min (n * b + digR (c.toNat : Int)) 4294967297) n
theorem foldD_digs {b : Nat} (hb : 2 ≤ b) (hb16 : b ≤ 16) (g : Bool) : ∀ n : Nat, foldD b (digs b g n) 0 = min (n : Int) 4294967297 := by
  intro n
  induction n using Nat.strongRecOn with
  | _ n ih =>
    by_cases h : n < b
    · rw [digs_lo g h]
      unfold foldD
      simp only [List.foldl_cons, List.foldl_nil]
      rw [(hexB_dig g hb16 h).2, Int.zero_mul, Int.zero_add]
    · have hi := ih (n / b) (Nat.div_lt_self (by omega) (by omega))
      have hm : n % b < b := Nat.mod_lt _ (by omega)
      rw [digs_hi hb g (by omega)]
      unfold foldD at hi ⊢
      rw [List.foldl_append, hi]
      simp only [List.foldl_cons, List.foldl_nil]
      rw [(hexB_dig g hb16 hm).2]
      have hq : (n : Int) = (n / b : Nat) * b + (n % b : Nat) := by
        have := Nat.div_add_mod n b
        rw [Nat.mul_comm] at this
        exact_mod_cast this.symm
      by_cases hc : ((n / b : Nat) : Int) ≤ 4294967297
      · have hmin : min ((n / b : Nat) : Int) 4294967297 = ((n / b : Nat) : Int) := by omega
        rw [hmin, ← hq]
      · have hmin : min ((n / b : Nat) : Int) 4294967297 = 4294967297 := by omega
        rw [hmin]
        have h1 : (4294967297 : Int) * 2 ≤ 4294967297 * b := Int.mul_le_mul_of_nonneg_left (by omega) (by omega)
        have h2 : ((n / b : Nat) : Int) * 1 ≤ ((n / b : Nat) : Int) * b := Int.mul_le_mul_of_nonneg_left (by omega) (by omega)
        generalize ((n / b : Nat) : Int) * b = q at *
        generalize (4294967297 : Int) * (b : Int) = q' at *
        omega
theorem rune_ascii {c : UInt8} (h : c.toNat < 128) (r : List UInt8) : runeR (c :: r) = (c.toNat : Int) ∧ wideR (c :: r) = 1 := by
  unfold runeR wideR
  rw [decodeL_ascii c r h]
  exact ⟨rfl, rfl⟩
theorem digF_run {b : Nat} {tail : List UInt8} : ∀ (cs pre : List UInt8) (f : Nat) (n : Int), (∀ c ∈ cs, IsDig b c) →
    digF (pre ++ (cs ++ tail)) b (f + cs.length) pre.length n = digF (pre ++ (cs ++ tail)) b f (pre.length + cs.length) (foldD b cs n)
  | [], pre, f, n, _ => rfl
  | c :: cs, pre, f, n, h => by
    have hc := h c (by simp)
    obtain ⟨r1, r2⟩ := rune_ascii hc.low (cs ++ tail)
    have e : (pre ++ (c :: cs ++ tail)).drop pre.length = c :: (cs ++ tail) := by simp
    rw [List.length_cons, show f + (cs.length + 1) = (f + cs.length) + 1 by omega]
    conv => lhs; unfold digF
    rw [e, if_pos (by simp), r1, if_neg (by have := hc.dig; omega), r2]
    have ih := digF_run (tail := tail) cs (pre ++ [c]) f (min (n * b + digR (c.toNat : Int)) 4294967297) (fun c hc => h c (by simp [hc]))
    simp only [List.length_append, List.length_cons, List.length_nil, List.append_assoc, List.cons_append, List.nil_append, Nat.zero_add] at ih
    rw [List.cons_append, show pre.length + (cs.length + 1) = pre.length + 1 + cs.length by omega]
    exact ih
theorem digF_end (l : List UInt8) (b : Int) (f p : Nat) (n : Int) (h : ¬ p < l.length) : digF l b f p n = (n, p) := by
  cases f with
  | zero => rfl
  | succ f => unfold digF; rw [if_neg h]
theorem digZ_digs {b : Nat} (hb : 2 ≤ b) (hb16 : b ≤ 16) (g : Bool) (n : Nat) : digZ (digs b g n) b = (min (n : Int) 4294967297, (digs b g n).length) := by
  unfold digZ
  have := digF_run (tail := []) (digs b g n) [] 0 0 (digs_dig hb hb16 g n)
  simp only [List.nil_append, List.append_nil, List.length_nil, Nat.zero_add] at this
  rw [this, digF_end _ _ _ _ _ (by omega), foldD_digs hb hb16]
theorem prefix_mem {l : List UInt8} {a c : UInt8} (h : hasPrefix l [a, c] = true) : c ∈ l := by
  unfold hasPrefix at h
  rw [List.isPrefixOf_iff_prefix] at h
  exact h.subset (by simp)
theorem prefix_mem1 {l : List UInt8} {a : UInt8} (h : hasPrefix l [a] = true) : a ∈ l := by
  unfold hasPrefix at h
  rw [List.isPrefixOf_iff_prefix] at h
  exact h.subset (by simp)
theorem numZ_dec (n : Nat) : numZ (digs 10 false n) = (min (n : Int) 4294967297, (digs 10 false n).length) := by
  have hd := digs_dig (b := 10) (by omega) (by omega) false n
  have h1 : ¬ hasPrefix (digs 10 false n) [48, 120] = true := fun h => (hd 120 (prefix_mem h)).ne10.1 rfl
  have h2 : ¬ hasPrefix (digs 10 false n) [45] = true := fun h => (hd 45 (prefix_mem1 h)).ne10.2 rfl
  unfold numZ
  rw [if_neg (fun h => h1 h.1), if_neg (fun h => h2 h.1)]
  exact digZ_digs (by omega) (by omega) false n
theorem numZ_neg (n : Nat) : numZ (45 :: digs 10 false n) = (-(min (n : Int) 4294967297), 1 + (digs 10 false n).length) := by
  have hz := digZ_digs (b := 10) (by omega) (by omega) false n
  have hl : 0 < (digs 10 false n).length := List.length_pos_iff.2 (digs_ne (by omega) false n)
  unfold numZ
  rw [if_neg (fun h => by have := h.1; unfold hasPrefix at this; simp [List.isPrefixOf] at this)]
  have hdz : digZ ((45 :: digs 10 false n).drop 1) 10 = (min (n : Int) 4294967297, (digs 10 false n).length) := hz
  rw [hdz, if_pos ⟨by unfold hasPrefix; simp [List.isPrefixOf], hl⟩]
theorem numZ_hex (g : Bool) (n : Nat) : numZ (48 :: 120 :: digs 16 g n) = (min (n : Int) 4294967297, 2 + (digs 16 g n).length) := by
  have hz := digZ_digs (b := 16) (by omega) (by omega) g n
  have hl : 0 < (digs 16 g n).length := List.length_pos_iff.2 (digs_ne (by omega) g n)
  unfold numZ
  have hdz : digZ ((48 :: 120 :: digs 16 g n).drop 2) 16 = (min (n : Int) 4294967297, (digs 16 g n).length) := hz
  rw [hdz, if_pos ⟨by unfold hasPrefix; simp [List.isPrefixOf], hl⟩]
theorem firstR_low {c : Nat} (h : c = 45 ∨ (48 ≤ c ∧ c ≤ 57)) : firstR (c : Int) = false := by
  have h1 : ((List.range 58).all fun c => decide (c < 45) || (decide (c = 46 ∨ c = 47) || !firstR (c : Int))) = true := by decide +kernel
  have h2 := List.all_eq_true.1 h1 c (List.mem_range.2 (by omega))
  simp only [Bool.or_eq_true, decide_eq_true_eq, Bool.not_eq_true'] at h2
  rcases h2 with h2 | h2 | h2
  · omega
  · omega
  · exact h2
theorem lexF_skip (l : List UInt8) : ∀ (f p : Nat) (x : LexS), l.length ≤ x.behind → lexF l f p x = .toks x.toks
  | 0, p, x, h => rfl
  | f + 1, p, x, h => by
    unfold lexF
    split
    · rw [if_pos (by omega)]
      exact lexF_skip l f _ x h
    · rfl
/-- A text that is one number. -/
theorem lex_number {l : List UInt8} {c : UInt8} {r : List UInt8} (hl : l = c :: r) (hc : c.toNat = 45 ∨ (48 ≤ c.toNat ∧ c.toNat ≤ 57)) (hs : (numZ l).2 = l.length) (hlen : l.length ≤ 20000) :
    lexZ l = if (numZ l).1 < -4294967296 ∨ 4294967296 < (numZ l).1 then .bad 0 8 else .toks [⟨2, (numZ l).1, 0, l⟩] := by
  obtain ⟨r1, r2⟩ := rune_ascii (c := c) (by omega) r
  have hpos : 0 < l.length := by rw [hl]; simp
  obtain ⟨f, hf⟩ : ∃ f, l.length = f + 1 := ⟨l.length - 1, by omega⟩
  have ht : takeZ l 0 ⟨0, false, []⟩ = numberZ l 0 ⟨0, false, []⟩ := by
    unfold takeZ badR blankR signR
    rw [List.drop_zero, hl, r1, r2, if_neg (by simp; omega), if_neg (by omega), if_neg (by simp; omega), if_neg (by omega), firstR_low hc, if_neg (by decide), if_neg (by simp; omega)]
  unfold lexZ
  rw [if_neg (by omega), hf]
  unfold lexF
  rw [if_pos hpos, if_neg (by simp), ht]
  by_cases hr : (numZ l).1 < -4294967296 ∨ 4294967296 < (numZ l).1
  · have hn : numberZ l 0 ⟨0, false, []⟩ = (8, ⟨0, false, []⟩) := by unfold numberZ; rw [List.drop_zero, if_neg (by omega), if_pos hr]
    rw [hn, if_pos hr]
    rfl
  · have hn : numberZ l 0 ⟨0, false, []⟩ = (0, addZ l 2 (numZ l).1 0 (numZ l).2 ⟨0, false, []⟩) := by unfold numberZ; rw [List.drop_zero, if_neg (by omega), if_neg hr]
    rw [hn, if_neg hr]
    simp only [if_pos]
    rw [lexF_skip]
    · unfold addZ
      rw [List.drop_zero, hs, List.take_of_length_le (Nat.le_refl _)]
      rfl
    · show l.length ≤ 0 + (numZ l).2
      omega
theorem digs_head {n : Nat} : ∃ c r, digs 10 false n = c :: r ∧ 48 ≤ c.toNat ∧ c.toNat ≤ 57 := by
  cases h : digs 10 false n with
  | nil => exact absurd h (digs_ne (by omega) false n)
  | cons c r =>
    have hc := digs_dig (b := 10) (by omega) (by omega) false n c (by rw [h]; simp)
    have := hc.dig
    have h2 := hc.low
    refine ⟨c, r, rfl, ?_⟩
    unfold digR at this
    split at this
    · omega
    · split at this
      · omega
      · split at this <;> omega
theorem digs_len {b : Nat} (hb : 2 ≤ b) (g : Bool) : ∀ (k n : Nat), n < b ^ (k + 1) → (digs b g n).length ≤ k + 1
  | 0, n, h => by rw [digs_lo g (by simpa using h)]; simp
  | k + 1, n, h => by
    by_cases hn : n < b
    · rw [digs_lo g hn]; simp
    · rw [digs_hi hb g (by omega), List.length_append]
      have : n / b < b ^ (k + 1) := by
        rw [Nat.div_lt_iff_lt_mul (by omega)]
        rw [Nat.pow_succ] at h
        exact h
      have := digs_len hb g k (n / b) this
      simp only [List.length_cons, List.length_nil]
      omega
/-- A number's text. -/
def decN (n : Int) : List UInt8 := if n < 0 then 45 :: digs 10 false n.natAbs else digs 10 false n.natAbs
theorem decN_len {n : Int} (h : -17179869184 ≤ n ∧ n ≤ 17179869184) : (decN n).length ≤ 12 := by
  have := digs_len (b := 10) (by omega) false 10 n.natAbs (by
    show n.natAbs < 100000000000
    omega)
  unfold decN
  split
  · rw [List.length_cons]; omega
  · omega
theorem lex_decN {n : Int} (h : -17179869184 ≤ n ∧ n ≤ 17179869184) : lexZ (decN n) = if n < -4294967296 ∨ 4294967296 < n then .bad 0 8 else .toks [⟨2, n, 0, decN n⟩] := by
  have hl := decN_len h
  by_cases h0 : n < 0
  · have e : decN n = 45 :: digs 10 false n.natAbs := by unfold decN; rw [if_pos h0]
    have hz := numZ_neg n.natAbs
    rw [← e] at hz
    rw [lex_number e (.inl rfl) (by rw [hz, e, List.length_cons]; simp only; omega) (by omega), hz]
    simp only
    by_cases hr : n < -4294967296 ∨ 4294967296 < n
    · rw [if_pos hr, if_pos (by omega)]
    · rw [if_neg hr, if_neg (by omega), show -(min ((n.natAbs : Nat) : Int) 4294967297) = n by omega]
  · have e : decN n = digs 10 false n.natAbs := by unfold decN; rw [if_neg h0]
    have hz := numZ_dec n.natAbs
    obtain ⟨c, r, hc, hc2⟩ := digs_head (n := n.natAbs)
    rw [← e] at hz hc
    rw [lex_number hc (.inr hc2) (by rw [hz]) (by omega), hz]
    simp only
    by_cases hr : n < -4294967296 ∨ 4294967296 < n
    · rw [if_pos hr, if_pos (by omega)]
    · rw [if_neg hr, if_neg (by omega), show (min ((n.natAbs : Nat) : Int) 4294967297) = n by omega]
theorem hex_len {g : Bool} {n : Nat} (h : n ≤ 4294967296) : (digs 16 g n).length ≤ 9 :=
  digs_len (b := 16) (by omega) g 8 n (by show n < 68719476736; omega)
theorem lex_hex {g : Bool} {n : Nat} (h : n ≤ 4294967296) : lexZ (48 :: 120 :: digs 16 g n) = .toks [⟨2, n, 0, 48 :: 120 :: digs 16 g n⟩] := by
  have hl := hex_len (g := g) h
  have hz := numZ_hex g n
  rw [lex_number rfl (.inr (by decide)) (by rw [hz]; simp only [List.length_cons]; omega) (by simp only [List.length_cons]; omega), hz]
  simp only
  rw [if_neg (by omega), show (min ((n : Nat) : Int) 4294967297) = n by omega]
end Go.Proofs.YtfdegdbknponkaaDoor.Words

/- Texts put together of words, numbers, signs, blanks, lines' ends and remarks: their tokens. Plain mathematics. -/
namespace Go.Proofs.YtfdegdbknponkaaDoor.Words
set_option maxRecDepth 100000
set_option linter.unusedVariables false
open Go.Lib

/-- A token, wherever it stands, and however its number is written. -/
structure Key where
  kind : Int
  num : Int
  text : List UInt8
deriving DecidableEq
def keyK (t : Tok) : Key := ⟨t.kind, t.num, if t.kind = 2 then [] else t.text⟩
inductive Pc where
  | name (t : List UInt8)
  | num (n : Int) (t : List UInt8)
  | sign (c : UInt8)
  | blank (c : UInt8)
  | line
  | hash (t : List UInt8)
def Pc.text : Pc → List UInt8
  | .name t => t
  | .num _ t => t
  | .sign c => [c]
  | .blank c => [c]
  | .line => [10]
  | .hash t => 35 :: t
def pcText (ps : List Pc) : List UInt8 := ps.flatMap Pc.text
theorem pcText_nil : pcText [] = [] := rfl
theorem pcText_cons (p : Pc) (ps : List Pc) : pcText (p :: ps) = p.text ++ pcText ps := by simp [pcText]
theorem pcText_append (a b : List Pc) : pcText (a ++ b) = pcText a ++ pcText b := by simp [pcText]

/-- An ascii that may stand in a name. -/
def inName (c : UInt8) : Bool := decide (c.toNat < 128) && nameR (c.toNat : Int)
structure IsName (t : List UInt8) : Prop where
  head : ∃ c r, t = c :: r ∧ firstR (c.toNat : Int) = true
  all : ∀ c ∈ t, inName c = true
structure IsNum (n : Int) (t : List UInt8) : Prop where
  head : ∃ c r, t = c :: r ∧ (c.toNat = 45 ∨ (48 ≤ c.toNat ∧ c.toNat ≤ 57))
  all : ∀ c ∈ t, c.toNat < 128
  num : numZ t = (n, t.length)
  range : -4294967296 ≤ n ∧ n ≤ 4294967296
def okP : Pc → Prop
  | .name t => IsName t
  | .num n t => IsNum n t
  | .sign c => c = 44 ∨ c = 58 ∨ c = 40 ∨ c = 41
  | .blank c => c = 32 ∨ c = 9 ∨ c = 13
  | .line => True
  | .hash t => ∀ c ∈ t, c.toNat < 128 ∧ c ≠ 10
/-- What may stand behind it. -/
def nextP : Pc → List Pc → Prop
  | .name _, .name _ :: _ => False
  | .name _, .num _ _ :: _ => False
  | .num _ _, .name _ :: _ => False
  | .num _ _, .num _ _ :: _ => False
  | .hash _, .line :: _ => True
  | .hash _, [] => True
  | .hash _, _ :: _ => False
  | _, _ => True
def goodP : List Pc → Prop
  | [] => True
  | p :: ps => okP p ∧ nextP p ps ∧ goodP ps
/-- Its tokens; is a line's end one? -/
def lexK : Bool → List Pc → List Key
  | _, [] => []
  | o, .name t :: ps => ⟨1, 0, t⟩ :: lexK true ps
  | o, .num n t :: ps => ⟨2, n, []⟩ :: lexK true ps
  | o, .sign c :: ps => ⟨3, 0, [c]⟩ :: lexK true ps
  | o, .blank c :: ps => lexK o ps
  | o, .line :: ps => if o = true then ⟨4, 0, [10]⟩ :: lexK false ps else lexK false ps
  | o, .hash t :: ps => lexK o ps

theorem stop_next {p : Pc} {ps : List Pc} (hg : goodP ps) (hp : nextP p ps) (hs : (∃ t, p = .name t) ∨ ∃ n t, p = .num n t) : pcText ps = [] ∨ Stop (pcText ps) := by
  cases ps with
  | nil => exact .inl rfl
  | cons q qs =>
    right
    have hq := hg.1
    rw [pcText_cons]
    cases q with
    | name t => rcases hs with ⟨_, rfl⟩ | ⟨_, _, rfl⟩ <;> exact absurd hp (by simp [nextP])
    | num n t => rcases hs with ⟨_, rfl⟩ | ⟨_, _, rfl⟩ <;> exact absurd hp (by simp [nextP])
    | sign c => exact stop_of (by rcases hq with h | h | h | h <;> simp [h])
    | blank c => exact stop_of (by rcases hq with h | h | h <;> simp [h])
    | line => exact stop_of (by simp)
    | hash t => exact stop_of (by simp)
theorem name_len {t : List UInt8} (h : ∀ c ∈ t, inName c = true) : nameZ t = t.length := by
  have key : ∀ f p, t.length ≤ p + f → p ≤ t.length → nameF t f p = t.length := by
    intro f
    induction f with
    | zero => intro p h1 h2; unfold nameF; omega
    | succ f ih =>
      intro p h1 h2
      unfold nameF
      by_cases hp : p < t.length
      · have hc := h t[p] (List.getElem_mem hp)
        unfold inName at hc
        rw [Bool.and_eq_true, decide_eq_true_eq] at hc
        have hd : t.drop p = t[p] :: t.drop (p + 1) := List.drop_eq_getElem_cons hp
        obtain ⟨r1, r2⟩ := rune_ascii hc.1 (t.drop (p + 1))
        rw [if_pos hp, hd, r1, if_pos hc.2, r2]
        exact ih _ (by omega) (by omega)
      · rw [if_neg hp]; omega
  exact key _ 0 (by omega) (Nat.zero_le _)
/-- Ascii that the last token has is gone over. -/
theorem over_ascii {l : List UInt8} {x : LexS} : ∀ (t r : List UInt8) (p : Nat), l.drop p = t ++ r → (∀ c ∈ t, c.toNat < 128) → p + t.length ≤ x.behind → lexL l p x = lexL l (p + t.length) x
  | [], r, p, _, _, _ => rfl
  | c :: t, r, p, hd, ha, hb => by
    obtain ⟨h1, _, h3, h4⟩ := at_ascii (t := t ++ r) hd (ha c (by simp))
    rw [lexL_over h1 (by simp at hb; omega), h3, over_ascii t r (p + 1) h4 (fun c hc => ha c (by simp [hc])) (by simp at hb; omega)]
    rw [List.length_cons, Nat.add_assoc, Nat.add_comm 1]
theorem lineB_one (T : List Tok) (z : Tok) (hz : z.kind ≠ 4) : lineB (T ++ [z]) = true := by unfold lineB; simp [hz]
theorem name_low {t : List UInt8} (h : ∀ c ∈ t, inName c = true) : ∀ c ∈ t, c.toNat < 128 := by
  intro c hc
  have := h c hc
  unfold inName at this
  rw [Bool.and_eq_true, decide_eq_true_eq] at this
  exact this.1
theorem step_name {l : List UInt8} {p b : Nat} {ts : List Tok} {t r : List UInt8} (hd : l.drop p = t ++ r) (ht : IsName t) (hr : r = [] ∨ Stop r) (hb : b ≤ p) :
    lexL l p ⟨b, false, ts⟩ = lexL l (p + t.length) ⟨p + t.length, false, ts ++ [⟨1, 0, p, t⟩]⟩ := by
  obtain ⟨c, u, rfl, hf⟩ := ht.head
  have hlow := name_low ht.all
  obtain ⟨h1, h2, h3, h4⟩ := at_ascii (t := u ++ r) hd (hlow c (by simp))
  have hn : nameZ (l.drop p) = (c :: u).length := by
    rw [hd]
    rcases hr with rfl | hr
    · rw [List.append_nil]; exact name_len ht.all
    · rw [nameZ_app hr]; exact name_len ht.all
  have hg := at_name (l := l) (p := p) (x := ⟨b, false, ts⟩) rfl (by rw [h2]; exact hf)
  rw [lexL_go h1 hb, hg, if_pos rfl]
  simp only
  unfold addZ
  rw [hn, hd]
  have htk : (c :: u ++ r).take (c :: u).length = c :: u := List.take_left
  rw [htk]
  have hw : wideR (c :: u ++ r) = 1 := by rw [← hd]; exact h3
  have hov := over_ascii (x := ⟨p + (c :: u).length, false, ts ++ [⟨1, 0, p, c :: u⟩]⟩) u r (p + 1) h4 (fun c hc => hlow c (by simp [hc])) (by simp only [List.length_cons]; omega)
  rw [hw, hov, List.length_cons, Nat.add_assoc, Nat.add_comm 1]
theorem step_num {l : List UInt8} {p b : Nat} {ts : List Tok} {n : Int} {t r : List UInt8} (hd : l.drop p = t ++ r) (ht : IsNum n t) (hr : r = [] ∨ Stop r) (hb : b ≤ p) :
    lexL l p ⟨b, false, ts⟩ = lexL l (p + t.length) ⟨p + t.length, false, ts ++ [⟨2, n, p, t⟩]⟩ := by
  obtain ⟨c, u, rfl, hf⟩ := ht.head
  have hlow := ht.all
  obtain ⟨h1, h2, h3, h4⟩ := at_ascii (t := u ++ r) hd (hlow c (by simp))
  have hn : numZ (l.drop p) = (n, (c :: u).length) := by
    rw [hd]
    rcases hr with rfl | hr
    · rw [List.append_nil]; exact ht.num
    · rw [numZ_app (by simp) hr]; exact ht.num
  have hlo := firstR_low (c := c.toNat) (by omega)
  have hg := at_other (l := l) (p := p) (x := ⟨b, false, ts⟩) rfl (good h2 (by omega)) (by rw [h2]; omega) (by rw [h2]; omega) (by rw [h2]; unfold blankR; simp; omega) (by rw [h2]; exact hlo) (by rw [h2]; unfold signR; simp; omega)
  have hng : numberZ l p ⟨b, false, ts⟩ = (0, addZ l 2 n p (c :: u).length ⟨b, false, ts⟩) := by
    unfold numberZ
    rw [hn, if_neg (by simp), if_neg (by have := ht.range; simp only; omega)]
  rw [lexL_go h1 hb, hg, hng, if_pos rfl]
  simp only
  unfold addZ
  rw [hd]
  have htk : (c :: u ++ r).take (c :: u).length = c :: u := List.take_left
  rw [htk]
  have hw : wideR (c :: u ++ r) = 1 := by rw [← hd]; exact h3
  have hov := over_ascii (x := ⟨p + (c :: u).length, false, ts ++ [⟨2, n, p, c :: u⟩]⟩) u r (p + 1) h4 (fun c hc => hlow c (by simp [hc])) (by simp only [List.length_cons]; omega)
  rw [hw, hov, List.length_cons, Nat.add_assoc, Nat.add_comm 1]
theorem step_sign {l : List UInt8} {p b : Nat} {ts : List Tok} {c : UInt8} {r : List UInt8} (hd : l.drop p = c :: r) (hc : c = 44 ∨ c = 58 ∨ c = 40 ∨ c = 41) (hb : b ≤ p) :
    lexL l p ⟨b, false, ts⟩ = lexL l (p + 1) ⟨p + 1, false, ts ++ [⟨3, 0, p, [c]⟩]⟩ := by
  have hc2 : c.toNat < 128 := by rcases hc with rfl | rfl | rfl | rfl <;> decide
  obtain ⟨h1, h2, h3, h4⟩ := at_ascii hd hc2
  have hg := at_sign (l := l) (p := p) (x := ⟨b, false, ts⟩) rfl (by rw [h2]; rcases hc with rfl | rfl | rfl | rfl <;> decide)
  rw [lexL_go h1 hb, hg, if_pos rfl, h3]
  simp only
  unfold addZ
  rw [hd]
  rfl
/-- A remark is gone over. -/
theorem run_hash {l : List UInt8} {b : Nat} {ts : List Tok} : ∀ (t r : List UInt8) (p : Nat), l.drop p = t ++ r → (∀ c ∈ t, c.toNat < 128 ∧ c ≠ 10) → b ≤ p → lexL l p ⟨b, true, ts⟩ = lexL l (p + t.length) ⟨b, true, ts⟩
  | [], r, p, _, _, _ => rfl
  | c :: t, r, p, hd, ha, hb => by
    obtain ⟨hc, hn⟩ := ha c (by simp)
    obtain ⟨_, _, _, h4⟩ := at_ascii (t := t ++ r) hd hc
    rw [step_remark hd hc hn hb, run_hash t r (p + 1) h4 (fun c hc => ha c (by simp [hc])) (by omega)]
    rw [List.length_cons, Nat.add_assoc, Nat.add_comm 1]
theorem keyK_line (p : Nat) : keyK ⟨4, 0, p, [10]⟩ = ⟨4, 0, [10]⟩ := rfl
/-- The tokens of a text that is put together of good pieces. -/
theorem lex_pcs {l : List UInt8} : ∀ (ps : List Pc) (p b : Nat) (rm : Bool) (ts : List Tok), goodP ps → l.drop p = pcText ps → p ≤ l.length → b ≤ p → (rm = true → ps = [] ∨ ∃ qs, ps = .line :: qs) →
    ∃ us, us.map keyK = lexK (lineB ts) ps ∧ lexL l p ⟨b, rm, ts⟩ = .toks (ts ++ us)
  | [], p, b, rm, ts, _, hd, hp, hb, hrm => by
    have : l.length ≤ p := by
      have := congrArg List.length hd
      simp [pcText] at this
      omega
    exact ⟨[], rfl, by rw [lexL_end (by omega), List.append_nil]⟩
  | q :: ps, p, b, rm, ts, hg, hd, hp, hb, hrm => by
    obtain ⟨hq, hn, hg'⟩ := hg
    rw [pcText_cons] at hd
    have hlen : p + q.text.length ≤ l.length := by
      have := congrArg List.length hd
      simp at this
      omega
    have hd' : l.drop (p + q.text.length) = pcText ps := by
      rw [← List.drop_drop, hd, List.drop_left]
    cases q with
    | name t =>
      have hrf : rm = false := by cases rm with | false => rfl | true => rcases hrm rfl with h | ⟨_, h⟩ <;> cases h
      subst hrf
      have h1 := step_name (b := b) (ts := ts) hd hq (stop_next hg' hn (.inl ⟨_, rfl⟩)) hb
      obtain ⟨us, u1, u2⟩ := lex_pcs ps (p + t.length) (p + t.length) false (ts ++ [⟨1, 0, p, t⟩]) hg' hd' hlen (Nat.le_refl _) (by simp)
      refine ⟨⟨1, 0, p, t⟩ :: us, ?_, ?_⟩
      · rw [List.map_cons, u1, lineB_one _ _ (by simp)]; rfl
      · exact h1.trans (u2.trans (by rw [List.append_assoc]; rfl))
    | num n t =>
      have hrf : rm = false := by cases rm with | false => rfl | true => rcases hrm rfl with h | ⟨_, h⟩ <;> cases h
      subst hrf
      have h1 := step_num (b := b) (ts := ts) hd hq (stop_next hg' hn (.inr ⟨_, _, rfl⟩)) hb
      obtain ⟨us, u1, u2⟩ := lex_pcs ps (p + t.length) (p + t.length) false (ts ++ [⟨2, n, p, t⟩]) hg' hd' hlen (Nat.le_refl _) (by simp)
      refine ⟨⟨2, n, p, t⟩ :: us, ?_, ?_⟩
      · rw [List.map_cons, u1, lineB_one _ _ (by simp)]; rfl
      · exact h1.trans (u2.trans (by rw [List.append_assoc]; rfl))
    | sign c =>
      have hrf : rm = false := by cases rm with | false => rfl | true => rcases hrm rfl with h | ⟨_, h⟩ <;> cases h
      subst hrf
      have h1 := step_sign (b := b) (ts := ts) (r := pcText ps) hd hq hb
      obtain ⟨us, u1, u2⟩ := lex_pcs ps (p + 1) (p + 1) false (ts ++ [⟨3, 0, p, [c]⟩]) hg' hd' hlen (Nat.le_refl _) (by simp)
      refine ⟨⟨3, 0, p, [c]⟩ :: us, ?_, ?_⟩
      · rw [List.map_cons, u1, lineB_one _ _ (by simp)]; rfl
      · exact h1.trans (u2.trans (by rw [List.append_assoc]; rfl))
    | blank c =>
      have hrf : rm = false := by cases rm with | false => rfl | true => rcases hrm rfl with h | ⟨_, h⟩ <;> cases h
      subst hrf
      have h1 := step_blank (x := ⟨b, false, ts⟩) (t := pcText ps) hd hq hb
      obtain ⟨us, u1, u2⟩ := lex_pcs ps (p + 1) b false ts hg' hd' hlen (by omega) (by simp)
      exact ⟨us, u1, by rw [h1, u2]⟩
    | line =>
      have hd2 : l.drop p = 10 :: pcText ps := hd
      cases hl : lineB ts
      · have h1 := step_nl2 (b := b) (rm := rm) hd2 hb hl
        obtain ⟨us, u1, u2⟩ := lex_pcs ps (p + 1) b false ts hg' hd' hlen (by omega) (by simp)
        refine ⟨us, ?_, by rw [h1, u2]⟩
        rw [u1, hl]; rfl
      · have h1 := step_nl (b := b) (rm := rm) hd2 hb hl
        obtain ⟨us, u1, u2⟩ := lex_pcs ps (p + 1) (p + 1) false (ts ++ [⟨4, 0, p, [10]⟩]) hg' hd' hlen (Nat.le_refl _) (by simp)
        refine ⟨⟨4, 0, p, [10]⟩ :: us, ?_, ?_⟩
        · rw [List.map_cons, u1, lineB_end _ _ rfl]; rfl
        · exact h1.trans (u2.trans (by rw [List.append_assoc]; rfl))
    | hash t =>
      have hrf : rm = false := by cases rm with | false => rfl | true => rcases hrm rfl with h | ⟨_, h⟩ <;> cases h
      subst hrf
      have hd2 : l.drop p = 35 :: (t ++ pcText ps) := hd
      obtain ⟨_, _, _, h4⟩ := at_ascii hd2 (by decide)
      have h1 := step_hash (b := b) (ts := ts) hd2 hb
      have h2 := run_hash (b := b) (ts := ts) t (pcText ps) (p + 1) h4 hq (by omega)
      have e : p + 1 + t.length = p + (Pc.hash t).text.length := by show _ = p + (t.length + 1); omega
      obtain ⟨us, u1, u2⟩ := lex_pcs ps (p + (Pc.hash t).text.length) b true ts hg' hd' hlen (by omega) (fun _ => by
        cases ps with
        | nil => exact .inl rfl
        | cons z zs => cases z with | line => exact .inr ⟨zs, rfl⟩ | _ => exact absurd hn (by simp [nextP]))
      exact ⟨us, u1, by rw [h1, h2, e, u2]⟩
/-- A text's tokens. -/
theorem lexZ_pcs {ps : List Pc} (hg : goodP ps) (hl : (pcText ps).length ≤ 20000) : ∃ T, T.map keyK = lexK false ps ∧ lexZ (pcText ps) = .toks T := by
  obtain ⟨us, u1, u2⟩ := lex_pcs (l := pcText ps) ps 0 0 false [] hg rfl (Nat.zero_le _) (Nat.le_refl _) (by simp)
  exact ⟨us, u1, by rw [lexZ_L, if_neg (by omega), u2]; rfl⟩
/-- Is a line's end a token behind it? -/
def openK : Bool → List Pc → Bool
  | o, [] => o
  | o, .name _ :: ps => openK true ps
  | o, .num _ _ :: ps => openK true ps
  | o, .sign _ :: ps => openK true ps
  | o, .blank _ :: ps => openK o ps
  | o, .line :: ps => openK false ps
  | o, .hash _ :: ps => openK o ps
theorem lexK_append : ∀ (a b : List Pc) (o : Bool), lexK o (a ++ b) = lexK o a ++ lexK (openK o a) b
  | [], b, o => rfl
  | p :: a, b, o => by
    cases p with
    | line =>
      have ih := lexK_append a b false
      cases o <;> simp [lexK, openK, ih]
    | _ => simp [lexK, openK, lexK_append a b]
theorem openK_append : ∀ (a b : List Pc) (o : Bool), openK o (a ++ b) = openK (openK o a) b
  | [], b, o => rfl
  | p :: a, b, o => by cases p <;> simp [openK, openK_append a b]
/-- Two good texts one behind the other, if what stands behind the first one's end may. -/
def softP : Pc → Bool
  | .name _ => true
  | .num _ _ => true
  | _ => false
theorem goodP_append : ∀ (a b : List Pc), goodP a → goodP b → (∀ x, a.getLast? = some x → nextP x b) → goodP (a ++ b)
  | [], b, _, hb, _ => hb
  | [p], b, ha, hb, h => ⟨ha.1, h p rfl, hb⟩
  | p :: q :: a, b, ha, hb, h => by
    refine ⟨ha.1, ?_, goodP_append (q :: a) b ha.2.2 hb (fun x hx => h x (by simpa using hx))⟩
    have := ha.2.1
    cases p <;> cases q <;> first | trivial | exact this
end Go.Proofs.YtfdegdbknponkaaDoor.Words

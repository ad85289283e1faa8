/- Several texts in one: LexMath, Base, LexTabs, LexScan, RowLaws, ByteRow, Own. -/
import Derived.Lib.IsU
import Derived.Lib.TrimUEq
import Derived.Lib.MapLaws
import Derived.Lib.Small
import Derived.WalkKit
import Derived.WalkSpells
import Derived.WalkLawsBesides
import Derived.Lib.Hide
import Derived.Deep.QuietTactic
import Derived.BigQuiet
import Derived.Test.YtimdojeagkbgbaaDoorShelf
import Derived.Lib.OthersKept
import Derived.WalkMore
import Derived.LoopTactic
import Derived.Deep.RegionLaw
import Derived.Laws.BytesArg

/- Texts taken apart: plain mathematics over lists of bytes. Nothing here speaks of one program text. -/
namespace Go.Proofs.YtimdojeagkbgbaaDoor.Words
set_option maxRecDepth 100000
set_option linter.unusedVariables false
open Go.Lib

/-- What a rune stands for as a digit; of one that is none, sixteen. -/
def digR (r : Int) : Int := if 48 ≤ r ∧ r ≤ 57 then r - 48 else if 97 ≤ r ∧ r ≤ 102 then r - 97 + 10 else if 65 ≤ r ∧ r ≤ 70 then r - 65 + 10 else 16
def blankR (r : Int) : Bool := decide (r = 32 ∨ r = 9 ∨ r = 13)
def signR (r : Int) : Bool := decide (r = 44 ∨ r = 58 ∨ r = 40 ∨ r = 41)
/-- May a name begin with it? -/
def firstR (r : Int) : Bool := isLetterU r || decide (r = 95)
/-- May it stand in a name? -/
def nameR (r : Int) : Bool := firstR r || decide (digR r < 10)
/-- The rune that a text begins with, and how many bytes it has. -/
def runeR (l : List UInt8) : Int := ((decodeL l).1 : Int)
def wideR (l : List UInt8) : Nat := (decodeL l).2
/-- Are the bytes none? -/
def badR (l : List UInt8) : Bool := decide (runeR l = 65533 ∧ wideR l = 1)
theorem wideR_pos (l : List UInt8) : 1 ≤ wideR l := decodeL_width l
theorem wideR_le {l : List UInt8} (h : l ≠ []) : wideR l ≤ l.length := decodeL_le l h
theorem runeR_range (l : List UInt8) : 0 ≤ runeR l ∧ runeR l ≤ 1114111 := by have := decodeL_rune l; unfold runeR; omega
theorem digR_range (r : Int) : 0 ≤ digR r ∧ digR r ≤ 16 := by unfold digR; repeat' split; all_goals omega

/-- The text behind a place. -/
abbrev from_ (l : List UInt8) (p : Nat) : List UInt8 := l.drop p
theorem from_ne {l : List UInt8} {p : Nat} (h : p < l.length) : l.drop p ≠ [] := fun e => by have := congrArg List.length e; simp at this; omega
theorem wide_in {l : List UInt8} {p : Nat} (h : p < l.length) : p + wideR (l.drop p) ≤ l.length := by have := wideR_le (from_ne h); simp at this; omega
/-- How many bytes the name has that stands at a place. -/
def nameF (l : List UInt8) : Nat → Nat → Nat
  | 0, p => p
  | f + 1, p => if p < l.length then (if nameR (runeR (l.drop p)) then nameF l f (p + wideR (l.drop p)) else p) else p
/-- The number of the digits at a place, and where they end. -/
def digF (l : List UInt8) (base : Int) : Nat → Nat → Int → Int × Nat
  | 0, p, n => (n, p)
  | f + 1, p, n => if p < l.length then (if base ≤ digR (runeR (l.drop p)) then (n, p) else digF l base f (p + wideR (l.drop p)) (min (n * base + digR (runeR (l.drop p))) 4294967297)) else (n, p)
theorem nameF_le (l : List UInt8) : ∀ f p, p ≤ l.length → p ≤ nameF l f p ∧ nameF l f p ≤ l.length
  | 0, p, h => ⟨Nat.le_refl _, h⟩
  | f + 1, p, h => by
    unfold nameF
    split
    · rename_i hp
      split
      · have h1 := wide_in hp
        have h2 := nameF_le l f _ h1
        exact ⟨by omega, h2.2⟩
      · exact ⟨Nat.le_refl _, h⟩
    · exact ⟨Nat.le_refl _, h⟩
theorem digF_le (l : List UInt8) (base : Int) : ∀ f p n, p ≤ l.length → p ≤ (digF l base f p n).2 ∧ (digF l base f p n).2 ≤ l.length
  | 0, p, n, h => ⟨Nat.le_refl _, h⟩
  | f + 1, p, n, h => by
    unfold digF
    split
    · rename_i hp
      split
      · exact ⟨Nat.le_refl _, h⟩
      · have h1 := wide_in hp
        have h2 := digF_le l base f _ (min (n * base + digR (runeR (l.drop p))) 4294967297) h1
        exact ⟨by omega, h2.2⟩
    · exact ⟨Nat.le_refl _, h⟩
theorem digF_range (l : List UInt8) (base : Int) (hb : 0 ≤ base) : ∀ f p n, 0 ≤ n → n ≤ 4294967297 → 0 ≤ (digF l base f p n).1 ∧ (digF l base f p n).1 ≤ 4294967297
  | 0, p, n, h, h' => ⟨h, h'⟩
  | f + 1, p, n, h, h' => by
    unfold digF
    split
    · split
      · exact ⟨h, h'⟩
      · have h1 := digR_range (runeR (l.drop p))
        have h2 : 0 ≤ n * base := Int.mul_nonneg h hb
        exact digF_range l base hb f _ _ (by omega) (by omega)
    · exact ⟨h, h'⟩
/-- Enough rounds are enough. -/
theorem nameF_more (l : List UInt8) : ∀ f p g, l.length ≤ p + f → nameF l (f + g) p = nameF l f p
  | 0, p, g, h => by
    rw [Nat.zero_add]
    cases g with
    | zero => rfl
    | succ g => unfold nameF; rw [if_neg (by omega)]
  | f + 1, p, g, h => by
    rw [show f + 1 + g = (f + g) + 1 by omega]
    unfold nameF
    split
    · split
      · exact nameF_more l f _ g (by have := wideR_pos (l.drop p); omega)
      · rfl
    · rfl
theorem digF_more (l : List UInt8) (base : Int) : ∀ f p n g, l.length ≤ p + f → digF l base (f + g) p n = digF l base f p n
  | 0, p, n, g, h => by
    rw [Nat.zero_add]
    cases g with
    | zero => rfl
    | succ g => unfold digF; rw [if_neg (by omega)]
  | f + 1, p, n, g, h => by
    rw [show f + 1 + g = (f + g) + 1 by omega]
    unfold digF
    split
    · split
      · rfl
      · exact digF_more l base f _ _ g (by have := wideR_pos (l.drop p); omega)
    · rfl
/-- The same, of a text that begins there. -/
theorem nameF_drop (l : List UInt8) (q : Nat) (hq : q ≤ l.length) : ∀ f p, nameF (l.drop q) f p + q = nameF l f (q + p)
  | 0, p => Nat.add_comm _ _
  | f + 1, p => by
    unfold nameF
    rw [List.length_drop, List.drop_drop]
    by_cases h : q + p < l.length
    · rw [if_pos (by omega), if_pos h]
      split
      · rw [nameF_drop l q hq f _, Nat.add_assoc]
      · exact Nat.add_comm _ _
    · rw [if_neg (by omega), if_neg h]; exact Nat.add_comm _ _
theorem digF_drop (l : List UInt8) (base : Int) (q : Nat) (hq : q ≤ l.length) : ∀ f p n, (digF (l.drop q) base f p n).1 = (digF l base f (q + p) n).1 ∧ (digF (l.drop q) base f p n).2 + q = (digF l base f (q + p) n).2
  | 0, p, n => ⟨rfl, Nat.add_comm _ _⟩
  | f + 1, p, n => by
    unfold digF
    rw [List.length_drop, List.drop_drop]
    by_cases h : q + p < l.length
    · rw [if_pos (by omega), if_pos h]
      split
      · exact ⟨rfl, Nat.add_comm _ _⟩
      · have := digF_drop l base q hq f (p + wideR (l.drop (q + p))) (min (n * base + digR (runeR (l.drop (q + p)))) 4294967297)
        rw [Nat.add_assoc]
        exact this
    · rw [if_neg (by omega), if_neg h]; exact ⟨rfl, Nat.add_comm _ _⟩

/-- How many bytes the name has that a text begins with. -/
def nameZ (l : List UInt8) : Nat := nameF l l.length 0
/-- The number of the digits that a text begins with, and how many there are. -/
def digZ (l : List UInt8) (base : Int) : Int × Nat := digF l base l.length 0 0
/-- The number that a text begins with, and how many bytes it has. -/
def numZ (l : List UInt8) : Int × Nat :=
  if hasPrefix l [48, 120] = true ∧ 0 < (digZ (l.drop 2) 16).2 then ((digZ (l.drop 2) 16).1, 2 + (digZ (l.drop 2) 16).2)
  else if hasPrefix l [45] = true ∧ 0 < (digZ (l.drop 1) 10).2 then (-(digZ (l.drop 1) 10).1, 1 + (digZ (l.drop 1) 10).2)
  else digZ l 10
theorem nameZ_le (l : List UInt8) : nameZ l ≤ l.length := (nameF_le l _ 0 (Nat.zero_le _)).2
theorem digZ_le (l : List UInt8) (base : Int) : (digZ l base).2 ≤ l.length := (digF_le l base _ 0 0 (Nat.zero_le _)).2
theorem digZ_range (l : List UInt8) {base : Int} (hb : 0 ≤ base) : 0 ≤ (digZ l base).1 ∧ (digZ l base).1 ≤ 4294967297 := digF_range l base hb _ _ _ (Int.le_refl _) (by omega)
theorem prefix_len {l p : List UInt8} (h : hasPrefix l p = true) : p.length ≤ l.length := by
  unfold hasPrefix at h
  exact (List.isPrefixOf_iff_prefix.1 h).length_le
theorem numZ_le (l : List UInt8) : (numZ l).2 ≤ l.length := by
  unfold numZ
  have h1 := digZ_le (l.drop 2) 16
  have h2 := digZ_le (l.drop 1) 10
  simp only [List.length_drop] at h1 h2
  split
  · rename_i h; have := prefix_len h.1; simp at this; simp only; omega
  split
  · rename_i h; have := prefix_len h.1; simp at this; simp only; omega
  · exact digZ_le l 10
theorem numZ_range (l : List UInt8) : -4294967297 ≤ (numZ l).1 ∧ (numZ l).1 ≤ 4294967297 := by
  unfold numZ
  have h1 := digZ_range (l.drop 2) (base := 16) (by omega)
  have h2 := digZ_range (l.drop 1) (base := 10) (by omega)
  have h3 := digZ_range l (base := 10) (by omega)
  split
  · simp only; omega
  split
  · simp only; omega
  · omega

/-- A token. -/
structure Tok where
  kind : Int
  num : Int
  at_ : Nat
  text : List UInt8
deriving DecidableEq
/-- What a text is: its tokens, or where it has its first fault, and which. -/
inductive LexR where
  | toks (t : List Tok)
  | bad (at_ : Nat) (e : Int)
deriving DecidableEq
/-- The way of a text into tokens: the last one ends there; in a remark; the tokens. -/
structure LexS where
  behind : Nat
  remark : Bool
  toks : List Tok
/-- A token more, of so many bytes at a place. -/
def addZ (l : List UInt8) (kind num : Int) (p size : Nat) (x : LexS) : LexS := ⟨p + size, x.remark, x.toks ++ [⟨kind, num, p, (l.drop p).take size⟩]⟩
/-- Is a line's end a token? -/
def lineB (t : List Tok) : Bool := match t.getLast? with | some k => decide (k.kind ≠ 4) | none => false
/-- A line's end at a place. -/
def lineZ (l : List UInt8) (p : Nat) (x : LexS) : LexS := if lineB x.toks = true then addZ l 4 0 p 1 x else x
/-- What a number at a place leaves. -/
def numberZ (l : List UInt8) (p : Nat) (x : LexS) : Int × LexS :=
  if (numZ (l.drop p)).2 = 0 then (5, x)
  else if (numZ (l.drop p)).1 < -4294967296 ∨ 4294967296 < (numZ (l.drop p)).1 then (8, x)
  else (0, addZ l 2 (numZ (l.drop p)).1 p (numZ (l.drop p)).2 x)
/-- What begins at a place; or the fault. -/
def takeZ (l : List UInt8) (p : Nat) (x : LexS) : Int × LexS :=
  if badR (l.drop p) = true then (5, x)
  else if runeR (l.drop p) = 10 then (0, lineZ l p { x with remark := false })
  else if x.remark = true ∨ blankR (runeR (l.drop p)) = true then (0, x)
  else if runeR (l.drop p) = 35 then (0, { x with remark := true })
  else if firstR (runeR (l.drop p)) = true then (0, addZ l 1 0 p (nameZ (l.drop p)) x)
  else if signR (runeR (l.drop p)) = true then (0, addZ l 3 0 p 1 x)
  else numberZ l p x
/-- Rune by rune. -/
def lexF (l : List UInt8) : Nat → Nat → LexS → LexR
  | 0, _, x => .toks x.toks
  | f + 1, p, x =>
    if p < l.length then
      (if p < x.behind then lexF l f (p + wideR (l.drop p)) x
       else if (takeZ l p x).1 = 0 then lexF l f (p + wideR (l.drop p)) (takeZ l p x).2
       else .bad p (takeZ l p x).1)
    else .toks x.toks
/-- What a text is. -/
def lexZ (l : List UInt8) : LexR := if 20000 < l.length then .bad 0 7 else lexF l l.length 0 ⟨0, false, []⟩
theorem lexF_more (l : List UInt8) : ∀ f p x g, l.length ≤ p + f → lexF l (f + g) p x = lexF l f p x
  | 0, p, x, g, h => by
    rw [Nat.zero_add]
    cases g with
    | zero => rfl
    | succ g => unfold lexF; rw [if_neg (by omega)]
  | f + 1, p, x, g, h => by
    rw [show f + 1 + g = (f + g) + 1 by omega]
    unfold lexF
    have hw := wideR_pos (l.drop p)
    split
    · split
      · exact lexF_more l f _ _ g (by omega)
      · split
        · exact lexF_more l f _ _ g (by omega)
        · rfl
    · rfl
end Go.Proofs.YtimdojeagkbgbaaDoor.Words

/- Plain lemmas for walks over slices: what a slice reads as ('Row'), kept over new blocks, draws and whatever turns nothing below a block number. Nothing here speaks of one program. -/
namespace Go.Proofs.YtimdojeagkbgbaaDoor.Words
set_option maxRecDepth 100000
open Go.RowKit

/-- The slice value v has n elements of 'size' cells each; its cells are xs, and lie below block B. -/
def Row (w : World) (B size : Nat) (v : Value) (n : Nat) (xs : List Value) : Prop :=
  xs.length = n * size ∧ ∃ A c, v = .slice A n c ∧ n ≤ c ∧ c ≤ 9223372036854775807 ∧ (A = none → c = 0) ∧
    (n ≠ 0 → ∃ b off, A = some ⟨b, off, none⟩ ∧ b < B ∧ ∀ j u, xs[j]? = some u → w.cell? ⟨b, off + j, none⟩ = some u)

theorem add_spot (b off j : Nat) : (⟨b, off, none⟩ : Addr).add j = ⟨b, off + j, none⟩ := by
  unfold Addr.add
  split
  · subst_vars; rfl
  · rfl

section
variable {w w' : World} {B size : Nat} {v : Value} {n : Nat} {xs : List Value}
theorem Row.keep (h : Row w B size v n xs) (hk : ∀ p : Addr, p.block < B → w'.cell? p = w.cell? p) : Row w' B size v n xs := by
  obtain ⟨h0, A, c, h1, h2, h3, h4, h5⟩ := h
  refine ⟨h0, A, c, h1, h2, h3, h4, fun hn => ?_⟩
  obtain ⟨b, off, e, hb, hc⟩ := h5 hn
  exact ⟨b, off, e, hb, fun j u hu => (hk _ hb).trans (hc j u hu)⟩
theorem Row.more {B' : Nat} (h : Row w B size v n xs) (hB : B ≤ B') : Row w B' size v n xs := by
  obtain ⟨h0, A, c, h1, h2, h3, h4, h5⟩ := h
  refine ⟨h0, A, c, h1, h2, h3, h4, fun hn => ?_⟩
  obtain ⟨b, off, e, hb, hc⟩ := h5 hn
  exact ⟨b, off, e, Nat.lt_of_lt_of_le hb hB, hc⟩
theorem Row.below (h : Row w B size v n xs) (hb : Below B w w') : Row w' B size v n xs := h.keep fun _ hp => hb.cell hp
theorem Row.drewN (h : Row w B size v n xs) (k : Nat) : Row (w.drewN k) B size v n xs := h
theorem Row.drew (h : Row w B size v n xs) : Row w.drew B size v n xs := h
theorem Row.alloc (h : Row w B size v n xs) (hB : B ≤ w.heap.size) (o : Obj) : Row (w.alloc o) B size v n xs := h.keep fun p hp => World.cell?_alloc_lt w o p (by omega)
theorem Row.nil (w : World) (B size : Nat) : Row w B size (.slice none 0 0) 0 [] := ⟨by simp, none, 0, rfl, Nat.le_refl _, by omega, fun _ => rfl, fun h => absurd rfl h⟩
theorem Row.of_own {base : Nat} {e : TypeId} (h : w.ownsRow base e size v n xs) : Row w w.heap.size size v n xs := by
  refine ⟨h.1, ?_⟩
  rcases h.2 with ⟨rfl, rfl⟩ | ⟨g, cap, cur, rfl, hb, hg, h1, h2, h3, h4⟩
  · exact ⟨none, 0, rfl, Nat.le_refl _, by omega, fun _ => rfl, fun h => absurd rfl h⟩
  · refine ⟨_, _, rfl, h1, by simpa [maxLen] using h2, (fun h => by cases h), fun _ => ⟨g, 0, rfl, (Array.getElem?_eq_some_iff.1 hg).1, fun j u hu => ?_⟩⟩
    have := h.cells (g := g) rfl j u hu
    rwa [add_spot] at this
theorem Row.of_ints {k : IntKind} {x : Addr} {len cap : Nat} {zs : List Int} (hl : len ≤ cap) (hm : cap ≤ maxLen) (hz : zs.length = cap) (hc : ∀ i, i < zs.length → w.cell? (x.add i) = some (.int k (zs.getD i 0))) :
    Row w w.heap.size 1 (.slice (some x) len cap) len ((zs.take len).map (Value.int k)) := by
  refine ⟨by simp; omega, some x, cap, rfl, hl, by simpa [maxLen] using hm, (fun h => by cases h), fun hn => ?_⟩
  obtain ⟨b, off, spot⟩ := x
  have h0 := hc 0 (by omega)
  have hs : spot = none := by simpa [Addr.add] using World.cell?_spot h0
  subst hs
  refine ⟨b, off, rfl, ?_, fun j u hu => ?_⟩
  · rw [add_spot] at h0
    unfold World.cell? at h0
    rcases hh : w.heap[b]? with _ | o
    · simp [hh] at h0
    · exact (Array.getElem?_eq_some_iff.1 hh).1
  · have hj : j < len := by
      rw [List.getElem?_eq_some_iff] at hu
      obtain ⟨h, _⟩ := hu
      simp at h; omega
    have := hc j (by omega)
    rw [add_spot] at this
    rw [this, ← hu, List.getElem?_map, List.getElem?_take, if_pos hj, List.getD_eq_getElem?_getD, List.getElem?_eq_getElem (by omega)]
    rfl
theorem Row.cells {A : Option Addr} {c : Nat} (h : Row w B size (.slice A n c) n xs) : ∀ ad, A = some ad → ∀ j u, xs[j]? = some u → w.cell? (ad.add j) = some u := by
  obtain ⟨h0, A', c', h1, h2, h3, h4, h5⟩ := h
  injection h1 with e1 _ e2
  subst e1 e2
  intro ad had j u hu
  by_cases hn : n = 0
  · subst hn
    have : xs = [] := List.eq_nil_of_length_eq_zero (by simpa using h0)
    subst this
    simp at hu
  · obtain ⟨b, off, e, hb, hc⟩ := h5 hn
    rw [had] at e
    injection e with e
    subst e
    rw [add_spot]
    exact hc j u hu
theorem Row.bare {A : Option Addr} {c : Nat} (h : Row w B size (.slice A n c) n xs) : A = none → n = 0 ∧ c = 0 := by
  obtain ⟨h0, A', c', h1, h2, h3, h4, h5⟩ := h
  injection h1 with e1 _ e2
  subst e1 e2
  intro hA
  have := h4 hA
  exact ⟨by omega, this⟩
theorem Row.cap {A : Option Addr} {c : Nat} (h : Row w B size (.slice A n c) n xs) : n ≤ c ∧ c ≤ 9223372036854775807 := by
  obtain ⟨h0, A', c', h1, h2, h3, h4, h5⟩ := h
  injection h1 with e1 _ e2
  subst e1 e2
  exact ⟨h2, h3⟩
theorem Row.len {A : Option Addr} {c : Nat} (h : Row w B size (.slice A n c) n xs) : xs.length = n * size := h.1
theorem Row.form (h : Row w B size v n xs) : ∃ A c, v = .slice A n c := by
  obtain ⟨h0, A, c, h1, _⟩ := h
  exact ⟨A, c, h1⟩
/-- Its cells, where there is one. -/
theorem Row.at_ {A : Option Addr} {c : Nat} (h : Row w B size (.slice A n c) n xs) (hn : n ≠ 0) :
    ∃ b off, A = some ⟨b, off, none⟩ ∧ b < B ∧ ∀ j u, xs[j]? = some u → w.cell? ⟨b, off + j, none⟩ = some u := by
  obtain ⟨h0, A', c', h1, h2, h3, h4, h5⟩ := h
  injection h1 with e1 _ e2
  subst e1 e2
  exact h5 hn
end

/-- The cells of a block that was just laid. -/
theorem new_cells (w : World) (cs : Array Value) (t : TypeId) (xs : List Value) (h : cs.toList = xs) : ∀ j u, xs[j]? = some u → (w.alloc (.cells cs t)).cell? ((⟨w.heap.size, 0, none⟩ : Addr).add j) = some u := by
  intro j u hu
  subst h
  rw [add_spot, Nat.zero_add, World.cell?_alloc_new]
  simpa using hu
theorem own_ge {k b : Nat} : some k = some b → b ≤ k := fun h => by injection h with h; omega
theorem own_ge' {B : Nat} : ∀ k, some B = some k → B ≤ k := fun _ h => by injection h with h; omega
theorem Below.drewN_ {B : Nat} {a w : World} (h : Below B a w) (n : Nat) : Below B a (w.drewN n) := ⟨h.os, h.tape, h.output, h.size, h.block⟩
theorem ret_int {k : IntKind} {a b : Int} (h : a = b) : Ending.returned (.int k a) = .returned (.int k b) := by rw [h]
theorem ret_bool_iff {a b : Bool} (h : a = true ↔ b = true) : Ending.returned (.bool a) = .returned (.bool b) := by rw [Bool.eq_iff_iff.2 h]
theorem ret_bool {a b : Bool} (h : a = b) : Ending.returned (.bool a) = .returned (.bool b) := by rw [h]
/-- What was there reads as it did, and its marks. -/
theorem bcell {W w1 : World} (hb : Below W.heap.size W w1) : (∀ b o, b < W.heap.size → w1.cell? ⟨b, o, none⟩ = W.cell? ⟨b, o, none⟩) ∧ (∀ b o, b < W.heap.size → w1.frozen? ⟨b, o, none⟩ = W.frozen? ⟨b, o, none⟩) :=
  ⟨fun b o h => hb.cell (p := ⟨b, o, none⟩) h, fun b o h => hb.frozen (p := ⟨b, o, none⟩) h⟩
/-- What lay there before a new block and an append reads as it did. -/
theorem grown_cell {w1 w2 : World} {o : Obj} {row : Option Nat} (hg : (w1.alloc o).grownBy w2 row) {b : Nat} (j : Nat) (hb : b < w1.heap.size) (hr : some b ≠ row) : w2.cell? ⟨b, j, none⟩ = w1.cell? ⟨b, j, none⟩ := by
  have hblk := hg.block b (by simp; omega) hr
  rw [World.cell?_of_block (a := ⟨b, j, none⟩) hblk, World.cell?_alloc_lt _ _ _ hb]
theorem grown_size {w1 w2 : World} {o : Obj} {row : Option Nat} (hg : (w1.alloc o).grownBy w2 row) : w1.heap.size < w2.heap.size := by
  have := hg.size; simp at this; omega
theorem own_none {A c : Nat} : ∀ k, (Value.slice none A c).ownBlock = some k → False := fun k hk => by simp [Value.ownBlock] at hk
theorem own_not {A c b : Nat} : some b ≠ (Value.slice none A c).ownBlock := fun h => by simp [Value.ownBlock] at h
end Go.Proofs.YtimdojeagkbgbaaDoor.Words

/- The library's tables that a text's splitting reads, kept; contracts of package lex's small functions. -/
namespace Go.Proofs.YtimdojeagkbgbaaDoor.Words
set_option maxRecDepth 100000
open Go.RowKit Go.Shelf Go.Lib
set_option linter.unusedVariables false

/-- The library's tables are laid. -/
def Tabs (w : World) : Prop := Lib.TabIs Tryd.prog w "unicode.properties" .u8 Lib.propertiesTab ∧ RVar 1 letterT w ∧ Lib.Utf8Tabs 2 3 w
theorem Tabs.below {w w' : World} (h : Tabs w) (hb : Below w.heap.size w w') : Tabs w' :=
  ⟨TabIs_below (g := 0) (by kernel_rfl) h.1 hb, RVar_below h.2.1 hb, Utf8Tabs_below h.2.2 hb⟩
/-- They are, whatever turns from block B on. -/
def TabsB (B : Nat) (w : World) : Prop := ∀ x, Below B w x → Tabs x
theorem TabsB.now {B : Nat} {w : World} (h : TabsB B w) : Tabs w := h w (Below.refl _ _)
theorem TabsB.go {B : Nat} {w w' : World} (h : TabsB B w) (hb : Below B w w') : TabsB B w' := fun x hx => h x (hb.trans hx)
theorem Tabs.all {w : World} (h : Tabs w) : TabsB w.heap.size w := fun x hx => h.below hx

theorem isLetter_any (r : Int) (w : World) (hr : -2147483648 ≤ r ∧ r ≤ 2147483647) (hT : Tabs w) :
    Calls Tryd.prog 53 #[.int .i32 r] w fun e w' => e = .returned (.bool (isLetterU r)) ∧ Below w.heap.size w w' :=
  Tryd.unicode_IsLetter_all r w hr.1 hr.2 hT.1 hT.2.1
theorem isBlank_any (r : Int) (w : World) : Calls Tryd.prog 47 #[.int .i32 r] w fun e w' => e = .returned (.bool (blankR r)) ∧ w = w' := by
  by_cases h1 : r = 32
  · subst h1
    go_enter Tryd.func47, Tryd.ntmps47
    go_wp2
    go_ret
    exact ⟨rfl, rfl⟩
  have k1 : (r == 32) = false := by simpa using h1
  by_cases h2 : r = 9
  · subst h2
    go_enter Tryd.func47, Tryd.ntmps47
    go_wp2
    go_ret
    exact ⟨rfl, rfl⟩
  have k2 : (r == 9) = false := by simpa using h2
  have hb : blankR r = (r == 13) := by unfold blankR; rw [Bool.eq_iff_iff]; simp [h1, h2]
  have HB := Lib.hid hb
  clear h1 h2 hb
  go_enter Tryd.func47, Tryd.ntmps47
  go_wp2
  go_ret
  exact ⟨ret_bool HB.out.symm, rfl⟩
theorem isSign_any (r : Int) (w : World) : Calls Tryd.prog 51 #[.int .i32 r] w fun e w' => e = .returned (.bool (signR r)) ∧ w = w' := by
  by_cases h1 : r = 44
  · subst h1
    go_enter Tryd.func51, Tryd.ntmps51
    go_wp2
    go_ret
    exact ⟨rfl, rfl⟩
  have k1 : (r == 44) = false := by simpa using h1
  by_cases h2 : r = 58
  · subst h2
    go_enter Tryd.func51, Tryd.ntmps51
    go_wp2
    go_ret
    exact ⟨rfl, rfl⟩
  have k2 : (r == 58) = false := by simpa using h2
  by_cases h3 : r = 40
  · subst h3
    go_enter Tryd.func51, Tryd.ntmps51
    go_wp2
    go_ret
    exact ⟨rfl, rfl⟩
  have k3 : (r == 40) = false := by simpa using h3
  have hb : signR r = (r == 41) := by unfold signR; rw [Bool.eq_iff_iff]; simp [h1, h2, h3]
  have HB := Lib.hid hb
  clear h1 h2 h3 hb
  go_enter Tryd.func51, Tryd.ntmps51
  go_wp2
  go_ret
  exact ⟨ret_bool HB.out.symm, rfl⟩
theorem digit_any (r : Int) (w : World) (hr : -2147483648 ≤ r ∧ r ≤ 2147483647) : Calls Tryd.prog 67 #[.int .i32 r] w fun e w' => e = .returned (.int .i64 (digR r)) ∧ w = w' := by
  obtain ⟨r0, r1⟩ := hr
  go_enter Tryd.func67, Tryd.ntmps67
  go_wp2
  all_goals first
    | (exfalso; omega)
    | (go_ret; exact ⟨ret_int (by unfold digR; repeat' split; all_goals omega), rfl⟩)
theorem isFirst_any (r : Int) (w : World) (hr : -2147483648 ≤ r ∧ r ≤ 2147483647) (hT : Tabs w) :
    Calls Tryd.prog 48 #[.int .i32 r] w fun e w' => e = .returned (.bool (firstR r)) ∧ Below w.heap.size w w' := by
  have cL := isLetter_any r w hr hT
  have HF := Lib.hid (show firstR r = (isLetterU r || decide (r = 95)) from rfl)
  clear hT
  cases hl : isLetterU r
  · rw [hl] at cL HF
    have k : (r == 95) = decide (r = 95) := by rw [Bool.eq_iff_iff]; simp
    have HK := Lib.hid k
    clear k hl
    go_enter Tryd.func48, Tryd.ntmps48
    go_wp2_with (go_at_call 53; refine cL.mono ?_; rintro e w1 ⟨rfl, hb⟩)
    go_ret
    exact ⟨ret_bool (by rw [HF.out, HK.out]; rfl), hb⟩
  · rw [hl] at cL HF
    clear hl
    go_enter Tryd.func48, Tryd.ntmps48
    go_wp2_with (go_at_call 53; refine cL.mono ?_; rintro e w1 ⟨rfl, hb⟩)
    go_ret
    exact ⟨ret_bool (by rw [HF.out]; rfl), hb⟩
theorem isBroken_any (s : ByteArray) (r : Int) (w : World) (hs : s.data.toList ≠ []) (hT : Tabs w) (hr : r = runeR s.data.toList) :
    Calls Tryd.prog 45 #[.string s, .int .i32 r] w fun e w' => e = .returned (.bool (badR s.data.toList)) ∧ Below w.heap.size w w' := by
  have cD := Tryd.utf8_DecodeRuneInString s w hT.2.2
  have h0 : s.size ≠ 0 := fun e => hs (List.eq_nil_of_length_eq_zero (by rw [← Lib.size_eq]; exact e))
  have hd : Lib.decodeGo s = decodeL s.data.toList := by
    unfold Lib.decodeGo
    rw [if_neg h0]
    have := Lib.decodeL_drop s 0
    rw [List.drop_zero] at this
    exact this.symm
  rw [hd] at cD
  have hB := Lib.hid (show badR s.data.toList = (decide (runeR s.data.toList = 65533) && decide (wideR s.data.toList = 1)) by unfold badR; rw [Bool.decide_and])
  rw [← hr] at hB
  obtain ⟨k, hk⟩ : ∃ k : Nat, k = wideR s.data.toList := ⟨_, rfl⟩
  have cD' : Calls Tryd.prog 65 #[.string s] w fun e w' => e = .returned (.tuple #[.int .i32 (runeR s.data.toList), .int .i64 (k : Int)]) ∧ Below w.heap.size w w' := by rw [hk]; exact cD
  rw [← hk] at hB
  clear cD hT hd h0 hs hk
  by_cases h1 : r = 65533
  · have k1 : (r == 65533) = true := by simpa using h1
    have hB2 : Hid (badR s.data.toList = ((k : Int) == 1)) := by
      show _ = _
      rw [hB.out, decide_eq_true h1, Bool.true_and, Bool.eq_iff_iff]; simp; omega
    clear h1 hr
    go_enter Tryd.func45, Tryd.ntmps45
    go_wp2_with (go_at_call 65; refine cD'.mono ?_; rintro e w1 ⟨rfl, hb⟩)
    go_ret
    exact ⟨ret_bool hB2.out.symm, hb⟩
  · have k1 : (r == 65533) = false := by simpa using h1
    have hB2 : Hid (badR s.data.toList = false) := by show _ = _; rw [hB.out, decide_eq_false h1]; rfl
    clear h1 hr
    go_enter Tryd.func45, Tryd.ntmps45
    go_wp2_with (go_at_call 65; refine cD'.mono ?_; rintro e w1 ⟨rfl, hb⟩)
    go_ret
    exact ⟨ret_bool hB2.out.symm, hb⟩
end Go.Proofs.YtimdojeagkbgbaaDoor.Words

/- Contracts of package lex's loops over a text: the name, the digits and the number that it begins with. -/
namespace Go.Proofs.YtimdojeagkbgbaaDoor.Words
set_option maxRecDepth 100000
open Go.RowKit Go.Shelf Go.Lib
set_option linter.unusedVariables false

/-- 'next' of a string's iterator, in whatever world, in this text's own words. -/
theorem next_rune {P : Program} {wr : World} {k : Nat} {s : ByteArray} {pos : Nat} (hk : wr.heap[k]? = some (.stringIter s pos)) (h : pos < s.size) (ty : TypeId) :
    (Instr.next (.pointer (some ⟨k, 0, none⟩)) true ty).run P wr = .ok (.tuple #[.bool true, .int .i64 (pos : Int), .int .i32 (runeR (s.data.toList.drop pos))]) (wr.iterAt k s (pos + wideR (s.data.toList.drop pos))) := by
  have := Lib.run_next_any_at (P := P) wr k s pos ty hk h
  rw [← Lib.decodeL_drop] at this
  exact this
theorem next_none {P : Program} {wr : World} {k : Nat} {s : ByteArray} {pos : Nat} (hk : wr.heap[k]? = some (.stringIter s pos)) (h : ¬ pos < s.size) (ty : TypeId) :
    (Instr.next (.pointer (some ⟨k, 0, none⟩)) true ty).run P wr = .ok (.tuple #[.bool false]) wr := Lib.run_next_end_at wr k s pos ty hk h
theorem data_len (s : ByteArray) : s.data.toList.length = s.size := (Lib.size_eq s).symm
theorem i32_rune (r : Int) (h : 0 ≤ r ∧ r ≤ 1114111) : -2147483648 ≤ r ∧ r ≤ 2147483647 := by omega

set_option maxHeartbeats 1000000 in
theorem nameSize_any (s : ByteArray) (w : World) (hs : s.size ≤ 9223372036854775807) (hT : Tabs w) :
    Calls Tryd.prog 50 #[.string s] w fun e w' => e = .returned (.int .i64 (nameZ s.data.toList : Nat)) ∧ Below w.heap.size w w' := by
  have HT := Lib.hid hT.all
  have HL := Lib.hid (data_len s)
  obtain ⟨l, hl⟩ : ∃ l, l = s.data.toList := ⟨_, rfl⟩
  rw [← hl] at HL ⊢
  have HS := Lib.hid hl
  obtain ⟨Z, hZ⟩ : ∃ Z, Z = nameZ l := ⟨_, rfl⟩
  rw [← hZ]
  have HZ := Lib.hid hZ
  clear hT hZ hl
  go_enter Tryd.func50, Tryd.ntmps50
  go_wp2
  go_loopw [] (fun wr => ∃ (pos fuel : Nat), wr.heap[w.heap.size]? = some (.stringIter s pos) ∧ Below w.heap.size w wr ∧ nameF l fuel pos = Z ∧ l.length ≤ pos + fuel ∧ pos ≤ l.length) (fun wr => s.size - wr.iterPos w.heap.size)
  case atStart =>
    exact ⟨0, l.length, World.iter_heap w s 0, (Below.refl _ w).alloc (Nat.le_refl _) _, HZ.out.symm, by omega, Nat.zero_le _⟩
  case round =>
    obtain ⟨pos, fuel, hit, hbw, hn, hf, hp⟩ := hrel
    have HIT := Lib.hid hit
    have HN := Lib.hid hn
    have hsz : w.heap.size < wr.heap.size := (Array.getElem?_eq_some_iff.1 hit).1
    have hll := HL.out
    by_cases hlt : pos < s.size
    · have hnx := fun ty => next_rune (P := Tryd.prog) hit hlt ty
      rw [← HS.out] at hnx
      obtain ⟨f, rfl⟩ : ∃ f, fuel = f + 1 := ⟨fuel - 1, by omega⟩
      have HR := Lib.hid (runeR_range (l.drop pos))
      have HWD := Lib.hid (wideR_pos (l.drop pos))
      have HWI := Lib.hid (wide_in (l := l) (p := pos) (by omega))
      have HST : Hid (nameF l (f + 1) pos = if nameR (runeR (l.drop pos)) then nameF l f (pos + wideR (l.drop pos)) else pos) := by
        show _ = _
        conv => lhs; unfold nameF
        rw [if_pos (by omega)]
      generalize runeR (l.drop pos) = R at *
      generalize wideR (l.drop pos) = WD at *
      have hit2 := Lib.iterAt_heap wr w.heap.size s pos (pos + WD) hit
      have HIT2 := Lib.hid hit2
      have hbw2 := Lib.below_iterAt hbw (k := w.heap.size) (Nat.le_refl _) s (pos + WD)
      have HBW2 := Lib.hid hbw2
      have hsz2 : (wr.iterAt w.heap.size s (pos + WD)).heap.size = wr.heap.size := Lib.iterAt_size _ _ _ _
      have HT2 := Lib.hid (HT.out.go hbw2).now
      have HSZ2 := Lib.hid hsz2
      clear hit hn hit2 hbw2 hsz2 hbw
      have cF : Calls Tryd.prog 48 #[.int .i32 R] (wr.iterAt w.heap.size s (pos + WD)) _ := isFirst_any R _ (i32_rune R HR.out) HT2.out
      cases hfr : firstR R
      · rw [hfr] at cF
        have cD := fun y => digit_any R y (i32_rune R HR.out)
        by_cases hd : digR R < 10
        · have hq : decide (10 ≤ digR R) = false := decide_eq_false (by omega)
          have hnm : Hid (nameR R = true) := by show _ = _; unfold nameR; rw [hfr, decide_eq_true hd]; rfl
          generalize digR R = dR at *
          clear hfr
          go_wp2_with (first
            | (go_at_call 48; refine cF.mono ?_; rintro e w1 ⟨rfl, hb⟩)
            | (go_at_call 67; refine (cD _).mono ?_; rintro e w2 ⟨rfl, rfl⟩))
          have hit3 : w1.heap[w.heap.size]? = some (.stringIter s (pos + WD)) := (hb.block _ (by rw [HSZ2.out]; exact hsz)).trans HIT2.out
          go_roundw
          case rel => exact ⟨pos + WD, f, hit3, HBW2.out.trans (hb.mono (by rw [HSZ2.out]; omega)), by rw [← HN.out, HST.out, hnm.out]; rfl, by have := HWD.out; omega, HWI.out⟩
          case measure =>
            simp only [World.iterPos, hit3, HIT.out]
            have := HWD.out; omega
        · have hq : decide (10 ≤ digR R) = true := decide_eq_true (by omega)
          have hnm : Hid (nameR R = false) := by show _ = _; unfold nameR; rw [hfr, decide_eq_false hd]; rfl
          generalize digR R = dR at *
          clear hfr
          go_wp2_with (first
            | (go_at_call 48; refine cF.mono ?_; rintro e w1 ⟨rfl, hb⟩)
            | (go_at_call 67; refine (cD _).mono ?_; rintro e w2 ⟨rfl, rfl⟩))
          go_ret
          exact ⟨ret_int (by rw [← HN.out, HST.out, hnm.out]; rfl), HBW2.out.trans (hb.mono (by rw [HSZ2.out]; omega))⟩
      · rw [hfr] at cF
        have hnm : Hid (nameR R = true) := by show _ = _; unfold nameR; rw [hfr]; rfl
        clear hfr
        go_wp2_with (go_at_call 48; refine cF.mono ?_; rintro e w1 ⟨rfl, hb⟩)
        have hit3 : w1.heap[w.heap.size]? = some (.stringIter s (pos + WD)) := (hb.block _ (by rw [HSZ2.out]; exact hsz)).trans HIT2.out
        go_roundw
        case rel => exact ⟨pos + WD, f, hit3, HBW2.out.trans (hb.mono (by rw [HSZ2.out]; omega)), by rw [← HN.out, HST.out, hnm.out]; rfl, by have := HWD.out; omega, HWI.out⟩
        case measure =>
          simp only [World.iterPos, hit3, HIT.out]
          have := HWD.out; omega
    · have hnx := fun ty => next_none (P := Tryd.prog) hit hlt ty
      have hres : Hid (Z = s.size) := by
        show _ = _
        rw [← hn]
        cases fuel with
        | zero => unfold nameF; omega
        | succ f => unfold nameF; rw [if_neg (by omega)]; omega
      clear hn hit
      go_wp2
      go_ret
      exact ⟨ret_int (by rw [hres.out]), hbw⟩

set_option maxHeartbeats 1000000 in
theorem digitsOf_any (s : ByteArray) (base : Int) (w : World) (hs : s.size ≤ 9223372036854775807) (hb : 10 ≤ base ∧ base ≤ 16) :
    Calls Tryd.prog 85 #[.string s, .int .i64 base] w fun e w' => e = .returned (.tuple #[.int .i64 (digZ s.data.toList base).1, .int .i64 ((digZ s.data.toList base).2 : Nat)]) ∧ Below w.heap.size w w' := by
  have HL := Lib.hid (data_len s)
  obtain ⟨l, hl⟩ : ∃ l, l = s.data.toList := ⟨_, rfl⟩
  rw [← hl] at HL ⊢
  have HS := Lib.hid hl
  obtain ⟨Z1, hZ1⟩ : ∃ Z, Z = (digZ l base).1 := ⟨_, rfl⟩
  obtain ⟨Z2, hZ2⟩ : ∃ Z, Z = (digZ l base).2 := ⟨_, rfl⟩
  have HZ : Hid (digZ l base = (Z1, Z2)) := by rw [hZ1, hZ2]; exact rfl
  rw [← hZ1, ← hZ2]
  obtain ⟨b0, b1⟩ := hb
  clear hZ1 hZ2 hl
  go_enter Tryd.func85, Tryd.ntmps85
  go_wp2
  go_loopw [6] (fun q wr => ∃ (pos fuel : Nat) (n : Int), q = .int .i64 n ∧ wr.heap[w.heap.size]? = some (.stringIter s pos) ∧ Below w.heap.size w wr ∧ digF l base fuel pos n = (Z1, Z2) ∧ l.length ≤ pos + fuel ∧ pos ≤ l.length ∧ 0 ≤ n ∧ n ≤ 4294967297) (fun _ wr => s.size - wr.iterPos w.heap.size)
  case atStart =>
    exact ⟨0, l.length, 0, rfl, World.iter_heap w s 0, (Below.refl _ w).alloc (Nat.le_refl _) _, HZ.out, by omega, Nat.zero_le _, Int.le_refl _, by omega⟩
  case round =>
    obtain ⟨pos, fuel, n, rfl, hit, hbw, hn, hf, hp, n0, n1⟩ := hrel
    have HIT := Lib.hid hit
    have HN := Lib.hid hn
    have hsz : w.heap.size < wr.heap.size := (Array.getElem?_eq_some_iff.1 hit).1
    have hll := HL.out
    by_cases hlt : pos < s.size
    · have hnx := fun ty => next_rune (P := Tryd.prog) hit hlt ty
      rw [← HS.out] at hnx
      obtain ⟨f, rfl⟩ : ∃ f, fuel = f + 1 := ⟨fuel - 1, by omega⟩
      have HR := Lib.hid (runeR_range (l.drop pos))
      have HWD := Lib.hid (wideR_pos (l.drop pos))
      have HWI := Lib.hid (wide_in (l := l) (p := pos) (by omega))
      have HST : Hid (digF l base (f + 1) pos n = if base ≤ digR (runeR (l.drop pos)) then (n, pos) else digF l base f (pos + wideR (l.drop pos)) (min (n * base + digR (runeR (l.drop pos))) 4294967297)) := by
        show _ = _
        conv => lhs; unfold digF
        rw [if_pos (by omega)]
      generalize runeR (l.drop pos) = R at *
      generalize wideR (l.drop pos) = WD at *
      have hit2 := Lib.iterAt_heap wr w.heap.size s pos (pos + WD) hit
      have HIT2 := Lib.hid hit2
      have HBW2 := Lib.hid (Lib.below_iterAt hbw (k := w.heap.size) (Nat.le_refl _) s (pos + WD))
      have cD := fun y => digit_any R y (i32_rune R HR.out)
      have hdr := digR_range R
      generalize digR R = dR at *
      clear hit hn hit2 hbw
      by_cases hd : base ≤ dR
      · have hq : decide (base ≤ dR) = true := decide_eq_true hd
        go_wp2_with (go_at_call 67; refine (cD _).mono ?_; rintro e w2 ⟨rfl, rfl⟩)
        have hz : (n, pos) = (Z1, Z2) := by rw [← HN.out, HST.out, if_pos hd]
        injection hz with hz1 hz2
        go_ret2
        exact ⟨by subst hz1 hz2; rfl, HBW2.out⟩
      · have hq : decide (base ≤ dR) = false := decide_eq_false hd
        have hnb : 0 ≤ n * base := Int.mul_nonneg n0 (by omega)
        have hnb2 : n * base ≤ 4294967297 * 16 := by
          have h1 : n * base ≤ n * 16 := Int.mul_le_mul_of_nonneg_left b1 n0
          omega
        have hw1 : wrap64 (n * base) = n * base := IntWalk.wrap64_in _ (by omega)
        have hw2 : wrap64 (n * base + dR) = n * base + dR := IntWalk.wrap64_in _ (by omega)
        have HM := Lib.hid (show 0 ≤ min (n * base + dR) 4294967297 ∧ min (n * base + dR) 4294967297 ≤ 4294967297 by omega)
        have HD := Lib.hid hd
        clear hnb hnb2
        go_wp2_with (go_at_call 67; refine (cD _).mono ?_; rintro e w2 ⟨rfl, rfl⟩)
        clear hw1 hw2
        go_roundw
        case rel => exact ⟨pos + WD, f, _, rfl, HIT2.out, HBW2.out, by rw [← HN.out, HST.out, if_neg (show ¬ base ≤ dR by have := HD.out; omega)], by have := HWD.out; omega, HWI.out, HM.out.1, HM.out.2⟩
        case measure =>
          simp only [World.iterPos, HIT2.out, HIT.out]
          have := HWD.out; omega
    · have hnx := fun ty => next_none (P := Tryd.prog) hit hlt ty
      have hres : (n, pos) = (Z1, Z2) := by
        rw [← hn]
        cases fuel with
        | zero => rfl
        | succ f => unfold digF; rw [if_neg (by omega)]
      injection hres with hz1 hz2
      clear hn hit
      go_wp2
      go_ret2
      exact ⟨by subst hz1; rw [← hz2, show pos = s.size by omega]; rfl, hbw⟩

theorem cut_any (s p : ByteArray) (w : World) : Calls Tryd.prog 84 #[.string s, .string p] w fun e w' => e = .returned (.tuple #[.string ⟨(Lib.trimPrefix s.data.toList p.data.toList).toArray⟩, .bool (Lib.hasPrefix s.data.toList p.data.toList)]) ∧ w = w' :=
  (Tryd.strings_CutPrefix s p w).mono fun _ _ h => ⟨h.1, h.2.symm⟩
theorem trim_len (l p : List UInt8) : (Lib.trimPrefix l p).length ≤ l.length := by
  unfold Lib.trimPrefix
  split
  · simp
  · exact Nat.le_refl _
theorem numZ_1 {l : List UInt8} (h : hasPrefix l [48, 120] = true) (h2 : 0 < (digZ (trimPrefix l [48, 120]) 16).2) : numZ l = ((digZ (trimPrefix l [48, 120]) 16).1, 2 + (digZ (trimPrefix l [48, 120]) 16).2) := by
  have e : trimPrefix l [48, 120] = l.drop 2 := by unfold trimPrefix; rw [if_pos h]; rfl
  rw [e] at h2 ⊢
  unfold numZ
  rw [if_pos ⟨h, h2⟩]
theorem numZ_0 {l : List UInt8} (h : hasPrefix l [48, 120] = false ∨ (digZ (trimPrefix l [48, 120]) 16).2 = 0) : ¬ (hasPrefix l [48, 120] = true ∧ 0 < (digZ (l.drop 2) 16).2) := by
  rintro ⟨h1, h2⟩
  have e : trimPrefix l [48, 120] = l.drop 2 := by unfold trimPrefix; rw [if_pos h1]; rfl
  rw [h1, e] at h
  rcases h with h | h
  · cases h
  · omega
theorem numZ_2 {l : List UInt8} (h0 : hasPrefix l [48, 120] = false ∨ (digZ (trimPrefix l [48, 120]) 16).2 = 0) (h : hasPrefix l [45] = true) (h2 : 0 < (digZ (trimPrefix l [45]) 10).2) : numZ l = (-(digZ (trimPrefix l [45]) 10).1, 1 + (digZ (trimPrefix l [45]) 10).2) := by
  have e : trimPrefix l [45] = l.drop 1 := by unfold trimPrefix; rw [if_pos h]; rfl
  rw [e] at h2 ⊢
  unfold numZ
  rw [if_neg (numZ_0 h0), if_pos ⟨h, h2⟩]
theorem numZ_3 {l : List UInt8} (h0 : hasPrefix l [48, 120] = false ∨ (digZ (trimPrefix l [48, 120]) 16).2 = 0) (h : hasPrefix l [45] = false ∨ (digZ (trimPrefix l [45]) 10).2 = 0) : numZ l = digZ l 10 := by
  unfold numZ
  rw [if_neg (numZ_0 h0), if_neg]
  rintro ⟨h1, h2⟩
  have e : trimPrefix l [45] = l.drop 1 := by unfold trimPrefix; rw [if_pos h1]; rfl
  rw [h1, e] at h
  rcases h with h | h
  · cases h
  · omega
set_option maxHeartbeats 2000000 in
theorem numberOf_any (s : ByteArray) (w : World) (hs : s.size ≤ 9223372036854775800) :
    Calls Tryd.prog 68 #[.string s] w fun e w' => e = .returned (.tuple #[.int .i64 (numZ s.data.toList).1, .int .i64 ((numZ s.data.toList).2 : Nat)]) ∧ Below w.heap.size w w' := by
  have hl := data_len s
  have t1 := trim_len s.data.toList [48, 120]
  have t2 := trim_len s.data.toList [45]
  have c1 := fun y => cut_any s ⟨#[48, 120]⟩ y
  have c2 := fun y => cut_any s ⟨#[45]⟩ y
  have d1 := fun y => digitsOf_any ⟨(Lib.trimPrefix s.data.toList [48, 120]).toArray⟩ 16 y (by rw [← data_len]; show (Lib.trimPrefix s.data.toList [48, 120]).length ≤ _; omega) (by omega)
  have d2 := fun y => digitsOf_any ⟨(Lib.trimPrefix s.data.toList [45]).toArray⟩ 10 y (by rw [← data_len]; show (Lib.trimPrefix s.data.toList [45]).length ≤ _; omega) (by omega)
  have d3 := fun y => digitsOf_any s 10 y (by omega) (by omega)
  have n1 := fun h h2 => numZ_1 (l := s.data.toList) h h2
  have n2 := fun h0 h h2 => numZ_2 (l := s.data.toList) h0 h h2
  have n3 := fun h0 h => numZ_3 (l := s.data.toList) h0 h
  have r1 := digZ_range (Lib.trimPrefix s.data.toList [48, 120]) (base := 16) (by omega)
  have r2 := digZ_range (Lib.trimPrefix s.data.toList [45]) (base := 10) (by omega)
  have l1 := digZ_le (Lib.trimPrefix s.data.toList [48, 120]) 16
  have l2 := digZ_le (Lib.trimPrefix s.data.toList [45]) 10
  change ∀ y, Calls Tryd.prog 84 #[.string s, .string ⟨#[48, 120]⟩] y fun e w' => e = .returned (.tuple #[.string ⟨(Lib.trimPrefix s.data.toList [48, 120]).toArray⟩, .bool (Lib.hasPrefix s.data.toList [48, 120])]) ∧ y = w' at c1
  change ∀ y, Calls Tryd.prog 84 #[.string s, .string ⟨#[45]⟩] y fun e w' => e = .returned (.tuple #[.string ⟨(Lib.trimPrefix s.data.toList [45]).toArray⟩, .bool (Lib.hasPrefix s.data.toList [45])]) ∧ y = w' at c2
  change ∀ y, Calls Tryd.prog 85 #[.string ⟨(Lib.trimPrefix s.data.toList [48, 120]).toArray⟩, .int .i64 16] y fun e w' => e = .returned (.tuple #[.int .i64 (digZ (Lib.trimPrefix s.data.toList [48, 120]) 16).1, .int .i64 ((digZ (Lib.trimPrefix s.data.toList [48, 120]) 16).2 : Nat)]) ∧ Below y.heap.size y w' at d1
  change ∀ y, Calls Tryd.prog 85 #[.string ⟨(Lib.trimPrefix s.data.toList [45]).toArray⟩, .int .i64 10] y fun e w' => e = .returned (.tuple #[.int .i64 (digZ (Lib.trimPrefix s.data.toList [45]) 10).1, .int .i64 ((digZ (Lib.trimPrefix s.data.toList [45]) 10).2 : Nat)]) ∧ Below y.heap.size y w' at d2
  generalize Lib.hasPrefix s.data.toList [48, 120] = B1 at *
  generalize Lib.hasPrefix s.data.toList [45] = B2 at *
  generalize (⟨(Lib.trimPrefix s.data.toList [48, 120]).toArray⟩ : ByteArray) = S1 at *
  generalize (⟨(Lib.trimPrefix s.data.toList [45]).toArray⟩ : ByteArray) = S2 at *
  generalize hD1 : digZ (Lib.trimPrefix s.data.toList [48, 120]) 16 = D1 at *
  generalize hD2 : digZ (Lib.trimPrefix s.data.toList [45]) 10 = D2 at *
  generalize digZ s.data.toList 10 = D3 at *
  generalize numZ s.data.toList = Z at *
  obtain ⟨N1, K1⟩ := D1
  obtain ⟨N2, K2⟩ := D2
  obtain ⟨N3, K3⟩ := D3
  simp only at *
  have m1 : (K1 : Int) ≤ 9223372036854775800 := by omega
  have m2 : (K2 : Int) ≤ 9223372036854775800 := by omega
  obtain ⟨r10, r11⟩ := r1
  obtain ⟨r20, r21⟩ := r2
  have C1 := Lib.hid c1; have C2 := Lib.hid c2; have D1 := Lib.hid d1; have D2 := Lib.hid d2; have D3 := Lib.hid d3
  clear hD1 hD2 t1 t2 l1 l2 hl hs c1 c2 d1 d2 d3
  cases B1
  · clear n1
    cases B2
    · have HZ := Lib.hid (n3 (.inl rfl) (.inl rfl))
      clear n2 n3
      go_enter Tryd.func68, Tryd.ntmps68
      go_wp2_with fail
      refine (C1.out _).mono ?_; rintro e w0 ⟨rfl, rfl⟩
      go_wp2_with fail
      refine (C2.out _).mono ?_; rintro e wx ⟨rfl, rfl⟩
      go_wp2_with fail
      refine (D3.out _).mono ?_; rintro e w3 ⟨rfl, hb3⟩
      go_wp2_with fail
      go_ret2
      exact ⟨by rw [HZ.out]; rfl, hb3⟩
    · by_cases hk2 : 0 < K2
      · have HZ := Lib.hid (n2 (.inl rfl) rfl hk2)
        have q21 : decide (0 < K2) = true := decide_eq_true hk2
        have q22 : decide (0 < (K2 : Int)) = true := decide_eq_true (by omega)
        clear n2 n3
        go_enter Tryd.func68, Tryd.ntmps68
        go_wp2_with fail
        refine (C1.out _).mono ?_; rintro e w0 ⟨rfl, rfl⟩
        go_wp2_with fail
        refine (C2.out _).mono ?_; rintro e wx ⟨rfl, rfl⟩
        go_wp2_with fail
        refine (D2.out _).mono ?_; rintro e w2 ⟨rfl, hb2⟩
        have HB2 := Lib.hid (show Below w.heap.size w w2 from hb2)
        clear hb2
        go_wp2_with fail
        go_ret2
        exact ⟨by rw [HZ.out]; first | rfl | simp, HB2.out⟩
      · have HZ := Lib.hid (n3 (.inl rfl) (.inr (by omega)))
        have q21 : decide (0 < K2) = false := decide_eq_false hk2
        have q22 : decide (0 < (K2 : Int)) = false := decide_eq_false (by omega)
        clear n2 n3
        go_enter Tryd.func68, Tryd.ntmps68
        go_wp2_with fail
        refine (C1.out _).mono ?_; rintro e w0 ⟨rfl, rfl⟩
        go_wp2_with fail
        refine (C2.out _).mono ?_; rintro e wx ⟨rfl, rfl⟩
        go_wp2_with fail
        refine (D2.out _).mono ?_; rintro e w2 ⟨rfl, hb2⟩
        have HB2 := Lib.hid (show Below w.heap.size w w2 from hb2)
        clear hb2
        go_wp2_with fail
        refine (D3.out _).mono ?_; rintro e w3 ⟨rfl, hb3⟩
        go_wp2_with fail
        go_ret2
        exact ⟨by rw [HZ.out]; rfl, HB2.out.trans (hb3.mono HB2.out.size)⟩
  · by_cases hk1 : 0 < K1
    · have HZ := Lib.hid (n1 rfl hk1)
      have q11 : decide (0 < K1) = true := decide_eq_true hk1
      have q12 : decide (0 < (K1 : Int)) = true := decide_eq_true (by omega)
      clear n1 n2 n3
      go_enter Tryd.func68, Tryd.ntmps68
      go_wp2_with fail
      refine (C1.out _).mono ?_; rintro e w0 ⟨rfl, rfl⟩
      go_wp2_with fail
      refine (D1.out _).mono ?_; rintro e w1 ⟨rfl, hb1⟩
      have HB1 := Lib.hid hb1
      clear hb1
      go_wp2_with fail
      go_ret2
      exact ⟨by rw [HZ.out]; first | rfl | simp, HB1.out⟩
    · have hk1' : K1 = 0 := by omega
      have q11 : decide (0 < K1) = false := decide_eq_false hk1
      have q12 : decide (0 < (K1 : Int)) = false := decide_eq_false (by omega)
      cases B2
      · have HZ := Lib.hid (n3 (.inr hk1') (.inl rfl))
        clear n1 n2 n3 hk1'
        go_enter Tryd.func68, Tryd.ntmps68
        go_wp2_with fail
        refine (C1.out _).mono ?_; rintro e w0 ⟨rfl, rfl⟩
        go_wp2_with fail
        refine (D1.out _).mono ?_; rintro e w1 ⟨rfl, hb1⟩
        have HB1 := Lib.hid hb1
        clear hb1
        go_wp2_with fail
        refine (C2.out _).mono ?_; rintro e wx ⟨rfl, rfl⟩
        go_wp2_with fail
        refine (D3.out _).mono ?_; rintro e w3 ⟨rfl, hb3⟩
        go_wp2_with fail
        go_ret2
        exact ⟨by rw [HZ.out]; rfl, HB1.out.trans (hb3.mono HB1.out.size)⟩
      · by_cases hk2 : 0 < K2
        · have HZ := Lib.hid (n2 (.inr hk1') rfl hk2)
          have q21 : decide (0 < K2) = true := decide_eq_true hk2
          have q22 : decide (0 < (K2 : Int)) = true := decide_eq_true (by omega)
          clear n1 n2 n3 hk1'
          go_enter Tryd.func68, Tryd.ntmps68
          go_wp2_with fail
          refine (C1.out _).mono ?_; rintro e w0 ⟨rfl, rfl⟩
          go_wp2_with fail
          refine (D1.out _).mono ?_; rintro e w1 ⟨rfl, hb1⟩
          have HB1 := Lib.hid hb1
          clear hb1
          go_wp2_with fail
          refine (C2.out _).mono ?_; rintro e wx ⟨rfl, rfl⟩
          go_wp2_with fail
          refine (D2.out _).mono ?_; rintro e w2 ⟨rfl, hb2⟩
          have HB2 := Lib.hid (show Below w.heap.size w w2 from HB1.out.trans (hb2.mono HB1.out.size))
          clear hb2
          go_wp2_with fail
          go_ret2
          exact ⟨by rw [HZ.out]; first | rfl | simp, HB2.out⟩
        · have HZ := Lib.hid (n3 (.inr hk1') (.inr (by omega)))
          have q21 : decide (0 < K2) = false := decide_eq_false hk2
          have q22 : decide (0 < (K2 : Int)) = false := decide_eq_false (by omega)
          clear n1 n2 n3 hk1'
          go_enter Tryd.func68, Tryd.ntmps68
          go_wp2_with fail
          refine (C1.out _).mono ?_; rintro e w0 ⟨rfl, rfl⟩
          go_wp2_with fail
          refine (D1.out _).mono ?_; rintro e w1 ⟨rfl, hb1⟩
          have HB1 := Lib.hid hb1
          clear hb1
          go_wp2_with fail
          refine (C2.out _).mono ?_; rintro e wx ⟨rfl, rfl⟩
          go_wp2_with fail
          refine (D2.out _).mono ?_; rintro e w2 ⟨rfl, hb2⟩
          have HB2 := Lib.hid (show Below w.heap.size w w2 from HB1.out.trans (hb2.mono HB1.out.size))
          clear hb2
          go_wp2_with fail
          refine (D3.out _).mono ?_; rintro e w3 ⟨rfl, hb3⟩
          go_wp2_with fail
          go_ret2
          exact ⟨by rw [HZ.out]; rfl, HB2.out.trans (hb3.mono HB2.out.size)⟩
end Go.Proofs.YtimdojeagkbgbaaDoor.Words

/- Laws of no one program: append of whatever row (nil too) onto a row of the call's own, in a plain region and in one that draws its order; a row of bytes as a string. -/
namespace Go.Proofs.YtimdojeagkbgbaaDoor.Words
set_option maxRecDepth 100000
open Go.RowKit
section
variable {P : Program} (w : World)

theorem run_append_row (base : Nat) (t ty e : TypeId) (i : TypeInfo) (z : Value) (size bytes : Nat) (ht : P.underlying t = some (.slice e)) (hi : P.info? e = some i) (hz : i.zero = some z)
    (hsize : i.size = size) (hby : i.bytes = bytes) (hzs : z.cells.size = size) (hsz : 0 < size)
    (v : Value) (n : Nat) (xs : List Value) (hown : w.ownsRow base e size v n xs) (B : Nat) (x : Value) (m : Nat) (news : List Value) (hr : Row w B size x m news) (h1 : ∀ u ∈ news, u.oneCell' = true)
    (h63 : n + m ≤ maxLen) (hbytes : (n + m) * bytes ≤ 140737488355328) (hbase : base ≤ w.heap.size) :
    ∃ v' w', (Builtin.append_ #[t, t] ty #[v, x]).run P w = .ok v' w' ∧ w'.ownsRow base e size v' (n + m) (xs ++ news) ∧ w.grownBy w' v.ownBlock := by
  obtain ⟨A, c, rfl⟩ := hr.form
  rcases A with _ | ad
  · obtain ⟨rfl, rfl⟩ := hr.bare rfl
    have hn : news = [] := List.eq_nil_of_length_eq_zero (by simpa using hr.len)
    subst hn
    have hrun := run_append_owned_none (P := P) w base t ty e i size ht hi v n xs hown
    exact ⟨v, w, hrun, by simpa using hown, World.grownBy.refl w _⟩
  · obtain ⟨v', w', h2, h3, h4, _⟩ := run_append_own (P := P) w base t ty e i z size bytes ht hi hz hsize hby hzs hsz v n xs hown ad m c news hr.len (hr.cells ad rfl) h1 h63 hbytes hbase
    exact ⟨v', w', h2, h3, h4⟩

theorem wp_append_row {o : Oper} {a : Act} {K : Act → World → Prop} {Q : Exit → Act → World → Prop} (s y : Operand) (t : TypeId)
    (ho : o.op = .call { callee := .builtin .append, args := #[s, y], argTypes := #[t, t] })
    (base : Nat) (e : TypeId) (i : TypeInfo) (z : Value) (size bytes : Nat) (ht : P.underlying t = some (.slice e)) (hi : P.info? e = some i) (hz : i.zero = some z)
    (hsize : i.size = size) (hby : i.bytes = bytes) (hzs : z.cells.size = size) (hsz : 0 < size)
    (v : Value) (n : Nat) (xs : List Value) (hs : a.eval s = v) (hown : w.ownsRow base e size v n xs) (B : Nat) (x : Value) (m : Nat) (news : List Value) (hx : a.eval y = x) (hr : Row w B size x m news) (h1 : ∀ u ∈ news, u.oneCell' = true)
    (h63 : n + m ≤ maxLen) (hbytes : (n + m) * bytes ≤ 140737488355328) (hbase : base ≤ w.heap.size)
    (h : ∀ v' w', w'.ownsRow base e size v' (n + m) (xs ++ news) → w.grownBy w' v.ownBlock → K (a.put o.dst v') w') : o.wp P a w K Q := by
  obtain ⟨v', w', hrun, h2, h3⟩ := run_append_row (P := P) w base t o.type e i z size bytes ht hi hz hsize hby hzs hsz v n xs hown B x m news hr h1 h63 hbytes hbase
  unfold Oper.wp execOp
  simp only [ho, resolve, invoke, builtin, Sem.run_bind, Sem.run_pure, Result.andThen_ok, List.map_toArray, List.map_cons, List.map_nil, hs, hx, hrun]
  exact h v' w' h2 h3

theorem wpList_append_row {ops : Array Oper} {rest : List Oper} {o : Oper} {a : Act} {Q : Exit → Act → World → Prop} (hgd : o.guard = none) (s y : Operand) (t : TypeId)
    (ho : o.op = .call { callee := .builtin .append, args := #[s, y], argTypes := #[t, t] })
    (base : Nat) (e : TypeId) (i : TypeInfo) (z : Value) (size bytes : Nat) (ht : P.underlying t = some (.slice e)) (hi : P.info? e = some i) (hz : i.zero = some z)
    (hsize : i.size = size) (hby : i.bytes = bytes) (hzs : z.cells.size = size) (hsz : 0 < size)
    (v : Value) (n : Nat) (xs : List Value) (hs : a.eval s = v) (hown : w.ownsRow base e size v n xs) (B : Nat) (x : Value) (m : Nat) (news : List Value) (hx : a.eval y = x) (hr : Row w B size x m news) (h1 : ∀ u ∈ news, u.oneCell' = true)
    (h63 : n + m ≤ maxLen) (hbytes : (n + m) * bytes ≤ 140737488355328) (hbase : base ≤ w.heap.size)
    (h : ∀ v' w', w'.ownsRow base e size v' (n + m) (xs ++ news) → w.grownBy w' v.ownBlock → wpList P ops Q rest (a.put o.dst v') w') : wpList P ops Q (o :: rest) a w :=
  wpList_plain hgd fun _ hK => wp_append_row w s y t ho base e i z size bytes ht hi hz hsize hby hzs hsz v n xs hs hown B x m news hx hr h1 h63 hbytes hbase fun v' w' h2 h3 => hK _ _ (h v' w' h2 h3)

/-- As one step of a region that draws, whatever its guard says as long as it is wanted. -/
theorem step_append_row {ops : Array Oper} {o : Oper} {a : Act} {K : Act → World → Prop} {Q : Exit → Act → World → Prop} {E : Prop} (s y : Operand) (t : TypeId)
    (ho : o.op = .call { callee := .builtin .append, args := #[s, y], argTypes := #[t, t] }) (hw : Region.wanted o (yielded ops a.tmps) = true)
    (base : Nat) (e : TypeId) (i : TypeInfo) (z : Value) (size bytes : Nat) (ht : P.underlying t = some (.slice e)) (hi : P.info? e = some i) (hz : i.zero = some z)
    (hsize : i.size = size) (hby : i.bytes = bytes) (hzs : z.cells.size = size) (hsz : 0 < size)
    (v : Value) (n : Nat) (xs : List Value) (hs : a.eval s = v) (hown : w.ownsRow base e size v n xs) (B : Nat) (x : Value) (m : Nat) (news : List Value) (hx : a.eval y = x) (hr : Row w B size x m news) (h1 : ∀ u ∈ news, u.oneCell' = true)
    (h63 : n + m ≤ maxLen) (hbytes : (n + m) * bytes ≤ 140737488355328) (hbase : base ≤ w.heap.size)
    (h : ∀ v' w', w'.ownsRow base e size v' (n + m) (xs ++ news) → w.grownBy w' v.ownBlock → K (a.put o.dst v') w') : if Region.wanted o (yielded ops a.tmps) = true then Oper.wp P o a w K Q else E := by
  rw [if_pos hw]
  exact wp_append_row w s y t ho base e i z size bytes ht hi hz hsize hby hzs hsz v n xs hs hown B x m news hx hr h1 h63 hbytes hbase h

theorem conv_row (src e : TypeId) (hs : P.underlying src = some (.slice e)) (he : P.underlying e = some (.int .u8)) {B : Nat} {v : Value} {n : Nat} {xs : List Int} (hr : Row w B 1 v n (xs.map (Value.int .u8))) :
    ∀ dst, P.underlying dst = some .string → (convert src dst v).run P w = .ok (.string (strOfNums xs)) w := by
  intro dst hd
  obtain ⟨A, c, rfl⟩ := hr.form
  have hl : xs.length = n := by simpa using hr.len
  by_cases hn : n = 0
  · subst hn
    have : xs = [] := List.eq_nil_of_length_eq_zero hl
    subst this
    rcases A with _ | ad
    · exact run_convert_bytes_nil w src e hs he 0 c dst hd
    · rw [run_convert_bytes_string w src dst e _ 0 c hs he hd, run_bytesToString w ad 0 c [] (by simp [loadCells, loadCellsFrom])]
      rfl
  · obtain ⟨b, off, rfl, _, hc⟩ := hr.at_ hn
    refine run_convert_bytes_arg w src e hs he b off n c xs hl (fun i hi => hc i _ ?_) dst hd
    rw [List.getElem?_map, List.getElem?_eq_getElem (by omega), List.getD_eq_getElem?_getD, List.getElem?_eq_getElem (by omega)]
    rfl
end
end Go.Proofs.YtimdojeagkbgbaaDoor.Words

/- A row of bytes (of numbers): its cells. Nothing here speaks of one program text. -/
namespace Go.Proofs.YtimdojeagkbgbaaDoor.Words
set_option maxRecDepth 100000
open Go.RowKit

theorem byte_at {zs : List Int} (hz : ∀ x ∈ zs, 0 ≤ x ∧ x ≤ 255) (j : Nat) : 0 ≤ zs.getD j 0 ∧ zs.getD j 0 ≤ 255 := by
  rw [List.getD_eq_getElem?_getD]
  rcases h : zs[j]? with _ | x
  · simp
  · simpa using hz x (List.mem_of_getElem? h)

theorem cell_row {w : World} {b off : Nat} {zs : List Int} {k : IntKind} (hc : ∀ j u, (zs.map (Value.int k))[j]? = some u → w.cell? ⟨b, off + j, none⟩ = some u) (j : Nat) (hj : j < zs.length) :
    w.cell? ⟨b, off + j, none⟩ = some (.int k (zs.getD j 0)) := by
  refine hc j _ ?_
  rw [List.getElem?_map, List.getElem?_eq_getElem hj, List.getD_eq_getElem?_getD, List.getElem?_eq_getElem hj]
  rfl
theorem Row.num {w : World} {B n : Nat} {b off c : Nat} {zs : List Int} {k : IntKind} (h : Row w B 1 (.slice (some ⟨b, off, none⟩) n c) n (zs.map (Value.int k))) (j : Nat) (hj : j < n) :
    w.cell? ⟨b, off + j, none⟩ = some (.int k (zs.getD j 0)) := by
  have hl : zs.length = n := by have := h.len; simpa using this
  have := h.cells ⟨b, off, none⟩ rfl j (.int k (zs.getD j 0)) (by rw [List.getElem?_map, List.getElem?_eq_getElem (by omega), List.getD_eq_getElem?_getD, List.getElem?_eq_getElem (by omega)]; rfl)
  rwa [add_spot] at this
end Go.Proofs.YtimdojeagkbgbaaDoor.Words

/- Rows of the call's own: kept, cut short, joined. Nothing here speaks of one program text. -/
namespace Go.Proofs.YtimdojeagkbgbaaDoor.Words
set_option maxRecDepth 100000
open Go.RowKit

theorem own_below {w w' : World} {base : Nat} {e : TypeId} {size : Nat} {v : Value} {n : Nat} {xs : List Value} (h : w.ownsRow base e size v n xs) (hb : Below w.heap.size w w') : w'.ownsRow base e size v n xs := by
  refine ⟨h.1, ?_⟩
  rcases h.2 with h' | ⟨g, cap, cur, rfl, h1, h2, h3⟩
  · exact .inl h'
  · exact .inr ⟨g, cap, cur, rfl, h1, (hb.block g (Array.getElem?_eq_some_iff.1 h2).1).trans h2, h3⟩
theorem own_base {w : World} {base base' : Nat} {e : TypeId} {size : Nat} {v : Value} {n : Nat} {xs : List Value} (h : w.ownsRow base e size v n xs) (hb : base' ≤ base) : w.ownsRow base' e size v n xs := by
  refine ⟨h.1, ?_⟩
  rcases h.2 with h' | ⟨g, cap, cur, rfl, h1, h2⟩
  · exact .inl h'
  · exact .inr ⟨g, cap, cur, rfl, Nat.le_trans hb h1, h2⟩
theorem u8_one (l : List Int) : ∀ u ∈ l.map (Value.int .u8), u.oneCell' = true := by
  intro u hu
  obtain ⟨x, _, rfl⟩ := List.mem_map.1 hu
  rfl

theorem new_cells1 (w : World) (o : Obj) (cs : Array Value) (t : TypeId) (xs : List Value) (h : cs.toList = xs) : ∀ j u, xs[j]? = some u → ((w.alloc o).alloc (.cells cs t)).cell? ((⟨w.heap.size + 1, 0, none⟩ : Addr).add j) = some u := by
  have := new_cells (w.alloc o) cs t xs h
  have e : (w.alloc o).heap.size = w.heap.size + 1 := by simp
  rw [e] at this
  exact this
theorem two_cell {w : World} {o1 o2 : Obj} {b k : Nat} {v : Value} (hb : b < w.heap.size) (h : w.cell? ⟨b, k, none⟩ = some v) : ((w.alloc o1).alloc o2).cell? ⟨b, k, none⟩ = some v := by
  rw [World.cell?_alloc_lt _ _ _ (by simp; omega), World.cell?_alloc_lt _ _ _ hb]; exact h
theorem two_frozen {w : World} {o1 o2 : Obj} {b k : Nat} {v : Bool} (hb : b < w.heap.size) (h : w.frozen? ⟨b, k, none⟩ = v) : ((w.alloc o1).alloc o2).frozen? ⟨b, k, none⟩ = v := by
  have h1 : Below (b + 1) w ((w.alloc o1).alloc o2) := ((Below.refl _ _).alloc (by omega) _).alloc (by simp; omega) _
  rw [h1.frozen (p := ⟨b, k, none⟩) (by show b < b + 1; omega)]; exact h
theorem below_cell {B : Nat} {x y : World} {b k : Nat} {v : Value} (h : Below B x y) (hb : b < B) (hv : x.cell? ⟨b, k, none⟩ = some v) : y.cell? ⟨b, k, none⟩ = some v := by
  rw [h.cell (p := ⟨b, k, none⟩) hb]; exact hv
theorem below_frozen {B : Nat} {x y : World} {b k : Nat} {v : Bool} (h : Below B x y) (hb : b < B) (hv : x.frozen? ⟨b, k, none⟩ = v) : y.frozen? ⟨b, k, none⟩ = v := by
  rw [h.frozen (p := ⟨b, k, none⟩) hb]; exact hv
theorem own_grown {w w' : World} {base : Nat} {e : TypeId} {size : Nat} {v : Value} {n : Nat} {xs : List Value} {row : Option Nat} (h : w.ownsRow base e size v n xs) (hg : w.grownBy w' row) (hne : ∀ g, v.ownBlock = some g → some g ≠ row) : w'.ownsRow base e size v n xs := by
  refine ⟨h.1, ?_⟩
  rcases h.2 with h' | ⟨g, cap, cur, rfl, h1, h2, h3⟩
  · exact .inl h'
  · exact .inr ⟨g, cap, cur, rfl, h1, (hg.block g (Array.getElem?_eq_some_iff.1 h2).1 (hne g rfl)).trans h2, h3⟩

theorem own_form {w : World} {base : Nat} {e : TypeId} {size : Nat} {v : Value} {n : Nat} {xs : List Value} (h : w.ownsRow base e size v n xs) (hn : n ≠ 0) : ∃ g cap, v = .slice (some ⟨g, 0, none⟩) n cap ∧ base ≤ g ∧ g < w.heap.size := by
  rcases h.2 with ⟨rfl, rfl⟩ | ⟨g, cap, cur, rfl, h1, h2, h3⟩
  · exact absurd rfl hn
  · exact ⟨g, cap, rfl, h1, (Array.getElem?_eq_some_iff.1 h2).1⟩

theorem own_u8 {w : World} {base : Nat} {e : TypeId} {g cap L : Nat} {zs : List Int} (h : w.ownsRow base e 1 (.slice (some ⟨g, 0, none⟩) L cap) L (zs.map (Value.int .u8))) (j : Nat) (hj : j < L) : w.cell? ⟨g, j, none⟩ = some (.int .u8 (zs.getD j 0)) := by
  have hl : zs.length = L := by have := h.1; simpa using this
  rw [h.cellAt j (by omega), List.getElem?_map, List.getD_eq_getElem?_getD, List.getElem?_eq_getElem (by omega)]; rfl
theorem one_cell {w : World} {o1 : Obj} {b k : Nat} {v : Value} (hb : b < w.heap.size) (h : w.cell? ⟨b, k, none⟩ = some v) : (w.alloc o1).cell? ⟨b, k, none⟩ = some v := by
  rw [World.cell?_alloc_lt _ _ _ hb]; exact h
theorem one_frozen {w : World} {o1 : Obj} {b k : Nat} {v : Bool} (hb : b < w.heap.size) (h : w.frozen? ⟨b, k, none⟩ = v) : (w.alloc o1).frozen? ⟨b, k, none⟩ = v := by
  have h1 : Below (b + 1) w (w.alloc o1) := (Below.refl _ _).alloc (by omega) _
  rw [h1.frozen (p := ⟨b, k, none⟩) (by show b < b + 1; omega)]; exact h

theorem own_front {w : World} {base : Nat} {e : TypeId} {g n cap k : Nat} {xs : List Value} (h : w.ownsRow base e 1 (.slice (some ⟨g, 0, none⟩) n cap) n xs) (hk : k ≤ n) : w.ownsRow base e 1 (.slice (some ⟨g, 0, none⟩) k cap) k (xs.take k) := by
  have hl : xs.length = n := by have := h.1; simpa using this
  rcases h.2 with ⟨h', _⟩ | ⟨g', cap', cur, h', h1, h2, h3, h4, h5, h6⟩
  · simp at h'
  · simp only [Value.slice.injEq, Option.some.injEq, Addr.mk.injEq, and_true, true_and] at h'
    obtain ⟨rfl, rfl⟩ := h'
    refine ⟨by simp; omega, .inr ⟨g, cap, cur, rfl, h1, h2, by omega, h4, h5, ?_⟩⟩
    rw [← h6, List.take_take]
    congr 1; omega
end Go.Proofs.YtimdojeagkbgbaaDoor.Words

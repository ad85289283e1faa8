/- Several texts in one: LexMath, IsaMath, Base, PData, AsmMath, LexTabs, LexScan. -/
import Derived.Lib.IsU
import Derived.Lib.TrimUEq
import Derived.Lib.MapLaws
import Derived.Lib.Small
import Derived.WalkKit
import Derived.Laws.BitsAllLaws
import Derived.WalkSpells
import Derived.WalkLawsBesides
import Derived.Lib.Hide
import Derived.Deep.QuietTactic
import Derived.BigQuiet
import Derived.Test.YtcaibahniheohaaDoorSShelf
import Derived.Lib.OthersKept
import Derived.WalkMore
import Derived.LoopTactic

/- Texts taken apart: plain mathematics over lists of bytes. Nothing here speaks of one program text. -/
namespace Go.Proofs.YtcaibahniheohaaDoor.Words
set_option maxRecDepth 100000
set_option linter.unusedVariables false
open Go.Lib
def digR (r : Int) : Int := if 48 ≤ r ∧ r ≤ 57 then r - 48 else if 97 ≤ r ∧ r ≤ 102 then r - 97 + 10 else if 65 ≤ r ∧ r ≤ 70 then r - 65 + 10 else 16
def blankR (r : Int) : Bool := decide (r = 32 ∨ r = 9 ∨ r = 13)
def signR (r : Int) : Bool := decide (r = 44 ∨ r = 58 ∨ r = 40 ∨ r = 41)
def firstR (r : Int) : Bool := isLetterU r || decide (r = 95)
def nameR (r : Int) : Bool := firstR r || decide (digR r < 10)
def runeR (l : List UInt8) : Int := ((decodeL l).1 : Int)
def wideR (l : List UInt8) : Nat := (decodeL l).2
def badR (l : List UInt8) : Bool := decide (runeR l = 65533 ∧ wideR l = 1)
theorem wideR_pos (l : List UInt8) : 1 ≤ wideR l := decodeL_width l
theorem wideR_le {l : List UInt8} (h : l ≠ []) : wideR l ≤ l.length := decodeL_le l h
theorem runeR_range (l : List UInt8) : 0 ≤ runeR l ∧ runeR l ≤ 1114111 := by have := decodeL_rune l; unfold runeR; omega
theorem digR_range (r : Int) : 0 ≤ digR r ∧ digR r ≤ 16 := by unfold digR; repeat' split; all_goals omega
abbrev from_ (l : List UInt8) (p : Nat) : List UInt8 := l.drop p
theorem from_ne {l : List UInt8} {p : Nat} (h : p < l.length) : l.drop p ≠ [] := fun e => by have := congrArg List.length e; simp at this; omega
theorem wide_in {l : List UInt8} {p : Nat} (h : p < l.length) : p + wideR (l.drop p) ≤ l.length := by have := wideR_le (from_ne h); simp at this; omega
def nameF (l : List UInt8) : Nat → Nat → Nat
 | 0, p => p
 | f + 1, p => if p < l.length then (if nameR (runeR (l.drop p)) then nameF l f (p + wideR (l.drop p)) else p) else p
def digF (l : List UInt8) (base : Int) : Nat → Nat → Int → Int × Nat
 | 0, p, n => (n, p)
 | f + 1, p, n => if p < l.length then (if base ≤ digR (runeR (l.drop p)) then (n, p) else digF l base f (p + wideR (l.drop p)) (min (n * base + digR (runeR (l.drop p))) 4294967297)) else (n, p)
theorem nameF_le (l : List UInt8) : ∀ f p, p ≤ l.length → p ≤ nameF l f p ∧ nameF l f p ≤ l.length
 | 0, p, h => ⟨Nat.le_refl _, h⟩
 | f + 1, p, h => by
  unfold nameF
  split
  ·rename_i hp
   split
   ·have h1 := wide_in hp
    have h2 := nameF_le l f _ h1
    exact ⟨by omega, h2.2⟩
   ·exact ⟨Nat.le_refl _, h⟩
  ·exact ⟨Nat.le_refl _, h⟩
theorem digF_le (l : List UInt8) (base : Int) : ∀ f p n, p ≤ l.length → p ≤ (digF l base f p n).2 ∧ (digF l base f p n).2 ≤ l.length
 | 0, p, n, h => ⟨Nat.le_refl _, h⟩
 | f + 1, p, n, h => by
  unfold digF
  split
  ·rename_i hp
   split
   ·exact ⟨Nat.le_refl _, h⟩
   ·have h1 := wide_in hp
    have h2 := digF_le l base f _ (min (n * base + digR (runeR (l.drop p))) 4294967297) h1
    exact ⟨by omega, h2.2⟩
  ·exact ⟨Nat.le_refl _, h⟩
theorem digF_range (l : List UInt8) (base : Int) (hb : 0 ≤ base) : ∀ f p n, 0 ≤ n → n ≤ 4294967297 → 0 ≤ (digF l base f p n).1 ∧ (digF l base f p n).1 ≤ 4294967297
 | 0, p, n, h, h' => ⟨h, h'⟩
 | f + 1, p, n, h, h' => by
  unfold digF
  split
  ·split
   ·exact ⟨h, h'⟩
   ·have h1 := digR_range (runeR (l.drop p))
    have h2 : 0 ≤ n * base := Int.mul_nonneg h hb
    exact digF_range l base hb f _ _ (by omega) (by omega)
  ·exact ⟨h, h'⟩
theorem nameF_more (l : List UInt8) : ∀ f p g, l.length ≤ p + f → nameF l (f + g) p = nameF l f p
 | 0, p, g, h => by
  rw [Nat.zero_add]
  cases g with
  | zero => rfl
  | succ g => unfold nameF; rw [if_neg (by omega)]
 | f + 1, p, g, h => by
  rw [show f + 1 + g = (f + g) + 1 by omega]
  unfold nameF
  split
  ·split
   ·exact nameF_more l f _ g (by have := wideR_pos (l.drop p); omega)
   ·rfl
  ·rfl
theorem digF_more (l : List UInt8) (base : Int) : ∀ f p n g, l.length ≤ p + f → digF l base (f + g) p n = digF l base f p n
 | 0, p, n, g, h => by
  rw [Nat.zero_add]
  cases g with
  | zero => rfl
  | succ g => unfold digF; rw [if_neg (by omega)]
 | f + 1, p, n, g, h => by
  rw [show f + 1 + g = (f + g) + 1 by omega]
  unfold digF
  split
  ·split
   ·rfl
   ·exact digF_more l base f _ _ g (by have := wideR_pos (l.drop p); omega)
  ·rfl
theorem nameF_drop (l : List UInt8) (q : Nat) (hq : q ≤ l.length) : ∀ f p, nameF (l.drop q) f p + q = nameF l f (q + p)
 | 0, p => Nat.add_comm _ _
 | f + 1, p => by
  unfold nameF
  rw [List.length_drop, List.drop_drop]
  by_cases h : q + p < l.length
  ·rw [if_pos (by omega), if_pos h]
   split
   ·rw [nameF_drop l q hq f _, Nat.add_assoc]
   ·exact Nat.add_comm _ _
  ·rw [if_neg (by omega), if_neg h]; exact Nat.add_comm _ _
theorem digF_drop (l : List UInt8) (base : Int) (q : Nat) (hq : q ≤ l.length) : ∀ f p n, (digF (l.drop q) base f p n).1 = (digF l base f (q + p) n).1 ∧ (digF (l.drop q) base f p n).2 + q = (digF l base f (q + p) n).2
 | 0, p, n => ⟨rfl, Nat.add_comm _ _⟩
 | f + 1, p, n => by
  unfold digF
  rw [List.length_drop, List.drop_drop]
  by_cases h : q + p < l.length
  ·rw [if_pos (by omega), if_pos h]
   split
   ·exact ⟨rfl, Nat.add_comm _ _⟩
   ·have := digF_drop l base q hq f (p + wideR (l.drop (q + p))) (min (n * base + digR (runeR (l.drop (q + p)))) 4294967297)
    rw [Nat.add_assoc]
    exact this
  ·rw [if_neg (by omega), if_neg h]; exact ⟨rfl, Nat.add_comm _ _⟩
def nameZ (l : List UInt8) : Nat := nameF l l.length 0
def digZ (l : List UInt8) (base : Int) : Int × Nat := digF l base l.length 0 0
def numZ (l : List UInt8) : Int × Nat :=
 if hasPrefix l [48, 120] = true ∧ 0 < (digZ (l.drop 2) 16).2 then ((digZ (l.drop 2) 16).1, 2 + (digZ (l.drop 2) 16).2)
 else if hasPrefix l [45] = true ∧ 0 < (digZ (l.drop 1) 10).2 then (-(digZ (l.drop 1) 10).1, 1 + (digZ (l.drop 1) 10).2)
 else digZ l 10
theorem nameZ_le (l : List UInt8) : nameZ l ≤ l.length := (nameF_le l _ 0 (Nat.zero_le _)).2
theorem digZ_le (l : List UInt8) (base : Int) : (digZ l base).2 ≤ l.length := (digF_le l base _ 0 0 (Nat.zero_le _)).2
theorem digZ_range (l : List UInt8) {base : Int} (hb : 0 ≤ base) : 0 ≤ (digZ l base).1 ∧ (digZ l base).1 ≤ 4294967297 := digF_range l base hb _ _ _ (Int.le_refl _) (by omega)
theorem prefix_len {l p : List UInt8} (h : hasPrefix l p = true) : p.length ≤ l.length := by
 unfold hasPrefix at h
 exact (List.isPrefixOf_iff_prefix.1 h).length_le
theorem numZ_le (l : List UInt8) : (numZ l).2 ≤ l.length := by
 unfold numZ
 have h1 := digZ_le (l.drop 2) 16
 have h2 := digZ_le (l.drop 1) 10
 simp only [List.length_drop] at h1 h2
 split
 ·rename_i h; have := prefix_len h.1; simp at this; simp only; omega
 split
 ·rename_i h; have := prefix_len h.1; simp at this; simp only; omega
 ·exact digZ_le l 10
theorem numZ_range (l : List UInt8) : -4294967297 ≤ (numZ l).1 ∧ (numZ l).1 ≤ 4294967297 := by
 unfold numZ
 have h1 := digZ_range (l.drop 2) (base := 16) (by omega)
 have h2 := digZ_range (l.drop 1) (base := 10) (by omega)
 have h3 := digZ_range l (base := 10) (by omega)
 split
 ·simp only; omega
 split
 ·simp only; omega
 ·omega
structure Tok where
 kind : Int
 num : Int
 at_ : Nat
 text : List UInt8
deriving DecidableEq
inductive LexR where
 | toks (t : List Tok)
 | bad (at_ : Nat) (e : Int)
deriving DecidableEq
structure LexS where
 behind : Nat
 remark : Bool
 toks : List Tok
def addZ (l : List UInt8) (kind num : Int) (p size : Nat) (x : LexS) : LexS := ⟨p + size, x.remark, x.toks ++ [⟨kind, num, p, (l.drop p).take size⟩]⟩
def lineB (t : List Tok) : Bool := match t.getLast? with | some k => decide (k.kind ≠ 4) | none => false
def lineZ (l : List UInt8) (p : Nat) (x : LexS) : LexS := if lineB x.toks = true then addZ l 4 0 p 1 x else x
def numberZ (l : List UInt8) (p : Nat) (x : LexS) : Int × LexS :=
 if (numZ (l.drop p)).2 = 0 then (5, x)
 else if (numZ (l.drop p)).1 < -4294967296 ∨ 4294967296 < (numZ (l.drop p)).1 then (8, x)
 else (0, addZ l 2 (numZ (l.drop p)).1 p (numZ (l.drop p)).2 x)
def takeZ (l : List UInt8) (p : Nat) (x : LexS) : Int × LexS :=
 if badR (l.drop p) = true then (5, x)
 else if runeR (l.drop p) = 10 then (0, lineZ l p { x with remark := false })
 else if x.remark = true ∨ blankR (runeR (l.drop p)) = true then (0, x)
 else if runeR (l.drop p) = 35 then (0, { x with remark := true })
 else if firstR (runeR (l.drop p)) = true then (0, addZ l 1 0 p (nameZ (l.drop p)) x)
 else if signR (runeR (l.drop p)) = true then (0, addZ l 3 0 p 1 x)
 else numberZ l p x
def lexF (l : List UInt8) : Nat → Nat → LexS → LexR
 | 0, _, x => .toks x.toks
 | f + 1, p, x =>
  if p < l.length then
   (if p < x.behind then lexF l f (p + wideR (l.drop p)) x
    else if (takeZ l p x).1 = 0 then lexF l f (p + wideR (l.drop p)) (takeZ l p x).2
    else .bad p (takeZ l p x).1)
  else .toks x.toks
def lexZ (l : List UInt8) : LexR := if 20000 < l.length then .bad 0 7 else lexF l l.length 0 ⟨0, false, []⟩
end Go.Proofs.YtcaibahniheohaaDoor.Words

/- Plain mathematics of chapter 2: forms of operations, which instructions may be, the word of an instruction and the instruction of a word. Nothing here speaks of one program. -/
namespace Go.Proofs.YtcaibahniheohaaDoor.Words
set_option maxRecDepth 100000
open Go.RowKit
structure Ins where
 op : Int
 d : Int
 a : Int
 b : Int
 imm : Int
deriving DecidableEq
theorem Ins.eq_iff (i k : Ins) : i = k ↔ i.op = k.op ∧ i.d = k.d ∧ i.a = k.a ∧ i.b = k.b ∧ i.imm = k.imm := by
 cases i; cases k; simp
def formZ (op : Int) : Int :=
 if op < 1 ∨ 41 < op then 0 else if op ≤ 16 then 1 else if op ≤ 24 then 2 else if op = 25 then 3 else if op ≤ 30 then 4 else if op ≤ 33 then 5 else if op ≤ 39 then 6 else if op = 40 then 7 else 8
theorem formZ_cases (op : Int) : (formZ op = 0 ∧ (op < 1 ∨ 41 < op)) ∨ (formZ op = 1 ∧ 1 ≤ op ∧ op ≤ 16) ∨ (formZ op = 2 ∧ 17 ≤ op ∧ op ≤ 24) ∨ (formZ op = 3 ∧ op = 25) ∨ (formZ op = 4 ∧ 26 ≤ op ∧ op ≤ 30) ∨
  (formZ op = 5 ∧ 31 ≤ op ∧ op ≤ 33) ∨ (formZ op = 6 ∧ 34 ≤ op ∧ op ≤ 39) ∨ (formZ op = 7 ∧ op = 40) ∨ (formZ op = 8 ∧ op = 41) := by
 unfold formZ; repeat' split
 all_goals omega
theorem formZ_range (op : Int) : 0 ≤ formZ op ∧ formZ op ≤ 8 := by
 have := formZ_cases op; omega
def hasD (f : Int) : Bool := decide (f = 1 ∨ f = 2 ∨ f = 3 ∨ f = 4)
def hasA (f : Int) : Bool := decide (f = 1 ∨ f = 2 ∨ f = 4 ∨ f = 5 ∨ f = 6)
def hasB (f : Int) : Bool := decide (f = 1 ∨ f = 5 ∨ f = 6)
def hasI (f : Int) : Bool := decide (f = 2 ∨ f = 3 ∨ f = 4 ∨ f = 5 ∨ f = 6 ∨ f = 7)
def lowI (op : Int) : Int := if op = 22 ∨ op = 23 ∨ op = 24 then 0 else -8192
def highI (op : Int) : Int := if op = 22 ∨ op = 23 ∨ op = 24 then 31 else 8191
theorem lowI_cases (op : Int) : (lowI op = 0 ∧ highI op = 31 ∧ 22 ≤ op ∧ op ≤ 24) ∨ (lowI op = -8192 ∧ highI op = 8191 ∧ (op < 22 ∨ 24 < op)) := by
 unfold lowI highI; split <;> omega
def fitsB (n lo hi : Int) (had : Bool) : Bool := if had = true then decide (lo ≤ n ∧ n ≤ hi) else decide (n = 0)
def rightB (i : Ins) : Bool :=
 decide (formZ i.op ≠ 0) && fitsB i.d 0 15 (hasD (formZ i.op)) && fitsB i.a 0 15 (hasA (formZ i.op)) && fitsB i.b 0 15 (hasB (formZ i.op)) && fitsB i.imm (lowI i.op) (highI i.op) (hasI (formZ i.op))
end Go.Proofs.YtcaibahniheohaaDoor.Words

/- Plain lemmas for walks over slices: what a slice reads as ('Row'), kept over new blocks, draws and whatever turns nothing below a block number. Nothing here speaks of one program. -/
namespace Go.Proofs.YtcaibahniheohaaDoor.Words
set_option maxRecDepth 100000
open Go.RowKit
def Row (w : World) (B size : Nat) (v : Value) (n : Nat) (xs : List Value) : Prop :=
 xs.length = n * size ∧ ∃ A c, v = .slice A n c ∧ n ≤ c ∧ c ≤ 9223372036854775807 ∧ (A = none → c = 0) ∧
  (n ≠ 0 → ∃ b off, A = some ⟨b, off, none⟩ ∧ b < B ∧ ∀ j u, xs[j]? = some u → w.cell? ⟨b, off + j, none⟩ = some u)
theorem add_spot (b off j : Nat) : (⟨b, off, none⟩ : Addr).add j = ⟨b, off + j, none⟩ := by
 unfold Addr.add
 split
 ·subst_vars; rfl
 ·rfl
section
variable {w w' : World} {B size : Nat} {v : Value} {n : Nat} {xs : List Value}
theorem Row.keep (h : Row w B size v n xs) (hk : ∀ p : Addr, p.block < B → w'.cell? p = w.cell? p) : Row w' B size v n xs := by
 obtain ⟨h0, A, c, h1, h2, h3, h4, h5⟩ := h
 refine ⟨h0, A, c, h1, h2, h3, h4, fun hn => ?_⟩
 obtain ⟨b, off, e, hb, hc⟩ := h5 hn
 exact ⟨b, off, e, hb, fun j u hu => (hk _ hb).trans (hc j u hu)⟩
theorem Row.more {B' : Nat} (h : Row w B size v n xs) (hB : B ≤ B') : Row w B' size v n xs := by
 obtain ⟨h0, A, c, h1, h2, h3, h4, h5⟩ := h
 refine ⟨h0, A, c, h1, h2, h3, h4, fun hn => ?_⟩
 obtain ⟨b, off, e, hb, hc⟩ := h5 hn
 exact ⟨b, off, e, Nat.lt_of_lt_of_le hb hB, hc⟩
theorem Row.below (h : Row w B size v n xs) (hb : Below B w w') : Row w' B size v n xs := h.keep fun _ hp => hb.cell hp
theorem Row.drewN (h : Row w B size v n xs) (k : Nat) : Row (w.drewN k) B size v n xs := h
theorem Row.drew (h : Row w B size v n xs) : Row w.drew B size v n xs := h
theorem Row.alloc (h : Row w B size v n xs) (hB : B ≤ w.heap.size) (o : Obj) : Row (w.alloc o) B size v n xs := h.keep fun p hp => World.cell?_alloc_lt w o p (by omega)
theorem Row.nil (w : World) (B size : Nat) : Row w B size (.slice none 0 0) 0 [] := ⟨by simp, none, 0, rfl, Nat.le_refl _, by omega, fun _ => rfl, fun h => absurd rfl h⟩
theorem Row.of_own {base : Nat} {e : TypeId} (h : w.ownsRow base e size v n xs) : Row w w.heap.size size v n xs := by
 refine ⟨h.1, ?_⟩
 rcases h.2 with ⟨rfl, rfl⟩ | ⟨g, cap, cur, rfl, hb, hg, h1, h2, h3, h4⟩
 ·exact ⟨none, 0, rfl, Nat.le_refl _, by omega, fun _ => rfl, fun h => absurd rfl h⟩
 ·refine ⟨_, _, rfl, h1, by simpa [maxLen] using h2, (fun h => by cases h), fun _ => ⟨g, 0, rfl, (Array.getElem?_eq_some_iff.1 hg).1, fun j u hu => ?_⟩⟩
  have := h.cells (g := g) rfl j u hu
  rwa [add_spot] at this
theorem Row.cells {A : Option Addr} {c : Nat} (h : Row w B size (.slice A n c) n xs) : ∀ ad, A = some ad → ∀ j u, xs[j]? = some u → w.cell? (ad.add j) = some u := by
 obtain ⟨h0, A', c', h1, h2, h3, h4, h5⟩ := h
 injection h1 with e1 _ e2
 subst e1 e2
 intro ad had j u hu
 by_cases hn : n = 0
 ·subst hn
  have : xs = [] := List.eq_nil_of_length_eq_zero (by simpa using h0)
  subst this
  simp at hu
 ·obtain ⟨b, off, e, hb, hc⟩ := h5 hn
  rw [had] at e
  injection e with e
  subst e
  rw [add_spot]
  exact hc j u hu
theorem Row.bare {A : Option Addr} {c : Nat} (h : Row w B size (.slice A n c) n xs) : A = none → n = 0 ∧ c = 0 := by
 obtain ⟨h0, A', c', h1, h2, h3, h4, h5⟩ := h
 injection h1 with e1 _ e2
 subst e1 e2
 intro hA
 have := h4 hA
 exact ⟨by omega, this⟩
theorem Row.cap {A : Option Addr} {c : Nat} (h : Row w B size (.slice A n c) n xs) : n ≤ c ∧ c ≤ 9223372036854775807 := by
 obtain ⟨h0, A', c', h1, h2, h3, h4, h5⟩ := h
 injection h1 with e1 _ e2
 subst e1 e2
 exact ⟨h2, h3⟩
theorem Row.len {A : Option Addr} {c : Nat} (h : Row w B size (.slice A n c) n xs) : xs.length = n * size := h.1
theorem Row.form (h : Row w B size v n xs) : ∃ A c, v = .slice A n c := by
 obtain ⟨h0, A, c, h1, _⟩ := h
 exact ⟨A, c, h1⟩
theorem Row.at_ {A : Option Addr} {c : Nat} (h : Row w B size (.slice A n c) n xs) (hn : n ≠ 0) :
  ∃ b off, A = some ⟨b, off, none⟩ ∧ b < B ∧ ∀ j u, xs[j]? = some u → w.cell? ⟨b, off + j, none⟩ = some u := by
 obtain ⟨h0, A', c', h1, h2, h3, h4, h5⟩ := h
 injection h1 with e1 _ e2
 subst e1 e2
 exact h5 hn
end
theorem new_cells (w : World) (cs : Array Value) (t : TypeId) (xs : List Value) (h : cs.toList = xs) : ∀ j u, xs[j]? = some u → (w.alloc (.cells cs t)).cell? ((⟨w.heap.size, 0, none⟩ : Addr).add j) = some u := by
 intro j u hu
 subst h
 rw [add_spot, Nat.zero_add, World.cell?_alloc_new]
 simpa using hu
theorem Below.drewN_ {B : Nat} {a w : World} (h : Below B a w) (n : Nat) : Below B a (w.drewN n) := ⟨h.os, h.tape, h.output, h.size, h.block⟩
theorem ret_int {k : IntKind} {a b : Int} (h : a = b) : Ending.returned (.int k a) = .returned (.int k b) := by rw [h]
theorem ret_bool_iff {a b : Bool} (h : a = true ↔ b = true) : Ending.returned (.bool a) = .returned (.bool b) := by rw [Bool.eq_iff_iff.2 h]
theorem ret_bool {a b : Bool} (h : a = b) : Ending.returned (.bool a) = .returned (.bool b) := by rw [h]
theorem bcell {W w1 : World} (hb : Below W.heap.size W w1) : (∀ b o, b < W.heap.size → w1.cell? ⟨b, o, none⟩ = W.cell? ⟨b, o, none⟩) ∧ (∀ b o, b < W.heap.size → w1.frozen? ⟨b, o, none⟩ = W.frozen? ⟨b, o, none⟩) :=
 ⟨fun b o h => hb.cell (p := ⟨b, o, none⟩) h, fun b o h => hb.frozen (p := ⟨b, o, none⟩) h⟩
end Go.Proofs.YtcaibahniheohaaDoor.Words

/- Programs as plain data: a program's value (two slices and a size), what its rows read as, cell by cell. Nothing here speaks of one program text. -/
namespace Go.Proofs.YtcaibahniheohaaDoor.Words
set_option maxRecDepth 100000
open Go.RowKit
def insCells (i : Ins) : List Value := [.int .i64 i.op, .int .i64 i.d, .int .i64 i.a, .int .i64 i.b, .int .i64 i.imm]
def codeCells (l : List Ins) : List Value := l.flatMap insCells
theorem codeCells_cons (i : Ins) (l : List Ins) : codeCells (i :: l) = insCells i ++ codeCells l := by simp [codeCells]
theorem codeCells_append (l m : List Ins) : codeCells (l ++ m) = codeCells l ++ codeCells m := by simp [codeCells]
theorem codeCells_at (l : List Ins) (k : Nat) (i : Ins) (h : l[k]? = some i) (j : Nat) (hj : j < 5) : (codeCells l)[k * 5 + j]? = (insCells i)[j]? := by
 induction l generalizing k with
 | nil => simp at h
 | cons x l ih =>
  rw [codeCells_cons]
  cases k with
  | zero =>
   simp at h; subst h
   rw [List.getElem?_append_left (by simp [insCells]; omega), Nat.zero_mul, Nat.zero_add]
  | succ k =>
   simp at h
   have h5 : (insCells x).length = 5 := rfl
   rw [List.getElem?_append_right (by omega), h5, show (k + 1) * 5 + j - 5 = k * 5 + j by omega]
   exact ih k h
structure Prog where
 code : List Ins
 size : Int
 data : List Int
deriving DecidableEq
theorem Prog.eq_iff (p q : Prog) : p = q ↔ p.code = q.code ∧ p.size = q.size ∧ p.data = q.data := by cases p; cases q; simp
structure ProgV (w : World) (B : Nat) (vc vd : Value) (p : Prog) : Prop where
 code : Row w B 5 vc p.code.length (codeCells p.code)
 data : Row w B 1 vd p.data.length (p.data.map (Value.int .u8))
section
variable {w w' : World} {B : Nat} {vc vd : Value} {p : Prog}
theorem ProgV.keep (h : ProgV w B vc vd p) (hk : ∀ a : Addr, a.block < B → w'.cell? a = w.cell? a) : ProgV w' B vc vd p := ⟨h.code.keep hk, h.data.keep hk⟩
theorem ProgV.more {B' : Nat} (h : ProgV w B vc vd p) (hB : B ≤ B') : ProgV w B' vc vd p := ⟨h.code.more hB, h.data.more hB⟩
theorem ProgV.below (h : ProgV w B vc vd p) (hb : Below B w w') : ProgV w' B vc vd p := ⟨h.code.below hb, h.data.below hb⟩
theorem ProgV.drewN (h : ProgV w B vc vd p) (k : Nat) : ProgV (w.drewN k) B vc vd p := ⟨h.code, h.data⟩
theorem ProgV.alloc (h : ProgV w B vc vd p) (hB : B ≤ w.heap.size) (o : Obj) : ProgV (w.alloc o) B vc vd p := ⟨h.code.alloc hB o, h.data.alloc hB o⟩
end
theorem Row.ins {w : World} {B n c : Nat} {b off : Nat} {l : List Ins} (h : Row w B 5 (.slice (some ⟨b, off, none⟩) n c) n (codeCells l)) {k : Nat} {i : Ins} (hi : l[k]? = some i) :
  w.cell? ⟨b, off + k * 5, none⟩ = some (.int .i64 i.op) ∧ w.cell? ⟨b, off + k * 5 + 1, none⟩ = some (.int .i64 i.d) ∧ w.cell? ⟨b, off + k * 5 + 2, none⟩ = some (.int .i64 i.a) ∧
  w.cell? ⟨b, off + k * 5 + 3, none⟩ = some (.int .i64 i.b) ∧ w.cell? ⟨b, off + k * 5 + 4, none⟩ = some (.int .i64 i.imm) := by
 have g : ∀ j u, j < 5 → (insCells i)[j]? = some u → w.cell? ⟨b, off + k * 5 + j, none⟩ = some u := by
  intro j u hj hu
  have := h.cells ⟨b, off, none⟩ rfl (k * 5 + j) u ((codeCells_at l k i hi j hj).trans hu)
  rwa [add_spot, ← Nat.add_assoc] at this
 exact ⟨g 0 _ (by omega) rfl, g 1 _ (by omega) rfl, g 2 _ (by omega) rfl, g 3 _ (by omega) rfl, g 4 _ (by omega) rfl⟩
def isJump (i : Ins) : Bool := decide (34 ≤ i.op ∧ i.op ≤ 40)
def targetZ (n : Nat) (k : Nat) (i : Ins) : Int :=
 if isJump i = false ∨ i.imm < -8192 ∨ 8191 < i.imm ∨ (k : Int) + i.imm < 0 ∨ (n : Int) ≤ k + i.imm then -1 else k + i.imm
theorem isJump_form (i : Ins) : isJump i = true ↔ formZ i.op = 6 ∨ formZ i.op = 7 := by
 have := formZ_cases i.op
 unfold isJump; rw [decide_eq_true_iff]; omega
def badTarget (n k : Nat) (i : Ins) : Bool := isJump i && decide (targetZ n k i < 0)
def targetsOk (n : Nat) : Nat → List Ins → Bool
 | _, [] => true
 | k, i :: l => !badTarget n k i && targetsOk n (k + 1) l
def Prog.targets (p : Prog) : Bool := targetsOk p.code.length 0 p.code
def Prog.right (p : Prog) : Bool :=
 decide (1 ≤ p.code.length ∧ p.code.length ≤ 2000 ∧ 0 ≤ p.size ∧ p.size ≤ 65536 ∧ (p.data.length : Int) ≤ p.size) && p.code.all rightB && p.targets
end Go.Proofs.YtcaibahniheohaaDoor.Words

/- Programs of tokens: plain mathematics over lists of tokens. Nothing here speaks of one program text. -/
namespace Go.Proofs.YtcaibahniheohaaDoor.Words
set_option maxRecDepth 100000
set_option linter.unusedVariables false
def regF (l : List UInt8) : Nat → Nat → Int → Option Int
 | 0, _, n => if 1 < l.length then some n else none
 | f + 1, p, n =>
  if p < l.length then
   (if p = 0 ∧ runeR (l.drop p) = 114 then regF l f (p + wideR (l.drop p)) n
    else if p = 0 ∨ runeR (l.drop p) < 48 ∨ 57 < runeR (l.drop p) ∨ (1 < p ∧ n = 0) then none
    else if 15 < n * 10 + (runeR (l.drop p) - 48) then none
    else regF l f (p + wideR (l.drop p)) (n * 10 + (runeR (l.drop p) - 48)))
  else if 1 < l.length then some n else none
def regZ (l : List UInt8) : Option Int := regF l l.length 0 0
theorem regF_range (l : List UInt8) : ∀ f p n k, 0 ≤ n → n ≤ 15 → regF l f p n = some k → 0 ≤ k ∧ k ≤ 15
 | 0, p, n, k, h0, h1, h => by unfold regF at h; split at h <;> simp at h; omega
 | f + 1, p, n, k, h0, h1, h => by
  unfold regF at h
  split at h
  ·split at h
   ·exact regF_range l f _ n k h0 h1 h
   ·split at h
    ·cases h
    ·split at h
     ·cases h
     ·rename_i h2 h3 h4
      exact regF_range l f _ _ k (by omega) (by omega) h
  ·split at h <;> simp at h; omega
theorem regZ_range {l : List UInt8} {k : Int} (h : regZ l = some k) : 0 ≤ k ∧ k ≤ 15 := regF_range l _ 0 0 k (Int.le_refl _) (by omega) h
def namesZ : List (List UInt8) := [[97, 100, 100], [115, 117, 98], [97, 110, 100], [111, 114], [120, 111, 114], [115, 108, 108], [115, 114, 108], [115, 114, 97], [115, 108, 116], [115, 108, 116, 117], [109, 117, 108], [109, 117, 108, 104], [100, 105, 118], [100, 105, 118, 117], [114, 101, 109], [114, 101, 109, 117], [97, 100, 100, 105], [97, 110, 100, 105], [111, 114, 105], [120, 111, 114, 105], [115, 108, 116, 105], [115, 108, 108, 105], [115, 114, 108, 105], [115, 114, 97, 105], [108, 117, 105], [108, 119], [108, 104], [108, 104, 117], [108, 98], [108, 98, 117], [115, 119], [115, 104], [115, 98], [98, 101, 113], [98, 110, 101], [98, 108, 116], [98, 103, 101], [98, 108, 116, 117], [98, 103, 101, 117], [106], [104, 97, 108, 116]]
def opF (t : List UInt8) : List (List UInt8) → Int → Int
 | [], _ => 0
 | n :: ns, i => if n = t then i + 1 else opF t ns (i + 1)
def opZ (t : List UInt8) : Int := opF t namesZ 0
theorem opF_range (t : List UInt8) : ∀ ns i, 0 ≤ i → 0 ≤ opF t ns i ∧ opF t ns i ≤ i + ns.length
 | [], i, h => by unfold opF; simp; omega
 | n :: ns, i, h => by
  unfold opF
  have := opF_range t ns (i + 1) (by omega)
  split
  ·simp; omega
  ·simp; omega
theorem opZ_range (t : List UInt8) : 0 ≤ opZ t ∧ opZ t ≤ 41 := opF_range t namesZ 0 (Int.le_refl _)
structure PartZ where
 kind : Int
 at_ : Nat
 num : Int
 name : List UInt8
 ins : Ins
 target : Tok
deriving DecidableEq
abbrev tok0 : Tok := ⟨0, 0, 0, []⟩
abbrev ins0 : Ins := ⟨0, 0, 0, 0, 0⟩
def headAt (r : List Tok) (e : Nat) : Nat := match r with | t :: _ => t.at_ | [] => e
def nextT (r : List Tok) (e : Nat) : Tok := match r with | t :: _ => t | [] => ⟨0, 0, e, []⟩
def isS (t : Tok) (c : List UInt8) : Bool := decide (t.kind = 3 ∧ t.text = c)
def signT (c : List UInt8) : List Tok → Bool × List Tok
 | t :: ts => if isS t c = true then (true, ts) else (false, t :: ts)
 | [] => (false, [])
def immT : List Tok → Option Int × List Tok
 | t :: ts => if t.kind = 2 then (some t.num, ts) else (none, t :: ts)
 | [] => (none, [])
def regT : List Tok → Option Int × List Tok
 | t :: ts => match regZ t.text with | some n => (some n, ts) | none => (none, t :: ts)
 | [] => (none, [])
def fieldT (c : Int) (x : PartZ) (r : List Tok) : Bool × PartZ × List Tok :=
 if c = 68 then (match regT r with | (some n, ts) => (true, { x with ins := { x.ins with d := n } }, ts) | (none, ts) => (false, x, ts))
 else if c = 65 then (match regT r with | (some n, ts) => (true, { x with ins := { x.ins with a := n } }, ts) | (none, ts) => (false, x, ts))
 else if c = 66 then (match regT r with | (some n, ts) => (true, { x with ins := { x.ins with b := n } }, ts) | (none, ts) => (false, x, ts))
 else if c = 78 then (match immT r with | (some n, ts) => (true, { x with ins := { x.ins with imm := n } }, ts) | (none, ts) => (false, x, ts))
 else if c = 84 then (match r with
  | t :: ts => if t.kind = 1 then (true, { x with target := t }, ts) else (match immT (t :: ts) with | (some n, ts) => (true, { x with ins := { x.ins with imm := n } }, ts) | (none, ts) => (false, x, ts))
  | [] => (false, x, []))
 else ((signT [UInt8.ofNat c.toNat] r).1, x, (signT [UInt8.ofNat c.toNat] r).2)
def fieldsT : List UInt8 → PartZ → List Tok → Bool × PartZ × List Tok
 | [], x, r => (true, x, r)
 | c :: cs, x, r => if (fieldT c.toNat x r).1 = true then fieldsT cs (fieldT c.toNat x r).2.1 (fieldT c.toNat x r).2.2 else fieldT c.toNat x r
def shapesZ : List (List UInt8) := [[], [68, 44, 65, 44, 66], [68, 44, 65, 44, 78], [68, 44, 78], [68, 44, 78, 40, 65, 41], [66, 44, 78, 40, 65, 41], [65, 44, 66, 44, 84], [84], []]
def shapeZ (op : Int) : List UInt8 := shapesZ.getD (formZ op).toNat []
def insT (op : Int) (at_ : Nat) (r : List Tok) : Bool × List Tok × List PartZ :=
 if (fieldsT (shapeZ op) ⟨2, at_, 0, [], ⟨op, 0, 0, 0, 0⟩, tok0⟩ r).1 = true then
  (true, (fieldsT (shapeZ op) ⟨2, at_, 0, [], ⟨op, 0, 0, 0, 0⟩, tok0⟩ r).2.2, [(fieldsT (shapeZ op) ⟨2, at_, 0, [], ⟨op, 0, 0, 0, 0⟩, tok0⟩ r).2.1])
 else (false, (fieldsT (shapeZ op) ⟨2, at_, 0, [], ⟨op, 0, 0, 0, 0⟩, tok0⟩ r).2.2, [])
def numT (kind : Int) : List Tok → Bool × List Tok × List PartZ
 | t :: ts => if t.kind = 2 then (true, ts, [⟨kind, t.at_, t.num, [], ins0, tok0⟩]) else (false, t :: ts, [])
 | [] => (false, [], [])
def byteF : Nat → Bool → List Tok → Bool × List Tok × List PartZ
 | 0, ok, r => (ok, r, [])
 | f + 1, ok, r =>
  if ok = true then
   (if (signT [44] r).1 = true then
    ((byteF f (numT 4 (signT [44] r).2).1 (numT 4 (signT [44] r).2).2.1).1, (byteF f (numT 4 (signT [44] r).2).1 (numT 4 (signT [44] r).2).2.1).2.1,
     (numT 4 (signT [44] r).2).2.2 ++ (byteF f (numT 4 (signT [44] r).2).1 (numT 4 (signT [44] r).2).2.1).2.2)
    else (true, r, []))
  else (false, r, [])
def bytesT (r : List Tok) : Bool × List Tok × List PartZ :=
 ((byteF r.length (numT 4 r).1 (numT 4 r).2.1).1, (byteF r.length (numT 4 r).1 (numT 4 r).2.1).2.1, (numT 4 r).2.2 ++ (byteF r.length (numT 4 r).1 (numT 4 r).2.1).2.2)
def labelT : List Tok → Option (PartZ × List Tok)
 | n :: c :: ts => if n.kind = 1 ∧ isS c [58] = true then some (⟨1, n.at_, 0, n.text, ins0, tok0⟩, ts) else none
 | _ => none
def labelsF : Nat → List Tok → List Tok × List PartZ
 | 0, r => (r, [])
 | f + 1, r => match labelT r with
  | some (p, ts) => ((labelsF f ts).1, p :: (labelsF f ts).2)
  | none => (r, [])
def sizeN : List UInt8 := [115, 105, 122, 101]
def byteN : List UInt8 := [98, 121, 116, 101]
def stmtT : List Tok → Bool × List Tok × List PartZ
 | t :: ts =>
  if t.kind ≠ 1 then (true, t :: ts, [])
  else if 0 < opZ t.text then insT (opZ t.text) t.at_ ts
  else if t.text = sizeN then numT 3 ts
  else if t.text = byteN then bytesT ts
  else (false, t :: ts, [])
 | [] => (true, [], [])
def endT : List Tok → Bool × List Tok
 | t :: ts => if t.kind = 4 then (true, ts) else (false, t :: ts)
 | [] => (true, [])
def lineT (r : List Tok) : Bool × List Tok × List PartZ :=
 if (stmtT (labelsF r.length r).1).1 = true then
  ((endT (stmtT (labelsF r.length r).1).2.1).1, (endT (stmtT (labelsF r.length r).1).2.1).2, (labelsF r.length r).2 ++ (stmtT (labelsF r.length r).1).2.2)
 else (false, (stmtT (labelsF r.length r).1).2.1, (labelsF r.length r).2 ++ (stmtT (labelsF r.length r).1).2.2)
def textF : Nat → List Tok → Bool × List Tok × List PartZ
 | 0, r => (true, r, [])
 | f + 1, r =>
  if r = [] then (true, [], [])
  else if (lineT r).1 = true then ((textF f (lineT r).2.1).1, (textF f (lineT r).2.1).2.1, (lineT r).2.2 ++ (textF f (lineT r).2.1).2.2)
  else lineT r
def textT (r : List Tok) : Bool × List Tok × List PartZ := textF r.length r
def placeF (name : List UInt8) : List PartZ → Int → Option Int
 | [], _ => none
 | x :: xs, n => if x.kind = 1 ∧ x.name = name then some n else placeF name xs (if x.kind = 2 then n + 1 else n)
def hasL (name : List UInt8) (l : List PartZ) : Bool := l.any (fun y => decide (y.kind = 1 ∧ y.name = name))
inductive AsmR where
 | ok (p : Prog)
 | bad (at_ : Nat) (e : Int)
deriving DecidableEq
def aimZ (all : List PartZ) (x : PartZ) (n : Nat) : Option Ins :=
 if x.target.kind = 1 then (match placeF x.target.text all 0 with | some k => some { x.ins with imm := k - n } | none => none) else some x.ins
def layF (all : List PartZ) : List PartZ → List PartZ → Prog → AsmR
 | _, [], p => .ok p
 | pre, x :: xs, p =>
  if x.kind = 1 then (if hasL x.name pre = true then .bad x.at_ 6 else layF all (pre ++ [x]) xs p)
  else if x.kind = 3 then layF all (pre ++ [x]) xs { p with size := x.num }
  else if x.kind = 4 then (if x.num < 0 ∨ 255 < x.num then .bad x.at_ 8 else layF all (pre ++ [x]) xs { p with data := p.data ++ [x.num] })
  else if x.kind = 2 then (match aimZ all x p.code.length with
   | none => .bad x.target.at_ 6
   | some i => if rightB i = true then layF all (pre ++ [x]) xs { p with code := p.code ++ [i] } else .bad x.at_ 8)
  else layF all (pre ++ [x]) xs p
end Go.Proofs.YtcaibahniheohaaDoor.Words

/- The library's tables that a text's splitting reads, kept; contracts of package lex's small functions. -/
namespace Go.Proofs.YtcaibahniheohaaDoor.Words
set_option maxRecDepth 100000
open Go.RowKit Go.Shelf Go.Lib
set_option linter.unusedVariables false
def Tabs (w : World) : Prop := Lib.TabIs Tryd.prog w "unicode.properties" .u8 Lib.propertiesTab ∧ RVar 1 letterT w ∧ Lib.Utf8Tabs 4 5 w
theorem Tabs.below {w w' : World} (h : Tabs w) (hb : Below w.heap.size w w') : Tabs w' :=
 ⟨TabIs_below (g := 0) (by kernel_rfl) h.1 hb, RVar_below h.2.1 hb, Utf8Tabs_below h.2.2 hb⟩
def TabsB (B : Nat) (w : World) : Prop := ∀ x, Below B w x → Tabs x
theorem TabsB.now {B : Nat} {w : World} (h : TabsB B w) : Tabs w := h w (Below.refl _ _)
theorem TabsB.go {B : Nat} {w w' : World} (h : TabsB B w) (hb : Below B w w') : TabsB B w' := fun x hx => h x (hb.trans hx)
theorem Tabs.all {w : World} (h : Tabs w) : TabsB w.heap.size w := fun x hx => h.below hx
theorem isLetter_any (r : Int) (w : World) (hr : -2147483648 ≤ r ∧ r ≤ 2147483647) (hT : Tabs w) :
  Calls Tryd.prog 66 #[.int .i32 r] w fun e w' => e = .returned (.bool (isLetterU r)) ∧ Below w.heap.size w w' :=
 Tryd.unicode_IsLetter_all r w hr.1 hr.2 hT.1 hT.2.1
theorem isBlank_any (r : Int) (w : World) : Calls Tryd.prog 51 #[.int .i32 r] w fun e w' => e = .returned (.bool (blankR r)) ∧ w = w' := by
 by_cases h1 : r = 32
 ·subst h1
  go_enter Tryd.func51, Tryd.ntmps51
  go_wp2
  go_ret
  exact ⟨rfl, rfl⟩
 have k1 : (r == 32) = false := by simpa using h1
 by_cases h2 : r = 9
 ·subst h2
  go_enter Tryd.func51, Tryd.ntmps51
  go_wp2
  go_ret
  exact ⟨rfl, rfl⟩
 have k2 : (r == 9) = false := by simpa using h2
 have hb : blankR r = (r == 13) := by unfold blankR; rw [Bool.eq_iff_iff]; simp [h1, h2]
 have HB := Lib.hid hb
 clear h1 h2 hb
 go_enter Tryd.func51, Tryd.ntmps51
 go_wp2
 go_ret
 exact ⟨ret_bool HB.out.symm, rfl⟩
theorem isSign_any (r : Int) (w : World) : Calls Tryd.prog 55 #[.int .i32 r] w fun e w' => e = .returned (.bool (signR r)) ∧ w = w' := by
 by_cases h1 : r = 44
 ·subst h1
  go_enter Tryd.func55, Tryd.ntmps55
  go_wp2
  go_ret
  exact ⟨rfl, rfl⟩
 have k1 : (r == 44) = false := by simpa using h1
 by_cases h2 : r = 58
 ·subst h2
  go_enter Tryd.func55, Tryd.ntmps55
  go_wp2
  go_ret
  exact ⟨rfl, rfl⟩
 have k2 : (r == 58) = false := by simpa using h2
 by_cases h3 : r = 40
 ·subst h3
  go_enter Tryd.func55, Tryd.ntmps55
  go_wp2
  go_ret
  exact ⟨rfl, rfl⟩
 have k3 : (r == 40) = false := by simpa using h3
 have hb : signR r = (r == 41) := by unfold signR; rw [Bool.eq_iff_iff]; simp [h1, h2, h3]
 have HB := Lib.hid hb
 clear h1 h2 h3 hb
 go_enter Tryd.func55, Tryd.ntmps55
 go_wp2
 go_ret
 exact ⟨ret_bool HB.out.symm, rfl⟩
theorem digit_any (r : Int) (w : World) (hr : -2147483648 ≤ r ∧ r ≤ 2147483647) : Calls Tryd.prog 74 #[.int .i32 r] w fun e w' => e = .returned (.int .i64 (digR r)) ∧ w = w' := by
 obtain ⟨r0, r1⟩ := hr
 go_enter Tryd.func74, Tryd.ntmps74
 go_wp2
 all_goals first
  | (exfalso; omega)
  | (go_ret; exact ⟨ret_int (by unfold digR; repeat' split; all_goals omega), rfl⟩)
theorem isFirst_any (r : Int) (w : World) (hr : -2147483648 ≤ r ∧ r ≤ 2147483647) (hT : Tabs w) :
  Calls Tryd.prog 52 #[.int .i32 r] w fun e w' => e = .returned (.bool (firstR r)) ∧ Below w.heap.size w w' := by
 have cL := isLetter_any r w hr hT
 have HF := Lib.hid (show firstR r = (isLetterU r || decide (r = 95)) from rfl)
 clear hT
 cases hl : isLetterU r
 ·rw [hl] at cL HF
  have k : (r == 95) = decide (r = 95) := by rw [Bool.eq_iff_iff]; simp
  have HK := Lib.hid k
  clear k hl
  go_enter Tryd.func52, Tryd.ntmps52
  go_wp2_with (go_at_call 66; refine cL.mono ?_; rintro e w1 ⟨rfl, hb⟩)
  go_ret
  exact ⟨ret_bool (by rw [HF.out, HK.out]; rfl), hb⟩
 ·rw [hl] at cL HF
  clear hl
  go_enter Tryd.func52, Tryd.ntmps52
  go_wp2_with (go_at_call 66; refine cL.mono ?_; rintro e w1 ⟨rfl, hb⟩)
  go_ret
  exact ⟨ret_bool (by rw [HF.out]; rfl), hb⟩
theorem isBroken_any (s : ByteArray) (r : Int) (w : World) (hs : s.data.toList ≠ []) (hT : Tabs w) (hr : r = runeR s.data.toList) :
  Calls Tryd.prog 49 #[.string s, .int .i32 r] w fun e w' => e = .returned (.bool (badR s.data.toList)) ∧ Below w.heap.size w w' := by
 have cD := Tryd.utf8_DecodeRuneInString s w hT.2.2
 have h0 : s.size ≠ 0 := fun e => hs (List.eq_nil_of_length_eq_zero (by rw [← Lib.size_eq]; exact e))
 have hd : Lib.decodeGo s = decodeL s.data.toList := by
  unfold Lib.decodeGo
  rw [if_neg h0]
  have := Lib.decodeL_drop s 0
  rw [List.drop_zero] at this
  exact this.symm
 rw [hd] at cD
 have hB := Lib.hid (show badR s.data.toList = (decide (runeR s.data.toList = 65533) && decide (wideR s.data.toList = 1)) by unfold badR; rw [Bool.decide_and])
 rw [← hr] at hB
 obtain ⟨k, hk⟩ : ∃ k : Nat, k = wideR s.data.toList := ⟨_, rfl⟩
 have cD' : Calls Tryd.prog 72 #[.string s] w fun e w' => e = .returned (.tuple #[.int .i32 (runeR s.data.toList), .int .i64 (k : Int)]) ∧ Below w.heap.size w w' := by rw [hk]; exact cD
 rw [← hk] at hB
 clear cD hT hd h0 hs hk
 by_cases h1 : r = 65533
 ·have k1 : (r == 65533) = true := by simpa using h1
  have hB2 : Hid (badR s.data.toList = ((k : Int) == 1)) := by
   show _ = _
   rw [hB.out, decide_eq_true h1, Bool.true_and, Bool.eq_iff_iff]; simp; omega
  clear h1 hr
  go_enter Tryd.func49, Tryd.ntmps49
  go_wp2_with (go_at_call 72; refine cD'.mono ?_; rintro e w1 ⟨rfl, hb⟩)
  go_ret
  exact ⟨ret_bool hB2.out.symm, hb⟩
 ·have k1 : (r == 65533) = false := by simpa using h1
  have hB2 : Hid (badR s.data.toList = false) := by show _ = _; rw [hB.out, decide_eq_false h1]; rfl
  clear h1 hr
  go_enter Tryd.func49, Tryd.ntmps49
  go_wp2_with (go_at_call 72; refine cD'.mono ?_; rintro e w1 ⟨rfl, hb⟩)
  go_ret
  exact ⟨ret_bool hB2.out.symm, hb⟩
end Go.Proofs.YtcaibahniheohaaDoor.Words

/- Contracts of package lex's loops over a text: the name, the digits and the number that it begins with. -/
namespace Go.Proofs.YtcaibahniheohaaDoor.Words
set_option maxRecDepth 100000
open Go.RowKit Go.Shelf Go.Lib
set_option linter.unusedVariables false
theorem next_rune {P : Program} {wr : World} {k : Nat} {s : ByteArray} {pos : Nat} (hk : wr.heap[k]? = some (.stringIter s pos)) (h : pos < s.size) (ty : TypeId) :
  (Instr.next (.pointer (some ⟨k, 0, none⟩)) true ty).run P wr = .ok (.tuple #[.bool true, .int .i64 (pos : Int), .int .i32 (runeR (s.data.toList.drop pos))]) (wr.iterAt k s (pos + wideR (s.data.toList.drop pos))) := by
 have := Lib.run_next_any_at (P := P) wr k s pos ty hk h
 rw [← Lib.decodeL_drop] at this
 exact this
theorem next_none {P : Program} {wr : World} {k : Nat} {s : ByteArray} {pos : Nat} (hk : wr.heap[k]? = some (.stringIter s pos)) (h : ¬ pos < s.size) (ty : TypeId) :
  (Instr.next (.pointer (some ⟨k, 0, none⟩)) true ty).run P wr = .ok (.tuple #[.bool false]) wr := Lib.run_next_end_at wr k s pos ty hk h
theorem data_len (s : ByteArray) : s.data.toList.length = s.size := (Lib.size_eq s).symm
theorem i32_rune (r : Int) (h : 0 ≤ r ∧ r ≤ 1114111) : -2147483648 ≤ r ∧ r ≤ 2147483647 := by omega
set_option maxHeartbeats 1000000 in
theorem nameSize_any (s : ByteArray) (w : World) (hs : s.size ≤ 9223372036854775807) (hT : Tabs w) :
  Calls Tryd.prog 54 #[.string s] w fun e w' => e = .returned (.int .i64 (nameZ s.data.toList : Nat)) ∧ Below w.heap.size w w' := by
 have HT := Lib.hid hT.all
 have HL := Lib.hid (data_len s)
 obtain ⟨l, hl⟩ : ∃ l, l = s.data.toList := ⟨_, rfl⟩
 rw [← hl] at HL ⊢
 have HS := Lib.hid hl
 obtain ⟨Z, hZ⟩ : ∃ Z, Z = nameZ l := ⟨_, rfl⟩
 rw [← hZ]
 have HZ := Lib.hid hZ
 clear hT hZ hl
 go_enter Tryd.func54, Tryd.ntmps54
 go_wp2
 go_loopw [] (fun wr => ∃ (pos fuel : Nat), wr.heap[w.heap.size]? = some (.stringIter s pos) ∧ Below w.heap.size w wr ∧ nameF l fuel pos = Z ∧ l.length ≤ pos + fuel ∧ pos ≤ l.length) (fun wr => s.size - wr.iterPos w.heap.size)
 case atStart =>
  exact ⟨0, l.length, World.iter_heap w s 0, (Below.refl _ w).alloc (Nat.le_refl _) _, HZ.out.symm, by omega, Nat.zero_le _⟩
 case round =>
  obtain ⟨pos, fuel, hit, hbw, hn, hf, hp⟩ := hrel
  have HIT := Lib.hid hit
  have HN := Lib.hid hn
  have hsz : w.heap.size < wr.heap.size := (Array.getElem?_eq_some_iff.1 hit).1
  have hll := HL.out
  by_cases hlt : pos < s.size
  ·have hnx := fun ty => next_rune (P := Tryd.prog) hit hlt ty
   rw [← HS.out] at hnx
   obtain ⟨f, rfl⟩ : ∃ f, fuel = f + 1 := ⟨fuel - 1, by omega⟩
   have HR := Lib.hid (runeR_range (l.drop pos))
   have HWD := Lib.hid (wideR_pos (l.drop pos))
   have HWI := Lib.hid (wide_in (l := l) (p := pos) (by omega))
   have HST : Hid (nameF l (f + 1) pos = if nameR (runeR (l.drop pos)) then nameF l f (pos + wideR (l.drop pos)) else pos) := by
    show _ = _
    conv => lhs; unfold nameF
    rw [if_pos (by omega)]
   generalize runeR (l.drop pos) = R at *
   generalize wideR (l.drop pos) = WD at *
   have hit2 := Lib.iterAt_heap wr w.heap.size s pos (pos + WD) hit
   have HIT2 := Lib.hid hit2
   have hbw2 := Lib.below_iterAt hbw (k := w.heap.size) (Nat.le_refl _) s (pos + WD)
   have HBW2 := Lib.hid hbw2
   have hsz2 : (wr.iterAt w.heap.size s (pos + WD)).heap.size = wr.heap.size := Lib.iterAt_size _ _ _ _
   have HT2 := Lib.hid (HT.out.go hbw2).now
   have HSZ2 := Lib.hid hsz2
   clear hit hn hit2 hbw2 hsz2 hbw
   have cF : Calls Tryd.prog 52 #[.int .i32 R] (wr.iterAt w.heap.size s (pos + WD)) _ := isFirst_any R _ (i32_rune R HR.out) HT2.out
   cases hfr : firstR R
   ·rw [hfr] at cF
    have cD := fun y => digit_any R y (i32_rune R HR.out)
    by_cases hd : digR R < 10
    ·have hq : decide (10 ≤ digR R) = false := decide_eq_false (by omega)
     have hnm : Hid (nameR R = true) := by show _ = _; unfold nameR; rw [hfr, decide_eq_true hd]; rfl
     generalize digR R = dR at *
     clear hfr
     go_wp2_with (first
      | (go_at_call 52; refine cF.mono ?_; rintro e w1 ⟨rfl, hb⟩)
      | (go_at_call 74; refine (cD _).mono ?_; rintro e w2 ⟨rfl, rfl⟩))
     have hit3 : w1.heap[w.heap.size]? = some (.stringIter s (pos + WD)) := (hb.block _ (by rw [HSZ2.out]; exact hsz)).trans HIT2.out
     go_roundw
     case rel => exact ⟨pos + WD, f, hit3, HBW2.out.trans (hb.mono (by rw [HSZ2.out]; omega)), by rw [← HN.out, HST.out, hnm.out]; rfl, by have := HWD.out; omega, HWI.out⟩
     case measure =>
      simp only [World.iterPos, hit3, HIT.out]
      have := HWD.out; omega
    ·have hq : decide (10 ≤ digR R) = true := decide_eq_true (by omega)
     have hnm : Hid (nameR R = false) := by show _ = _; unfold nameR; rw [hfr, decide_eq_false hd]; rfl
     generalize digR R = dR at *
     clear hfr
     go_wp2_with (first
      | (go_at_call 52; refine cF.mono ?_; rintro e w1 ⟨rfl, hb⟩)
      | (go_at_call 74; refine (cD _).mono ?_; rintro e w2 ⟨rfl, rfl⟩))
     go_ret
     exact ⟨ret_int (by rw [← HN.out, HST.out, hnm.out]; rfl), HBW2.out.trans (hb.mono (by rw [HSZ2.out]; omega))⟩
   ·rw [hfr] at cF
    have hnm : Hid (nameR R = true) := by show _ = _; unfold nameR; rw [hfr]; rfl
    clear hfr
    go_wp2_with (go_at_call 52; refine cF.mono ?_; rintro e w1 ⟨rfl, hb⟩)
    have hit3 : w1.heap[w.heap.size]? = some (.stringIter s (pos + WD)) := (hb.block _ (by rw [HSZ2.out]; exact hsz)).trans HIT2.out
    go_roundw
    case rel => exact ⟨pos + WD, f, hit3, HBW2.out.trans (hb.mono (by rw [HSZ2.out]; omega)), by rw [← HN.out, HST.out, hnm.out]; rfl, by have := HWD.out; omega, HWI.out⟩
    case measure =>
     simp only [World.iterPos, hit3, HIT.out]
     have := HWD.out; omega
  ·have hnx := fun ty => next_none (P := Tryd.prog) hit hlt ty
   have hres : Hid (Z = s.size) := by
    show _ = _
    rw [← hn]
    cases fuel with
    | zero => unfold nameF; omega
    | succ f => unfold nameF; rw [if_neg (by omega)]; omega
   clear hn hit
   go_wp2
   go_ret
   exact ⟨ret_int (by rw [hres.out]), hbw⟩
set_option maxHeartbeats 1000000 in
theorem digitsOf_any (s : ByteArray) (base : Int) (w : World) (hs : s.size ≤ 9223372036854775807) (hb : 10 ≤ base ∧ base ≤ 16) :
  Calls Tryd.prog 95 #[.string s, .int .i64 base] w fun e w' => e = .returned (.tuple #[.int .i64 (digZ s.data.toList base).1, .int .i64 ((digZ s.data.toList base).2 : Nat)]) ∧ Below w.heap.size w w' := by
 have HL := Lib.hid (data_len s)
 obtain ⟨l, hl⟩ : ∃ l, l = s.data.toList := ⟨_, rfl⟩
 rw [← hl] at HL ⊢
 have HS := Lib.hid hl
 obtain ⟨Z1, hZ1⟩ : ∃ Z, Z = (digZ l base).1 := ⟨_, rfl⟩
 obtain ⟨Z2, hZ2⟩ : ∃ Z, Z = (digZ l base).2 := ⟨_, rfl⟩
 have HZ : Hid (digZ l base = (Z1, Z2)) := by rw [hZ1, hZ2]; exact rfl
 rw [← hZ1, ← hZ2]
 obtain ⟨b0, b1⟩ := hb
 clear hZ1 hZ2 hl
 go_enter Tryd.func95, Tryd.ntmps95
 go_wp2
 go_loopw [6] (fun q wr => ∃ (pos fuel : Nat) (n : Int), q = .int .i64 n ∧ wr.heap[w.heap.size]? = some (.stringIter s pos) ∧ Below w.heap.size w wr ∧ digF l base fuel pos n = (Z1, Z2) ∧ l.length ≤ pos + fuel ∧ pos ≤ l.length ∧ 0 ≤ n ∧ n ≤ 4294967297) (fun _ wr => s.size - wr.iterPos w.heap.size)
 case atStart =>
  exact ⟨0, l.length, 0, rfl, World.iter_heap w s 0, (Below.refl _ w).alloc (Nat.le_refl _) _, HZ.out, by omega, Nat.zero_le _, Int.le_refl _, by omega⟩
 case round =>
  obtain ⟨pos, fuel, n, rfl, hit, hbw, hn, hf, hp, n0, n1⟩ := hrel
  have HIT := Lib.hid hit
  have HN := Lib.hid hn
  have hsz : w.heap.size < wr.heap.size := (Array.getElem?_eq_some_iff.1 hit).1
  have hll := HL.out
  by_cases hlt : pos < s.size
  ·have hnx := fun ty => next_rune (P := Tryd.prog) hit hlt ty
   rw [← HS.out] at hnx
   obtain ⟨f, rfl⟩ : ∃ f, fuel = f + 1 := ⟨fuel - 1, by omega⟩
   have HR := Lib.hid (runeR_range (l.drop pos))
   have HWD := Lib.hid (wideR_pos (l.drop pos))
   have HWI := Lib.hid (wide_in (l := l) (p := pos) (by omega))
   have HST : Hid (digF l base (f + 1) pos n = if base ≤ digR (runeR (l.drop pos)) then (n, pos) else digF l base f (pos + wideR (l.drop pos)) (min (n * base + digR (runeR (l.drop pos))) 4294967297)) := by
    show _ = _
    conv => lhs; unfold digF
    rw [if_pos (by omega)]
   generalize runeR (l.drop pos) = R at *
   generalize wideR (l.drop pos) = WD at *
   have hit2 := Lib.iterAt_heap wr w.heap.size s pos (pos + WD) hit
   have HIT2 := Lib.hid hit2
   have HBW2 := Lib.hid (Lib.below_iterAt hbw (k := w.heap.size) (Nat.le_refl _) s (pos + WD))
   have cD := fun y => digit_any R y (i32_rune R HR.out)
   have hdr := digR_range R
   generalize digR R = dR at *
   clear hit hn hit2 hbw
   by_cases hd : base ≤ dR
   ·have hq : decide (base ≤ dR) = true := decide_eq_true hd
    go_wp2_with (go_at_call 74; refine (cD _).mono ?_; rintro e w2 ⟨rfl, rfl⟩)
    have hz : (n, pos) = (Z1, Z2) := by rw [← HN.out, HST.out, if_pos hd]
    injection hz with hz1 hz2
    go_ret2
    exact ⟨by subst hz1 hz2; rfl, HBW2.out⟩
   ·have hq : decide (base ≤ dR) = false := decide_eq_false hd
    have hnb : 0 ≤ n * base := Int.mul_nonneg n0 (by omega)
    have hnb2 : n * base ≤ 4294967297 * 16 := by
     have h1 : n * base ≤ n * 16 := Int.mul_le_mul_of_nonneg_left b1 n0
     omega
    have hw1 : wrap64 (n * base) = n * base := IntWalk.wrap64_in _ (by omega)
    have hw2 : wrap64 (n * base + dR) = n * base + dR := IntWalk.wrap64_in _ (by omega)
    have HM := Lib.hid (show 0 ≤ min (n * base + dR) 4294967297 ∧ min (n * base + dR) 4294967297 ≤ 4294967297 by omega)
    have HD := Lib.hid hd
    clear hnb hnb2
    go_wp2_with (go_at_call 74; refine (cD _).mono ?_; rintro e w2 ⟨rfl, rfl⟩)
    clear hw1 hw2
    go_roundw
    case rel => exact ⟨pos + WD, f, _, rfl, HIT2.out, HBW2.out, by rw [← HN.out, HST.out, if_neg (show ¬ base ≤ dR by have := HD.out; omega)], by have := HWD.out; omega, HWI.out, HM.out.1, HM.out.2⟩
    case measure =>
     simp only [World.iterPos, HIT2.out, HIT.out]
     have := HWD.out; omega
  ·have hnx := fun ty => next_none (P := Tryd.prog) hit hlt ty
   have hres : (n, pos) = (Z1, Z2) := by
    rw [← hn]
    cases fuel with
    | zero => rfl
    | succ f => unfold digF; rw [if_neg (by omega)]
   injection hres with hz1 hz2
   clear hn hit
   go_wp2
   go_ret2
   exact ⟨by subst hz1; rw [← hz2, show pos = s.size by omega]; rfl, hbw⟩
theorem cut_any (s p : ByteArray) (w : World) : Calls Tryd.prog 94 #[.string s, .string p] w fun e w' => e = .returned (.tuple #[.string ⟨(Lib.trimPrefix s.data.toList p.data.toList).toArray⟩, .bool (Lib.hasPrefix s.data.toList p.data.toList)]) ∧ w = w' :=
 (Tryd.strings_CutPrefix s p w).mono fun _ _ h => ⟨h.1, h.2.symm⟩
theorem trim_len (l p : List UInt8) : (Lib.trimPrefix l p).length ≤ l.length := by
 unfold Lib.trimPrefix
 split
 ·simp
 ·exact Nat.le_refl _
theorem numZ_1 {l : List UInt8} (h : hasPrefix l [48, 120] = true) (h2 : 0 < (digZ (trimPrefix l [48, 120]) 16).2) : numZ l = ((digZ (trimPrefix l [48, 120]) 16).1, 2 + (digZ (trimPrefix l [48, 120]) 16).2) := by
 have e : trimPrefix l [48, 120] = l.drop 2 := by unfold trimPrefix; rw [if_pos h]; rfl
 rw [e] at h2 ⊢
 unfold numZ
 rw [if_pos ⟨h, h2⟩]
theorem numZ_0 {l : List UInt8} (h : hasPrefix l [48, 120] = false ∨ (digZ (trimPrefix l [48, 120]) 16).2 = 0) : ¬ (hasPrefix l [48, 120] = true ∧ 0 < (digZ (l.drop 2) 16).2) := by
 rintro ⟨h1, h2⟩
 have e : trimPrefix l [48, 120] = l.drop 2 := by unfold trimPrefix; rw [if_pos h1]; rfl
 rw [h1, e] at h
 rcases h with h | h
 ·cases h
 ·omega
theorem numZ_2 {l : List UInt8} (h0 : hasPrefix l [48, 120] = false ∨ (digZ (trimPrefix l [48, 120]) 16).2 = 0) (h : hasPrefix l [45] = true) (h2 : 0 < (digZ (trimPrefix l [45]) 10).2) : numZ l = (-(digZ (trimPrefix l [45]) 10).1, 1 + (digZ (trimPrefix l [45]) 10).2) := by
 have e : trimPrefix l [45] = l.drop 1 := by unfold trimPrefix; rw [if_pos h]; rfl
 rw [e] at h2 ⊢
 unfold numZ
 rw [if_neg (numZ_0 h0), if_pos ⟨h, h2⟩]
theorem numZ_3 {l : List UInt8} (h0 : hasPrefix l [48, 120] = false ∨ (digZ (trimPrefix l [48, 120]) 16).2 = 0) (h : hasPrefix l [45] = false ∨ (digZ (trimPrefix l [45]) 10).2 = 0) : numZ l = digZ l 10 := by
 unfold numZ
 rw [if_neg (numZ_0 h0), if_neg]
 rintro ⟨h1, h2⟩
 have e : trimPrefix l [45] = l.drop 1 := by unfold trimPrefix; rw [if_pos h1]; rfl
 rw [h1, e] at h
 rcases h with h | h
 ·cases h
 ·omega
set_option maxHeartbeats 2000000 in
theorem numberOf_any (s : ByteArray) (w : World) (hs : s.size ≤ 9223372036854775800) :
  Calls Tryd.prog 75 #[.string s] w fun e w' => e = .returned (.tuple #[.int .i64 (numZ s.data.toList).1, .int .i64 ((numZ s.data.toList).2 : Nat)]) ∧ Below w.heap.size w w' := by
 have hl := data_len s
 have t1 := trim_len s.data.toList [48, 120]
 have t2 := trim_len s.data.toList [45]
 have c1 := fun y => cut_any s ⟨#[48, 120]⟩ y
 have c2 := fun y => cut_any s ⟨#[45]⟩ y
 have d1 := fun y => digitsOf_any ⟨(Lib.trimPrefix s.data.toList [48, 120]).toArray⟩ 16 y (by rw [← data_len]; show (Lib.trimPrefix s.data.toList [48, 120]).length ≤ _; omega) (by omega)
 have d2 := fun y => digitsOf_any ⟨(Lib.trimPrefix s.data.toList [45]).toArray⟩ 10 y (by rw [← data_len]; show (Lib.trimPrefix s.data.toList [45]).length ≤ _; omega) (by omega)
 have d3 := fun y => digitsOf_any s 10 y (by omega) (by omega)
 have n1 := fun h h2 => numZ_1 (l := s.data.toList) h h2
 have n2 := fun h0 h h2 => numZ_2 (l := s.data.toList) h0 h h2
 have n3 := fun h0 h => numZ_3 (l := s.data.toList) h0 h
 have r1 := digZ_range (Lib.trimPrefix s.data.toList [48, 120]) (base := 16) (by omega)
 have r2 := digZ_range (Lib.trimPrefix s.data.toList [45]) (base := 10) (by omega)
 have l1 := digZ_le (Lib.trimPrefix s.data.toList [48, 120]) 16
 have l2 := digZ_le (Lib.trimPrefix s.data.toList [45]) 10
 change ∀ y, Calls Tryd.prog 94 #[.string s, .string ⟨#[48, 120]⟩] y fun e w' => e = .returned (.tuple #[.string ⟨(Lib.trimPrefix s.data.toList [48, 120]).toArray⟩, .bool (Lib.hasPrefix s.data.toList [48, 120])]) ∧ y = w' at c1
 change ∀ y, Calls Tryd.prog 94 #[.string s, .string ⟨#[45]⟩] y fun e w' => e = .returned (.tuple #[.string ⟨(Lib.trimPrefix s.data.toList [45]).toArray⟩, .bool (Lib.hasPrefix s.data.toList [45])]) ∧ y = w' at c2
 change ∀ y, Calls Tryd.prog 95 #[.string ⟨(Lib.trimPrefix s.data.toList [48, 120]).toArray⟩, .int .i64 16] y fun e w' => e = .returned (.tuple #[.int .i64 (digZ (Lib.trimPrefix s.data.toList [48, 120]) 16).1, .int .i64 ((digZ (Lib.trimPrefix s.data.toList [48, 120]) 16).2 : Nat)]) ∧ Below y.heap.size y w' at d1
 change ∀ y, Calls Tryd.prog 95 #[.string ⟨(Lib.trimPrefix s.data.toList [45]).toArray⟩, .int .i64 10] y fun e w' => e = .returned (.tuple #[.int .i64 (digZ (Lib.trimPrefix s.data.toList [45]) 10).1, .int .i64 ((digZ (Lib.trimPrefix s.data.toList [45]) 10).2 : Nat)]) ∧ Below y.heap.size y w' at d2
 generalize Lib.hasPrefix s.data.toList [48, 120] = B1 at *
 generalize Lib.hasPrefix s.data.toList [45] = B2 at *
 generalize (⟨(Lib.trimPrefix s.data.toList [48, 120]).toArray⟩ : ByteArray) = S1 at *
 generalize (⟨(Lib.trimPrefix s.data.toList [45]).toArray⟩ : ByteArray) = S2 at *
 generalize hD1 : digZ (Lib.trimPrefix s.data.toList [48, 120]) 16 = D1 at *
 generalize hD2 : digZ (Lib.trimPrefix s.data.toList [45]) 10 = D2 at *
 generalize digZ s.data.toList 10 = D3 at *
 generalize numZ s.data.toList = Z at *
 obtain ⟨N1, K1⟩ := D1
 obtain ⟨N2, K2⟩ := D2
 obtain ⟨N3, K3⟩ := D3
 simp only at *
 have m1 : (K1 : Int) ≤ 9223372036854775800 := by omega
 have m2 : (K2 : Int) ≤ 9223372036854775800 := by omega
 obtain ⟨r10, r11⟩ := r1
 obtain ⟨r20, r21⟩ := r2
 have C1 := Lib.hid c1; have C2 := Lib.hid c2; have D1 := Lib.hid d1; have D2 := Lib.hid d2; have D3 := Lib.hid d3
 clear hD1 hD2 t1 t2 l1 l2 hl hs c1 c2 d1 d2 d3
 cases B1
 ·clear n1
  cases B2
  ·have HZ := Lib.hid (n3 (.inl rfl) (.inl rfl))
   clear n2 n3
   go_enter Tryd.func75, Tryd.ntmps75
   go_wp2_with fail
   refine (C1.out _).mono ?_; rintro e w0 ⟨rfl, rfl⟩
   go_wp2_with fail
   refine (C2.out _).mono ?_; rintro e wx ⟨rfl, rfl⟩
   go_wp2_with fail
   refine (D3.out _).mono ?_; rintro e w3 ⟨rfl, hb3⟩
   go_wp2_with fail
   go_ret2
   exact ⟨by rw [HZ.out]; rfl, hb3⟩
  ·by_cases hk2 : 0 < K2
   ·have HZ := Lib.hid (n2 (.inl rfl) rfl hk2)
    have q21 : decide (0 < K2) = true := decide_eq_true hk2
    have q22 : decide (0 < (K2 : Int)) = true := decide_eq_true (by omega)
    clear n2 n3
    go_enter Tryd.func75, Tryd.ntmps75
    go_wp2_with fail
    refine (C1.out _).mono ?_; rintro e w0 ⟨rfl, rfl⟩
    go_wp2_with fail
    refine (C2.out _).mono ?_; rintro e wx ⟨rfl, rfl⟩
    go_wp2_with fail
    refine (D2.out _).mono ?_; rintro e w2 ⟨rfl, hb2⟩
    have HB2 := Lib.hid (show Below w.heap.size w w2 from hb2)
    clear hb2
    go_wp2_with fail
    go_ret2
    exact ⟨by rw [HZ.out]; first | rfl | simp, HB2.out⟩
   ·have HZ := Lib.hid (n3 (.inl rfl) (.inr (by omega)))
    have q21 : decide (0 < K2) = false := decide_eq_false hk2
    have q22 : decide (0 < (K2 : Int)) = false := decide_eq_false (by omega)
    clear n2 n3
    go_enter Tryd.func75, Tryd.ntmps75
    go_wp2_with fail
    refine (C1.out _).mono ?_; rintro e w0 ⟨rfl, rfl⟩
    go_wp2_with fail
    refine (C2.out _).mono ?_; rintro e wx ⟨rfl, rfl⟩
    go_wp2_with fail
    refine (D2.out _).mono ?_; rintro e w2 ⟨rfl, hb2⟩
    have HB2 := Lib.hid (show Below w.heap.size w w2 from hb2)
    clear hb2
    go_wp2_with fail
    refine (D3.out _).mono ?_; rintro e w3 ⟨rfl, hb3⟩
    go_wp2_with fail
    go_ret2
    exact ⟨by rw [HZ.out]; rfl, HB2.out.trans (hb3.mono HB2.out.size)⟩
 ·by_cases hk1 : 0 < K1
  ·have HZ := Lib.hid (n1 rfl hk1)
   have q11 : decide (0 < K1) = true := decide_eq_true hk1
   have q12 : decide (0 < (K1 : Int)) = true := decide_eq_true (by omega)
   clear n1 n2 n3
   go_enter Tryd.func75, Tryd.ntmps75
   go_wp2_with fail
   refine (C1.out _).mono ?_; rintro e w0 ⟨rfl, rfl⟩
   go_wp2_with fail
   refine (D1.out _).mono ?_; rintro e w1 ⟨rfl, hb1⟩
   have HB1 := Lib.hid hb1
   clear hb1
   go_wp2_with fail
   go_ret2
   exact ⟨by rw [HZ.out]; first | rfl | simp, HB1.out⟩
  ·have hk1' : K1 = 0 := by omega
   have q11 : decide (0 < K1) = false := decide_eq_false hk1
   have q12 : decide (0 < (K1 : Int)) = false := decide_eq_false (by omega)
   cases B2
   ·have HZ := Lib.hid (n3 (.inr hk1') (.inl rfl))
    clear n1 n2 n3 hk1'
    go_enter Tryd.func75, Tryd.ntmps75
    go_wp2_with fail
    refine (C1.out _).mono ?_; rintro e w0 ⟨rfl, rfl⟩
    go_wp2_with fail
    refine (D1.out _).mono ?_; rintro e w1 ⟨rfl, hb1⟩
    have HB1 := Lib.hid hb1
    clear hb1
    go_wp2_with fail
    refine (C2.out _).mono ?_; rintro e wx ⟨rfl, rfl⟩
    go_wp2_with fail
    refine (D3.out _).mono ?_; rintro e w3 ⟨rfl, hb3⟩
    go_wp2_with fail
    go_ret2
    exact ⟨by rw [HZ.out]; rfl, HB1.out.trans (hb3.mono HB1.out.size)⟩
   ·by_cases hk2 : 0 < K2
    ·have HZ := Lib.hid (n2 (.inr hk1') rfl hk2)
     have q21 : decide (0 < K2) = true := decide_eq_true hk2
     have q22 : decide (0 < (K2 : Int)) = true := decide_eq_true (by omega)
     clear n1 n2 n3 hk1'
     go_enter Tryd.func75, Tryd.ntmps75
     go_wp2_with fail
     refine (C1.out _).mono ?_; rintro e w0 ⟨rfl, rfl⟩
     go_wp2_with fail
     refine (D1.out _).mono ?_; rintro e w1 ⟨rfl, hb1⟩
     have HB1 := Lib.hid hb1
     clear hb1
     go_wp2_with fail
     refine (C2.out _).mono ?_; rintro e wx ⟨rfl, rfl⟩
     go_wp2_with fail
     refine (D2.out _).mono ?_; rintro e w2 ⟨rfl, hb2⟩
     have HB2 := Lib.hid (show Below w.heap.size w w2 from HB1.out.trans (hb2.mono HB1.out.size))
     clear hb2
     go_wp2_with fail
     go_ret2
     exact ⟨by rw [HZ.out]; first | rfl | simp, HB2.out⟩
    ·have HZ := Lib.hid (n3 (.inr hk1') (.inr (by omega)))
     have q21 : decide (0 < K2) = false := decide_eq_false hk2
     have q22 : decide (0 < (K2 : Int)) = false := decide_eq_false (by omega)
     clear n1 n2 n3 hk1'
     go_enter Tryd.func75, Tryd.ntmps75
     go_wp2_with fail
     refine (C1.out _).mono ?_; rintro e w0 ⟨rfl, rfl⟩
     go_wp2_with fail
     refine (D1.out _).mono ?_; rintro e w1 ⟨rfl, hb1⟩
     have HB1 := Lib.hid hb1
     clear hb1
     go_wp2_with fail
     refine (C2.out _).mono ?_; rintro e wx ⟨rfl, rfl⟩
     go_wp2_with fail
     refine (D2.out _).mono ?_; rintro e w2 ⟨rfl, hb2⟩
     have HB2 := Lib.hid (show Below w.heap.size w w2 from HB1.out.trans (hb2.mono HB1.out.size))
     clear hb2
     go_wp2_with fail
     refine (D3.out _).mono ?_; rintro e w3 ⟨rfl, hb3⟩
     go_wp2_with fail
     go_ret2
     exact ⟨by rw [HZ.out]; rfl, HB2.out.trans (hb3.mono HB2.out.size)⟩
end Go.Proofs.YtcaibahniheohaaDoor.Words

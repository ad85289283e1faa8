/- Several texts in one: Base, IsaMath, PData, RightIns, OpenWrite, ByteRow, Own. -/
import Derived.WalkKit
import Derived.WalkSpells
import Derived.WalkLawsBesides
import Derived.Lib.Hide
import Derived.Deep.QuietTactic
import Derived.BigQuiet
import Derived.Laws.BitsAllLaws
import Derived.Test.YtdjllgdeijdieaaRows
import Derived.ProofKit
import Derived.OpenShut
import Derived.ChangeOld

/- Plain lemmas for walks over slices: what a slice reads as ('Row'), kept over new blocks, draws and whatever turns nothing below a block number. Nothing here speaks of one program. -/
namespace Go.Proofs.Ytdjllgdeijdieaa.Words
set_option maxRecDepth 100000
open Go.RowKit

/-- The slice value v has n elements of 'size' cells each; its cells are xs, and lie below block B. -/
def Row (w : World) (B size : Nat) (v : Value) (n : Nat) (xs : List Value) : Prop :=
  xs.length = n * size ∧ ∃ A c, v = .slice A n c ∧ n ≤ c ∧ c ≤ 9223372036854775807 ∧ (A = none → c = 0) ∧
    (n ≠ 0 → ∃ b off, A = some ⟨b, off, none⟩ ∧ b < B ∧ ∀ j u, xs[j]? = some u → w.cell? ⟨b, off + j, none⟩ = some u)

theorem add_spot (b off j : Nat) : (⟨b, off, none⟩ : Addr).add j = ⟨b, off + j, none⟩ := by
  unfold Addr.add
  split
  · subst_vars; rfl
  · rfl

section
variable {w w' : World} {B size : Nat} {v : Value} {n : Nat} {xs : List Value}
theorem Row.keep (h : Row w B size v n xs) (hk : ∀ p : Addr, p.block < B → w'.cell? p = w.cell? p) : Row w' B size v n xs := by
  obtain ⟨h0, A, c, h1, h2, h3, h4, h5⟩ := h
  refine ⟨h0, A, c, h1, h2, h3, h4, fun hn => ?_⟩
  obtain ⟨b, off, e, hb, hc⟩ := h5 hn
  exact ⟨b, off, e, hb, fun j u hu => (hk _ hb).trans (hc j u hu)⟩
theorem Row.more {B' : Nat} (h : Row w B size v n xs) (hB : B ≤ B') : Row w B' size v n xs := by
  obtain ⟨h0, A, c, h1, h2, h3, h4, h5⟩ := h
  refine ⟨h0, A, c, h1, h2, h3, h4, fun hn => ?_⟩
  obtain ⟨b, off, e, hb, hc⟩ := h5 hn
  exact ⟨b, off, e, Nat.lt_of_lt_of_le hb hB, hc⟩
theorem Row.below (h : Row w B size v n xs) (hb : Below B w w') : Row w' B size v n xs := h.keep fun _ hp => hb.cell hp
theorem Row.drewN (h : Row w B size v n xs) (k : Nat) : Row (w.drewN k) B size v n xs := h
theorem Row.drew (h : Row w B size v n xs) : Row w.drew B size v n xs := h
theorem Row.alloc (h : Row w B size v n xs) (hB : B ≤ w.heap.size) (o : Obj) : Row (w.alloc o) B size v n xs := h.keep fun p hp => World.cell?_alloc_lt w o p (by omega)
theorem Row.nil (w : World) (B size : Nat) : Row w B size (.slice none 0 0) 0 [] := ⟨by simp, none, 0, rfl, Nat.le_refl _, by omega, fun _ => rfl, fun h => absurd rfl h⟩
theorem Row.of_own {base : Nat} {e : TypeId} (h : w.ownsRow base e size v n xs) : Row w w.heap.size size v n xs := by
  refine ⟨h.1, ?_⟩
  rcases h.2 with ⟨rfl, rfl⟩ | ⟨g, cap, cur, rfl, hb, hg, h1, h2, h3, h4⟩
  · exact ⟨none, 0, rfl, Nat.le_refl _, by omega, fun _ => rfl, fun h => absurd rfl h⟩
  · refine ⟨_, _, rfl, h1, by simpa [maxLen] using h2, (fun h => by cases h), fun _ => ⟨g, 0, rfl, (Array.getElem?_eq_some_iff.1 hg).1, fun j u hu => ?_⟩⟩
    have := h.cells (g := g) rfl j u hu
    rwa [add_spot] at this
theorem Row.of_ints {k : IntKind} {x : Addr} {len cap : Nat} {zs : List Int} (hl : len ≤ cap) (hm : cap ≤ maxLen) (hz : zs.length = cap) (hc : ∀ i, i < zs.length → w.cell? (x.add i) = some (.int k (zs.getD i 0))) :
    Row w w.heap.size 1 (.slice (some x) len cap) len ((zs.take len).map (Value.int k)) := by
  refine ⟨by simp; omega, some x, cap, rfl, hl, by simpa [maxLen] using hm, (fun h => by cases h), fun hn => ?_⟩
  obtain ⟨b, off, spot⟩ := x
  have h0 := hc 0 (by omega)
  have hs : spot = none := by simpa [Addr.add] using World.cell?_spot h0
  subst hs
  refine ⟨b, off, rfl, ?_, fun j u hu => ?_⟩
  · rw [add_spot] at h0
    unfold World.cell? at h0
    rcases hh : w.heap[b]? with _ | o
    · simp [hh] at h0
    · exact (Array.getElem?_eq_some_iff.1 hh).1
  · have hj : j < len := by
      rw [List.getElem?_eq_some_iff] at hu
      obtain ⟨h, _⟩ := hu
      simp at h; omega
    have := hc j (by omega)
    rw [add_spot] at this
    rw [this, ← hu, List.getElem?_map, List.getElem?_take, if_pos hj, List.getD_eq_getElem?_getD, List.getElem?_eq_getElem (by omega)]
    rfl
theorem Row.cells {A : Option Addr} {c : Nat} (h : Row w B size (.slice A n c) n xs) : ∀ ad, A = some ad → ∀ j u, xs[j]? = some u → w.cell? (ad.add j) = some u := by
  obtain ⟨h0, A', c', h1, h2, h3, h4, h5⟩ := h
  injection h1 with e1 _ e2
  subst e1 e2
  intro ad had j u hu
  by_cases hn : n = 0
  · subst hn
    have : xs = [] := List.eq_nil_of_length_eq_zero (by simpa using h0)
    subst this
    simp at hu
  · obtain ⟨b, off, e, hb, hc⟩ := h5 hn
    rw [had] at e
    injection e with e
    subst e
    rw [add_spot]
    exact hc j u hu
theorem Row.bare {A : Option Addr} {c : Nat} (h : Row w B size (.slice A n c) n xs) : A = none → n = 0 ∧ c = 0 := by
  obtain ⟨h0, A', c', h1, h2, h3, h4, h5⟩ := h
  injection h1 with e1 _ e2
  subst e1 e2
  intro hA
  have := h4 hA
  exact ⟨by omega, this⟩
theorem Row.cap {A : Option Addr} {c : Nat} (h : Row w B size (.slice A n c) n xs) : n ≤ c ∧ c ≤ 9223372036854775807 := by
  obtain ⟨h0, A', c', h1, h2, h3, h4, h5⟩ := h
  injection h1 with e1 _ e2
  subst e1 e2
  exact ⟨h2, h3⟩
theorem Row.len {A : Option Addr} {c : Nat} (h : Row w B size (.slice A n c) n xs) : xs.length = n * size := h.1
theorem Row.form (h : Row w B size v n xs) : ∃ A c, v = .slice A n c := by
  obtain ⟨h0, A, c, h1, _⟩ := h
  exact ⟨A, c, h1⟩
/-- Its cells, where there is one. -/
theorem Row.at_ {A : Option Addr} {c : Nat} (h : Row w B size (.slice A n c) n xs) (hn : n ≠ 0) :
    ∃ b off, A = some ⟨b, off, none⟩ ∧ b < B ∧ ∀ j u, xs[j]? = some u → w.cell? ⟨b, off + j, none⟩ = some u := by
  obtain ⟨h0, A', c', h1, h2, h3, h4, h5⟩ := h
  injection h1 with e1 _ e2
  subst e1 e2
  exact h5 hn
end

/-- The cells of a block that was just laid. -/
theorem new_cells (w : World) (cs : Array Value) (t : TypeId) (xs : List Value) (h : cs.toList = xs) : ∀ j u, xs[j]? = some u → (w.alloc (.cells cs t)).cell? ((⟨w.heap.size, 0, none⟩ : Addr).add j) = some u := by
  intro j u hu
  subst h
  rw [add_spot, Nat.zero_add, World.cell?_alloc_new]
  simpa using hu
theorem own_ge {k b : Nat} : some k = some b → b ≤ k := fun h => by injection h with h; omega
theorem own_ge' {B : Nat} : ∀ k, some B = some k → B ≤ k := fun _ h => by injection h with h; omega
theorem Below.drewN_ {B : Nat} {a w : World} (h : Below B a w) (n : Nat) : Below B a (w.drewN n) := ⟨h.os, h.tape, h.output, h.size, h.block⟩
theorem ret_int {k : IntKind} {a b : Int} (h : a = b) : Ending.returned (.int k a) = .returned (.int k b) := by rw [h]
theorem ret_bool_iff {a b : Bool} (h : a = true ↔ b = true) : Ending.returned (.bool a) = .returned (.bool b) := by rw [Bool.eq_iff_iff.2 h]
theorem ret_bool {a b : Bool} (h : a = b) : Ending.returned (.bool a) = .returned (.bool b) := by rw [h]
/-- What was there reads as it did, and its marks. -/
theorem bcell {W w1 : World} (hb : Below W.heap.size W w1) : (∀ b o, b < W.heap.size → w1.cell? ⟨b, o, none⟩ = W.cell? ⟨b, o, none⟩) ∧ (∀ b o, b < W.heap.size → w1.frozen? ⟨b, o, none⟩ = W.frozen? ⟨b, o, none⟩) :=
  ⟨fun b o h => hb.cell (p := ⟨b, o, none⟩) h, fun b o h => hb.frozen (p := ⟨b, o, none⟩) h⟩
/-- What lay there before a new block and an append reads as it did. -/
theorem grown_cell {w1 w2 : World} {o : Obj} {row : Option Nat} (hg : (w1.alloc o).grownBy w2 row) {b : Nat} (j : Nat) (hb : b < w1.heap.size) (hr : some b ≠ row) : w2.cell? ⟨b, j, none⟩ = w1.cell? ⟨b, j, none⟩ := by
  have hblk := hg.block b (by simp; omega) hr
  rw [World.cell?_of_block (a := ⟨b, j, none⟩) hblk, World.cell?_alloc_lt _ _ _ hb]
theorem grown_size {w1 w2 : World} {o : Obj} {row : Option Nat} (hg : (w1.alloc o).grownBy w2 row) : w1.heap.size < w2.heap.size := by
  have := hg.size; simp at this; omega
theorem own_none {A c : Nat} : ∀ k, (Value.slice none A c).ownBlock = some k → False := fun k hk => by simp [Value.ownBlock] at hk
theorem own_not {A c b : Nat} : some b ≠ (Value.slice none A c).ownBlock := fun h => by simp [Value.ownBlock] at h
end Go.Proofs.Ytdjllgdeijdieaa.Words

/- Plain mathematics of chapter 2: forms of operations, which instructions may be, the word of an instruction and the instruction of a word. Nothing here speaks of one program. -/
namespace Go.Proofs.Ytdjllgdeijdieaa.Words
set_option maxRecDepth 100000
open Go.RowKit

/-- An instruction's five numbers. -/
structure Ins where
  op : Int
  d : Int
  a : Int
  b : Int
  imm : Int
deriving DecidableEq

theorem Ins.eq_iff (i k : Ins) : i = k ↔ i.op = k.op ∧ i.d = k.d ∧ i.a = k.a ∧ i.b = k.b ∧ i.imm = k.imm := by
  cases i; cases k; simp
/-- Its numbers are of Go's int. -/
def Ins.Fits (i : Ins) : Prop :=
  (-9223372036854775808 ≤ i.op ∧ i.op ≤ 9223372036854775807) ∧ (-9223372036854775808 ≤ i.d ∧ i.d ≤ 9223372036854775807) ∧ (-9223372036854775808 ≤ i.a ∧ i.a ≤ 9223372036854775807) ∧
  (-9223372036854775808 ≤ i.b ∧ i.b ≤ 9223372036854775807) ∧ (-9223372036854775808 ≤ i.imm ∧ i.imm ≤ 9223372036854775807)

/-- The form of an operation. -/
def formZ (op : Int) : Int :=
  if op < 1 ∨ 41 < op then 0 else if op ≤ 16 then 1 else if op ≤ 24 then 2 else if op = 25 then 3 else if op ≤ 30 then 4 else if op ≤ 33 then 5 else if op ≤ 39 then 6 else if op = 40 then 7 else 8
theorem formZ_cases (op : Int) : (formZ op = 0 ∧ (op < 1 ∨ 41 < op)) ∨ (formZ op = 1 ∧ 1 ≤ op ∧ op ≤ 16) ∨ (formZ op = 2 ∧ 17 ≤ op ∧ op ≤ 24) ∨ (formZ op = 3 ∧ op = 25) ∨ (formZ op = 4 ∧ 26 ≤ op ∧ op ≤ 30) ∨
    (formZ op = 5 ∧ 31 ≤ op ∧ op ≤ 33) ∨ (formZ op = 6 ∧ 34 ≤ op ∧ op ≤ 39) ∨ (formZ op = 7 ∧ op = 40) ∨ (formZ op = 8 ∧ op = 41) := by
  unfold formZ; repeat' split
  all_goals omega
theorem formZ_range (op : Int) : 0 ≤ formZ op ∧ formZ op ≤ 8 := by
  have := formZ_cases op; omega

def hasD (f : Int) : Bool := decide (f = 1 ∨ f = 2 ∨ f = 3 ∨ f = 4)
def hasA (f : Int) : Bool := decide (f = 1 ∨ f = 2 ∨ f = 4 ∨ f = 5 ∨ f = 6)
def hasB (f : Int) : Bool := decide (f = 1 ∨ f = 5 ∨ f = 6)
def hasI (f : Int) : Bool := decide (f = 2 ∨ f = 3 ∨ f = 4 ∨ f = 5 ∨ f = 6 ∨ f = 7)
def lowI (op : Int) : Int := if op = 22 ∨ op = 23 ∨ op = 24 then 0 else -8192
def highI (op : Int) : Int := if op = 22 ∨ op = 23 ∨ op = 24 then 31 else 8191
theorem lowI_cases (op : Int) : (lowI op = 0 ∧ highI op = 31 ∧ 22 ≤ op ∧ op ≤ 24) ∨ (lowI op = -8192 ∧ highI op = 8191 ∧ (op < 22 ∨ 24 < op)) := by
  unfold lowI highI; split <;> omega
/-- May a field be that? -/
def fitsB (n lo hi : Int) (had : Bool) : Bool := if had = true then decide (lo ≤ n ∧ n ≤ hi) else decide (n = 0)
theorem fitsB_yes (n lo hi : Int) : fitsB n lo hi true = true ↔ lo ≤ n ∧ n ≤ hi := by unfold fitsB; simp
theorem fitsB_no (n lo hi : Int) : fitsB n lo hi false = true ↔ n = 0 := by unfold fitsB; simp

/-- May the instruction be? -/
def rightB (i : Ins) : Bool :=
  decide (formZ i.op ≠ 0) && fitsB i.d 0 15 (hasD (formZ i.op)) && fitsB i.a 0 15 (hasA (formZ i.op)) && fitsB i.b 0 15 (hasB (formZ i.op)) && fitsB i.imm (lowI i.op) (highI i.op) (hasI (formZ i.op))

/-- What is right, form by form. -/
theorem rightB_iff (i : Ins) : rightB i = true ↔
    (1 ≤ i.op ∧ i.op ≤ 41) ∧
    (if 1 ≤ i.op ∧ i.op ≤ 30 then 0 ≤ i.d ∧ i.d ≤ 15 else i.d = 0) ∧
    (if (1 ≤ i.op ∧ i.op ≤ 24) ∨ (26 ≤ i.op ∧ i.op ≤ 39) then 0 ≤ i.a ∧ i.a ≤ 15 else i.a = 0) ∧
    (if (1 ≤ i.op ∧ i.op ≤ 16) ∨ (31 ≤ i.op ∧ i.op ≤ 39) then 0 ≤ i.b ∧ i.b ≤ 15 else i.b = 0) ∧
    (if 17 ≤ i.op ∧ i.op ≤ 40 then lowI i.op ≤ i.imm ∧ i.imm ≤ highI i.op else i.imm = 0) := by
  have hd : fitsB i.d 0 15 (hasD (formZ i.op)) = true ↔ (if formZ i.op = 1 ∨ formZ i.op = 2 ∨ formZ i.op = 3 ∨ formZ i.op = 4 then 0 ≤ i.d ∧ i.d ≤ 15 else i.d = 0) := by
    unfold hasD; split <;> simp [fitsB, *]
  have ha : fitsB i.a 0 15 (hasA (formZ i.op)) = true ↔ (if formZ i.op = 1 ∨ formZ i.op = 2 ∨ formZ i.op = 4 ∨ formZ i.op = 5 ∨ formZ i.op = 6 then 0 ≤ i.a ∧ i.a ≤ 15 else i.a = 0) := by
    unfold hasA; split <;> simp [fitsB, *]
  have hb : fitsB i.b 0 15 (hasB (formZ i.op)) = true ↔ (if formZ i.op = 1 ∨ formZ i.op = 5 ∨ formZ i.op = 6 then 0 ≤ i.b ∧ i.b ≤ 15 else i.b = 0) := by
    unfold hasB; split <;> simp [fitsB, *]
  have hi : fitsB i.imm (lowI i.op) (highI i.op) (hasI (formZ i.op)) = true ↔ (if formZ i.op = 2 ∨ formZ i.op = 3 ∨ formZ i.op = 4 ∨ formZ i.op = 5 ∨ formZ i.op = 6 ∨ formZ i.op = 7 then lowI i.op ≤ i.imm ∧ i.imm ≤ highI i.op else i.imm = 0) := by
    unfold hasI; split <;> simp [fitsB, *]
  have c := formZ_cases i.op
  have hd' : (formZ i.op = 1 ∨ formZ i.op = 2 ∨ formZ i.op = 3 ∨ formZ i.op = 4) ↔ (1 ≤ i.op ∧ i.op ≤ 30) := by omega
  have ha' : (formZ i.op = 1 ∨ formZ i.op = 2 ∨ formZ i.op = 4 ∨ formZ i.op = 5 ∨ formZ i.op = 6) ↔ ((1 ≤ i.op ∧ i.op ≤ 24) ∨ (26 ≤ i.op ∧ i.op ≤ 39)) := by omega
  have hb' : (formZ i.op = 1 ∨ formZ i.op = 5 ∨ formZ i.op = 6) ↔ ((1 ≤ i.op ∧ i.op ≤ 16) ∨ (31 ≤ i.op ∧ i.op ≤ 39)) := by omega
  have hi' : (formZ i.op = 2 ∨ formZ i.op = 3 ∨ formZ i.op = 4 ∨ formZ i.op = 5 ∨ formZ i.op = 6 ∨ formZ i.op = 7) ↔ (17 ≤ i.op ∧ i.op ≤ 40) := by omega
  have h0' : (formZ i.op ≠ 0) ↔ (1 ≤ i.op ∧ i.op ≤ 41) := by omega
  simp only [hd', ha', hb', hi'] at hd ha hb hi
  unfold rightB
  rw [Bool.and_eq_true, Bool.and_eq_true, Bool.and_eq_true, Bool.and_eq_true, hd, ha, hb, hi, decide_eq_true_iff, h0', and_assoc, and_assoc, and_assoc]

theorem right_range {i : Ins} (h : rightB i = true) : (1 ≤ i.op ∧ i.op ≤ 41) ∧ (0 ≤ i.d ∧ i.d ≤ 15) ∧ (0 ≤ i.a ∧ i.a ≤ 15) ∧ (0 ≤ i.b ∧ i.b ≤ 15) ∧ (-8192 ≤ i.imm ∧ i.imm ≤ 8191) := by
  rw [rightB_iff] at h
  have := lowI_cases i.op
  obtain ⟨h0, h1, h2, h3, h4⟩ := h
  refine ⟨h0, ?_, ?_, ?_, ?_⟩
  · split at h1 <;> omega
  · split at h2 <;> omega
  · split at h3 <;> omega
  · split at h4 <;> omega

/-- The word of an instruction that is right. -/
def encZ (i : Ins) : Int := i.op * 67108864 + i.d * 4194304 + i.a * 262144 + i.b * 16384 + i.imm % 16384
theorem enc_range {i : Ins} (h : rightB i = true) : 0 ≤ encZ i ∧ encZ i ≤ 4294967295 := by
  have := right_range h; unfold encZ; omega
/-- What Encode tells. -/
def encV (i : Ins) : Int := if rightB i = true then encZ i else 0
theorem encV_yes {i : Ins} (h : rightB i = true) : encV i = encZ i := by unfold encV; rw [if_pos h]
theorem encV_no {i : Ins} (h : rightB i = false) : encV i = 0 := by unfold encV; rw [if_neg (by simp [h])]
theorem encV_range (i : Ins) : 0 ≤ encV i ∧ encV i ≤ 4294967295 := by
  unfold encV; split
  · exact enc_range ‹_›
  · omega

/-- 14 bits as a number with a sign. -/
def sgn14 (n : Int) : Int := if 8192 ≤ n then n - 16384 else n
theorem sgn14_cases (n : Int) : (sgn14 n = n ∧ n ≤ 8191) ∨ (sgn14 n = n - 16384 ∧ 8192 ≤ n) := by unfold sgn14; split <;> omega
/-- A word's fields. -/
def fieldsZ (w : Int) : Ins := ⟨w / 67108864, w / 4194304 % 16, w / 262144 % 16, w / 16384 % 16, sgn14 (w % 16384)⟩
theorem enc_fields (w : Int) : encZ (fieldsZ w) = w := by
  have := sgn14_cases (w % 16384)
  unfold encZ fieldsZ
  simp only
  omega
theorem fields_enc {i : Ins} (h : rightB i = true) : fieldsZ (encZ i) = i := by
  have hr := right_range h
  have hs := sgn14_cases (encZ i % 16384)
  rw [Ins.eq_iff]
  unfold fieldsZ
  simp only
  unfold encZ at *
  omega
def noIns : Ins := ⟨0, 0, 0, 0, 0⟩
/-- What Decode tells. -/
def decB (w : Int) : Bool := rightB (fieldsZ w)
def decZ (w : Int) : Ins := if decB w = true then fieldsZ w else noIns
theorem decZ_yes {w : Int} (h : decB w = true) : decZ w = fieldsZ w := by unfold decZ; rw [if_pos h]
theorem decZ_no {w : Int} (h : decB w = false) : decZ w = noIns := by unfold decZ; rw [if_neg (by simp [h])]
theorem dec_enc {i : Ins} (h : rightB i = true) : decB (encZ i) = true ∧ decZ (encZ i) = i := by
  have e := fields_enc h
  have hb : decB (encZ i) = true := by unfold decB; rw [e]; exact h
  exact ⟨hb, by rw [decZ_yes hb, e]⟩
theorem enc_inj {i k : Ins} (hi : rightB i = true) (hk : rightB k = true) : encZ i = encZ k ↔ i = k :=
  ⟨fun h => by rw [← fields_enc hi, ← fields_enc hk, h], fun h => by rw [h]⟩

/-- The registers that an instruction reads. -/
def readsZ (i : Ins) : List Int := if rightB i = true then (if i.a = 0 then [] else [i.a]) ++ (if i.b = 0 then [] else [i.b]) else []
theorem readsZ_no {i : Ins} (h : rightB i = false) : readsZ i = [] := by unfold readsZ; rw [if_neg (by simp [h])]
theorem readsZ_yes {i : Ins} (h : rightB i = true) : readsZ i = (if i.a = 0 then [] else [i.a]) ++ (if i.b = 0 then [] else [i.b]) := by unfold readsZ; rw [if_pos h]
def writesZ (i : Ins) : Int := if rightB i = true then i.d else 0
theorem writesZ_no {i : Ins} (h : rightB i = false) : writesZ i = 0 := by unfold writesZ; rw [if_neg (by simp [h])]
theorem writesZ_yes {i : Ins} (h : rightB i = true) : writesZ i = i.d := by unfold writesZ; rw [if_pos h]

/-- Two words without a bit in common, one from bit i on, the other below it. -/
theorem or_low (i : Nat) (x y : Int) (hx0 : 0 ≤ x) (hx : x % 2 ^ i = 0) (hx1 : x < 4294967296) (hy0 : 0 ≤ y) (hy : y < 2 ^ i) (hi : i ≤ 32) : bits .or .u32 x y = x + y := by
  obtain ⟨a, rfl⟩ := Int.eq_ofNat_of_zero_le hx0
  obtain ⟨c, rfl⟩ := Int.eq_ofNat_of_zero_le hy0
  have hp : (2 : Nat) ^ i ≤ 2 ^ 32 := Nat.pow_le_pow_right (by omega) hi
  have hc : c < 2 ^ i := by exact_mod_cast hy
  have ha : a % 2 ^ i = 0 := by exact_mod_cast hx
  rw [u32_or_nat a c (by omega) (by simp at hp; omega), nat_join i a c ha hc]
  omega
theorem and_15 (x : Int) (h0 : 0 ≤ x) (h1 : x < 4294967296) : bits .and .u32 x 15 = x % 16 := by
  obtain ⟨a, rfl⟩ := Int.eq_ofNat_of_zero_le h0
  rw [show (15 : Int) = ((15 : Nat) : Int) from rfl, u32_and_nat a 15 (by omega) (by omega), nat_mask4]
  omega
theorem and_16383 (x : Int) (h0 : 0 ≤ x) (h1 : x < 4294967296) : bits .and .u32 x 16383 = x % 16384 := by
  obtain ⟨a, rfl⟩ := Int.eq_ofNat_of_zero_le h0
  rw [show (16383 : Int) = ((16383 : Nat) : Int) from rfl, u32_and_nat a 16383 (by omega) (by omega), show a &&& 16383 = a % 16384 from Nat.and_two_pow_sub_one_eq_mod a 14]
  omega
/-- The five parts of a word, put together one by one. -/
theorem or_parts (o d a b m : Int) (ho : 0 ≤ o ∧ o ≤ 63) (hd : 0 ≤ d ∧ d ≤ 15) (ha : 0 ≤ a ∧ a ≤ 15) (hb : 0 ≤ b ∧ b ≤ 15) (hm : 0 ≤ m ∧ m < 16384) :
    bits .or .u32 (bits .or .u32 (bits .or .u32 (bits .or .u32 (o * 67108864) (d * 4194304)) (a * 262144)) (b * 16384)) m = o * 67108864 + d * 4194304 + a * 262144 + b * 16384 + m := by
  rw [or_low 26 (o * 67108864) (d * 4194304) (by omega) (by simp only [Int.reducePow]; omega) (by omega) (by omega) (by simp only [Int.reducePow]; omega) (by omega),
    or_low 22 _ (a * 262144) (by omega) (by simp only [Int.reducePow]; omega) (by omega) (by omega) (by simp only [Int.reducePow]; omega) (by omega),
    or_low 18 _ (b * 16384) (by omega) (by simp only [Int.reducePow]; omega) (by omega) (by omega) (by simp only [Int.reducePow]; omega) (by omega),
    or_low 14 _ m (by omega) (by simp only [Int.reducePow]; omega) (by omega) (by omega) (by simp only [Int.reducePow]; omega) (by omega)]
/-- A word of which a bit was turned: it is a word, and another one. -/
theorem turned_ne (x bit : Int) (h0 : 0 ≤ x) (h1 : x ≤ 4294967295) (b0 : 0 ≤ bit) (b1 : bit ≤ 31) :
    0 ≤ bits .xor .u32 x (2 ^ bit.toNat % 4294967296) ∧ bits .xor .u32 x (2 ^ bit.toNat % 4294967296) ≤ 4294967295 ∧ bits .xor .u32 x (2 ^ bit.toNat % 4294967296) ≠ x := by
  obtain ⟨a, rfl⟩ := Int.eq_ofNat_of_zero_le h0
  obtain ⟨c, rfl⟩ := Int.eq_ofNat_of_zero_le b0
  have hp : (2 : Nat) ^ c ≤ 2 ^ 31 := Nat.pow_le_pow_right (by omega) (by omega)
  have hp' : 0 < (2 : Nat) ^ c := Nat.pow_pos (by omega)
  have e : (2 : Int) ^ ((c : Int).toNat) % 4294967296 = ((2 ^ c : Nat) : Int) := by
    rw [Int.toNat_natCast]
    have : ((2 : Int) ^ c) = ((2 ^ c : Nat) : Int) := by simp
    rw [this]; omega
  rw [e, u32_xor_nat a (2 ^ c) (by omega) (by omega)]
  have hx : a ^^^ 2 ^ c < 2 ^ 32 := Nat.xor_lt_two_pow (by omega) (by omega)
  refine ⟨by omega, by omega, fun h => ?_⟩
  have h' : a ^^^ 2 ^ c = a := by exact_mod_cast h
  have h2 : a ^^^ (a ^^^ 2 ^ c) = a ^^^ a := by rw [h']
  rw [← Nat.xor_assoc, Nat.xor_self, Nat.zero_xor] at h2
  omega
end Go.Proofs.Ytdjllgdeijdieaa.Words

/- Programs as plain data: a program's value (two slices and a size), what its rows read as, cell by cell. Nothing here speaks of one program text. -/
namespace Go.Proofs.Ytdjllgdeijdieaa.Words
set_option maxRecDepth 100000
open Go.RowKit

/-- The five cells of an instruction. -/
def insCells (i : Ins) : List Value := [.int .i64 i.op, .int .i64 i.d, .int .i64 i.a, .int .i64 i.b, .int .i64 i.imm]
/-- The cells of a list of instructions. -/
def codeCells (l : List Ins) : List Value := l.flatMap insCells
theorem codeCells_nil : codeCells [] = [] := rfl
theorem codeCells_cons (i : Ins) (l : List Ins) : codeCells (i :: l) = insCells i ++ codeCells l := by simp [codeCells]
theorem codeCells_append (l m : List Ins) : codeCells (l ++ m) = codeCells l ++ codeCells m := by simp [codeCells]
theorem codeCells_length (l : List Ins) : (codeCells l).length = l.length * 5 := by
  induction l with
  | nil => rfl
  | cons i l ih => rw [codeCells_cons, List.length_append, ih]; simp [insCells]; omega
theorem codeCells_at (l : List Ins) (k : Nat) (i : Ins) (h : l[k]? = some i) (j : Nat) (hj : j < 5) : (codeCells l)[k * 5 + j]? = (insCells i)[j]? := by
  induction l generalizing k with
  | nil => simp at h
  | cons x l ih =>
    rw [codeCells_cons]
    cases k with
    | zero =>
      simp at h; subst h
      rw [List.getElem?_append_left (by simp [insCells]; omega), Nat.zero_mul, Nat.zero_add]
    | succ k =>
      simp at h
      have h5 : (insCells x).length = 5 := rfl
      rw [List.getElem?_append_right (by omega), h5, show (k + 1) * 5 + j - 5 = k * 5 + j by omega]
      exact ih k h

/-- A program's plain data. -/
structure Prog where
  code : List Ins
  size : Int
  data : List Int
deriving DecidableEq
theorem Prog.eq_iff (p q : Prog) : p = q ↔ p.code = q.code ∧ p.size = q.size ∧ p.data = q.data := by cases p; cases q; simp
def Prog.Fits (p : Prog) : Prop :=
  (∀ i ∈ p.code, i.Fits) ∧ (-9223372036854775808 ≤ p.size ∧ p.size ≤ 9223372036854775807) ∧ (∀ b ∈ p.data, 0 ≤ b ∧ b ≤ 255)
/-- The two rows of a program's value. -/
structure ProgV (w : World) (B : Nat) (vc vd : Value) (p : Prog) : Prop where
  code : Row w B 5 vc p.code.length (codeCells p.code)
  data : Row w B 1 vd p.data.length (p.data.map (Value.int .u8))
section
variable {w w' : World} {B : Nat} {vc vd : Value} {p : Prog}
theorem ProgV.keep (h : ProgV w B vc vd p) (hk : ∀ a : Addr, a.block < B → w'.cell? a = w.cell? a) : ProgV w' B vc vd p := ⟨h.code.keep hk, h.data.keep hk⟩
theorem ProgV.more {B' : Nat} (h : ProgV w B vc vd p) (hB : B ≤ B') : ProgV w B' vc vd p := ⟨h.code.more hB, h.data.more hB⟩
theorem ProgV.below (h : ProgV w B vc vd p) (hb : Below B w w') : ProgV w' B vc vd p := ⟨h.code.below hb, h.data.below hb⟩
theorem ProgV.drewN (h : ProgV w B vc vd p) (k : Nat) : ProgV (w.drewN k) B vc vd p := ⟨h.code, h.data⟩
theorem ProgV.alloc (h : ProgV w B vc vd p) (hB : B ≤ w.heap.size) (o : Obj) : ProgV (w.alloc o) B vc vd p := ⟨h.code.alloc hB o, h.data.alloc hB o⟩
end
/-- The five cells of an instruction of a row. -/
theorem Row.ins {w : World} {B n c : Nat} {b off : Nat} {l : List Ins} (h : Row w B 5 (.slice (some ⟨b, off, none⟩) n c) n (codeCells l)) {k : Nat} {i : Ins} (hi : l[k]? = some i) :
    w.cell? ⟨b, off + k * 5, none⟩ = some (.int .i64 i.op) ∧ w.cell? ⟨b, off + k * 5 + 1, none⟩ = some (.int .i64 i.d) ∧ w.cell? ⟨b, off + k * 5 + 2, none⟩ = some (.int .i64 i.a) ∧
    w.cell? ⟨b, off + k * 5 + 3, none⟩ = some (.int .i64 i.b) ∧ w.cell? ⟨b, off + k * 5 + 4, none⟩ = some (.int .i64 i.imm) := by
  have g : ∀ j u, j < 5 → (insCells i)[j]? = some u → w.cell? ⟨b, off + k * 5 + j, none⟩ = some u := by
    intro j u hj hu
    have := h.cells ⟨b, off, none⟩ rfl (k * 5 + j) u ((codeCells_at l k i hi j hj).trans hu)
    rwa [add_spot, ← Nat.add_assoc] at this
  exact ⟨g 0 _ (by omega) rfl, g 1 _ (by omega) rfl, g 2 _ (by omega) rfl, g 3 _ (by omega) rfl, g 4 _ (by omega) rfl⟩

/-- Where an instruction leads to, below 0: nowhere in the code. -/
def isJump (i : Ins) : Bool := decide (34 ≤ i.op ∧ i.op ≤ 40)
def targetZ (n : Nat) (k : Nat) (i : Ins) : Int :=
  if isJump i = false ∨ i.imm < -8192 ∨ 8191 < i.imm ∨ (k : Int) + i.imm < 0 ∨ (n : Int) ≤ k + i.imm then -1 else k + i.imm
theorem isJump_form (i : Ins) : isJump i = true ↔ formZ i.op = 6 ∨ formZ i.op = 7 := by
  have := formZ_cases i.op
  unfold isJump; rw [decide_eq_true_iff]; omega
/-- Is some target not in the code? -/
def badTarget (n k : Nat) (i : Ins) : Bool := isJump i && decide (targetZ n k i < 0)
def targetsOk (n : Nat) : Nat → List Ins → Bool
  | _, [] => true
  | k, i :: l => !badTarget n k i && targetsOk n (k + 1) l
def Prog.targets (p : Prog) : Bool := targetsOk p.code.length 0 p.code
def Prog.right (p : Prog) : Bool :=
  decide (1 ≤ p.code.length ∧ p.code.length ≤ 2000 ∧ 0 ≤ p.size ∧ p.size ≤ 65536 ∧ (p.data.length : Int) ≤ p.size) && p.code.all rightB && p.targets
end Go.Proofs.Ytdjllgdeijdieaa.Words

/- What a right program's instructions are. Nothing here speaks of one program text. -/
namespace Go.Proofs.Ytdjllgdeijdieaa.Words
set_option maxRecDepth 100000
open Go.RowKit
set_option linter.unusedVariables false

theorem right_ins {i : Ins} (h : rightB i = true) : ∃ id ia ib : Nat, i = ⟨i.op, (id : Int), (ia : Int), (ib : Int), i.imm⟩ ∧ id ≤ 15 ∧ ia ≤ 15 ∧ ib ≤ 15 ∧ (-8192 ≤ i.imm ∧ i.imm ≤ 8191) ∧ 1 ≤ formZ i.op ∧ formZ i.op ≤ 8 := by
  obtain ⟨op, d, a, b, imm⟩ := i
  obtain ⟨h1, h2, h3, h4, h5⟩ := (rightB_iff _).1 h
  simp only at h1 h2 h3 h4 h5 ⊢
  have hl := lowI_cases op
  have hf := formZ_cases op
  have d0 : 0 ≤ d ∧ d ≤ 15 := by split at h2 <;> omega
  have a0 : 0 ≤ a ∧ a ≤ 15 := by split at h3 <;> omega
  have b0 : 0 ≤ b ∧ b ≤ 15 := by split at h4 <;> omega
  have i0 : -8192 ≤ imm ∧ imm ≤ 8191 := by split at h5 <;> omega
  refine ⟨d.toNat, a.toNat, b.toNat, ?_, by omega, by omega, by omega, i0, by omega, by omega⟩
  rw [Int.toNat_of_nonneg d0.1, Int.toNat_of_nonneg a0.1, Int.toNat_of_nonneg b0.1]
theorem right_code {p : Prog} (h : p.right = true) : 1 ≤ p.code.length ∧ p.code.length ≤ 2000 ∧ 0 ≤ p.size ∧ p.size ≤ 65536 ∧ (p.data.length : Int) ≤ p.size ∧ ∀ i ∈ p.code, rightB i = true := by
  unfold Prog.right at h
  simp only [Bool.and_eq_true, decide_eq_true_eq, List.all_eq_true] at h
  obtain ⟨⟨⟨h1, h2, h3, h4, h5⟩, h6⟩, _⟩ := h
  exact ⟨h1, h2, h3, h4, h5, h6⟩

end Go.Proofs.Ytdjllgdeijdieaa.Words

/- An argument that is a struct of 3 ints by value (api.Write): its numbers. -/
namespace Go.Proofs.Ytdjllgdeijdieaa.Words
set_option maxRecDepth 100000
open Go.ChangeShapes Go.WideShapes Go.ChangeAt Go.RowKit

/-- The numbers. -/
structure Wr where
  addr : Int
  size : Int
  val : Int
deriving DecidableEq
/-- They are of Go's int. -/
def Wr.Fits (i : Wr) : Prop :=
  (-9223372036854775808 ≤ i.addr ∧ i.addr ≤ 9223372036854775807) ∧ (-9223372036854775808 ≤ i.size ∧ i.size ≤ 9223372036854775807) ∧ (0 ≤ i.val ∧ i.val ≤ 4294967295)

section
variable {H : Type} {enc : TypeId × Value → H} {w : World} {base : Nat} {spare : Nat → Bool} {held : Bool}

def wrCells (i : Wr) : List Value := [.int .i64 i.addr, .int .i64 i.size, .int .u32 i.val]

theorem wr_cells {fuel : Nat} {cs : List Value} {x : DataW H × List MemPlace} (h : DataW.trod enc Try.prog w base spare held fuel 38 cs = some x) :
    ∃ i : Wr, i.Fits ∧ cs = wrCells i := by
  obtain ⟨xs, n, _, _, hlen, hxl, hg⟩ := DataW.trod_struct Try.underlying38 h
  have hC : Try.prog.cellsOf 38 = 3 := by kernel_rfl
  have hc_int : Try.prog.cellsOf 3 = 1 := by kernel_rfl
  have hc_uint32 : Try.prog.cellsOf 30 = 1 := by kernel_rfl
  rw [hC] at hlen
  have hxl' : xs.length = 3 := hxl
  match cs, hlen with
  | [c0, c1, c2], _ =>
    have g0 : DataW.trod enc Try.prog w base spare held n 3 (([c0, c1, c2].drop 0).take 1) = some (xs[0]'(by omega)) := by rw [← List.getElem?_eq_getElem (by omega), ← hc_int]; exact hg 0 _ rfl
    obtain ⟨n0, e0, _, f0⟩ := DataW.trod_int Try.underlying3 g0
    have g1 : DataW.trod enc Try.prog w base spare held n 3 (([c0, c1, c2].drop 1).take 1) = some (xs[1]'(by omega)) := by rw [← List.getElem?_eq_getElem (by omega), ← hc_int]; exact hg 1 _ rfl
    obtain ⟨n1, e1, _, f1⟩ := DataW.trod_int Try.underlying3 g1
    have g2 : DataW.trod enc Try.prog w base spare held n 30 (([c0, c1, c2].drop 2).take 1) = some (xs[2]'(by omega)) := by rw [← List.getElem?_eq_getElem (by omega), ← hc_uint32]; exact hg 2 _ rfl
    obtain ⟨n2, e2, _, f2⟩ := DataW.trod_int Try.underlying30 g2
    simp only [List.drop_zero, List.take_succ_cons, List.take_zero, List.drop_succ_cons, List.cons.injEq, and_true] at e0 e1 e2
    subst e0 e1 e2
    exact ⟨⟨n0, n1, n2⟩, ⟨bounds_i64 f0, bounds_i64 f1, bounds_u32 f2⟩, rfl⟩

theorem open_wr {r : Reach} {b0 : Nat} {v : Value} {d : DataW H} {ps : List MemPlace} (hval : Value.okWide Try.prog w r b0 38 v) (hd : DataW.Trod enc Try.prog w base spare held 38 v d ps) :
    ∃ i : Wr, i.Fits ∧ v = .agg #[.int .i64 i.addr, .int .i64 i.size, .int .u32 i.val] := by
  obtain ⟨cs, rfl, _⟩ := okWide_struct Try.underlying38 hval
  obtain ⟨fuel, hf⟩ := hd
  obtain ⟨i, hi, hc⟩ := wr_cells hf
  refine ⟨i, hi, ?_⟩
  obtain ⟨l⟩ := cs
  have : l = wrCells i := by simpa [Value.cells] using hc
  rw [this]; rfl
end
end Go.Proofs.Ytdjllgdeijdieaa.Words

/- A row of bytes (of numbers): its cells. Nothing here speaks of one program text. -/
namespace Go.Proofs.Ytdjllgdeijdieaa.Words
set_option maxRecDepth 100000
open Go.RowKit

theorem byte_at {zs : List Int} (hz : ∀ x ∈ zs, 0 ≤ x ∧ x ≤ 255) (j : Nat) : 0 ≤ zs.getD j 0 ∧ zs.getD j 0 ≤ 255 := by
  rw [List.getD_eq_getElem?_getD]
  rcases h : zs[j]? with _ | x
  · simp
  · simpa using hz x (List.mem_of_getElem? h)

theorem cell_row {w : World} {b off : Nat} {zs : List Int} {k : IntKind} (hc : ∀ j u, (zs.map (Value.int k))[j]? = some u → w.cell? ⟨b, off + j, none⟩ = some u) (j : Nat) (hj : j < zs.length) :
    w.cell? ⟨b, off + j, none⟩ = some (.int k (zs.getD j 0)) := by
  refine hc j _ ?_
  rw [List.getElem?_map, List.getElem?_eq_getElem hj, List.getD_eq_getElem?_getD, List.getElem?_eq_getElem hj]
  rfl
theorem Row.num {w : World} {B n : Nat} {b off c : Nat} {zs : List Int} {k : IntKind} (h : Row w B 1 (.slice (some ⟨b, off, none⟩) n c) n (zs.map (Value.int k))) (j : Nat) (hj : j < n) :
    w.cell? ⟨b, off + j, none⟩ = some (.int k (zs.getD j 0)) := by
  have hl : zs.length = n := by have := h.len; simpa using this
  have := h.cells ⟨b, off, none⟩ rfl j (.int k (zs.getD j 0)) (by rw [List.getElem?_map, List.getElem?_eq_getElem (by omega), List.getD_eq_getElem?_getD, List.getElem?_eq_getElem (by omega)]; rfl)
  rwa [add_spot] at this
end Go.Proofs.Ytdjllgdeijdieaa.Words

/- Rows of the call's own: kept, cut short, joined. Nothing here speaks of one program text. -/
namespace Go.Proofs.Ytdjllgdeijdieaa.Words
set_option maxRecDepth 100000
open Go.RowKit

theorem own_below {w w' : World} {base : Nat} {e : TypeId} {size : Nat} {v : Value} {n : Nat} {xs : List Value} (h : w.ownsRow base e size v n xs) (hb : Below w.heap.size w w') : w'.ownsRow base e size v n xs := by
  refine ⟨h.1, ?_⟩
  rcases h.2 with h' | ⟨g, cap, cur, rfl, h1, h2, h3⟩
  · exact .inl h'
  · exact .inr ⟨g, cap, cur, rfl, h1, (hb.block g (Array.getElem?_eq_some_iff.1 h2).1).trans h2, h3⟩
theorem own_base {w : World} {base base' : Nat} {e : TypeId} {size : Nat} {v : Value} {n : Nat} {xs : List Value} (h : w.ownsRow base e size v n xs) (hb : base' ≤ base) : w.ownsRow base' e size v n xs := by
  refine ⟨h.1, ?_⟩
  rcases h.2 with h' | ⟨g, cap, cur, rfl, h1, h2⟩
  · exact .inl h'
  · exact .inr ⟨g, cap, cur, rfl, Nat.le_trans hb h1, h2⟩
theorem u8_one (l : List Int) : ∀ u ∈ l.map (Value.int .u8), u.oneCell' = true := by
  intro u hu
  obtain ⟨x, _, rfl⟩ := List.mem_map.1 hu
  rfl

theorem new_cells1 (w : World) (o : Obj) (cs : Array Value) (t : TypeId) (xs : List Value) (h : cs.toList = xs) : ∀ j u, xs[j]? = some u → ((w.alloc o).alloc (.cells cs t)).cell? ((⟨w.heap.size + 1, 0, none⟩ : Addr).add j) = some u := by
  have := new_cells (w.alloc o) cs t xs h
  have e : (w.alloc o).heap.size = w.heap.size + 1 := by simp
  rw [e] at this
  exact this
theorem two_cell {w : World} {o1 o2 : Obj} {b k : Nat} {v : Value} (hb : b < w.heap.size) (h : w.cell? ⟨b, k, none⟩ = some v) : ((w.alloc o1).alloc o2).cell? ⟨b, k, none⟩ = some v := by
  rw [World.cell?_alloc_lt _ _ _ (by simp; omega), World.cell?_alloc_lt _ _ _ hb]; exact h
theorem two_frozen {w : World} {o1 o2 : Obj} {b k : Nat} {v : Bool} (hb : b < w.heap.size) (h : w.frozen? ⟨b, k, none⟩ = v) : ((w.alloc o1).alloc o2).frozen? ⟨b, k, none⟩ = v := by
  have h1 : Below (b + 1) w ((w.alloc o1).alloc o2) := ((Below.refl _ _).alloc (by omega) _).alloc (by simp; omega) _
  rw [h1.frozen (p := ⟨b, k, none⟩) (by show b < b + 1; omega)]; exact h
theorem below_cell {B : Nat} {x y : World} {b k : Nat} {v : Value} (h : Below B x y) (hb : b < B) (hv : x.cell? ⟨b, k, none⟩ = some v) : y.cell? ⟨b, k, none⟩ = some v := by
  rw [h.cell (p := ⟨b, k, none⟩) hb]; exact hv
theorem below_frozen {B : Nat} {x y : World} {b k : Nat} {v : Bool} (h : Below B x y) (hb : b < B) (hv : x.frozen? ⟨b, k, none⟩ = v) : y.frozen? ⟨b, k, none⟩ = v := by
  rw [h.frozen (p := ⟨b, k, none⟩) hb]; exact hv
theorem own_grown {w w' : World} {base : Nat} {e : TypeId} {size : Nat} {v : Value} {n : Nat} {xs : List Value} {row : Option Nat} (h : w.ownsRow base e size v n xs) (hg : w.grownBy w' row) (hne : ∀ g, v.ownBlock = some g → some g ≠ row) : w'.ownsRow base e size v n xs := by
  refine ⟨h.1, ?_⟩
  rcases h.2 with h' | ⟨g, cap, cur, rfl, h1, h2, h3⟩
  · exact .inl h'
  · exact .inr ⟨g, cap, cur, rfl, h1, (hg.block g (Array.getElem?_eq_some_iff.1 h2).1 (hne g rfl)).trans h2, h3⟩

theorem own_form {w : World} {base : Nat} {e : TypeId} {size : Nat} {v : Value} {n : Nat} {xs : List Value} (h : w.ownsRow base e size v n xs) (hn : n ≠ 0) : ∃ g cap, v = .slice (some ⟨g, 0, none⟩) n cap ∧ base ≤ g ∧ g < w.heap.size := by
  rcases h.2 with ⟨rfl, rfl⟩ | ⟨g, cap, cur, rfl, h1, h2, h3⟩
  · exact absurd rfl hn
  · exact ⟨g, cap, rfl, h1, (Array.getElem?_eq_some_iff.1 h2).1⟩

theorem own_u8 {w : World} {base : Nat} {e : TypeId} {g cap L : Nat} {zs : List Int} (h : w.ownsRow base e 1 (.slice (some ⟨g, 0, none⟩) L cap) L (zs.map (Value.int .u8))) (j : Nat) (hj : j < L) : w.cell? ⟨g, j, none⟩ = some (.int .u8 (zs.getD j 0)) := by
  have hl : zs.length = L := by have := h.1; simpa using this
  rw [h.cellAt j (by omega), List.getElem?_map, List.getD_eq_getElem?_getD, List.getElem?_eq_getElem (by omega)]; rfl
theorem one_cell {w : World} {o1 : Obj} {b k : Nat} {v : Value} (hb : b < w.heap.size) (h : w.cell? ⟨b, k, none⟩ = some v) : (w.alloc o1).cell? ⟨b, k, none⟩ = some v := by
  rw [World.cell?_alloc_lt _ _ _ hb]; exact h
theorem one_frozen {w : World} {o1 : Obj} {b k : Nat} {v : Bool} (hb : b < w.heap.size) (h : w.frozen? ⟨b, k, none⟩ = v) : (w.alloc o1).frozen? ⟨b, k, none⟩ = v := by
  have h1 : Below (b + 1) w (w.alloc o1) := (Below.refl _ _).alloc (by omega) _
  rw [h1.frozen (p := ⟨b, k, none⟩) (by show b < b + 1; omega)]; exact h

theorem own_front {w : World} {base : Nat} {e : TypeId} {g n cap k : Nat} {xs : List Value} (h : w.ownsRow base e 1 (.slice (some ⟨g, 0, none⟩) n cap) n xs) (hk : k ≤ n) : w.ownsRow base e 1 (.slice (some ⟨g, 0, none⟩) k cap) k (xs.take k) := by
  have hl : xs.length = n := by have := h.1; simpa using this
  rcases h.2 with ⟨h', _⟩ | ⟨g', cap', cur, h', h1, h2, h3, h4, h5, h6⟩
  · simp at h'
  · simp only [Value.slice.injEq, Option.some.injEq, Addr.mk.injEq, and_true, true_and] at h'
    obtain ⟨rfl, rfl⟩ := h'
    refine ⟨by simp; omega, .inr ⟨g, cap, cur, rfl, h1, h2, by omega, h4, h5, ?_⟩⟩
    rw [← h6, List.take_take]
    congr 1; omega
end Go.Proofs.Ytdjllgdeijdieaa.Words

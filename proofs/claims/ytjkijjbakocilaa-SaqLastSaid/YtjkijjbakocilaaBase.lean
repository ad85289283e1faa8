/- Plain lemmas for walks over slices: what a slice reads as ('Row'), kept over new blocks, draws and whatever turns nothing below a block number. Nothing here speaks of one program. -/
import Derived.WalkKit
import Derived.WalkSpells
import Derived.WalkLawsBesides
import Derived.Lib.Hide
import Derived.Deep.QuietTactic
import Derived.BigQuiet
namespace Go.Proofs.Ytjkijjbakocilaa.Words
set_option maxRecDepth 100000
open Go.RowKit

/-- The slice value v has n elements of 'size' cells each; its cells are xs, and lie below block B. -/
def Row (w : World) (B size : Nat) (v : Value) (n : Nat) (xs : List Value) : Prop :=
  xs.length = n * size ∧ ∃ A c, v = .slice A n c ∧ n ≤ c ∧ c ≤ 9223372036854775807 ∧ (A = none → c = 0) ∧
    (n ≠ 0 → ∃ b off, A = some ⟨b, off, none⟩ ∧ b < B ∧ ∀ j u, xs[j]? = some u → w.cell? ⟨b, off + j, none⟩ = some u)

theorem add_spot (b off j : Nat) : (⟨b, off, none⟩ : Addr).add j = ⟨b, off + j, none⟩ := by
  unfold Addr.add
  split
  · subst_vars; rfl
  · rfl

section
variable {w w' : World} {B size : Nat} {v : Value} {n : Nat} {xs : List Value}
theorem Row.keep (h : Row w B size v n xs) (hk : ∀ p : Addr, p.block < B → w'.cell? p = w.cell? p) : Row w' B size v n xs := by
  obtain ⟨h0, A, c, h1, h2, h3, h4, h5⟩ := h
  refine ⟨h0, A, c, h1, h2, h3, h4, fun hn => ?_⟩
  obtain ⟨b, off, e, hb, hc⟩ := h5 hn
  exact ⟨b, off, e, hb, fun j u hu => (hk _ hb).trans (hc j u hu)⟩
theorem Row.more {B' : Nat} (h : Row w B size v n xs) (hB : B ≤ B') : Row w B' size v n xs := by
  obtain ⟨h0, A, c, h1, h2, h3, h4, h5⟩ := h
  refine ⟨h0, A, c, h1, h2, h3, h4, fun hn => ?_⟩
  obtain ⟨b, off, e, hb, hc⟩ := h5 hn
  exact ⟨b, off, e, Nat.lt_of_lt_of_le hb hB, hc⟩
theorem Row.below (h : Row w B size v n xs) (hb : Below B w w') : Row w' B size v n xs := h.keep fun _ hp => hb.cell hp
theorem Row.drewN (h : Row w B size v n xs) (k : Nat) : Row (w.drewN k) B size v n xs := h
theorem Row.drew (h : Row w B size v n xs) : Row w.drew B size v n xs := h
theorem Row.alloc (h : Row w B size v n xs) (hB : B ≤ w.heap.size) (o : Obj) : Row (w.alloc o) B size v n xs := h.keep fun p hp => World.cell?_alloc_lt w o p (by omega)
theorem Row.nil (w : World) (B size : Nat) : Row w B size (.slice none 0 0) 0 [] := ⟨by simp, none, 0, rfl, Nat.le_refl _, by omega, fun _ => rfl, fun h => absurd rfl h⟩
theorem Row.of_own {base : Nat} {e : TypeId} (h : w.ownsRow base e size v n xs) : Row w w.heap.size size v n xs := by
  refine ⟨h.1, ?_⟩
  rcases h.2 with ⟨rfl, rfl⟩ | ⟨g, cap, cur, rfl, hb, hg, h1, h2, h3, h4⟩
  · exact ⟨none, 0, rfl, Nat.le_refl _, by omega, fun _ => rfl, fun h => absurd rfl h⟩
  · refine ⟨_, _, rfl, h1, by simpa [maxLen] using h2, (fun h => by cases h), fun _ => ⟨g, 0, rfl, (Array.getElem?_eq_some_iff.1 hg).1, fun j u hu => ?_⟩⟩
    have := h.cells (g := g) rfl j u hu
    rwa [add_spot] at this
theorem Row.of_ints {k : IntKind} {x : Addr} {len cap : Nat} {zs : List Int} (hl : len ≤ cap) (hm : cap ≤ maxLen) (hz : zs.length = cap) (hc : ∀ i, i < zs.length → w.cell? (x.add i) = some (.int k (zs.getD i 0))) :
    Row w w.heap.size 1 (.slice (some x) len cap) len ((zs.take len).map (Value.int k)) := by
  refine ⟨by simp; omega, some x, cap, rfl, hl, by simpa [maxLen] using hm, (fun h => by cases h), fun hn => ?_⟩
  obtain ⟨b, off, spot⟩ := x
  have h0 := hc 0 (by omega)
  have hs : spot = none := by simpa [Addr.add] using World.cell?_spot h0
  subst hs
  refine ⟨b, off, rfl, ?_, fun j u hu => ?_⟩
  · rw [add_spot] at h0
    unfold World.cell? at h0
    rcases hh : w.heap[b]? with _ | o
    · simp [hh] at h0
    · exact (Array.getElem?_eq_some_iff.1 hh).1
  · have hj : j < len := by
      rw [List.getElem?_eq_some_iff] at hu
      obtain ⟨h, _⟩ := hu
      simp at h; omega
    have := hc j (by omega)
    rw [add_spot] at this
    rw [this, ← hu, List.getElem?_map, List.getElem?_take, if_pos hj, List.getD_eq_getElem?_getD, List.getElem?_eq_getElem (by omega)]
    rfl
theorem Row.cells {A : Option Addr} {c : Nat} (h : Row w B size (.slice A n c) n xs) : ∀ ad, A = some ad → ∀ j u, xs[j]? = some u → w.cell? (ad.add j) = some u := by
  obtain ⟨h0, A', c', h1, h2, h3, h4, h5⟩ := h
  injection h1 with e1 _ e2
  subst e1 e2
  intro ad had j u hu
  by_cases hn : n = 0
  · subst hn
    have : xs = [] := List.eq_nil_of_length_eq_zero (by simpa using h0)
    subst this
    simp at hu
  · obtain ⟨b, off, e, hb, hc⟩ := h5 hn
    rw [had] at e
    injection e with e
    subst e
    rw [add_spot]
    exact hc j u hu
theorem Row.bare {A : Option Addr} {c : Nat} (h : Row w B size (.slice A n c) n xs) : A = none → n = 0 ∧ c = 0 := by
  obtain ⟨h0, A', c', h1, h2, h3, h4, h5⟩ := h
  injection h1 with e1 _ e2
  subst e1 e2
  intro hA
  have := h4 hA
  exact ⟨by omega, this⟩
theorem Row.cap {A : Option Addr} {c : Nat} (h : Row w B size (.slice A n c) n xs) : n ≤ c ∧ c ≤ 9223372036854775807 := by
  obtain ⟨h0, A', c', h1, h2, h3, h4, h5⟩ := h
  injection h1 with e1 _ e2
  subst e1 e2
  exact ⟨h2, h3⟩
theorem Row.len {A : Option Addr} {c : Nat} (h : Row w B size (.slice A n c) n xs) : xs.length = n * size := h.1
theorem Row.form (h : Row w B size v n xs) : ∃ A c, v = .slice A n c := by
  obtain ⟨h0, A, c, h1, _⟩ := h
  exact ⟨A, c, h1⟩
/-- Its cells, where there is one. -/
theorem Row.at_ {A : Option Addr} {c : Nat} (h : Row w B size (.slice A n c) n xs) (hn : n ≠ 0) :
    ∃ b off, A = some ⟨b, off, none⟩ ∧ b < B ∧ ∀ j u, xs[j]? = some u → w.cell? ⟨b, off + j, none⟩ = some u := by
  obtain ⟨h0, A', c', h1, h2, h3, h4, h5⟩ := h
  injection h1 with e1 _ e2
  subst e1 e2
  exact h5 hn
end

/-- The cells of a block that was just laid. -/
theorem new_cells (w : World) (cs : Array Value) (t : TypeId) (xs : List Value) (h : cs.toList = xs) : ∀ j u, xs[j]? = some u → (w.alloc (.cells cs t)).cell? ((⟨w.heap.size, 0, none⟩ : Addr).add j) = some u := by
  intro j u hu
  subst h
  rw [add_spot, Nat.zero_add, World.cell?_alloc_new]
  simpa using hu
theorem own_ge {k b : Nat} : some k = some b → b ≤ k := fun h => by injection h with h; omega
theorem own_ge' {B : Nat} : ∀ k, some B = some k → B ≤ k := fun _ h => by injection h with h; omega
theorem Below.drewN_ {B : Nat} {a w : World} (h : Below B a w) (n : Nat) : Below B a (w.drewN n) := ⟨h.os, h.tape, h.output, h.size, h.block⟩
theorem ret_int {k : IntKind} {a b : Int} (h : a = b) : Ending.returned (.int k a) = .returned (.int k b) := by rw [h]
theorem ret_bool_iff {a b : Bool} (h : a = true ↔ b = true) : Ending.returned (.bool a) = .returned (.bool b) := by rw [Bool.eq_iff_iff.2 h]
theorem ret_bool {a b : Bool} (h : a = b) : Ending.returned (.bool a) = .returned (.bool b) := by rw [h]
/-- What was there reads as it did, and its marks. -/
theorem bcell {W w1 : World} (hb : Below W.heap.size W w1) : (∀ b o, b < W.heap.size → w1.cell? ⟨b, o, none⟩ = W.cell? ⟨b, o, none⟩) ∧ (∀ b o, b < W.heap.size → w1.frozen? ⟨b, o, none⟩ = W.frozen? ⟨b, o, none⟩) :=
  ⟨fun b o h => hb.cell (p := ⟨b, o, none⟩) h, fun b o h => hb.frozen (p := ⟨b, o, none⟩) h⟩
/-- What lay there before a new block and an append reads as it did. -/
theorem grown_cell {w1 w2 : World} {o : Obj} {row : Option Nat} (hg : (w1.alloc o).grownBy w2 row) {b : Nat} (j : Nat) (hb : b < w1.heap.size) (hr : some b ≠ row) : w2.cell? ⟨b, j, none⟩ = w1.cell? ⟨b, j, none⟩ := by
  have hblk := hg.block b (by simp; omega) hr
  rw [World.cell?_of_block (a := ⟨b, j, none⟩) hblk, World.cell?_alloc_lt _ _ _ hb]
theorem grown_size {w1 w2 : World} {o : Obj} {row : Option Nat} (hg : (w1.alloc o).grownBy w2 row) : w1.heap.size < w2.heap.size := by
  have := hg.size; simp at this; omega
theorem own_none {A c : Nat} : ∀ k, (Value.slice none A c).ownBlock = some k → False := fun k hk => by simp [Value.ownBlock] at hk
theorem own_not {A c b : Nat} : some b ≠ (Value.slice none A c).ownBlock := fun h => by simp [Value.ownBlock] at h
end Go.Proofs.Ytjkijjbakocilaa.Words

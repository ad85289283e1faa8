/- An argument that is a slice of records: its plain data, for any record. -/
import Derived.Test.YtjkijjbakocilaaFlat
import Derived.Test.YtjkijjbakocilaaRows
import Derived.ProofKit
import Derived.OpenShut
import Derived.Deep.Slices
namespace Go.Proofs.Ytjkijjbakocilaa.Words
set_option maxRecDepth 100000
open Go.ChangeShapes Go.WideShapes Go.ChangeAt Go.RowKit
set_option linter.unusedVariables false
set_option linter.unusedSimpArgs false

section
variable {H : Type} {enc : TypeId × Value → H} {w : World} {base : Nat} {spare : Nat → Bool} {held : Bool}
/-- A slice of records: each reads as its cells say. -/
theorem open_flat {α : Type} [Inhabited α] {e t : TypeId} {s : Nat} (hs : 0 < s) (f : α → List Value) (hf : ∀ x, (f x).length = s) (Q : α → Prop) (hC : Try.prog.cellsOf e = s)
    (hel : ∀ (fuel : Nat) (cs : List Value) (x : DataW H × List MemPlace), DataW.trod enc Try.prog w base spare held fuel e cs = some x → ∃ v, Q v ∧ cs = f v)
    (ht : Try.prog.underlying t = some (.slice e)) {fuel : Nat} {cs : List Value} {x : DataW H × List MemPlace} (h : DataW.trod enc Try.prog w base spare held fuel t cs = some x) :
    ∃ (A : Option Addr) (c : Nat) (l : List α), cs = [.slice A l.length c] ∧ Row w w.heap.size s (.slice A l.length c) l.length (flat f l) ∧ ∀ v ∈ l, Q v := by
  rcases Deep.open_slice ht h with ⟨rfl, _⟩ | ⟨a, len, cap, m, n, D, Pl, rfl, hb, hl, hm, hmm, _, hx⟩
  · exact ⟨none, 0, [], rfl, Row.nil _ _ _, by simp⟩
  rw [hC] at hx
  have hlm : len ≤ m := by rw [hmm]; split <;> omega
  obtain ⟨g, hg⟩ := Deep.choose_lt (α := α) (n := len) (p := fun i v => Q v ∧ w.cells? base (a.add (i * s)) s = some (f v)) (fun i hi => by
    obtain ⟨cs', h1, h2⟩ := hx i (by omega)
    obtain ⟨v, hv, rfl⟩ := hel _ _ _ h2
    exact ⟨v, hv, h1⟩)
  have hlen : ((List.range len).map g).length = len := by simp
  have hget : ∀ k, k < len → ((List.range len).map g)[k]? = some (g k) := fun k hk => by rw [List.getElem?_map, List.getElem?_range hk]; rfl
  refine ⟨some a, cap, (List.range len).map g, by rw [hlen], ?_, ?_⟩
  · rw [hlen]
    refine ⟨by rw [flat_len hf, hlen], some a, cap, rfl, hl, by simpa [maxLen] using hm, (fun h => by cases h), fun hn => ?_⟩
    have hcell : ∀ k j u, k < len → j < s → (f (g k))[j]? = some u → w.cell? (a.add (k * s + j)) = some u := by
      intro k j u hk hj hu
      have h1 := (hg k hk).2
      obtain ⟨_, h2, h3⟩ := World.cells?_some h1
      have := h3 j hj
      rwa [Deep.add_add, hu] at this
    obtain ⟨u0, hu0⟩ : ∃ u0, (f (g 0))[0]? = some u0 := ⟨_, List.getElem?_eq_getElem (by rw [hf]; exact hs)⟩
    have h00 := hcell 0 0 u0 (by omega) hs hu0
    obtain ⟨b, off, spot⟩ := a
    have hsp : spot = none := by simpa [Addr.add] using World.cell?_spot h00
    subst hsp
    refine ⟨b, off, rfl, ?_, fun j u hu => ?_⟩
    · rw [add_spot] at h00
      unfold World.cell? at h00
      rcases hh : w.heap[b]? with _ | o
      · simp [hh] at h00
      · exact (Array.getElem?_eq_some_iff.1 hh).1
    · have hj : j < len * s := by
        rw [List.getElem?_eq_some_iff] at hu
        obtain ⟨h, _⟩ := hu
        rw [flat_len hf, hlen] at h; exact h
      have hk : j / s < len := Nat.div_lt_of_lt_mul (by rw [Nat.mul_comm]; exact hj)
      have hr : j % s < s := Nat.mod_lt _ hs
      have e : j / s * s + j % s = j := by rw [Nat.mul_comm]; exact Nat.div_add_mod _ _
      have h5 := flat_at hf ((List.range len).map g) (j / s) (g (j / s)) (hget _ hk) (j % s) hr
      rw [e, hu] at h5
      have := hcell (j / s) (j % s) u hk hr h5.symm
      rwa [e, add_spot] at this
  · intro i hi
    obtain ⟨k, hk, rfl⟩ := List.mem_map.1 hi
    exact (hg k (List.mem_range.1 hk)).1
/-- The same of an argument by value. -/
theorem open_flatA {α : Type} [Inhabited α] {e t : TypeId} {s : Nat} (hs : 0 < s) (f : α → List Value) (hf : ∀ x, (f x).length = s) (Q : α → Prop) (hC : Try.prog.cellsOf e = s)
    (hel : ∀ (fuel : Nat) (cs : List Value) (x : DataW H × List MemPlace), DataW.trod enc Try.prog w base spare held fuel e cs = some x → ∃ v, Q v ∧ cs = f v)
    (ht : Try.prog.underlying t = some (.slice e)) {r : Reach} {b0 : Nat} {v : Value} {d : DataW H} {ps : List MemPlace} (hval : Value.okWide Try.prog w r b0 t v) (hd : DataW.Trod enc Try.prog w base spare held t v d ps) :
    ∃ (A : Option Addr) (c : Nat) (l : List α), v = .slice A l.length c ∧ Row w w.heap.size s (.slice A l.length c) l.length (flat f l) ∧ ∀ v ∈ l, Q v := by
  obtain ⟨A1, n1, c1, rfl⟩ := okWide_slice ht hval
  obtain ⟨fuel, hfu⟩ := hd
  have hc : (Value.slice A1 n1 c1).cells.toList = [.slice A1 n1 c1] := by simp [Value.cells]
  rw [hc] at hfu
  obtain ⟨A, c, l, h1, h2, h3⟩ := open_flat hs f hf Q hC hel ht hfu
  simp only [List.cons.injEq, and_true] at h1
  exact ⟨A, c, l, h1, h2, h3⟩
end
end Go.Proofs.Ytjkijjbakocilaa.Words

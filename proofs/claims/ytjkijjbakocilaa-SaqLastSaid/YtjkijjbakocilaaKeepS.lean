/- Which blocks a call leaves as they were. Nothing here speaks of one program text. -/
import Derived.Test.YtjkijjbakocilaaBoxes
namespace Go.Proofs.Ytjkijjbakocilaa.Words
set_option maxRecDepth 100000
open Go.RowKit
set_option linter.unusedVariables false

/-- All blocks but those of S stand. -/
structure KeepS (S : Nat → Prop) (w w' : World) : Prop where
  os : w'.os = w.os
  tape : w'.tape = w.tape
  output : w'.output = w.output
  size : w.heap.size ≤ w'.heap.size
  block : ∀ k, k < w.heap.size → ¬ S k → w'.heap[k]? = w.heap[k]?
section
variable {S S' : Nat → Prop} {w w' w'' : World}
theorem KeepS.refl (S : Nat → Prop) (w : World) : KeepS S w w := ⟨rfl, rfl, rfl, Nat.le_refl _, fun _ _ _ => rfl⟩
theorem KeepS.trans (h : KeepS S w w') (g : KeepS S w' w'') : KeepS S w w'' :=
  ⟨g.os.trans h.os, g.tape.trans h.tape, g.output.trans h.output, Nat.le_trans h.size g.size, fun k hk hs => (g.block k (Nat.lt_of_lt_of_le hk h.size) hs).trans (h.block k hk hs)⟩
theorem KeepS.mono (h : KeepS S w w') (hs : ∀ k, S k → S' k) : KeepS S' w w' := ⟨h.os, h.tape, h.output, h.size, fun k hk hn => h.block k hk (fun e => hn (hs k e))⟩
theorem KeepS.of_below (h : Below w.heap.size w w') : KeepS S w w' := ⟨h.os, h.tape, h.output, h.size, fun k hk _ => h.block k hk⟩
theorem KeepS.of_grown {row : Option Nat} (h : w.grownBy w' row) (hr : ∀ k, row = some k → S k) : KeepS S w w' := ⟨h.os, h.tape, h.output, h.size, fun k hk hn => h.block k hk (fun e => hn (hr k e.symm))⟩
theorem KeepS.alloc (h : KeepS S w w') (o : Obj) : KeepS S w (w'.alloc o) := h.trans (KeepS.of_below ((Below.refl _ _).alloc (Nat.le_refl _) o))
theorem KeepS.drew (h : KeepS S w w') : KeepS S w w'.drew := ⟨h.os, h.tape, h.output, h.size, h.block⟩
theorem KeepS.drewN (h : KeepS S w w') (k : Nat) : KeepS S w (w'.drewN k) := h.trans (KeepS.of_below (Below.drewN_ (Below.refl _ _) k))
theorem KeepS.setCell (h : KeepS S w w') {b : Nat} (hb : S b) (k : Nat) (v : Value) : KeepS S w (w'.setCell ⟨b, k, none⟩ v) :=
  h.trans ⟨rfl, rfl, rfl, by simp [World.setCell], fun j _ hn => Below.heap_setCell w' ⟨b, k, none⟩ v j (fun e => hn (by rw [e]; exact hb))⟩
theorem KeepS.go (h : KeepS S w w') (hb : Below w'.heap.size w' w'') : KeepS S w w'' := h.trans (KeepS.of_below hb)
/-- What lies below all of S stands. -/
theorem KeepS.below (h : KeepS S w w') {B : Nat} (hB : B ≤ w.heap.size) (hs : ∀ k, S k → B ≤ k) : Below B w w' :=
  ⟨h.os, h.tape, h.output, h.size, fun k hk => h.block k (Nat.lt_of_lt_of_le hk hB) (fun e => by have := hs k e; omega)⟩
theorem KeepS.cell (h : KeepS S w w') {b k : Nat} {v : Value} (hb : b < w.heap.size) (hn : ¬ S b) (hv : w.cell? ⟨b, k, none⟩ = some v) : w'.cell? ⟨b, k, none⟩ = some v :=
  (World.cell?_of_block (w := w) (a := ⟨b, k, none⟩) (h.block b hb hn)).trans hv
theorem Box.keepS {b : Nat} {l : List Value} (h : Box w b l) (hk : KeepS S w w') (hn : ¬ S b) : Box w' b l := by
  have hb := h.lt
  obtain ⟨t, h⟩ := h
  exact ⟨t, (hk.block b hb hn).trans h⟩
theorem own_keepS {base : Nat} {e : TypeId} {size : Nat} {v : Value} {n : Nat} {xs : List Value} (h : w.ownsRow base e size v n xs) (hk : KeepS S w w') (hn : ∀ g, v.ownBlock = some g → ¬ S g) : w'.ownsRow base e size v n xs := by
  obtain ⟨h0, h1⟩ := h
  refine ⟨h0, ?_⟩
  rcases h1 with ⟨rfl, h2⟩ | ⟨g, c, cur, rfl, h3, h4, h5⟩
  · exact .inl ⟨rfl, h2⟩
  · have hlt : g < w.heap.size := (Array.getElem?_eq_some_iff.1 h4).1
    exact .inr ⟨g, c, cur, rfl, h3, (hk.block g hlt (hn g rfl)).trans h4, h5⟩
theorem Row.keepS {B size n : Nat} {v : Value} {xs : List Value} (h : Row w B size v n xs) (hk : KeepS S w w') (hB : B ≤ w.heap.size) (hs : ∀ k, S k → B ≤ k) : Row w' B size v n xs := h.below (hk.below hB hs)
end
/-- What was new may turn. -/
theorem KeepS.newer {S : Nat → Prop} {w w' z : World} (h : KeepS S w w') (g : KeepS (fun j => w.heap.size ≤ j) w' z) : KeepS S w z :=
  ⟨g.os.trans h.os, g.tape.trans h.tape, g.output.trans h.output, Nat.le_trans h.size g.size, fun k hk hs => (g.block k (Nat.lt_of_lt_of_le hk h.size) (Nat.not_le.2 hk)).trans (h.block k hk hs)⟩
end Go.Proofs.Ytjkijjbakocilaa.Words

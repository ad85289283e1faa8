/- Rows of the call's own: two of two types lie apart; a slice of one new element; a slice is one cell. Nothing here speaks of one program text. -/
import Derived.Test.YtpoigbgdaiopmaaOwn
namespace Go.Proofs.Ytpoigbgdaiopmaa.Words
set_option maxRecDepth 100000
open Go.RowKit
set_option linter.unusedVariables false

theorem row_one3 (w : World) (a b c : Value) (t : TypeId) : Row (w.alloc (.cells #[a, b, c] t)) (w.heap.size + 1) 3 (.slice (some ⟨w.heap.size, 0, none⟩) 1 1) 1 [a, b, c] := by
  refine ⟨rfl, _, _, rfl, Nat.le_refl _, by omega, (fun h => by cases h), fun _ => ⟨w.heap.size, 0, rfl, Nat.lt_succ_self _, fun j u hu => ?_⟩⟩
  have := new_cells w #[a, b, c] t [a, b, c] rfl j u hu
  rwa [add_spot] at this
theorem own_apart {w : World} {b1 b2 s1 s2 n1 n2 : Nat} {e1 e2 : TypeId} {v1 v2 : Value} {x1 x2 : List Value} (h1 : w.ownsRow b1 e1 s1 v1 n1 x1) (h2 : w.ownsRow b2 e2 s2 v2 n2 x2) (hne : e1 ≠ e2) {g : Nat} (hg : v1.ownBlock = some g) : v1.ownBlock ≠ v2.ownBlock := by
  rcases h1.2 with ⟨rfl, _⟩ | ⟨g1, c1, cur1, rfl, _, a1, _⟩
  · cases hg
  rcases h2.2 with ⟨rfl, _⟩ | ⟨g2, c2, cur2, rfl, _, a2, _⟩
  · intro h; cases h
  · intro h
    simp only [Value.ownBlock, Option.some.injEq] at h
    subst h
    rw [a1] at a2
    simp only [Option.some.injEq, Obj.cells.injEq] at a2
    exact hne a2.2.1
theorem own_apart2 {w : World} {b1 b2 s1 s2 n1 n2 : Nat} {e1 e2 : TypeId} {v1 v2 : Value} {x1 x2 : List Value} (h1 : w.ownsRow b1 e1 s1 v1 n1 x1) (h2 : w.ownsRow b2 e2 s2 v2 n2 x2) (hne : e1 ≠ e2) : v1.ownBlock = none ∨ v1.ownBlock ≠ v2.ownBlock := by
  cases hg : v1.ownBlock with
  | none => exact .inl rfl
  | some g => exact .inr (hg ▸ own_apart h1 h2 hne hg)
theorem cell_set_other {w : World} {b b' k k' : Nat} {u v : Value} (h : w.cell? ⟨b, k, none⟩ = some v) (hne : b ≠ b') : (w.setCell ⟨b', k', none⟩ u).cell? ⟨b, k, none⟩ = some v := by
  rw [World.cell?_of_block (w := w) (a := ⟨b, k, none⟩) (Below.heap_setCell w ⟨b', k', none⟩ u b hne)]; exact h
theorem own_one {w : World} {B s n : Nat} {e : TypeId} {v : Value} {xs : List Value} (h : w.ownsRow B e s v n xs) : v.oneCell' = true := by
  rcases h.2 with ⟨rfl, _⟩ | ⟨g, cap, cur, rfl, _⟩ <;> rfl
end Go.Proofs.Ytpoigbgdaiopmaa.Words

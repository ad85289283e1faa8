/- A row of bytes (of numbers): its cells. Nothing here speaks of one program text. -/
import Derived.Test.YtjkijjbakocilaaBase
namespace Go.Proofs.Ytjkijjbakocilaa.Words
set_option maxRecDepth 100000
open Go.RowKit

theorem byte_at {zs : List Int} (hz : ∀ x ∈ zs, 0 ≤ x ∧ x ≤ 255) (j : Nat) : 0 ≤ zs.getD j 0 ∧ zs.getD j 0 ≤ 255 := by
  rw [List.getD_eq_getElem?_getD]
  rcases h : zs[j]? with _ | x
  · simp
  · simpa using hz x (List.mem_of_getElem? h)

theorem cell_row {w : World} {b off : Nat} {zs : List Int} {k : IntKind} (hc : ∀ j u, (zs.map (Value.int k))[j]? = some u → w.cell? ⟨b, off + j, none⟩ = some u) (j : Nat) (hj : j < zs.length) :
    w.cell? ⟨b, off + j, none⟩ = some (.int k (zs.getD j 0)) := by
  refine hc j _ ?_
  rw [List.getElem?_map, List.getElem?_eq_getElem hj, List.getD_eq_getElem?_getD, List.getElem?_eq_getElem hj]
  rfl
theorem Row.num {w : World} {B n : Nat} {b off c : Nat} {zs : List Int} {k : IntKind} (h : Row w B 1 (.slice (some ⟨b, off, none⟩) n c) n (zs.map (Value.int k))) (j : Nat) (hj : j < n) :
    w.cell? ⟨b, off + j, none⟩ = some (.int k (zs.getD j 0)) := by
  have hl : zs.length = n := by have := h.len; simpa using this
  have := h.cells ⟨b, off, none⟩ rfl j (.int k (zs.getD j 0)) (by rw [List.getElem?_map, List.getElem?_eq_getElem (by omega), List.getD_eq_getElem?_getD, List.getElem?_eq_getElem (by omega)]; rfl)
  rwa [add_spot] at this
end Go.Proofs.Ytjkijjbakocilaa.Words

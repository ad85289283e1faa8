/- Rows of bools of the call's own: made, read, one set. -/
import Derived.Test.YtpoigbgdaiopmaaOwnSet
import Derived.OwnWalk
import Derived.Test.YtpoigbgdaiopmaaRows
namespace Go.Proofs.Ytpoigbgdaiopmaa.Words
set_option maxRecDepth 100000
open Go.RowKit
set_option linter.unusedVariables false

theorem info_bool : (Try.prog.info? 4).map (fun i => (i.zero, i.size, i.bytes)) = some (some (.bool false), 1, 1) := by kernel_rfl
def bools (m : List Bool) : List Value := m.map Value.bool
theorem bools_set (m : List Bool) (k : Nat) (b : Bool) : (bools m).set k (.bool b) = bools (m.set k b) := by simp [bools, List.map_set]
theorem bools_get {m : List Bool} {k : Nat} (h : k < m.length) : (bools m)[k]? = some (.bool (m.getD k false)) := by
  unfold bools; rw [List.getElem?_map, List.getD_eq_getElem?_getD, List.getElem?_eq_getElem h]; rfl
theorem bools_made (n : Nat) : (madeCells (Value.bool false).cells (n * 1)).toList = bools (List.replicate n false) := by
  rw [Nat.mul_one, show (Value.bool false).cells = #[Value.bool false] from rfl, toList_madeCells_one]; simp [bools]
theorem own_bset {w : World} {base g N : Nat} {m : List Bool} (h : w.ownsRow base 4 1 (.slice (some ⟨g, 0, none⟩) N N) N (bools m)) (k : Nat) : (w.setCell ⟨g, k, none⟩ (.bool true)).ownsRow base 4 1 (.slice (some ⟨g, 0, none⟩) N N) N (bools (m.set k true)) := by
  have := (h.stored k (.bool true)).1
  rwa [bools_set] at this
theorem own_bcell {w : World} {base g N : Nat} {m : List Bool} (h : w.ownsRow base 4 1 (.slice (some ⟨g, 0, none⟩) N N) N (bools m)) {k : Nat} (hk : k < m.length) : w.cell? ⟨g, k, none⟩ = some (.bool (m.getD k false)) := by
  have hl : m.length = N := by have := h.1; simpa [bools] using this
  rw [h.cellAt k (by omega), bools_get hk]
end Go.Proofs.Ytpoigbgdaiopmaa.Words

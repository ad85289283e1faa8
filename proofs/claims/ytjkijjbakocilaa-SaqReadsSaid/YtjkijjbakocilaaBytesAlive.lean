/- The law's own helper 'alive' of chapter 5. -/
import Derived.Test.YtjkijjbakocilaaBytesLoad
import Derived.Test.YtjkijjbakocilaaBytesStore
namespace Go.Proofs.Ytjkijjbakocilaa.Words
set_option maxRecDepth 100000
open Go.RowKit
set_option linter.unusedVariables false

theorem storeZ_bytes {zs : List Int} {size addr v : Int} (hz : ∀ x ∈ zs, 0 ≤ x ∧ x ≤ 255) : ∀ x ∈ storeZ zs size addr v, 0 ≤ x ∧ x ≤ 255 := by
  have one : ∀ (l : List Int) (k : Nat) (y : Int), (∀ x ∈ l, 0 ≤ x ∧ x ≤ 255) → (0 ≤ y ∧ y ≤ 255) → ∀ x ∈ l.set k y, 0 ≤ x ∧ x ≤ 255 := by
    intro l k y hl hy x hx
    rcases List.mem_or_eq_of_mem_set hx with h | rfl
    · exact hl x h
    · exact hy
  unfold storeZ
  split
  · split
    · exact one _ _ _ hz (by omega)
    · split
      · exact one _ _ _ (one _ _ _ hz (by omega)) (by omega)
      · exact one _ _ _ (one _ _ _ (one _ _ _ (one _ _ _ hz (by omega)) (by omega)) (by omega)) (by omega)
  · exact hz

end Go.Proofs.Ytjkijjbakocilaa.Words

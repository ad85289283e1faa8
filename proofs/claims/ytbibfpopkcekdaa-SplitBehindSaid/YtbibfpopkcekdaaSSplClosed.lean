/- Plain mathematics of chapter 13: the least owner may be; what a split of either owner has. -/
import Derived.Test.YtbibfpopkcekdaaG12
import Derived.Test.YtbibfpopkcekdaaSOnrMake
namespace Go.Proofs.Ytbibfpopkcekdaa.Words
set_option maxRecDepth 100000
open Go.RowKit
set_option linter.unusedVariables false

theorem closedS_iff {l : List Ins} {sz : Int} {m : Nat} {o : List Int} (ho : o.length = 16) : closedZ l sz m o = true ↔ OkO o ∧ rightZ l sz m = true ∧ AllO l o := by
  unfold closedZ
  rw [Bool.and_eq_true, Bool.and_eq_true, ownersB_ok ho, all_free, and_assoc]
theorem closedS_least {l : List Ins} {sz : Int} {m : Nat} (h : rightZ l sz m = true) : closedZ l sz m (ofZ l sz m) = true := by
  rw [closedS_iff ofZ_len]
  have hc := (rightZ_insO h).2
  have e : ofZ l sz m = leastO l := by unfold ofZ; rw [if_pos h]
  rw [e]
  exact ⟨least_ok l hc, h, least_all hc⟩
/-- Each block of a split has the bounds of Cut's block. -/
theorem fill_at {z : List Int} {l : List Ins} {bs : List Blk} {k : Nat} {b : Blk} (h : bs[k]? = some b) : (bs.map (fillB z l))[k]? = some (fillB z l b) := by rw [List.getElem?_map, h]; rfl
end Go.Proofs.Ytbibfpopkcekdaa.Words

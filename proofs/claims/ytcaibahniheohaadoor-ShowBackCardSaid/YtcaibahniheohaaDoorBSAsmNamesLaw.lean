/- The walk of AsmNames: names stand for operations, each once. -/
import Derived.Test.YtcaibahniheohaaDoorBG08
import Derived.Deep.QuietTactic
import Derived.BigQuiet
namespace Go.Proofs.YtcaibahniheohaaDoor.Words
set_option maxRecDepth 100000
open Go.RowKit Go.Shelf Go.Lib
set_option linter.unusedVariables false
set_option linter.unusedSimpArgs false
theorem names_row {w : World} {B n c : Nat} {b off : Nat} (h : Row w B 1 (.slice (some ⟨b, off, none⟩) 41 c) 41 namesL) {k : Nat} (hk : k < 41) : w.cell? ⟨b, off + k, none⟩ = some (.string (txt (namesZ.getD k []))) := by
  obtain ⟨b', o', he, hb, hc⟩ := h.at_ (by omega)
  injection he with he
  injection he with he1 he2
  subst he1; subst he2
  refine hc k _ ?_
  have e : namesZ[k]? = some namesZ[k] := List.getElem?_eq_getElem (show k < 41 from hk)
  unfold namesL
  rw [List.getElem?_map, e, List.getD_eq_getElem?_getD, e]; rfl
end Go.Proofs.YtcaibahniheohaaDoor.Words

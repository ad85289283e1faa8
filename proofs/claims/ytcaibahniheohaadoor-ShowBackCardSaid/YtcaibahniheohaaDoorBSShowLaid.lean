/- The tables that a row of chapter 9 lists are laid: the facts that the walks ask. -/
import Derived.Test.YtcaibahniheohaaDoorBG25
import Derived.Test.YtcaibahniheohaaDoorBG28
namespace Go.Proofs.YtcaibahniheohaaDoor.Words
set_option maxRecDepth 100000
open Go.RowKit Go.Shelf Go.Lib
set_option linter.unusedVariables false
theorem shapesS_eq : (Rows.laid_forerunner_show_shapes : DataW Unit) = strsData shapesS := by kernel_rfl
theorem pow10_eq : (Rows.laid_internal_strconv_uint64pow10 : DataW Unit) = tabData .u64 pow10Tab := by kernel_rfl
theorem shapesS_of_reads {W : World} (h : VarReads Tryd.prog W "forerunner/show.shapes" (strsData shapesS)) : ShapesS W := by
  obtain ⟨g, t, cs, fuel, p, hg, hty, hvar, hd⟩ := h
  have hg2 : Tryd.prog.globalNamed "forerunner/show.shapes" = some 3 := by kernel_rfl
  obtain rfl := Option.some.inj (hg.symm.trans hg2)
  have ht2 : (Tryd.prog.globals[3]?).map (·.type) = some 153 := by kernel_rfl
  obtain rfl := Option.some.inj (hty.symm.trans ht2)
  have hcs := cells_of_strs Tryd.underlying153 Tryd.underlying9 (by kernel_rfl) (by kernel_rfl) hd
  unfold World.var? at hvar
  rw [hg2] at hvar
  simp only [Option.bind_some] at hvar
  split at hvar
  · rename_i cs' ty fr hh
    injection hvar with hvar
    subst hvar
    refine ⟨(Array.getElem?_eq_some_iff.1 hh).1, fun k t ht => ?_⟩
    rw [cell_of_row W _ k _ _ _ hh]
    have : cs'[k]? = cs'.toList[k]? := by simp
    rw [this, hcs, List.getElem?_map, ht]
    rfl
  · cases hvar
end Go.Proofs.YtcaibahniheohaaDoor.Words

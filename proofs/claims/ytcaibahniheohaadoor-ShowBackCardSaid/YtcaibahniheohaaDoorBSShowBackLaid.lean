/- The tables that ShowBack's row lists are laid: the facts that its walk asks. -/
import Derived.Test.YtcaibahniheohaaDoorBSShowLaid
import Derived.Test.YtcaibahniheohaaDoorBG11
namespace Go.Proofs.YtcaibahniheohaaDoor.Words
set_option maxRecDepth 100000
open Go.RowKit Go.Shelf Go.Lib
set_option linter.unusedVariables false
def laidLB : List (String × DataW Unit) := [("math/bits.deBruijn32tab", Rows.laid_math_bits_deBruijn32tab), ("math/bits.deBruijn64tab", Rows.laid_math_bits_deBruijn64tab), ("internal/strconv.uint64pow10", Rows.laid_internal_strconv_uint64pow10), ("unicode.properties", Rows.laid_unicode_properties), ("forerunner/show.shapes", Rows.laid_forerunner_show_shapes), ("unicode.Letter", Rows.laid_unicode_Letter)]
theorem tabsB_of_laid {W : World} (h : laidMet Tryd.prog laidLB W) : TabsS W ∧ TabsL W := by
  have h3 := laidMet.reads h (.tail _ (.tail _ (.head _)))
  have h5 := laidMet.reads h (.tail _ (.tail _ (.tail _ (.head _))))
  have h4 := laidMet.reads h (.tail _ (.tail _ (.tail _ (.tail _ (.head _)))))
  have h6 := laidMet.reads h (.tail _ (.tail _ (.tail _ (.tail _ (.tail _ (.head _))))))
  rw [pow10_eq] at h3
  rw [shapesS_eq] at h4
  rw [props_eq] at h5
  rw [letter_eq] at h6
  exact ⟨⟨tab_of_reads (g := 6) (t := 188) (e := 180) (n := 20) (by kernel_rfl) (by kernel_rfl) Tryd.underlying188 Tryd.underlying180 (by kernel_rfl) (by kernel_rfl) h3, shapesS_of_reads h4⟩,
    tab_of_reads (g := 0) (t := 140) (e := 5) (n := 256) (by kernel_rfl) (by kernel_rfl) Tryd.underlying140 Tryd.underlying5 (by kernel_rfl) (by kernel_rfl) h5,
    rvar_of_reads { Tryd.lays200 with } xLetter (by kernel_rfl) (by kernel_rfl) h6⟩
end Go.Proofs.YtcaibahniheohaaDoor.Words

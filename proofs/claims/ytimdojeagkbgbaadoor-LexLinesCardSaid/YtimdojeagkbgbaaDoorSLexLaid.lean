/- The tables that a row of chapter 7 lists are laid: the fact that the walks ask, and the world of the witness. -/
import Derived.Test.YtimdojeagkbgbaaDoorRows
import Derived.Test.YtimdojeagkbgbaaDoorG00
import Derived.PinnedBridge
import Derived.Lib.LaidU8
import Derived.Lib.LaidRTab
import Derived.Lay
namespace Go.Proofs.YtimdojeagkbgbaaDoor.Words
set_option maxRecDepth 100000
open Go.RowKit Go.Shelf Go.Lib
set_option linter.unusedVariables false

/-- The list. -/
def laidL : List (String × DataW Unit) := [("unicode/utf8.acceptRanges", Rows.laid_unicode_utf8_acceptRanges), ("unicode.properties", Rows.laid_unicode_properties), ("unicode.Letter", Rows.laid_unicode_Letter), ("unicode/utf8.first", Rows.laid_unicode_utf8_first)]
theorem accept_eq : (Rows.laid_unicode_utf8_acceptRanges : DataW Unit) = acceptData := by kernel_rfl
theorem props_eq : (Rows.laid_unicode_properties : DataW Unit) = tabData .u8 propertiesTab := by kernel_rfl
theorem letter_eq : Rows.laid_unicode_Letter = rtabData letterT := Pinned.letter_eq
theorem first_eq : Rows.laid_unicode_utf8_first = firstData := Pinned.utf8First_eq
theorem xLetter : RExtra Tryd.prog Tryd.lays200_ren := ⟨by kernel_rfl, by kernel_rfl, by kernel_rfl, by kernel_rfl, by kernel_rfl, by kernel_rfl, by kernel_rfl, by kernel_rfl⟩
theorem xFirst : U8Extra Tryd.prog Tryd.lays260_ren := ⟨by kernel_rfl, by kernel_rfl, by kernel_rfl, by kernel_rfl, by kernel_rfl, by kernel_rfl, by kernel_rfl⟩
theorem tab_of_reads {P : Program} {W : World} {name : String} {k : IntKind} {zs : List Int} {g : Nat} {t e : TypeId} {n : Nat}
    (hg : P.globalNamed name = some g) (hty : (P.globals[g]?).map (·.type) = some t) (ht : P.underlying t = some (.array n e)) (he : P.underlying e = some (.int k)) (hce : P.cellsOf e = 1) (hct : P.cellsOf t = n)
    (h : VarReads P W name (tabData k zs)) : Lib.TabIs P W name k zs := by
  obtain ⟨g', t', cs, fuel, p, hg', ht', hvar, hd⟩ := h
  obtain rfl := Option.some.inj (hg.symm.trans hg')
  obtain rfl := Option.some.inj (hty.symm.trans ht')
  unfold Lib.TabIs
  rw [hvar, ← cells_of_tab ht he hce hct hd]
theorem tabs_of_laid {W : World} (h : laidMet Tryd.prog laidL W) : Tabs W := by
  have h1 := laidMet.reads h (.head _)
  have h2 := laidMet.reads h (.tail _ (.head _))
  have h3 := laidMet.reads h (.tail _ (.tail _ (.head _)))
  have h4 := laidMet.reads h (.tail _ (.tail _ (.tail _ (.head _))))
  rw [accept_eq] at h1
  rw [props_eq] at h2
  rw [letter_eq] at h3
  rw [first_eq] at h4
  refine ⟨?_, ?_, ?_⟩
  · exact tab_of_reads (g := 0) (t := 117) (e := 5) (n := 256) (by kernel_rfl) (by kernel_rfl) Tryd.underlying117 Tryd.underlying5 (by kernel_rfl) (by kernel_rfl) h2
  · exact rvar_of_reads { Tryd.lays200 with } xLetter (by kernel_rfl) (by kernel_rfl) h3
  · exact utf8Tabs_of_reads Tryd.lays260 xFirst h4 h1
end Go.Proofs.YtimdojeagkbgbaaDoor.Words

/- The tables that a row of chapter 8 lists are laid: the facts that the walks ask. -/
import Derived.Test.YtimdojeagkbgbaaDoorLexLaid
import Derived.Test.YtimdojeagkbgbaaDoorAsmAlive
namespace Go.Proofs.YtimdojeagkbgbaaDoor.Words
set_option maxRecDepth 100000
open Go.RowKit Go.Shelf Go.Lib
set_option linter.unusedVariables false

/-- The list. -/
def laidLA : List (String × DataW Unit) := [("unicode/utf8.acceptRanges", Rows.laid_unicode_utf8_acceptRanges), ("unicode.properties", Rows.laid_unicode_properties), ("forerunner/asm.shapes", Rows.laid_forerunner_asm_shapes), ("unicode.Letter", Rows.laid_unicode_Letter), ("unicode/utf8.first", Rows.laid_unicode_utf8_first)]
def strsData {H : Type} (zs : List (List UInt8)) : DataW H := .agg (zs.map fun z => .lit (.string z))
theorem shapes_eq : (Rows.laid_forerunner_asm_shapes : DataW Unit) = strsData shapesZ := by kernel_rfl
/-- An array of strings that reads as a row of texts holds these, cell for cell. -/
theorem cells_of_strs {H : Type} {enc : TypeId × Value → H} {P : Program} {w : World} {base : Nat} {sp : Nat → Bool} {held : Bool} {fuel : Nat} {t e : TypeId} {n : Nat} {cs : List Value} {zs : List (List UInt8)} {p : List MemPlace}
    (ht : P.underlying t = some (.array n e)) (he : P.underlying e = some .string) (hce : P.cellsOf e = 1) (hct : P.cellsOf t = n)
    (h : DataW.trod enc P w base sp held fuel t cs = some (strsData zs, p)) : cs = zs.map fun z => Value.string (txt z) := by
  cases fuel with
  | zero => simp [DataW.trod] at h
  | succ fuel =>
    simp only [DataW.trod, ht, hce, hct, Nat.mul_one] at h
    split at h
    · rename_i hl
      obtain ⟨xs, hm, hx⟩ := Option.map_eq_some_iff.1 h
      have hxs : xs.map (·.1) = zs.map fun z => (DataW.lit (.string z) : DataW H) := by
        have := congrArg Prod.fst hx
        simpa [strsData] using this
      have hxl : xs.length = n := by simpa using mapM_length hm
      have hzl : zs.length = n := by
        have := congrArg List.length hxs
        simp at this
        omega
      apply List.ext_getElem?
      intro i
      by_cases hi : i < n
      · obtain ⟨b, hb, hf⟩ := mapM_at hm i i (by simp [hi])
        obtain ⟨z, hc, rfl, _⟩ := DataW.trod_string he hf
        have h1 : cs[i]? = some (.string z) := by
          have := congrArg (·[0]?) hc
          simpa [List.getElem?_take, List.getElem?_drop] using this
        have h2 : (xs.map (·.1))[i]? = some (DataW.lit (.string z.data.toList) : DataW H) := by simp [hb]
        rw [hxs] at h2
        simp only [List.getElem?_map, Option.map_eq_some_iff, DataW.lit.injEq, Lit.string.injEq] at h2
        obtain ⟨z', hz', hzz⟩ := h2
        rw [h1, List.getElem?_map, hz', Option.map_some, txt_eq hzz.symm]
      · rw [List.getElem?_eq_none (by omega), List.getElem?_eq_none (by simp; omega)]
    · cases h
theorem shapes_of_reads {W : World} (h : VarReads Tryd.prog W "forerunner/asm.shapes" (strsData shapesZ)) : Shapes W := by
  obtain ⟨g, t, cs, fuel, p, hg, hty, hvar, hd⟩ := h
  have hg2 : Tryd.prog.globalNamed "forerunner/asm.shapes" = some 4 := by kernel_rfl
  obtain rfl := Option.some.inj (hg.symm.trans hg2)
  have ht2 : (Tryd.prog.globals[4]?).map (·.type) = some 154 := by kernel_rfl
  obtain rfl := Option.some.inj (hty.symm.trans ht2)
  have hcs := cells_of_strs Tryd.underlying154 Tryd.underlying9 (by kernel_rfl) (by kernel_rfl) hd
  unfold World.var? at hvar
  rw [hg2] at hvar
  simp only [Option.bind_some] at hvar
  split at hvar
  · rename_i cs' ty fr hh
    injection hvar with hvar
    subst hvar
    refine ⟨(Array.getElem?_eq_some_iff.1 hh).1, fun k t ht => ?_⟩
    rw [cell_of_row W _ k _ _ _ hh]
    have : cs'[k]? = cs'.toList[k]? := by simp
    rw [this, hcs, List.getElem?_map, ht]
    rfl
  · cases hvar
theorem tabsA_of_laid {W : World} (h : laidMet Tryd.prog laidLA W) : TabsA W := by
  have h1 := laidMet.reads h (.head _)
  have h2 := laidMet.reads h (.tail _ (.head _))
  have h3 := laidMet.reads h (.tail _ (.tail _ (.head _)))
  have h4 := laidMet.reads h (.tail _ (.tail _ (.tail _ (.head _))))
  have h5 := laidMet.reads h (.tail _ (.tail _ (.tail _ (.tail _ (.head _)))))
  rw [accept_eq] at h1
  rw [props_eq] at h2
  rw [shapes_eq] at h3
  rw [letter_eq] at h4
  rw [first_eq] at h5
  refine ⟨⟨?_, ?_, ?_⟩, shapes_of_reads h3⟩
  · exact tab_of_reads (g := 0) (t := 117) (e := 5) (n := 256) (by kernel_rfl) (by kernel_rfl) Tryd.underlying117 Tryd.underlying5 (by kernel_rfl) (by kernel_rfl) h2
  · exact rvar_of_reads { Tryd.lays200 with } xLetter (by kernel_rfl) (by kernel_rfl) h4
  · exact utf8Tabs_of_reads Tryd.lays260 xFirst h5 h1
end Go.Proofs.YtimdojeagkbgbaaDoor.Words

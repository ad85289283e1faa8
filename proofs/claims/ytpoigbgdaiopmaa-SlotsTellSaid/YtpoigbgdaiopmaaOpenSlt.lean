/- An argument that is a slice of places: its plain data. -/
import Derived.Test.YtpoigbgdaiopmaaOpenFlat
import Derived.Test.YtpoigbgdaiopmaaStaData
namespace Go.Proofs.Ytpoigbgdaiopmaa.Words
set_option maxRecDepth 100000
open Go.ChangeShapes Go.WideShapes Go.ChangeAt Go.RowKit
set_option linter.unusedVariables false
set_option linter.unusedSimpArgs false

section
variable {H : Type} {enc : TypeId × Value → H} {w : World} {base : Nat} {spare : Nat → Bool} {held : Bool}
instance : Inhabited Slt := ⟨⟨0, false, 0⟩⟩
def Slt.Fits (x : Slt) : Prop := (-9223372036854775808 ≤ x.tag ∧ x.tag ≤ 9223372036854775807) ∧ 0 ≤ x.val ∧ x.val ≤ 4294967295
theorem slt_cells {fuel : Nat} {cs : List Value} {x : DataW H × List MemPlace} (h : DataW.trod enc Try.prog w base spare held fuel 37 cs = some x) :
    ∃ c : Slt, c.Fits ∧ cs = sltL c := by
  obtain ⟨xs, n, _, _, hlen, hxl, hg⟩ := DataW.trod_struct Try.underlying37 h
  have hC : Try.prog.cellsOf 37 = 3 := by kernel_rfl
  have hc1 : Try.prog.cellsOf 3 = 1 := by kernel_rfl
  have hc2 : Try.prog.cellsOf 4 = 1 := by kernel_rfl
  have hc3 : Try.prog.cellsOf 23 = 1 := by kernel_rfl
  rw [hC] at hlen
  have hxl' : xs.length = 3 := hxl
  match cs, hlen with
  | [c0, c1, c2], _ =>
    have g0 : DataW.trod enc Try.prog w base spare held n 3 [c0] = some xs[0] := by
      have e := hg 0 _ rfl
      rw [List.getElem?_eq_getElem (by omega)] at e
      rw [← e]
      simp [hc1]
    have g1 : DataW.trod enc Try.prog w base spare held n 4 [c1] = some xs[1] := by
      have e := hg 1 _ rfl
      rw [List.getElem?_eq_getElem (by omega)] at e
      rw [← e]
      simp [hc2]
    have g2 : DataW.trod enc Try.prog w base spare held n 23 [c2] = some xs[2] := by
      have e := hg 2 _ rfl
      rw [List.getElem?_eq_getElem (by omega)] at e
      rw [← e]
      simp [hc3]
    obtain ⟨n0, e0, _, f0⟩ := DataW.trod_int Try.underlying3 g0
    obtain ⟨n1, e1, _⟩ := DataW.trod_bool Try.underlying4 g1
    obtain ⟨n2, e2, _, f2⟩ := DataW.trod_int Try.underlying23 g2
    simp only [List.cons.injEq, and_true] at e0 e1 e2
    subst e0 e1 e2
    exact ⟨⟨n0, n1, n2⟩, ⟨bounds_i64 f0, bounds_u32 f2⟩, rfl⟩
theorem open_slts {t : TypeId} (ht : Try.prog.underlying t = some (.slice 37)) {r : Reach} {b0 : Nat} {v : Value} {d : DataW H} {ps : List MemPlace} (hval : Value.okWide Try.prog w r b0 t v) (hd : DataW.Trod enc Try.prog w base spare held t v d ps) :
    ∃ (A : Option Addr) (c : Nat) (l : List Slt), v = .slice A l.length c ∧ Row w w.heap.size 3 (.slice A l.length c) l.length (flat sltL l) ∧ ∀ v ∈ l, v.Fits :=
  open_flatA (by omega) sltL sltL_len Slt.Fits (by kernel_rfl) (fun _ _ _ h => slt_cells h) ht hval hd
end
end Go.Proofs.Ytpoigbgdaiopmaa.Words

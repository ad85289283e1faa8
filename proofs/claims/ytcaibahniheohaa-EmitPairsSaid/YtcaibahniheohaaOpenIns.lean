/- An argument that is an instruction (a struct of five ints by value): its five numbers. -/
import Derived.Test.YtcaibahniheohaaIsaMath
import Derived.Test.YtcaibahniheohaaPData
import Derived.Test.YtcaibahniheohaaRows
import Derived.ProofKit
import Derived.OpenShut
import Derived.ChangeOld
namespace Go.Proofs.Ytcaibahniheohaa.Words
set_option maxRecDepth 100000
open Go.ChangeShapes Go.WideShapes Go.ChangeAt Go.RowKit

section
variable {H : Type} {enc : TypeId × Value → H} {w : World} {base : Nat} {spare : Nat → Bool} {held : Bool}


theorem ins_cells {fuel : Nat} {cs : List Value} {x : DataW H × List MemPlace} (h : DataW.trod enc Try.prog w base spare held fuel 23 cs = some x) :
    ∃ i : Ins, i.Fits ∧ cs = insCells i := by
  obtain ⟨xs, n, _, _, hlen, hxl, hg⟩ := DataW.trod_struct Try.underlying23 h
  have hC : Try.prog.cellsOf 23 = 5 := by kernel_rfl
  have hc1 : Try.prog.cellsOf 3 = 1 := by kernel_rfl
  rw [hC] at hlen
  have hxl' : xs.length = 5 := hxl
  match cs, hlen with
  | [c0, c1, c2, c3, c4], _ =>
    have g : ∀ (j : Nat) (hj : j < 5), DataW.trod enc Try.prog w base spare held n 3 (([c0, c1, c2, c3, c4].drop j).take 1) = some xs[j] := by
      intro j hj
      rw [← List.getElem?_eq_getElem (by omega), ← hc1]
      match j, hj with
      | 0, _ => exact hg 0 _ rfl
      | 1, _ => exact hg 1 _ rfl
      | 2, _ => exact hg 2 _ rfl
      | 3, _ => exact hg 3 _ rfl
      | 4, _ => exact hg 4 _ rfl
    obtain ⟨n0, e0, _, f0⟩ := DataW.trod_int Try.underlying3 (g 0 (by omega))
    obtain ⟨n1, e1, _, f1⟩ := DataW.trod_int Try.underlying3 (g 1 (by omega))
    obtain ⟨n2, e2, _, f2⟩ := DataW.trod_int Try.underlying3 (g 2 (by omega))
    obtain ⟨n3, e3, _, f3⟩ := DataW.trod_int Try.underlying3 (g 3 (by omega))
    obtain ⟨n4, e4, _, f4⟩ := DataW.trod_int Try.underlying3 (g 4 (by omega))
    simp only [List.drop_zero, List.take_succ_cons, List.take_zero, List.drop_succ_cons, List.cons.injEq, and_true] at e0 e1 e2 e3 e4
    subst e0 e1 e2 e3 e4
    exact ⟨⟨n0, n1, n2, n3, n4⟩, ⟨bounds_i64 f0, bounds_i64 f1, bounds_i64 f2, bounds_i64 f3, bounds_i64 f4⟩, rfl⟩

theorem open_ins {r : Reach} {b0 : Nat} {v : Value} {d : DataW H} {ps : List MemPlace} (hval : Value.okWide Try.prog w r b0 23 v) (hd : DataW.Trod enc Try.prog w base spare held 23 v d ps) :
    ∃ i : Ins, i.Fits ∧ v = .agg #[.int .i64 i.op, .int .i64 i.d, .int .i64 i.a, .int .i64 i.b, .int .i64 i.imm] := by
  obtain ⟨cs, rfl, _⟩ := okWide_struct Try.underlying23 hval
  obtain ⟨fuel, hf⟩ := hd
  obtain ⟨i, hi, hc⟩ := ins_cells hf
  refine ⟨i, hi, ?_⟩
  obtain ⟨l⟩ := cs
  have : l = insCells i := by simpa [Value.cells] using hc
  rw [this]; rfl
end
end Go.Proofs.Ytcaibahniheohaa.Words

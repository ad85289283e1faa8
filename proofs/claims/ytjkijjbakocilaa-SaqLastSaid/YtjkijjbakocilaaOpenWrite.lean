/- An argument that is a struct of 3 ints by value (api.Write): its numbers. -/
import Derived.Test.YtjkijjbakocilaaRows
import Derived.WalkKit
import Derived.ProofKit
import Derived.OpenShut
import Derived.ChangeOld
namespace Go.Proofs.Ytjkijjbakocilaa.Words
set_option maxRecDepth 100000
open Go.ChangeShapes Go.WideShapes Go.ChangeAt Go.RowKit

/-- The numbers. -/
structure Wr where
  addr : Int
  size : Int
  val : Int
deriving DecidableEq
/-- They are of Go's int. -/
def Wr.Fits (i : Wr) : Prop :=
  (-9223372036854775808 ≤ i.addr ∧ i.addr ≤ 9223372036854775807) ∧ (-9223372036854775808 ≤ i.size ∧ i.size ≤ 9223372036854775807) ∧ (0 ≤ i.val ∧ i.val ≤ 4294967295)

section
variable {H : Type} {enc : TypeId × Value → H} {w : World} {base : Nat} {spare : Nat → Bool} {held : Bool}

def wrCells (i : Wr) : List Value := [.int .i64 i.addr, .int .i64 i.size, .int .u32 i.val]

theorem wr_cells {fuel : Nat} {cs : List Value} {x : DataW H × List MemPlace} (h : DataW.trod enc Try.prog w base spare held fuel 41 cs = some x) :
    ∃ i : Wr, i.Fits ∧ cs = wrCells i := by
  obtain ⟨xs, n, _, _, hlen, hxl, hg⟩ := DataW.trod_struct Try.underlying41 h
  have hC : Try.prog.cellsOf 41 = 3 := by kernel_rfl
  have hc_int : Try.prog.cellsOf 3 = 1 := by kernel_rfl
  have hc_uint32 : Try.prog.cellsOf 23 = 1 := by kernel_rfl
  rw [hC] at hlen
  have hxl' : xs.length = 3 := hxl
  match cs, hlen with
  | [c0, c1, c2], _ =>
    have g0 : DataW.trod enc Try.prog w base spare held n 3 (([c0, c1, c2].drop 0).take 1) = some (xs[0]'(by omega)) := by rw [← List.getElem?_eq_getElem (by omega), ← hc_int]; exact hg 0 _ rfl
    obtain ⟨n0, e0, _, f0⟩ := DataW.trod_int Try.underlying3 g0
    have g1 : DataW.trod enc Try.prog w base spare held n 3 (([c0, c1, c2].drop 1).take 1) = some (xs[1]'(by omega)) := by rw [← List.getElem?_eq_getElem (by omega), ← hc_int]; exact hg 1 _ rfl
    obtain ⟨n1, e1, _, f1⟩ := DataW.trod_int Try.underlying3 g1
    have g2 : DataW.trod enc Try.prog w base spare held n 23 (([c0, c1, c2].drop 2).take 1) = some (xs[2]'(by omega)) := by rw [← List.getElem?_eq_getElem (by omega), ← hc_uint32]; exact hg 2 _ rfl
    obtain ⟨n2, e2, _, f2⟩ := DataW.trod_int Try.underlying23 g2
    simp only [List.drop_zero, List.take_succ_cons, List.take_zero, List.drop_succ_cons, List.cons.injEq, and_true] at e0 e1 e2
    subst e0 e1 e2
    exact ⟨⟨n0, n1, n2⟩, ⟨bounds_i64 f0, bounds_i64 f1, bounds_u32 f2⟩, rfl⟩

theorem open_wr {r : Reach} {b0 : Nat} {v : Value} {d : DataW H} {ps : List MemPlace} (hval : Value.okWide Try.prog w r b0 41 v) (hd : DataW.Trod enc Try.prog w base spare held 41 v d ps) :
    ∃ i : Wr, i.Fits ∧ v = .agg #[.int .i64 i.addr, .int .i64 i.size, .int .u32 i.val] := by
  obtain ⟨cs, rfl, _⟩ := okWide_struct Try.underlying41 hval
  obtain ⟨fuel, hf⟩ := hd
  obtain ⟨i, hi, hc⟩ := wr_cells hf
  refine ⟨i, hi, ?_⟩
  obtain ⟨l⟩ := cs
  have : l = wrCells i := by simpa [Value.cells] using hc
  rw [this]; rfl
end
end Go.Proofs.Ytjkijjbakocilaa.Words

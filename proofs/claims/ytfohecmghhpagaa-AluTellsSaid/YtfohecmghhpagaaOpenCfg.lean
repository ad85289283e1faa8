/- An argument that is a struct of 12 ints by value (api.Config): its numbers. -/
import Derived.Test.YtfohecmghhpagaaRows
import Derived.WalkKit
import Derived.ProofKit
import Derived.OpenShut
import Derived.ChangeOld
namespace Go.Proofs.Ytfohecmghhpagaa.Words
open Go.ChangeShapes Go.WideShapes Go.ChangeAt Go.RowKit

/-- The numbers. -/
structure Cfg where
  ldq : Int
  sdq : Int
  aeq : Int
  abq : Int
  ebq : Int
  saq : Int
  banks : Int
  flight : Int
  slip : Int
  lat : Int
  mul : Int
  div : Int
/-- They are of Go's int. -/
def Cfg.Fits (i : Cfg) : Prop :=
  (-9223372036854775808 ≤ i.ldq ∧ i.ldq ≤ 9223372036854775807) ∧ (-9223372036854775808 ≤ i.sdq ∧ i.sdq ≤ 9223372036854775807) ∧ (-9223372036854775808 ≤ i.aeq ∧ i.aeq ≤ 9223372036854775807) ∧ (-9223372036854775808 ≤ i.abq ∧ i.abq ≤ 9223372036854775807) ∧ (-9223372036854775808 ≤ i.ebq ∧ i.ebq ≤ 9223372036854775807) ∧ (-9223372036854775808 ≤ i.saq ∧ i.saq ≤ 9223372036854775807) ∧ (-9223372036854775808 ≤ i.banks ∧ i.banks ≤ 9223372036854775807) ∧ (-9223372036854775808 ≤ i.flight ∧ i.flight ≤ 9223372036854775807) ∧ (-9223372036854775808 ≤ i.slip ∧ i.slip ≤ 9223372036854775807) ∧ (-9223372036854775808 ≤ i.lat ∧ i.lat ≤ 9223372036854775807) ∧ (-9223372036854775808 ≤ i.mul ∧ i.mul ≤ 9223372036854775807) ∧ (-9223372036854775808 ≤ i.div ∧ i.div ≤ 9223372036854775807)

section
variable {H : Type} {enc : TypeId × Value → H} {w : World} {base : Nat} {spare : Nat → Bool} {held : Bool}

def cfgCells (i : Cfg) : List Value := [.int .i64 i.ldq, .int .i64 i.sdq, .int .i64 i.aeq, .int .i64 i.abq, .int .i64 i.ebq, .int .i64 i.saq, .int .i64 i.banks, .int .i64 i.flight, .int .i64 i.slip, .int .i64 i.lat, .int .i64 i.mul, .int .i64 i.div]

theorem cfg_cells {fuel : Nat} {cs : List Value} {x : DataW H × List MemPlace} (h : DataW.trod enc Try.prog w base spare held fuel 26 cs = some x) :
    ∃ i : Cfg, i.Fits ∧ cs = cfgCells i := by
  obtain ⟨xs, n, _, _, hlen, hxl, hg⟩ := DataW.trod_struct Try.underlying26 h
  have hC : Try.prog.cellsOf 26 = 12 := by kernel_rfl
  have hc1 : Try.prog.cellsOf 3 = 1 := by kernel_rfl
  rw [hC] at hlen
  have hxl' : xs.length = 12 := hxl
  match cs, hlen with
  | [c0, c1, c2, c3, c4, c5, c6, c7, c8, c9, c10, c11], _ =>
    have g : ∀ (j : Nat) (hj : j < 12), DataW.trod enc Try.prog w base spare held n 3 (([c0, c1, c2, c3, c4, c5, c6, c7, c8, c9, c10, c11].drop j).take 1) = some xs[j] := by
      intro j hj
      rw [← List.getElem?_eq_getElem (by omega), ← hc1]
      match j, hj with
      | 0, _ => exact hg 0 _ rfl
      | 1, _ => exact hg 1 _ rfl
      | 2, _ => exact hg 2 _ rfl
      | 3, _ => exact hg 3 _ rfl
      | 4, _ => exact hg 4 _ rfl
      | 5, _ => exact hg 5 _ rfl
      | 6, _ => exact hg 6 _ rfl
      | 7, _ => exact hg 7 _ rfl
      | 8, _ => exact hg 8 _ rfl
      | 9, _ => exact hg 9 _ rfl
      | 10, _ => exact hg 10 _ rfl
      | 11, _ => exact hg 11 _ rfl
    obtain ⟨n0, e0, _, f0⟩ := DataW.trod_int Try.underlying3 (g 0 (by omega))
    obtain ⟨n1, e1, _, f1⟩ := DataW.trod_int Try.underlying3 (g 1 (by omega))
    obtain ⟨n2, e2, _, f2⟩ := DataW.trod_int Try.underlying3 (g 2 (by omega))
    obtain ⟨n3, e3, _, f3⟩ := DataW.trod_int Try.underlying3 (g 3 (by omega))
    obtain ⟨n4, e4, _, f4⟩ := DataW.trod_int Try.underlying3 (g 4 (by omega))
    obtain ⟨n5, e5, _, f5⟩ := DataW.trod_int Try.underlying3 (g 5 (by omega))
    obtain ⟨n6, e6, _, f6⟩ := DataW.trod_int Try.underlying3 (g 6 (by omega))
    obtain ⟨n7, e7, _, f7⟩ := DataW.trod_int Try.underlying3 (g 7 (by omega))
    obtain ⟨n8, e8, _, f8⟩ := DataW.trod_int Try.underlying3 (g 8 (by omega))
    obtain ⟨n9, e9, _, f9⟩ := DataW.trod_int Try.underlying3 (g 9 (by omega))
    obtain ⟨n10, e10, _, f10⟩ := DataW.trod_int Try.underlying3 (g 10 (by omega))
    obtain ⟨n11, e11, _, f11⟩ := DataW.trod_int Try.underlying3 (g 11 (by omega))
    simp only [List.drop_zero, List.take_succ_cons, List.take_zero, List.drop_succ_cons, List.cons.injEq, and_true] at e0 e1 e2 e3 e4 e5 e6 e7 e8 e9 e10 e11
    subst e0 e1 e2 e3 e4 e5 e6 e7 e8 e9 e10 e11
    exact ⟨⟨n0, n1, n2, n3, n4, n5, n6, n7, n8, n9, n10, n11⟩, ⟨bounds_i64 f0, bounds_i64 f1, bounds_i64 f2, bounds_i64 f3, bounds_i64 f4, bounds_i64 f5, bounds_i64 f6, bounds_i64 f7, bounds_i64 f8, bounds_i64 f9, bounds_i64 f10, bounds_i64 f11⟩, rfl⟩

theorem open_cfg {r : Reach} {b0 : Nat} {v : Value} {d : DataW H} {ps : List MemPlace} (hval : Value.okWide Try.prog w r b0 26 v) (hd : DataW.Trod enc Try.prog w base spare held 26 v d ps) :
    ∃ i : Cfg, i.Fits ∧ v = .agg #[.int .i64 i.ldq, .int .i64 i.sdq, .int .i64 i.aeq, .int .i64 i.abq, .int .i64 i.ebq, .int .i64 i.saq, .int .i64 i.banks, .int .i64 i.flight, .int .i64 i.slip, .int .i64 i.lat, .int .i64 i.mul, .int .i64 i.div] := by
  obtain ⟨cs, rfl, _⟩ := okWide_struct Try.underlying26 hval
  obtain ⟨fuel, hf⟩ := hd
  obtain ⟨i, hi, hc⟩ := cfg_cells hf
  refine ⟨i, hi, ?_⟩
  obtain ⟨l⟩ := cs
  have : l = cfgCells i := by simpa [Value.cells] using hc
  rw [this]; rfl
end
end Go.Proofs.Ytfohecmghhpagaa.Words

/- An argument that is an owner (an array of sixteen ints by value): its numbers. -/
import Derived.Test.YtbibfpopkcekdaaG02
import Derived.Test.YtbibfpopkcekdaaRows
import Derived.ProofKit
import Derived.OpenShut
import Derived.ChangeOld
namespace Go.Proofs.Ytbibfpopkcekdaa.Words
set_option maxRecDepth 100000
open Go.ChangeShapes Go.WideShapes Go.ChangeAt Go.RowKit

section
variable {H : Type} {enc : TypeId × Value → H} {w : World} {base : Nat} {spare : Nat → Bool} {held : Bool}
theorem onr_cells {fuel : Nat} {cs : List Value} {x : DataW H × List MemPlace} (h : DataW.trod enc Try.prog w base spare held fuel 26 cs = some x) :
    ∃ o : List Int, o.length = 16 ∧ cs = oV o := by
  obtain ⟨xs, n, _, _, hlen, hxl, hg⟩ := DataW.trod_array Try.underlying26 h
  have hC : Try.prog.cellsOf 26 = 16 := by kernel_rfl
  have hc : Try.prog.cellsOf 3 = 1 := by kernel_rfl
  rw [hC] at hlen
  have hxl' : xs.length = 16 := hxl
  have he : ∀ i, i < 16 → ∃ k : Int, cs[i]? = some (.int .i64 k) := by
    intro i hi
    have := hg i hi
    rw [hc, Nat.mul_one, List.getElem?_eq_getElem (by omega)] at this
    obtain ⟨k, e, _, _⟩ := DataW.trod_int Try.underlying3 this
    refine ⟨k, ?_⟩
    have h2 : ((cs.drop i).take 1)[0]? = some (.int .i64 k) := by rw [e]; rfl
    rw [List.getElem?_take_of_lt (by omega), List.getElem?_drop] at h2
    exact h2
  refine ⟨cs.map (fun v => match v with | .int _ k => k | _ => 0), by simp [hlen], ?_⟩
  refine List.ext_getElem? fun i => ?_
  unfold oV
  rw [List.map_map, List.getElem?_map]
  by_cases hi : i < 16
  · obtain ⟨k, hk⟩ := he i hi
    rw [hk]; rfl
  · rw [List.getElem?_eq_none (by omega)]; rfl
theorem open_onr {r : Reach} {b0 : Nat} {v : Value} {d : DataW H} {ps : List MemPlace} (hval : Value.okWide Try.prog w r b0 26 v) (hd : DataW.Trod enc Try.prog w base spare held 26 v d ps) :
    ∃ o : List Int, o.length = 16 ∧ v = .agg (oV o).toArray := by
  have hv : ∃ cs, v = .agg cs := by
    simp only [Value.okWide, Try.underlying26] at hval
    obtain ⟨cs, h1, _⟩ := hval
    exact ⟨cs, h1⟩
  obtain ⟨cs, rfl⟩ := hv
  obtain ⟨fuel, hf⟩ := hd
  obtain ⟨o, ho, hc⟩ := onr_cells hf
  refine ⟨o, ho, ?_⟩
  obtain ⟨l⟩ := cs
  have : l = oV o := by simpa [Value.cells] using hc
  rw [this]
end
end Go.Proofs.Ytbibfpopkcekdaa.Words

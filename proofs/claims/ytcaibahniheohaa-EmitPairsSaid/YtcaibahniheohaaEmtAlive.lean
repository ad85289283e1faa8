/- The law's own helper 'alive' of chapter 12. -/
import Derived.Test.YtcaibahniheohaaRefEmit
import Derived.Test.YtcaibahniheohaaRefSameCel
namespace Go.Proofs.Ytcaibahniheohaa.Words
set_option maxRecDepth 100000
open Go.RowKit
set_option linter.unusedVariables false
set_option linter.unusedSimpArgs false

def sevenO : List Int := [0, 1, 2, 0, 0, 0, 0, 0, 0, 0, 0, 0, 0, 0, 0, 0]
theorem alive_a : emitA (zeroed zeroO) ⟨41, 0, 0, 0, 0⟩ 0 0 = [bareC 12 0 0] := by decide +kernel
theorem alive_e : emitE (zeroed sevenO) ⟨31, 0, 1, 1, 0⟩ 3 0 = [regC 6 1 3 0, regC 8 1 3 0] := by decide +kernel

set_option maxHeartbeats 4000000 in
theorem alive12_any (w : World) :
    Calls Try.prog 7 #[] w fun e w' => e = .returned (.bool true) ∧ Below w.heap.size w w' := by
  go_enter Try.func7, Try.ntmps7
  go_wp2_with fail
  refine (emitA_any ⟨41, 0, 0, 0, 0⟩ zeroO 0 0 _ rfl).mono ?_; rintro e w1 ⟨v1, rfl, ha, na, hb1⟩
  rw [alive_a] at ha
  have HA : Hid (Row w1 w1.heap.size 9 v1 1 (flat celCells [bareC 12 0 0])) := ha
  obtain ⟨A1, c1, rfl⟩ := HA.out.form
  have HB1 := Lib.hid hb1
  clear ha na hb1
  go_wp2_with fail
  refine (emitE_any ⟨31, 0, 1, 1, 0⟩ sevenO 3 0 _ rfl).mono ?_; rintro e w2 ⟨v2, rfl, he, ne, hb2⟩
  rw [alive_e] at he
  have HE : Hid (Row w2 w2.heap.size 9 v2 2 (flat celCells [regC 6 1 3 0, regC 8 1 3 0])) := he
  obtain ⟨A2, c2, rfl⟩ := HE.out.form
  have HB2 : Hid (Below w1.heap.size w1 w2) := ((Below.refl _ w1).alloc (Nat.le_refl _) _).trans (hb2.mono (by simp))
  clear he ne hb2
  have HA2 := Lib.hid (HA.out.below HB2.out)
  obtain ⟨g1, f1, rfl, _, _⟩ := HA2.out.at_ (by decide)
  obtain ⟨g2, f2, rfl, _, _⟩ := HE.out.at_ (by decide)
  have x1 := (HA2.out.cel (k := 0) rfl).1
  have x2 := (HE.out.cel (k := 0) rfl).1
  have x3 := (HE.out.cel (k := 1) rfl).1
  simp only [Nat.zero_mul, Nat.one_mul, Nat.add_zero, bareC, regC] at x1 x2 x3
  have HBB := Lib.hid (HB1.out.trans (HB2.out.mono HB1.out.size))
  go_wp2_with fail
  go_ret
  exact ⟨by first | rfl | trivial, HBB.out⟩

/-- A row of cells is kept, and read by SameCells. -/
theorem row_same (A1 A2 : Option Addr) (c1 c2 : Nat) (l : List Cel) (w : World) (h1 : Row w w.heap.size 9 (.slice A1 l.length c1) l.length (flat celCells l)) (h2 : Row w w.heap.size 9 (.slice A2 l.length c2) l.length (flat celCells l)) :
    Calls Try.prog 9 #[.slice A1 l.length c1, .slice A2 l.length c2] w fun e w' => e = .returned (.bool true) ∧ Below w.heap.size w w' := by
  refine (refSameCells_any A1 A2 l.length l.length c1 c2 l l w rfl rfl h1 h2).mono ?_
  rintro e w' ⟨rfl, q, rfl⟩
  exact ⟨by rw [decide_eq_true rfl], Below.drewN_ (Below.refl _ _) _⟩
end Go.Proofs.Ytcaibahniheohaa.Words

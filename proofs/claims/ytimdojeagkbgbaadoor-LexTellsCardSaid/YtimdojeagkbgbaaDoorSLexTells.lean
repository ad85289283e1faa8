/- The walk of LexTells: the tokens of any text are the document's. -/
import Derived.Test.YtimdojeagkbgbaaDoorG10
namespace Go.Proofs.YtimdojeagkbgbaaDoor.Words
set_option maxRecDepth 100000
open Go.RowKit Go.Shelf Go.Lib
set_option linter.unusedVariables false

set_option maxHeartbeats 2000000 in
theorem lexTells_in (s : ByteArray) (w : World) (hT : Tabs w) (hs : s.size ≤ 600) :
    Calls Tryd.prog 3 #[.string s] w fun e w' => e = .returned (.bool true) ∧ Below w.heap.size w w' := by
  have cA := alive7_any w hT
  have HT := Lib.hid hT
  have cS := Lib.hid (fun y (hy : Tabs y) => split_any s y (by omega) hy)
  have cR := Lib.hid (fun y (hy : Tabs y) => refSplit_any s y (by omega) hy)
  have q1 : decide (600 < (s.size : Int)) = false := decide_eq_false (by omega)
  have q2 : decide (600 < s.size) = false := decide_eq_false (by omega)
  have s0 : (s.size : Int) ≤ 600 := by omega
  generalize lexZ s.data.toList = Z at *
  clear hT
  go_enter Tryd.func3, Tryd.ntmps3
  go_wp2_with fail
  refine cA.mono ?_; rintro e w1 ⟨rfl, hb1⟩
  have HB1 := Lib.hid hb1
  clear hb1
  go_wp2_with fail
  refine (cS.out _ (HT.out.below HB1.out)).mono ?_
  rintro e w2 ⟨ho, hb2⟩
  have HB2 := Lib.hid (HB1.out.trans (hb2.mono HB1.out.size))
  cases Z with
  | bad a er =>
    change _ = _ at ho
    subst ho
    clear hb2
    go_wp2_with fail
    refine (cR.out _ (HT.out.below HB2.out)).mono ?_
    rintro e w3 ⟨ho, hb3⟩
    change _ = _ at ho
    subst ho
    have HB3 := Lib.hid (HB2.out.trans (hb3.mono HB2.out.size))
    clear hb3
    go_wp2_with fail
    refine (sameTokens_yes [] _ _ _ (Row.nil _ _ _) (Row.nil _ _ _)).mono ?_
    rintro e w4 ⟨rfl, hb4⟩
    have HB4 := Lib.hid (HB3.out.trans (hb4.mono HB3.out.size))
    clear hb4
    try dsimp only
    go_wp2_with (go_at_call 16; refine (num_any _ _).mono ?_; rintro e w5 ⟨rfl, rfl⟩)
    go_ret
    exact ⟨rfl, HB4.out⟩
  | toks t =>
    obtain ⟨v, rfl, hown⟩ := ho
    obtain ⟨A, c, rfl⟩ := (Row.of_own hown).form
    have HO := Lib.hid (Row.of_own hown)
    have HB12 := Lib.hid hb2
    clear hb2 hown
    go_wp2_with fail
    refine (cR.out _ (HT.out.below HB2.out)).mono ?_
    rintro e w3 ⟨ho, hb3⟩
    obtain ⟨v, rfl, hown⟩ := ho
    obtain ⟨A3, c3, rfl⟩ := (Row.of_own hown).form
    have HB3 := Lib.hid (HB2.out.trans (hb3.mono HB2.out.size))
    have HO3 := Lib.hid (Row.of_own hown)
    have HO2 := Lib.hid ((HO.out.below hb3).more hb3.size)
    clear hb3 hown
    go_wp2_with fail
    refine (sameTokens_yes t _ _ _ HO2.out HO3.out).mono ?_
    rintro e w4 ⟨rfl, hb4⟩
    have HB4 := Lib.hid (HB3.out.trans (hb4.mono HB3.out.size))
    clear hb4
    try dsimp only
    go_wp2_with (go_at_call 16; refine (num_any _ _).mono ?_; rintro e w5 ⟨rfl, rfl⟩)
    go_ret
    exact ⟨rfl, HB4.out⟩

set_option maxHeartbeats 2000000 in
theorem lexTells_walk (s : ByteArray) (w : World) (hT : Tabs w) (w0 : s.size ≤ 9223372036854775807) :
    Calls Tryd.prog 3 #[.string s] w fun e w' => e = .returned (.bool true) ∧ Below w.heap.size w w' := by
  by_cases h : s.size ≤ 600
  · exact lexTells_in s w hT h
  have cA := alive7_any w hT
  have q1 : decide (600 < (s.size : Int)) = true := decide_eq_true (by omega)
  have q2 : decide (600 < s.size) = true := decide_eq_true (by omega)
  clear hT
  go_enter Tryd.func3, Tryd.ntmps3
  go_wp2_with fail
  refine cA.mono ?_; rintro e w1 ⟨rfl, hb1⟩
  have HB1 := Lib.hid hb1
  clear hb1
  go_wp2_with fail
  go_ret
  exact ⟨rfl, HB1.out⟩
end Go.Proofs.YtimdojeagkbgbaaDoor.Words

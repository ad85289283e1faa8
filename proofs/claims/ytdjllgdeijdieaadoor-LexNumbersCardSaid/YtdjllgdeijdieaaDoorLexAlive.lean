/- The law's own helpers of chapter 7: num, alive. -/
import Derived.Test.YtdjllgdeijdieaaDoorLexSplit
import Derived.Deep.QuietTactic
import Derived.BigQuiet
namespace Go.Proofs.YtdjllgdeijdieaaDoor.Words
set_option maxRecDepth 100000
open Go.RowKit Go.Shelf Go.Lib
set_option linter.unusedVariables false

theorem quiet_mine7 {P : Program} {f : FuncId} {args : Array Value} {w : World} {n : Nat} {v : Value} (h : Calls P f args (w.drewN n) fun e w' => e = .returned v ∧ w.drewN n = w') :
    Calls P f args (w.drewN n) fun e w'' => e = .returned v ∧ ∃ m, w'' = w.drewN m := h.mono fun _ _ ⟨he, hm⟩ => ⟨he, n, hm.symm⟩

theorem num_any (k : Int) (w : World) : Calls Tryd.prog 13 #[.int .i64 k] w fun e w' => e = .returned (.int .i64 k) ∧ w = w' := by
  go_enter Tryd.func13, Tryd.ntmps13
  go_wp2
  go_ret
  exact ⟨rfl, rfl⟩
/-- The text of the example. -/
def aliveT : List UInt8 := [97, 58, 32, 45, 49, 50, 32, 35, 32, 120, 10, 48, 120, 49, 70]
def aliveK : List Tok := [⟨1, 0, 0, [97]⟩, ⟨3, 0, 1, [58]⟩, ⟨2, -12, 3, [45, 49, 50]⟩, ⟨4, 0, 10, [10]⟩, ⟨2, 31, 11, [48, 120, 49, 70]⟩]
theorem alive_lex : lexZ aliveT = .toks aliveK := by decide +kernel
theorem none_lex : lexZ [] = .toks [] := by decide +kernel
set_option maxHeartbeats 1000000 in
theorem alive7_any (w : World) (hT : Tabs w) : Calls Tryd.prog 9 #[] w fun e w' => e = .returned (.bool true) ∧ Below w.heap.size w w' := by
  have HT := Lib.hid hT
  have hs1 : (⟨#[]⟩ : ByteArray).size ≤ 9223372036854775807 := by decide
  have hs2 : (⟨#[97, 58, 32, 45, 49, 50, 32, 35, 32, 120, 10, 48, 120, 49, 70]⟩ : ByteArray).size ≤ 9223372036854775807 := by decide
  have c1 := Lib.hid (split_any ⟨#[]⟩ w hs1 hT)
  have c2 := Lib.hid (fun y (hy : Tabs y) => split_any ⟨#[97, 58, 32, 45, 49, 50, 32, 35, 32, 120, 10, 48, 120, 49, 70]⟩ y hs2 hy)
  clear hT hs1 hs2
  go_enter Tryd.func9, Tryd.ntmps9
  go_wp2_with fail
  refine c1.out.mono ?_
  rintro e w1 ⟨ho, hb1⟩
  change LexOut (lexZ []) _ _ _ at ho
  rw [none_lex] at ho
  obtain ⟨v, rfl, hown⟩ := ho
  obtain ⟨A, c, rfl⟩ := (Row.of_own hown).form
  have HB1 := Lib.hid hb1
  clear hown hb1
  go_wp2_with fail
  refine (c2.out _ (HT.out.below HB1.out)).mono ?_
  rintro e w2 ⟨ho, hb2⟩
  change LexOut (lexZ aliveT) _ _ _ at ho
  rw [alive_lex] at ho
  obtain ⟨v2, rfl, hown⟩ := ho
  obtain ⟨A2, c2', rfl⟩ := (Row.of_own hown).form
  have HB2 := Lib.hid (HB1.out.trans (hb2.mono HB1.out.size))
  obtain ⟨g, off, rfl, _, _⟩ := (Row.of_own hown).at_ (show aliveK.length ≠ 0 by decide)
  obtain ⟨_, x1, _, _⟩ := (Row.of_own hown).tok (k := 2) (i := ⟨2, -12, 3, [45, 49, 50]⟩) rfl
  obtain ⟨_, x2, _, _⟩ := (Row.of_own hown).tok (k := 4) (i := ⟨2, 31, 11, [48, 120, 49, 70]⟩) rfl
  have hl : aliveK.length = 5 := rfl
  rw [hl]
  clear hown hb2 hl
  go_wp2_with (go_at_call 13; refine (num_any _ _).mono ?_; rintro e w3 ⟨rfl, rfl⟩)
  go_ret
  exact ⟨rfl, HB2.out⟩
end Go.Proofs.YtdjllgdeijdieaaDoor.Words

/- The walk of AsmNames: names stand for operations, each once. -/
import Derived.Test.YtimdojeagkbgbaaDoorAsmAlive
import Derived.Deep.QuietTactic
import Derived.BigQuiet
namespace Go.Proofs.YtimdojeagkbgbaaDoor.Words
set_option maxRecDepth 100000
open Go.RowKit Go.Shelf Go.Lib
set_option linter.unusedVariables false
set_option linter.unusedSimpArgs false

theorem names_row {w : World} {B n c : Nat} {b off : Nat} (h : Row w B 1 (.slice (some ⟨b, off, none⟩) 41 c) 41 namesL) {k : Nat} (hk : k < 41) : w.cell? ⟨b, off + k, none⟩ = some (.string (txt (namesZ.getD k []))) := by
  obtain ⟨b', o', he, hb, hc⟩ := h.at_ (by omega)
  injection he with he
  injection he with he1 he2
  subst he1; subst he2
  refine hc k _ ?_
  have e : namesZ[k]? = some namesZ[k] := List.getElem?_eq_getElem (show k < 41 from hk)
  unfold namesL
  rw [List.getElem?_map, e, List.getD_eq_getElem?_getD, e]; rfl
theorem names_ne : ∀ i k, i < 41 → k < 41 → i ≠ k → namesZ.getD i [] ≠ namesZ.getD k [] := by
  have h : ((List.range 41).all fun i => (List.range 41).all fun k => decide (i = k) || decide (namesZ.getD i [] ≠ namesZ.getD k [])) = true := by decide +kernel
  intro i k hi hk hne
  have h2 := List.all_eq_true.1 (List.all_eq_true.1 h i (List.mem_range.2 hi)) k (List.mem_range.2 hk)
  simpa [hne] using h2
set_option maxHeartbeats 4000000 in
theorem asmNames_in (k : Nat) (w : World) (hT : TabsA w) (hk : k < 41) :
    Calls Tryd.prog 6 #[.int .i64 k] w fun e w' => e = .returned (.bool true) ∧ Below w.heap.size w w' := by
  have cA := alive8_any w hT
  have k0 : decide ((k : Int) < 0) = false := by simp
  have k1 : decide (41 ≤ (k : Int)) = false := by simp; omega
  clear hT
  go_enter Tryd.func6, Tryd.ntmps6
  go_wp2_with fail
  refine cA.mono ?_; rintro e w1 ⟨rfl, hb1⟩
  have HB1 := Lib.hid hb1
  clear hb1
  go_wp2_with fail
  refine (names_any _).mono ?_; rintro e w2 ⟨v, rfl, hown, hb2⟩
  obtain ⟨A1, c1, rfl⟩ := (Row.of_own hown).form
  have HB2 := Lib.hid (HB1.out.trans (hb2.mono HB1.out.size))
  have HO := Lib.hid (Row.of_own hown)
  clear hb2 hown
  go_wp2_with fail
  refine (refNames_any _).mono ?_; rintro e w3 ⟨A2, c2, rfl, hr2, hb3⟩
  have HB3 := Lib.hid (HB2.out.trans (hb3.mono HB2.out.size))
  have HO1 := Lib.hid ((HO.out.below hb3).more hb3.size)
  have HO2 := Lib.hid hr2
  clear hb3 hr2
  go_wp2_with fail
  go_loopw [6] (fun i wr => ∃ j : Nat, j ≤ 41 ∧ i = .int .i64 j ∧ Below w3.heap.size w3 wr) (fun i _ => 41 - (intOf i).toNat)
  case atStart => exact ⟨0, Nat.zero_le _, rfl, Below.refl _ _⟩
  case round =>
    obtain ⟨j, hj, rfl, hB⟩ := hrel
    have HBr := Lib.hid hB
    obtain ⟨g1, o1, rfl, hg1, _⟩ := HO1.out.at_ (by omega)
    obtain ⟨g2, o2, rfl, hg2, _⟩ := HO2.out.at_ (by omega)
    have hr1 : g1 < wr.heap.size := Nat.lt_of_lt_of_le hg1 hB.size
    have hr2 : g2 < wr.heap.size := Nat.lt_of_lt_of_le hg2 hB.size
    have ck1 := names_row (n := 41) (HO1.out.below hB) hk
    have ck2 := names_row (n := 41) (HO2.out.below hB) hk
    by_cases hlt : j < 41
    · have cj := names_row (n := 41) (HO1.out.below hB) hlt
      have j1 : decide ((j : Int) < 41) = true := decide_eq_true (by omega)
      have j2 : decide (j < 41) = true := decide_eq_true hlt
      have j3 : (j : Int) < 41 := by omega
      have j4 : (k : Int) < 41 := by omega
      by_cases hjk : j = k
      · subst hjk
        clear hB hj
        go_wp2_with fail
        go_quiet (fail)
        go_wp2_with fail
        go_roundw
        case rel => exact ⟨j + 1, by omega, rfl, by first | exact HBr.out | exact HBr.out.drew | exact Below.drewN_ HBr.out _⟩
        case measure => simp only [intOf]; omega
      · have e1 : (namesZ.getD j [] == namesZ.getD k []) = false := beq_eq_false_iff_ne.2 (names_ne j k hlt hk hjk)
        have e2 : ((j : Int) == k) = false := by simp; omega
        generalize namesZ.getD j [] = TJ at *
        generalize namesZ.getD k [] = TK at *
        clear hB hj
        go_wp2_with fail
        go_quiet (fail)
        go_wp2_with fail
        go_roundw
        case rel => exact ⟨j + 1, by omega, rfl, by first | exact HBr.out | exact HBr.out.drew | exact Below.drewN_ HBr.out _⟩
        case measure => simp only [intOf]; omega
    · have j1 : decide ((j : Int) < 41) = false := decide_eq_false (by omega)
      have j2 : decide (j < 41) = false := decide_eq_false hlt
      have j4 : (k : Int) < 41 := by omega
      generalize namesZ.getD k [] = TK at *
      clear hB hj
      go_wp2_with fail
      go_quiet (fail)
      go_wp2_with fail
      go_ret
      exact ⟨rfl, HB3.out.trans ((by first | exact HBr.out | exact HBr.out.drew | exact Below.drewN_ HBr.out _ : Below w3.heap.size w3 _).mono HB3.out.size)⟩
set_option maxHeartbeats 4000000 in
theorem asmNames_walk (a0 : Int) (w : World) (hT : TabsA w) (w0 : -9223372036854775808 ≤ a0 ∧ a0 ≤ 9223372036854775807) :
    Calls Tryd.prog 6 #[.int .i64 a0] w fun e w' => e = .returned (.bool true) ∧ Below w.heap.size w w' := by
  by_cases h : a0 < 0 ∨ 41 ≤ a0
  · have cA := alive8_any w hT
    clear hT
    go_enter Tryd.func6, Tryd.ntmps6
    go_wp2_with fail
    refine cA.mono ?_; rintro e w1 ⟨rfl, hb1⟩
    have HB1 := Lib.hid hb1
    clear hb1
    go_wp2_with fail
    refine (names_any _).mono ?_; rintro e w2 ⟨v, rfl, hown, hb2⟩
    obtain ⟨A1, c1, rfl⟩ := (Row.of_own hown).form
    have HB2 := Lib.hid (HB1.out.trans (hb2.mono HB1.out.size))
    clear hb2 hown
    go_wp2_with fail
    refine (refNames_any _).mono ?_; rintro e w3 ⟨A2, c2, rfl, hr2, hb3⟩
    have HB3 := Lib.hid (HB2.out.trans (hb3.mono HB2.out.size))
    clear hb3 hr2
    by_cases h0 : a0 < 0
    · have k0 : decide (a0 < 0) = true := decide_eq_true h0
      go_wp2_with fail
      go_ret
      exact ⟨rfl, HB3.out⟩
    · have k0 : decide (a0 < 0) = false := decide_eq_false h0
      have k1 : decide (41 ≤ a0) = true := decide_eq_true (by omega)
      go_wp2_with fail
      go_ret
      exact ⟨rfl, HB3.out⟩
  · obtain ⟨k, rfl⟩ : ∃ k : Nat, a0 = k := ⟨a0.toNat, by omega⟩
    exact asmNames_in k w hT (by omega)
end Go.Proofs.YtimdojeagkbgbaaDoor.Words

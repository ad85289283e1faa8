/- The walk of BytesOverlap. -/
import Derived.Test.YtkmflgfhhlhgeaaBytesAlive
import Derived.LoopTactic
namespace Go.Proofs.Ytkmflgfhhlhgeaa.Words
open Go.RowKit
set_option linter.unusedVariables false

/-- Is there a place from a on, below j, that is one of the m from b on? -/
def someB (a b m j : Int) : Bool := decide (a < j ∧ b < j ∧ a < b + m ∧ 0 < m)
theorem overlap_turned (a n b m : Int) : overlapB b m a n = overlapB a n b m := by unfold overlapB; congr 1; apply propext; omega

set_option maxHeartbeats 400000 in
theorem bytesOverlap_out (a n b m : Int) (w : World) (h : a < -100 ∨ 100 < a ∨ b < -100 ∨ 100 < b ∨ n < -2 ∨ 40 < n ∨ m < -2 ∨ 40 < m) :
    Calls Try.prog 5 #[.int .i64 a, .int .i64 n, .int .i64 b, .int .i64 m] w fun e w' => e = .returned (.bool true) ∧ Below w.heap.size w w' := by
  go_enter Try.func5, Try.ntmps5
  go_wp2_with fail
  refine (bytesAlive_any _).mono ?_; rintro e w1 ⟨rfl, hb1⟩
  have hg : (decide (a < -100) || decide (100 < a) || decide (b < -100) || decide (100 < b) || decide (n < -2) || decide (40 < n) || decide (m < -2) || decide (40 < m)) = true := by
    simp only [Bool.or_eq_true, decide_eq_true_eq]; omega
  have HG := Lib.hid hg
  clear hg h
  go_wp2
  all_goals first
    | (exfalso; have h := HG.out; simp only [Bool.or_eq_true, decide_eq_true_eq] at h; omega)
    | (go_ret; exact ⟨rfl, hb1⟩)

set_option maxHeartbeats 1000000 in
theorem bytesOverlap_in (a n b m : Int) (w : World) (a0 : -100 ≤ a) (a1 : a ≤ 100) (b0 : -100 ≤ b) (b1 : b ≤ 100) (n0 : -2 ≤ n) (n1 : n ≤ 40) (m0 : -2 ≤ m) (m1 : m ≤ 40) :
    Calls Try.prog 5 #[.int .i64 a, .int .i64 n, .int .i64 b, .int .i64 m] w fun e w' => e = .returned (.bool true) ∧ Below w.heap.size w w' := by
  have g1 : decide (a < -100) = false := decide_eq_false (by omega)
  have g2 : decide (100 < a) = false := decide_eq_false (by omega)
  have g3 : decide (b < -100) = false := decide_eq_false (by omega)
  have g4 : decide (100 < b) = false := decide_eq_false (by omega)
  have g5 : decide (n < -2) = false := decide_eq_false (by omega)
  have g6 : decide (40 < n) = false := decide_eq_false (by omega)
  have g7 : decide (m < -2) = false := decide_eq_false (by omega)
  have g8 : decide (40 < m) = false := decide_eq_false (by omega)
  go_enter Try.func5, Try.ntmps5
  go_wp2_with fail
  refine (bytesAlive_any _).mono ?_; rintro e w1 ⟨rfl, hb1⟩
  have HB := Lib.hid hb1
  clear hb1
  go_wp2_with fail
  clear g1 g2 g3 g4 g5 g6 g7 g8
  go_loopw [10, 11] (fun s i wr => ∃ j : Int, a ≤ j ∧ (j ≤ a + n ∨ j = a) ∧ s = .bool (someB a b m j) ∧ i = .int .i64 j ∧ wr = w1) (fun _ i _ => (a + n - intOf i).toNat)
  case atStart => exact ⟨a, Int.le_refl _, .inr rfl, by rw [show someB a b m a = false from decide_eq_false (by omega)], rfl, rfl⟩
  case round =>
    obtain ⟨j, hj, hj1, rfl, rfl, rfl⟩ := hrel
    by_cases hlt : j < a + n
    · cases hs : someB a b m j
      · have hs' := of_decide_eq_false hs
        by_cases hbj : b ≤ j
        · by_cases hjm : j < b + m
          · have hres := Lib.hid (show someB a b m (j + 1) = true from decide_eq_true (by omega))
            clear hs hs'
            go_wp2_with fail
            go_roundw
            case rel => exact ⟨j + 1, by omega, by omega, by rw [hres.out], by go_num, by trivial⟩
            case measure => simp [intOf]; omega
          · have hres := Lib.hid (show someB a b m (j + 1) = false from decide_eq_false (by omega))
            clear hs hs'
            go_wp2_with fail
            go_roundw
            case rel => exact ⟨j + 1, by omega, by omega, by rw [hres.out], by go_num, by trivial⟩
            case measure => simp [intOf]; omega
        · have hres := Lib.hid (show someB a b m (j + 1) = false from decide_eq_false (by omega))
          clear hs hs'
          go_wp2_with fail
          go_roundw
          case rel => exact ⟨j + 1, by omega, by omega, by rw [hres.out], by go_num, by trivial⟩
          case measure => simp [intOf]; omega
      · have hs' := of_decide_eq_true hs
        have hres := Lib.hid (show someB a b m (j + 1) = true from decide_eq_true (by omega))
        clear hs hs'
        go_wp2_with fail
        go_roundw
        case rel => exact ⟨j + 1, by omega, by omega, by rw [hres.out], by go_num, by trivial⟩
        case measure => simp [intOf]; omega
    · have hres := Lib.hid (show someB a b m j = overlapB a n b m by unfold someB overlapB; congr 1; apply propext; omega)
      go_wp2_with fail
      refine (overlap_any a n b m _ (by omega) (by omega) (by omega) (by omega)).mono ?_; rintro e w2 ⟨rfl, rfl⟩
      rw [hres.out]
      generalize hO : overlapB a n b m = O at *
      have HO := Lib.hid hO
      clear hO
      cases O
      all_goals
        go_wp2_with fail
        refine (overlap_any b m a n _ (by omega) (by omega) (by omega) (by omega)).mono ?_; rintro e w2 ⟨rfl, rfl⟩
        rw [overlap_turned, HO.out]
        go_wp2_with fail
        go_ret
        exact ⟨rfl, HB.out⟩

theorem bytesOverlap_walk (a0 a1 a2 a3 : Int) (w : World) (w0 : -9223372036854775808 ≤ a0 ∧ a0 ≤ 9223372036854775807) (w1 : -9223372036854775808 ≤ a1 ∧ a1 ≤ 9223372036854775807) (w2 : -9223372036854775808 ≤ a2 ∧ a2 ≤ 9223372036854775807) (w3 : -9223372036854775808 ≤ a3 ∧ a3 ≤ 9223372036854775807) :
    Calls Try.prog 5 #[.int .i64 a0, .int .i64 a1, .int .i64 a2, .int .i64 a3] w fun e w' => e = .returned (.bool true) ∧ Below w.heap.size w w' := by
  by_cases h : a0 < -100 ∨ 100 < a0 ∨ a2 < -100 ∨ 100 < a2 ∨ a1 < -2 ∨ 40 < a1 ∨ a3 < -2 ∨ 40 < a3
  · exact bytesOverlap_out a0 a1 a2 a3 w h
  · exact bytesOverlap_in a0 a1 a2 a3 w (by omega) (by omega) (by omega) (by omega) (by omega) (by omega) (by omega) (by omega)
end Go.Proofs.Ytkmflgfhhlhgeaa.Words

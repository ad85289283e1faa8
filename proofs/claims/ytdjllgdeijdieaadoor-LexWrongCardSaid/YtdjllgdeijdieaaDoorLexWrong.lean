/- The walk of LexWrong: which texts have what is no token, and where. -/
import Derived.Test.YtdjllgdeijdieaaDoorLexWrongMath
namespace Go.Proofs.YtdjllgdeijdieaaDoor.Words
set_option maxRecDepth 100000
open Go.RowKit Go.Shelf Go.Lib
set_option linter.unusedVariables false

set_option maxHeartbeats 2000000 in
theorem lexWrong_out (n : Int) (w : World) (hT : Tabs w) (h : n < 0 ∨ 27 ≤ n) :
    Calls Tryd.prog 7 #[.int .i64 n] w fun e w' => e = .returned (.bool true) ∧ Below w.heap.size w w' := by
  have cA := alive7_any w hT
  clear hT
  go_enter Tryd.func7, Tryd.ntmps7
  go_wp2_with fail
  refine cA.mono ?_; rintro e w1 ⟨rfl, hb1⟩
  go_upto_region 5 with (fail)
  have HL : Hid (Below w.heap.size w (((w1.alloc (.cells #[.string ⟨#[97]⟩, .string ⟨#[45]⟩, .string ⟨#[45, 32, 49]⟩, .string ⟨#[45, 49]⟩, .string ⟨#[48, 120]⟩, .string ⟨#[48, 120, 103]⟩, .string ⟨#[48, 120, 70]⟩, .string ⟨#[49, 97]⟩, .string ⟨#[97, 49]⟩, .string ⟨#[95]⟩, .string ⟨#[195, 169]⟩, .string ⟨#[217, 161]⟩, .string ⟨#[97, 46, 98]⟩, .string ⟨#[35, 46]⟩, .string ⟨#[97, 0]⟩, .string ⟨#[255]⟩, .string ⟨#[35, 32, 255]⟩, .string ⟨#[97, 226, 128, 168]⟩, .string ⟨#[40, 41, 44, 58]⟩, .string ⟨#[45, 45, 49]⟩, .string ⟨#[52, 50, 57, 52, 57, 54, 55, 50, 57, 54]⟩, .string ⟨#[52, 50, 57, 52, 57, 54, 55, 50, 57, 55]⟩, .string ⟨#[45, 52, 50, 57, 52, 57, 54, 55, 50, 57, 55]⟩, .string ⟨#[48, 120, 49, 48, 48, 48, 48, 48, 48, 48, 48]⟩, .string ⟨#[48, 120, 49, 48, 48, 48, 48, 48, 48, 48, 49]⟩, .string ⟨#[49, 45, 50]⟩, .string ⟨#[239, 191, 189]⟩] 9)).alloc (.cells #[.int .i64 (-1), .int .i64 0, .int .i64 0, .int .i64 (-1), .int .i64 (-1), .int .i64 (-1), .int .i64 (-1), .int .i64 (-1), .int .i64 (-1), .int .i64 (-1), .int .i64 (-1), .int .i64 0, .int .i64 1, .int .i64 (-1), .int .i64 1, .int .i64 0, .int .i64 2, .int .i64 1, .int .i64 (-1), .int .i64 0, .int .i64 (-1), .int .i64 0, .int .i64 0, .int .i64 (-1), .int .i64 0, .int .i64 (-1), .int .i64 0] 3)).alloc (.cells #[.int .i64 0, .int .i64 5, .int .i64 5, .int .i64 0, .int .i64 0, .int .i64 0, .int .i64 0, .int .i64 0, .int .i64 0, .int .i64 0, .int .i64 0, .int .i64 5, .int .i64 5, .int .i64 0, .int .i64 5, .int .i64 5, .int .i64 5, .int .i64 5, .int .i64 0, .int .i64 5, .int .i64 0, .int .i64 8, .int .i64 8, .int .i64 0, .int .i64 8, .int .i64 0, .int .i64 5] 3))) := by
    have := hb1.size
    iterate 3 refine Below.alloc ?_ (by first | omega | (simp <;> omega)) _
    exact hb1
  generalize (((w1.alloc (.cells #[.string ⟨#[97]⟩, .string ⟨#[45]⟩, .string ⟨#[45, 32, 49]⟩, .string ⟨#[45, 49]⟩, .string ⟨#[48, 120]⟩, .string ⟨#[48, 120, 103]⟩, .string ⟨#[48, 120, 70]⟩, .string ⟨#[49, 97]⟩, .string ⟨#[97, 49]⟩, .string ⟨#[95]⟩, .string ⟨#[195, 169]⟩, .string ⟨#[217, 161]⟩, .string ⟨#[97, 46, 98]⟩, .string ⟨#[35, 46]⟩, .string ⟨#[97, 0]⟩, .string ⟨#[255]⟩, .string ⟨#[35, 32, 255]⟩, .string ⟨#[97, 226, 128, 168]⟩, .string ⟨#[40, 41, 44, 58]⟩, .string ⟨#[45, 45, 49]⟩, .string ⟨#[52, 50, 57, 52, 57, 54, 55, 50, 57, 54]⟩, .string ⟨#[52, 50, 57, 52, 57, 54, 55, 50, 57, 55]⟩, .string ⟨#[45, 52, 50, 57, 52, 57, 54, 55, 50, 57, 55]⟩, .string ⟨#[48, 120, 49, 48, 48, 48, 48, 48, 48, 48, 48]⟩, .string ⟨#[48, 120, 49, 48, 48, 48, 48, 48, 48, 48, 49]⟩, .string ⟨#[49, 45, 50]⟩, .string ⟨#[239, 191, 189]⟩] 9)).alloc (.cells #[.int .i64 (-1), .int .i64 0, .int .i64 0, .int .i64 (-1), .int .i64 (-1), .int .i64 (-1), .int .i64 (-1), .int .i64 (-1), .int .i64 (-1), .int .i64 (-1), .int .i64 (-1), .int .i64 0, .int .i64 1, .int .i64 (-1), .int .i64 1, .int .i64 0, .int .i64 2, .int .i64 1, .int .i64 (-1), .int .i64 0, .int .i64 (-1), .int .i64 0, .int .i64 0, .int .i64 (-1), .int .i64 0, .int .i64 (-1), .int .i64 0] 3)).alloc (.cells #[.int .i64 0, .int .i64 5, .int .i64 5, .int .i64 0, .int .i64 0, .int .i64 0, .int .i64 0, .int .i64 0, .int .i64 0, .int .i64 0, .int .i64 0, .int .i64 5, .int .i64 5, .int .i64 0, .int .i64 5, .int .i64 5, .int .i64 5, .int .i64 5, .int .i64 0, .int .i64 5, .int .i64 0, .int .i64 8, .int .i64 8, .int .i64 0, .int .i64 8, .int .i64 0, .int .i64 5] 3)) = W0 at *
  clear hb1
  by_cases h0 : n < 0
  · have h1 : decide (n < 0) = true := decide_eq_true h0
    go_wp2_with fail
    go_ret
    exact ⟨rfl, HL.out⟩
  · have h1 : decide (n < 0) = false := decide_eq_false h0
    have h2 : decide (27 ≤ n) = true := decide_eq_true (by omega)
    have h3 : 0 ≤ n := by omega
    go_wp2_with fail
    go_ret
    exact ⟨rfl, HL.out⟩

set_option maxHeartbeats 2000000 in
theorem lexWrong_in (k : Nat) (w : World) (hT : Tabs w) (h : k < 27) :
    Calls Tryd.prog 7 #[.int .i64 k] w fun e w' => e = .returned (.bool true) ∧ Below w.heap.size w w' := by
  have cA := alive7_any w hT
  have HT := Lib.hid hT
  clear hT
  have h0 : decide ((k : Int) < 0) = false := by simp
  have h1 : decide (27 ≤ (k : Int)) = false := by simp; omega
  go_enter Tryd.func7, Tryd.ntmps7
  go_wp2_with fail
  refine cA.mono ?_; rintro e w1 ⟨rfl, hb1⟩
  go_upto_region 5 with (fail)
  have HL : Hid (Below w.heap.size w (((w1.alloc (.cells #[.string ⟨#[97]⟩, .string ⟨#[45]⟩, .string ⟨#[45, 32, 49]⟩, .string ⟨#[45, 49]⟩, .string ⟨#[48, 120]⟩, .string ⟨#[48, 120, 103]⟩, .string ⟨#[48, 120, 70]⟩, .string ⟨#[49, 97]⟩, .string ⟨#[97, 49]⟩, .string ⟨#[95]⟩, .string ⟨#[195, 169]⟩, .string ⟨#[217, 161]⟩, .string ⟨#[97, 46, 98]⟩, .string ⟨#[35, 46]⟩, .string ⟨#[97, 0]⟩, .string ⟨#[255]⟩, .string ⟨#[35, 32, 255]⟩, .string ⟨#[97, 226, 128, 168]⟩, .string ⟨#[40, 41, 44, 58]⟩, .string ⟨#[45, 45, 49]⟩, .string ⟨#[52, 50, 57, 52, 57, 54, 55, 50, 57, 54]⟩, .string ⟨#[52, 50, 57, 52, 57, 54, 55, 50, 57, 55]⟩, .string ⟨#[45, 52, 50, 57, 52, 57, 54, 55, 50, 57, 55]⟩, .string ⟨#[48, 120, 49, 48, 48, 48, 48, 48, 48, 48, 48]⟩, .string ⟨#[48, 120, 49, 48, 48, 48, 48, 48, 48, 48, 49]⟩, .string ⟨#[49, 45, 50]⟩, .string ⟨#[239, 191, 189]⟩] 9)).alloc (.cells #[.int .i64 (-1), .int .i64 0, .int .i64 0, .int .i64 (-1), .int .i64 (-1), .int .i64 (-1), .int .i64 (-1), .int .i64 (-1), .int .i64 (-1), .int .i64 (-1), .int .i64 (-1), .int .i64 0, .int .i64 1, .int .i64 (-1), .int .i64 1, .int .i64 0, .int .i64 2, .int .i64 1, .int .i64 (-1), .int .i64 0, .int .i64 (-1), .int .i64 0, .int .i64 0, .int .i64 (-1), .int .i64 0, .int .i64 (-1), .int .i64 0] 3)).alloc (.cells #[.int .i64 0, .int .i64 5, .int .i64 5, .int .i64 0, .int .i64 0, .int .i64 0, .int .i64 0, .int .i64 0, .int .i64 0, .int .i64 0, .int .i64 0, .int .i64 5, .int .i64 5, .int .i64 0, .int .i64 5, .int .i64 5, .int .i64 5, .int .i64 5, .int .i64 0, .int .i64 5, .int .i64 0, .int .i64 8, .int .i64 8, .int .i64 0, .int .i64 8, .int .i64 0, .int .i64 5] 3))) := by
    have := hb1.size
    iterate 3 refine Below.alloc ?_ (by first | omega | (simp <;> omega)) _
    exact hb1
  obtain ⟨hs0, hx, ha, he⟩ := wrongAt w1 k h
  generalize (((w1.alloc (.cells #[.string ⟨#[97]⟩, .string ⟨#[45]⟩, .string ⟨#[45, 32, 49]⟩, .string ⟨#[45, 49]⟩, .string ⟨#[48, 120]⟩, .string ⟨#[48, 120, 103]⟩, .string ⟨#[48, 120, 70]⟩, .string ⟨#[49, 97]⟩, .string ⟨#[97, 49]⟩, .string ⟨#[95]⟩, .string ⟨#[195, 169]⟩, .string ⟨#[217, 161]⟩, .string ⟨#[97, 46, 98]⟩, .string ⟨#[35, 46]⟩, .string ⟨#[97, 0]⟩, .string ⟨#[255]⟩, .string ⟨#[35, 32, 255]⟩, .string ⟨#[97, 226, 128, 168]⟩, .string ⟨#[40, 41, 44, 58]⟩, .string ⟨#[45, 45, 49]⟩, .string ⟨#[52, 50, 57, 52, 57, 54, 55, 50, 57, 54]⟩, .string ⟨#[52, 50, 57, 52, 57, 54, 55, 50, 57, 55]⟩, .string ⟨#[45, 52, 50, 57, 52, 57, 54, 55, 50, 57, 55]⟩, .string ⟨#[48, 120, 49, 48, 48, 48, 48, 48, 48, 48, 48]⟩, .string ⟨#[48, 120, 49, 48, 48, 48, 48, 48, 48, 48, 49]⟩, .string ⟨#[49, 45, 50]⟩, .string ⟨#[239, 191, 189]⟩] 9)).alloc (.cells #[.int .i64 (-1), .int .i64 0, .int .i64 0, .int .i64 (-1), .int .i64 (-1), .int .i64 (-1), .int .i64 (-1), .int .i64 (-1), .int .i64 (-1), .int .i64 (-1), .int .i64 (-1), .int .i64 0, .int .i64 1, .int .i64 (-1), .int .i64 1, .int .i64 0, .int .i64 2, .int .i64 1, .int .i64 (-1), .int .i64 0, .int .i64 (-1), .int .i64 0, .int .i64 0, .int .i64 (-1), .int .i64 0, .int .i64 (-1), .int .i64 0] 3)).alloc (.cells #[.int .i64 0, .int .i64 5, .int .i64 5, .int .i64 0, .int .i64 0, .int .i64 0, .int .i64 0, .int .i64 0, .int .i64 0, .int .i64 0, .int .i64 0, .int .i64 5, .int .i64 5, .int .i64 0, .int .i64 5, .int .i64 5, .int .i64 5, .int .i64 5, .int .i64 0, .int .i64 5, .int .i64 0, .int .i64 8, .int .i64 8, .int .i64 0, .int .i64 8, .int .i64 0, .int .i64 5] 3)) = W0 at *
  clear hb1
  have HS0 := Lib.hid hs0
  have hsm := wrong_small h
  have hlen : (txt (wrongT.getD k [])).size ≤ 9223372036854775807 := by
    rw [← data_len]; show (wrongT.getD k []).length ≤ _; omega
  have cS := Lib.hid (split_any (txt (wrongT.getD k [])) W0 hlen (HT.out.below HL.out))
  have HW1 := Lib.hid (fun t ht => wrong_toks (k := k) h (t := t) ht)
  have HW2 := Lib.hid (fun a e ht => wrong_bad (k := k) h (a := a) (e := e) ht)
  clear hs0 hsm hlen
  go_wp2_with fail
  refine cS.out.mono ?_
  rintro e w2 ⟨ho, hb2⟩
  have HB2 := Lib.hid (HL.out.trans (hb2.mono HL.out.size))
  have ha2 := below_cell hb2 (show w1.heap.size + 1 < W0.heap.size by have := HS0.out; omega) ha
  have he2 := below_cell hb2 (show w1.heap.size + 1 + 1 < W0.heap.size by have := HS0.out; omega) he
  clear hb2 ha he hx
  change LexOut (lexZ (wrongT.getD k [])) _ _ _ at ho
  cases hZ : lexZ (wrongT.getD k []) with
  | toks t =>
    rw [hZ] at ho
    obtain ⟨v, rfl, hown⟩ := ho
    obtain ⟨A, c, rfl⟩ := (Row.of_own hown).form
    obtain ⟨r1, r2⟩ := HW1.out t hZ
    rw [r1] at ha2
    rw [r2] at he2
    clear hown hZ r1 r2
    go_wp2_with fail
    go_quiet ((go_at_call 13; refine quiet_mine7 (num_any _ _)))
    go_wp2_with fail
    go_ret
    exact ⟨rfl, Below.drewN_ HB2.out _⟩
  | bad a er =>
    rw [hZ] at ho
    change _ = _ at ho
    subst ho
    obtain ⟨r1, r2⟩ := HW2.out a er hZ
    rw [r1] at ha2
    rw [r2] at he2
    clear hZ r1 r2
    go_wp2_with fail
    go_quiet ((go_at_call 13; refine quiet_mine7 (num_any _ _)))
    go_wp2_with fail
    go_ret
    exact ⟨rfl, Below.drewN_ HB2.out _⟩

theorem lexWrong_walk (n : Int) (w : World) (hT : Tabs w) (w0 : -9223372036854775808 ≤ n ∧ n ≤ 9223372036854775807) :
    Calls Tryd.prog 7 #[.int .i64 n] w fun e w' => e = .returned (.bool true) ∧ Below w.heap.size w w' := by
  by_cases h : n < 0 ∨ 27 ≤ n
  · exact lexWrong_out n w hT h
  · obtain ⟨k, rfl⟩ : ∃ k : Nat, n = (k : Int) := ⟨n.toNat, by omega⟩
    exact lexWrong_in k w hT (by omega)
end Go.Proofs.YtdjllgdeijdieaaDoor.Words

/- The document's SameWords of two rows, and the law's same. -/
import Derived.Test.YtbocpjbfnkoobaaRingAll
namespace Go.Proofs.Ytbocpjbfnkoobaa.Words
set_option maxRecDepth 100000
open Go.RowKit
set_option linter.unusedVariables false
set_option linter.unusedSimpArgs false

theorem w32_at {l : List Int} {j : Nat} (h : j < l.length) : (w32 l)[j]? = some (.int .u32 (l.getD j 0)) := by
  unfold w32; rw [List.getElem?_map, List.getD_eq_getElem?_getD, List.getElem?_eq_getElem h]; rfl
set_option maxHeartbeats 1000000 in
/-- Two rows of the same words are one. -/
theorem sameWords_yes (l : List Int) (n : Nat) (w : World) (va vb : Value) (hn : l.length = n) (ha : Row w w.heap.size 1 va n (w32 l)) (hb : Row w w.heap.size 1 vb n (w32 l)) :
    Calls Try.prog 21 #[va, vb] w fun e w' => e = .returned (.bool true) ∧ Below w.heap.size w w' := by
  obtain ⟨A1, c1, rfl⟩ := ha.form
  obtain ⟨A2, c2, rfl⟩ := hb.form
  have HA := Lib.hid ha
  have HB := Lib.hid hb
  have HN := Lib.hid hn
  obtain ⟨u1, u2⟩ := ha.cap
  have u3 : (n : Int) ≤ 9223372036854775807 := by omega
  clear ha hb hn u1 u2
  go_enter Try.func21, Try.ntmps21
  go_wp2_with fail
  go_loopw [5] (fun i wr => ∃ (k : Nat), k ≤ n ∧ i = .int .i64 k ∧ Below w.heap.size w wr) (fun i _ => n - (intOf i).toNat)
  case atStart => exact ⟨0, Nat.zero_le _, rfl, Below.refl _ _⟩
  case round =>
    obtain ⟨k, hk, rfl, hBel⟩ := hrel
    have HBr := Lib.hid hBel
    have HK := Lib.hid hk
    by_cases hlt : k < n
    · obtain ⟨g1, o1, rfl, hg1, _⟩ := HA.out.at_ (by omega)
      obtain ⟨g2, o2, rfl, hg2, _⟩ := HB.out.at_ (by omega)
      have d1 := (HA.out.below HBr.out).cells _ rfl k _ (w32_at (by rw [HN.out]; exact hlt))
      have d2 := (HB.out.below HBr.out).cells _ rfl k _ (w32_at (by rw [HN.out]; exact hlt))
      rw [add_spot] at d1 d2
      generalize l.getD k 0 = x at d1 d2
      have hz1 : g1 < wr.heap.size := Nat.lt_of_lt_of_le hg1 HBr.out.size
      have hz2 : g2 < wr.heap.size := Nat.lt_of_lt_of_le hg2 HBr.out.size
      have k0 : (0 : Int) ≤ k := by omega
      have k1 : (k : Int) < n := by omega
      clear hk hBel
      go_wp2_with fail
      go_quiet (fail)
      go_wp2_with fail
      go_roundw
      case rel => exact ⟨k + 1, by omega, by go_num, Below.drewN_ HBr.out _⟩
      case measure => simp only [intOf]; omega
    · clear hk hBel
      go_wp2_with fail
      go_ret
      exact ⟨rfl, HBr.out⟩
set_option maxHeartbeats 400000 in
theorem same_yes15 (l : List Int) (n : Nat) (w : World) (va vb : Value) (hn : l.length = n) (ha : Row w w.heap.size 1 va n (w32 l)) (hb : Row w w.heap.size 1 vb n (w32 l)) :
    Calls Try.prog 16 #[va, vb] w fun e w' => e = .returned (.bool true) ∧ Below w.heap.size w w' := by
  have HS := Lib.hid (sameWords_yes l n w va vb hn ha hb)
  clear ha hb hn
  go_enter Try.func16, Try.ntmps16
  go_wp2_with fail
  refine (HS.out).mono ?_
  rintro e w1 ⟨rfl, hb⟩
  have HB := Lib.hid hb
  go_wp2_with fail
  go_ret
  exact ⟨rfl, HB.out⟩

theorem on_keep {w a z : World} {k : Nat} (hB : Below w.heap.size w a) (hk : KeepS (fun j => j = k) a z) (h : w.heap.size ≤ k) : Below w.heap.size w z := Below.trans hB (hk.below hB.size (fun j e => by rw [e]; exact h))
theorem on_keep2 {w a z : World} {k : Nat} (hB : Below w.heap.size w a) (hk : KeepS (fun j => k ≤ j) a z) (h : w.heap.size ≤ k) : Below w.heap.size w z := Below.trans hB (hk.below hB.size (fun j e => Nat.le_trans h e))
theorem on_below {w a z : World} (hB : Below w.heap.size w a) (hb : Below a.heap.size a z) : Below w.heap.size w z := Below.trans hB (hb.mono hB.size)
theorem goes_yes {m : Nat} {q : List Int} (h : q.length < m) : goesQ m q = true := decide_eq_true h
theorem goes_no {m : Nat} {q : List Int} (h : ¬ q.length < m) : goesQ m q = false := decide_eq_false h
theorem push_yes {m : Nat} {q : List Int} (x : Int) (h : q.length < m) : pushQ m q x = q ++ [x] := if_pos h
theorem push_no {m : Nat} {q : List Int} (x : Int) (h : ¬ q.length < m) : pushQ m q x = q := if_neg h
set_option maxHeartbeats 1000000 in
theorem alive15_any (w : World) : Calls Try.prog 7 #[] w fun e w' => e = .returned (.bool true) ∧ Below w.heap.size w w' := by
  go_enter Try.func7, Try.ntmps7
  go_wp2_with fail
  refine (new_any 3 w).mono ?_
  rintro e w1 ⟨rfl, r1, b1⟩
  have R1 : Hid (Rg w1 w.heap.size 3 []) := r1
  have B1 := Lib.hid b1
  have z1 := r1.lt
  clear r1 b1
  go_wp2_with fail
  refine (push_any w.heap.size 3 [] 7 w1 R1.out).mono ?_
  rintro e w2 ⟨rfl, r2, k2⟩
  have R2 : Hid (Rg w2 w.heap.size 3 [7]) := r2
  have z2 := r2.lt
  have B2 := Lib.hid (Below.trans B1.out (k2.below (Nat.le_of_lt z1) (fun j e => by subst e; exact Nat.le_refl _)))
  clear r2 k2
  go_wp2_with fail
  refine (pop_any w.heap.size 3 [7] w2 R2.out).mono ?_
  rintro e w3 ⟨rfl, r3, k3⟩
  have R3 : Hid (Rg w3 w.heap.size 3 []) := r3
  have z3 := r3.lt
  have B3 := Lib.hid (Below.trans B2.out (k3.below (Nat.le_of_lt z2) (fun j e => by subst e; exact Nat.le_refl _)))
  clear r3 k3
  go_wp2_with fail
  refine (new_any 3 w3).mono ?_
  rintro e w4 ⟨rfl, r4, b4⟩
  have R4 : Hid (Rg w4 w3.heap.size 3 []) := r4
  have R3b := Lib.hid (R3.out.below b4 z3)
  have B4 := Lib.hid (Below.trans B3.out (b4.mono (Nat.le_of_lt z3)))
  have z4 := r4.lt
  clear r4 b4
  go_wp2_with fail
  refine (room_any w3.heap.size 3 [] w4 R4.out).mono ?_
  rintro e w5 ⟨rfl, b5⟩
  have R5 := Lib.hid (R3b.out.below b5 R3b.out.lt)
  have B5 := Lib.hid (Below.trans B4.out (b5.mono (Nat.le_of_lt R3b.out.lt)))
  clear b5
  go_wp2_with fail
  refine (all_any w.heap.size 3 [] w5 R5.out).mono ?_
  rintro e w6 ⟨v, rfl, h6, b6⟩
  obtain ⟨A, c, rfl⟩ := (Row.of_own h6).form
  have B6 := Lib.hid (Below.trans B5.out (b6.mono (Nat.le_of_lt R5.out.lt)))
  clear h6 b6
  go_wp2_with fail
  go_ret
  exact ⟨rfl, B6.out⟩
end Go.Proofs.Ytbocpjbfnkoobaa.Words

/- The document's SameWords and SameBools of any two rows. -/
import Derived.Test.YthhoigkmmlkfcaaSStaEq
import Derived.LoopTactic
import Derived.LoopN
namespace Go.Proofs.Ythhoigkmmlkfcaa.Words
set_option maxRecDepth 100000
open Go.RowKit
set_option linter.unusedVariables false
set_option linter.unusedSimpArgs false

theorem dropD_eq {α : Type} {l m : List α} {j : Nat} (d : α) (h1 : j < l.length) (h2 : j < m.length) : (l.drop j = m.drop j) ↔ (l.getD j d = m.getD j d ∧ l.drop (j + 1) = m.drop (j + 1)) := by
  rw [List.drop_eq_getElem_cons h1, List.drop_eq_getElem_cons h2, List.cons.injEq, List.getD_eq_getElem?_getD, List.getD_eq_getElem?_getD, List.getElem?_eq_getElem h1, List.getElem?_eq_getElem h2]; rfl
theorem boolsL_at {l : List Bool} {j : Nat} (h : j < l.length) : (boolsL l)[j]? = some (.bool (l.getD j false)) := by
  unfold boolsL; rw [List.getElem?_map, List.getD_eq_getElem?_getD, List.getElem?_eq_getElem h]; rfl

set_option maxHeartbeats 2000000 in
theorem sameWords_any (A1 A2 : Option Addr) (n1 n2 c1 c2 : Nat) (l1 l2 : List Int) (w : World) (e1 : l1.length = n1) (e2 : l2.length = n2)
    (h1 : Row w w.heap.size 1 (.slice A1 n1 c1) n1 (w32 l1)) (h2 : Row w w.heap.size 1 (.slice A2 n2 c2) n2 (w32 l2)) :
    Calls Try.prog 25 #[.slice A1 n1 c1, .slice A2 n2 c2] w fun e w' => e = .returned (.bool (decide (l1 = l2))) ∧ ∃ q, w' = w.drewN q := by
  obtain ⟨u1, u2⟩ := h1.cap
  obtain ⟨u5, u6⟩ := h2.cap
  by_cases hn : n1 = n2
  rotate_left
  · rw [decide_eq_false (fun h => hn (by rw [← e1, ← e2, h]))]
    have hb : ((n1 : Int) != n2) = true := by simp; omega
    clear h1 h2 e1 e2
    go_enter Try.func25, Try.ntmps25
    go_wp2_with fail
    go_ret
    exact ⟨rfl, 0, rfl⟩
  subst hn
  have E1 := Lib.hid e1
  have E2 := Lib.hid e2
  by_cases h0 : n1 = 0
  · have z1 : l1 = [] := List.eq_nil_of_length_eq_zero (by omega)
    have z2 : l2 = [] := List.eq_nil_of_length_eq_zero (by omega)
    subst h0 z1 z2
    clear h1 h2 e1 e2
    go_enter Try.func25, Try.ntmps25
    go_wp2_with fail
    refine wp_loop_rounds 1 ?_
    rw [rounds_succ]
    go_wp2_with fail
    go_ret
    exact ⟨rfl, 0, rfl⟩
  obtain ⟨b1, o1, rfl, hb1, _⟩ := h1.at_ h0
  obtain ⟨b2, o2, rfl, hb2, _⟩ := h2.at_ h0
  have HC1 := Lib.hid (fun (k : Nat) (h : k < n1) => (show w.cell? ⟨b1, o1 + k, none⟩ = some (.int .u32 (l1.getD k 0)) from by have := h1.cells _ rfl k _ (w32_at (by rw [E1.out]; exact h)); rwa [add_spot] at this))
  have HC2 := Lib.hid (fun (k : Nat) (h : k < n1) => (show w.cell? ⟨b2, o2 + k, none⟩ = some (.int .u32 (l2.getD k 0)) from by have := h2.cells _ rfl k _ (w32_at (by rw [E2.out]; exact h)); rwa [add_spot] at this))
  have HS := Lib.hid (fun (j : Nat) (h : j < n1) => dropD_eq (l := l1) (m := l2) 0 (show j < l1.length by rw [E1.out]; exact h) (show j < l2.length by rw [E2.out]; exact h))
  have HE1 := Lib.hid (fun (k : Nat) (h : n1 ≤ k) => (show l1.drop k = [] from List.drop_eq_nil_of_le (by rw [E1.out]; exact h)))
  have HE2 := Lib.hid (fun (k : Nat) (h : n1 ≤ k) => (show l2.drop k = [] from List.drop_eq_nil_of_le (by rw [E2.out]; exact h)))
  have H0 := Lib.hid (show (l1 = l2) ↔ (l1.drop 0 = l2.drop 0) by rw [List.drop_zero, List.drop_zero])
  clear h1 h2 e1 e2
  go_enter Try.func25, Try.ntmps25
  go_wp2_with fail
  go_loopw [5] (fun i wr => ∃ j m : Nat, j ≤ n1 ∧ i = .int .i64 j ∧ wr = w.drewN m ∧ ((l1 = l2) ↔ (l1.drop j = l2.drop j))) (fun i _ => n1 - (intOf i).toNat)
  case atStart => exact ⟨0, 0, Nat.zero_le _, rfl, rfl, H0.out⟩
  case round =>
    obtain ⟨j, m, hj, rfl, rfl, hT⟩ := hrel
    have HT := Lib.hid hT
    clear hT
    by_cases hlt : j < n1
    · have a0 := HC1.out j hlt
      have b0 := HC2.out j hlt
      have hs := Lib.hid (HS.out j hlt)
      generalize l1.getD j 0 = x at a0 hs
      generalize l2.getD j 0 = y at b0 hs
      have k0 : (0 : Int) ≤ j := by omega
      have k1 : (j : Int) < n1 := by omega
      by_cases hxy : x = y
      · subst hxy
        have hres := Lib.hid (show (l1 = l2) ↔ (l1.drop (j + 1) = l2.drop (j + 1)) by rw [HT.out, hs.out]; simp)
        go_wp2_with fail
        go_quiet (fail)
        go_wp2_with fail
        go_roundw
        case rel => exact ⟨j + 1, _, by omega, by go_num, rfl, hres.out⟩
        case measure => simp [intOf]; omega
      · have q : (x != y) = true := by simpa using hxy
        have hres := Lib.hid (show decide (l1 = l2) = false by rw [decide_eq_false_iff_not, HT.out, hs.out]; exact fun h => hxy h.1)
        clear hxy
        go_wp2_with fail
        go_quiet (fail)
        go_wp2_with fail
        go_ret
        exact ⟨ret_bool hres.out.symm, _, by rw [World.drewN_drewN]⟩
    · have hres := Lib.hid (show decide (l1 = l2) = true by rw [decide_eq_true_iff, HT.out, HE1.out j (by omega), HE2.out j (by omega)])
      have k1 : ¬ (j : Int) < n1 := by omega
      go_wp2_with fail
      go_ret
      exact ⟨ret_bool hres.out.symm, m, rfl⟩

set_option maxHeartbeats 2000000 in
theorem sameBools_any (A1 A2 : Option Addr) (n1 n2 c1 c2 : Nat) (l1 l2 : List Bool) (w : World) (e1 : l1.length = n1) (e2 : l2.length = n2)
    (h1 : Row w w.heap.size 1 (.slice A1 n1 c1) n1 (boolsL l1)) (h2 : Row w w.heap.size 1 (.slice A2 n2 c2) n2 (boolsL l2)) :
    Calls Try.prog 26 #[.slice A1 n1 c1, .slice A2 n2 c2] w fun e w' => e = .returned (.bool (decide (l1 = l2))) ∧ ∃ q, w' = w.drewN q := by
  obtain ⟨u1, u2⟩ := h1.cap
  obtain ⟨u5, u6⟩ := h2.cap
  by_cases hn : n1 = n2
  rotate_left
  · rw [decide_eq_false (fun h => hn (by rw [← e1, ← e2, h]))]
    have hb : ((n1 : Int) != n2) = true := by simp; omega
    clear h1 h2 e1 e2
    go_enter Try.func26, Try.ntmps26
    go_wp2_with fail
    go_ret
    exact ⟨rfl, 0, rfl⟩
  subst hn
  have E1 := Lib.hid e1
  have E2 := Lib.hid e2
  by_cases h0 : n1 = 0
  · have z1 : l1 = [] := List.eq_nil_of_length_eq_zero (by omega)
    have z2 : l2 = [] := List.eq_nil_of_length_eq_zero (by omega)
    subst h0 z1 z2
    clear h1 h2 e1 e2
    go_enter Try.func26, Try.ntmps26
    go_wp2_with fail
    refine wp_loop_rounds 1 ?_
    rw [rounds_succ]
    go_wp2_with fail
    go_ret
    exact ⟨rfl, 0, rfl⟩
  obtain ⟨b1, o1, rfl, hb1, _⟩ := h1.at_ h0
  obtain ⟨b2, o2, rfl, hb2, _⟩ := h2.at_ h0
  have HC1 := Lib.hid (fun (k : Nat) (h : k < n1) => (show w.cell? ⟨b1, o1 + k, none⟩ = some (.bool (l1.getD k false)) from by have := h1.cells _ rfl k _ (boolsL_at (by rw [E1.out]; exact h)); rwa [add_spot] at this))
  have HC2 := Lib.hid (fun (k : Nat) (h : k < n1) => (show w.cell? ⟨b2, o2 + k, none⟩ = some (.bool (l2.getD k false)) from by have := h2.cells _ rfl k _ (boolsL_at (by rw [E2.out]; exact h)); rwa [add_spot] at this))
  have HS := Lib.hid (fun (j : Nat) (h : j < n1) => dropD_eq (l := l1) (m := l2) false (show j < l1.length by rw [E1.out]; exact h) (show j < l2.length by rw [E2.out]; exact h))
  have HE1 := Lib.hid (fun (k : Nat) (h : n1 ≤ k) => (show l1.drop k = [] from List.drop_eq_nil_of_le (by rw [E1.out]; exact h)))
  have HE2 := Lib.hid (fun (k : Nat) (h : n1 ≤ k) => (show l2.drop k = [] from List.drop_eq_nil_of_le (by rw [E2.out]; exact h)))
  have H0 := Lib.hid (show (l1 = l2) ↔ (l1.drop 0 = l2.drop 0) by rw [List.drop_zero, List.drop_zero])
  clear h1 h2 e1 e2
  go_enter Try.func26, Try.ntmps26
  go_wp2_with fail
  go_loopw [5] (fun i wr => ∃ j m : Nat, j ≤ n1 ∧ i = .int .i64 j ∧ wr = w.drewN m ∧ ((l1 = l2) ↔ (l1.drop j = l2.drop j))) (fun i _ => n1 - (intOf i).toNat)
  case atStart => exact ⟨0, 0, Nat.zero_le _, rfl, rfl, H0.out⟩
  case round =>
    obtain ⟨j, m, hj, rfl, rfl, hT⟩ := hrel
    have HT := Lib.hid hT
    clear hT
    by_cases hlt : j < n1
    · have a0 := HC1.out j hlt
      have b0 := HC2.out j hlt
      have hs := Lib.hid (HS.out j hlt)
      generalize l1.getD j false = x at a0 hs
      generalize l2.getD j false = y at b0 hs
      have k0 : (0 : Int) ≤ j := by omega
      have k1 : (j : Int) < n1 := by omega
      by_cases hxy : x = y
      · subst hxy
        have hres := Lib.hid (show (l1 = l2) ↔ (l1.drop (j + 1) = l2.drop (j + 1)) by rw [HT.out, hs.out]; simp)
        go_wp2_with fail
        go_quiet (fail)
        go_wp2_with fail
        go_roundw
        case rel => exact ⟨j + 1, _, by omega, by go_num, rfl, hres.out⟩
        case measure => simp [intOf]; omega
      · have q : (x != y) = true := by simpa using hxy
        have q2 : (x == y) = false := by simpa using hxy
        have hres := Lib.hid (show decide (l1 = l2) = false by rw [decide_eq_false_iff_not, HT.out, hs.out]; exact fun h => hxy h.1)
        clear hxy
        go_wp2_with fail
        go_quiet (fail)
        go_wp2_with fail
        go_ret
        exact ⟨ret_bool hres.out.symm, _, by rw [World.drewN_drewN]⟩
    · have hres := Lib.hid (show decide (l1 = l2) = true by rw [decide_eq_true_iff, HT.out, HE1.out j (by omega), HE2.out j (by omega)])
      have k1 : ¬ (j : Int) < n1 := by omega
      go_wp2_with fail
      go_ret
      exact ⟨ret_bool hres.out.symm, m, rfl⟩
end Go.Proofs.Ythhoigkmmlkfcaa.Words

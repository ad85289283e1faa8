/- 'RingBounds': as many words go in as the queue is long, cut to what may be, and then none till one is out. -/
import Derived.Test.YtbocpjbfnkoobaaWordsSame
namespace Go.Proofs.Ytbocpjbfnkoobaa.Words
set_option maxRecDepth 100000
open Go.RowKit
set_option linter.unusedVariables false
set_option linter.unusedSimpArgs false

theorem head_push {q : List Int} {j : Nat} {x v : Int} (hq : q.length = j) (hh : j ≠ 0 → headQ q = x) (hv : j = 0 → v = x) : headQ (q ++ [v]) = x := by
  cases q with
  | nil => exact hv hq.symm
  | cons y q => exact hh (by rw [← hq]; simp)
theorem wrap_add0 {x : Int} (hx : 0 ≤ x ∧ x ≤ 4294967295) : IntKind.u32.wrap (x + ((0 : Nat) : Int)) = x := by
  have : x + ((0 : Nat) : Int) = x := by omega
  rw [this]; exact IntWalk.u32_in _ hx

set_option maxHeartbeats 2000000 in
theorem bounds_low (n : Int) (hn : n < 1) (x : Int) (w : World) (hx : 0 ≤ x ∧ x ≤ 4294967295) :
    Calls Try.prog 6 #[.int .i64 n, .int .u32 x] w fun e w' => e = .returned (.bool true) ∧ Below w.heap.size w w' := by
  have h2 : ¬ 64 < n := by omega
  have HC := Lib.hid (show capQ n = 1 by unfold capQ; rw [if_pos hn])
  have HX := Lib.hid hx
  go_enter Try.func6, Try.ntmps6
  go_wp2_with fail
  refine (alive15_any w).mono ?_
  rintro e w1 ⟨rfl, b1⟩
  have B1 := Lib.hid b1
  clear b1
  go_wp2_with fail
  refine (new_any n w1).mono ?_
  rintro e w2 ⟨rfl, r2, b2⟩
  rw [HC.out] at r2
  have R2 := Lib.hid r2
  have B2 := Lib.hid (on_below B1.out b2)
  have hbz := B1.out.size
  clear r2 b2
  obtain ⟨b, hb⟩ : ∃ b, b = w1.heap.size := ⟨_, rfl⟩
  rw [← hb] at R2 hbz ⊢
  clear hb
  have HBZ := Lib.hid hbz
  clear hbz
  go_wp2_with fail
  refine (room_any b 1 [] w2 R2.out).mono ?_
  rintro e w3 ⟨rfl, b3⟩
  have R3 := Lib.hid (R2.out.below b3 R2.out.lt)
  have B3 := Lib.hid (on_below B2.out b3)
  clear b3
  go_wp2_with fail
  go_loopw [8] (fun i wr => ∃ (j : Nat) (q : List Int), j ≤ 1 ∧ i = .int .i64 j ∧ Rg wr b 1 q ∧ q.length = j ∧ (j ≠ 0 → headQ q = x) ∧ Below w.heap.size w wr) (fun i _ => 1 - (intOf i).toNat)
  case atStart => exact ⟨0, [], Nat.zero_le _, rfl, R3.out, rfl, (fun h => absurd rfl h), B3.out⟩
  case round =>
    obtain ⟨j, q, hj, rfl, hR, hq, hh, hB⟩ := hrel
    have R4 := Lib.hid hR
    have B4 := Lib.hid hB
    have HQ := Lib.hid hq
    have HH := Lib.hid hh
    clear hR hB hq hh
    by_cases hlt : j < 1
    · have k0 : (0 : Int) ≤ j := by omega
      have k1 : (j : Int) < 1 := by omega
      have HG := Lib.hid (goes_yes (m := 1) (q := q) (by rw [HQ.out]; exact hlt))
      have HP := Lib.hid (fun v => push_yes (m := 1) (q := q) v (by rw [HQ.out]; exact hlt))
      go_wp2_with fail
      refine (push_any b 1 q _ wr R4.out).mono ?_
      rintro e w5 ⟨rfl, r5, k5⟩
      rw [HG.out]
      rw [HP.out] at r5
      have R5 := Lib.hid r5
      have B5 := Lib.hid (on_keep B4.out k5 HBZ.out)
      clear r5 k5
      go_wp2_with fail
      go_roundw
      case rel => exact ⟨j + 1, _, by omega, by go_num, R5.out, by rw [List.length_append, HQ.out]; rfl, (fun _ => head_push HQ.out HH.out (fun h => by rw [h]; first | exact wrap_add0 HX.out | exact Int.add_zero _ | simp)), B5.out⟩
      case measure => simp [intOf]; omega
    · have hjm : j = 1 := by omega
      have hh := HH.out (by omega)
      have hq : q.length = 1 := by rw [HQ.out, hjm]
      obtain ⟨y, q', rfl⟩ : ∃ y q', q = y :: q' := by
        cases q with
        | nil => exfalso; have h0 : (0 : Nat) = 1 := hq; omega
        | cons y q' => exact ⟨y, q', rfl⟩
      have hy : y = x := hh
      subst hy
      have hql : q'.length + 1 = 1 := hq
      have HG := Lib.hid (goes_no (m := 1) (q := y :: q') (by rw [hq]; omega))
      have HP := Lib.hid (fun v => push_no (m := 1) (q := y :: q') v (by rw [hq]; omega))
      have HG2 := Lib.hid (goes_yes (m := 1) (q := q') (by omega))
      have HP2 := Lib.hid (fun v => push_yes (m := 1) (q := q') v (by omega))
      have HL := Lib.hid (show (q' ++ [y]).length = 1 by rw [List.length_append]; exact hql)
      clear hh hq hql
      go_wp2_with fail
      refine (push_any b 1 (y :: q') _ wr R4.out).mono ?_
      rintro e w5 ⟨rfl, r5, k5⟩
      rw [HG.out]
      rw [HP.out] at r5
      have R5 := Lib.hid r5
      have B5 := Lib.hid (on_keep B4.out k5 HBZ.out)
      clear r5 k5
      go_wp2_with fail
      refine (pop_any b 1 (y :: q') w5 R5.out).mono ?_
      rintro e w6 ⟨rfl, r6, k6⟩
      rw [show headQ (y :: q') = y from rfl, show anyQ (y :: q') = true from rfl]
      have R6 : Hid (Rg w6 b 1 q') := r6
      have B6 := Lib.hid (on_keep B5.out k6 HBZ.out)
      clear r6 k6
      go_wp2_with fail
      refine (push_any b 1 q' y w6 R6.out).mono ?_
      rintro e w7 ⟨rfl, r7, k7⟩
      rw [HG2.out]
      rw [HP2.out] at r7
      have R7 := Lib.hid r7
      have B7 := Lib.hid (on_keep B6.out k7 HBZ.out)
      clear r7 k7
      go_wp2_with fail
      refine (room_any b 1 _ w7 R7.out).mono ?_
      rintro e w8 ⟨rfl, b8⟩
      rw [HL.out]
      have R8 := Lib.hid (R7.out.below b8 R7.out.lt)
      have B8 := Lib.hid (on_below B7.out b8)
      clear b8
      have ez : 1 - 1 = 0 := Nat.sub_self _
      go_wp2_with fail
      refine (all_any b 1 _ w8 R8.out).mono ?_
      rintro e w9 ⟨v, rfl, h9, b9⟩
      rw [HL.out] at h9
      obtain ⟨A, c, rfl⟩ := (Row.of_own h9).form
      have B9 := Lib.hid (on_below B8.out b9)
      clear h9 b9
      go_wp2_with fail
      go_ret
      exact ⟨rfl, B9.out⟩

set_option maxHeartbeats 2000000 in
theorem bounds_high (n : Int) (hn : 64 < n) (x : Int) (w : World) (hx : 0 ≤ x ∧ x ≤ 4294967295) :
    Calls Try.prog 6 #[.int .i64 n, .int .u32 x] w fun e w' => e = .returned (.bool true) ∧ Below w.heap.size w w' := by
  have h2 : ¬ n < 1 := by omega
  have HC := Lib.hid (show capQ n = 64 by unfold capQ; rw [if_neg h2, if_pos hn])
  have HX := Lib.hid hx
  go_enter Try.func6, Try.ntmps6
  go_wp2_with fail
  refine (alive15_any w).mono ?_
  rintro e w1 ⟨rfl, b1⟩
  have B1 := Lib.hid b1
  clear b1
  go_wp2_with fail
  refine (new_any n w1).mono ?_
  rintro e w2 ⟨rfl, r2, b2⟩
  rw [HC.out] at r2
  have R2 := Lib.hid r2
  have B2 := Lib.hid (on_below B1.out b2)
  have hbz := B1.out.size
  clear r2 b2
  obtain ⟨b, hb⟩ : ∃ b, b = w1.heap.size := ⟨_, rfl⟩
  rw [← hb] at R2 hbz ⊢
  clear hb
  have HBZ := Lib.hid hbz
  clear hbz
  go_wp2_with fail
  refine (room_any b 64 [] w2 R2.out).mono ?_
  rintro e w3 ⟨rfl, b3⟩
  have R3 := Lib.hid (R2.out.below b3 R2.out.lt)
  have B3 := Lib.hid (on_below B2.out b3)
  clear b3
  go_wp2_with fail
  go_loopw [8] (fun i wr => ∃ (j : Nat) (q : List Int), j ≤ 64 ∧ i = .int .i64 j ∧ Rg wr b 64 q ∧ q.length = j ∧ (j ≠ 0 → headQ q = x) ∧ Below w.heap.size w wr) (fun i _ => 64 - (intOf i).toNat)
  case atStart => exact ⟨0, [], Nat.zero_le _, rfl, R3.out, rfl, (fun h => absurd rfl h), B3.out⟩
  case round =>
    obtain ⟨j, q, hj, rfl, hR, hq, hh, hB⟩ := hrel
    have R4 := Lib.hid hR
    have B4 := Lib.hid hB
    have HQ := Lib.hid hq
    have HH := Lib.hid hh
    clear hR hB hq hh
    by_cases hlt : j < 64
    · have k0 : (0 : Int) ≤ j := by omega
      have k1 : (j : Int) < 64 := by omega
      have HG := Lib.hid (goes_yes (m := 64) (q := q) (by rw [HQ.out]; exact hlt))
      have HP := Lib.hid (fun v => push_yes (m := 64) (q := q) v (by rw [HQ.out]; exact hlt))
      go_wp2_with fail
      refine (push_any b 64 q _ wr R4.out).mono ?_
      rintro e w5 ⟨rfl, r5, k5⟩
      rw [HG.out]
      rw [HP.out] at r5
      have R5 := Lib.hid r5
      have B5 := Lib.hid (on_keep B4.out k5 HBZ.out)
      clear r5 k5
      go_wp2_with fail
      go_roundw
      case rel => exact ⟨j + 1, _, by omega, by go_num, R5.out, by rw [List.length_append, HQ.out]; rfl, (fun _ => head_push HQ.out HH.out (fun h => by rw [h]; first | exact wrap_add0 HX.out | exact Int.add_zero _ | simp)), B5.out⟩
      case measure => simp [intOf]; omega
    · have hjm : j = 64 := by omega
      have hh := HH.out (by omega)
      have hq : q.length = 64 := by rw [HQ.out, hjm]
      obtain ⟨y, q', rfl⟩ : ∃ y q', q = y :: q' := by
        cases q with
        | nil => exfalso; have h0 : (0 : Nat) = 64 := hq; omega
        | cons y q' => exact ⟨y, q', rfl⟩
      have hy : y = x := hh
      subst hy
      have hql : q'.length + 1 = 64 := hq
      have HG := Lib.hid (goes_no (m := 64) (q := y :: q') (by rw [hq]; omega))
      have HP := Lib.hid (fun v => push_no (m := 64) (q := y :: q') v (by rw [hq]; omega))
      have HG2 := Lib.hid (goes_yes (m := 64) (q := q') (by omega))
      have HP2 := Lib.hid (fun v => push_yes (m := 64) (q := q') v (by omega))
      have HL := Lib.hid (show (q' ++ [y]).length = 64 by rw [List.length_append]; exact hql)
      clear hh hq hql
      go_wp2_with fail
      refine (push_any b 64 (y :: q') _ wr R4.out).mono ?_
      rintro e w5 ⟨rfl, r5, k5⟩
      rw [HG.out]
      rw [HP.out] at r5
      have R5 := Lib.hid r5
      have B5 := Lib.hid (on_keep B4.out k5 HBZ.out)
      clear r5 k5
      go_wp2_with fail
      refine (pop_any b 64 (y :: q') w5 R5.out).mono ?_
      rintro e w6 ⟨rfl, r6, k6⟩
      rw [show headQ (y :: q') = y from rfl, show anyQ (y :: q') = true from rfl]
      have R6 : Hid (Rg w6 b 64 q') := r6
      have B6 := Lib.hid (on_keep B5.out k6 HBZ.out)
      clear r6 k6
      go_wp2_with fail
      refine (push_any b 64 q' y w6 R6.out).mono ?_
      rintro e w7 ⟨rfl, r7, k7⟩
      rw [HG2.out]
      rw [HP2.out] at r7
      have R7 := Lib.hid r7
      have B7 := Lib.hid (on_keep B6.out k7 HBZ.out)
      clear r7 k7
      go_wp2_with fail
      refine (room_any b 64 _ w7 R7.out).mono ?_
      rintro e w8 ⟨rfl, b8⟩
      rw [HL.out]
      have R8 := Lib.hid (R7.out.below b8 R7.out.lt)
      have B8 := Lib.hid (on_below B7.out b8)
      clear b8
      have ez : 64 - 64 = 0 := Nat.sub_self _
      go_wp2_with fail
      refine (all_any b 64 _ w8 R8.out).mono ?_
      rintro e w9 ⟨v, rfl, h9, b9⟩
      rw [HL.out] at h9
      obtain ⟨A, c, rfl⟩ := (Row.of_own h9).form
      have B9 := Lib.hid (on_below B8.out b9)
      clear h9 b9
      go_wp2_with fail
      go_ret
      exact ⟨rfl, B9.out⟩

set_option maxHeartbeats 2000000 in
theorem bounds_mid (m : Nat) (m1 : 1 ≤ m) (m2 : m ≤ 64) (x : Int) (w : World) (hx : 0 ≤ x ∧ x ≤ 4294967295) :
    Calls Try.prog 6 #[.int .i64 m, .int .u32 x] w fun e w' => e = .returned (.bool true) ∧ Below w.heap.size w w' := by
  have h1 : ¬ (m : Int) < 1 := by omega
  have h2 : ¬ 64 < (m : Int) := by omega
  have HC := Lib.hid (show capQ m = m by unfold capQ; rw [if_neg h1, if_neg h2]; rfl)
  have HX := Lib.hid hx
  go_enter Try.func6, Try.ntmps6
  go_wp2_with fail
  refine (alive15_any w).mono ?_
  rintro e w1 ⟨rfl, b1⟩
  have B1 := Lib.hid b1
  clear b1
  go_wp2_with fail
  refine (new_any m w1).mono ?_
  rintro e w2 ⟨rfl, r2, b2⟩
  rw [HC.out] at r2
  have R2 := Lib.hid r2
  have B2 := Lib.hid (on_below B1.out b2)
  have hbz := B1.out.size
  clear r2 b2
  obtain ⟨b, hb⟩ : ∃ b, b = w1.heap.size := ⟨_, rfl⟩
  rw [← hb] at R2 hbz ⊢
  clear hb
  have HBZ := Lib.hid hbz
  clear hbz
  go_wp2_with fail
  refine (room_any b m [] w2 R2.out).mono ?_
  rintro e w3 ⟨rfl, b3⟩
  have R3 := Lib.hid (R2.out.below b3 R2.out.lt)
  have B3 := Lib.hid (on_below B2.out b3)
  clear b3
  go_wp2_with fail
  go_loopw [8] (fun i wr => ∃ (j : Nat) (q : List Int), j ≤ m ∧ i = .int .i64 j ∧ Rg wr b m q ∧ q.length = j ∧ (j ≠ 0 → headQ q = x) ∧ Below w.heap.size w wr) (fun i _ => m - (intOf i).toNat)
  case atStart => exact ⟨0, [], Nat.zero_le _, rfl, R3.out, rfl, (fun h => absurd rfl h), B3.out⟩
  case round =>
    obtain ⟨j, q, hj, rfl, hR, hq, hh, hB⟩ := hrel
    have R4 := Lib.hid hR
    have B4 := Lib.hid hB
    have HQ := Lib.hid hq
    have HH := Lib.hid hh
    clear hR hB hq hh
    by_cases hlt : j < m
    · have k0 : (0 : Int) ≤ j := by omega
      have k1 : (j : Int) < m := by omega
      have HG := Lib.hid (goes_yes (m := m) (q := q) (by rw [HQ.out]; exact hlt))
      have HP := Lib.hid (fun v => push_yes (m := m) (q := q) v (by rw [HQ.out]; exact hlt))
      go_wp2_with fail
      refine (push_any b m q _ wr R4.out).mono ?_
      rintro e w5 ⟨rfl, r5, k5⟩
      rw [HG.out]
      rw [HP.out] at r5
      have R5 := Lib.hid r5
      have B5 := Lib.hid (on_keep B4.out k5 HBZ.out)
      clear r5 k5
      go_wp2_with fail
      go_roundw
      case rel => exact ⟨j + 1, _, by omega, by go_num, R5.out, by rw [List.length_append, HQ.out]; rfl, (fun _ => head_push HQ.out HH.out (fun h => by rw [h]; first | exact wrap_add0 HX.out | exact Int.add_zero _ | simp)), B5.out⟩
      case measure => simp [intOf]; omega
    · have hjm : j = m := by omega
      have hh := HH.out (by omega)
      have hq : q.length = m := by rw [HQ.out, hjm]
      obtain ⟨y, q', rfl⟩ : ∃ y q', q = y :: q' := by
        cases q with
        | nil => exfalso; have h0 : (0 : Nat) = m := hq; omega
        | cons y q' => exact ⟨y, q', rfl⟩
      have hy : y = x := hh
      subst hy
      have hql : q'.length + 1 = m := hq
      have HG := Lib.hid (goes_no (m := m) (q := y :: q') (by rw [hq]; omega))
      have HP := Lib.hid (fun v => push_no (m := m) (q := y :: q') v (by rw [hq]; omega))
      have HG2 := Lib.hid (goes_yes (m := m) (q := q') (by omega))
      have HP2 := Lib.hid (fun v => push_yes (m := m) (q := q') v (by omega))
      have HL := Lib.hid (show (q' ++ [y]).length = m by rw [List.length_append]; exact hql)
      clear hh hq hql
      go_wp2_with fail
      refine (push_any b m (y :: q') _ wr R4.out).mono ?_
      rintro e w5 ⟨rfl, r5, k5⟩
      rw [HG.out]
      rw [HP.out] at r5
      have R5 := Lib.hid r5
      have B5 := Lib.hid (on_keep B4.out k5 HBZ.out)
      clear r5 k5
      go_wp2_with fail
      refine (pop_any b m (y :: q') w5 R5.out).mono ?_
      rintro e w6 ⟨rfl, r6, k6⟩
      rw [show headQ (y :: q') = y from rfl, show anyQ (y :: q') = true from rfl]
      have R6 : Hid (Rg w6 b m q') := r6
      have B6 := Lib.hid (on_keep B5.out k6 HBZ.out)
      clear r6 k6
      go_wp2_with fail
      refine (push_any b m q' y w6 R6.out).mono ?_
      rintro e w7 ⟨rfl, r7, k7⟩
      rw [HG2.out]
      rw [HP2.out] at r7
      have R7 := Lib.hid r7
      have B7 := Lib.hid (on_keep B6.out k7 HBZ.out)
      clear r7 k7
      go_wp2_with fail
      refine (room_any b m _ w7 R7.out).mono ?_
      rintro e w8 ⟨rfl, b8⟩
      rw [HL.out]
      have R8 := Lib.hid (R7.out.below b8 R7.out.lt)
      have B8 := Lib.hid (on_below B7.out b8)
      clear b8
      have ez : m - m = 0 := Nat.sub_self _
      go_wp2_with fail
      refine (all_any b m _ w8 R8.out).mono ?_
      rintro e w9 ⟨v, rfl, h9, b9⟩
      rw [HL.out] at h9
      obtain ⟨A, c, rfl⟩ := (Row.of_own h9).form
      have B9 := Lib.hid (on_below B8.out b9)
      clear h9 b9
      go_wp2_with fail
      go_ret
      exact ⟨rfl, B9.out⟩

theorem ringBounds_walk (n x : Int) (w : World) (hn : -9223372036854775808 ≤ n ∧ n ≤ 9223372036854775807) (hx : 0 ≤ x ∧ x ≤ 4294967295) :
    Calls Try.prog 6 #[.int .i64 n, .int .u32 x] w fun e w' => e = .returned (.bool true) ∧ Below w.heap.size w w' := by
  by_cases h1 : n < 1
  · exact bounds_low n h1 x w hx
  · by_cases h2 : 64 < n
    · exact bounds_high n h2 x w hx
    · obtain ⟨m, rfl⟩ : ∃ m : Nat, n = m := ⟨n.toNat, by omega⟩
      exact bounds_mid m (by omega) (by omega) x w hx
end Go.Proofs.Ytbocpjbfnkoobaa.Words

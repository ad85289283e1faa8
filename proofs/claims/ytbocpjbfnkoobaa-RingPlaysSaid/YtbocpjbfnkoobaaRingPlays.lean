/- 'RingPlays': what any row of pushes and pops answers, and what is in the queue then. -/
import Derived.Test.YtbocpjbfnkoobaaWordsSame
import Derived.Test.YtbocpjbfnkoobaaRefRing
import Derived.Test.YtbocpjbfnkoobaaLin
namespace Go.Proofs.Ytbocpjbfnkoobaa.Words
set_option maxRecDepth 100000
open Go.RowKit
set_option linter.unusedVariables false
set_option linter.unusedSimpArgs false

theorem i64_at {l : List Int} {j : Nat} (h : j < l.length) : (l.map (Value.int .i64))[j]? = some (.int .i64 (l.getD j 0)) := by
  rw [List.getElem?_map, List.getD_eq_getElem?_getD, List.getElem?_eq_getElem h]; rfl
set_option maxHeartbeats 4000000 in
theorem ringPlays_walk (a : Int) (v : Value) (n : Nat) (z : List Int) (u : Value) (k : Nat) (y : List Int) (w : World) (ha : -9223372036854775808 ≤ a ∧ a ≤ 9223372036854775807)
    (hr : Row w w.heap.size 1 v n (z.map (Value.int .i64))) (hz : ∀ x ∈ z, -9223372036854775808 ≤ x ∧ x ≤ 9223372036854775807) (hs : Row w w.heap.size 1 u k (y.map (Value.int .u32))) (hy : ∀ x ∈ y, 0 ≤ x ∧ x ≤ 4294967295) :
    Calls Try.prog 3 #[.int .i64 a, v, u] w fun e w' => e = .returned (.bool true) ∧ Below w.heap.size w w' := by
  obtain ⟨A, c, rfl⟩ := hr.form
  obtain ⟨U, d, rfl⟩ := hs.form
  have HL : Hid (z.length = n) := by have h : z.length = n := by (have := hr.len; simpa using this)
                                     exact h
  have HM : Hid (y.length = k) := by have h : y.length = k := by (have := hs.len; simpa using this)
                                     exact h
  have HR := Lib.hid hr
  have HS : Hid (Row w w.heap.size 1 (.slice U k d) k (w32 y)) := hs
  have u1 := hr.cap
  have u2 := hs.cap
  clear hr hs hz hy
  go_enter Try.func3, Try.ntmps3
  go_wp2_with fail
  refine (alive15_any w).mono ?_
  rintro e w1 ⟨rfl, b1⟩
  have B1 := Lib.hid b1
  clear b1
  by_cases h200 : 200 < n
  · have k1 : (200 : Int) < n := by omega
    go_wp2_with fail
    go_ret
    exact ⟨rfl, B1.out⟩
  · have k1 : ¬ (200 : Int) < n := by omega
    by_cases hkn : k < n
    · have k2 : (k : Int) < n := by omega
      go_wp2_with fail
      go_ret
      exact ⟨rfl, B1.out⟩
    · have k2 : ¬ (k : Int) < n := by omega
      go_wp2_with fail
      refine (new_any a w1).mono ?_
      rintro e w2 ⟨rfl, r2, b2⟩
      have R2 := Lib.hid r2
      have B2 := Lib.hid (on_below B1.out b2)
      have hz1 := r2.lt
      clear r2 b2
      go_wp2_with fail
      refine (refNew_any a w2).mono ?_
      rintro e w3 ⟨rfl, r3, b3⟩
      have S3 := Lib.hid r3
      have R3 := Lib.hid (R2.out.below b3 R2.out.lt)
      have B3 := Lib.hid (on_below B2.out b3)
      have hs1 := B1.out.size
      clear r3 b3
      obtain ⟨ba, hba⟩ : ∃ ba, ba = w1.heap.size := ⟨_, rfl⟩
      obtain ⟨bb, hbb⟩ : ∃ bb, bb = w2.heap.size := ⟨_, rfl⟩
      rw [← hba] at R2 R3 hz1 hs1 ⊢
      rw [← hbb] at S3 hz1 ⊢
      clear hba hbb
      have HBA := Lib.hid hs1
      have HAB := Lib.hid hz1
      have HBB : Hid (w.heap.size ≤ bb) := by have : w.heap.size ≤ bb := by omega
                                              exact this
      clear hs1 hz1
      obtain ⟨m, hm⟩ : ∃ m, m = capQ a := ⟨_, rfl⟩
      rw [← hm] at R2 R3 S3
      clear hm
      go_wp2_with fail
      go_loopw [10] (fun i wr => ∃ (j : Nat) (q : List Int), j ≤ n ∧ i = .int .i64 j ∧ Rg wr ba m q ∧ Rf wr bb m q ∧ Below w.heap.size w wr) (fun i _ => n - (intOf i).toNat)
      case atStart => exact ⟨0, [], Nat.zero_le _, rfl, R3.out, S3.out, B3.out⟩
      case round =>
        obtain ⟨j, q, hj, rfl, hA, hB, hK⟩ := hrel
        have R4 := Lib.hid hA
        have S4 := Lib.hid hB
        have B4 := Lib.hid hK
        clear hA hB hK
        by_cases hlt : j < n
        · have k0 : (0 : Int) ≤ j := by omega
          have k3 : (j : Int) < n := by omega
          have k4 : (j : Int) < k := by omega
          obtain ⟨g, off, rfl, hg, _⟩ := HR.out.at_ (by omega)
          have d1 := (HR.out.below B4.out).cells _ rfl j _ (i64_at (by rw [HL.out]; exact hlt))
          rw [add_spot] at d1
          have hgz : g < wr.heap.size := Nat.lt_of_lt_of_le hg B4.out.size
          obtain ⟨x, hx⟩ : ∃ x, x = z.getD j 0 := ⟨_, rfl⟩
          rw [← hx] at d1
          clear hx
          obtain ⟨g2, off2, rfl, hg2, _⟩ := HS.out.at_ (by omega)
          have d2 := (HS.out.below B4.out).cells _ rfl j _ (w32_at (by rw [HM.out]; omega))
          rw [add_spot] at d2
          have hgz2 : g2 < wr.heap.size := Nat.lt_of_lt_of_le hg2 B4.out.size
          have HG2 := Lib.hid hg2
          obtain ⟨t, ht⟩ : ∃ t, t = y.getD j 0 := ⟨_, rfl⟩
          rw [← ht] at d2
          have HD2 := Lib.hid (fun (X : World) (hX : Below w.heap.size w X) => (show X.cell? ⟨g2, off2 + j, none⟩ = some (.int .u32 t) by have h1 := (HS.out.below hX).cells _ rfl j _ (w32_at (by rw [HM.out]; omega)); rw [add_spot, ← ht] at h1; exact h1))
          clear ht
          cases hbit : (bits .and .i64 x 1 == 0)
          · go_wp2_with fail
            refine (pop_any ba m q wr R4.out).mono ?_
            rintro e w5 ⟨rfl, r5, k5⟩
            have R5 := Lib.hid r5
            have S5 := Lib.hid (S4.out.keepS k5 (fun j e => by rw [e]; exact HAB.out))
            have B5 := Lib.hid (on_keep B4.out k5 HBA.out)
            clear r5 k5
            go_wp2_with fail
            refine (refPop_any bb m q w5 S5.out).mono ?_
            rintro e w6 ⟨rfl, r6, k6⟩
            have S6 := Lib.hid r6
            have R6 := Lib.hid (R5.out.keepS k6 (fun e => Nat.not_lt.2 e HAB.out))
            have B6 := Lib.hid (on_keep2 B5.out k6 HBB.out)
            clear r6 k6
            go_wp2_with fail
            refine (room_any ba m q.tail w6 R6.out).mono ?_
            rintro e x1 ⟨rfl, b7⟩
            have R7 := Lib.hid (R6.out.below b7 R6.out.lt)
            have S7 := Lib.hid (S6.out.below b7)
            have B7 := Lib.hid (on_below B6.out b7)
            clear b7
            go_wp2_with fail
            refine (refRoom_any bb m q.tail x1 S7.out).mono ?_
            rintro e x2 ⟨rfl, b8⟩
            have R8 := Lib.hid (R7.out.below b8 R7.out.lt)
            have S8 := Lib.hid (S7.out.below b8)
            have B8 := Lib.hid (on_below B7.out b8)
            clear b8
            go_wp2_with fail
            refine (all_any ba m q.tail x2 R8.out).mono ?_
            rintro e x3 ⟨v9, rfl, o9, b9⟩
            have O9 := Lib.hid o9
            have R9 := Lib.hid (R8.out.below b9 R8.out.lt)
            have S9 := Lib.hid (S8.out.below b9)
            have B9 := Lib.hid (on_below B8.out b9)
            clear o9 b9
            go_wp2_with fail
            refine (refAll_any bb m q.tail x3 S9.out).mono ?_
            rintro e x4 ⟨v10, rfl, o10, b10⟩
            have O10 := Lib.hid o10
            have P10 := Lib.hid (own_below O9.out b10)
            have R10 := Lib.hid (R9.out.below b10 R9.out.lt)
            have S10 := Lib.hid (S9.out.below b10)
            have B10 := Lib.hid (on_below B9.out b10)
            clear o10 b10
            go_wp2_with fail
            refine (same_yes15 q.tail _ x4 _ _ rfl (Row.of_own P10.out) (Row.of_own O10.out)).mono ?_
            rintro e x5 ⟨rfl, b11⟩
            have R11 := Lib.hid (R10.out.below b11 R10.out.lt)
            have S11 := Lib.hid (S10.out.below b11)
            have B11 := Lib.hid (on_below B10.out b11)
            clear b11
            go_wp2_with fail
            go_roundw
            case rel => exact ⟨j + 1, q.tail, by omega, by go_num, R11.out, S11.out, B11.out⟩
            case measure => simp [intOf]; omega
          · go_wp2_with fail
            refine wp_region_lin [(0, true), (1, true), (2, true), (3, true), (4, true), (6, true), (7, true), (8, true), (9, true), (10, true), (5, false), (11, false), (12, true)]
              (by kernel_rfl) (by kernel_rfl) rfl (by kernel_rfl) (fun X : World => X.cell? ⟨g2, off2 + j, none⟩ = some (.int .u32 t)) ?_
            simp only [List.map_cons, List.map_nil, List.getElem?_toArray, List.getElem?_cons_succ, List.getElem?_cons_zero]
            have R4d := Lib.hid (R4.out.below (Below.refl _ _).drew R4.out.lt)
            have S4d := Lib.hid (S4.out.below (Below.refl _ _).drew)
            have B4d := Lib.hid (on_below B4.out (Below.refl _ _).drew)
            have d3 := HD2.out _ B4d.out
            obtain ⟨W, hW⟩ : ∃ W, W = wr.drew := ⟨_, rfl⟩
            rw [← hW] at R4d S4d B4d d3 ⊢
            clear hW
            iterate 10 (refine lin_take (v := ?_) (by assumption) (by rfl) ?_ ?_; rotate_left; (intro x hx; (try dsimp only at hx); go_simp; try (with_reducible rfl)); (simp only [Act.put, List.setIfInBounds_toArray, List.set_cons_zero, List.set_cons_succ]))
            refine lin_call (by assumption) (by rfl) (fun K hK => ?_)
            go_simp
            refine (push_any ba m q t W R4d.out).mono ?_
            rintro e w5 ⟨rfl, r5, k5⟩
            have R5 := Lib.hid r5
            have S5 := Lib.hid (S4d.out.keepS k5 (fun j e => by rw [e]; exact HAB.out))
            have B5 := Lib.hid (on_keep B4d.out k5 HBA.out)
            have d5 := HD2.out _ B5.out
            clear r5 k5
            go_wp2_with fail
            refine hK.out _ _ (by assumption) (fun _ => ?_)
            clear hK K
            try simp only [Act.put, List.setIfInBounds_toArray, List.set_cons_zero, List.set_cons_succ]
            refine lin_call (by assumption) (by rfl) (fun K hK => ?_)
            go_simp
            refine (refPush_any bb m q t w5 S5.out).mono ?_
            rintro e w6 ⟨rfl, r6, k6⟩
            have S6 := Lib.hid r6
            have R6 := Lib.hid (R5.out.keepS k6 (fun e => Nat.not_lt.2 e HAB.out))
            have B6 := Lib.hid (on_keep2 B5.out k6 HBB.out)
            have d6 := HD2.out _ B6.out
            clear r6 k6
            go_wp2_with fail
            refine hK.out _ _ (by assumption) (fun _ => ?_)
            clear hK K
            try simp only [Act.put, List.setIfInBounds_toArray, List.set_cons_zero, List.set_cons_succ]
            (refine lin_take (v := ?_) (by assumption) (by rfl) ?_ ?_; rotate_left; (intro x hx; (try dsimp only at hx); go_simp; try (with_reducible rfl)); (simp only [Act.put, List.setIfInBounds_toArray, List.set_cons_zero, List.set_cons_succ]))
            refine lin_done ?_
            go_wp2_with fail
            refine (room_any ba m (pushQ m q t) w6 R6.out).mono ?_
            rintro e x1 ⟨rfl, b7⟩
            have R7 := Lib.hid (R6.out.below b7 R6.out.lt)
            have S7 := Lib.hid (S6.out.below b7)
            have B7 := Lib.hid (on_below B6.out b7)
            clear b7
            go_wp2_with fail
            refine (refRoom_any bb m (pushQ m q t) x1 S7.out).mono ?_
            rintro e x2 ⟨rfl, b8⟩
            have R8 := Lib.hid (R7.out.below b8 R7.out.lt)
            have S8 := Lib.hid (S7.out.below b8)
            have B8 := Lib.hid (on_below B7.out b8)
            clear b8
            go_wp2_with fail
            refine (all_any ba m (pushQ m q t) x2 R8.out).mono ?_
            rintro e x3 ⟨v9, rfl, o9, b9⟩
            have O9 := Lib.hid o9
            have R9 := Lib.hid (R8.out.below b9 R8.out.lt)
            have S9 := Lib.hid (S8.out.below b9)
            have B9 := Lib.hid (on_below B8.out b9)
            clear o9 b9
            go_wp2_with fail
            refine (refAll_any bb m (pushQ m q t) x3 S9.out).mono ?_
            rintro e x4 ⟨v10, rfl, o10, b10⟩
            have O10 := Lib.hid o10
            have P10 := Lib.hid (own_below O9.out b10)
            have R10 := Lib.hid (R9.out.below b10 R9.out.lt)
            have S10 := Lib.hid (S9.out.below b10)
            have B10 := Lib.hid (on_below B9.out b10)
            clear o10 b10
            go_wp2_with fail
            refine (same_yes15 (pushQ m q t) _ x4 _ _ rfl (Row.of_own P10.out) (Row.of_own O10.out)).mono ?_
            rintro e x5 ⟨rfl, b11⟩
            have R11 := Lib.hid (R10.out.below b11 R10.out.lt)
            have S11 := Lib.hid (S10.out.below b11)
            have B11 := Lib.hid (on_below B10.out b11)
            clear b11
            go_wp2_with fail
            go_roundw
            case rel => exact ⟨j + 1, (pushQ m q t), by omega, by go_num, R11.out, S11.out, B11.out⟩
            case measure => simp [intOf]; omega
        · go_wp2_with fail
          go_ret
          exact ⟨rfl, B4.out⟩
end Go.Proofs.Ytbocpjbfnkoobaa.Words

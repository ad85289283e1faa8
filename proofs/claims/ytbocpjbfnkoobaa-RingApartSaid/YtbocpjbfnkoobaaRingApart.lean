/- 'RingApart': two queues have nothing in common, and what was told of one stays as it is told. -/
import Derived.Test.YtbocpjbfnkoobaaWordsSame
namespace Go.Proofs.Ytbocpjbfnkoobaa.Words
set_option maxRecDepth 100000
open Go.RowKit
set_option linter.unusedVariables false
set_option linter.unusedSimpArgs false

set_option maxHeartbeats 2000000 in
theorem ringApart_walk (v : Value) (n : Nat) (z : List Int) (w : World) (hr : Row w w.heap.size 1 v n (z.map (Value.int .u32))) (hz : ∀ x ∈ z, 0 ≤ x ∧ x ≤ 4294967295) :
    Calls Try.prog 5 #[v] w fun e w' => e = .returned (.bool true) ∧ Below w.heap.size w w' := by
  obtain ⟨A, c, rfl⟩ := hr.form
  have hl : z.length = n := by have := hr.len; simpa using this
  have HL := Lib.hid hl
  have HR : Hid (Row w w.heap.size 1 (.slice A n c) n (w32 z)) := hr
  have u1 := hr.cap
  clear hr hl hz
  go_enter Try.func5, Try.ntmps5
  go_wp2_with fail
  refine (alive15_any w).mono ?_
  rintro e w1 ⟨rfl, b1⟩
  have B1 := Lib.hid b1
  clear b1
  by_cases h60 : 60 < n
  · have k1 : (60 : Int) < n := by omega
    go_wp2_with fail
    go_ret
    exact ⟨rfl, B1.out⟩
  · have k1 : ¬ (60 : Int) < n := by omega
    go_wp2_with fail
    refine (new_any 64 w1).mono ?_
    rintro e w2 ⟨rfl, r2, b2⟩
    have R2 : Hid (Rg w2 w1.heap.size 64 []) := r2
    have B2 := Lib.hid (on_below B1.out b2)
    have hz1 := r2.lt
    clear r2 b2
    go_wp2_with fail
    refine (new_any 64 w2).mono ?_
    rintro e w3 ⟨rfl, r3, b3⟩
    have S3 : Hid (Rg w3 w2.heap.size 64 []) := r3
    have R3 := Lib.hid (R2.out.below b3 R2.out.lt)
    have B3 := Lib.hid (on_below B2.out b3)
    have hs1 := B1.out.size
    clear r3 b3
    obtain ⟨ba, hba⟩ : ∃ ba, ba = w1.heap.size := ⟨_, rfl⟩
    obtain ⟨bb, hbb⟩ : ∃ bb, bb = w2.heap.size := ⟨_, rfl⟩
    rw [← hba] at R2 R3 hz1 hs1 ⊢
    rw [← hbb] at S3 hz1 ⊢
    clear hba hbb
    have HBA := Lib.hid hs1
    have HBB : Hid (w.heap.size ≤ bb) := by have : w.heap.size ≤ bb := by omega
                                            exact this
    have HNE : Hid (ba ≠ bb) := by have : ba ≠ bb := by omega
                                   exact this
    clear hs1 hz1
    go_wp2_with fail
    go_loopw [6] (fun i wr => ∃ (j : Nat), j ≤ n ∧ i = .int .i64 j ∧ Rg wr ba 64 (z.take j) ∧ Rg wr bb 64 [] ∧ Below w.heap.size w wr) (fun i _ => n - (intOf i).toNat)
    case atStart => exact ⟨0, Nat.zero_le _, rfl, R3.out, S3.out, B3.out⟩
    case round =>
      obtain ⟨j, hj, rfl, hA, hB, hK⟩ := hrel
      have R4 := Lib.hid hA
      have S4 := Lib.hid hB
      have B4 := Lib.hid hK
      clear hA hB hK
      by_cases hlt : j < n
      · have k0 : (0 : Int) ≤ j := by omega
        have k2 : (j : Int) < n := by omega
        obtain ⟨g, off, rfl, hg, _⟩ := HR.out.at_ (by omega)
        have d1 := (HR.out.below B4.out).cells _ rfl j _ (w32_at (by rw [HL.out]; exact hlt))
        rw [add_spot] at d1
        have hgz : g < wr.heap.size := Nat.lt_of_lt_of_le hg B4.out.size
        have HT := Lib.hid (take_next (q := z) (j := j) (by rw [HL.out]; exact hlt))
        have HTL := Lib.hid (show (z.take j).length = j by rw [List.length_take, HL.out]; omega)
        have HP := Lib.hid (fun v => push_yes (m := 64) (q := z.take j) v (by rw [HTL.out]; omega))
        obtain ⟨x, hx⟩ : ∃ x, x = z.getD j 0 := ⟨_, rfl⟩
        rw [← hx] at d1 HT
        clear hx
        go_wp2_with fail
        refine (push_any ba 64 (z.take j) x wr R4.out).mono ?_
        rintro e w5 ⟨rfl, r5, k5⟩
        rw [HP.out, ← HT.out] at r5
        have R5 := Lib.hid r5
        have S5 := Lib.hid (S4.out.keepS k5 (fun e => HNE.out e.symm))
        have B5 := Lib.hid (on_keep B4.out k5 HBA.out)
        clear r5 k5
        go_wp2_with fail
        go_roundw
        case rel => exact ⟨j + 1, by omega, by go_num, R5.out, S5.out, B5.out⟩
        case measure => simp [intOf]; omega
      · have hjn : j = n := by omega
        have R5 : Hid (Rg wr ba 64 z) := by
          have := R4.out
          rw [hjn, ← HL.out, List.take_length] at this
          exact this
        clear hlt hj
        go_wp2_with fail
        refine (all_any ba 64 z wr R5.out).mono ?_
        rintro e w6 ⟨vl, rfl, o6, b6⟩
        have hge := o6.lt
        rw [HL.out] at o6
        obtain ⟨A6, c6, rfl⟩ := (Row.of_own o6).form
        have O6 := Lib.hid o6
        have R6 := Lib.hid (R5.out.below b6 R5.out.lt)
        have S6 := Lib.hid (S4.out.below b6 S4.out.lt)
        have B6 := Lib.hid (on_below B4.out b6)
        have G6 := Lib.hid (fun g hg => (hge g hg).1)
        clear o6 b6 hge
        go_wp2_with fail
        refine (push_any bb 64 [] 1 w6 S6.out).mono ?_
        rintro e w7 ⟨rfl, r7, k7⟩
        have S7 : Hid (Rg w7 bb 64 [1]) := r7
        have R7 := Lib.hid (R6.out.keepS k7 HNE.out)
        have O7 := Lib.hid (own_keepS O6.out k7 (fun g hg e => by have := G6.out g hg; have := S4.out.lt; omega))
        have B7 := Lib.hid (on_keep B6.out k7 HBB.out)
        clear r7 k7
        go_wp2_with fail
        refine (pop_any ba 64 z w7 R7.out).mono ?_
        rintro e w8 ⟨rfl, r8, k8⟩
        have R8 := Lib.hid r8
        have S8 := Lib.hid (S7.out.keepS k8 (fun e => HNE.out e.symm))
        have O8 := Lib.hid (own_keepS O7.out k8 (fun g hg e => by have := G6.out g hg; have := R4.out.lt; omega))
        have B8 := Lib.hid (on_keep B7.out k8 HBA.out)
        clear r8 k8
        go_wp2_with fail
        refine (push_any ba 64 z.tail 2 w8 R8.out).mono ?_
        rintro e w9 ⟨rfl, r9, k9⟩
        have S9 := Lib.hid (S8.out.keepS k9 (fun e => HNE.out e.symm))
        have O9 := Lib.hid (own_keepS O8.out k9 (fun g hg e => by have := G6.out g hg; have := R4.out.lt; omega))
        have B9 := Lib.hid (on_keep B8.out k9 HBA.out)
        clear r9 k9
        go_wp2_with fail
        refine (same_yes15 z n w9 _ _ HL.out (Row.of_own O9.out) ((HR.out.below B9.out).more B9.out.size)).mono ?_
        rintro e w10 ⟨rfl, b10⟩
        have S10 := Lib.hid (S9.out.below b10 S9.out.lt)
        have B10 := Lib.hid (on_below B9.out b10)
        clear b10
        go_wp2_with fail
        refine (all_any bb 64 [1] w10 S10.out).mono ?_
        rintro e w11 ⟨vm, rfl, o11, b11⟩
        obtain ⟨A11, c11, rfl⟩ := (Row.of_own o11).form
        have S11 := Lib.hid (S10.out.below b11 S10.out.lt)
        have B11 := Lib.hid (on_below B10.out b11)
        clear o11 b11
        go_wp2_with fail
        refine (room_any bb 64 [1] w11 S11.out).mono ?_
        rintro e w12 ⟨rfl, b12⟩
        have B12 := Lib.hid (on_below B11.out b12)
        clear b12
        go_wp2_with fail
        go_ret
        exact ⟨rfl, B12.out⟩
end Go.Proofs.Ytbocpjbfnkoobaa.Words

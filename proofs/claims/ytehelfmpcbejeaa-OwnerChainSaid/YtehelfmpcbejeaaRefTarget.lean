/- Contracts of the document's own Target, Targets and RightProgram. -/
import Derived.Test.YtehelfmpcbejeaaPData
import Derived.Test.YtehelfmpcbejeaaIsaRight
import Derived.LoopTactic
import Derived.LoopN
namespace Go.Proofs.Ytehelfmpcbejeaa.Words
set_option maxRecDepth 100000
open Go.RowKit
set_option linter.unusedVariables false

theorem targetZ_no {n k : Nat} {i : Ins} (h : isJump i = false ∨ i.imm < -8192 ∨ 8191 < i.imm ∨ (k : Int) + i.imm < 0 ∨ (n : Int) ≤ k + i.imm) : targetZ n k i = -1 := by unfold targetZ; rw [if_pos h]
theorem targetZ_yes {n k : Nat} {i : Ins} (h1 : isJump i = true) (h2 : -8192 ≤ i.imm) (h3 : i.imm ≤ 8191) (h4 : 0 ≤ (k : Int) + i.imm) (h5 : (k : Int) + i.imm < n) : targetZ n k i = k + i.imm := by
  unfold targetZ; rw [if_neg]; simp [h1]; omega

set_option maxHeartbeats 2000000 in
theorem refTarget_any (b off c k : Nat) (sz : Int) (vd : Value) (l : List Ins) (i : Ins) (w : World) (hr : Row w w.heap.size 5 (.slice (some ⟨b, off, none⟩) l.length c) l.length (codeCells l)) (hk : l[k]? = some i) (hsmall : l.length ≤ 4294967296) :
    Calls Try.prog 41 #[.agg #[.slice (some ⟨b, off, none⟩) l.length c, .int .i64 sz, vd], .int .i64 k] w fun e w' => e = .returned (.int .i64 (targetZ l.length k i)) ∧ Below w.heap.size w w' := by
  have hlt : k < l.length := by rw [List.getElem?_eq_some_iff] at hk; exact hk.1
  obtain ⟨hcl, hcm⟩ := hr.cap
  obtain ⟨b', off', e0, hb, _⟩ := hr.at_ (by omega)
  injection e0 with e0
  injection e0 with e1 e2
  subst e1 e2
  obtain ⟨c0, c1, c2, c3, c4⟩ := hr.ins hk
  have T1 := Lib.hid (fun h => targetZ_no (n := l.length) (k := k) (i := i) h)
  have T2 := Lib.hid (fun h1 h2 h3 h4 h5 => targetZ_yes (n := l.length) (k := k) (i := i) h1 h2 h3 h4 h5)
  have J := Lib.hid (isJump_form i)
  clear hr hk
  generalize l.length = n at *
  have hk0 : (0 : Int) ≤ k := by omega
  have hk1 : (k : Int) < n := by omega
  have hF := formZ_range i.op
  have HB := Lib.hid (fun o1 o2 => ((Below.refl w.heap.size w).alloc (Nat.le_refl _) o1).alloc (by simp) o2)
  go_enter Try.func41, Try.ntmps41
  go_wp2_with fail
  refine (refForm_any _ _).mono ?_; rintro e w1 ⟨rfl, rfl⟩
  by_cases hj : formZ i.op = 6 ∨ formZ i.op = 7
  · have HJ := Lib.hid (J.out.2 hj)
    have hor := Lib.hid hj
    by_cases h1 : i.imm < -8192
    · have t := Lib.hid (T1.out (.inr (.inl h1)))
      rcases hj with hj | hj
      all_goals
        rw [hj]
        go_wp2_with fail
        go_ret
        exact ⟨ret_int t.out.symm, HB.out _ _⟩
    by_cases h2 : 8191 < i.imm
    · have t := Lib.hid (T1.out (.inr (.inr (.inl h2))))
      rcases hj with hj | hj
      all_goals
        rw [hj]
        go_wp2_with fail
        go_ret
        exact ⟨ret_int t.out.symm, HB.out _ _⟩
    by_cases h3 : (k : Int) + i.imm < 0
    · have t := Lib.hid (T1.out (.inr (.inr (.inr (.inl h3)))))
      rcases hj with hj | hj
      all_goals
        rw [hj]
        go_wp2_with fail
        go_ret
        exact ⟨ret_int t.out.symm, HB.out _ _⟩
    by_cases h4 : (n : Int) ≤ k + i.imm
    · have t := Lib.hid (T1.out (.inr (.inr (.inr (.inr h4)))))
      rcases hj with hj | hj
      all_goals
        rw [hj]
        go_wp2_with fail
        go_ret
        exact ⟨ret_int t.out.symm, HB.out _ _⟩
    · have t := Lib.hid (T2.out HJ.out (by omega) (by omega) (by omega) (by omega))
      rcases hj with hj | hj
      all_goals
        rw [hj]
        go_wp2_with fail
        go_ret
        exact ⟨ret_int t.out.symm, HB.out _ _⟩
  · have t := Lib.hid (T1.out (.inl (by
      have := J.out
      cases hh : isJump i
      · rfl
      · exact absurd (this.1 hh) hj)))
    have k1 : (formZ i.op == 6) = false := by simp; omega
    have k2 : (formZ i.op == 7) = false := by simp; omega
    have k3 : (formZ i.op != 6) = true := by simp; omega
    have k4 : (formZ i.op != 7) = true := by simp; omega
    clear hj
    go_wp2_with fail
    go_ret
    exact ⟨ret_int t.out.symm, HB.out _ _⟩
end Go.Proofs.Ytehelfmpcbejeaa.Words

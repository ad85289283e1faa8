/- Contracts of isa.Right and of the document's own RightIns: whether an instruction is one that may be. No conditions. -/
import Derived.Test.YtcaibahniheohaaIsaForm
namespace Go.Proofs.Ytcaibahniheohaa.Words
set_option maxRecDepth 100000
open Go.RowKit

theorem right_none {i : Ins} (h : (formZ i.op == 0) = true) : rightB i = false := by
  have : formZ i.op = 0 := by simpa using h
  unfold rightB; simp [this]
theorem right_some {i : Ins} (h : (formZ i.op == 0) = false) : rightB i = (fitsB i.d 0 15 (hasD (formZ i.op)) && fitsB i.a 0 15 (hasA (formZ i.op)) && fitsB i.b 0 15 (hasB (formZ i.op)) && fitsB i.imm (lowI i.op) (highI i.op) (hasI (formZ i.op))) := by
  have : formZ i.op ≠ 0 := by simpa using h
  unfold rightB; simp [this]

set_option maxHeartbeats 1000000 in
/-- Right: the instruction is boxed, and its fields, in new memory. -/
theorem right_any (i : Ins) (w : World) :
    Calls Try.prog 30 #[.agg #[.int .i64 i.op, .int .i64 i.d, .int .i64 i.a, .int .i64 i.b, .int .i64 i.imm]] w fun e w' => e = .returned (.bool (rightB i)) ∧ Below w.heap.size w w' := by
  have hr := formZ_range i.op
  cases h0 : (formZ i.op == 0)
  · have hright := Lib.hid (right_some h0)
    go_enter Try.func30, Try.ntmps30
    go_wp2_with fail
    refine (form_any _ _).mono ?_; rintro e w1 ⟨rfl, rfl⟩
    go_wp2_with fail
    refine (fieldsOf_any _ _ hr.1 hr.2).mono ?_; rintro e w1 ⟨rfl, hb1⟩
    obtain ⟨hc1, hf1⟩ := bcell hb1
    have hz1 : w.heap.size < w1.heap.size := by have := hb1.size; simp at this; omega
    have hB := (((Below.refl w.heap.size w).alloc (Nat.le_refl _) _).trans (hb1.mono (by simp)))
    cases hd : fitsB i.d 0 15 (hasD (formZ i.op))
    · rw [hd] at hright
      go_wp2_with fail
      refine (limits_any _ _).mono ?_; rintro e w2 ⟨rfl, rfl⟩
      go_wp2_with fail
      refine (fits_any _ _ _ _ _).mono ?_; rintro e w2 ⟨rfl, rfl⟩
      rw [hd]
      go_wp2_with fail
      go_ret
      exact ⟨ret_bool (by rw [hright.out]; rfl), hB.alloc (by omega) _⟩
    cases ha : fitsB i.a 0 15 (hasA (formZ i.op))
    · rw [hd, ha] at hright
      go_wp2_with fail
      refine (limits_any _ _).mono ?_; rintro e w2 ⟨rfl, rfl⟩
      go_wp2_with fail
      refine (fits_any _ _ _ _ _).mono ?_; rintro e w2 ⟨rfl, rfl⟩
      rw [hd]
      go_wp2_with fail
      refine (fits_any _ _ _ _ _).mono ?_; rintro e w2 ⟨rfl, rfl⟩
      rw [ha]
      go_wp2_with fail
      go_ret
      exact ⟨ret_bool (by rw [hright.out]; rfl), hB.alloc (by omega) _⟩
    cases hb : fitsB i.b 0 15 (hasB (formZ i.op))
    · rw [hd, ha, hb] at hright
      go_wp2_with fail
      refine (limits_any _ _).mono ?_; rintro e w2 ⟨rfl, rfl⟩
      go_wp2_with fail
      refine (fits_any _ _ _ _ _).mono ?_; rintro e w2 ⟨rfl, rfl⟩
      rw [hd]
      go_wp2_with fail
      refine (fits_any _ _ _ _ _).mono ?_; rintro e w2 ⟨rfl, rfl⟩
      rw [ha]
      go_wp2_with fail
      refine (fits_any _ _ _ _ _).mono ?_; rintro e w2 ⟨rfl, rfl⟩
      rw [hb]
      go_wp2_with fail
      go_ret
      exact ⟨ret_bool (by rw [hright.out]; rfl), hB.alloc (by omega) _⟩
    · rw [hd, ha, hb] at hright
      go_wp2_with fail
      refine (limits_any _ _).mono ?_; rintro e w2 ⟨rfl, rfl⟩
      go_wp2_with fail
      refine (fits_any _ _ _ _ _).mono ?_; rintro e w2 ⟨rfl, rfl⟩
      rw [hd]
      go_wp2_with fail
      refine (fits_any _ _ _ _ _).mono ?_; rintro e w2 ⟨rfl, rfl⟩
      rw [ha]
      go_wp2_with fail
      refine (fits_any _ _ _ _ _).mono ?_; rintro e w2 ⟨rfl, rfl⟩
      rw [hb]
      go_wp2_with fail
      refine (fits_any _ _ _ _ _).mono ?_; rintro e w2 ⟨rfl, rfl⟩
      go_wp2_with fail
      go_ret
      exact ⟨ret_bool (by rw [hright.out]; rfl), hB.alloc (by omega) _⟩
  · have hright := Lib.hid (right_none h0)
    go_enter Try.func30, Try.ntmps30
    go_wp2_with fail
    refine (form_any _ _).mono ?_; rintro e w1 ⟨rfl, rfl⟩
    go_wp2_with fail
    go_ret
    exact ⟨ret_bool hright.out.symm, (Below.refl _ _).alloc (Nat.le_refl _) _⟩

set_option maxHeartbeats 1000000 in
theorem rightIns_any (i : Ins) (w : World) :
    Calls Try.prog 12 #[.agg #[.int .i64 i.op, .int .i64 i.d, .int .i64 i.a, .int .i64 i.b, .int .i64 i.imm]] w fun e w' => e = .returned (.bool (rightB i)) ∧ Below w.heap.size w w' := by
  have hB : ∀ o, Below w.heap.size w (w.alloc o) := fun o => (Below.refl w.heap.size w).alloc (Nat.le_refl _) o
  have HB := Lib.hid hB
  clear hB
  cases h0 : (formZ i.op == 0)
  · have hright := Lib.hid (right_some h0)
    cases hd : fitsB i.d 0 15 (hasD (formZ i.op))
    · rw [hd] at hright
      go_enter Try.func12, Try.ntmps12
      go_wp2_with fail
      refine (refForm_any _ _).mono ?_; rintro e w1 ⟨rfl, rfl⟩
      go_wp2_with fail
      refine (has_any _ _).mono ?_; rintro e w1 ⟨rfl, rfl⟩
      go_wp2_with fail
      refine (reg_any _ _ _).mono ?_; rintro e w1 ⟨rfl, rfl⟩
      rw [hd]
      go_wp2_with fail
      go_ret
      exact ⟨ret_bool (by rw [hright.out]; rfl), HB.out _⟩
    cases ha : fitsB i.a 0 15 (hasA (formZ i.op))
    · rw [hd, ha] at hright
      go_enter Try.func12, Try.ntmps12
      go_wp2_with fail
      refine (refForm_any _ _).mono ?_; rintro e w1 ⟨rfl, rfl⟩
      go_wp2_with fail
      refine (has_any _ _).mono ?_; rintro e w1 ⟨rfl, rfl⟩
      go_wp2_with fail
      refine (reg_any _ _ _).mono ?_; rintro e w1 ⟨rfl, rfl⟩
      rw [hd]
      go_wp2_with fail
      refine (reg_any _ _ _).mono ?_; rintro e w1 ⟨rfl, rfl⟩
      rw [ha]
      go_wp2_with fail
      go_ret
      exact ⟨ret_bool (by rw [hright.out]; rfl), HB.out _⟩
    cases hb : fitsB i.b 0 15 (hasB (formZ i.op))
    · rw [hd, ha, hb] at hright
      go_enter Try.func12, Try.ntmps12
      go_wp2_with fail
      refine (refForm_any _ _).mono ?_; rintro e w1 ⟨rfl, rfl⟩
      go_wp2_with fail
      refine (has_any _ _).mono ?_; rintro e w1 ⟨rfl, rfl⟩
      go_wp2_with fail
      refine (reg_any _ _ _).mono ?_; rintro e w1 ⟨rfl, rfl⟩
      rw [hd]
      go_wp2_with fail
      refine (reg_any _ _ _).mono ?_; rintro e w1 ⟨rfl, rfl⟩
      rw [ha]
      go_wp2_with fail
      refine (reg_any _ _ _).mono ?_; rintro e w1 ⟨rfl, rfl⟩
      rw [hb]
      go_wp2_with fail
      go_ret
      exact ⟨ret_bool (by rw [hright.out]; rfl), HB.out _⟩
    · rw [hd, ha, hb] at hright
      have hl := lowI_cases i.op
      cases hi : hasI (formZ i.op)
      · rw [hi] at hright
        by_cases hz : i.imm = 0
        · have hz' : (i.imm != 0) = false := by simp [hz]
          have hv : rightB i = true := by rw [hright.out]; simp [fitsB, hz]
          have HV := Lib.hid hv
          clear hv
          go_enter Try.func12, Try.ntmps12
          go_wp2_with fail
          refine (refForm_any _ _).mono ?_; rintro e w1 ⟨rfl, rfl⟩
          go_wp2_with fail
          refine (has_any _ _).mono ?_; rintro e w1 ⟨rfl, rfl⟩
          rw [hi]
          go_wp2_with fail
          refine (reg_any _ _ _).mono ?_; rintro e w1 ⟨rfl, rfl⟩
          rw [hd]
          go_wp2_with fail
          refine (reg_any _ _ _).mono ?_; rintro e w1 ⟨rfl, rfl⟩
          rw [ha]
          go_wp2_with fail
          refine (reg_any _ _ _).mono ?_; rintro e w1 ⟨rfl, rfl⟩
          rw [hb]
          go_wp2_with fail
          all_goals
            go_ret
            exact ⟨ret_bool_iff (by first | (rw [HV.out]; done) | (rw [HV.out]; simp; done) | (rw [HV.out]; simp; omega)), HB.out _⟩
        · have hz' : (i.imm != 0) = true := by simp [hz]
          have hv : rightB i = false := by rw [hright.out]; simp [fitsB, hz]
          have HV := Lib.hid hv
          clear hv
          go_enter Try.func12, Try.ntmps12
          go_wp2_with fail
          refine (refForm_any _ _).mono ?_; rintro e w1 ⟨rfl, rfl⟩
          go_wp2_with fail
          refine (has_any _ _).mono ?_; rintro e w1 ⟨rfl, rfl⟩
          rw [hi]
          go_wp2_with fail
          refine (reg_any _ _ _).mono ?_; rintro e w1 ⟨rfl, rfl⟩
          rw [hd]
          go_wp2_with fail
          refine (reg_any _ _ _).mono ?_; rintro e w1 ⟨rfl, rfl⟩
          rw [ha]
          go_wp2_with fail
          refine (reg_any _ _ _).mono ?_; rintro e w1 ⟨rfl, rfl⟩
          rw [hb]
          go_wp2_with fail
          go_ret
          exact ⟨ret_bool HV.out.symm, HB.out _⟩
      · rw [hi] at hright
        have hv : rightB i = decide (lowI i.op ≤ i.imm ∧ i.imm ≤ highI i.op) := by rw [hright.out]; simp [fitsB]
        have HV := Lib.hid hv
        clear hv
        go_enter Try.func12, Try.ntmps12
        go_wp2_with fail
        refine (refForm_any _ _).mono ?_; rintro e w1 ⟨rfl, rfl⟩
        go_wp2_with fail
        refine (has_any _ _).mono ?_; rintro e w1 ⟨rfl, rfl⟩
        rw [hi]
        go_wp2_with fail
        refine (reg_any _ _ _).mono ?_; rintro e w1 ⟨rfl, rfl⟩
        rw [hd]
        go_wp2_with fail
        refine (reg_any _ _ _).mono ?_; rintro e w1 ⟨rfl, rfl⟩
        rw [ha]
        go_wp2_with fail
        refine (reg_any _ _ _).mono ?_; rintro e w1 ⟨rfl, rfl⟩
        rw [hb]
        go_wp2_with fail
        all_goals
          go_ret
          exact ⟨ret_bool_iff (by rw [HV.out]; (try simp only [beq_iff_eq, beq_eq_false_iff_ne, ne_eq] at *); first | (simp; done) | (simp; omega)), HB.out _⟩
  · have hright := Lib.hid (right_none h0)
    go_enter Try.func12, Try.ntmps12
    go_wp2_with fail
    refine (refForm_any _ _).mono ?_; rintro e w1 ⟨rfl, rfl⟩
    go_wp2_with fail
    refine (has_any _ _).mono ?_; rintro e w1 ⟨rfl, rfl⟩
    go_wp2_with fail
    go_ret
    exact ⟨ret_bool hright.out.symm, HB.out _⟩
end Go.Proofs.Ytcaibahniheohaa.Words

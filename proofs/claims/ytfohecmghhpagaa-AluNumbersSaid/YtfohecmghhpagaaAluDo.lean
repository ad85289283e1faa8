/- Contracts of alu.Do and of the document's own Do. No conditions but that a and b are words. -/
import Derived.Test.YtfohecmghhpagaaAluReckon
namespace Go.Proofs.Ytfohecmghhpagaa.Words
open Go.RowKit

theorem quiet_mine {P : Program} {f : FuncId} {args : Array Value} {w : World} {n : Nat} {v : Value} (h : Calls P f args (w.drewN n) fun e w' => e = .returned v ∧ w.drewN n = w') :
    Calls P f args (w.drewN n) fun e w'' => e = .returned v ∧ ∃ m, w'' = w.drewN m := h.mono fun _ _ ⟨he, hm⟩ => ⟨he, n, hm.symm⟩

set_option maxHeartbeats 400000 in
theorem likeness_any (op : Int) (w : World) :
    Calls Try.prog 27 #[.int .i64 op] w fun e w' => e = .returned (.int .i64 (likeZ op)) ∧ w = w' := by
  go_enter Try.func27, Try.ntmps27
  go_wp2
  all_goals
    go_ret
    exact ⟨ret_int (by (try simp only [beq_iff_eq, beq_eq_false_iff_ne, ne_eq] at *); first | (subst op; rfl) | (unfold likeZ; simp [*])), rfl⟩

theorem likeZ_range {op : Int} (h : 17 ≤ op ∧ op ≤ 24) : 1 ≤ likeZ op ∧ likeZ op ≤ 12 := by
  unfold likeZ; repeat' split
  all_goals omega
theorem threeB_low {op b : Int} (h : op ≤ 12) : threeB op b = true := by simp [threeB, h]
theorem doZ_no {i : Ins} {a b : Int} (h : rightB i = false) : doZ i a b = 0 := by simp [doZ, h]
theorem doB_no {i : Ins} {b : Int} (h : rightB i = false) : doB i b = true := by simp [doB, h]
theorem doZ_1 {i : Ins} {a b : Int} (h : rightB i = true) (hf : formZ i.op = 1) : doZ i a b = threeZ i.op a b := by simp [doZ, h, hf]
theorem doB_1 {i : Ins} {b : Int} (h : rightB i = true) (hf : formZ i.op = 1) : doB i b = threeB i.op b := by simp [doB, h, hf]
theorem doZ_2 {i : Ins} {a b : Int} (h : rightB i = true) (hf : formZ i.op = 2) : doZ i a b = threeZ (likeZ i.op) a (i.imm % 4294967296) := by simp [doZ, h, hf]
theorem doB_n {i : Ins} {b : Int} (hf : formZ i.op ≠ 1) : doB i b = true := by simp [doB, hf]
theorem doZ_3 {i : Ins} {a b : Int} (h : rightB i = true) (hf : formZ i.op = 3) : doZ i a b = i.imm * 262144 % 4294967296 := by simp [doZ, h, hf]
theorem doZ_n {i : Ins} {a b : Int} (h1 : formZ i.op ≠ 1) (h2 : formZ i.op ≠ 2) (h3 : formZ i.op ≠ 3) : doZ i a b = 0 := by simp [doZ, h1, h2, h3]

set_option maxHeartbeats 1000000 in
theorem do_any (i : Ins) (a b : Int) (w : World) (ha : 0 ≤ a ∧ a < 4294967296) (hb : 0 ≤ b ∧ b < 4294967296) :
    Calls Try.prog 13 #[.agg #[.int .i64 i.op, .int .i64 i.d, .int .i64 i.a, .int .i64 i.b, .int .i64 i.imm], .int .u32 a, .int .u32 b] w fun e w' => e = .returned (.tuple #[.int .u32 (doZ i a b), .bool (doB i b)]) ∧ Below w.heap.size w w' := by
  go_enter Try.func13, Try.ntmps13
  go_wp2_with fail
  refine (right_any i _).mono ?_; rintro e w1 ⟨rfl, hb1⟩
  obtain ⟨hc1, hf1⟩ := bcell hb1
  have hz1 : w.heap.size < w1.heap.size := by have := hb1.size; simp at this; omega
  have hB1 : Below w.heap.size w w1 := ((Below.refl w.heap.size w).alloc (Nat.le_refl _) _).trans (hb1.mono (by simp))
  cases hr : rightB i
  · go_wp2_with fail
    go_ret2
    exact ⟨ret_wb (doZ_no hr).symm (doB_no hr).symm, hB1⟩
  · have hc := formZ_cases i.op
    go_wp2_with fail
    refine (form_any _ _).mono ?_; rintro e w2 ⟨rfl, rfl⟩
    by_cases h1 : formZ i.op = 1
    · have g1 := Lib.hid (doZ_1 (a := a) (b := b) hr h1)
      have g2 := Lib.hid (doB_1 (b := b) hr h1)
      rw [h1]
      go_wp2_with fail
      refine (reckon_any _ _ _ _ (by omega) ha hb).mono ?_; rintro e w2 ⟨rfl, rfl⟩
      go_wp2_with fail
      go_ret2
      exact ⟨ret_wb g1.out.symm g2.out.symm, hB1⟩
    by_cases h2 : formZ i.op = 2
    · have g1 := Lib.hid (doZ_2 (a := a) (b := b) hr h2)
      have g2 := Lib.hid (doB_n (b := b) h1)
      have hk := Lib.hid (likeZ_range (op := i.op) (by omega))
      have hk' := Lib.hid (threeB_low (b := i.imm % 4294967296) (Int.le_trans hk.out.2 (by omega)))
      rw [h2]
      have hk2 : 1 ≤ likeZ i.op ∧ likeZ i.op ≤ 16 := by have := hk.out; omega
      have hm : 0 ≤ i.imm % 4294967296 ∧ i.imm % 4294967296 < 4294967296 := by omega
      have HK2 := Lib.hid hk2
      have HM := Lib.hid hm
      clear hk2 hm
      go_wp2_with fail
      go_quiet (first
        | (go_at_call 27; refine quiet_mine (likeness_any _ _))
        | (go_at_call 28; refine quiet_mine (of_any _ _))
        | (go_at_call 26; refine quiet_mine (reckon_any _ _ _ _ HK2.out ha HM.out)))
      go_wp2_with fail
      go_ret2
      exact ⟨ret_wb g1.out.symm (hk'.out.trans g2.out.symm), Below.drewN_ hB1 _⟩
    by_cases h3 : formZ i.op = 3
    · have g1 := Lib.hid (doZ_3 (a := a) (b := b) hr h3)
      have g2 := Lib.hid (doB_n (b := b) h1)
      rw [h3]
      go_wp2_with fail
      refine (of_any _ _).mono ?_; rintro e w2 ⟨rfl, rfl⟩
      go_wp2_with fail
      go_ret2
      exact ⟨ret_wb (Eq.trans (by omega) g1.out.symm) g2.out.symm, hB1⟩
    · have g1 := Lib.hid (doZ_n (a := a) (b := b) h1 h2 h3)
      have g2 := Lib.hid (doB_n (b := b) h1)
      have k1 : (formZ i.op == 1) = false := by simpa using h1
      have k2 : (formZ i.op == 2) = false := by simpa using h2
      have k3 : (formZ i.op == 3) = false := by simpa using h3
      clear h1 h2 h3
      go_wp2_with fail
      go_ret2
      exact ⟨ret_wb g1.out.symm g2.out.symm, hB1⟩
end Go.Proofs.Ytfohecmghhpagaa.Words

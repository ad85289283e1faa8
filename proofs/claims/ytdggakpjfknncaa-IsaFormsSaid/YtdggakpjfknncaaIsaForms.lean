/- The walk of the law IsaForms: which form each operation has, and which fields may be there. -/
import Derived.Test.YtdggakpjfknncaaIsaAlive
namespace Go.Proofs.Ytdggakpjfknncaa.Words
open Go.RowKit

theorem field_d (op n : Int) (h : 1 ≤ op ∧ op ≤ 41) (hn : 1 ≤ n ∧ n ≤ 15) : rightB ⟨op, n, 0, 0, 0⟩ = hasD (formZ op) := by
  have hc := formZ_cases op
  have hl := lowI_cases op
  rw [Bool.eq_iff_iff, rightB_iff]
  unfold hasD
  rw [decide_eq_true_iff]
  dsimp only
  constructor
  · rintro ⟨_, h1, _⟩; split at h1 <;> omega
  · intro h1
    refine ⟨h, ?_, ?_, ?_, ?_⟩ <;> split <;> omega
theorem field_a (op n : Int) (h : 1 ≤ op ∧ op ≤ 41) (hn : 1 ≤ n ∧ n ≤ 15) : rightB ⟨op, 0, n, 0, 0⟩ = hasA (formZ op) := by
  have hc := formZ_cases op
  have hl := lowI_cases op
  rw [Bool.eq_iff_iff, rightB_iff]
  unfold hasA
  rw [decide_eq_true_iff]
  dsimp only
  constructor
  · rintro ⟨_, _, h1, _⟩; split at h1 <;> omega
  · intro h1
    refine ⟨h, ?_, ?_, ?_, ?_⟩ <;> split <;> omega
theorem field_b (op n : Int) (h : 1 ≤ op ∧ op ≤ 41) (hn : 1 ≤ n ∧ n ≤ 15) : rightB ⟨op, 0, 0, n, 0⟩ = hasB (formZ op) := by
  have hc := formZ_cases op
  have hl := lowI_cases op
  rw [Bool.eq_iff_iff, rightB_iff]
  unfold hasB
  rw [decide_eq_true_iff]
  dsimp only
  constructor
  · rintro ⟨_, _, _, h1, _⟩; split at h1 <;> omega
  · intro h1
    refine ⟨h, ?_, ?_, ?_, ?_⟩ <;> split <;> omega
theorem field_i (op n : Int) (h : 1 ≤ op ∧ op ≤ 41) (hn : 1 ≤ n ∧ n ≤ 15) : rightB ⟨op, 0, 0, 0, n⟩ = hasI (formZ op) := by
  have hc := formZ_cases op
  have hl := lowI_cases op
  rw [Bool.eq_iff_iff, rightB_iff]
  unfold hasI
  rw [decide_eq_true_iff]
  dsimp only
  constructor
  · rintro ⟨_, _, _, _, h1⟩; split at h1 <;> omega
  · intro h1
    refine ⟨h, ?_, ?_, ?_, ?_⟩ <;> split <;> omega
theorem field_none (op : Int) (h : 1 ≤ op ∧ op ≤ 41) : rightB ⟨op, 0, 0, 0, 0⟩ = true := by
  have hl := lowI_cases op
  rw [rightB_iff]
  dsimp only
  refine ⟨h, ?_, ?_, ?_, ?_⟩ <;> split <;> omega

set_option maxHeartbeats 4000000 in
theorem isaForms_d1 (op n : Int) (w : World) (h : 1 ≤ op ∧ op ≤ 41) (hn : 1 ≤ n ∧ n ≤ 15) (hc : formZ op = 1) :
    Calls Try.prog 6 #[.int .i64 op, .int .i64 0, .int .i64 n] w fun e w' => e = .returned (.bool true) ∧ Below w.heap.size w w' := by
  have HR := Lib.hid (show rightB ⟨op, n, 0, 0, 0⟩ = true by rw [field_d op n h hn, hc]; rfl)
  have HN := Lib.hid (field_none op h)
  have HC := Lib.hid hc
  have b1 : decide (op < 1) = false := by simp; omega
  have b2 : decide (41 < op) = false := by simp; omega
  have b3 : decide (n < 1) = false := by simp; omega
  have b4 : decide (15 < n) = false := by simp; omega
  clear hc h hn
  have ix : ∀ w, (Instr.index 9 (.string ⟨#[68, 65, 66, 73]⟩) (.int .i64 0)).run Try.prog w = .ok (.int .u8 68) w := fun _ => by kernel_rfl
  have i0 : ∀ w, (Instr.index 9 (.string ⟨#[68, 65, 66]⟩) (.int .i64 0)).run Try.prog w = .ok (.int .u8 68) w := fun _ => by kernel_rfl
  have i1 : ∀ w, (Instr.index 9 (.string ⟨#[68, 65, 66]⟩) (.int .i64 1)).run Try.prog w = .ok (.int .u8 65) w := fun _ => by kernel_rfl
  have i2 : ∀ w, (Instr.index 9 (.string ⟨#[68, 65, 66]⟩) (.int .i64 2)).run Try.prog w = .ok (.int .u8 66) w := fun _ => by kernel_rfl
  go_enter Try.func6, Try.ntmps6
  go_wp2_with fail
  refine (alive_any _).mono ?_; rintro e w1 ⟨rfl, hb1⟩
  go_wp2_with fail
  refine (form_any op _).mono ?_; rintro e w2 ⟨rfl, rfl⟩
  rw [HC.out]
  go_wp2_with fail
  refine wp_loop_rounds 4 ?_
  iterate 3 (rw [rounds_succ]; go_wp2_with fail; go_quiet (fail); go_wp2_with fail)
  rw [rounds_succ]
  go_wp2_with fail
  refine (right_any ⟨op, n, 0, 0, 0⟩ _).mono ?_; rintro e w3 ⟨rfl, hb3⟩
  rw [HR.out]
  go_wp2_with fail
  refine (right_any ⟨op, 0, 0, 0, 0⟩ _).mono ?_; rintro e w4 ⟨rfl, hb4⟩
  rw [HN.out]
  go_wp2_with fail
  go_ret
  have hz3 := hb3.size
  simp at hz3
  have hz1 := hb1.size
  refine ⟨rfl, Below.trans (hb1.trans ?_) (hb4.mono (by omega))⟩
  refine Below.trans ?_ (hb3.mono (by have := hb1.size; simp; omega))
  refine (Below.drewN_ ?_ _).setCell hz1 _
  exact ((Below.refl w.heap.size w1).alloc hz1 _).alloc (by simp; omega) _

set_option maxHeartbeats 4000000 in
theorem isaForms_d2 (op n : Int) (w : World) (h : 1 ≤ op ∧ op ≤ 41) (hn : 1 ≤ n ∧ n ≤ 15) (hc : formZ op = 2) :
    Calls Try.prog 6 #[.int .i64 op, .int .i64 0, .int .i64 n] w fun e w' => e = .returned (.bool true) ∧ Below w.heap.size w w' := by
  have HR := Lib.hid (show rightB ⟨op, n, 0, 0, 0⟩ = true by rw [field_d op n h hn, hc]; rfl)
  have HN := Lib.hid (field_none op h)
  have HC := Lib.hid hc
  have b1 : decide (op < 1) = false := by simp; omega
  have b2 : decide (41 < op) = false := by simp; omega
  have b3 : decide (n < 1) = false := by simp; omega
  have b4 : decide (15 < n) = false := by simp; omega
  clear hc h hn
  have ix : ∀ w, (Instr.index 9 (.string ⟨#[68, 65, 66, 73]⟩) (.int .i64 0)).run Try.prog w = .ok (.int .u8 68) w := fun _ => by kernel_rfl
  have i0 : ∀ w, (Instr.index 9 (.string ⟨#[68, 65, 73]⟩) (.int .i64 0)).run Try.prog w = .ok (.int .u8 68) w := fun _ => by kernel_rfl
  have i1 : ∀ w, (Instr.index 9 (.string ⟨#[68, 65, 73]⟩) (.int .i64 1)).run Try.prog w = .ok (.int .u8 65) w := fun _ => by kernel_rfl
  have i2 : ∀ w, (Instr.index 9 (.string ⟨#[68, 65, 73]⟩) (.int .i64 2)).run Try.prog w = .ok (.int .u8 73) w := fun _ => by kernel_rfl
  go_enter Try.func6, Try.ntmps6
  go_wp2_with fail
  refine (alive_any _).mono ?_; rintro e w1 ⟨rfl, hb1⟩
  go_wp2_with fail
  refine (form_any op _).mono ?_; rintro e w2 ⟨rfl, rfl⟩
  rw [HC.out]
  go_wp2_with fail
  refine wp_loop_rounds 4 ?_
  iterate 3 (rw [rounds_succ]; go_wp2_with fail; go_quiet (fail); go_wp2_with fail)
  rw [rounds_succ]
  go_wp2_with fail
  refine (right_any ⟨op, n, 0, 0, 0⟩ _).mono ?_; rintro e w3 ⟨rfl, hb3⟩
  rw [HR.out]
  go_wp2_with fail
  refine (right_any ⟨op, 0, 0, 0, 0⟩ _).mono ?_; rintro e w4 ⟨rfl, hb4⟩
  rw [HN.out]
  go_wp2_with fail
  go_ret
  have hz3 := hb3.size
  simp at hz3
  have hz1 := hb1.size
  refine ⟨rfl, Below.trans (hb1.trans ?_) (hb4.mono (by omega))⟩
  refine Below.trans ?_ (hb3.mono (by have := hb1.size; simp; omega))
  refine (Below.drewN_ ?_ _).setCell hz1 _
  exact ((Below.refl w.heap.size w1).alloc hz1 _).alloc (by simp; omega) _

set_option maxHeartbeats 4000000 in
theorem isaForms_d3 (op n : Int) (w : World) (h : 1 ≤ op ∧ op ≤ 41) (hn : 1 ≤ n ∧ n ≤ 15) (hc : formZ op = 3) :
    Calls Try.prog 6 #[.int .i64 op, .int .i64 0, .int .i64 n] w fun e w' => e = .returned (.bool true) ∧ Below w.heap.size w w' := by
  have HR := Lib.hid (show rightB ⟨op, n, 0, 0, 0⟩ = true by rw [field_d op n h hn, hc]; rfl)
  have HN := Lib.hid (field_none op h)
  have HC := Lib.hid hc
  have b1 : decide (op < 1) = false := by simp; omega
  have b2 : decide (41 < op) = false := by simp; omega
  have b3 : decide (n < 1) = false := by simp; omega
  have b4 : decide (15 < n) = false := by simp; omega
  clear hc h hn
  have ix : ∀ w, (Instr.index 9 (.string ⟨#[68, 65, 66, 73]⟩) (.int .i64 0)).run Try.prog w = .ok (.int .u8 68) w := fun _ => by kernel_rfl
  have i0 : ∀ w, (Instr.index 9 (.string ⟨#[68, 73]⟩) (.int .i64 0)).run Try.prog w = .ok (.int .u8 68) w := fun _ => by kernel_rfl
  have i1 : ∀ w, (Instr.index 9 (.string ⟨#[68, 73]⟩) (.int .i64 1)).run Try.prog w = .ok (.int .u8 73) w := fun _ => by kernel_rfl
  go_enter Try.func6, Try.ntmps6
  go_wp2_with fail
  refine (alive_any _).mono ?_; rintro e w1 ⟨rfl, hb1⟩
  go_wp2_with fail
  refine (form_any op _).mono ?_; rintro e w2 ⟨rfl, rfl⟩
  rw [HC.out]
  go_wp2_with fail
  refine wp_loop_rounds 3 ?_
  iterate 2 (rw [rounds_succ]; go_wp2_with fail; go_quiet (fail); go_wp2_with fail)
  rw [rounds_succ]
  go_wp2_with fail
  refine (right_any ⟨op, n, 0, 0, 0⟩ _).mono ?_; rintro e w3 ⟨rfl, hb3⟩
  rw [HR.out]
  go_wp2_with fail
  refine (right_any ⟨op, 0, 0, 0, 0⟩ _).mono ?_; rintro e w4 ⟨rfl, hb4⟩
  rw [HN.out]
  go_wp2_with fail
  go_ret
  have hz3 := hb3.size
  simp at hz3
  have hz1 := hb1.size
  refine ⟨rfl, Below.trans (hb1.trans ?_) (hb4.mono (by omega))⟩
  refine Below.trans ?_ (hb3.mono (by have := hb1.size; simp; omega))
  refine (Below.drewN_ ?_ _).setCell hz1 _
  exact ((Below.refl w.heap.size w1).alloc hz1 _).alloc (by simp; omega) _

set_option maxHeartbeats 4000000 in
theorem isaForms_d4 (op n : Int) (w : World) (h : 1 ≤ op ∧ op ≤ 41) (hn : 1 ≤ n ∧ n ≤ 15) (hc : formZ op = 4) :
    Calls Try.prog 6 #[.int .i64 op, .int .i64 0, .int .i64 n] w fun e w' => e = .returned (.bool true) ∧ Below w.heap.size w w' := by
  have HR := Lib.hid (show rightB ⟨op, n, 0, 0, 0⟩ = true by rw [field_d op n h hn, hc]; rfl)
  have HN := Lib.hid (field_none op h)
  have HC := Lib.hid hc
  have b1 : decide (op < 1) = false := by simp; omega
  have b2 : decide (41 < op) = false := by simp; omega
  have b3 : decide (n < 1) = false := by simp; omega
  have b4 : decide (15 < n) = false := by simp; omega
  clear hc h hn
  have ix : ∀ w, (Instr.index 9 (.string ⟨#[68, 65, 66, 73]⟩) (.int .i64 0)).run Try.prog w = .ok (.int .u8 68) w := fun _ => by kernel_rfl
  have i0 : ∀ w, (Instr.index 9 (.string ⟨#[68, 65, 73]⟩) (.int .i64 0)).run Try.prog w = .ok (.int .u8 68) w := fun _ => by kernel_rfl
  have i1 : ∀ w, (Instr.index 9 (.string ⟨#[68, 65, 73]⟩) (.int .i64 1)).run Try.prog w = .ok (.int .u8 65) w := fun _ => by kernel_rfl
  have i2 : ∀ w, (Instr.index 9 (.string ⟨#[68, 65, 73]⟩) (.int .i64 2)).run Try.prog w = .ok (.int .u8 73) w := fun _ => by kernel_rfl
  go_enter Try.func6, Try.ntmps6
  go_wp2_with fail
  refine (alive_any _).mono ?_; rintro e w1 ⟨rfl, hb1⟩
  go_wp2_with fail
  refine (form_any op _).mono ?_; rintro e w2 ⟨rfl, rfl⟩
  rw [HC.out]
  go_wp2_with fail
  refine wp_loop_rounds 4 ?_
  iterate 3 (rw [rounds_succ]; go_wp2_with fail; go_quiet (fail); go_wp2_with fail)
  rw [rounds_succ]
  go_wp2_with fail
  refine (right_any ⟨op, n, 0, 0, 0⟩ _).mono ?_; rintro e w3 ⟨rfl, hb3⟩
  rw [HR.out]
  go_wp2_with fail
  refine (right_any ⟨op, 0, 0, 0, 0⟩ _).mono ?_; rintro e w4 ⟨rfl, hb4⟩
  rw [HN.out]
  go_wp2_with fail
  go_ret
  have hz3 := hb3.size
  simp at hz3
  have hz1 := hb1.size
  refine ⟨rfl, Below.trans (hb1.trans ?_) (hb4.mono (by omega))⟩
  refine Below.trans ?_ (hb3.mono (by have := hb1.size; simp; omega))
  refine (Below.drewN_ ?_ _).setCell hz1 _
  exact ((Below.refl w.heap.size w1).alloc hz1 _).alloc (by simp; omega) _

set_option maxHeartbeats 4000000 in
theorem isaForms_d5 (op n : Int) (w : World) (h : 1 ≤ op ∧ op ≤ 41) (hn : 1 ≤ n ∧ n ≤ 15) (hc : formZ op = 5) :
    Calls Try.prog 6 #[.int .i64 op, .int .i64 0, .int .i64 n] w fun e w' => e = .returned (.bool true) ∧ Below w.heap.size w w' := by
  have HR := Lib.hid (show rightB ⟨op, n, 0, 0, 0⟩ = false by rw [field_d op n h hn, hc]; rfl)
  have HN := Lib.hid (field_none op h)
  have HC := Lib.hid hc
  have b1 : decide (op < 1) = false := by simp; omega
  have b2 : decide (41 < op) = false := by simp; omega
  have b3 : decide (n < 1) = false := by simp; omega
  have b4 : decide (15 < n) = false := by simp; omega
  clear hc h hn
  have ix : ∀ w, (Instr.index 9 (.string ⟨#[68, 65, 66, 73]⟩) (.int .i64 0)).run Try.prog w = .ok (.int .u8 68) w := fun _ => by kernel_rfl
  have i0 : ∀ w, (Instr.index 9 (.string ⟨#[65, 66, 73]⟩) (.int .i64 0)).run Try.prog w = .ok (.int .u8 65) w := fun _ => by kernel_rfl
  have i1 : ∀ w, (Instr.index 9 (.string ⟨#[65, 66, 73]⟩) (.int .i64 1)).run Try.prog w = .ok (.int .u8 66) w := fun _ => by kernel_rfl
  have i2 : ∀ w, (Instr.index 9 (.string ⟨#[65, 66, 73]⟩) (.int .i64 2)).run Try.prog w = .ok (.int .u8 73) w := fun _ => by kernel_rfl
  go_enter Try.func6, Try.ntmps6
  go_wp2_with fail
  refine (alive_any _).mono ?_; rintro e w1 ⟨rfl, hb1⟩
  go_wp2_with fail
  refine (form_any op _).mono ?_; rintro e w2 ⟨rfl, rfl⟩
  rw [HC.out]
  go_wp2_with fail
  refine wp_loop_rounds 4 ?_
  iterate 3 (rw [rounds_succ]; go_wp2_with fail; go_quiet (fail); go_wp2_with fail)
  rw [rounds_succ]
  go_wp2_with fail
  refine (right_any ⟨op, n, 0, 0, 0⟩ _).mono ?_; rintro e w3 ⟨rfl, hb3⟩
  rw [HR.out]
  go_wp2_with fail
  refine (right_any ⟨op, 0, 0, 0, 0⟩ _).mono ?_; rintro e w4 ⟨rfl, hb4⟩
  rw [HN.out]
  go_wp2_with fail
  go_ret
  have hz3 := hb3.size
  simp at hz3
  have hz1 := hb1.size
  refine ⟨rfl, Below.trans (hb1.trans ?_) (hb4.mono (by omega))⟩
  refine Below.trans ?_ (hb3.mono (by have := hb1.size; simp; omega))
  refine (Below.drewN_ ?_ _).setCell hz1 _
  exact ((Below.refl w.heap.size w1).alloc hz1 _).alloc (by simp; omega) _

set_option maxHeartbeats 4000000 in
theorem isaForms_d6 (op n : Int) (w : World) (h : 1 ≤ op ∧ op ≤ 41) (hn : 1 ≤ n ∧ n ≤ 15) (hc : formZ op = 6) :
    Calls Try.prog 6 #[.int .i64 op, .int .i64 0, .int .i64 n] w fun e w' => e = .returned (.bool true) ∧ Below w.heap.size w w' := by
  have HR := Lib.hid (show rightB ⟨op, n, 0, 0, 0⟩ = false by rw [field_d op n h hn, hc]; rfl)
  have HN := Lib.hid (field_none op h)
  have HC := Lib.hid hc
  have b1 : decide (op < 1) = false := by simp; omega
  have b2 : decide (41 < op) = false := by simp; omega
  have b3 : decide (n < 1) = false := by simp; omega
  have b4 : decide (15 < n) = false := by simp; omega
  clear hc h hn
  have ix : ∀ w, (Instr.index 9 (.string ⟨#[68, 65, 66, 73]⟩) (.int .i64 0)).run Try.prog w = .ok (.int .u8 68) w := fun _ => by kernel_rfl
  have i0 : ∀ w, (Instr.index 9 (.string ⟨#[65, 66, 73]⟩) (.int .i64 0)).run Try.prog w = .ok (.int .u8 65) w := fun _ => by kernel_rfl
  have i1 : ∀ w, (Instr.index 9 (.string ⟨#[65, 66, 73]⟩) (.int .i64 1)).run Try.prog w = .ok (.int .u8 66) w := fun _ => by kernel_rfl
  have i2 : ∀ w, (Instr.index 9 (.string ⟨#[65, 66, 73]⟩) (.int .i64 2)).run Try.prog w = .ok (.int .u8 73) w := fun _ => by kernel_rfl
  go_enter Try.func6, Try.ntmps6
  go_wp2_with fail
  refine (alive_any _).mono ?_; rintro e w1 ⟨rfl, hb1⟩
  go_wp2_with fail
  refine (form_any op _).mono ?_; rintro e w2 ⟨rfl, rfl⟩
  rw [HC.out]
  go_wp2_with fail
  refine wp_loop_rounds 4 ?_
  iterate 3 (rw [rounds_succ]; go_wp2_with fail; go_quiet (fail); go_wp2_with fail)
  rw [rounds_succ]
  go_wp2_with fail
  refine (right_any ⟨op, n, 0, 0, 0⟩ _).mono ?_; rintro e w3 ⟨rfl, hb3⟩
  rw [HR.out]
  go_wp2_with fail
  refine (right_any ⟨op, 0, 0, 0, 0⟩ _).mono ?_; rintro e w4 ⟨rfl, hb4⟩
  rw [HN.out]
  go_wp2_with fail
  go_ret
  have hz3 := hb3.size
  simp at hz3
  have hz1 := hb1.size
  refine ⟨rfl, Below.trans (hb1.trans ?_) (hb4.mono (by omega))⟩
  refine Below.trans ?_ (hb3.mono (by have := hb1.size; simp; omega))
  refine (Below.drewN_ ?_ _).setCell hz1 _
  exact ((Below.refl w.heap.size w1).alloc hz1 _).alloc (by simp; omega) _

set_option maxHeartbeats 4000000 in
theorem isaForms_d7 (op n : Int) (w : World) (h : 1 ≤ op ∧ op ≤ 41) (hn : 1 ≤ n ∧ n ≤ 15) (hc : formZ op = 7) :
    Calls Try.prog 6 #[.int .i64 op, .int .i64 0, .int .i64 n] w fun e w' => e = .returned (.bool true) ∧ Below w.heap.size w w' := by
  have HR := Lib.hid (show rightB ⟨op, n, 0, 0, 0⟩ = false by rw [field_d op n h hn, hc]; rfl)
  have HN := Lib.hid (field_none op h)
  have HC := Lib.hid hc
  have b1 : decide (op < 1) = false := by simp; omega
  have b2 : decide (41 < op) = false := by simp; omega
  have b3 : decide (n < 1) = false := by simp; omega
  have b4 : decide (15 < n) = false := by simp; omega
  clear hc h hn
  have ix : ∀ w, (Instr.index 9 (.string ⟨#[68, 65, 66, 73]⟩) (.int .i64 0)).run Try.prog w = .ok (.int .u8 68) w := fun _ => by kernel_rfl
  have i0 : ∀ w, (Instr.index 9 (.string ⟨#[73]⟩) (.int .i64 0)).run Try.prog w = .ok (.int .u8 73) w := fun _ => by kernel_rfl
  go_enter Try.func6, Try.ntmps6
  go_wp2_with fail
  refine (alive_any _).mono ?_; rintro e w1 ⟨rfl, hb1⟩
  go_wp2_with fail
  refine (form_any op _).mono ?_; rintro e w2 ⟨rfl, rfl⟩
  rw [HC.out]
  go_wp2_with fail
  refine wp_loop_rounds 2 ?_
  iterate 1 (rw [rounds_succ]; go_wp2_with fail; go_quiet (fail); go_wp2_with fail)
  rw [rounds_succ]
  go_wp2_with fail
  refine (right_any ⟨op, n, 0, 0, 0⟩ _).mono ?_; rintro e w3 ⟨rfl, hb3⟩
  rw [HR.out]
  go_wp2_with fail
  refine (right_any ⟨op, 0, 0, 0, 0⟩ _).mono ?_; rintro e w4 ⟨rfl, hb4⟩
  rw [HN.out]
  go_wp2_with fail
  go_ret
  have hz3 := hb3.size
  simp at hz3
  have hz1 := hb1.size
  refine ⟨rfl, Below.trans (hb1.trans ?_) (hb4.mono (by omega))⟩
  refine Below.trans ?_ (hb3.mono (by have := hb1.size; simp; omega))
  refine (Below.drewN_ ?_ _).setCell hz1 _
  exact ((Below.refl w.heap.size w1).alloc hz1 _).alloc (by simp; omega) _

set_option maxHeartbeats 4000000 in
theorem isaForms_d8 (op n : Int) (w : World) (h : 1 ≤ op ∧ op ≤ 41) (hn : 1 ≤ n ∧ n ≤ 15) (hc : formZ op = 8) :
    Calls Try.prog 6 #[.int .i64 op, .int .i64 0, .int .i64 n] w fun e w' => e = .returned (.bool true) ∧ Below w.heap.size w w' := by
  have HR := Lib.hid (show rightB ⟨op, n, 0, 0, 0⟩ = false by rw [field_d op n h hn, hc]; rfl)
  have HN := Lib.hid (field_none op h)
  have HC := Lib.hid hc
  have b1 : decide (op < 1) = false := by simp; omega
  have b2 : decide (41 < op) = false := by simp; omega
  have b3 : decide (n < 1) = false := by simp; omega
  have b4 : decide (15 < n) = false := by simp; omega
  clear hc h hn
  go_enter Try.func6, Try.ntmps6
  go_wp2_with fail
  refine (alive_any _).mono ?_; rintro e w1 ⟨rfl, hb1⟩
  go_wp2_with fail
  refine (form_any op _).mono ?_; rintro e w2 ⟨rfl, rfl⟩
  rw [HC.out]
  go_wp2_with fail
  refine wp_loop_rounds 1 ?_
  rw [rounds_succ]
  go_wp2_with fail
  refine (right_any ⟨op, n, 0, 0, 0⟩ _).mono ?_; rintro e w3 ⟨rfl, hb3⟩
  rw [HR.out]
  go_wp2_with fail
  refine (right_any ⟨op, 0, 0, 0, 0⟩ _).mono ?_; rintro e w4 ⟨rfl, hb4⟩
  rw [HN.out]
  go_wp2_with fail
  go_ret
  have hz3 := hb3.size
  simp at hz3
  have hz1 := hb1.size
  refine ⟨rfl, Below.trans (hb1.trans ?_) (hb4.mono (by omega))⟩
  refine Below.trans ?_ (hb3.mono (by have := hb1.size; simp; omega))
  skip
  exact ((Below.refl w.heap.size w1).alloc hz1 _).alloc (by simp; omega) _

set_option maxHeartbeats 4000000 in
theorem isaForms_a1 (op n : Int) (w : World) (h : 1 ≤ op ∧ op ≤ 41) (hn : 1 ≤ n ∧ n ≤ 15) (hc : formZ op = 1) :
    Calls Try.prog 6 #[.int .i64 op, .int .i64 1, .int .i64 n] w fun e w' => e = .returned (.bool true) ∧ Below w.heap.size w w' := by
  have HR := Lib.hid (show rightB ⟨op, 0, n, 0, 0⟩ = true by rw [field_a op n h hn, hc]; rfl)
  have HN := Lib.hid (field_none op h)
  have HC := Lib.hid hc
  have b1 : decide (op < 1) = false := by simp; omega
  have b2 : decide (41 < op) = false := by simp; omega
  have b3 : decide (n < 1) = false := by simp; omega
  have b4 : decide (15 < n) = false := by simp; omega
  clear hc h hn
  have ix : ∀ w, (Instr.index 9 (.string ⟨#[68, 65, 66, 73]⟩) (.int .i64 1)).run Try.prog w = .ok (.int .u8 65) w := fun _ => by kernel_rfl
  have i0 : ∀ w, (Instr.index 9 (.string ⟨#[68, 65, 66]⟩) (.int .i64 0)).run Try.prog w = .ok (.int .u8 68) w := fun _ => by kernel_rfl
  have i1 : ∀ w, (Instr.index 9 (.string ⟨#[68, 65, 66]⟩) (.int .i64 1)).run Try.prog w = .ok (.int .u8 65) w := fun _ => by kernel_rfl
  have i2 : ∀ w, (Instr.index 9 (.string ⟨#[68, 65, 66]⟩) (.int .i64 2)).run Try.prog w = .ok (.int .u8 66) w := fun _ => by kernel_rfl
  go_enter Try.func6, Try.ntmps6
  go_wp2_with fail
  refine (alive_any _).mono ?_; rintro e w1 ⟨rfl, hb1⟩
  go_wp2_with fail
  refine (form_any op _).mono ?_; rintro e w2 ⟨rfl, rfl⟩
  rw [HC.out]
  go_wp2_with fail
  refine wp_loop_rounds 4 ?_
  iterate 3 (rw [rounds_succ]; go_wp2_with fail; go_quiet (fail); go_wp2_with fail)
  rw [rounds_succ]
  go_wp2_with fail
  refine (right_any ⟨op, 0, n, 0, 0⟩ _).mono ?_; rintro e w3 ⟨rfl, hb3⟩
  rw [HR.out]
  go_wp2_with fail
  refine (right_any ⟨op, 0, 0, 0, 0⟩ _).mono ?_; rintro e w4 ⟨rfl, hb4⟩
  rw [HN.out]
  go_wp2_with fail
  go_ret
  have hz3 := hb3.size
  simp at hz3
  have hz1 := hb1.size
  refine ⟨rfl, Below.trans (hb1.trans ?_) (hb4.mono (by omega))⟩
  refine Below.trans ?_ (hb3.mono (by have := hb1.size; simp; omega))
  refine (Below.drewN_ ?_ _).setCell hz1 _
  exact ((Below.refl w.heap.size w1).alloc hz1 _).alloc (by simp; omega) _

set_option maxHeartbeats 4000000 in
theorem isaForms_a2 (op n : Int) (w : World) (h : 1 ≤ op ∧ op ≤ 41) (hn : 1 ≤ n ∧ n ≤ 15) (hc : formZ op = 2) :
    Calls Try.prog 6 #[.int .i64 op, .int .i64 1, .int .i64 n] w fun e w' => e = .returned (.bool true) ∧ Below w.heap.size w w' := by
  have HR := Lib.hid (show rightB ⟨op, 0, n, 0, 0⟩ = true by rw [field_a op n h hn, hc]; rfl)
  have HN := Lib.hid (field_none op h)
  have HC := Lib.hid hc
  have b1 : decide (op < 1) = false := by simp; omega
  have b2 : decide (41 < op) = false := by simp; omega
  have b3 : decide (n < 1) = false := by simp; omega
  have b4 : decide (15 < n) = false := by simp; omega
  clear hc h hn
  have ix : ∀ w, (Instr.index 9 (.string ⟨#[68, 65, 66, 73]⟩) (.int .i64 1)).run Try.prog w = .ok (.int .u8 65) w := fun _ => by kernel_rfl
  have i0 : ∀ w, (Instr.index 9 (.string ⟨#[68, 65, 73]⟩) (.int .i64 0)).run Try.prog w = .ok (.int .u8 68) w := fun _ => by kernel_rfl
  have i1 : ∀ w, (Instr.index 9 (.string ⟨#[68, 65, 73]⟩) (.int .i64 1)).run Try.prog w = .ok (.int .u8 65) w := fun _ => by kernel_rfl
  have i2 : ∀ w, (Instr.index 9 (.string ⟨#[68, 65, 73]⟩) (.int .i64 2)).run Try.prog w = .ok (.int .u8 73) w := fun _ => by kernel_rfl
  go_enter Try.func6, Try.ntmps6
  go_wp2_with fail
  refine (alive_any _).mono ?_; rintro e w1 ⟨rfl, hb1⟩
  go_wp2_with fail
  refine (form_any op _).mono ?_; rintro e w2 ⟨rfl, rfl⟩
  rw [HC.out]
  go_wp2_with fail
  refine wp_loop_rounds 4 ?_
  iterate 3 (rw [rounds_succ]; go_wp2_with fail; go_quiet (fail); go_wp2_with fail)
  rw [rounds_succ]
  go_wp2_with fail
  refine (right_any ⟨op, 0, n, 0, 0⟩ _).mono ?_; rintro e w3 ⟨rfl, hb3⟩
  rw [HR.out]
  go_wp2_with fail
  refine (right_any ⟨op, 0, 0, 0, 0⟩ _).mono ?_; rintro e w4 ⟨rfl, hb4⟩
  rw [HN.out]
  go_wp2_with fail
  go_ret
  have hz3 := hb3.size
  simp at hz3
  have hz1 := hb1.size
  refine ⟨rfl, Below.trans (hb1.trans ?_) (hb4.mono (by omega))⟩
  refine Below.trans ?_ (hb3.mono (by have := hb1.size; simp; omega))
  refine (Below.drewN_ ?_ _).setCell hz1 _
  exact ((Below.refl w.heap.size w1).alloc hz1 _).alloc (by simp; omega) _

set_option maxHeartbeats 4000000 in
theorem isaForms_a3 (op n : Int) (w : World) (h : 1 ≤ op ∧ op ≤ 41) (hn : 1 ≤ n ∧ n ≤ 15) (hc : formZ op = 3) :
    Calls Try.prog 6 #[.int .i64 op, .int .i64 1, .int .i64 n] w fun e w' => e = .returned (.bool true) ∧ Below w.heap.size w w' := by
  have HR := Lib.hid (show rightB ⟨op, 0, n, 0, 0⟩ = false by rw [field_a op n h hn, hc]; rfl)
  have HN := Lib.hid (field_none op h)
  have HC := Lib.hid hc
  have b1 : decide (op < 1) = false := by simp; omega
  have b2 : decide (41 < op) = false := by simp; omega
  have b3 : decide (n < 1) = false := by simp; omega
  have b4 : decide (15 < n) = false := by simp; omega
  clear hc h hn
  have ix : ∀ w, (Instr.index 9 (.string ⟨#[68, 65, 66, 73]⟩) (.int .i64 1)).run Try.prog w = .ok (.int .u8 65) w := fun _ => by kernel_rfl
  have i0 : ∀ w, (Instr.index 9 (.string ⟨#[68, 73]⟩) (.int .i64 0)).run Try.prog w = .ok (.int .u8 68) w := fun _ => by kernel_rfl
  have i1 : ∀ w, (Instr.index 9 (.string ⟨#[68, 73]⟩) (.int .i64 1)).run Try.prog w = .ok (.int .u8 73) w := fun _ => by kernel_rfl
  go_enter Try.func6, Try.ntmps6
  go_wp2_with fail
  refine (alive_any _).mono ?_; rintro e w1 ⟨rfl, hb1⟩
  go_wp2_with fail
  refine (form_any op _).mono ?_; rintro e w2 ⟨rfl, rfl⟩
  rw [HC.out]
  go_wp2_with fail
  refine wp_loop_rounds 3 ?_
  iterate 2 (rw [rounds_succ]; go_wp2_with fail; go_quiet (fail); go_wp2_with fail)
  rw [rounds_succ]
  go_wp2_with fail
  refine (right_any ⟨op, 0, n, 0, 0⟩ _).mono ?_; rintro e w3 ⟨rfl, hb3⟩
  rw [HR.out]
  go_wp2_with fail
  refine (right_any ⟨op, 0, 0, 0, 0⟩ _).mono ?_; rintro e w4 ⟨rfl, hb4⟩
  rw [HN.out]
  go_wp2_with fail
  go_ret
  have hz3 := hb3.size
  simp at hz3
  have hz1 := hb1.size
  refine ⟨rfl, Below.trans (hb1.trans ?_) (hb4.mono (by omega))⟩
  refine Below.trans ?_ (hb3.mono (by have := hb1.size; simp; omega))
  refine (Below.drewN_ ?_ _).setCell hz1 _
  exact ((Below.refl w.heap.size w1).alloc hz1 _).alloc (by simp; omega) _

set_option maxHeartbeats 4000000 in
theorem isaForms_a4 (op n : Int) (w : World) (h : 1 ≤ op ∧ op ≤ 41) (hn : 1 ≤ n ∧ n ≤ 15) (hc : formZ op = 4) :
    Calls Try.prog 6 #[.int .i64 op, .int .i64 1, .int .i64 n] w fun e w' => e = .returned (.bool true) ∧ Below w.heap.size w w' := by
  have HR := Lib.hid (show rightB ⟨op, 0, n, 0, 0⟩ = true by rw [field_a op n h hn, hc]; rfl)
  have HN := Lib.hid (field_none op h)
  have HC := Lib.hid hc
  have b1 : decide (op < 1) = false := by simp; omega
  have b2 : decide (41 < op) = false := by simp; omega
  have b3 : decide (n < 1) = false := by simp; omega
  have b4 : decide (15 < n) = false := by simp; omega
  clear hc h hn
  have ix : ∀ w, (Instr.index 9 (.string ⟨#[68, 65, 66, 73]⟩) (.int .i64 1)).run Try.prog w = .ok (.int .u8 65) w := fun _ => by kernel_rfl
  have i0 : ∀ w, (Instr.index 9 (.string ⟨#[68, 65, 73]⟩) (.int .i64 0)).run Try.prog w = .ok (.int .u8 68) w := fun _ => by kernel_rfl
  have i1 : ∀ w, (Instr.index 9 (.string ⟨#[68, 65, 73]⟩) (.int .i64 1)).run Try.prog w = .ok (.int .u8 65) w := fun _ => by kernel_rfl
  have i2 : ∀ w, (Instr.index 9 (.string ⟨#[68, 65, 73]⟩) (.int .i64 2)).run Try.prog w = .ok (.int .u8 73) w := fun _ => by kernel_rfl
  go_enter Try.func6, Try.ntmps6
  go_wp2_with fail
  refine (alive_any _).mono ?_; rintro e w1 ⟨rfl, hb1⟩
  go_wp2_with fail
  refine (form_any op _).mono ?_; rintro e w2 ⟨rfl, rfl⟩
  rw [HC.out]
  go_wp2_with fail
  refine wp_loop_rounds 4 ?_
  iterate 3 (rw [rounds_succ]; go_wp2_with fail; go_quiet (fail); go_wp2_with fail)
  rw [rounds_succ]
  go_wp2_with fail
  refine (right_any ⟨op, 0, n, 0, 0⟩ _).mono ?_; rintro e w3 ⟨rfl, hb3⟩
  rw [HR.out]
  go_wp2_with fail
  refine (right_any ⟨op, 0, 0, 0, 0⟩ _).mono ?_; rintro e w4 ⟨rfl, hb4⟩
  rw [HN.out]
  go_wp2_with fail
  go_ret
  have hz3 := hb3.size
  simp at hz3
  have hz1 := hb1.size
  refine ⟨rfl, Below.trans (hb1.trans ?_) (hb4.mono (by omega))⟩
  refine Below.trans ?_ (hb3.mono (by have := hb1.size; simp; omega))
  refine (Below.drewN_ ?_ _).setCell hz1 _
  exact ((Below.refl w.heap.size w1).alloc hz1 _).alloc (by simp; omega) _

set_option maxHeartbeats 4000000 in
theorem isaForms_a5 (op n : Int) (w : World) (h : 1 ≤ op ∧ op ≤ 41) (hn : 1 ≤ n ∧ n ≤ 15) (hc : formZ op = 5) :
    Calls Try.prog 6 #[.int .i64 op, .int .i64 1, .int .i64 n] w fun e w' => e = .returned (.bool true) ∧ Below w.heap.size w w' := by
  have HR := Lib.hid (show rightB ⟨op, 0, n, 0, 0⟩ = true by rw [field_a op n h hn, hc]; rfl)
  have HN := Lib.hid (field_none op h)
  have HC := Lib.hid hc
  have b1 : decide (op < 1) = false := by simp; omega
  have b2 : decide (41 < op) = false := by simp; omega
  have b3 : decide (n < 1) = false := by simp; omega
  have b4 : decide (15 < n) = false := by simp; omega
  clear hc h hn
  have ix : ∀ w, (Instr.index 9 (.string ⟨#[68, 65, 66, 73]⟩) (.int .i64 1)).run Try.prog w = .ok (.int .u8 65) w := fun _ => by kernel_rfl
  have i0 : ∀ w, (Instr.index 9 (.string ⟨#[65, 66, 73]⟩) (.int .i64 0)).run Try.prog w = .ok (.int .u8 65) w := fun _ => by kernel_rfl
  have i1 : ∀ w, (Instr.index 9 (.string ⟨#[65, 66, 73]⟩) (.int .i64 1)).run Try.prog w = .ok (.int .u8 66) w := fun _ => by kernel_rfl
  have i2 : ∀ w, (Instr.index 9 (.string ⟨#[65, 66, 73]⟩) (.int .i64 2)).run Try.prog w = .ok (.int .u8 73) w := fun _ => by kernel_rfl
  go_enter Try.func6, Try.ntmps6
  go_wp2_with fail
  refine (alive_any _).mono ?_; rintro e w1 ⟨rfl, hb1⟩
  go_wp2_with fail
  refine (form_any op _).mono ?_; rintro e w2 ⟨rfl, rfl⟩
  rw [HC.out]
  go_wp2_with fail
  refine wp_loop_rounds 4 ?_
  iterate 3 (rw [rounds_succ]; go_wp2_with fail; go_quiet (fail); go_wp2_with fail)
  rw [rounds_succ]
  go_wp2_with fail
  refine (right_any ⟨op, 0, n, 0, 0⟩ _).mono ?_; rintro e w3 ⟨rfl, hb3⟩
  rw [HR.out]
  go_wp2_with fail
  refine (right_any ⟨op, 0, 0, 0, 0⟩ _).mono ?_; rintro e w4 ⟨rfl, hb4⟩
  rw [HN.out]
  go_wp2_with fail
  go_ret
  have hz3 := hb3.size
  simp at hz3
  have hz1 := hb1.size
  refine ⟨rfl, Below.trans (hb1.trans ?_) (hb4.mono (by omega))⟩
  refine Below.trans ?_ (hb3.mono (by have := hb1.size; simp; omega))
  refine (Below.drewN_ ?_ _).setCell hz1 _
  exact ((Below.refl w.heap.size w1).alloc hz1 _).alloc (by simp; omega) _

set_option maxHeartbeats 4000000 in
theorem isaForms_a6 (op n : Int) (w : World) (h : 1 ≤ op ∧ op ≤ 41) (hn : 1 ≤ n ∧ n ≤ 15) (hc : formZ op = 6) :
    Calls Try.prog 6 #[.int .i64 op, .int .i64 1, .int .i64 n] w fun e w' => e = .returned (.bool true) ∧ Below w.heap.size w w' := by
  have HR := Lib.hid (show rightB ⟨op, 0, n, 0, 0⟩ = true by rw [field_a op n h hn, hc]; rfl)
  have HN := Lib.hid (field_none op h)
  have HC := Lib.hid hc
  have b1 : decide (op < 1) = false := by simp; omega
  have b2 : decide (41 < op) = false := by simp; omega
  have b3 : decide (n < 1) = false := by simp; omega
  have b4 : decide (15 < n) = false := by simp; omega
  clear hc h hn
  have ix : ∀ w, (Instr.index 9 (.string ⟨#[68, 65, 66, 73]⟩) (.int .i64 1)).run Try.prog w = .ok (.int .u8 65) w := fun _ => by kernel_rfl
  have i0 : ∀ w, (Instr.index 9 (.string ⟨#[65, 66, 73]⟩) (.int .i64 0)).run Try.prog w = .ok (.int .u8 65) w := fun _ => by kernel_rfl
  have i1 : ∀ w, (Instr.index 9 (.string ⟨#[65, 66, 73]⟩) (.int .i64 1)).run Try.prog w = .ok (.int .u8 66) w := fun _ => by kernel_rfl
  have i2 : ∀ w, (Instr.index 9 (.string ⟨#[65, 66, 73]⟩) (.int .i64 2)).run Try.prog w = .ok (.int .u8 73) w := fun _ => by kernel_rfl
  go_enter Try.func6, Try.ntmps6
  go_wp2_with fail
  refine (alive_any _).mono ?_; rintro e w1 ⟨rfl, hb1⟩
  go_wp2_with fail
  refine (form_any op _).mono ?_; rintro e w2 ⟨rfl, rfl⟩
  rw [HC.out]
  go_wp2_with fail
  refine wp_loop_rounds 4 ?_
  iterate 3 (rw [rounds_succ]; go_wp2_with fail; go_quiet (fail); go_wp2_with fail)
  rw [rounds_succ]
  go_wp2_with fail
  refine (right_any ⟨op, 0, n, 0, 0⟩ _).mono ?_; rintro e w3 ⟨rfl, hb3⟩
  rw [HR.out]
  go_wp2_with fail
  refine (right_any ⟨op, 0, 0, 0, 0⟩ _).mono ?_; rintro e w4 ⟨rfl, hb4⟩
  rw [HN.out]
  go_wp2_with fail
  go_ret
  have hz3 := hb3.size
  simp at hz3
  have hz1 := hb1.size
  refine ⟨rfl, Below.trans (hb1.trans ?_) (hb4.mono (by omega))⟩
  refine Below.trans ?_ (hb3.mono (by have := hb1.size; simp; omega))
  refine (Below.drewN_ ?_ _).setCell hz1 _
  exact ((Below.refl w.heap.size w1).alloc hz1 _).alloc (by simp; omega) _

set_option maxHeartbeats 4000000 in
theorem isaForms_a7 (op n : Int) (w : World) (h : 1 ≤ op ∧ op ≤ 41) (hn : 1 ≤ n ∧ n ≤ 15) (hc : formZ op = 7) :
    Calls Try.prog 6 #[.int .i64 op, .int .i64 1, .int .i64 n] w fun e w' => e = .returned (.bool true) ∧ Below w.heap.size w w' := by
  have HR := Lib.hid (show rightB ⟨op, 0, n, 0, 0⟩ = false by rw [field_a op n h hn, hc]; rfl)
  have HN := Lib.hid (field_none op h)
  have HC := Lib.hid hc
  have b1 : decide (op < 1) = false := by simp; omega
  have b2 : decide (41 < op) = false := by simp; omega
  have b3 : decide (n < 1) = false := by simp; omega
  have b4 : decide (15 < n) = false := by simp; omega
  clear hc h hn
  have ix : ∀ w, (Instr.index 9 (.string ⟨#[68, 65, 66, 73]⟩) (.int .i64 1)).run Try.prog w = .ok (.int .u8 65) w := fun _ => by kernel_rfl
  have i0 : ∀ w, (Instr.index 9 (.string ⟨#[73]⟩) (.int .i64 0)).run Try.prog w = .ok (.int .u8 73) w := fun _ => by kernel_rfl
  go_enter Try.func6, Try.ntmps6
  go_wp2_with fail
  refine (alive_any _).mono ?_; rintro e w1 ⟨rfl, hb1⟩
  go_wp2_with fail
  refine (form_any op _).mono ?_; rintro e w2 ⟨rfl, rfl⟩
  rw [HC.out]
  go_wp2_with fail
  refine wp_loop_rounds 2 ?_
  iterate 1 (rw [rounds_succ]; go_wp2_with fail; go_quiet (fail); go_wp2_with fail)
  rw [rounds_succ]
  go_wp2_with fail
  refine (right_any ⟨op, 0, n, 0, 0⟩ _).mono ?_; rintro e w3 ⟨rfl, hb3⟩
  rw [HR.out]
  go_wp2_with fail
  refine (right_any ⟨op, 0, 0, 0, 0⟩ _).mono ?_; rintro e w4 ⟨rfl, hb4⟩
  rw [HN.out]
  go_wp2_with fail
  go_ret
  have hz3 := hb3.size
  simp at hz3
  have hz1 := hb1.size
  refine ⟨rfl, Below.trans (hb1.trans ?_) (hb4.mono (by omega))⟩
  refine Below.trans ?_ (hb3.mono (by have := hb1.size; simp; omega))
  refine (Below.drewN_ ?_ _).setCell hz1 _
  exact ((Below.refl w.heap.size w1).alloc hz1 _).alloc (by simp; omega) _

set_option maxHeartbeats 4000000 in
theorem isaForms_a8 (op n : Int) (w : World) (h : 1 ≤ op ∧ op ≤ 41) (hn : 1 ≤ n ∧ n ≤ 15) (hc : formZ op = 8) :
    Calls Try.prog 6 #[.int .i64 op, .int .i64 1, .int .i64 n] w fun e w' => e = .returned (.bool true) ∧ Below w.heap.size w w' := by
  have HR := Lib.hid (show rightB ⟨op, 0, n, 0, 0⟩ = false by rw [field_a op n h hn, hc]; rfl)
  have HN := Lib.hid (field_none op h)
  have HC := Lib.hid hc
  have b1 : decide (op < 1) = false := by simp; omega
  have b2 : decide (41 < op) = false := by simp; omega
  have b3 : decide (n < 1) = false := by simp; omega
  have b4 : decide (15 < n) = false := by simp; omega
  clear hc h hn
  go_enter Try.func6, Try.ntmps6
  go_wp2_with fail
  refine (alive_any _).mono ?_; rintro e w1 ⟨rfl, hb1⟩
  go_wp2_with fail
  refine (form_any op _).mono ?_; rintro e w2 ⟨rfl, rfl⟩
  rw [HC.out]
  go_wp2_with fail
  refine wp_loop_rounds 1 ?_
  rw [rounds_succ]
  go_wp2_with fail
  refine (right_any ⟨op, 0, n, 0, 0⟩ _).mono ?_; rintro e w3 ⟨rfl, hb3⟩
  rw [HR.out]
  go_wp2_with fail
  refine (right_any ⟨op, 0, 0, 0, 0⟩ _).mono ?_; rintro e w4 ⟨rfl, hb4⟩
  rw [HN.out]
  go_wp2_with fail
  go_ret
  have hz3 := hb3.size
  simp at hz3
  have hz1 := hb1.size
  refine ⟨rfl, Below.trans (hb1.trans ?_) (hb4.mono (by omega))⟩
  refine Below.trans ?_ (hb3.mono (by have := hb1.size; simp; omega))
  skip
  exact ((Below.refl w.heap.size w1).alloc hz1 _).alloc (by simp; omega) _

set_option maxHeartbeats 4000000 in
theorem isaForms_b1 (op n : Int) (w : World) (h : 1 ≤ op ∧ op ≤ 41) (hn : 1 ≤ n ∧ n ≤ 15) (hc : formZ op = 1) :
    Calls Try.prog 6 #[.int .i64 op, .int .i64 2, .int .i64 n] w fun e w' => e = .returned (.bool true) ∧ Below w.heap.size w w' := by
  have HR := Lib.hid (show rightB ⟨op, 0, 0, n, 0⟩ = true by rw [field_b op n h hn, hc]; rfl)
  have HN := Lib.hid (field_none op h)
  have HC := Lib.hid hc
  have b1 : decide (op < 1) = false := by simp; omega
  have b2 : decide (41 < op) = false := by simp; omega
  have b3 : decide (n < 1) = false := by simp; omega
  have b4 : decide (15 < n) = false := by simp; omega
  clear hc h hn
  have ix : ∀ w, (Instr.index 9 (.string ⟨#[68, 65, 66, 73]⟩) (.int .i64 2)).run Try.prog w = .ok (.int .u8 66) w := fun _ => by kernel_rfl
  have i0 : ∀ w, (Instr.index 9 (.string ⟨#[68, 65, 66]⟩) (.int .i64 0)).run Try.prog w = .ok (.int .u8 68) w := fun _ => by kernel_rfl
  have i1 : ∀ w, (Instr.index 9 (.string ⟨#[68, 65, 66]⟩) (.int .i64 1)).run Try.prog w = .ok (.int .u8 65) w := fun _ => by kernel_rfl
  have i2 : ∀ w, (Instr.index 9 (.string ⟨#[68, 65, 66]⟩) (.int .i64 2)).run Try.prog w = .ok (.int .u8 66) w := fun _ => by kernel_rfl
  go_enter Try.func6, Try.ntmps6
  go_wp2_with fail
  refine (alive_any _).mono ?_; rintro e w1 ⟨rfl, hb1⟩
  go_wp2_with fail
  refine (form_any op _).mono ?_; rintro e w2 ⟨rfl, rfl⟩
  rw [HC.out]
  go_wp2_with fail
  refine wp_loop_rounds 4 ?_
  iterate 3 (rw [rounds_succ]; go_wp2_with fail; go_quiet (fail); go_wp2_with fail)
  rw [rounds_succ]
  go_wp2_with fail
  refine (right_any ⟨op, 0, 0, n, 0⟩ _).mono ?_; rintro e w3 ⟨rfl, hb3⟩
  rw [HR.out]
  go_wp2_with fail
  refine (right_any ⟨op, 0, 0, 0, 0⟩ _).mono ?_; rintro e w4 ⟨rfl, hb4⟩
  rw [HN.out]
  go_wp2_with fail
  go_ret
  have hz3 := hb3.size
  simp at hz3
  have hz1 := hb1.size
  refine ⟨rfl, Below.trans (hb1.trans ?_) (hb4.mono (by omega))⟩
  refine Below.trans ?_ (hb3.mono (by have := hb1.size; simp; omega))
  refine (Below.drewN_ ?_ _).setCell hz1 _
  exact ((Below.refl w.heap.size w1).alloc hz1 _).alloc (by simp; omega) _

set_option maxHeartbeats 4000000 in
theorem isaForms_b2 (op n : Int) (w : World) (h : 1 ≤ op ∧ op ≤ 41) (hn : 1 ≤ n ∧ n ≤ 15) (hc : formZ op = 2) :
    Calls Try.prog 6 #[.int .i64 op, .int .i64 2, .int .i64 n] w fun e w' => e = .returned (.bool true) ∧ Below w.heap.size w w' := by
  have HR := Lib.hid (show rightB ⟨op, 0, 0, n, 0⟩ = false by rw [field_b op n h hn, hc]; rfl)
  have HN := Lib.hid (field_none op h)
  have HC := Lib.hid hc
  have b1 : decide (op < 1) = false := by simp; omega
  have b2 : decide (41 < op) = false := by simp; omega
  have b3 : decide (n < 1) = false := by simp; omega
  have b4 : decide (15 < n) = false := by simp; omega
  clear hc h hn
  have ix : ∀ w, (Instr.index 9 (.string ⟨#[68, 65, 66, 73]⟩) (.int .i64 2)).run Try.prog w = .ok (.int .u8 66) w := fun _ => by kernel_rfl
  have i0 : ∀ w, (Instr.index 9 (.string ⟨#[68, 65, 73]⟩) (.int .i64 0)).run Try.prog w = .ok (.int .u8 68) w := fun _ => by kernel_rfl
  have i1 : ∀ w, (Instr.index 9 (.string ⟨#[68, 65, 73]⟩) (.int .i64 1)).run Try.prog w = .ok (.int .u8 65) w := fun _ => by kernel_rfl
  have i2 : ∀ w, (Instr.index 9 (.string ⟨#[68, 65, 73]⟩) (.int .i64 2)).run Try.prog w = .ok (.int .u8 73) w := fun _ => by kernel_rfl
  go_enter Try.func6, Try.ntmps6
  go_wp2_with fail
  refine (alive_any _).mono ?_; rintro e w1 ⟨rfl, hb1⟩
  go_wp2_with fail
  refine (form_any op _).mono ?_; rintro e w2 ⟨rfl, rfl⟩
  rw [HC.out]
  go_wp2_with fail
  refine wp_loop_rounds 4 ?_
  iterate 3 (rw [rounds_succ]; go_wp2_with fail; go_quiet (fail); go_wp2_with fail)
  rw [rounds_succ]
  go_wp2_with fail
  refine (right_any ⟨op, 0, 0, n, 0⟩ _).mono ?_; rintro e w3 ⟨rfl, hb3⟩
  rw [HR.out]
  go_wp2_with fail
  refine (right_any ⟨op, 0, 0, 0, 0⟩ _).mono ?_; rintro e w4 ⟨rfl, hb4⟩
  rw [HN.out]
  go_wp2_with fail
  go_ret
  have hz3 := hb3.size
  simp at hz3
  have hz1 := hb1.size
  refine ⟨rfl, Below.trans (hb1.trans ?_) (hb4.mono (by omega))⟩
  refine Below.trans ?_ (hb3.mono (by have := hb1.size; simp; omega))
  refine (Below.drewN_ ?_ _).setCell hz1 _
  exact ((Below.refl w.heap.size w1).alloc hz1 _).alloc (by simp; omega) _

set_option maxHeartbeats 4000000 in
theorem isaForms_b3 (op n : Int) (w : World) (h : 1 ≤ op ∧ op ≤ 41) (hn : 1 ≤ n ∧ n ≤ 15) (hc : formZ op = 3) :
    Calls Try.prog 6 #[.int .i64 op, .int .i64 2, .int .i64 n] w fun e w' => e = .returned (.bool true) ∧ Below w.heap.size w w' := by
  have HR := Lib.hid (show rightB ⟨op, 0, 0, n, 0⟩ = false by rw [field_b op n h hn, hc]; rfl)
  have HN := Lib.hid (field_none op h)
  have HC := Lib.hid hc
  have b1 : decide (op < 1) = false := by simp; omega
  have b2 : decide (41 < op) = false := by simp; omega
  have b3 : decide (n < 1) = false := by simp; omega
  have b4 : decide (15 < n) = false := by simp; omega
  clear hc h hn
  have ix : ∀ w, (Instr.index 9 (.string ⟨#[68, 65, 66, 73]⟩) (.int .i64 2)).run Try.prog w = .ok (.int .u8 66) w := fun _ => by kernel_rfl
  have i0 : ∀ w, (Instr.index 9 (.string ⟨#[68, 73]⟩) (.int .i64 0)).run Try.prog w = .ok (.int .u8 68) w := fun _ => by kernel_rfl
  have i1 : ∀ w, (Instr.index 9 (.string ⟨#[68, 73]⟩) (.int .i64 1)).run Try.prog w = .ok (.int .u8 73) w := fun _ => by kernel_rfl
  go_enter Try.func6, Try.ntmps6
  go_wp2_with fail
  refine (alive_any _).mono ?_; rintro e w1 ⟨rfl, hb1⟩
  go_wp2_with fail
  refine (form_any op _).mono ?_; rintro e w2 ⟨rfl, rfl⟩
  rw [HC.out]
  go_wp2_with fail
  refine wp_loop_rounds 3 ?_
  iterate 2 (rw [rounds_succ]; go_wp2_with fail; go_quiet (fail); go_wp2_with fail)
  rw [rounds_succ]
  go_wp2_with fail
  refine (right_any ⟨op, 0, 0, n, 0⟩ _).mono ?_; rintro e w3 ⟨rfl, hb3⟩
  rw [HR.out]
  go_wp2_with fail
  refine (right_any ⟨op, 0, 0, 0, 0⟩ _).mono ?_; rintro e w4 ⟨rfl, hb4⟩
  rw [HN.out]
  go_wp2_with fail
  go_ret
  have hz3 := hb3.size
  simp at hz3
  have hz1 := hb1.size
  refine ⟨rfl, Below.trans (hb1.trans ?_) (hb4.mono (by omega))⟩
  refine Below.trans ?_ (hb3.mono (by have := hb1.size; simp; omega))
  refine (Below.drewN_ ?_ _).setCell hz1 _
  exact ((Below.refl w.heap.size w1).alloc hz1 _).alloc (by simp; omega) _

set_option maxHeartbeats 4000000 in
theorem isaForms_b4 (op n : Int) (w : World) (h : 1 ≤ op ∧ op ≤ 41) (hn : 1 ≤ n ∧ n ≤ 15) (hc : formZ op = 4) :
    Calls Try.prog 6 #[.int .i64 op, .int .i64 2, .int .i64 n] w fun e w' => e = .returned (.bool true) ∧ Below w.heap.size w w' := by
  have HR := Lib.hid (show rightB ⟨op, 0, 0, n, 0⟩ = false by rw [field_b op n h hn, hc]; rfl)
  have HN := Lib.hid (field_none op h)
  have HC := Lib.hid hc
  have b1 : decide (op < 1) = false := by simp; omega
  have b2 : decide (41 < op) = false := by simp; omega
  have b3 : decide (n < 1) = false := by simp; omega
  have b4 : decide (15 < n) = false := by simp; omega
  clear hc h hn
  have ix : ∀ w, (Instr.index 9 (.string ⟨#[68, 65, 66, 73]⟩) (.int .i64 2)).run Try.prog w = .ok (.int .u8 66) w := fun _ => by kernel_rfl
  have i0 : ∀ w, (Instr.index 9 (.string ⟨#[68, 65, 73]⟩) (.int .i64 0)).run Try.prog w = .ok (.int .u8 68) w := fun _ => by kernel_rfl
  have i1 : ∀ w, (Instr.index 9 (.string ⟨#[68, 65, 73]⟩) (.int .i64 1)).run Try.prog w = .ok (.int .u8 65) w := fun _ => by kernel_rfl
  have i2 : ∀ w, (Instr.index 9 (.string ⟨#[68, 65, 73]⟩) (.int .i64 2)).run Try.prog w = .ok (.int .u8 73) w := fun _ => by kernel_rfl
  go_enter Try.func6, Try.ntmps6
  go_wp2_with fail
  refine (alive_any _).mono ?_; rintro e w1 ⟨rfl, hb1⟩
  go_wp2_with fail
  refine (form_any op _).mono ?_; rintro e w2 ⟨rfl, rfl⟩
  rw [HC.out]
  go_wp2_with fail
  refine wp_loop_rounds 4 ?_
  iterate 3 (rw [rounds_succ]; go_wp2_with fail; go_quiet (fail); go_wp2_with fail)
  rw [rounds_succ]
  go_wp2_with fail
  refine (right_any ⟨op, 0, 0, n, 0⟩ _).mono ?_; rintro e w3 ⟨rfl, hb3⟩
  rw [HR.out]
  go_wp2_with fail
  refine (right_any ⟨op, 0, 0, 0, 0⟩ _).mono ?_; rintro e w4 ⟨rfl, hb4⟩
  rw [HN.out]
  go_wp2_with fail
  go_ret
  have hz3 := hb3.size
  simp at hz3
  have hz1 := hb1.size
  refine ⟨rfl, Below.trans (hb1.trans ?_) (hb4.mono (by omega))⟩
  refine Below.trans ?_ (hb3.mono (by have := hb1.size; simp; omega))
  refine (Below.drewN_ ?_ _).setCell hz1 _
  exact ((Below.refl w.heap.size w1).alloc hz1 _).alloc (by simp; omega) _

set_option maxHeartbeats 4000000 in
theorem isaForms_b5 (op n : Int) (w : World) (h : 1 ≤ op ∧ op ≤ 41) (hn : 1 ≤ n ∧ n ≤ 15) (hc : formZ op = 5) :
    Calls Try.prog 6 #[.int .i64 op, .int .i64 2, .int .i64 n] w fun e w' => e = .returned (.bool true) ∧ Below w.heap.size w w' := by
  have HR := Lib.hid (show rightB ⟨op, 0, 0, n, 0⟩ = true by rw [field_b op n h hn, hc]; rfl)
  have HN := Lib.hid (field_none op h)
  have HC := Lib.hid hc
  have b1 : decide (op < 1) = false := by simp; omega
  have b2 : decide (41 < op) = false := by simp; omega
  have b3 : decide (n < 1) = false := by simp; omega
  have b4 : decide (15 < n) = false := by simp; omega
  clear hc h hn
  have ix : ∀ w, (Instr.index 9 (.string ⟨#[68, 65, 66, 73]⟩) (.int .i64 2)).run Try.prog w = .ok (.int .u8 66) w := fun _ => by kernel_rfl
  have i0 : ∀ w, (Instr.index 9 (.string ⟨#[65, 66, 73]⟩) (.int .i64 0)).run Try.prog w = .ok (.int .u8 65) w := fun _ => by kernel_rfl
  have i1 : ∀ w, (Instr.index 9 (.string ⟨#[65, 66, 73]⟩) (.int .i64 1)).run Try.prog w = .ok (.int .u8 66) w := fun _ => by kernel_rfl
  have i2 : ∀ w, (Instr.index 9 (.string ⟨#[65, 66, 73]⟩) (.int .i64 2)).run Try.prog w = .ok (.int .u8 73) w := fun _ => by kernel_rfl
  go_enter Try.func6, Try.ntmps6
  go_wp2_with fail
  refine (alive_any _).mono ?_; rintro e w1 ⟨rfl, hb1⟩
  go_wp2_with fail
  refine (form_any op _).mono ?_; rintro e w2 ⟨rfl, rfl⟩
  rw [HC.out]
  go_wp2_with fail
  refine wp_loop_rounds 4 ?_
  iterate 3 (rw [rounds_succ]; go_wp2_with fail; go_quiet (fail); go_wp2_with fail)
  rw [rounds_succ]
  go_wp2_with fail
  refine (right_any ⟨op, 0, 0, n, 0⟩ _).mono ?_; rintro e w3 ⟨rfl, hb3⟩
  rw [HR.out]
  go_wp2_with fail
  refine (right_any ⟨op, 0, 0, 0, 0⟩ _).mono ?_; rintro e w4 ⟨rfl, hb4⟩
  rw [HN.out]
  go_wp2_with fail
  go_ret
  have hz3 := hb3.size
  simp at hz3
  have hz1 := hb1.size
  refine ⟨rfl, Below.trans (hb1.trans ?_) (hb4.mono (by omega))⟩
  refine Below.trans ?_ (hb3.mono (by have := hb1.size; simp; omega))
  refine (Below.drewN_ ?_ _).setCell hz1 _
  exact ((Below.refl w.heap.size w1).alloc hz1 _).alloc (by simp; omega) _

set_option maxHeartbeats 4000000 in
theorem isaForms_b6 (op n : Int) (w : World) (h : 1 ≤ op ∧ op ≤ 41) (hn : 1 ≤ n ∧ n ≤ 15) (hc : formZ op = 6) :
    Calls Try.prog 6 #[.int .i64 op, .int .i64 2, .int .i64 n] w fun e w' => e = .returned (.bool true) ∧ Below w.heap.size w w' := by
  have HR := Lib.hid (show rightB ⟨op, 0, 0, n, 0⟩ = true by rw [field_b op n h hn, hc]; rfl)
  have HN := Lib.hid (field_none op h)
  have HC := Lib.hid hc
  have b1 : decide (op < 1) = false := by simp; omega
  have b2 : decide (41 < op) = false := by simp; omega
  have b3 : decide (n < 1) = false := by simp; omega
  have b4 : decide (15 < n) = false := by simp; omega
  clear hc h hn
  have ix : ∀ w, (Instr.index 9 (.string ⟨#[68, 65, 66, 73]⟩) (.int .i64 2)).run Try.prog w = .ok (.int .u8 66) w := fun _ => by kernel_rfl
  have i0 : ∀ w, (Instr.index 9 (.string ⟨#[65, 66, 73]⟩) (.int .i64 0)).run Try.prog w = .ok (.int .u8 65) w := fun _ => by kernel_rfl
  have i1 : ∀ w, (Instr.index 9 (.string ⟨#[65, 66, 73]⟩) (.int .i64 1)).run Try.prog w = .ok (.int .u8 66) w := fun _ => by kernel_rfl
  have i2 : ∀ w, (Instr.index 9 (.string ⟨#[65, 66, 73]⟩) (.int .i64 2)).run Try.prog w = .ok (.int .u8 73) w := fun _ => by kernel_rfl
  go_enter Try.func6, Try.ntmps6
  go_wp2_with fail
  refine (alive_any _).mono ?_; rintro e w1 ⟨rfl, hb1⟩
  go_wp2_with fail
  refine (form_any op _).mono ?_; rintro e w2 ⟨rfl, rfl⟩
  rw [HC.out]
  go_wp2_with fail
  refine wp_loop_rounds 4 ?_
  iterate 3 (rw [rounds_succ]; go_wp2_with fail; go_quiet (fail); go_wp2_with fail)
  rw [rounds_succ]
  go_wp2_with fail
  refine (right_any ⟨op, 0, 0, n, 0⟩ _).mono ?_; rintro e w3 ⟨rfl, hb3⟩
  rw [HR.out]
  go_wp2_with fail
  refine (right_any ⟨op, 0, 0, 0, 0⟩ _).mono ?_; rintro e w4 ⟨rfl, hb4⟩
  rw [HN.out]
  go_wp2_with fail
  go_ret
  have hz3 := hb3.size
  simp at hz3
  have hz1 := hb1.size
  refine ⟨rfl, Below.trans (hb1.trans ?_) (hb4.mono (by omega))⟩
  refine Below.trans ?_ (hb3.mono (by have := hb1.size; simp; omega))
  refine (Below.drewN_ ?_ _).setCell hz1 _
  exact ((Below.refl w.heap.size w1).alloc hz1 _).alloc (by simp; omega) _

set_option maxHeartbeats 4000000 in
theorem isaForms_b7 (op n : Int) (w : World) (h : 1 ≤ op ∧ op ≤ 41) (hn : 1 ≤ n ∧ n ≤ 15) (hc : formZ op = 7) :
    Calls Try.prog 6 #[.int .i64 op, .int .i64 2, .int .i64 n] w fun e w' => e = .returned (.bool true) ∧ Below w.heap.size w w' := by
  have HR := Lib.hid (show rightB ⟨op, 0, 0, n, 0⟩ = false by rw [field_b op n h hn, hc]; rfl)
  have HN := Lib.hid (field_none op h)
  have HC := Lib.hid hc
  have b1 : decide (op < 1) = false := by simp; omega
  have b2 : decide (41 < op) = false := by simp; omega
  have b3 : decide (n < 1) = false := by simp; omega
  have b4 : decide (15 < n) = false := by simp; omega
  clear hc h hn
  have ix : ∀ w, (Instr.index 9 (.string ⟨#[68, 65, 66, 73]⟩) (.int .i64 2)).run Try.prog w = .ok (.int .u8 66) w := fun _ => by kernel_rfl
  have i0 : ∀ w, (Instr.index 9 (.string ⟨#[73]⟩) (.int .i64 0)).run Try.prog w = .ok (.int .u8 73) w := fun _ => by kernel_rfl
  go_enter Try.func6, Try.ntmps6
  go_wp2_with fail
  refine (alive_any _).mono ?_; rintro e w1 ⟨rfl, hb1⟩
  go_wp2_with fail
  refine (form_any op _).mono ?_; rintro e w2 ⟨rfl, rfl⟩
  rw [HC.out]
  go_wp2_with fail
  refine wp_loop_rounds 2 ?_
  iterate 1 (rw [rounds_succ]; go_wp2_with fail; go_quiet (fail); go_wp2_with fail)
  rw [rounds_succ]
  go_wp2_with fail
  refine (right_any ⟨op, 0, 0, n, 0⟩ _).mono ?_; rintro e w3 ⟨rfl, hb3⟩
  rw [HR.out]
  go_wp2_with fail
  refine (right_any ⟨op, 0, 0, 0, 0⟩ _).mono ?_; rintro e w4 ⟨rfl, hb4⟩
  rw [HN.out]
  go_wp2_with fail
  go_ret
  have hz3 := hb3.size
  simp at hz3
  have hz1 := hb1.size
  refine ⟨rfl, Below.trans (hb1.trans ?_) (hb4.mono (by omega))⟩
  refine Below.trans ?_ (hb3.mono (by have := hb1.size; simp; omega))
  refine (Below.drewN_ ?_ _).setCell hz1 _
  exact ((Below.refl w.heap.size w1).alloc hz1 _).alloc (by simp; omega) _

set_option maxHeartbeats 4000000 in
theorem isaForms_b8 (op n : Int) (w : World) (h : 1 ≤ op ∧ op ≤ 41) (hn : 1 ≤ n ∧ n ≤ 15) (hc : formZ op = 8) :
    Calls Try.prog 6 #[.int .i64 op, .int .i64 2, .int .i64 n] w fun e w' => e = .returned (.bool true) ∧ Below w.heap.size w w' := by
  have HR := Lib.hid (show rightB ⟨op, 0, 0, n, 0⟩ = false by rw [field_b op n h hn, hc]; rfl)
  have HN := Lib.hid (field_none op h)
  have HC := Lib.hid hc
  have b1 : decide (op < 1) = false := by simp; omega
  have b2 : decide (41 < op) = false := by simp; omega
  have b3 : decide (n < 1) = false := by simp; omega
  have b4 : decide (15 < n) = false := by simp; omega
  clear hc h hn
  go_enter Try.func6, Try.ntmps6
  go_wp2_with fail
  refine (alive_any _).mono ?_; rintro e w1 ⟨rfl, hb1⟩
  go_wp2_with fail
  refine (form_any op _).mono ?_; rintro e w2 ⟨rfl, rfl⟩
  rw [HC.out]
  go_wp2_with fail
  refine wp_loop_rounds 1 ?_
  rw [rounds_succ]
  go_wp2_with fail
  refine (right_any ⟨op, 0, 0, n, 0⟩ _).mono ?_; rintro e w3 ⟨rfl, hb3⟩
  rw [HR.out]
  go_wp2_with fail
  refine (right_any ⟨op, 0, 0, 0, 0⟩ _).mono ?_; rintro e w4 ⟨rfl, hb4⟩
  rw [HN.out]
  go_wp2_with fail
  go_ret
  have hz3 := hb3.size
  simp at hz3
  have hz1 := hb1.size
  refine ⟨rfl, Below.trans (hb1.trans ?_) (hb4.mono (by omega))⟩
  refine Below.trans ?_ (hb3.mono (by have := hb1.size; simp; omega))
  skip
  exact ((Below.refl w.heap.size w1).alloc hz1 _).alloc (by simp; omega) _

set_option maxHeartbeats 4000000 in
theorem isaForms_i1 (op n : Int) (w : World) (h : 1 ≤ op ∧ op ≤ 41) (hn : 1 ≤ n ∧ n ≤ 15) (hc : formZ op = 1) :
    Calls Try.prog 6 #[.int .i64 op, .int .i64 3, .int .i64 n] w fun e w' => e = .returned (.bool true) ∧ Below w.heap.size w w' := by
  have HR := Lib.hid (show rightB ⟨op, 0, 0, 0, n⟩ = false by rw [field_i op n h hn, hc]; rfl)
  have HN := Lib.hid (field_none op h)
  have HC := Lib.hid hc
  have b1 : decide (op < 1) = false := by simp; omega
  have b2 : decide (41 < op) = false := by simp; omega
  have b3 : decide (n < 1) = false := by simp; omega
  have b4 : decide (15 < n) = false := by simp; omega
  clear hc h hn
  have ix : ∀ w, (Instr.index 9 (.string ⟨#[68, 65, 66, 73]⟩) (.int .i64 3)).run Try.prog w = .ok (.int .u8 73) w := fun _ => by kernel_rfl
  have i0 : ∀ w, (Instr.index 9 (.string ⟨#[68, 65, 66]⟩) (.int .i64 0)).run Try.prog w = .ok (.int .u8 68) w := fun _ => by kernel_rfl
  have i1 : ∀ w, (Instr.index 9 (.string ⟨#[68, 65, 66]⟩) (.int .i64 1)).run Try.prog w = .ok (.int .u8 65) w := fun _ => by kernel_rfl
  have i2 : ∀ w, (Instr.index 9 (.string ⟨#[68, 65, 66]⟩) (.int .i64 2)).run Try.prog w = .ok (.int .u8 66) w := fun _ => by kernel_rfl
  go_enter Try.func6, Try.ntmps6
  go_wp2_with fail
  refine (alive_any _).mono ?_; rintro e w1 ⟨rfl, hb1⟩
  go_wp2_with fail
  refine (form_any op _).mono ?_; rintro e w2 ⟨rfl, rfl⟩
  rw [HC.out]
  go_wp2_with fail
  refine wp_loop_rounds 4 ?_
  iterate 3 (rw [rounds_succ]; go_wp2_with fail; go_quiet (fail); go_wp2_with fail)
  rw [rounds_succ]
  go_wp2_with fail
  refine (right_any ⟨op, 0, 0, 0, n⟩ _).mono ?_; rintro e w3 ⟨rfl, hb3⟩
  rw [HR.out]
  go_wp2_with fail
  refine (right_any ⟨op, 0, 0, 0, 0⟩ _).mono ?_; rintro e w4 ⟨rfl, hb4⟩
  rw [HN.out]
  go_wp2_with fail
  go_ret
  have hz3 := hb3.size
  simp at hz3
  have hz1 := hb1.size
  refine ⟨rfl, Below.trans (hb1.trans ?_) (hb4.mono (by omega))⟩
  refine Below.trans ?_ (hb3.mono (by have := hb1.size; simp; omega))
  refine (Below.drewN_ ?_ _).setCell hz1 _
  exact ((Below.refl w.heap.size w1).alloc hz1 _).alloc (by simp; omega) _

set_option maxHeartbeats 4000000 in
theorem isaForms_i2 (op n : Int) (w : World) (h : 1 ≤ op ∧ op ≤ 41) (hn : 1 ≤ n ∧ n ≤ 15) (hc : formZ op = 2) :
    Calls Try.prog 6 #[.int .i64 op, .int .i64 3, .int .i64 n] w fun e w' => e = .returned (.bool true) ∧ Below w.heap.size w w' := by
  have HR := Lib.hid (show rightB ⟨op, 0, 0, 0, n⟩ = true by rw [field_i op n h hn, hc]; rfl)
  have HN := Lib.hid (field_none op h)
  have HC := Lib.hid hc
  have b1 : decide (op < 1) = false := by simp; omega
  have b2 : decide (41 < op) = false := by simp; omega
  have b3 : decide (n < 1) = false := by simp; omega
  have b4 : decide (15 < n) = false := by simp; omega
  clear hc h hn
  have ix : ∀ w, (Instr.index 9 (.string ⟨#[68, 65, 66, 73]⟩) (.int .i64 3)).run Try.prog w = .ok (.int .u8 73) w := fun _ => by kernel_rfl
  have i0 : ∀ w, (Instr.index 9 (.string ⟨#[68, 65, 73]⟩) (.int .i64 0)).run Try.prog w = .ok (.int .u8 68) w := fun _ => by kernel_rfl
  have i1 : ∀ w, (Instr.index 9 (.string ⟨#[68, 65, 73]⟩) (.int .i64 1)).run Try.prog w = .ok (.int .u8 65) w := fun _ => by kernel_rfl
  have i2 : ∀ w, (Instr.index 9 (.string ⟨#[68, 65, 73]⟩) (.int .i64 2)).run Try.prog w = .ok (.int .u8 73) w := fun _ => by kernel_rfl
  go_enter Try.func6, Try.ntmps6
  go_wp2_with fail
  refine (alive_any _).mono ?_; rintro e w1 ⟨rfl, hb1⟩
  go_wp2_with fail
  refine (form_any op _).mono ?_; rintro e w2 ⟨rfl, rfl⟩
  rw [HC.out]
  go_wp2_with fail
  refine wp_loop_rounds 4 ?_
  iterate 3 (rw [rounds_succ]; go_wp2_with fail; go_quiet (fail); go_wp2_with fail)
  rw [rounds_succ]
  go_wp2_with fail
  refine (right_any ⟨op, 0, 0, 0, n⟩ _).mono ?_; rintro e w3 ⟨rfl, hb3⟩
  rw [HR.out]
  go_wp2_with fail
  refine (right_any ⟨op, 0, 0, 0, 0⟩ _).mono ?_; rintro e w4 ⟨rfl, hb4⟩
  rw [HN.out]
  go_wp2_with fail
  go_ret
  have hz3 := hb3.size
  simp at hz3
  have hz1 := hb1.size
  refine ⟨rfl, Below.trans (hb1.trans ?_) (hb4.mono (by omega))⟩
  refine Below.trans ?_ (hb3.mono (by have := hb1.size; simp; omega))
  refine (Below.drewN_ ?_ _).setCell hz1 _
  exact ((Below.refl w.heap.size w1).alloc hz1 _).alloc (by simp; omega) _

set_option maxHeartbeats 4000000 in
theorem isaForms_i3 (op n : Int) (w : World) (h : 1 ≤ op ∧ op ≤ 41) (hn : 1 ≤ n ∧ n ≤ 15) (hc : formZ op = 3) :
    Calls Try.prog 6 #[.int .i64 op, .int .i64 3, .int .i64 n] w fun e w' => e = .returned (.bool true) ∧ Below w.heap.size w w' := by
  have HR := Lib.hid (show rightB ⟨op, 0, 0, 0, n⟩ = true by rw [field_i op n h hn, hc]; rfl)
  have HN := Lib.hid (field_none op h)
  have HC := Lib.hid hc
  have b1 : decide (op < 1) = false := by simp; omega
  have b2 : decide (41 < op) = false := by simp; omega
  have b3 : decide (n < 1) = false := by simp; omega
  have b4 : decide (15 < n) = false := by simp; omega
  clear hc h hn
  have ix : ∀ w, (Instr.index 9 (.string ⟨#[68, 65, 66, 73]⟩) (.int .i64 3)).run Try.prog w = .ok (.int .u8 73) w := fun _ => by kernel_rfl
  have i0 : ∀ w, (Instr.index 9 (.string ⟨#[68, 73]⟩) (.int .i64 0)).run Try.prog w = .ok (.int .u8 68) w := fun _ => by kernel_rfl
  have i1 : ∀ w, (Instr.index 9 (.string ⟨#[68, 73]⟩) (.int .i64 1)).run Try.prog w = .ok (.int .u8 73) w := fun _ => by kernel_rfl
  go_enter Try.func6, Try.ntmps6
  go_wp2_with fail
  refine (alive_any _).mono ?_; rintro e w1 ⟨rfl, hb1⟩
  go_wp2_with fail
  refine (form_any op _).mono ?_; rintro e w2 ⟨rfl, rfl⟩
  rw [HC.out]
  go_wp2_with fail
  refine wp_loop_rounds 3 ?_
  iterate 2 (rw [rounds_succ]; go_wp2_with fail; go_quiet (fail); go_wp2_with fail)
  rw [rounds_succ]
  go_wp2_with fail
  refine (right_any ⟨op, 0, 0, 0, n⟩ _).mono ?_; rintro e w3 ⟨rfl, hb3⟩
  rw [HR.out]
  go_wp2_with fail
  refine (right_any ⟨op, 0, 0, 0, 0⟩ _).mono ?_; rintro e w4 ⟨rfl, hb4⟩
  rw [HN.out]
  go_wp2_with fail
  go_ret
  have hz3 := hb3.size
  simp at hz3
  have hz1 := hb1.size
  refine ⟨rfl, Below.trans (hb1.trans ?_) (hb4.mono (by omega))⟩
  refine Below.trans ?_ (hb3.mono (by have := hb1.size; simp; omega))
  refine (Below.drewN_ ?_ _).setCell hz1 _
  exact ((Below.refl w.heap.size w1).alloc hz1 _).alloc (by simp; omega) _

set_option maxHeartbeats 4000000 in
theorem isaForms_i4 (op n : Int) (w : World) (h : 1 ≤ op ∧ op ≤ 41) (hn : 1 ≤ n ∧ n ≤ 15) (hc : formZ op = 4) :
    Calls Try.prog 6 #[.int .i64 op, .int .i64 3, .int .i64 n] w fun e w' => e = .returned (.bool true) ∧ Below w.heap.size w w' := by
  have HR := Lib.hid (show rightB ⟨op, 0, 0, 0, n⟩ = true by rw [field_i op n h hn, hc]; rfl)
  have HN := Lib.hid (field_none op h)
  have HC := Lib.hid hc
  have b1 : decide (op < 1) = false := by simp; omega
  have b2 : decide (41 < op) = false := by simp; omega
  have b3 : decide (n < 1) = false := by simp; omega
  have b4 : decide (15 < n) = false := by simp; omega
  clear hc h hn
  have ix : ∀ w, (Instr.index 9 (.string ⟨#[68, 65, 66, 73]⟩) (.int .i64 3)).run Try.prog w = .ok (.int .u8 73) w := fun _ => by kernel_rfl
  have i0 : ∀ w, (Instr.index 9 (.string ⟨#[68, 65, 73]⟩) (.int .i64 0)).run Try.prog w = .ok (.int .u8 68) w := fun _ => by kernel_rfl
  have i1 : ∀ w, (Instr.index 9 (.string ⟨#[68, 65, 73]⟩) (.int .i64 1)).run Try.prog w = .ok (.int .u8 65) w := fun _ => by kernel_rfl
  have i2 : ∀ w, (Instr.index 9 (.string ⟨#[68, 65, 73]⟩) (.int .i64 2)).run Try.prog w = .ok (.int .u8 73) w := fun _ => by kernel_rfl
  go_enter Try.func6, Try.ntmps6
  go_wp2_with fail
  refine (alive_any _).mono ?_; rintro e w1 ⟨rfl, hb1⟩
  go_wp2_with fail
  refine (form_any op _).mono ?_; rintro e w2 ⟨rfl, rfl⟩
  rw [HC.out]
  go_wp2_with fail
  refine wp_loop_rounds 4 ?_
  iterate 3 (rw [rounds_succ]; go_wp2_with fail; go_quiet (fail); go_wp2_with fail)
  rw [rounds_succ]
  go_wp2_with fail
  refine (right_any ⟨op, 0, 0, 0, n⟩ _).mono ?_; rintro e w3 ⟨rfl, hb3⟩
  rw [HR.out]
  go_wp2_with fail
  refine (right_any ⟨op, 0, 0, 0, 0⟩ _).mono ?_; rintro e w4 ⟨rfl, hb4⟩
  rw [HN.out]
  go_wp2_with fail
  go_ret
  have hz3 := hb3.size
  simp at hz3
  have hz1 := hb1.size
  refine ⟨rfl, Below.trans (hb1.trans ?_) (hb4.mono (by omega))⟩
  refine Below.trans ?_ (hb3.mono (by have := hb1.size; simp; omega))
  refine (Below.drewN_ ?_ _).setCell hz1 _
  exact ((Below.refl w.heap.size w1).alloc hz1 _).alloc (by simp; omega) _

set_option maxHeartbeats 4000000 in
theorem isaForms_i5 (op n : Int) (w : World) (h : 1 ≤ op ∧ op ≤ 41) (hn : 1 ≤ n ∧ n ≤ 15) (hc : formZ op = 5) :
    Calls Try.prog 6 #[.int .i64 op, .int .i64 3, .int .i64 n] w fun e w' => e = .returned (.bool true) ∧ Below w.heap.size w w' := by
  have HR := Lib.hid (show rightB ⟨op, 0, 0, 0, n⟩ = true by rw [field_i op n h hn, hc]; rfl)
  have HN := Lib.hid (field_none op h)
  have HC := Lib.hid hc
  have b1 : decide (op < 1) = false := by simp; omega
  have b2 : decide (41 < op) = false := by simp; omega
  have b3 : decide (n < 1) = false := by simp; omega
  have b4 : decide (15 < n) = false := by simp; omega
  clear hc h hn
  have ix : ∀ w, (Instr.index 9 (.string ⟨#[68, 65, 66, 73]⟩) (.int .i64 3)).run Try.prog w = .ok (.int .u8 73) w := fun _ => by kernel_rfl
  have i0 : ∀ w, (Instr.index 9 (.string ⟨#[65, 66, 73]⟩) (.int .i64 0)).run Try.prog w = .ok (.int .u8 65) w := fun _ => by kernel_rfl
  have i1 : ∀ w, (Instr.index 9 (.string ⟨#[65, 66, 73]⟩) (.int .i64 1)).run Try.prog w = .ok (.int .u8 66) w := fun _ => by kernel_rfl
  have i2 : ∀ w, (Instr.index 9 (.string ⟨#[65, 66, 73]⟩) (.int .i64 2)).run Try.prog w = .ok (.int .u8 73) w := fun _ => by kernel_rfl
  go_enter Try.func6, Try.ntmps6
  go_wp2_with fail
  refine (alive_any _).mono ?_; rintro e w1 ⟨rfl, hb1⟩
  go_wp2_with fail
  refine (form_any op _).mono ?_; rintro e w2 ⟨rfl, rfl⟩
  rw [HC.out]
  go_wp2_with fail
  refine wp_loop_rounds 4 ?_
  iterate 3 (rw [rounds_succ]; go_wp2_with fail; go_quiet (fail); go_wp2_with fail)
  rw [rounds_succ]
  go_wp2_with fail
  refine (right_any ⟨op, 0, 0, 0, n⟩ _).mono ?_; rintro e w3 ⟨rfl, hb3⟩
  rw [HR.out]
  go_wp2_with fail
  refine (right_any ⟨op, 0, 0, 0, 0⟩ _).mono ?_; rintro e w4 ⟨rfl, hb4⟩
  rw [HN.out]
  go_wp2_with fail
  go_ret
  have hz3 := hb3.size
  simp at hz3
  have hz1 := hb1.size
  refine ⟨rfl, Below.trans (hb1.trans ?_) (hb4.mono (by omega))⟩
  refine Below.trans ?_ (hb3.mono (by have := hb1.size; simp; omega))
  refine (Below.drewN_ ?_ _).setCell hz1 _
  exact ((Below.refl w.heap.size w1).alloc hz1 _).alloc (by simp; omega) _

set_option maxHeartbeats 4000000 in
theorem isaForms_i6 (op n : Int) (w : World) (h : 1 ≤ op ∧ op ≤ 41) (hn : 1 ≤ n ∧ n ≤ 15) (hc : formZ op = 6) :
    Calls Try.prog 6 #[.int .i64 op, .int .i64 3, .int .i64 n] w fun e w' => e = .returned (.bool true) ∧ Below w.heap.size w w' := by
  have HR := Lib.hid (show rightB ⟨op, 0, 0, 0, n⟩ = true by rw [field_i op n h hn, hc]; rfl)
  have HN := Lib.hid (field_none op h)
  have HC := Lib.hid hc
  have b1 : decide (op < 1) = false := by simp; omega
  have b2 : decide (41 < op) = false := by simp; omega
  have b3 : decide (n < 1) = false := by simp; omega
  have b4 : decide (15 < n) = false := by simp; omega
  clear hc h hn
  have ix : ∀ w, (Instr.index 9 (.string ⟨#[68, 65, 66, 73]⟩) (.int .i64 3)).run Try.prog w = .ok (.int .u8 73) w := fun _ => by kernel_rfl
  have i0 : ∀ w, (Instr.index 9 (.string ⟨#[65, 66, 73]⟩) (.int .i64 0)).run Try.prog w = .ok (.int .u8 65) w := fun _ => by kernel_rfl
  have i1 : ∀ w, (Instr.index 9 (.string ⟨#[65, 66, 73]⟩) (.int .i64 1)).run Try.prog w = .ok (.int .u8 66) w := fun _ => by kernel_rfl
  have i2 : ∀ w, (Instr.index 9 (.string ⟨#[65, 66, 73]⟩) (.int .i64 2)).run Try.prog w = .ok (.int .u8 73) w := fun _ => by kernel_rfl
  go_enter Try.func6, Try.ntmps6
  go_wp2_with fail
  refine (alive_any _).mono ?_; rintro e w1 ⟨rfl, hb1⟩
  go_wp2_with fail
  refine (form_any op _).mono ?_; rintro e w2 ⟨rfl, rfl⟩
  rw [HC.out]
  go_wp2_with fail
  refine wp_loop_rounds 4 ?_
  iterate 3 (rw [rounds_succ]; go_wp2_with fail; go_quiet (fail); go_wp2_with fail)
  rw [rounds_succ]
  go_wp2_with fail
  refine (right_any ⟨op, 0, 0, 0, n⟩ _).mono ?_; rintro e w3 ⟨rfl, hb3⟩
  rw [HR.out]
  go_wp2_with fail
  refine (right_any ⟨op, 0, 0, 0, 0⟩ _).mono ?_; rintro e w4 ⟨rfl, hb4⟩
  rw [HN.out]
  go_wp2_with fail
  go_ret
  have hz3 := hb3.size
  simp at hz3
  have hz1 := hb1.size
  refine ⟨rfl, Below.trans (hb1.trans ?_) (hb4.mono (by omega))⟩
  refine Below.trans ?_ (hb3.mono (by have := hb1.size; simp; omega))
  refine (Below.drewN_ ?_ _).setCell hz1 _
  exact ((Below.refl w.heap.size w1).alloc hz1 _).alloc (by simp; omega) _

set_option maxHeartbeats 4000000 in
theorem isaForms_i7 (op n : Int) (w : World) (h : 1 ≤ op ∧ op ≤ 41) (hn : 1 ≤ n ∧ n ≤ 15) (hc : formZ op = 7) :
    Calls Try.prog 6 #[.int .i64 op, .int .i64 3, .int .i64 n] w fun e w' => e = .returned (.bool true) ∧ Below w.heap.size w w' := by
  have HR := Lib.hid (show rightB ⟨op, 0, 0, 0, n⟩ = true by rw [field_i op n h hn, hc]; rfl)
  have HN := Lib.hid (field_none op h)
  have HC := Lib.hid hc
  have b1 : decide (op < 1) = false := by simp; omega
  have b2 : decide (41 < op) = false := by simp; omega
  have b3 : decide (n < 1) = false := by simp; omega
  have b4 : decide (15 < n) = false := by simp; omega
  clear hc h hn
  have ix : ∀ w, (Instr.index 9 (.string ⟨#[68, 65, 66, 73]⟩) (.int .i64 3)).run Try.prog w = .ok (.int .u8 73) w := fun _ => by kernel_rfl
  have i0 : ∀ w, (Instr.index 9 (.string ⟨#[73]⟩) (.int .i64 0)).run Try.prog w = .ok (.int .u8 73) w := fun _ => by kernel_rfl
  go_enter Try.func6, Try.ntmps6
  go_wp2_with fail
  refine (alive_any _).mono ?_; rintro e w1 ⟨rfl, hb1⟩
  go_wp2_with fail
  refine (form_any op _).mono ?_; rintro e w2 ⟨rfl, rfl⟩
  rw [HC.out]
  go_wp2_with fail
  refine wp_loop_rounds 2 ?_
  iterate 1 (rw [rounds_succ]; go_wp2_with fail; go_quiet (fail); go_wp2_with fail)
  rw [rounds_succ]
  go_wp2_with fail
  refine (right_any ⟨op, 0, 0, 0, n⟩ _).mono ?_; rintro e w3 ⟨rfl, hb3⟩
  rw [HR.out]
  go_wp2_with fail
  refine (right_any ⟨op, 0, 0, 0, 0⟩ _).mono ?_; rintro e w4 ⟨rfl, hb4⟩
  rw [HN.out]
  go_wp2_with fail
  go_ret
  have hz3 := hb3.size
  simp at hz3
  have hz1 := hb1.size
  refine ⟨rfl, Below.trans (hb1.trans ?_) (hb4.mono (by omega))⟩
  refine Below.trans ?_ (hb3.mono (by have := hb1.size; simp; omega))
  refine (Below.drewN_ ?_ _).setCell hz1 _
  exact ((Below.refl w.heap.size w1).alloc hz1 _).alloc (by simp; omega) _

set_option maxHeartbeats 4000000 in
theorem isaForms_i8 (op n : Int) (w : World) (h : 1 ≤ op ∧ op ≤ 41) (hn : 1 ≤ n ∧ n ≤ 15) (hc : formZ op = 8) :
    Calls Try.prog 6 #[.int .i64 op, .int .i64 3, .int .i64 n] w fun e w' => e = .returned (.bool true) ∧ Below w.heap.size w w' := by
  have HR := Lib.hid (show rightB ⟨op, 0, 0, 0, n⟩ = false by rw [field_i op n h hn, hc]; rfl)
  have HN := Lib.hid (field_none op h)
  have HC := Lib.hid hc
  have b1 : decide (op < 1) = false := by simp; omega
  have b2 : decide (41 < op) = false := by simp; omega
  have b3 : decide (n < 1) = false := by simp; omega
  have b4 : decide (15 < n) = false := by simp; omega
  clear hc h hn
  go_enter Try.func6, Try.ntmps6
  go_wp2_with fail
  refine (alive_any _).mono ?_; rintro e w1 ⟨rfl, hb1⟩
  go_wp2_with fail
  refine (form_any op _).mono ?_; rintro e w2 ⟨rfl, rfl⟩
  rw [HC.out]
  go_wp2_with fail
  refine wp_loop_rounds 1 ?_
  rw [rounds_succ]
  go_wp2_with fail
  refine (right_any ⟨op, 0, 0, 0, n⟩ _).mono ?_; rintro e w3 ⟨rfl, hb3⟩
  rw [HR.out]
  go_wp2_with fail
  refine (right_any ⟨op, 0, 0, 0, 0⟩ _).mono ?_; rintro e w4 ⟨rfl, hb4⟩
  rw [HN.out]
  go_wp2_with fail
  go_ret
  have hz3 := hb3.size
  simp at hz3
  have hz1 := hb1.size
  refine ⟨rfl, Below.trans (hb1.trans ?_) (hb4.mono (by omega))⟩
  refine Below.trans ?_ (hb3.mono (by have := hb1.size; simp; omega))
  skip
  exact ((Below.refl w.heap.size w1).alloc hz1 _).alloc (by simp; omega) _

set_option maxHeartbeats 1000000 in
theorem isaForms_out (op fi n : Int) (w : World) (h : op < 1 ∨ 41 < op ∨ fi < 0 ∨ 3 < fi ∨ n < 1 ∨ 15 < n) :
    Calls Try.prog 6 #[.int .i64 op, .int .i64 fi, .int .i64 n] w fun e w' => e = .returned (.bool true) ∧ Below w.heap.size w w' := by
  by_cases h1 : op < 1
  · go_enter Try.func6, Try.ntmps6
    go_wp2_with fail
    refine (alive_any _).mono ?_; rintro e w1 ⟨rfl, hb1⟩
    go_wp2_with fail
    go_ret
    exact ⟨rfl, hb1⟩
  by_cases h2 : 41 < op
  · go_enter Try.func6, Try.ntmps6
    go_wp2_with fail
    refine (alive_any _).mono ?_; rintro e w1 ⟨rfl, hb1⟩
    go_wp2_with fail
    go_ret
    exact ⟨rfl, hb1⟩
  by_cases h3 : fi < 0
  · go_enter Try.func6, Try.ntmps6
    go_wp2_with fail
    refine (alive_any _).mono ?_; rintro e w1 ⟨rfl, hb1⟩
    go_wp2_with fail
    go_ret
    exact ⟨rfl, hb1⟩
  by_cases h4 : 3 < fi
  · go_enter Try.func6, Try.ntmps6
    go_wp2_with fail
    refine (alive_any _).mono ?_; rintro e w1 ⟨rfl, hb1⟩
    go_wp2_with fail
    go_ret
    exact ⟨rfl, hb1⟩
  by_cases h5 : n < 1
  · go_enter Try.func6, Try.ntmps6
    go_wp2_with fail
    refine (alive_any _).mono ?_; rintro e w1 ⟨rfl, hb1⟩
    go_wp2_with fail
    go_ret
    exact ⟨rfl, hb1⟩
  have h6 : 15 < n := by omega
  clear h
  go_enter Try.func6, Try.ntmps6
  go_wp2_with fail
  refine (alive_any _).mono ?_; rintro e w1 ⟨rfl, hb1⟩
  go_wp2_with fail
  go_ret
  exact ⟨rfl, hb1⟩

theorem isaForms_walk (op fi n : Int) (w : World) (_h0 : -9223372036854775808 ≤ op ∧ op ≤ 9223372036854775807) (_h1 : -9223372036854775808 ≤ fi ∧ fi ≤ 9223372036854775807) (_h2 : -9223372036854775808 ≤ n ∧ n ≤ 9223372036854775807) :
    Calls Try.prog 6 #[.int .i64 op, .int .i64 fi, .int .i64 n] w fun e w' => e = .returned (.bool true) ∧ Below w.heap.size w w' := by
  by_cases ho : op < 1 ∨ 41 < op ∨ fi < 0 ∨ 3 < fi ∨ n < 1 ∨ 15 < n
  · exact isaForms_out op fi n w ho
  have h : 1 ≤ op ∧ op ≤ 41 := by omega
  have hn : 1 ≤ n ∧ n ≤ 15 := by omega
  have hf : fi = 0 ∨ fi = 1 ∨ fi = 2 ∨ fi = 3 := by omega
  have hc : formZ op = 1 ∨ formZ op = 2 ∨ formZ op = 3 ∨ formZ op = 4 ∨ formZ op = 5 ∨ formZ op = 6 ∨ formZ op = 7 ∨ formZ op = 8 := by have := formZ_cases op; omega
  rcases hf with rfl | rfl | rfl | rfl
  · rcases hc with hc | hc | hc | hc | hc | hc | hc | hc
    · exact isaForms_d1 op n w h hn hc
    · exact isaForms_d2 op n w h hn hc
    · exact isaForms_d3 op n w h hn hc
    · exact isaForms_d4 op n w h hn hc
    · exact isaForms_d5 op n w h hn hc
    · exact isaForms_d6 op n w h hn hc
    · exact isaForms_d7 op n w h hn hc
    · exact isaForms_d8 op n w h hn hc
  · rcases hc with hc | hc | hc | hc | hc | hc | hc | hc
    · exact isaForms_a1 op n w h hn hc
    · exact isaForms_a2 op n w h hn hc
    · exact isaForms_a3 op n w h hn hc
    · exact isaForms_a4 op n w h hn hc
    · exact isaForms_a5 op n w h hn hc
    · exact isaForms_a6 op n w h hn hc
    · exact isaForms_a7 op n w h hn hc
    · exact isaForms_a8 op n w h hn hc
  · rcases hc with hc | hc | hc | hc | hc | hc | hc | hc
    · exact isaForms_b1 op n w h hn hc
    · exact isaForms_b2 op n w h hn hc
    · exact isaForms_b3 op n w h hn hc
    · exact isaForms_b4 op n w h hn hc
    · exact isaForms_b5 op n w h hn hc
    · exact isaForms_b6 op n w h hn hc
    · exact isaForms_b7 op n w h hn hc
    · exact isaForms_b8 op n w h hn hc
  · rcases hc with hc | hc | hc | hc | hc | hc | hc | hc
    · exact isaForms_i1 op n w h hn hc
    · exact isaForms_i2 op n w h hn hc
    · exact isaForms_i3 op n w h hn hc
    · exact isaForms_i4 op n w h hn hc
    · exact isaForms_i5 op n w h hn hc
    · exact isaForms_i6 op n w h hn hc
    · exact isaForms_i7 op n w h hn hc
    · exact isaForms_i8 op n w h hn hc
end Go.Proofs.Ytdggakpjfknncaa.Words

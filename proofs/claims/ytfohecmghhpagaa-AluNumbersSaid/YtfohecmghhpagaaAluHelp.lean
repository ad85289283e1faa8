/- Contracts of the laws' own helpers of chapter 3: do, ins, alive. -/
import Derived.Test.YtfohecmghhpagaaAluTaken
namespace Go.Proofs.Ytfohecmghhpagaa.Words
open Go.RowKit
set_option linter.unusedVariables false

theorem right_three {op : Int} (h : 1 ≤ op ∧ op ≤ 16) : rightB ⟨op, 1, 2, 3, 0⟩ = true := by
  have hf : formZ op = 1 := by have := formZ_cases op; omega
  unfold rightB; simp [hf, hasD, hasA, hasB, hasI, fitsB]
theorem doZ_three {op a b : Int} (h : 1 ≤ op ∧ op ≤ 16) : doZ ⟨op, 1, 2, 3, 0⟩ a b = threeZ op a b := doZ_1 (right_three h) (by have := formZ_cases op; simp only; omega)
theorem doB_three {op b : Int} (h : 1 ≤ op ∧ op ≤ 16) : doB ⟨op, 1, 2, 3, 0⟩ b = threeB op b := doB_1 (right_three h) (by have := formZ_cases op; simp only; omega)

set_option maxHeartbeats 400000 in
/-- The law's 'do'. -/
theorem lawDo_any (op a b : Int) (w : World) (ho : 1 ≤ op ∧ op ≤ 16) (ha : 0 ≤ a ∧ a < 4294967296) (hb : 0 ≤ b ∧ b < 4294967296) :
    Calls Try.prog 19 #[.int .i64 op, .int .u32 a, .int .u32 b] w fun e w' => e = .returned (.int .u32 (threeZ op a b)) ∧ Below w.heap.size w w' := by
  go_enter Try.func19, Try.ntmps19
  go_wp2_with fail
  refine (do_any ⟨op, 1, 2, 3, 0⟩ _ _ _ ha hb).mono ?_; rintro e w1 ⟨rfl, hb1⟩
  rw [doZ_three ho, doB_three ho]
  go_wp2_with fail
  go_ret
  exact ⟨rfl, hb1⟩

set_option maxHeartbeats 400000 in
/-- The law's 'ins' of form 1. -/
theorem ins_1 (op imm : Int) (w : World) (ho : 1 ≤ op ∧ op ≤ 16) :
    Calls Try.prog 20 #[.int .i64 op, .int .i64 imm] w fun e w' => e = .returned (.agg #[.int .i64 op, .int .i64 1, .int .i64 2, .int .i64 3, .int .i64 0]) ∧ Below w.heap.size w w' := by
  have hf : formZ op = 1 := by have := formZ_cases op; omega
  go_enter Try.func20, Try.ntmps20
  go_wp2_with fail
  refine (refForm_any _ _).mono ?_; rintro e w2 ⟨rfl, rfl⟩
  rw [hf]
  go_wp2_with fail
  refine bodyPost_ret (v := .agg #[.int .i64 op, .int .i64 1, .int .i64 2, .int .i64 3, .int .i64 0]) (by simp [results, Try.results20, go_sem]; done) rfl ⟨rfl, ?_⟩
  exact ((Below.refl w.heap.size w).alloc (Nat.le_refl _) _).alloc (by simp) _
set_option maxHeartbeats 400000 in
theorem ins_2 (op imm : Int) (w : World) (ho : 17 ≤ op ∧ op ≤ 24) :
    Calls Try.prog 20 #[.int .i64 op, .int .i64 imm] w fun e w' => e = .returned (.agg #[.int .i64 op, .int .i64 1, .int .i64 2, .int .i64 0, .int .i64 imm]) ∧ Below w.heap.size w w' := by
  have hf : formZ op = 2 := by have := formZ_cases op; omega
  go_enter Try.func20, Try.ntmps20
  go_wp2_with fail
  refine (refForm_any _ _).mono ?_; rintro e w2 ⟨rfl, rfl⟩
  rw [hf]
  go_wp2_with fail
  refine bodyPost_ret (v := .agg #[.int .i64 op, .int .i64 1, .int .i64 2, .int .i64 0, .int .i64 imm]) (by simp [results, Try.results20, go_sem]; done) rfl ⟨rfl, ?_⟩
  exact ((Below.refl w.heap.size w).alloc (Nat.le_refl _) _).alloc (by simp) _
set_option maxHeartbeats 400000 in
theorem ins_25 (imm : Int) (w : World) :
    Calls Try.prog 20 #[.int .i64 25, .int .i64 imm] w fun e w' => e = .returned (.agg #[.int .i64 25, .int .i64 1, .int .i64 0, .int .i64 0, .int .i64 imm]) ∧ Below w.heap.size w w' := by
  have hf : formZ 25 = 3 := by rfl
  go_enter Try.func20, Try.ntmps20
  go_wp2_with fail
  refine (refForm_any _ _).mono ?_; rintro e w2 ⟨rfl, rfl⟩
  rw [hf]
  go_wp2_with fail
  refine bodyPost_ret (v := .agg #[.int .i64 25, .int .i64 1, .int .i64 0, .int .i64 0, .int .i64 imm]) (by simp [results, Try.results20, go_sem]; done) rfl ⟨rfl, ?_⟩
  exact ((Below.refl w.heap.size w).alloc (Nat.le_refl _) _).alloc (by simp) _
set_option maxHeartbeats 1000000 in
theorem alive_any (w : World) :
    Calls Try.prog 12 #[] w fun e w' => e = .returned (.bool true) ∧ Below w.heap.size w w' := by
  go_enter Try.func12, Try.ntmps12
  go_wp2_with fail
  refine (do_any ⟨1, 1, 2, 3, 0⟩ _ _ _ (by omega) (by omega)).mono ?_; rintro e w1 ⟨rfl, hb1⟩
  rw [doZ_three (by omega), doB_three (by omega), threeB_low (by omega), threeZ_1]
  go_wp2_with fail
  refine (taken_any _ _ _ _ (by omega) (by omega)).mono ?_; rintro e w2 ⟨rfl, rfl⟩
  rw [takenB_34]
  go_wp2_with fail
  refine (latency_any _ _ _ _ _ _ _ _ _ _ _ _ _ _).mono ?_; rintro e w2 ⟨rfl, hb2⟩
  rw [latZ_mul (.inl rfl), unitZ_yes (by omega) (by omega)]
  go_wp2_with fail
  go_ret
  exact ⟨rfl, hb1.trans (hb2.mono hb1.size)⟩
end Go.Proofs.Ytfohecmghhpagaa.Words

/- Contracts of alu.Taken, alu.Latency and of the document's own; of the law's helpers do, ins, alive. -/
import Derived.Test.YtfohecmghhpagaaAluDo
namespace Go.Proofs.Ytfohecmghhpagaa.Words
open Go.RowKit
set_option linter.unusedVariables false

theorem takenB_34 (a b : Int) : takenB 34 a b = decide (a = b) := rfl
theorem takenB_35 (a b : Int) : takenB 35 a b = decide (a ≠ b) := rfl
theorem takenB_36 (a b : Int) : takenB 36 a b = decide (sgn a < sgn b) := rfl
theorem takenB_37 (a b : Int) : takenB 37 a b = decide (sgn b ≤ sgn a) := rfl
theorem takenB_38 (a b : Int) : takenB 38 a b = decide (a < b) := rfl
theorem takenB_39 (a b : Int) : takenB 39 a b = decide (b ≤ a) := rfl
theorem takenB_no {op a b : Int} (h : op < 34 ∨ 39 < op) : takenB op a b = false := by
  unfold takenB
  rw [if_neg (by omega), if_neg (by omega), if_neg (by omega), if_neg (by omega), if_neg (by omega), if_neg (by omega)]

set_option maxHeartbeats 400000 in
theorem taken_34 (a b : Int) (w : World) (ha : 0 ≤ a ∧ a < 4294967296) (hb : 0 ≤ b ∧ b < 4294967296) :
    Calls Try.prog 15 #[.int .i64 34, .int .u32 a, .int .u32 b] w fun e w' => e = .returned (.bool (takenB 34 a b)) ∧ w = w' := by
  rw [takenB_34]
  go_enter Try.func15, Try.ntmps15
  go_wp2_with fail
  go_ret
  exact ⟨ret_bool_iff (by simp), rfl⟩
set_option maxHeartbeats 400000 in
theorem taken_35 (a b : Int) (w : World) (ha : 0 ≤ a ∧ a < 4294967296) (hb : 0 ≤ b ∧ b < 4294967296) :
    Calls Try.prog 15 #[.int .i64 35, .int .u32 a, .int .u32 b] w fun e w' => e = .returned (.bool (takenB 35 a b)) ∧ w = w' := by
  rw [takenB_35]
  go_enter Try.func15, Try.ntmps15
  go_wp2_with fail
  go_ret
  exact ⟨ret_bool_iff (by simp), rfl⟩
set_option maxHeartbeats 400000 in
theorem taken_36 (a b : Int) (w : World) (ha : 0 ≤ a ∧ a < 4294967296) (hb : 0 ≤ b ∧ b < 4294967296) :
    Calls Try.prog 15 #[.int .i64 36, .int .u32 a, .int .u32 b] w fun e w' => e = .returned (.bool (takenB 36 a b)) ∧ w = w' := by
  rw [takenB_36]
  go_enter Try.func15, Try.ntmps15
  go_wp2_with fail
  refine (int_any _ _ ha.1 ha.2).mono ?_; rintro e w' ⟨rfl, rfl⟩
  go_wp2_with fail
  refine (int_any _ _ hb.1 hb.2).mono ?_; rintro e w' ⟨rfl, rfl⟩
  go_wp2_with fail
  go_ret
  exact ⟨ret_bool_iff (by simp), rfl⟩
set_option maxHeartbeats 400000 in
theorem taken_37 (a b : Int) (w : World) (ha : 0 ≤ a ∧ a < 4294967296) (hb : 0 ≤ b ∧ b < 4294967296) :
    Calls Try.prog 15 #[.int .i64 37, .int .u32 a, .int .u32 b] w fun e w' => e = .returned (.bool (takenB 37 a b)) ∧ w = w' := by
  rw [takenB_37]
  go_enter Try.func15, Try.ntmps15
  go_wp2_with fail
  refine (int_any _ _ ha.1 ha.2).mono ?_; rintro e w' ⟨rfl, rfl⟩
  go_wp2_with fail
  refine (int_any _ _ hb.1 hb.2).mono ?_; rintro e w' ⟨rfl, rfl⟩
  go_wp2_with fail
  go_ret
  exact ⟨ret_bool_iff (by simp), rfl⟩
set_option maxHeartbeats 400000 in
theorem taken_38 (a b : Int) (w : World) (ha : 0 ≤ a ∧ a < 4294967296) (hb : 0 ≤ b ∧ b < 4294967296) :
    Calls Try.prog 15 #[.int .i64 38, .int .u32 a, .int .u32 b] w fun e w' => e = .returned (.bool (takenB 38 a b)) ∧ w = w' := by
  rw [takenB_38]
  go_enter Try.func15, Try.ntmps15
  go_wp2_with fail
  go_ret
  exact ⟨ret_bool_iff (by simp), rfl⟩
set_option maxHeartbeats 400000 in
theorem taken_39 (a b : Int) (w : World) (ha : 0 ≤ a ∧ a < 4294967296) (hb : 0 ≤ b ∧ b < 4294967296) :
    Calls Try.prog 15 #[.int .i64 39, .int .u32 a, .int .u32 b] w fun e w' => e = .returned (.bool (takenB 39 a b)) ∧ w = w' := by
  rw [takenB_39]
  go_enter Try.func15, Try.ntmps15
  go_wp2_with fail
  go_ret
  exact ⟨ret_bool_iff (by simp), rfl⟩
set_option maxHeartbeats 400000 in
theorem taken_no (op a b : Int) (w : World) (ho : op < 34 ∨ 39 < op) :
    Calls Try.prog 15 #[.int .i64 op, .int .u32 a, .int .u32 b] w fun e w' => e = .returned (.bool false) ∧ w = w' := by
  have k1 : (op == 34) = false := by simp; omega
  have k2 : (op == 35) = false := by simp; omega
  have k3 : (op == 36) = false := by simp; omega
  have k4 : (op == 37) = false := by simp; omega
  have k5 : (op == 38) = false := by simp; omega
  have k6 : (op == 39) = false := by simp; omega
  clear ho
  go_enter Try.func15, Try.ntmps15
  go_wp2_with fail
  go_ret
  exact ⟨rfl, rfl⟩
theorem taken_any (op a b : Int) (w : World) (ha : 0 ≤ a ∧ a < 4294967296) (hb : 0 ≤ b ∧ b < 4294967296) :
    Calls Try.prog 15 #[.int .i64 op, .int .u32 a, .int .u32 b] w fun e w' => e = .returned (.bool (takenB op a b)) ∧ w = w' := by
  by_cases ho : op < 34 ∨ 39 < op
  · rw [takenB_no ho]; exact taken_no op a b w ho
  have ho' : op = 34 ∨ op = 35 ∨ op = 36 ∨ op = 37 ∨ op = 38 ∨ op = 39 := by omega
  rcases ho' with rfl | rfl | rfl | rfl | rfl | rfl
  · exact taken_34 a b w ha hb
  · exact taken_35 a b w ha hb
  · exact taken_36 a b w ha hb
  · exact taken_37 a b w ha hb
  · exact taken_38 a b w ha hb
  · exact taken_39 a b w ha hb
set_option maxHeartbeats 400000 in
theorem refTaken_34 (a b : Int) (w : World) (ha : 0 ≤ a ∧ a < 4294967296) (hb : 0 ≤ b ∧ b < 4294967296) :
    Calls Try.prog 16 #[.int .i64 34, .int .u32 a, .int .u32 b] w fun e w' => e = .returned (.bool (takenB 34 a b)) ∧ w = w' := by
  rw [takenB_34]
  go_enter Try.func16, Try.ntmps16
  go_wp2_with fail
  go_ret
  exact ⟨ret_bool_iff (by simp), rfl⟩
set_option maxHeartbeats 400000 in
theorem refTaken_35 (a b : Int) (w : World) (ha : 0 ≤ a ∧ a < 4294967296) (hb : 0 ≤ b ∧ b < 4294967296) :
    Calls Try.prog 16 #[.int .i64 35, .int .u32 a, .int .u32 b] w fun e w' => e = .returned (.bool (takenB 35 a b)) ∧ w = w' := by
  rw [takenB_35]
  go_enter Try.func16, Try.ntmps16
  go_wp2_with fail
  go_ret
  exact ⟨ret_bool_iff (by simp), rfl⟩
set_option maxHeartbeats 400000 in
theorem refTaken_36 (a b : Int) (w : World) (ha : 0 ≤ a ∧ a < 4294967296) (hb : 0 ≤ b ∧ b < 4294967296) :
    Calls Try.prog 16 #[.int .i64 36, .int .u32 a, .int .u32 b] w fun e w' => e = .returned (.bool (takenB 36 a b)) ∧ w = w' := by
  rw [takenB_36]
  go_enter Try.func16, Try.ntmps16
  go_wp2_with fail
  refine (refInt_any _ _ ha.1 ha.2).mono ?_; rintro e w' ⟨rfl, rfl⟩
  go_wp2_with fail
  refine (refInt_any _ _ hb.1 hb.2).mono ?_; rintro e w' ⟨rfl, rfl⟩
  go_wp2_with fail
  go_ret
  exact ⟨ret_bool_iff (by simp), rfl⟩
set_option maxHeartbeats 400000 in
theorem refTaken_37 (a b : Int) (w : World) (ha : 0 ≤ a ∧ a < 4294967296) (hb : 0 ≤ b ∧ b < 4294967296) :
    Calls Try.prog 16 #[.int .i64 37, .int .u32 a, .int .u32 b] w fun e w' => e = .returned (.bool (takenB 37 a b)) ∧ w = w' := by
  rw [takenB_37]
  go_enter Try.func16, Try.ntmps16
  go_wp2_with fail
  refine (refInt_any _ _ ha.1 ha.2).mono ?_; rintro e w' ⟨rfl, rfl⟩
  go_wp2_with fail
  refine (refInt_any _ _ hb.1 hb.2).mono ?_; rintro e w' ⟨rfl, rfl⟩
  go_wp2_with fail
  go_ret
  exact ⟨ret_bool_iff (by simp), rfl⟩
set_option maxHeartbeats 400000 in
theorem refTaken_38 (a b : Int) (w : World) (ha : 0 ≤ a ∧ a < 4294967296) (hb : 0 ≤ b ∧ b < 4294967296) :
    Calls Try.prog 16 #[.int .i64 38, .int .u32 a, .int .u32 b] w fun e w' => e = .returned (.bool (takenB 38 a b)) ∧ w = w' := by
  rw [takenB_38]
  go_enter Try.func16, Try.ntmps16
  go_wp2_with fail
  go_ret
  exact ⟨ret_bool_iff (by simp), rfl⟩
set_option maxHeartbeats 400000 in
theorem refTaken_39 (a b : Int) (w : World) (ha : 0 ≤ a ∧ a < 4294967296) (hb : 0 ≤ b ∧ b < 4294967296) :
    Calls Try.prog 16 #[.int .i64 39, .int .u32 a, .int .u32 b] w fun e w' => e = .returned (.bool (takenB 39 a b)) ∧ w = w' := by
  rw [takenB_39]
  go_enter Try.func16, Try.ntmps16
  go_wp2_with fail
  go_ret
  exact ⟨ret_bool_iff (by simp), rfl⟩
set_option maxHeartbeats 400000 in
theorem refTaken_no (op a b : Int) (w : World) (ho : op < 34 ∨ 39 < op) :
    Calls Try.prog 16 #[.int .i64 op, .int .u32 a, .int .u32 b] w fun e w' => e = .returned (.bool false) ∧ w = w' := by
  have k1 : (op == 34) = false := by simp; omega
  have k2 : (op == 35) = false := by simp; omega
  have k3 : (op == 36) = false := by simp; omega
  have k4 : (op == 37) = false := by simp; omega
  have k5 : (op == 38) = false := by simp; omega
  have k6 : (op == 39) = false := by simp; omega
  clear ho
  go_enter Try.func16, Try.ntmps16
  go_wp2_with fail
  go_ret
  exact ⟨rfl, rfl⟩
theorem refTaken_any (op a b : Int) (w : World) (ha : 0 ≤ a ∧ a < 4294967296) (hb : 0 ≤ b ∧ b < 4294967296) :
    Calls Try.prog 16 #[.int .i64 op, .int .u32 a, .int .u32 b] w fun e w' => e = .returned (.bool (takenB op a b)) ∧ w = w' := by
  by_cases ho : op < 34 ∨ 39 < op
  · rw [takenB_no ho]; exact refTaken_no op a b w ho
  have ho' : op = 34 ∨ op = 35 ∨ op = 36 ∨ op = 37 ∨ op = 38 ∨ op = 39 := by omega
  rcases ho' with rfl | rfl | rfl | rfl | rfl | rfl
  · exact refTaken_34 a b w ha hb
  · exact refTaken_35 a b w ha hb
  · exact refTaken_36 a b w ha hb
  · exact refTaken_37 a b w ha hb
  · exact refTaken_38 a b w ha hb
  · exact refTaken_39 a b w ha hb

set_option maxHeartbeats 400000 in
theorem unit_any (n : Int) (w : World) :
    Calls Try.prog 32 #[.int .i64 n] w fun e w' => e = .returned (.int .i64 (unitZ n)) ∧ w = w' := by
  go_enter Try.func32, Try.ntmps32
  go_wp2
  all_goals
    go_ret
    exact ⟨ret_int (by unfold unitZ; split <;> omega), rfl⟩

/-- A config's twelve numbers. -/
def cfgV (c0 c1 c2 c3 c4 c5 c6 c7 c8 c9 mul div : Int) : Value := .agg #[.int .i64 c0, .int .i64 c1, .int .i64 c2, .int .i64 c3, .int .i64 c4, .int .i64 c5, .int .i64 c6, .int .i64 c7, .int .i64 c8, .int .i64 c9, .int .i64 mul, .int .i64 div]
theorem latZ_mul {mul div op : Int} (h : op = 11 ∨ op = 12) : latZ mul div op = unitZ mul := by unfold latZ; rw [if_pos h]
theorem latZ_div {mul div op : Int} (h : 13 ≤ op ∧ op ≤ 16) : latZ mul div op = unitZ div := by unfold latZ; rw [if_neg (by omega), if_pos h]
theorem latZ_no {mul div op : Int} (h : op < 11 ∨ 16 < op) : latZ mul div op = 1 := by unfold latZ; rw [if_neg (by omega), if_neg (by omega)]
theorem unitZ_no {n : Int} (h : n < 1 ∨ 50 < n) : unitZ n = 1 := by unfold unitZ; rw [if_pos h]
theorem unitZ_yes {n : Int} (h : 1 ≤ n) (h' : n ≤ 50) : unitZ n = n := by unfold unitZ; rw [if_neg (by omega)]

set_option maxHeartbeats 1000000 in
theorem latency_any (c0 c1 c2 c3 c4 c5 c6 c7 c8 c9 mul div op : Int) (w : World) :
    Calls Try.prog 17 #[.agg #[.int .i64 c0, .int .i64 c1, .int .i64 c2, .int .i64 c3, .int .i64 c4, .int .i64 c5, .int .i64 c6, .int .i64 c7, .int .i64 c8, .int .i64 c9, .int .i64 mul, .int .i64 div], .int .i64 op] w fun e w' => e = .returned (.int .i64 (latZ mul div op)) ∧ Below w.heap.size w w' := by
  by_cases h1 : op = 11 ∨ op = 12
  · rw [latZ_mul h1]
    rcases h1 with rfl | rfl
    all_goals
      go_enter Try.func17, Try.ntmps17
      go_wp2_with fail
      refine (unit_any _ _).mono ?_; rintro e w' ⟨rfl, rfl⟩
      go_wp2_with fail
      go_ret
      exact ⟨rfl, (Below.refl _ _).alloc (Nat.le_refl _) _⟩
  by_cases h2 : 13 ≤ op ∧ op ≤ 16
  · rw [latZ_div h2]
    have h3 : op = 13 ∨ op = 14 ∨ op = 15 ∨ op = 16 := by omega
    clear h1 h2
    rcases h3 with rfl | rfl | rfl | rfl
    all_goals
      go_enter Try.func17, Try.ntmps17
      go_wp2_with fail
      refine (unit_any _ _).mono ?_; rintro e w' ⟨rfl, rfl⟩
      go_wp2_with fail
      go_ret
      exact ⟨rfl, (Below.refl _ _).alloc (Nat.le_refl _) _⟩
  rw [latZ_no (by omega)]
  have k1 : (op == 11) = false := by simp; omega
  have k2 : (op == 12) = false := by simp; omega
  have k3 : (op == 13) = false := by simp; omega
  have k4 : (op == 14) = false := by simp; omega
  have k5 : (op == 15) = false := by simp; omega
  have k6 : (op == 16) = false := by simp; omega
  clear h1 h2
  go_enter Try.func17, Try.ntmps17
  go_wp2_with fail
  go_ret
  exact ⟨rfl, (Below.refl _ _).alloc (Nat.le_refl _) _⟩
set_option maxHeartbeats 1000000 in
theorem refLatency_any (c0 c1 c2 c3 c4 c5 c6 c7 c8 c9 mul div op : Int) (w : World) :
    Calls Try.prog 18 #[.agg #[.int .i64 c0, .int .i64 c1, .int .i64 c2, .int .i64 c3, .int .i64 c4, .int .i64 c5, .int .i64 c6, .int .i64 c7, .int .i64 c8, .int .i64 c9, .int .i64 mul, .int .i64 div], .int .i64 op] w fun e w' => e = .returned (.int .i64 (latZ mul div op)) ∧ Below w.heap.size w w' := by
  by_cases h1 : op = 11 ∨ op = 12
  · rw [latZ_mul h1]
    by_cases h4 : mul < 1 ∨ 50 < mul
    · rw [unitZ_no h4]
      rcases h4 with h4 | h4
      all_goals
        rcases h1 with rfl | rfl
        all_goals
          go_enter Try.func18, Try.ntmps18
          go_wp2_with fail
          go_ret
          exact ⟨rfl, (Below.refl _ _).alloc (Nat.le_refl _) _⟩
    · have h5 : 1 ≤ mul := by omega
      have h6 : mul ≤ 50 := by omega
      rw [unitZ_yes h5 h6]
      clear h4
      rcases h1 with rfl | rfl
      all_goals
        go_enter Try.func18, Try.ntmps18
        go_wp2_with fail
        go_ret
        exact ⟨rfl, (Below.refl _ _).alloc (Nat.le_refl _) _⟩
  have k1 : (op == 11) = false := by simp; omega
  have k2 : (op == 12) = false := by simp; omega
  by_cases h2 : 13 ≤ op ∧ op ≤ 16
  · rw [latZ_div h2]
    obtain ⟨h2, h3⟩ := h2
    by_cases h4 : div < 1 ∨ 50 < div
    · rw [unitZ_no h4]
      clear h1
      rcases h4 with h4 | h4
      all_goals
        go_enter Try.func18, Try.ntmps18
        go_wp2_with fail
        go_ret
        exact ⟨rfl, (Below.refl _ _).alloc (Nat.le_refl _) _⟩
    · have h5 : 1 ≤ div := by omega
      have h6 : div ≤ 50 := by omega
      rw [unitZ_yes h5 h6]
      clear h4 h1
      go_enter Try.func18, Try.ntmps18
      go_wp2_with fail
      go_ret
      exact ⟨rfl, (Below.refl _ _).alloc (Nat.le_refl _) _⟩
  rw [latZ_no (by omega)]
  have h3 : op < 13 ∨ 16 < op := by omega
  clear h1 h2
  rcases h3 with h3 | h3
  all_goals
    go_enter Try.func18, Try.ntmps18
    go_wp2_with fail
    go_ret
    exact ⟨rfl, (Below.refl _ _).alloc (Nat.le_refl _) _⟩
end Go.Proofs.Ytfohecmghhpagaa.Words

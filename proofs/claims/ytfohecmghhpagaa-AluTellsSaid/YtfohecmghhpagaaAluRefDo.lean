/- Contracts of the document's own Do. No conditions but that a and b are words. -/
import Derived.Test.YtfohecmghhpagaaAluDo
import Derived.Test.YtfohecmghhpagaaAluMath2
namespace Go.Proofs.Ytfohecmghhpagaa.Words
open Go.RowKit
set_option linter.unusedVariables false

set_option maxHeartbeats 400000 in
theorem refDiv_any (x y : Int) (w : World) (hx : -2147483648 ≤ x ∧ x ≤ 2147483647) (hy : y ≠ 0) :
    Calls Try.prog 30 #[.int .i64 x, .int .i64 y] w fun e w' => e = .returned (.tuple #[.int .i64 (x.tdiv y), .int .i64 (x.tmod y)]) ∧ ∃ k, w' = w.drewN k := by
  have h1 : (y == 0) = false := by simpa using hy
  have h2 : wrap64 (x.tdiv y) = x.tdiv y := by
    apply wrap64_in
    have h3 : (x.tdiv y).natAbs = x.natAbs / y.natAbs := Int.natAbs_tdiv x y
    have h4 : x.natAbs / y.natAbs ≤ x.natAbs := Nat.div_le_self _ _
    omega
  go_enter Try.func30, Try.ntmps30
  go_wp2
  go_quiet (fail)
  go_wp2
  go_ret2
  exact ⟨ret_ints (by first | rfl | exact h2) rfl, _, rfl⟩

set_option maxHeartbeats 400000 in
theorem refDo_no (i : Ins) (a b : Int) (w : World) (hr : rightB i = false) :
    Calls Try.prog 14 #[.agg #[.int .i64 i.op, .int .i64 i.d, .int .i64 i.a, .int .i64 i.b, .int .i64 i.imm], .int .u32 a, .int .u32 b] w fun e w' => e = .returned (.tuple #[.int .u32 0, .bool true]) ∧ Below w.heap.size w w' := by
  go_enter Try.func14, Try.ntmps14
  go_wp2_with fail
  refine (refForm_any _ _).mono ?_; rintro e w2 ⟨rfl, rfl⟩
  go_wp2_with fail
  refine (rightIns_any i _).mono ?_; rintro e w1 ⟨rfl, hb1⟩
  rw [hr]
  have hB1 : Below w.heap.size w w1 := ((Below.refl w.heap.size w).alloc (Nat.le_refl _) _).trans (hb1.mono (by simp))
  go_wp2_with fail
  go_ret2
  exact ⟨rfl, hB1⟩

set_option maxHeartbeats 400000 in
theorem refDo_other (i : Ins) (a b : Int) (w : World) (hr : rightB i = true) (hf : 3 < formZ i.op) :
    Calls Try.prog 14 #[.agg #[.int .i64 i.op, .int .i64 i.d, .int .i64 i.a, .int .i64 i.b, .int .i64 i.imm], .int .u32 a, .int .u32 b] w fun e w' => e = .returned (.tuple #[.int .u32 0, .bool true]) ∧ Below w.heap.size w w' := by
  go_enter Try.func14, Try.ntmps14
  go_wp2_with fail
  refine (refForm_any _ _).mono ?_; rintro e w2 ⟨rfl, rfl⟩
  go_wp2_with fail
  refine (rightIns_any i _).mono ?_; rintro e w1 ⟨rfl, hb1⟩
  rw [hr]
  have hB1 : Below w.heap.size w w1 := ((Below.refl w.heap.size w).alloc (Nat.le_refl _) _).trans (hb1.mono (by simp))
  go_wp2_with fail
  go_ret2
  exact ⟨rfl, hB1⟩

set_option maxHeartbeats 4000000 in
theorem refDo_1 (op d x y imm a b : Int) (w : World) (hr : rightB ⟨op, d, x, y, imm⟩ = true) (ho : 1 ≤ op ∧ op ≤ 12) (ha : 0 ≤ a ∧ a < 4294967296) (hb : 0 ≤ b ∧ b < 4294967296) :
    Calls Try.prog 14 #[.agg #[.int .i64 op, .int .i64 d, .int .i64 x, .int .i64 y, .int .i64 imm], .int .u32 a, .int .u32 b] w fun e w' => e = .returned (.tuple #[.int .u32 (threeZ op a b), .bool true]) ∧ Below w.heap.size w w' := by
  have hf : formZ op = 1 := by have := formZ_cases op; omega
  have h31 := and_31 b hb.1 hb.2
  have hs0 : 0 ≤ b % 32 := by omega
  have hs1 : b % 32 < 32 := by omega
  have h1 := sgn_range' ha
  have h2 := sgn_range' hb
  have h3 := prod_range h1 h2
  have h4 := Lib.hid (sgn_mul a b)
  have HR := Lib.hid hr
  clear hr
  go_enter Try.func14, Try.ntmps14
  go_wp2_with fail
  refine (refForm_any _ _).mono ?_; rintro e w2 ⟨rfl, rfl⟩
  rw [hf]
  clear hf
  go_wp2_with fail
  refine (rightIns_any ⟨op, d, x, y, imm⟩ _).mono ?_; rintro e w1 ⟨rfl, hb1⟩
  rw [HR.out]
  obtain ⟨hc1, hf1⟩ := bcell hb1
  have hz1 : w.heap.size < w1.heap.size := by have := hb1.size; simp at this; omega
  have hB1 : Below w.heap.size w w1 := ((Below.refl w.heap.size w).alloc (Nat.le_refl _) _).trans (hb1.mono (by simp))
  go_wp2_with fail
  refine (refInt_any _ _ ha.1 ha.2).mono ?_; rintro e w2 ⟨rfl, rfl⟩
  go_wp2_with fail
  refine (refInt_any _ _ hb.1 hb.2).mono ?_; rintro e w2 ⟨rfl, rfl⟩
  clear hc1 hf1
  have ho' : op = 1 ∨ op = 2 ∨ op = 3 ∨ op = 4 ∨ op = 5 ∨ op = 6 ∨ op = 7 ∨ op = 8 ∨ op = 9 ∨ op = 10 ∨ op = 11 ∨ op = 12 := by omega
  rcases ho' with rfl | rfl | rfl | rfl | rfl | rfl | rfl | rfl | rfl | rfl | rfl | rfl
  all_goals
    go_wp2_with (refine (one_any _ _).mono ?_; rintro e w' ⟨rfl, rfl⟩)
    all_goals
      go_ret2
      first
        | exact ⟨rfl, hB1⟩
        | exact ⟨ret_wb (by rw [threeZ_9]; split <;> first | rfl | (exfalso; simp at *; omega)) rfl, hB1⟩
        | exact ⟨ret_wb (by rw [threeZ_10]; split <;> first | rfl | (exfalso; simp at *; omega)) rfl, hB1⟩
        | exact ⟨ret_wb h4.out rfl, hB1⟩

set_option maxHeartbeats 4000000 in
theorem refDo_d (op d x y imm a b : Int) (w : World) (hr : rightB ⟨op, d, x, y, imm⟩ = true) (ho : 13 ≤ op ∧ op ≤ 16) (ha : 0 ≤ a ∧ a < 4294967296) (hb : 0 ≤ b ∧ b < 4294967296) :
    Calls Try.prog 14 #[.agg #[.int .i64 op, .int .i64 d, .int .i64 x, .int .i64 y, .int .i64 imm], .int .u32 a, .int .u32 b] w fun e w' => e = .returned (.tuple #[.int .u32 (threeZ op a b), .bool (threeB op b)]) ∧ Below w.heap.size w w' := by
  have hf : formZ op = 1 := by have := formZ_cases op; omega
  have h1 := sgn_range' ha
  have h2 := sgn_range' hb
  have HR := Lib.hid hr
  have HS := Lib.hid (fun h => sgn_zero hb h)
  clear hr
  go_enter Try.func14, Try.ntmps14
  go_wp2_with fail
  refine (refForm_any _ _).mono ?_; rintro e w2 ⟨rfl, rfl⟩
  rw [hf]
  clear hf
  go_wp2_with fail
  refine (rightIns_any ⟨op, d, x, y, imm⟩ _).mono ?_; rintro e w1 ⟨rfl, hb1⟩
  rw [HR.out]
  obtain ⟨hc1, hf1⟩ := bcell hb1
  have hz1 : w.heap.size < w1.heap.size := by have := hb1.size; simp at this; omega
  have hB1 : Below w.heap.size w w1 := ((Below.refl w.heap.size w).alloc (Nat.le_refl _) _).trans (hb1.mono (by simp))
  go_wp2_with fail
  refine (refInt_any _ _ ha.1 ha.2).mono ?_; rintro e w2 ⟨rfl, rfl⟩
  go_wp2_with fail
  refine (refInt_any _ _ hb.1 hb.2).mono ?_; rintro e w2 ⟨rfl, rfl⟩
  clear hc1 hf1
  have ho' : op = 13 ∨ op = 14 ∨ op = 15 ∨ op = 16 := by omega
  by_cases h0 : b = 0
  · subst h0
    rcases ho' with rfl | rfl | rfl | rfl
    all_goals
      go_wp2_with fail
      go_ret2
      exact ⟨rfl, hB1⟩
  · have h5 : (b == 0) = false := by simpa using h0
    have h6 := Lib.hid (HS.out h0)
    rcases ho' with rfl | rfl | rfl | rfl
    all_goals
      go_wp2_with fail
      refine (refDiv_any _ _ _ h1 h6.out).mono ?_; rintro e w2 ⟨rfl, k, rfl⟩
      go_wp2_with fail
      go_ret2
      refine ⟨ret_wb (?_ : _ = threeZ _ _ _) (by simp [threeB, h0]), Below.drewN_ hB1 k⟩
      first
        | exact (threeZ_13 _ _ h0).symm
        | exact (threeZ_14 _ _ h0).symm
        | exact (threeZ_15 _ _ h0).symm
        | exact (threeZ_16 _ _ h0).symm

set_option maxHeartbeats 4000000 in
theorem refDo_2 (op d x y imm a b : Int) (w : World) (hr : rightB ⟨op, d, x, y, imm⟩ = true) (ho : 17 ≤ op ∧ op ≤ 24) (ha : 0 ≤ a ∧ a < 4294967296) (hb : 0 ≤ b ∧ b < 4294967296) :
    Calls Try.prog 14 #[.agg #[.int .i64 op, .int .i64 d, .int .i64 x, .int .i64 y, .int .i64 imm], .int .u32 a, .int .u32 b] w fun e w' => e = .returned (.tuple #[.int .u32 (threeZ (likeZ op) a (imm % 4294967296)), .bool true]) ∧ Below w.heap.size w w' := by
  have hf : formZ op = 2 := by have := formZ_cases op; omega
  have h1 := sgn_range' ha
  have HR := Lib.hid hr
  clear hr
  go_enter Try.func14, Try.ntmps14
  go_wp2_with fail
  refine (refForm_any _ _).mono ?_; rintro e w2 ⟨rfl, rfl⟩
  rw [hf]
  clear hf
  go_wp2_with fail
  refine (rightIns_any ⟨op, d, x, y, imm⟩ _).mono ?_; rintro e w1 ⟨rfl, hb1⟩
  rw [HR.out]
  obtain ⟨hc1, hf1⟩ := bcell hb1
  have hz1 : w.heap.size < w1.heap.size := by have := hb1.size; simp at this; omega
  have hB1 : Below w.heap.size w w1 := ((Below.refl w.heap.size w).alloc (Nat.le_refl _) _).trans (hb1.mono (by simp))
  have hm : 0 ≤ imm % 4294967296 ∧ imm % 4294967296 < 4294967296 := by omega
  have h31 := and_31 _ hm.1 hm.2
  have hs0 : 0 ≤ imm % 4294967296 % 32 := by omega
  have hs1 : imm % 4294967296 % 32 < 32 := by omega
  have h2 := sgn_range' hm
  have ho' : op = 17 ∨ op = 18 ∨ op = 19 ∨ op = 20 ∨ op = 21 ∨ op = 22 ∨ op = 23 ∨ op = 24 := by omega
  have HMM := Lib.hid (show imm % 4294967296 % 32 = imm % 32 by omega)
  have hB2 := Lib.hid (fun o => hB1.alloc (Nat.le_of_lt hz1) o)
  rcases ho' with rfl | rfl | rfl | rfl | rfl | rfl | rfl | rfl
  all_goals
    go_wp2_with fail
    refine (refInt_any _ _ ha.1 ha.2).mono ?_; rintro e w2 ⟨rfl, rfl⟩
    go_wp2_with fail
    refine (refInt_any _ _ hm.1 hm.2).mono ?_; rintro e w2 ⟨rfl, rfl⟩
    go_wp2_with (refine (one_any _ _).mono ?_; rintro e w' ⟨rfl, rfl⟩)
    all_goals
      go_ret2
      first
        | exact ⟨rfl, hB2.out _⟩
        | exact ⟨ret_wb (by show _ = threeZ 6 _ _; rw [threeZ_6, HMM.out]) rfl, hB2.out _⟩
        | exact ⟨ret_wb (by show _ = threeZ 7 _ _; rw [threeZ_7, HMM.out]) rfl, hB2.out _⟩
        | exact ⟨ret_wb (by show _ = threeZ 8 _ _; rw [threeZ_8, HMM.out]) rfl, hB2.out _⟩
        | exact ⟨ret_wb (by show _ = threeZ 9 _ _; rw [threeZ_9]; split <;> first | rfl | (exfalso; simp at *; omega)) rfl, hB2.out _⟩

set_option maxHeartbeats 4000000 in
theorem refDo_3 (d x y imm a b : Int) (w : World) (hr : rightB ⟨25, d, x, y, imm⟩ = true) (ha : 0 ≤ a ∧ a < 4294967296) (hb : 0 ≤ b ∧ b < 4294967296) :
    Calls Try.prog 14 #[.agg #[.int .i64 25, .int .i64 d, .int .i64 x, .int .i64 y, .int .i64 imm], .int .u32 a, .int .u32 b] w fun e w' => e = .returned (.tuple #[.int .u32 (imm * 262144 % 4294967296), .bool true]) ∧ Below w.heap.size w w' := by
  have hf : formZ 25 = 3 := rfl
  have HR := Lib.hid hr
  clear hr
  go_enter Try.func14, Try.ntmps14
  go_wp2_with fail
  refine (refForm_any _ _).mono ?_; rintro e w2 ⟨rfl, rfl⟩
  rw [hf]
  clear hf
  go_wp2_with fail
  refine (rightIns_any ⟨25, d, x, y, imm⟩ _).mono ?_; rintro e w1 ⟨rfl, hb1⟩
  rw [HR.out]
  obtain ⟨hc1, hf1⟩ := bcell hb1
  have hz1 : w.heap.size < w1.heap.size := by have := hb1.size; simp at this; omega
  have hB1 : Below w.heap.size w w1 := ((Below.refl w.heap.size w).alloc (Nat.le_refl _) _).trans (hb1.mono (by simp))
  go_wp2_with fail
  refine (refInt_any _ _ ha.1 ha.2).mono ?_; rintro e w2 ⟨rfl, rfl⟩
  go_wp2_with fail
  refine (refInt_any _ _ hb.1 hb.2).mono ?_; rintro e w2 ⟨rfl, rfl⟩
  go_wp2_with fail
  go_ret2
  exact ⟨ret_wb (by omega) rfl, hB1⟩

theorem refDo_any (i : Ins) (a b : Int) (w : World) (ha : 0 ≤ a ∧ a < 4294967296) (hb : 0 ≤ b ∧ b < 4294967296) :
    Calls Try.prog 14 #[.agg #[.int .i64 i.op, .int .i64 i.d, .int .i64 i.a, .int .i64 i.b, .int .i64 i.imm], .int .u32 a, .int .u32 b] w fun e w' => e = .returned (.tuple #[.int .u32 (doZ i a b), .bool (doB i b)]) ∧ Below w.heap.size w w' := by
  have hc := formZ_cases i.op
  cases hr : rightB i
  · rw [doZ_no hr, doB_no hr]; exact refDo_no i a b w hr
  by_cases h4 : 3 < formZ i.op
  · rw [doZ_n (by omega) (by omega) (by omega), doB_n (by omega)]; exact refDo_other i a b w hr h4
  have hn0 : formZ i.op ≠ 0 := fun h => by
    have := right_none (i := i) (by simpa using h)
    rw [this] at hr; cases hr
  by_cases h1 : formZ i.op = 1
  · rw [doZ_1 hr h1, doB_1 hr h1]
    by_cases h12 : i.op ≤ 12
    · rw [threeB_low h12]; exact refDo_1 i.op i.d i.a i.b i.imm a b w hr (by omega) ha hb
    · exact refDo_d i.op i.d i.a i.b i.imm a b w hr (by omega) ha hb
  by_cases h2 : formZ i.op = 2
  · rw [doZ_2 hr h2, doB_n h1]; exact refDo_2 i.op i.d i.a i.b i.imm a b w hr (by omega) ha hb
  have h3 : formZ i.op = 3 := by omega
  rw [doZ_3 hr h3, doB_n h1]
  obtain ⟨op, d, x, y, imm⟩ := i
  have h25 : op = 25 := by simp only at *; omega
  subst h25
  exact refDo_3 d x y imm a b w hr ha hb
end Go.Proofs.Ytfohecmghhpagaa.Words

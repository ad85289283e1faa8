/- Several texts in one: WordOf, AluReckon, AluDo, RefInt, RefTaken, AluTaken, SeqAlu. -/
import Derived.Test.YtdjllgdeijdieaaG03
import Derived.Test.YtdjllgdeijdieaaG02
import Derived.Test.YtdjllgdeijdieaaRows
import Derived.Test.YtdjllgdeijdieaaG00

/- Contract of word.Int. -/
namespace Go.Proofs.Ytdjllgdeijdieaa.Words
set_option maxRecDepth 100000
open Go.RowKit

set_option maxHeartbeats 400000 in
theorem int_any (n : Int) (w : World) (h0 : 0 ≤ n) (h1 : n < 4294967296) :
    Calls Try.prog 64 #[.int .u32 n] w fun e w' => e = .returned (.int .i64 (sgn n)) ∧ w = w' := by
  go_enter Try.func64, Try.ntmps64
  go_wp2
  go_ret
  exact ⟨ret_int (by simp only [wrap64, wrap32, sgn]; split <;> omega), rfl⟩

end Go.Proofs.Ytdjllgdeijdieaa.Words

/- Contracts of alu's inner calls and of the document's own: what an operation of form 1 makes of two words. -/
namespace Go.Proofs.Ytdjllgdeijdieaa.Words
set_option maxRecDepth 100000
open Go.RowKit

theorem and_31 (x : Int) (h0 : 0 ≤ x) (h1 : x < 4294967296) : bits .and .u32 x 31 = x % 32 := by
  obtain ⟨a, rfl⟩ := Int.eq_ofNat_of_zero_le h0
  rw [show (31 : Int) = ((31 : Nat) : Int) from rfl, u32_and_nat a 31 (by omega) (by omega), show a &&& 31 = a % 32 from Nat.and_two_pow_sub_one_eq_mod a 5]
  omega

set_option maxHeartbeats 400000 in
theorem oneIf_any (t : Bool) (w : World) :
    Calls Try.prog 65 #[.bool t] w fun e w' => e = .returned (.int .u32 (if t = true then 1 else 0)) ∧ w = w' := by
  cases t
  all_goals
    go_enter Try.func65, Try.ntmps65
    go_wp2
    go_ret
    exact ⟨rfl, rfl⟩
theorem wrap32_sgn {a : Int} (h : 0 ≤ a ∧ a < 4294967296) : wrap32 a = sgn a := by
  unfold wrap32 sgn; split <;> omega
theorem prod_range {x y : Int} (hx : -2147483648 ≤ x ∧ x ≤ 2147483647) (hy : -2147483648 ≤ y ∧ y ≤ 2147483647) : -4611686018427387904 ≤ x * y ∧ x * y ≤ 4611686018427387904 := by
  have h1 : x * y ≤ 2147483648 * 2147483648 := by
    rcases Int.le_total 0 x with h | h
    · rcases Int.le_total 0 y with g | g
      · exact Int.mul_le_mul (by omega) (by omega) g (by omega)
      · have := Int.mul_nonpos_of_nonneg_of_nonpos h g; omega
    · rcases Int.le_total 0 y with g | g
      · have := Int.mul_nonpos_of_nonpos_of_nonneg h g; omega
      · have := Int.mul_le_mul (a := -x) (b := -y) (c := 2147483648) (d := 2147483648) (by omega) (by omega) (by omega) (by omega)
        rw [Int.neg_mul_neg] at this; exact this
  have h2 : -(x * y) ≤ 2147483648 * 2147483648 := by
    rcases Int.le_total 0 x with h | h
    · rcases Int.le_total 0 y with g | g
      · have := Int.mul_nonneg h g; omega
      · have := Int.mul_le_mul (a := x) (b := -y) (c := 2147483648) (d := 2147483648) (by omega) (by omega) (by omega) (by omega)
        rw [Int.mul_neg] at this; exact this
    · rcases Int.le_total 0 y with g | g
      · have := Int.mul_le_mul (a := -x) (b := y) (c := 2147483648) (d := 2147483648) (by omega) (by omega) (by omega) (by omega)
        rw [Int.neg_mul] at this; exact this
      · have := Int.mul_nonneg_of_nonpos_of_nonpos h g; omega
  omega
theorem wrap64_in {n : Int} (h : -9223372036854775808 ≤ n ∧ n ≤ 9223372036854775807) : wrap64 n = n := by unfold wrap64; omega
theorem sgn_range' {a : Int} (h : 0 ≤ a ∧ a < 4294967296) : -2147483648 ≤ sgn a ∧ sgn a ≤ 2147483647 := sgn_range h.1 h.2
set_option maxHeartbeats 400000 in
theorem highest_any (a b : Int) (w : World) (ha : 0 ≤ a ∧ a < 4294967296) (hb : 0 ≤ b ∧ b < 4294967296) :
    Calls Try.prog 66 #[.int .u32 a, .int .u32 b] w fun e w' => e = .returned (.int .u32 (threeZ 12 a b)) ∧ w = w' := by
  go_enter Try.func66, Try.ntmps66
  go_wp2
  go_ret
  refine ⟨ret_int ?_, rfl⟩
  have h1 := sgn_range' ha
  have h2 := sgn_range' hb
  have h3 := prod_range h1 h2
  rw [wrap32_sgn ha, wrap32_sgn hb, wrap64_in (n := sgn a) (by omega), wrap64_in (n := sgn b) (by omega), wrap64_in (by omega), threeZ_12]
set_option maxHeartbeats 400000 in
theorem divide_any (op a b : Int) (w : World) (ho : 13 ≤ op ∧ op ≤ 16) (ha : 0 ≤ a ∧ a < 4294967296) (hb : 0 ≤ b ∧ b < 4294967296) :
    Calls Try.prog 67 #[.int .i64 op, .int .u32 a, .int .u32 b] w fun e w' => e = .returned (.tuple #[.int .u32 (threeZ op a b), .bool (threeB op b)]) ∧ w = w' := by
  have ho' : op = 13 ∨ op = 14 ∨ op = 15 ∨ op = 16 := by omega
  by_cases h0 : b = 0
  · subst h0
    rcases ho' with rfl | rfl | rfl | rfl
    all_goals
      go_enter Try.func67, Try.ntmps67
      go_wp2
      go_ret2
      exact ⟨rfl, rfl⟩
  · have h1 : (b == 0) = false := by simpa using h0
    have h2 : (wrap32 b == 0) = false := by rw [wrap32_sgn hb]; simpa using sgn_zero hb h0
    have h3 : ¬ wrap32 b = 0 := by simpa using h2
    rcases ho' with rfl | rfl | rfl | rfl
    all_goals
      go_enter Try.func67, Try.ntmps67
      go_wp2
      go_ret2
      refine ⟨ret_wb (?_ : _ = threeZ _ _ _) (by simp [threeB, h0]), rfl⟩
      first
        | exact (threeZ_14 _ _ h0).symm
        | exact (threeZ_16 _ _ h0).symm
        | (rw [threeZ_13 _ _ h0, wrap32_sgn ha, wrap32_sgn hb]; unfold wrap32; omega)
        | (rw [threeZ_15 _ _ h0, wrap32_sgn ha, wrap32_sgn hb])

set_option maxHeartbeats 400000 in
theorem reckon_any (op a b : Int) (w : World) (ho : 1 ≤ op ∧ op ≤ 16) (ha : 0 ≤ a ∧ a < 4294967296) (hb : 0 ≤ b ∧ b < 4294967296) :
    Calls Try.prog 56 #[.int .i64 op, .int .u32 a, .int .u32 b] w fun e w' => e = .returned (.tuple #[.int .u32 (threeZ op a b), .bool (threeB op b)]) ∧ w = w' := by
  have h31 := and_31 b hb.1 hb.2
  have hs0 : 0 ≤ b % 32 := by omega
  have hs1 : b % 32 < 32 := by omega
  have ho' : op = 1 ∨ op = 2 ∨ op = 3 ∨ op = 4 ∨ op = 5 ∨ op = 6 ∨ op = 7 ∨ op = 8 ∨ op = 9 ∨ op = 10 ∨ op = 11 ∨ op = 12 ∨ 13 ≤ op := by omega
  rcases ho' with rfl | rfl | rfl | rfl | rfl | rfl | rfl | rfl | rfl | rfl | rfl | rfl | ho'
  case inr.inr.inr.inr.inr.inr.inr.inr.inr.inr.inr.inr =>
    have ho2 : op = 13 ∨ op = 14 ∨ op = 15 ∨ op = 16 := by omega
    rcases ho2 with rfl | rfl | rfl | rfl
    all_goals
      go_enter Try.func56, Try.ntmps56
      go_wp2_with (refine (divide_any _ _ _ _ (by omega) ha hb).mono ?_; rintro e w' ⟨rfl, rfl⟩)
      go_ret2
      exact ⟨rfl, rfl⟩
  all_goals
    go_enter Try.func56, Try.ntmps56
    go_wp2_with (first
      | (refine (int_any _ _ ha.1 ha.2).mono ?_; rintro e w' ⟨rfl, rfl⟩)
      | (refine (int_any _ _ hb.1 hb.2).mono ?_; rintro e w' ⟨rfl, rfl⟩)
      | (refine (oneIf_any _ _).mono ?_; rintro e w' ⟨rfl, rfl⟩)
      | (refine (highest_any _ _ _ ha hb).mono ?_; rintro e w' ⟨rfl, rfl⟩))
    all_goals
      go_ret2
      first
        | exact ⟨rfl, rfl⟩
        | exact ⟨ret_wb (by rw [threeZ_8, wrap32_sgn ha]) rfl, rfl⟩
        | exact ⟨ret_wb (by rw [threeZ_9]; split <;> first | rfl | (exfalso; simp at *; omega)) rfl, rfl⟩
        | exact ⟨ret_wb (by rw [threeZ_10]; split <;> first | rfl | (exfalso; simp at *; omega)) rfl, rfl⟩
end Go.Proofs.Ytdjllgdeijdieaa.Words

/- Contracts of alu.Do and of the document's own Do. No conditions but that a and b are words. -/
namespace Go.Proofs.Ytdjllgdeijdieaa.Words
set_option maxRecDepth 100000
open Go.RowKit

theorem quiet_mine {P : Program} {f : FuncId} {args : Array Value} {w : World} {n : Nat} {v : Value} (h : Calls P f args (w.drewN n) fun e w' => e = .returned v ∧ w.drewN n = w') :
    Calls P f args (w.drewN n) fun e w'' => e = .returned v ∧ ∃ m, w'' = w.drewN m := h.mono fun _ _ ⟨he, hm⟩ => ⟨he, n, hm.symm⟩

set_option maxHeartbeats 400000 in
theorem likeness_any (op : Int) (w : World) :
    Calls Try.prog 57 #[.int .i64 op] w fun e w' => e = .returned (.int .i64 (likeZ op)) ∧ w = w' := by
  go_enter Try.func57, Try.ntmps57
  go_wp2
  all_goals
    go_ret
    exact ⟨ret_int (by (try simp only [beq_iff_eq, beq_eq_false_iff_ne, ne_eq] at *); first | (subst op; rfl) | (unfold likeZ; simp [*])), rfl⟩

theorem likeZ_range {op : Int} (h : 17 ≤ op ∧ op ≤ 24) : 1 ≤ likeZ op ∧ likeZ op ≤ 12 := by
  unfold likeZ; repeat' split
  all_goals omega
theorem threeB_low {op b : Int} (h : op ≤ 12) : threeB op b = true := by simp [threeB, h]
theorem doZ_no {i : Ins} {a b : Int} (h : rightB i = false) : doZ i a b = 0 := by simp [doZ, h]
theorem doB_no {i : Ins} {b : Int} (h : rightB i = false) : doB i b = true := by simp [doB, h]
theorem doZ_1 {i : Ins} {a b : Int} (h : rightB i = true) (hf : formZ i.op = 1) : doZ i a b = threeZ i.op a b := by simp [doZ, h, hf]
theorem doB_1 {i : Ins} {b : Int} (h : rightB i = true) (hf : formZ i.op = 1) : doB i b = threeB i.op b := by simp [doB, h, hf]
theorem doZ_2 {i : Ins} {a b : Int} (h : rightB i = true) (hf : formZ i.op = 2) : doZ i a b = threeZ (likeZ i.op) a (i.imm % 4294967296) := by simp [doZ, h, hf]
theorem doB_n {i : Ins} {b : Int} (hf : formZ i.op ≠ 1) : doB i b = true := by simp [doB, hf]
theorem doZ_3 {i : Ins} {a b : Int} (h : rightB i = true) (hf : formZ i.op = 3) : doZ i a b = i.imm * 262144 % 4294967296 := by simp [doZ, h, hf]
theorem doZ_n {i : Ins} {a b : Int} (h1 : formZ i.op ≠ 1) (h2 : formZ i.op ≠ 2) (h3 : formZ i.op ≠ 3) : doZ i a b = 0 := by simp [doZ, h1, h2, h3]

set_option maxHeartbeats 1000000 in
theorem do_any (i : Ins) (a b : Int) (w : World) (ha : 0 ≤ a ∧ a < 4294967296) (hb : 0 ≤ b ∧ b < 4294967296) :
    Calls Try.prog 44 #[.agg #[.int .i64 i.op, .int .i64 i.d, .int .i64 i.a, .int .i64 i.b, .int .i64 i.imm], .int .u32 a, .int .u32 b] w fun e w' => e = .returned (.tuple #[.int .u32 (doZ i a b), .bool (doB i b)]) ∧ Below w.heap.size w w' := by
  go_enter Try.func44, Try.ntmps44
  go_wp2_with fail
  refine (right_any i _).mono ?_; rintro e w1 ⟨rfl, hb1⟩
  obtain ⟨hc1, hf1⟩ := bcell hb1
  have hz1 : w.heap.size < w1.heap.size := by have := hb1.size; simp at this; omega
  have hB1 : Below w.heap.size w w1 := ((Below.refl w.heap.size w).alloc (Nat.le_refl _) _).trans (hb1.mono (by simp))
  cases hr : rightB i
  · go_wp2_with fail
    go_ret2
    exact ⟨ret_wb (doZ_no hr).symm (doB_no hr).symm, hB1⟩
  · have hc := formZ_cases i.op
    go_wp2_with fail
    refine (form_any _ _).mono ?_; rintro e w2 ⟨rfl, rfl⟩
    by_cases h1 : formZ i.op = 1
    · have g1 := Lib.hid (doZ_1 (a := a) (b := b) hr h1)
      have g2 := Lib.hid (doB_1 (b := b) hr h1)
      rw [h1]
      go_wp2_with fail
      refine (reckon_any _ _ _ _ (by omega) ha hb).mono ?_; rintro e w2 ⟨rfl, rfl⟩
      go_wp2_with fail
      go_ret2
      exact ⟨ret_wb g1.out.symm g2.out.symm, hB1⟩
    by_cases h2 : formZ i.op = 2
    · have g1 := Lib.hid (doZ_2 (a := a) (b := b) hr h2)
      have g2 := Lib.hid (doB_n (b := b) h1)
      have hk := Lib.hid (likeZ_range (op := i.op) (by omega))
      have hk' := Lib.hid (threeB_low (b := i.imm % 4294967296) (Int.le_trans hk.out.2 (by omega)))
      rw [h2]
      have hk2 : 1 ≤ likeZ i.op ∧ likeZ i.op ≤ 16 := by have := hk.out; omega
      have hm : 0 ≤ i.imm % 4294967296 ∧ i.imm % 4294967296 < 4294967296 := by omega
      have HK2 := Lib.hid hk2
      have HM := Lib.hid hm
      clear hk2 hm
      go_wp2_with fail
      go_quiet (first
        | (go_at_call 57; refine quiet_mine (likeness_any _ _))
        | (go_at_call 58; refine quiet_mine (of_any _ _))
        | (go_at_call 56; refine quiet_mine (reckon_any _ _ _ _ HK2.out ha HM.out)))
      go_wp2_with fail
      go_ret2
      exact ⟨ret_wb g1.out.symm (hk'.out.trans g2.out.symm), Below.drewN_ hB1 _⟩
    by_cases h3 : formZ i.op = 3
    · have g1 := Lib.hid (doZ_3 (a := a) (b := b) hr h3)
      have g2 := Lib.hid (doB_n (b := b) h1)
      rw [h3]
      go_wp2_with fail
      refine (of_any _ _).mono ?_; rintro e w2 ⟨rfl, rfl⟩
      go_wp2_with fail
      go_ret2
      exact ⟨ret_wb (Eq.trans (by omega) g1.out.symm) g2.out.symm, hB1⟩
    · have g1 := Lib.hid (doZ_n (a := a) (b := b) h1 h2 h3)
      have g2 := Lib.hid (doB_n (b := b) h1)
      have k1 : (formZ i.op == 1) = false := by simpa using h1
      have k2 : (formZ i.op == 2) = false := by simpa using h2
      have k3 : (formZ i.op == 3) = false := by simpa using h3
      clear h1 h2 h3
      go_wp2_with fail
      go_ret2
      exact ⟨ret_wb g1.out.symm g2.out.symm, hB1⟩
end Go.Proofs.Ytdjllgdeijdieaa.Words

/- Contract of the document's own answer for Int. No conditions but that a word is from 0 to 2^32 - 1. -/
namespace Go.Proofs.Ytdjllgdeijdieaa.Words
set_option maxRecDepth 100000
open Go.RowKit

end Go.Proofs.Ytdjllgdeijdieaa.Words

/- Contract of the document's own Taken. -/
namespace Go.Proofs.Ytdjllgdeijdieaa.Words
set_option maxRecDepth 100000
open Go.RowKit
set_option linter.unusedVariables false

theorem takenB_34 (a b : Int) : takenB 34 a b = decide (a = b) := rfl
theorem takenB_35 (a b : Int) : takenB 35 a b = decide (a ≠ b) := rfl
theorem takenB_36 (a b : Int) : takenB 36 a b = decide (sgn a < sgn b) := rfl
theorem takenB_37 (a b : Int) : takenB 37 a b = decide (sgn b ≤ sgn a) := rfl
theorem takenB_38 (a b : Int) : takenB 38 a b = decide (a < b) := rfl
theorem takenB_39 (a b : Int) : takenB 39 a b = decide (b ≤ a) := rfl
theorem takenB_no {op a b : Int} (h : op < 34 ∨ 39 < op) : takenB op a b = false := by
  unfold takenB
  rw [if_neg (by omega), if_neg (by omega), if_neg (by omega), if_neg (by omega), if_neg (by omega), if_neg (by omega)]

end Go.Proofs.Ytdjllgdeijdieaa.Words

/- Contracts of alu.Taken, alu.Latency and of the document's own; of the law's helpers do, ins, alive. -/
namespace Go.Proofs.Ytdjllgdeijdieaa.Words
set_option maxRecDepth 100000
open Go.RowKit
set_option linter.unusedVariables false

set_option maxHeartbeats 400000 in
theorem taken_34 (a b : Int) (w : World) (ha : 0 ≤ a ∧ a < 4294967296) (hb : 0 ≤ b ∧ b < 4294967296) :
    Calls Try.prog 52 #[.int .i64 34, .int .u32 a, .int .u32 b] w fun e w' => e = .returned (.bool (takenB 34 a b)) ∧ w = w' := by
  rw [takenB_34]
  go_enter Try.func52, Try.ntmps52
  go_wp2_with fail
  go_ret
  exact ⟨ret_bool_iff (by simp), rfl⟩
set_option maxHeartbeats 400000 in
theorem taken_35 (a b : Int) (w : World) (ha : 0 ≤ a ∧ a < 4294967296) (hb : 0 ≤ b ∧ b < 4294967296) :
    Calls Try.prog 52 #[.int .i64 35, .int .u32 a, .int .u32 b] w fun e w' => e = .returned (.bool (takenB 35 a b)) ∧ w = w' := by
  rw [takenB_35]
  go_enter Try.func52, Try.ntmps52
  go_wp2_with fail
  go_ret
  exact ⟨ret_bool_iff (by simp), rfl⟩
set_option maxHeartbeats 400000 in
theorem taken_36 (a b : Int) (w : World) (ha : 0 ≤ a ∧ a < 4294967296) (hb : 0 ≤ b ∧ b < 4294967296) :
    Calls Try.prog 52 #[.int .i64 36, .int .u32 a, .int .u32 b] w fun e w' => e = .returned (.bool (takenB 36 a b)) ∧ w = w' := by
  rw [takenB_36]
  go_enter Try.func52, Try.ntmps52
  go_wp2_with fail
  refine (int_any _ _ ha.1 ha.2).mono ?_; rintro e w' ⟨rfl, rfl⟩
  go_wp2_with fail
  refine (int_any _ _ hb.1 hb.2).mono ?_; rintro e w' ⟨rfl, rfl⟩
  go_wp2_with fail
  go_ret
  exact ⟨ret_bool_iff (by simp), rfl⟩
set_option maxHeartbeats 400000 in
theorem taken_37 (a b : Int) (w : World) (ha : 0 ≤ a ∧ a < 4294967296) (hb : 0 ≤ b ∧ b < 4294967296) :
    Calls Try.prog 52 #[.int .i64 37, .int .u32 a, .int .u32 b] w fun e w' => e = .returned (.bool (takenB 37 a b)) ∧ w = w' := by
  rw [takenB_37]
  go_enter Try.func52, Try.ntmps52
  go_wp2_with fail
  refine (int_any _ _ ha.1 ha.2).mono ?_; rintro e w' ⟨rfl, rfl⟩
  go_wp2_with fail
  refine (int_any _ _ hb.1 hb.2).mono ?_; rintro e w' ⟨rfl, rfl⟩
  go_wp2_with fail
  go_ret
  exact ⟨ret_bool_iff (by simp), rfl⟩
set_option maxHeartbeats 400000 in
theorem taken_38 (a b : Int) (w : World) (ha : 0 ≤ a ∧ a < 4294967296) (hb : 0 ≤ b ∧ b < 4294967296) :
    Calls Try.prog 52 #[.int .i64 38, .int .u32 a, .int .u32 b] w fun e w' => e = .returned (.bool (takenB 38 a b)) ∧ w = w' := by
  rw [takenB_38]
  go_enter Try.func52, Try.ntmps52
  go_wp2_with fail
  go_ret
  exact ⟨ret_bool_iff (by simp), rfl⟩
set_option maxHeartbeats 400000 in
theorem taken_39 (a b : Int) (w : World) (ha : 0 ≤ a ∧ a < 4294967296) (hb : 0 ≤ b ∧ b < 4294967296) :
    Calls Try.prog 52 #[.int .i64 39, .int .u32 a, .int .u32 b] w fun e w' => e = .returned (.bool (takenB 39 a b)) ∧ w = w' := by
  rw [takenB_39]
  go_enter Try.func52, Try.ntmps52
  go_wp2_with fail
  go_ret
  exact ⟨ret_bool_iff (by simp), rfl⟩
set_option maxHeartbeats 400000 in
theorem taken_no (op a b : Int) (w : World) (ho : op < 34 ∨ 39 < op) :
    Calls Try.prog 52 #[.int .i64 op, .int .u32 a, .int .u32 b] w fun e w' => e = .returned (.bool false) ∧ w = w' := by
  have k1 : (op == 34) = false := by simp; omega
  have k2 : (op == 35) = false := by simp; omega
  have k3 : (op == 36) = false := by simp; omega
  have k4 : (op == 37) = false := by simp; omega
  have k5 : (op == 38) = false := by simp; omega
  have k6 : (op == 39) = false := by simp; omega
  clear ho
  go_enter Try.func52, Try.ntmps52
  go_wp2_with fail
  go_ret
  exact ⟨rfl, rfl⟩
theorem taken_any (op a b : Int) (w : World) (ha : 0 ≤ a ∧ a < 4294967296) (hb : 0 ≤ b ∧ b < 4294967296) :
    Calls Try.prog 52 #[.int .i64 op, .int .u32 a, .int .u32 b] w fun e w' => e = .returned (.bool (takenB op a b)) ∧ w = w' := by
  by_cases ho : op < 34 ∨ 39 < op
  · rw [takenB_no ho]; exact taken_no op a b w ho
  have ho' : op = 34 ∨ op = 35 ∨ op = 36 ∨ op = 37 ∨ op = 38 ∨ op = 39 := by omega
  rcases ho' with rfl | rfl | rfl | rfl | rfl | rfl
  · exact taken_34 a b w ha hb
  · exact taken_35 a b w ha hb
  · exact taken_36 a b w ha hb
  · exact taken_37 a b w ha hb
  · exact taken_38 a b w ha hb
  · exact taken_39 a b w ha hb
/-- A config's twelve numbers. -/
def cfgV (c0 c1 c2 c3 c4 c5 c6 c7 c8 c9 mul div : Int) : Value := .agg #[.int .i64 c0, .int .i64 c1, .int .i64 c2, .int .i64 c3, .int .i64 c4, .int .i64 c5, .int .i64 c6, .int .i64 c7, .int .i64 c8, .int .i64 c9, .int .i64 mul, .int .i64 div]
theorem latZ_mul {mul div op : Int} (h : op = 11 ∨ op = 12) : latZ mul div op = unitZ mul := by unfold latZ; rw [if_pos h]
theorem latZ_div {mul div op : Int} (h : 13 ≤ op ∧ op ≤ 16) : latZ mul div op = unitZ div := by unfold latZ; rw [if_neg (by omega), if_pos h]
theorem latZ_no {mul div op : Int} (h : op < 11 ∨ 16 < op) : latZ mul div op = 1 := by unfold latZ; rw [if_neg (by omega), if_neg (by omega)]
theorem unitZ_no {n : Int} (h : n < 1 ∨ 50 < n) : unitZ n = 1 := by unfold unitZ; rw [if_pos h]
theorem unitZ_yes {n : Int} (h : 1 ≤ n) (h' : n ≤ 50) : unitZ n = n := by unfold unitZ; rw [if_neg (by omega)]

end Go.Proofs.Ytdjllgdeijdieaa.Words

/- Contracts of package seq: reckon and branch. -/
namespace Go.Proofs.Ytdjllgdeijdieaa.Words
set_option maxRecDepth 100000
open Go.RowKit
set_option linter.unusedVariables false

set_option maxHeartbeats 1000000 in
theorem mReckon_ok (vc : Value) (r : Res) (vm vw : Value) (pc op imm : Int) (id ia ib b : Nat) (w : World) (hb : MBox w b (machL vc (resL r vm vw) pc)) (h16 : r.regs.length = 16) (fr : ∀ x ∈ r.regs, 0 ≤ x ∧ x ≤ 4294967295) (bd : id ≤ 15) (ba : ia ≤ 15) (bb : ib ≤ 15) (bi : -8192 ≤ imm ∧ imm ≤ 8191) (hp : -100000 ≤ pc ∧ pc ≤ 100000) (hd : doB ⟨op, (id : Int), (ia : Int), (ib : Int), imm⟩ (valZ r.regs ib) = true) :
    Calls Try.prog 36 #[.pointer (some ⟨b, 0, none⟩), .agg #[.int .i64 op, .int .i64 (id : Int), .int .i64 (ia : Int), .int .i64 (ib : Int), .int .i64 imm]] w fun e w' => e = .returned (.tuple #[]) ∧ MBox w' b (machL vc (resL (bumpZ { r with regs := setZ r.regs id (doZ ⟨op, (id : Int), (ia : Int), (ib : Int), imm⟩ (valZ r.regs ia) (valZ r.regs ib)) }) vm vw) (pc + 1)) ∧ w.grownBy w' (some b) := by
  obtain ⟨dz, hdz⟩ : ∃ x, x = doZ ⟨op, (id : Int), (ia : Int), (ib : Int), imm⟩ (valZ r.regs ia) (valZ r.regs ib) := ⟨_, rfl⟩
  rw [← hdz]
  have HDZ := Lib.hid hdz
  clear hdz
  have HD := Lib.hid hd
  clear hd
  have hlt := hb.lt
  have va0 := valZ_range fr ia
  have vb0 := valZ_range fr ib
  obtain ⟨va, hva⟩ : ∃ v, v = valZ r.regs ia := ⟨_, rfl⟩
  obtain ⟨vb, hvb⟩ : ∃ v, v = valZ r.regs ib := ⟨_, rfl⟩
  rw [← hva] at va0
  rw [← hvb] at vb0
  have HVA := Lib.hid hva
  have HVB := Lib.hid hvb
  have i0 : (w.alloc (.cells #[.int .i64 op, .int .i64 (id : Int), .int .i64 (ia : Int), .int .i64 (ib : Int), .int .i64 imm] 44)).cell? ⟨w.heap.size, 0, none⟩ = some (.int .i64 op) := by go_simp
  have i1 : (w.alloc (.cells #[.int .i64 op, .int .i64 (id : Int), .int .i64 (ia : Int), .int .i64 (ib : Int), .int .i64 imm] 44)).cell? ⟨w.heap.size, 1, none⟩ = some (.int .i64 (id : Int)) := by go_simp
  have i2 : (w.alloc (.cells #[.int .i64 op, .int .i64 (id : Int), .int .i64 (ia : Int), .int .i64 (ib : Int), .int .i64 imm] 44)).cell? ⟨w.heap.size, 2, none⟩ = some (.int .i64 (ia : Int)) := by go_simp
  have i3 : (w.alloc (.cells #[.int .i64 op, .int .i64 (id : Int), .int .i64 (ia : Int), .int .i64 (ib : Int), .int .i64 imm] 44)).cell? ⟨w.heap.size, 3, none⟩ = some (.int .i64 (ib : Int)) := by go_simp
  have i4 : (w.alloc (.cells #[.int .i64 op, .int .i64 (id : Int), .int .i64 (ia : Int), .int .i64 (ib : Int), .int .i64 imm] 44)).cell? ⟨w.heap.size, 4, none⟩ = some (.int .i64 imm) := by go_simp
  have hz0 : w.heap.size < (w.alloc (.cells #[.int .i64 op, .int .i64 (id : Int), .int .i64 (ia : Int), .int .i64 (ib : Int), .int .i64 imm] 44)).heap.size := by simp
  have HB0 := Lib.hid (hb.alloc (.cells #[.int .i64 op, .int .i64 (id : Int), .int .i64 (ia : Int), .int .i64 (ib : Int), .int .i64 imm] 44))
  have HG0 := Lib.hid (w.grownBy_alloc (.cells #[.int .i64 op, .int .i64 (id : Int), .int .i64 (ia : Int), .int .i64 (ib : Int), .int .i64 imm] 44) (some b))
  obtain ⟨bi0, bi1⟩ := bi
  obtain ⟨hp0, hp1⟩ := hp
  clear hva hvb hb fr
  go_enter Try.func36, Try.ntmps36
  go_wp2_with fail
  generalize hw0 : w.alloc (.cells #[.int .i64 op, .int .i64 (id : Int), .int .i64 (ia : Int), .int .i64 (ib : Int), .int .i64 imm] 44) = w0 at *
  clear hw0
  refine wp_region_lin [(0, true), (1, true), (2, true), (3, true), (5, true), (6, true), (7, true), (4, false), (8, false), (9, false), (10, true), (11, true), (12, true), (13, true), (14, true)]
    (by kernel_rfl) (by kernel_rfl) rfl (by kernel_rfl) (fun x => x.cell? ⟨w.heap.size, 0, none⟩ = some (.int .i64 op) ∧ x.cell? ⟨w.heap.size, 1, none⟩ = some (.int .i64 (id : Int)) ∧ x.cell? ⟨w.heap.size, 2, none⟩ = some (.int .i64 (ia : Int)) ∧ x.cell? ⟨w.heap.size, 3, none⟩ = some (.int .i64 (ib : Int)) ∧ x.cell? ⟨w.heap.size, 4, none⟩ = some (.int .i64 imm)) ?_
  simp only [List.map_cons, List.map_nil, List.getElem?_toArray, List.getElem?_cons_succ, List.getElem?_cons_zero]
  have hS : w0.drew.cell? ⟨w.heap.size, 0, none⟩ = some (.int .i64 op) ∧ w0.drew.cell? ⟨w.heap.size, 1, none⟩ = some (.int .i64 (id : Int)) ∧ w0.drew.cell? ⟨w.heap.size, 2, none⟩ = some (.int .i64 (ia : Int)) ∧ w0.drew.cell? ⟨w.heap.size, 3, none⟩ = some (.int .i64 (ib : Int)) ∧ w0.drew.cell? ⟨w.heap.size, 4, none⟩ = some (.int .i64 imm) := ⟨i0, i1, i2, i3, i4⟩
  iterate 7 (refine lin_take (v := ?_) hS (by rfl) ?_ ?_; rotate_left; (intro x hx; obtain ⟨x0, x1, x2, x3, x4⟩ := hx; go_simp; try (with_reducible rfl)); (simp only [Act.put, List.setIfInBounds_toArray, List.set_cons_zero, List.set_cons_succ]))
  refine lin_call hS (by rfl) (fun K hK => ?_)
  go_simp
  refine (mRead_any vc r vm vw pc b ia _ (HB0.out.drew) h16 ba).mono ?_
  rintro e w5 ⟨rfl, rfl⟩
  rw [← HVA.out]
  go_wp2_with fail
  refine hK.out _ _ hS (fun _ => ?_)
  clear hK K
  try simp only [Act.put, List.setIfInBounds_toArray, List.set_cons_zero, List.set_cons_succ]
  refine lin_call hS (by rfl) (fun K hK => ?_)
  go_simp
  refine (mRead_any vc r vm vw pc b ib _ (HB0.out.drew) h16 bb).mono ?_
  rintro e w5 ⟨rfl, rfl⟩
  rw [← HVB.out]
  go_wp2_with fail
  refine hK.out _ _ hS (fun _ => ?_)
  clear hK K
  try simp only [Act.put, List.setIfInBounds_toArray, List.set_cons_zero, List.set_cons_succ]
  refine lin_call hS (by rfl) (fun K hK => ?_)
  go_simp
  refine (do_any ⟨op, (id : Int), (ia : Int), (ib : Int), imm⟩ va vb _ (by omega) (by omega)).mono ?_
  rintro e w7 ⟨rfl, hb7⟩
  rw [show doB ⟨op, (id : Int), (ia : Int), (ib : Int), imm⟩ vb = true by rw [HVB.out]; exact HD.out]
  rw [show doZ ⟨op, (id : Int), (ia : Int), (ib : Int), imm⟩ va vb = dz by rw [HVA.out, HVB.out]; exact HDZ.out.symm]
  clear hS
  have hS : w7.cell? ⟨w.heap.size, 0, none⟩ = some (.int .i64 op) ∧ w7.cell? ⟨w.heap.size, 1, none⟩ = some (.int .i64 (id : Int)) ∧ w7.cell? ⟨w.heap.size, 2, none⟩ = some (.int .i64 (ia : Int)) ∧ w7.cell? ⟨w.heap.size, 3, none⟩ = some (.int .i64 (ib : Int)) ∧ w7.cell? ⟨w.heap.size, 4, none⟩ = some (.int .i64 imm) := ⟨below_cell hb7 hz0 i0, below_cell hb7 hz0 i1, below_cell hb7 hz0 i2, below_cell hb7 hz0 i3, below_cell hb7 hz0 i4⟩
  go_wp2_with fail
  refine hK.out _ _ hS (fun _ => ?_)
  clear hK K
  try simp only [Act.put, List.setIfInBounds_toArray, List.set_cons_zero, List.set_cons_succ]
  iterate 5 (refine lin_take (v := ?_) hS (by rfl) ?_ ?_; rotate_left; (intro x hx; obtain ⟨x0, x1, x2, x3, x4⟩ := hx; go_simp; try (with_reducible rfl)); (simp only [Act.put, List.setIfInBounds_toArray, List.set_cons_zero, List.set_cons_succ]))
  refine lin_done ?_
  have HB7 : Hid (MBox w7 b (machL vc (resL r vm vw) pc)) := HB0.out.drew.below hb7 HB0.out.lt
  have HG7 : Hid (w.grownBy w7 (some b)) := grown_trans HG0.out (grown_of_below (show Below w0.heap.size w0 w7 from ⟨hb7.os, hb7.tape, hb7.output, hb7.size, hb7.block⟩))
  obtain ⟨x0, x1, x2, x3, x4⟩ := hS
  clear i0 i1 i2 i3 i4 hb7
  go_wp2_with fail
  refine (mWrite_any vc r vm vw pc dz b id _ HB7.out h16 bd).mono ?_; rintro e w8 ⟨rfl, hb8, hg8⟩
  have hb8' := Lib.hid hb8
  have hg8' := Lib.hid (grown_trans HG7.out hg8)
  have S16 : (setZ r.regs id dz).length = 16 := by rw [setZ_len]; exact h16
  clear x0 x1 x2 x3 x4 hb8 hg8
  go_wp2_with fail
  refine (mPass_any vc { r with regs := setZ r.regs id dz } vm vw pc 1 b _ hb8'.out S16 (by omega) (by omega)).mono ?_; rintro e w9 ⟨rfl, hb9, hg9⟩
  have hb9' := Lib.hid hb9
  have hg9' := Lib.hid (grown_trans hg8'.out hg9)
  clear hb9 hg9
  go_wp2_with fail
  exact bodyPost_end (v := .tuple #[]) (by simp [results, Try.results36]) rfl ⟨rfl, hb9'.out, hg9'.out⟩

set_option maxHeartbeats 1000000 in
theorem mReckon_no (vc : Value) (r : Res) (vm vw : Value) (pc op imm : Int) (id ia ib b : Nat) (w : World) (hb : MBox w b (machL vc (resL r vm vw) pc)) (h16 : r.regs.length = 16) (fr : ∀ x ∈ r.regs, 0 ≤ x ∧ x ≤ 4294967295) (bd : id ≤ 15) (ba : ia ≤ 15) (bb : ib ≤ 15) (bi : -8192 ≤ imm ∧ imm ≤ 8191) (hp : -100000 ≤ pc ∧ pc ≤ 100000) (hd : doB ⟨op, (id : Int), (ia : Int), (ib : Int), imm⟩ (valZ r.regs ib) = false) :
    Calls Try.prog 36 #[.pointer (some ⟨b, 0, none⟩), .agg #[.int .i64 op, .int .i64 (id : Int), .int .i64 (ia : Int), .int .i64 (ib : Int), .int .i64 imm]] w fun e w' => e = .returned (.tuple #[]) ∧ MBox w' b (machL vc (resL (trapZ r 3 pc) vm vw) pc) ∧ w.grownBy w' (some b) := by
  obtain ⟨dz, hdz⟩ : ∃ x, x = doZ ⟨op, (id : Int), (ia : Int), (ib : Int), imm⟩ (valZ r.regs ia) (valZ r.regs ib) := ⟨_, rfl⟩
  skip
  have HDZ := Lib.hid hdz
  clear hdz
  have HD := Lib.hid hd
  clear hd
  have hlt := hb.lt
  have va0 := valZ_range fr ia
  have vb0 := valZ_range fr ib
  obtain ⟨va, hva⟩ : ∃ v, v = valZ r.regs ia := ⟨_, rfl⟩
  obtain ⟨vb, hvb⟩ : ∃ v, v = valZ r.regs ib := ⟨_, rfl⟩
  rw [← hva] at va0
  rw [← hvb] at vb0
  have HVA := Lib.hid hva
  have HVB := Lib.hid hvb
  have i0 : (w.alloc (.cells #[.int .i64 op, .int .i64 (id : Int), .int .i64 (ia : Int), .int .i64 (ib : Int), .int .i64 imm] 44)).cell? ⟨w.heap.size, 0, none⟩ = some (.int .i64 op) := by go_simp
  have i1 : (w.alloc (.cells #[.int .i64 op, .int .i64 (id : Int), .int .i64 (ia : Int), .int .i64 (ib : Int), .int .i64 imm] 44)).cell? ⟨w.heap.size, 1, none⟩ = some (.int .i64 (id : Int)) := by go_simp
  have i2 : (w.alloc (.cells #[.int .i64 op, .int .i64 (id : Int), .int .i64 (ia : Int), .int .i64 (ib : Int), .int .i64 imm] 44)).cell? ⟨w.heap.size, 2, none⟩ = some (.int .i64 (ia : Int)) := by go_simp
  have i3 : (w.alloc (.cells #[.int .i64 op, .int .i64 (id : Int), .int .i64 (ia : Int), .int .i64 (ib : Int), .int .i64 imm] 44)).cell? ⟨w.heap.size, 3, none⟩ = some (.int .i64 (ib : Int)) := by go_simp
  have i4 : (w.alloc (.cells #[.int .i64 op, .int .i64 (id : Int), .int .i64 (ia : Int), .int .i64 (ib : Int), .int .i64 imm] 44)).cell? ⟨w.heap.size, 4, none⟩ = some (.int .i64 imm) := by go_simp
  have hz0 : w.heap.size < (w.alloc (.cells #[.int .i64 op, .int .i64 (id : Int), .int .i64 (ia : Int), .int .i64 (ib : Int), .int .i64 imm] 44)).heap.size := by simp
  have HB0 := Lib.hid (hb.alloc (.cells #[.int .i64 op, .int .i64 (id : Int), .int .i64 (ia : Int), .int .i64 (ib : Int), .int .i64 imm] 44))
  have HG0 := Lib.hid (w.grownBy_alloc (.cells #[.int .i64 op, .int .i64 (id : Int), .int .i64 (ia : Int), .int .i64 (ib : Int), .int .i64 imm] 44) (some b))
  obtain ⟨bi0, bi1⟩ := bi
  obtain ⟨hp0, hp1⟩ := hp
  clear hva hvb hb fr
  go_enter Try.func36, Try.ntmps36
  go_wp2_with fail
  generalize hw0 : w.alloc (.cells #[.int .i64 op, .int .i64 (id : Int), .int .i64 (ia : Int), .int .i64 (ib : Int), .int .i64 imm] 44) = w0 at *
  clear hw0
  refine wp_region_lin [(0, true), (1, true), (2, true), (3, true), (5, true), (6, true), (7, true), (4, false), (8, false), (9, false), (10, true), (11, true), (12, true), (13, true), (14, true)]
    (by kernel_rfl) (by kernel_rfl) rfl (by kernel_rfl) (fun x => x.cell? ⟨w.heap.size, 0, none⟩ = some (.int .i64 op) ∧ x.cell? ⟨w.heap.size, 1, none⟩ = some (.int .i64 (id : Int)) ∧ x.cell? ⟨w.heap.size, 2, none⟩ = some (.int .i64 (ia : Int)) ∧ x.cell? ⟨w.heap.size, 3, none⟩ = some (.int .i64 (ib : Int)) ∧ x.cell? ⟨w.heap.size, 4, none⟩ = some (.int .i64 imm)) ?_
  simp only [List.map_cons, List.map_nil, List.getElem?_toArray, List.getElem?_cons_succ, List.getElem?_cons_zero]
  have hS : w0.drew.cell? ⟨w.heap.size, 0, none⟩ = some (.int .i64 op) ∧ w0.drew.cell? ⟨w.heap.size, 1, none⟩ = some (.int .i64 (id : Int)) ∧ w0.drew.cell? ⟨w.heap.size, 2, none⟩ = some (.int .i64 (ia : Int)) ∧ w0.drew.cell? ⟨w.heap.size, 3, none⟩ = some (.int .i64 (ib : Int)) ∧ w0.drew.cell? ⟨w.heap.size, 4, none⟩ = some (.int .i64 imm) := ⟨i0, i1, i2, i3, i4⟩
  iterate 7 (refine lin_take (v := ?_) hS (by rfl) ?_ ?_; rotate_left; (intro x hx; obtain ⟨x0, x1, x2, x3, x4⟩ := hx; go_simp; try (with_reducible rfl)); (simp only [Act.put, List.setIfInBounds_toArray, List.set_cons_zero, List.set_cons_succ]))
  refine lin_call hS (by rfl) (fun K hK => ?_)
  go_simp
  refine (mRead_any vc r vm vw pc b ia _ (HB0.out.drew) h16 ba).mono ?_
  rintro e w5 ⟨rfl, rfl⟩
  rw [← HVA.out]
  go_wp2_with fail
  refine hK.out _ _ hS (fun _ => ?_)
  clear hK K
  try simp only [Act.put, List.setIfInBounds_toArray, List.set_cons_zero, List.set_cons_succ]
  refine lin_call hS (by rfl) (fun K hK => ?_)
  go_simp
  refine (mRead_any vc r vm vw pc b ib _ (HB0.out.drew) h16 bb).mono ?_
  rintro e w5 ⟨rfl, rfl⟩
  rw [← HVB.out]
  go_wp2_with fail
  refine hK.out _ _ hS (fun _ => ?_)
  clear hK K
  try simp only [Act.put, List.setIfInBounds_toArray, List.set_cons_zero, List.set_cons_succ]
  refine lin_call hS (by rfl) (fun K hK => ?_)
  go_simp
  refine (do_any ⟨op, (id : Int), (ia : Int), (ib : Int), imm⟩ va vb _ (by omega) (by omega)).mono ?_
  rintro e w7 ⟨rfl, hb7⟩
  rw [show doB ⟨op, (id : Int), (ia : Int), (ib : Int), imm⟩ vb = false by rw [HVB.out]; exact HD.out]
  generalize doZ (⟨op, (id : Int), (ia : Int), (ib : Int), imm⟩ : Ins) va vb = dq
  clear hS
  have hS : w7.cell? ⟨w.heap.size, 0, none⟩ = some (.int .i64 op) ∧ w7.cell? ⟨w.heap.size, 1, none⟩ = some (.int .i64 (id : Int)) ∧ w7.cell? ⟨w.heap.size, 2, none⟩ = some (.int .i64 (ia : Int)) ∧ w7.cell? ⟨w.heap.size, 3, none⟩ = some (.int .i64 (ib : Int)) ∧ w7.cell? ⟨w.heap.size, 4, none⟩ = some (.int .i64 imm) := ⟨below_cell hb7 hz0 i0, below_cell hb7 hz0 i1, below_cell hb7 hz0 i2, below_cell hb7 hz0 i3, below_cell hb7 hz0 i4⟩
  go_wp2_with fail
  refine hK.out _ _ hS (fun _ => ?_)
  clear hK K
  try simp only [Act.put, List.setIfInBounds_toArray, List.set_cons_zero, List.set_cons_succ]
  iterate 5 (refine lin_take (v := ?_) hS (by rfl) ?_ ?_; rotate_left; (intro x hx; obtain ⟨x0, x1, x2, x3, x4⟩ := hx; go_simp; try (with_reducible rfl)); (simp only [Act.put, List.setIfInBounds_toArray, List.set_cons_zero, List.set_cons_succ]))
  refine lin_done ?_
  have HB7 : Hid (MBox w7 b (machL vc (resL r vm vw) pc)) := HB0.out.drew.below hb7 HB0.out.lt
  have HG7 : Hid (w.grownBy w7 (some b)) := grown_trans HG0.out (grown_of_below (show Below w0.heap.size w0 w7 from ⟨hb7.os, hb7.tape, hb7.output, hb7.size, hb7.block⟩))
  obtain ⟨x0, x1, x2, x3, x4⟩ := hS
  clear i0 i1 i2 i3 i4 hb7
  go_wp2_with fail
  refine (mTrap_any vc r vm vw pc 3 b _ HB7.out h16).mono ?_; rintro e w8 ⟨rfl, hb8, hg8⟩
  have hb8' := Lib.hid hb8
  have hg8' := Lib.hid (grown_trans HG7.out hg8)
  clear hb8 hg8
  go_wp2_with fail
  exact bodyPost_ret (v := .tuple #[]) (by simp [results, Try.results36]) rfl ⟨rfl, hb8'.out, hg8'.out⟩

set_option maxHeartbeats 1000000 in
theorem mBranch_ok (vc : Value) (r : Res) (vm vw : Value) (pc op imm : Int) (id ia ib b : Nat) (w : World) (hb : MBox w b (machL vc (resL r vm vw) pc)) (h16 : r.regs.length = 16) (fr : ∀ x ∈ r.regs, 0 ≤ x ∧ x ≤ 4294967295) (bd : id ≤ 15) (ba : ia ≤ 15) (bb : ib ≤ 15) (bi : -8192 ≤ imm ∧ imm ≤ 8191) (hp : -100000 ≤ pc ∧ pc ≤ 100000) (hd : takenB op (valZ r.regs ia) (valZ r.regs ib) = true) :
    Calls Try.prog 39 #[.pointer (some ⟨b, 0, none⟩), .agg #[.int .i64 op, .int .i64 (id : Int), .int .i64 (ia : Int), .int .i64 (ib : Int), .int .i64 imm]] w fun e w' => e = .returned (.tuple #[]) ∧ MBox w' b (machL vc (resL (bumpZ r) vm vw) (pc + imm)) ∧ w.grownBy w' (some b) := by
  have HD := Lib.hid hd
  clear hd
  have hlt := hb.lt
  have va0 := valZ_range fr ia
  have vb0 := valZ_range fr ib
  obtain ⟨va, hva⟩ : ∃ v, v = valZ r.regs ia := ⟨_, rfl⟩
  obtain ⟨vb, hvb⟩ : ∃ v, v = valZ r.regs ib := ⟨_, rfl⟩
  rw [← hva] at va0
  rw [← hvb] at vb0
  have HVA := Lib.hid hva
  have HVB := Lib.hid hvb
  have i0 : (w.alloc (.cells #[.int .i64 op, .int .i64 (id : Int), .int .i64 (ia : Int), .int .i64 (ib : Int), .int .i64 imm] 44)).cell? ⟨w.heap.size, 0, none⟩ = some (.int .i64 op) := by go_simp
  have i1 : (w.alloc (.cells #[.int .i64 op, .int .i64 (id : Int), .int .i64 (ia : Int), .int .i64 (ib : Int), .int .i64 imm] 44)).cell? ⟨w.heap.size, 1, none⟩ = some (.int .i64 (id : Int)) := by go_simp
  have i2 : (w.alloc (.cells #[.int .i64 op, .int .i64 (id : Int), .int .i64 (ia : Int), .int .i64 (ib : Int), .int .i64 imm] 44)).cell? ⟨w.heap.size, 2, none⟩ = some (.int .i64 (ia : Int)) := by go_simp
  have i3 : (w.alloc (.cells #[.int .i64 op, .int .i64 (id : Int), .int .i64 (ia : Int), .int .i64 (ib : Int), .int .i64 imm] 44)).cell? ⟨w.heap.size, 3, none⟩ = some (.int .i64 (ib : Int)) := by go_simp
  have i4 : (w.alloc (.cells #[.int .i64 op, .int .i64 (id : Int), .int .i64 (ia : Int), .int .i64 (ib : Int), .int .i64 imm] 44)).cell? ⟨w.heap.size, 4, none⟩ = some (.int .i64 imm) := by go_simp
  have hz0 : w.heap.size < (w.alloc (.cells #[.int .i64 op, .int .i64 (id : Int), .int .i64 (ia : Int), .int .i64 (ib : Int), .int .i64 imm] 44)).heap.size := by simp
  have HB0 := Lib.hid (hb.alloc (.cells #[.int .i64 op, .int .i64 (id : Int), .int .i64 (ia : Int), .int .i64 (ib : Int), .int .i64 imm] 44))
  have HG0 := Lib.hid (w.grownBy_alloc (.cells #[.int .i64 op, .int .i64 (id : Int), .int .i64 (ia : Int), .int .i64 (ib : Int), .int .i64 imm] 44) (some b))
  obtain ⟨bi0, bi1⟩ := bi
  obtain ⟨hp0, hp1⟩ := hp
  clear hva hvb hb fr
  go_enter Try.func39, Try.ntmps39
  go_wp2_with fail
  generalize hw0 : w.alloc (.cells #[.int .i64 op, .int .i64 (id : Int), .int .i64 (ia : Int), .int .i64 (ib : Int), .int .i64 imm] 44) = w0 at *
  clear hw0
  refine wp_region_lin [(0, true), (1, true), (2, true), (3, true), (4, true), (6, true), (7, true), (8, true), (5, false), (9, false), (10, false)]
    (by kernel_rfl) (by kernel_rfl) rfl (by kernel_rfl) (fun x => x.cell? ⟨w.heap.size, 0, none⟩ = some (.int .i64 op) ∧ x.cell? ⟨w.heap.size, 1, none⟩ = some (.int .i64 (id : Int)) ∧ x.cell? ⟨w.heap.size, 2, none⟩ = some (.int .i64 (ia : Int)) ∧ x.cell? ⟨w.heap.size, 3, none⟩ = some (.int .i64 (ib : Int)) ∧ x.cell? ⟨w.heap.size, 4, none⟩ = some (.int .i64 imm)) ?_
  simp only [List.map_cons, List.map_nil, List.getElem?_toArray, List.getElem?_cons_succ, List.getElem?_cons_zero]
  have hS : w0.drew.cell? ⟨w.heap.size, 0, none⟩ = some (.int .i64 op) ∧ w0.drew.cell? ⟨w.heap.size, 1, none⟩ = some (.int .i64 (id : Int)) ∧ w0.drew.cell? ⟨w.heap.size, 2, none⟩ = some (.int .i64 (ia : Int)) ∧ w0.drew.cell? ⟨w.heap.size, 3, none⟩ = some (.int .i64 (ib : Int)) ∧ w0.drew.cell? ⟨w.heap.size, 4, none⟩ = some (.int .i64 imm) := ⟨i0, i1, i2, i3, i4⟩
  iterate 8 (refine lin_take (v := ?_) hS (by rfl) ?_ ?_; rotate_left; (intro x hx; obtain ⟨x0, x1, x2, x3, x4⟩ := hx; go_simp; try (with_reducible rfl)); (simp only [Act.put, List.setIfInBounds_toArray, List.set_cons_zero, List.set_cons_succ]))
  refine lin_call hS (by rfl) (fun K hK => ?_)
  go_simp
  refine (mRead_any vc r vm vw pc b ia _ (HB0.out.drew) h16 ba).mono ?_
  rintro e w5 ⟨rfl, rfl⟩
  rw [← HVA.out]
  go_wp2_with fail
  refine hK.out _ _ hS (fun _ => ?_)
  clear hK K
  try simp only [Act.put, List.setIfInBounds_toArray, List.set_cons_zero, List.set_cons_succ]
  refine lin_call hS (by rfl) (fun K hK => ?_)
  go_simp
  refine (mRead_any vc r vm vw pc b ib _ (HB0.out.drew) h16 bb).mono ?_
  rintro e w5 ⟨rfl, rfl⟩
  rw [← HVB.out]
  go_wp2_with fail
  refine hK.out _ _ hS (fun _ => ?_)
  clear hK K
  try simp only [Act.put, List.setIfInBounds_toArray, List.set_cons_zero, List.set_cons_succ]
  refine lin_call hS (by rfl) (fun K hK => ?_)
  go_simp
  refine (taken_any op va vb _ (by omega) (by omega)).mono ?_
  rintro e w5 ⟨rfl, rfl⟩
  rw [show takenB op va vb = true by rw [HVA.out, HVB.out]; exact HD.out]
  go_wp2_with fail
  refine hK.out _ _ hS (fun _ => ?_)
  clear hK K
  try simp only [Act.put, List.setIfInBounds_toArray, List.set_cons_zero, List.set_cons_succ]
  refine lin_done ?_
  have HB7 : Hid (MBox w0.drew b (machL vc (resL r vm vw) pc)) := HB0.out.drew
  have HG7 : Hid (w.grownBy w0.drew (some b)) := grown_drew HG0.out
  obtain ⟨x0, x1, x2, x3, x4⟩ := hS
  clear i0 i1 i2 i3 i4
  go_wp2_with fail
  refine (mPass_any vc r vm vw pc imm b _ HB7.out h16 (by omega) (by omega)).mono ?_; rintro e w9 ⟨rfl, hb9, hg9⟩
  have hb9' := Lib.hid hb9
  have hg9' := Lib.hid (grown_trans HG7.out hg9)
  clear hb9 hg9
  go_wp2_with fail
  exact bodyPost_ret (v := .tuple #[]) (by simp [results, Try.results39]) rfl ⟨rfl, hb9'.out, hg9'.out⟩

set_option maxHeartbeats 1000000 in
theorem mBranch_no (vc : Value) (r : Res) (vm vw : Value) (pc op imm : Int) (id ia ib b : Nat) (w : World) (hb : MBox w b (machL vc (resL r vm vw) pc)) (h16 : r.regs.length = 16) (fr : ∀ x ∈ r.regs, 0 ≤ x ∧ x ≤ 4294967295) (bd : id ≤ 15) (ba : ia ≤ 15) (bb : ib ≤ 15) (bi : -8192 ≤ imm ∧ imm ≤ 8191) (hp : -100000 ≤ pc ∧ pc ≤ 100000) (hd : takenB op (valZ r.regs ia) (valZ r.regs ib) = false) :
    Calls Try.prog 39 #[.pointer (some ⟨b, 0, none⟩), .agg #[.int .i64 op, .int .i64 (id : Int), .int .i64 (ia : Int), .int .i64 (ib : Int), .int .i64 imm]] w fun e w' => e = .returned (.tuple #[]) ∧ MBox w' b (machL vc (resL (bumpZ r) vm vw) (pc + 1)) ∧ w.grownBy w' (some b) := by
  have HD := Lib.hid hd
  clear hd
  have hlt := hb.lt
  have va0 := valZ_range fr ia
  have vb0 := valZ_range fr ib
  obtain ⟨va, hva⟩ : ∃ v, v = valZ r.regs ia := ⟨_, rfl⟩
  obtain ⟨vb, hvb⟩ : ∃ v, v = valZ r.regs ib := ⟨_, rfl⟩
  rw [← hva] at va0
  rw [← hvb] at vb0
  have HVA := Lib.hid hva
  have HVB := Lib.hid hvb
  have i0 : (w.alloc (.cells #[.int .i64 op, .int .i64 (id : Int), .int .i64 (ia : Int), .int .i64 (ib : Int), .int .i64 imm] 44)).cell? ⟨w.heap.size, 0, none⟩ = some (.int .i64 op) := by go_simp
  have i1 : (w.alloc (.cells #[.int .i64 op, .int .i64 (id : Int), .int .i64 (ia : Int), .int .i64 (ib : Int), .int .i64 imm] 44)).cell? ⟨w.heap.size, 1, none⟩ = some (.int .i64 (id : Int)) := by go_simp
  have i2 : (w.alloc (.cells #[.int .i64 op, .int .i64 (id : Int), .int .i64 (ia : Int), .int .i64 (ib : Int), .int .i64 imm] 44)).cell? ⟨w.heap.size, 2, none⟩ = some (.int .i64 (ia : Int)) := by go_simp
  have i3 : (w.alloc (.cells #[.int .i64 op, .int .i64 (id : Int), .int .i64 (ia : Int), .int .i64 (ib : Int), .int .i64 imm] 44)).cell? ⟨w.heap.size, 3, none⟩ = some (.int .i64 (ib : Int)) := by go_simp
  have i4 : (w.alloc (.cells #[.int .i64 op, .int .i64 (id : Int), .int .i64 (ia : Int), .int .i64 (ib : Int), .int .i64 imm] 44)).cell? ⟨w.heap.size, 4, none⟩ = some (.int .i64 imm) := by go_simp
  have hz0 : w.heap.size < (w.alloc (.cells #[.int .i64 op, .int .i64 (id : Int), .int .i64 (ia : Int), .int .i64 (ib : Int), .int .i64 imm] 44)).heap.size := by simp
  have HB0 := Lib.hid (hb.alloc (.cells #[.int .i64 op, .int .i64 (id : Int), .int .i64 (ia : Int), .int .i64 (ib : Int), .int .i64 imm] 44))
  have HG0 := Lib.hid (w.grownBy_alloc (.cells #[.int .i64 op, .int .i64 (id : Int), .int .i64 (ia : Int), .int .i64 (ib : Int), .int .i64 imm] 44) (some b))
  obtain ⟨bi0, bi1⟩ := bi
  obtain ⟨hp0, hp1⟩ := hp
  clear hva hvb hb fr
  go_enter Try.func39, Try.ntmps39
  go_wp2_with fail
  generalize hw0 : w.alloc (.cells #[.int .i64 op, .int .i64 (id : Int), .int .i64 (ia : Int), .int .i64 (ib : Int), .int .i64 imm] 44) = w0 at *
  clear hw0
  refine wp_region_lin [(0, true), (1, true), (2, true), (3, true), (4, true), (6, true), (7, true), (8, true), (5, false), (9, false), (10, false)]
    (by kernel_rfl) (by kernel_rfl) rfl (by kernel_rfl) (fun x => x.cell? ⟨w.heap.size, 0, none⟩ = some (.int .i64 op) ∧ x.cell? ⟨w.heap.size, 1, none⟩ = some (.int .i64 (id : Int)) ∧ x.cell? ⟨w.heap.size, 2, none⟩ = some (.int .i64 (ia : Int)) ∧ x.cell? ⟨w.heap.size, 3, none⟩ = some (.int .i64 (ib : Int)) ∧ x.cell? ⟨w.heap.size, 4, none⟩ = some (.int .i64 imm)) ?_
  simp only [List.map_cons, List.map_nil, List.getElem?_toArray, List.getElem?_cons_succ, List.getElem?_cons_zero]
  have hS : w0.drew.cell? ⟨w.heap.size, 0, none⟩ = some (.int .i64 op) ∧ w0.drew.cell? ⟨w.heap.size, 1, none⟩ = some (.int .i64 (id : Int)) ∧ w0.drew.cell? ⟨w.heap.size, 2, none⟩ = some (.int .i64 (ia : Int)) ∧ w0.drew.cell? ⟨w.heap.size, 3, none⟩ = some (.int .i64 (ib : Int)) ∧ w0.drew.cell? ⟨w.heap.size, 4, none⟩ = some (.int .i64 imm) := ⟨i0, i1, i2, i3, i4⟩
  iterate 8 (refine lin_take (v := ?_) hS (by rfl) ?_ ?_; rotate_left; (intro x hx; obtain ⟨x0, x1, x2, x3, x4⟩ := hx; go_simp; try (with_reducible rfl)); (simp only [Act.put, List.setIfInBounds_toArray, List.set_cons_zero, List.set_cons_succ]))
  refine lin_call hS (by rfl) (fun K hK => ?_)
  go_simp
  refine (mRead_any vc r vm vw pc b ia _ (HB0.out.drew) h16 ba).mono ?_
  rintro e w5 ⟨rfl, rfl⟩
  rw [← HVA.out]
  go_wp2_with fail
  refine hK.out _ _ hS (fun _ => ?_)
  clear hK K
  try simp only [Act.put, List.setIfInBounds_toArray, List.set_cons_zero, List.set_cons_succ]
  refine lin_call hS (by rfl) (fun K hK => ?_)
  go_simp
  refine (mRead_any vc r vm vw pc b ib _ (HB0.out.drew) h16 bb).mono ?_
  rintro e w5 ⟨rfl, rfl⟩
  rw [← HVB.out]
  go_wp2_with fail
  refine hK.out _ _ hS (fun _ => ?_)
  clear hK K
  try simp only [Act.put, List.setIfInBounds_toArray, List.set_cons_zero, List.set_cons_succ]
  refine lin_call hS (by rfl) (fun K hK => ?_)
  go_simp
  refine (taken_any op va vb _ (by omega) (by omega)).mono ?_
  rintro e w5 ⟨rfl, rfl⟩
  rw [show takenB op va vb = false by rw [HVA.out, HVB.out]; exact HD.out]
  go_wp2_with fail
  refine hK.out _ _ hS (fun _ => ?_)
  clear hK K
  try simp only [Act.put, List.setIfInBounds_toArray, List.set_cons_zero, List.set_cons_succ]
  refine lin_done ?_
  have HB7 : Hid (MBox w0.drew b (machL vc (resL r vm vw) pc)) := HB0.out.drew
  have HG7 : Hid (w.grownBy w0.drew (some b)) := grown_drew HG0.out
  obtain ⟨x0, x1, x2, x3, x4⟩ := hS
  clear i0 i1 i2 i3 i4
  go_wp2_with fail
  refine (mPass_any vc r vm vw pc 1 b _ HB7.out h16 (by omega) (by omega)).mono ?_; rintro e w9 ⟨rfl, hb9, hg9⟩
  have hb9' := Lib.hid hb9
  have hg9' := Lib.hid (grown_trans HG7.out hg9)
  clear hb9 hg9
  go_wp2_with fail
  exact bodyPost_end (v := .tuple #[]) (by simp [results, Try.results39]) rfl ⟨rfl, hb9'.out, hg9'.out⟩
end Go.Proofs.Ytdjllgdeijdieaa.Words

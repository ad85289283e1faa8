/- Contracts of package image: numbers, Targets, Right. -/
import Derived.Test.YtehelfmpcbejeaaRefRight
namespace Go.Proofs.Ytehelfmpcbejeaa.Words
set_option maxRecDepth 100000
open Go.RowKit
set_option linter.unusedVariables false

set_option maxHeartbeats 400000 in
theorem numbersOf_any (A A' : Option Addr) (n c m c' : Nat) (sz : Int) (w : World) (hn : n ≤ 9223372036854775807) (hm : m ≤ 9223372036854775807) :
    Calls Try.prog 33 #[.agg #[.slice A n c, .int .i64 sz, .slice A' m c']] w fun e w' => e = .returned (.agg #[.int .i64 n, .int .i64 sz, .int .i64 m]) ∧ Below w.heap.size w w' := by
  go_enter Try.func33, Try.ntmps33
  go_wp2_with fail
  refine bodyPost_ret (v := .agg #[.int .i64 n, .int .i64 sz, .int .i64 m]) (by simp [results, Try.results33, go_sem]; done) rfl ⟨rfl, ?_⟩
  exact ((Below.refl w.heap.size w).alloc (Nat.le_refl _) _).alloc (by simp) _

/-- The numbers that may be. -/
def fitN (n sz m : Int) : Bool := decide (1 ≤ n ∧ n ≤ 2000 ∧ 0 ≤ sz ∧ sz ≤ 65536 ∧ 0 ≤ m ∧ m ≤ sz)
theorem fitN_no {n sz m : Int} (h : ¬ (1 ≤ n ∧ n ≤ 2000 ∧ 0 ≤ sz ∧ sz ≤ 65536 ∧ 0 ≤ m ∧ m ≤ sz)) : fitN n sz m = false := decide_eq_false h
theorem fitN_yes {n sz m : Int} (h : 1 ≤ n ∧ n ≤ 2000 ∧ 0 ≤ sz ∧ sz ≤ 65536 ∧ 0 ≤ m ∧ m ≤ sz) : fitN n sz m = true := decide_eq_true h
set_option maxHeartbeats 2000000 in
theorem fit_any (n sz m : Int) (w : World) :
    Calls Try.prog 34 #[.agg #[.int .i64 n, .int .i64 sz, .int .i64 m]] w fun e w' => e = .returned (.bool (fitN n sz m)) ∧ Below w.heap.size w w' := by
  by_cases h1 : n < 1
  · rw [fitN_no (by omega)]
    go_enter Try.func34, Try.ntmps34
    go_wp2_with fail
    go_ret
    exact ⟨rfl, (Below.refl _ _).alloc (Nat.le_refl _) _⟩
  by_cases h2 : 2000 < n
  · rw [fitN_no (by omega)]
    go_enter Try.func34, Try.ntmps34
    go_wp2_with fail
    go_ret
    exact ⟨rfl, (Below.refl _ _).alloc (Nat.le_refl _) _⟩
  by_cases h3 : sz < 0
  · rw [fitN_no (by omega)]
    go_enter Try.func34, Try.ntmps34
    go_wp2_with fail
    go_ret
    exact ⟨rfl, (Below.refl _ _).alloc (Nat.le_refl _) _⟩
  by_cases h4 : 65536 < sz
  · rw [fitN_no (by omega)]
    go_enter Try.func34, Try.ntmps34
    go_wp2_with fail
    go_ret
    exact ⟨rfl, (Below.refl _ _).alloc (Nat.le_refl _) _⟩
  by_cases h5 : m < 0
  · rw [fitN_no (by omega)]
    go_enter Try.func34, Try.ntmps34
    go_wp2_with fail
    go_ret
    exact ⟨rfl, (Below.refl _ _).alloc (Nat.le_refl _) _⟩
  by_cases h6 : sz < m
  · rw [fitN_no (by omega)]
    go_enter Try.func34, Try.ntmps34
    go_wp2_with fail
    go_ret
    exact ⟨ret_bool (by simp; try omega), (Below.refl _ _).alloc (Nat.le_refl _) _⟩
  · rw [fitN_yes (by omega)]
    go_enter Try.func34, Try.ntmps34
    go_wp2_with fail
    go_ret
    exact ⟨ret_bool (by simp; try omega), (Below.refl _ _).alloc (Nat.le_refl _) _⟩

set_option maxHeartbeats 400000 in
theorem hasTarget_any (i : Ins) (w : World) :
    Calls Try.prog 42 #[.int .i64 i.op] w fun e w' => e = .returned (.bool (isJump i)) ∧ w = w' := by
  have hF := formZ_range i.op
  have HJ := Lib.hid (isJump_form i)
  go_enter Try.func42, Try.ntmps42
  go_wp2_with fail
  refine (form_any _ _).mono ?_; rintro e w1 ⟨rfl, rfl⟩
  by_cases h6 : formZ i.op = 6
  · have hj := Lib.hid (HJ.out.2 (.inl h6))
    rw [h6]
    go_wp2_with fail
    go_ret
    exact ⟨ret_bool hj.out.symm, rfl⟩
  by_cases h7 : formZ i.op = 7
  · have hj := Lib.hid (HJ.out.2 (.inr h7))
    rw [h7]
    go_wp2_with fail
    go_ret
    exact ⟨ret_bool hj.out.symm, rfl⟩
  · have hj : isJump i = false := by
      cases hh : isJump i
      · rfl
      · rcases HJ.out.1 hh with h | h <;> omega
    have hj := Lib.hid hj
    clear HJ
    go_wp2_with fail
    go_ret
    exact ⟨ret_bool (by rw [hj.out]; simp; omega), rfl⟩

/-- Is a target in the code? -/
theorem badTarget_eq {n k : Nat} {i : Ins} (hk : k < n) (hn : n ≤ 8192) : badTarget n k i = (isJump i && !decide (-(k : Int) ≤ i.imm ∧ i.imm < n - k)) := by
  unfold badTarget
  cases hj : isJump i
  · rfl
  · simp only [Bool.true_and]
    by_cases h : -(k : Int) ≤ i.imm ∧ i.imm < n - k
    · rw [targetZ_yes hj (by omega) (by omega) (by omega) (by omega), decide_eq_true h]; simp; omega
    · rw [targetZ_no (by omega), decide_eq_false h]; rfl
set_option maxHeartbeats 400000 in
theorem within_any (n k : Nat) (imm : Int) (w : World) (hk : k < n) (hn : n ≤ 8192) :
    Calls Try.prog 43 #[.int .i64 k, .int .i64 imm, .int .i64 n] w fun e w' => e = .returned (.bool (decide (-(k : Int) ≤ imm ∧ imm < n - k))) ∧ w = w' := by
  by_cases h1 : -(k : Int) ≤ imm
  · by_cases h2 : imm < n - k
    · have hr : decide (-(k : Int) ≤ imm ∧ imm < n - k) = true := decide_eq_true ⟨h1, h2⟩
      rw [hr]
      clear hr
      go_enter Try.func43, Try.ntmps43
      go_wp2_with fail
      go_ret
      exact ⟨rfl, rfl⟩
    · have hr : decide (-(k : Int) ≤ imm ∧ imm < n - k) = false := decide_eq_false (fun h => h2 h.2)
      rw [hr]
      clear hr
      go_enter Try.func43, Try.ntmps43
      go_wp2_with fail
      go_ret
      exact ⟨rfl, rfl⟩
  · have hr : decide (-(k : Int) ≤ imm ∧ imm < n - k) = false := decide_eq_false (fun h => h1 h.1)
    rw [hr]
    clear hr
    go_enter Try.func43, Try.ntmps43
    go_wp2_with fail
    go_ret
    exact ⟨rfl, rfl⟩
end Go.Proofs.Ytehelfmpcbejeaa.Words

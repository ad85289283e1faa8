/- Contract of bytes.fits. -/
import Derived.Test.YtkmflgfhhlhgeaaBytesSmall
import Derived.Test.YtkmflgfhhlhgeaaKept
namespace Go.Proofs.Ytkmflgfhhlhgeaa.Words
open Go.RowKit
set_option linter.unusedVariables false

theorem quiet_same {P : Program} {f : FuncId} {args : Array Value} {w : World} {n : Nat} {v : Value} (h : Calls P f args (w.drewN n) fun e w' => e = .returned v ∧ w.drewN n = w') :
    Calls P f args (w.drewN n) fun e w'' => e = .returned v ∧ ∃ m, w'' = w.drewN m := h.mono fun _ _ ⟨he, hm⟩ => ⟨he, n, hm.symm⟩

set_option maxHeartbeats 1000000 in
theorem fits_any (addr size v n : Int) (w : World) (hs : -9223372036854775808 ≤ size ∧ size ≤ 9223372036854775807) (hn : -9223372036854775808 ≤ n ∧ n ≤ 9223372036854775807) :
    Calls Try.prog 26 #[.agg #[.int .i64 addr, .int .i64 size, .int .u32 v], .int .i64 n] w fun e w' => e = .returned (.bool (storeOk size addr n)) ∧ Below w.heap.size w w' := by
  have HW := Lib.hid ((Below.refl w.heap.size w).alloc (Nat.le_refl _) (.cells #[.int .i64 addr, .int .i64 size, .int .u32 v] 25))
  by_cases a : size = 1 ∨ size = 2 ∨ size = 4
  · have A1 := Lib.hid (show decide (size = 1 ∨ size = 2 ∨ size = 4) = true from decide_eq_true a)
    have B1 := Lib.hid (fun x : World => show Calls Try.prog 30 #[.int .i64 size] x (fun e w' => e = .returned (.bool true) ∧ x = w') by have h := isSize_any size x; rw [A1.out] at h; exact h)
    by_cases b : 0 ≤ addr ∧ addr ≤ 4294967295
    · have A2 := Lib.hid (show decide (0 ≤ addr ∧ addr ≤ 4294967295) = true from decide_eq_true b)
      have B2 := Lib.hid (fun x : World => show Calls Try.prog 31 #[.int .i64 addr] x (fun e w' => e = .returned (.bool true) ∧ x = w') by have h := isAddress_any addr x; rw [A2.out] at h; exact h)
      have e2 : addr % 4294967296 = addr := by omega
      have t : (checkZ size addr n == 0) = storeOk size addr n := by
        unfold storeOk
        by_cases h : checkZ size addr n = 0
        · rw [decide_eq_true ⟨a, b.1, b.2, h⟩]; simp [h]
        · rw [decide_eq_false (fun g => h g.2.2.2)]; simp [h]
      have T := Lib.hid t
      clear t
      have A := Lib.hid a
      clear a
      obtain ⟨b0, b1⟩ := b
      go_enter Try.func26, Try.ntmps26
      go_wp2_with fail
      go_quiet (first
        | (go_at_call 30; refine quiet_same (B1.out _))
        | (go_at_call 31; refine quiet_same (B2.out _))
        | (go_at_call 32; refine quiet_same (of_any _ _))
        | (go_at_call 12; refine quiet_same (check_any _ _ _ _ b0 b1 hs hn)))
      trace_state
      go_wp2_with fail
      go_ret
      exact ⟨ret_bool T.out, Below.drewN_ HW.out _⟩
    · have A2 := Lib.hid (show decide (0 ≤ addr ∧ addr ≤ 4294967295) = false from decide_eq_false b)
      have B2 := Lib.hid (fun x : World => show Calls Try.prog 31 #[.int .i64 addr] x (fun e w' => e = .returned (.bool false) ∧ x = w') by have h := isAddress_any addr x; rw [A2.out] at h; exact h)
      have T := Lib.hid (storeOk_no (size := size) (addr := addr) (n := n) (fun g => b ⟨g.2.1, g.2.2.1⟩))
      clear a b
      go_enter Try.func26, Try.ntmps26
      go_wp2_with fail
      go_quiet (first
        | (go_at_call 30; refine quiet_same (B1.out _))
        | (go_at_call 31; refine quiet_same (B2.out _)))
      go_wp2_with fail
      go_ret
      exact ⟨ret_bool T.out.symm, Below.drewN_ HW.out _⟩
  · have A1 := Lib.hid (show decide (size = 1 ∨ size = 2 ∨ size = 4) = false from decide_eq_false a)
    have B1 := Lib.hid (fun x : World => show Calls Try.prog 30 #[.int .i64 size] x (fun e w' => e = .returned (.bool false) ∧ x = w') by have h := isSize_any size x; rw [A1.out] at h; exact h)
    have T := Lib.hid (storeOk_no (size := size) (addr := addr) (n := n) (fun g => a g.1))
    clear a
    go_enter Try.func26, Try.ntmps26
    go_wp2_with fail
    go_quiet (first
      | (go_at_call 30; refine quiet_same (B1.out _)))
    go_wp2_with fail
    go_ret
    exact ⟨ret_bool T.out.symm, Below.drewN_ HW.out _⟩
end Go.Proofs.Ytkmflgfhhlhgeaa.Words

/- Contracts of the document's own Extend and Load. -/
import Derived.Test.YtjkijjbakocilaaRefSizes
import Derived.Test.YtjkijjbakocilaaRefForm
import Derived.Test.YtjkijjbakocilaaRefInt
import Derived.Test.YtjkijjbakocilaaWordJoin
import Derived.Test.YtjkijjbakocilaaByteRow
import Derived.LoopTactic
import Derived.LoopN
namespace Go.Proofs.Ytjkijjbakocilaa.Words
set_option maxRecDepth 100000
open Go.RowKit
set_option linter.unusedVariables false

theorem ext27 (x : Int) : sgn (x * 65536 % 4294967296) / 65536 % 4294967296 = extendZ 27 x := by
  have e : extendZ 27 x = (if x % 65536 < 32768 then x % 65536 else x % 65536 + 4294901760) := rfl
  rw [e]; unfold sgn; split <;> split <;> omega
theorem ext29 (x : Int) : sgn (x * 16777216 % 4294967296) / 16777216 % 4294967296 = extendZ 29 x := by
  have e : extendZ 29 x = (if x % 256 < 128 then x % 256 else x % 256 + 4294967040) := rfl
  rw [e]; unfold sgn; split <;> split <;> omega

set_option maxHeartbeats 400000 in
theorem refExtend_any (op x : Int) (w : World) (h0 : 0 ≤ x) (h1 : x < 4294967296) :
    Calls Try.prog 26 #[.int .i64 op, .int .u32 x] w fun e w' => e = .returned (.int .u32 (extendZ op x)) ∧ w = w' := by
  by_cases a : op = 27
  · subst a
    go_enter Try.func26, Try.ntmps26
    go_wp2_with fail
    refine (refInt_any _ _ (by omega) (by omega)).mono ?_; rintro e w1 ⟨rfl, rfl⟩
    go_wp2_with fail
    go_ret
    exact ⟨ret_int (ext27 x), rfl⟩
  by_cases b : op = 29
  · subst b
    go_enter Try.func26, Try.ntmps26
    go_wp2_with fail
    refine (refInt_any _ _ (by omega) (by omega)).mono ?_; rintro e w1 ⟨rfl, rfl⟩
    go_wp2_with fail
    go_ret
    exact ⟨ret_int (ext29 x), rfl⟩
  · have t : extendZ op x = x := by unfold extendZ; rw [if_neg a, if_neg b]
    rw [t]
    have q1 : (op == 27) = false := by simp; exact a
    have q2 : (op == 29) = false := by simp; exact b
    go_enter Try.func26, Try.ntmps26
    go_wp2_with fail
    go_ret
    exact ⟨rfl, rfl⟩

set_option maxHeartbeats 1000000 in
theorem refLoad_no (A : Option Addr) (c n : Nat) (zs : List Int) (op addr : Int) (w : World) (hl : zs.length = n) (hn : n ≤ 9223372036854775807) (h0 : 0 ≤ addr) (h1 : addr ≤ 4294967295) (h : op < 26 ∨ 30 < op ∨ checkZ (sizeZ op) addr n ≠ 0) :
    Calls Try.prog 19 #[.slice A n c, .int .i64 op, .int .u32 addr] w fun e w' => e = .returned (.int .u32 (loadZ zs op addr)) ∧ w = w' := by
  rw [loadZ_no (by rw [hl]; exact h)]
  have hsz := sizeZ_cases op
  have hf := formZ_cases op
  have hck := checkZ_cases (sizeZ op) addr n
  go_enter Try.func19, Try.ntmps19
  go_wp2_with fail
  refine (refSize_any _ _).mono ?_; rintro e w1 ⟨rfl, rfl⟩
  go_wp2_with fail
  refine (refForm_any _ _).mono ?_; rintro e w1 ⟨rfl, rfl⟩
  by_cases hr : op < 26 ∨ 30 < op
  · have q : (formZ op != 4) = true := by simp; omega
    clear hsz hf hck h
    go_wp2_with fail
    go_ret
    exact ⟨rfl, rfl⟩
  · have q : (formZ op != 4) = false := by simp; omega
    have h' : checkZ (sizeZ op) addr n ≠ 0 := by omega
    have q2 : (checkZ (sizeZ op) addr n != 0) = true := by simp; exact h'
    have hb : -9223372036854775808 ≤ sizeZ op ∧ sizeZ op ≤ 9223372036854775807 := by omega
    clear hf h h' hsz hck
    go_wp2_with fail
    refine (refCheck_any (sizeZ op) addr n _ h0 h1 hb (by omega)).mono ?_; rintro e w1 ⟨rfl, rfl⟩
    go_wp2_with fail
    go_ret
    exact ⟨rfl, rfl⟩
end Go.Proofs.Ytjkijjbakocilaa.Words

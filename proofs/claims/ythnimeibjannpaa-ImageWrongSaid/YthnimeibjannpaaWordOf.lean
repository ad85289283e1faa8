/- Contracts of the calls of package word on plain numbers (Of, Int). No conditions but that a word is from 0 to 2^32 - 1. -/
import Derived.Test.YthnimeibjannpaaRows
import Derived.Test.YthnimeibjannpaaBase
namespace Go.Proofs.Ythnimeibjannpaa.Words
open Go.RowKit

/-- A word as a number with a sign. -/
def sgn (n : Int) : Int := if n < 2147483648 then n else n - 4294967296
theorem sgn_low {n : Int} (h : n < 2147483648) : sgn n = n := by unfold sgn; rw [if_pos h]
theorem sgn_high {n : Int} (h : 2147483648 ≤ n) : sgn n = n - 4294967296 := by unfold sgn; rw [if_neg (by omega)]
theorem sgn_range {n : Int} (h0 : 0 ≤ n) (h1 : n < 4294967296) : -2147483648 ≤ sgn n ∧ sgn n ≤ 2147483647 := by unfold sgn; split <;> omega
theorem sgn_of (n : Int) (h0 : 0 ≤ n) (h1 : n < 4294967296) : sgn n % 4294967296 = n := by unfold sgn; split <;> omega
theorem of_sgn (n : Int) (h0 : -2147483648 ≤ n) (h1 : n ≤ 2147483647) : sgn (n % 4294967296) = n := by unfold sgn; split <;> omega

set_option maxHeartbeats 400000 in
theorem of_any (n : Int) (w : World) :
    Calls Try.prog 36 #[.int .i64 n] w fun e w' => e = .returned (.int .u32 (n % 4294967296)) ∧ w = w' := by
  go_enter Try.func36, Try.ntmps36
  go_wp2
  go_ret
  exact ⟨rfl, rfl⟩

set_option maxHeartbeats 400000 in
theorem int_any (n : Int) (w : World) (h0 : 0 ≤ n) (h1 : n < 4294967296) :
    Calls Try.prog 48 #[.int .u32 n] w fun e w' => e = .returned (.int .i64 (sgn n)) ∧ w = w' := by
  go_enter Try.func48, Try.ntmps48
  go_wp2
  go_ret
  exact ⟨ret_int (by simp only [wrap64, wrap32, sgn]; split <;> omega), rfl⟩

end Go.Proofs.Ythnimeibjannpaa.Words

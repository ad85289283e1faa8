/- A word as a number with a sign. Nothing here speaks of one program text. -/
import Derived.Test.YtjkijjbakocilaaBase
namespace Go.Proofs.Ytjkijjbakocilaa.Words
set_option maxRecDepth 100000
open Go.RowKit

/-- A word as a number with a sign. -/
def sgn (n : Int) : Int := if n < 2147483648 then n else n - 4294967296
theorem sgn_low {n : Int} (h : n < 2147483648) : sgn n = n := by unfold sgn; rw [if_pos h]
theorem sgn_high {n : Int} (h : 2147483648 ≤ n) : sgn n = n - 4294967296 := by unfold sgn; rw [if_neg (by omega)]
theorem sgn_range {n : Int} (h0 : 0 ≤ n) (h1 : n < 4294967296) : -2147483648 ≤ sgn n ∧ sgn n ≤ 2147483647 := by unfold sgn; split <;> omega
theorem sgn_of (n : Int) (h0 : 0 ≤ n) (h1 : n < 4294967296) : sgn n % 4294967296 = n := by unfold sgn; split <;> omega
theorem of_sgn (n : Int) (h0 : -2147483648 ≤ n) (h1 : n ≤ 2147483647) : sgn (n % 4294967296) = n := by unfold sgn; split <;> omega

end Go.Proofs.Ytjkijjbakocilaa.Words

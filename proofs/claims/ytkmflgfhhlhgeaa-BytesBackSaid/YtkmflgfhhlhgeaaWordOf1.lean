/- Contracts of the calls of package word on plain numbers (Of). No conditions but that a word is from 0 to 2^32 - 1. -/
import Derived.Test.YtkmflgfhhlhgeaaRows
import Derived.Test.YtkmflgfhhlhgeaaSgn
namespace Go.Proofs.Ytkmflgfhhlhgeaa.Words
open Go.RowKit

set_option maxHeartbeats 400000 in
theorem of_any (n : Int) (w : World) :
    Calls Try.prog 32 #[.int .i64 n] w fun e w' => e = .returned (.int .u32 (n % 4294967296)) ∧ w = w' := by
  go_enter Try.func32, Try.ntmps32
  go_wp2
  go_ret
  exact ⟨rfl, rfl⟩
end Go.Proofs.Ytkmflgfhhlhgeaa.Words

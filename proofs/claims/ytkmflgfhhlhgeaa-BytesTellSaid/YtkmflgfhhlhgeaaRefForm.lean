/- Contract of the document's own answer on forms. No conditions. -/
import Derived.Test.YtkmflgfhhlhgeaaRows
import Derived.Test.YtkmflgfhhlhgeaaBase
import Derived.Test.YtkmflgfhhlhgeaaIsaMath
namespace Go.Proofs.Ytkmflgfhhlhgeaa.Words
open Go.RowKit

set_option maxHeartbeats 400000 in
theorem refForm_any (op : Int) (w : World) :
    Calls Try.prog 24 #[.int .i64 op] w fun e w' => e = .returned (.int .i64 (formZ op)) ∧ w = w' := by
  have hc := formZ_cases op
  go_enter Try.func24, Try.ntmps24
  go_wp2
  all_goals
    go_ret
    exact ⟨ret_int (by (try simp only [beq_iff_eq, beq_eq_false_iff_ne, ne_eq] at *); omega), rfl⟩

end Go.Proofs.Ytkmflgfhhlhgeaa.Words

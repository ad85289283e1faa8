/- Contract of the document's own answer on forms. No conditions. -/
import Derived.Test.YtimdojeagkbgbaaDoorRows
import Derived.Test.YtimdojeagkbgbaaDoorBase
import Derived.Test.YtimdojeagkbgbaaDoorIsaMath
namespace Go.Proofs.YtimdojeagkbgbaaDoor.Words
set_option maxRecDepth 100000
open Go.RowKit

set_option maxHeartbeats 400000 in
theorem refForm_any (op : Int) (w : World) :
    Calls Tryd.prog 43 #[.int .i64 op] w fun e w' => e = .returned (.int .i64 (formZ op)) ∧ w = w' := by
  have hc := formZ_cases op
  go_enter Tryd.func43, Tryd.ntmps43
  go_wp2
  all_goals
    go_ret
    exact ⟨ret_int (by (try simp only [beq_iff_eq, beq_eq_false_iff_ne, ne_eq] at *); omega), rfl⟩

end Go.Proofs.YtimdojeagkbgbaaDoor.Words

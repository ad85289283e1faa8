/- Contract of the document's own answer on forms. No conditions. -/
import Derived.Test.YtjkijjbakocilaaRows
import Derived.Test.YtjkijjbakocilaaBase
import Derived.Test.YtjkijjbakocilaaIsaMath
namespace Go.Proofs.Ytjkijjbakocilaa.Words
set_option maxRecDepth 100000
open Go.RowKit

set_option maxHeartbeats 400000 in
theorem refForm_any (op : Int) (w : World) :
    Calls Try.prog 21 #[.int .i64 op] w fun e w' => e = .returned (.int .i64 (formZ op)) ∧ w = w' := by
  have hc := formZ_cases op
  go_enter Try.func21, Try.ntmps21
  go_wp2
  all_goals
    go_ret
    exact ⟨ret_int (by (try simp only [beq_iff_eq, beq_eq_false_iff_ne, ne_eq] at *); omega), rfl⟩

end Go.Proofs.Ytjkijjbakocilaa.Words

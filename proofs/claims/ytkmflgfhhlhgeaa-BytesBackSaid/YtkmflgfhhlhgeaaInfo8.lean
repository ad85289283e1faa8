/- What the program says of bytes as elements. -/
import Derived.Test.YtkmflgfhhlhgeaaRows
import Derived.Test.YtkmflgfhhlhgeaaBase
namespace Go.Proofs.Ytkmflgfhhlhgeaa.Words
open Go.RowKit
theorem info_u8 : (Try.prog.info? 5).map (fun i => (i.zero, i.size, i.bytes)) = some (some (.int .u8 0), 1, 1) := by kernel_rfl
end Go.Proofs.Ytkmflgfhhlhgeaa.Words

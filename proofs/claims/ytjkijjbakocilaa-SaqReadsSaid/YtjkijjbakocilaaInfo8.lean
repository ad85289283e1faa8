/- What the program says of bytes as elements. -/
import Derived.Test.YtjkijjbakocilaaRows
import Derived.Test.YtjkijjbakocilaaBase
namespace Go.Proofs.Ytjkijjbakocilaa.Words
set_option maxRecDepth 100000
open Go.RowKit
theorem info_u8 : (Try.prog.info? 5).map (fun i => (i.zero, i.size, i.bytes)) = some (some (.int .u8 0), 1, 1) := by kernel_rfl
end Go.Proofs.Ytjkijjbakocilaa.Words

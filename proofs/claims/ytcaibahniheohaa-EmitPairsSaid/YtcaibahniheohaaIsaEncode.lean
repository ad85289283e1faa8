/- Contracts of isa.Encode and of the document's own: the word of an instruction, and whether there is one. No conditions. -/
import Derived.Test.YtcaibahniheohaaIsaRight
namespace Go.Proofs.Ytcaibahniheohaa.Words
set_option maxRecDepth 100000
open Go.RowKit

end Go.Proofs.Ytcaibahniheohaa.Words

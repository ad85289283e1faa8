/- Contracts of the calls of package word on plain numbers (Of). No conditions but that a word is from 0 to 2^32 - 1. -/
import Derived.Test.YtjkijjbakocilaaRows
import Derived.Test.YtjkijjbakocilaaSgn
namespace Go.Proofs.Ytjkijjbakocilaa.Words
set_option maxRecDepth 100000
open Go.RowKit

end Go.Proofs.Ytjkijjbakocilaa.Words

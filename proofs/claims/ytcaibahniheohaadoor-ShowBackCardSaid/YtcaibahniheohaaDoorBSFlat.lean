/- Rows of records: each record's cells one behind the other. Nothing here speaks of one program text. -/
import Derived.Test.YtcaibahniheohaaDoorBG00
namespace Go.Proofs.YtcaibahniheohaaDoor.Words
set_option maxRecDepth 100000
open Go.RowKit
section
variable {α : Type} {f : α → List Value} {s : Nat}
end
end Go.Proofs.YtcaibahniheohaaDoor.Words

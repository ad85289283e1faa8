/- Contract of word.Get: which word the four bytes from a place on are, or that they are not all there. -/
import Derived.Test.YtjkijjbakocilaaRows
import Derived.Test.YtjkijjbakocilaaWordJoin
namespace Go.Proofs.Ytjkijjbakocilaa.Words
set_option maxRecDepth 100000
open Go.RowKit

theorem ret_word {a b : Int} {t : Bool} (h : a = b) : Ending.returned (.tuple #[.int .u32 a, .bool t]) = .returned (.tuple #[.int .u32 b, .bool t]) := by rw [h]

end Go.Proofs.Ytjkijjbakocilaa.Words

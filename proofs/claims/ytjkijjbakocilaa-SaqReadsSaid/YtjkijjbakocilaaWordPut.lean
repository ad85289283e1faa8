/- Contract of word.Put: the bytes handed in, and behind them the word's four bytes, the lowest first, in memory of the call's own. Condition: with four bytes more it is no longer than 2^47. -/
import Derived.Test.YtjkijjbakocilaaInfo8
import Derived.Test.YtjkijjbakocilaaRowLaws
namespace Go.Proofs.Ytjkijjbakocilaa.Words
set_option maxRecDepth 100000
open Go.RowKit


/-- The four bytes of a word. -/
def quad (x : Int) : List Value := [.int .u8 (x % 256), .int .u8 (x / 256 % 256), .int .u8 (x / 65536 % 256), .int .u8 (x / 16777216)]
theorem quad_one (x : Int) : ∀ u ∈ quad x, u.oneCell' = true := by
  intro u hu
  simp only [quad, List.mem_cons, List.not_mem_nil, or_false] at hu
  rcases hu with rfl | rfl | rfl | rfl <;> rfl
theorem quad_len (x : Int) : (quad x).length = 4 := rfl

end Go.Proofs.Ytjkijjbakocilaa.Words

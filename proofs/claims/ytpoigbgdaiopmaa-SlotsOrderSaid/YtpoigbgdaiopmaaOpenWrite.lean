/- An argument that is a struct of 3 ints by value (api.Write): its numbers. -/
import Derived.Test.YtpoigbgdaiopmaaRows
import Derived.WalkKit
import Derived.ProofKit
import Derived.OpenShut
import Derived.ChangeOld
namespace Go.Proofs.Ytpoigbgdaiopmaa.Words
set_option maxRecDepth 100000
open Go.ChangeShapes Go.WideShapes Go.ChangeAt Go.RowKit

/-- The numbers. -/
structure Wr where
  addr : Int
  size : Int
  val : Int
deriving DecidableEq
/-- They are of Go's int. -/
def Wr.Fits (i : Wr) : Prop :=
  (-9223372036854775808 ≤ i.addr ∧ i.addr ≤ 9223372036854775807) ∧ (-9223372036854775808 ≤ i.size ∧ i.size ≤ 9223372036854775807) ∧ (0 ≤ i.val ∧ i.val ≤ 4294967295)

section
variable {H : Type} {enc : TypeId × Value → H} {w : World} {base : Nat} {spare : Nat → Bool} {held : Bool}

def wrCells (i : Wr) : List Value := [.int .i64 i.addr, .int .i64 i.size, .int .u32 i.val]

end
end Go.Proofs.Ytpoigbgdaiopmaa.Words

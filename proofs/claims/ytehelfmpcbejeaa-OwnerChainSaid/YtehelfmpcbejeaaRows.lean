/-
  No cell of these rows narrows 'for every input' (looked for: loops, veiled, ifaces, maps, wideKeys, modest, calm, conditions, laid).
  DERIVED. THE GIVEN ROWS OF THIS SEAT. 5 by the template 'for every input the law returns true; each argument reads behind the call as it read before'; 0 by the template 'total and deterministic' (their statements: YtehelfmpcbejeaaTotals.lean).
  GIVEN WITH THE SEED: the statements are not yours to turn. If you find one false, say at which input.
  Laid BY PROGRAM, IN A SANDBOX (cutbox-rows.mjs): the forced cells as the released guide's own fill.sh prints them over the translation 5aa66828ae4727f7… (all of the seat's roots in one cut). By AI agents, Wed Nov 11 2026. No macro, syntax, notation, axiom, sorry.
-/
import Derived.Test.YtehelfmpcbejeaaChecked
import GoSem.Claim
import GoSem.ClaimJoined
import GoSem.ClaimMapViews
import Derived.JoinedTies
import Derived.KernelRfl
namespace Go.Proofs.Ytehelfmpcbejeaa
/- THE CELL 'sum', in the pinned program and in every row, IS THE sha256 OF THE DUMP (.gsa) THAT YtehelfmpcbejeaaProg.lean LOADS. Nothing in Lean hashes anything: it is a label: what it is worth is what the hold of that sum in a sandbox is worth. -/
noncomputable def Try.pinned : Pinned := { name := "ytehelfmpcbejeaa", sum := "5aa66828ae4727f7ce719ccc67ee20976d9cd8913808d2da9750ce5ef6e1ffc4", checked := Try.checked }
namespace Rows
def none {H : Type} : Left H := { results := [], args := [] }

/-- 'forerunnerlaw11.OwnerTells': WHATEVER THE INPUT: true; the input reads as it did. -/
def ownerTellsSpec : ChangeSpec := { name := "ownerTells", fn := fun _ => fun
  | [d1, d2, d3] => { results := [.lit (.bool true)], args := [d1, d2, d3] }
  | _ => none }
def ownerTellsRow : OpenClaim := { program := "ytehelfmpcbejeaa", sum := "5aa66828ae4727f7ce719ccc67ee20976d9cd8913808d2da9750ce5ef6e1ffc4", func := "forerunner/forerunnerlaw11.OwnerTells", spec := "ownerTells", apart := false }
def OwnerTellsSaid : Prop := ownerTellsRow.holds Try.pinned (OpenSpec.ofChange ownerTellsSpec)

/-- ITS FALSE NEIGHBOUR: 'it returns false'. Refute it at one input. -/
def ownerTellsWrong : ChangeSpec := { name := "ownerTells", fn := fun _ => fun
  | [d1, d2, d3] => { results := [.lit (.bool false)], args := [d1, d2, d3] }
  | _ => none }
def OwnerTellsWrongFalsely : Prop := ownerTellsRow.holds Try.pinned (OpenSpec.ofChange ownerTellsWrong)

/-- 'forerunnerlaw11.OwnerLeast': WHATEVER THE INPUT: true; the input reads as it did. -/
def ownerLeastSpec : ChangeSpec := { name := "ownerLeast", fn := fun _ => fun
  | [d1, d2] => { results := [.lit (.bool true)], args := [d1, d2] }
  | _ => none }
def ownerLeastRow : OpenClaim := { program := "ytehelfmpcbejeaa", sum := "5aa66828ae4727f7ce719ccc67ee20976d9cd8913808d2da9750ce5ef6e1ffc4", func := "forerunner/forerunnerlaw11.OwnerLeast", spec := "ownerLeast", apart := false }
def OwnerLeastSaid : Prop := ownerLeastRow.holds Try.pinned (OpenSpec.ofChange ownerLeastSpec)

/-- ITS FALSE NEIGHBOUR: 'it returns false'. Refute it at one input. -/
def ownerLeastWrong : ChangeSpec := { name := "ownerLeast", fn := fun _ => fun
  | [d1, d2] => { results := [.lit (.bool false)], args := [d1, d2] }
  | _ => none }
def OwnerLeastWrongFalsely : Prop := ownerLeastRow.holds Try.pinned (OpenSpec.ofChange ownerLeastWrong)

/-- 'forerunnerlaw11.OwnerJoins': WHATEVER THE INPUT: true; the input reads as it did. -/
def ownerJoinsSpec : ChangeSpec := { name := "ownerJoins", fn := fun _ => fun
  | [d1, d2, d3] => { results := [.lit (.bool true)], args := [d1, d2, d3] }
  | _ => none }
def ownerJoinsRow : OpenClaim := { program := "ytehelfmpcbejeaa", sum := "5aa66828ae4727f7ce719ccc67ee20976d9cd8913808d2da9750ce5ef6e1ffc4", func := "forerunner/forerunnerlaw11.OwnerJoins", spec := "ownerJoins", apart := false }
def OwnerJoinsSaid : Prop := ownerJoinsRow.holds Try.pinned (OpenSpec.ofChange ownerJoinsSpec)

/-- ITS FALSE NEIGHBOUR: 'it returns false'. Refute it at one input. -/
def ownerJoinsWrong : ChangeSpec := { name := "ownerJoins", fn := fun _ => fun
  | [d1, d2, d3] => { results := [.lit (.bool false)], args := [d1, d2, d3] }
  | _ => none }
def OwnerJoinsWrongFalsely : Prop := ownerJoinsRow.holds Try.pinned (OpenSpec.ofChange ownerJoinsWrong)

/-- 'forerunnerlaw11.OwnerChain': WHATEVER THE INPUT: true; the input reads as it did. -/
def ownerChainSpec : ChangeSpec := { name := "ownerChain", fn := fun _ => fun
  | [d1, d2] => { results := [.lit (.bool true)], args := [d1, d2] }
  | _ => none }
def ownerChainRow : OpenClaim := { program := "ytehelfmpcbejeaa", sum := "5aa66828ae4727f7ce719ccc67ee20976d9cd8913808d2da9750ce5ef6e1ffc4", func := "forerunner/forerunnerlaw11.OwnerChain", spec := "ownerChain", apart := false }
def OwnerChainSaid : Prop := ownerChainRow.holds Try.pinned (OpenSpec.ofChange ownerChainSpec)

/-- ITS FALSE NEIGHBOUR: 'it returns false'. Refute it at one input. -/
def ownerChainWrong : ChangeSpec := { name := "ownerChain", fn := fun _ => fun
  | [d1, d2] => { results := [.lit (.bool false)], args := [d1, d2] }
  | _ => none }
def OwnerChainWrongFalsely : Prop := ownerChainRow.holds Try.pinned (OpenSpec.ofChange ownerChainWrong)

/-- 'forerunnerlaw11.OwnerLoads': WHATEVER THE INPUT: true; the input reads as it did. -/
def ownerLoadsSpec : ChangeSpec := { name := "ownerLoads", fn := fun _ => fun
  | [d1, d2, d3, d4] => { results := [.lit (.bool true)], args := [d1, d2, d3, d4] }
  | _ => none }
def ownerLoadsRow : OpenClaim := { program := "ytehelfmpcbejeaa", sum := "5aa66828ae4727f7ce719ccc67ee20976d9cd8913808d2da9750ce5ef6e1ffc4", func := "forerunner/forerunnerlaw11.OwnerLoads", spec := "ownerLoads", apart := false }
def OwnerLoadsSaid : Prop := ownerLoadsRow.holds Try.pinned (OpenSpec.ofChange ownerLoadsSpec)

/-- ITS FALSE NEIGHBOUR: 'it returns false'. Refute it at one input. -/
def ownerLoadsWrong : ChangeSpec := { name := "ownerLoads", fn := fun _ => fun
  | [d1, d2, d3, d4] => { results := [.lit (.bool false)], args := [d1, d2, d3, d4] }
  | _ => none }
def OwnerLoadsWrongFalsely : Prop := ownerLoadsRow.holds Try.pinned (OpenSpec.ofChange ownerLoadsWrong)

/- THE SECOND FORM. 'bulk': how many values and letters a reading holds, each counted each time it is reached (what is shared counts as often as it is met; a slice's spare places count too). A statement '..UptoSaid' is the law's where the arguments, and the package variables that the reading takes, are together of bulk at most 1048576: NARROWER than '..Said'. Prove '..Said' where nothing that the law and all that it calls make is longer than what came in: it says more and counts as full. Else prove '..UptoSaid'. A law counts once. -/
mutual
def uptoBulk {H : Type} : DataW H → Nat
  | .lit (.string bytes) => bytes.length + 1
  | .lit _ => 1
  | .nil => 1
  | .ptr d => uptoBulk d + 1
  | .slice elems spare => uptoBulkAll elems + uptoBulkAll spare + 1
  | .agg parts => uptoBulkAll parts + 1
  | .iface _ d => uptoBulk d + 1
  | .map entries => uptoBulkEntries entries + 1
  | .held _ => 1
def uptoBulkAll {H : Type} : List (DataW H) → Nat
  | [] => 0
  | d :: r => uptoBulk d + uptoBulkAll r
def uptoBulkEntries {H : Type} : List (Lit × DataW H) → Nat
  | [] => 0
  | x :: r => uptoBulkEntry x + uptoBulkEntries r
def uptoBulkEntry {H : Type} : Lit × DataW H → Nat
  | (.string bytes, d) => bytes.length + uptoBulk d + 1
  | (_, d) => uptoBulk d + 1
 end
def uptoSmall : (H : Type) → List (DataW H) → Bool := fun _ ds => decide (uptoBulkAll ds ≤ 1048576)
def OpenSpec.upto (s : _root_.Go.ChangeSpec) : _root_.Go.OpenSpec := { _root_.Go.OpenSpec.ofChange s with cond := some uptoSmall }

/-- 'forerunnerlaw11.OwnerTells', WHERE WHAT IT READS IS OF BULK AT MOST 1048576: true; the input reads as it did. -/
def ownerTellsUptoRow : OpenClaim := { program := "ytehelfmpcbejeaa", sum := "5aa66828ae4727f7ce719ccc67ee20976d9cd8913808d2da9750ce5ef6e1ffc4", func := "forerunner/forerunnerlaw11.OwnerTells", spec := "ownerTells", apart := false, narrowed := true }
def OwnerTellsUptoSaid : Prop := ownerTellsUptoRow.holds Try.pinned (OpenSpec.upto ownerTellsSpec)

/-- 'forerunnerlaw11.OwnerLeast', WHERE WHAT IT READS IS OF BULK AT MOST 1048576: true; the input reads as it did. -/
def ownerLeastUptoRow : OpenClaim := { program := "ytehelfmpcbejeaa", sum := "5aa66828ae4727f7ce719ccc67ee20976d9cd8913808d2da9750ce5ef6e1ffc4", func := "forerunner/forerunnerlaw11.OwnerLeast", spec := "ownerLeast", apart := false, narrowed := true }
def OwnerLeastUptoSaid : Prop := ownerLeastUptoRow.holds Try.pinned (OpenSpec.upto ownerLeastSpec)

/-- 'forerunnerlaw11.OwnerJoins', WHERE WHAT IT READS IS OF BULK AT MOST 1048576: true; the input reads as it did. -/
def ownerJoinsUptoRow : OpenClaim := { program := "ytehelfmpcbejeaa", sum := "5aa66828ae4727f7ce719ccc67ee20976d9cd8913808d2da9750ce5ef6e1ffc4", func := "forerunner/forerunnerlaw11.OwnerJoins", spec := "ownerJoins", apart := false, narrowed := true }
def OwnerJoinsUptoSaid : Prop := ownerJoinsUptoRow.holds Try.pinned (OpenSpec.upto ownerJoinsSpec)

/-- 'forerunnerlaw11.OwnerChain', WHERE WHAT IT READS IS OF BULK AT MOST 1048576: true; the input reads as it did. -/
def ownerChainUptoRow : OpenClaim := { program := "ytehelfmpcbejeaa", sum := "5aa66828ae4727f7ce719ccc67ee20976d9cd8913808d2da9750ce5ef6e1ffc4", func := "forerunner/forerunnerlaw11.OwnerChain", spec := "ownerChain", apart := false, narrowed := true }
def OwnerChainUptoSaid : Prop := ownerChainUptoRow.holds Try.pinned (OpenSpec.upto ownerChainSpec)

/-- 'forerunnerlaw11.OwnerLoads', WHERE WHAT IT READS IS OF BULK AT MOST 1048576: true; the input reads as it did. -/
def ownerLoadsUptoRow : OpenClaim := { program := "ytehelfmpcbejeaa", sum := "5aa66828ae4727f7ce719ccc67ee20976d9cd8913808d2da9750ce5ef6e1ffc4", func := "forerunner/forerunnerlaw11.OwnerLoads", spec := "ownerLoads", apart := false, narrowed := true }
def OwnerLoadsUptoSaid : Prop := ownerLoadsUptoRow.holds Try.pinned (OpenSpec.upto ownerLoadsSpec)

end Rows
end Go.Proofs.Ytehelfmpcbejeaa

/-
  No cell of these rows narrows 'for every input' (looked for: loops, veiled, ifaces, maps, wideKeys, modest, calm, conditions, laid).
  DERIVED. THE GIVEN ROWS OF THIS SEAT. 4 by the template 'for every input the law returns true; each argument reads behind the call as it read before'; 0 by the template 'total and deterministic' (their statements: YtcaibahniheohaaTotals.lean).
  GIVEN WITH THE SEED: the statements are not yours to turn. If you find one false, say at which input.
  Laid BY PROGRAM, IN A SANDBOX (cutbox-rows.mjs): the forced cells as the released guide's own fill.sh prints them over the translation 6d784faebd7c3844… (all of the seat's roots in one cut). By AI agents, Wed Nov 11 2026. No macro, syntax, notation, axiom, sorry.
-/
import Derived.Test.YtcaibahniheohaaChecked
import GoSem.Claim
import GoSem.ClaimJoined
import GoSem.ClaimMapViews
import Derived.JoinedTies
import Derived.KernelRfl
namespace Go.Proofs.Ytcaibahniheohaa
/- THE CELL 'sum', in the pinned program and in every row, IS THE sha256 OF THE DUMP (.gsa) THAT YtcaibahniheohaaProg.lean LOADS. Nothing in Lean hashes anything: it is a label: what it is worth is what the hold of that sum in a sandbox is worth. -/
noncomputable def Try.pinned : Pinned := { name := "ytcaibahniheohaa", sum := "6d784faebd7c3844f22aeb05275da6a29dfb970dde76235d4aeba280984dbfd7", checked := Try.checked }
namespace Rows
def none {H : Type} : Left H := { results := [], args := [] }

/-- 'forerunnerlaw12.EmitTells': WHATEVER THE INPUT: true; the input reads as it did. -/
def emitTellsSpec : ChangeSpec := { name := "emitTells", fn := fun _ => fun
  | [d1, d2, d3, d4] => { results := [.lit (.bool true)], args := [d1, d2, d3, d4] }
  | _ => none }
def emitTellsRow : OpenClaim := { program := "ytcaibahniheohaa", sum := "6d784faebd7c3844f22aeb05275da6a29dfb970dde76235d4aeba280984dbfd7", func := "forerunner/forerunnerlaw12.EmitTells", spec := "emitTells", unfollowed := true, recurses := true, apart := false }
def EmitTellsSaid : Prop := emitTellsRow.holds Try.pinned (OpenSpec.ofChange emitTellsSpec)

/-- ITS FALSE NEIGHBOUR: 'it returns false'. Refute it at one input. -/
def emitTellsWrong : ChangeSpec := { name := "emitTells", fn := fun _ => fun
  | [d1, d2, d3, d4] => { results := [.lit (.bool false)], args := [d1, d2, d3, d4] }
  | _ => none }
def EmitTellsWrongFalsely : Prop := emitTellsRow.holds Try.pinned (OpenSpec.ofChange emitTellsWrong)

/-- 'forerunnerlaw12.EmitPairs': WHATEVER THE INPUT: true; the input reads as it did. -/
def emitPairsSpec : ChangeSpec := { name := "emitPairs", fn := fun _ => fun
  | [d1, d2, d3, d4] => { results := [.lit (.bool true)], args := [d1, d2, d3, d4] }
  | _ => none }
def emitPairsRow : OpenClaim := { program := "ytcaibahniheohaa", sum := "6d784faebd7c3844f22aeb05275da6a29dfb970dde76235d4aeba280984dbfd7", func := "forerunner/forerunnerlaw12.EmitPairs", spec := "emitPairs", unfollowed := true, recurses := true, apart := false }
def EmitPairsSaid : Prop := emitPairsRow.holds Try.pinned (OpenSpec.ofChange emitPairsSpec)

/-- ITS FALSE NEIGHBOUR: 'it returns false'. Refute it at one input. -/
def emitPairsWrong : ChangeSpec := { name := "emitPairs", fn := fun _ => fun
  | [d1, d2, d3, d4] => { results := [.lit (.bool false)], args := [d1, d2, d3, d4] }
  | _ => none }
def EmitPairsWrongFalsely : Prop := emitPairsRow.holds Try.pinned (OpenSpec.ofChange emitPairsWrong)

/-- 'forerunnerlaw12.EmitPlaces': WHATEVER THE INPUT: true; the input reads as it did. -/
def emitPlacesSpec : ChangeSpec := { name := "emitPlaces", fn := fun _ => fun
  | [d1, d2, d3, d4, d5, d6] => { results := [.lit (.bool true)], args := [d1, d2, d3, d4, d5, d6] }
  | _ => none }
def emitPlacesRow : OpenClaim := { program := "ytcaibahniheohaa", sum := "6d784faebd7c3844f22aeb05275da6a29dfb970dde76235d4aeba280984dbfd7", func := "forerunner/forerunnerlaw12.EmitPlaces", spec := "emitPlaces", unfollowed := true, recurses := true, apart := false }
def EmitPlacesSaid : Prop := emitPlacesRow.holds Try.pinned (OpenSpec.ofChange emitPlacesSpec)

/-- ITS FALSE NEIGHBOUR: 'it returns false'. Refute it at one input. -/
def emitPlacesWrong : ChangeSpec := { name := "emitPlaces", fn := fun _ => fun
  | [d1, d2, d3, d4, d5, d6] => { results := [.lit (.bool false)], args := [d1, d2, d3, d4, d5, d6] }
  | _ => none }
def EmitPlacesWrongFalsely : Prop := emitPlacesRow.holds Try.pinned (OpenSpec.ofChange emitPlacesWrong)

/-- 'forerunnerlaw12.EmitEach': WHATEVER THE INPUT: true; the input reads as it did. -/
def emitEachSpec : ChangeSpec := { name := "emitEach", fn := fun _ => fun
  | [d] => { results := [.lit (.bool true)], args := [d] }
  | _ => none }
def emitEachRow : OpenClaim := { program := "ytcaibahniheohaa", sum := "6d784faebd7c3844f22aeb05275da6a29dfb970dde76235d4aeba280984dbfd7", func := "forerunner/forerunnerlaw12.EmitEach", spec := "emitEach", unfollowed := true, recurses := true, apart := false }
def EmitEachSaid : Prop := emitEachRow.holds Try.pinned (OpenSpec.ofChange emitEachSpec)

/-- ITS FALSE NEIGHBOUR: 'it returns false'. Refute it at one input. -/
def emitEachWrong : ChangeSpec := { name := "emitEach", fn := fun _ => fun
  | [d] => { results := [.lit (.bool false)], args := [d] }
  | _ => none }
def EmitEachWrongFalsely : Prop := emitEachRow.holds Try.pinned (OpenSpec.ofChange emitEachWrong)

/- THE SECOND FORM. 'bulk': how many values and letters a reading holds, each counted each time it is reached (what is shared counts as often as it is met; a slice's spare places count too). A statement '..UptoSaid' is the law's where the arguments, and the package variables that the reading takes, are together of bulk at most 1048576: NARROWER than '..Said'. Prove '..Said' where nothing that the law and all that it calls make is longer than what came in: it says more and counts as full. Else prove '..UptoSaid'. A law counts once. -/
mutual
def uptoBulk {H : Type} : DataW H → Nat
  | .lit (.string bytes) => bytes.length + 1
  | .lit _ => 1
  | .nil => 1
  | .ptr d => uptoBulk d + 1
  | .slice elems spare => uptoBulkAll elems + uptoBulkAll spare + 1
  | .agg parts => uptoBulkAll parts + 1
  | .iface _ d => uptoBulk d + 1
  | .map entries => uptoBulkEntries entries + 1
  | .held _ => 1
def uptoBulkAll {H : Type} : List (DataW H) → Nat
  | [] => 0
  | d :: r => uptoBulk d + uptoBulkAll r
def uptoBulkEntries {H : Type} : List (Lit × DataW H) → Nat
  | [] => 0
  | x :: r => uptoBulkEntry x + uptoBulkEntries r
def uptoBulkEntry {H : Type} : Lit × DataW H → Nat
  | (.string bytes, d) => bytes.length + uptoBulk d + 1
  | (_, d) => uptoBulk d + 1
 end
def uptoSmall : (H : Type) → List (DataW H) → Bool := fun _ ds => decide (uptoBulkAll ds ≤ 1048576)
def OpenSpec.upto (s : _root_.Go.ChangeSpec) : _root_.Go.OpenSpec := { _root_.Go.OpenSpec.ofChange s with cond := some uptoSmall }

/-- 'forerunnerlaw12.EmitTells', WHERE WHAT IT READS IS OF BULK AT MOST 1048576: true; the input reads as it did. -/
def emitTellsUptoRow : OpenClaim := { program := "ytcaibahniheohaa", sum := "6d784faebd7c3844f22aeb05275da6a29dfb970dde76235d4aeba280984dbfd7", func := "forerunner/forerunnerlaw12.EmitTells", spec := "emitTells", unfollowed := true, recurses := true, apart := false, narrowed := true }
def EmitTellsUptoSaid : Prop := emitTellsUptoRow.holds Try.pinned (OpenSpec.upto emitTellsSpec)

/-- 'forerunnerlaw12.EmitPairs', WHERE WHAT IT READS IS OF BULK AT MOST 1048576: true; the input reads as it did. -/
def emitPairsUptoRow : OpenClaim := { program := "ytcaibahniheohaa", sum := "6d784faebd7c3844f22aeb05275da6a29dfb970dde76235d4aeba280984dbfd7", func := "forerunner/forerunnerlaw12.EmitPairs", spec := "emitPairs", unfollowed := true, recurses := true, apart := false, narrowed := true }
def EmitPairsUptoSaid : Prop := emitPairsUptoRow.holds Try.pinned (OpenSpec.upto emitPairsSpec)

/-- 'forerunnerlaw12.EmitPlaces', WHERE WHAT IT READS IS OF BULK AT MOST 1048576: true; the input reads as it did. -/
def emitPlacesUptoRow : OpenClaim := { program := "ytcaibahniheohaa", sum := "6d784faebd7c3844f22aeb05275da6a29dfb970dde76235d4aeba280984dbfd7", func := "forerunner/forerunnerlaw12.EmitPlaces", spec := "emitPlaces", unfollowed := true, recurses := true, apart := false, narrowed := true }
def EmitPlacesUptoSaid : Prop := emitPlacesUptoRow.holds Try.pinned (OpenSpec.upto emitPlacesSpec)

/-- 'forerunnerlaw12.EmitEach', WHERE WHAT IT READS IS OF BULK AT MOST 1048576: true; the input reads as it did. -/
def emitEachUptoRow : OpenClaim := { program := "ytcaibahniheohaa", sum := "6d784faebd7c3844f22aeb05275da6a29dfb970dde76235d4aeba280984dbfd7", func := "forerunner/forerunnerlaw12.EmitEach", spec := "emitEach", unfollowed := true, recurses := true, apart := false, narrowed := true }
def EmitEachUptoSaid : Prop := emitEachUptoRow.holds Try.pinned (OpenSpec.upto emitEachSpec)

end Rows
end Go.Proofs.Ytcaibahniheohaa

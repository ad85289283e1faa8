/-
  No cell of these rows narrows 'for every input' (looked for: loops, veiled, ifaces, maps, wideKeys, modest, calm, conditions, laid).
  DERIVED. THE GIVEN ROWS OF THIS SEAT. 4 by the template 'for every input the law returns true; each argument reads behind the call as it read before'; 0 by the template 'total and deterministic' (their statements: YtjkijjbakocilaaTotals.lean).
  GIVEN WITH THE SEED: the statements are not yours to turn. If you find one false, say at which input.
  Laid BY PROGRAM, IN A SANDBOX (cutbox-rows.mjs): the forced cells as the released guide's own fill.sh prints them over the translation ad394981cde59139… (all of the seat's roots in one cut). By AI agents, Wed Nov 11 2026. No macro, syntax, notation, axiom, sorry.
-/
import Derived.Test.YtjkijjbakocilaaChecked
import GoSem.Claim
import GoSem.ClaimJoined
import GoSem.ClaimMapViews
import Derived.JoinedTies
import Derived.KernelRfl
namespace Go.Proofs.Ytjkijjbakocilaa
/- THE CELL 'sum', in the pinned program and in every row, IS THE sha256 OF THE DUMP (.gsa) THAT YtjkijjbakocilaaProg.lean LOADS. Nothing in Lean hashes anything: it is a label: what it is worth is what the hold of that sum in a sandbox is worth. -/
noncomputable def Try.pinned : Pinned := { name := "ytjkijjbakocilaa", sum := "ad394981cde591392c9700ef73b3cfe7e813ca882872df92f5f6ae580753537f", checked := Try.checked }
namespace Rows
def none {H : Type} : Left H := { results := [], args := [] }

/-- 'forerunnerlaw17.SaqTells': WHATEVER THE INPUT: true; the input reads as it did. -/
def saqTellsSpec : ChangeSpec := { name := "saqTells", fn := fun _ => fun
  | [d1, d2, d3, d4, d5, d6, d7] => { results := [.lit (.bool true)], args := [d1, d2, d3, d4, d5, d6, d7] }
  | _ => none }
def saqTellsRow : OpenClaim := { program := "ytjkijjbakocilaa", sum := "ad394981cde591392c9700ef73b3cfe7e813ca882872df92f5f6ae580753537f", func := "forerunner/forerunnerlaw17.SaqTells", spec := "saqTells", apart := false }
def SaqTellsSaid : Prop := saqTellsRow.holds Try.pinned (OpenSpec.ofChange saqTellsSpec)

/-- ITS FALSE NEIGHBOUR: 'it returns false'. Refute it at one input. -/
def saqTellsWrong : ChangeSpec := { name := "saqTells", fn := fun _ => fun
  | [d1, d2, d3, d4, d5, d6, d7] => { results := [.lit (.bool false)], args := [d1, d2, d3, d4, d5, d6, d7] }
  | _ => none }
def SaqTellsWrongFalsely : Prop := saqTellsRow.holds Try.pinned (OpenSpec.ofChange saqTellsWrong)

/-- 'forerunnerlaw17.SaqLast': WHATEVER THE INPUT: true; the input reads as it did. -/
def saqLastSpec : ChangeSpec := { name := "saqLast", fn := fun _ => fun
  | [d1, d2, d3] => { results := [.lit (.bool true)], args := [d1, d2, d3] }
  | _ => none }
def saqLastRow : OpenClaim := { program := "ytjkijjbakocilaa", sum := "ad394981cde591392c9700ef73b3cfe7e813ca882872df92f5f6ae580753537f", func := "forerunner/forerunnerlaw17.SaqLast", spec := "saqLast", apart := false }
def SaqLastSaid : Prop := saqLastRow.holds Try.pinned (OpenSpec.ofChange saqLastSpec)

/-- ITS FALSE NEIGHBOUR: 'it returns false'. Refute it at one input. -/
def saqLastWrong : ChangeSpec := { name := "saqLast", fn := fun _ => fun
  | [d1, d2, d3] => { results := [.lit (.bool false)], args := [d1, d2, d3] }
  | _ => none }
def SaqLastWrongFalsely : Prop := saqLastRow.holds Try.pinned (OpenSpec.ofChange saqLastWrong)

/-- 'forerunnerlaw17.SaqReads': WHATEVER THE INPUT: true; the input reads as it did. -/
def saqReadsSpec : ChangeSpec := { name := "saqReads", fn := fun _ => fun
  | [d1, d2, d3] => { results := [.lit (.bool true)], args := [d1, d2, d3] }
  | _ => none }
def saqReadsRow : OpenClaim := { program := "ytjkijjbakocilaa", sum := "ad394981cde591392c9700ef73b3cfe7e813ca882872df92f5f6ae580753537f", func := "forerunner/forerunnerlaw17.SaqReads", spec := "saqReads", apart := false }
def SaqReadsSaid : Prop := saqReadsRow.holds Try.pinned (OpenSpec.ofChange saqReadsSpec)

/-- ITS FALSE NEIGHBOUR: 'it returns false'. Refute it at one input. -/
def saqReadsWrong : ChangeSpec := { name := "saqReads", fn := fun _ => fun
  | [d1, d2, d3] => { results := [.lit (.bool false)], args := [d1, d2, d3] }
  | _ => none }
def SaqReadsWrongFalsely : Prop := saqReadsRow.holds Try.pinned (OpenSpec.ofChange saqReadsWrong)

/-- 'forerunnerlaw17.SaqMasks': WHATEVER THE INPUT: true; the input reads as it did. -/
def saqMasksSpec : ChangeSpec := { name := "saqMasks", fn := fun _ => fun
  | [d1, d2, d3] => { results := [.lit (.bool true)], args := [d1, d2, d3] }
  | _ => none }
def saqMasksRow : OpenClaim := { program := "ytjkijjbakocilaa", sum := "ad394981cde591392c9700ef73b3cfe7e813ca882872df92f5f6ae580753537f", func := "forerunner/forerunnerlaw17.SaqMasks", spec := "saqMasks", apart := false }
def SaqMasksSaid : Prop := saqMasksRow.holds Try.pinned (OpenSpec.ofChange saqMasksSpec)

/-- ITS FALSE NEIGHBOUR: 'it returns false'. Refute it at one input. -/
def saqMasksWrong : ChangeSpec := { name := "saqMasks", fn := fun _ => fun
  | [d1, d2, d3] => { results := [.lit (.bool false)], args := [d1, d2, d3] }
  | _ => none }
def SaqMasksWrongFalsely : Prop := saqMasksRow.holds Try.pinned (OpenSpec.ofChange saqMasksWrong)

/- THE SECOND FORM. 'bulk': how many values and letters a reading holds, each counted each time it is reached (what is shared counts as often as it is met; a slice's spare places count too). A statement '..UptoSaid' is the law's where the arguments, and the package variables that the reading takes, are together of bulk at most 1048576: NARROWER than '..Said'. Prove '..Said' where nothing that the law and all that it calls make is longer than what came in: it says more and counts as full. Else prove '..UptoSaid'. A law counts once. -/
mutual
def uptoBulk {H : Type} : DataW H → Nat
  | .lit (.string bytes) => bytes.length + 1
  | .lit _ => 1
  | .nil => 1
  | .ptr d => uptoBulk d + 1
  | .slice elems spare => uptoBulkAll elems + uptoBulkAll spare + 1
  | .agg parts => uptoBulkAll parts + 1
  | .iface _ d => uptoBulk d + 1
  | .map entries => uptoBulkEntries entries + 1
  | .held _ => 1
def uptoBulkAll {H : Type} : List (DataW H) → Nat
  | [] => 0
  | d :: r => uptoBulk d + uptoBulkAll r
def uptoBulkEntries {H : Type} : List (Lit × DataW H) → Nat
  | [] => 0
  | x :: r => uptoBulkEntry x + uptoBulkEntries r
def uptoBulkEntry {H : Type} : Lit × DataW H → Nat
  | (.string bytes, d) => bytes.length + uptoBulk d + 1
  | (_, d) => uptoBulk d + 1
 end
def uptoSmall : (H : Type) → List (DataW H) → Bool := fun _ ds => decide (uptoBulkAll ds ≤ 1048576)
def OpenSpec.upto (s : _root_.Go.ChangeSpec) : _root_.Go.OpenSpec := { _root_.Go.OpenSpec.ofChange s with cond := some uptoSmall }

/-- 'forerunnerlaw17.SaqTells', WHERE WHAT IT READS IS OF BULK AT MOST 1048576: true; the input reads as it did. -/
def saqTellsUptoRow : OpenClaim := { program := "ytjkijjbakocilaa", sum := "ad394981cde591392c9700ef73b3cfe7e813ca882872df92f5f6ae580753537f", func := "forerunner/forerunnerlaw17.SaqTells", spec := "saqTells", apart := false, narrowed := true }
def SaqTellsUptoSaid : Prop := saqTellsUptoRow.holds Try.pinned (OpenSpec.upto saqTellsSpec)

/-- 'forerunnerlaw17.SaqLast', WHERE WHAT IT READS IS OF BULK AT MOST 1048576: true; the input reads as it did. -/
def saqLastUptoRow : OpenClaim := { program := "ytjkijjbakocilaa", sum := "ad394981cde591392c9700ef73b3cfe7e813ca882872df92f5f6ae580753537f", func := "forerunner/forerunnerlaw17.SaqLast", spec := "saqLast", apart := false, narrowed := true }
def SaqLastUptoSaid : Prop := saqLastUptoRow.holds Try.pinned (OpenSpec.upto saqLastSpec)

/-- 'forerunnerlaw17.SaqReads', WHERE WHAT IT READS IS OF BULK AT MOST 1048576: true; the input reads as it did. -/
def saqReadsUptoRow : OpenClaim := { program := "ytjkijjbakocilaa", sum := "ad394981cde591392c9700ef73b3cfe7e813ca882872df92f5f6ae580753537f", func := "forerunner/forerunnerlaw17.SaqReads", spec := "saqReads", apart := false, narrowed := true }
def SaqReadsUptoSaid : Prop := saqReadsUptoRow.holds Try.pinned (OpenSpec.upto saqReadsSpec)

/-- 'forerunnerlaw17.SaqMasks', WHERE WHAT IT READS IS OF BULK AT MOST 1048576: true; the input reads as it did. -/
def saqMasksUptoRow : OpenClaim := { program := "ytjkijjbakocilaa", sum := "ad394981cde591392c9700ef73b3cfe7e813ca882872df92f5f6ae580753537f", func := "forerunner/forerunnerlaw17.SaqMasks", spec := "saqMasks", apart := false, narrowed := true }
def SaqMasksUptoSaid : Prop := saqMasksUptoRow.holds Try.pinned (OpenSpec.upto saqMasksSpec)

end Rows
end Go.Proofs.Ytjkijjbakocilaa

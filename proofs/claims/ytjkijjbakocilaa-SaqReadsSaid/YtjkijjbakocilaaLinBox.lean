/- A law of no one program: in a region that draws its order a variable of many cells is read. -/
import Derived.Test.YtjkijjbakocilaaLin
import Derived.Test.YtjkijjbakocilaaBoxes
import Derived.Test.YtjkijjbakocilaaKept
namespace Go.Proofs.Ytjkijjbakocilaa.Words
set_option maxRecDepth 100000
open Go.RowKit
set_option linter.unusedVariables false

section
variable {P : Program} {ops : Array Oper} {rest : List (Option Oper × Bool)} {op : Oper} {a : Act} {Q : Exit → Act → World → Prop} {S : World → Prop} {w : World}
theorem lin_takeB (hS : S w) (hw : Region.wanted op (yielded ops a.tmps) = true) (ty : TypeId) (x : Operand) (ho : op.op = .load ty x)
    (b k : Nat) (hx : a.eval x = .pointer (some ⟨b, k, none⟩)) (l cs : List Value) (hb : ∀ y, S y → Box y b l) (hc : ∀ j v, cs[j]? = some v → l[k + j]? = some v) (d : TypeDesc)
    (hu : P.underlying ty = some d) (hd : d.isRow = true) (n : Nat) (hi : (P.info? ty).map (·.size) = some n) (hn : cs.length = n)
    (h : wpLin P ops Q rest S (a.put op.dst (.agg cs.toArray)) w) : wpLin P ops Q ((some op, true) :: rest) S a w :=
  ⟨S, fun _ h => h, hS, _, yieldsIf_load_mid hw ty x ho b k hx cs d (fun y hy => (hb y hy).range hc) hu hd (by rw [hn]; exact hi), h⟩
end
theorem wholeB {l : List Value} : ∀ j v, l[j]? = some v → l[0 + j]? = some v := fun j v h => by rw [Nat.zero_add]; exact h
theorem Box.keptB {W x : World} {b : Nat} {l : List Value} (h : Box W b l) (hk : Kept W x) : Box x b l := h.below hk h.lt
end Go.Proofs.Ytjkijjbakocilaa.Words

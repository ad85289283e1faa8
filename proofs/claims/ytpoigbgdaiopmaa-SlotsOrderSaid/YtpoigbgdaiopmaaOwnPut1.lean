/- A law of no one program: one cell of a row of the call's own is written; the world behind it has a name of its own. -/
import Derived.Test.YtpoigbgdaiopmaaOwnPut
import Derived.Test.YtpoigbgdaiopmaaBoxPut
namespace Go.Proofs.Ytpoigbgdaiopmaa.Words
set_option maxRecDepth 100000
open Go.RowKit
set_option linter.unusedVariables false
section
variable {P : Program} {w : World} {ops : Array Oper} {rest : List Oper} {op : Oper} {a : Act} {Q : Exit → Act → World → Prop}
theorem wpList_set_own (hw : Region.wanted op (yielded ops a.tmps) = true) (ty : TypeId) (x y : Operand) (ho : op.op = .store ty x y) (base : Nat) (e : TypeId) (s g n cap : Nat) (xs : List Value) (k : Nat) (u : Value)
    (hx : a.eval x = .pointer (some ⟨g, k, none⟩)) (hy : a.eval y = u) (h1 : u.oneCell' = true) (hO : w.ownsRow base e s (.slice (some ⟨g, 0, none⟩) n cap) n xs) (hk : k < n * s) (hi : (P.info? ty).map (·.size) = some 1)
    (h : ∀ w', w' = w.setCell ⟨g, k, none⟩ u → wpList P ops Q rest (a.put op.dst undef) w') : wpList P ops Q (op :: rest) a w :=
  wpList_step fun K hK => by
    obtain ⟨ys, hb⟩ := own_boxL hO
    rw [if_pos hw]
    unfold Oper.wp execOp
    simp only [ho, hx, hy, Instr.storeAt, Instr.sureAddr, Sem.run_bind, Sem.run_pure, Result.andThen_ok, run_storeVar_one (P := P) g k ty u _ hb (by have := hO.1; simp; omega) hi h1]
    exact hK _ _ (h _ rfl)
end
end Go.Proofs.Ytpoigbgdaiopmaa.Words

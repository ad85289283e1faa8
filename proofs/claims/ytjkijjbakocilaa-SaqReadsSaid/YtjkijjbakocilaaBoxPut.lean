/- A law of no one program: one cell of a variable is written; the world behind it is a variable. -/
import Derived.Test.YtjkijjbakocilaaKeepS
namespace Go.Proofs.Ytjkijjbakocilaa.Words
set_option maxRecDepth 100000
open Go.RowKit
set_option linter.unusedVariables false
theorem cells_one {u : Value} (h : u.oneCell' = true) : u.cells = #[u] := by cases u <;> first | rfl | (simp [Value.oneCell'] at h)
section
variable {P : Program} {w : World} {ops : Array Oper} {rest : List Oper} {op : Oper} {a : Act} {Q : Exit → Act → World → Prop}
theorem run_storeVar_one (b o : Nat) (ty : TypeId) (u : Value) (l : List Value) (hb : Box w b l) (hl : o < l.length) (hi : (P.info? ty).map (·.size) = some 1) (h1 : u.oneCell' = true) :
    (storeVar ty ⟨b, o, none⟩ u).run P w = .ok () (w.setCell ⟨b, o, none⟩ u) := by
  have hc := hb.cell (k := o) (List.getElem?_eq_getElem hl)
  have hf := hb.frozen o
  have hst : (store ⟨b, o, none⟩ u).run P w = .ok () (w.setCell ⟨b, o, none⟩ u) := by
    rw [run_store P w _ u _ h1, hc]
    simp [hf]
  have hadd : (⟨b, o, none⟩ : Addr).add 0 = ⟨b, o, none⟩ := by unfold Addr.add; simp
  cases hq : P.info? ty with
  | none => simp [hq] at hi
  | some i =>
    have hs : i.size = 1 := by simpa [hq] using hi
    simp [storeVar, sizeOf, typeInfo, hq, cells_one h1, hs, storeCells, hadd, hst]
theorem wpList_put_cell (hw : Region.wanted op (yielded ops a.tmps) = true) (ty : TypeId) (x y : Operand) (ho : op.op = .store ty x y) (b o : Nat) (u : Value)
    (hx : a.eval x = .pointer (some ⟨b, o, none⟩)) (hy : a.eval y = u) (h1 : u.oneCell' = true) (l : List Value) (hb : Box w b l) (hl : o < l.length) (hi : (P.info? ty).map (·.size) = some 1)
    (h : ∀ w', Box w' b (l.set o u) → w.grownBy w' (some b) → wpList P ops Q rest (a.put op.dst undef) w') : wpList P ops Q (op :: rest) a w :=
  wpList_step fun K hK => by
    rw [if_pos hw]
    unfold Oper.wp execOp
    simp only [ho, hx, hy, Instr.storeAt, Instr.sureAddr, Sem.run_bind, Sem.run_pure, Result.andThen_ok, run_storeVar_one (P := P) b o ty u l hb hl hi h1]
    exact hK _ _ (h _ (hb.setCell o u) (grown_setCell w b o u hb.lt))
end
end Go.Proofs.Ytjkijjbakocilaa.Words

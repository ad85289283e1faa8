/- A part appended to a parser's: what the region that does it leaves; a struct read in a region walked as a tree. -/
import Derived.Test.YtimdojeagkbgbaaDoorAsmField
import Derived.Test.YtimdojeagkbgbaaDoorLinT
namespace Go.Proofs.YtimdojeagkbgbaaDoor.Words
set_option maxRecDepth 100000
open Go.RowKit Go.Shelf Go.Lib
set_option linter.unusedVariables false

section
variable {P : Program} {ops : Array Oper} {rest : LinO} {o : Oper} {a : Act} {Q : Exit → Act → World → Prop} {R : Act → World → Prop} {S : World → Prop} {w : World}
theorem tree_get_box (hS : S w) (hw : Region.wanted o (yielded ops a.tmps) = true) (ty : TypeId) (x : Operand) (ho : o.op = .load ty x)
    (b k : Nat) (hx : a.eval x = .pointer (some ⟨b, k, none⟩)) (l cs : List Value) (hb : ∀ y, S y → Box y b l) (hc : ∀ j v, cs[j]? = some v → l[k + j]? = some v) (d : TypeDesc)
    (hu : P.underlying ty = some d) (hd : d.isRow = true) (n : Nat) (hi : (P.info? ty).map (·.size) = some n) (hn : cs.length = n)
    (h : wpT P ops Q R rest S (a.put o.dst (.agg cs.toArray)) w) : wpT P ops Q R (.one (some o) true rest) S a w :=
  ⟨S, fun _ h => h, hS, _, yieldsIf_load_mid hw ty x ho b k hx cs d (fun y hy => (hb y hy).range hc) hu hd (by rw [hn]; exact hi), h⟩
end
theorem row_part (w : World) (z : PartZ) (t : TypeId) : Row (w.alloc (.cells (partL z).toArray t)) (w.heap.size + 1) 13 (.slice (some ⟨w.heap.size, 0, none⟩) 1 1) 1 (partL z) := by
  refine ⟨rfl, _, _, rfl, Nat.le_refl _, by omega, (fun h => by cases h), fun _ => ⟨w.heap.size, 0, rfl, Nat.lt_succ_self _, fun j u hu => ?_⟩⟩
  have := new_cells w (partL z).toArray t (partL z) rfl j u hu
  rwa [add_spot] at this
theorem size_part : (Tryd.prog.info? 77).map (·.size) = some 13 := by kernel_rfl
theorem Par.frozen {w : World} {b e : Nat} {r : List Tok} {vp : Value} {ps : List PartZ} (h : Par w b e r vp ps) (k : Nat) : w.frozen? ⟨b, k, none⟩ = false := by obtain ⟨_, _, h, _⟩ := h; exact h.frozen k
theorem Par.parts {w : World} {b e : Nat} {r : List Tok} {vp : Value} {ps : List PartZ} (h : Par w b e r vp ps) : w.cell? ⟨b, 3, none⟩ = some vp := by obtain ⟨_, _, h, _⟩ := h; exact h.cell (k := 3) rfl
theorem Par.form {w : World} {b e : Nat} {r : List Tok} {vp : Value} {ps : List PartZ} (h : Par w b e r vp ps) : ∃ A c, vp = .slice A ps.length c := (Row.of_own h.own).form
theorem Par.not {w : World} {b e : Nat} {r : List Tok} {vp : Value} {ps : List PartZ} (h : Par w b e r vp ps) {x : Nat} (hx : w.heap.size ≤ x) : vp.ownBlock ≠ some x := fun e => by have := (h.own.lt x e).2; omega
/-- A part more. -/
theorem Par.app {X y : World} {b e : Nat} {r : List Tok} {vp v3 : Value} {ps : List PartZ} {z : PartZ} {o : Obj} {cells : List Value} (h : Par X b e r vp ps) (hg : (X.alloc o).grownBy y vp.ownBlock) (ho : y.ownsRow (b + 1) 77 13 v3 (ps.length + 1) (partsL ps ++ cells)) (hc : cells = partL z) :
    Par (y.setCell ⟨b, 3, none⟩ v3) b e r v3 (ps ++ [z]) ∧ Below b X (y.setCell ⟨b, 3, none⟩ v3) := by
  subst hc
  have hlt := h.lt
  have hob : ∀ k, vp.ownBlock = some k → b + 1 ≤ k := fun k hk => (h.own.lt k hk).1
  obtain ⟨vt, vn, h1, h2, h3, h4, h5⟩ := h
  have hB : Below b X y := ((Below.refl b X).alloc (Nat.le_of_lt hlt) o).grown hg (by simp; omega) (fun k hk => by have := hob k hk; omega)
  have hB2 : Below b X (y.setCell ⟨b, 3, none⟩ v3) := hB.setCell (Nat.le_refl _) _
  refine ⟨⟨vt, vn, ?_, h2.below hB2, h3.below hB2, ?_, h5⟩, hB2⟩
  · exact ((h1.alloc o).grown hg (fun e => by have := hob b e.symm; omega)).setCell 3 v3
  · rw [partsL_append, partsL_one, List.length_append]
    exact ownsRow_setCell_below ho (a := ⟨b, 3, none⟩) (Nat.lt_succ_self b) v3
end Go.Proofs.YtimdojeagkbgbaaDoor.Words

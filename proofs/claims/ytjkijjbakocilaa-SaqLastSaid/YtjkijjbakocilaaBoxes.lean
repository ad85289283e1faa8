/- Laws of no one program: a variable of many cells (a struct, an array) as ONE block whose cells are a list that need not be written out: read whole or in part, written whole or in part; the world behind a write is a variable. -/
import Derived.Test.YtjkijjbakocilaaRowCopy
import Derived.Deep.MidRow
import Derived.Deep.Upon
import Derived.Laws.ResultCell
namespace Go.Proofs.Ytjkijjbakocilaa.Words
set_option maxRecDepth 100000
open Go.RowKit
set_option linter.unusedVariables false

/-- Block b holds the cells l, and may be written. -/
def Box (w : World) (b : Nat) (l : List Value) : Prop := ∃ t, w.heap[b]? = some (.cells l.toArray t (0, 0))
section
variable {w w' : World} {b : Nat} {l : List Value}
theorem Box.new (w : World) (l : List Value) (t : TypeId) : Box (w.alloc (.cells l.toArray t)) w.heap.size l := ⟨t, heap_alloc_new w _⟩
theorem Box.lt (h : Box w b l) : b < w.heap.size := by obtain ⟨t, h⟩ := h; exact (Array.getElem?_eq_some_iff.1 h).1
theorem Box.cell (h : Box w b l) {k : Nat} {v : Value} (hk : l[k]? = some v) : w.cell? ⟨b, k, none⟩ = some v := by
  obtain ⟨t, h⟩ := h
  rw [cell_of_row w b k _ t (0, 0) h]; simpa using hk
theorem Box.frozen (h : Box w b l) (k : Nat) : w.frozen? ⟨b, k, none⟩ = false := by
  obtain ⟨t, h⟩ := h
  simp [World.frozen?, h]
theorem Box.range (h : Box w b l) {o : Nat} {cs : List Value} (hc : ∀ j v, cs[j]? = some v → l[o + j]? = some v) : w.rangeAt b o cs := fun j v hv => h.cell (hc j v hv)
theorem Box.whole (h : Box w b l) : w.rangeAt b 0 l := h.range (fun j v hv => by rw [Nat.zero_add]; exact hv)
theorem Box.there (h : Box w b l) {o n : Nat} (hn : o + n ≤ l.length) : w.there b o n := fun j hj => by
  refine ⟨?_, h.frozen _⟩
  rw [h.cell (List.getElem?_eq_getElem (show o + j < l.length by omega))]; rfl
theorem Box.below {B : Nat} (h : Box w b l) (hb : Below B w w') (hB : b < B) : Box w' b l := by
  obtain ⟨t, h⟩ := h
  exact ⟨t, (hb.block b hB).trans h⟩
theorem Box.grown {row : Option Nat} (h : Box w b l) (hg : w.grownBy w' row) (hne : some b ≠ row) : Box w' b l := by
  have := h.lt
  obtain ⟨t, h⟩ := h
  exact ⟨t, (hg.block b this hne).trans h⟩
theorem Box.alloc (h : Box w b l) (o : Obj) : Box (w.alloc o) b l := by
  have := h.lt
  obtain ⟨t, h⟩ := h
  exact ⟨t, (heap_alloc_old w o this).trans h⟩
theorem Box.drew (h : Box w b l) : Box w.drew b l := h
theorem Box.drewN (h : Box w b l) (k : Nat) : Box (w.drewN k) b l := h
theorem Box.setCell (h : Box w b l) (k : Nat) (v : Value) : Box (w.setCell ⟨b, k, none⟩ v) b (l.set k v) := by
  obtain ⟨t, h⟩ := h
  refine ⟨t, ?_⟩
  unfold World.setCell
  simp only [Array.getElem?_modify, if_pos, h]
  simp
theorem Box.setCell_other (h : Box w b l) {b' : Nat} (hne : b ≠ b') (k : Nat) (v : Value) : Box (w.setCell ⟨b', k, none⟩ v) b l := by
  obtain ⟨t, h⟩ := h
  refine ⟨t, ?_⟩
  unfold World.setCell
  simp only [Array.getElem?_modify, if_neg (show ¬ b' = b from fun e => hne e.symm), h]
theorem Box.setCells : ∀ {vs : List Value} {o : Nat} {w : World} {l : List Value}, Box w b l → o + vs.length ≤ l.length → Box (w.setCells b o vs) b (splice l o vs)
  | [], o, w, l, h, hl => by rw [splice_nil]; exact h
  | v :: r, o, w, l, h, hl => by
    have hl' : o < l.length := by simp at hl; omega
    rw [World.setCells, splice_cons _ _ _ _ hl']
    exact Box.setCells (h.setCell o v) (by simp at hl ⊢; omega)
theorem grown_setCell (w : World) (b k : Nat) (v : Value) (hb : b < w.heap.size) : w.grownBy (w.setCell ⟨b, k, none⟩ v) (some b) :=
  ⟨rfl, rfl, rfl, by simp [World.setCell], fun i hi hne => by unfold World.setCell; simp only [Array.getElem?_modify, if_neg (show ¬ b = i from fun e => hne (by rw [e]))]⟩
theorem grown_setCells (w : World) (b : Nat) (vs : List Value) (o : Nat) (hb : b < w.heap.size) : w.grownBy (w.setCells b o vs) (some b) := by
  induction vs generalizing o w with
  | nil => exact World.grownBy.refl _ _
  | cons v r ih =>
    rw [World.setCells]
    have h1 := grown_setCell w b o v hb
    have h2 := ih (w.setCell ⟨b, o, none⟩ v) (o + 1) (Nat.lt_of_lt_of_le hb h1.size)
    exact ⟨h2.os.trans h1.os, h2.tape.trans h1.tape, h2.output.trans h1.output, Nat.le_trans h1.size h2.size, fun i hi hne => (h2.block i (Nat.lt_of_lt_of_le hi h1.size) hne).trans (h1.block i hi hne)⟩
end

section
variable {P : Program} {w : World} {ops : Array Oper} {rest : List Oper} {op : Oper} {a : Act} {Q : Exit → Act → World → Prop}

/-- A variable is read, whole or in part. -/
theorem wpList_load_box (hw : Region.wanted op (yielded ops a.tmps) = true) (ty : TypeId) (x : Operand) (ho : op.op = .load ty x)
    (b o : Nat) (hx : a.eval x = .pointer (some ⟨b, o, none⟩)) (l cs : List Value) (hb : Box w b l) (hc : ∀ j v, cs[j]? = some v → l[o + j]? = some v) (d : TypeDesc)
    (hu : P.underlying ty = some d) (hd : d.isRow = true) (n : Nat) (hi : (P.info? ty).map (·.size) = some n) (hn : cs.length = n)
    (h : wpList P ops Q rest (a.put op.dst (.agg cs.toArray)) w) : wpList P ops Q (op :: rest) a w :=
  wpList_step fun K hK => by rw [if_pos hw]; exact wp_load_mid ty x ho b o hx cs d (hb.range hc) hu hd (by rw [hn]; exact hi) (hK _ _ h)
/-- A variable is written, whole or in part. -/
theorem wpList_store_box (hw : Region.wanted op (yielded ops a.tmps) = true) (ty : TypeId) (x y : Operand) (ho : op.op = .store ty x y)
    (b o : Nat) (cs : List Value) (hx : a.eval x = .pointer (some ⟨b, o, none⟩)) (hy : a.eval y = .agg cs.toArray) (l : List Value) (hb : Box w b l) (hl : o + cs.length ≤ l.length)
    (n : Nat) (hi : (P.info? ty).map (·.size) = some n) (hn : cs.length = n) (h1 : ∀ v ∈ cs, v.oneCell' = true)
    (h : ∀ w', Box w' b (splice l o cs) → w.grownBy w' (some b) → wpList P ops Q rest (a.put op.dst undef) w') : wpList P ops Q (op :: rest) a w :=
  wpList_step fun K hK => by rw [if_pos hw]; exact wp_store_mid ty x y ho b o cs.toArray hx hy (hb.there (by simpa using hl)) (by rw [hi]; simp [hn]) (all_oneCell_toArray h1) (hK _ _ <|
    h _ (by simpa using hb.setCells hl) (by simpa using grown_setCells w b cs o hb.lt))
end
/-- What is answered lies in a variable. -/
theorem results_cell {fn : Func} {p : Tmp} {ty : TypeId} (h : fn.results = #[.cell p ty]) (tmps : Array Value) (P : Program) (w : World) (a : Addr) (v : Value) (ht : tmps.getD p undef = .pointer (some a)) (hl : (loadVar ty a).run P w = .ok v w) :
    (results fn tmps).run P w = .ok v w := by
  have ht' : (tmps[p]?).getD undef = .pointer (some a) := by rw [← ht]; simp
  simp only [results, h]
  simp [ht', asAddr, hl]
theorem results_cell_tmp' {fn : Func} {p u : Tmp} {ty : TypeId} (h : fn.results = #[.cell p ty, .tmp u]) (tmps : Array Value) (P : Program) (w : World) (a : Addr) (v x : Value) (ht : tmps.getD p undef = .pointer (some a)) (hl : (loadVar ty a).run P w = .ok v w) (hu : tmps.getD u undef = x) :
    (results fn tmps).run P w = .ok (.tuple #[v, x]) w := by
  rw [results_cell_tmp h, ht, hu]
  simp [Result.andThen, asAddr, hl]
theorem grown_ge {a b c : Nat} (h : some a = some b) (h' : c ≤ a) : c ≤ b := by injection h with h; omega
/-- A cell kept over a call and over a write into another block. -/
theorem cell_over {B b k row : Nat} {v : Value} {x y z : World} (hb : Below B x y) (hg : y.grownBy z (some row)) (hB : b < B) (hsz : B ≤ y.heap.size) (hne : b ≠ row) (hv : x.cell? ⟨b, k, none⟩ = some v) : z.cell? ⟨b, k, none⟩ = some v := by
  have h1 := below_cell hb hB hv
  rw [World.cell?_of_block (a := ⟨b, k, none⟩) (hg.block b (by omega) (fun h => by injection h with h; exact hne h))]
  exact h1
theorem splice_whole {α : Type} (L cs : List α) (h : cs.length = L.length) : splice L 0 cs = cs := by simp [splice, h]
end Go.Proofs.Ytjkijjbakocilaa.Words

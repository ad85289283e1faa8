/- A split as plain data: its blocks with their cells, its owners; what its value reads as. -/
import Derived.Test.YtajiifplkfjnjaaRows
import Derived.Test.YtajiifplkfjnjaaRefSameCel
import Derived.Test.YtajiifplkfjnjaaArrEq
import Derived.Test.YtajiifplkfjnjaaBlkCut
import Derived.Test.YtajiifplkfjnjaaBoxes
namespace Go.Proofs.Ytajiifplkfjnjaa.Words
set_option maxRecDepth 100000
open Go.RowKit
set_option linter.unusedVariables false

/-- A block with its cells. -/
structure BlkC where
  from_ : Int
  to : Int
  next : Int
  taken : Int
  a : List Cel
  e : List Cel
deriving DecidableEq
/-- A block's six cells in memory. -/
structure BlkR where
  from_ : Int
  to : Int
  next : Int
  taken : Int
  va : Value
  ve : Value
def blkRL (r : BlkR) : List Value := [.int .i64 r.from_, .int .i64 r.to, .int .i64 r.next, .int .i64 r.taken, r.va, r.ve]
theorem blkRL_len (r : BlkR) : (blkRL r).length = 6 := rfl
/-- What a block's cells in memory read as. -/
structure BlkV (w : World) (B : Nat) (r : BlkR) (c : BlkC) : Prop where
  from_ : r.from_ = c.from_
  to : r.to = c.to
  next : r.next = c.next
  taken : r.taken = c.taken
  a : Row w B 9 r.va c.a.length (flat celCells c.a)
  e : Row w B 9 r.ve c.e.length (flat celCells c.e)
def BlksV (w : World) (B : Nat) (v : Value) (l : List BlkC) : Prop :=
  ∃ rs : List BlkR, Row w B 6 v l.length (flat blkRL rs) ∧ rs.length = l.length ∧ ∀ (k : Nat) (r : BlkR) (c : BlkC), rs[k]? = some r → l[k]? = some c → BlkV w B r c
section
variable {w w' : World} {B : Nat} {v : Value} {l : List BlkC} {r : BlkR} {c : BlkC}
theorem BlkV.keep (h : BlkV w B r c) (hk : ∀ a : Addr, a.block < B → w'.cell? a = w.cell? a) : BlkV w' B r c := ⟨h.from_, h.to, h.next, h.taken, h.a.keep hk, h.e.keep hk⟩
theorem BlkV.more {B' : Nat} (h : BlkV w B r c) (hB : B ≤ B') : BlkV w B' r c := ⟨h.from_, h.to, h.next, h.taken, h.a.more hB, h.e.more hB⟩
theorem BlksV.keep (h : BlksV w B v l) (hk : ∀ a : Addr, a.block < B → w'.cell? a = w.cell? a) : BlksV w' B v l := by
  obtain ⟨rs, h1, h2, h3⟩ := h
  exact ⟨rs, h1.keep hk, h2, fun k r c hr hc => (h3 k r c hr hc).keep hk⟩
theorem BlksV.more {B' : Nat} (h : BlksV w B v l) (hB : B ≤ B') : BlksV w B' v l := by
  obtain ⟨rs, h1, h2, h3⟩ := h
  exact ⟨rs, h1.more hB, h2, fun k r c hr hc => (h3 k r c hr hc).more hB⟩
theorem BlksV.below (h : BlksV w B v l) (hb : Below B w w') : BlksV w' B v l := h.keep fun _ hp => hb.cell hp
theorem BlksV.alloc (h : BlksV w B v l) (hB : B ≤ w.heap.size) (o : Obj) : BlksV (w.alloc o) B v l := h.keep fun p hp => World.cell?_alloc_lt w o p (by omega)
theorem BlksV.drewN (h : BlksV w B v l) (k : Nat) : BlksV (w.drewN k) B v l := h.keep fun _ _ => rfl
theorem BlksV.form (h : BlksV w B v l) : ∃ A c, v = .slice A l.length c := by
  obtain ⟨rs, h1, _⟩ := h
  exact h1.form
end
/-- Blocks without cells. -/
def bareB (b : Blk) : BlkC := ⟨b.from_, b.to, b.next, b.taken, [], []⟩
theorem BlksV.bare {w : World} {B : Nat} {v : Value} {l : List Blk} (h : Row w B 6 v l.length (flat blkL l)) : BlksV w B v (l.map bareB) := by
  refine ⟨l.map fun b => ⟨b.from_, b.to, b.next, b.taken, .slice none 0 0, .slice none 0 0⟩, ?_, by simp, fun k r c hr hc => ?_⟩
  · rw [List.length_map]
    have : flat blkRL (l.map fun b => (⟨b.from_, b.to, b.next, b.taken, .slice none 0 0, .slice none 0 0⟩ : BlkR)) = flat blkL l := by
      unfold flat
      rw [List.flatMap_map]
      rfl
    rw [this]; exact h
  · rw [List.getElem?_map] at hr hc
    cases hl : l[k]? with
    | none => rw [hl] at hr; cases hr
    | some b =>
      rw [hl] at hr hc
      injection hr with hr
      injection hc with hc
      subst hr hc
      exact ⟨rfl, rfl, rfl, rfl, Row.nil _ _ _, Row.nil _ _ _⟩
/-- A split's seventeen cells. -/
def splV (v : Value) (o : List Int) : List Value := v :: o.map (Value.int .i64)
theorem splV_len {v : Value} {o : List Int} (h : o.length = 16) : (splV v o).length = 17 := by simp [splV, h]
theorem eqIn_own (l m : List Int) (w : World) (hl : l.length = 16) (hm : m.length = 16) : (Op.equalIn 10000 33 (.agg (l.map (Value.int .i64)).toArray) (.agg (m.map (Value.int .i64)).toArray)).run Try.prog w = .ok (decide (l = m)) w := by
  obtain ⟨i, hi, _⟩ := info_parts info_intB
  have hc : Try.prog.cellsOf 3 = 1 := by kernel_rfl
  rw [show (10000 : Nat) = 9999 + 1 from rfl, run_equalIn_array w 9999 _ _ Try.underlying33 hi, hc, show (9999 : Nat) = 9998 + 1 from rfl,
    items_num w 9998 Try.underlying3 l m (List.range 16) (fun i h => by rw [List.mem_range] at h; omega), show (16 : Nat) = l.length from hl.symm, all_getD l m (hl.trans hm.symm)]
theorem neq_own (l m : List Int) (w : World) (hl : l.length = 16) (hm : m.length = 16) : (binOp .neq 33 (.agg (l.map (Value.int .i64)).toArray) (.agg (m.map (Value.int .i64)).toArray)).run Try.prog w = .ok (.bool (!decide (l = m))) w := by
  rw [run_neq_struct, eqIn_own l m w hl hm]
  rfl
end Go.Proofs.Ytajiifplkfjnjaa.Words

/- The block in which package emit makes an instruction's cells, and the document's own maker. -/
import Derived.Test.YtcaibahniheohaaEmtMath
import Derived.Test.YtcaibahniheohaaKeepS
import Derived.Test.YtcaibahniheohaaRegEx
import Derived.LoopTactic
namespace Go.Proofs.Ytcaibahniheohaa.Words
set_option maxRecDepth 100000
open Go.RowKit
set_option linter.unusedVariables false

/-- The twenty-five cells. -/
def cellsL (i : Ins) (z : List Int) (pc off : Int) (va ve : Value) : List Value := insV i ++ (oV z ++ [.int .i64 pc, .int .i64 off, va, ve])
section
variable {i : Ins} {z : List Int} {pc off : Int} {va ve : Value}
theorem cellsL_len (h : z.length = 16) : (cellsL i z pc off va ve).length = 25 := by simp [cellsL, insV, oV, h]
theorem cellsL_ins {k : Nat} {u : Value} (hk : (insV i)[k]? = some u) : (cellsL i z pc off va ve)[0 + k]? = some u := by
  unfold cellsL
  rw [Nat.zero_add, List.getElem?_append_left (by have := (List.getElem?_eq_some_iff.1 hk).1; exact this)]; exact hk
theorem cellsL_own {k : Nat} {u : Value} (hk : (oV z)[k]? = some u) : (cellsL i z pc off va ve)[5 + k]? = some u := by
  unfold cellsL
  rw [List.getElem?_append_right (by simp [insV]), show (5 + k) - (insV i).length = k by simp [insV], List.getElem?_append_left ((List.getElem?_eq_some_iff.1 hk).1)]; exact hk
theorem cellsL_end (h : z.length = 16) (k : Nat) : (cellsL i z pc off va ve)[21 + k]? = [.int .i64 pc, .int .i64 off, va, ve][k]? := by
  unfold cellsL
  rw [List.getElem?_append_right (by simp [insV]; omega), List.getElem?_append_right (by simp [insV, oV, h]; omega)]
  congr 1
  simp [insV, oV, h]; omega
theorem cellsL_a (h : z.length = 16) (v : Value) : (cellsL i z pc off va ve).set 23 v = cellsL i z pc off v ve := by
  unfold cellsL
  rw [List.set_append_right _ _ (by simp [insV]), List.set_append_right _ _ (by simp [insV, oV, h])]
  simp [insV, oV, h]
theorem cellsL_e (h : z.length = 16) (v : Value) : (cellsL i z pc off va ve).set 24 v = cellsL i z pc off va v := by
  unfold cellsL
  rw [List.set_append_right _ _ (by simp [insV]), List.set_append_right _ _ (by simp [insV, oV, h])]
  simp [insV, oV, h]
end
/-- The block b, with A's cells and E's in rows of the call's own behind it; of what stood ahead all stands but S. -/
structure Em (b : Nat) (i : Ins) (z : List Int) (pc off : Int) (S : Nat → Prop) (w0 Z : World) (va ve : Value) (la le : List Cel) : Prop where
  bx : Box Z b (cellsL i z pc off va ve)
  oa : Z.ownsRow (b + 1) 36 9 va la.length (flat celCells la)
  oe : Z.ownsRow (b + 1) 36 9 ve le.length (flat celCells le)
  ne : ∀ g, va.ownBlock = some g → ve.ownBlock ≠ some g
  keep : KeepS S w0 Z
  sb : S b ∨ w0.heap.size ≤ b
  sa : ∀ g, va.ownBlock = some g → S g ∨ w0.heap.size ≤ g
  se : ∀ g, ve.ownBlock = some g → S g ∨ w0.heap.size ≤ g
  hz : z.length = 16
theorem info_cel : (Try.prog.info? 36).map (fun i => (i.zero, i.size, i.bytes)) = some (some (celV ⟨0, noI, 0, 0, 0⟩), 9, 72) := by kernel_rfl
theorem size_cel : (Try.prog.info? 36).map (·.size) = some 9 := by kernel_rfl
section
variable {b : Nat} {i : Ins} {z : List Int} {pc off : Int} {S : Nat → Prop} {w0 Z Y : World} {va ve v' : Value} {la le : List Cel}
theorem Em.lt (h : Em b i z pc off S w0 Z va ve la le) : b < Z.heap.size := h.bx.lt
/-- A step on: what may have turned is S, or new. -/
theorem KeepS.on {S T : Nat → Prop} {x y z : World} (h : KeepS S x y) (g : KeepS T y z) (hT : ∀ k, T k → S k ∨ x.heap.size ≤ k) : KeepS S x z :=
  ⟨g.os.trans h.os, g.tape.trans h.tape, g.output.trans h.output, Nat.le_trans h.size g.size, fun k hk hs => (g.block k (Nat.lt_of_lt_of_le hk h.size) (fun e => (hT k e).elim hs (fun c => by omega))).trans (h.block k hk hs)⟩
theorem Em.keepS {T : Nat → Prop} (h : Em b i z pc off S w0 Z va ve la le) (hS : KeepS T Z Y) (hs : ∀ j, T j → Z.heap.size ≤ j) : Em b i z pc off S w0 Y va ve la le := by
  have h1 := h.lt
  exact ⟨h.bx.keepS hS (fun e => by have := hs _ e; omega), own_keepS h.oa hS (fun g hg e => by have := (h.oa.lt g hg).2; have := hs _ e; omega), own_keepS h.oe hS (fun g hg e => by have := (h.oe.lt g hg).2; have := hs _ e; omega), h.ne,
    h.keep.on hS (fun k e => .inr (Nat.le_trans h.keep.size (hs k e))), h.sb, h.sa, h.se, h.hz⟩
theorem Em.below (h : Em b i z pc off S w0 Z va ve la le) (hb : Below Z.heap.size Z Y) : Em b i z pc off S w0 Y va ve la le :=
  h.keepS (KeepS.of_below (S := fun _ => False) hb) (fun _ e => e.elim)
theorem Em.alloc (h : Em b i z pc off S w0 Z va ve la le) (o : Obj) : Em b i z pc off S w0 (Z.alloc o) va ve la le := h.below ((Below.refl _ _).alloc (Nat.le_refl _) o)
theorem Em.drew (h : Em b i z pc off S w0 Z va ve la le) : Em b i z pc off S w0 Z.drew va ve la le := h.below (Below.refl _ _).drew
theorem Em.drewN (h : Em b i z pc off S w0 Z va ve la le) (k : Nat) : Em b i z pc off S w0 (Z.drewN k) va ve la le := h.below (Below.drewN_ (Below.refl _ _) k)
theorem Em.from (h : Em b i z pc off S w0 Z va ve la le) : Em b i z pc off (fun j => j = b ∨ va.ownBlock = some j ∨ ve.ownBlock = some j) Z Z va ve la le :=
  ⟨h.bx, h.oa, h.oe, h.ne, KeepS.refl _ _, .inl (.inl rfl), fun g hg => .inl (.inr (.inl hg)), fun g hg => .inl (.inr (.inr hg)), h.hz⟩
theorem Em.to (h : Em b i z pc off S w0 Z va ve la le) {va' ve' : Value} {la' le' : List Cel} (g : Em b i z pc off (fun j => j = b ∨ va.ownBlock = some j ∨ ve.ownBlock = some j) Z Y va' ve' la' le') : Em b i z pc off S w0 Y va' ve' la' le' := by
  have key : ∀ k, (k = b ∨ va.ownBlock = some k ∨ ve.ownBlock = some k) → S k ∨ w0.heap.size ≤ k := by
    rintro k (e | e | e)
    · rw [e]; exact h.sb
    · exact h.sa k e
    · exact h.se k e
  exact ⟨g.bx, g.oa, g.oe, g.ne, h.keep.on g.keep key, h.sb, fun q hq => (g.sa q hq).elim (key q) (fun c => .inr (Nat.le_trans h.keep.size c)), fun q hq => (g.se q hq).elim (key q) (fun c => .inr (Nat.le_trans h.keep.size c)), g.hz⟩
theorem Em.cellPc (h : Em b i z pc off S w0 Z va ve la le) : Z.cell? ⟨b, 21, none⟩ = some (.int .i64 pc) := h.bx.cell (cellsL_end h.hz 0)
theorem Em.cellOff (h : Em b i z pc off S w0 Z va ve la le) : Z.cell? ⟨b, 22, none⟩ = some (.int .i64 off) := h.bx.cell (cellsL_end h.hz 1)
theorem Em.cellA (h : Em b i z pc off S w0 Z va ve la le) : Z.cell? ⟨b, 23, none⟩ = some va := h.bx.cell (cellsL_end h.hz 2)
theorem Em.cellE (h : Em b i z pc off S w0 Z va ve la le) : Z.cell? ⟨b, 24, none⟩ = some ve := h.bx.cell (cellsL_end h.hz 3)
theorem Em.cellR (h : Em b i z pc off S w0 Z va ve la le) {n : Nat} (hn : n ≤ 15) : Z.cell? ⟨b, 5 + n, none⟩ = some (.int .i64 (atO z n)) := h.bx.cell (cellsL_own (oV_at h.hz hn))
theorem Em.cellI (h : Em b i z pc off S w0 Z va ve la le) {k : Nat} {u : Value} (hk : (insV i)[k]? = some u) : Z.cell? ⟨b, k, none⟩ = some u := h.bx.cell (by have := cellsL_ins (z := z) (pc := pc) (off := off) (va := va) (ve := ve) hk; rwa [Nat.zero_add] at this)
theorem boxI {y : World} (h : Box y b (cellsL i z pc off va ve)) {k : Nat} {u : Value} (hk : (insV i)[k]? = some u) : y.cell? ⟨b, k, none⟩ = some u := h.cell (by have := cellsL_ins (z := z) (pc := pc) (off := off) (va := va) (ve := ve) hk; rwa [Nat.zero_add] at this)
theorem Em.frozen (h : Em b i z pc off S w0 Z va ve la le) (k : Nat) : Z.frozen? ⟨b, k, none⟩ = false := h.bx.frozen k
theorem flat_snocL (la : List Cel) (c : Cel) : (flat celCells la ++ celCells c) = flat celCells (la ++ [c]) := (flat_snoc la c).symm
/-- A row elsewhere. -/
theorem row_keepS {S : Nat → Prop} {w w' : World} {B s n c : Nat} {A : Option Addr} {xs : List Value} (h : Row w B s (.slice A n c) n xs) (hB : B ≤ w.heap.size) (hk : KeepS S w w') (hA : ∀ a, A = some a → ¬ S a.block) : Row w' B s (.slice A n c) n xs := by
  obtain ⟨h0, A', c', h1, h2, h3, h4, h5⟩ := h
  injection h1 with e1 _ e2
  subst e1 e2
  refine ⟨h0, _, _, rfl, h2, h3, h4, fun hn => ?_⟩
  obtain ⟨g, o, e, hb, hc⟩ := h5 hn
  exact ⟨g, o, e, hb, fun j u hu => hk.cell (Nat.lt_of_lt_of_le hb hB) (hA _ e) (hc j u hu)⟩
/-- A cell more for A. -/
theorem Em.appA (h : Em b i z pc off S w0 Z va ve la le) {o : Obj} {c : Cel} (hO : Y.ownsRow (b + 1) 36 9 v' (la.length + 1) (flat celCells la ++ celCells c)) (hg : (Z.alloc o).grownBy Y va.ownBlock)
    (hn : ∀ g, v'.ownBlock = some g → va.ownBlock = some g ∨ (Z.alloc o).heap.size ≤ g) :
    Em b i z pc off S w0 (Y.setCell ⟨b, 23, none⟩ v') v' ve (la ++ [c]) le ∧ Y.cell? ⟨b, 23, none⟩ = some va ∧ Y.frozen? ⟨b, 23, none⟩ = false ∧ Box Y b (cellsL i z pc off va ve) ∧ ∃ A k, v' = .slice A (la.length + 1) k := by
  have h1 := h.lt
  have ha := h.alloc o
  have hob : ∀ g, va.ownBlock = some g → b < g := fun g hg => by have := (h.oa.lt g hg).1; omega
  have kg : KeepS (fun j => b < j) (Z.alloc o) Y := KeepS.of_grown hg (fun g e => hob g e)
  have kb : KeepS (fun j => j = b) Y (Y.setCell ⟨b, 23, none⟩ v') := (KeepS.refl (fun j => j = b) Y).setCell rfl 23 _
  have hby : Box Y b (cellsL i z pc off va ve) := ha.bx.keepS kg (fun e => Nat.lt_irrefl _ e)
  have hne' : v'.ownBlock ≠ some b := fun e => by have := (hO.lt _ e).1; omega
  have hne2 : ve.ownBlock ≠ some b := fun e => by have := (h.oe.lt _ e).1; omega
  have oeg := own_grown ha.oe hg (fun g hg2 e => h.ne g e.symm hg2)
  refine ⟨⟨?_, ?_, ownsRow_setCell_other oeg hne2 _, ?_, ?_, h.sb, ?_, h.se, h.hz⟩, hby.cell (cellsL_end h.hz 2), hby.frozen _, hby, ?_⟩
  · have := hby.setCell 23 v'
    rwa [cellsL_a h.hz] at this
  · rw [List.length_append, ← flat_snocL]
    exact ownsRow_setCell_other hO hne' _
  · intro g hg1 hg2
    rcases hn g hg1 with e | e
    · exact h.ne g e hg2
    · have := (h.oe.lt g hg2).2
      simp at e; omega
  · exact (ha.keep.on (KeepS.of_grown (S := fun j => va.ownBlock = some j) hg (fun g e => e)) (fun k e => h.sa k e)).on kb (fun k e => by rw [e]; exact h.sb)
  · intro g hg1
    rcases hn g hg1 with e | e
    · exact h.sa g e
    · exact .inr (Nat.le_trans h.keep.size (Nat.le_trans (by simp) e))
  · obtain ⟨A, k, e⟩ := (Row.of_own hO).form
    exact ⟨A, k, e⟩
/-- A cell more for E. -/
theorem Em.appE (h : Em b i z pc off S w0 Z va ve la le) {o : Obj} {c : Cel} (hO : Y.ownsRow (b + 1) 36 9 v' (le.length + 1) (flat celCells le ++ celCells c)) (hg : (Z.alloc o).grownBy Y ve.ownBlock)
    (hn : ∀ g, v'.ownBlock = some g → ve.ownBlock = some g ∨ (Z.alloc o).heap.size ≤ g) :
    Em b i z pc off S w0 (Y.setCell ⟨b, 24, none⟩ v') va v' la (le ++ [c]) ∧ Y.cell? ⟨b, 24, none⟩ = some ve ∧ Y.frozen? ⟨b, 24, none⟩ = false ∧ Box Y b (cellsL i z pc off va ve) ∧ ∃ A k, v' = .slice A (le.length + 1) k := by
  have h1 := h.lt
  have ha := h.alloc o
  have hob : ∀ g, ve.ownBlock = some g → b < g := fun g hg => by have := (h.oe.lt g hg).1; omega
  have kg : KeepS (fun j => b < j) (Z.alloc o) Y := KeepS.of_grown hg (fun g e => hob g e)
  have kb : KeepS (fun j => j = b) Y (Y.setCell ⟨b, 24, none⟩ v') := (KeepS.refl (fun j => j = b) Y).setCell rfl 24 _
  have hby : Box Y b (cellsL i z pc off va ve) := ha.bx.keepS kg (fun e => Nat.lt_irrefl _ e)
  have hne' : v'.ownBlock ≠ some b := fun e => by have := (hO.lt _ e).1; omega
  have hne2 : va.ownBlock ≠ some b := fun e => by have := (h.oa.lt _ e).1; omega
  have oag := own_grown ha.oa hg (fun g hg1 e => h.ne g hg1 e.symm)
  refine ⟨⟨?_, ownsRow_setCell_other oag hne2 _, ?_, ?_, ?_, h.sb, h.sa, ?_, h.hz⟩, hby.cell (cellsL_end h.hz 3), hby.frozen _, hby, ?_⟩
  · have := hby.setCell 24 v'
    rwa [cellsL_e h.hz] at this
  · rw [List.length_append, ← flat_snocL]
    exact ownsRow_setCell_other hO hne' _
  · intro g hg1 hg2
    rcases hn g hg2 with e | e
    · exact h.ne g hg1 e
    · have := (h.oa.lt g hg1).2
      simp at e; omega
  · exact (ha.keep.on (KeepS.of_grown (S := fun j => ve.ownBlock = some j) hg (fun g e => e)) (fun k e => h.se k e)).on kb (fun k e => by rw [e]; exact h.sb)
  · intro g hg1
    rcases hn g hg1 with e | e
    · exact h.se g e
    · exact .inr (Nat.le_trans h.keep.size (Nat.le_trans (by simp) e))
  · obtain ⟨A, k, e⟩ := (Row.of_own hO).form
    exact ⟨A, k, e⟩
end
end Go.Proofs.Ytcaibahniheohaa.Words

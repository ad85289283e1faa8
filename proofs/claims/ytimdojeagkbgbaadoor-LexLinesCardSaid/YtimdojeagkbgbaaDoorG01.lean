/- Several texts in one: Lin, RowCopy, Boxes, LexData, LexTake, LexTake2, LexSplit. -/
import Derived.Test.YtimdojeagkbgbaaDoorG00
import Derived.Deep.RegionHeld3
import Derived.Laws.CopyOwn
import Derived.Deep.MidRow
import Derived.Deep.Upon
import Derived.Laws.ResultCell

/- A law of no one program: A REGION THAT DRAWS ITS ORDER, WALKED IN ONE ORDER. 'linOk' (reckoned by the kernel) says of an order: an operation that is marked (it only reads) may come up at its time and waits for nobody it could disturb; one that is not marked is alone in being able to come up.
   The condition S on the world may be made stronger on the way ('lin_more'): so what a callee has just made may be read by an operation that Go may carry out later. -/
namespace Go.Proofs.YtimdojeagkbgbaaDoor.Words
set_option maxRecDepth 100000
open Go.RowKit

def linOk (md : Region.Mode) (ops : Array Oper) : List (Nat × Bool) → Array Bool → Bool
  | [], listed => (Region.ready md ops listed).isEmpty
  | (i, true) :: rest, listed => (Region.ready md ops listed).contains i && Region.free md ops listed i && linOk md ops rest (listed.setIfInBounds i true)
  | (i, false) :: rest, listed => (Region.ready md ops listed == [i]) && linOk md ops rest (listed.setIfInBounds i true)

section
variable {P : Program} {ops : Array Oper} {Q : Exit → Act → World → Prop} {md : Region.Mode}

/-- One operation that may turn the world. -/
def linStep (P : Program) (ops : Array Oper) (Q : Exit → Act → World → Prop) (o : Oper) (K : Act → World → Prop) (a : Act) (w : World) : Prop :=
  if Region.wanted o (yielded ops a.tmps) = true then o.wp P a w K Q else K (a.put o.dst undef) w

def wpLin (P : Program) (ops : Array Oper) (Q : Exit → Act → World → Prop) : List (Option Oper × Bool) → (World → Prop) → Act → World → Prop
  | [], _, a, w => Q .normal a w
  | (none, _) :: _, _, _, _ => False
  | (some o, true) :: rest, S, a, w => ∃ S' : World → Prop, (∀ x, S' x → S x) ∧ S' w ∧ ∃ v, YieldsIf P ops S' o v a ∧ wpLin P ops Q rest S' (a.put o.dst v) w
  | (some o, false) :: rest, S, a, w => ∃ S' : World → Prop, (∀ x, S' x → S x) ∧ S' w ∧ linStep P ops Q o (fun a' w' => S' w' ∧ wpLin P ops Q rest S' a' w') a w

theorem held_weaken {S S' : World → Prop} (hS : ∀ x, S' x → S x) : ∀ (fuel : Nat) (listed : Array Bool) (a : Act) (w : World), wpAnyH P md ops Q S' fuel listed a w → wpAnyH P md ops Q S fuel listed a w
  | 0, _, _, _, h => h
  | fuel + 1, _, _, _, h => ⟨h.1, fun i hi => wpOp_mono (fun a' w' h' => ⟨hS _ h'.1, held_weaken hS fuel _ a' w' h'.2⟩) (h.2 i hi)⟩

theorem held_lin (hs : Region.noSelect ops = true) (hQ : ∀ d v c a w, Q (.panic c) (a.put d v) w → Q (.panic c) a w) :
    ∀ (order : List (Nat × Bool)) (listed : Array Bool) (S : World → Prop) (a : Act) (w : World), linOk md ops order listed = true →
      wpLin P ops Q (order.map fun p => (ops[p.1]?, p.2)) S a w → wpAnyH P md ops Q S order.length listed a w
  | [], listed, S, a, w, hok, h => ⟨by simpa [linOk] using hok, h⟩
  | (i, true) :: rest, listed, S, a, w, hok, h => by
    simp only [linOk, Bool.and_eq_true] at hok
    obtain ⟨⟨h1, h2⟩, h3⟩ := hok
    rcases ho : ops[i]? with _ | o
    · simp only [List.map_cons, ho, wpLin] at h
    · simp only [List.map_cons, ho, wpLin] at h
      obtain ⟨S', k1, k2, v, k3, k4⟩ := h
      exact held_weaken k1 _ _ _ _ (wpAnyH_take ho hs h2 h1 (hQ _ _) k3 k2 (held_lin hs hQ rest _ S' _ w h3 k4))
  | (i, false) :: rest, listed, S, a, w, hok, h => by
    simp only [linOk, Bool.and_eq_true, beq_iff_eq] at hok
    obtain ⟨h1, h3⟩ := hok
    rcases ho : ops[i]? with _ | o
    · simp only [List.map_cons, ho, wpLin] at h
    · simp only [List.map_cons, ho, wpLin] at h
      obtain ⟨S', k1, k2, k3⟩ := h
      refine held_weaken k1 _ _ _ _ (wpAnyH_all h1 (by simp) fun j hj => ?_)
      have hji : j = i := by simpa using hj
      subst hji
      unfold wpOp
      simp only [ho]
      unfold linStep at k3
      split at k3
      · rename_i hw
        rw [if_pos hw]
        exact .inl (Oper.wp_mono (fun a' w' hk => ⟨hk.1, held_lin hs hQ rest _ S' a' w' h3 hk.2⟩) k3)
      · rename_i hw
        rw [if_neg hw]
        exact ⟨k3.1, held_lin hs hQ rest _ S' _ _ h3 k3.2⟩

/-- THE REGION. -/
theorem wp_region_lin {id : Nat} {a : Act} {w : World} (order : List (Nat × Bool)) (hm : P.follows .mixedOrders = true) (hs : Region.noSelect ops = true) (hl : order.length = ops.size)
    (hok : linOk .any ops order (Array.replicate ops.size false) = true) (S : World → Prop)
    (h : wpLin P ops (NoPanic Q) (order.map fun p => (ops[p.1]?, p.2)) S a w.drew) : (Code.region id ops true).wp P Q a w := by
  refine wp_region_noPanic (wp_region_held hm (S := S) ?_)
  have hh := held_lin hs (fun _ _ _ _ _ h => h) order _ S a w.drew hok h
  rw [hl] at hh
  exact hh

theorem lin_take {o : Oper} {rest : List (Option Oper × Bool)} {S : World → Prop} {a : Act} {w : World} {v : Value} (hS : S w)
    (hw : Region.wanted o (yielded ops a.tmps) = true) (hy : ∀ x, S x → (execOp a.eval o).run P x = .ok (.value v) x)
    (h : wpLin P ops Q rest S (a.put o.dst v) w) : wpLin P ops Q ((some o, true) :: rest) S a w := ⟨S, fun _ h => h, hS, v, .inl ⟨hw, hy⟩, h⟩
theorem lin_skip {o : Oper} {rest : List (Option Oper × Bool)} {S : World → Prop} {a : Act} {w : World} (hS : S w)
    (hw : Region.wanted o (yielded ops a.tmps) = false) (h : wpLin P ops Q rest S (a.put o.dst undef) w) : wpLin P ops Q ((some o, true) :: rest) S a w := ⟨S, fun _ h => h, hS, undef, .inr ⟨hw, rfl⟩, h⟩
theorem lin_call {o : Oper} {rest : List (Option Oper × Bool)} {S : World → Prop} {a : Act} {w : World} (hS : S w) (hw : Region.wanted o (yielded ops a.tmps) = true)
    (h : ∀ K : Act → World → Prop, Shut (∀ a w, S w → (S w → wpLin P ops Q rest S a w) → K a w) → Oper.wp P o a w K Q) : wpLin P ops Q ((some o, false) :: rest) S a w :=
  ⟨S, fun _ h => h, hS, by unfold linStep; rw [if_pos hw]; exact h _ (fun _ _ h1 h2 => ⟨h1, h2 h1⟩)⟩
theorem lin_more {l : List (Option Oper × Bool)} {S S' : World → Prop} {a : Act} {w : World} (h1 : ∀ x, S' x → S x) (h : wpLin P ops Q l S' a w) : wpLin P ops Q l S a w := by
  rcases l with _ | ⟨⟨o, b⟩, rest⟩
  · exact h
  · rcases o with _ | o
    · exact h
    · cases b
      · obtain ⟨S2, k1, k2⟩ := h
        exact ⟨S2, fun x hx => h1 x (k1 x hx), k2⟩
      · obtain ⟨S2, k1, k2⟩ := h
        exact ⟨S2, fun x hx => h1 x (k1 x hx), k2⟩
theorem lin_done {S : World → Prop} {a : Act} {w : World} (h : Q .normal a w) : wpLin P ops (NoPanic Q) [] S a w := h
end
end Go.Proofs.YtimdojeagkbgbaaDoor.Words

/- Laws of no one program: a part of a row; 'copy' of any row into a row of the call's own, as one operation and in a plain region. -/
namespace Go.Proofs.YtimdojeagkbgbaaDoor.Words
set_option maxRecDepth 100000
open Go.RowKit
set_option linter.unusedVariables false

theorem Row.cut {w : World} {B n c k m : Nat} {b off : Nat} {xs : List Value} (h : Row w B 1 (.slice (some ⟨b, off, none⟩) n c) n xs) (hk : k + m ≤ n) (hm : 0 < n) :
    Row w B 1 (.slice (some ⟨b, off + k, none⟩) m (c - k)) m ((xs.drop k).take m) := by
  have hl : xs.length = n := by have := h.len; omega
  obtain ⟨h2, h3⟩ := h.cap
  obtain ⟨b', off', e, hb, hc⟩ := h.at_ (by omega)
  simp only [Option.some.injEq, Addr.mk.injEq, and_true] at e
  obtain ⟨rfl, rfl⟩ := e
  refine ⟨by simp; omega, _, _, rfl, by omega, by omega, (fun h => by cases h), fun _ => ⟨b, off + k, rfl, hb, fun j u hu => ?_⟩⟩
  have hj : (xs.drop k)[j]? = some u := by
    rw [List.getElem?_take] at hu
    split at hu
    · exact hu
    · cases hu
  rw [List.getElem?_drop] at hj
  rw [show off + k + j = off + (k + j) by omega]
  exact hc _ _ hj

theorem own_block {w : World} {base : Nat} {e : TypeId} {g n cap : Nat} {xs : List Value} (h : w.ownsRow base e 1 (.slice (some ⟨g, 0, none⟩) n cap) n xs) :
    ∃ cur : List Value, w.heap[g]? = some (.cells cur.toArray e (0, 0)) ∧ base ≤ g ∧ n ≤ cap ∧ cap ≤ maxLen ∧ cur.length = cap ∧ cur.take n = xs := by
  rcases h.2 with ⟨h', _⟩ | ⟨g', cap', cur, h', h1, h2, h3, h4, h5, h6⟩
  · simp at h'
  · simp only [Value.slice.injEq, Option.some.injEq, Addr.mk.injEq, and_true, true_and] at h'
    obtain ⟨rfl, rfl⟩ := h'
    exact ⟨cur.toList, by simpa using h2, h1, h3, h4, by simpa using h5, by simpa using h6⟩

theorem take_splice {α : Type} (L : List α) (off n : Nat) (cs : List α) (h : off + cs.length ≤ n) (hn : n ≤ L.length) : (splice L off cs).take n = splice (L.take n) off cs := by
  have e1 : (L.take off).length = off := by simp; omega
  unfold splice
  rw [List.take_append, List.take_of_length_le (by omega : (L.take off).length ≤ n), e1, List.take_append, List.take_of_length_le (by omega : cs.length ≤ n - off), List.take_take, Nat.min_eq_left (by omega : off ≤ n), List.drop_take]
  congr 3; omega

theorem splice_nil {α : Type} (L : List α) (k : Nat) : splice L k [] = L := by simp [splice]
theorem splice_cons {α : Type} (L : List α) (k : Nat) (x : α) (cs : List α) (h : k < L.length) : splice L k (x :: cs) = splice (L.set k x) (k + 1) cs := by
  unfold splice
  rw [List.take_add_one, List.getElem?_set_self h, List.take_set_of_le (Nat.le_refl _), List.drop_set_of_lt (by omega)]
  simp only [Option.toList_some, List.append_assoc, List.cons_append, List.nil_append, List.length_cons]
  rw [show k + (cs.length + 1) = k + 1 + cs.length by omega]

section
variable {P : Program} {w : World}

theorem wp_copy_rows {o : Oper} {a : Act} {K : Act → World → Prop} {Q : Exit → Act → World → Prop} (d s : Operand) (dT sT : TypeId)
    (ho : o.op = .call { callee := .builtin .copy, args := #[d, s], argTypes := #[dT, sT] }) (elem : TypeId) (hu : P.underlying dT = some (.slice elem)) (hsz : (P.info? elem).map (·.size) = some 1)
    (base g n cap off dLen dCap : Nat) (xs : List Value) (hown : w.ownsRow base elem 1 (.slice (some ⟨g, 0, none⟩) n cap) n xs) (hd : a.eval d = .slice (some ⟨g, off, none⟩) dLen dCap)
    (A : Option Addr) (m c B : Nat) (ys : List Value) (hs : a.eval s = .slice A m c) (hr : Row w B 1 (.slice A m c) m ys) (h1 : ∀ v ∈ ys, v.oneCell' = true) (hfit : off + min m dLen ≤ n)
    (h : ∀ w', w'.ownsRow base elem 1 (.slice (some ⟨g, 0, none⟩) n cap) n (splice xs off (ys.take dLen)) → Below g w w' → K (a.put o.dst (goInt ((min m dLen : Nat) : Int))) w') :
    Oper.wp P o a w K Q := by
  obtain ⟨cur, hg, hb, hn, hm, hcl, hx⟩ := own_block hown
  have hl : ys.length = m := by have := hr.len; omega
  have hcs : (ys.take dLen).length = min m dLen := by rw [List.length_take, hl, Nat.min_comm]
  by_cases h0 : min m dLen = 0
  · have hrun := run_copy_none (P := P) w dT sT o.type elem (some ⟨g, off, none⟩) A dLen dCap m c hu hsz h0
    have he : ys.take dLen = [] := List.eq_nil_of_length_eq_zero (hcs.trans h0)
    unfold Oper.wp
    simp [execOp, ho, resolve, invoke, builtin, hd, hs, hrun, Result.andThen]
    have := h w (by rw [he]; simpa [splice] using hown) (Below.refl _ _)
    rw [h0] at this
    exact this
  · obtain ⟨b, o2, rfl, hlt, hc⟩ := hr.at_ (show m ≠ 0 by omega)
    have hcell : ∀ j v, (ys.take dLen)[j]? = some v → w.cell? ((⟨b, o2, none⟩ : Addr).add j) = some v := by
      intro j v hv
      rw [add_spot]
      refine hc j v ?_
      rw [List.getElem?_take] at hv
      split at hv
      · exact hv
      · cases hv
    have hrun := run_copy_row (P := P) w dT sT o.type elem g off dLen dCap ⟨b, o2, none⟩ m c cur.toArray elem (ys.take dLen) hu hsz hg hcs hcell (by simp only [List.size_toArray]; omega) (fun v hv => h1 v (List.mem_of_mem_take hv))
    unfold Oper.wp
    simp [execOp, ho, resolve, invoke, builtin, hd, hs, hrun, Result.andThen]
    have hk : a.put o.dst (goInt (min dLen ys.length : Nat)) = a.put o.dst (goInt ((min m dLen : Nat) : Int)) := by rw [hl, Nat.min_comm]
    have := h (w.setRow g (splice cur off (ys.take dLen)).toArray) (by
      refine ⟨?_, .inr ⟨g, cap, (splice cur off (ys.take dLen)).toArray, rfl, hb, setRow_heap w g _ _ elem _ hg, hn, hm, ?_, ?_⟩⟩
      · have hxl : xs.length = n := by have := hown.1; omega
        rw [length_splice _ _ _ (by rw [hcs]; omega)]; omega
      · simp only [List.size_toArray]; rw [length_splice _ _ _ (by rw [hcs]; omega)]; omega
      · rw [Nat.mul_one]
        show (splice cur off (ys.take dLen)).take n = _
        rw [take_splice _ _ _ _ (by rw [hcs]; omega) (by omega), hx])
      (below_setRow (Below.refl _ _) (Nat.le_refl _) _)
    rw [← hk] at this
    unfold splice at this
    simp only [List.length_take] at this
    exact this

theorem wpList_copy_rows {ops : Array Oper} {rest : List Oper} {o : Oper} {a : Act} {Q : Exit → Act → World → Prop} (hgd : o.guard = none) (d s : Operand) (dT sT : TypeId)
    (ho : o.op = .call { callee := .builtin .copy, args := #[d, s], argTypes := #[dT, sT] }) (elem : TypeId) (hu : P.underlying dT = some (.slice elem)) (hsz : (P.info? elem).map (·.size) = some 1)
    (base g n cap off dLen dCap : Nat) (xs : List Value) (hown : w.ownsRow base elem 1 (.slice (some ⟨g, 0, none⟩) n cap) n xs) (hd : a.eval d = .slice (some ⟨g, off, none⟩) dLen dCap)
    (A : Option Addr) (m c B : Nat) (ys : List Value) (hs : a.eval s = .slice A m c) (hr : Row w B 1 (.slice A m c) m ys) (h1 : ∀ v ∈ ys, v.oneCell' = true) (hfit : off + min m dLen ≤ n)
    (h : ∀ w', w'.ownsRow base elem 1 (.slice (some ⟨g, 0, none⟩) n cap) n (splice xs off (ys.take dLen)) → Below g w w' → wpList P ops Q rest (a.put o.dst (goInt ((min m dLen : Nat) : Int))) w') :
    wpList P ops Q (o :: rest) a w :=
  wpList_plain hgd fun K hK => wp_copy_rows d s dT sT ho elem hu hsz base g n cap off dLen dCap xs hown hd A m c B ys hs hr h1 hfit fun w' h2 h3 => hK _ _ (h w' h2 h3)
end
end Go.Proofs.YtimdojeagkbgbaaDoor.Words

/- Laws of no one program: a variable of many cells (a struct, an array) as ONE block whose cells are a list that need not be written out: read whole or in part, written whole or in part; the world behind a write is a variable. -/
namespace Go.Proofs.YtimdojeagkbgbaaDoor.Words
set_option maxRecDepth 100000
open Go.RowKit
set_option linter.unusedVariables false

/-- Block b holds the cells l, and may be written. -/
def Box (w : World) (b : Nat) (l : List Value) : Prop := ∃ t, w.heap[b]? = some (.cells l.toArray t (0, 0))
section
variable {w w' : World} {b : Nat} {l : List Value}
theorem Box.new (w : World) (l : List Value) (t : TypeId) : Box (w.alloc (.cells l.toArray t)) w.heap.size l := ⟨t, heap_alloc_new w _⟩
theorem Box.lt (h : Box w b l) : b < w.heap.size := by obtain ⟨t, h⟩ := h; exact (Array.getElem?_eq_some_iff.1 h).1
theorem Box.cell (h : Box w b l) {k : Nat} {v : Value} (hk : l[k]? = some v) : w.cell? ⟨b, k, none⟩ = some v := by
  obtain ⟨t, h⟩ := h
  rw [cell_of_row w b k _ t (0, 0) h]; simpa using hk
theorem Box.frozen (h : Box w b l) (k : Nat) : w.frozen? ⟨b, k, none⟩ = false := by
  obtain ⟨t, h⟩ := h
  simp [World.frozen?, h]
theorem Box.range (h : Box w b l) {o : Nat} {cs : List Value} (hc : ∀ j v, cs[j]? = some v → l[o + j]? = some v) : w.rangeAt b o cs := fun j v hv => h.cell (hc j v hv)
theorem Box.whole (h : Box w b l) : w.rangeAt b 0 l := h.range (fun j v hv => by rw [Nat.zero_add]; exact hv)
theorem Box.there (h : Box w b l) {o n : Nat} (hn : o + n ≤ l.length) : w.there b o n := fun j hj => by
  refine ⟨?_, h.frozen _⟩
  rw [h.cell (List.getElem?_eq_getElem (show o + j < l.length by omega))]; rfl
theorem Box.below {B : Nat} (h : Box w b l) (hb : Below B w w') (hB : b < B) : Box w' b l := by
  obtain ⟨t, h⟩ := h
  exact ⟨t, (hb.block b hB).trans h⟩
theorem Box.grown {row : Option Nat} (h : Box w b l) (hg : w.grownBy w' row) (hne : some b ≠ row) : Box w' b l := by
  have := h.lt
  obtain ⟨t, h⟩ := h
  exact ⟨t, (hg.block b this hne).trans h⟩
theorem Box.alloc (h : Box w b l) (o : Obj) : Box (w.alloc o) b l := by
  have := h.lt
  obtain ⟨t, h⟩ := h
  exact ⟨t, (heap_alloc_old w o this).trans h⟩
theorem Box.drew (h : Box w b l) : Box w.drew b l := h
theorem Box.drewN (h : Box w b l) (k : Nat) : Box (w.drewN k) b l := h
theorem Box.setCell (h : Box w b l) (k : Nat) (v : Value) : Box (w.setCell ⟨b, k, none⟩ v) b (l.set k v) := by
  obtain ⟨t, h⟩ := h
  refine ⟨t, ?_⟩
  unfold World.setCell
  simp only [Array.getElem?_modify, if_pos, h]
  simp
theorem Box.setCell_other (h : Box w b l) {b' : Nat} (hne : b ≠ b') (k : Nat) (v : Value) : Box (w.setCell ⟨b', k, none⟩ v) b l := by
  obtain ⟨t, h⟩ := h
  refine ⟨t, ?_⟩
  unfold World.setCell
  simp only [Array.getElem?_modify, if_neg (show ¬ b' = b from fun e => hne e.symm), h]
theorem Box.setCells : ∀ {vs : List Value} {o : Nat} {w : World} {l : List Value}, Box w b l → o + vs.length ≤ l.length → Box (w.setCells b o vs) b (splice l o vs)
  | [], o, w, l, h, hl => by rw [splice_nil]; exact h
  | v :: r, o, w, l, h, hl => by
    have hl' : o < l.length := by simp at hl; omega
    rw [World.setCells, splice_cons _ _ _ _ hl']
    exact Box.setCells (h.setCell o v) (by simp at hl ⊢; omega)
theorem grown_setCell (w : World) (b k : Nat) (v : Value) (hb : b < w.heap.size) : w.grownBy (w.setCell ⟨b, k, none⟩ v) (some b) :=
  ⟨rfl, rfl, rfl, by simp [World.setCell], fun i hi hne => by unfold World.setCell; simp only [Array.getElem?_modify, if_neg (show ¬ b = i from fun e => hne (by rw [e]))]⟩
theorem grown_setCells (w : World) (b : Nat) (vs : List Value) (o : Nat) (hb : b < w.heap.size) : w.grownBy (w.setCells b o vs) (some b) := by
  induction vs generalizing o w with
  | nil => exact World.grownBy.refl _ _
  | cons v r ih =>
    rw [World.setCells]
    have h1 := grown_setCell w b o v hb
    have h2 := ih (w.setCell ⟨b, o, none⟩ v) (o + 1) (Nat.lt_of_lt_of_le hb h1.size)
    exact ⟨h2.os.trans h1.os, h2.tape.trans h1.tape, h2.output.trans h1.output, Nat.le_trans h1.size h2.size, fun i hi hne => (h2.block i (Nat.lt_of_lt_of_le hi h1.size) hne).trans (h1.block i hi hne)⟩
end

section
variable {P : Program} {w : World} {ops : Array Oper} {rest : List Oper} {op : Oper} {a : Act} {Q : Exit → Act → World → Prop}

/-- A variable is read, whole or in part. -/
theorem wpList_load_box (hw : Region.wanted op (yielded ops a.tmps) = true) (ty : TypeId) (x : Operand) (ho : op.op = .load ty x)
    (b o : Nat) (hx : a.eval x = .pointer (some ⟨b, o, none⟩)) (l cs : List Value) (hb : Box w b l) (hc : ∀ j v, cs[j]? = some v → l[o + j]? = some v) (d : TypeDesc)
    (hu : P.underlying ty = some d) (hd : d.isRow = true) (n : Nat) (hi : (P.info? ty).map (·.size) = some n) (hn : cs.length = n)
    (h : wpList P ops Q rest (a.put op.dst (.agg cs.toArray)) w) : wpList P ops Q (op :: rest) a w :=
  wpList_step fun K hK => by rw [if_pos hw]; exact wp_load_mid ty x ho b o hx cs d (hb.range hc) hu hd (by rw [hn]; exact hi) (hK _ _ h)
/-- A variable is written, whole or in part. -/
theorem wpList_store_box (hw : Region.wanted op (yielded ops a.tmps) = true) (ty : TypeId) (x y : Operand) (ho : op.op = .store ty x y)
    (b o : Nat) (cs : List Value) (hx : a.eval x = .pointer (some ⟨b, o, none⟩)) (hy : a.eval y = .agg cs.toArray) (l : List Value) (hb : Box w b l) (hl : o + cs.length ≤ l.length)
    (n : Nat) (hi : (P.info? ty).map (·.size) = some n) (hn : cs.length = n) (h1 : ∀ v ∈ cs, v.oneCell' = true)
    (h : ∀ w', Box w' b (splice l o cs) → w.grownBy w' (some b) → wpList P ops Q rest (a.put op.dst undef) w') : wpList P ops Q (op :: rest) a w :=
  wpList_step fun K hK => by rw [if_pos hw]; exact wp_store_mid ty x y ho b o cs.toArray hx hy (hb.there (by simpa using hl)) (by rw [hi]; simp [hn]) (all_oneCell_toArray h1) (hK _ _ <|
    h _ (by simpa using hb.setCells hl) (by simpa using grown_setCells w b cs o hb.lt))
end
/-- What is answered lies in a variable. -/
theorem results_cell {fn : Func} {p : Tmp} {ty : TypeId} (h : fn.results = #[.cell p ty]) (tmps : Array Value) (P : Program) (w : World) (a : Addr) (v : Value) (ht : tmps.getD p undef = .pointer (some a)) (hl : (loadVar ty a).run P w = .ok v w) :
    (results fn tmps).run P w = .ok v w := by
  have ht' : (tmps[p]?).getD undef = .pointer (some a) := by rw [← ht]; simp
  simp only [results, h]
  simp [ht', asAddr, hl]
theorem results_cell_tmp' {fn : Func} {p u : Tmp} {ty : TypeId} (h : fn.results = #[.cell p ty, .tmp u]) (tmps : Array Value) (P : Program) (w : World) (a : Addr) (v x : Value) (ht : tmps.getD p undef = .pointer (some a)) (hl : (loadVar ty a).run P w = .ok v w) (hu : tmps.getD u undef = x) :
    (results fn tmps).run P w = .ok (.tuple #[v, x]) w := by
  rw [results_cell_tmp h, ht, hu]
  simp [Result.andThen, asAddr, hl]
theorem grown_ge {a b c : Nat} (h : some a = some b) (h' : c ≤ a) : c ≤ b := by injection h with h; omega
/-- A cell kept over a call and over a write into another block. -/
theorem cell_over {B b k row : Nat} {v : Value} {x y z : World} (hb : Below B x y) (hg : y.grownBy z (some row)) (hB : b < B) (hsz : B ≤ y.heap.size) (hne : b ≠ row) (hv : x.cell? ⟨b, k, none⟩ = some v) : z.cell? ⟨b, k, none⟩ = some v := by
  have h1 := below_cell hb hB hv
  rw [World.cell?_of_block (a := ⟨b, k, none⟩) (hg.block b (by omega) (fun h => by injection h with h; exact hne h))]
  exact h1
theorem splice_whole {α : Type} (L cs : List α) (h : cs.length = L.length) : splice L 0 cs = cs := by simp [splice, h]
end Go.Proofs.YtimdojeagkbgbaaDoor.Words

/- Tokens as cells; which blocks a splitter's calls leave as they were. -/
namespace Go.Proofs.YtimdojeagkbgbaaDoor.Words
set_option maxRecDepth 100000
open Go.RowKit Go.Shelf Go.Lib
set_option linter.unusedVariables false

/-- A text of these bytes. -/
abbrev txt (l : List UInt8) : ByteArray := ⟨l.toArray⟩
theorem txt_eq {s : ByteArray} {l : List UInt8} (h : s.data.toList = l) : s = txt l := by
  cases s with
  | mk d => subst h; simp
theorem txt_cut (s : ByteArray) (p n : Nat) : s.extract p (p + n) = txt ((s.data.toList.drop p).take n) := by
  apply txt_eq
  rw [Lib.extract_data, Nat.add_sub_cancel_left]
/-- The four cells of a token. -/
def tokL (t : Tok) : List Value := [.int .i64 t.kind, .int .i64 t.num, .int .i64 (t.at_ : Int), .string (txt t.text)]
def toksL (l : List Tok) : List Value := l.flatMap tokL
theorem toksL_nil : toksL [] = [] := rfl
theorem toksL_cons (i : Tok) (l : List Tok) : toksL (i :: l) = tokL i ++ toksL l := by simp [toksL]
theorem toksL_append (l m : List Tok) : toksL (l ++ m) = toksL l ++ toksL m := by simp [toksL]
theorem toksL_length (l : List Tok) : (toksL l).length = l.length * 4 := by
  induction l with
  | nil => rfl
  | cons i l ih => rw [toksL_cons, List.length_append, ih]; simp [tokL]; omega
theorem tokL_one (i : Tok) : ∀ u ∈ tokL i, u.oneCell' = true := by
  intro u hu
  simp only [tokL, List.mem_cons, List.not_mem_nil, or_false] at hu
  rcases hu with rfl | rfl | rfl | rfl <;> rfl
theorem toksL_at (l : List Tok) (k : Nat) (i : Tok) (h : l[k]? = some i) (j : Nat) (hj : j < 4) : (toksL l)[k * 4 + j]? = (tokL i)[j]? := by
  induction l generalizing k with
  | nil => simp at h
  | cons x l ih =>
    rw [toksL_cons]
    cases k with
    | zero =>
      simp at h; subst h
      rw [List.getElem?_append_left (by simp [tokL]; omega), Nat.zero_mul, Nat.zero_add]
    | succ k =>
      simp at h
      have h5 : (tokL x).length = 4 := rfl
      rw [List.getElem?_append_right (by omega), h5, show (k + 1) * 4 + j - 4 = k * 4 + j by omega]
      exact ih k h
theorem Row.tok {w : World} {B n c : Nat} {b off : Nat} {l : List Tok} (h : Row w B 4 (.slice (some ⟨b, off, none⟩) n c) n (toksL l)) {k : Nat} {i : Tok} (hi : l[k]? = some i) :
    w.cell? ⟨b, off + k * 4, none⟩ = some (.int .i64 i.kind) ∧ w.cell? ⟨b, off + k * 4 + 1, none⟩ = some (.int .i64 i.num) ∧ w.cell? ⟨b, off + k * 4 + 2, none⟩ = some (.int .i64 (i.at_ : Int)) ∧ w.cell? ⟨b, off + k * 4 + 3, none⟩ = some (.string (txt i.text)) := by
  have g : ∀ j u, j < 4 → (tokL i)[j]? = some u → w.cell? ⟨b, off + k * 4 + j, none⟩ = some u := by
    intro j u hj hu
    have := h.cells ⟨b, off, none⟩ rfl (k * 4 + j) u ((toksL_at l k i hi j hj).trans hu)
    rwa [add_spot, ← Nat.add_assoc] at this
  exact ⟨g 0 _ (by omega) rfl, g 1 _ (by omega) rfl, g 2 _ (by omega) rfl, g 3 _ (by omega) rfl⟩
theorem row_one4 (w : World) (a b c d : Value) (t : TypeId) : Row (w.alloc (.cells #[a, b, c, d] t)) (w.heap.size + 1) 4 (.slice (some ⟨w.heap.size, 0, none⟩) 1 1) 1 [a, b, c, d] := by
  refine ⟨rfl, _, _, rfl, Nat.le_refl _, by omega, (fun h => by cases h), fun _ => ⟨w.heap.size, 0, rfl, Nat.lt_succ_self _, fun j u hu => ?_⟩⟩
  have := new_cells w #[a, b, c, d] t [a, b, c, d] rfl j u hu
  rwa [add_spot] at this
theorem info_tok : (Tryd.prog.info? 33).map (fun i => (i.zero, i.size, i.bytes)) = some (some (.agg #[.int .i64 0, .int .i64 0, .int .i64 0, .string ⟨#[]⟩]), 4, 40) := by kernel_rfl

/-- Blocks ahead of b, and those between b and Bt, stand. -/
structure TurnB (b Bt : Nat) (w w' : World) : Prop where
  bel : Below b w w'
  mid : ∀ k, b < k → k < Bt → w'.heap[k]? = w.heap[k]?
section
variable {b Bt : Nat} {w w' w'' : World}
theorem TurnB.refl (b Bt : Nat) (w : World) : TurnB b Bt w w := ⟨Below.refl _ _, fun _ _ _ => rfl⟩
theorem TurnB.trans (h : TurnB b Bt w w') (g : TurnB b Bt w' w'') : TurnB b Bt w w'' := ⟨h.bel.trans g.bel, fun k h1 h2 => (g.mid k h1 h2).trans (h.mid k h1 h2)⟩
theorem TurnB.of_below (h : Below w.heap.size w w') (hB : b ≤ w.heap.size) (hBt : Bt ≤ w.heap.size) : TurnB b Bt w w' := ⟨h.mono hB, fun k _ h2 => h.block k (by omega)⟩
theorem TurnB.setCell (b Bt : Nat) (w : World) (k : Nat) (v : Value) : TurnB b Bt w (w.setCell ⟨b, k, none⟩ v) := ⟨(Below.refl _ _).setCell (p := ⟨b, k, none⟩) (Nat.le_refl _) v, fun j h1 _ => Below.heap_setCell w ⟨b, k, none⟩ v j (by show j ≠ b; omega)⟩
theorem TurnB.grown {row : Option Nat} (h : w.grownBy w' row) (hB : b ≤ w.heap.size) (hBt : Bt ≤ w.heap.size) (hr : ∀ k, row = some k → Bt ≤ k) (hb : b < Bt) : TurnB b Bt w w' :=
  ⟨Below.grown (Below.refl _ _) h hB (fun k hk => by have := hr k hk; omega), fun k _ h2 => h.block k (by omega) (fun e => by have := hr k e.symm; omega)⟩
theorem TurnB.drew (h : TurnB b Bt w w') : TurnB b Bt w w'.drew := ⟨h.bel.drew, h.mid⟩
theorem TurnB.size (h : TurnB b Bt w w') : w.heap.size ≤ w'.heap.size := h.bel.size
end
/-- A splitter's cells. -/
abbrev splL (s : ByteArray) (vt : Value) (bh : Int) (rm : Bool) : List Value := [.string s, vt, .int .i64 bh, .bool rm]

theorem clone_any (s : ByteArray) (w : World) (h : s.size ≤ 281474976710656) : Calls Tryd.prog 66 #[.string s] w fun e w' => e = .returned (.string s) ∧ Below w.heap.size w w' := by
  have c := fun y => Tryd.stringslite_Clone s y h
  go_enter Tryd.func66, Tryd.ntmps66
  go_wp2_with (go_at_call 83; refine (c _).mono ?_; rintro e w1 ⟨rfl, hb⟩)
  go_ret
  exact ⟨rfl, hb⟩

set_option maxHeartbeats 1000000 in
theorem add_any (s : ByteArray) (vt : Value) (bh kind num : Int) (rm : Bool) (p size b Bt : Nat) (t : List Tok) (w : World) (hb : Box w b (splL s vt bh rm)) (hB : b < Bt) (hBt : Bt ≤ w.heap.size)
    (ho : w.ownsRow Bt 33 4 vt t.length (toksL t)) (hp : p + size ≤ s.size) (hs : s.size ≤ 1000000) (ht : t.length ≤ 1000000) :
    Calls Tryd.prog 49 #[.pointer (some ⟨b, 0, none⟩), .int .i64 kind, .int .i64 num, .int .i64 (p : Int), .int .i64 (size : Int)] w fun e w' => e = .returned (.tuple #[]) ∧
      ∃ vt', Box w' b (splL s vt' ((p + size : Nat) : Int) rm) ∧ w'.ownsRow Bt 33 4 vt' (t.length + 1) (toksL (t ++ [⟨kind, num, p, (s.data.toList.drop p).take size⟩])) ∧ TurnB b Bt w w' := by
  have z2 := hb.cell (k := 2) rfl
  have f2 := hb.frozen 2
  have hlt := hb.lt
  have B1 : Hid (Box (w.setCell ⟨b, 2, none⟩ (.int .i64 ((p : Int) + size))) b (splL s vt ((p : Int) + size) rm)) := hb.setCell 2 _
  have O1 := Lib.hid (ownsRow_setCell_below ho (a := ⟨b, 2, none⟩) (show b < Bt from hB) (.int .i64 ((p : Int) + size)))
  have T1 := Lib.hid (TurnB.setCell b Bt w 2 (.int .i64 ((p : Int) + size)))
  have hsz1 : (w.setCell ⟨b, 2, none⟩ (.int .i64 ((p : Int) + size))).heap.size = w.heap.size := by simp [World.setCell]
  have HT := Lib.hid ht
  have hp0 : (0 : Int) ≤ p := by omega
  have hp1 : (0 : Int) ≤ size := by omega
  have hp2 : (p : Int) + size ≤ s.size := by omega
  have hp3 : (s.size : Int) ≤ 1000000 := by omega
  have HCUT := Lib.hid (txt_cut s p size)
  have cC := Lib.hid (fun y => clone_any (s.extract p (p + size)) y (by rw [ByteArray.size_extract]; omega))
  clear hb ho ht
  go_enter Tryd.func49, Tryd.ntmps49
  go_wp2_with fail
  generalize w.setCell ⟨b, 2, none⟩ (.int .i64 ((p : Int) + size)) = w1 at *
  clear z2 f2
  refine wp_region_lin [(0, true), (1, true), (2, true), (3, true), (4, true), (5, true), (6, true), (7, true), (8, true), (9, true), (10, false), (11, true)]
    (by kernel_rfl) (by kernel_rfl) rfl (by kernel_rfl) (fun x => x.cell? ⟨b, 0, none⟩ = some (.string s) ∧ x.cell? ⟨b, 2, none⟩ = some (.int .i64 ((p : Int) + size))) ?_
  simp only [List.map_cons, List.map_nil, List.getElem?_toArray, List.getElem?_cons_succ, List.getElem?_cons_zero]
  have hS : w1.drew.cell? ⟨b, 0, none⟩ = some (.string s) ∧ w1.drew.cell? ⟨b, 2, none⟩ = some (.int .i64 ((p : Int) + size)) := ⟨B1.out.cell (k := 0) rfl, B1.out.cell (k := 2) rfl⟩
  iterate 9 (refine lin_take (v := ?_) hS (by rfl) ?_ ?_; rotate_left; (intro x hx; obtain ⟨x0, x2⟩ := hx; go_simp; try (with_reducible rfl)); (simp only [Act.put, List.setIfInBounds_toArray, List.set_cons_zero, List.set_cons_succ]))
  refine lin_take (v := .string (s.extract p (p + size))) hS (by rfl) (fun x hx => ?_) ?_
  · have h1 : (p : Int) ≤ p + size := by omega
    have h2 : ((p : Int) + size).toNat = p + size := by omega
    obtain ⟨x0, x2⟩ := hx
    go_simp
  simp only [Act.put, List.setIfInBounds_toArray, List.set_cons_zero, List.set_cons_succ]
  refine lin_call hS (by rfl) (fun K hK => ?_)
  go_simp
  refine (cC.out _).mono ?_
  rintro e w2 ⟨rfl, hb2⟩
  have B2 := Lib.hid ((B1.out.drew).below hb2 (by have := hb2.size; simp at this ⊢; omega))
  have O2 := Lib.hid (own_below (show w1.drew.ownsRow Bt 33 4 vt t.length (toksL t) from O1.out) hb2)
  have T2 := Lib.hid (T1.out.drew.trans (TurnB.of_below hb2 (by simp; omega) (by simp; omega)))
  have hsz2 : w.heap.size ≤ w2.heap.size := by have := hb2.size; simp at this; omega
  have hS2 : w2.cell? ⟨b, 0, none⟩ = some (.string s) ∧ w2.cell? ⟨b, 2, none⟩ = some (.int .i64 ((p : Int) + size)) := ⟨B2.out.cell (k := 0) rfl, B2.out.cell (k := 2) rfl⟩
  clear hb2
  go_wp2_with fail
  refine hK.out _ _ hS2 (fun _ => ?_)
  clear hK K
  try simp only [Act.put, List.setIfInBounds_toArray, List.set_cons_zero, List.set_cons_succ]
  (refine lin_take (v := ?_) hS2 (by rfl) ?_ ?_; rotate_left; (intro x hx; obtain ⟨x0, x2⟩ := hx; go_simp; try (with_reducible rfl)); (simp only [Act.put, List.setIfInBounds_toArray, List.set_cons_zero, List.set_cons_succ]))
  refine lin_done ?_
  obtain ⟨i0, hi, hz0, hz1, hz2⟩ := info_parts info_tok
  have HI := Lib.hid hz2
  have y1 := B2.out.cell (k := 1) rfl
  have y0 := hS2.1
  have hob : ∀ g, vt.ownBlock = some g → Bt ≤ g := fun g hg => (O2.out.lt g hg).1
  have HOB := Lib.hid hob
  clear hS hS2 hz2 hob
  go_wp2_with (at_builtin; refine wpList_append_row _ rfl (.tmp 32) (.tmp 38) 23 rfl Bt 33 i0 (.agg #[.int .i64 0, .int .i64 0, .int .i64 0, .string ⟨#[]⟩]) 4 40 Tryd.underlying23 hi hz0 hz1 HI.out rfl (by omega) vt t.length (toksL t) rfl (O2.out.alloc _) (w2.heap.size + 1) (.slice (some ⟨w2.heap.size, 0, none⟩) 1 1) 1 [.int .i64 kind, .int .i64 num, .int .i64 (p : Int), .string (s.extract p (p + size))] rfl (row_one4 _ _ _ _ _ _) (by simp [Value.oneCell']) (by have := HT.out; unfold maxLen; omega) (by have := HT.out; omega) (by simp; omega) ?_; intro v3 w3 hO3 hg3; obtain ⟨A3, c3, rfl⟩ := (Row.of_own hO3).form; have B3 := Lib.hid ((B2.out.alloc (.cells #[.int .i64 kind, .int .i64 num, .int .i64 (p : Int), .string (s.extract p (p + size))] 33)).grown hg3 (fun e => by have := HOB.out b e.symm; omega)); have T3 := Lib.hid (T2.out.trans ((TurnB.of_below ((Below.refl _ w2).alloc (Nat.le_refl _) (.cells #[.int .i64 kind, .int .i64 num, .int .i64 (p : Int), .string (s.extract p (p + size))] 33)) (by omega) (by omega)).trans (TurnB.grown hg3 (by simp; omega) (by simp; omega) (fun k hk => HOB.out k hk) hB))); have O3 := Lib.hid hO3; have x1 := B3.out.cell (k := 1) rfl; have g1 := B3.out.frozen 1; clear hO3 hg3 y1 y0)
  have B4 : Hid (Box (w3.setCell ⟨b, 1, none⟩ (.slice A3 (t.length + 1) c3)) b (splL s (.slice A3 (t.length + 1) c3) ((p : Int) + size) rm)) := B3.out.setCell 1 _
  have O4 := ownsRow_setCell_below O3.out (a := ⟨b, 1, none⟩) (show b < Bt from hB) (.slice A3 (t.length + 1) c3)
  have T4 := T3.out.trans (TurnB.setCell b Bt w3 1 (.slice A3 (t.length + 1) c3))
  refine bodyPost_end (v := .tuple #[]) (by simp [results, Tryd.results49]) rfl ⟨rfl, .slice A3 (t.length + 1) c3, ?_, ?_, T4⟩
  · have e : ((p + size : Nat) : Int) = (p : Int) + size := by omega
    rw [e]
    exact B4.out
  · rw [toksL_append]
    have e : toksL [⟨kind, num, p, (s.data.toList.drop p).take size⟩] = [.int .i64 kind, .int .i64 num, .int .i64 (p : Int), .string (s.extract p (p + size))] := by rw [HCUT.out]; rfl
    rw [e]
    exact O4
end Go.Proofs.YtimdojeagkbgbaaDoor.Words

/- Contracts of package lex's splitter: a line's end, a number, whatever begins at a place. -/
namespace Go.Proofs.YtimdojeagkbgbaaDoor.Words
set_option maxRecDepth 100000
open Go.RowKit Go.Shelf Go.Lib
set_option linter.unusedVariables false

/-- A splitter in block b, its tokens in blocks of the call's own from Bt on. -/
def Spl (w : World) (b Bt : Nat) (s : ByteArray) (x : LexS) : Prop :=
  ∃ vt, Box w b (splL s vt (x.behind : Int) x.remark) ∧ w.ownsRow Bt 33 4 vt x.toks.length (toksL x.toks)
theorem Spl.add {w : World} {b Bt p size : Nat} {s : ByteArray} {x : LexS} {kind num : Int} {vt : Value}
    (h1 : Box w b (splL s vt ((p + size : Nat) : Int) x.remark)) (h2 : w.ownsRow Bt 33 4 vt (x.toks.length + 1) (toksL (x.toks ++ [⟨kind, num, p, (s.data.toList.drop p).take size⟩]))) :
    Spl w b Bt s (addZ s.data.toList kind num p size x) := ⟨vt, h1, by show World.ownsRow _ _ _ _ _ (x.toks ++ [_]).length _; rw [List.length_append]; exact h2⟩
theorem Spl.drew {w : World} {b Bt : Nat} {s : ByteArray} {x : LexS} (h : Spl w b Bt s x) : Spl w.drew b Bt s x := h
theorem Spl.below {w w' : World} {b Bt : Nat} {s : ByteArray} {x : LexS} (h : Spl w b Bt s x) (hb : Below w.heap.size w w') : Spl w' b Bt s x := by
  obtain ⟨vt, h1, h2⟩ := h
  exact ⟨vt, h1.below hb h1.lt, own_below h2 hb⟩
theorem rest_data (s : ByteArray) (p : Nat) : (s.extract p s.size).data.toList = s.data.toList.drop p := by
  rw [Lib.extract_data, List.take_of_length_le]
  rw [List.length_drop, data_len]; omega
theorem rest_size (s : ByteArray) (p : Nat) : (s.extract p s.size).size = s.size - p := by rw [ByteArray.size_extract]; omega
theorem lineB_last {t : List Tok} {i : Tok} (h : t[t.length - 1]? = some i) (hne : t ≠ []) : lineB t = decide (i.kind ≠ 4) := by
  unfold lineB
  rw [List.getLast?_eq_getElem?, h]
theorem lineB_nil : lineB [] = false := rfl

set_option maxHeartbeats 1000000 in
theorem line_any (s : ByteArray) (x : LexS) (p b Bt : Nat) (w : World) (hB : b < Bt) (hBt : Bt ≤ w.heap.size) (hs : s.size ≤ 1000000) (hx : Spl w b Bt s x) (ht : x.toks.length ≤ 1000000) (hp : p + 1 ≤ s.size) :
    Calls Tryd.prog 46 #[.pointer (some ⟨b, 0, none⟩), .int .i64 (p : Int)] w fun e w' => e = .returned (.tuple #[]) ∧ Spl w' b Bt s (lineZ s.data.toList p x) ∧ TurnB b Bt w w' := by
  have HX := Lib.hid hx
  obtain ⟨vt, hb, ho⟩ := hx
  obtain ⟨A, c, rfl⟩ := (Row.of_own ho).form
  have z1 := hb.cell (k := 1) rfl
  by_cases hn : x.toks.length = 0
  · have hnil : x.toks = [] := List.eq_nil_of_length_eq_zero hn
    have hl : Hid (lineZ s.data.toList p x = x) := by show _ = _; unfold lineZ; rw [hnil]; rfl
    rw [hn] at z1
    clear hn hnil hb ho
    go_enter Tryd.func46, Tryd.ntmps46
    go_wp2_with fail
    refine bodyPost_end (v := .tuple #[]) (by simp [results, Tryd.results46]) rfl ⟨rfl, ?_, TurnB.refl _ _ _⟩
    rw [hl.out]
    exact HX.out
  · obtain ⟨i, hi⟩ : ∃ i, x.toks[x.toks.length - 1]? = some i := ⟨_, List.getElem?_eq_getElem (by omega)⟩
    have hlb := lineB_last hi (by intro h; rw [h] at hn; exact hn rfl)
    obtain ⟨g, off, rfl, _, _⟩ := (Row.of_own ho).at_ hn
    obtain ⟨c0, _, _, _⟩ := (Row.of_own ho).tok hi
    obtain ⟨n, hn'⟩ : ∃ n, n = x.toks.length := ⟨_, rfl⟩
    have cA := Lib.hid (fun y vt' (h1 : Box y b (splL s vt' (x.behind : Int) x.remark)) (h2 : Bt ≤ y.heap.size) (h3 : y.ownsRow Bt 33 4 vt' x.toks.length (toksL x.toks)) => add_any s vt' x.behind 4 0 x.remark p 1 b Bt x.toks y h1 hB h2 h3 hp hs ht)
    rw [← hn'] at z1 c0 hn ht
    have HN := Lib.hid hn'
    have hk : (n : Int) - 1 = ((n - 1 : Nat) : Int) := by omega
    have hb' := Lib.hid hb
    have ho' := Lib.hid ho
    have h0 : decide (0 ≤ ((n - 1 : Nat) : Int)) = true := decide_eq_true (by omega)
    have h1 : ((n - 1 : Nat) : Int) < n := by omega
    have h2 : (0 : Int) ≤ ((n - 1 : Nat) : Int) := by omega
    have h3 : n - 1 < n := by omega
    have h4 : (1 : Int) ≤ n := by omega
    clear hb ho hi hn'
    by_cases h5 : i.kind = 4
    · have hq : (i.kind != 4) = false := by simpa using h5
      have hl : Hid (lineZ s.data.toList p x = x) := by show _ = _; unfold lineZ; rw [hlb, decide_eq_false (by simpa using h5)]; rfl
      have HK := Lib.hid h5
      clear h5 hlb
      go_enter Tryd.func46, Tryd.ntmps46
      go_wp2_with fail
      refine bodyPost_end (v := .tuple #[]) (by simp [results, Tryd.results46]) rfl ⟨rfl, ?_, TurnB.refl _ _ _⟩
      rw [hl.out]
      exact HX.out
    · have hq : (i.kind != 4) = true := by simpa using h5
      have hl : Hid (lineZ s.data.toList p x = addZ s.data.toList 4 0 p 1 x) := by show _ = _; unfold lineZ; rw [hlb, decide_eq_true h5]; rfl
      clear h5 hlb
      go_enter Tryd.func46, Tryd.ntmps46
      go_wp2_with fail
      refine (cA.out w _ hb'.out hBt (by rw [HN.out] at *; exact ho'.out)).mono ?_
      rintro e w1 ⟨rfl, vt1, hb1, ho1, ht1⟩
      have S1 := Lib.hid (Spl.add hb1 ho1)
      clear hb1 ho1
      go_wp2_with fail
      refine bodyPost_end (v := .tuple #[]) (by simp [results, Tryd.results46]) rfl ⟨rfl, ?_, ht1⟩
      rw [hl.out]
      exact S1.out

set_option maxHeartbeats 1000000 in
theorem number_any (s : ByteArray) (x : LexS) (p b Bt : Nat) (w : World) (hB : b < Bt) (hBt : Bt ≤ w.heap.size) (hs : s.size ≤ 1000000) (hx : Spl w b Bt s x) (ht : x.toks.length ≤ 1000000) (hp : p < s.size) :
    Calls Tryd.prog 52 #[.pointer (some ⟨b, 0, none⟩), .int .i64 (p : Int)] w fun e w' => e = .returned (.int .i64 (numberZ s.data.toList p x).1) ∧ Spl w' b Bt s (numberZ s.data.toList p x).2 ∧ TurnB b Bt w w' := by
  have HX := Lib.hid hx
  obtain ⟨vt, hb, ho⟩ := hx
  have z0 := hb.cell (k := 0) rfl
  have hlt := hb.lt
  have cN := fun y => numberOf_any (s.extract p s.size) y (by rw [rest_size]; omega)
  rw [rest_data] at cN
  have CN := Lib.hid cN
  have HNR := Lib.hid (numZ_range (s.data.toList.drop p))
  have HNL : Hid (p + (numZ (s.data.toList.drop p)).2 ≤ s.size) := by
    have h1 := numZ_le (s.data.toList.drop p)
    rw [List.length_drop, data_len] at h1
    show _ ≤ _
    omega
  obtain ⟨Z, hZ⟩ : ∃ Z, Z = numberZ s.data.toList p x := ⟨_, rfl⟩
  have HZ : Hid (Z = if (numZ (s.data.toList.drop p)).2 = 0 then (5, x) else if (numZ (s.data.toList.drop p)).1 < -4294967296 ∨ 4294967296 < (numZ (s.data.toList.drop p)).1 then (8, x) else (0, addZ s.data.toList 2 (numZ (s.data.toList.drop p)).1 p (numZ (s.data.toList.drop p)).2 x)) := hZ
  rw [← hZ]
  generalize numZ (s.data.toList.drop p) = N at *
  obtain ⟨n, k⟩ := N
  simp only at CN HNR HNL HZ
  have n0 : -4294967297 ≤ n ∧ n ≤ 4294967297 := HNR.out
  obtain ⟨n1, n2⟩ := n0
  have k1 : (k : Int) ≤ 1000000 := by have := HNL.out; omega
  have p0 : (0 : Int) ≤ p := by omega
  have p1 : (p : Int) ≤ s.size := by omega
  have p2 : (s.size : Int) ≤ 1000000 := by omega
  clear hb ho cN hZ HNR
  by_cases hk : k = 0
  · have hz : Hid (Z = (5, x)) := by show _ = _; rw [HZ.out, if_pos hk]
    have hq : ((k : Int) == 0) = true := by simpa using hk
    clear hk HZ
    go_enter Tryd.func52, Tryd.ntmps52
    go_wp2_with fail
    refine (CN.out _).mono ?_; rintro e w1 ⟨rfl, hb1⟩
    have S1 := Lib.hid (HX.out.below hb1)
    have T1 := Lib.hid (TurnB.of_below (b := b) (Bt := Bt) hb1 (by omega) hBt)
    clear hb1
    go_wp2_with fail
    go_ret
    rw [hz.out]
    exact ⟨rfl, S1.out, T1.out⟩
  · have hq : ((k : Int) == 0) = false := by simpa using hk
    by_cases hr : n < -4294967296 ∨ 4294967296 < n
    · have hz : Hid (Z = (8, x)) := by show _ = _; rw [HZ.out, if_neg hk, if_pos hr]
      clear hk HZ
      by_cases hr1 : n < -4294967296
      · have q1 : decide (n < -4294967296) = true := decide_eq_true hr1
        clear hr
        go_enter Tryd.func52, Tryd.ntmps52
        go_wp2_with fail
        refine (CN.out _).mono ?_; rintro e w1 ⟨rfl, hb1⟩
        have S1 := Lib.hid (HX.out.below hb1)
        have T1 := Lib.hid (TurnB.of_below (b := b) (Bt := Bt) hb1 (by omega) hBt)
        clear hb1
        go_wp2_with fail
        go_ret
        rw [hz.out]
        exact ⟨rfl, S1.out, T1.out⟩
      · have q1 : decide (n < -4294967296) = false := decide_eq_false hr1
        have q2 : decide (4294967296 < n) = true := decide_eq_true (by omega)
        clear hr
        go_enter Tryd.func52, Tryd.ntmps52
        go_wp2_with fail
        refine (CN.out _).mono ?_; rintro e w1 ⟨rfl, hb1⟩
        have S1 := Lib.hid (HX.out.below hb1)
        have T1 := Lib.hid (TurnB.of_below (b := b) (Bt := Bt) hb1 (by omega) hBt)
        clear hb1
        go_wp2_with fail
        go_ret
        rw [hz.out]
        exact ⟨rfl, S1.out, T1.out⟩
    · have hz : Hid (Z = (0, addZ s.data.toList 2 n p k x)) := by show _ = _; rw [HZ.out, if_neg hk, if_neg hr]
      have q1 : decide (n < -4294967296) = false := decide_eq_false (by omega)
      have q2 : decide (4294967296 < n) = false := decide_eq_false (by omega)
      clear hk hr HZ
      go_enter Tryd.func52, Tryd.ntmps52
      go_wp2_with fail
      refine (CN.out _).mono ?_; rintro e w1 ⟨rfl, hb1⟩
      have S1 := Lib.hid (HX.out.below hb1)
      have T1 := Lib.hid (TurnB.of_below (b := b) (Bt := Bt) hb1 (by omega) hBt)
      have hsz := hb1.size
      clear hb1
      go_wp2_with fail
      obtain ⟨vt1, hB1, hO1⟩ := S1.out
      refine (add_any s vt1 x.behind 2 n x.remark p k b Bt x.toks w1 hB1 hB (by omega) hO1 HNL.out hs ht).mono ?_
      rintro e w2 ⟨rfl, vt2, hb2, ho2, ht2⟩
      have S2 := Lib.hid (Spl.add hb2 ho2)
      have T2 := Lib.hid (T1.out.trans ht2)
      clear hb2 ho2 ht2
      go_wp2_with fail
      go_ret
      rw [hz.out]
      exact ⟨rfl, S2.out, T2.out⟩
end Go.Proofs.YtimdojeagkbgbaaDoor.Words

/- Contract of package lex's take: what begins at a place. -/
namespace Go.Proofs.YtimdojeagkbgbaaDoor.Words
set_option maxRecDepth 100000
open Go.RowKit Go.Shelf Go.Lib
set_option linter.unusedVariables false

set_option maxHeartbeats 1000000 in
theorem take_bad (s : ByteArray) (x : LexS) (p b Bt : Nat) (w : World) (hT : TabsB b w) (hB : b < Bt) (hBt : Bt ≤ w.heap.size) (hs : s.size ≤ 1000000) (hx : Spl w b Bt s x) (ht : x.toks.length ≤ 1000000) (hp : p < s.size) (h1 : badR (s.data.toList.drop p) = true) :
    Calls Tryd.prog 28 #[.pointer (some ⟨b, 0, none⟩), .int .i64 (p : Int), .int .i32 (runeR (s.data.toList.drop p))] w fun e w' => e = .returned (.int .i64 (takeZ s.data.toList p x).1) ∧ Spl w' b Bt s (takeZ s.data.toList p x).2 ∧ TurnB b Bt w w' := by
  have HX := Lib.hid hx
  obtain ⟨vt, hb, ho⟩ := hx
  have z0 := hb.cell (k := 0) rfl
  have z3 := hb.cell (k := 3) rfl
  have g3 := hb.frozen 3
  have hlt := hb.lt
  have HRR := Lib.hid (runeR_range (s.data.toList.drop p))
  have hne := from_ne (l := s.data.toList) (p := p) (by rw [data_len]; exact hp)
  have CB := Lib.hid (fun y (hy : Tabs y) => isBroken_any (s.extract p s.size) (runeR (s.data.toList.drop p)) y (by rw [rest_data]; exact hne) hy (by rw [rest_data]))
  rw [rest_data] at CB
  have HZ : Hid (takeZ s.data.toList p x = (5, x)) := by
    show _ = _
    unfold takeZ
    rw [if_pos h1]
  have p0 : (0 : Int) ≤ p := by omega
  have p1 : (p : Int) ≤ s.size := by omega
  have p2 : (s.size : Int) ≤ 1000000 := by omega
  have HT0 := Lib.hid hT
  have HB := Lib.hid hb
  have HO := Lib.hid ho
  rw [HZ.out]
  clear hb ho hT hne
  rw [h1] at CB
  generalize runeR (s.data.toList.drop p) = R at CB ⊢
  go_enter Tryd.func28, Tryd.ntmps28
  go_wp2_with fail
  refine (CB.out _ HT0.out.now).mono ?_; rintro e w1 ⟨rfl, hb1⟩
  have S1 := Lib.hid (HX.out.below hb1)
  have T1 := Lib.hid (TurnB.of_below (b := b) (Bt := Bt) hb1 (by omega) hBt)
  have B1 := Lib.hid (HB.out.below hb1 hlt)
  have hs1 := hb1.size
  clear hb1
  have y0 := B1.out.cell (k := 0) rfl
  have y3 := B1.out.cell (k := 3) rfl
  have f3 := B1.out.frozen 3
  clear z0 z3 g3
  go_wp2_with fail
  go_ret
  exact ⟨rfl, S1.out, T1.out⟩

set_option maxHeartbeats 1000000 in
theorem take_line (s : ByteArray) (x : LexS) (p b Bt : Nat) (w : World) (hT : TabsB b w) (hB : b < Bt) (hBt : Bt ≤ w.heap.size) (hs : s.size ≤ 1000000) (hx : Spl w b Bt s x) (ht : x.toks.length ≤ 1000000) (hp : p < s.size) (h1 : badR (s.data.toList.drop p) = false) (h2 : runeR (s.data.toList.drop p) = 10) :
    Calls Tryd.prog 28 #[.pointer (some ⟨b, 0, none⟩), .int .i64 (p : Int), .int .i32 (runeR (s.data.toList.drop p))] w fun e w' => e = .returned (.int .i64 (takeZ s.data.toList p x).1) ∧ Spl w' b Bt s (takeZ s.data.toList p x).2 ∧ TurnB b Bt w w' := by
  have HX := Lib.hid hx
  obtain ⟨vt, hb, ho⟩ := hx
  have z0 := hb.cell (k := 0) rfl
  have z3 := hb.cell (k := 3) rfl
  have g3 := hb.frozen 3
  have hlt := hb.lt
  have HRR := Lib.hid (runeR_range (s.data.toList.drop p))
  have hne := from_ne (l := s.data.toList) (p := p) (by rw [data_len]; exact hp)
  have CB := Lib.hid (fun y (hy : Tabs y) => isBroken_any (s.extract p s.size) (runeR (s.data.toList.drop p)) y (by rw [rest_data]; exact hne) hy (by rw [rest_data]))
  rw [rest_data] at CB
  have HZ : Hid (takeZ s.data.toList p x = (0, lineZ s.data.toList p { x with remark := false })) := by
    show _ = _
    unfold takeZ
    rw [if_neg (by rw [h1]; decide)]
    rw [if_pos h2]
  have p0 : (0 : Int) ≤ p := by omega
  have p1 : (p : Int) ≤ s.size := by omega
  have p2 : (s.size : Int) ≤ 1000000 := by omega
  have HT0 := Lib.hid hT
  have HB := Lib.hid hb
  have HO := Lib.hid ho
  rw [HZ.out]
  clear hb ho hT hne
  rw [h1] at CB
  rw [h2] at CB ⊢
  go_enter Tryd.func28, Tryd.ntmps28
  go_wp2_with fail
  refine (CB.out _ HT0.out.now).mono ?_; rintro e w1 ⟨rfl, hb1⟩
  have S1 := Lib.hid (HX.out.below hb1)
  have T1 := Lib.hid (TurnB.of_below (b := b) (Bt := Bt) hb1 (by omega) hBt)
  have B1 := Lib.hid (HB.out.below hb1 hlt)
  have hs1 := hb1.size
  clear hb1
  have y0 := B1.out.cell (k := 0) rfl
  have y3 := B1.out.cell (k := 3) rfl
  have f3 := B1.out.frozen 3
  clear z0 z3 g3
  have S1' := S1.out
  obtain ⟨vt1, hb1, ho1⟩ := S1'
  have hb1' := Lib.hid (show Box (w1.setCell ⟨b, 3, none⟩ (.bool false)) b (splL s vt1 x.behind false) from hb1.setCell 3 _)
  have ho1' := Lib.hid (ownsRow_setCell_below ho1 (a := ⟨b, 3, none⟩) (show b < Bt from hB) (.bool false))
  have T2 := Lib.hid (T1.out.trans (TurnB.setCell b Bt w1 3 (.bool false)))
  clear hb1 ho1
  have S2 : Hid (Spl (w1.setCell ⟨b, 3, none⟩ (.bool false)) b Bt s { x with remark := false }) := ⟨vt1, hb1'.out, ho1'.out⟩
  have hs2 : (w1.setCell ⟨b, 3, none⟩ (.bool false)).heap.size = w1.heap.size := by simp [World.setCell]
  go_wp2_with fail
  refine (line_any s { x with remark := false } p b Bt _ hB (by rw [hs2]; omega) hs S2.out ht (by omega)).mono ?_
  rintro e w3 ⟨rfl, hs3, ht3⟩
  have S3 := Lib.hid hs3
  have T3 := Lib.hid (T2.out.trans ht3)
  clear hs3 ht3
  go_wp2_with fail
  go_ret
  exact ⟨rfl, S3.out, T3.out⟩

set_option maxHeartbeats 1000000 in
theorem take_remark (s : ByteArray) (x : LexS) (p b Bt : Nat) (w : World) (hT : TabsB b w) (hB : b < Bt) (hBt : Bt ≤ w.heap.size) (hs : s.size ≤ 1000000) (hx : Spl w b Bt s x) (ht : x.toks.length ≤ 1000000) (hp : p < s.size) (h1 : badR (s.data.toList.drop p) = false) (h2 : ¬ runeR (s.data.toList.drop p) = 10) (h3 : x.remark = true) :
    Calls Tryd.prog 28 #[.pointer (some ⟨b, 0, none⟩), .int .i64 (p : Int), .int .i32 (runeR (s.data.toList.drop p))] w fun e w' => e = .returned (.int .i64 (takeZ s.data.toList p x).1) ∧ Spl w' b Bt s (takeZ s.data.toList p x).2 ∧ TurnB b Bt w w' := by
  have HX := Lib.hid hx
  obtain ⟨vt, hb, ho⟩ := hx
  have z0 := hb.cell (k := 0) rfl
  have z3 := hb.cell (k := 3) rfl
  have g3 := hb.frozen 3
  have hlt := hb.lt
  have HRR := Lib.hid (runeR_range (s.data.toList.drop p))
  have hne := from_ne (l := s.data.toList) (p := p) (by rw [data_len]; exact hp)
  have CB := Lib.hid (fun y (hy : Tabs y) => isBroken_any (s.extract p s.size) (runeR (s.data.toList.drop p)) y (by rw [rest_data]; exact hne) hy (by rw [rest_data]))
  rw [rest_data] at CB
  have HZ : Hid (takeZ s.data.toList p x = (0, x)) := by
    show _ = _
    unfold takeZ
    rw [if_neg (by rw [h1]; decide)]
    rw [if_neg h2]
    rw [if_pos (.inl h3)]
  have p0 : (0 : Int) ≤ p := by omega
  have p1 : (p : Int) ≤ s.size := by omega
  have p2 : (s.size : Int) ≤ 1000000 := by omega
  have HT0 := Lib.hid hT
  have HB := Lib.hid hb
  have HO := Lib.hid ho
  rw [HZ.out]
  clear hb ho hT hne
  rw [h1] at CB
  have q2 : (runeR (s.data.toList.drop p) == 10) = false := by simpa using h2
  rw [h3] at HB z3
  clear h2
  generalize runeR (s.data.toList.drop p) = R at CB q2 ⊢
  go_enter Tryd.func28, Tryd.ntmps28
  go_wp2_with fail
  refine (CB.out _ HT0.out.now).mono ?_; rintro e w1 ⟨rfl, hb1⟩
  have S1 := Lib.hid (HX.out.below hb1)
  have T1 := Lib.hid (TurnB.of_below (b := b) (Bt := Bt) hb1 (by omega) hBt)
  have B1 := Lib.hid (HB.out.below hb1 hlt)
  have hs1 := hb1.size
  clear hb1
  have y0 := B1.out.cell (k := 0) rfl
  have y3 := B1.out.cell (k := 3) rfl
  have f3 := B1.out.frozen 3
  clear z0 z3 g3
  go_wp2_with fail
  go_ret
  exact ⟨rfl, S1.out, T1.out⟩

set_option maxHeartbeats 1000000 in
theorem take_blank (s : ByteArray) (x : LexS) (p b Bt : Nat) (w : World) (hT : TabsB b w) (hB : b < Bt) (hBt : Bt ≤ w.heap.size) (hs : s.size ≤ 1000000) (hx : Spl w b Bt s x) (ht : x.toks.length ≤ 1000000) (hp : p < s.size) (h1 : badR (s.data.toList.drop p) = false) (h2 : ¬ runeR (s.data.toList.drop p) = 10) (h3 : x.remark = false) (h4 : blankR (runeR (s.data.toList.drop p)) = true) :
    Calls Tryd.prog 28 #[.pointer (some ⟨b, 0, none⟩), .int .i64 (p : Int), .int .i32 (runeR (s.data.toList.drop p))] w fun e w' => e = .returned (.int .i64 (takeZ s.data.toList p x).1) ∧ Spl w' b Bt s (takeZ s.data.toList p x).2 ∧ TurnB b Bt w w' := by
  have HX := Lib.hid hx
  obtain ⟨vt, hb, ho⟩ := hx
  have z0 := hb.cell (k := 0) rfl
  have z3 := hb.cell (k := 3) rfl
  have g3 := hb.frozen 3
  have hlt := hb.lt
  have HRR := Lib.hid (runeR_range (s.data.toList.drop p))
  have hne := from_ne (l := s.data.toList) (p := p) (by rw [data_len]; exact hp)
  have CB := Lib.hid (fun y (hy : Tabs y) => isBroken_any (s.extract p s.size) (runeR (s.data.toList.drop p)) y (by rw [rest_data]; exact hne) hy (by rw [rest_data]))
  rw [rest_data] at CB
  have HZ : Hid (takeZ s.data.toList p x = (0, x)) := by
    show _ = _
    unfold takeZ
    rw [if_neg (by rw [h1]; decide)]
    rw [if_neg h2]
    rw [if_pos (.inr h4)]
  have p0 : (0 : Int) ≤ p := by omega
  have p1 : (p : Int) ≤ s.size := by omega
  have p2 : (s.size : Int) ≤ 1000000 := by omega
  have HT0 := Lib.hid hT
  have HB := Lib.hid hb
  have HO := Lib.hid ho
  rw [HZ.out]
  clear hb ho hT hne
  rw [h1] at CB
  have q2 : (runeR (s.data.toList.drop p) == 10) = false := by simpa using h2
  have CK := Lib.hid (fun y => isBlank_any (runeR (s.data.toList.drop p)) y)
  rw [h4] at CK
  rw [h3] at HB z3
  clear h2 h4
  generalize runeR (s.data.toList.drop p) = R at CB CK q2 ⊢
  go_enter Tryd.func28, Tryd.ntmps28
  go_wp2_with fail
  refine (CB.out _ HT0.out.now).mono ?_; rintro e w1 ⟨rfl, hb1⟩
  have S1 := Lib.hid (HX.out.below hb1)
  have T1 := Lib.hid (TurnB.of_below (b := b) (Bt := Bt) hb1 (by omega) hBt)
  have B1 := Lib.hid (HB.out.below hb1 hlt)
  have hs1 := hb1.size
  clear hb1
  have y0 := B1.out.cell (k := 0) rfl
  have y3 := B1.out.cell (k := 3) rfl
  have f3 := B1.out.frozen 3
  clear z0 z3 g3
  go_wp2_with fail
  refine (CK.out _).mono ?_; rintro e w2 ⟨rfl, rfl⟩
  go_wp2_with fail
  go_ret
  exact ⟨rfl, S1.out, T1.out⟩

set_option maxHeartbeats 1000000 in
theorem take_hash (s : ByteArray) (x : LexS) (p b Bt : Nat) (w : World) (hT : TabsB b w) (hB : b < Bt) (hBt : Bt ≤ w.heap.size) (hs : s.size ≤ 1000000) (hx : Spl w b Bt s x) (ht : x.toks.length ≤ 1000000) (hp : p < s.size) (h1 : badR (s.data.toList.drop p) = false) (h2 : ¬ runeR (s.data.toList.drop p) = 10) (h3 : x.remark = false) (h4 : blankR (runeR (s.data.toList.drop p)) = false) (h5 : runeR (s.data.toList.drop p) = 35) :
    Calls Tryd.prog 28 #[.pointer (some ⟨b, 0, none⟩), .int .i64 (p : Int), .int .i32 (runeR (s.data.toList.drop p))] w fun e w' => e = .returned (.int .i64 (takeZ s.data.toList p x).1) ∧ Spl w' b Bt s (takeZ s.data.toList p x).2 ∧ TurnB b Bt w w' := by
  have HX := Lib.hid hx
  obtain ⟨vt, hb, ho⟩ := hx
  have z0 := hb.cell (k := 0) rfl
  have z3 := hb.cell (k := 3) rfl
  have g3 := hb.frozen 3
  have hlt := hb.lt
  have HRR := Lib.hid (runeR_range (s.data.toList.drop p))
  have hne := from_ne (l := s.data.toList) (p := p) (by rw [data_len]; exact hp)
  have CB := Lib.hid (fun y (hy : Tabs y) => isBroken_any (s.extract p s.size) (runeR (s.data.toList.drop p)) y (by rw [rest_data]; exact hne) hy (by rw [rest_data]))
  rw [rest_data] at CB
  have HZ : Hid (takeZ s.data.toList p x = (0, { x with remark := true })) := by
    show _ = _
    unfold takeZ
    rw [if_neg (by rw [h1]; decide)]
    rw [if_neg h2]
    rw [if_neg (by rw [h3, h4]; decide)]
    rw [if_pos h5]
  have p0 : (0 : Int) ≤ p := by omega
  have p1 : (p : Int) ≤ s.size := by omega
  have p2 : (s.size : Int) ≤ 1000000 := by omega
  have HT0 := Lib.hid hT
  have HB := Lib.hid hb
  have HO := Lib.hid ho
  rw [HZ.out]
  clear hb ho hT hne
  rw [h1] at CB
  have CK := Lib.hid (fun y => isBlank_any (runeR (s.data.toList.drop p)) y)
  rw [h4] at CK
  rw [h5] at CB CK ⊢
  rw [h3] at HB z3
  clear h2 h4 h5
  go_enter Tryd.func28, Tryd.ntmps28
  go_wp2_with fail
  refine (CB.out _ HT0.out.now).mono ?_; rintro e w1 ⟨rfl, hb1⟩
  have S1 := Lib.hid (HX.out.below hb1)
  have T1 := Lib.hid (TurnB.of_below (b := b) (Bt := Bt) hb1 (by omega) hBt)
  have B1 := Lib.hid (HB.out.below hb1 hlt)
  have hs1 := hb1.size
  clear hb1
  have y0 := B1.out.cell (k := 0) rfl
  have y3 := B1.out.cell (k := 3) rfl
  have f3 := B1.out.frozen 3
  clear z0 z3 g3
  go_wp2_with fail
  refine (CK.out _).mono ?_; rintro e w2 ⟨rfl, rfl⟩
  have S1' := S1.out
  obtain ⟨vt1, hb1, ho1⟩ := S1'
  have hb1' := Lib.hid (show Box (w1.setCell ⟨b, 3, none⟩ (.bool true)) b (splL s vt1 x.behind true) from hb1.setCell 3 _)
  have ho1' := Lib.hid (ownsRow_setCell_below ho1 (a := ⟨b, 3, none⟩) (show b < Bt from hB) (.bool true))
  have T2 := Lib.hid (T1.out.trans (TurnB.setCell b Bt w1 3 (.bool true)))
  clear hb1 ho1
  go_wp2_with fail
  go_ret
  exact ⟨rfl, ⟨vt1, hb1'.out, ho1'.out⟩, T2.out⟩

set_option maxHeartbeats 1000000 in
theorem take_name (s : ByteArray) (x : LexS) (p b Bt : Nat) (w : World) (hT : TabsB b w) (hB : b < Bt) (hBt : Bt ≤ w.heap.size) (hs : s.size ≤ 1000000) (hx : Spl w b Bt s x) (ht : x.toks.length ≤ 1000000) (hp : p < s.size) (h1 : badR (s.data.toList.drop p) = false) (h2 : ¬ runeR (s.data.toList.drop p) = 10) (h3 : x.remark = false) (h4 : blankR (runeR (s.data.toList.drop p)) = false) (h5 : ¬ runeR (s.data.toList.drop p) = 35) (h6 : firstR (runeR (s.data.toList.drop p)) = true) :
    Calls Tryd.prog 28 #[.pointer (some ⟨b, 0, none⟩), .int .i64 (p : Int), .int .i32 (runeR (s.data.toList.drop p))] w fun e w' => e = .returned (.int .i64 (takeZ s.data.toList p x).1) ∧ Spl w' b Bt s (takeZ s.data.toList p x).2 ∧ TurnB b Bt w w' := by
  have HX := Lib.hid hx
  obtain ⟨vt, hb, ho⟩ := hx
  have z0 := hb.cell (k := 0) rfl
  have z3 := hb.cell (k := 3) rfl
  have g3 := hb.frozen 3
  have hlt := hb.lt
  have HRR := Lib.hid (runeR_range (s.data.toList.drop p))
  have hne := from_ne (l := s.data.toList) (p := p) (by rw [data_len]; exact hp)
  have CB := Lib.hid (fun y (hy : Tabs y) => isBroken_any (s.extract p s.size) (runeR (s.data.toList.drop p)) y (by rw [rest_data]; exact hne) hy (by rw [rest_data]))
  rw [rest_data] at CB
  have HZ : Hid (takeZ s.data.toList p x = (0, addZ s.data.toList 1 0 p (nameZ (s.data.toList.drop p)) x)) := by
    show _ = _
    unfold takeZ
    rw [if_neg (by rw [h1]; decide)]
    rw [if_neg h2]
    rw [if_neg (by rw [h3, h4]; decide)]
    rw [if_neg h5]
    rw [if_pos h6]
  have p0 : (0 : Int) ≤ p := by omega
  have p1 : (p : Int) ≤ s.size := by omega
  have p2 : (s.size : Int) ≤ 1000000 := by omega
  have HT0 := Lib.hid hT
  have HB := Lib.hid hb
  have HO := Lib.hid ho
  rw [HZ.out]
  clear hb ho hT hne
  rw [h1] at CB
  have q2 : (runeR (s.data.toList.drop p) == 10) = false := by simpa using h2
  have q5 : (runeR (s.data.toList.drop p) == 35) = false := by simpa using h5
  have CK := Lib.hid (fun y => isBlank_any (runeR (s.data.toList.drop p)) y)
  have CF := Lib.hid (fun y (hy : Tabs y) => isFirst_any (runeR (s.data.toList.drop p)) y (i32_rune _ HRR.out) hy)
  rw [h4] at CK
  rw [h6] at CF
  rw [h3] at HB z3
  have CN := Lib.hid (fun y (hy : Tabs y) => nameSize_any (s.extract p s.size) y (by rw [rest_size]; omega) hy)
  rw [rest_data] at CN
  have HNL : Hid (p + nameZ (s.data.toList.drop p) ≤ s.size) := by
    have h1 := nameZ_le (s.data.toList.drop p)
    rw [List.length_drop, data_len] at h1
    show _ ≤ _
    omega
  generalize nameZ (s.data.toList.drop p) = K at *
  clear h2 h4 h5 h6 HZ HRR
  generalize runeR (s.data.toList.drop p) = R at CB CK CF q2 q5 ⊢
  go_enter Tryd.func28, Tryd.ntmps28
  go_wp2_with fail
  refine (CB.out _ HT0.out.now).mono ?_; rintro e w1 ⟨rfl, hb1⟩
  have S1 := Lib.hid (HX.out.below hb1)
  have T1 := Lib.hid (TurnB.of_below (b := b) (Bt := Bt) hb1 (by omega) hBt)
  have B1 := Lib.hid (HB.out.below hb1 hlt)
  have hs1 := hb1.size
  clear hb1
  have y0 := B1.out.cell (k := 0) rfl
  have y3 := B1.out.cell (k := 3) rfl
  have f3 := B1.out.frozen 3
  clear z0 z3 g3
  go_wp2_with fail
  refine (CK.out _).mono ?_; rintro e w2 ⟨rfl, rfl⟩
  go_wp2_with fail
  refine (CF.out _ (HT0.out.go T1.out.bel).now).mono ?_; rintro e w3 ⟨rfl, hb3⟩
  have S3 := Lib.hid (S1.out.below hb3)
  have T3 := Lib.hid (T1.out.trans (TurnB.of_below (b := b) (Bt := Bt) hb3 (by omega) (by omega)))
  have hs3 := hb3.size
  have B3 := Lib.hid (B1.out.below hb3 (by omega))
  clear hb3 y0 y3 f3 S1 T1 B1
  go_wp2_with fail
  refine (CN.out _ (HT0.out.go T3.out.bel).now).mono ?_; rintro e w4 ⟨rfl, hb4⟩
  have S4 := Lib.hid (S3.out.below hb4)
  have T4 := Lib.hid (T3.out.trans (TurnB.of_below (b := b) (Bt := Bt) hb4 (by omega) (by omega)))
  have hs4 := hb4.size
  clear hb4
  go_wp2_with fail
  obtain ⟨vt4, hB4, hO4⟩ := S4.out
  refine (add_any s vt4 x.behind 1 0 x.remark p K b Bt x.toks w4 hB4 hB (by omega) hO4 HNL.out hs ht).mono ?_
  rintro e w5 ⟨rfl, vt5, hb5, ho5, ht5⟩
  have S5 := Lib.hid (Spl.add (x := x) hb5 ho5)
  have T5 := Lib.hid (T4.out.trans ht5)
  clear hb5 ho5 ht5
  go_wp2_with fail
  go_ret
  exact ⟨rfl, S5.out, T5.out⟩

set_option maxHeartbeats 1000000 in
theorem take_sign (s : ByteArray) (x : LexS) (p b Bt : Nat) (w : World) (hT : TabsB b w) (hB : b < Bt) (hBt : Bt ≤ w.heap.size) (hs : s.size ≤ 1000000) (hx : Spl w b Bt s x) (ht : x.toks.length ≤ 1000000) (hp : p < s.size) (h1 : badR (s.data.toList.drop p) = false) (h2 : ¬ runeR (s.data.toList.drop p) = 10) (h3 : x.remark = false) (h4 : blankR (runeR (s.data.toList.drop p)) = false) (h5 : ¬ runeR (s.data.toList.drop p) = 35) (h6 : firstR (runeR (s.data.toList.drop p)) = false) (h7 : signR (runeR (s.data.toList.drop p)) = true) :
    Calls Tryd.prog 28 #[.pointer (some ⟨b, 0, none⟩), .int .i64 (p : Int), .int .i32 (runeR (s.data.toList.drop p))] w fun e w' => e = .returned (.int .i64 (takeZ s.data.toList p x).1) ∧ Spl w' b Bt s (takeZ s.data.toList p x).2 ∧ TurnB b Bt w w' := by
  have HX := Lib.hid hx
  obtain ⟨vt, hb, ho⟩ := hx
  have z0 := hb.cell (k := 0) rfl
  have z3 := hb.cell (k := 3) rfl
  have g3 := hb.frozen 3
  have hlt := hb.lt
  have HRR := Lib.hid (runeR_range (s.data.toList.drop p))
  have hne := from_ne (l := s.data.toList) (p := p) (by rw [data_len]; exact hp)
  have CB := Lib.hid (fun y (hy : Tabs y) => isBroken_any (s.extract p s.size) (runeR (s.data.toList.drop p)) y (by rw [rest_data]; exact hne) hy (by rw [rest_data]))
  rw [rest_data] at CB
  have HZ : Hid (takeZ s.data.toList p x = (0, addZ s.data.toList 3 0 p 1 x)) := by
    show _ = _
    unfold takeZ
    rw [if_neg (by rw [h1]; decide)]
    rw [if_neg h2]
    rw [if_neg (by rw [h3, h4]; decide)]
    rw [if_neg h5]
    rw [if_neg (by rw [h6]; decide)]
    rw [if_pos h7]
  have p0 : (0 : Int) ≤ p := by omega
  have p1 : (p : Int) ≤ s.size := by omega
  have p2 : (s.size : Int) ≤ 1000000 := by omega
  have HT0 := Lib.hid hT
  have HB := Lib.hid hb
  have HO := Lib.hid ho
  rw [HZ.out]
  clear hb ho hT hne
  rw [h1] at CB
  have q2 : (runeR (s.data.toList.drop p) == 10) = false := by simpa using h2
  have q5 : (runeR (s.data.toList.drop p) == 35) = false := by simpa using h5
  have CK := Lib.hid (fun y => isBlank_any (runeR (s.data.toList.drop p)) y)
  have CF := Lib.hid (fun y (hy : Tabs y) => isFirst_any (runeR (s.data.toList.drop p)) y (i32_rune _ HRR.out) hy)
  have CS := Lib.hid (fun y => isSign_any (runeR (s.data.toList.drop p)) y)
  rw [h4] at CK
  rw [h6] at CF
  rw [h7] at CS
  rw [h3] at HB z3
  clear h2 h4 h5 h6 h7 HRR
  generalize runeR (s.data.toList.drop p) = R at CB CK CF CS q2 q5 ⊢
  go_enter Tryd.func28, Tryd.ntmps28
  go_wp2_with fail
  refine (CB.out _ HT0.out.now).mono ?_; rintro e w1 ⟨rfl, hb1⟩
  have S1 := Lib.hid (HX.out.below hb1)
  have T1 := Lib.hid (TurnB.of_below (b := b) (Bt := Bt) hb1 (by omega) hBt)
  have B1 := Lib.hid (HB.out.below hb1 hlt)
  have hs1 := hb1.size
  clear hb1
  have y0 := B1.out.cell (k := 0) rfl
  have y3 := B1.out.cell (k := 3) rfl
  have f3 := B1.out.frozen 3
  clear z0 z3 g3
  go_wp2_with fail
  refine (CK.out _).mono ?_; rintro e w2 ⟨rfl, rfl⟩
  go_wp2_with fail
  refine (CF.out _ (HT0.out.go T1.out.bel).now).mono ?_; rintro e w3 ⟨rfl, hb3⟩
  have S3 := Lib.hid (S1.out.below hb3)
  have T3 := Lib.hid (T1.out.trans (TurnB.of_below (b := b) (Bt := Bt) hb3 (by omega) (by omega)))
  have hs3 := hb3.size
  have B3 := Lib.hid (B1.out.below hb3 (by omega))
  clear hb3 y0 y3 f3 S1 T1 B1
  go_wp2_with fail
  refine (CS.out _).mono ?_; rintro e w4 ⟨rfl, rfl⟩
  go_wp2_with fail
  obtain ⟨vt4, hB4, hO4⟩ := S3.out
  refine (add_any s vt4 x.behind 3 0 x.remark p 1 b Bt x.toks w3 hB4 hB (by omega) hO4 (by omega) hs ht).mono ?_
  rintro e w5 ⟨rfl, vt5, hb5, ho5, ht5⟩
  have S5 := Lib.hid (Spl.add (x := x) hb5 ho5)
  have T5 := Lib.hid (T3.out.trans ht5)
  clear hb5 ho5 ht5
  go_wp2_with fail
  go_ret
  exact ⟨rfl, S5.out, T5.out⟩

set_option maxHeartbeats 1000000 in
theorem take_number (s : ByteArray) (x : LexS) (p b Bt : Nat) (w : World) (hT : TabsB b w) (hB : b < Bt) (hBt : Bt ≤ w.heap.size) (hs : s.size ≤ 1000000) (hx : Spl w b Bt s x) (ht : x.toks.length ≤ 1000000) (hp : p < s.size) (h1 : badR (s.data.toList.drop p) = false) (h2 : ¬ runeR (s.data.toList.drop p) = 10) (h3 : x.remark = false) (h4 : blankR (runeR (s.data.toList.drop p)) = false) (h5 : ¬ runeR (s.data.toList.drop p) = 35) (h6 : firstR (runeR (s.data.toList.drop p)) = false) (h7 : signR (runeR (s.data.toList.drop p)) = false) :
    Calls Tryd.prog 28 #[.pointer (some ⟨b, 0, none⟩), .int .i64 (p : Int), .int .i32 (runeR (s.data.toList.drop p))] w fun e w' => e = .returned (.int .i64 (takeZ s.data.toList p x).1) ∧ Spl w' b Bt s (takeZ s.data.toList p x).2 ∧ TurnB b Bt w w' := by
  have HX := Lib.hid hx
  obtain ⟨vt, hb, ho⟩ := hx
  have z0 := hb.cell (k := 0) rfl
  have z3 := hb.cell (k := 3) rfl
  have g3 := hb.frozen 3
  have hlt := hb.lt
  have HRR := Lib.hid (runeR_range (s.data.toList.drop p))
  have hne := from_ne (l := s.data.toList) (p := p) (by rw [data_len]; exact hp)
  have CB := Lib.hid (fun y (hy : Tabs y) => isBroken_any (s.extract p s.size) (runeR (s.data.toList.drop p)) y (by rw [rest_data]; exact hne) hy (by rw [rest_data]))
  rw [rest_data] at CB
  have HZ : Hid (takeZ s.data.toList p x = numberZ s.data.toList p x) := by
    show _ = _
    unfold takeZ
    rw [if_neg (by rw [h1]; decide)]
    rw [if_neg h2]
    rw [if_neg (by rw [h3, h4]; decide)]
    rw [if_neg h5]
    rw [if_neg (by rw [h6]; decide)]
    rw [if_neg (by rw [h7]; decide)]
  have p0 : (0 : Int) ≤ p := by omega
  have p1 : (p : Int) ≤ s.size := by omega
  have p2 : (s.size : Int) ≤ 1000000 := by omega
  have HT0 := Lib.hid hT
  have HB := Lib.hid hb
  have HO := Lib.hid ho
  rw [HZ.out]
  clear hb ho hT hne
  rw [h1] at CB
  have q2 : (runeR (s.data.toList.drop p) == 10) = false := by simpa using h2
  have q5 : (runeR (s.data.toList.drop p) == 35) = false := by simpa using h5
  have CK := Lib.hid (fun y => isBlank_any (runeR (s.data.toList.drop p)) y)
  have CF := Lib.hid (fun y (hy : Tabs y) => isFirst_any (runeR (s.data.toList.drop p)) y (i32_rune _ HRR.out) hy)
  have CS := Lib.hid (fun y => isSign_any (runeR (s.data.toList.drop p)) y)
  rw [h4] at CK
  rw [h6] at CF
  rw [h7] at CS
  rw [h3] at HB z3
  clear h2 h4 h5 h6 h7 HRR
  generalize runeR (s.data.toList.drop p) = R at CB CK CF CS q2 q5 ⊢
  go_enter Tryd.func28, Tryd.ntmps28
  go_wp2_with fail
  refine (CB.out _ HT0.out.now).mono ?_; rintro e w1 ⟨rfl, hb1⟩
  have S1 := Lib.hid (HX.out.below hb1)
  have T1 := Lib.hid (TurnB.of_below (b := b) (Bt := Bt) hb1 (by omega) hBt)
  have B1 := Lib.hid (HB.out.below hb1 hlt)
  have hs1 := hb1.size
  clear hb1
  have y0 := B1.out.cell (k := 0) rfl
  have y3 := B1.out.cell (k := 3) rfl
  have f3 := B1.out.frozen 3
  clear z0 z3 g3
  go_wp2_with fail
  refine (CK.out _).mono ?_; rintro e w2 ⟨rfl, rfl⟩
  go_wp2_with fail
  refine (CF.out _ (HT0.out.go T1.out.bel).now).mono ?_; rintro e w3 ⟨rfl, hb3⟩
  have S3 := Lib.hid (S1.out.below hb3)
  have T3 := Lib.hid (T1.out.trans (TurnB.of_below (b := b) (Bt := Bt) hb3 (by omega) (by omega)))
  have hs3 := hb3.size
  have B3 := Lib.hid (B1.out.below hb3 (by omega))
  clear hb3 y0 y3 f3 S1 T1 B1
  go_wp2_with fail
  refine (CS.out _).mono ?_; rintro e w4 ⟨rfl, rfl⟩
  go_wp2_with fail
  refine (number_any s x p b Bt w3 hB (by omega) hs S3.out ht hp).mono ?_
  rintro e w5 ⟨rfl, hs5, ht5⟩
  have S5 := Lib.hid hs5
  have T5 := Lib.hid (T3.out.trans ht5)
  clear hs5 ht5
  go_wp2_with fail
  go_ret
  exact ⟨rfl, S5.out, T5.out⟩

theorem take_any (s : ByteArray) (x : LexS) (p b Bt : Nat) (w : World) (hT : TabsB b w) (hB : b < Bt) (hBt : Bt ≤ w.heap.size) (hs : s.size ≤ 1000000) (hx : Spl w b Bt s x) (ht : x.toks.length ≤ 1000000) (hp : p < s.size) :
    Calls Tryd.prog 28 #[.pointer (some ⟨b, 0, none⟩), .int .i64 (p : Int), .int .i32 (runeR (s.data.toList.drop p))] w fun e w' => e = .returned (.int .i64 (takeZ s.data.toList p x).1) ∧ Spl w' b Bt s (takeZ s.data.toList p x).2 ∧ TurnB b Bt w w' := by
  cases h1 : badR (s.data.toList.drop p)
  rotate_left
  · exact take_bad s x p b Bt w hT hB hBt hs hx ht hp h1
  by_cases h2 : runeR (s.data.toList.drop p) = 10
  · exact take_line s x p b Bt w hT hB hBt hs hx ht hp h1 h2
  cases h3 : x.remark
  rotate_left
  · exact take_remark s x p b Bt w hT hB hBt hs hx ht hp h1 h2 h3
  cases h4 : blankR (runeR (s.data.toList.drop p))
  rotate_left
  · exact take_blank s x p b Bt w hT hB hBt hs hx ht hp h1 h2 h3 h4
  by_cases h5 : runeR (s.data.toList.drop p) = 35
  · exact take_hash s x p b Bt w hT hB hBt hs hx ht hp h1 h2 h3 h4 h5
  cases h6 : firstR (runeR (s.data.toList.drop p))
  rotate_left
  · exact take_name s x p b Bt w hT hB hBt hs hx ht hp h1 h2 h3 h4 h5 h6
  cases h7 : signR (runeR (s.data.toList.drop p))
  · exact take_number s x p b Bt w hT hB hBt hs hx ht hp h1 h2 h3 h4 h5 h6 h7
  · exact take_sign s x p b Bt w hT hB hBt hs hx ht hp h1 h2 h3 h4 h5 h6 h7
end Go.Proofs.YtimdojeagkbgbaaDoor.Words

/- Contract of package lex's Split. -/
namespace Go.Proofs.YtimdojeagkbgbaaDoor.Words
set_option maxRecDepth 100000
open Go.RowKit Go.Shelf Go.Lib
set_option linter.unusedVariables false

theorem lineZ_len (l : List UInt8) (p : Nat) (x : LexS) : (lineZ l p x).toks.length ≤ x.toks.length + 1 := by
  unfold lineZ addZ
  split <;> simp
theorem takeZ_len (l : List UInt8) (p : Nat) (x : LexS) : (takeZ l p x).2.toks.length ≤ x.toks.length + 1 := by
  unfold takeZ numberZ
  have h := lineZ_len l p { x with remark := false }
  repeat' split
  all_goals first
    | (exact h)
    | (simp [addZ])
theorem lexF_end (l : List UInt8) (f p : Nat) (x : LexS) (h : ¬ p < l.length) : lexF l f p x = .toks x.toks := by
  cases f with
  | zero => rfl
  | succ f => unfold lexF; rw [if_neg h]
/-- What Split answers. -/
def LexOut (Z : LexR) (base : Nat) (e : Ending) (w : World) : Prop :=
  match Z with
  | .toks t => ∃ v, e = .returned (.tuple #[v, .int .i64 (-1), .int .i64 0]) ∧ w.ownsRow base 33 4 v t.length (toksL t)
  | .bad a k => e = .returned (.tuple #[.slice none 0 0, .int .i64 (a : Int), .int .i64 k])
theorem LexOut.toks {Z : LexR} {base : Nat} {e : Ending} {w : World} {t : List Tok} {v : Value} (h : Z = .toks t) (he : e = .returned (.tuple #[v, .int .i64 (-1), .int .i64 0])) (ho : w.ownsRow base 33 4 v t.length (toksL t)) : LexOut Z base e w := by
  subst h; exact ⟨v, he, ho⟩
theorem LexOut.bad {Z : LexR} {base : Nat} {e : Ending} {w : World} {a : Nat} {k : Int} (h : Z = .bad a k) (he : e = .returned (.tuple #[.slice none 0 0, .int .i64 (a : Int), .int .i64 k])) : LexOut Z base e w := by
  subst h; exact he

theorem iterAt_grown (w : World) (k : Nat) (s : ByteArray) (p : Nat) : w.grownBy (w.iterAt k s p) (some k) :=
  ⟨rfl, rfl, rfl, by rw [Lib.iterAt_size]; exact Nat.le_refl _, fun i _ hne => Lib.iterAt_other w k i s p (fun e => hne (by rw [e]))⟩
theorem Spl.iterAt {w : World} {b Bt k : Nat} {s s' : ByteArray} {x : LexS} (h : Spl w b Bt s x) (p : Nat) (hb : b ≠ k) (hk : k < Bt) : Spl (w.iterAt k s' p) b Bt s x := by
  obtain ⟨vt, h1, h2⟩ := h
  exact ⟨vt, h1.grown (iterAt_grown _ _ _ _) (fun e => hb (by injection e)), own_grown h2 (iterAt_grown _ _ _ _) (fun g hg e => by have := (h2.lt g hg).1; injection e with e; omega)⟩

set_option maxHeartbeats 2000000 in
theorem split_any (s : ByteArray) (w : World) (hs : s.size ≤ 9223372036854775807) (hT : Tabs w) :
    Calls Tryd.prog 13 #[.string s] w fun e w' => LexOut (lexZ s.data.toList) w.heap.size e w' ∧ Below w.heap.size w w' := by
  have HT := Lib.hid hT.all
  have hl := data_len s
  have HL := Lib.hid hl
  clear hT
  by_cases hlong : 20000 < s.size
  · have hz : Hid (lexZ s.data.toList = .bad 0 7) := by show _ = _; unfold lexZ; rw [if_pos (by omega)]
    have q1 : decide (20000 < (s.size : Int)) = true := decide_eq_true (by omega)
    have q2 : decide (20000 < s.size) = true := decide_eq_true hlong
    clear hl
    go_enter Tryd.func13, Tryd.ntmps13
    go_wp2
    refine bodyPost_ret (v := .tuple #[.slice none 0 0, .int .i64 0, .int .i64 7]) (by simp [results, Tryd.results13, go_sem]) rfl ⟨LexOut.bad hz.out rfl, Below.refl _ _⟩
  · have HZ : Hid (lexZ s.data.toList = lexF s.data.toList s.data.toList.length 0 ⟨0, false, []⟩) := by show _ = _; unfold lexZ; rw [if_neg (by omega)]
    generalize lexZ s.data.toList = Z at *
    have q1 : decide (20000 < (s.size : Int)) = false := decide_eq_false (by omega)
    have q2 : decide (20000 < s.size) = false := decide_eq_false hlong
    have hs2 : s.size ≤ 20000 := by omega
    have B0 : Hid (Box (w.alloc (.cells #[.string s, .slice none 0 0, .int .i64 0, .bool false] 59)) w.heap.size (splL s (.slice none 0 0) 0 false)) := Box.new w (splL s (.slice none 0 0) 0 false) _
    have K0 := Lib.hid ((Below.refl w.heap.size w).alloc (Nat.le_refl _) (.cells #[.string s, .slice none 0 0, .int .i64 0, .bool false] 59))
    have hs0 : (w.alloc (.cells #[.string s, .slice none 0 0, .int .i64 0, .bool false] 59)).heap.size = w.heap.size + 1 := by simp
    clear hl hs hlong
    go_enter Tryd.func13, Tryd.ntmps13
    go_wp2
    go_loopw [] (fun wr => ∃ (pos fuel : Nat) (x : LexS), Spl wr w.heap.size (w.heap.size + 2) s x ∧ wr.heap[w.heap.size + 1]? = some (.stringIter s pos) ∧ Below w.heap.size w wr ∧ lexF s.data.toList fuel pos x = Z ∧ s.size ≤ pos + fuel ∧ pos ≤ s.size ∧ x.toks.length ≤ pos) (fun wr => s.size - wr.iterPos (w.heap.size + 1))
    case atStart =>
      refine ⟨0, s.data.toList.length, ⟨0, false, []⟩, ⟨.slice none 0 0, B0.out.alloc _, World.ownsRow_nil _ _ _ _⟩, ?_, K0.out.alloc (by simp) _, HZ.out.symm, by rw [HL.out]; omega, Nat.zero_le _, Nat.le_refl _⟩
      have := World.iter_heap (w.alloc (.cells #[.string s, .slice none 0 0, .int .i64 0, .bool false] 59)) s 0
      simpa using this
    case round =>
      obtain ⟨pos, fuel, x, hspl, hit, hbw, hn, hf, hp, htl⟩ := hrel
      have HIT := Lib.hid hit
      have HN := Lib.hid hn
      have hsz : w.heap.size + 1 < wr.heap.size := (Array.getElem?_eq_some_iff.1 hit).1
      have hll := HL.out
      by_cases hlt : pos < s.size
      · have hnx := fun ty => next_rune (P := Tryd.prog) hit hlt ty
        obtain ⟨f, rfl⟩ : ∃ f, fuel = f + 1 := ⟨fuel - 1, by omega⟩
        have HWD := Lib.hid (wideR_pos (s.data.toList.drop pos))
        have HWI := Lib.hid (wide_in (l := s.data.toList) (p := pos) (by omega))
        have HST : Hid (lexF s.data.toList (f + 1) pos x = if pos < x.behind then lexF s.data.toList f (pos + wideR (s.data.toList.drop pos)) x else if (takeZ s.data.toList pos x).1 = 0 then lexF s.data.toList f (pos + wideR (s.data.toList.drop pos)) (takeZ s.data.toList pos x).2 else .bad pos (takeZ s.data.toList pos x).1) := by
          show _ = _
          conv => lhs; unfold lexF
          rw [if_pos (by omega)]
        have HTL := Lib.hid (takeZ_len s.data.toList pos x)
        generalize wideR (s.data.toList.drop pos) = WD at *
        have hit2 := Lib.iterAt_heap wr (w.heap.size + 1) s pos (pos + WD) hit
        have HIT2 := Lib.hid hit2
        have hspl2 : Spl (wr.iterAt (w.heap.size + 1) s (pos + WD)) w.heap.size (w.heap.size + 2) s x := hspl.iterAt _ (by omega) (by omega)
        have HSPL2 := Lib.hid hspl2
        have HBW2 := Lib.hid (Lib.below_iterAt hbw (k := w.heap.size + 1) (by omega) s (pos + WD))
        have hsz2 : (wr.iterAt (w.heap.size + 1) s (pos + WD)).heap.size = wr.heap.size := Lib.iterAt_size _ _ _ _
        have HSZ2 := Lib.hid hsz2
        have HTL2 := Lib.hid htl
        obtain ⟨vt, hb2, ho2⟩ := hspl2
        have z2 := hb2.cell (k := 2) rfl
        clear hit hn hit2 hspl hb2 ho2 hsz2 hbw
        by_cases hbh : pos < x.behind
        · have c1 : decide ((pos : Int) < x.behind) = true := decide_eq_true (by omega)
          have c2 : decide (pos < x.behind) = true := decide_eq_true hbh
          have HBH := Lib.hid hbh
          go_wp2_with fail
          go_roundw
          case rel => exact ⟨pos + WD, f, x, HSPL2.out, HIT2.out, HBW2.out, by rw [← HN.out, HST.out, if_pos HBH.out], by have := HWD.out; omega, by have := HWI.out; omega, by have := HTL2.out; omega⟩
          case measure =>
            simp only [World.iterPos, HIT2.out, HIT.out]
            have := HWD.out; omega
        · have c1 : decide ((pos : Int) < x.behind) = false := decide_eq_false (by omega)
          have c2 : decide (pos < x.behind) = false := decide_eq_false hbh
          have HBH := Lib.hid hbh
          have HT2 := Lib.hid (HT.out.go HBW2.out)
          go_wp2_with fail
          refine (take_any s x pos w.heap.size (w.heap.size + 2) _ HT2.out (by omega) (by rw [HSZ2.out]; omega) (by omega) HSPL2.out (by have := HTL2.out; omega) hlt).mono ?_
          rintro e w3 ⟨rfl, hs3, ht3⟩
          have S3 := Lib.hid hs3
          have IT3 : Hid (w3.heap[w.heap.size + 1]? = some (.stringIter s (pos + WD))) := (ht3.mid _ (by omega) (by omega)).trans HIT2.out
          have K3 := Lib.hid (HBW2.out.trans ht3.bel)
          clear hs3 ht3 z2
          generalize takeZ s.data.toList pos x = TK at *
          obtain ⟨er, x'⟩ := TK
          simp only at *
          by_cases he : er = 0
          · have hq : (er != 0) = false := by simpa using he
            have HE := Lib.hid he
            clear he
            go_wp2_with fail
            go_roundw
            case rel => exact ⟨pos + WD, f, x', S3.out, IT3.out, K3.out, by rw [← HN.out, HST.out, if_neg HBH.out, if_pos HE.out], by have := HWD.out; omega, by have := HWI.out; omega, by have := HTL.out; have := HTL2.out; have := HWD.out; omega⟩
            case measure =>
              simp only [World.iterPos, IT3.out, HIT.out]
              have := HWD.out; omega
          · have hq : (er != 0) = true := by simpa using he
            have hz : Hid (Z = .bad pos er) := by show _ = _; rw [← HN.out, HST.out, if_neg HBH.out, if_neg he]
            clear he
            go_wp2_with fail
            refine bodyPost_ret (v := .tuple #[.slice none 0 0, .int .i64 (pos : Int), .int .i64 er]) (by simp [results, Tryd.results13, go_sem]) rfl ⟨LexOut.bad hz.out rfl, K3.out⟩
      · have hnx := fun ty => next_none (P := Tryd.prog) hit hlt ty
        have hz : Hid (Z = .toks x.toks) := by show _ = _; rw [← hn, lexF_end _ _ _ _ (by omega)]
        obtain ⟨vt, hb2, ho2⟩ := hspl
        obtain ⟨A, c, rfl⟩ := (Row.of_own ho2).form
        have z1 := hb2.cell (k := 1) rfl
        have HO := Lib.hid (own_base ho2 (show w.heap.size ≤ w.heap.size + 2 by omega))
        clear hn hit hb2 ho2
        go_wp2
        refine bodyPost_ret (v := .tuple #[.slice A x.toks.length c, .int .i64 (-1), .int .i64 0]) (by simp [results, Tryd.results13, go_sem]) rfl ⟨LexOut.toks hz.out rfl HO.out, hbw⟩
end Go.Proofs.YtimdojeagkbgbaaDoor.Words

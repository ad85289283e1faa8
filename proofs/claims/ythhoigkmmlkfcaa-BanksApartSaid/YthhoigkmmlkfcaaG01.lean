/- Several texts in one: RowCopy, Boxes, RegEx, W32, KeepS, Flat, OpenWrite. -/
import Derived.Test.YthhoigkmmlkfcaaG00
import Derived.Laws.CopyOwn
import Derived.Deep.MidRow
import Derived.Deep.Upon
import Derived.Laws.ResultCell
import Derived.Test.YthhoigkmmlkfcaaRows
import Derived.WalkKit
import Derived.ProofKit
import Derived.OpenShut
import Derived.ChangeOld

/- Laws of no one program: a part of a row; 'copy' of any row into a row of the call's own, as one operation and in a plain region. -/
namespace Go.Proofs.Ythhoigkmmlkfcaa.Words
set_option maxRecDepth 100000
open Go.RowKit
set_option linter.unusedVariables false

theorem Row.cut {w : World} {B n c k m : Nat} {b off : Nat} {xs : List Value} (h : Row w B 1 (.slice (some ⟨b, off, none⟩) n c) n xs) (hk : k + m ≤ n) (hm : 0 < n) :
    Row w B 1 (.slice (some ⟨b, off + k, none⟩) m (c - k)) m ((xs.drop k).take m) := by
  have hl : xs.length = n := by have := h.len; omega
  obtain ⟨h2, h3⟩ := h.cap
  obtain ⟨b', off', e, hb, hc⟩ := h.at_ (by omega)
  simp only [Option.some.injEq, Addr.mk.injEq, and_true] at e
  obtain ⟨rfl, rfl⟩ := e
  refine ⟨by simp; omega, _, _, rfl, by omega, by omega, (fun h => by cases h), fun _ => ⟨b, off + k, rfl, hb, fun j u hu => ?_⟩⟩
  have hj : (xs.drop k)[j]? = some u := by
    rw [List.getElem?_take] at hu
    split at hu
    · exact hu
    · cases hu
  rw [List.getElem?_drop] at hj
  rw [show off + k + j = off + (k + j) by omega]
  exact hc _ _ hj

theorem own_block {w : World} {base : Nat} {e : TypeId} {g n cap : Nat} {xs : List Value} (h : w.ownsRow base e 1 (.slice (some ⟨g, 0, none⟩) n cap) n xs) :
    ∃ cur : List Value, w.heap[g]? = some (.cells cur.toArray e (0, 0)) ∧ base ≤ g ∧ n ≤ cap ∧ cap ≤ maxLen ∧ cur.length = cap ∧ cur.take n = xs := by
  rcases h.2 with ⟨h', _⟩ | ⟨g', cap', cur, h', h1, h2, h3, h4, h5, h6⟩
  · simp at h'
  · simp only [Value.slice.injEq, Option.some.injEq, Addr.mk.injEq, and_true, true_and] at h'
    obtain ⟨rfl, rfl⟩ := h'
    exact ⟨cur.toList, by simpa using h2, h1, h3, h4, by simpa using h5, by simpa using h6⟩

theorem take_splice {α : Type} (L : List α) (off n : Nat) (cs : List α) (h : off + cs.length ≤ n) (hn : n ≤ L.length) : (splice L off cs).take n = splice (L.take n) off cs := by
  have e1 : (L.take off).length = off := by simp; omega
  unfold splice
  rw [List.take_append, List.take_of_length_le (by omega : (L.take off).length ≤ n), e1, List.take_append, List.take_of_length_le (by omega : cs.length ≤ n - off), List.take_take, Nat.min_eq_left (by omega : off ≤ n), List.drop_take]
  congr 3; omega

theorem splice_nil {α : Type} (L : List α) (k : Nat) : splice L k [] = L := by simp [splice]
theorem splice_cons {α : Type} (L : List α) (k : Nat) (x : α) (cs : List α) (h : k < L.length) : splice L k (x :: cs) = splice (L.set k x) (k + 1) cs := by
  unfold splice
  rw [List.take_add_one, List.getElem?_set_self h, List.take_set_of_le (Nat.le_refl _), List.drop_set_of_lt (by omega)]
  simp only [Option.toList_some, List.append_assoc, List.cons_append, List.nil_append, List.length_cons]
  rw [show k + (cs.length + 1) = k + 1 + cs.length by omega]

section
variable {P : Program} {w : World}

theorem wp_copy_rows {o : Oper} {a : Act} {K : Act → World → Prop} {Q : Exit → Act → World → Prop} (d s : Operand) (dT sT : TypeId)
    (ho : o.op = .call { callee := .builtin .copy, args := #[d, s], argTypes := #[dT, sT] }) (elem : TypeId) (hu : P.underlying dT = some (.slice elem)) (hsz : (P.info? elem).map (·.size) = some 1)
    (base g n cap off dLen dCap : Nat) (xs : List Value) (hown : w.ownsRow base elem 1 (.slice (some ⟨g, 0, none⟩) n cap) n xs) (hd : a.eval d = .slice (some ⟨g, off, none⟩) dLen dCap)
    (A : Option Addr) (m c B : Nat) (ys : List Value) (hs : a.eval s = .slice A m c) (hr : Row w B 1 (.slice A m c) m ys) (h1 : ∀ v ∈ ys, v.oneCell' = true) (hfit : off + min m dLen ≤ n)
    (h : ∀ w', w'.ownsRow base elem 1 (.slice (some ⟨g, 0, none⟩) n cap) n (splice xs off (ys.take dLen)) → Below g w w' → K (a.put o.dst (goInt ((min m dLen : Nat) : Int))) w') :
    Oper.wp P o a w K Q := by
  obtain ⟨cur, hg, hb, hn, hm, hcl, hx⟩ := own_block hown
  have hl : ys.length = m := by have := hr.len; omega
  have hcs : (ys.take dLen).length = min m dLen := by rw [List.length_take, hl, Nat.min_comm]
  by_cases h0 : min m dLen = 0
  · have hrun := run_copy_none (P := P) w dT sT o.type elem (some ⟨g, off, none⟩) A dLen dCap m c hu hsz h0
    have he : ys.take dLen = [] := List.eq_nil_of_length_eq_zero (hcs.trans h0)
    unfold Oper.wp
    simp [execOp, ho, resolve, invoke, builtin, hd, hs, hrun, Result.andThen]
    have := h w (by rw [he]; simpa [splice] using hown) (Below.refl _ _)
    rw [h0] at this
    exact this
  · obtain ⟨b, o2, rfl, hlt, hc⟩ := hr.at_ (show m ≠ 0 by omega)
    have hcell : ∀ j v, (ys.take dLen)[j]? = some v → w.cell? ((⟨b, o2, none⟩ : Addr).add j) = some v := by
      intro j v hv
      rw [add_spot]
      refine hc j v ?_
      rw [List.getElem?_take] at hv
      split at hv
      · exact hv
      · cases hv
    have hrun := run_copy_row (P := P) w dT sT o.type elem g off dLen dCap ⟨b, o2, none⟩ m c cur.toArray elem (ys.take dLen) hu hsz hg hcs hcell (by simp only [List.size_toArray]; omega) (fun v hv => h1 v (List.mem_of_mem_take hv))
    unfold Oper.wp
    simp [execOp, ho, resolve, invoke, builtin, hd, hs, hrun, Result.andThen]
    have hk : a.put o.dst (goInt (min dLen ys.length : Nat)) = a.put o.dst (goInt ((min m dLen : Nat) : Int)) := by rw [hl, Nat.min_comm]
    have := h (w.setRow g (splice cur off (ys.take dLen)).toArray) (by
      refine ⟨?_, .inr ⟨g, cap, (splice cur off (ys.take dLen)).toArray, rfl, hb, setRow_heap w g _ _ elem _ hg, hn, hm, ?_, ?_⟩⟩
      · have hxl : xs.length = n := by have := hown.1; omega
        rw [length_splice _ _ _ (by rw [hcs]; omega)]; omega
      · simp only [List.size_toArray]; rw [length_splice _ _ _ (by rw [hcs]; omega)]; omega
      · rw [Nat.mul_one]
        show (splice cur off (ys.take dLen)).take n = _
        rw [take_splice _ _ _ _ (by rw [hcs]; omega) (by omega), hx])
      (below_setRow (Below.refl _ _) (Nat.le_refl _) _)
    rw [← hk] at this
    unfold splice at this
    simp only [List.length_take] at this
    exact this

theorem wpList_copy_rows {ops : Array Oper} {rest : List Oper} {o : Oper} {a : Act} {Q : Exit → Act → World → Prop} (hgd : o.guard = none) (d s : Operand) (dT sT : TypeId)
    (ho : o.op = .call { callee := .builtin .copy, args := #[d, s], argTypes := #[dT, sT] }) (elem : TypeId) (hu : P.underlying dT = some (.slice elem)) (hsz : (P.info? elem).map (·.size) = some 1)
    (base g n cap off dLen dCap : Nat) (xs : List Value) (hown : w.ownsRow base elem 1 (.slice (some ⟨g, 0, none⟩) n cap) n xs) (hd : a.eval d = .slice (some ⟨g, off, none⟩) dLen dCap)
    (A : Option Addr) (m c B : Nat) (ys : List Value) (hs : a.eval s = .slice A m c) (hr : Row w B 1 (.slice A m c) m ys) (h1 : ∀ v ∈ ys, v.oneCell' = true) (hfit : off + min m dLen ≤ n)
    (h : ∀ w', w'.ownsRow base elem 1 (.slice (some ⟨g, 0, none⟩) n cap) n (splice xs off (ys.take dLen)) → Below g w w' → wpList P ops Q rest (a.put o.dst (goInt ((min m dLen : Nat) : Int))) w') :
    wpList P ops Q (o :: rest) a w :=
  wpList_plain hgd fun K hK => wp_copy_rows d s dT sT ho elem hu hsz base g n cap off dLen dCap xs hown hd A m c B ys hs hr h1 hfit fun w' h2 h3 => hK _ _ (h w' h2 h3)
end
end Go.Proofs.Ythhoigkmmlkfcaa.Words

/- Laws of no one program: a variable of many cells (a struct, an array) as ONE block whose cells are a list that need not be written out: read whole or in part, written whole or in part; the world behind a write is a variable. -/
namespace Go.Proofs.Ythhoigkmmlkfcaa.Words
set_option maxRecDepth 100000
open Go.RowKit
set_option linter.unusedVariables false

/-- Block b holds the cells l, and may be written. -/
def Box (w : World) (b : Nat) (l : List Value) : Prop := ∃ t, w.heap[b]? = some (.cells l.toArray t (0, 0))
section
variable {w w' : World} {b : Nat} {l : List Value}
theorem Box.new (w : World) (l : List Value) (t : TypeId) : Box (w.alloc (.cells l.toArray t)) w.heap.size l := ⟨t, heap_alloc_new w _⟩
theorem Box.lt (h : Box w b l) : b < w.heap.size := by obtain ⟨t, h⟩ := h; exact (Array.getElem?_eq_some_iff.1 h).1
theorem Box.cell (h : Box w b l) {k : Nat} {v : Value} (hk : l[k]? = some v) : w.cell? ⟨b, k, none⟩ = some v := by
  obtain ⟨t, h⟩ := h
  rw [cell_of_row w b k _ t (0, 0) h]; simpa using hk
theorem Box.frozen (h : Box w b l) (k : Nat) : w.frozen? ⟨b, k, none⟩ = false := by
  obtain ⟨t, h⟩ := h
  simp [World.frozen?, h]
theorem Box.range (h : Box w b l) {o : Nat} {cs : List Value} (hc : ∀ j v, cs[j]? = some v → l[o + j]? = some v) : w.rangeAt b o cs := fun j v hv => h.cell (hc j v hv)
theorem Box.whole (h : Box w b l) : w.rangeAt b 0 l := h.range (fun j v hv => by rw [Nat.zero_add]; exact hv)
theorem Box.there (h : Box w b l) {o n : Nat} (hn : o + n ≤ l.length) : w.there b o n := fun j hj => by
  refine ⟨?_, h.frozen _⟩
  rw [h.cell (List.getElem?_eq_getElem (show o + j < l.length by omega))]; rfl
theorem Box.below {B : Nat} (h : Box w b l) (hb : Below B w w') (hB : b < B) : Box w' b l := by
  obtain ⟨t, h⟩ := h
  exact ⟨t, (hb.block b hB).trans h⟩
theorem Box.grown {row : Option Nat} (h : Box w b l) (hg : w.grownBy w' row) (hne : some b ≠ row) : Box w' b l := by
  have := h.lt
  obtain ⟨t, h⟩ := h
  exact ⟨t, (hg.block b this hne).trans h⟩
theorem Box.alloc (h : Box w b l) (o : Obj) : Box (w.alloc o) b l := by
  have := h.lt
  obtain ⟨t, h⟩ := h
  exact ⟨t, (heap_alloc_old w o this).trans h⟩
theorem Box.drew (h : Box w b l) : Box w.drew b l := h
theorem Box.drewN (h : Box w b l) (k : Nat) : Box (w.drewN k) b l := h
theorem Box.setCell (h : Box w b l) (k : Nat) (v : Value) : Box (w.setCell ⟨b, k, none⟩ v) b (l.set k v) := by
  obtain ⟨t, h⟩ := h
  refine ⟨t, ?_⟩
  unfold World.setCell
  simp only [Array.getElem?_modify, if_pos, h]
  simp
theorem Box.setCell_other (h : Box w b l) {b' : Nat} (hne : b ≠ b') (k : Nat) (v : Value) : Box (w.setCell ⟨b', k, none⟩ v) b l := by
  obtain ⟨t, h⟩ := h
  refine ⟨t, ?_⟩
  unfold World.setCell
  simp only [Array.getElem?_modify, if_neg (show ¬ b' = b from fun e => hne e.symm), h]
theorem Box.setCells : ∀ {vs : List Value} {o : Nat} {w : World} {l : List Value}, Box w b l → o + vs.length ≤ l.length → Box (w.setCells b o vs) b (splice l o vs)
  | [], o, w, l, h, hl => by rw [splice_nil]; exact h
  | v :: r, o, w, l, h, hl => by
    have hl' : o < l.length := by simp at hl; omega
    rw [World.setCells, splice_cons _ _ _ _ hl']
    exact Box.setCells (h.setCell o v) (by simp at hl ⊢; omega)
theorem grown_setCell (w : World) (b k : Nat) (v : Value) (hb : b < w.heap.size) : w.grownBy (w.setCell ⟨b, k, none⟩ v) (some b) :=
  ⟨rfl, rfl, rfl, by simp [World.setCell], fun i hi hne => by unfold World.setCell; simp only [Array.getElem?_modify, if_neg (show ¬ b = i from fun e => hne (by rw [e]))]⟩
theorem grown_setCells (w : World) (b : Nat) (vs : List Value) (o : Nat) (hb : b < w.heap.size) : w.grownBy (w.setCells b o vs) (some b) := by
  induction vs generalizing o w with
  | nil => exact World.grownBy.refl _ _
  | cons v r ih =>
    rw [World.setCells]
    have h1 := grown_setCell w b o v hb
    have h2 := ih (w.setCell ⟨b, o, none⟩ v) (o + 1) (Nat.lt_of_lt_of_le hb h1.size)
    exact ⟨h2.os.trans h1.os, h2.tape.trans h1.tape, h2.output.trans h1.output, Nat.le_trans h1.size h2.size, fun i hi hne => (h2.block i (Nat.lt_of_lt_of_le hi h1.size) hne).trans (h1.block i hi hne)⟩
end

section
variable {P : Program} {w : World} {ops : Array Oper} {rest : List Oper} {op : Oper} {a : Act} {Q : Exit → Act → World → Prop}

/-- A variable is read, whole or in part. -/
theorem wpList_load_box (hw : Region.wanted op (yielded ops a.tmps) = true) (ty : TypeId) (x : Operand) (ho : op.op = .load ty x)
    (b o : Nat) (hx : a.eval x = .pointer (some ⟨b, o, none⟩)) (l cs : List Value) (hb : Box w b l) (hc : ∀ j v, cs[j]? = some v → l[o + j]? = some v) (d : TypeDesc)
    (hu : P.underlying ty = some d) (hd : d.isRow = true) (n : Nat) (hi : (P.info? ty).map (·.size) = some n) (hn : cs.length = n)
    (h : wpList P ops Q rest (a.put op.dst (.agg cs.toArray)) w) : wpList P ops Q (op :: rest) a w :=
  wpList_step fun K hK => by rw [if_pos hw]; exact wp_load_mid ty x ho b o hx cs d (hb.range hc) hu hd (by rw [hn]; exact hi) (hK _ _ h)
/-- A variable is written, whole or in part. -/
theorem wpList_store_box (hw : Region.wanted op (yielded ops a.tmps) = true) (ty : TypeId) (x y : Operand) (ho : op.op = .store ty x y)
    (b o : Nat) (cs : List Value) (hx : a.eval x = .pointer (some ⟨b, o, none⟩)) (hy : a.eval y = .agg cs.toArray) (l : List Value) (hb : Box w b l) (hl : o + cs.length ≤ l.length)
    (n : Nat) (hi : (P.info? ty).map (·.size) = some n) (hn : cs.length = n) (h1 : ∀ v ∈ cs, v.oneCell' = true)
    (h : ∀ w', Box w' b (splice l o cs) → w.grownBy w' (some b) → wpList P ops Q rest (a.put op.dst undef) w') : wpList P ops Q (op :: rest) a w :=
  wpList_step fun K hK => by rw [if_pos hw]; exact wp_store_mid ty x y ho b o cs.toArray hx hy (hb.there (by simpa using hl)) (by rw [hi]; simp [hn]) (all_oneCell_toArray h1) (hK _ _ <|
    h _ (by simpa using hb.setCells hl) (by simpa using grown_setCells w b cs o hb.lt))
end
/-- What is answered lies in a variable. -/
theorem results_cell {fn : Func} {p : Tmp} {ty : TypeId} (h : fn.results = #[.cell p ty]) (tmps : Array Value) (P : Program) (w : World) (a : Addr) (v : Value) (ht : tmps.getD p undef = .pointer (some a)) (hl : (loadVar ty a).run P w = .ok v w) :
    (results fn tmps).run P w = .ok v w := by
  have ht' : (tmps[p]?).getD undef = .pointer (some a) := by rw [← ht]; simp
  simp only [results, h]
  simp [ht', asAddr, hl]
theorem results_cell_tmp' {fn : Func} {p u : Tmp} {ty : TypeId} (h : fn.results = #[.cell p ty, .tmp u]) (tmps : Array Value) (P : Program) (w : World) (a : Addr) (v x : Value) (ht : tmps.getD p undef = .pointer (some a)) (hl : (loadVar ty a).run P w = .ok v w) (hu : tmps.getD u undef = x) :
    (results fn tmps).run P w = .ok (.tuple #[v, x]) w := by
  rw [results_cell_tmp h, ht, hu]
  simp [Result.andThen, asAddr, hl]
theorem grown_ge {a b c : Nat} (h : some a = some b) (h' : c ≤ a) : c ≤ b := by injection h with h; omega
/-- A cell kept over a call and over a write into another block. -/
theorem cell_over {B b k row : Nat} {v : Value} {x y z : World} (hb : Below B x y) (hg : y.grownBy z (some row)) (hB : b < B) (hsz : B ≤ y.heap.size) (hne : b ≠ row) (hv : x.cell? ⟨b, k, none⟩ = some v) : z.cell? ⟨b, k, none⟩ = some v := by
  have h1 := below_cell hb hB hv
  rw [World.cell?_of_block (a := ⟨b, k, none⟩) (hg.block b (by omega) (fun h => by injection h with h; exact hne h))]
  exact h1
theorem splice_whole {α : Type} (L cs : List α) (h : cs.length = L.length) : splice L 0 cs = cs := by simp [splice, h]
end Go.Proofs.Ythhoigkmmlkfcaa.Words

/- Laws of no one program: a region that draws its order, walked along a tree, with ONE continuation that knows what the region has made; append onto an own row as a step of such a tree. -/
namespace Go.Proofs.Ythhoigkmmlkfcaa.Words
set_option maxRecDepth 100000
open Go.RowKit
set_option linter.unusedVariables false
section
variable {P : Program} {ops : Array Oper} {Q : Exit → Act → World → Prop} {R : Act → World → Prop} {α : Type}
theorem region_tree_ex {id : Nat} {a : Act} {w : World} (F : Act → α → Act) (G : α → World → Prop) (t : LinT) (hm : P.follows .mixedOrders = true) (hs : Region.noSelect ops = true) (hl : t.size = ops.size)
    (hok : t.ok .any ops (Array.replicate ops.size false) = true) (S : World → Prop)
    (h : wpT P ops (NoPanic Q) (fun a' w' => ∃ B, a' = F a B ∧ G B w') (t.look ops) S a w.drew) (hR : ∀ B w', G B w' → Q .normal (F a B) w') : (Code.region id ops true).wp P Q a w :=
  wp_region_tree _ t hm hs hl hok S (fun a' w' hh => by obtain ⟨B, rfl, hg⟩ := hh; exact hR B w' hg) h
theorem tree_load_ex {op : Oper} {rest : LinO} {S : World → Prop} {a : Act} {w : World} (hS : S w) (hw : Region.wanted op (yielded ops a.tmps) = true) (ty : TypeId) (x : Operand) (ho : op.op = .load ty x)
    (b k : Nat) (hx : a.eval x = .pointer (some ⟨b, k, none⟩)) (l cs : List Value) (hb : ∀ y, S y → Box y b l) (hc : ∀ j v, cs[j]? = some v → l[k + j]? = some v) (d : TypeDesc)
    (hu : P.underlying ty = some d) (hd : d.isRow = true) (n : Nat) (hi : (P.info? ty).map (·.size) = some n) (hn : cs.length = n)
    (h : wpT P ops Q R rest S (a.put op.dst (.agg cs.toArray)) w) : wpT P ops Q R (.one (some op) true rest) S a w :=
  ⟨S, fun _ h => h, hS, _, yieldsIf_load_mid hw ty x ho b k hx cs d (fun y hy => (hb y hy).range hc) hu hd (by rw [hn]; exact hi), h⟩
end
section
variable {P : Program} {ops : Array Oper} {Q : Exit → Act → World → Prop} {R : Act → World → Prop}
theorem tree_put_cells {op : Oper} {rest : LinO} {S : World → Prop} {a : Act} {w : World} (hS : S w) (hw : Region.wanted op (yielded ops a.tmps) = true) (ty : TypeId) (x y : Operand) (ho : op.op = .store ty x y)
    (b k : Nat) (cs : List Value) (hx : a.eval x = .pointer (some ⟨b, k, none⟩)) (hy : a.eval y = .agg cs.toArray) (l : List Value) (hb : Box w b l) (hl : k + cs.length ≤ l.length)
    (n : Nat) (hi : (P.info? ty).map (·.size) = some n) (hn : cs.length = n) (h1 : ∀ v ∈ cs, v.oneCell' = true)
    (hT : ∀ w', Box w' b (splice l k cs) → w.grownBy w' (some b) → S w')
    (h : ∀ w', Box w' b (splice l k cs) → w.grownBy w' (some b) → wpT P ops Q R rest S (a.put op.dst undef) w') : wpT P ops Q R (.one (some op) false rest) S a w :=
  tree_call hS hw fun K hK => wp_store_mid ty x y ho b k cs.toArray hx hy (hb.there (by simpa using hl)) (by rw [hi]; simp [hn]) (all_oneCell_toArray h1) (hK.out _ _
    (hT _ (by simpa using hb.setCells hl) (by simpa using grown_setCells w b cs k hb.lt)) fun _ => h _ (by simpa using hb.setCells hl) (by simpa using grown_setCells w b cs k hb.lt))
theorem own_less {w : World} {base base' : Nat} {e : TypeId} {size : Nat} {v : Value} {n : Nat} {xs : List Value} (h : w.ownsRow base e size v n xs) (hb : base' ≤ base) : w.ownsRow base' e size v n xs := by
  obtain ⟨h0, h1⟩ := h
  refine ⟨h0, ?_⟩
  rcases h1 with h1 | ⟨g, c, cur, e1, h3, h4⟩
  · exact .inl h1
  · exact .inr ⟨g, c, cur, e1, Nat.le_trans hb h3, h4⟩
end
section
variable {P : Program} {ops : Array Oper} {rest : List (Option Oper × Bool)} {op : Oper} {a : Act} {Q : Exit → Act → World → Prop} {S : World → Prop} {w : World}
theorem lin_put_cells (hS : S w) (hw : Region.wanted op (yielded ops a.tmps) = true) (ty : TypeId) (x y : Operand) (ho : op.op = .store ty x y)
    (b k : Nat) (cs : List Value) (hx : a.eval x = .pointer (some ⟨b, k, none⟩)) (hy : a.eval y = .agg cs.toArray) (l : List Value) (hb : Box w b l) (hl : k + cs.length ≤ l.length)
    (n : Nat) (hi : (P.info? ty).map (·.size) = some n) (hn : cs.length = n) (h1 : ∀ v ∈ cs, v.oneCell' = true)
    (hT : ∀ w', Box w' b (splice l k cs) → w.grownBy w' (some b) → S w')
    (h : ∀ w', Box w' b (splice l k cs) → w.grownBy w' (some b) → wpLin P ops Q rest S (a.put op.dst undef) w') : wpLin P ops Q ((some op, false) :: rest) S a w :=
  lin_call hS hw fun K hK => wp_store_mid ty x y ho b k cs.toArray hx hy (hb.there (by simpa using hl)) (by rw [hi]; simp [hn]) (all_oneCell_toArray h1) (hK.out _ _
    (hT _ (by simpa using hb.setCells hl) (by simpa using grown_setCells w b cs k hb.lt)) fun _ => h _ (by simpa using hb.setCells hl) (by simpa using grown_setCells w b cs k hb.lt))
end
section
variable {P : Program} (w : World)
theorem wp_append_new {o : Oper} {a : Act} {K : Act → World → Prop} {Q : Exit → Act → World → Prop} (s y : Operand) (t : TypeId)
    (ho : o.op = .call { callee := .builtin .append, args := #[s, y], argTypes := #[t, t] })
    (base : Nat) (e : TypeId) (i : TypeInfo) (z : Value) (size bytes : Nat) (ht : P.underlying t = some (.slice e)) (hi : P.info? e = some i) (hz : i.zero = some z)
    (hsize : i.size = size) (hby : i.bytes = bytes) (hzs : z.cells.size = size) (hsz : 0 < size)
    (v : Value) (n : Nat) (xs : List Value) (hs : a.eval s = v) (hown : w.ownsRow base e size v n xs) (B : Nat) (x : Value) (m : Nat) (news : List Value) (hx : a.eval y = x) (hr : Row w B size x m news) (h1 : ∀ u ∈ news, u.oneCell' = true)
    (h63 : n + m ≤ maxLen) (hbytes : (n + m) * bytes ≤ 140737488355328) (hbase : base ≤ w.heap.size)
    (h : ∀ v' w', w'.ownsRow base e size v' (n + m) (xs ++ news) → w.grownBy w' v.ownBlock → (∀ g, v'.ownBlock = some g → v.ownBlock = some g ∨ w.heap.size ≤ g) → K (a.put o.dst v') w') : o.wp P a w K Q := by
  obtain ⟨v', w', hrun, h2, h3, h4⟩ := run_append_new (P := P) w base t o.type e i z size bytes ht hi hz hsize hby hzs hsz v n xs hown B x m news hr h1 h63 hbytes hbase
  unfold Oper.wp execOp
  simp only [ho, resolve, invoke, builtin, Sem.run_bind, Sem.run_pure, Result.andThen_ok, List.map_toArray, List.map_cons, List.map_nil, hs, hx, hrun]
  exact h v' w' h2 h3 h4
theorem wpList_built_at {ops : Array Oper} {rest : List Oper} {o : Oper} {a : Act} {Q : Exit → Act → World → Prop} (hg : o.guard = none) (t : TypeId) (parts : Array (Nat × Operand)) (ho : o.op = .build t parts)
    (cells : Array Value) (hb : P.built t (parts.map fun (i, x) => (i, a.eval x)).toList = some cells) (h : wpList P ops Q rest (a.put o.dst (.agg cells)) w) : wpList P ops Q (o :: rest) a w :=
  wpList_plain hg fun K hK => wp_build t parts ho (by rw [hb]; rfl) (by rw [hb]; exact hK _ _ h)
/-- A row of one record that has just been made. -/
theorem row_new (l : List Value) (s : Nat) (hl : l.length = s) (hs : 0 < s) (t : TypeId) : Row (w.alloc (.cells l.toArray t)) (w.heap.size + 1) s (.slice (some ⟨w.heap.size, 0, none⟩) 1 1) 1 l := by
  refine ⟨by omega, _, _, rfl, Nat.le_refl _, by omega, (fun h => by cases h), fun _ => ⟨w.heap.size, 0, rfl, Nat.lt_succ_self _, fun j u hu => ?_⟩⟩
  have := new_cells w l.toArray t l rfl j u hu
  rwa [add_spot] at this
end
end Go.Proofs.Ythhoigkmmlkfcaa.Words

/- Rows of words: their values, one new one. -/
namespace Go.Proofs.Ythhoigkmmlkfcaa.Words
set_option maxRecDepth 100000
open Go.RowKit
set_option linter.unusedVariables false
set_option linter.unusedSimpArgs false

def w32 (l : List Int) : List Value := l.map (Value.int .u32)
theorem w32_one (l : List Int) : ∀ u ∈ w32 l, u.oneCell' = true := by
  intro u hu
  obtain ⟨x, _, rfl⟩ := List.mem_map.1 hu; rfl
theorem w32_len (l : List Int) : (w32 l).length = l.length := by simp [w32]
theorem w32_app (l m : List Int) : w32 l ++ w32 m = w32 (l ++ m) := by simp [w32]
theorem info_u32 : (Try.prog.info? 27).map (fun i => (i.zero, i.size, i.bytes)) = some (some (.int .u32 0), 1, 4) := by kernel_rfl
theorem parts_u32 : ∃ i, Try.prog.info? 27 = some i ∧ i.zero = some (.int .u32 0) ∧ i.size = 1 ∧ i.bytes = 4 := by
  have h := info_u32
  cases hi : Try.prog.info? 27 with
  | none => rw [hi] at h; cases h
  | some i =>
    rw [hi] at h
    simp only [Option.map_some, Option.some.injEq, Prod.mk.injEq] at h
    exact ⟨i, rfl, h.1, h.2.1, h.2.2⟩
theorem row_one1 (w : World) (x : Int) (t : TypeId) : Row (w.alloc (.cells #[.int .u32 x] t)) (w.heap.size + 1) 1 (.slice (some ⟨w.heap.size, 0, none⟩) 1 1) 1 (w32 [x]) := by
  refine ⟨rfl, _, _, rfl, Nat.le_refl _, by omega, (fun h => by cases h), fun _ => ⟨w.heap.size, 0, rfl, Nat.lt_succ_self _, fun j u hu => ?_⟩⟩
  have := new_cells w #[.int .u32 x] t [.int .u32 x] rfl j u hu
  rwa [add_spot] at this
theorem take_next {q : List Int} {j : Nat} (hj : j < q.length) : q.take (j + 1) = q.take j ++ [q.getD j 0] := by
  rw [List.take_add_one, List.getElem?_eq_getElem hj, List.getD_eq_getElem?_getD, List.getElem?_eq_getElem hj]; rfl

theorem w32_at {l : List Int} {j : Nat} (h : j < l.length) : (w32 l)[j]? = some (.int .u32 (l.getD j 0)) := by
  unfold w32; rw [List.getElem?_map, List.getD_eq_getElem?_getD, List.getElem?_eq_getElem h]; rfl
end Go.Proofs.Ythhoigkmmlkfcaa.Words

/- Which blocks a call leaves as they were. Nothing here speaks of one program text. -/
namespace Go.Proofs.Ythhoigkmmlkfcaa.Words
set_option maxRecDepth 100000
open Go.RowKit
set_option linter.unusedVariables false

/-- All blocks but those of S stand. -/
structure KeepS (S : Nat → Prop) (w w' : World) : Prop where
  os : w'.os = w.os
  tape : w'.tape = w.tape
  output : w'.output = w.output
  size : w.heap.size ≤ w'.heap.size
  block : ∀ k, k < w.heap.size → ¬ S k → w'.heap[k]? = w.heap[k]?
section
variable {S S' : Nat → Prop} {w w' w'' : World}
theorem KeepS.refl (S : Nat → Prop) (w : World) : KeepS S w w := ⟨rfl, rfl, rfl, Nat.le_refl _, fun _ _ _ => rfl⟩
theorem KeepS.trans (h : KeepS S w w') (g : KeepS S w' w'') : KeepS S w w'' :=
  ⟨g.os.trans h.os, g.tape.trans h.tape, g.output.trans h.output, Nat.le_trans h.size g.size, fun k hk hs => (g.block k (Nat.lt_of_lt_of_le hk h.size) hs).trans (h.block k hk hs)⟩
theorem KeepS.mono (h : KeepS S w w') (hs : ∀ k, S k → S' k) : KeepS S' w w' := ⟨h.os, h.tape, h.output, h.size, fun k hk hn => h.block k hk (fun e => hn (hs k e))⟩
theorem KeepS.of_below (h : Below w.heap.size w w') : KeepS S w w' := ⟨h.os, h.tape, h.output, h.size, fun k hk _ => h.block k hk⟩
theorem KeepS.of_grown {row : Option Nat} (h : w.grownBy w' row) (hr : ∀ k, row = some k → S k) : KeepS S w w' := ⟨h.os, h.tape, h.output, h.size, fun k hk hn => h.block k hk (fun e => hn (hr k e.symm))⟩
theorem KeepS.alloc (h : KeepS S w w') (o : Obj) : KeepS S w (w'.alloc o) := h.trans (KeepS.of_below ((Below.refl _ _).alloc (Nat.le_refl _) o))
theorem KeepS.drew (h : KeepS S w w') : KeepS S w w'.drew := ⟨h.os, h.tape, h.output, h.size, h.block⟩
theorem KeepS.drewN (h : KeepS S w w') (k : Nat) : KeepS S w (w'.drewN k) := h.trans (KeepS.of_below (Below.drewN_ (Below.refl _ _) k))
theorem KeepS.setCell (h : KeepS S w w') {b : Nat} (hb : S b) (k : Nat) (v : Value) : KeepS S w (w'.setCell ⟨b, k, none⟩ v) :=
  h.trans ⟨rfl, rfl, rfl, by simp [World.setCell], fun j _ hn => Below.heap_setCell w' ⟨b, k, none⟩ v j (fun e => hn (by rw [e]; exact hb))⟩
theorem KeepS.go (h : KeepS S w w') (hb : Below w'.heap.size w' w'') : KeepS S w w'' := h.trans (KeepS.of_below hb)
/-- What lies below all of S stands. -/
theorem KeepS.below (h : KeepS S w w') {B : Nat} (hB : B ≤ w.heap.size) (hs : ∀ k, S k → B ≤ k) : Below B w w' :=
  ⟨h.os, h.tape, h.output, h.size, fun k hk => h.block k (Nat.lt_of_lt_of_le hk hB) (fun e => by have := hs k e; omega)⟩
theorem KeepS.cell (h : KeepS S w w') {b k : Nat} {v : Value} (hb : b < w.heap.size) (hn : ¬ S b) (hv : w.cell? ⟨b, k, none⟩ = some v) : w'.cell? ⟨b, k, none⟩ = some v :=
  (World.cell?_of_block (w := w) (a := ⟨b, k, none⟩) (h.block b hb hn)).trans hv
theorem Box.keepS {b : Nat} {l : List Value} (h : Box w b l) (hk : KeepS S w w') (hn : ¬ S b) : Box w' b l := by
  have hb := h.lt
  obtain ⟨t, h⟩ := h
  exact ⟨t, (hk.block b hb hn).trans h⟩
theorem own_keepS {base : Nat} {e : TypeId} {size : Nat} {v : Value} {n : Nat} {xs : List Value} (h : w.ownsRow base e size v n xs) (hk : KeepS S w w') (hn : ∀ g, v.ownBlock = some g → ¬ S g) : w'.ownsRow base e size v n xs := by
  obtain ⟨h0, h1⟩ := h
  refine ⟨h0, ?_⟩
  rcases h1 with ⟨rfl, h2⟩ | ⟨g, c, cur, rfl, h3, h4, h5⟩
  · exact .inl ⟨rfl, h2⟩
  · have hlt : g < w.heap.size := (Array.getElem?_eq_some_iff.1 h4).1
    exact .inr ⟨g, c, cur, rfl, h3, (hk.block g hlt (hn g rfl)).trans h4, h5⟩
theorem Row.keepS {B size n : Nat} {v : Value} {xs : List Value} (h : Row w B size v n xs) (hk : KeepS S w w') (hB : B ≤ w.heap.size) (hs : ∀ k, S k → B ≤ k) : Row w' B size v n xs := h.below (hk.below hB hs)
end
/-- What was new may turn. -/
theorem KeepS.newer {S : Nat → Prop} {w w' z : World} (h : KeepS S w w') (g : KeepS (fun j => w.heap.size ≤ j) w' z) : KeepS S w z :=
  ⟨g.os.trans h.os, g.tape.trans h.tape, g.output.trans h.output, Nat.le_trans h.size g.size, fun k hk hs => (g.block k (Nat.lt_of_lt_of_le hk h.size) (Nat.not_le.2 hk)).trans (h.block k hk hs)⟩
end Go.Proofs.Ythhoigkmmlkfcaa.Words

/- Rows of records: each record's cells one behind the other. Nothing here speaks of one program text. -/
namespace Go.Proofs.Ythhoigkmmlkfcaa.Words
set_option maxRecDepth 100000
open Go.RowKit
section
variable {α : Type} {f : α → List Value} {s : Nat}
def flat (f : α → List Value) (l : List α) : List Value := l.flatMap f
theorem flat_nil : flat f [] = [] := rfl
theorem flat_cons (x : α) (l : List α) : flat f (x :: l) = f x ++ flat f l := by simp [flat]
theorem flat_append (l m : List α) : flat f (l ++ m) = flat f l ++ flat f m := by simp [flat]
theorem flat_one (x : α) : flat f [x] = f x := by simp [flat]
theorem flat_snoc (l : List α) (x : α) : flat f (l ++ [x]) = flat f l ++ f x := by rw [flat_append, flat_one]
theorem flat_len (hf : ∀ x, (f x).length = s) (l : List α) : (flat f l).length = l.length * s := by
  induction l with
  | nil => simp [flat]
  | cons x l ih => rw [flat_cons, List.length_append, ih, hf, List.length_cons, Nat.add_mul, Nat.one_mul, Nat.add_comm]
theorem flat_at (hf : ∀ x, (f x).length = s) (l : List α) (k : Nat) (x : α) (h : l[k]? = some x) (j : Nat) (hj : j < s) : (flat f l)[k * s + j]? = (f x)[j]? := by
  induction l generalizing k with
  | nil => simp at h
  | cons y l ih =>
    rw [flat_cons]
    cases k with
    | zero =>
      simp at h; subst h
      rw [List.getElem?_append_left (by rw [hf]; omega), Nat.zero_mul, Nat.zero_add]
    | succ k =>
      simp at h
      have e : (k + 1) * s = s + k * s := by rw [Nat.add_mul, Nat.one_mul, Nat.add_comm]
      rw [List.getElem?_append_right (by rw [hf, e]; omega), hf, show (k + 1) * s + j - s = k * s + j by omega]
      exact ih k h
theorem Row.flat_cell {w : World} {B n c b off : Nat} {l : List α} (hf : ∀ x, (f x).length = s) (h : Row w B s (.slice (some ⟨b, off, none⟩) n c) n (flat f l)) {k : Nat} {x : α} (hx : l[k]? = some x) {j : Nat} {u : Value} (hj : j < s) (hu : (f x)[j]? = some u) :
    w.cell? ⟨b, off + k * s + j, none⟩ = some u := by
  have := h.cells ⟨b, off, none⟩ rfl (k * s + j) u ((flat_at hf l k x hx j hj).trans hu)
  rwa [add_spot, ← Nat.add_assoc] at this
theorem Row.flat_count {w : World} {B n : Nat} {v : Value} {l : List α} (hf : ∀ x, (f x).length = s) (hs : 0 < s) (h : Row w B s v n (flat f l)) : l.length = n := by
  have := h.1
  rw [flat_len hf] at this
  exact Nat.eq_of_mul_eq_mul_right hs this
end
end Go.Proofs.Ythhoigkmmlkfcaa.Words

/- An argument that is a struct of 3 ints by value (api.Write): its numbers. -/
namespace Go.Proofs.Ythhoigkmmlkfcaa.Words
set_option maxRecDepth 100000
open Go.ChangeShapes Go.WideShapes Go.ChangeAt Go.RowKit

/-- The numbers. -/
structure Wr where
  addr : Int
  size : Int
  val : Int
deriving DecidableEq
/-- They are of Go's int. -/
def Wr.Fits (i : Wr) : Prop :=
  (-9223372036854775808 ≤ i.addr ∧ i.addr ≤ 9223372036854775807) ∧ (-9223372036854775808 ≤ i.size ∧ i.size ≤ 9223372036854775807) ∧ (0 ≤ i.val ∧ i.val ≤ 4294967295)

section
variable {H : Type} {enc : TypeId × Value → H} {w : World} {base : Nat} {spare : Nat → Bool} {held : Bool}

def wrCells (i : Wr) : List Value := [.int .i64 i.addr, .int .i64 i.size, .int .u32 i.val]

theorem wr_cells {fuel : Nat} {cs : List Value} {x : DataW H × List MemPlace} (h : DataW.trod enc Try.prog w base spare held fuel 68 cs = some x) :
    ∃ i : Wr, i.Fits ∧ cs = wrCells i := by
  obtain ⟨xs, n, _, _, hlen, hxl, hg⟩ := DataW.trod_struct Try.underlying68 h
  have hC : Try.prog.cellsOf 68 = 3 := by kernel_rfl
  have hc_int : Try.prog.cellsOf 3 = 1 := by kernel_rfl
  have hc_uint32 : Try.prog.cellsOf 27 = 1 := by kernel_rfl
  rw [hC] at hlen
  have hxl' : xs.length = 3 := hxl
  match cs, hlen with
  | [c0, c1, c2], _ =>
    have g0 : DataW.trod enc Try.prog w base spare held n 3 (([c0, c1, c2].drop 0).take 1) = some (xs[0]'(by omega)) := by rw [← List.getElem?_eq_getElem (by omega), ← hc_int]; exact hg 0 _ rfl
    obtain ⟨n0, e0, _, f0⟩ := DataW.trod_int Try.underlying3 g0
    have g1 : DataW.trod enc Try.prog w base spare held n 3 (([c0, c1, c2].drop 1).take 1) = some (xs[1]'(by omega)) := by rw [← List.getElem?_eq_getElem (by omega), ← hc_int]; exact hg 1 _ rfl
    obtain ⟨n1, e1, _, f1⟩ := DataW.trod_int Try.underlying3 g1
    have g2 : DataW.trod enc Try.prog w base spare held n 27 (([c0, c1, c2].drop 2).take 1) = some (xs[2]'(by omega)) := by rw [← List.getElem?_eq_getElem (by omega), ← hc_uint32]; exact hg 2 _ rfl
    obtain ⟨n2, e2, _, f2⟩ := DataW.trod_int Try.underlying27 g2
    simp only [List.drop_zero, List.take_succ_cons, List.take_zero, List.drop_succ_cons, List.cons.injEq, and_true] at e0 e1 e2
    subst e0 e1 e2
    exact ⟨⟨n0, n1, n2⟩, ⟨bounds_i64 f0, bounds_i64 f1, bounds_u32 f2⟩, rfl⟩

theorem open_wr {r : Reach} {b0 : Nat} {v : Value} {d : DataW H} {ps : List MemPlace} (hval : Value.okWide Try.prog w r b0 68 v) (hd : DataW.Trod enc Try.prog w base spare held 68 v d ps) :
    ∃ i : Wr, i.Fits ∧ v = .agg #[.int .i64 i.addr, .int .i64 i.size, .int .u32 i.val] := by
  obtain ⟨cs, rfl, _⟩ := okWide_struct Try.underlying68 hval
  obtain ⟨fuel, hf⟩ := hd
  obtain ⟨i, hi, hc⟩ := wr_cells hf
  refine ⟨i, hi, ?_⟩
  obtain ⟨l⟩ := cs
  have : l = wrCells i := by simpa [Value.cells] using hc
  rw [this]; rfl
end
end Go.Proofs.Ythhoigkmmlkfcaa.Words

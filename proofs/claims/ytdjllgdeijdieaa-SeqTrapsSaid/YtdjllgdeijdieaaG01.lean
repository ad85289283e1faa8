/- Several texts in one: RowCopy, Boxes, ResData, RowLaws, Kept, Info8, RefCopy. -/
import Derived.Test.YtdjllgdeijdieaaG00
import Derived.Laws.CopyOwn
import Derived.Deep.MidRow
import Derived.Deep.Upon
import Derived.Laws.ResultCell
import Derived.Deep.RegionLaw
import Derived.Laws.BytesArg
import Derived.Test.YtdjllgdeijdieaaRows

/- Laws of no one program: a part of a row; 'copy' of any row into a row of the call's own, as one operation and in a plain region. -/
namespace Go.Proofs.Ytdjllgdeijdieaa.Words
set_option maxRecDepth 100000
open Go.RowKit
set_option linter.unusedVariables false

theorem Row.cut {w : World} {B n c k m : Nat} {b off : Nat} {xs : List Value} (h : Row w B 1 (.slice (some ⟨b, off, none⟩) n c) n xs) (hk : k + m ≤ n) (hm : 0 < n) :
    Row w B 1 (.slice (some ⟨b, off + k, none⟩) m (c - k)) m ((xs.drop k).take m) := by
  have hl : xs.length = n := by have := h.len; omega
  obtain ⟨h2, h3⟩ := h.cap
  obtain ⟨b', off', e, hb, hc⟩ := h.at_ (by omega)
  simp only [Option.some.injEq, Addr.mk.injEq, and_true] at e
  obtain ⟨rfl, rfl⟩ := e
  refine ⟨by simp; omega, _, _, rfl, by omega, by omega, (fun h => by cases h), fun _ => ⟨b, off + k, rfl, hb, fun j u hu => ?_⟩⟩
  have hj : (xs.drop k)[j]? = some u := by
    rw [List.getElem?_take] at hu
    split at hu
    · exact hu
    · cases hu
  rw [List.getElem?_drop] at hj
  rw [show off + k + j = off + (k + j) by omega]
  exact hc _ _ hj

theorem own_block {w : World} {base : Nat} {e : TypeId} {g n cap : Nat} {xs : List Value} (h : w.ownsRow base e 1 (.slice (some ⟨g, 0, none⟩) n cap) n xs) :
    ∃ cur : List Value, w.heap[g]? = some (.cells cur.toArray e (0, 0)) ∧ base ≤ g ∧ n ≤ cap ∧ cap ≤ maxLen ∧ cur.length = cap ∧ cur.take n = xs := by
  rcases h.2 with ⟨h', _⟩ | ⟨g', cap', cur, h', h1, h2, h3, h4, h5, h6⟩
  · simp at h'
  · simp only [Value.slice.injEq, Option.some.injEq, Addr.mk.injEq, and_true, true_and] at h'
    obtain ⟨rfl, rfl⟩ := h'
    exact ⟨cur.toList, by simpa using h2, h1, h3, h4, by simpa using h5, by simpa using h6⟩

theorem take_splice {α : Type} (L : List α) (off n : Nat) (cs : List α) (h : off + cs.length ≤ n) (hn : n ≤ L.length) : (splice L off cs).take n = splice (L.take n) off cs := by
  have e1 : (L.take off).length = off := by simp; omega
  unfold splice
  rw [List.take_append, List.take_of_length_le (by omega : (L.take off).length ≤ n), e1, List.take_append, List.take_of_length_le (by omega : cs.length ≤ n - off), List.take_take, Nat.min_eq_left (by omega : off ≤ n), List.drop_take]
  congr 3; omega

theorem splice_nil {α : Type} (L : List α) (k : Nat) : splice L k [] = L := by simp [splice]
theorem splice_cons {α : Type} (L : List α) (k : Nat) (x : α) (cs : List α) (h : k < L.length) : splice L k (x :: cs) = splice (L.set k x) (k + 1) cs := by
  unfold splice
  rw [List.take_add_one, List.getElem?_set_self h, List.take_set_of_le (Nat.le_refl _), List.drop_set_of_lt (by omega)]
  simp only [Option.toList_some, List.append_assoc, List.cons_append, List.nil_append, List.length_cons]
  rw [show k + (cs.length + 1) = k + 1 + cs.length by omega]

section
variable {P : Program} {w : World}

theorem wp_copy_rows {o : Oper} {a : Act} {K : Act → World → Prop} {Q : Exit → Act → World → Prop} (d s : Operand) (dT sT : TypeId)
    (ho : o.op = .call { callee := .builtin .copy, args := #[d, s], argTypes := #[dT, sT] }) (elem : TypeId) (hu : P.underlying dT = some (.slice elem)) (hsz : (P.info? elem).map (·.size) = some 1)
    (base g n cap off dLen dCap : Nat) (xs : List Value) (hown : w.ownsRow base elem 1 (.slice (some ⟨g, 0, none⟩) n cap) n xs) (hd : a.eval d = .slice (some ⟨g, off, none⟩) dLen dCap)
    (A : Option Addr) (m c B : Nat) (ys : List Value) (hs : a.eval s = .slice A m c) (hr : Row w B 1 (.slice A m c) m ys) (h1 : ∀ v ∈ ys, v.oneCell' = true) (hfit : off + min m dLen ≤ n)
    (h : ∀ w', w'.ownsRow base elem 1 (.slice (some ⟨g, 0, none⟩) n cap) n (splice xs off (ys.take dLen)) → Below g w w' → K (a.put o.dst (goInt ((min m dLen : Nat) : Int))) w') :
    Oper.wp P o a w K Q := by
  obtain ⟨cur, hg, hb, hn, hm, hcl, hx⟩ := own_block hown
  have hl : ys.length = m := by have := hr.len; omega
  have hcs : (ys.take dLen).length = min m dLen := by rw [List.length_take, hl, Nat.min_comm]
  by_cases h0 : min m dLen = 0
  · have hrun := run_copy_none (P := P) w dT sT o.type elem (some ⟨g, off, none⟩) A dLen dCap m c hu hsz h0
    have he : ys.take dLen = [] := List.eq_nil_of_length_eq_zero (hcs.trans h0)
    unfold Oper.wp
    simp [execOp, ho, resolve, invoke, builtin, hd, hs, hrun, Result.andThen]
    have := h w (by rw [he]; simpa [splice] using hown) (Below.refl _ _)
    rw [h0] at this
    exact this
  · obtain ⟨b, o2, rfl, hlt, hc⟩ := hr.at_ (show m ≠ 0 by omega)
    have hcell : ∀ j v, (ys.take dLen)[j]? = some v → w.cell? ((⟨b, o2, none⟩ : Addr).add j) = some v := by
      intro j v hv
      rw [add_spot]
      refine hc j v ?_
      rw [List.getElem?_take] at hv
      split at hv
      · exact hv
      · cases hv
    have hrun := run_copy_row (P := P) w dT sT o.type elem g off dLen dCap ⟨b, o2, none⟩ m c cur.toArray elem (ys.take dLen) hu hsz hg hcs hcell (by simp only [List.size_toArray]; omega) (fun v hv => h1 v (List.mem_of_mem_take hv))
    unfold Oper.wp
    simp [execOp, ho, resolve, invoke, builtin, hd, hs, hrun, Result.andThen]
    have hk : a.put o.dst (goInt (min dLen ys.length : Nat)) = a.put o.dst (goInt ((min m dLen : Nat) : Int)) := by rw [hl, Nat.min_comm]
    have := h (w.setRow g (splice cur off (ys.take dLen)).toArray) (by
      refine ⟨?_, .inr ⟨g, cap, (splice cur off (ys.take dLen)).toArray, rfl, hb, setRow_heap w g _ _ elem _ hg, hn, hm, ?_, ?_⟩⟩
      · have hxl : xs.length = n := by have := hown.1; omega
        rw [length_splice _ _ _ (by rw [hcs]; omega)]; omega
      · simp only [List.size_toArray]; rw [length_splice _ _ _ (by rw [hcs]; omega)]; omega
      · rw [Nat.mul_one]
        show (splice cur off (ys.take dLen)).take n = _
        rw [take_splice _ _ _ _ (by rw [hcs]; omega) (by omega), hx])
      (below_setRow (Below.refl _ _) (Nat.le_refl _) _)
    rw [← hk] at this
    unfold splice at this
    simp only [List.length_take] at this
    exact this

theorem wpList_copy_rows {ops : Array Oper} {rest : List Oper} {o : Oper} {a : Act} {Q : Exit → Act → World → Prop} (hgd : o.guard = none) (d s : Operand) (dT sT : TypeId)
    (ho : o.op = .call { callee := .builtin .copy, args := #[d, s], argTypes := #[dT, sT] }) (elem : TypeId) (hu : P.underlying dT = some (.slice elem)) (hsz : (P.info? elem).map (·.size) = some 1)
    (base g n cap off dLen dCap : Nat) (xs : List Value) (hown : w.ownsRow base elem 1 (.slice (some ⟨g, 0, none⟩) n cap) n xs) (hd : a.eval d = .slice (some ⟨g, off, none⟩) dLen dCap)
    (A : Option Addr) (m c B : Nat) (ys : List Value) (hs : a.eval s = .slice A m c) (hr : Row w B 1 (.slice A m c) m ys) (h1 : ∀ v ∈ ys, v.oneCell' = true) (hfit : off + min m dLen ≤ n)
    (h : ∀ w', w'.ownsRow base elem 1 (.slice (some ⟨g, 0, none⟩) n cap) n (splice xs off (ys.take dLen)) → Below g w w' → wpList P ops Q rest (a.put o.dst (goInt ((min m dLen : Nat) : Int))) w') :
    wpList P ops Q (o :: rest) a w :=
  wpList_plain hgd fun K hK => wp_copy_rows d s dT sT ho elem hu hsz base g n cap off dLen dCap xs hown hd A m c B ys hs hr h1 hfit fun w' h2 h3 => hK _ _ (h w' h2 h3)
end
end Go.Proofs.Ytdjllgdeijdieaa.Words

/- Laws of no one program: a variable of many cells (a struct, an array) as ONE block whose cells are a list that need not be written out: read whole or in part, written whole or in part; the world behind a write is a variable. -/
namespace Go.Proofs.Ytdjllgdeijdieaa.Words
set_option maxRecDepth 100000
open Go.RowKit
set_option linter.unusedVariables false

/-- Block b holds the cells l, and may be written. -/
def Box (w : World) (b : Nat) (l : List Value) : Prop := ∃ t, w.heap[b]? = some (.cells l.toArray t (0, 0))
section
variable {w w' : World} {b : Nat} {l : List Value}
theorem Box.new (w : World) (l : List Value) (t : TypeId) : Box (w.alloc (.cells l.toArray t)) w.heap.size l := ⟨t, heap_alloc_new w _⟩
theorem Box.lt (h : Box w b l) : b < w.heap.size := by obtain ⟨t, h⟩ := h; exact (Array.getElem?_eq_some_iff.1 h).1
theorem Box.cell (h : Box w b l) {k : Nat} {v : Value} (hk : l[k]? = some v) : w.cell? ⟨b, k, none⟩ = some v := by
  obtain ⟨t, h⟩ := h
  rw [cell_of_row w b k _ t (0, 0) h]; simpa using hk
theorem Box.frozen (h : Box w b l) (k : Nat) : w.frozen? ⟨b, k, none⟩ = false := by
  obtain ⟨t, h⟩ := h
  simp [World.frozen?, h]
theorem Box.range (h : Box w b l) {o : Nat} {cs : List Value} (hc : ∀ j v, cs[j]? = some v → l[o + j]? = some v) : w.rangeAt b o cs := fun j v hv => h.cell (hc j v hv)
theorem Box.whole (h : Box w b l) : w.rangeAt b 0 l := h.range (fun j v hv => by rw [Nat.zero_add]; exact hv)
theorem Box.there (h : Box w b l) {o n : Nat} (hn : o + n ≤ l.length) : w.there b o n := fun j hj => by
  refine ⟨?_, h.frozen _⟩
  rw [h.cell (List.getElem?_eq_getElem (show o + j < l.length by omega))]; rfl
theorem Box.below {B : Nat} (h : Box w b l) (hb : Below B w w') (hB : b < B) : Box w' b l := by
  obtain ⟨t, h⟩ := h
  exact ⟨t, (hb.block b hB).trans h⟩
theorem Box.grown {row : Option Nat} (h : Box w b l) (hg : w.grownBy w' row) (hne : some b ≠ row) : Box w' b l := by
  have := h.lt
  obtain ⟨t, h⟩ := h
  exact ⟨t, (hg.block b this hne).trans h⟩
theorem Box.alloc (h : Box w b l) (o : Obj) : Box (w.alloc o) b l := by
  have := h.lt
  obtain ⟨t, h⟩ := h
  exact ⟨t, (heap_alloc_old w o this).trans h⟩
theorem Box.drew (h : Box w b l) : Box w.drew b l := h
theorem Box.drewN (h : Box w b l) (k : Nat) : Box (w.drewN k) b l := h
theorem Box.setCell (h : Box w b l) (k : Nat) (v : Value) : Box (w.setCell ⟨b, k, none⟩ v) b (l.set k v) := by
  obtain ⟨t, h⟩ := h
  refine ⟨t, ?_⟩
  unfold World.setCell
  simp only [Array.getElem?_modify, if_pos, h]
  simp
theorem Box.setCell_other (h : Box w b l) {b' : Nat} (hne : b ≠ b') (k : Nat) (v : Value) : Box (w.setCell ⟨b', k, none⟩ v) b l := by
  obtain ⟨t, h⟩ := h
  refine ⟨t, ?_⟩
  unfold World.setCell
  simp only [Array.getElem?_modify, if_neg (show ¬ b' = b from fun e => hne e.symm), h]
theorem Box.setCells : ∀ {vs : List Value} {o : Nat} {w : World} {l : List Value}, Box w b l → o + vs.length ≤ l.length → Box (w.setCells b o vs) b (splice l o vs)
  | [], o, w, l, h, hl => by rw [splice_nil]; exact h
  | v :: r, o, w, l, h, hl => by
    have hl' : o < l.length := by simp at hl; omega
    rw [World.setCells, splice_cons _ _ _ _ hl']
    exact Box.setCells (h.setCell o v) (by simp at hl ⊢; omega)
theorem grown_setCell (w : World) (b k : Nat) (v : Value) (hb : b < w.heap.size) : w.grownBy (w.setCell ⟨b, k, none⟩ v) (some b) :=
  ⟨rfl, rfl, rfl, by simp [World.setCell], fun i hi hne => by unfold World.setCell; simp only [Array.getElem?_modify, if_neg (show ¬ b = i from fun e => hne (by rw [e]))]⟩
theorem grown_setCells (w : World) (b : Nat) (vs : List Value) (o : Nat) (hb : b < w.heap.size) : w.grownBy (w.setCells b o vs) (some b) := by
  induction vs generalizing o w with
  | nil => exact World.grownBy.refl _ _
  | cons v r ih =>
    rw [World.setCells]
    have h1 := grown_setCell w b o v hb
    have h2 := ih (w.setCell ⟨b, o, none⟩ v) (o + 1) (Nat.lt_of_lt_of_le hb h1.size)
    exact ⟨h2.os.trans h1.os, h2.tape.trans h1.tape, h2.output.trans h1.output, Nat.le_trans h1.size h2.size, fun i hi hne => (h2.block i (Nat.lt_of_lt_of_le hi h1.size) hne).trans (h1.block i hi hne)⟩
end

section
variable {P : Program} {w : World} {ops : Array Oper} {rest : List Oper} {op : Oper} {a : Act} {Q : Exit → Act → World → Prop}

/-- A variable is read, whole or in part. -/
theorem wpList_load_box (hw : Region.wanted op (yielded ops a.tmps) = true) (ty : TypeId) (x : Operand) (ho : op.op = .load ty x)
    (b o : Nat) (hx : a.eval x = .pointer (some ⟨b, o, none⟩)) (l cs : List Value) (hb : Box w b l) (hc : ∀ j v, cs[j]? = some v → l[o + j]? = some v) (d : TypeDesc)
    (hu : P.underlying ty = some d) (hd : d.isRow = true) (n : Nat) (hi : (P.info? ty).map (·.size) = some n) (hn : cs.length = n)
    (h : wpList P ops Q rest (a.put op.dst (.agg cs.toArray)) w) : wpList P ops Q (op :: rest) a w :=
  wpList_step fun K hK => by rw [if_pos hw]; exact wp_load_mid ty x ho b o hx cs d (hb.range hc) hu hd (by rw [hn]; exact hi) (hK _ _ h)
/-- A variable is written, whole or in part. -/
theorem wpList_store_box (hw : Region.wanted op (yielded ops a.tmps) = true) (ty : TypeId) (x y : Operand) (ho : op.op = .store ty x y)
    (b o : Nat) (cs : List Value) (hx : a.eval x = .pointer (some ⟨b, o, none⟩)) (hy : a.eval y = .agg cs.toArray) (l : List Value) (hb : Box w b l) (hl : o + cs.length ≤ l.length)
    (n : Nat) (hi : (P.info? ty).map (·.size) = some n) (hn : cs.length = n) (h1 : ∀ v ∈ cs, v.oneCell' = true)
    (h : ∀ w', Box w' b (splice l o cs) → w.grownBy w' (some b) → wpList P ops Q rest (a.put op.dst undef) w') : wpList P ops Q (op :: rest) a w :=
  wpList_step fun K hK => by rw [if_pos hw]; exact wp_store_mid ty x y ho b o cs.toArray hx hy (hb.there (by simpa using hl)) (by rw [hi]; simp [hn]) (all_oneCell_toArray h1) (hK _ _ <|
    h _ (by simpa using hb.setCells hl) (by simpa using grown_setCells w b cs o hb.lt))
end
/-- What is answered lies in a variable. -/
theorem results_cell {fn : Func} {p : Tmp} {ty : TypeId} (h : fn.results = #[.cell p ty]) (tmps : Array Value) (P : Program) (w : World) (a : Addr) (v : Value) (ht : tmps.getD p undef = .pointer (some a)) (hl : (loadVar ty a).run P w = .ok v w) :
    (results fn tmps).run P w = .ok v w := by
  have ht' : (tmps[p]?).getD undef = .pointer (some a) := by rw [← ht]; simp
  simp only [results, h]
  simp [ht', asAddr, hl]
theorem results_cell_tmp' {fn : Func} {p u : Tmp} {ty : TypeId} (h : fn.results = #[.cell p ty, .tmp u]) (tmps : Array Value) (P : Program) (w : World) (a : Addr) (v x : Value) (ht : tmps.getD p undef = .pointer (some a)) (hl : (loadVar ty a).run P w = .ok v w) (hu : tmps.getD u undef = x) :
    (results fn tmps).run P w = .ok (.tuple #[v, x]) w := by
  rw [results_cell_tmp h, ht, hu]
  simp [Result.andThen, asAddr, hl]
theorem grown_ge {a b c : Nat} (h : some a = some b) (h' : c ≤ a) : c ≤ b := by injection h with h; omega
/-- A cell kept over a call and over a write into another block. -/
theorem cell_over {B b k row : Nat} {v : Value} {x y z : World} (hb : Below B x y) (hg : y.grownBy z (some row)) (hB : b < B) (hsz : B ≤ y.heap.size) (hne : b ≠ row) (hv : x.cell? ⟨b, k, none⟩ = some v) : z.cell? ⟨b, k, none⟩ = some v := by
  have h1 := below_cell hb hB hv
  rw [World.cell?_of_block (a := ⟨b, k, none⟩) (hg.block b (by omega) (fun h => by injection h with h; exact hne h))]
  exact h1
theorem splice_whole {α : Type} (L cs : List α) (h : cs.length = L.length) : splice L 0 cs = cs := by simp [splice, h]
end Go.Proofs.Ytdjllgdeijdieaa.Words

/- Results as plain data: a result's cells, its value, its rows; writes as cells. -/
namespace Go.Proofs.Ytdjllgdeijdieaa.Words
set_option maxRecDepth 100000
open Go.RowKit
set_option linter.unusedVariables false

/-- The three cells of a write. -/
def wrL (w : Wr) : List Value := [.int .i64 w.addr, .int .i64 w.size, .int .u32 w.val]
/-- The cells of a list of writes. -/
def wsL (l : List Wr) : List Value := l.flatMap wrL
theorem wsL_nil : wsL [] = [] := rfl
theorem wsL_cons (i : Wr) (l : List Wr) : wsL (i :: l) = wrL i ++ wsL l := by simp [wsL]
theorem wsL_append (l m : List Wr) : wsL (l ++ m) = wsL l ++ wsL m := by simp [wsL]
theorem wsL_length (l : List Wr) : (wsL l).length = l.length * 3 := by
  induction l with
  | nil => rfl
  | cons i l ih => rw [wsL_cons, List.length_append, ih]; simp [wrL]; omega
theorem wsL_one (l : List Wr) : ∀ u ∈ wsL l, u.oneCell' = true := by
  intro u hu
  unfold wsL at hu
  rw [List.mem_flatMap] at hu
  obtain ⟨w, _, hw⟩ := hu
  simp only [wrL, List.mem_cons, List.not_mem_nil, or_false] at hw
  rcases hw with rfl | rfl | rfl <;> rfl
theorem wsL_at (l : List Wr) (k : Nat) (i : Wr) (h : l[k]? = some i) (j : Nat) (hj : j < 3) : (wsL l)[k * 3 + j]? = (wrL i)[j]? := by
  induction l generalizing k with
  | nil => simp at h
  | cons x l ih =>
    rw [wsL_cons]
    cases k with
    | zero =>
      simp at h; subst h
      rw [List.getElem?_append_left (by simp [wrL]; omega), Nat.zero_mul, Nat.zero_add]
    | succ k =>
      simp at h
      have h5 : (wrL x).length = 3 := rfl
      rw [List.getElem?_append_right (by omega), h5, show (k + 1) * 3 + j - 3 = k * 3 + j by omega]
      exact ih k h

/-- A result's plain data. -/
structure Res where
  e : Int
  tk : Int
  ts : Int
  tp : Int
  st : Int
  regs : List Int
  mem : List Int
  ws : List Wr
deriving DecidableEq
def Res.Fits (r : Res) : Prop :=
  (-9223372036854775808 ≤ r.e ∧ r.e ≤ 9223372036854775807) ∧ (-9223372036854775808 ≤ r.tk ∧ r.tk ≤ 9223372036854775807) ∧ (-9223372036854775808 ≤ r.ts ∧ r.ts ≤ 9223372036854775807) ∧ (-9223372036854775808 ≤ r.tp ∧ r.tp ≤ 9223372036854775807) ∧
  (-9223372036854775808 ≤ r.st ∧ r.st ≤ 9223372036854775807) ∧ (∀ x ∈ r.regs, 0 ≤ x ∧ x ≤ 4294967295) ∧ (∀ x ∈ r.mem, 0 ≤ x ∧ x ≤ 255) ∧ (∀ x ∈ r.ws, x.Fits)
/-- Its 23 cells. -/
def resL (r : Res) (vm vw : Value) : List Value := [.int .i64 r.e, .int .i64 r.tk, .int .i64 r.ts, .int .i64 r.tp, .int .i64 r.st] ++ (r.regs.map (Value.int .u32) ++ [vm, vw])
section
variable {r : Res} {vm vw : Value}
theorem resL_len (h : r.regs.length = 16) : (resL r vm vw).length = 23 := by simp [resL, h]
theorem resL_0 : (resL r vm vw)[0]? = some (.int .i64 r.e) := rfl
theorem resL_1 : (resL r vm vw)[1]? = some (.int .i64 r.tk) := rfl
theorem resL_2 : (resL r vm vw)[2]? = some (.int .i64 r.ts) := rfl
theorem resL_3 : (resL r vm vw)[3]? = some (.int .i64 r.tp) := rfl
theorem resL_4 : (resL r vm vw)[4]? = some (.int .i64 r.st) := rfl
theorem resL_tail (j : Nat) : (resL r vm vw)[5 + j]? = (r.regs.map (Value.int .u32) ++ [vm, vw])[j]? := by
  unfold resL
  rw [List.getElem?_append_right (by simp), show 5 + j - [Value.int .i64 r.e, .int .i64 r.tk, .int .i64 r.ts, .int .i64 r.tp, .int .i64 r.st].length = j by simp]
theorem resL_reg (h : r.regs.length = 16) (j : Nat) (hj : j < 16) : (resL r vm vw)[5 + j]? = some (.int .u32 (r.regs.getD j 0)) := by
  rw [resL_tail, List.getElem?_append_left (by simp; omega), List.getElem?_map, List.getD_eq_getElem?_getD, List.getElem?_eq_getElem (by omega)]; rfl
theorem resL_regs (h : r.regs.length = 16) : ∀ j v, (r.regs.map (Value.int .u32))[j]? = some v → (resL r vm vw)[5 + j]? = some v := by
  intro j v hv
  have : j < r.regs.length := by have := (List.getElem?_eq_some_iff.1 hv).1; simpa using this
  rw [resL_tail, List.getElem?_append_left (by simp; omega), hv]
theorem resL_21 (h : r.regs.length = 16) : (resL r vm vw)[21]? = some vm := by
  rw [show 21 = 5 + 16 from rfl, resL_tail, List.getElem?_append_right (by simp [h]), show 16 - (r.regs.map (Value.int .u32)).length = 0 by simp [h]]; rfl
theorem resL_22 (h : r.regs.length = 16) : (resL r vm vw)[22]? = some vw := by
  rw [show 22 = 5 + 17 from rfl, resL_tail, List.getElem?_append_right (by simp [h]), show 17 - (r.regs.map (Value.int .u32)).length = 1 by simp [h]]; rfl
theorem resL_set0 (x : Int) : (resL r vm vw).set 0 (.int .i64 x) = resL { r with e := x } vm vw := rfl
theorem resL_set4 (x : Int) : (resL r vm vw).set 4 (.int .i64 x) = resL { r with st := x } vm vw := rfl
theorem resL_trap (a b c : Int) : splice (resL r vm vw) 1 [.int .i64 a, .int .i64 b, .int .i64 c] = resL { r with tk := a, ts := b, tp := c } vm vw := by simp [splice, resL]
theorem resL_set_tail (j : Nat) (v : Value) : (resL r vm vw).set (5 + j) v = [.int .i64 r.e, .int .i64 r.tk, .int .i64 r.ts, .int .i64 r.tp, .int .i64 r.st] ++ (r.regs.map (Value.int .u32) ++ [vm, vw]).set j v := by
  unfold resL
  rw [List.set_append_right _ _ (by simp)]
  simp
theorem resL_set21 (h : r.regs.length = 16) (v : Value) : (resL r vm vw).set 21 v = resL r v vw := by
  rw [show 21 = 5 + 16 from rfl, resL_set_tail, List.set_append_right _ _ (by simp [h])]
  simp [h, resL]
theorem resL_set22 (h : r.regs.length = 16) (v : Value) : (resL r vm vw).set 22 v = resL r vm v := by
  rw [show 22 = 5 + 17 from rfl, resL_set_tail, List.set_append_right _ _ (by simp [h])]
  simp [h, resL]
theorem resL_setreg (h : r.regs.length = 16) (j : Nat) (hj : j < 16) (x : Int) : (resL r vm vw).set (5 + j) (.int .u32 x) = resL { r with regs := r.regs.set j x } vm vw := by
  rw [resL_set_tail, List.set_append_left _ _ (by simp; omega)]
  simp [resL, List.map_set]
theorem resL_one (h1 : vm.oneCell' = true) (h2 : vw.oneCell' = true) : ∀ u ∈ resL r vm vw, u.oneCell' = true := by
  intro u hu
  unfold resL at hu
  simp only [List.mem_append, List.mem_cons, List.mem_map, List.not_mem_nil, or_false] at hu
  rcases hu with (rfl | rfl | rfl | rfl | rfl) | ⟨x, _, rfl⟩ | rfl | rfl
  · rfl
  · rfl
  · rfl
  · rfl
  · rfl
  · rfl
  · exact h1
  · exact h2
theorem resL_mem (m : List Int) (l : List Wr) : resL { r with mem := m, ws := l } vm vw = resL r vm vw := rfl
end
/-- The two rows of a result's value. -/
structure ResV (w : World) (B : Nat) (vm vw : Value) (r : Res) : Prop where
  mem : Row w B 1 vm r.mem.length (r.mem.map (Value.int .u8))
  ws : Row w B 3 vw r.ws.length (wsL r.ws)
  regs : r.regs.length = 16
section
variable {w w' : World} {B : Nat} {vm vw : Value} {r : Res}
theorem ResV.keep (h : ResV w B vm vw r) (hk : ∀ a : Addr, a.block < B → w'.cell? a = w.cell? a) : ResV w' B vm vw r := ⟨h.mem.keep hk, h.ws.keep hk, h.regs⟩
theorem ResV.more {B' : Nat} (h : ResV w B vm vw r) (hB : B ≤ B') : ResV w B' vm vw r := ⟨h.mem.more hB, h.ws.more hB, h.regs⟩
theorem ResV.below (h : ResV w B vm vw r) (hb : Below B w w') : ResV w' B vm vw r := ⟨h.mem.below hb, h.ws.below hb, h.regs⟩
theorem ResV.alloc (h : ResV w B vm vw r) (hB : B ≤ w.heap.size) (o : Obj) : ResV (w.alloc o) B vm vw r := ⟨h.mem.alloc hB o, h.ws.alloc hB o, h.regs⟩
end
/-- A result whose rows the call itself made. -/
structure ResOwn (w : World) (base : Nat) (vm vw : Value) (r : Res) : Prop where
  mem : w.ownsRow base 5 1 vm r.mem.length (r.mem.map (Value.int .u8))
  ws : w.ownsRow base 38 3 vw r.ws.length (wsL r.ws)
  regs : r.regs.length = 16
section
variable {w w' : World} {b0 : Nat} {vm vw : Value} {r : Res}
theorem ResOwn.grown {b : Nat} (h : ResOwn w b0 vm vw r) (hg : w.grownBy w' (some b)) (hb : b < b0) : ResOwn w' b0 vm vw r :=
  ⟨own_grown h.mem hg (fun g hg' e => by have := (h.mem.lt g hg').1; injection e with e; omega), own_grown h.ws hg (fun g hg' e => by have := (h.ws.lt g hg').1; injection e with e; omega), h.regs⟩
theorem ResOwn.setCell {b : Nat} (h : ResOwn w b0 vm vw r) (hb : b < b0) (k : Nat) (v : Value) : ResOwn (w.setCell ⟨b, k, none⟩ v) b0 vm vw r :=
  ⟨ownsRow_setCell_below h.mem (a := ⟨b, k, none⟩) hb v, ownsRow_setCell_below h.ws (a := ⟨b, k, none⟩) hb v, h.regs⟩
theorem ResOwn.rows (h : ResOwn w b0 vm vw r) : ResV w w.heap.size vm vw r := ⟨Row.of_own h.mem, Row.of_own h.ws, h.regs⟩
theorem ResOwn.base {b1 : Nat} (h : ResOwn w b0 vm vw r) (hb : b1 ≤ b0) : ResOwn w b1 vm vw r := ⟨own_base h.mem hb, own_base h.ws hb, h.regs⟩
theorem ResOwn.below (h : ResOwn w b0 vm vw r) (hb : Below w.heap.size w w') : ResOwn w' b0 vm vw r := ⟨own_below h.mem hb, own_below h.ws hb, h.regs⟩
end
theorem info_wr : (Try.prog.info? 38).map (fun i => (i.zero, i.size, i.bytes)) = some (some (.agg #[.int .i64 0, .int .i64 0, .int .u32 0]), 3, 24) := by kernel_rfl
theorem info_res : (Try.prog.info? 34).map (·.size) = some 23 := by kernel_rfl
end Go.Proofs.Ytdjllgdeijdieaa.Words

/- Laws of no one program: append of whatever row (nil too) onto a row of the call's own, in a plain region and in one that draws its order; a row of bytes as a string. -/
namespace Go.Proofs.Ytdjllgdeijdieaa.Words
set_option maxRecDepth 100000
open Go.RowKit
section
variable {P : Program} (w : World)

theorem run_append_row (base : Nat) (t ty e : TypeId) (i : TypeInfo) (z : Value) (size bytes : Nat) (ht : P.underlying t = some (.slice e)) (hi : P.info? e = some i) (hz : i.zero = some z)
    (hsize : i.size = size) (hby : i.bytes = bytes) (hzs : z.cells.size = size) (hsz : 0 < size)
    (v : Value) (n : Nat) (xs : List Value) (hown : w.ownsRow base e size v n xs) (B : Nat) (x : Value) (m : Nat) (news : List Value) (hr : Row w B size x m news) (h1 : ∀ u ∈ news, u.oneCell' = true)
    (h63 : n + m ≤ maxLen) (hbytes : (n + m) * bytes ≤ 140737488355328) (hbase : base ≤ w.heap.size) :
    ∃ v' w', (Builtin.append_ #[t, t] ty #[v, x]).run P w = .ok v' w' ∧ w'.ownsRow base e size v' (n + m) (xs ++ news) ∧ w.grownBy w' v.ownBlock := by
  obtain ⟨A, c, rfl⟩ := hr.form
  rcases A with _ | ad
  · obtain ⟨rfl, rfl⟩ := hr.bare rfl
    have hn : news = [] := List.eq_nil_of_length_eq_zero (by simpa using hr.len)
    subst hn
    have hrun := run_append_owned_none (P := P) w base t ty e i size ht hi v n xs hown
    exact ⟨v, w, hrun, by simpa using hown, World.grownBy.refl w _⟩
  · obtain ⟨v', w', h2, h3, h4, _⟩ := run_append_own (P := P) w base t ty e i z size bytes ht hi hz hsize hby hzs hsz v n xs hown ad m c news hr.len (hr.cells ad rfl) h1 h63 hbytes hbase
    exact ⟨v', w', h2, h3, h4⟩

theorem wp_append_row {o : Oper} {a : Act} {K : Act → World → Prop} {Q : Exit → Act → World → Prop} (s y : Operand) (t : TypeId)
    (ho : o.op = .call { callee := .builtin .append, args := #[s, y], argTypes := #[t, t] })
    (base : Nat) (e : TypeId) (i : TypeInfo) (z : Value) (size bytes : Nat) (ht : P.underlying t = some (.slice e)) (hi : P.info? e = some i) (hz : i.zero = some z)
    (hsize : i.size = size) (hby : i.bytes = bytes) (hzs : z.cells.size = size) (hsz : 0 < size)
    (v : Value) (n : Nat) (xs : List Value) (hs : a.eval s = v) (hown : w.ownsRow base e size v n xs) (B : Nat) (x : Value) (m : Nat) (news : List Value) (hx : a.eval y = x) (hr : Row w B size x m news) (h1 : ∀ u ∈ news, u.oneCell' = true)
    (h63 : n + m ≤ maxLen) (hbytes : (n + m) * bytes ≤ 140737488355328) (hbase : base ≤ w.heap.size)
    (h : ∀ v' w', w'.ownsRow base e size v' (n + m) (xs ++ news) → w.grownBy w' v.ownBlock → K (a.put o.dst v') w') : o.wp P a w K Q := by
  obtain ⟨v', w', hrun, h2, h3⟩ := run_append_row (P := P) w base t o.type e i z size bytes ht hi hz hsize hby hzs hsz v n xs hown B x m news hr h1 h63 hbytes hbase
  unfold Oper.wp execOp
  simp only [ho, resolve, invoke, builtin, Sem.run_bind, Sem.run_pure, Result.andThen_ok, List.map_toArray, List.map_cons, List.map_nil, hs, hx, hrun]
  exact h v' w' h2 h3

theorem wpList_append_row {ops : Array Oper} {rest : List Oper} {o : Oper} {a : Act} {Q : Exit → Act → World → Prop} (hgd : o.guard = none) (s y : Operand) (t : TypeId)
    (ho : o.op = .call { callee := .builtin .append, args := #[s, y], argTypes := #[t, t] })
    (base : Nat) (e : TypeId) (i : TypeInfo) (z : Value) (size bytes : Nat) (ht : P.underlying t = some (.slice e)) (hi : P.info? e = some i) (hz : i.zero = some z)
    (hsize : i.size = size) (hby : i.bytes = bytes) (hzs : z.cells.size = size) (hsz : 0 < size)
    (v : Value) (n : Nat) (xs : List Value) (hs : a.eval s = v) (hown : w.ownsRow base e size v n xs) (B : Nat) (x : Value) (m : Nat) (news : List Value) (hx : a.eval y = x) (hr : Row w B size x m news) (h1 : ∀ u ∈ news, u.oneCell' = true)
    (h63 : n + m ≤ maxLen) (hbytes : (n + m) * bytes ≤ 140737488355328) (hbase : base ≤ w.heap.size)
    (h : ∀ v' w', w'.ownsRow base e size v' (n + m) (xs ++ news) → w.grownBy w' v.ownBlock → wpList P ops Q rest (a.put o.dst v') w') : wpList P ops Q (o :: rest) a w :=
  wpList_plain hgd fun _ hK => wp_append_row w s y t ho base e i z size bytes ht hi hz hsize hby hzs hsz v n xs hs hown B x m news hx hr h1 h63 hbytes hbase fun v' w' h2 h3 => hK _ _ (h v' w' h2 h3)

/-- As one step of a region that draws, whatever its guard says as long as it is wanted. -/
theorem step_append_row {ops : Array Oper} {o : Oper} {a : Act} {K : Act → World → Prop} {Q : Exit → Act → World → Prop} {E : Prop} (s y : Operand) (t : TypeId)
    (ho : o.op = .call { callee := .builtin .append, args := #[s, y], argTypes := #[t, t] }) (hw : Region.wanted o (yielded ops a.tmps) = true)
    (base : Nat) (e : TypeId) (i : TypeInfo) (z : Value) (size bytes : Nat) (ht : P.underlying t = some (.slice e)) (hi : P.info? e = some i) (hz : i.zero = some z)
    (hsize : i.size = size) (hby : i.bytes = bytes) (hzs : z.cells.size = size) (hsz : 0 < size)
    (v : Value) (n : Nat) (xs : List Value) (hs : a.eval s = v) (hown : w.ownsRow base e size v n xs) (B : Nat) (x : Value) (m : Nat) (news : List Value) (hx : a.eval y = x) (hr : Row w B size x m news) (h1 : ∀ u ∈ news, u.oneCell' = true)
    (h63 : n + m ≤ maxLen) (hbytes : (n + m) * bytes ≤ 140737488355328) (hbase : base ≤ w.heap.size)
    (h : ∀ v' w', w'.ownsRow base e size v' (n + m) (xs ++ news) → w.grownBy w' v.ownBlock → K (a.put o.dst v') w') : if Region.wanted o (yielded ops a.tmps) = true then Oper.wp P o a w K Q else E := by
  rw [if_pos hw]
  exact wp_append_row w s y t ho base e i z size bytes ht hi hz hsize hby hzs hsz v n xs hs hown B x m news hx hr h1 h63 hbytes hbase h

theorem conv_row (src e : TypeId) (hs : P.underlying src = some (.slice e)) (he : P.underlying e = some (.int .u8)) {B : Nat} {v : Value} {n : Nat} {xs : List Int} (hr : Row w B 1 v n (xs.map (Value.int .u8))) :
    ∀ dst, P.underlying dst = some .string → (convert src dst v).run P w = .ok (.string (strOfNums xs)) w := by
  intro dst hd
  obtain ⟨A, c, rfl⟩ := hr.form
  have hl : xs.length = n := by simpa using hr.len
  by_cases hn : n = 0
  · subst hn
    have : xs = [] := List.eq_nil_of_length_eq_zero hl
    subst this
    rcases A with _ | ad
    · exact run_convert_bytes_nil w src e hs he 0 c dst hd
    · rw [run_convert_bytes_string w src dst e _ 0 c hs he hd, run_bytesToString w ad 0 c [] (by simp [loadCells, loadCellsFrom])]
      rfl
  · obtain ⟨b, off, rfl, _, hc⟩ := hr.at_ hn
    refine run_convert_bytes_arg w src e hs he b off n c xs hl (fun i hi => hc i _ ?_) dst hd
    rw [List.getElem?_map, List.getElem?_eq_getElem (by omega), List.getD_eq_getElem?_getD, List.getElem?_eq_getElem (by omega)]
    rfl
end
end Go.Proofs.Ytdjllgdeijdieaa.Words

/- 'Kept W x': below the heap of W nothing has turned. The condition for chains of calls that make memory. Nothing here speaks of one program. -/
namespace Go.Proofs.Ytdjllgdeijdieaa.Words
set_option maxRecDepth 100000
open Go.RowKit
/-- Nothing that was there has turned. -/
def Kept (W x : World) : Prop := Below W.heap.size W x
theorem Kept.refl (W : World) : Kept W W := Below.refl _ _
theorem Kept.to {W x y : World} (h : Kept W x) (hb : Below x.heap.size x y) : Kept W y := Below.trans h (hb.mono (Below.size h))
theorem Kept.drewN {W x : World} (h : Kept W x) (k : Nat) : Kept W (x.drewN k) := Below.drewN_ h k
theorem Kept.drew {W x : World} (h : Kept W x) : Kept W x.drew := Below.drew h
theorem Kept.alloc {W x : World} (h : Kept W x) (o : Obj) : Kept W (x.alloc o) := Below.alloc h (Below.size h) o
theorem Kept.cell {W x : World} (h : Kept W x) {b o : Nat} {v : Value} (hb : b < W.heap.size) (hv : W.cell? ⟨b, o, none⟩ = some v) : x.cell? ⟨b, o, none⟩ = some v := by
  rw [Below.cell (p := ⟨b, o, none⟩) h hb]; exact hv
theorem Kept.size {W x : World} (h : Kept W x) : W.heap.size ≤ x.heap.size := Below.size h
theorem Kept.row {W x : World} (h : Kept W x) {s n : Nat} {v : Value} {xs : List Value} (hr : Row W W.heap.size s v n xs) : Row x x.heap.size s v n xs := (hr.below h).more h.size
theorem Kept.trans {W x y : World} (h : Kept W x) (g : Kept x y) : Kept W y := h.to g
end Go.Proofs.Ytdjllgdeijdieaa.Words

/- What the program says of bytes as elements. -/
namespace Go.Proofs.Ytdjllgdeijdieaa.Words
set_option maxRecDepth 100000
open Go.RowKit
theorem info_u8 : (Try.prog.info? 5).map (fun i => (i.zero, i.size, i.bytes)) = some (some (.int .u8 0), 1, 1) := by kernel_rfl
end Go.Proofs.Ytdjllgdeijdieaa.Words

/- Contract of the document's own Copy: a result whose rows are of the call's own. -/
namespace Go.Proofs.Ytdjllgdeijdieaa.Words
set_option maxRecDepth 100000
open Go.RowKit
set_option linter.unusedVariables false

/-- A result that is all nought. -/
def noRes : Res := ⟨0, 0, 0, 0, 0, List.replicate 16 0, [], []⟩
theorem noRes_cells : [.int .i64 0, .int .i64 0, .int .i64 0, .int .i64 0, .int .i64 0, .int .u32 0, .int .u32 0, .int .u32 0, .int .u32 0, .int .u32 0, .int .u32 0, .int .u32 0, .int .u32 0, .int .u32 0, .int .u32 0, .int .u32 0, .int .u32 0, .int .u32 0, .int .u32 0, .int .u32 0, .int .u32 0, .slice none 0 0, .slice none 0 0] = resL noRes (.slice none 0 0) (.slice none 0 0) := rfl
theorem load_res {w : World} {b : Nat} {r : Res} {vm vw : Value} (h : Box w b (resL r vm vw)) (hr : r.regs.length = 16) : (loadVar 34 ⟨b, 0, none⟩).run Try.prog w = .ok (.agg (resL r vm vw).toArray) w :=
  run_loadVar_mid w b 0 34 (resL r vm vw) _ h.whole Try.underlying34 rfl (by rw [resL_len hr]; exact info_res)

end Go.Proofs.Ytdjllgdeijdieaa.Words

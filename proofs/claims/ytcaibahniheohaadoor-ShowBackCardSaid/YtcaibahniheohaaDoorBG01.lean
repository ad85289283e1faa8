/- Several texts in one: RowLaws, ByteRow, Own, Lin, RowCopy, Boxes, LexData. -/
import Derived.Test.YtcaibahniheohaaDoorBG00
import Derived.Deep.RegionLaw
import Derived.Laws.BytesArg
import Derived.Deep.RegionHeld3
import Derived.Laws.CopyOwn
import Derived.Deep.MidRow
import Derived.Deep.Upon
import Derived.Laws.ResultCell

/- Laws of no one program: append of whatever row (nil too) onto a row of the call's own, in a plain region and in one that draws its order; a row of bytes as a string. -/
namespace Go.Proofs.YtcaibahniheohaaDoor.Words
set_option maxRecDepth 100000
open Go.RowKit
section
variable {P : Program} (w : World)
theorem run_append_row (base : Nat) (t ty e : TypeId) (i : TypeInfo) (z : Value) (size bytes : Nat) (ht : P.underlying t = some (.slice e)) (hi : P.info? e = some i) (hz : i.zero = some z)
  (hsize : i.size = size) (hby : i.bytes = bytes) (hzs : z.cells.size = size) (hsz : 0 < size)
  (v : Value) (n : Nat) (xs : List Value) (hown : w.ownsRow base e size v n xs) (B : Nat) (x : Value) (m : Nat) (news : List Value) (hr : Row w B size x m news) (h1 : ∀ u ∈ news, u.oneCell' = true)
  (h63 : n + m ≤ maxLen) (hbytes : (n + m) * bytes ≤ 140737488355328) (hbase : base ≤ w.heap.size) :
  ∃ v' w', (Builtin.append_ #[t, t] ty #[v, x]).run P w = .ok v' w' ∧ w'.ownsRow base e size v' (n + m) (xs ++ news) ∧ w.grownBy w' v.ownBlock := by
 obtain ⟨A, c, rfl⟩ := hr.form
 rcases A with _ | ad
 ·obtain ⟨rfl, rfl⟩ := hr.bare rfl
  have hn : news = [] := List.eq_nil_of_length_eq_zero (by simpa using hr.len)
  subst hn
  have hrun := run_append_owned_none (P := P) w base t ty e i size ht hi v n xs hown
  exact ⟨v, w, hrun, by simpa using hown, World.grownBy.refl w _⟩
 ·obtain ⟨v', w', h2, h3, h4, _⟩ := run_append_own (P := P) w base t ty e i z size bytes ht hi hz hsize hby hzs hsz v n xs hown ad m c news hr.len (hr.cells ad rfl) h1 h63 hbytes hbase
  exact ⟨v', w', h2, h3, h4⟩
theorem wp_append_row {o : Oper} {a : Act} {K : Act → World → Prop} {Q : Exit → Act → World → Prop} (s y : Operand) (t : TypeId)
  (ho : o.op = .call { callee := .builtin .append, args := #[s, y], argTypes := #[t, t] })
  (base : Nat) (e : TypeId) (i : TypeInfo) (z : Value) (size bytes : Nat) (ht : P.underlying t = some (.slice e)) (hi : P.info? e = some i) (hz : i.zero = some z)
  (hsize : i.size = size) (hby : i.bytes = bytes) (hzs : z.cells.size = size) (hsz : 0 < size)
  (v : Value) (n : Nat) (xs : List Value) (hs : a.eval s = v) (hown : w.ownsRow base e size v n xs) (B : Nat) (x : Value) (m : Nat) (news : List Value) (hx : a.eval y = x) (hr : Row w B size x m news) (h1 : ∀ u ∈ news, u.oneCell' = true)
  (h63 : n + m ≤ maxLen) (hbytes : (n + m) * bytes ≤ 140737488355328) (hbase : base ≤ w.heap.size)
  (h : ∀ v' w', w'.ownsRow base e size v' (n + m) (xs ++ news) → w.grownBy w' v.ownBlock → K (a.put o.dst v') w') : o.wp P a w K Q := by
 obtain ⟨v', w', hrun, h2, h3⟩ := run_append_row (P := P) w base t o.type e i z size bytes ht hi hz hsize hby hzs hsz v n xs hown B x m news hr h1 h63 hbytes hbase
 unfold Oper.wp execOp
 simp only [ho, resolve, invoke, builtin, Sem.run_bind, Sem.run_pure, Result.andThen_ok, List.map_toArray, List.map_cons, List.map_nil, hs, hx, hrun]
 exact h v' w' h2 h3
theorem wpList_append_row {ops : Array Oper} {rest : List Oper} {o : Oper} {a : Act} {Q : Exit → Act → World → Prop} (hgd : o.guard = none) (s y : Operand) (t : TypeId)
  (ho : o.op = .call { callee := .builtin .append, args := #[s, y], argTypes := #[t, t] })
  (base : Nat) (e : TypeId) (i : TypeInfo) (z : Value) (size bytes : Nat) (ht : P.underlying t = some (.slice e)) (hi : P.info? e = some i) (hz : i.zero = some z)
  (hsize : i.size = size) (hby : i.bytes = bytes) (hzs : z.cells.size = size) (hsz : 0 < size)
  (v : Value) (n : Nat) (xs : List Value) (hs : a.eval s = v) (hown : w.ownsRow base e size v n xs) (B : Nat) (x : Value) (m : Nat) (news : List Value) (hx : a.eval y = x) (hr : Row w B size x m news) (h1 : ∀ u ∈ news, u.oneCell' = true)
  (h63 : n + m ≤ maxLen) (hbytes : (n + m) * bytes ≤ 140737488355328) (hbase : base ≤ w.heap.size)
  (h : ∀ v' w', w'.ownsRow base e size v' (n + m) (xs ++ news) → w.grownBy w' v.ownBlock → wpList P ops Q rest (a.put o.dst v') w') : wpList P ops Q (o :: rest) a w :=
 wpList_plain hgd fun _ hK => wp_append_row w s y t ho base e i z size bytes ht hi hz hsize hby hzs hsz v n xs hs hown B x m news hx hr h1 h63 hbytes hbase fun v' w' h2 h3 => hK _ _ (h v' w' h2 h3)
theorem conv_row (src e : TypeId) (hs : P.underlying src = some (.slice e)) (he : P.underlying e = some (.int .u8)) {B : Nat} {v : Value} {n : Nat} {xs : List Int} (hr : Row w B 1 v n (xs.map (Value.int .u8))) :
  ∀ dst, P.underlying dst = some .string → (convert src dst v).run P w = .ok (.string (strOfNums xs)) w := by
 intro dst hd
 obtain ⟨A, c, rfl⟩ := hr.form
 have hl : xs.length = n := by simpa using hr.len
 by_cases hn : n = 0
 ·subst hn
  have : xs = [] := List.eq_nil_of_length_eq_zero hl
  subst this
  rcases A with _ | ad
  ·exact run_convert_bytes_nil w src e hs he 0 c dst hd
  ·rw [run_convert_bytes_string w src dst e _ 0 c hs he hd, run_bytesToString w ad 0 c [] (by simp [loadCells, loadCellsFrom])]
   rfl
 ·obtain ⟨b, off, rfl, _, hc⟩ := hr.at_ hn
  refine run_convert_bytes_arg w src e hs he b off n c xs hl (fun i hi => hc i _ ?_) dst hd
  rw [List.getElem?_map, List.getElem?_eq_getElem (by omega), List.getD_eq_getElem?_getD, List.getElem?_eq_getElem (by omega)]
  rfl
end
end Go.Proofs.YtcaibahniheohaaDoor.Words

/- A row of bytes (of numbers): its cells. Nothing here speaks of one program text. -/
namespace Go.Proofs.YtcaibahniheohaaDoor.Words
set_option maxRecDepth 100000
open Go.RowKit
theorem Row.num {w : World} {B n : Nat} {b off c : Nat} {zs : List Int} {k : IntKind} (h : Row w B 1 (.slice (some ⟨b, off, none⟩) n c) n (zs.map (Value.int k))) (j : Nat) (hj : j < n) :
  w.cell? ⟨b, off + j, none⟩ = some (.int k (zs.getD j 0)) := by
 have hl : zs.length = n := by have := h.len; simpa using this
 have := h.cells ⟨b, off, none⟩ rfl j (.int k (zs.getD j 0)) (by rw [List.getElem?_map, List.getElem?_eq_getElem (by omega), List.getD_eq_getElem?_getD, List.getElem?_eq_getElem (by omega)]; rfl)
 rwa [add_spot] at this
end Go.Proofs.YtcaibahniheohaaDoor.Words

/- Rows of the call's own: kept, cut short, joined. Nothing here speaks of one program text. -/
namespace Go.Proofs.YtcaibahniheohaaDoor.Words
set_option maxRecDepth 100000
open Go.RowKit
theorem own_below {w w' : World} {base : Nat} {e : TypeId} {size : Nat} {v : Value} {n : Nat} {xs : List Value} (h : w.ownsRow base e size v n xs) (hb : Below w.heap.size w w') : w'.ownsRow base e size v n xs := by
 refine ⟨h.1, ?_⟩
 rcases h.2 with h' | ⟨g, cap, cur, rfl, h1, h2, h3⟩
 ·exact .inl h'
 ·exact .inr ⟨g, cap, cur, rfl, h1, (hb.block g (Array.getElem?_eq_some_iff.1 h2).1).trans h2, h3⟩
theorem own_base {w : World} {base base' : Nat} {e : TypeId} {size : Nat} {v : Value} {n : Nat} {xs : List Value} (h : w.ownsRow base e size v n xs) (hb : base' ≤ base) : w.ownsRow base' e size v n xs := by
 refine ⟨h.1, ?_⟩
 rcases h.2 with h' | ⟨g, cap, cur, rfl, h1, h2⟩
 ·exact .inl h'
 ·exact .inr ⟨g, cap, cur, rfl, Nat.le_trans hb h1, h2⟩
theorem below_cell {B : Nat} {x y : World} {b k : Nat} {v : Value} (h : Below B x y) (hb : b < B) (hv : x.cell? ⟨b, k, none⟩ = some v) : y.cell? ⟨b, k, none⟩ = some v := by
 rw [h.cell (p := ⟨b, k, none⟩) hb]; exact hv
theorem own_grown {w w' : World} {base : Nat} {e : TypeId} {size : Nat} {v : Value} {n : Nat} {xs : List Value} {row : Option Nat} (h : w.ownsRow base e size v n xs) (hg : w.grownBy w' row) (hne : ∀ g, v.ownBlock = some g → some g ≠ row) : w'.ownsRow base e size v n xs := by
 refine ⟨h.1, ?_⟩
 rcases h.2 with h' | ⟨g, cap, cur, rfl, h1, h2, h3⟩
 ·exact .inl h'
 ·exact .inr ⟨g, cap, cur, rfl, h1, (hg.block g (Array.getElem?_eq_some_iff.1 h2).1 (hne g rfl)).trans h2, h3⟩
theorem own_form {w : World} {base : Nat} {e : TypeId} {size : Nat} {v : Value} {n : Nat} {xs : List Value} (h : w.ownsRow base e size v n xs) (hn : n ≠ 0) : ∃ g cap, v = .slice (some ⟨g, 0, none⟩) n cap ∧ base ≤ g ∧ g < w.heap.size := by
 rcases h.2 with ⟨rfl, rfl⟩ | ⟨g, cap, cur, rfl, h1, h2, h3⟩
 ·exact absurd rfl hn
 ·exact ⟨g, cap, rfl, h1, (Array.getElem?_eq_some_iff.1 h2).1⟩
end Go.Proofs.YtcaibahniheohaaDoor.Words

/- A law of no one program: A REGION THAT DRAWS ITS ORDER, WALKED IN ONE ORDER. 'linOk' (reckoned by the kernel) says of an order: an operation that is marked (it only reads) may come up at its time and waits for nobody it could disturb; one that is not marked is alone in being able to come up.
   The condition S on the world may be made stronger on the way ('lin_more'): so what a callee has just made may be read by an operation that Go may carry out later. -/
namespace Go.Proofs.YtcaibahniheohaaDoor.Words
set_option maxRecDepth 100000
open Go.RowKit
def linOk (md : Region.Mode) (ops : Array Oper) : List (Nat × Bool) → Array Bool → Bool
 | [], listed => (Region.ready md ops listed).isEmpty
 | (i, true) :: rest, listed => (Region.ready md ops listed).contains i && Region.free md ops listed i && linOk md ops rest (listed.setIfInBounds i true)
 | (i, false) :: rest, listed => (Region.ready md ops listed == [i]) && linOk md ops rest (listed.setIfInBounds i true)
section
variable {P : Program} {ops : Array Oper} {Q : Exit → Act → World → Prop} {md : Region.Mode}
def linStep (P : Program) (ops : Array Oper) (Q : Exit → Act → World → Prop) (o : Oper) (K : Act → World → Prop) (a : Act) (w : World) : Prop :=
 if Region.wanted o (yielded ops a.tmps) = true then o.wp P a w K Q else K (a.put o.dst undef) w
def wpLin (P : Program) (ops : Array Oper) (Q : Exit → Act → World → Prop) : List (Option Oper × Bool) → (World → Prop) → Act → World → Prop
 | [], _, a, w => Q .normal a w
 | (none, _) :: _, _, _, _ => False
 | (some o, true) :: rest, S, a, w => ∃ S' : World → Prop, (∀ x, S' x → S x) ∧ S' w ∧ ∃ v, YieldsIf P ops S' o v a ∧ wpLin P ops Q rest S' (a.put o.dst v) w
 | (some o, false) :: rest, S, a, w => ∃ S' : World → Prop, (∀ x, S' x → S x) ∧ S' w ∧ linStep P ops Q o (fun a' w' => S' w' ∧ wpLin P ops Q rest S' a' w') a w
theorem held_weaken {S S' : World → Prop} (hS : ∀ x, S' x → S x) : ∀ (fuel : Nat) (listed : Array Bool) (a : Act) (w : World), wpAnyH P md ops Q S' fuel listed a w → wpAnyH P md ops Q S fuel listed a w
 | 0, _, _, _, h => h
 | fuel + 1, _, _, _, h => ⟨h.1, fun i hi => wpOp_mono (fun a' w' h' => ⟨hS _ h'.1, held_weaken hS fuel _ a' w' h'.2⟩) (h.2 i hi)⟩
theorem held_lin (hs : Region.noSelect ops = true) (hQ : ∀ d v c a w, Q (.panic c) (a.put d v) w → Q (.panic c) a w) :
  ∀ (order : List (Nat × Bool)) (listed : Array Bool) (S : World → Prop) (a : Act) (w : World), linOk md ops order listed = true →
   wpLin P ops Q (order.map fun p => (ops[p.1]?, p.2)) S a w → wpAnyH P md ops Q S order.length listed a w
 | [], listed, S, a, w, hok, h => ⟨by simpa [linOk] using hok, h⟩
 | (i, true) :: rest, listed, S, a, w, hok, h => by
  simp only [linOk, Bool.and_eq_true] at hok
  obtain ⟨⟨h1, h2⟩, h3⟩ := hok
  rcases ho : ops[i]? with _ | o
  ·simp only [List.map_cons, ho, wpLin] at h
  ·simp only [List.map_cons, ho, wpLin] at h
   obtain ⟨S', k1, k2, v, k3, k4⟩ := h
   exact held_weaken k1 _ _ _ _ (wpAnyH_take ho hs h2 h1 (hQ _ _) k3 k2 (held_lin hs hQ rest _ S' _ w h3 k4))
 | (i, false) :: rest, listed, S, a, w, hok, h => by
  simp only [linOk, Bool.and_eq_true, beq_iff_eq] at hok
  obtain ⟨h1, h3⟩ := hok
  rcases ho : ops[i]? with _ | o
  ·simp only [List.map_cons, ho, wpLin] at h
  ·simp only [List.map_cons, ho, wpLin] at h
   obtain ⟨S', k1, k2, k3⟩ := h
   refine held_weaken k1 _ _ _ _ (wpAnyH_all h1 (by simp) fun j hj => ?_)
   have hji : j = i := by simpa using hj
   subst hji
   unfold wpOp
   simp only [ho]
   unfold linStep at k3
   split at k3
   ·rename_i hw
    rw [if_pos hw]
    exact .inl (Oper.wp_mono (fun a' w' hk => ⟨hk.1, held_lin hs hQ rest _ S' a' w' h3 hk.2⟩) k3)
   ·rename_i hw
    rw [if_neg hw]
    exact ⟨k3.1, held_lin hs hQ rest _ S' _ _ h3 k3.2⟩
theorem wp_region_lin {id : Nat} {a : Act} {w : World} (order : List (Nat × Bool)) (hm : P.follows .mixedOrders = true) (hs : Region.noSelect ops = true) (hl : order.length = ops.size)
  (hok : linOk .any ops order (Array.replicate ops.size false) = true) (S : World → Prop)
  (h : wpLin P ops (NoPanic Q) (order.map fun p => (ops[p.1]?, p.2)) S a w.drew) : (Code.region id ops true).wp P Q a w := by
 refine wp_region_noPanic (wp_region_held hm (S := S) ?_)
 have hh := held_lin hs (fun _ _ _ _ _ h => h) order _ S a w.drew hok h
 rw [hl] at hh
 exact hh
theorem lin_take {o : Oper} {rest : List (Option Oper × Bool)} {S : World → Prop} {a : Act} {w : World} {v : Value} (hS : S w)
  (hw : Region.wanted o (yielded ops a.tmps) = true) (hy : ∀ x, S x → (execOp a.eval o).run P x = .ok (.value v) x)
  (h : wpLin P ops Q rest S (a.put o.dst v) w) : wpLin P ops Q ((some o, true) :: rest) S a w := ⟨S, fun _ h => h, hS, v, .inl ⟨hw, hy⟩, h⟩
theorem lin_call {o : Oper} {rest : List (Option Oper × Bool)} {S : World → Prop} {a : Act} {w : World} (hS : S w) (hw : Region.wanted o (yielded ops a.tmps) = true)
  (h : ∀ K : Act → World → Prop, Shut (∀ a w, S w → (S w → wpLin P ops Q rest S a w) → K a w) → Oper.wp P o a w K Q) : wpLin P ops Q ((some o, false) :: rest) S a w :=
 ⟨S, fun _ h => h, hS, by unfold linStep; rw [if_pos hw]; exact h _ (fun _ _ h1 h2 => ⟨h1, h2 h1⟩)⟩
theorem lin_done {S : World → Prop} {a : Act} {w : World} (h : Q .normal a w) : wpLin P ops (NoPanic Q) [] S a w := h
end
end Go.Proofs.YtcaibahniheohaaDoor.Words

/- Laws of no one program: a part of a row; 'copy' of any row into a row of the call's own, as one operation and in a plain region. -/
namespace Go.Proofs.YtcaibahniheohaaDoor.Words
set_option maxRecDepth 100000
open Go.RowKit
set_option linter.unusedVariables false
theorem splice_nil {α : Type} (L : List α) (k : Nat) : splice L k [] = L := by simp [splice]
theorem splice_cons {α : Type} (L : List α) (k : Nat) (x : α) (cs : List α) (h : k < L.length) : splice L k (x :: cs) = splice (L.set k x) (k + 1) cs := by
 unfold splice
 rw [List.take_add_one, List.getElem?_set_self h, List.take_set_of_le (Nat.le_refl _), List.drop_set_of_lt (by omega)]
 simp only [Option.toList_some, List.append_assoc, List.cons_append, List.nil_append, List.length_cons]
 rw [show k + (cs.length + 1) = k + 1 + cs.length by omega]
section
variable {P : Program} {w : World}
end
end Go.Proofs.YtcaibahniheohaaDoor.Words

/- Laws of no one program: a variable of many cells (a struct, an array) as ONE block whose cells are a list that need not be written out: read whole or in part, written whole or in part; the world behind a write is a variable. -/
namespace Go.Proofs.YtcaibahniheohaaDoor.Words
set_option maxRecDepth 100000
open Go.RowKit
set_option linter.unusedVariables false
def Box (w : World) (b : Nat) (l : List Value) : Prop := ∃ t, w.heap[b]? = some (.cells l.toArray t (0, 0))
section
variable {w w' : World} {b : Nat} {l : List Value}
theorem Box.new (w : World) (l : List Value) (t : TypeId) : Box (w.alloc (.cells l.toArray t)) w.heap.size l := ⟨t, heap_alloc_new w _⟩
theorem Box.lt (h : Box w b l) : b < w.heap.size := by obtain ⟨t, h⟩ := h; exact (Array.getElem?_eq_some_iff.1 h).1
theorem Box.cell (h : Box w b l) {k : Nat} {v : Value} (hk : l[k]? = some v) : w.cell? ⟨b, k, none⟩ = some v := by
 obtain ⟨t, h⟩ := h
 rw [cell_of_row w b k _ t (0, 0) h]; simpa using hk
theorem Box.frozen (h : Box w b l) (k : Nat) : w.frozen? ⟨b, k, none⟩ = false := by
 obtain ⟨t, h⟩ := h
 simp [World.frozen?, h]
theorem Box.range (h : Box w b l) {o : Nat} {cs : List Value} (hc : ∀ j v, cs[j]? = some v → l[o + j]? = some v) : w.rangeAt b o cs := fun j v hv => h.cell (hc j v hv)
theorem Box.there (h : Box w b l) {o n : Nat} (hn : o + n ≤ l.length) : w.there b o n := fun j hj => by
 refine ⟨?_, h.frozen _⟩
 rw [h.cell (List.getElem?_eq_getElem (show o + j < l.length by omega))]; rfl
theorem Box.below {B : Nat} (h : Box w b l) (hb : Below B w w') (hB : b < B) : Box w' b l := by
 obtain ⟨t, h⟩ := h
 exact ⟨t, (hb.block b hB).trans h⟩
theorem Box.grown {row : Option Nat} (h : Box w b l) (hg : w.grownBy w' row) (hne : some b ≠ row) : Box w' b l := by
 have := h.lt
 obtain ⟨t, h⟩ := h
 exact ⟨t, (hg.block b this hne).trans h⟩
theorem Box.alloc (h : Box w b l) (o : Obj) : Box (w.alloc o) b l := by
 have := h.lt
 obtain ⟨t, h⟩ := h
 exact ⟨t, (heap_alloc_old w o this).trans h⟩
theorem Box.drew (h : Box w b l) : Box w.drew b l := h
theorem Box.drewN (h : Box w b l) (k : Nat) : Box (w.drewN k) b l := h
theorem Box.setCell (h : Box w b l) (k : Nat) (v : Value) : Box (w.setCell ⟨b, k, none⟩ v) b (l.set k v) := by
 obtain ⟨t, h⟩ := h
 refine ⟨t, ?_⟩
 unfold World.setCell
 simp only [Array.getElem?_modify, if_pos, h]
 simp
theorem Box.setCell_other (h : Box w b l) {b' : Nat} (hne : b ≠ b') (k : Nat) (v : Value) : Box (w.setCell ⟨b', k, none⟩ v) b l := by
 obtain ⟨t, h⟩ := h
 refine ⟨t, ?_⟩
 unfold World.setCell
 simp only [Array.getElem?_modify, if_neg (show ¬ b' = b from fun e => hne e.symm), h]
theorem Box.setCells : ∀ {vs : List Value} {o : Nat} {w : World} {l : List Value}, Box w b l → o + vs.length ≤ l.length → Box (w.setCells b o vs) b (splice l o vs)
 | [], o, w, l, h, hl => by rw [splice_nil]; exact h
 | v :: r, o, w, l, h, hl => by
  have hl' : o < l.length := by simp at hl; omega
  rw [World.setCells, splice_cons _ _ _ _ hl']
  exact Box.setCells (h.setCell o v) (by simp at hl ⊢; omega)
theorem grown_setCell (w : World) (b k : Nat) (v : Value) (hb : b < w.heap.size) : w.grownBy (w.setCell ⟨b, k, none⟩ v) (some b) :=
 ⟨rfl, rfl, rfl, by simp [World.setCell], fun i hi hne => by unfold World.setCell; simp only [Array.getElem?_modify, if_neg (show ¬ b = i from fun e => hne (by rw [e]))]⟩
theorem grown_setCells (w : World) (b : Nat) (vs : List Value) (o : Nat) (hb : b < w.heap.size) : w.grownBy (w.setCells b o vs) (some b) := by
 induction vs generalizing o w with
 | nil => exact World.grownBy.refl _ _
 | cons v r ih =>
  rw [World.setCells]
  have h1 := grown_setCell w b o v hb
  have h2 := ih (w.setCell ⟨b, o, none⟩ v) (o + 1) (Nat.lt_of_lt_of_le hb h1.size)
  exact ⟨h2.os.trans h1.os, h2.tape.trans h1.tape, h2.output.trans h1.output, Nat.le_trans h1.size h2.size, fun i hi hne => (h2.block i (Nat.lt_of_lt_of_le hi h1.size) hne).trans (h1.block i hi hne)⟩
end
section
variable {P : Program} {w : World} {ops : Array Oper} {rest : List Oper} {op : Oper} {a : Act} {Q : Exit → Act → World → Prop}
theorem wpList_load_box (hw : Region.wanted op (yielded ops a.tmps) = true) (ty : TypeId) (x : Operand) (ho : op.op = .load ty x)
  (b o : Nat) (hx : a.eval x = .pointer (some ⟨b, o, none⟩)) (l cs : List Value) (hb : Box w b l) (hc : ∀ j v, cs[j]? = some v → l[o + j]? = some v) (d : TypeDesc)
  (hu : P.underlying ty = some d) (hd : d.isRow = true) (n : Nat) (hi : (P.info? ty).map (·.size) = some n) (hn : cs.length = n)
  (h : wpList P ops Q rest (a.put op.dst (.agg cs.toArray)) w) : wpList P ops Q (op :: rest) a w :=
 wpList_step fun K hK => by rw [if_pos hw]; exact wp_load_mid ty x ho b o hx cs d (hb.range hc) hu hd (by rw [hn]; exact hi) (hK _ _ h)
end
theorem splice_whole {α : Type} (L cs : List α) (h : cs.length = L.length) : splice L 0 cs = cs := by simp [splice, h]
end Go.Proofs.YtcaibahniheohaaDoor.Words

/- Tokens as cells; which blocks a splitter's calls leave as they were. -/
namespace Go.Proofs.YtcaibahniheohaaDoor.Words
set_option maxRecDepth 100000
open Go.RowKit Go.Shelf Go.Lib
set_option linter.unusedVariables false
abbrev txt (l : List UInt8) : ByteArray := ⟨l.toArray⟩
theorem txt_eq {s : ByteArray} {l : List UInt8} (h : s.data.toList = l) : s = txt l := by
 cases s with
 | mk d => subst h; simp
theorem txt_cut (s : ByteArray) (p n : Nat) : s.extract p (p + n) = txt ((s.data.toList.drop p).take n) := by
 apply txt_eq
 rw [Lib.extract_data, Nat.add_sub_cancel_left]
def tokL (t : Tok) : List Value := [.int .i64 t.kind, .int .i64 t.num, .int .i64 (t.at_ : Int), .string (txt t.text)]
def toksL (l : List Tok) : List Value := l.flatMap tokL
theorem toksL_nil : toksL [] = [] := rfl
theorem toksL_cons (i : Tok) (l : List Tok) : toksL (i :: l) = tokL i ++ toksL l := by simp [toksL]
theorem toksL_append (l m : List Tok) : toksL (l ++ m) = toksL l ++ toksL m := by simp [toksL]
theorem toksL_length (l : List Tok) : (toksL l).length = l.length * 4 := by
 induction l with
 | nil => rfl
 | cons i l ih => rw [toksL_cons, List.length_append, ih]; simp [tokL]; omega
theorem toksL_at (l : List Tok) (k : Nat) (i : Tok) (h : l[k]? = some i) (j : Nat) (hj : j < 4) : (toksL l)[k * 4 + j]? = (tokL i)[j]? := by
 induction l generalizing k with
 | nil => simp at h
 | cons x l ih =>
  rw [toksL_cons]
  cases k with
  | zero =>
   simp at h; subst h
   rw [List.getElem?_append_left (by simp [tokL]; omega), Nat.zero_mul, Nat.zero_add]
  | succ k =>
   simp at h
   have h5 : (tokL x).length = 4 := rfl
   rw [List.getElem?_append_right (by omega), h5, show (k + 1) * 4 + j - 4 = k * 4 + j by omega]
   exact ih k h
theorem Row.tok {w : World} {B n c : Nat} {b off : Nat} {l : List Tok} (h : Row w B 4 (.slice (some ⟨b, off, none⟩) n c) n (toksL l)) {k : Nat} {i : Tok} (hi : l[k]? = some i) :
  w.cell? ⟨b, off + k * 4, none⟩ = some (.int .i64 i.kind) ∧ w.cell? ⟨b, off + k * 4 + 1, none⟩ = some (.int .i64 i.num) ∧ w.cell? ⟨b, off + k * 4 + 2, none⟩ = some (.int .i64 (i.at_ : Int)) ∧ w.cell? ⟨b, off + k * 4 + 3, none⟩ = some (.string (txt i.text)) := by
 have g : ∀ j u, j < 4 → (tokL i)[j]? = some u → w.cell? ⟨b, off + k * 4 + j, none⟩ = some u := by
  intro j u hj hu
  have := h.cells ⟨b, off, none⟩ rfl (k * 4 + j) u ((toksL_at l k i hi j hj).trans hu)
  rwa [add_spot, ← Nat.add_assoc] at this
 exact ⟨g 0 _ (by omega) rfl, g 1 _ (by omega) rfl, g 2 _ (by omega) rfl, g 3 _ (by omega) rfl⟩
theorem row_one4 (w : World) (a b c d : Value) (t : TypeId) : Row (w.alloc (.cells #[a, b, c, d] t)) (w.heap.size + 1) 4 (.slice (some ⟨w.heap.size, 0, none⟩) 1 1) 1 [a, b, c, d] := by
 refine ⟨rfl, _, _, rfl, Nat.le_refl _, by omega, (fun h => by cases h), fun _ => ⟨w.heap.size, 0, rfl, Nat.lt_succ_self _, fun j u hu => ?_⟩⟩
 have := new_cells w #[a, b, c, d] t [a, b, c, d] rfl j u hu
 rwa [add_spot] at this
theorem info_tok : (Tryd.prog.info? 48).map (fun i => (i.zero, i.size, i.bytes)) = some (some (.agg #[.int .i64 0, .int .i64 0, .int .i64 0, .string ⟨#[]⟩]), 4, 40) := by kernel_rfl
structure TurnB (b Bt : Nat) (w w' : World) : Prop where
 bel : Below b w w'
 mid : ∀ k, b < k → k < Bt → w'.heap[k]? = w.heap[k]?
section
variable {b Bt : Nat} {w w' w'' : World}
theorem TurnB.refl (b Bt : Nat) (w : World) : TurnB b Bt w w := ⟨Below.refl _ _, fun _ _ _ => rfl⟩
theorem TurnB.trans (h : TurnB b Bt w w') (g : TurnB b Bt w' w'') : TurnB b Bt w w'' := ⟨h.bel.trans g.bel, fun k h1 h2 => (g.mid k h1 h2).trans (h.mid k h1 h2)⟩
theorem TurnB.of_below (h : Below w.heap.size w w') (hB : b ≤ w.heap.size) (hBt : Bt ≤ w.heap.size) : TurnB b Bt w w' := ⟨h.mono hB, fun k _ h2 => h.block k (by omega)⟩
theorem TurnB.setCell (b Bt : Nat) (w : World) (k : Nat) (v : Value) : TurnB b Bt w (w.setCell ⟨b, k, none⟩ v) := ⟨(Below.refl _ _).setCell (p := ⟨b, k, none⟩) (Nat.le_refl _) v, fun j h1 _ => Below.heap_setCell w ⟨b, k, none⟩ v j (by show j ≠ b; omega)⟩
theorem TurnB.grown {row : Option Nat} (h : w.grownBy w' row) (hB : b ≤ w.heap.size) (hBt : Bt ≤ w.heap.size) (hr : ∀ k, row = some k → Bt ≤ k) (hb : b < Bt) : TurnB b Bt w w' :=
 ⟨Below.grown (Below.refl _ _) h hB (fun k hk => by have := hr k hk; omega), fun k _ h2 => h.block k (by omega) (fun e => by have := hr k e.symm; omega)⟩
theorem TurnB.drew (h : TurnB b Bt w w') : TurnB b Bt w w'.drew := ⟨h.bel.drew, h.mid⟩
theorem TurnB.size (h : TurnB b Bt w w') : w.heap.size ≤ w'.heap.size := h.bel.size
end
abbrev splL (s : ByteArray) (vt : Value) (bh : Int) (rm : Bool) : List Value := [.string s, vt, .int .i64 bh, .bool rm]
end Go.Proofs.YtcaibahniheohaaDoor.Words

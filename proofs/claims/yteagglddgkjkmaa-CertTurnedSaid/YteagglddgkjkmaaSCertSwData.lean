/- What CertSwapped and CertTurned need of memory: rows of the call's own as boxes, a split with one side of one block put in place. -/
import Derived.Test.YteagglddgkjkmaaG16
import Derived.Test.YteagglddgkjkmaaG06
import Derived.Test.YteagglddgkjkmaaG12
import Derived.Laws.StructEq
namespace Go.Proofs.Yteagglddgkjkmaa.Words
set_option maxRecDepth 100000
open Go.RowKit
set_option linter.unusedVariables false
set_option linter.unusedSimpArgs false

theorem cell_ltC {w : World} {b off : Nat} {v : Value} (h : w.cell? ⟨b, off, none⟩ = some v) : b < w.heap.size := by
  rcases Nat.lt_or_ge b w.heap.size with h1 | h1
  · exact h1
  · simp only [World.cell?] at h; rw [Array.getElem?_eq_none h1] at h; simp at h
theorem eql_cel (i k : Cel) (w : World) : (binOp .eql 49 (celV i) (celV k)).run Try.prog w = .ok (.bool (decide (i = k))) w := by
  have e := eqFields_cel i k w
  unfold celV at *
  rw [run_eql_struct, e]; rfl
theorem info_blkC : (Try.prog.info? 39).map (fun i => (i.zero, i.size, i.bytes)) = some (some (.agg #[.int .i64 0, .int .i64 0, .int .i64 0, .int .i64 0, .slice none 0 0, .slice none 0 0]), 6, 80) := by kernel_rfl
theorem spl_built2_aux (a0 a1 a2 a3 a4 a5 a6 a7 a8 a9 a10 a11 a12 a13 a14 a15 : Int) (A : Option Addr) (n c : Nat) :
    Try.prog.built 30 [(1, .agg (oV [a0, a1, a2, a3, a4, a5, a6, a7, a8, a9, a10, a11, a12, a13, a14, a15]).toArray), (0, .slice A n c)] = some (splV (.slice A n c) [a0, a1, a2, a3, a4, a5, a6, a7, a8, a9, a10, a11, a12, a13, a14, a15]).toArray := by kernel_rfl
theorem spl_built2 (A : Option Addr) (n c : Nat) (o : List Int) (h : o.length = 16) : Try.prog.built 30 [(1, .agg (oV o).toArray), (0, .slice A n c)] = some (splV (.slice A n c) o).toArray := by
  match o, h with
  | [a0, a1, a2, a3, a4, a5, a6, a7, a8, a9, a10, a11, a12, a13, a14, a15], _ => exact spl_built2_aux ..
/-- A row of the call's own is a box: what it holds, and its spare. -/
theorem own_box {w : World} {base : Nat} {e : TypeId} {s g n cap : Nat} {xs : List Value} (h : w.ownsRow base e s (.slice (some ⟨g, 0, none⟩) n cap) n xs) : ∃ ys, Box w g (xs ++ ys) ∧ base ≤ g ∧ n ≤ cap ∧ cap ≤ 9223372036854775807 ∧ xs.length = n * s := by
  obtain ⟨h0, h1⟩ := h
  rcases h1 with ⟨h', _⟩ | ⟨g', cap', cur, h', h1, h2, h3, h4, h5, h6⟩
  · simp at h'
  · simp only [Value.slice.injEq, Option.some.injEq, Addr.mk.injEq, and_true, true_and] at h'
    obtain ⟨rfl, rfl⟩ := h'
    refine ⟨cur.toList.drop (n * s), ⟨e, ?_⟩, h1, h3, h4, h0⟩
    rw [← h6, List.take_append_drop]
    simpa using h2
theorem box_rowC {w : World} {B s g n cap : Nat} {xs ys : List Value} (h : Box w g (xs ++ ys)) (hl : xs.length = n * s) (h1 : n ≤ cap) (h2 : cap ≤ 9223372036854775807) (hB : g < B) : Row w B s (.slice (some ⟨g, 0, none⟩) n cap) n xs := by
  refine ⟨hl, _, _, rfl, h1, h2, (fun e => by cases e), fun _ => ⟨g, 0, rfl, hB, fun j u hu => ?_⟩⟩
  rw [Nat.zero_add]
  refine h.cell ?_
  rw [List.getElem?_append_left (List.getElem?_eq_some_iff.1 hu).1]; exact hu
theorem splice_flat {l : List Cel} {ys : List Value} {k : Nat} (x : Cel) (hk : k < l.length) : splice (flat celCells l ++ ys) (k * 9) (celCells x) = flat celCells (l.set k x) ++ ys := by
  induction l generalizing k with
  | nil => simp at hk
  | cons y l ih =>
    cases k with
    | zero =>
      rw [flat_cons, List.set_cons_zero, flat_cons]
      unfold splice
      simp [celCells]
    | succ k =>
      have hk' : k < l.length := by simpa using hk
      have := ih hk'
      rw [flat_cons, List.set_cons_succ, flat_cons]
      unfold splice at this ⊢
      rw [List.append_assoc, List.append_assoc, ← this]
      have e1 : (k + 1) * 9 = (celCells y).length + k * 9 := by rw [celCells_len]; omega
      rw [e1, List.take_append, List.take_of_length_le (by omega), Nat.add_sub_cancel_left]
      have e2 : (celCells y).length + k * 9 + (celCells x).length = (celCells y).length + (k * 9 + (celCells x).length) := by omega
      rw [e2, List.drop_append, List.drop_of_length_le (by omega), Nat.add_sub_cancel_left]
      simp [List.append_assoc]
theorem set_flatB {rs : List BlkR} {zs : List Value} {k : Nat} {r s : BlkR} {j : Nat} {u : Value} (h : rs[k]? = some r) (hs : (blkRL r).set j u = blkRL s) (hj : j < 6) : (flat blkRL rs ++ zs).set (k * 6 + j) u = flat blkRL (rs.set k s) ++ zs := by
  have hk := (List.getElem?_eq_some_iff.1 h).1
  rw [List.set_append_left _ _ (by rw [flat_len blkRL_len]; omega), flat_set rs k r s j u h hs hj]
theorem blkRL_one {w : World} {B : Nat} {r : BlkR} {c : BlkC} (h : BlkV w B r c) : ∀ u ∈ blkRL r, u.oneCell' = true := by
  obtain ⟨A1, c1, e1⟩ := h.a.form
  obtain ⟨A2, c2, e2⟩ := h.e.form
  intro u hu
  simp only [blkRL, List.mem_cons, List.not_mem_nil, or_false] at hu
  rcases hu with rfl | rfl | rfl | rfl | rfl | rfl <;> first | rfl | (rw [e1]; rfl) | (rw [e2]; rfl)
theorem flatB_one {w : World} {B : Nat} {rs : List BlkR} {L : List BlkC} (hl : rs.length = L.length) (h : ∀ (k : Nat) (r : BlkR) (c : BlkC), rs[k]? = some r → L[k]? = some c → BlkV w B r c) : ∀ u ∈ flat blkRL rs, u.oneCell' = true := by
  intro u hu
  obtain ⟨r, hr, hu⟩ := List.mem_flatMap.1 hu
  obtain ⟨k, hk, rfl⟩ := List.mem_iff_getElem.1 hr
  exact blkRL_one (h k _ _ (List.getElem?_eq_getElem hk) (List.getElem?_eq_getElem (by omega))) u hu
theorem flatC_one (l : List Cel) : ∀ u ∈ flat celCells l, u.oneCell' = true := by
  intro u hu
  obtain ⟨x, _, hu⟩ := List.mem_flatMap.1 hu
  exact celCells_one x u hu
/-- Blocks of which one side of one block is another row. -/
theorem blks_setA {w : World} {B bt n ct k : Nat} {rs : List BlkR} {L : List BlkC} {zs : List Value} {r : BlkR} {x : BlkC} {vl : Value} {l : List Cel} (hn : L.length = n) (hl : rs.length = L.length) (hr : rs[k]? = some r) (hx : L[k]? = some x)
    (hall : ∀ (k : Nat) (r : BlkR) (c : BlkC), rs[k]? = some r → L[k]? = some c → BlkV w B r c) (hbox : Box w bt (flat blkRL (rs.set k { r with va := vl }) ++ zs)) (h1 : n ≤ ct) (h2 : ct ≤ 9223372036854775807) (hB : bt < B) (hv : Row w B 9 vl l.length (flat celCells l)) :
    BlksV w B (.slice (some ⟨bt, 0, none⟩) n ct) (L.set k { x with a := l }) := by
  refine ⟨rs.set k { r with va := vl }, ?_, by simp [hl], fun j r' c' hr' hc' => ?_⟩
  · rw [List.length_set, hn]
    exact box_rowC hbox (by rw [flat_len blkRL_len, List.length_set, hl, hn]) h1 h2 hB
  · by_cases e : k = j
    · subst e
      rw [List.getElem?_set_self (List.getElem?_eq_some_iff.1 hr).1] at hr'
      rw [List.getElem?_set_self (List.getElem?_eq_some_iff.1 hx).1] at hc'
      injection hr' with hr'; injection hc' with hc'
      subst hr'; subst hc'
      have h := hall k r x hr hx
      exact ⟨h.from_, h.to, h.next, h.taken, hv, h.e⟩
    · rw [List.getElem?_set_ne e] at hr' hc'
      exact hall j r' c' hr' hc'
theorem blks_setE {w : World} {B bt n ct k : Nat} {rs : List BlkR} {L : List BlkC} {zs : List Value} {r : BlkR} {x : BlkC} {vl : Value} {l : List Cel} (hn : L.length = n) (hl : rs.length = L.length) (hr : rs[k]? = some r) (hx : L[k]? = some x)
    (hall : ∀ (k : Nat) (r : BlkR) (c : BlkC), rs[k]? = some r → L[k]? = some c → BlkV w B r c) (hbox : Box w bt (flat blkRL (rs.set k { r with ve := vl }) ++ zs)) (h1 : n ≤ ct) (h2 : ct ≤ 9223372036854775807) (hB : bt < B) (hv : Row w B 9 vl l.length (flat celCells l)) :
    BlksV w B (.slice (some ⟨bt, 0, none⟩) n ct) (L.set k { x with e := l }) := by
  refine ⟨rs.set k { r with ve := vl }, ?_, by simp [hl], fun j r' c' hr' hc' => ?_⟩
  · rw [List.length_set, hn]
    exact box_rowC hbox (by rw [flat_len blkRL_len, List.length_set, hl, hn]) h1 h2 hB
  · by_cases e : k = j
    · subst e
      rw [List.getElem?_set_self (List.getElem?_eq_some_iff.1 hr).1] at hr'
      rw [List.getElem?_set_self (List.getElem?_eq_some_iff.1 hx).1] at hc'
      injection hr' with hr'; injection hc' with hc'
      subst hr'; subst hc'
      have h := hall k r x hr hx
      exact ⟨h.from_, h.to, h.next, h.taken, h.a, hv⟩
    · rw [List.getElem?_set_ne e] at hr' hc'
      exact hall j r' c' hr' hc'
theorem set_iff {α : Type} [DecidableEq α] {L : List α} {k : Nat} {x y : α} (hx : L[k]? = some x) : L = L.set k y ↔ x = y := by
  have hk := (List.getElem?_eq_some_iff.1 hx).1
  constructor
  · intro e
    have : (L.set k y)[k]? = some y := List.getElem?_set_self hk
    rw [← e, hx] at this
    injection this
  · rintro rfl
    apply List.ext_getElem?
    intro j
    by_cases hj : k = j
    · subst hj; rw [List.getElem?_set_self hk, hx]
    · rw [List.getElem?_set_ne hj]
/-- A split with another side is right just if it is the same side. -/
theorem right_setA {c : List Ins} {sz : Int} {m : Nat} {o : List Int} (h : closedZ c sz m o = true) {L : List BlkC} (hL : L = withZ c sz m o) {k : Nat} {x : BlkC} (hx : L[k]? = some x) (l : List Cel) : rightS c sz m (L.set k { x with a := l }) o = decide (l = x.a) := by
  unfold rightS
  rw [h, ← hL, Bool.true_and, decide_eq_decide, set_iff hx]
  constructor
  · intro e; have := congrArg BlkC.a e; exact this.symm
  · rintro rfl; rfl
theorem right_setE {c : List Ins} {sz : Int} {m : Nat} {o : List Int} (h : closedZ c sz m o = true) {L : List BlkC} (hL : L = withZ c sz m o) {k : Nat} {x : BlkC} (hx : L[k]? = some x) (l : List Cel) : rightS c sz m (L.set k { x with e := l }) o = decide (l = x.e) := by
  unfold rightS
  rw [h, ← hL, Bool.true_and, decide_eq_decide, set_iff hx]
  constructor
  · intro e; have := congrArg BlkC.e e; exact this.symm
  · rintro rfl; rfl
theorem flat_at9 {l : List Cel} {ys : List Value} {k : Nat} {x : Cel} (hx : l[k]? = some x) {j : Nat} {v : Value} (h : (celCells x)[j]? = some v) : (flat celCells l ++ ys)[k * 9 + j]? = some v := by
  have hj : j < 9 := (List.getElem?_eq_some_iff.1 h).1
  have hk := (List.getElem?_eq_some_iff.1 hx).1
  rw [List.getElem?_append_left (by rw [flat_len celCells_len]; omega), flat_at celCells_len l k x hx j hj]; exact h
theorem flat_at6 {l : List BlkR} {ys : List Value} {k : Nat} {x : BlkR} (hx : l[k]? = some x) {j : Nat} {v : Value} (h : (blkRL x)[j]? = some v) : (flat blkRL l ++ ys)[k * 6 + j]? = some v := by
  have hj : j < 6 := (List.getElem?_eq_some_iff.1 h).1
  have hk := (List.getElem?_eq_some_iff.1 hx).1
  rw [List.getElem?_append_left (by rw [flat_len blkRL_len]; omega), flat_at blkRL_len l k x hx j hj]; exact h
theorem grown_trans' {a b c : World} {row : Option Nat} (h1 : a.drew.grownBy b row) (h2 : b.grownBy c row) : a.grownBy c row :=
  ⟨h2.os.trans h1.os, h2.tape.trans h1.tape, h2.output.trans h1.output, Nat.le_trans h1.size h2.size, fun i hi hne => (h2.block i (Nat.lt_of_lt_of_le hi h1.size) hne).trans (h1.block i hi hne)⟩
section
variable {P : Program} {o : Oper} {a : Act}
theorem exec_eq {t t2 : TypeId} {x y : Operand} {v : Value} {w : World} {xs ys : Array Value} (ho : o.op = .binOp .eql t x y t2) (hx : a.eval x = .agg xs) (hy : a.eval y = .agg ys) (hm : P.eqGuardType P.depth t = false)
    (h : (binOp .eql t (.agg xs) (.agg ys)).run P w = .ok v w) : (execOp a.eval o).run P w = .ok (.value v) w := by
  unfold execOp
  simp only [ho, Sem.run_bind, hx, hy, run_eqGuard_agg (hm := hm), h, Result.andThen_ok, Sem.run_pure]
end
end Go.Proofs.Yteagglddgkjkmaa.Words

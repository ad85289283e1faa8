/- The document's own SameState of any two states. -/
import Derived.Test.YthhoigkmmlkfcaaSRefSameRows
import Derived.Test.YthhoigkmmlkfcaaSTailB
import Derived.Deep.Cut
namespace Go.Proofs.Ythhoigkmmlkfcaa.Words
set_option maxRecDepth 100000
open Go.RowKit
set_option linter.unusedVariables false
set_option linter.unusedSimpArgs false

section
variable {P : Program} {ops : Array Oper} {Q : Exit → Act → World → Prop} {a : Act} {w : World} {rest : List Oper} {o : Oper} {v : Value}
theorem list_takeS (hw : Region.wanted o (yielded ops a.tmps) = true) (hy : (execOp a.eval o).run P w = .ok (.value v) w) (h : wpList P ops Q rest (a.put o.dst v) w) : wpList P ops Q (o :: rest) a w :=
  wpList_step fun K hK => by rw [if_pos hw]; unfold Oper.wp; rw [hy]; exact hK _ _ h
theorem list_skipS (hw : Region.wanted o (yielded ops a.tmps) = false) (h : wpList P ops Q rest (a.put o.dst undef) w) : wpList P ops Q (o :: rest) a w :=
  wpList_step fun K hK => by rw [if_neg (by rw [hw]; decide)]; exact hK _ _ h
theorem exec_neqS {t t2 : TypeId} {x y : Operand} {v : Value} {w : World} {xs ys : Array Value} (ho : o.op = .binOp .neq t x y t2) (hx : a.eval x = .agg xs) (hy : a.eval y = .agg ys) (hm : P.eqGuardType P.depth t = false)
    (h : (binOp .neq t (.agg xs) (.agg ys)).run P w = .ok v w) : (execOp a.eval o).run P w = .ok (.value v) w := by
  unfold execOp
  simp only [ho, Sem.run_bind, hx, hy, run_eqGuard_agg (hm := hm), h, Result.andThen_ok, Sem.run_pure]
end
theorem sta_two (x y : Sta) (vx vy : Vs) (w : World) {W : World} (hW : W = (w.alloc (.cells (staL x vx).toArray 44)).alloc (.cells (staL y vy).toArray 44)) :
    Box W w.heap.size (staL x vx) ∧ Box W (w.heap.size + 1) (staL y vy) ∧ Below w.heap.size w W ∧ W.heap.size = w.heap.size + 2 := by
  subst hW
  refine ⟨(Box.new w (staL x vx) _).alloc _, ?_, ((Below.refl _ _).alloc (Nat.le_refl _) _).alloc (by simp) _, by simp⟩
  have := Box.new (w.alloc (.cells (staL x vx).toArray 44)) (staL y vy) 44
  simpa using this
theorem sta_trapS {x : Sta} {v : Vs} (h : x.Ok) : ∀ (j : Nat) (u : Value), ([.int .i64 x.tk, .int .i64 x.ts, .int .i64 x.tp] : List Value)[j]? = some u → (staL x v)[86 + j]? = some u := by
  intro j u hu
  rw [staL_end h]
  match j, hu with
  | 0, hu => exact hu
  | 1, hu => exact hu
  | 2, hu => exact hu
  | n + 3, hu => simp at hu
theorem Sta.eq_iffS (x y : Sta) : x = y ↔ x.cycle = y.cycle ∧ x.a = y.a ∧ x.e = y.e ∧ (x.tk = y.tk ∧ x.ts = y.ts ∧ x.tp = y.tp) ∧ x.lats = y.lats ∧ x.picks = y.picks ∧ x.tags = y.tags ∧ x.mem = y.mem ∧ x.ldq = y.ldq ∧ x.saq = y.saq ∧ x.table = y.table ∧ x.ws = y.ws ∧ x.sdq = y.sdq ∧ x.aeq = y.aeq ∧ x.abq = y.abq ∧ x.ebq = y.ebq := by
  constructor
  · rintro rfl; simp
  · cases x; cases y
    rintro ⟨rfl, rfl, rfl, ⟨rfl, rfl, rfl⟩, rfl, rfl, rfl, rfl, rfl, rfl, rfl, rfl, rfl, rfl, rfl, rfl⟩
    rfl
theorem at_someS {α : Type} {l : List α} {j : Nat} (h : j < l.length) : ∃ i, l[j]? = some i := ⟨_, List.getElem?_eq_getElem h⟩
theorem drop_someS {α : Type} {l m : List α} {j : Nat} {x y : α} (hx : l[j]? = some x) (hy : m[j]? = some y) : (l.drop j = m.drop j) ↔ (x = y ∧ l.drop (j + 1) = m.drop (j + 1)) := by
  obtain ⟨h1, rfl⟩ := List.getElem?_eq_some_iff.1 hx
  obtain ⟨h2, rfl⟩ := List.getElem?_eq_some_iff.1 hy
  rw [List.drop_eq_getElem_cons h1, List.drop_eq_getElem_cons h2, List.cons.injEq]
theorem Row.sltS {w : World} {B n c b off : Nat} {l : List Slt} (h : Row w B 3 (.slice (some ⟨b, off, none⟩) n c) n (flat sltL l)) {k : Nat} {x : Slt} (hx : l[k]? = some x) :
    w.cell? ⟨b, off + k * 3, none⟩ = some (.int .i64 x.tag) ∧ w.cell? ⟨b, off + k * 3 + 1, none⟩ = some (.bool x.full) ∧ w.cell? ⟨b, off + k * 3 + 2, none⟩ = some (.int .u32 x.val) :=
  ⟨h.flat_cell sltL_len hx (j := 0) (by omega) rfl, h.flat_cell sltL_len hx (j := 1) (by omega) rfl, h.flat_cell sltL_len hx (j := 2) (by omega) rfl⟩
theorem Row.entS {w : World} {B n c b off : Nat} {l : List Ent} (h : Row w B 5 (.slice (some ⟨b, off, none⟩) n c) n (flat entL l)) {k : Nat} {x : Ent} (hx : l[k]? = some x) :
    w.cell? ⟨b, off + k * 5, none⟩ = some (.int .i64 x.addr) ∧ w.cell? ⟨b, off + k * 5 + 1, none⟩ = some (.int .i64 x.size) ∧ w.cell? ⟨b, off + k * 5 + 2, none⟩ = some (.int .i64 x.step) ∧ w.cell? ⟨b, off + k * 5 + 3, none⟩ = some (.bool x.known) ∧ w.cell? ⟨b, off + k * 5 + 4, none⟩ = some (.int .u32 x.val) :=
  ⟨h.flat_cell entL_len hx (j := 0) (by omega) rfl, h.flat_cell entL_len hx (j := 1) (by omega) rfl, h.flat_cell entL_len hx (j := 2) (by omega) rfl, h.flat_cell entL_len hx (j := 3) (by omega) rfl, h.flat_cell entL_len hx (j := 4) (by omega) rfl⟩
theorem Row.rqsS {w : World} {B n c b off : Nat} {l : List Rqs} (h : Row w B 8 (.slice (some ⟨b, off, none⟩) n c) n (flat rqsL l)) {k : Nat} {x : Rqs} (hx : l[k]? = some x) :
    w.cell? ⟨b, off + k * 8, none⟩ = some (.bool x.store) ∧ w.cell? ⟨b, off + k * 8 + 1, none⟩ = some (.int .i64 x.op) ∧ w.cell? ⟨b, off + k * 8 + 2, none⟩ = some (.int .i64 x.addr) ∧ w.cell? ⟨b, off + k * 8 + 3, none⟩ = some (.int .i64 x.size) ∧ w.cell? ⟨b, off + k * 8 + 4, none⟩ = some (.int .u32 x.val) ∧ w.cell? ⟨b, off + k * 8 + 5, none⟩ = some (.int .i64 x.left) ∧ w.cell? ⟨b, off + k * 8 + 6, none⟩ = some (.int .i64 x.reg) ∧ w.cell? ⟨b, off + k * 8 + 7, none⟩ = some (.int .i64 x.tag) :=
  ⟨h.flat_cell rqsL_len hx (j := 0) (by omega) rfl, h.flat_cell rqsL_len hx (j := 1) (by omega) rfl, h.flat_cell rqsL_len hx (j := 2) (by omega) rfl, h.flat_cell rqsL_len hx (j := 3) (by omega) rfl, h.flat_cell rqsL_len hx (j := 4) (by omega) rfl, h.flat_cell rqsL_len hx (j := 5) (by omega) rfl, h.flat_cell rqsL_len hx (j := 6) (by omega) rfl, h.flat_cell rqsL_len hx (j := 7) (by omega) rfl⟩
theorem Row.wriS {w : World} {B n c b off : Nat} {l : List Wr} (h : Row w B 3 (.slice (some ⟨b, off, none⟩) n c) n (wsL l)) {k : Nat} {x : Wr} (hx : l[k]? = some x) :
    w.cell? ⟨b, off + k * 3, none⟩ = some (.int .i64 x.addr) ∧ w.cell? ⟨b, off + k * 3 + 1, none⟩ = some (.int .i64 x.size) ∧ w.cell? ⟨b, off + k * 3 + 2, none⟩ = some (.int .u32 x.val)  := by
  have g : ∀ j u, j < 3 → (wrL x)[j]? = some u → w.cell? ⟨b, off + k * 3 + j, none⟩ = some u := by
    intro j u hj hu
    have := h.cells ⟨b, off, none⟩ rfl (k * 3 + j) u ((wsL_at l k x hx j hj).trans hu)
    rwa [add_spot, ← Nat.add_assoc] at this
  exact ⟨g 0 _ (by omega) rfl, g 1 _ (by omega) rfl, g 2 _ (by omega) rfl⟩

set_option maxHeartbeats 16000000 in
theorem refSameState_any (x y : Sta) (vx vy : Vs) (w : World) (hx : x.Ok) (hy : y.Ok) (h1 : StaV w w.heap.size vx x) (h2 : StaV w w.heap.size vy y) (f1 : ∀ b ∈ x.mem, 0 ≤ b ∧ b ≤ 255) (f2 : ∀ b ∈ y.mem, 0 ≤ b ∧ b ≤ 255) :
    Calls Try.prog 16 #[.agg (staL x vx).toArray, .agg (staL y vy).toArray] w fun e w' => e = .returned (.bool (decide (x = y))) ∧ Below w.heap.size w w' := by
  obtain ⟨A0, c0, e0⟩ := h1.ldq.form
  obtain ⟨B0, d0, g0⟩ := h2.ldq.form
  obtain ⟨A1, c1, e1⟩ := h1.saq.form
  obtain ⟨B1, d1, g1⟩ := h2.saq.form
  obtain ⟨A2, c2, e2⟩ := h1.table.form
  obtain ⟨B2, d2, g2⟩ := h2.table.form
  obtain ⟨A3, c3, e3⟩ := h1.mem.form
  obtain ⟨B3, d3, g3⟩ := h2.mem.form
  obtain ⟨A4, c4, e4⟩ := h1.ws.form
  obtain ⟨B4, d4, g4⟩ := h2.ws.form
  obtain ⟨A5, c5, e5⟩ := h1.sdq.form
  obtain ⟨B5, d5, g5⟩ := h2.sdq.form
  obtain ⟨A6, c6, e6⟩ := h1.aeq.form
  obtain ⟨B6, d6, g6⟩ := h2.aeq.form
  obtain ⟨A7, c7, e7⟩ := h1.abq.form
  obtain ⟨B7, d7, g7⟩ := h2.abq.form
  obtain ⟨A8, c8, e8⟩ := h1.ebq.form
  obtain ⟨B8, d8, g8⟩ := h2.ebq.form
  obtain ⟨W, hW⟩ : ∃ W, W = (w.alloc (.cells (staL x vx).toArray 44)).alloc (.cells (staL y vy).toArray 44) := ⟨_, rfl⟩
  obtain ⟨bx, bt, bl, hs⟩ := sta_two x y vx vy w hW
  have HX := Lib.hid hx
  have HY := Lib.hid hy
  have BX := Lib.hid bx
  have BY := Lib.hid bt
  have BL := Lib.hid bl
  have F1 := Lib.hid f1
  have F2 := Lib.hid f2
  have EQ := Lib.hid (Sta.eq_iffS x y)
  have HBx := Lib.hid (fun (m : Nat) => (Below.drewN_ bl m : Below w.heap.size w (W.drewN m)))
  have x_cycle := bx.cell (sta_cycle)
  have y_cycle := bt.cell (sta_cycle)
  have x_lats := bx.cell (sta_lats hx)
  have y_lats := bt.cell (sta_lats hy)
  have x_picks := bx.cell (sta_picks hx)
  have y_picks := bt.cell (sta_picks hy)
  have x_tags := bx.cell (sta_tags hx)
  have y_tags := bt.cell (sta_tags hy)
  have x_ldq := bx.cell (sta_ldq hx)
  rw [e0] at x_ldq
  have y_ldq := bt.cell (sta_ldq hy)
  rw [g0] at y_ldq
  have rx_ldq := (h1.ldq.below bl).more bl.size
  rw [e0] at rx_ldq
  have ry_ldq := (h2.ldq.below bl).more bl.size
  rw [g0] at ry_ldq
  obtain ⟨u0, v0⟩ := rx_ldq.cap
  obtain ⟨s0, z0⟩ := ry_ldq.cap
  have RX0 := Lib.hid rx_ldq
  have RY0 := Lib.hid ry_ldq
  clear e0 g0
  have x_saq := bx.cell (sta_saq hx)
  rw [e1] at x_saq
  have y_saq := bt.cell (sta_saq hy)
  rw [g1] at y_saq
  have rx_saq := (h1.saq.below bl).more bl.size
  rw [e1] at rx_saq
  have ry_saq := (h2.saq.below bl).more bl.size
  rw [g1] at ry_saq
  obtain ⟨u1, v1⟩ := rx_saq.cap
  obtain ⟨s1, z1⟩ := ry_saq.cap
  have RX1 := Lib.hid rx_saq
  have RY1 := Lib.hid ry_saq
  clear e1 g1
  have x_table := bx.cell (sta_table hx)
  rw [e2] at x_table
  have y_table := bt.cell (sta_table hy)
  rw [g2] at y_table
  have rx_table := (h1.table.below bl).more bl.size
  rw [e2] at rx_table
  have ry_table := (h2.table.below bl).more bl.size
  rw [g2] at ry_table
  obtain ⟨u2, v2⟩ := rx_table.cap
  obtain ⟨s2, z2⟩ := ry_table.cap
  have RX2 := Lib.hid rx_table
  have RY2 := Lib.hid ry_table
  clear e2 g2
  have x_mem := bx.cell (sta_mem hx)
  rw [e3] at x_mem
  have y_mem := bt.cell (sta_mem hy)
  rw [g3] at y_mem
  have rx_mem := (h1.mem.below bl).more bl.size
  rw [e3] at rx_mem
  have ry_mem := (h2.mem.below bl).more bl.size
  rw [g3] at ry_mem
  obtain ⟨u3, v3⟩ := rx_mem.cap
  obtain ⟨s3, z3⟩ := ry_mem.cap
  have RX3 := Lib.hid rx_mem
  have RY3 := Lib.hid ry_mem
  clear e3 g3
  have x_ws := bx.cell (sta_ws hx)
  rw [e4] at x_ws
  have y_ws := bt.cell (sta_ws hy)
  rw [g4] at y_ws
  have rx_ws := (h1.ws.below bl).more bl.size
  rw [e4] at rx_ws
  have ry_ws := (h2.ws.below bl).more bl.size
  rw [g4] at ry_ws
  obtain ⟨u4, v4⟩ := rx_ws.cap
  obtain ⟨s4, z4⟩ := ry_ws.cap
  have RX4 := Lib.hid rx_ws
  have RY4 := Lib.hid ry_ws
  clear e4 g4
  have x_sdq := bx.cell (sta_sdq hx)
  rw [e5] at x_sdq
  have y_sdq := bt.cell (sta_sdq hy)
  rw [g5] at y_sdq
  have rx_sdq := (h1.sdq.below bl).more bl.size
  rw [e5] at rx_sdq
  have ry_sdq := (h2.sdq.below bl).more bl.size
  rw [g5] at ry_sdq
  obtain ⟨u5, v5⟩ := rx_sdq.cap
  obtain ⟨s5, z5⟩ := ry_sdq.cap
  have RX5 := Lib.hid rx_sdq
  have RY5 := Lib.hid ry_sdq
  clear e5 g5
  have x_aeq := bx.cell (sta_aeq hx)
  rw [e6] at x_aeq
  have y_aeq := bt.cell (sta_aeq hy)
  rw [g6] at y_aeq
  have rx_aeq := (h1.aeq.below bl).more bl.size
  rw [e6] at rx_aeq
  have ry_aeq := (h2.aeq.below bl).more bl.size
  rw [g6] at ry_aeq
  obtain ⟨u6, v6⟩ := rx_aeq.cap
  obtain ⟨s6, z6⟩ := ry_aeq.cap
  have RX6 := Lib.hid rx_aeq
  have RY6 := Lib.hid ry_aeq
  clear e6 g6
  have x_abq := bx.cell (sta_abq hx)
  rw [e7] at x_abq
  have y_abq := bt.cell (sta_abq hy)
  rw [g7] at y_abq
  have rx_abq := (h1.abq.below bl).more bl.size
  rw [e7] at rx_abq
  have ry_abq := (h2.abq.below bl).more bl.size
  rw [g7] at ry_abq
  obtain ⟨u7, v7⟩ := rx_abq.cap
  obtain ⟨s7, z7⟩ := ry_abq.cap
  have RX7 := Lib.hid rx_abq
  have RY7 := Lib.hid ry_abq
  clear e7 g7
  have x_ebq := bx.cell (sta_ebq hx)
  rw [e8] at x_ebq
  have y_ebq := bt.cell (sta_ebq hy)
  rw [g8] at y_ebq
  have rx_ebq := (h1.ebq.below bl).more bl.size
  rw [e8] at rx_ebq
  have ry_ebq := (h2.ebq.below bl).more bl.size
  rw [g8] at ry_ebq
  obtain ⟨u8, v8⟩ := rx_ebq.cap
  obtain ⟨s8, z8⟩ := ry_ebq.cap
  have RX8 := Lib.hid rx_ebq
  have RY8 := Lib.hid ry_ebq
  clear e8 g8
  have v1 := conv_row (P := Try.prog) W 39 5 Try.underlying39 Try.underlying5 (xs := x.mem) rx_mem 9 Try.underlying9
  have v2 := conv_row (P := Try.prog) W 39 5 Try.underlying39 Try.underlying5 (xs := y.mem) ry_mem 9 Try.underlying9
  clear h1 h2 hx hy bx bt bl f1 f2 rx_ldq ry_ldq rx_saq ry_saq rx_table ry_table rx_mem ry_mem rx_ws ry_ws rx_sdq ry_sdq rx_aeq ry_aeq rx_abq ry_abq rx_ebq ry_ebq
  go_enter Try.func16, Try.ntmps16
  go_upto_region 1 with (first | (rw [← hW]; clear hW))
  refine wp_region_list ?_
  iterate 4 (refine list_takeS (v := ?_) (by rfl) ?_ ?_; rotate_left; (go_simp; try (with_reducible rfl)); (try simp only [Act.put, List.setIfInBounds_toArray, List.set_cons_zero, List.set_cons_succ]))
  by_cases t0 : x.cycle = y.cycle
  rotate_left
  · have hres := Lib.hid (show decide (x = y) = false from decide_eq_false (fun h => by have g := EQ.out.1 h; exact t0 g.1))
    have q0 : (x.cycle != y.cycle) = true := by simpa using t0
    clear t0
    iterate 1 (refine list_takeS (v := ?_) (by rfl) ?_ ?_; rotate_left; (go_simp; try (with_reducible rfl)); (try simp only [Act.put, List.setIfInBounds_toArray, List.set_cons_zero, List.set_cons_succ]))
    refine wpList_tail 199 100 true _ [(13, true)] _ (by kernel_rfl) (AgreeB.one rfl) rfl ?_
    intro T hT h100 hTk
    have hT2 : T[100]?.getD undef = .bool true := by rw [h100]; rfl
    clear hTk
    go_wp2_with fail
    refine wp_cond_true (by show T.getD 100 undef = _; rw [Array.getD_eq_getD_getElem?]; exact hT2) ?_
    go_wp2_with fail
    refine bodyPost_ret (v := .bool false) (by rw [results_tmp Try.results16]; show Result.ok ((T.setIfInBounds 4 (.bool false)).getD 4 undef) _ = _; rw [Array.getD_eq_getD_getElem?, Array.getElem?_setIfInBounds_self_of_lt (by omega)]; rfl) rfl ⟨ret_bool hres.out.symm, BL.out⟩
  have q0 : (x.cycle != y.cycle) = false := by simpa using t0
  have T0 := Lib.hid t0
  clear t0
  iterate 1 (refine list_takeS (v := ?_) (by rfl) ?_ ?_; rotate_left; (go_simp; try (with_reducible rfl)); (try simp only [Act.put, List.setIfInBounds_toArray, List.set_cons_zero, List.set_cons_succ]))
  iterate 2 (refine list_takeS (v := ?_) (by rfl) ?_ ?_; rotate_left; (go_simp; try (with_reducible rfl)); (try simp only [Act.put, List.setIfInBounds_toArray, List.set_cons_zero, List.set_cons_succ]))
  refine wpList_load_box (by rfl) 33 (.tmp 15) rfl w.heap.size 1 rfl (staL x vx) (sidL x.a) BX.out (fun j u hu => staL_a HX.out hu) _ Try.underlying33 rfl 38 (by kernel_rfl) (sidL_len HX.out.a) ?_
  (try simp only [Act.put, List.setIfInBounds_toArray, List.set_cons_zero, List.set_cons_succ])
  iterate 1 (refine list_takeS (v := ?_) (by rfl) ?_ ?_; rotate_left; (go_simp; try (with_reducible rfl)); (try simp only [Act.put, List.setIfInBounds_toArray, List.set_cons_zero, List.set_cons_succ]))
  refine wpList_load_box (by rfl) 33 (.tmp 17) rfl (w.heap.size + 1) 1 rfl (staL y vy) (sidL y.a) BY.out (fun j u hu => staL_a HY.out hu) _ Try.underlying33 rfl 38 (by kernel_rfl) (sidL_len HY.out.a) ?_
  (try simp only [Act.put, List.setIfInBounds_toArray, List.set_cons_zero, List.set_cons_succ])
  by_cases t1 : x.a = y.a
  rotate_left
  · have hres := Lib.hid (show decide (x = y) = false from decide_eq_false (fun h => by have g := EQ.out.1 h; exact t1 g.2.1))
    have q1 := neqS_sid x.a y.a HX.out.a HY.out.a W
    rw [decide_eq_false t1] at q1
    simp only [Bool.not_true, Bool.not_false] at q1
    clear t1
    refine list_takeS (v := .bool true) (by rfl) (exec_neqS rfl rfl rfl (by kernel_rfl) q1) ?_
    (try simp only [Act.put, List.setIfInBounds_toArray, List.set_cons_zero, List.set_cons_succ])
    iterate 1 (refine list_takeS (v := ?_) (by rfl) ?_ ?_; rotate_left; (go_simp; try (with_reducible rfl)); (try simp only [Act.put, List.setIfInBounds_toArray, List.set_cons_zero, List.set_cons_succ]))
    refine wpList_tail 199 100 true _ [(20, true)] _ (by kernel_rfl) (AgreeB.one rfl) rfl ?_
    intro T hT h100 hTk
    have hT2 : T[100]?.getD undef = .bool true := by rw [h100]; rfl
    clear hTk
    go_wp2_with fail
    refine wp_cond_true (by show T.getD 100 undef = _; rw [Array.getD_eq_getD_getElem?]; exact hT2) ?_
    go_wp2_with fail
    refine bodyPost_ret (v := .bool false) (by rw [results_tmp Try.results16]; show Result.ok ((T.setIfInBounds 4 (.bool false)).getD 4 undef) _ = _; rw [Array.getD_eq_getD_getElem?, Array.getElem?_setIfInBounds_self_of_lt (by omega)]; rfl) rfl ⟨ret_bool hres.out.symm, BL.out⟩
  have q1 := neqS_sid x.a y.a HX.out.a HY.out.a W
  rw [decide_eq_true t1] at q1
  simp only [Bool.not_true, Bool.not_false] at q1
  have T1 := Lib.hid t1
  clear t1
  refine list_takeS (v := .bool false) (by rfl) (exec_neqS rfl rfl rfl (by kernel_rfl) q1) ?_
  (try simp only [Act.put, List.setIfInBounds_toArray, List.set_cons_zero, List.set_cons_succ])
  iterate 1 (refine list_takeS (v := ?_) (by rfl) ?_ ?_; rotate_left; (go_simp; try (with_reducible rfl)); (try simp only [Act.put, List.setIfInBounds_toArray, List.set_cons_zero, List.set_cons_succ]))
  iterate 2 (refine list_takeS (v := ?_) (by rfl) ?_ ?_; rotate_left; (go_simp; try (with_reducible rfl)); (try simp only [Act.put, List.setIfInBounds_toArray, List.set_cons_zero, List.set_cons_succ]))
  refine wpList_load_box (by rfl) 33 (.tmp 22) rfl w.heap.size 39 rfl (staL x vx) (sidL x.e) BX.out (fun j u hu => staL_e HX.out hu) _ Try.underlying33 rfl 38 (by kernel_rfl) (sidL_len HX.out.e) ?_
  (try simp only [Act.put, List.setIfInBounds_toArray, List.set_cons_zero, List.set_cons_succ])
  iterate 1 (refine list_takeS (v := ?_) (by rfl) ?_ ?_; rotate_left; (go_simp; try (with_reducible rfl)); (try simp only [Act.put, List.setIfInBounds_toArray, List.set_cons_zero, List.set_cons_succ]))
  refine wpList_load_box (by rfl) 33 (.tmp 24) rfl (w.heap.size + 1) 39 rfl (staL y vy) (sidL y.e) BY.out (fun j u hu => staL_e HY.out hu) _ Try.underlying33 rfl 38 (by kernel_rfl) (sidL_len HY.out.e) ?_
  (try simp only [Act.put, List.setIfInBounds_toArray, List.set_cons_zero, List.set_cons_succ])
  by_cases t2 : x.e = y.e
  rotate_left
  · have hres := Lib.hid (show decide (x = y) = false from decide_eq_false (fun h => by have g := EQ.out.1 h; exact t2 g.2.2.1))
    have q2 := neqS_sid x.e y.e HX.out.e HY.out.e W
    rw [decide_eq_false t2] at q2
    simp only [Bool.not_true, Bool.not_false] at q2
    clear t2
    refine list_takeS (v := .bool true) (by rfl) (exec_neqS rfl rfl rfl (by kernel_rfl) q2) ?_
    (try simp only [Act.put, List.setIfInBounds_toArray, List.set_cons_zero, List.set_cons_succ])
    iterate 1 (refine list_takeS (v := ?_) (by rfl) ?_ ?_; rotate_left; (go_simp; try (with_reducible rfl)); (try simp only [Act.put, List.setIfInBounds_toArray, List.set_cons_zero, List.set_cons_succ]))
    refine wpList_tail 199 100 true _ [(27, true)] _ (by kernel_rfl) (AgreeB.one rfl) rfl ?_
    intro T hT h100 hTk
    have hT2 : T[100]?.getD undef = .bool true := by rw [h100]; rfl
    clear hTk
    go_wp2_with fail
    refine wp_cond_true (by show T.getD 100 undef = _; rw [Array.getD_eq_getD_getElem?]; exact hT2) ?_
    go_wp2_with fail
    refine bodyPost_ret (v := .bool false) (by rw [results_tmp Try.results16]; show Result.ok ((T.setIfInBounds 4 (.bool false)).getD 4 undef) _ = _; rw [Array.getD_eq_getD_getElem?, Array.getElem?_setIfInBounds_self_of_lt (by omega)]; rfl) rfl ⟨ret_bool hres.out.symm, BL.out⟩
  have q2 := neqS_sid x.e y.e HX.out.e HY.out.e W
  rw [decide_eq_true t2] at q2
  simp only [Bool.not_true, Bool.not_false] at q2
  have T2 := Lib.hid t2
  clear t2
  refine list_takeS (v := .bool false) (by rfl) (exec_neqS rfl rfl rfl (by kernel_rfl) q2) ?_
  (try simp only [Act.put, List.setIfInBounds_toArray, List.set_cons_zero, List.set_cons_succ])
  iterate 1 (refine list_takeS (v := ?_) (by rfl) ?_ ?_; rotate_left; (go_simp; try (with_reducible rfl)); (try simp only [Act.put, List.setIfInBounds_toArray, List.set_cons_zero, List.set_cons_succ]))
  iterate 2 (refine list_takeS (v := ?_) (by rfl) ?_ ?_; rotate_left; (go_simp; try (with_reducible rfl)); (try simp only [Act.put, List.setIfInBounds_toArray, List.set_cons_zero, List.set_cons_succ]))
  refine wpList_load_box (by rfl) 42 (.tmp 29) rfl w.heap.size 86 rfl (staL x vx) [.int .i64 x.tk, .int .i64 x.ts, .int .i64 x.tp] BX.out (sta_trapS HX.out) _ Try.underlying42 rfl 3 (by kernel_rfl) rfl ?_
  (try simp only [Act.put, List.setIfInBounds_toArray, List.set_cons_zero, List.set_cons_succ])
  iterate 1 (refine list_takeS (v := ?_) (by rfl) ?_ ?_; rotate_left; (go_simp; try (with_reducible rfl)); (try simp only [Act.put, List.setIfInBounds_toArray, List.set_cons_zero, List.set_cons_succ]))
  refine wpList_load_box (by rfl) 42 (.tmp 31) rfl (w.heap.size + 1) 86 rfl (staL y vy) [.int .i64 y.tk, .int .i64 y.ts, .int .i64 y.tp] BY.out (sta_trapS HY.out) _ Try.underlying42 rfl 3 (by kernel_rfl) rfl ?_
  (try simp only [Act.put, List.setIfInBounds_toArray, List.set_cons_zero, List.set_cons_succ])
  by_cases t3 : x.tk = y.tk ∧ x.ts = y.ts ∧ x.tp = y.tp
  rotate_left
  · have hres := Lib.hid (show decide (x = y) = false from decide_eq_false (fun h => by have g := EQ.out.1 h; exact t3 g.2.2.2.1))
    have q3 := neqS_trap x.tk x.ts x.tp y.tk y.ts y.tp W
    rw [decide_eq_false t3] at q3
    simp only [Bool.not_true, Bool.not_false] at q3
    clear t3
    refine list_takeS (v := .bool true) (by rfl) (exec_neqS rfl rfl rfl (by kernel_rfl) q3) ?_
    (try simp only [Act.put, List.setIfInBounds_toArray, List.set_cons_zero, List.set_cons_succ])
    iterate 1 (refine list_takeS (v := ?_) (by rfl) ?_ ?_; rotate_left; (go_simp; try (with_reducible rfl)); (try simp only [Act.put, List.setIfInBounds_toArray, List.set_cons_zero, List.set_cons_succ]))
    refine wpList_tail 199 100 true _ [(34, true)] _ (by kernel_rfl) (AgreeB.one rfl) rfl ?_
    intro T hT h100 hTk
    have hT2 : T[100]?.getD undef = .bool true := by rw [h100]; rfl
    clear hTk
    go_wp2_with fail
    refine wp_cond_true (by show T.getD 100 undef = _; rw [Array.getD_eq_getD_getElem?]; exact hT2) ?_
    go_wp2_with fail
    refine bodyPost_ret (v := .bool false) (by rw [results_tmp Try.results16]; show Result.ok ((T.setIfInBounds 4 (.bool false)).getD 4 undef) _ = _; rw [Array.getD_eq_getD_getElem?, Array.getElem?_setIfInBounds_self_of_lt (by omega)]; rfl) rfl ⟨ret_bool hres.out.symm, BL.out⟩
  have q3 := neqS_trap x.tk x.ts x.tp y.tk y.ts y.tp W
  rw [decide_eq_true t3] at q3
  simp only [Bool.not_true, Bool.not_false] at q3
  have T3 := Lib.hid t3
  clear t3
  refine list_takeS (v := .bool false) (by rfl) (exec_neqS rfl rfl rfl (by kernel_rfl) q3) ?_
  (try simp only [Act.put, List.setIfInBounds_toArray, List.set_cons_zero, List.set_cons_succ])
  iterate 1 (refine list_takeS (v := ?_) (by rfl) ?_ ?_; rotate_left; (go_simp; try (with_reducible rfl)); (try simp only [Act.put, List.setIfInBounds_toArray, List.set_cons_zero, List.set_cons_succ]))
  iterate 5 (refine list_takeS (v := ?_) (by rfl) ?_ ?_; rotate_left; (go_simp; try (with_reducible rfl)); (try simp only [Act.put, List.setIfInBounds_toArray, List.set_cons_zero, List.set_cons_succ]))
  by_cases t4 : x.lats = y.lats
  rotate_left
  · have hres := Lib.hid (show decide (x = y) = false from decide_eq_false (fun h => by have g := EQ.out.1 h; exact t4 g.2.2.2.2.1))
    have q4 : (x.lats != y.lats) = true := by simpa using t4
    clear t4
    iterate 2 (refine list_takeS (v := ?_) (by rfl) ?_ ?_; rotate_left; (go_simp; try (with_reducible rfl)); (try simp only [Act.put, List.setIfInBounds_toArray, List.set_cons_zero, List.set_cons_succ]))
    refine wpList_tail 199 100 true _ [(41, true)] _ (by kernel_rfl) (AgreeB.one rfl) rfl ?_
    intro T hT h100 hTk
    have hT2 : T[100]?.getD undef = .bool true := by rw [h100]; rfl
    clear hTk
    go_wp2_with fail
    refine wp_cond_true (by show T.getD 100 undef = _; rw [Array.getD_eq_getD_getElem?]; exact hT2) ?_
    go_wp2_with fail
    refine bodyPost_ret (v := .bool false) (by rw [results_tmp Try.results16]; show Result.ok ((T.setIfInBounds 4 (.bool false)).getD 4 undef) _ = _; rw [Array.getD_eq_getD_getElem?, Array.getElem?_setIfInBounds_self_of_lt (by omega)]; rfl) rfl ⟨ret_bool hres.out.symm, BL.out⟩
  have q4 : (x.lats != y.lats) = false := by simpa using t4
  have T4 := Lib.hid t4
  clear t4
  iterate 2 (refine list_takeS (v := ?_) (by rfl) ?_ ?_; rotate_left; (go_simp; try (with_reducible rfl)); (try simp only [Act.put, List.setIfInBounds_toArray, List.set_cons_zero, List.set_cons_succ]))
  iterate 5 (refine list_takeS (v := ?_) (by rfl) ?_ ?_; rotate_left; (go_simp; try (with_reducible rfl)); (try simp only [Act.put, List.setIfInBounds_toArray, List.set_cons_zero, List.set_cons_succ]))
  by_cases t5 : x.picks = y.picks
  rotate_left
  · have hres := Lib.hid (show decide (x = y) = false from decide_eq_false (fun h => by have g := EQ.out.1 h; exact t5 g.2.2.2.2.2.1))
    have q5 : (x.picks != y.picks) = true := by simpa using t5
    clear t5
    iterate 2 (refine list_takeS (v := ?_) (by rfl) ?_ ?_; rotate_left; (go_simp; try (with_reducible rfl)); (try simp only [Act.put, List.setIfInBounds_toArray, List.set_cons_zero, List.set_cons_succ]))
    refine wpList_tail 199 100 true _ [(48, true)] _ (by kernel_rfl) (AgreeB.one rfl) rfl ?_
    intro T hT h100 hTk
    have hT2 : T[100]?.getD undef = .bool true := by rw [h100]; rfl
    clear hTk
    go_wp2_with fail
    refine wp_cond_true (by show T.getD 100 undef = _; rw [Array.getD_eq_getD_getElem?]; exact hT2) ?_
    go_wp2_with fail
    refine bodyPost_ret (v := .bool false) (by rw [results_tmp Try.results16]; show Result.ok ((T.setIfInBounds 4 (.bool false)).getD 4 undef) _ = _; rw [Array.getD_eq_getD_getElem?, Array.getElem?_setIfInBounds_self_of_lt (by omega)]; rfl) rfl ⟨ret_bool hres.out.symm, BL.out⟩
  have q5 : (x.picks != y.picks) = false := by simpa using t5
  have T5 := Lib.hid t5
  clear t5
  iterate 2 (refine list_takeS (v := ?_) (by rfl) ?_ ?_; rotate_left; (go_simp; try (with_reducible rfl)); (try simp only [Act.put, List.setIfInBounds_toArray, List.set_cons_zero, List.set_cons_succ]))
  iterate 5 (refine list_takeS (v := ?_) (by rfl) ?_ ?_; rotate_left; (go_simp; try (with_reducible rfl)); (try simp only [Act.put, List.setIfInBounds_toArray, List.set_cons_zero, List.set_cons_succ]))
  by_cases t6 : x.tags = y.tags
  rotate_left
  · have hres := Lib.hid (show decide (x = y) = false from decide_eq_false (fun h => by have g := EQ.out.1 h; exact t6 g.2.2.2.2.2.2.1))
    have q6 : (x.tags != y.tags) = true := by simpa using t6
    clear t6
    iterate 2 (refine list_takeS (v := ?_) (by rfl) ?_ ?_; rotate_left; (go_simp; try (with_reducible rfl)); (try simp only [Act.put, List.setIfInBounds_toArray, List.set_cons_zero, List.set_cons_succ]))
    refine wpList_tail 199 100 true _ [(55, true)] _ (by kernel_rfl) (AgreeB.one rfl) rfl ?_
    intro T hT h100 hTk
    have hT2 : T[100]?.getD undef = .bool true := by rw [h100]; rfl
    clear hTk
    go_wp2_with fail
    refine wp_cond_true (by show T.getD 100 undef = _; rw [Array.getD_eq_getD_getElem?]; exact hT2) ?_
    go_wp2_with fail
    refine bodyPost_ret (v := .bool false) (by rw [results_tmp Try.results16]; show Result.ok ((T.setIfInBounds 4 (.bool false)).getD 4 undef) _ = _; rw [Array.getD_eq_getD_getElem?, Array.getElem?_setIfInBounds_self_of_lt (by omega)]; rfl) rfl ⟨ret_bool hres.out.symm, BL.out⟩
  have q6 : (x.tags != y.tags) = false := by simpa using t6
  have T6 := Lib.hid t6
  clear t6
  iterate 2 (refine list_takeS (v := ?_) (by rfl) ?_ ?_; rotate_left; (go_simp; try (with_reducible rfl)); (try simp only [Act.put, List.setIfInBounds_toArray, List.set_cons_zero, List.set_cons_succ]))
  iterate 7 (refine list_takeS (v := ?_) (by rfl) ?_ ?_; rotate_left; (go_simp; try (with_reducible rfl)); (try simp only [Act.put, List.setIfInBounds_toArray, List.set_cons_zero, List.set_cons_succ]))
  by_cases t7 : x.mem = y.mem
  rotate_left
  · have hres := Lib.hid (show decide (x = y) = false from decide_eq_false (fun h => by have g := EQ.out.1 h; exact t7 g.2.2.2.2.2.2.2.1))
    have q7 := str_eq F1.out F2.out
    rw [decide_eq_false t7] at q7
    clear t7
    iterate 2 (refine list_takeS (v := ?_) (by rfl) ?_ ?_; rotate_left; (go_simp; try (with_reducible rfl)); (try simp only [Act.put, List.setIfInBounds_toArray, List.set_cons_zero, List.set_cons_succ]))
    refine wpList_tail 199 100 true _ [(64, true)] _ (by kernel_rfl) (AgreeB.one rfl) rfl ?_
    intro T hT h100 hTk
    have hT2 : T[100]?.getD undef = .bool true := by rw [h100]; rfl
    clear hTk
    go_wp2_with fail
    refine wp_cond_true (by show T.getD 100 undef = _; rw [Array.getD_eq_getD_getElem?]; exact hT2) ?_
    go_wp2_with fail
    refine bodyPost_ret (v := .bool false) (by rw [results_tmp Try.results16]; show Result.ok ((T.setIfInBounds 4 (.bool false)).getD 4 undef) _ = _; rw [Array.getD_eq_getD_getElem?, Array.getElem?_setIfInBounds_self_of_lt (by omega)]; rfl) rfl ⟨ret_bool hres.out.symm, BL.out⟩
  have q7 := str_eq F1.out F2.out
  rw [decide_eq_true t7] at q7
  have T7 := Lib.hid t7
  clear t7
  iterate 2 (refine list_takeS (v := ?_) (by rfl) ?_ ?_; rotate_left; (go_simp; try (with_reducible rfl)); (try simp only [Act.put, List.setIfInBounds_toArray, List.set_cons_zero, List.set_cons_succ]))
  iterate 7 (refine list_takeS (v := ?_) (by rfl) ?_ ?_; rotate_left; (go_simp; try (with_reducible rfl)); (try simp only [Act.put, List.setIfInBounds_toArray, List.set_cons_zero, List.set_cons_succ]))
  by_cases t8 : x.ldq.length = y.ldq.length
  rotate_left
  · have hres := Lib.hid (show decide (x = y) = false from decide_eq_false (fun h => by have g := EQ.out.1 h; exact t8 (by rw [(show x.ldq = y.ldq from g.2.2.2.2.2.2.2.2.1)])))
    have q8 : ((x.ldq.length : Int) != y.ldq.length) = true := by simp; omega
    clear t8
    iterate 2 (refine list_takeS (v := ?_) (by rfl) ?_ ?_; rotate_left; (go_simp; try (with_reducible rfl)); (try simp only [Act.put, List.setIfInBounds_toArray, List.set_cons_zero, List.set_cons_succ]))
    refine wpList_tail 199 100 true _ [(73, true)] _ (by kernel_rfl) (AgreeB.one rfl) rfl ?_
    intro T hT h100 hTk
    have hT2 : T[100]?.getD undef = .bool true := by rw [h100]; rfl
    clear hTk
    go_wp2_with fail
    refine wp_cond_true (by show T.getD 100 undef = _; rw [Array.getD_eq_getD_getElem?]; exact hT2) ?_
    go_wp2_with fail
    refine bodyPost_ret (v := .bool false) (by rw [results_tmp Try.results16]; show Result.ok ((T.setIfInBounds 4 (.bool false)).getD 4 undef) _ = _; rw [Array.getD_eq_getD_getElem?, Array.getElem?_setIfInBounds_self_of_lt (by omega)]; rfl) rfl ⟨ret_bool hres.out.symm, BL.out⟩
  have q8 : ((x.ldq.length : Int) != y.ldq.length) = false := by simp; omega
  have T8 := Lib.hid t8
  clear t8
  iterate 2 (refine list_takeS (v := ?_) (by rfl) ?_ ?_; rotate_left; (go_simp; try (with_reducible rfl)); (try simp only [Act.put, List.setIfInBounds_toArray, List.set_cons_zero, List.set_cons_succ]))
  iterate 7 (refine list_takeS (v := ?_) (by rfl) ?_ ?_; rotate_left; (go_simp; try (with_reducible rfl)); (try simp only [Act.put, List.setIfInBounds_toArray, List.set_cons_zero, List.set_cons_succ]))
  by_cases t9 : x.saq.length = y.saq.length
  rotate_left
  · have hres := Lib.hid (show decide (x = y) = false from decide_eq_false (fun h => by have g := EQ.out.1 h; exact t9 (by rw [(show x.saq = y.saq from g.2.2.2.2.2.2.2.2.2.1)])))
    have q9 : ((x.saq.length : Int) != y.saq.length) = true := by simp; omega
    clear t9
    iterate 2 (refine list_takeS (v := ?_) (by rfl) ?_ ?_; rotate_left; (go_simp; try (with_reducible rfl)); (try simp only [Act.put, List.setIfInBounds_toArray, List.set_cons_zero, List.set_cons_succ]))
    refine wpList_tail 199 100 true _ [(82, true)] _ (by kernel_rfl) (AgreeB.one rfl) rfl ?_
    intro T hT h100 hTk
    have hT2 : T[100]?.getD undef = .bool true := by rw [h100]; rfl
    clear hTk
    go_wp2_with fail
    refine wp_cond_true (by show T.getD 100 undef = _; rw [Array.getD_eq_getD_getElem?]; exact hT2) ?_
    go_wp2_with fail
    refine bodyPost_ret (v := .bool false) (by rw [results_tmp Try.results16]; show Result.ok ((T.setIfInBounds 4 (.bool false)).getD 4 undef) _ = _; rw [Array.getD_eq_getD_getElem?, Array.getElem?_setIfInBounds_self_of_lt (by omega)]; rfl) rfl ⟨ret_bool hres.out.symm, BL.out⟩
  have q9 : ((x.saq.length : Int) != y.saq.length) = false := by simp; omega
  have T9 := Lib.hid t9
  clear t9
  iterate 2 (refine list_takeS (v := ?_) (by rfl) ?_ ?_; rotate_left; (go_simp; try (with_reducible rfl)); (try simp only [Act.put, List.setIfInBounds_toArray, List.set_cons_zero, List.set_cons_succ]))
  iterate 7 (refine list_takeS (v := ?_) (by rfl) ?_ ?_; rotate_left; (go_simp; try (with_reducible rfl)); (try simp only [Act.put, List.setIfInBounds_toArray, List.set_cons_zero, List.set_cons_succ]))
  by_cases t10 : x.table.length = y.table.length
  rotate_left
  · have hres := Lib.hid (show decide (x = y) = false from decide_eq_false (fun h => by have g := EQ.out.1 h; exact t10 (by rw [(show x.table = y.table from g.2.2.2.2.2.2.2.2.2.2.1)])))
    have q10 : ((x.table.length : Int) != y.table.length) = true := by simp; omega
    clear t10
    iterate 2 (refine list_takeS (v := ?_) (by rfl) ?_ ?_; rotate_left; (go_simp; try (with_reducible rfl)); (try simp only [Act.put, List.setIfInBounds_toArray, List.set_cons_zero, List.set_cons_succ]))
    refine wpList_tail 199 100 true _ [(91, true)] _ (by kernel_rfl) (AgreeB.one rfl) rfl ?_
    intro T hT h100 hTk
    have hT2 : T[100]?.getD undef = .bool true := by rw [h100]; rfl
    clear hTk
    go_wp2_with fail
    refine wp_cond_true (by show T.getD 100 undef = _; rw [Array.getD_eq_getD_getElem?]; exact hT2) ?_
    go_wp2_with fail
    refine bodyPost_ret (v := .bool false) (by rw [results_tmp Try.results16]; show Result.ok ((T.setIfInBounds 4 (.bool false)).getD 4 undef) _ = _; rw [Array.getD_eq_getD_getElem?, Array.getElem?_setIfInBounds_self_of_lt (by omega)]; rfl) rfl ⟨ret_bool hres.out.symm, BL.out⟩
  have q10 : ((x.table.length : Int) != y.table.length) = false := by simp; omega
  have T10 := Lib.hid t10
  clear t10
  iterate 2 (refine list_takeS (v := ?_) (by rfl) ?_ ?_; rotate_left; (go_simp; try (with_reducible rfl)); (try simp only [Act.put, List.setIfInBounds_toArray, List.set_cons_zero, List.set_cons_succ]))
  iterate 7 (refine list_takeS (v := ?_) (by rfl) ?_ ?_; rotate_left; (go_simp; try (with_reducible rfl)); (try simp only [Act.put, List.setIfInBounds_toArray, List.set_cons_zero, List.set_cons_succ]))
  by_cases t11 : x.ws.length = y.ws.length
  rotate_left
  · have hres := Lib.hid (show decide (x = y) = false from decide_eq_false (fun h => by have g := EQ.out.1 h; exact t11 (by rw [(show x.ws = y.ws from g.2.2.2.2.2.2.2.2.2.2.2.1)])))
    have q11 : ((x.ws.length : Int) != y.ws.length) = true := by simp; omega
    clear t11
    iterate 2 (refine list_takeS (v := ?_) (by rfl) ?_ ?_; rotate_left; (go_simp; try (with_reducible rfl)); (try simp only [Act.put, List.setIfInBounds_toArray, List.set_cons_zero, List.set_cons_succ]))
    refine wpList_tail 199 100 true _ [(100, true)] _ (by kernel_rfl) (AgreeB.one rfl) rfl ?_
    intro T hT h100 hTk
    have hT2 : T[100]?.getD undef = .bool true := by rw [h100]; rfl
    clear hTk
    go_wp2_with fail
    refine wp_cond_true (by show T.getD 100 undef = _; rw [Array.getD_eq_getD_getElem?]; exact hT2) ?_
    go_wp2_with fail
    refine bodyPost_ret (v := .bool false) (by rw [results_tmp Try.results16]; show Result.ok ((T.setIfInBounds 4 (.bool false)).getD 4 undef) _ = _; rw [Array.getD_eq_getD_getElem?, Array.getElem?_setIfInBounds_self_of_lt (by omega)]; rfl) rfl ⟨ret_bool hres.out.symm, BL.out⟩
  have q11 : ((x.ws.length : Int) != y.ws.length) = false := by simp; omega
  have T11 := Lib.hid t11
  clear t11
  iterate 2 (refine list_takeS (v := ?_) (by rfl) ?_ ?_; rotate_left; (go_simp; try (with_reducible rfl)); (try simp only [Act.put, List.setIfInBounds_toArray, List.set_cons_zero, List.set_cons_succ]))
  clear v1 v2 q0 q1 q2 q3 q4 q5 q6 q7 q8 q9 q10 q11
  go_wp2_with fail
  have HZ0 := Lib.hid (show (x.ldq = y.ldq) ↔ (x.ldq.drop 0 = y.ldq.drop 0) by rw [List.drop_zero, List.drop_zero])
  have m0 : (x.ldq.length : Int) ≤ 9223372036854775807 := by omega
  go_loopw [5] (fun i wr => ∃ j m : Nat, j ≤ x.ldq.length ∧ i = .int .i64 j ∧ wr = W.drewN m ∧ ((x.ldq = y.ldq) ↔ (x.ldq.drop j = y.ldq.drop j))) (fun i _ => x.ldq.length - (intOf i).toNat)
  case atStart => exact ⟨0, 0, Nat.zero_le _, rfl, rfl, HZ0.out⟩
  case round =>
    obtain ⟨j, m, hj, rfl, rfl, hT⟩ := hrel
    have HT := Lib.hid hT
    clear hT
    by_cases hlt : j < x.ldq.length
    · obtain ⟨b1, o1, rfl, _, _⟩ := RX0.out.at_ (by omega)
      obtain ⟨b2, o2, rfl, _, _⟩ := RY0.out.at_ (by have := T8.out; omega)
      obtain ⟨a, ha⟩ := at_someS hlt
      obtain ⟨b, hb⟩ := at_someS (l := y.ldq) (show j < y.ldq.length by have := T8.out; omega)
      have hs := Lib.hid (drop_someS ha hb)
      obtain ⟨a0, a1, a2⟩ := RX0.out.sltS ha
      obtain ⟨b0x, b1x, b2x⟩ := RY0.out.sltS hb
      have k0 : (0 : Int) ≤ j := by omega
      have k1 : (j : Int) < x.ldq.length := by omega
      have k2 : (j : Int) < y.ldq.length := by have := T8.out; omega
      clear ha hb
      have q := neqS_slt a b
      by_cases hab : a = b
      · subst hab
        rw [decide_eq_true rfl] at q
        have hres := Lib.hid (show (x.ldq = y.ldq) ↔ (x.ldq.drop (j + 1) = y.ldq.drop (j + 1)) by rw [HT.out, hs.out]; simp)
        go_wp2_with fail
        go_quiet (fail)
        go_wp2_with fail
        go_roundw
        case rel => exact ⟨j + 1, _, by omega, by go_num, rfl, hres.out⟩
        case measure => simp only [intOf]; omega
      · rw [decide_eq_false hab] at q
        have hres := Lib.hid (show decide (x = y) = false from decide_eq_false (fun h => by have g := EQ.out.1 h; exact hab (hs.out.1 (HT.out.1 g.2.2.2.2.2.2.2.2.1)).1))
        clear hab
        go_wp2_with fail
        go_quiet (fail)
        go_wp2_with fail
        go_ret
        exact ⟨ret_bool hres.out.symm, Below.drewN_ (HBx.out m) _⟩
    · have E0 := Lib.hid (show x.ldq = y.ldq by rw [HT.out, List.drop_eq_nil_of_le (by omega), List.drop_eq_nil_of_le (show y.ldq.length ≤ j by have := T8.out; omega)])
      have k1 : ¬ (j : Int) < x.ldq.length := by omega
      clear HT hj hlt
      go_wp2_with fail
      have HZ1 := Lib.hid (show (x.saq = y.saq) ↔ (x.saq.drop 0 = y.saq.drop 0) by rw [List.drop_zero, List.drop_zero])
      have m1 : (x.saq.length : Int) ≤ 9223372036854775807 := by omega
      go_loopw [6] (fun i wr => ∃ j m : Nat, j ≤ x.saq.length ∧ i = .int .i64 j ∧ wr = W.drewN m ∧ ((x.saq = y.saq) ↔ (x.saq.drop j = y.saq.drop j))) (fun i _ => x.saq.length - (intOf i).toNat)
      case atStart => exact ⟨0, _, Nat.zero_le _, rfl, rfl, HZ1.out⟩
      case round =>
        obtain ⟨j, m, hj, rfl, rfl, hT⟩ := hrel
        have HT := Lib.hid hT
        clear hT
        by_cases hlt : j < x.saq.length
        · obtain ⟨b1, o1, rfl, _, _⟩ := RX1.out.at_ (by omega)
          obtain ⟨b2, o2, rfl, _, _⟩ := RY1.out.at_ (by have := T9.out; omega)
          obtain ⟨a, ha⟩ := at_someS hlt
          obtain ⟨b, hb⟩ := at_someS (l := y.saq) (show j < y.saq.length by have := T9.out; omega)
          have hs := Lib.hid (drop_someS ha hb)
          obtain ⟨a0, a1, a2, a3, a4⟩ := RX1.out.entS ha
          obtain ⟨b0x, b1x, b2x, b3x, b4x⟩ := RY1.out.entS hb
          have k0 : (0 : Int) ≤ j := by omega
          have k1 : (j : Int) < x.saq.length := by omega
          have k2 : (j : Int) < y.saq.length := by have := T9.out; omega
          clear ha hb
          have q := neqS_ent a b
          by_cases hab : a = b
          · subst hab
            rw [decide_eq_true rfl] at q
            have hres := Lib.hid (show (x.saq = y.saq) ↔ (x.saq.drop (j + 1) = y.saq.drop (j + 1)) by rw [HT.out, hs.out]; simp)
            go_wp2_with fail
            go_quiet (fail)
            go_wp2_with fail
            go_roundw
            case rel => exact ⟨j + 1, _, by omega, by go_num, rfl, hres.out⟩
            case measure => simp only [intOf]; omega
          · rw [decide_eq_false hab] at q
            have hres := Lib.hid (show decide (x = y) = false from decide_eq_false (fun h => by have g := EQ.out.1 h; exact hab (hs.out.1 (HT.out.1 g.2.2.2.2.2.2.2.2.2.1)).1))
            clear hab
            go_wp2_with fail
            go_quiet (fail)
            go_wp2_with fail
            go_ret
            exact ⟨ret_bool hres.out.symm, Below.drewN_ (HBx.out m) _⟩
        · have E1 := Lib.hid (show x.saq = y.saq by rw [HT.out, List.drop_eq_nil_of_le (by omega), List.drop_eq_nil_of_le (show y.saq.length ≤ j by have := T9.out; omega)])
          have k1 : ¬ (j : Int) < x.saq.length := by omega
          clear HT hj hlt
          go_wp2_with fail
          have HZ2 := Lib.hid (show (x.table = y.table) ↔ (x.table.drop 0 = y.table.drop 0) by rw [List.drop_zero, List.drop_zero])
          have m2 : (x.table.length : Int) ≤ 9223372036854775807 := by omega
          go_loopw [7] (fun i wr => ∃ j m : Nat, j ≤ x.table.length ∧ i = .int .i64 j ∧ wr = W.drewN m ∧ ((x.table = y.table) ↔ (x.table.drop j = y.table.drop j))) (fun i _ => x.table.length - (intOf i).toNat)
          case atStart => exact ⟨0, _, Nat.zero_le _, rfl, rfl, HZ2.out⟩
          case round =>
            obtain ⟨j, m, hj, rfl, rfl, hT⟩ := hrel
            have HT := Lib.hid hT
            clear hT
            by_cases hlt : j < x.table.length
            · obtain ⟨b1, o1, rfl, _, _⟩ := RX2.out.at_ (by omega)
              obtain ⟨b2, o2, rfl, _, _⟩ := RY2.out.at_ (by have := T10.out; omega)
              obtain ⟨a, ha⟩ := at_someS hlt
              obtain ⟨b, hb⟩ := at_someS (l := y.table) (show j < y.table.length by have := T10.out; omega)
              have hs := Lib.hid (drop_someS ha hb)
              obtain ⟨a0, a1, a2, a3, a4, a5, a6, a7⟩ := RX2.out.rqsS ha
              obtain ⟨b0x, b1x, b2x, b3x, b4x, b5x, b6x, b7x⟩ := RY2.out.rqsS hb
              have k0 : (0 : Int) ≤ j := by omega
              have k1 : (j : Int) < x.table.length := by omega
              have k2 : (j : Int) < y.table.length := by have := T10.out; omega
              clear ha hb
              have q := neqS_rqs a b
              by_cases hab : a = b
              · subst hab
                rw [decide_eq_true rfl] at q
                have hres := Lib.hid (show (x.table = y.table) ↔ (x.table.drop (j + 1) = y.table.drop (j + 1)) by rw [HT.out, hs.out]; simp)
                go_wp2_with fail
                go_quiet (fail)
                go_wp2_with fail
                go_roundw
                case rel => exact ⟨j + 1, _, by omega, by go_num, rfl, hres.out⟩
                case measure => simp only [intOf]; omega
              · rw [decide_eq_false hab] at q
                have hres := Lib.hid (show decide (x = y) = false from decide_eq_false (fun h => by have g := EQ.out.1 h; exact hab (hs.out.1 (HT.out.1 g.2.2.2.2.2.2.2.2.2.2.1)).1))
                clear hab
                go_wp2_with fail
                go_quiet (fail)
                go_wp2_with fail
                go_ret
                exact ⟨ret_bool hres.out.symm, Below.drewN_ (HBx.out m) _⟩
            · have E2 := Lib.hid (show x.table = y.table by rw [HT.out, List.drop_eq_nil_of_le (by omega), List.drop_eq_nil_of_le (show y.table.length ≤ j by have := T10.out; omega)])
              have k1 : ¬ (j : Int) < x.table.length := by omega
              clear HT hj hlt
              go_wp2_with fail
              have HZ4 := Lib.hid (show (x.ws = y.ws) ↔ (x.ws.drop 0 = y.ws.drop 0) by rw [List.drop_zero, List.drop_zero])
              have m4 : (x.ws.length : Int) ≤ 9223372036854775807 := by omega
              go_loopw [8] (fun i wr => ∃ j m : Nat, j ≤ x.ws.length ∧ i = .int .i64 j ∧ wr = W.drewN m ∧ ((x.ws = y.ws) ↔ (x.ws.drop j = y.ws.drop j))) (fun i _ => x.ws.length - (intOf i).toNat)
              case atStart => exact ⟨0, _, Nat.zero_le _, rfl, rfl, HZ4.out⟩
              case round =>
                obtain ⟨j, m, hj, rfl, rfl, hT⟩ := hrel
                have HT := Lib.hid hT
                clear hT
                by_cases hlt : j < x.ws.length
                · obtain ⟨b1, o1, rfl, _, _⟩ := RX4.out.at_ (by omega)
                  obtain ⟨b2, o2, rfl, _, _⟩ := RY4.out.at_ (by have := T11.out; omega)
                  obtain ⟨a, ha⟩ := at_someS hlt
                  obtain ⟨b, hb⟩ := at_someS (l := y.ws) (show j < y.ws.length by have := T11.out; omega)
                  have hs := Lib.hid (drop_someS ha hb)
                  obtain ⟨a0, a1, a2⟩ := RX4.out.wriS ha
                  obtain ⟨b0x, b1x, b2x⟩ := RY4.out.wriS hb
                  have k0 : (0 : Int) ≤ j := by omega
                  have k1 : (j : Int) < x.ws.length := by omega
                  have k2 : (j : Int) < y.ws.length := by have := T11.out; omega
                  clear ha hb
                  have q := neqS_wr a b
                  by_cases hab : a = b
                  · subst hab
                    rw [decide_eq_true rfl] at q
                    have hres := Lib.hid (show (x.ws = y.ws) ↔ (x.ws.drop (j + 1) = y.ws.drop (j + 1)) by rw [HT.out, hs.out]; simp)
                    go_wp2_with fail
                    go_quiet (fail)
                    go_wp2_with fail
                    go_roundw
                    case rel => exact ⟨j + 1, _, by omega, by go_num, rfl, hres.out⟩
                    case measure => simp only [intOf]; omega
                  · rw [decide_eq_false hab] at q
                    have hres := Lib.hid (show decide (x = y) = false from decide_eq_false (fun h => by have g := EQ.out.1 h; exact hab (hs.out.1 (HT.out.1 g.2.2.2.2.2.2.2.2.2.2.2.1)).1))
                    clear hab
                    go_wp2_with fail
                    go_quiet (fail)
                    go_wp2_with fail
                    go_ret
                    exact ⟨ret_bool hres.out.symm, Below.drewN_ (HBx.out m) _⟩
                · have E4 := Lib.hid (show x.ws = y.ws by rw [HT.out, List.drop_eq_nil_of_le (by omega), List.drop_eq_nil_of_le (show y.ws.length ≤ j by have := T11.out; omega)])
                  have k1 : ¬ (j : Int) < x.ws.length := by omega
                  clear HT hj hlt
                  go_wp2_with fail
                  have key := fun k => sameWords_any A5 B5 x.sdq.length y.sdq.length c5 d5 x.sdq y.sdq (W.drewN k) rfl rfl RX5.out RY5.out
                  refine (key _).mono ?_
                  clear key
                  rintro e w0 ⟨rfl, p0, rfl⟩
                  by_cases tsdq : x.sdq = y.sdq
                  rotate_left
                  · have hres := Lib.hid (show decide (x = y) = false from decide_eq_false (fun h => by have g := EQ.out.1 h; exact tsdq g.2.2.2.2.2.2.2.2.2.2.2.2.1))
                    rw [decide_eq_false tsdq]
                    clear tsdq
                    go_wp2_with fail
                    go_ret
                    exact ⟨ret_bool hres.out.symm, Below.drewN_ BL.out _⟩
                  rw [decide_eq_true tsdq]
                  have Tsdq := Lib.hid tsdq
                  clear tsdq
                  go_wp2_with fail
                  have key := fun k => sameWords_any A6 B6 x.aeq.length y.aeq.length c6 d6 x.aeq y.aeq (W.drewN k) rfl rfl RX6.out RY6.out
                  refine (key _).mono ?_
                  clear key
                  rintro e w1 ⟨rfl, p1, rfl⟩
                  by_cases taeq : x.aeq = y.aeq
                  rotate_left
                  · have hres := Lib.hid (show decide (x = y) = false from decide_eq_false (fun h => by have g := EQ.out.1 h; exact taeq g.2.2.2.2.2.2.2.2.2.2.2.2.2.1))
                    rw [decide_eq_false taeq]
                    clear taeq
                    go_wp2_with fail
                    go_ret
                    exact ⟨ret_bool hres.out.symm, Below.drewN_ BL.out _⟩
                  rw [decide_eq_true taeq]
                  have Taeq := Lib.hid taeq
                  clear taeq
                  go_wp2_with fail
                  have key := fun k => sameBools_any A7 B7 x.abq.length y.abq.length c7 d7 x.abq y.abq (W.drewN k) rfl rfl RX7.out RY7.out
                  refine (key _).mono ?_
                  clear key
                  rintro e w2 ⟨rfl, p2, rfl⟩
                  by_cases tabq : x.abq = y.abq
                  rotate_left
                  · have hres := Lib.hid (show decide (x = y) = false from decide_eq_false (fun h => by have g := EQ.out.1 h; exact tabq g.2.2.2.2.2.2.2.2.2.2.2.2.2.2.1))
                    rw [decide_eq_false tabq]
                    clear tabq
                    go_wp2_with fail
                    go_ret
                    exact ⟨ret_bool hres.out.symm, Below.drewN_ BL.out _⟩
                  rw [decide_eq_true tabq]
                  have Tabq := Lib.hid tabq
                  clear tabq
                  go_wp2_with fail
                  have key := fun k => sameBools_any A8 B8 x.ebq.length y.ebq.length c8 d8 x.ebq y.ebq (W.drewN k) rfl rfl RX8.out RY8.out
                  refine (key _).mono ?_
                  clear key
                  rintro e w3 ⟨rfl, p3, rfl⟩
                  by_cases tebq : x.ebq = y.ebq
                  rotate_left
                  · have hres := Lib.hid (show decide (x = y) = false from decide_eq_false (fun h => by have g := EQ.out.1 h; exact tebq g.2.2.2.2.2.2.2.2.2.2.2.2.2.2.2))
                    rw [decide_eq_false tebq]
                    clear tebq
                    go_wp2_with fail
                    go_ret
                    exact ⟨ret_bool hres.out.symm, Below.drewN_ BL.out _⟩
                  rw [decide_eq_true tebq]
                  have Tebq := Lib.hid tebq
                  clear tebq
                  go_wp2_with fail
                  have hres := Lib.hid (show decide (x = y) = true from decide_eq_true (EQ.out.2 ⟨T0.out, T1.out, T2.out, T3.out, T4.out, T5.out, T6.out, T7.out, E0.out, E1.out, E2.out, E4.out, Tsdq.out, Taeq.out, Tabq.out, Tebq.out⟩))
                  go_ret
                  exact ⟨ret_bool hres.out.symm, Below.drewN_ BL.out _⟩
theorem refSameState_yes (x : Sta) (vx vy : Vs) (w : World) (hx : x.Ok) (h1 : StaV w w.heap.size vx x) (h2 : StaV w w.heap.size vy x) (f1 : ∀ b ∈ x.mem, 0 ≤ b ∧ b ≤ 255) :
    Calls Try.prog 16 #[.agg (staL x vx).toArray, .agg (staL x vy).toArray] w fun e w' => e = .returned (.bool true) ∧ Below w.heap.size w w' := by
  refine (refSameState_any x x vx vy w hx hx h1 h2 f1 f1).mono ?_
  rintro e w' ⟨rfl, hb⟩
  exact ⟨ret_bool (decide_eq_true rfl), hb⟩
end Go.Proofs.Ythhoigkmmlkfcaa.Words

/- Several texts in one: RefDone2, OpenCfg, AdvMath2, AdvData, AdvMath3, LinPut. -/
import Derived.Test.YthhoigkmmlkfcaaG08
import Derived.Test.YthhoigkmmlkfcaaRows
import Derived.WalkKit
import Derived.ProofKit
import Derived.OpenShut
import Derived.ChangeOld
import Derived.Test.YthhoigkmmlkfcaaG06
import Derived.Test.YthhoigkmmlkfcaaG04
import Derived.Test.YthhoigkmmlkfcaaG00

/- Contract of the document's own 'done' of chapter 18: a load that is done; and any request. -/
namespace Go.Proofs.Ythhoigkmmlkfcaa.Words
set_option maxRecDepth 100000
open Go.RowKit
set_option linter.unusedVariables false
set_option linter.unusedSimpArgs false

theorem DnS.swap {w W : World} {base : Nat} {v0 : Vs} {q : Rqs} {Z : List Value} {xb : Sta} {vb : Vs} {x x' : Sta} {v : Vs} (h : DnS w base v0 q Z xb vb x v W) (e0 : x'.ldq = x.ldq) (e1 : x'.sdq = x.sdq) (e2 : x'.aeq = x.aeq) (e3 : x'.abq = x.abq) (e4 : x'.ebq = x.ebq) (e5 : x'.saq = x.saq) (e6 : x'.table = x.table) (e7 : x'.mem = x.mem) (e8 : x'.ws = x.ws) : DnS w base v0 q Z xb vb x' v W :=
  ⟨h.bx, h.bq, h.bz, ⟨by rw [e0]; exact h.own.ldq, by rw [e1]; exact h.own.sdq, by rw [e2]; exact h.own.aeq, by rw [e3]; exact h.own.abq, by rw [e4]; exact h.own.ebq, by rw [e5]; exact h.own.saq, by rw [e6]; exact h.own.table, by rw [e7]; exact h.own.mem, by rw [e8]; exact h.own.ws, h.own.words, h.own.bools⟩, h.keep, h.sz, h.hws, h.hb, h.pos, h.tb⟩

set_option maxHeartbeats 4000000 in
theorem refDone_load_in_slot (x : Sta) (v : Vs) (q : Rqs) (base : Nat) (w : World) (hx : x.Ok) (hv : StaOwn w base v x) (hb : base ≤ w.heap.size) (hs : StaFew x) (hm : ∀ b ∈ x.mem, 0 ≤ b ∧ b ≤ 255) (hq : q.Fits) (h : q.store = false) (ha : 0 ≤ q.addr) (hb2 : q.addr < 4294967296) (hr : q.reg < 0) :
    Calls Try.prog 32 #[.agg (staL x v).toArray, .agg #[.bool q.store, .int .i64 q.op, .int .i64 q.addr, .int .i64 q.size, .int .u32 q.val, .int .i64 q.left, .int .i64 q.reg, .int .i64 q.tag]] w (DoneOut w base v (doneZ x q)) := by
  have HBZ : Hid (broughtZ x.mem q = loadZ x.mem q.op q.addr) := by
    have e : broughtZ x.mem q = loadZ x.mem q.op q.addr := by unfold broughtZ; rw [if_pos ⟨ha, hb2⟩]
    exact e
  rw [done_slot h hr, HBZ.out]
  obtain ⟨W, hW⟩ : ∃ W, W = ((w.alloc (.cells (staL x v).toArray 44)).alloc (.cells #[.bool q.store, .int .i64 q.op, .int .i64 q.addr, .int .i64 q.size, .int .u32 q.val, .int .i64 q.left, .int .i64 q.reg, .int .i64 q.tag] 54)).alloc (.cells Try.zeroCells44 44) := ⟨_, rfl⟩
  have hD := sta_begun3 x v q base w hv hb hW
  obtain ⟨Z, hZ⟩ : ∃ Z, Z = Try.zeroCells44.toList := ⟨_, rfl⟩
  rw [← hZ] at hD
  have HZ : Hid (Z.length = 92) := by rw [hZ]; exact (by rw [Array.length_toList]; exact zero_size : Try.zeroCells44.toList.length = 92)
  clear hZ
  have D0 := Lib.hid hD
  have s1 : W.cell? ⟨w.heap.size + 1, 0, none⟩ = some (.bool false) := by rw [← h]; exact hD.bq.cell rfl
  rw [h] at hW ⊢
  have s2 : W.cell? ⟨w.heap.size + 1, 1, none⟩ = some (.int .i64 q.op) := hD.bq.cell rfl
  have s3 : W.cell? ⟨w.heap.size + 1, 2, none⟩ = some (.int .i64 q.addr) := hD.bq.cell rfl
  have s7 : W.cell? ⟨w.heap.size + 1, 6, none⟩ = some (.int .i64 q.reg) := hD.bq.cell rfl
  have s8 : W.cell? ⟨w.heap.size + 1, 7, none⟩ = some (.int .i64 q.tag) := hD.bq.cell rfl
  have hsz := hD.sz
  have HX := Lib.hid hx
  have HS := Lib.hid hs
  have HQ := Lib.hid hq
  have HM := Lib.hid hm
  clear hx hs hq hv hD
  obtain ⟨A7, c7, e7⟩ := (Row.of_own D0.out.own.mem).form
  have t3 := D0.out.bx.cell (sta_mem HX.out)
  rw [e7] at t3
  have hz0 := D0.out.bx.lt
  obtain ⟨A0, c0, e0⟩ := (Row.of_own D0.out.own.ldq).form
  have t4 := D0.out.bx.cell (sta_ldq HX.out)
  rw [e0] at t4
  go_enter Try.func32, Try.ntmps32
  go_wp2_with (first | (rw [← hW]; clear hW))
  refine (refLoad_any A7 c7 x.mem.length W.heap.size x.mem q.op q.addr W (by have h9 := Row.of_own D0.out.own.mem; rw [e7] at h9; exact h9) HM.out ha (by omega)).mono ?_
  rintro e y1 ⟨rfl, rfl⟩
  go_wp2_with fail
  refine (refFill_any A0 c0 x.ldq q.tag (loadZ x.mem q.op q.addr) W (by have h9 := Row.of_own D0.out.own.ldq; rw [e0] at h9; exact h9) (by have := HS.out.ldq; omega)).mono ?_
  rintro e y2 ⟨u, rfl, o1, b1⟩
  have D1 := Lib.hid ((D0.out.below b1).row_ldq (m := fillZ q.tag (loadZ x.mem q.op q.addr) x.ldq) (own_less o1 D0.out.sz))
  obtain ⟨B1, kb, rfl⟩ := (Row.of_own o1).form
  have hz1 := D1.out.bx.lt
  obtain ⟨nl, hnl⟩ : ∃ nl, nl = (fillZ q.tag (loadZ x.mem q.op q.addr) x.ldq).length := ⟨_, rfl⟩
  rw [← hnl] at D1
  rw [← hnl]
  clear hnl o1 b1 s1 s2 s3 s7 s8 t3 t4
  go_wp2_with (first
    | (refine wpList_put_cell rfl 34 _ _ rfl w.heap.size 77 (.slice B1 nl kb) rfl rfl rfl _ D1.out.bx (by rw [staL_len HX.out]; omega) (by kernel_rfl) ?_; intro y3 hbx hg; rw [set_ldq HX.out] at hbx; have D2 := Lib.hid (D1.out.put hbx hg); have hz2 := D2.out.bx.lt; clear hbx hg)
    | (refine wpList_load_box rfl 44 (.tmp 2) rfl w.heap.size 0 rfl (staL x { v with ldq := .slice B1 nl kb }) (staL x { v with ldq := .slice B1 nl kb }) D2.out.bx (fun j u hu => by rw [Nat.zero_add]; exact hu) _ Try.underlying44 rfl 92 sta_size (staL_len HX.out) ?_)
    | (refine wpList_store_box rfl 44 (.tmp 4) (.tmp 90) rfl (w.heap.size + 2) 0 (staL x { v with ldq := .slice B1 nl kb }) rfl rfl Z D2.out.bz (by rw [HZ.out, staL_len HX.out]; exact Nat.le_refl _) 92 sta_size (staL_len HX.out) D2.out.own.one ?_; intro w9 hb9 hg9; rw [splice_whole _ _ (by rw [HZ.out, staL_len HX.out])] at hb9; have X9 := Lib.hid hb9; have G9 := Lib.hid hg9; clear hb9 hg9))
  exact bodyPost_ret (v := .agg (staL x { v with ldq := .slice B1 nl kb }).toArray) (results_cell Try.results32 _ _ _ ⟨w.heap.size + 2, 0, none⟩ _ rfl (load_sta HX.out X9.out)) rfl (D2.out.out G9.out rfl)

set_option maxHeartbeats 4000000 in
theorem refDone_load_in_reg (x : Sta) (v : Vs) (q : Rqs) (base : Nat) (w : World) (hx : x.Ok) (hv : StaOwn w base v x) (hb : base ≤ w.heap.size) (hs : StaFew x) (hm : ∀ b ∈ x.mem, 0 ≤ b ∧ b ≤ 255) (hq : q.Fits) (h : q.store = false) (ha : 0 ≤ q.addr) (hb2 : q.addr < 4294967296) (k : Nat) (hk : q.reg = k) (k1 : 1 ≤ k) (k2 : k ≤ 15) :
    Calls Try.prog 32 #[.agg (staL x v).toArray, .agg #[.bool q.store, .int .i64 q.op, .int .i64 q.addr, .int .i64 q.size, .int .u32 q.val, .int .i64 q.left, .int .i64 q.reg, .int .i64 q.tag]] w (DoneOut w base v (doneZ x q)) := by
  have HBZ : Hid (broughtZ x.mem q = loadZ x.mem q.op q.addr) := by
    have e : broughtZ x.mem q = loadZ x.mem q.op q.addr := by unfold broughtZ; rw [if_pos ⟨ha, hb2⟩]
    exact e
  rw [done_reg h (by omega) (by omega), HBZ.out, show q.reg.toNat = k by omega]
  obtain ⟨W, hW⟩ : ∃ W, W = ((w.alloc (.cells (staL x v).toArray 44)).alloc (.cells #[.bool q.store, .int .i64 q.op, .int .i64 q.addr, .int .i64 q.size, .int .u32 q.val, .int .i64 q.left, .int .i64 q.reg, .int .i64 q.tag] 54)).alloc (.cells Try.zeroCells44 44) := ⟨_, rfl⟩
  have hD := sta_begun3 x v q base w hv hb hW
  obtain ⟨Z, hZ⟩ : ∃ Z, Z = Try.zeroCells44.toList := ⟨_, rfl⟩
  rw [← hZ] at hD
  have HZ : Hid (Z.length = 92) := by rw [hZ]; exact (by rw [Array.length_toList]; exact zero_size : Try.zeroCells44.toList.length = 92)
  clear hZ
  have D0 := Lib.hid hD
  have s1 : W.cell? ⟨w.heap.size + 1, 0, none⟩ = some (.bool false) := by rw [← h]; exact hD.bq.cell rfl
  rw [h] at hW ⊢
  have s2 : W.cell? ⟨w.heap.size + 1, 1, none⟩ = some (.int .i64 q.op) := hD.bq.cell rfl
  have s3 : W.cell? ⟨w.heap.size + 1, 2, none⟩ = some (.int .i64 q.addr) := hD.bq.cell rfl
  have s7 : W.cell? ⟨w.heap.size + 1, 6, none⟩ = some (.int .i64 q.reg) := hD.bq.cell rfl
  have s8 : W.cell? ⟨w.heap.size + 1, 7, none⟩ = some (.int .i64 q.tag) := hD.bq.cell rfl
  have hsz := hD.sz
  have HX := Lib.hid hx
  have HS := Lib.hid hs
  have HQ := Lib.hid hq
  have HM := Lib.hid hm
  have HK := Lib.hid hk
  rw [hk] at s7
  have i1 : (1 : Int) ≤ k := by omega
  have i2 : (k : Int) ≤ 15 := by omega
  have i3 : (0 : Int) ≤ k := by omega
  clear hk
  clear hx hs hq hv hD
  obtain ⟨A7, c7, e7⟩ := (Row.of_own D0.out.own.mem).form
  have t3 := D0.out.bx.cell (sta_mem HX.out)
  rw [e7] at t3
  have hz0 := D0.out.bx.lt
  have t5 := D0.out.bx.cell (sta_cycle (x := x) (v := v))
  go_enter Try.func32, Try.ntmps32
  have HXa : Hid (Sta.Ok { x with a := { x.a with regs := x.a.regs.set k (loadZ x.mem q.op q.addr) } }) := ⟨HX.out.a.setreg k _, HX.out.e⟩
  have HXb : Hid (Sta.Ok { x with a := { x.a with regs := x.a.regs.set k (loadZ x.mem q.op q.addr), ready := x.a.ready.set k (wrap64 (x.cycle + 1)) } }) := ⟨(HX.out.a.setreg k (loadZ x.mem q.op q.addr)).setready k _, HX.out.e⟩
  go_wp2_with (first | (rw [← hW]; clear hW))
  refine (refLoad_any A7 c7 x.mem.length W.heap.size x.mem q.op q.addr W (by have h9 := Row.of_own D0.out.own.mem; rw [e7] at h9; exact h9) HM.out ha (by omega)).mono ?_
  rintro e y1 ⟨rfl, rfl⟩
  go_wp2_with (first
    | (refine wpList_put_cell rfl 27 _ _ rfl w.heap.size (1 + k) (.int .u32 (loadZ x.mem q.op q.addr)) rfl rfl rfl _ D0.out.bx (by rw [staL_len HX.out]; omega) (by kernel_rfl) ?_; intro y3 hbx hg; rw [set_areg HX.out (by omega)] at hbx; have D1 := Lib.hid ((D0.out.put hbx hg).swap (x' := { x with a := { x.a with regs := x.a.regs.set k (loadZ x.mem q.op q.addr) } }) rfl rfl rfl rfl rfl rfl rfl rfl rfl); have hz1 := D1.out.bx.lt; have s9 : y3.cell? ⟨w.heap.size + 1, 6, none⟩ = some (.int .i64 q.reg) := D1.out.bq.cell rfl; rw [HK.out] at s9; have t6 := D1.out.bx.cell (sta_cycle (x := { x with a := { x.a with regs := x.a.regs.set k (loadZ x.mem q.op q.addr) } }) (v := v)); have hq1 := D1.out.bq.lt; clear hbx hg)
    | (refine wpList_put_cell rfl 3 _ _ rfl w.heap.size (17 + k) (.int .i64 (wrap64 (x.cycle + 1))) rfl rfl rfl _ D1.out.bx (by rw [staL_len HXa.out]; omega) (by kernel_rfl) ?_; intro y4 hbx hg; rw [set_aready HXa.out (by omega)] at hbx; have D2 := Lib.hid ((D1.out.put hbx hg).swap (x' := { x with a := { x.a with regs := x.a.regs.set k (loadZ x.mem q.op q.addr), ready := x.a.ready.set k (wrap64 (x.cycle + 1)) } }) rfl rfl rfl rfl rfl rfl rfl rfl rfl); have hz2 := D2.out.bx.lt; clear hbx hg)
    | (refine wpList_load_box rfl 44 (.tmp 2) rfl w.heap.size 0 rfl (staL { x with a := { x.a with regs := x.a.regs.set k (loadZ x.mem q.op q.addr), ready := x.a.ready.set k (wrap64 (x.cycle + 1)) } } v) (staL { x with a := { x.a with regs := x.a.regs.set k (loadZ x.mem q.op q.addr), ready := x.a.ready.set k (wrap64 (x.cycle + 1)) } } v) D2.out.bx (fun j u hu => by rw [Nat.zero_add]; exact hu) _ Try.underlying44 rfl 92 sta_size (staL_len HXb.out) ?_)
    | (refine wpList_store_box rfl 44 (.tmp 4) (.tmp 90) rfl (w.heap.size + 2) 0 (staL { x with a := { x.a with regs := x.a.regs.set k (loadZ x.mem q.op q.addr), ready := x.a.ready.set k (wrap64 (x.cycle + 1)) } } v) rfl rfl Z D2.out.bz (by rw [HZ.out, staL_len HXb.out]; exact Nat.le_refl _) 92 sta_size (staL_len HXb.out) D2.out.own.one ?_; intro w9 hb9 hg9; rw [splice_whole _ _ (by rw [HZ.out, staL_len HXb.out])] at hb9; have X9 := Lib.hid hb9; have G9 := Lib.hid hg9; clear hb9 hg9))
  exact bodyPost_ret (v := .agg (staL { x with a := { x.a with regs := x.a.regs.set k (loadZ x.mem q.op q.addr), ready := x.a.ready.set k (wrap64 (x.cycle + 1)) } } v).toArray) (results_cell Try.results32 _ _ _ ⟨w.heap.size + 2, 0, none⟩ _ rfl (load_sta HXb.out X9.out)) rfl (D2.out.out G9.out rfl)

set_option maxHeartbeats 4000000 in
theorem refDone_load_in_zero (x : Sta) (v : Vs) (q : Rqs) (base : Nat) (w : World) (hx : x.Ok) (hv : StaOwn w base v x) (hb : base ≤ w.heap.size) (hs : StaFew x) (hm : ∀ b ∈ x.mem, 0 ≤ b ∧ b ≤ 255) (hq : q.Fits) (h : q.store = false) (ha : 0 ≤ q.addr) (hb2 : q.addr < 4294967296) (hr : q.reg = 0) :
    Calls Try.prog 32 #[.agg (staL x v).toArray, .agg #[.bool q.store, .int .i64 q.op, .int .i64 q.addr, .int .i64 q.size, .int .u32 q.val, .int .i64 q.left, .int .i64 q.reg, .int .i64 q.tag]] w (DoneOut w base v (doneZ x q)) := by
  have HBZ : Hid (broughtZ x.mem q = loadZ x.mem q.op q.addr) := by
    have e : broughtZ x.mem q = loadZ x.mem q.op q.addr := by unfold broughtZ; rw [if_pos ⟨ha, hb2⟩]
    exact e
  rw [done_not h (by omega) (by omega)]
  obtain ⟨W, hW⟩ : ∃ W, W = ((w.alloc (.cells (staL x v).toArray 44)).alloc (.cells #[.bool q.store, .int .i64 q.op, .int .i64 q.addr, .int .i64 q.size, .int .u32 q.val, .int .i64 q.left, .int .i64 q.reg, .int .i64 q.tag] 54)).alloc (.cells Try.zeroCells44 44) := ⟨_, rfl⟩
  have hD := sta_begun3 x v q base w hv hb hW
  obtain ⟨Z, hZ⟩ : ∃ Z, Z = Try.zeroCells44.toList := ⟨_, rfl⟩
  rw [← hZ] at hD
  have HZ : Hid (Z.length = 92) := by rw [hZ]; exact (by rw [Array.length_toList]; exact zero_size : Try.zeroCells44.toList.length = 92)
  clear hZ
  have D0 := Lib.hid hD
  have s1 : W.cell? ⟨w.heap.size + 1, 0, none⟩ = some (.bool false) := by rw [← h]; exact hD.bq.cell rfl
  rw [h] at hW ⊢
  have s2 : W.cell? ⟨w.heap.size + 1, 1, none⟩ = some (.int .i64 q.op) := hD.bq.cell rfl
  have s3 : W.cell? ⟨w.heap.size + 1, 2, none⟩ = some (.int .i64 q.addr) := hD.bq.cell rfl
  have s7 : W.cell? ⟨w.heap.size + 1, 6, none⟩ = some (.int .i64 q.reg) := hD.bq.cell rfl
  have s8 : W.cell? ⟨w.heap.size + 1, 7, none⟩ = some (.int .i64 q.tag) := hD.bq.cell rfl
  have hsz := hD.sz
  have HX := Lib.hid hx
  have HS := Lib.hid hs
  have HQ := Lib.hid hq
  have HM := Lib.hid hm
  rw [hr] at s7
  clear hr
  clear hx hs hq hv hD
  obtain ⟨A7, c7, e7⟩ := (Row.of_own D0.out.own.mem).form
  have t3 := D0.out.bx.cell (sta_mem HX.out)
  rw [e7] at t3
  have hz0 := D0.out.bx.lt
  go_enter Try.func32, Try.ntmps32
  go_wp2_with (first | (rw [← hW]; clear hW))
  refine (refLoad_any A7 c7 x.mem.length W.heap.size x.mem q.op q.addr W (by have h9 := Row.of_own D0.out.own.mem; rw [e7] at h9; exact h9) HM.out ha (by omega)).mono ?_
  rintro e y1 ⟨rfl, rfl⟩
  go_wp2_with (first
    | (refine wpList_load_box rfl 44 (.tmp 2) rfl w.heap.size 0 rfl (staL x v) (staL x v) D0.out.bx (fun j u hu => by rw [Nat.zero_add]; exact hu) _ Try.underlying44 rfl 92 sta_size (staL_len HX.out) ?_)
    | (refine wpList_store_box rfl 44 (.tmp 4) (.tmp 90) rfl (w.heap.size + 2) 0 (staL x v) rfl rfl Z D0.out.bz (by rw [HZ.out, staL_len HX.out]; exact Nat.le_refl _) 92 sta_size (staL_len HX.out) D0.out.own.one ?_; intro w9 hb9 hg9; rw [splice_whole _ _ (by rw [HZ.out, staL_len HX.out])] at hb9; have X9 := Lib.hid hb9; have G9 := Lib.hid hg9; clear hb9 hg9))
  exact bodyPost_ret (v := .agg (staL x v).toArray) (results_cell Try.results32 _ _ _ ⟨w.heap.size + 2, 0, none⟩ _ rfl (load_sta HX.out X9.out)) rfl (D0.out.out G9.out rfl)

set_option maxHeartbeats 4000000 in
theorem refDone_load_in_big (x : Sta) (v : Vs) (q : Rqs) (base : Nat) (w : World) (hx : x.Ok) (hv : StaOwn w base v x) (hb : base ≤ w.heap.size) (hs : StaFew x) (hm : ∀ b ∈ x.mem, 0 ≤ b ∧ b ≤ 255) (hq : q.Fits) (h : q.store = false) (ha : 0 ≤ q.addr) (hb2 : q.addr < 4294967296) (hr : 15 < q.reg) :
    Calls Try.prog 32 #[.agg (staL x v).toArray, .agg #[.bool q.store, .int .i64 q.op, .int .i64 q.addr, .int .i64 q.size, .int .u32 q.val, .int .i64 q.left, .int .i64 q.reg, .int .i64 q.tag]] w (DoneOut w base v (doneZ x q)) := by
  have HBZ : Hid (broughtZ x.mem q = loadZ x.mem q.op q.addr) := by
    have e : broughtZ x.mem q = loadZ x.mem q.op q.addr := by unfold broughtZ; rw [if_pos ⟨ha, hb2⟩]
    exact e
  rw [done_not h (by omega) (by omega)]
  obtain ⟨W, hW⟩ : ∃ W, W = ((w.alloc (.cells (staL x v).toArray 44)).alloc (.cells #[.bool q.store, .int .i64 q.op, .int .i64 q.addr, .int .i64 q.size, .int .u32 q.val, .int .i64 q.left, .int .i64 q.reg, .int .i64 q.tag] 54)).alloc (.cells Try.zeroCells44 44) := ⟨_, rfl⟩
  have hD := sta_begun3 x v q base w hv hb hW
  obtain ⟨Z, hZ⟩ : ∃ Z, Z = Try.zeroCells44.toList := ⟨_, rfl⟩
  rw [← hZ] at hD
  have HZ : Hid (Z.length = 92) := by rw [hZ]; exact (by rw [Array.length_toList]; exact zero_size : Try.zeroCells44.toList.length = 92)
  clear hZ
  have D0 := Lib.hid hD
  have s1 : W.cell? ⟨w.heap.size + 1, 0, none⟩ = some (.bool false) := by rw [← h]; exact hD.bq.cell rfl
  rw [h] at hW ⊢
  have s2 : W.cell? ⟨w.heap.size + 1, 1, none⟩ = some (.int .i64 q.op) := hD.bq.cell rfl
  have s3 : W.cell? ⟨w.heap.size + 1, 2, none⟩ = some (.int .i64 q.addr) := hD.bq.cell rfl
  have s7 : W.cell? ⟨w.heap.size + 1, 6, none⟩ = some (.int .i64 q.reg) := hD.bq.cell rfl
  have s8 : W.cell? ⟨w.heap.size + 1, 7, none⟩ = some (.int .i64 q.tag) := hD.bq.cell rfl
  have hsz := hD.sz
  have HX := Lib.hid hx
  have HS := Lib.hid hs
  have HQ := Lib.hid hq
  have HM := Lib.hid hm
  have i1 : ¬ q.reg ≤ 15 := by omega
  have i2 : 1 ≤ q.reg := by omega
  have i3 : ¬ q.reg < 0 := by omega
  clear hx hs hq hv hD
  obtain ⟨A7, c7, e7⟩ := (Row.of_own D0.out.own.mem).form
  have t3 := D0.out.bx.cell (sta_mem HX.out)
  rw [e7] at t3
  have hz0 := D0.out.bx.lt
  go_enter Try.func32, Try.ntmps32
  go_wp2_with (first | (rw [← hW]; clear hW))
  refine (refLoad_any A7 c7 x.mem.length W.heap.size x.mem q.op q.addr W (by have h9 := Row.of_own D0.out.own.mem; rw [e7] at h9; exact h9) HM.out ha (by omega)).mono ?_
  rintro e y1 ⟨rfl, rfl⟩
  go_wp2_with (first
    | (refine wpList_load_box rfl 44 (.tmp 2) rfl w.heap.size 0 rfl (staL x v) (staL x v) D0.out.bx (fun j u hu => by rw [Nat.zero_add]; exact hu) _ Try.underlying44 rfl 92 sta_size (staL_len HX.out) ?_)
    | (refine wpList_store_box rfl 44 (.tmp 4) (.tmp 90) rfl (w.heap.size + 2) 0 (staL x v) rfl rfl Z D0.out.bz (by rw [HZ.out, staL_len HX.out]; exact Nat.le_refl _) 92 sta_size (staL_len HX.out) D0.out.own.one ?_; intro w9 hb9 hg9; rw [splice_whole _ _ (by rw [HZ.out, staL_len HX.out])] at hb9; have X9 := Lib.hid hb9; have G9 := Lib.hid hg9; clear hb9 hg9))
  exact bodyPost_ret (v := .agg (staL x v).toArray) (results_cell Try.results32 _ _ _ ⟨w.heap.size + 2, 0, none⟩ _ rfl (load_sta HX.out X9.out)) rfl (D0.out.out G9.out rfl)

set_option maxHeartbeats 4000000 in
theorem refDone_load_low_slot (x : Sta) (v : Vs) (q : Rqs) (base : Nat) (w : World) (hx : x.Ok) (hv : StaOwn w base v x) (hb : base ≤ w.heap.size) (hs : StaFew x) (hm : ∀ b ∈ x.mem, 0 ≤ b ∧ b ≤ 255) (hq : q.Fits) (h : q.store = false) (ha : q.addr < 0) (hr : q.reg < 0) :
    Calls Try.prog 32 #[.agg (staL x v).toArray, .agg #[.bool q.store, .int .i64 q.op, .int .i64 q.addr, .int .i64 q.size, .int .u32 q.val, .int .i64 q.left, .int .i64 q.reg, .int .i64 q.tag]] w (DoneOut w base v (doneZ x q)) := by
  have HBZ : Hid (broughtZ x.mem q = 0) := by
    have e : broughtZ x.mem q = 0 := by unfold broughtZ; rw [if_neg (by omega)]
    exact e
  rw [done_slot h hr, HBZ.out]
  obtain ⟨W, hW⟩ : ∃ W, W = ((w.alloc (.cells (staL x v).toArray 44)).alloc (.cells #[.bool q.store, .int .i64 q.op, .int .i64 q.addr, .int .i64 q.size, .int .u32 q.val, .int .i64 q.left, .int .i64 q.reg, .int .i64 q.tag] 54)).alloc (.cells Try.zeroCells44 44) := ⟨_, rfl⟩
  have hD := sta_begun3 x v q base w hv hb hW
  obtain ⟨Z, hZ⟩ : ∃ Z, Z = Try.zeroCells44.toList := ⟨_, rfl⟩
  rw [← hZ] at hD
  have HZ : Hid (Z.length = 92) := by rw [hZ]; exact (by rw [Array.length_toList]; exact zero_size : Try.zeroCells44.toList.length = 92)
  clear hZ
  have D0 := Lib.hid hD
  have s1 : W.cell? ⟨w.heap.size + 1, 0, none⟩ = some (.bool false) := by rw [← h]; exact hD.bq.cell rfl
  rw [h] at hW ⊢
  have s2 : W.cell? ⟨w.heap.size + 1, 1, none⟩ = some (.int .i64 q.op) := hD.bq.cell rfl
  have s3 : W.cell? ⟨w.heap.size + 1, 2, none⟩ = some (.int .i64 q.addr) := hD.bq.cell rfl
  have s7 : W.cell? ⟨w.heap.size + 1, 6, none⟩ = some (.int .i64 q.reg) := hD.bq.cell rfl
  have s8 : W.cell? ⟨w.heap.size + 1, 7, none⟩ = some (.int .i64 q.tag) := hD.bq.cell rfl
  have hsz := hD.sz
  have HX := Lib.hid hx
  have HS := Lib.hid hs
  have HQ := Lib.hid hq
  have HM := Lib.hid hm
  clear hx hs hq hv hD
  obtain ⟨A7, c7, e7⟩ := (Row.of_own D0.out.own.mem).form
  have t3 := D0.out.bx.cell (sta_mem HX.out)
  rw [e7] at t3
  have hz0 := D0.out.bx.lt
  obtain ⟨A0, c0, e0⟩ := (Row.of_own D0.out.own.ldq).form
  have t4 := D0.out.bx.cell (sta_ldq HX.out)
  rw [e0] at t4
  go_enter Try.func32, Try.ntmps32
  go_wp2_with (first | (rw [← hW]; clear hW))
  refine (refFill_any A0 c0 x.ldq q.tag (0) W (by have h9 := Row.of_own D0.out.own.ldq; rw [e0] at h9; exact h9) (by have := HS.out.ldq; omega)).mono ?_
  rintro e y2 ⟨u, rfl, o1, b1⟩
  have D1 := Lib.hid ((D0.out.below b1).row_ldq (m := fillZ q.tag (0) x.ldq) (own_less o1 D0.out.sz))
  obtain ⟨B1, kb, rfl⟩ := (Row.of_own o1).form
  have hz1 := D1.out.bx.lt
  obtain ⟨nl, hnl⟩ : ∃ nl, nl = (fillZ q.tag (0) x.ldq).length := ⟨_, rfl⟩
  rw [← hnl] at D1
  rw [← hnl]
  clear hnl o1 b1 s1 s2 s3 s7 s8 t3 t4
  go_wp2_with (first
    | (refine wpList_put_cell rfl 34 _ _ rfl w.heap.size 77 (.slice B1 nl kb) rfl rfl rfl _ D1.out.bx (by rw [staL_len HX.out]; omega) (by kernel_rfl) ?_; intro y3 hbx hg; rw [set_ldq HX.out] at hbx; have D2 := Lib.hid (D1.out.put hbx hg); have hz2 := D2.out.bx.lt; clear hbx hg)
    | (refine wpList_load_box rfl 44 (.tmp 2) rfl w.heap.size 0 rfl (staL x { v with ldq := .slice B1 nl kb }) (staL x { v with ldq := .slice B1 nl kb }) D2.out.bx (fun j u hu => by rw [Nat.zero_add]; exact hu) _ Try.underlying44 rfl 92 sta_size (staL_len HX.out) ?_)
    | (refine wpList_store_box rfl 44 (.tmp 4) (.tmp 90) rfl (w.heap.size + 2) 0 (staL x { v with ldq := .slice B1 nl kb }) rfl rfl Z D2.out.bz (by rw [HZ.out, staL_len HX.out]; exact Nat.le_refl _) 92 sta_size (staL_len HX.out) D2.out.own.one ?_; intro w9 hb9 hg9; rw [splice_whole _ _ (by rw [HZ.out, staL_len HX.out])] at hb9; have X9 := Lib.hid hb9; have G9 := Lib.hid hg9; clear hb9 hg9))
  exact bodyPost_ret (v := .agg (staL x { v with ldq := .slice B1 nl kb }).toArray) (results_cell Try.results32 _ _ _ ⟨w.heap.size + 2, 0, none⟩ _ rfl (load_sta HX.out X9.out)) rfl (D2.out.out G9.out rfl)

set_option maxHeartbeats 4000000 in
theorem refDone_load_low_reg (x : Sta) (v : Vs) (q : Rqs) (base : Nat) (w : World) (hx : x.Ok) (hv : StaOwn w base v x) (hb : base ≤ w.heap.size) (hs : StaFew x) (hm : ∀ b ∈ x.mem, 0 ≤ b ∧ b ≤ 255) (hq : q.Fits) (h : q.store = false) (ha : q.addr < 0) (k : Nat) (hk : q.reg = k) (k1 : 1 ≤ k) (k2 : k ≤ 15) :
    Calls Try.prog 32 #[.agg (staL x v).toArray, .agg #[.bool q.store, .int .i64 q.op, .int .i64 q.addr, .int .i64 q.size, .int .u32 q.val, .int .i64 q.left, .int .i64 q.reg, .int .i64 q.tag]] w (DoneOut w base v (doneZ x q)) := by
  have HBZ : Hid (broughtZ x.mem q = 0) := by
    have e : broughtZ x.mem q = 0 := by unfold broughtZ; rw [if_neg (by omega)]
    exact e
  rw [done_reg h (by omega) (by omega), HBZ.out, show q.reg.toNat = k by omega]
  obtain ⟨W, hW⟩ : ∃ W, W = ((w.alloc (.cells (staL x v).toArray 44)).alloc (.cells #[.bool q.store, .int .i64 q.op, .int .i64 q.addr, .int .i64 q.size, .int .u32 q.val, .int .i64 q.left, .int .i64 q.reg, .int .i64 q.tag] 54)).alloc (.cells Try.zeroCells44 44) := ⟨_, rfl⟩
  have hD := sta_begun3 x v q base w hv hb hW
  obtain ⟨Z, hZ⟩ : ∃ Z, Z = Try.zeroCells44.toList := ⟨_, rfl⟩
  rw [← hZ] at hD
  have HZ : Hid (Z.length = 92) := by rw [hZ]; exact (by rw [Array.length_toList]; exact zero_size : Try.zeroCells44.toList.length = 92)
  clear hZ
  have D0 := Lib.hid hD
  have s1 : W.cell? ⟨w.heap.size + 1, 0, none⟩ = some (.bool false) := by rw [← h]; exact hD.bq.cell rfl
  rw [h] at hW ⊢
  have s2 : W.cell? ⟨w.heap.size + 1, 1, none⟩ = some (.int .i64 q.op) := hD.bq.cell rfl
  have s3 : W.cell? ⟨w.heap.size + 1, 2, none⟩ = some (.int .i64 q.addr) := hD.bq.cell rfl
  have s7 : W.cell? ⟨w.heap.size + 1, 6, none⟩ = some (.int .i64 q.reg) := hD.bq.cell rfl
  have s8 : W.cell? ⟨w.heap.size + 1, 7, none⟩ = some (.int .i64 q.tag) := hD.bq.cell rfl
  have hsz := hD.sz
  have HX := Lib.hid hx
  have HS := Lib.hid hs
  have HQ := Lib.hid hq
  have HM := Lib.hid hm
  have HK := Lib.hid hk
  rw [hk] at s7
  have i1 : (1 : Int) ≤ k := by omega
  have i2 : (k : Int) ≤ 15 := by omega
  have i3 : (0 : Int) ≤ k := by omega
  clear hk
  clear hx hs hq hv hD
  obtain ⟨A7, c7, e7⟩ := (Row.of_own D0.out.own.mem).form
  have t3 := D0.out.bx.cell (sta_mem HX.out)
  rw [e7] at t3
  have hz0 := D0.out.bx.lt
  have t5 := D0.out.bx.cell (sta_cycle (x := x) (v := v))
  go_enter Try.func32, Try.ntmps32
  have HXa : Hid (Sta.Ok { x with a := { x.a with regs := x.a.regs.set k (0) } }) := ⟨HX.out.a.setreg k _, HX.out.e⟩
  have HXb : Hid (Sta.Ok { x with a := { x.a with regs := x.a.regs.set k (0), ready := x.a.ready.set k (wrap64 (x.cycle + 1)) } }) := ⟨(HX.out.a.setreg k (0)).setready k _, HX.out.e⟩
  go_wp2_with (first
    | (rw [← hW]; clear hW)
    | (refine wpList_put_cell rfl 27 _ _ rfl w.heap.size (1 + k) (.int .u32 (0)) rfl rfl rfl _ D0.out.bx (by rw [staL_len HX.out]; omega) (by kernel_rfl) ?_; intro y3 hbx hg; rw [set_areg HX.out (by omega)] at hbx; have D1 := Lib.hid ((D0.out.put hbx hg).swap (x' := { x with a := { x.a with regs := x.a.regs.set k (0) } }) rfl rfl rfl rfl rfl rfl rfl rfl rfl); have hz1 := D1.out.bx.lt; have s9 : y3.cell? ⟨w.heap.size + 1, 6, none⟩ = some (.int .i64 q.reg) := D1.out.bq.cell rfl; rw [HK.out] at s9; have t6 := D1.out.bx.cell (sta_cycle (x := { x with a := { x.a with regs := x.a.regs.set k (0) } }) (v := v)); have hq1 := D1.out.bq.lt; clear hbx hg)
    | (refine wpList_put_cell rfl 3 _ _ rfl w.heap.size (17 + k) (.int .i64 (wrap64 (x.cycle + 1))) rfl rfl rfl _ D1.out.bx (by rw [staL_len HXa.out]; omega) (by kernel_rfl) ?_; intro y4 hbx hg; rw [set_aready HXa.out (by omega)] at hbx; have D2 := Lib.hid ((D1.out.put hbx hg).swap (x' := { x with a := { x.a with regs := x.a.regs.set k (0), ready := x.a.ready.set k (wrap64 (x.cycle + 1)) } }) rfl rfl rfl rfl rfl rfl rfl rfl rfl); have hz2 := D2.out.bx.lt; clear hbx hg)
    | (refine wpList_load_box rfl 44 (.tmp 2) rfl w.heap.size 0 rfl (staL { x with a := { x.a with regs := x.a.regs.set k (0), ready := x.a.ready.set k (wrap64 (x.cycle + 1)) } } v) (staL { x with a := { x.a with regs := x.a.regs.set k (0), ready := x.a.ready.set k (wrap64 (x.cycle + 1)) } } v) D2.out.bx (fun j u hu => by rw [Nat.zero_add]; exact hu) _ Try.underlying44 rfl 92 sta_size (staL_len HXb.out) ?_)
    | (refine wpList_store_box rfl 44 (.tmp 4) (.tmp 90) rfl (w.heap.size + 2) 0 (staL { x with a := { x.a with regs := x.a.regs.set k (0), ready := x.a.ready.set k (wrap64 (x.cycle + 1)) } } v) rfl rfl Z D2.out.bz (by rw [HZ.out, staL_len HXb.out]; exact Nat.le_refl _) 92 sta_size (staL_len HXb.out) D2.out.own.one ?_; intro w9 hb9 hg9; rw [splice_whole _ _ (by rw [HZ.out, staL_len HXb.out])] at hb9; have X9 := Lib.hid hb9; have G9 := Lib.hid hg9; clear hb9 hg9))
  exact bodyPost_ret (v := .agg (staL { x with a := { x.a with regs := x.a.regs.set k (0), ready := x.a.ready.set k (wrap64 (x.cycle + 1)) } } v).toArray) (results_cell Try.results32 _ _ _ ⟨w.heap.size + 2, 0, none⟩ _ rfl (load_sta HXb.out X9.out)) rfl (D2.out.out G9.out rfl)

set_option maxHeartbeats 4000000 in
theorem refDone_load_low_zero (x : Sta) (v : Vs) (q : Rqs) (base : Nat) (w : World) (hx : x.Ok) (hv : StaOwn w base v x) (hb : base ≤ w.heap.size) (hs : StaFew x) (hm : ∀ b ∈ x.mem, 0 ≤ b ∧ b ≤ 255) (hq : q.Fits) (h : q.store = false) (ha : q.addr < 0) (hr : q.reg = 0) :
    Calls Try.prog 32 #[.agg (staL x v).toArray, .agg #[.bool q.store, .int .i64 q.op, .int .i64 q.addr, .int .i64 q.size, .int .u32 q.val, .int .i64 q.left, .int .i64 q.reg, .int .i64 q.tag]] w (DoneOut w base v (doneZ x q)) := by
  have HBZ : Hid (broughtZ x.mem q = 0) := by
    have e : broughtZ x.mem q = 0 := by unfold broughtZ; rw [if_neg (by omega)]
    exact e
  rw [done_not h (by omega) (by omega)]
  obtain ⟨W, hW⟩ : ∃ W, W = ((w.alloc (.cells (staL x v).toArray 44)).alloc (.cells #[.bool q.store, .int .i64 q.op, .int .i64 q.addr, .int .i64 q.size, .int .u32 q.val, .int .i64 q.left, .int .i64 q.reg, .int .i64 q.tag] 54)).alloc (.cells Try.zeroCells44 44) := ⟨_, rfl⟩
  have hD := sta_begun3 x v q base w hv hb hW
  obtain ⟨Z, hZ⟩ : ∃ Z, Z = Try.zeroCells44.toList := ⟨_, rfl⟩
  rw [← hZ] at hD
  have HZ : Hid (Z.length = 92) := by rw [hZ]; exact (by rw [Array.length_toList]; exact zero_size : Try.zeroCells44.toList.length = 92)
  clear hZ
  have D0 := Lib.hid hD
  have s1 : W.cell? ⟨w.heap.size + 1, 0, none⟩ = some (.bool false) := by rw [← h]; exact hD.bq.cell rfl
  rw [h] at hW ⊢
  have s2 : W.cell? ⟨w.heap.size + 1, 1, none⟩ = some (.int .i64 q.op) := hD.bq.cell rfl
  have s3 : W.cell? ⟨w.heap.size + 1, 2, none⟩ = some (.int .i64 q.addr) := hD.bq.cell rfl
  have s7 : W.cell? ⟨w.heap.size + 1, 6, none⟩ = some (.int .i64 q.reg) := hD.bq.cell rfl
  have s8 : W.cell? ⟨w.heap.size + 1, 7, none⟩ = some (.int .i64 q.tag) := hD.bq.cell rfl
  have hsz := hD.sz
  have HX := Lib.hid hx
  have HS := Lib.hid hs
  have HQ := Lib.hid hq
  have HM := Lib.hid hm
  rw [hr] at s7
  clear hr
  clear hx hs hq hv hD
  obtain ⟨A7, c7, e7⟩ := (Row.of_own D0.out.own.mem).form
  have t3 := D0.out.bx.cell (sta_mem HX.out)
  rw [e7] at t3
  have hz0 := D0.out.bx.lt
  go_enter Try.func32, Try.ntmps32
  go_wp2_with (first
    | (rw [← hW]; clear hW)
    | (refine wpList_load_box rfl 44 (.tmp 2) rfl w.heap.size 0 rfl (staL x v) (staL x v) D0.out.bx (fun j u hu => by rw [Nat.zero_add]; exact hu) _ Try.underlying44 rfl 92 sta_size (staL_len HX.out) ?_)
    | (refine wpList_store_box rfl 44 (.tmp 4) (.tmp 90) rfl (w.heap.size + 2) 0 (staL x v) rfl rfl Z D0.out.bz (by rw [HZ.out, staL_len HX.out]; exact Nat.le_refl _) 92 sta_size (staL_len HX.out) D0.out.own.one ?_; intro w9 hb9 hg9; rw [splice_whole _ _ (by rw [HZ.out, staL_len HX.out])] at hb9; have X9 := Lib.hid hb9; have G9 := Lib.hid hg9; clear hb9 hg9))
  exact bodyPost_ret (v := .agg (staL x v).toArray) (results_cell Try.results32 _ _ _ ⟨w.heap.size + 2, 0, none⟩ _ rfl (load_sta HX.out X9.out)) rfl (D0.out.out G9.out rfl)

set_option maxHeartbeats 4000000 in
theorem refDone_load_low_big (x : Sta) (v : Vs) (q : Rqs) (base : Nat) (w : World) (hx : x.Ok) (hv : StaOwn w base v x) (hb : base ≤ w.heap.size) (hs : StaFew x) (hm : ∀ b ∈ x.mem, 0 ≤ b ∧ b ≤ 255) (hq : q.Fits) (h : q.store = false) (ha : q.addr < 0) (hr : 15 < q.reg) :
    Calls Try.prog 32 #[.agg (staL x v).toArray, .agg #[.bool q.store, .int .i64 q.op, .int .i64 q.addr, .int .i64 q.size, .int .u32 q.val, .int .i64 q.left, .int .i64 q.reg, .int .i64 q.tag]] w (DoneOut w base v (doneZ x q)) := by
  have HBZ : Hid (broughtZ x.mem q = 0) := by
    have e : broughtZ x.mem q = 0 := by unfold broughtZ; rw [if_neg (by omega)]
    exact e
  rw [done_not h (by omega) (by omega)]
  obtain ⟨W, hW⟩ : ∃ W, W = ((w.alloc (.cells (staL x v).toArray 44)).alloc (.cells #[.bool q.store, .int .i64 q.op, .int .i64 q.addr, .int .i64 q.size, .int .u32 q.val, .int .i64 q.left, .int .i64 q.reg, .int .i64 q.tag] 54)).alloc (.cells Try.zeroCells44 44) := ⟨_, rfl⟩
  have hD := sta_begun3 x v q base w hv hb hW
  obtain ⟨Z, hZ⟩ : ∃ Z, Z = Try.zeroCells44.toList := ⟨_, rfl⟩
  rw [← hZ] at hD
  have HZ : Hid (Z.length = 92) := by rw [hZ]; exact (by rw [Array.length_toList]; exact zero_size : Try.zeroCells44.toList.length = 92)
  clear hZ
  have D0 := Lib.hid hD
  have s1 : W.cell? ⟨w.heap.size + 1, 0, none⟩ = some (.bool false) := by rw [← h]; exact hD.bq.cell rfl
  rw [h] at hW ⊢
  have s2 : W.cell? ⟨w.heap.size + 1, 1, none⟩ = some (.int .i64 q.op) := hD.bq.cell rfl
  have s3 : W.cell? ⟨w.heap.size + 1, 2, none⟩ = some (.int .i64 q.addr) := hD.bq.cell rfl
  have s7 : W.cell? ⟨w.heap.size + 1, 6, none⟩ = some (.int .i64 q.reg) := hD.bq.cell rfl
  have s8 : W.cell? ⟨w.heap.size + 1, 7, none⟩ = some (.int .i64 q.tag) := hD.bq.cell rfl
  have hsz := hD.sz
  have HX := Lib.hid hx
  have HS := Lib.hid hs
  have HQ := Lib.hid hq
  have HM := Lib.hid hm
  have i1 : ¬ q.reg ≤ 15 := by omega
  have i2 : 1 ≤ q.reg := by omega
  have i3 : ¬ q.reg < 0 := by omega
  clear hx hs hq hv hD
  obtain ⟨A7, c7, e7⟩ := (Row.of_own D0.out.own.mem).form
  have t3 := D0.out.bx.cell (sta_mem HX.out)
  rw [e7] at t3
  have hz0 := D0.out.bx.lt
  go_enter Try.func32, Try.ntmps32
  go_wp2_with (first
    | (rw [← hW]; clear hW)
    | (refine wpList_load_box rfl 44 (.tmp 2) rfl w.heap.size 0 rfl (staL x v) (staL x v) D0.out.bx (fun j u hu => by rw [Nat.zero_add]; exact hu) _ Try.underlying44 rfl 92 sta_size (staL_len HX.out) ?_)
    | (refine wpList_store_box rfl 44 (.tmp 4) (.tmp 90) rfl (w.heap.size + 2) 0 (staL x v) rfl rfl Z D0.out.bz (by rw [HZ.out, staL_len HX.out]; exact Nat.le_refl _) 92 sta_size (staL_len HX.out) D0.out.own.one ?_; intro w9 hb9 hg9; rw [splice_whole _ _ (by rw [HZ.out, staL_len HX.out])] at hb9; have X9 := Lib.hid hb9; have G9 := Lib.hid hg9; clear hb9 hg9))
  exact bodyPost_ret (v := .agg (staL x v).toArray) (results_cell Try.results32 _ _ _ ⟨w.heap.size + 2, 0, none⟩ _ rfl (load_sta HX.out X9.out)) rfl (D0.out.out G9.out rfl)

set_option maxHeartbeats 4000000 in
theorem refDone_load_high_slot (x : Sta) (v : Vs) (q : Rqs) (base : Nat) (w : World) (hx : x.Ok) (hv : StaOwn w base v x) (hb : base ≤ w.heap.size) (hs : StaFew x) (hm : ∀ b ∈ x.mem, 0 ≤ b ∧ b ≤ 255) (hq : q.Fits) (h : q.store = false) (ha : 4294967296 ≤ q.addr) (hr : q.reg < 0) :
    Calls Try.prog 32 #[.agg (staL x v).toArray, .agg #[.bool q.store, .int .i64 q.op, .int .i64 q.addr, .int .i64 q.size, .int .u32 q.val, .int .i64 q.left, .int .i64 q.reg, .int .i64 q.tag]] w (DoneOut w base v (doneZ x q)) := by
  have HBZ : Hid (broughtZ x.mem q = 0) := by
    have e : broughtZ x.mem q = 0 := by unfold broughtZ; rw [if_neg (by omega)]
    exact e
  rw [done_slot h hr, HBZ.out]
  obtain ⟨W, hW⟩ : ∃ W, W = ((w.alloc (.cells (staL x v).toArray 44)).alloc (.cells #[.bool q.store, .int .i64 q.op, .int .i64 q.addr, .int .i64 q.size, .int .u32 q.val, .int .i64 q.left, .int .i64 q.reg, .int .i64 q.tag] 54)).alloc (.cells Try.zeroCells44 44) := ⟨_, rfl⟩
  have hD := sta_begun3 x v q base w hv hb hW
  obtain ⟨Z, hZ⟩ : ∃ Z, Z = Try.zeroCells44.toList := ⟨_, rfl⟩
  rw [← hZ] at hD
  have HZ : Hid (Z.length = 92) := by rw [hZ]; exact (by rw [Array.length_toList]; exact zero_size : Try.zeroCells44.toList.length = 92)
  clear hZ
  have D0 := Lib.hid hD
  have s1 : W.cell? ⟨w.heap.size + 1, 0, none⟩ = some (.bool false) := by rw [← h]; exact hD.bq.cell rfl
  rw [h] at hW ⊢
  have s2 : W.cell? ⟨w.heap.size + 1, 1, none⟩ = some (.int .i64 q.op) := hD.bq.cell rfl
  have s3 : W.cell? ⟨w.heap.size + 1, 2, none⟩ = some (.int .i64 q.addr) := hD.bq.cell rfl
  have s7 : W.cell? ⟨w.heap.size + 1, 6, none⟩ = some (.int .i64 q.reg) := hD.bq.cell rfl
  have s8 : W.cell? ⟨w.heap.size + 1, 7, none⟩ = some (.int .i64 q.tag) := hD.bq.cell rfl
  have hsz := hD.sz
  have HX := Lib.hid hx
  have HS := Lib.hid hs
  have HQ := Lib.hid hq
  have HM := Lib.hid hm
  clear hx hs hq hv hD
  obtain ⟨A7, c7, e7⟩ := (Row.of_own D0.out.own.mem).form
  have t3 := D0.out.bx.cell (sta_mem HX.out)
  rw [e7] at t3
  have hz0 := D0.out.bx.lt
  obtain ⟨A0, c0, e0⟩ := (Row.of_own D0.out.own.ldq).form
  have t4 := D0.out.bx.cell (sta_ldq HX.out)
  rw [e0] at t4
  go_enter Try.func32, Try.ntmps32
  go_wp2_with (first | (rw [← hW]; clear hW))
  refine (refFill_any A0 c0 x.ldq q.tag (0) W (by have h9 := Row.of_own D0.out.own.ldq; rw [e0] at h9; exact h9) (by have := HS.out.ldq; omega)).mono ?_
  rintro e y2 ⟨u, rfl, o1, b1⟩
  have D1 := Lib.hid ((D0.out.below b1).row_ldq (m := fillZ q.tag (0) x.ldq) (own_less o1 D0.out.sz))
  obtain ⟨B1, kb, rfl⟩ := (Row.of_own o1).form
  have hz1 := D1.out.bx.lt
  obtain ⟨nl, hnl⟩ : ∃ nl, nl = (fillZ q.tag (0) x.ldq).length := ⟨_, rfl⟩
  rw [← hnl] at D1
  rw [← hnl]
  clear hnl o1 b1 s1 s2 s3 s7 s8 t3 t4
  go_wp2_with (first
    | (refine wpList_put_cell rfl 34 _ _ rfl w.heap.size 77 (.slice B1 nl kb) rfl rfl rfl _ D1.out.bx (by rw [staL_len HX.out]; omega) (by kernel_rfl) ?_; intro y3 hbx hg; rw [set_ldq HX.out] at hbx; have D2 := Lib.hid (D1.out.put hbx hg); have hz2 := D2.out.bx.lt; clear hbx hg)
    | (refine wpList_load_box rfl 44 (.tmp 2) rfl w.heap.size 0 rfl (staL x { v with ldq := .slice B1 nl kb }) (staL x { v with ldq := .slice B1 nl kb }) D2.out.bx (fun j u hu => by rw [Nat.zero_add]; exact hu) _ Try.underlying44 rfl 92 sta_size (staL_len HX.out) ?_)
    | (refine wpList_store_box rfl 44 (.tmp 4) (.tmp 90) rfl (w.heap.size + 2) 0 (staL x { v with ldq := .slice B1 nl kb }) rfl rfl Z D2.out.bz (by rw [HZ.out, staL_len HX.out]; exact Nat.le_refl _) 92 sta_size (staL_len HX.out) D2.out.own.one ?_; intro w9 hb9 hg9; rw [splice_whole _ _ (by rw [HZ.out, staL_len HX.out])] at hb9; have X9 := Lib.hid hb9; have G9 := Lib.hid hg9; clear hb9 hg9))
  exact bodyPost_ret (v := .agg (staL x { v with ldq := .slice B1 nl kb }).toArray) (results_cell Try.results32 _ _ _ ⟨w.heap.size + 2, 0, none⟩ _ rfl (load_sta HX.out X9.out)) rfl (D2.out.out G9.out rfl)

set_option maxHeartbeats 4000000 in
theorem refDone_load_high_reg (x : Sta) (v : Vs) (q : Rqs) (base : Nat) (w : World) (hx : x.Ok) (hv : StaOwn w base v x) (hb : base ≤ w.heap.size) (hs : StaFew x) (hm : ∀ b ∈ x.mem, 0 ≤ b ∧ b ≤ 255) (hq : q.Fits) (h : q.store = false) (ha : 4294967296 ≤ q.addr) (k : Nat) (hk : q.reg = k) (k1 : 1 ≤ k) (k2 : k ≤ 15) :
    Calls Try.prog 32 #[.agg (staL x v).toArray, .agg #[.bool q.store, .int .i64 q.op, .int .i64 q.addr, .int .i64 q.size, .int .u32 q.val, .int .i64 q.left, .int .i64 q.reg, .int .i64 q.tag]] w (DoneOut w base v (doneZ x q)) := by
  have HBZ : Hid (broughtZ x.mem q = 0) := by
    have e : broughtZ x.mem q = 0 := by unfold broughtZ; rw [if_neg (by omega)]
    exact e
  rw [done_reg h (by omega) (by omega), HBZ.out, show q.reg.toNat = k by omega]
  obtain ⟨W, hW⟩ : ∃ W, W = ((w.alloc (.cells (staL x v).toArray 44)).alloc (.cells #[.bool q.store, .int .i64 q.op, .int .i64 q.addr, .int .i64 q.size, .int .u32 q.val, .int .i64 q.left, .int .i64 q.reg, .int .i64 q.tag] 54)).alloc (.cells Try.zeroCells44 44) := ⟨_, rfl⟩
  have hD := sta_begun3 x v q base w hv hb hW
  obtain ⟨Z, hZ⟩ : ∃ Z, Z = Try.zeroCells44.toList := ⟨_, rfl⟩
  rw [← hZ] at hD
  have HZ : Hid (Z.length = 92) := by rw [hZ]; exact (by rw [Array.length_toList]; exact zero_size : Try.zeroCells44.toList.length = 92)
  clear hZ
  have D0 := Lib.hid hD
  have s1 : W.cell? ⟨w.heap.size + 1, 0, none⟩ = some (.bool false) := by rw [← h]; exact hD.bq.cell rfl
  rw [h] at hW ⊢
  have s2 : W.cell? ⟨w.heap.size + 1, 1, none⟩ = some (.int .i64 q.op) := hD.bq.cell rfl
  have s3 : W.cell? ⟨w.heap.size + 1, 2, none⟩ = some (.int .i64 q.addr) := hD.bq.cell rfl
  have s7 : W.cell? ⟨w.heap.size + 1, 6, none⟩ = some (.int .i64 q.reg) := hD.bq.cell rfl
  have s8 : W.cell? ⟨w.heap.size + 1, 7, none⟩ = some (.int .i64 q.tag) := hD.bq.cell rfl
  have hsz := hD.sz
  have HX := Lib.hid hx
  have HS := Lib.hid hs
  have HQ := Lib.hid hq
  have HM := Lib.hid hm
  have HK := Lib.hid hk
  rw [hk] at s7
  have i1 : (1 : Int) ≤ k := by omega
  have i2 : (k : Int) ≤ 15 := by omega
  have i3 : (0 : Int) ≤ k := by omega
  clear hk
  clear hx hs hq hv hD
  obtain ⟨A7, c7, e7⟩ := (Row.of_own D0.out.own.mem).form
  have t3 := D0.out.bx.cell (sta_mem HX.out)
  rw [e7] at t3
  have hz0 := D0.out.bx.lt
  have t5 := D0.out.bx.cell (sta_cycle (x := x) (v := v))
  go_enter Try.func32, Try.ntmps32
  have HXa : Hid (Sta.Ok { x with a := { x.a with regs := x.a.regs.set k (0) } }) := ⟨HX.out.a.setreg k _, HX.out.e⟩
  have HXb : Hid (Sta.Ok { x with a := { x.a with regs := x.a.regs.set k (0), ready := x.a.ready.set k (wrap64 (x.cycle + 1)) } }) := ⟨(HX.out.a.setreg k (0)).setready k _, HX.out.e⟩
  go_wp2_with (first
    | (rw [← hW]; clear hW)
    | (refine wpList_put_cell rfl 27 _ _ rfl w.heap.size (1 + k) (.int .u32 (0)) rfl rfl rfl _ D0.out.bx (by rw [staL_len HX.out]; omega) (by kernel_rfl) ?_; intro y3 hbx hg; rw [set_areg HX.out (by omega)] at hbx; have D1 := Lib.hid ((D0.out.put hbx hg).swap (x' := { x with a := { x.a with regs := x.a.regs.set k (0) } }) rfl rfl rfl rfl rfl rfl rfl rfl rfl); have hz1 := D1.out.bx.lt; have s9 : y3.cell? ⟨w.heap.size + 1, 6, none⟩ = some (.int .i64 q.reg) := D1.out.bq.cell rfl; rw [HK.out] at s9; have t6 := D1.out.bx.cell (sta_cycle (x := { x with a := { x.a with regs := x.a.regs.set k (0) } }) (v := v)); have hq1 := D1.out.bq.lt; clear hbx hg)
    | (refine wpList_put_cell rfl 3 _ _ rfl w.heap.size (17 + k) (.int .i64 (wrap64 (x.cycle + 1))) rfl rfl rfl _ D1.out.bx (by rw [staL_len HXa.out]; omega) (by kernel_rfl) ?_; intro y4 hbx hg; rw [set_aready HXa.out (by omega)] at hbx; have D2 := Lib.hid ((D1.out.put hbx hg).swap (x' := { x with a := { x.a with regs := x.a.regs.set k (0), ready := x.a.ready.set k (wrap64 (x.cycle + 1)) } }) rfl rfl rfl rfl rfl rfl rfl rfl rfl); have hz2 := D2.out.bx.lt; clear hbx hg)
    | (refine wpList_load_box rfl 44 (.tmp 2) rfl w.heap.size 0 rfl (staL { x with a := { x.a with regs := x.a.regs.set k (0), ready := x.a.ready.set k (wrap64 (x.cycle + 1)) } } v) (staL { x with a := { x.a with regs := x.a.regs.set k (0), ready := x.a.ready.set k (wrap64 (x.cycle + 1)) } } v) D2.out.bx (fun j u hu => by rw [Nat.zero_add]; exact hu) _ Try.underlying44 rfl 92 sta_size (staL_len HXb.out) ?_)
    | (refine wpList_store_box rfl 44 (.tmp 4) (.tmp 90) rfl (w.heap.size + 2) 0 (staL { x with a := { x.a with regs := x.a.regs.set k (0), ready := x.a.ready.set k (wrap64 (x.cycle + 1)) } } v) rfl rfl Z D2.out.bz (by rw [HZ.out, staL_len HXb.out]; exact Nat.le_refl _) 92 sta_size (staL_len HXb.out) D2.out.own.one ?_; intro w9 hb9 hg9; rw [splice_whole _ _ (by rw [HZ.out, staL_len HXb.out])] at hb9; have X9 := Lib.hid hb9; have G9 := Lib.hid hg9; clear hb9 hg9))
  exact bodyPost_ret (v := .agg (staL { x with a := { x.a with regs := x.a.regs.set k (0), ready := x.a.ready.set k (wrap64 (x.cycle + 1)) } } v).toArray) (results_cell Try.results32 _ _ _ ⟨w.heap.size + 2, 0, none⟩ _ rfl (load_sta HXb.out X9.out)) rfl (D2.out.out G9.out rfl)

set_option maxHeartbeats 4000000 in
theorem refDone_load_high_zero (x : Sta) (v : Vs) (q : Rqs) (base : Nat) (w : World) (hx : x.Ok) (hv : StaOwn w base v x) (hb : base ≤ w.heap.size) (hs : StaFew x) (hm : ∀ b ∈ x.mem, 0 ≤ b ∧ b ≤ 255) (hq : q.Fits) (h : q.store = false) (ha : 4294967296 ≤ q.addr) (hr : q.reg = 0) :
    Calls Try.prog 32 #[.agg (staL x v).toArray, .agg #[.bool q.store, .int .i64 q.op, .int .i64 q.addr, .int .i64 q.size, .int .u32 q.val, .int .i64 q.left, .int .i64 q.reg, .int .i64 q.tag]] w (DoneOut w base v (doneZ x q)) := by
  have HBZ : Hid (broughtZ x.mem q = 0) := by
    have e : broughtZ x.mem q = 0 := by unfold broughtZ; rw [if_neg (by omega)]
    exact e
  rw [done_not h (by omega) (by omega)]
  obtain ⟨W, hW⟩ : ∃ W, W = ((w.alloc (.cells (staL x v).toArray 44)).alloc (.cells #[.bool q.store, .int .i64 q.op, .int .i64 q.addr, .int .i64 q.size, .int .u32 q.val, .int .i64 q.left, .int .i64 q.reg, .int .i64 q.tag] 54)).alloc (.cells Try.zeroCells44 44) := ⟨_, rfl⟩
  have hD := sta_begun3 x v q base w hv hb hW
  obtain ⟨Z, hZ⟩ : ∃ Z, Z = Try.zeroCells44.toList := ⟨_, rfl⟩
  rw [← hZ] at hD
  have HZ : Hid (Z.length = 92) := by rw [hZ]; exact (by rw [Array.length_toList]; exact zero_size : Try.zeroCells44.toList.length = 92)
  clear hZ
  have D0 := Lib.hid hD
  have s1 : W.cell? ⟨w.heap.size + 1, 0, none⟩ = some (.bool false) := by rw [← h]; exact hD.bq.cell rfl
  rw [h] at hW ⊢
  have s2 : W.cell? ⟨w.heap.size + 1, 1, none⟩ = some (.int .i64 q.op) := hD.bq.cell rfl
  have s3 : W.cell? ⟨w.heap.size + 1, 2, none⟩ = some (.int .i64 q.addr) := hD.bq.cell rfl
  have s7 : W.cell? ⟨w.heap.size + 1, 6, none⟩ = some (.int .i64 q.reg) := hD.bq.cell rfl
  have s8 : W.cell? ⟨w.heap.size + 1, 7, none⟩ = some (.int .i64 q.tag) := hD.bq.cell rfl
  have hsz := hD.sz
  have HX := Lib.hid hx
  have HS := Lib.hid hs
  have HQ := Lib.hid hq
  have HM := Lib.hid hm
  rw [hr] at s7
  clear hr
  clear hx hs hq hv hD
  obtain ⟨A7, c7, e7⟩ := (Row.of_own D0.out.own.mem).form
  have t3 := D0.out.bx.cell (sta_mem HX.out)
  rw [e7] at t3
  have hz0 := D0.out.bx.lt
  go_enter Try.func32, Try.ntmps32
  go_wp2_with (first
    | (rw [← hW]; clear hW)
    | (refine wpList_load_box rfl 44 (.tmp 2) rfl w.heap.size 0 rfl (staL x v) (staL x v) D0.out.bx (fun j u hu => by rw [Nat.zero_add]; exact hu) _ Try.underlying44 rfl 92 sta_size (staL_len HX.out) ?_)
    | (refine wpList_store_box rfl 44 (.tmp 4) (.tmp 90) rfl (w.heap.size + 2) 0 (staL x v) rfl rfl Z D0.out.bz (by rw [HZ.out, staL_len HX.out]; exact Nat.le_refl _) 92 sta_size (staL_len HX.out) D0.out.own.one ?_; intro w9 hb9 hg9; rw [splice_whole _ _ (by rw [HZ.out, staL_len HX.out])] at hb9; have X9 := Lib.hid hb9; have G9 := Lib.hid hg9; clear hb9 hg9))
  exact bodyPost_ret (v := .agg (staL x v).toArray) (results_cell Try.results32 _ _ _ ⟨w.heap.size + 2, 0, none⟩ _ rfl (load_sta HX.out X9.out)) rfl (D0.out.out G9.out rfl)

set_option maxHeartbeats 4000000 in
theorem refDone_load_high_big (x : Sta) (v : Vs) (q : Rqs) (base : Nat) (w : World) (hx : x.Ok) (hv : StaOwn w base v x) (hb : base ≤ w.heap.size) (hs : StaFew x) (hm : ∀ b ∈ x.mem, 0 ≤ b ∧ b ≤ 255) (hq : q.Fits) (h : q.store = false) (ha : 4294967296 ≤ q.addr) (hr : 15 < q.reg) :
    Calls Try.prog 32 #[.agg (staL x v).toArray, .agg #[.bool q.store, .int .i64 q.op, .int .i64 q.addr, .int .i64 q.size, .int .u32 q.val, .int .i64 q.left, .int .i64 q.reg, .int .i64 q.tag]] w (DoneOut w base v (doneZ x q)) := by
  have HBZ : Hid (broughtZ x.mem q = 0) := by
    have e : broughtZ x.mem q = 0 := by unfold broughtZ; rw [if_neg (by omega)]
    exact e
  rw [done_not h (by omega) (by omega)]
  obtain ⟨W, hW⟩ : ∃ W, W = ((w.alloc (.cells (staL x v).toArray 44)).alloc (.cells #[.bool q.store, .int .i64 q.op, .int .i64 q.addr, .int .i64 q.size, .int .u32 q.val, .int .i64 q.left, .int .i64 q.reg, .int .i64 q.tag] 54)).alloc (.cells Try.zeroCells44 44) := ⟨_, rfl⟩
  have hD := sta_begun3 x v q base w hv hb hW
  obtain ⟨Z, hZ⟩ : ∃ Z, Z = Try.zeroCells44.toList := ⟨_, rfl⟩
  rw [← hZ] at hD
  have HZ : Hid (Z.length = 92) := by rw [hZ]; exact (by rw [Array.length_toList]; exact zero_size : Try.zeroCells44.toList.length = 92)
  clear hZ
  have D0 := Lib.hid hD
  have s1 : W.cell? ⟨w.heap.size + 1, 0, none⟩ = some (.bool false) := by rw [← h]; exact hD.bq.cell rfl
  rw [h] at hW ⊢
  have s2 : W.cell? ⟨w.heap.size + 1, 1, none⟩ = some (.int .i64 q.op) := hD.bq.cell rfl
  have s3 : W.cell? ⟨w.heap.size + 1, 2, none⟩ = some (.int .i64 q.addr) := hD.bq.cell rfl
  have s7 : W.cell? ⟨w.heap.size + 1, 6, none⟩ = some (.int .i64 q.reg) := hD.bq.cell rfl
  have s8 : W.cell? ⟨w.heap.size + 1, 7, none⟩ = some (.int .i64 q.tag) := hD.bq.cell rfl
  have hsz := hD.sz
  have HX := Lib.hid hx
  have HS := Lib.hid hs
  have HQ := Lib.hid hq
  have HM := Lib.hid hm
  have i1 : ¬ q.reg ≤ 15 := by omega
  have i2 : 1 ≤ q.reg := by omega
  have i3 : ¬ q.reg < 0 := by omega
  clear hx hs hq hv hD
  obtain ⟨A7, c7, e7⟩ := (Row.of_own D0.out.own.mem).form
  have t3 := D0.out.bx.cell (sta_mem HX.out)
  rw [e7] at t3
  have hz0 := D0.out.bx.lt
  go_enter Try.func32, Try.ntmps32
  go_wp2_with (first
    | (rw [← hW]; clear hW)
    | (refine wpList_load_box rfl 44 (.tmp 2) rfl w.heap.size 0 rfl (staL x v) (staL x v) D0.out.bx (fun j u hu => by rw [Nat.zero_add]; exact hu) _ Try.underlying44 rfl 92 sta_size (staL_len HX.out) ?_)
    | (refine wpList_store_box rfl 44 (.tmp 4) (.tmp 90) rfl (w.heap.size + 2) 0 (staL x v) rfl rfl Z D0.out.bz (by rw [HZ.out, staL_len HX.out]; exact Nat.le_refl _) 92 sta_size (staL_len HX.out) D0.out.own.one ?_; intro w9 hb9 hg9; rw [splice_whole _ _ (by rw [HZ.out, staL_len HX.out])] at hb9; have X9 := Lib.hid hb9; have G9 := Lib.hid hg9; clear hb9 hg9))
  exact bodyPost_ret (v := .agg (staL x v).toArray) (results_cell Try.results32 _ _ _ ⟨w.heap.size + 2, 0, none⟩ _ rfl (load_sta HX.out X9.out)) rfl (D0.out.out G9.out rfl)

set_option maxHeartbeats 4000000 in
theorem refDone_any (x : Sta) (v : Vs) (q : Rqs) (base : Nat) (w : World) (hx : x.Ok) (hv : StaOwn w base v x) (hb : base ≤ w.heap.size) (hs : StaFew x) (hm : ∀ b ∈ x.mem, 0 ≤ b ∧ b ≤ 255) (hq : q.Fits) :
    Calls Try.prog 32 #[.agg (staL x v).toArray, .agg #[.bool q.store, .int .i64 q.op, .int .i64 q.addr, .int .i64 q.size, .int .u32 q.val, .int .i64 q.left, .int .i64 q.reg, .int .i64 q.tag]] w (DoneOut w base v (doneZ x q)) := by
  cases h : q.store with
  | true =>
    rw [← h]
    cases h5 : x.saq with
    | nil => exact refDone_store_nil x v q base w hx hv hb hs hm hq h h5
    | cons e0 r =>
      obtain ⟨A5, c5, e5⟩ := (Row.of_own hv.saq).form
      by_cases hc : c5 = 1
      · subst hc
        exact refDone_store_one x v q base w hx hv hb hs hm hq h e0 r h5 A5 e5
      · have hcap := Row.of_own hv.saq
        rw [e5] at hcap
        have := hcap.cap
        rw [h5, List.length_cons] at this
        exact refDone_store_more x v q base w hx hv hb hs hm hq h e0 r h5 A5 c5 e5 (by omega)
  | false =>
    rw [← h]
    by_cases hr : q.reg < 0
    · by_cases ha : q.addr < 0
      · exact refDone_load_low_slot x v q base w hx hv hb hs hm hq h ha hr
      · by_cases ha2 : q.addr < 4294967296
        · exact refDone_load_in_slot x v q base w hx hv hb hs hm hq h (by omega) ha2 hr
        · exact refDone_load_high_slot x v q base w hx hv hb hs hm hq h (by omega) hr
    · by_cases hr2 : 1 ≤ q.reg ∧ q.reg ≤ 15
      · obtain ⟨k, hk⟩ : ∃ k : Nat, q.reg = k := ⟨q.reg.toNat, by omega⟩
        by_cases ha : q.addr < 0
        · exact refDone_load_low_reg x v q base w hx hv hb hs hm hq h ha k hk (by omega) (by omega)
        · by_cases ha2 : q.addr < 4294967296
          · exact refDone_load_in_reg x v q base w hx hv hb hs hm hq h (by omega) ha2 k hk (by omega) (by omega)
          · exact refDone_load_high_reg x v q base w hx hv hb hs hm hq h (by omega) k hk (by omega) (by omega)
      · by_cases h0 : q.reg = 0
        · by_cases ha : q.addr < 0
          · exact refDone_load_low_zero x v q base w hx hv hb hs hm hq h ha h0
          · by_cases ha2 : q.addr < 4294967296
            · exact refDone_load_in_zero x v q base w hx hv hb hs hm hq h (by omega) ha2 h0
            · exact refDone_load_high_zero x v q base w hx hv hb hs hm hq h (by omega) h0
        · by_cases ha : q.addr < 0
          · exact refDone_load_low_big x v q base w hx hv hb hs hm hq h ha (by omega)
          · by_cases ha2 : q.addr < 4294967296
            · exact refDone_load_in_big x v q base w hx hv hb hs hm hq h (by omega) ha2 (by omega)
            · exact refDone_load_high_big x v q base w hx hv hb hs hm hq h (by omega) (by omega)
end Go.Proofs.Ythhoigkmmlkfcaa.Words

/- An argument that is a struct of 12 ints by value (api.Config): its numbers. -/
namespace Go.Proofs.Ythhoigkmmlkfcaa.Words
set_option maxRecDepth 100000
open Go.ChangeShapes Go.WideShapes Go.ChangeAt Go.RowKit

/-- The numbers. -/
structure Cfg where
  ldq : Int
  sdq : Int
  aeq : Int
  abq : Int
  ebq : Int
  saq : Int
  banks : Int
  flight : Int
  slip : Int
  lat : Int
  mul : Int
  div : Int
/-- They are of Go's int. -/
def Cfg.Fits (i : Cfg) : Prop :=
  (-9223372036854775808 ≤ i.ldq ∧ i.ldq ≤ 9223372036854775807) ∧ (-9223372036854775808 ≤ i.sdq ∧ i.sdq ≤ 9223372036854775807) ∧ (-9223372036854775808 ≤ i.aeq ∧ i.aeq ≤ 9223372036854775807) ∧ (-9223372036854775808 ≤ i.abq ∧ i.abq ≤ 9223372036854775807) ∧ (-9223372036854775808 ≤ i.ebq ∧ i.ebq ≤ 9223372036854775807) ∧ (-9223372036854775808 ≤ i.saq ∧ i.saq ≤ 9223372036854775807) ∧ (-9223372036854775808 ≤ i.banks ∧ i.banks ≤ 9223372036854775807) ∧ (-9223372036854775808 ≤ i.flight ∧ i.flight ≤ 9223372036854775807) ∧ (-9223372036854775808 ≤ i.slip ∧ i.slip ≤ 9223372036854775807) ∧ (-9223372036854775808 ≤ i.lat ∧ i.lat ≤ 9223372036854775807) ∧ (-9223372036854775808 ≤ i.mul ∧ i.mul ≤ 9223372036854775807) ∧ (-9223372036854775808 ≤ i.div ∧ i.div ≤ 9223372036854775807)

section
variable {H : Type} {enc : TypeId × Value → H} {w : World} {base : Nat} {spare : Nat → Bool} {held : Bool}

def cfgCells (i : Cfg) : List Value := [.int .i64 i.ldq, .int .i64 i.sdq, .int .i64 i.aeq, .int .i64 i.abq, .int .i64 i.ebq, .int .i64 i.saq, .int .i64 i.banks, .int .i64 i.flight, .int .i64 i.slip, .int .i64 i.lat, .int .i64 i.mul, .int .i64 i.div]

theorem cfg_cells {fuel : Nat} {cs : List Value} {x : DataW H × List MemPlace} (h : DataW.trod enc Try.prog w base spare held fuel 23 cs = some x) :
    ∃ i : Cfg, i.Fits ∧ cs = cfgCells i := by
  obtain ⟨xs, n, _, _, hlen, hxl, hg⟩ := DataW.trod_struct Try.underlying23 h
  have hC : Try.prog.cellsOf 23 = 12 := by kernel_rfl
  have hc1 : Try.prog.cellsOf 3 = 1 := by kernel_rfl
  rw [hC] at hlen
  have hxl' : xs.length = 12 := hxl
  match cs, hlen with
  | [c0, c1, c2, c3, c4, c5, c6, c7, c8, c9, c10, c11], _ =>
    have g : ∀ (j : Nat) (hj : j < 12), DataW.trod enc Try.prog w base spare held n 3 (([c0, c1, c2, c3, c4, c5, c6, c7, c8, c9, c10, c11].drop j).take 1) = some xs[j] := by
      intro j hj
      rw [← List.getElem?_eq_getElem (by omega), ← hc1]
      match j, hj with
      | 0, _ => exact hg 0 _ rfl
      | 1, _ => exact hg 1 _ rfl
      | 2, _ => exact hg 2 _ rfl
      | 3, _ => exact hg 3 _ rfl
      | 4, _ => exact hg 4 _ rfl
      | 5, _ => exact hg 5 _ rfl
      | 6, _ => exact hg 6 _ rfl
      | 7, _ => exact hg 7 _ rfl
      | 8, _ => exact hg 8 _ rfl
      | 9, _ => exact hg 9 _ rfl
      | 10, _ => exact hg 10 _ rfl
      | 11, _ => exact hg 11 _ rfl
    obtain ⟨n0, e0, _, f0⟩ := DataW.trod_int Try.underlying3 (g 0 (by omega))
    obtain ⟨n1, e1, _, f1⟩ := DataW.trod_int Try.underlying3 (g 1 (by omega))
    obtain ⟨n2, e2, _, f2⟩ := DataW.trod_int Try.underlying3 (g 2 (by omega))
    obtain ⟨n3, e3, _, f3⟩ := DataW.trod_int Try.underlying3 (g 3 (by omega))
    obtain ⟨n4, e4, _, f4⟩ := DataW.trod_int Try.underlying3 (g 4 (by omega))
    obtain ⟨n5, e5, _, f5⟩ := DataW.trod_int Try.underlying3 (g 5 (by omega))
    obtain ⟨n6, e6, _, f6⟩ := DataW.trod_int Try.underlying3 (g 6 (by omega))
    obtain ⟨n7, e7, _, f7⟩ := DataW.trod_int Try.underlying3 (g 7 (by omega))
    obtain ⟨n8, e8, _, f8⟩ := DataW.trod_int Try.underlying3 (g 8 (by omega))
    obtain ⟨n9, e9, _, f9⟩ := DataW.trod_int Try.underlying3 (g 9 (by omega))
    obtain ⟨n10, e10, _, f10⟩ := DataW.trod_int Try.underlying3 (g 10 (by omega))
    obtain ⟨n11, e11, _, f11⟩ := DataW.trod_int Try.underlying3 (g 11 (by omega))
    simp only [List.drop_zero, List.take_succ_cons, List.take_zero, List.drop_succ_cons, List.cons.injEq, and_true] at e0 e1 e2 e3 e4 e5 e6 e7 e8 e9 e10 e11
    subst e0 e1 e2 e3 e4 e5 e6 e7 e8 e9 e10 e11
    exact ⟨⟨n0, n1, n2, n3, n4, n5, n6, n7, n8, n9, n10, n11⟩, ⟨bounds_i64 f0, bounds_i64 f1, bounds_i64 f2, bounds_i64 f3, bounds_i64 f4, bounds_i64 f5, bounds_i64 f6, bounds_i64 f7, bounds_i64 f8, bounds_i64 f9, bounds_i64 f10, bounds_i64 f11⟩, rfl⟩

theorem open_cfg {r : Reach} {b0 : Nat} {v : Value} {d : DataW H} {ps : List MemPlace} (hval : Value.okWide Try.prog w r b0 23 v) (hd : DataW.Trod enc Try.prog w base spare held 23 v d ps) :
    ∃ i : Cfg, i.Fits ∧ v = .agg #[.int .i64 i.ldq, .int .i64 i.sdq, .int .i64 i.aeq, .int .i64 i.abq, .int .i64 i.ebq, .int .i64 i.saq, .int .i64 i.banks, .int .i64 i.flight, .int .i64 i.slip, .int .i64 i.lat, .int .i64 i.mul, .int .i64 i.div] := by
  obtain ⟨cs, rfl, _⟩ := okWide_struct Try.underlying23 hval
  obtain ⟨fuel, hf⟩ := hd
  obtain ⟨i, hi, hc⟩ := cfg_cells hf
  refine ⟨i, hi, ?_⟩
  obtain ⟨l⟩ := cs
  have : l = cfgCells i := by simpa [Value.cells] using hc
  rw [this]; rfl
end
end Go.Proofs.Ythhoigkmmlkfcaa.Words

/- What a cycle of memory does to a state, as plain mathematics: requests that are done, bank by bank those that begin. -/
namespace Go.Proofs.Ythhoigkmmlkfcaa.Words
set_option maxRecDepth 100000
open Go.RowKit
set_option linter.unusedVariables false

/-- One request a cycle on. -/
def tickZ (p : Sta × List Rqs) (q : Rqs) : Sta × List Rqs :=
  if 0 < q.left then (if q.left = 1 then (doneZ p.1 { q with left := 0 }, p.2) else (p.1, p.2 ++ [{ q with left := q.left - 1 }])) else (p.1, p.2 ++ [q])
def ticksZ (x : Sta) (l : List Rqs) : Sta × List Rqs := l.foldl tickZ (x, [])
def atBank (n : Int) (b : Nat) (q : Rqs) : Bool := decide (bankZ q.addr n = b)
def busyZ (n : Int) (b : Nat) (l : List Rqs) : Bool := l.any fun q => atBank n b q && decide (0 < q.left)
def waitB (n : Int) (b : Nat) (q : Rqs) : Bool := atBank n b q && decide (q.left = 0)
/-- Those that wait at a bank, by their places. -/
def waitZ (n : Int) (b : Nat) (l : List Rqs) : List Nat := (List.range l.length).filter fun i => match l[i]? with | some q => waitB n b q | none => false
def setLeft (l : List Rqs) (i : Nat) (n : Int) : List Rqs := match l[i]? with | some q => l.set i { q with left := n } | none => l
/-- A bank begins one of those that wait. -/
def beginZ (c : Cfg) (lats picks : List Int) (p : Sta × List Rqs) (b : Nat) : Sta × List Rqs :=
  let w := waitZ c.banks b p.2
  if busyZ c.banks b p.2 = true ∨ w.length = 0 then p
  else
    let k := if 1 < w.length then pickZ picks p.1.picks w.length else 0
    let x := if 1 < w.length then { p.1 with picks := wrap64 (p.1.picks + 1) } else p.1
    ({ x with lats := wrap64 (p.1.lats + 1) }, setLeft p.2 (w.getD k.toNat 0) (latsZ lats p.1.lats c.lat))
def beginsZ (c : Cfg) (lats picks : List Int) (p : Sta × List Rqs) : Nat → Sta × List Rqs
  | 0 => p
  | b + 1 => beginZ c lats picks (beginsZ c lats picks p b) b
def runsB (c : Cfg) : Bool := withinB c.banks 16 && withinB c.lat 1000
def advanceZ (c : Cfg) (lats picks : List Int) (x : Sta) : Sta :=
  if runsB c = true then
    let p := beginsZ c lats picks (ticksZ x x.table) c.banks.toNat
    { p.1 with table := p.2 }
  else x
theorem ticks_step {x : Sta} {l : List Rqs} {j : Nat} {q : Rqs} (h : l[j]? = some q) : ticksZ x (l.take (j + 1)) = tickZ (ticksZ x (l.take j)) q := by
  unfold ticksZ
  rw [List.take_add_one, h, List.foldl_append]; rfl
theorem tick_len (p : Sta × List Rqs) (q : Rqs) : (tickZ p q).2.length ≤ p.2.length + 1 := by
  unfold tickZ
  split
  · split
    · simp
    · simp
  · simp
theorem ticks_len (x : Sta) (l : List Rqs) (j : Nat) : (ticksZ x (l.take j)).2.length ≤ j := by
  induction j with
  | zero => simp [ticksZ]
  | succ j ih =>
    cases h : l[j]? with
    | none =>
      have hl := List.getElem?_eq_none_iff.1 h
      rw [List.take_of_length_le (by omega), ← List.take_of_length_le (i := j) hl]
      omega
    | some q =>
      rw [ticks_step h]
      have := tick_len (ticksZ x (l.take j)) q
      omega
theorem tick_done {p : Sta × List Rqs} {q : Rqs} (h : q.left = 1) : tickZ p q = (doneZ p.1 { q with left := 0 }, p.2) := by unfold tickZ; rw [if_pos (by omega), if_pos h]
theorem tick_less {p : Sta × List Rqs} {q : Rqs} (h : 0 < q.left) (h1 : q.left ≠ 1) : tickZ p q = (p.1, p.2 ++ [{ q with left := q.left - 1 }]) := by unfold tickZ; rw [if_pos h, if_neg h1]
theorem tick_wait {p : Sta × List Rqs} {q : Rqs} (h : ¬ 0 < q.left) : tickZ p q = (p.1, p.2 ++ [q]) := by unfold tickZ; rw [if_neg h]
end Go.Proofs.Ythhoigkmmlkfcaa.Words

/- What stands while the document's own Advance works: its boxes, the state's rows, the requests that are left. -/
namespace Go.Proofs.Ythhoigkmmlkfcaa.Words
set_option maxRecDepth 100000
open Go.RowKit
set_option linter.unusedVariables false
set_option linter.unusedSimpArgs false

/-- Lengths that a state's lists have, and what its bytes are. -/
structure StaLim (k : Nat) (x : Sta) : Prop where
  ldq : x.ldq.length ≤ 100000
  sdq : x.sdq.length ≤ 100000
  aeq : x.aeq.length ≤ 100000
  abq : x.abq.length ≤ 100000
  ebq : x.ebq.length ≤ 100000
  saq : x.saq.length ≤ 100000
  table : x.table.length ≤ 100000
  mem : x.mem.length ≤ 100000
  ws : x.ws.length ≤ 100000 + k
  bytes : ∀ b ∈ x.mem, 0 ≤ b ∧ b ≤ 255
  ok : x.Ok
theorem StaLim.few {k : Nat} {x : Sta} (h : StaLim k x) (hk : k ≤ 100000) : StaFew x := ⟨by have := h.ldq; omega, by have := h.sdq; omega, by have := h.aeq; omega, by have := h.abq; omega, by have := h.ebq; omega, by have := h.saq; omega, by have := h.table; omega, by have := h.mem; omega, by have := h.ws; omega⟩
theorem store_bytes {zs : List Int} (size addr v : Int) (hz : ∀ x ∈ zs, 0 ≤ x ∧ x ≤ 255) : ∀ x ∈ storeZ zs size addr v, 0 ≤ x ∧ x ≤ 255 := by
  have one : ∀ (l : List Int) (k : Nat) (y : Int), (∀ x ∈ l, 0 ≤ x ∧ x ≤ 255) → (0 ≤ y ∧ y ≤ 255) → ∀ x ∈ l.set k y, 0 ≤ x ∧ x ≤ 255 := by
    intro l k y hl hy x hx
    rcases List.mem_or_eq_of_mem_set hx with h | rfl
    · exact hl x h
    · exact hy
  unfold storeZ
  split
  · split
    · exact one _ _ _ hz (by omega)
    · split
      · exact one _ _ _ (one _ _ _ hz (by omega)) (by omega)
      · exact one _ _ _ (one _ _ _ (one _ _ _ (one _ _ _ hz (by omega)) (by omega)) (by omega)) (by omega)
  · exact hz
theorem done_lim {k : Nat} {x : Sta} (q : Rqs) (h : StaLim k x) : StaLim (k + 1) (doneZ x q) := by
  have h1 := done_ok q h.ok
  have h9 := h.ws
  unfold doneZ at h1 ⊢
  split
  · exact ⟨h.ldq, h.sdq, h.aeq, h.abq, h.ebq, by have := h.saq; show x.saq.tail.length ≤ 100000; rw [List.length_tail]; omega, h.table, by show (storeZ _ _ _ _).length ≤ 100000; rw [storeZ_len]; exact h.mem, by show (x.ws ++ _).length ≤ _; rw [List.length_append, List.length_singleton]; omega, store_bytes _ _ _ h.bytes, ⟨h.ok.a, h.ok.e⟩⟩
  · split
    · exact ⟨by show (fillZ _ _ _).length ≤ 100000; rw [fill_len]; exact h.ldq, h.sdq, h.aeq, h.abq, h.ebq, h.saq, h.table, h.mem, by show x.ws.length ≤ _; omega, h.bytes, ⟨h.ok.a, h.ok.e⟩⟩
    · split
      · exact ⟨h.ldq, h.sdq, h.aeq, h.abq, h.ebq, h.saq, h.table, h.mem, by show x.ws.length ≤ _; omega, h.bytes, ⟨⟨by simp [h.ok.a.regs], by simp [h.ok.a.ready]⟩, h.ok.e⟩⟩
      · exact ⟨h.ldq, h.sdq, h.aeq, h.abq, h.ebq, h.saq, h.table, h.mem, by omega, h.bytes, h.ok⟩
theorem done_table (x : Sta) (q : Rqs) : (doneZ x q).table = x.table := by
  unfold doneZ
  split
  · rfl
  · split
    · rfl
    · split <;> rfl
theorem StaLim.more {k j : Nat} {x : Sta} (h : StaLim k x) (hj : k ≤ j) : StaLim j x := ⟨h.ldq, h.sdq, h.aeq, h.abq, h.ebq, h.saq, h.table, h.mem, by have := h.ws; omega, h.bytes, h.ok⟩
theorem tick_lim {k : Nat} {p : Sta × List Rqs} (q : Rqs) (h : StaLim k p.1) : StaLim (k + 1) (tickZ p q).1 := by
  unfold tickZ
  split
  · split
    · exact done_lim _ h
    · exact h.more (by omega)
  · exact h.more (by omega)
theorem tick_table (p : Sta × List Rqs) (q : Rqs) : (tickZ p q).1.table = p.1.table := by
  unfold tickZ
  split
  · split
    · exact done_table _ _
    · rfl
  · rfl
theorem ticks_lim {x : Sta} {l : List Rqs} (h : StaLim 0 x) (j : Nat) : StaLim j (ticksZ x (l.take j)).1 ∧ (ticksZ x (l.take j)).1.table = x.table := by
  induction j with
  | zero => exact ⟨h, rfl⟩
  | succ j ih =>
    cases hq : l[j]? with
    | none =>
      have hl := List.getElem?_eq_none_iff.1 hq
      rw [List.take_of_length_le (by omega), ← List.take_of_length_le (i := j) hl]
      exact ⟨ih.1.more (by omega), ih.2⟩
    | some q =>
      rw [ticks_step hq]
      exact ⟨tick_lim q ih.1, (tick_table _ _).trans ih.2⟩
/-- The boxes and the state's rows. -/
structure AvS (w : World) (c : Cfg) (sl sp : Value) (Z : List Value) (tb : Value) (x : Sta) (v : Vs) (W : World) : Prop where
  bc : Box W w.heap.size (cfgCells c)
  bs : Box W (w.heap.size + 1) [sl, sp]
  bx : Box W (w.heap.size + 2) (staL x v)
  bz : Box W (w.heap.size + 3) Z
  own : StaOwn W (w.heap.size + 4) v x
  bl : Below w.heap.size w W
  tb : v.table = tb
/-- What is left. -/
structure LefS (w : World) (tb u : Value) (l : List Rqs) (W : World) : Prop where
  own : W.ownsRow (w.heap.size + 4) 54 8 u l.length (flat rqsL l)
  ap : u.ownBlock = none ∨ u.ownBlock ≠ tb.ownBlock
section
variable {w W Y X : World} {c : Cfg} {sl sp : Value} {Z : List Value} {tb u u' : Value} {x x' : Sta} {v v' : Vs} {l l' setL : List Rqs}
theorem AvS.lt (h : AvS w c sl sp Z tb x v W) : w.heap.size + 3 < W.heap.size := h.bz.lt
theorem AvS.below (h : AvS w c sl sp Z tb x v W) (hb : Below W.heap.size W Y) : AvS w c sl sp Z tb x v Y :=
  ⟨h.bc.below hb h.bc.lt, h.bs.below hb h.bs.lt, h.bx.below hb h.bx.lt, h.bz.below hb h.bz.lt, h.own.below hb, Below.trans h.bl (hb.mono h.bl.size), h.tb⟩
theorem LefS.below (h : LefS w tb u l W) (hb : Below W.heap.size W Y) : LefS w tb u l Y := ⟨own_below h.own hb, h.ap⟩
theorem LefS.keepS {S : Nat → Prop} (h : LefS w tb u l W) (hk : KeepS S W Y) (hs : ∀ g, u.ownBlock = some g → ¬ S g) : LefS w tb u l Y := ⟨own_keepS h.own hk hs, h.ap⟩
theorem AvS.ltr (h : AvS w c sl sp Z tb x v W) : ∀ g, v.ws.ownBlock = some g → w.heap.size + 4 ≤ g := fun g hg => (h.own.ws.lt g hg).1
/-- done was called. -/
theorem AvS.called (h : AvS w c sl sp Z tb x v W) (hk : KeepS (fun j => v.ws.ownBlock = some j) W Y) : Box Y (w.heap.size + 2) (staL x v) := h.bx.keepS hk (fun e => by have := h.ltr _ e; omega)
theorem LefS.called (h : LefS w tb u l W) (ha : AvS w c sl sp Z tb x v W) (hk : KeepS (fun j => v.ws.ownBlock = some j) W Y) : LefS w tb u l Y :=
  h.keepS hk (fun g hg e => by
    rcases own_apart2 h.own ha.own.ws (by decide) with h1 | h1
    · rw [hg] at h1; cases h1
    · exact h1 (by rw [hg, e]))
theorem AvS.done (h : AvS w c sl sp Z tb x v W) (hk : KeepS (fun j => v.ws.ownBlock = some j) W Y) (ho : StaOwn Y (w.heap.size + 4) v' x') (ht : v'.table = v.table) (hb : Box X (w.heap.size + 2) (staL x' v')) (hg : Y.grownBy X (some (w.heap.size + 2))) : AvS w c sl sp Z tb x' v' X := by
  have hn : ∀ b, b < w.heap.size + 4 → ¬ v.ws.ownBlock = some b := fun b hb e => by have := h.ltr _ e; omega
  have hk2 : KeepS (fun j => j = w.heap.size + 2) Y X := KeepS.of_grown hg (fun k e => by injection e with e; exact e.symm)
  refine ⟨(h.bc.keepS hk (hn _ (by omega))).keepS hk2 (by omega), (h.bs.keepS hk (hn _ (by omega))).keepS hk2 (by omega), hb, (h.bz.keepS hk (hn _ (by omega))).keepS hk2 (by omega), ho.keepS hk2 (fun j e => by omega), ?_, ht.trans h.tb⟩
  have hsz := h.bl.size
  exact Below.trans h.bl (Below.trans (hk.below hsz (fun k e => by have := h.ltr _ e; omega)) (hk2.below (Nat.le_trans hsz hk.size) (fun k e => by omega)))
theorem LefS.put (h : LefS w tb u l W) (hg : W.grownBy Y (some (w.heap.size + 2))) : LefS w tb u l Y := ⟨own_grown h.own hg (fun g hg2 e => by injection e with e; have := (h.own.lt g hg2).1; omega), h.ap⟩
/-- A cell of the state's block is written. -/
theorem AvS.put (h : AvS w c sl sp Z tb x v W) (hb : Box Y (w.heap.size + 2) (staL x' v')) (hg : W.grownBy Y (some (w.heap.size + 2))) (ho : StaOwn W (w.heap.size + 4) v' x') (ht : v'.table = tb) : AvS w c sl sp Z tb x' v' Y := by
  have hk2 : KeepS (fun j => j = w.heap.size + 2) W Y := KeepS.of_grown hg (fun k e => by injection e with e; exact e.symm)
  exact ⟨h.bc.keepS hk2 (by omega), h.bs.keepS hk2 (by omega), hb, h.bz.keepS hk2 (by omega), ho.keepS hk2 (fun j e => by omega), Below.trans h.bl (hk2.below h.bl.size (fun k e => by omega)), ht⟩
theorem AvS.put2 {tb' : Value} (h : AvS w c sl sp Z tb x v W) (hb : Box Y (w.heap.size + 2) (staL x' v')) (hg : W.grownBy Y (some (w.heap.size + 2))) (ho : StaOwn W (w.heap.size + 4) v' x') (ht : v'.table = tb') : AvS w c sl sp Z tb' x' v' Y := by
  have hk2 : KeepS (fun j => j = w.heap.size + 2) W Y := KeepS.of_grown hg (fun k e => by injection e with e; exact e.symm)
  exact ⟨h.bc.keepS hk2 (by omega), h.bs.keepS hk2 (by omega), hb, h.bz.keepS hk2 (by omega), ho.keepS hk2 (fun j e => by omega), Below.trans h.bl (hk2.below h.bl.size (fun k e => by omega)), ht⟩
theorem own_table {base : Nat} {u : Value} {l : List Rqs} (h : StaOwn W base v x) (ho : W.ownsRow base 54 8 u l.length (flat rqsL l)) : StaOwn W base { v with table := u } { x with table := l } :=
  ⟨h.ldq, h.sdq, h.aeq, h.abq, h.ebq, h.saq, ho, h.mem, h.ws, h.words, h.bools⟩
theorem own_same {base : Nat} (h : StaOwn W base v x) (e0 : x'.ldq = x.ldq) (e1 : x'.sdq = x.sdq) (e2 : x'.aeq = x.aeq) (e3 : x'.abq = x.abq) (e4 : x'.ebq = x.ebq) (e5 : x'.saq = x.saq) (e6 : x'.table = x.table) (e7 : x'.mem = x.mem) (e8 : x'.ws = x.ws) : StaOwn W base v x' :=
  ⟨by rw [e0]; exact h.ldq, by rw [e1]; exact h.sdq, by rw [e2]; exact h.aeq, by rw [e3]; exact h.abq, by rw [e4]; exact h.ebq, by rw [e5]; exact h.saq, by rw [e6]; exact h.table, by rw [e7]; exact h.mem, by rw [e8]; exact h.ws, h.words, h.bools⟩
/-- What is left grows, in place or in new memory. -/
theorem AvS.grew (h : AvS w c sl sp Z tb x v W) (hl : LefS w tb u l W) (hg : W.grownBy Y u.ownBlock) : AvS w c sl sp Z tb x v Y := by
  have hn : ∀ b, b < w.heap.size + 4 → some b ≠ u.ownBlock := fun b hb e => by have := (hl.own.lt b e.symm).1; omega
  refine ⟨h.bc.grown hg (hn _ (by omega)), h.bs.grown hg (hn _ (by omega)), h.bx.grown hg (hn _ (by omega)), h.bz.grown hg (hn _ (by omega)), ⟨h.own.ldq.kept hg (own_apart2 h.own.ldq hl.own (by decide)), h.own.sdq.kept hg (own_apart2 h.own.sdq hl.own (by decide)), h.own.aeq.kept hg (own_apart2 h.own.aeq hl.own (by decide)), h.own.abq.kept hg (own_apart2 h.own.abq hl.own (by decide)), h.own.ebq.kept hg (own_apart2 h.own.ebq hl.own (by decide)), h.own.saq.kept hg (own_apart2 h.own.saq hl.own (by decide)), h.own.table.kept hg ?_, h.own.mem.kept hg (own_apart2 h.own.mem hl.own (by decide)), h.own.ws.kept hg (own_apart2 h.own.ws hl.own (by decide)), h.own.words, h.own.bools⟩, ?_, h.tb⟩
  · rw [h.tb]
    cases ht : tb.ownBlock with
    | none => exact .inl rfl
    | some g =>
      rcases hl.ap with h1 | h1
      · rw [h1]; exact .inr (by simp)
      · rw [ht] at h1; exact .inr (fun e => h1 e.symm)
  · exact Below.grown h.bl hg h.bl.size (fun q hq => by have := (hl.own.lt q hq).1; omega)
theorem LefS.grew (h : LefS w tb u l W) (ha : AvS w c sl sp Z tb x v W) (ho : Y.ownsRow (w.heap.size + 4) 54 8 u' l'.length (flat rqsL l')) (hn : ∀ g, u'.ownBlock = some g → u.ownBlock = some g ∨ W.heap.size ≤ g) : LefS w tb u' l' Y := by
  refine ⟨ho, ?_⟩
  cases hu : u'.ownBlock with
  | none => exact .inl rfl
  | some g =>
    refine .inr (fun e => ?_)
    rcases hn g hu with h1 | h1
    · rcases h.ap with h2 | h2
      · rw [h1] at h2; cases h2
      · exact h2 (by rw [h1, e])
    · have h3 := (ha.own.table.lt g (by rw [ha.tb]; exact e.symm)).2
      omega
/-- One of those that are left begins. -/
theorem LefS.mark {g m cap p : Nat} {q : Rqs} {n : Int} (h : LefS w tb (.slice (some ⟨g, 0, none⟩) m cap) l W) (hm : l.length = m) (hq : l[p]? = some q) (hl : setL = l.set p { q with left := n }) : LefS w tb (.slice (some ⟨g, 0, none⟩) m cap) setL (W.setCell ⟨g, p * 8 + 5, none⟩ (.int .i64 n)) := by
  have hp := (List.getElem?_eq_some_iff.1 hq).1
  have ho := h.own
  rw [hm] at ho
  have h1 := own_setAt ho (p * 8 + 5) (by omega) (.int .i64 n)
  rw [flat_setG (f := rqsL) rqsL_len l p q { q with left := n } 5 (.int .i64 n) hq rfl (by omega)] at h1
  subst hl
  exact ⟨by rw [List.length_set, hm]; exact h1, h.ap⟩
end
end Go.Proofs.Ythhoigkmmlkfcaa.Words

/- Banks that begin: the steps of the search for those that wait. -/
namespace Go.Proofs.Ythhoigkmmlkfcaa.Words
set_option maxRecDepth 100000
open Go.RowKit
set_option linter.unusedVariables false

def busyTo (n : Int) (b : Nat) (l : List Rqs) (i : Nat) : Bool := busyZ n b (l.take i)
def waitTo (n : Int) (b : Nat) (l : List Rqs) (i : Nat) : List Nat := (List.range i).filter fun i => match l[i]? with | some q => waitB n b q | none => false
theorem busyTo_step {n : Int} {b : Nat} {l : List Rqs} {i : Nat} {q : Rqs} (h : l[i]? = some q) : busyTo n b l (i + 1) = (busyTo n b l i || (atBank n b q && decide (0 < q.left))) := by
  unfold busyTo busyZ
  rw [List.take_add_one, h, List.any_append]; simp
theorem waitTo_step {n : Int} {b : Nat} {l : List Rqs} {i : Nat} {q : Rqs} (h : l[i]? = some q) : waitTo n b l (i + 1) = waitTo n b l i ++ (if waitB n b q = true then [i] else []) := by
  unfold waitTo
  rw [List.range_succ, List.filter_append]
  congr 1
  rw [List.filter_cons, h]
  by_cases hw : waitB n b q = true
  · simp [hw]
  · simp [hw]
theorem waitTo_len (n : Int) (b : Nat) (l : List Rqs) (i : Nat) : (waitTo n b l i).length ≤ i := by
  have := List.length_filter_le (fun i => match l[i]? with | some q => waitB n b q | none => false) (List.range i)
  rw [List.length_range] at this
  exact this
theorem waitTo_mem {n : Int} {b : Nat} {l : List Rqs} {i k : Nat} (h : k ∈ waitTo n b l i) : k < i ∧ ∃ q, l[k]? = some q ∧ waitB n b q = true := by
  unfold waitTo at h
  rw [List.mem_filter, List.mem_range] at h
  refine ⟨h.1, ?_⟩
  cases hq : l[k]? with
  | none => rw [hq] at h; exact absurd h.2 (by simp)
  | some q => rw [hq] at h; exact ⟨q, rfl, h.2⟩
theorem wait_all (n : Int) (b : Nat) (l : List Rqs) : waitZ n b l = waitTo n b l l.length := rfl
theorem busy_all (n : Int) (b : Nat) (l : List Rqs) : busyZ n b l = busyTo n b l l.length := by unfold busyTo; rw [List.take_length]
theorem setLeft_len (l : List Rqs) (i : Nat) (n : Int) : (setLeft l i n).length = l.length := by unfold setLeft; split <;> simp
theorem setLeft_at {l : List Rqs} {i : Nat} {q : Rqs} (n : Int) (h : l[i]? = some q) : setLeft l i n = l.set i { q with left := n } := by unfold setLeft; rw [h]
theorem begin_len (c : Cfg) (lats picks : List Int) (p : Sta × List Rqs) (b : Nat) : (beginZ c lats picks p b).2.length = p.2.length := by
  unfold beginZ
  dsimp only
  split
  · rfl
  · exact setLeft_len _ _ _
theorem begins_len (c : Cfg) (lats picks : List Int) (p : Sta × List Rqs) (b : Nat) : (beginsZ c lats picks p b).2.length = p.2.length := by
  induction b with
  | zero => rfl
  | succ b ih => exact (begin_len _ _ _ _ _).trans ih
theorem begin_skip {c : Cfg} {lats picks : List Int} {p : Sta × List Rqs} {b : Nat} (h : busyZ c.banks b p.2 = true ∨ (waitZ c.banks b p.2).length = 0) : beginZ c lats picks p b = p := by
  unfold beginZ; dsimp only; rw [if_pos h]
theorem begin_one {c : Cfg} {lats picks : List Int} {p : Sta × List Rqs} {b i : Nat} (h1 : busyZ c.banks b p.2 = false) (h2 : waitZ c.banks b p.2 = [i]) :
    beginZ c lats picks p b = ({ p.1 with lats := wrap64 (p.1.lats + 1) }, setLeft p.2 i (latsZ lats p.1.lats c.lat)) := by
  unfold beginZ; dsimp only; rw [h1, h2]; simp
theorem begin_more {c : Cfg} {lats picks : List Int} {p : Sta × List Rqs} {b : Nat} {w : List Nat} {k : Nat} (h1 : busyZ c.banks b p.2 = false) (h2 : waitZ c.banks b p.2 = w) (h3 : 1 < w.length) (hk : pickZ picks p.1.picks w.length = k) :
    beginZ c lats picks p b = ({ p.1 with picks := wrap64 (p.1.picks + 1), lats := wrap64 (p.1.lats + 1) }, setLeft p.2 (w.getD k 0) (latsZ lats p.1.lats c.lat)) := by
  unfold beginZ; dsimp only
  rw [h1, h2, if_neg (by simp; intro e; rw [e] at h3; simp at h3), if_pos h3, if_pos h3, hk]; rfl
theorem tick_fits {p : Sta × List Rqs} {q : Rqs} (h : ∀ y ∈ p.2, y.Fits) (hq : q.Fits) : ∀ y ∈ (tickZ p q).2, y.Fits := by
  unfold tickZ
  split
  · split
    · exact h
    · intro y hy
      rcases List.mem_append.1 hy with h1 | h1
      · exact h y h1
      · rw [List.mem_singleton] at h1
        subst h1
        obtain ⟨a, b, c, d, e, f, g⟩ := hq
        exact ⟨a, b, c, d, ⟨by show _ ≤ q.left - 1; omega, by show q.left - 1 ≤ _; omega⟩, f, g⟩
  · intro y hy
    rcases List.mem_append.1 hy with h1 | h1
    · exact h y h1
    · rw [List.mem_singleton] at h1; rw [h1]; exact hq
theorem ticks_fits {x : Sta} {l : List Rqs} (h : ∀ y ∈ l, y.Fits) : ∀ y ∈ (ticksZ x l).2, y.Fits := by
  have key : ∀ (l : List Rqs) (p : Sta × List Rqs), (∀ y ∈ l, y.Fits) → (∀ y ∈ p.2, y.Fits) → ∀ y ∈ (l.foldl tickZ p).2, y.Fits := by
    intro l
    induction l with
    | nil => intro p _ hp; exact hp
    | cons q r ih => intro p hl hp; exact ih _ (fun y hy => hl y (List.mem_cons_of_mem _ hy)) (tick_fits hp (hl q (List.mem_cons_self ..)))
  exact key l (x, []) h (by simp)
theorem setLeft_fits {l : List Rqs} {i : Nat} {n : Int} (h : ∀ y ∈ l, y.Fits) (h1 : 1 ≤ n) (h2 : n ≤ 1000) : ∀ y ∈ setLeft l i n, y.Fits := by
  unfold setLeft
  split
  · rename_i q hq
    intro y hy
    rcases List.mem_or_eq_of_mem_set hy with h3 | h3
    · exact h y h3
    · subst h3
      obtain ⟨a, b, c, d, e, f, g⟩ := h q (List.mem_of_getElem? hq)
      exact ⟨a, b, c, d, ⟨by show _ ≤ n; omega, by show n ≤ _; omega⟩, f, g⟩
  · exact h
theorem begins_fits {c : Cfg} {lats picks : List Int} {p : Sta × List Rqs} (hc : c.lat ≤ 1000) (h : ∀ y ∈ p.2, y.Fits) (b : Nat) : ∀ y ∈ (beginsZ c lats picks p b).2, y.Fits := by
  induction b with
  | zero => exact h
  | succ b ih =>
    show ∀ y ∈ (beginZ c lats picks (beginsZ c lats picks p b) b).2, y.Fits
    unfold beginZ
    dsimp only
    split
    · exact ih
    · exact setLeft_fits ih (latsZ_range _ _ _ hc).1 (latsZ_range _ _ _ hc).2
theorem begins_ok {c : Cfg} {lats picks : List Int} {p : Sta × List Rqs} (h : p.1.Ok) (b : Nat) : (beginsZ c lats picks p b).1.Ok := by
  induction b with
  | zero => exact h
  | succ b ih =>
    show (beginZ c lats picks (beginsZ c lats picks p b) b).1.Ok
    unfold beginZ
    dsimp only
    split
    · exact ih
    · split
      · exact ⟨ih.a, ih.e⟩
      · exact ⟨ih.a, ih.e⟩
/-- The two counts are Go's ints. -/
def NumOk (x : Sta) : Prop := (-9223372036854775808 ≤ x.lats ∧ x.lats ≤ 9223372036854775807) ∧ (-9223372036854775808 ≤ x.picks ∧ x.picks ≤ 9223372036854775807)
theorem wrap_ok (n : Int) : -9223372036854775808 ≤ wrap64 n ∧ wrap64 n ≤ 9223372036854775807 := by
  unfold wrap64; constructor <;> omega
theorem done_num (x : Sta) (q : Rqs) : (doneZ x q).lats = x.lats ∧ (doneZ x q).picks = x.picks := by
  unfold doneZ
  split
  · exact ⟨rfl, rfl⟩
  · split
    · exact ⟨rfl, rfl⟩
    · split <;> exact ⟨rfl, rfl⟩
theorem tick_num (p : Sta × List Rqs) (q : Rqs) (h : NumOk p.1) : NumOk (tickZ p q).1 := by
  unfold tickZ
  split
  · split
    · unfold NumOk; rw [(done_num _ _).1, (done_num _ _).2]; exact h
    · exact h
  · exact h
theorem ticks_num {x : Sta} (l : List Rqs) (h : NumOk x) : NumOk (ticksZ x l).1 := by
  have key : ∀ (l : List Rqs) (p : Sta × List Rqs), NumOk p.1 → NumOk (l.foldl tickZ p).1 := by
    intro l
    induction l with
    | nil => intro p hp; exact hp
    | cons q r ih => intro p hp; exact ih _ (tick_num p q hp)
  exact key l (x, []) h
theorem begins_num {c : Cfg} {lats picks : List Int} {p : Sta × List Rqs} (h : NumOk p.1) (b : Nat) : NumOk (beginsZ c lats picks p b).1 := by
  induction b with
  | zero => exact h
  | succ b ih =>
    show NumOk (beginZ c lats picks (beginsZ c lats picks p b) b).1
    unfold beginZ
    dsimp only
    split
    · exact ih
    · split
      · exact ⟨wrap_ok _, wrap_ok _⟩
      · exact ⟨wrap_ok _, ih.2⟩
def natV (l : List Nat) : List Value := l.map fun k : Nat => Value.int .i64 (k : Int)
theorem natV_len (l : List Nat) : (natV l).length = l.length := by simp [natV]
theorem natV_one (l : List Nat) : ∀ u ∈ natV l, u.oneCell' = true := by
  intro u hu; obtain ⟨x, _, rfl⟩ := List.mem_map.1 hu; rfl
theorem natV_app (l m : List Nat) : natV l ++ natV m = natV (l ++ m) := by simp [natV]
theorem natV_at {l : List Nat} {k : Nat} (h : k < l.length) : (natV l)[k]? = some (.int .i64 ((l.getD k 0 : Nat) : Int)) := by
  unfold natV; rw [List.getElem?_map, List.getD_eq_getElem?_getD, List.getElem?_eq_getElem h]; rfl
end Go.Proofs.Ythhoigkmmlkfcaa.Words

/- A law of no one program: in a region that draws its order and is walked in one order, one cell is written. -/
namespace Go.Proofs.Ythhoigkmmlkfcaa.Words
set_option maxRecDepth 100000
open Go.RowKit
set_option linter.unusedVariables false
section
variable {P : Program} {w : World} {ops : Array Oper} {rest : List (Option Oper × Bool)} {op : Oper} {a : Act} {Q : Exit → Act → World → Prop} {S : World → Prop}
theorem run_storeVar_at (b o : Nat) (ty : TypeId) (u old : Value) (hc : w.cell? ⟨b, o, none⟩ = some old) (hf : w.frozen? ⟨b, o, none⟩ = false) (hi : (P.info? ty).map (·.size) = some 1) (h1 : u.oneCell' = true) :
    (storeVar ty ⟨b, o, none⟩ u).run P w = .ok () (w.setCell ⟨b, o, none⟩ u) := by
  have hst : (store ⟨b, o, none⟩ u).run P w = .ok () (w.setCell ⟨b, o, none⟩ u) := by
    rw [run_store P w _ u _ h1, hc]
    simp [hf]
  have hadd : (⟨b, o, none⟩ : Addr).add 0 = ⟨b, o, none⟩ := by unfold Addr.add; simp
  cases hq : P.info? ty with
  | none => simp [hq] at hi
  | some i =>
    have hs : i.size = 1 := by simpa [hq] using hi
    simp [storeVar, sizeOf, typeInfo, hq, cells_one h1, hs, storeCells, hadd, hst]
theorem lin_set_cell (hS : S w) (hw : Region.wanted op (yielded ops a.tmps) = true) (ty : TypeId) (x y : Operand) (ho : op.op = .store ty x y) (b o : Nat) (u old : Value)
    (hx : a.eval x = .pointer (some ⟨b, o, none⟩)) (hy : a.eval y = u) (h1 : u.oneCell' = true) (hc : w.cell? ⟨b, o, none⟩ = some old) (hf : w.frozen? ⟨b, o, none⟩ = false) (hi : (P.info? ty).map (·.size) = some 1)
    (hT : S (w.setCell ⟨b, o, none⟩ u)) (h : wpLin P ops Q rest S (a.put op.dst undef) (w.setCell ⟨b, o, none⟩ u)) : wpLin P ops Q ((some op, false) :: rest) S a w :=
  lin_call hS hw fun K hK => by
    unfold Oper.wp execOp
    simp only [ho, hx, hy, Instr.storeAt, Instr.sureAddr, Sem.run_bind, Sem.run_pure, Result.andThen_ok, run_storeVar_at (P := P) b o ty u old hc hf hi h1]
    exact hK.out _ _ hT (fun _ => h)
end
end Go.Proofs.Ythhoigkmmlkfcaa.Words

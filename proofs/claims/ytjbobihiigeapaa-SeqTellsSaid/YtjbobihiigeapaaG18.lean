/- Contract of seq.Step. -/
import Derived.Test.YtjbobihiigeapaaG05
import Derived.Test.YtjbobihiigeapaaG09
import Derived.Test.YtjbobihiigeapaaG10
import Derived.Test.YtjbobihiigeapaaG00
namespace Go.Proofs.Ytjbobihiigeapaa.Words
set_option maxRecDepth 100000
open Go.RowKit
set_option linter.unusedVariables false

/-- May a program go on from a result? -/
def mayB (p : Prog) (r : Res) : Bool := decide (r.e = 0) && decide ((r.mem.length : Int) = p.size) && p.right
theorem mayB_yes {p : Prog} {r : Res} (h : mayB p r = true) : r.e = 0 ∧ p.right = true ∧ (r.mem.length : Int) = p.size := by
  unfold mayB at h
  simp only [Bool.and_eq_true, decide_eq_true_eq] at h
  exact ⟨h.1.1, h.2, h.1.2⟩
theorem mayB_no {p : Prog} {r : Res} (h : mayB p r = false) : r.e ≠ 0 ∨ p.right = false ∨ (r.mem.length : Int) ≠ p.size := by
  by_cases h0 : r.e = 0
  · by_cases h2 : (r.mem.length : Int) = p.size
    · unfold mayB at h
      rw [decide_eq_true h0, decide_eq_true h2] at h
      exact .inr (.inl (by simpa using h))
    · exact .inr (.inr h2)
  · exact .inl h0
theorem mayStep_any (A D : Option Addr) (c d : Nat) (p : Prog) (M U : Option Addr) (m u : Nat) (r : Res) (w : World) (hp : ProgV w w.heap.size (.slice A p.code.length c) (.slice D p.data.length d) p) (h16 : r.regs.length = 16) :
    Calls Try.prog 28 #[.agg #[.slice A p.code.length c, .int .i64 p.size, .slice D p.data.length d], .agg (resL r (.slice M r.mem.length m) (.slice U r.ws.length u)).toArray] w fun e w' => e = .returned (.bool (mayB p r)) ∧ Below w.heap.size w w' := by
  by_cases h0 : r.e = 0
  · by_cases h2 : (r.mem.length : Int) = p.size
    · rw [show mayB p r = p.right by unfold mayB; rw [decide_eq_true h0, decide_eq_true h2]; simp]
      exact mayStep_right A D c d p M U m u r w hp h16 h0 h2 _ rfl
    · rw [show mayB p r = false by unfold mayB; rw [decide_eq_false h2]; simp]
      exact mayStep_len A D c d p M U m u r w hp h16 h0 h2
  · rw [show mayB p r = false by unfold mayB; rw [decide_eq_false h0]; simp]
    exact mayStep_end A D c d p M U m u r w hp h16 h0

set_option maxHeartbeats 1000000 in
theorem seqStep_does (A D : Option Addr) (c d : Nat) (p : Prog) (M U : Option Addr) (m u : Nat) (r : Res) (w : World) (pc : Int) (hp : ProgV w w.heap.size (.slice A p.code.length c) (.slice D p.data.length d) p) (hr : ResV w w.heap.size (.slice M r.mem.length m) (.slice U r.ws.length u) r) (hm : r.mem.length ≤ 140737488355328) (hw : r.ws.length ≤ 1000000000000) (fr : r.Fits) (hmay : mayB p r = true) :
    Calls Try.prog 13 #[.agg #[.slice A p.code.length c, .int .i64 p.size, .slice D p.data.length d], .agg (resL r (.slice M r.mem.length m) (.slice U r.ws.length u)).toArray, .int .i64 pc] w fun e w' => ∃ vm' vw', e = .returned (.tuple #[.agg (resL (stepZ p r pc).1 vm' vw').toArray, .int .i64 (stepZ p r pc).2]) ∧ ResOwn w' w.heap.size vm' vw' (stepZ p r pc).1 ∧ Below w.heap.size w w' := by
  have HMAY := Lib.hid hmay
  have HZ := Lib.hid (mayB_yes hmay)
  obtain ⟨r5, hr5⟩ : ∃ x, x = (stepZ p r pc).1 := ⟨_, rfl⟩
  obtain ⟨pc5, hp5⟩ : ∃ x, x = (stepZ p r pc).2 := ⟨_, rfl⟩
  rw [← hr5, ← hp5]
  have HR5 := Lib.hid hr5
  have HP5 := Lib.hid hp5
  clear hmay hr5 hp5
  obtain ⟨u1, u2⟩ := hp.code.cap
  obtain ⟨u3, u4⟩ := hp.data.cap
  have h16 := hr.regs
  have hs : (((w.alloc (.cells #[.slice A p.code.length c, .int .i64 p.size, .slice D p.data.length d] 25)).alloc (.cells (resL r (.slice M r.mem.length m) (.slice U r.ws.length u)).toArray 32)).alloc (.cells #[.int .i64 0, .int .i64 0, .int .i64 0, .int .i64 0, .int .i64 0, .int .u32 0, .int .u32 0, .int .u32 0, .int .u32 0, .int .u32 0, .int .u32 0, .int .u32 0, .int .u32 0, .int .u32 0, .int .u32 0, .int .u32 0, .int .u32 0, .int .u32 0, .int .u32 0, .int .u32 0, .int .u32 0, .slice none 0 0, .slice none 0 0] 32)).heap.size = w.heap.size + 3 := by simp
  have HB := Lib.hid ((((Below.refl w.heap.size w).alloc (Nat.le_refl _) (.cells #[.slice A p.code.length c, .int .i64 p.size, .slice D p.data.length d] 25)).alloc (by simp) (.cells (resL r (.slice M r.mem.length m) (.slice U r.ws.length u)).toArray 32)).alloc (by simp; omega) (.cells #[.int .i64 0, .int .i64 0, .int .i64 0, .int .i64 0, .int .i64 0, .int .u32 0, .int .u32 0, .int .u32 0, .int .u32 0, .int .u32 0, .int .u32 0, .int .u32 0, .int .u32 0, .int .u32 0, .int .u32 0, .int .u32 0, .int .u32 0, .int .u32 0, .int .u32 0, .int .u32 0, .int .u32 0, .slice none 0 0, .slice none 0 0] 32))
  have HV := Lib.hid (((hr.below HB.out).more (show w.heap.size ≤ (((w.alloc (.cells #[.slice A p.code.length c, .int .i64 p.size, .slice D p.data.length d] 25)).alloc (.cells (resL r (.slice M r.mem.length m) (.slice U r.ws.length u)).toArray 32)).alloc (.cells #[.int .i64 0, .int .i64 0, .int .i64 0, .int .i64 0, .int .i64 0, .int .u32 0, .int .u32 0, .int .u32 0, .int .u32 0, .int .u32 0, .int .u32 0, .int .u32 0, .int .u32 0, .int .u32 0, .int .u32 0, .int .u32 0, .int .u32 0, .int .u32 0, .int .u32 0, .int .u32 0, .int .u32 0, .slice none 0 0, .slice none 0 0] 32)).heap.size by rw [hs]; omega)))
  have HP0 := Lib.hid (fun (x : World) (h : Below w.heap.size w x) => hp.below h)
  have e0 : (((w.alloc (.cells #[.slice A p.code.length c, .int .i64 p.size, .slice D p.data.length d] 25)).alloc (.cells (resL r (.slice M r.mem.length m) (.slice U r.ws.length u)).toArray 32)).alloc (.cells #[.int .i64 0, .int .i64 0, .int .i64 0, .int .i64 0, .int .i64 0, .int .u32 0, .int .u32 0, .int .u32 0, .int .u32 0, .int .u32 0, .int .u32 0, .int .u32 0, .int .u32 0, .int .u32 0, .int .u32 0, .int .u32 0, .int .u32 0, .int .u32 0, .int .u32 0, .int .u32 0, .int .u32 0, .slice none 0 0, .slice none 0 0] 32)).cell? ⟨w.heap.size, 0, none⟩ = some (.slice A p.code.length c) := by go_simp
  have e1 : (((w.alloc (.cells #[.slice A p.code.length c, .int .i64 p.size, .slice D p.data.length d] 25)).alloc (.cells (resL r (.slice M r.mem.length m) (.slice U r.ws.length u)).toArray 32)).alloc (.cells #[.int .i64 0, .int .i64 0, .int .i64 0, .int .i64 0, .int .i64 0, .int .u32 0, .int .u32 0, .int .u32 0, .int .u32 0, .int .u32 0, .int .u32 0, .int .u32 0, .int .u32 0, .int .u32 0, .int .u32 0, .int .u32 0, .int .u32 0, .int .u32 0, .int .u32 0, .int .u32 0, .int .u32 0, .slice none 0 0, .slice none 0 0] 32)).cell? ⟨w.heap.size, 1, none⟩ = some (.int .i64 p.size) := by go_simp
  have e2 : (((w.alloc (.cells #[.slice A p.code.length c, .int .i64 p.size, .slice D p.data.length d] 25)).alloc (.cells (resL r (.slice M r.mem.length m) (.slice U r.ws.length u)).toArray 32)).alloc (.cells #[.int .i64 0, .int .i64 0, .int .i64 0, .int .i64 0, .int .i64 0, .int .u32 0, .int .u32 0, .int .u32 0, .int .u32 0, .int .u32 0, .int .u32 0, .int .u32 0, .int .u32 0, .int .u32 0, .int .u32 0, .int .u32 0, .int .u32 0, .int .u32 0, .int .u32 0, .int .u32 0, .int .u32 0, .slice none 0 0, .slice none 0 0] 32)).cell? ⟨w.heap.size, 2, none⟩ = some (.slice D p.data.length d) := by go_simp
  have B0 : Hid (Box (((w.alloc (.cells #[.slice A p.code.length c, .int .i64 p.size, .slice D p.data.length d] 25)).alloc (.cells (resL r (.slice M r.mem.length m) (.slice U r.ws.length u)).toArray 32)).alloc (.cells #[.int .i64 0, .int .i64 0, .int .i64 0, .int .i64 0, .int .i64 0, .int .u32 0, .int .u32 0, .int .u32 0, .int .u32 0, .int .u32 0, .int .u32 0, .int .u32 0, .int .u32 0, .int .u32 0, .int .u32 0, .int .u32 0, .int .u32 0, .int .u32 0, .int .u32 0, .int .u32 0, .int .u32 0, .slice none 0 0, .slice none 0 0] 32)) (w.heap.size + 1) (resL r (.slice M r.mem.length m) (.slice U r.ws.length u))) := by
    have := ((Box.new (w.alloc (.cells #[.slice A p.code.length c, .int .i64 p.size, .slice D p.data.length d] 25)) (resL r (.slice M r.mem.length m) (.slice U r.ws.length u)) 32).alloc (.cells #[.int .i64 0, .int .i64 0, .int .i64 0, .int .i64 0, .int .i64 0, .int .u32 0, .int .u32 0, .int .u32 0, .int .u32 0, .int .u32 0, .int .u32 0, .int .u32 0, .int .u32 0, .int .u32 0, .int .u32 0, .int .u32 0, .int .u32 0, .int .u32 0, .int .u32 0, .int .u32 0, .int .u32 0, .slice none 0 0, .slice none 0 0] 32))
    have e : (w.alloc (.cells #[.slice A p.code.length c, .int .i64 p.size, .slice D p.data.length d] 25)).heap.size = w.heap.size + 1 := by simp
    rw [e] at this
    exact this
  have Q0 : Hid (Box (((w.alloc (.cells #[.slice A p.code.length c, .int .i64 p.size, .slice D p.data.length d] 25)).alloc (.cells (resL r (.slice M r.mem.length m) (.slice U r.ws.length u)).toArray 32)).alloc (.cells #[.int .i64 0, .int .i64 0, .int .i64 0, .int .i64 0, .int .i64 0, .int .u32 0, .int .u32 0, .int .u32 0, .int .u32 0, .int .u32 0, .int .u32 0, .int .u32 0, .int .u32 0, .int .u32 0, .int .u32 0, .int .u32 0, .int .u32 0, .int .u32 0, .int .u32 0, .int .u32 0, .int .u32 0, .slice none 0 0, .slice none 0 0] 32)) (w.heap.size + 2) (resL noRes (.slice none 0 0) (.slice none 0 0))) := by
    have := Box.new ((w.alloc (.cells #[.slice A p.code.length c, .int .i64 p.size, .slice D p.data.length d] 25)).alloc (.cells (resL r (.slice M r.mem.length m) (.slice U r.ws.length u)).toArray 32)) (resL noRes (.slice none 0 0) (.slice none 0 0)) 32
    have e : ((w.alloc (.cells #[.slice A p.code.length c, .int .i64 p.size, .slice D p.data.length d] 25)).alloc (.cells (resL r (.slice M r.mem.length m) (.slice U r.ws.length u)).toArray 32)).heap.size = w.heap.size + 2 := by simp
    rw [e] at this
    exact this
  have E0 := Lib.hid (And.intro e0 (And.intro e1 e2))
  have HM := Lib.hid hm
  have HW := Lib.hid hw
  have FR := Lib.hid fr
  clear hp hr hm hw fr
  go_enter Try.func13, Try.ntmps13
  go_wp2_with fail
  generalize (((w.alloc (.cells #[.slice A p.code.length c, .int .i64 p.size, .slice D p.data.length d] 25)).alloc (.cells (resL r (.slice M r.mem.length m) (.slice U r.ws.length u)).toArray 32)).alloc (.cells #[.int .i64 0, .int .i64 0, .int .i64 0, .int .i64 0, .int .i64 0, .int .u32 0, .int .u32 0, .int .u32 0, .int .u32 0, .int .u32 0, .int .u32 0, .int .u32 0, .int .u32 0, .int .u32 0, .int .u32 0, .int .u32 0, .int .u32 0, .int .u32 0, .int .u32 0, .int .u32 0, .int .u32 0, .slice none 0 0, .slice none 0 0] 32)) = W0 at *
  have hS : W0.drew.cell? ⟨w.heap.size, 0, none⟩ = some (.slice A p.code.length c) ∧ Box W0.drew (w.heap.size + 1) (resL r (.slice M r.mem.length m) (.slice U r.ws.length u)) := ⟨e0, B0.out⟩
  clear e0 e1 e2
  refine wp_region_tree _ (LinT.of [(0, true), (1, true), (2, true), (4, true)] (.two 3 6 (LinT.of [(5, true), (6, false), (7, false)] .nil) (LinT.of [(3, false), (5, true), (7, false)] .nil))) (by kernel_rfl) (by kernel_rfl) rfl (by kernel_rfl) (fun x => x.cell? ⟨w.heap.size, 0, none⟩ = some (.slice A p.code.length c) ∧ Box x (w.heap.size + 1) (resL r (.slice M r.mem.length m) (.slice U r.ws.length u))) (fun _ _ h => h) ?_
  simp only [LinT.of, LinT.look, List.getElem?_toArray, List.getElem?_cons_succ, List.getElem?_cons_zero]
  iterate 2 (refine tree_take (v := ?_) hS (by rfl) ?_ ?_; rotate_left; (intro x hx; obtain ⟨x0, x1⟩ := hx; clear x1; go_simp; try (with_reducible rfl)); (simp only [Act.put, List.setIfInBounds_toArray, List.set_cons_zero, List.set_cons_succ]))
  refine tree_load_box hS (by rfl) 32 (.tmp 4) rfl (w.heap.size + 1) 0 rfl (resL r (.slice M r.mem.length m) (.slice U r.ws.length u)) (resL r (.slice M r.mem.length m) (.slice U r.ws.length u)) (fun y hy => hy.2) (fun j v hv => by rw [Nat.zero_add]; exact hv) _ Try.underlying32 rfl 23 info_res (resL_len h16) ?_
  simp only [Act.put, List.setIfInBounds_toArray, List.set_cons_zero, List.set_cons_succ]
  (refine tree_take (v := ?_) hS (by rfl) ?_ ?_; rotate_left; (intro x hx; obtain ⟨x0, x1⟩ := hx; clear x1; go_simp; try (with_reducible rfl)); (simp only [Act.put, List.setIfInBounds_toArray, List.set_cons_zero, List.set_cons_succ]))
  refine tree_two hS (by rfl) (by rfl) (fun K hK => ?_) (fun K hK => ?_)
  · go_simp
    refine (copied_any r (.slice M r.mem.length m) (.slice U r.ws.length u) W0.drew (show ResV W0.drew W0.drew.heap.size _ _ r from ⟨HV.out.mem, HV.out.ws, h16⟩) HM.out HW.out).mono ?_
    rintro e w1 ⟨vm1, vw1, rfl, hO1, hb1⟩
    have hO1' : ResOwn w1 (w.heap.size + 3) vm1 vw1 r := hs ▸ hO1
    have hb1' : Below (w.heap.size + 3) W0 w1 := hs ▸ (show Below W0.heap.size W0 w1 from ⟨hb1.os, hb1.tape, hb1.output, hb1.size, hb1.block⟩)
    have hS1 : w1.cell? ⟨w.heap.size, 0, none⟩ = some (.slice A p.code.length c) ∧ Box w1 (w.heap.size + 1) (resL r (.slice M r.mem.length m) (.slice U r.ws.length u)) := ⟨below_cell hb1' (by omega) hS.1, B0.out.below hb1' (by omega)⟩
    have hv1 := own_one hO1'.mem
    have hv2 := own_one hO1'.ws
    have E1 : Hid (w1.cell? ⟨w.heap.size, 0, none⟩ = some (.slice A p.code.length c) ∧ w1.cell? ⟨w.heap.size, 1, none⟩ = some (.int .i64 p.size) ∧ w1.cell? ⟨w.heap.size, 2, none⟩ = some (.slice D p.data.length d)) := ⟨below_cell hb1' (by omega) E0.out.1, below_cell hb1' (by omega) E0.out.2.1, below_cell hb1' (by omega) E0.out.2.2⟩
    have Q1 := Lib.hid (Q0.out.below hb1' (by omega))
    have HL1 := Lib.hid (HB.out.trans (hb1'.mono (by omega)))
    have O1 := Lib.hid hO1'
    have hz1 : w.heap.size + 3 ≤ w1.heap.size := by have := hb1'.size; omega
    clear hO1 hO1' hb1 hb1' hS
    have hS := hS1
    clear hS1
    go_wp2_with fail
    refine hK.out _ _ hS (fun _ => ?_)
    clear hK K
    try simp only [Act.put, List.setIfInBounds_toArray, List.set_cons_zero, List.set_cons_succ]
    refine tree_take (v := .agg (machL (.slice A p.code.length c) (resL r vm1 vw1) pc).toArray) hS (by rfl) (fun x hx => exec_build _ _ rfl _ (by simp only [List.map_toArray, List.map_cons, List.map_nil]; exact machine_built A p.code.length c (resL r vm1 vw1) pc (resL_len h16)) x) ?_
    simp only [Act.put, List.setIfInBounds_toArray, List.set_cons_zero, List.set_cons_succ]
    refine tree_call hS (by rfl) (fun K hK => ?_)
    go_simp
    have hS2 : (w1.alloc (.cells #[.slice none 0 0, .int .i64 0, .int .i64 0, .int .i64 0, .int .i64 0, .int .i64 0, .int .u32 0, .int .u32 0, .int .u32 0, .int .u32 0, .int .u32 0, .int .u32 0, .int .u32 0, .int .u32 0, .int .u32 0, .int .u32 0, .int .u32 0, .int .u32 0, .int .u32 0, .int .u32 0, .int .u32 0, .int .u32 0, .slice none 0 0, .slice none 0 0, .int .i64 0] 63)).cell? ⟨w.heap.size, 0, none⟩ = some (.slice A p.code.length c) ∧ Box (w1.alloc (.cells #[.slice none 0 0, .int .i64 0, .int .i64 0, .int .i64 0, .int .i64 0, .int .i64 0, .int .u32 0, .int .u32 0, .int .u32 0, .int .u32 0, .int .u32 0, .int .u32 0, .int .u32 0, .int .u32 0, .int .u32 0, .int .u32 0, .int .u32 0, .int .u32 0, .int .u32 0, .int .u32 0, .int .u32 0, .int .u32 0, .slice none 0 0, .slice none 0 0, .int .i64 0] 63)) (w.heap.size + 1) (resL r (.slice M r.mem.length m) (.slice U r.ws.length u)) := ⟨one_cell (by omega) hS.1, hS.2.alloc _⟩
    refine hK.out _ _ hS2 (fun _ => ?_)
    clear hK K
    try simp only [Act.put, List.setIfInBounds_toArray, List.set_cons_zero, List.set_cons_succ]
    have HMZ := MBox.new w1 (machL (.slice none 0 0) (resL noRes (.slice none 0 0) (.slice none 0 0)) 0)
    have E2 : Hid ((w1.alloc (.cells #[.slice none 0 0, .int .i64 0, .int .i64 0, .int .i64 0, .int .i64 0, .int .i64 0, .int .u32 0, .int .u32 0, .int .u32 0, .int .u32 0, .int .u32 0, .int .u32 0, .int .u32 0, .int .u32 0, .int .u32 0, .int .u32 0, .int .u32 0, .int .u32 0, .int .u32 0, .int .u32 0, .int .u32 0, .int .u32 0, .slice none 0 0, .slice none 0 0, .int .i64 0] 63)).cell? ⟨w.heap.size, 0, none⟩ = some (.slice A p.code.length c) ∧ (w1.alloc (.cells #[.slice none 0 0, .int .i64 0, .int .i64 0, .int .i64 0, .int .i64 0, .int .i64 0, .int .u32 0, .int .u32 0, .int .u32 0, .int .u32 0, .int .u32 0, .int .u32 0, .int .u32 0, .int .u32 0, .int .u32 0, .int .u32 0, .int .u32 0, .int .u32 0, .int .u32 0, .int .u32 0, .int .u32 0, .int .u32 0, .slice none 0 0, .slice none 0 0, .int .i64 0] 63)).cell? ⟨w.heap.size, 1, none⟩ = some (.int .i64 p.size) ∧ (w1.alloc (.cells #[.slice none 0 0, .int .i64 0, .int .i64 0, .int .i64 0, .int .i64 0, .int .i64 0, .int .u32 0, .int .u32 0, .int .u32 0, .int .u32 0, .int .u32 0, .int .u32 0, .int .u32 0, .int .u32 0, .int .u32 0, .int .u32 0, .int .u32 0, .int .u32 0, .int .u32 0, .int .u32 0, .int .u32 0, .int .u32 0, .slice none 0 0, .slice none 0 0, .int .i64 0] 63)).cell? ⟨w.heap.size, 2, none⟩ = some (.slice D p.data.length d)) := ⟨one_cell (by omega) E1.out.1, one_cell (by omega) E1.out.2.1, one_cell (by omega) E1.out.2.2⟩
    have Q2 := Lib.hid (Q1.out.alloc (.cells #[.slice none 0 0, .int .i64 0, .int .i64 0, .int .i64 0, .int .i64 0, .int .i64 0, .int .u32 0, .int .u32 0, .int .u32 0, .int .u32 0, .int .u32 0, .int .u32 0, .int .u32 0, .int .u32 0, .int .u32 0, .int .u32 0, .int .u32 0, .int .u32 0, .int .u32 0, .int .u32 0, .int .u32 0, .int .u32 0, .slice none 0 0, .slice none 0 0, .int .i64 0] 63))
    have HL2 := Lib.hid (HL1.out.alloc HL1.out.size (.cells #[.slice none 0 0, .int .i64 0, .int .i64 0, .int .i64 0, .int .i64 0, .int .i64 0, .int .u32 0, .int .u32 0, .int .u32 0, .int .u32 0, .int .u32 0, .int .u32 0, .int .u32 0, .int .u32 0, .int .u32 0, .int .u32 0, .int .u32 0, .int .u32 0, .int .u32 0, .int .u32 0, .int .u32 0, .int .u32 0, .slice none 0 0, .slice none 0 0, .int .i64 0] 63))
    have O2 := Lib.hid (show ResOwn (w1.alloc (.cells #[.slice none 0 0, .int .i64 0, .int .i64 0, .int .i64 0, .int .i64 0, .int .i64 0, .int .u32 0, .int .u32 0, .int .u32 0, .int .u32 0, .int .u32 0, .int .u32 0, .int .u32 0, .int .u32 0, .int .u32 0, .int .u32 0, .int .u32 0, .int .u32 0, .int .u32 0, .int .u32 0, .int .u32 0, .int .u32 0, .slice none 0 0, .slice none 0 0, .int .i64 0] 63)) (w.heap.size + 3) vm1 vw1 r from ⟨O1.out.mem.alloc _, O1.out.ws.alloc _, h16⟩)
    have hz2 : w1.heap.size < (w1.alloc (.cells #[.slice none 0 0, .int .i64 0, .int .i64 0, .int .i64 0, .int .i64 0, .int .i64 0, .int .u32 0, .int .u32 0, .int .u32 0, .int .u32 0, .int .u32 0, .int .u32 0, .int .u32 0, .int .u32 0, .int .u32 0, .int .u32 0, .int .u32 0, .int .u32 0, .int .u32 0, .int .u32 0, .int .u32 0, .int .u32 0, .slice none 0 0, .slice none 0 0, .int .i64 0] 63)).heap.size := by simp
    clear hS E1 Q1 HL1 O1
    have hS := hS2
    clear hS2
    change MBox (w1.alloc (.cells #[.slice none 0 0, .int .i64 0, .int .i64 0, .int .i64 0, .int .i64 0, .int .i64 0, .int .u32 0, .int .u32 0, .int .u32 0, .int .u32 0, .int .u32 0, .int .u32 0, .int .u32 0, .int .u32 0, .int .u32 0, .int .u32 0, .int .u32 0, .int .u32 0, .int .u32 0, .int .u32 0, .int .u32 0, .int .u32 0, .slice none 0 0, .slice none 0 0, .int .i64 0] 63)) w1.heap.size (machL (.slice none 0 0) (resL noRes (.slice none 0 0) (.slice none 0 0)) 0) at HMZ
    generalize w1.alloc (.cells #[.slice none 0 0, .int .i64 0, .int .i64 0, .int .i64 0, .int .i64 0, .int .i64 0, .int .u32 0, .int .u32 0, .int .u32 0, .int .u32 0, .int .u32 0, .int .u32 0, .int .u32 0, .int .u32 0, .int .u32 0, .int .u32 0, .int .u32 0, .int .u32 0, .int .u32 0, .int .u32 0, .int .u32 0, .int .u32 0, .slice none 0 0, .slice none 0 0, .int .i64 0] 63) = w2 at *
    generalize w1.heap.size = mb at *
    have hbm : w.heap.size + 3 ≤ mb := hz1
    have hne0 : some w.heap.size ≠ some mb := fun h => by injection h with h; omega
    have hne1 : some (w.heap.size + 1) ≠ some mb := fun h => by injection h with h; omega
    have hmz : MBox w2 mb (machL (.slice none 0 0) (resL noRes (.slice none 0 0) (.slice none 0 0)) 0) := HMZ
    refine tree_store_mbox hS (by rfl) 63 (.tmp 8) (.tmp 14) rfl mb 0 (machL (.slice A p.code.length c) (resL r vm1 vw1) pc) rfl rfl (machL (.slice none 0 0) (resL noRes (.slice none 0 0) (.slice none 0 0)) 0) hmz (by rw [machL_len (resL_len h16), machL_len (resL_len rfl)]; exact Nat.le_refl _) 25 info_mach (machL_len (resL_len h16)) (machL_one rfl (resL_one hv1 hv2)) ?_ ?_
    · intro w3 h1 h2
      exact ⟨h2.cell hS.1 hne0, hS.2.grown h2 hne1⟩
    intro w3 hMB hg3
    rw [splice_whole _ _ (by rw [machL_len (resL_len h16), machL_len (resL_len rfl)])] at hMB
    refine tree_done ?_
    have E3 : Hid (w3.cell? ⟨w.heap.size, 0, none⟩ = some (.slice A p.code.length c) ∧ w3.cell? ⟨w.heap.size, 1, none⟩ = some (.int .i64 p.size) ∧ w3.cell? ⟨w.heap.size, 2, none⟩ = some (.slice D p.data.length d)) := ⟨hg3.cell E2.out.1 hne0, hg3.cell E2.out.2.1 hne0, hg3.cell E2.out.2.2 hne0⟩
    have Q3 := Lib.hid (Q2.out.grown hg3 (fun h => by injection h with h; omega))
    have B3 := Lib.hid (hS.2.grown hg3 (fun h => by injection h with h; omega))
    have HL3 := Lib.hid (Below.grown HL2.out hg3 HL2.out.size (fun k hk => grown_ge hk (by omega)))
    have O3 := Lib.hid (O2.out.grownM hmz hg3)
    clear hS E2 Q2 HL2 O2 hg3 hmz HMZ
    obtain ⟨e0, e1, e2⟩ := E3.out
    go_wp2_with (refine wpList_load_box rfl 32 (.tmp 4) rfl (w.heap.size + 1) 0 rfl (resL r (.slice M r.mem.length m) (.slice U r.ws.length u)) (resL r (.slice M r.mem.length m) (.slice U r.ws.length u)) B3.out (fun j v hv => by rw [Nat.zero_add]; exact hv) _ Try.underlying32 rfl 23 info_res (resL_len h16) ?_)
    refine (mayStep_any A D c d p M U m u r w3 ((HP0.out _ HL3.out).more HL3.out.size) h16).mono ?_; rintro e w4 ⟨rfl, hb4⟩
    rw [HMAY.out]
    have HL4 := Lib.hid (HL3.out.trans (hb4.mono HL3.out.size))
    have MB4 := Lib.hid (hMB.below hb4 hMB.lt)
    have O4 := Lib.hid (O3.out.below hb4)
    have Q4 := Lib.hid (Q3.out.below hb4 Q3.out.lt)
    clear e0 e1 e2 E3 B3 hb4 O3 Q3 hMB HL3
    go_wp2_with fail
    refine (mStep_any A c p r vm1 vw1 pc mb w4 MB4.out (w.heap.size + 3) hbm O4.out ((HP0.out _ HL4.out).code.more (by omega)) FR.out.2.2.2.2.2.1 FR.out.2.2.2.2.2.2.1 HW.out HZ.out.1 HZ.out.2.1 HZ.out.2.2).mono ?_; rintro e w5 ⟨rfl, vm5, vw5, hMB5, hO5, hb5⟩
    rw [← HR5.out] at hMB5 hO5
    rw [← HP5.out] at hMB5
    have HL5 := Lib.hid (HL4.out.trans (hb5.mono (by omega)))
    have MB5 := Lib.hid hMB5
    have O5 := Lib.hid hO5
    have Q5 := Lib.hid (Q4.out.below hb5 (by omega))
    have N5 := Lib.hid hO5.regs
    clear hMB5 hO5 hb5 MB4 O4 Q4 HL4
    obtain ⟨M5, m5, rfl⟩ := (Row.of_own O5.out.mem).form
    obtain ⟨U5, u5, rfl⟩ := (Row.of_own O5.out.ws).form
    go_wp2_with fail
    have hS : Box w5.drew mb (machL (.slice A p.code.length c) (resL r5 (.slice M5 r5.mem.length m5) (.slice U5 r5.ws.length u5)) pc5) := MB5.out.box
    refine wp_region_lin [(0, true), (1, true), (2, true), (3, true), (4, false), (5, true)]
      (by kernel_rfl) (by kernel_rfl) rfl (by kernel_rfl) (fun x => Box x mb (machL (.slice A p.code.length c) (resL r5 (.slice M5 r5.mem.length m5) (.slice U5 r5.ws.length u5)) pc5)) ?_
    simp only [List.map_cons, List.map_nil, List.getElem?_toArray, List.getElem?_cons_succ, List.getElem?_cons_zero]
    (refine lin_take (v := ?_) hS (by rfl) ?_ ?_; rotate_left; (intro x hx; clear hx; go_simp; try (with_reducible rfl)); (simp only [Act.put, List.setIfInBounds_toArray, List.set_cons_zero, List.set_cons_succ]))
    refine lin_load_box hS (by rfl) 32 (.tmp 19) rfl mb 1 rfl (machL (.slice A p.code.length c) (resL r5 (.slice M5 r5.mem.length m5) (.slice U5 r5.ws.length u5)) pc5) (resL r5 (.slice M5 r5.mem.length m5) (.slice U5 r5.ws.length u5)) (fun y hy => hy) (fun j v hv => by rw [Nat.add_comm]; exact machL_res (resL_len N5.out) hv) _ Try.underlying32 rfl 23 info_res (resL_len N5.out) ?_
    simp only [Act.put, List.setIfInBounds_toArray, List.set_cons_zero, List.set_cons_succ]
    (refine lin_take (v := ?_) hS (by rfl) ?_ ?_; rotate_left; (intro x hx; clear hx; go_simp; try (with_reducible rfl)); (simp only [Act.put, List.setIfInBounds_toArray, List.set_cons_zero, List.set_cons_succ]))
    (refine lin_take (v := .int .i64 pc5) hS (by rfl) ?_ ?_; (intro x hx; have x24 := hx.cell (machL_24 (resL_len N5.out)); clear hx; go_simp; try (with_reducible rfl)); (simp only [Act.put, List.setIfInBounds_toArray, List.set_cons_zero, List.set_cons_succ]))
    refine lin_store_box hS (by rfl) 32 (.tmp 6) (.tmp 20) rfl (w.heap.size + 2) 0 (resL r5 (.slice M5 r5.mem.length m5) (.slice U5 r5.ws.length u5)) rfl rfl (resL noRes (.slice none 0 0) (.slice none 0 0)) (Box.drew Q5.out) (by rw [resL_len N5.out, resL_len rfl]; exact Nat.le_refl _) 23 info_res (resL_len N5.out) (resL_one rfl rfl) (fun w9 h1 h2 => hS.grown h2 (fun h => by injection h with h; omega)) ?_
    intro w9 hB9 hg9
    rw [splice_whole _ _ (by rw [resL_len N5.out, resL_len rfl])] at hB9
    have hS9 : Box w9 mb (machL (.slice A p.code.length c) (resL r5 (.slice M5 r5.mem.length m5) (.slice U5 r5.ws.length u5)) pc5) := hS.grown hg9 (fun h => by injection h with h; omega)
    simp only [Act.put]
    (refine lin_take (v := ?_) hS9 (by rfl) ?_ ?_; rotate_left; (intro x hx; clear hx; go_simp; try (with_reducible rfl)); (simp only [Act.put, List.setIfInBounds_toArray, List.set_cons_zero, List.set_cons_succ]))
    refine lin_done ?_
    have B9 := Lib.hid hB9
    have HL9 := Lib.hid (show Below w.heap.size w w9 from Below.grown HL5.out.drew hg9 HL5.out.size (fun k hk => grown_ge hk (by omega)))
    have O9 := Lib.hid (show ResOwn w9 w.heap.size (.slice M5 r5.mem.length m5) (.slice U5 r5.ws.length u5) r5 from ResOwn.base (ResOwn.grown (b := (w.heap.size + 2)) (show ResOwn w5.drew (w.heap.size + 3) _ _ r5 from ⟨O5.out.mem, O5.out.ws, N5.out⟩) hg9 (by omega)) (by omega))
    clear hS hS9 hB9 hg9
    go_wp2_with fail
    refine bodyPost_ret (v := .tuple #[.agg (resL r5 (.slice M5 r5.mem.length m5) (.slice U5 r5.ws.length u5)).toArray, .int .i64 pc5]) ?_ rfl ⟨_, _, rfl, O9.out, HL9.out⟩
    exact results_cell_tmp' Try.results13 _ _ _ ⟨w.heap.size + 2, 0, none⟩ _ _ rfl (load_res B9.out N5.out) rfl
  · go_simp
    have hS2 : (W0.drew.alloc (.cells #[.slice none 0 0, .int .i64 0, .int .i64 0, .int .i64 0, .int .i64 0, .int .i64 0, .int .u32 0, .int .u32 0, .int .u32 0, .int .u32 0, .int .u32 0, .int .u32 0, .int .u32 0, .int .u32 0, .int .u32 0, .int .u32 0, .int .u32 0, .int .u32 0, .int .u32 0, .int .u32 0, .int .u32 0, .int .u32 0, .slice none 0 0, .slice none 0 0, .int .i64 0] 63)).cell? ⟨w.heap.size, 0, none⟩ = some (.slice A p.code.length c) ∧ Box (W0.drew.alloc (.cells #[.slice none 0 0, .int .i64 0, .int .i64 0, .int .i64 0, .int .i64 0, .int .i64 0, .int .u32 0, .int .u32 0, .int .u32 0, .int .u32 0, .int .u32 0, .int .u32 0, .int .u32 0, .int .u32 0, .int .u32 0, .int .u32 0, .int .u32 0, .int .u32 0, .int .u32 0, .int .u32 0, .int .u32 0, .int .u32 0, .slice none 0 0, .slice none 0 0, .int .i64 0] 63)) (w.heap.size + 1) (resL r (.slice M r.mem.length m) (.slice U r.ws.length u)) := ⟨one_cell (show w.heap.size < W0.drew.heap.size by show _ < W0.heap.size; omega) hS.1, Box.alloc hS.2 _⟩
    refine hK.out _ _ hS2 (fun _ => ?_)
    clear hK K
    try simp only [Act.put, List.setIfInBounds_toArray, List.set_cons_zero, List.set_cons_succ]
    have HMZ := MBox.new W0 (machL (.slice none 0 0) (resL noRes (.slice none 0 0) (.slice none 0 0)) 0)
    have hz2 : (W0.drew.alloc (.cells #[.slice none 0 0, .int .i64 0, .int .i64 0, .int .i64 0, .int .i64 0, .int .i64 0, .int .u32 0, .int .u32 0, .int .u32 0, .int .u32 0, .int .u32 0, .int .u32 0, .int .u32 0, .int .u32 0, .int .u32 0, .int .u32 0, .int .u32 0, .int .u32 0, .int .u32 0, .int .u32 0, .int .u32 0, .int .u32 0, .slice none 0 0, .slice none 0 0, .int .i64 0] 63)).heap.size = w.heap.size + 4 := by simp [hs]
    have E1 : Hid ((W0.drew.alloc (.cells #[.slice none 0 0, .int .i64 0, .int .i64 0, .int .i64 0, .int .i64 0, .int .i64 0, .int .u32 0, .int .u32 0, .int .u32 0, .int .u32 0, .int .u32 0, .int .u32 0, .int .u32 0, .int .u32 0, .int .u32 0, .int .u32 0, .int .u32 0, .int .u32 0, .int .u32 0, .int .u32 0, .int .u32 0, .int .u32 0, .slice none 0 0, .slice none 0 0, .int .i64 0] 63)).cell? ⟨w.heap.size, 0, none⟩ = some (.slice A p.code.length c) ∧ (W0.drew.alloc (.cells #[.slice none 0 0, .int .i64 0, .int .i64 0, .int .i64 0, .int .i64 0, .int .i64 0, .int .u32 0, .int .u32 0, .int .u32 0, .int .u32 0, .int .u32 0, .int .u32 0, .int .u32 0, .int .u32 0, .int .u32 0, .int .u32 0, .int .u32 0, .int .u32 0, .int .u32 0, .int .u32 0, .int .u32 0, .int .u32 0, .slice none 0 0, .slice none 0 0, .int .i64 0] 63)).cell? ⟨w.heap.size, 1, none⟩ = some (.int .i64 p.size) ∧ (W0.drew.alloc (.cells #[.slice none 0 0, .int .i64 0, .int .i64 0, .int .i64 0, .int .i64 0, .int .i64 0, .int .u32 0, .int .u32 0, .int .u32 0, .int .u32 0, .int .u32 0, .int .u32 0, .int .u32 0, .int .u32 0, .int .u32 0, .int .u32 0, .int .u32 0, .int .u32 0, .int .u32 0, .int .u32 0, .int .u32 0, .int .u32 0, .slice none 0 0, .slice none 0 0, .int .i64 0] 63)).cell? ⟨w.heap.size, 2, none⟩ = some (.slice D p.data.length d)) := ⟨one_cell (w := W0.drew) (show w.heap.size < W0.heap.size by omega) E0.out.1, one_cell (w := W0.drew) (show w.heap.size < W0.heap.size by omega) E0.out.2.1, one_cell (w := W0.drew) (show w.heap.size < W0.heap.size by omega) E0.out.2.2⟩
    have Q1 : Hid (Box (W0.drew.alloc (.cells #[.slice none 0 0, .int .i64 0, .int .i64 0, .int .i64 0, .int .i64 0, .int .i64 0, .int .u32 0, .int .u32 0, .int .u32 0, .int .u32 0, .int .u32 0, .int .u32 0, .int .u32 0, .int .u32 0, .int .u32 0, .int .u32 0, .int .u32 0, .int .u32 0, .int .u32 0, .int .u32 0, .int .u32 0, .int .u32 0, .slice none 0 0, .slice none 0 0, .int .i64 0] 63)) (w.heap.size + 2) (resL noRes (.slice none 0 0) (.slice none 0 0))) := Box.alloc (w := W0.drew) Q0.out _
    have HL1 := Lib.hid (show Below w.heap.size w (W0.drew.alloc (.cells #[.slice none 0 0, .int .i64 0, .int .i64 0, .int .i64 0, .int .i64 0, .int .i64 0, .int .u32 0, .int .u32 0, .int .u32 0, .int .u32 0, .int .u32 0, .int .u32 0, .int .u32 0, .int .u32 0, .int .u32 0, .int .u32 0, .int .u32 0, .int .u32 0, .int .u32 0, .int .u32 0, .int .u32 0, .int .u32 0, .slice none 0 0, .slice none 0 0, .int .i64 0] 63)) from HB.out.drew.alloc (show w.heap.size ≤ W0.heap.size by omega) _)
    have HVd : ResV W0.drew W0.drew.heap.size (.slice M r.mem.length m) (.slice U r.ws.length u) r := ⟨HV.out.mem, HV.out.ws, h16⟩
    have HV1 := Lib.hid ((HVd.alloc (Nat.le_refl _) (.cells #[.slice none 0 0, .int .i64 0, .int .i64 0, .int .i64 0, .int .i64 0, .int .i64 0, .int .u32 0, .int .u32 0, .int .u32 0, .int .u32 0, .int .u32 0, .int .u32 0, .int .u32 0, .int .u32 0, .int .u32 0, .int .u32 0, .int .u32 0, .int .u32 0, .int .u32 0, .int .u32 0, .int .u32 0, .int .u32 0, .slice none 0 0, .slice none 0 0, .int .i64 0] 63)).more (show W0.drew.heap.size ≤ (W0.drew.alloc (.cells #[.slice none 0 0, .int .i64 0, .int .i64 0, .int .i64 0, .int .i64 0, .int .i64 0, .int .u32 0, .int .u32 0, .int .u32 0, .int .u32 0, .int .u32 0, .int .u32 0, .int .u32 0, .int .u32 0, .int .u32 0, .int .u32 0, .int .u32 0, .int .u32 0, .int .u32 0, .int .u32 0, .int .u32 0, .int .u32 0, .slice none 0 0, .slice none 0 0, .int .i64 0] 63)).heap.size by simp))
    clear HVd
    clear hS
    have hS := hS2
    clear hS2
    change MBox (W0.drew.alloc (.cells #[.slice none 0 0, .int .i64 0, .int .i64 0, .int .i64 0, .int .i64 0, .int .i64 0, .int .u32 0, .int .u32 0, .int .u32 0, .int .u32 0, .int .u32 0, .int .u32 0, .int .u32 0, .int .u32 0, .int .u32 0, .int .u32 0, .int .u32 0, .int .u32 0, .int .u32 0, .int .u32 0, .int .u32 0, .int .u32 0, .slice none 0 0, .slice none 0 0, .int .i64 0] 63)) W0.heap.size (machL (.slice none 0 0) (resL noRes (.slice none 0 0) (.slice none 0 0)) 0) at HMZ
    rw [hs] at HMZ
    refine tree_call hS (by rfl) (fun K hK => ?_)
    go_simp
    refine (copied_any r (.slice M r.mem.length m) (.slice U r.ws.length u) (W0.drew.alloc (.cells #[.slice none 0 0, .int .i64 0, .int .i64 0, .int .i64 0, .int .i64 0, .int .i64 0, .int .u32 0, .int .u32 0, .int .u32 0, .int .u32 0, .int .u32 0, .int .u32 0, .int .u32 0, .int .u32 0, .int .u32 0, .int .u32 0, .int .u32 0, .int .u32 0, .int .u32 0, .int .u32 0, .int .u32 0, .int .u32 0, .slice none 0 0, .slice none 0 0, .int .i64 0] 63)) HV1.out HM.out HW.out).mono ?_
    generalize W0.drew.alloc (.cells #[.slice none 0 0, .int .i64 0, .int .i64 0, .int .i64 0, .int .i64 0, .int .i64 0, .int .u32 0, .int .u32 0, .int .u32 0, .int .u32 0, .int .u32 0, .int .u32 0, .int .u32 0, .int .u32 0, .int .u32 0, .int .u32 0, .int .u32 0, .int .u32 0, .int .u32 0, .int .u32 0, .int .u32 0, .int .u32 0, .slice none 0 0, .slice none 0 0, .int .i64 0] 63) = w1 at *
    rintro e w2 ⟨vm1, vw1, rfl, hO1, hb1⟩
    have hO1' : ResOwn w2 (w.heap.size + 3) vm1 vw1 r := ResOwn.base (b1 := w.heap.size + 3) hO1 (by omega)
    have hb1' : Below (w.heap.size + 4) w1 w2 := hz2 ▸ hb1
    have hS1 : w2.cell? ⟨w.heap.size, 0, none⟩ = some (.slice A p.code.length c) ∧ Box w2 (w.heap.size + 1) (resL r (.slice M r.mem.length m) (.slice U r.ws.length u)) := ⟨below_cell hb1' (by omega) hS.1, hS.2.below hb1' (by omega)⟩
    have hv1 := own_one hO1'.mem
    have hv2 := own_one hO1'.ws
    have E2 : Hid (w2.cell? ⟨w.heap.size, 0, none⟩ = some (.slice A p.code.length c) ∧ w2.cell? ⟨w.heap.size, 1, none⟩ = some (.int .i64 p.size) ∧ w2.cell? ⟨w.heap.size, 2, none⟩ = some (.slice D p.data.length d)) := ⟨below_cell hb1' (by omega) E1.out.1, below_cell hb1' (by omega) E1.out.2.1, below_cell hb1' (by omega) E1.out.2.2⟩
    have Q2 := Lib.hid (Q1.out.below hb1' (by omega))
    have HL2 := Lib.hid (HL1.out.trans (hb1'.mono (by omega)))
    have O2 := Lib.hid hO1'
    have HMZ2 := HMZ.below hb1' (by omega)
    clear HMZ
    have HMZ := HMZ2
    clear HMZ2
    have hz3 : w.heap.size + 4 ≤ w2.heap.size := by have := hb1'.size; omega
    clear hO1 hO1' hb1 hb1' hS Q1 HL1 E1
    have hS := hS1
    clear hS1
    go_wp2_with fail
    refine hK.out _ _ hS (fun _ => ?_)
    clear hK K
    try simp only [Act.put, List.setIfInBounds_toArray, List.set_cons_zero, List.set_cons_succ]
    refine tree_take (v := .agg (machL (.slice A p.code.length c) (resL r vm1 vw1) pc).toArray) hS (by rfl) (fun x hx => exec_build _ _ rfl _ (by simp only [List.map_toArray, List.map_cons, List.map_nil]; exact machine_built A p.code.length c (resL r vm1 vw1) pc (resL_len h16)) x) ?_
    simp only [Act.put, List.setIfInBounds_toArray, List.set_cons_zero, List.set_cons_succ]
    have hbm : w.heap.size + 3 ≤ w.heap.size + 3 := Nat.le_refl _
    have hne0 : some w.heap.size ≠ some (w.heap.size + 3) := fun h => by injection h with h; omega
    have hne1 : some (w.heap.size + 1) ≠ some (w.heap.size + 3) := fun h => by injection h with h; omega
    have hmz : MBox w2 (w.heap.size + 3) (machL (.slice none 0 0) (resL noRes (.slice none 0 0) (.slice none 0 0)) 0) := HMZ
    refine tree_store_mbox hS (by rfl) 63 (.tmp 8) (.tmp 14) rfl (w.heap.size + 3) 0 (machL (.slice A p.code.length c) (resL r vm1 vw1) pc) rfl rfl (machL (.slice none 0 0) (resL noRes (.slice none 0 0) (.slice none 0 0)) 0) hmz (by rw [machL_len (resL_len h16), machL_len (resL_len rfl)]; exact Nat.le_refl _) 25 info_mach (machL_len (resL_len h16)) (machL_one rfl (resL_one hv1 hv2)) ?_ ?_
    · intro w3 h1 h2
      exact ⟨h2.cell hS.1 hne0, hS.2.grown h2 hne1⟩
    intro w3 hMB hg3
    rw [splice_whole _ _ (by rw [machL_len (resL_len h16), machL_len (resL_len rfl)])] at hMB
    refine tree_done ?_
    have E3 : Hid (w3.cell? ⟨w.heap.size, 0, none⟩ = some (.slice A p.code.length c) ∧ w3.cell? ⟨w.heap.size, 1, none⟩ = some (.int .i64 p.size) ∧ w3.cell? ⟨w.heap.size, 2, none⟩ = some (.slice D p.data.length d)) := ⟨hg3.cell E2.out.1 hne0, hg3.cell E2.out.2.1 hne0, hg3.cell E2.out.2.2 hne0⟩
    have Q3 := Lib.hid (Q2.out.grown hg3 (fun h => by injection h with h; omega))
    have B3 := Lib.hid (hS.2.grown hg3 (fun h => by injection h with h; omega))
    have HL3 := Lib.hid (Below.grown HL2.out hg3 HL2.out.size (fun k hk => grown_ge hk (by omega)))
    have O3 := Lib.hid (O2.out.grownM hmz hg3)
    clear hS E2 Q2 HL2 O2 hg3 hmz HMZ
    obtain ⟨e0, e1, e2⟩ := E3.out
    go_wp2_with (refine wpList_load_box rfl 32 (.tmp 4) rfl (w.heap.size + 1) 0 rfl (resL r (.slice M r.mem.length m) (.slice U r.ws.length u)) (resL r (.slice M r.mem.length m) (.slice U r.ws.length u)) B3.out (fun j v hv => by rw [Nat.zero_add]; exact hv) _ Try.underlying32 rfl 23 info_res (resL_len h16) ?_)
    refine (mayStep_any A D c d p M U m u r w3 ((HP0.out _ HL3.out).more HL3.out.size) h16).mono ?_; rintro e w4 ⟨rfl, hb4⟩
    rw [HMAY.out]
    have HL4 := Lib.hid (HL3.out.trans (hb4.mono HL3.out.size))
    have MB4 := Lib.hid (hMB.below hb4 hMB.lt)
    have O4 := Lib.hid (O3.out.below hb4)
    have Q4 := Lib.hid (Q3.out.below hb4 Q3.out.lt)
    clear e0 e1 e2 E3 B3 hb4 O3 Q3 hMB HL3
    go_wp2_with fail
    refine (mStep_any A c p r vm1 vw1 pc (w.heap.size + 3) w4 MB4.out (w.heap.size + 3) hbm O4.out ((HP0.out _ HL4.out).code.more (by omega)) FR.out.2.2.2.2.2.1 FR.out.2.2.2.2.2.2.1 HW.out HZ.out.1 HZ.out.2.1 HZ.out.2.2).mono ?_; rintro e w5 ⟨rfl, vm5, vw5, hMB5, hO5, hb5⟩
    rw [← HR5.out] at hMB5 hO5
    rw [← HP5.out] at hMB5
    have HL5 := Lib.hid (HL4.out.trans (hb5.mono (by omega)))
    have MB5 := Lib.hid hMB5
    have O5 := Lib.hid hO5
    have Q5 := Lib.hid (Q4.out.below hb5 (by omega))
    have N5 := Lib.hid hO5.regs
    clear hMB5 hO5 hb5 MB4 O4 Q4 HL4
    obtain ⟨M5, m5, rfl⟩ := (Row.of_own O5.out.mem).form
    obtain ⟨U5, u5, rfl⟩ := (Row.of_own O5.out.ws).form
    go_wp2_with fail
    have hS : Box w5.drew (w.heap.size + 3) (machL (.slice A p.code.length c) (resL r5 (.slice M5 r5.mem.length m5) (.slice U5 r5.ws.length u5)) pc5) := MB5.out.box
    refine wp_region_lin [(0, true), (1, true), (2, true), (3, true), (4, false), (5, true)]
      (by kernel_rfl) (by kernel_rfl) rfl (by kernel_rfl) (fun x => Box x (w.heap.size + 3) (machL (.slice A p.code.length c) (resL r5 (.slice M5 r5.mem.length m5) (.slice U5 r5.ws.length u5)) pc5)) ?_
    simp only [List.map_cons, List.map_nil, List.getElem?_toArray, List.getElem?_cons_succ, List.getElem?_cons_zero]
    (refine lin_take (v := ?_) hS (by rfl) ?_ ?_; rotate_left; (intro x hx; clear hx; go_simp; try (with_reducible rfl)); (simp only [Act.put, List.setIfInBounds_toArray, List.set_cons_zero, List.set_cons_succ]))
    refine lin_load_box hS (by rfl) 32 (.tmp 19) rfl (w.heap.size + 3) 1 rfl (machL (.slice A p.code.length c) (resL r5 (.slice M5 r5.mem.length m5) (.slice U5 r5.ws.length u5)) pc5) (resL r5 (.slice M5 r5.mem.length m5) (.slice U5 r5.ws.length u5)) (fun y hy => hy) (fun j v hv => by rw [Nat.add_comm]; exact machL_res (resL_len N5.out) hv) _ Try.underlying32 rfl 23 info_res (resL_len N5.out) ?_
    simp only [Act.put, List.setIfInBounds_toArray, List.set_cons_zero, List.set_cons_succ]
    (refine lin_take (v := ?_) hS (by rfl) ?_ ?_; rotate_left; (intro x hx; clear hx; go_simp; try (with_reducible rfl)); (simp only [Act.put, List.setIfInBounds_toArray, List.set_cons_zero, List.set_cons_succ]))
    (refine lin_take (v := .int .i64 pc5) hS (by rfl) ?_ ?_; (intro x hx; have x24 := hx.cell (machL_24 (resL_len N5.out)); clear hx; go_simp; try (with_reducible rfl)); (simp only [Act.put, List.setIfInBounds_toArray, List.set_cons_zero, List.set_cons_succ]))
    refine lin_store_box hS (by rfl) 32 (.tmp 6) (.tmp 20) rfl (w.heap.size + 2) 0 (resL r5 (.slice M5 r5.mem.length m5) (.slice U5 r5.ws.length u5)) rfl rfl (resL noRes (.slice none 0 0) (.slice none 0 0)) (Box.drew Q5.out) (by rw [resL_len N5.out, resL_len rfl]; exact Nat.le_refl _) 23 info_res (resL_len N5.out) (resL_one rfl rfl) (fun w9 h1 h2 => hS.grown h2 (fun h => by injection h with h; omega)) ?_
    intro w9 hB9 hg9
    rw [splice_whole _ _ (by rw [resL_len N5.out, resL_len rfl])] at hB9
    have hS9 : Box w9 (w.heap.size + 3) (machL (.slice A p.code.length c) (resL r5 (.slice M5 r5.mem.length m5) (.slice U5 r5.ws.length u5)) pc5) := hS.grown hg9 (fun h => by injection h with h; omega)
    simp only [Act.put]
    (refine lin_take (v := ?_) hS9 (by rfl) ?_ ?_; rotate_left; (intro x hx; clear hx; go_simp; try (with_reducible rfl)); (simp only [Act.put, List.setIfInBounds_toArray, List.set_cons_zero, List.set_cons_succ]))
    refine lin_done ?_
    have B9 := Lib.hid hB9
    have HL9 := Lib.hid (show Below w.heap.size w w9 from Below.grown HL5.out.drew hg9 HL5.out.size (fun k hk => grown_ge hk (by omega)))
    have O9 := Lib.hid (show ResOwn w9 w.heap.size (.slice M5 r5.mem.length m5) (.slice U5 r5.ws.length u5) r5 from ResOwn.base (ResOwn.grown (b := (w.heap.size + 2)) (show ResOwn w5.drew (w.heap.size + 3) _ _ r5 from ⟨O5.out.mem, O5.out.ws, N5.out⟩) hg9 (by omega)) (by omega))
    clear hS hS9 hB9 hg9
    go_wp2_with fail
    refine bodyPost_ret (v := .tuple #[.agg (resL r5 (.slice M5 r5.mem.length m5) (.slice U5 r5.ws.length u5)).toArray, .int .i64 pc5]) ?_ rfl ⟨_, _, rfl, O9.out, HL9.out⟩
    exact results_cell_tmp' Try.results13 _ _ _ ⟨w.heap.size + 2, 0, none⟩ _ _ rfl (load_res B9.out N5.out) rfl

set_option maxHeartbeats 1000000 in
theorem seqStep_stays (A D : Option Addr) (c d : Nat) (p : Prog) (M U : Option Addr) (m u : Nat) (r : Res) (w : World) (pc : Int) (hp : ProgV w w.heap.size (.slice A p.code.length c) (.slice D p.data.length d) p) (hr : ResV w w.heap.size (.slice M r.mem.length m) (.slice U r.ws.length u) r) (hm : r.mem.length ≤ 140737488355328) (hw : r.ws.length ≤ 1000000000000) (fr : r.Fits) (hmay : mayB p r = false) :
    Calls Try.prog 13 #[.agg #[.slice A p.code.length c, .int .i64 p.size, .slice D p.data.length d], .agg (resL r (.slice M r.mem.length m) (.slice U r.ws.length u)).toArray, .int .i64 pc] w fun e w' => ∃ vm' vw', e = .returned (.tuple #[.agg (resL (stepZ p r pc).1 vm' vw').toArray, .int .i64 (stepZ p r pc).2]) ∧ ResOwn w' w.heap.size vm' vw' (stepZ p r pc).1 ∧ Below w.heap.size w w' := by
  have HMAY := Lib.hid hmay
  rw [stepZ_stay (mayB_no hmay)]
  show Calls _ _ _ _ fun e w' => ∃ vm' vw', e = .returned (.tuple #[.agg (resL r vm' vw').toArray, .int .i64 pc]) ∧ ResOwn w' w.heap.size vm' vw' r ∧ Below w.heap.size w w'
  clear hmay
  obtain ⟨u1, u2⟩ := hp.code.cap
  obtain ⟨u3, u4⟩ := hp.data.cap
  have h16 := hr.regs
  have hs : (((w.alloc (.cells #[.slice A p.code.length c, .int .i64 p.size, .slice D p.data.length d] 25)).alloc (.cells (resL r (.slice M r.mem.length m) (.slice U r.ws.length u)).toArray 32)).alloc (.cells #[.int .i64 0, .int .i64 0, .int .i64 0, .int .i64 0, .int .i64 0, .int .u32 0, .int .u32 0, .int .u32 0, .int .u32 0, .int .u32 0, .int .u32 0, .int .u32 0, .int .u32 0, .int .u32 0, .int .u32 0, .int .u32 0, .int .u32 0, .int .u32 0, .int .u32 0, .int .u32 0, .int .u32 0, .slice none 0 0, .slice none 0 0] 32)).heap.size = w.heap.size + 3 := by simp
  have HB := Lib.hid ((((Below.refl w.heap.size w).alloc (Nat.le_refl _) (.cells #[.slice A p.code.length c, .int .i64 p.size, .slice D p.data.length d] 25)).alloc (by simp) (.cells (resL r (.slice M r.mem.length m) (.slice U r.ws.length u)).toArray 32)).alloc (by simp; omega) (.cells #[.int .i64 0, .int .i64 0, .int .i64 0, .int .i64 0, .int .i64 0, .int .u32 0, .int .u32 0, .int .u32 0, .int .u32 0, .int .u32 0, .int .u32 0, .int .u32 0, .int .u32 0, .int .u32 0, .int .u32 0, .int .u32 0, .int .u32 0, .int .u32 0, .int .u32 0, .int .u32 0, .int .u32 0, .slice none 0 0, .slice none 0 0] 32))
  have HV := Lib.hid (((hr.below HB.out).more (show w.heap.size ≤ (((w.alloc (.cells #[.slice A p.code.length c, .int .i64 p.size, .slice D p.data.length d] 25)).alloc (.cells (resL r (.slice M r.mem.length m) (.slice U r.ws.length u)).toArray 32)).alloc (.cells #[.int .i64 0, .int .i64 0, .int .i64 0, .int .i64 0, .int .i64 0, .int .u32 0, .int .u32 0, .int .u32 0, .int .u32 0, .int .u32 0, .int .u32 0, .int .u32 0, .int .u32 0, .int .u32 0, .int .u32 0, .int .u32 0, .int .u32 0, .int .u32 0, .int .u32 0, .int .u32 0, .int .u32 0, .slice none 0 0, .slice none 0 0] 32)).heap.size by rw [hs]; omega)))
  have HP0 := Lib.hid (fun (x : World) (h : Below w.heap.size w x) => hp.below h)
  have e0 : (((w.alloc (.cells #[.slice A p.code.length c, .int .i64 p.size, .slice D p.data.length d] 25)).alloc (.cells (resL r (.slice M r.mem.length m) (.slice U r.ws.length u)).toArray 32)).alloc (.cells #[.int .i64 0, .int .i64 0, .int .i64 0, .int .i64 0, .int .i64 0, .int .u32 0, .int .u32 0, .int .u32 0, .int .u32 0, .int .u32 0, .int .u32 0, .int .u32 0, .int .u32 0, .int .u32 0, .int .u32 0, .int .u32 0, .int .u32 0, .int .u32 0, .int .u32 0, .int .u32 0, .int .u32 0, .slice none 0 0, .slice none 0 0] 32)).cell? ⟨w.heap.size, 0, none⟩ = some (.slice A p.code.length c) := by go_simp
  have e1 : (((w.alloc (.cells #[.slice A p.code.length c, .int .i64 p.size, .slice D p.data.length d] 25)).alloc (.cells (resL r (.slice M r.mem.length m) (.slice U r.ws.length u)).toArray 32)).alloc (.cells #[.int .i64 0, .int .i64 0, .int .i64 0, .int .i64 0, .int .i64 0, .int .u32 0, .int .u32 0, .int .u32 0, .int .u32 0, .int .u32 0, .int .u32 0, .int .u32 0, .int .u32 0, .int .u32 0, .int .u32 0, .int .u32 0, .int .u32 0, .int .u32 0, .int .u32 0, .int .u32 0, .int .u32 0, .slice none 0 0, .slice none 0 0] 32)).cell? ⟨w.heap.size, 1, none⟩ = some (.int .i64 p.size) := by go_simp
  have e2 : (((w.alloc (.cells #[.slice A p.code.length c, .int .i64 p.size, .slice D p.data.length d] 25)).alloc (.cells (resL r (.slice M r.mem.length m) (.slice U r.ws.length u)).toArray 32)).alloc (.cells #[.int .i64 0, .int .i64 0, .int .i64 0, .int .i64 0, .int .i64 0, .int .u32 0, .int .u32 0, .int .u32 0, .int .u32 0, .int .u32 0, .int .u32 0, .int .u32 0, .int .u32 0, .int .u32 0, .int .u32 0, .int .u32 0, .int .u32 0, .int .u32 0, .int .u32 0, .int .u32 0, .int .u32 0, .slice none 0 0, .slice none 0 0] 32)).cell? ⟨w.heap.size, 2, none⟩ = some (.slice D p.data.length d) := by go_simp
  have B0 : Hid (Box (((w.alloc (.cells #[.slice A p.code.length c, .int .i64 p.size, .slice D p.data.length d] 25)).alloc (.cells (resL r (.slice M r.mem.length m) (.slice U r.ws.length u)).toArray 32)).alloc (.cells #[.int .i64 0, .int .i64 0, .int .i64 0, .int .i64 0, .int .i64 0, .int .u32 0, .int .u32 0, .int .u32 0, .int .u32 0, .int .u32 0, .int .u32 0, .int .u32 0, .int .u32 0, .int .u32 0, .int .u32 0, .int .u32 0, .int .u32 0, .int .u32 0, .int .u32 0, .int .u32 0, .int .u32 0, .slice none 0 0, .slice none 0 0] 32)) (w.heap.size + 1) (resL r (.slice M r.mem.length m) (.slice U r.ws.length u))) := by
    have := ((Box.new (w.alloc (.cells #[.slice A p.code.length c, .int .i64 p.size, .slice D p.data.length d] 25)) (resL r (.slice M r.mem.length m) (.slice U r.ws.length u)) 32).alloc (.cells #[.int .i64 0, .int .i64 0, .int .i64 0, .int .i64 0, .int .i64 0, .int .u32 0, .int .u32 0, .int .u32 0, .int .u32 0, .int .u32 0, .int .u32 0, .int .u32 0, .int .u32 0, .int .u32 0, .int .u32 0, .int .u32 0, .int .u32 0, .int .u32 0, .int .u32 0, .int .u32 0, .int .u32 0, .slice none 0 0, .slice none 0 0] 32))
    have e : (w.alloc (.cells #[.slice A p.code.length c, .int .i64 p.size, .slice D p.data.length d] 25)).heap.size = w.heap.size + 1 := by simp
    rw [e] at this
    exact this
  have Q0 : Hid (Box (((w.alloc (.cells #[.slice A p.code.length c, .int .i64 p.size, .slice D p.data.length d] 25)).alloc (.cells (resL r (.slice M r.mem.length m) (.slice U r.ws.length u)).toArray 32)).alloc (.cells #[.int .i64 0, .int .i64 0, .int .i64 0, .int .i64 0, .int .i64 0, .int .u32 0, .int .u32 0, .int .u32 0, .int .u32 0, .int .u32 0, .int .u32 0, .int .u32 0, .int .u32 0, .int .u32 0, .int .u32 0, .int .u32 0, .int .u32 0, .int .u32 0, .int .u32 0, .int .u32 0, .int .u32 0, .slice none 0 0, .slice none 0 0] 32)) (w.heap.size + 2) (resL noRes (.slice none 0 0) (.slice none 0 0))) := by
    have := Box.new ((w.alloc (.cells #[.slice A p.code.length c, .int .i64 p.size, .slice D p.data.length d] 25)).alloc (.cells (resL r (.slice M r.mem.length m) (.slice U r.ws.length u)).toArray 32)) (resL noRes (.slice none 0 0) (.slice none 0 0)) 32
    have e : ((w.alloc (.cells #[.slice A p.code.length c, .int .i64 p.size, .slice D p.data.length d] 25)).alloc (.cells (resL r (.slice M r.mem.length m) (.slice U r.ws.length u)).toArray 32)).heap.size = w.heap.size + 2 := by simp
    rw [e] at this
    exact this
  have E0 := Lib.hid (And.intro e0 (And.intro e1 e2))
  have HM := Lib.hid hm
  have HW := Lib.hid hw
  have FR := Lib.hid fr
  clear hp hr hm hw fr
  go_enter Try.func13, Try.ntmps13
  go_wp2_with fail
  generalize (((w.alloc (.cells #[.slice A p.code.length c, .int .i64 p.size, .slice D p.data.length d] 25)).alloc (.cells (resL r (.slice M r.mem.length m) (.slice U r.ws.length u)).toArray 32)).alloc (.cells #[.int .i64 0, .int .i64 0, .int .i64 0, .int .i64 0, .int .i64 0, .int .u32 0, .int .u32 0, .int .u32 0, .int .u32 0, .int .u32 0, .int .u32 0, .int .u32 0, .int .u32 0, .int .u32 0, .int .u32 0, .int .u32 0, .int .u32 0, .int .u32 0, .int .u32 0, .int .u32 0, .int .u32 0, .slice none 0 0, .slice none 0 0] 32)) = W0 at *
  have hS : W0.drew.cell? ⟨w.heap.size, 0, none⟩ = some (.slice A p.code.length c) ∧ Box W0.drew (w.heap.size + 1) (resL r (.slice M r.mem.length m) (.slice U r.ws.length u)) := ⟨e0, B0.out⟩
  clear e0 e1 e2
  refine wp_region_tree _ (LinT.of [(0, true), (1, true), (2, true), (4, true)] (.two 3 6 (LinT.of [(5, true), (6, false), (7, false)] .nil) (LinT.of [(3, false), (5, true), (7, false)] .nil))) (by kernel_rfl) (by kernel_rfl) rfl (by kernel_rfl) (fun x => x.cell? ⟨w.heap.size, 0, none⟩ = some (.slice A p.code.length c) ∧ Box x (w.heap.size + 1) (resL r (.slice M r.mem.length m) (.slice U r.ws.length u))) (fun _ _ h => h) ?_
  simp only [LinT.of, LinT.look, List.getElem?_toArray, List.getElem?_cons_succ, List.getElem?_cons_zero]
  iterate 2 (refine tree_take (v := ?_) hS (by rfl) ?_ ?_; rotate_left; (intro x hx; obtain ⟨x0, x1⟩ := hx; clear x1; go_simp; try (with_reducible rfl)); (simp only [Act.put, List.setIfInBounds_toArray, List.set_cons_zero, List.set_cons_succ]))
  refine tree_load_box hS (by rfl) 32 (.tmp 4) rfl (w.heap.size + 1) 0 rfl (resL r (.slice M r.mem.length m) (.slice U r.ws.length u)) (resL r (.slice M r.mem.length m) (.slice U r.ws.length u)) (fun y hy => hy.2) (fun j v hv => by rw [Nat.zero_add]; exact hv) _ Try.underlying32 rfl 23 info_res (resL_len h16) ?_
  simp only [Act.put, List.setIfInBounds_toArray, List.set_cons_zero, List.set_cons_succ]
  (refine tree_take (v := ?_) hS (by rfl) ?_ ?_; rotate_left; (intro x hx; obtain ⟨x0, x1⟩ := hx; clear x1; go_simp; try (with_reducible rfl)); (simp only [Act.put, List.setIfInBounds_toArray, List.set_cons_zero, List.set_cons_succ]))
  refine tree_two hS (by rfl) (by rfl) (fun K hK => ?_) (fun K hK => ?_)
  · go_simp
    refine (copied_any r (.slice M r.mem.length m) (.slice U r.ws.length u) W0.drew (show ResV W0.drew W0.drew.heap.size _ _ r from ⟨HV.out.mem, HV.out.ws, h16⟩) HM.out HW.out).mono ?_
    rintro e w1 ⟨vm1, vw1, rfl, hO1, hb1⟩
    have hO1' : ResOwn w1 (w.heap.size + 3) vm1 vw1 r := hs ▸ hO1
    have hb1' : Below (w.heap.size + 3) W0 w1 := hs ▸ (show Below W0.heap.size W0 w1 from ⟨hb1.os, hb1.tape, hb1.output, hb1.size, hb1.block⟩)
    have hS1 : w1.cell? ⟨w.heap.size, 0, none⟩ = some (.slice A p.code.length c) ∧ Box w1 (w.heap.size + 1) (resL r (.slice M r.mem.length m) (.slice U r.ws.length u)) := ⟨below_cell hb1' (by omega) hS.1, B0.out.below hb1' (by omega)⟩
    have hv1 := own_one hO1'.mem
    have hv2 := own_one hO1'.ws
    have E1 : Hid (w1.cell? ⟨w.heap.size, 0, none⟩ = some (.slice A p.code.length c) ∧ w1.cell? ⟨w.heap.size, 1, none⟩ = some (.int .i64 p.size) ∧ w1.cell? ⟨w.heap.size, 2, none⟩ = some (.slice D p.data.length d)) := ⟨below_cell hb1' (by omega) E0.out.1, below_cell hb1' (by omega) E0.out.2.1, below_cell hb1' (by omega) E0.out.2.2⟩
    have Q1 := Lib.hid (Q0.out.below hb1' (by omega))
    have HL1 := Lib.hid (HB.out.trans (hb1'.mono (by omega)))
    have O1 := Lib.hid hO1'
    have hz1 : w.heap.size + 3 ≤ w1.heap.size := by have := hb1'.size; omega
    clear hO1 hO1' hb1 hb1' hS
    have hS := hS1
    clear hS1
    go_wp2_with fail
    refine hK.out _ _ hS (fun _ => ?_)
    clear hK K
    try simp only [Act.put, List.setIfInBounds_toArray, List.set_cons_zero, List.set_cons_succ]
    refine tree_take (v := .agg (machL (.slice A p.code.length c) (resL r vm1 vw1) pc).toArray) hS (by rfl) (fun x hx => exec_build _ _ rfl _ (by simp only [List.map_toArray, List.map_cons, List.map_nil]; exact machine_built A p.code.length c (resL r vm1 vw1) pc (resL_len h16)) x) ?_
    simp only [Act.put, List.setIfInBounds_toArray, List.set_cons_zero, List.set_cons_succ]
    refine tree_call hS (by rfl) (fun K hK => ?_)
    go_simp
    have hS2 : (w1.alloc (.cells #[.slice none 0 0, .int .i64 0, .int .i64 0, .int .i64 0, .int .i64 0, .int .i64 0, .int .u32 0, .int .u32 0, .int .u32 0, .int .u32 0, .int .u32 0, .int .u32 0, .int .u32 0, .int .u32 0, .int .u32 0, .int .u32 0, .int .u32 0, .int .u32 0, .int .u32 0, .int .u32 0, .int .u32 0, .int .u32 0, .slice none 0 0, .slice none 0 0, .int .i64 0] 63)).cell? ⟨w.heap.size, 0, none⟩ = some (.slice A p.code.length c) ∧ Box (w1.alloc (.cells #[.slice none 0 0, .int .i64 0, .int .i64 0, .int .i64 0, .int .i64 0, .int .i64 0, .int .u32 0, .int .u32 0, .int .u32 0, .int .u32 0, .int .u32 0, .int .u32 0, .int .u32 0, .int .u32 0, .int .u32 0, .int .u32 0, .int .u32 0, .int .u32 0, .int .u32 0, .int .u32 0, .int .u32 0, .int .u32 0, .slice none 0 0, .slice none 0 0, .int .i64 0] 63)) (w.heap.size + 1) (resL r (.slice M r.mem.length m) (.slice U r.ws.length u)) := ⟨one_cell (by omega) hS.1, hS.2.alloc _⟩
    refine hK.out _ _ hS2 (fun _ => ?_)
    clear hK K
    try simp only [Act.put, List.setIfInBounds_toArray, List.set_cons_zero, List.set_cons_succ]
    have HMZ := MBox.new w1 (machL (.slice none 0 0) (resL noRes (.slice none 0 0) (.slice none 0 0)) 0)
    have E2 : Hid ((w1.alloc (.cells #[.slice none 0 0, .int .i64 0, .int .i64 0, .int .i64 0, .int .i64 0, .int .i64 0, .int .u32 0, .int .u32 0, .int .u32 0, .int .u32 0, .int .u32 0, .int .u32 0, .int .u32 0, .int .u32 0, .int .u32 0, .int .u32 0, .int .u32 0, .int .u32 0, .int .u32 0, .int .u32 0, .int .u32 0, .int .u32 0, .slice none 0 0, .slice none 0 0, .int .i64 0] 63)).cell? ⟨w.heap.size, 0, none⟩ = some (.slice A p.code.length c) ∧ (w1.alloc (.cells #[.slice none 0 0, .int .i64 0, .int .i64 0, .int .i64 0, .int .i64 0, .int .i64 0, .int .u32 0, .int .u32 0, .int .u32 0, .int .u32 0, .int .u32 0, .int .u32 0, .int .u32 0, .int .u32 0, .int .u32 0, .int .u32 0, .int .u32 0, .int .u32 0, .int .u32 0, .int .u32 0, .int .u32 0, .int .u32 0, .slice none 0 0, .slice none 0 0, .int .i64 0] 63)).cell? ⟨w.heap.size, 1, none⟩ = some (.int .i64 p.size) ∧ (w1.alloc (.cells #[.slice none 0 0, .int .i64 0, .int .i64 0, .int .i64 0, .int .i64 0, .int .i64 0, .int .u32 0, .int .u32 0, .int .u32 0, .int .u32 0, .int .u32 0, .int .u32 0, .int .u32 0, .int .u32 0, .int .u32 0, .int .u32 0, .int .u32 0, .int .u32 0, .int .u32 0, .int .u32 0, .int .u32 0, .int .u32 0, .slice none 0 0, .slice none 0 0, .int .i64 0] 63)).cell? ⟨w.heap.size, 2, none⟩ = some (.slice D p.data.length d)) := ⟨one_cell (by omega) E1.out.1, one_cell (by omega) E1.out.2.1, one_cell (by omega) E1.out.2.2⟩
    have Q2 := Lib.hid (Q1.out.alloc (.cells #[.slice none 0 0, .int .i64 0, .int .i64 0, .int .i64 0, .int .i64 0, .int .i64 0, .int .u32 0, .int .u32 0, .int .u32 0, .int .u32 0, .int .u32 0, .int .u32 0, .int .u32 0, .int .u32 0, .int .u32 0, .int .u32 0, .int .u32 0, .int .u32 0, .int .u32 0, .int .u32 0, .int .u32 0, .int .u32 0, .slice none 0 0, .slice none 0 0, .int .i64 0] 63))
    have HL2 := Lib.hid (HL1.out.alloc HL1.out.size (.cells #[.slice none 0 0, .int .i64 0, .int .i64 0, .int .i64 0, .int .i64 0, .int .i64 0, .int .u32 0, .int .u32 0, .int .u32 0, .int .u32 0, .int .u32 0, .int .u32 0, .int .u32 0, .int .u32 0, .int .u32 0, .int .u32 0, .int .u32 0, .int .u32 0, .int .u32 0, .int .u32 0, .int .u32 0, .int .u32 0, .slice none 0 0, .slice none 0 0, .int .i64 0] 63))
    have O2 := Lib.hid (show ResOwn (w1.alloc (.cells #[.slice none 0 0, .int .i64 0, .int .i64 0, .int .i64 0, .int .i64 0, .int .i64 0, .int .u32 0, .int .u32 0, .int .u32 0, .int .u32 0, .int .u32 0, .int .u32 0, .int .u32 0, .int .u32 0, .int .u32 0, .int .u32 0, .int .u32 0, .int .u32 0, .int .u32 0, .int .u32 0, .int .u32 0, .int .u32 0, .slice none 0 0, .slice none 0 0, .int .i64 0] 63)) (w.heap.size + 3) vm1 vw1 r from ⟨O1.out.mem.alloc _, O1.out.ws.alloc _, h16⟩)
    have hz2 : w1.heap.size < (w1.alloc (.cells #[.slice none 0 0, .int .i64 0, .int .i64 0, .int .i64 0, .int .i64 0, .int .i64 0, .int .u32 0, .int .u32 0, .int .u32 0, .int .u32 0, .int .u32 0, .int .u32 0, .int .u32 0, .int .u32 0, .int .u32 0, .int .u32 0, .int .u32 0, .int .u32 0, .int .u32 0, .int .u32 0, .int .u32 0, .int .u32 0, .slice none 0 0, .slice none 0 0, .int .i64 0] 63)).heap.size := by simp
    clear hS E1 Q1 HL1 O1
    have hS := hS2
    clear hS2
    change MBox (w1.alloc (.cells #[.slice none 0 0, .int .i64 0, .int .i64 0, .int .i64 0, .int .i64 0, .int .i64 0, .int .u32 0, .int .u32 0, .int .u32 0, .int .u32 0, .int .u32 0, .int .u32 0, .int .u32 0, .int .u32 0, .int .u32 0, .int .u32 0, .int .u32 0, .int .u32 0, .int .u32 0, .int .u32 0, .int .u32 0, .int .u32 0, .slice none 0 0, .slice none 0 0, .int .i64 0] 63)) w1.heap.size (machL (.slice none 0 0) (resL noRes (.slice none 0 0) (.slice none 0 0)) 0) at HMZ
    generalize w1.alloc (.cells #[.slice none 0 0, .int .i64 0, .int .i64 0, .int .i64 0, .int .i64 0, .int .i64 0, .int .u32 0, .int .u32 0, .int .u32 0, .int .u32 0, .int .u32 0, .int .u32 0, .int .u32 0, .int .u32 0, .int .u32 0, .int .u32 0, .int .u32 0, .int .u32 0, .int .u32 0, .int .u32 0, .int .u32 0, .int .u32 0, .slice none 0 0, .slice none 0 0, .int .i64 0] 63) = w2 at *
    generalize w1.heap.size = mb at *
    have hbm : w.heap.size + 3 ≤ mb := hz1
    have hne0 : some w.heap.size ≠ some mb := fun h => by injection h with h; omega
    have hne1 : some (w.heap.size + 1) ≠ some mb := fun h => by injection h with h; omega
    have hmz : MBox w2 mb (machL (.slice none 0 0) (resL noRes (.slice none 0 0) (.slice none 0 0)) 0) := HMZ
    refine tree_store_mbox hS (by rfl) 63 (.tmp 8) (.tmp 14) rfl mb 0 (machL (.slice A p.code.length c) (resL r vm1 vw1) pc) rfl rfl (machL (.slice none 0 0) (resL noRes (.slice none 0 0) (.slice none 0 0)) 0) hmz (by rw [machL_len (resL_len h16), machL_len (resL_len rfl)]; exact Nat.le_refl _) 25 info_mach (machL_len (resL_len h16)) (machL_one rfl (resL_one hv1 hv2)) ?_ ?_
    · intro w3 h1 h2
      exact ⟨h2.cell hS.1 hne0, hS.2.grown h2 hne1⟩
    intro w3 hMB hg3
    rw [splice_whole _ _ (by rw [machL_len (resL_len h16), machL_len (resL_len rfl)])] at hMB
    refine tree_done ?_
    have E3 : Hid (w3.cell? ⟨w.heap.size, 0, none⟩ = some (.slice A p.code.length c) ∧ w3.cell? ⟨w.heap.size, 1, none⟩ = some (.int .i64 p.size) ∧ w3.cell? ⟨w.heap.size, 2, none⟩ = some (.slice D p.data.length d)) := ⟨hg3.cell E2.out.1 hne0, hg3.cell E2.out.2.1 hne0, hg3.cell E2.out.2.2 hne0⟩
    have Q3 := Lib.hid (Q2.out.grown hg3 (fun h => by injection h with h; omega))
    have B3 := Lib.hid (hS.2.grown hg3 (fun h => by injection h with h; omega))
    have HL3 := Lib.hid (Below.grown HL2.out hg3 HL2.out.size (fun k hk => grown_ge hk (by omega)))
    have O3 := Lib.hid (O2.out.grownM hmz hg3)
    clear hS E2 Q2 HL2 O2 hg3 hmz HMZ
    obtain ⟨e0, e1, e2⟩ := E3.out
    go_wp2_with (refine wpList_load_box rfl 32 (.tmp 4) rfl (w.heap.size + 1) 0 rfl (resL r (.slice M r.mem.length m) (.slice U r.ws.length u)) (resL r (.slice M r.mem.length m) (.slice U r.ws.length u)) B3.out (fun j v hv => by rw [Nat.zero_add]; exact hv) _ Try.underlying32 rfl 23 info_res (resL_len h16) ?_)
    refine (mayStep_any A D c d p M U m u r w3 ((HP0.out _ HL3.out).more HL3.out.size) h16).mono ?_; rintro e w4 ⟨rfl, hb4⟩
    rw [HMAY.out]
    have HL4 := Lib.hid (HL3.out.trans (hb4.mono HL3.out.size))
    have MB4 := Lib.hid (hMB.below hb4 hMB.lt)
    have O4 := Lib.hid (O3.out.below hb4)
    have Q4 := Lib.hid (Q3.out.below hb4 Q3.out.lt)
    clear e0 e1 e2 E3 B3 hb4 O3 Q3 hMB HL3
    go_wp2_with fail
    obtain ⟨M1, m1, rfl⟩ := (Row.of_own O4.out.mem).form
    obtain ⟨U1, ux, rfl⟩ := (Row.of_own O4.out.ws).form
    have hS : Box w4.drew mb (machL (.slice A p.code.length c) (resL r (.slice M1 r.mem.length m1) (.slice U1 r.ws.length ux)) pc) := MB4.out.box
    refine wp_region_lin [(0, true), (1, true), (2, true), (3, true), (4, false), (5, true)]
      (by kernel_rfl) (by kernel_rfl) rfl (by kernel_rfl) (fun x => Box x mb (machL (.slice A p.code.length c) (resL r (.slice M1 r.mem.length m1) (.slice U1 r.ws.length ux)) pc)) ?_
    simp only [List.map_cons, List.map_nil, List.getElem?_toArray, List.getElem?_cons_succ, List.getElem?_cons_zero]
    (refine lin_take (v := ?_) hS (by rfl) ?_ ?_; rotate_left; (intro x hx; clear hx; go_simp; try (with_reducible rfl)); (simp only [Act.put, List.setIfInBounds_toArray, List.set_cons_zero, List.set_cons_succ]))
    refine lin_load_box hS (by rfl) 32 (.tmp 19) rfl mb 1 rfl (machL (.slice A p.code.length c) (resL r (.slice M1 r.mem.length m1) (.slice U1 r.ws.length ux)) pc) (resL r (.slice M1 r.mem.length m1) (.slice U1 r.ws.length ux)) (fun y hy => hy) (fun j v hv => by rw [Nat.add_comm]; exact machL_res (resL_len h16) hv) _ Try.underlying32 rfl 23 info_res (resL_len h16) ?_
    simp only [Act.put, List.setIfInBounds_toArray, List.set_cons_zero, List.set_cons_succ]
    (refine lin_take (v := ?_) hS (by rfl) ?_ ?_; rotate_left; (intro x hx; clear hx; go_simp; try (with_reducible rfl)); (simp only [Act.put, List.setIfInBounds_toArray, List.set_cons_zero, List.set_cons_succ]))
    (refine lin_take (v := .int .i64 pc) hS (by rfl) ?_ ?_; (intro x hx; have x24 := hx.cell (machL_24 (resL_len h16)); clear hx; go_simp; try (with_reducible rfl)); (simp only [Act.put, List.setIfInBounds_toArray, List.set_cons_zero, List.set_cons_succ]))
    refine lin_store_box hS (by rfl) 32 (.tmp 6) (.tmp 20) rfl (w.heap.size + 2) 0 (resL r (.slice M1 r.mem.length m1) (.slice U1 r.ws.length ux)) rfl rfl (resL noRes (.slice none 0 0) (.slice none 0 0)) (Box.drew Q4.out) (by rw [resL_len h16, resL_len rfl]; exact Nat.le_refl _) 23 info_res (resL_len h16) (resL_one rfl rfl) (fun w9 h1 h2 => hS.grown h2 (fun h => by injection h with h; omega)) ?_
    intro w9 hB9 hg9
    rw [splice_whole _ _ (by rw [resL_len h16, resL_len rfl])] at hB9
    have hS9 : Box w9 mb (machL (.slice A p.code.length c) (resL r (.slice M1 r.mem.length m1) (.slice U1 r.ws.length ux)) pc) := hS.grown hg9 (fun h => by injection h with h; omega)
    simp only [Act.put]
    (refine lin_take (v := ?_) hS9 (by rfl) ?_ ?_; rotate_left; (intro x hx; clear hx; go_simp; try (with_reducible rfl)); (simp only [Act.put, List.setIfInBounds_toArray, List.set_cons_zero, List.set_cons_succ]))
    refine lin_done ?_
    have B9 := Lib.hid hB9
    have HL9 := Lib.hid (show Below w.heap.size w w9 from Below.grown HL4.out.drew hg9 HL4.out.size (fun k hk => grown_ge hk (by omega)))
    have O9 := Lib.hid (show ResOwn w9 w.heap.size (.slice M1 r.mem.length m1) (.slice U1 r.ws.length ux) r from ResOwn.base (ResOwn.grown (b := (w.heap.size + 2)) (show ResOwn w4.drew (w.heap.size + 3) _ _ r from ⟨O4.out.mem, O4.out.ws, h16⟩) hg9 (by omega)) (by omega))
    clear hS hS9 hB9 hg9
    go_wp2_with fail
    refine bodyPost_ret (v := .tuple #[.agg (resL r (.slice M1 r.mem.length m1) (.slice U1 r.ws.length ux)).toArray, .int .i64 pc]) ?_ rfl ⟨_, _, rfl, O9.out, HL9.out⟩
    exact results_cell_tmp' Try.results13 _ _ _ ⟨w.heap.size + 2, 0, none⟩ _ _ rfl (load_res B9.out h16) rfl
  · go_simp
    have hS2 : (W0.drew.alloc (.cells #[.slice none 0 0, .int .i64 0, .int .i64 0, .int .i64 0, .int .i64 0, .int .i64 0, .int .u32 0, .int .u32 0, .int .u32 0, .int .u32 0, .int .u32 0, .int .u32 0, .int .u32 0, .int .u32 0, .int .u32 0, .int .u32 0, .int .u32 0, .int .u32 0, .int .u32 0, .int .u32 0, .int .u32 0, .int .u32 0, .slice none 0 0, .slice none 0 0, .int .i64 0] 63)).cell? ⟨w.heap.size, 0, none⟩ = some (.slice A p.code.length c) ∧ Box (W0.drew.alloc (.cells #[.slice none 0 0, .int .i64 0, .int .i64 0, .int .i64 0, .int .i64 0, .int .i64 0, .int .u32 0, .int .u32 0, .int .u32 0, .int .u32 0, .int .u32 0, .int .u32 0, .int .u32 0, .int .u32 0, .int .u32 0, .int .u32 0, .int .u32 0, .int .u32 0, .int .u32 0, .int .u32 0, .int .u32 0, .int .u32 0, .slice none 0 0, .slice none 0 0, .int .i64 0] 63)) (w.heap.size + 1) (resL r (.slice M r.mem.length m) (.slice U r.ws.length u)) := ⟨one_cell (show w.heap.size < W0.drew.heap.size by show _ < W0.heap.size; omega) hS.1, Box.alloc hS.2 _⟩
    refine hK.out _ _ hS2 (fun _ => ?_)
    clear hK K
    try simp only [Act.put, List.setIfInBounds_toArray, List.set_cons_zero, List.set_cons_succ]
    have HMZ := MBox.new W0 (machL (.slice none 0 0) (resL noRes (.slice none 0 0) (.slice none 0 0)) 0)
    have hz2 : (W0.drew.alloc (.cells #[.slice none 0 0, .int .i64 0, .int .i64 0, .int .i64 0, .int .i64 0, .int .i64 0, .int .u32 0, .int .u32 0, .int .u32 0, .int .u32 0, .int .u32 0, .int .u32 0, .int .u32 0, .int .u32 0, .int .u32 0, .int .u32 0, .int .u32 0, .int .u32 0, .int .u32 0, .int .u32 0, .int .u32 0, .int .u32 0, .slice none 0 0, .slice none 0 0, .int .i64 0] 63)).heap.size = w.heap.size + 4 := by simp [hs]
    have E1 : Hid ((W0.drew.alloc (.cells #[.slice none 0 0, .int .i64 0, .int .i64 0, .int .i64 0, .int .i64 0, .int .i64 0, .int .u32 0, .int .u32 0, .int .u32 0, .int .u32 0, .int .u32 0, .int .u32 0, .int .u32 0, .int .u32 0, .int .u32 0, .int .u32 0, .int .u32 0, .int .u32 0, .int .u32 0, .int .u32 0, .int .u32 0, .int .u32 0, .slice none 0 0, .slice none 0 0, .int .i64 0] 63)).cell? ⟨w.heap.size, 0, none⟩ = some (.slice A p.code.length c) ∧ (W0.drew.alloc (.cells #[.slice none 0 0, .int .i64 0, .int .i64 0, .int .i64 0, .int .i64 0, .int .i64 0, .int .u32 0, .int .u32 0, .int .u32 0, .int .u32 0, .int .u32 0, .int .u32 0, .int .u32 0, .int .u32 0, .int .u32 0, .int .u32 0, .int .u32 0, .int .u32 0, .int .u32 0, .int .u32 0, .int .u32 0, .int .u32 0, .slice none 0 0, .slice none 0 0, .int .i64 0] 63)).cell? ⟨w.heap.size, 1, none⟩ = some (.int .i64 p.size) ∧ (W0.drew.alloc (.cells #[.slice none 0 0, .int .i64 0, .int .i64 0, .int .i64 0, .int .i64 0, .int .i64 0, .int .u32 0, .int .u32 0, .int .u32 0, .int .u32 0, .int .u32 0, .int .u32 0, .int .u32 0, .int .u32 0, .int .u32 0, .int .u32 0, .int .u32 0, .int .u32 0, .int .u32 0, .int .u32 0, .int .u32 0, .int .u32 0, .slice none 0 0, .slice none 0 0, .int .i64 0] 63)).cell? ⟨w.heap.size, 2, none⟩ = some (.slice D p.data.length d)) := ⟨one_cell (w := W0.drew) (show w.heap.size < W0.heap.size by omega) E0.out.1, one_cell (w := W0.drew) (show w.heap.size < W0.heap.size by omega) E0.out.2.1, one_cell (w := W0.drew) (show w.heap.size < W0.heap.size by omega) E0.out.2.2⟩
    have Q1 : Hid (Box (W0.drew.alloc (.cells #[.slice none 0 0, .int .i64 0, .int .i64 0, .int .i64 0, .int .i64 0, .int .i64 0, .int .u32 0, .int .u32 0, .int .u32 0, .int .u32 0, .int .u32 0, .int .u32 0, .int .u32 0, .int .u32 0, .int .u32 0, .int .u32 0, .int .u32 0, .int .u32 0, .int .u32 0, .int .u32 0, .int .u32 0, .int .u32 0, .slice none 0 0, .slice none 0 0, .int .i64 0] 63)) (w.heap.size + 2) (resL noRes (.slice none 0 0) (.slice none 0 0))) := Box.alloc (w := W0.drew) Q0.out _
    have HL1 := Lib.hid (show Below w.heap.size w (W0.drew.alloc (.cells #[.slice none 0 0, .int .i64 0, .int .i64 0, .int .i64 0, .int .i64 0, .int .i64 0, .int .u32 0, .int .u32 0, .int .u32 0, .int .u32 0, .int .u32 0, .int .u32 0, .int .u32 0, .int .u32 0, .int .u32 0, .int .u32 0, .int .u32 0, .int .u32 0, .int .u32 0, .int .u32 0, .int .u32 0, .int .u32 0, .slice none 0 0, .slice none 0 0, .int .i64 0] 63)) from HB.out.drew.alloc (show w.heap.size ≤ W0.heap.size by omega) _)
    have HVd : ResV W0.drew W0.drew.heap.size (.slice M r.mem.length m) (.slice U r.ws.length u) r := ⟨HV.out.mem, HV.out.ws, h16⟩
    have HV1 := Lib.hid ((HVd.alloc (Nat.le_refl _) (.cells #[.slice none 0 0, .int .i64 0, .int .i64 0, .int .i64 0, .int .i64 0, .int .i64 0, .int .u32 0, .int .u32 0, .int .u32 0, .int .u32 0, .int .u32 0, .int .u32 0, .int .u32 0, .int .u32 0, .int .u32 0, .int .u32 0, .int .u32 0, .int .u32 0, .int .u32 0, .int .u32 0, .int .u32 0, .int .u32 0, .slice none 0 0, .slice none 0 0, .int .i64 0] 63)).more (show W0.drew.heap.size ≤ (W0.drew.alloc (.cells #[.slice none 0 0, .int .i64 0, .int .i64 0, .int .i64 0, .int .i64 0, .int .i64 0, .int .u32 0, .int .u32 0, .int .u32 0, .int .u32 0, .int .u32 0, .int .u32 0, .int .u32 0, .int .u32 0, .int .u32 0, .int .u32 0, .int .u32 0, .int .u32 0, .int .u32 0, .int .u32 0, .int .u32 0, .int .u32 0, .slice none 0 0, .slice none 0 0, .int .i64 0] 63)).heap.size by simp))
    clear HVd
    clear hS
    have hS := hS2
    clear hS2
    change MBox (W0.drew.alloc (.cells #[.slice none 0 0, .int .i64 0, .int .i64 0, .int .i64 0, .int .i64 0, .int .i64 0, .int .u32 0, .int .u32 0, .int .u32 0, .int .u32 0, .int .u32 0, .int .u32 0, .int .u32 0, .int .u32 0, .int .u32 0, .int .u32 0, .int .u32 0, .int .u32 0, .int .u32 0, .int .u32 0, .int .u32 0, .int .u32 0, .slice none 0 0, .slice none 0 0, .int .i64 0] 63)) W0.heap.size (machL (.slice none 0 0) (resL noRes (.slice none 0 0) (.slice none 0 0)) 0) at HMZ
    rw [hs] at HMZ
    refine tree_call hS (by rfl) (fun K hK => ?_)
    go_simp
    refine (copied_any r (.slice M r.mem.length m) (.slice U r.ws.length u) (W0.drew.alloc (.cells #[.slice none 0 0, .int .i64 0, .int .i64 0, .int .i64 0, .int .i64 0, .int .i64 0, .int .u32 0, .int .u32 0, .int .u32 0, .int .u32 0, .int .u32 0, .int .u32 0, .int .u32 0, .int .u32 0, .int .u32 0, .int .u32 0, .int .u32 0, .int .u32 0, .int .u32 0, .int .u32 0, .int .u32 0, .int .u32 0, .slice none 0 0, .slice none 0 0, .int .i64 0] 63)) HV1.out HM.out HW.out).mono ?_
    generalize W0.drew.alloc (.cells #[.slice none 0 0, .int .i64 0, .int .i64 0, .int .i64 0, .int .i64 0, .int .i64 0, .int .u32 0, .int .u32 0, .int .u32 0, .int .u32 0, .int .u32 0, .int .u32 0, .int .u32 0, .int .u32 0, .int .u32 0, .int .u32 0, .int .u32 0, .int .u32 0, .int .u32 0, .int .u32 0, .int .u32 0, .int .u32 0, .slice none 0 0, .slice none 0 0, .int .i64 0] 63) = w1 at *
    rintro e w2 ⟨vm1, vw1, rfl, hO1, hb1⟩
    have hO1' : ResOwn w2 (w.heap.size + 3) vm1 vw1 r := ResOwn.base (b1 := w.heap.size + 3) hO1 (by omega)
    have hb1' : Below (w.heap.size + 4) w1 w2 := hz2 ▸ hb1
    have hS1 : w2.cell? ⟨w.heap.size, 0, none⟩ = some (.slice A p.code.length c) ∧ Box w2 (w.heap.size + 1) (resL r (.slice M r.mem.length m) (.slice U r.ws.length u)) := ⟨below_cell hb1' (by omega) hS.1, hS.2.below hb1' (by omega)⟩
    have hv1 := own_one hO1'.mem
    have hv2 := own_one hO1'.ws
    have E2 : Hid (w2.cell? ⟨w.heap.size, 0, none⟩ = some (.slice A p.code.length c) ∧ w2.cell? ⟨w.heap.size, 1, none⟩ = some (.int .i64 p.size) ∧ w2.cell? ⟨w.heap.size, 2, none⟩ = some (.slice D p.data.length d)) := ⟨below_cell hb1' (by omega) E1.out.1, below_cell hb1' (by omega) E1.out.2.1, below_cell hb1' (by omega) E1.out.2.2⟩
    have Q2 := Lib.hid (Q1.out.below hb1' (by omega))
    have HL2 := Lib.hid (HL1.out.trans (hb1'.mono (by omega)))
    have O2 := Lib.hid hO1'
    have HMZ2 := HMZ.below hb1' (by omega)
    clear HMZ
    have HMZ := HMZ2
    clear HMZ2
    have hz3 : w.heap.size + 4 ≤ w2.heap.size := by have := hb1'.size; omega
    clear hO1 hO1' hb1 hb1' hS Q1 HL1 E1
    have hS := hS1
    clear hS1
    go_wp2_with fail
    refine hK.out _ _ hS (fun _ => ?_)
    clear hK K
    try simp only [Act.put, List.setIfInBounds_toArray, List.set_cons_zero, List.set_cons_succ]
    refine tree_take (v := .agg (machL (.slice A p.code.length c) (resL r vm1 vw1) pc).toArray) hS (by rfl) (fun x hx => exec_build _ _ rfl _ (by simp only [List.map_toArray, List.map_cons, List.map_nil]; exact machine_built A p.code.length c (resL r vm1 vw1) pc (resL_len h16)) x) ?_
    simp only [Act.put, List.setIfInBounds_toArray, List.set_cons_zero, List.set_cons_succ]
    have hbm : w.heap.size + 3 ≤ w.heap.size + 3 := Nat.le_refl _
    have hne0 : some w.heap.size ≠ some (w.heap.size + 3) := fun h => by injection h with h; omega
    have hne1 : some (w.heap.size + 1) ≠ some (w.heap.size + 3) := fun h => by injection h with h; omega
    have hmz : MBox w2 (w.heap.size + 3) (machL (.slice none 0 0) (resL noRes (.slice none 0 0) (.slice none 0 0)) 0) := HMZ
    refine tree_store_mbox hS (by rfl) 63 (.tmp 8) (.tmp 14) rfl (w.heap.size + 3) 0 (machL (.slice A p.code.length c) (resL r vm1 vw1) pc) rfl rfl (machL (.slice none 0 0) (resL noRes (.slice none 0 0) (.slice none 0 0)) 0) hmz (by rw [machL_len (resL_len h16), machL_len (resL_len rfl)]; exact Nat.le_refl _) 25 info_mach (machL_len (resL_len h16)) (machL_one rfl (resL_one hv1 hv2)) ?_ ?_
    · intro w3 h1 h2
      exact ⟨h2.cell hS.1 hne0, hS.2.grown h2 hne1⟩
    intro w3 hMB hg3
    rw [splice_whole _ _ (by rw [machL_len (resL_len h16), machL_len (resL_len rfl)])] at hMB
    refine tree_done ?_
    have E3 : Hid (w3.cell? ⟨w.heap.size, 0, none⟩ = some (.slice A p.code.length c) ∧ w3.cell? ⟨w.heap.size, 1, none⟩ = some (.int .i64 p.size) ∧ w3.cell? ⟨w.heap.size, 2, none⟩ = some (.slice D p.data.length d)) := ⟨hg3.cell E2.out.1 hne0, hg3.cell E2.out.2.1 hne0, hg3.cell E2.out.2.2 hne0⟩
    have Q3 := Lib.hid (Q2.out.grown hg3 (fun h => by injection h with h; omega))
    have B3 := Lib.hid (hS.2.grown hg3 (fun h => by injection h with h; omega))
    have HL3 := Lib.hid (Below.grown HL2.out hg3 HL2.out.size (fun k hk => grown_ge hk (by omega)))
    have O3 := Lib.hid (O2.out.grownM hmz hg3)
    clear hS E2 Q2 HL2 O2 hg3 hmz HMZ
    obtain ⟨e0, e1, e2⟩ := E3.out
    go_wp2_with (refine wpList_load_box rfl 32 (.tmp 4) rfl (w.heap.size + 1) 0 rfl (resL r (.slice M r.mem.length m) (.slice U r.ws.length u)) (resL r (.slice M r.mem.length m) (.slice U r.ws.length u)) B3.out (fun j v hv => by rw [Nat.zero_add]; exact hv) _ Try.underlying32 rfl 23 info_res (resL_len h16) ?_)
    refine (mayStep_any A D c d p M U m u r w3 ((HP0.out _ HL3.out).more HL3.out.size) h16).mono ?_; rintro e w4 ⟨rfl, hb4⟩
    rw [HMAY.out]
    have HL4 := Lib.hid (HL3.out.trans (hb4.mono HL3.out.size))
    have MB4 := Lib.hid (hMB.below hb4 hMB.lt)
    have O4 := Lib.hid (O3.out.below hb4)
    have Q4 := Lib.hid (Q3.out.below hb4 Q3.out.lt)
    clear e0 e1 e2 E3 B3 hb4 O3 Q3 hMB HL3
    go_wp2_with fail
    obtain ⟨M1, m1, rfl⟩ := (Row.of_own O4.out.mem).form
    obtain ⟨U1, ux, rfl⟩ := (Row.of_own O4.out.ws).form
    have hS : Box w4.drew (w.heap.size + 3) (machL (.slice A p.code.length c) (resL r (.slice M1 r.mem.length m1) (.slice U1 r.ws.length ux)) pc) := MB4.out.box
    refine wp_region_lin [(0, true), (1, true), (2, true), (3, true), (4, false), (5, true)]
      (by kernel_rfl) (by kernel_rfl) rfl (by kernel_rfl) (fun x => Box x (w.heap.size + 3) (machL (.slice A p.code.length c) (resL r (.slice M1 r.mem.length m1) (.slice U1 r.ws.length ux)) pc)) ?_
    simp only [List.map_cons, List.map_nil, List.getElem?_toArray, List.getElem?_cons_succ, List.getElem?_cons_zero]
    (refine lin_take (v := ?_) hS (by rfl) ?_ ?_; rotate_left; (intro x hx; clear hx; go_simp; try (with_reducible rfl)); (simp only [Act.put, List.setIfInBounds_toArray, List.set_cons_zero, List.set_cons_succ]))
    refine lin_load_box hS (by rfl) 32 (.tmp 19) rfl (w.heap.size + 3) 1 rfl (machL (.slice A p.code.length c) (resL r (.slice M1 r.mem.length m1) (.slice U1 r.ws.length ux)) pc) (resL r (.slice M1 r.mem.length m1) (.slice U1 r.ws.length ux)) (fun y hy => hy) (fun j v hv => by rw [Nat.add_comm]; exact machL_res (resL_len h16) hv) _ Try.underlying32 rfl 23 info_res (resL_len h16) ?_
    simp only [Act.put, List.setIfInBounds_toArray, List.set_cons_zero, List.set_cons_succ]
    (refine lin_take (v := ?_) hS (by rfl) ?_ ?_; rotate_left; (intro x hx; clear hx; go_simp; try (with_reducible rfl)); (simp only [Act.put, List.setIfInBounds_toArray, List.set_cons_zero, List.set_cons_succ]))
    (refine lin_take (v := .int .i64 pc) hS (by rfl) ?_ ?_; (intro x hx; have x24 := hx.cell (machL_24 (resL_len h16)); clear hx; go_simp; try (with_reducible rfl)); (simp only [Act.put, List.setIfInBounds_toArray, List.set_cons_zero, List.set_cons_succ]))
    refine lin_store_box hS (by rfl) 32 (.tmp 6) (.tmp 20) rfl (w.heap.size + 2) 0 (resL r (.slice M1 r.mem.length m1) (.slice U1 r.ws.length ux)) rfl rfl (resL noRes (.slice none 0 0) (.slice none 0 0)) (Box.drew Q4.out) (by rw [resL_len h16, resL_len rfl]; exact Nat.le_refl _) 23 info_res (resL_len h16) (resL_one rfl rfl) (fun w9 h1 h2 => hS.grown h2 (fun h => by injection h with h; omega)) ?_
    intro w9 hB9 hg9
    rw [splice_whole _ _ (by rw [resL_len h16, resL_len rfl])] at hB9
    have hS9 : Box w9 (w.heap.size + 3) (machL (.slice A p.code.length c) (resL r (.slice M1 r.mem.length m1) (.slice U1 r.ws.length ux)) pc) := hS.grown hg9 (fun h => by injection h with h; omega)
    simp only [Act.put]
    (refine lin_take (v := ?_) hS9 (by rfl) ?_ ?_; rotate_left; (intro x hx; clear hx; go_simp; try (with_reducible rfl)); (simp only [Act.put, List.setIfInBounds_toArray, List.set_cons_zero, List.set_cons_succ]))
    refine lin_done ?_
    have B9 := Lib.hid hB9
    have HL9 := Lib.hid (show Below w.heap.size w w9 from Below.grown HL4.out.drew hg9 HL4.out.size (fun k hk => grown_ge hk (by omega)))
    have O9 := Lib.hid (show ResOwn w9 w.heap.size (.slice M1 r.mem.length m1) (.slice U1 r.ws.length ux) r from ResOwn.base (ResOwn.grown (b := (w.heap.size + 2)) (show ResOwn w4.drew (w.heap.size + 3) _ _ r from ⟨O4.out.mem, O4.out.ws, h16⟩) hg9 (by omega)) (by omega))
    clear hS hS9 hB9 hg9
    go_wp2_with fail
    refine bodyPost_ret (v := .tuple #[.agg (resL r (.slice M1 r.mem.length m1) (.slice U1 r.ws.length ux)).toArray, .int .i64 pc]) ?_ rfl ⟨_, _, rfl, O9.out, HL9.out⟩
    exact results_cell_tmp' Try.results13 _ _ _ ⟨w.heap.size + 2, 0, none⟩ _ _ rfl (load_res B9.out h16) rfl

theorem seqStep_any (A D : Option Addr) (c d : Nat) (p : Prog) (M U : Option Addr) (m u : Nat) (r : Res) (w : World) (pc : Int) (hp : ProgV w w.heap.size (.slice A p.code.length c) (.slice D p.data.length d) p) (hr : ResV w w.heap.size (.slice M r.mem.length m) (.slice U r.ws.length u) r) (hm : r.mem.length ≤ 140737488355328) (hw : r.ws.length ≤ 1000000000000) (fr : r.Fits) :
    Calls Try.prog 13 #[.agg #[.slice A p.code.length c, .int .i64 p.size, .slice D p.data.length d], .agg (resL r (.slice M r.mem.length m) (.slice U r.ws.length u)).toArray, .int .i64 pc] w fun e w' => ∃ vm' vw', e = .returned (.tuple #[.agg (resL (stepZ p r pc).1 vm' vw').toArray, .int .i64 (stepZ p r pc).2]) ∧ ResOwn w' w.heap.size vm' vw' (stepZ p r pc).1 ∧ Below w.heap.size w w' := by
  cases h : mayB p r
  · exact seqStep_stays A D c d p M U m u r w pc hp hr hm hw fr h
  · exact seqStep_does A D c d p M U m u r w pc hp hr hm hw fr h
end Go.Proofs.Ytjbobihiigeapaa.Words

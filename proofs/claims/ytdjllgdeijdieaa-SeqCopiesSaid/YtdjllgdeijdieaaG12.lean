/- Several texts in one: SeqMain, RunMath2, RunGrow, OpenIns, OpenProg. -/
import Derived.Test.YtdjllgdeijdieaaG05
import Derived.Test.YtdjllgdeijdieaaG09
import Derived.Test.YtdjllgdeijdieaaG10
import Derived.Test.YtdjllgdeijdieaaG00
import Derived.Test.YtdjllgdeijdieaaRows
import Derived.ProofKit
import Derived.OpenShut
import Derived.ChangeOld
import Derived.Deep.Slices

/- Contract of seq.Step. -/
namespace Go.Proofs.Ytdjllgdeijdieaa.Words
set_option maxRecDepth 100000
open Go.RowKit
set_option linter.unusedVariables false

/-- May a program go on from a result? -/
def mayB (p : Prog) (r : Res) : Bool := decide (r.e = 0) && decide ((r.mem.length : Int) = p.size) && p.right
theorem mayB_yes {p : Prog} {r : Res} (h : mayB p r = true) : r.e = 0 ∧ p.right = true ∧ (r.mem.length : Int) = p.size := by
  unfold mayB at h
  simp only [Bool.and_eq_true, decide_eq_true_eq] at h
  exact ⟨h.1.1, h.2, h.1.2⟩
theorem mayB_no {p : Prog} {r : Res} (h : mayB p r = false) : r.e ≠ 0 ∨ p.right = false ∨ (r.mem.length : Int) ≠ p.size := by
  by_cases h0 : r.e = 0
  · by_cases h2 : (r.mem.length : Int) = p.size
    · unfold mayB at h
      rw [decide_eq_true h0, decide_eq_true h2] at h
      exact .inr (.inl (by simpa using h))
    · exact .inr (.inr h2)
  · exact .inl h0
theorem mayStep_any (A D : Option Addr) (c d : Nat) (p : Prog) (M U : Option Addr) (m u : Nat) (r : Res) (w : World) (hp : ProgV w w.heap.size (.slice A p.code.length c) (.slice D p.data.length d) p) (h16 : r.regs.length = 16) :
    Calls Try.prog 27 #[.agg #[.slice A p.code.length c, .int .i64 p.size, .slice D p.data.length d], .agg (resL r (.slice M r.mem.length m) (.slice U r.ws.length u)).toArray] w fun e w' => e = .returned (.bool (mayB p r)) ∧ Below w.heap.size w w' := by
  by_cases h0 : r.e = 0
  · by_cases h2 : (r.mem.length : Int) = p.size
    · rw [show mayB p r = p.right by unfold mayB; rw [decide_eq_true h0, decide_eq_true h2]; simp]
      exact mayStep_right A D c d p M U m u r w hp h16 h0 h2 _ rfl
    · rw [show mayB p r = false by unfold mayB; rw [decide_eq_false h2]; simp]
      exact mayStep_len A D c d p M U m u r w hp h16 h0 h2
  · rw [show mayB p r = false by unfold mayB; rw [decide_eq_false h0]; simp]
    exact mayStep_end A D c d p M U m u r w hp h16 h0

set_option maxHeartbeats 1000000 in
theorem seqStep_does (A D : Option Addr) (c d : Nat) (p : Prog) (M U : Option Addr) (m u : Nat) (r : Res) (w : World) (pc : Int) (hp : ProgV w w.heap.size (.slice A p.code.length c) (.slice D p.data.length d) p) (hr : ResV w w.heap.size (.slice M r.mem.length m) (.slice U r.ws.length u) r) (hm : r.mem.length ≤ 140737488355328) (hw : r.ws.length ≤ 1000000000000) (fr : r.Fits) (hmay : mayB p r = true) :
    Calls Try.prog 18 #[.agg #[.slice A p.code.length c, .int .i64 p.size, .slice D p.data.length d], .agg (resL r (.slice M r.mem.length m) (.slice U r.ws.length u)).toArray, .int .i64 pc] w fun e w' => ∃ vm' vw', e = .returned (.tuple #[.agg (resL (stepZ p r pc).1 vm' vw').toArray, .int .i64 (stepZ p r pc).2]) ∧ ResOwn w' w.heap.size vm' vw' (stepZ p r pc).1 ∧ Below w.heap.size w w' := by
  have HMAY := Lib.hid hmay
  have HZ := Lib.hid (mayB_yes hmay)
  obtain ⟨r5, hr5⟩ : ∃ x, x = (stepZ p r pc).1 := ⟨_, rfl⟩
  obtain ⟨pc5, hp5⟩ : ∃ x, x = (stepZ p r pc).2 := ⟨_, rfl⟩
  rw [← hr5, ← hp5]
  have HR5 := Lib.hid hr5
  have HP5 := Lib.hid hp5
  clear hmay hr5 hp5
  obtain ⟨u1, u2⟩ := hp.code.cap
  obtain ⟨u3, u4⟩ := hp.data.cap
  have h16 := hr.regs
  have hs : (((w.alloc (.cells #[.slice A p.code.length c, .int .i64 p.size, .slice D p.data.length d] 25)).alloc (.cells (resL r (.slice M r.mem.length m) (.slice U r.ws.length u)).toArray 34)).alloc (.cells #[.int .i64 0, .int .i64 0, .int .i64 0, .int .i64 0, .int .i64 0, .int .u32 0, .int .u32 0, .int .u32 0, .int .u32 0, .int .u32 0, .int .u32 0, .int .u32 0, .int .u32 0, .int .u32 0, .int .u32 0, .int .u32 0, .int .u32 0, .int .u32 0, .int .u32 0, .int .u32 0, .int .u32 0, .slice none 0 0, .slice none 0 0] 34)).heap.size = w.heap.size + 3 := by simp
  have HB := Lib.hid ((((Below.refl w.heap.size w).alloc (Nat.le_refl _) (.cells #[.slice A p.code.length c, .int .i64 p.size, .slice D p.data.length d] 25)).alloc (by simp) (.cells (resL r (.slice M r.mem.length m) (.slice U r.ws.length u)).toArray 34)).alloc (by simp; omega) (.cells #[.int .i64 0, .int .i64 0, .int .i64 0, .int .i64 0, .int .i64 0, .int .u32 0, .int .u32 0, .int .u32 0, .int .u32 0, .int .u32 0, .int .u32 0, .int .u32 0, .int .u32 0, .int .u32 0, .int .u32 0, .int .u32 0, .int .u32 0, .int .u32 0, .int .u32 0, .int .u32 0, .int .u32 0, .slice none 0 0, .slice none 0 0] 34))
  have HV := Lib.hid (((hr.below HB.out).more (show w.heap.size ≤ (((w.alloc (.cells #[.slice A p.code.length c, .int .i64 p.size, .slice D p.data.length d] 25)).alloc (.cells (resL r (.slice M r.mem.length m) (.slice U r.ws.length u)).toArray 34)).alloc (.cells #[.int .i64 0, .int .i64 0, .int .i64 0, .int .i64 0, .int .i64 0, .int .u32 0, .int .u32 0, .int .u32 0, .int .u32 0, .int .u32 0, .int .u32 0, .int .u32 0, .int .u32 0, .int .u32 0, .int .u32 0, .int .u32 0, .int .u32 0, .int .u32 0, .int .u32 0, .int .u32 0, .int .u32 0, .slice none 0 0, .slice none 0 0] 34)).heap.size by rw [hs]; omega)))
  have HP0 := Lib.hid (fun (x : World) (h : Below w.heap.size w x) => hp.below h)
  have e0 : (((w.alloc (.cells #[.slice A p.code.length c, .int .i64 p.size, .slice D p.data.length d] 25)).alloc (.cells (resL r (.slice M r.mem.length m) (.slice U r.ws.length u)).toArray 34)).alloc (.cells #[.int .i64 0, .int .i64 0, .int .i64 0, .int .i64 0, .int .i64 0, .int .u32 0, .int .u32 0, .int .u32 0, .int .u32 0, .int .u32 0, .int .u32 0, .int .u32 0, .int .u32 0, .int .u32 0, .int .u32 0, .int .u32 0, .int .u32 0, .int .u32 0, .int .u32 0, .int .u32 0, .int .u32 0, .slice none 0 0, .slice none 0 0] 34)).cell? ⟨w.heap.size, 0, none⟩ = some (.slice A p.code.length c) := by go_simp
  have e1 : (((w.alloc (.cells #[.slice A p.code.length c, .int .i64 p.size, .slice D p.data.length d] 25)).alloc (.cells (resL r (.slice M r.mem.length m) (.slice U r.ws.length u)).toArray 34)).alloc (.cells #[.int .i64 0, .int .i64 0, .int .i64 0, .int .i64 0, .int .i64 0, .int .u32 0, .int .u32 0, .int .u32 0, .int .u32 0, .int .u32 0, .int .u32 0, .int .u32 0, .int .u32 0, .int .u32 0, .int .u32 0, .int .u32 0, .int .u32 0, .int .u32 0, .int .u32 0, .int .u32 0, .int .u32 0, .slice none 0 0, .slice none 0 0] 34)).cell? ⟨w.heap.size, 1, none⟩ = some (.int .i64 p.size) := by go_simp
  have e2 : (((w.alloc (.cells #[.slice A p.code.length c, .int .i64 p.size, .slice D p.data.length d] 25)).alloc (.cells (resL r (.slice M r.mem.length m) (.slice U r.ws.length u)).toArray 34)).alloc (.cells #[.int .i64 0, .int .i64 0, .int .i64 0, .int .i64 0, .int .i64 0, .int .u32 0, .int .u32 0, .int .u32 0, .int .u32 0, .int .u32 0, .int .u32 0, .int .u32 0, .int .u32 0, .int .u32 0, .int .u32 0, .int .u32 0, .int .u32 0, .int .u32 0, .int .u32 0, .int .u32 0, .int .u32 0, .slice none 0 0, .slice none 0 0] 34)).cell? ⟨w.heap.size, 2, none⟩ = some (.slice D p.data.length d) := by go_simp
  have B0 : Hid (Box (((w.alloc (.cells #[.slice A p.code.length c, .int .i64 p.size, .slice D p.data.length d] 25)).alloc (.cells (resL r (.slice M r.mem.length m) (.slice U r.ws.length u)).toArray 34)).alloc (.cells #[.int .i64 0, .int .i64 0, .int .i64 0, .int .i64 0, .int .i64 0, .int .u32 0, .int .u32 0, .int .u32 0, .int .u32 0, .int .u32 0, .int .u32 0, .int .u32 0, .int .u32 0, .int .u32 0, .int .u32 0, .int .u32 0, .int .u32 0, .int .u32 0, .int .u32 0, .int .u32 0, .int .u32 0, .slice none 0 0, .slice none 0 0] 34)) (w.heap.size + 1) (resL r (.slice M r.mem.length m) (.slice U r.ws.length u))) := by
    have := ((Box.new (w.alloc (.cells #[.slice A p.code.length c, .int .i64 p.size, .slice D p.data.length d] 25)) (resL r (.slice M r.mem.length m) (.slice U r.ws.length u)) 34).alloc (.cells #[.int .i64 0, .int .i64 0, .int .i64 0, .int .i64 0, .int .i64 0, .int .u32 0, .int .u32 0, .int .u32 0, .int .u32 0, .int .u32 0, .int .u32 0, .int .u32 0, .int .u32 0, .int .u32 0, .int .u32 0, .int .u32 0, .int .u32 0, .int .u32 0, .int .u32 0, .int .u32 0, .int .u32 0, .slice none 0 0, .slice none 0 0] 34))
    have e : (w.alloc (.cells #[.slice A p.code.length c, .int .i64 p.size, .slice D p.data.length d] 25)).heap.size = w.heap.size + 1 := by simp
    rw [e] at this
    exact this
  have Q0 : Hid (Box (((w.alloc (.cells #[.slice A p.code.length c, .int .i64 p.size, .slice D p.data.length d] 25)).alloc (.cells (resL r (.slice M r.mem.length m) (.slice U r.ws.length u)).toArray 34)).alloc (.cells #[.int .i64 0, .int .i64 0, .int .i64 0, .int .i64 0, .int .i64 0, .int .u32 0, .int .u32 0, .int .u32 0, .int .u32 0, .int .u32 0, .int .u32 0, .int .u32 0, .int .u32 0, .int .u32 0, .int .u32 0, .int .u32 0, .int .u32 0, .int .u32 0, .int .u32 0, .int .u32 0, .int .u32 0, .slice none 0 0, .slice none 0 0] 34)) (w.heap.size + 2) (resL noRes (.slice none 0 0) (.slice none 0 0))) := by
    have := Box.new ((w.alloc (.cells #[.slice A p.code.length c, .int .i64 p.size, .slice D p.data.length d] 25)).alloc (.cells (resL r (.slice M r.mem.length m) (.slice U r.ws.length u)).toArray 34)) (resL noRes (.slice none 0 0) (.slice none 0 0)) 34
    have e : ((w.alloc (.cells #[.slice A p.code.length c, .int .i64 p.size, .slice D p.data.length d] 25)).alloc (.cells (resL r (.slice M r.mem.length m) (.slice U r.ws.length u)).toArray 34)).heap.size = w.heap.size + 2 := by simp
    rw [e] at this
    exact this
  have E0 := Lib.hid (And.intro e0 (And.intro e1 e2))
  have HM := Lib.hid hm
  have HW := Lib.hid hw
  have FR := Lib.hid fr
  clear hp hr hm hw fr
  go_enter Try.func18, Try.ntmps18
  go_wp2_with fail
  generalize (((w.alloc (.cells #[.slice A p.code.length c, .int .i64 p.size, .slice D p.data.length d] 25)).alloc (.cells (resL r (.slice M r.mem.length m) (.slice U r.ws.length u)).toArray 34)).alloc (.cells #[.int .i64 0, .int .i64 0, .int .i64 0, .int .i64 0, .int .i64 0, .int .u32 0, .int .u32 0, .int .u32 0, .int .u32 0, .int .u32 0, .int .u32 0, .int .u32 0, .int .u32 0, .int .u32 0, .int .u32 0, .int .u32 0, .int .u32 0, .int .u32 0, .int .u32 0, .int .u32 0, .int .u32 0, .slice none 0 0, .slice none 0 0] 34)) = W0 at *
  have hS : W0.drew.cell? ⟨w.heap.size, 0, none⟩ = some (.slice A p.code.length c) ∧ Box W0.drew (w.heap.size + 1) (resL r (.slice M r.mem.length m) (.slice U r.ws.length u)) := ⟨e0, B0.out⟩
  clear e0 e1 e2
  refine wp_region_tree _ (LinT.of [(0, true), (1, true), (2, true), (4, true)] (.two 3 6 (LinT.of [(5, true), (6, false), (7, false)] .nil) (LinT.of [(3, false), (5, true), (7, false)] .nil))) (by kernel_rfl) (by kernel_rfl) rfl (by kernel_rfl) (fun x => x.cell? ⟨w.heap.size, 0, none⟩ = some (.slice A p.code.length c) ∧ Box x (w.heap.size + 1) (resL r (.slice M r.mem.length m) (.slice U r.ws.length u))) (fun _ _ h => h) ?_
  simp only [LinT.of, LinT.look, List.getElem?_toArray, List.getElem?_cons_succ, List.getElem?_cons_zero]
  iterate 2 (refine tree_take (v := ?_) hS (by rfl) ?_ ?_; rotate_left; (intro x hx; obtain ⟨x0, x1⟩ := hx; clear x1; go_simp; try (with_reducible rfl)); (simp only [Act.put, List.setIfInBounds_toArray, List.set_cons_zero, List.set_cons_succ]))
  refine tree_load_box hS (by rfl) 34 (.tmp 4) rfl (w.heap.size + 1) 0 rfl (resL r (.slice M r.mem.length m) (.slice U r.ws.length u)) (resL r (.slice M r.mem.length m) (.slice U r.ws.length u)) (fun y hy => hy.2) (fun j v hv => by rw [Nat.zero_add]; exact hv) _ Try.underlying34 rfl 23 info_res (resL_len h16) ?_
  simp only [Act.put, List.setIfInBounds_toArray, List.set_cons_zero, List.set_cons_succ]
  (refine tree_take (v := ?_) hS (by rfl) ?_ ?_; rotate_left; (intro x hx; obtain ⟨x0, x1⟩ := hx; clear x1; go_simp; try (with_reducible rfl)); (simp only [Act.put, List.setIfInBounds_toArray, List.set_cons_zero, List.set_cons_succ]))
  refine tree_two hS (by rfl) (by rfl) (fun K hK => ?_) (fun K hK => ?_)
  · go_simp
    refine (copied_any r (.slice M r.mem.length m) (.slice U r.ws.length u) W0.drew (show ResV W0.drew W0.drew.heap.size _ _ r from ⟨HV.out.mem, HV.out.ws, h16⟩) HM.out HW.out).mono ?_
    rintro e w1 ⟨vm1, vw1, rfl, hO1, hb1⟩
    have hO1' : ResOwn w1 (w.heap.size + 3) vm1 vw1 r := hs ▸ hO1
    have hb1' : Below (w.heap.size + 3) W0 w1 := hs ▸ (show Below W0.heap.size W0 w1 from ⟨hb1.os, hb1.tape, hb1.output, hb1.size, hb1.block⟩)
    have hS1 : w1.cell? ⟨w.heap.size, 0, none⟩ = some (.slice A p.code.length c) ∧ Box w1 (w.heap.size + 1) (resL r (.slice M r.mem.length m) (.slice U r.ws.length u)) := ⟨below_cell hb1' (by omega) hS.1, B0.out.below hb1' (by omega)⟩
    have hv1 := own_one hO1'.mem
    have hv2 := own_one hO1'.ws
    have E1 : Hid (w1.cell? ⟨w.heap.size, 0, none⟩ = some (.slice A p.code.length c) ∧ w1.cell? ⟨w.heap.size, 1, none⟩ = some (.int .i64 p.size) ∧ w1.cell? ⟨w.heap.size, 2, none⟩ = some (.slice D p.data.length d)) := ⟨below_cell hb1' (by omega) E0.out.1, below_cell hb1' (by omega) E0.out.2.1, below_cell hb1' (by omega) E0.out.2.2⟩
    have Q1 := Lib.hid (Q0.out.below hb1' (by omega))
    have HL1 := Lib.hid (HB.out.trans (hb1'.mono (by omega)))
    have O1 := Lib.hid hO1'
    have hz1 : w.heap.size + 3 ≤ w1.heap.size := by have := hb1'.size; omega
    clear hO1 hO1' hb1 hb1' hS
    have hS := hS1
    clear hS1
    go_wp2_with fail
    refine hK.out _ _ hS (fun _ => ?_)
    clear hK K
    try simp only [Act.put, List.setIfInBounds_toArray, List.set_cons_zero, List.set_cons_succ]
    refine tree_take (v := .agg (machL (.slice A p.code.length c) (resL r vm1 vw1) pc).toArray) hS (by rfl) (fun x hx => exec_build _ _ rfl _ (by simp only [List.map_toArray, List.map_cons, List.map_nil]; exact machine_built A p.code.length c (resL r vm1 vw1) pc (resL_len h16)) x) ?_
    simp only [Act.put, List.setIfInBounds_toArray, List.set_cons_zero, List.set_cons_succ]
    refine tree_call hS (by rfl) (fun K hK => ?_)
    go_simp
    have hS2 : (w1.alloc (.cells #[.slice none 0 0, .int .i64 0, .int .i64 0, .int .i64 0, .int .i64 0, .int .i64 0, .int .u32 0, .int .u32 0, .int .u32 0, .int .u32 0, .int .u32 0, .int .u32 0, .int .u32 0, .int .u32 0, .int .u32 0, .int .u32 0, .int .u32 0, .int .u32 0, .int .u32 0, .int .u32 0, .int .u32 0, .int .u32 0, .slice none 0 0, .slice none 0 0, .int .i64 0] 59)).cell? ⟨w.heap.size, 0, none⟩ = some (.slice A p.code.length c) ∧ Box (w1.alloc (.cells #[.slice none 0 0, .int .i64 0, .int .i64 0, .int .i64 0, .int .i64 0, .int .i64 0, .int .u32 0, .int .u32 0, .int .u32 0, .int .u32 0, .int .u32 0, .int .u32 0, .int .u32 0, .int .u32 0, .int .u32 0, .int .u32 0, .int .u32 0, .int .u32 0, .int .u32 0, .int .u32 0, .int .u32 0, .int .u32 0, .slice none 0 0, .slice none 0 0, .int .i64 0] 59)) (w.heap.size + 1) (resL r (.slice M r.mem.length m) (.slice U r.ws.length u)) := ⟨one_cell (by omega) hS.1, hS.2.alloc _⟩
    refine hK.out _ _ hS2 (fun _ => ?_)
    clear hK K
    try simp only [Act.put, List.setIfInBounds_toArray, List.set_cons_zero, List.set_cons_succ]
    have HMZ := MBox.new w1 (machL (.slice none 0 0) (resL noRes (.slice none 0 0) (.slice none 0 0)) 0)
    have E2 : Hid ((w1.alloc (.cells #[.slice none 0 0, .int .i64 0, .int .i64 0, .int .i64 0, .int .i64 0, .int .i64 0, .int .u32 0, .int .u32 0, .int .u32 0, .int .u32 0, .int .u32 0, .int .u32 0, .int .u32 0, .int .u32 0, .int .u32 0, .int .u32 0, .int .u32 0, .int .u32 0, .int .u32 0, .int .u32 0, .int .u32 0, .int .u32 0, .slice none 0 0, .slice none 0 0, .int .i64 0] 59)).cell? ⟨w.heap.size, 0, none⟩ = some (.slice A p.code.length c) ∧ (w1.alloc (.cells #[.slice none 0 0, .int .i64 0, .int .i64 0, .int .i64 0, .int .i64 0, .int .i64 0, .int .u32 0, .int .u32 0, .int .u32 0, .int .u32 0, .int .u32 0, .int .u32 0, .int .u32 0, .int .u32 0, .int .u32 0, .int .u32 0, .int .u32 0, .int .u32 0, .int .u32 0, .int .u32 0, .int .u32 0, .int .u32 0, .slice none 0 0, .slice none 0 0, .int .i64 0] 59)).cell? ⟨w.heap.size, 1, none⟩ = some (.int .i64 p.size) ∧ (w1.alloc (.cells #[.slice none 0 0, .int .i64 0, .int .i64 0, .int .i64 0, .int .i64 0, .int .i64 0, .int .u32 0, .int .u32 0, .int .u32 0, .int .u32 0, .int .u32 0, .int .u32 0, .int .u32 0, .int .u32 0, .int .u32 0, .int .u32 0, .int .u32 0, .int .u32 0, .int .u32 0, .int .u32 0, .int .u32 0, .int .u32 0, .slice none 0 0, .slice none 0 0, .int .i64 0] 59)).cell? ⟨w.heap.size, 2, none⟩ = some (.slice D p.data.length d)) := ⟨one_cell (by omega) E1.out.1, one_cell (by omega) E1.out.2.1, one_cell (by omega) E1.out.2.2⟩
    have Q2 := Lib.hid (Q1.out.alloc (.cells #[.slice none 0 0, .int .i64 0, .int .i64 0, .int .i64 0, .int .i64 0, .int .i64 0, .int .u32 0, .int .u32 0, .int .u32 0, .int .u32 0, .int .u32 0, .int .u32 0, .int .u32 0, .int .u32 0, .int .u32 0, .int .u32 0, .int .u32 0, .int .u32 0, .int .u32 0, .int .u32 0, .int .u32 0, .int .u32 0, .slice none 0 0, .slice none 0 0, .int .i64 0] 59))
    have HL2 := Lib.hid (HL1.out.alloc HL1.out.size (.cells #[.slice none 0 0, .int .i64 0, .int .i64 0, .int .i64 0, .int .i64 0, .int .i64 0, .int .u32 0, .int .u32 0, .int .u32 0, .int .u32 0, .int .u32 0, .int .u32 0, .int .u32 0, .int .u32 0, .int .u32 0, .int .u32 0, .int .u32 0, .int .u32 0, .int .u32 0, .int .u32 0, .int .u32 0, .int .u32 0, .slice none 0 0, .slice none 0 0, .int .i64 0] 59))
    have O2 := Lib.hid (show ResOwn (w1.alloc (.cells #[.slice none 0 0, .int .i64 0, .int .i64 0, .int .i64 0, .int .i64 0, .int .i64 0, .int .u32 0, .int .u32 0, .int .u32 0, .int .u32 0, .int .u32 0, .int .u32 0, .int .u32 0, .int .u32 0, .int .u32 0, .int .u32 0, .int .u32 0, .int .u32 0, .int .u32 0, .int .u32 0, .int .u32 0, .int .u32 0, .slice none 0 0, .slice none 0 0, .int .i64 0] 59)) (w.heap.size + 3) vm1 vw1 r from ⟨O1.out.mem.alloc _, O1.out.ws.alloc _, h16⟩)
    have hz2 : w1.heap.size < (w1.alloc (.cells #[.slice none 0 0, .int .i64 0, .int .i64 0, .int .i64 0, .int .i64 0, .int .i64 0, .int .u32 0, .int .u32 0, .int .u32 0, .int .u32 0, .int .u32 0, .int .u32 0, .int .u32 0, .int .u32 0, .int .u32 0, .int .u32 0, .int .u32 0, .int .u32 0, .int .u32 0, .int .u32 0, .int .u32 0, .int .u32 0, .slice none 0 0, .slice none 0 0, .int .i64 0] 59)).heap.size := by simp
    clear hS E1 Q1 HL1 O1
    have hS := hS2
    clear hS2
    change MBox (w1.alloc (.cells #[.slice none 0 0, .int .i64 0, .int .i64 0, .int .i64 0, .int .i64 0, .int .i64 0, .int .u32 0, .int .u32 0, .int .u32 0, .int .u32 0, .int .u32 0, .int .u32 0, .int .u32 0, .int .u32 0, .int .u32 0, .int .u32 0, .int .u32 0, .int .u32 0, .int .u32 0, .int .u32 0, .int .u32 0, .int .u32 0, .slice none 0 0, .slice none 0 0, .int .i64 0] 59)) w1.heap.size (machL (.slice none 0 0) (resL noRes (.slice none 0 0) (.slice none 0 0)) 0) at HMZ
    generalize w1.alloc (.cells #[.slice none 0 0, .int .i64 0, .int .i64 0, .int .i64 0, .int .i64 0, .int .i64 0, .int .u32 0, .int .u32 0, .int .u32 0, .int .u32 0, .int .u32 0, .int .u32 0, .int .u32 0, .int .u32 0, .int .u32 0, .int .u32 0, .int .u32 0, .int .u32 0, .int .u32 0, .int .u32 0, .int .u32 0, .int .u32 0, .slice none 0 0, .slice none 0 0, .int .i64 0] 59) = w2 at *
    generalize w1.heap.size = mb at *
    have hbm : w.heap.size + 3 ≤ mb := hz1
    have hne0 : some w.heap.size ≠ some mb := fun h => by injection h with h; omega
    have hne1 : some (w.heap.size + 1) ≠ some mb := fun h => by injection h with h; omega
    have hmz : MBox w2 mb (machL (.slice none 0 0) (resL noRes (.slice none 0 0) (.slice none 0 0)) 0) := HMZ
    refine tree_store_mbox hS (by rfl) 59 (.tmp 8) (.tmp 14) rfl mb 0 (machL (.slice A p.code.length c) (resL r vm1 vw1) pc) rfl rfl (machL (.slice none 0 0) (resL noRes (.slice none 0 0) (.slice none 0 0)) 0) hmz (by rw [machL_len (resL_len h16), machL_len (resL_len rfl)]; exact Nat.le_refl _) 25 info_mach (machL_len (resL_len h16)) (machL_one rfl (resL_one hv1 hv2)) ?_ ?_
    · intro w3 h1 h2
      exact ⟨h2.cell hS.1 hne0, hS.2.grown h2 hne1⟩
    intro w3 hMB hg3
    rw [splice_whole _ _ (by rw [machL_len (resL_len h16), machL_len (resL_len rfl)])] at hMB
    refine tree_done ?_
    have E3 : Hid (w3.cell? ⟨w.heap.size, 0, none⟩ = some (.slice A p.code.length c) ∧ w3.cell? ⟨w.heap.size, 1, none⟩ = some (.int .i64 p.size) ∧ w3.cell? ⟨w.heap.size, 2, none⟩ = some (.slice D p.data.length d)) := ⟨hg3.cell E2.out.1 hne0, hg3.cell E2.out.2.1 hne0, hg3.cell E2.out.2.2 hne0⟩
    have Q3 := Lib.hid (Q2.out.grown hg3 (fun h => by injection h with h; omega))
    have B3 := Lib.hid (hS.2.grown hg3 (fun h => by injection h with h; omega))
    have HL3 := Lib.hid (Below.grown HL2.out hg3 HL2.out.size (fun k hk => grown_ge hk (by omega)))
    have O3 := Lib.hid (O2.out.grownM hmz hg3)
    clear hS E2 Q2 HL2 O2 hg3 hmz HMZ
    obtain ⟨e0, e1, e2⟩ := E3.out
    go_wp2_with (refine wpList_load_box rfl 34 (.tmp 4) rfl (w.heap.size + 1) 0 rfl (resL r (.slice M r.mem.length m) (.slice U r.ws.length u)) (resL r (.slice M r.mem.length m) (.slice U r.ws.length u)) B3.out (fun j v hv => by rw [Nat.zero_add]; exact hv) _ Try.underlying34 rfl 23 info_res (resL_len h16) ?_)
    refine (mayStep_any A D c d p M U m u r w3 ((HP0.out _ HL3.out).more HL3.out.size) h16).mono ?_; rintro e w4 ⟨rfl, hb4⟩
    rw [HMAY.out]
    have HL4 := Lib.hid (HL3.out.trans (hb4.mono HL3.out.size))
    have MB4 := Lib.hid (hMB.below hb4 hMB.lt)
    have O4 := Lib.hid (O3.out.below hb4)
    have Q4 := Lib.hid (Q3.out.below hb4 Q3.out.lt)
    clear e0 e1 e2 E3 B3 hb4 O3 Q3 hMB HL3
    go_wp2_with fail
    refine (mStep_any A c p r vm1 vw1 pc mb w4 MB4.out (w.heap.size + 3) hbm O4.out ((HP0.out _ HL4.out).code.more (by omega)) FR.out.2.2.2.2.2.1 FR.out.2.2.2.2.2.2.1 HW.out HZ.out.1 HZ.out.2.1 HZ.out.2.2).mono ?_; rintro e w5 ⟨rfl, vm5, vw5, hMB5, hO5, hb5⟩
    rw [← HR5.out] at hMB5 hO5
    rw [← HP5.out] at hMB5
    have HL5 := Lib.hid (HL4.out.trans (hb5.mono (by omega)))
    have MB5 := Lib.hid hMB5
    have O5 := Lib.hid hO5
    have Q5 := Lib.hid (Q4.out.below hb5 (by omega))
    have N5 := Lib.hid hO5.regs
    clear hMB5 hO5 hb5 MB4 O4 Q4 HL4
    obtain ⟨M5, m5, rfl⟩ := (Row.of_own O5.out.mem).form
    obtain ⟨U5, u5, rfl⟩ := (Row.of_own O5.out.ws).form
    go_wp2_with fail
    have hS : Box w5.drew mb (machL (.slice A p.code.length c) (resL r5 (.slice M5 r5.mem.length m5) (.slice U5 r5.ws.length u5)) pc5) := MB5.out.box
    refine wp_region_lin [(0, true), (1, true), (2, true), (3, true), (4, false), (5, true)]
      (by kernel_rfl) (by kernel_rfl) rfl (by kernel_rfl) (fun x => Box x mb (machL (.slice A p.code.length c) (resL r5 (.slice M5 r5.mem.length m5) (.slice U5 r5.ws.length u5)) pc5)) ?_
    simp only [List.map_cons, List.map_nil, List.getElem?_toArray, List.getElem?_cons_succ, List.getElem?_cons_zero]
    (refine lin_take (v := ?_) hS (by rfl) ?_ ?_; rotate_left; (intro x hx; clear hx; go_simp; try (with_reducible rfl)); (simp only [Act.put, List.setIfInBounds_toArray, List.set_cons_zero, List.set_cons_succ]))
    refine lin_load_box hS (by rfl) 34 (.tmp 19) rfl mb 1 rfl (machL (.slice A p.code.length c) (resL r5 (.slice M5 r5.mem.length m5) (.slice U5 r5.ws.length u5)) pc5) (resL r5 (.slice M5 r5.mem.length m5) (.slice U5 r5.ws.length u5)) (fun y hy => hy) (fun j v hv => by rw [Nat.add_comm]; exact machL_res (resL_len N5.out) hv) _ Try.underlying34 rfl 23 info_res (resL_len N5.out) ?_
    simp only [Act.put, List.setIfInBounds_toArray, List.set_cons_zero, List.set_cons_succ]
    (refine lin_take (v := ?_) hS (by rfl) ?_ ?_; rotate_left; (intro x hx; clear hx; go_simp; try (with_reducible rfl)); (simp only [Act.put, List.setIfInBounds_toArray, List.set_cons_zero, List.set_cons_succ]))
    (refine lin_take (v := .int .i64 pc5) hS (by rfl) ?_ ?_; (intro x hx; have x24 := hx.cell (machL_24 (resL_len N5.out)); clear hx; go_simp; try (with_reducible rfl)); (simp only [Act.put, List.setIfInBounds_toArray, List.set_cons_zero, List.set_cons_succ]))
    refine lin_store_box hS (by rfl) 34 (.tmp 6) (.tmp 20) rfl (w.heap.size + 2) 0 (resL r5 (.slice M5 r5.mem.length m5) (.slice U5 r5.ws.length u5)) rfl rfl (resL noRes (.slice none 0 0) (.slice none 0 0)) (Box.drew Q5.out) (by rw [resL_len N5.out, resL_len rfl]; exact Nat.le_refl _) 23 info_res (resL_len N5.out) (resL_one rfl rfl) (fun w9 h1 h2 => hS.grown h2 (fun h => by injection h with h; omega)) ?_
    intro w9 hB9 hg9
    rw [splice_whole _ _ (by rw [resL_len N5.out, resL_len rfl])] at hB9
    have hS9 : Box w9 mb (machL (.slice A p.code.length c) (resL r5 (.slice M5 r5.mem.length m5) (.slice U5 r5.ws.length u5)) pc5) := hS.grown hg9 (fun h => by injection h with h; omega)
    simp only [Act.put]
    (refine lin_take (v := ?_) hS9 (by rfl) ?_ ?_; rotate_left; (intro x hx; clear hx; go_simp; try (with_reducible rfl)); (simp only [Act.put, List.setIfInBounds_toArray, List.set_cons_zero, List.set_cons_succ]))
    refine lin_done ?_
    have B9 := Lib.hid hB9
    have HL9 := Lib.hid (show Below w.heap.size w w9 from Below.grown HL5.out.drew hg9 HL5.out.size (fun k hk => grown_ge hk (by omega)))
    have O9 := Lib.hid (show ResOwn w9 w.heap.size (.slice M5 r5.mem.length m5) (.slice U5 r5.ws.length u5) r5 from ResOwn.base (ResOwn.grown (b := (w.heap.size + 2)) (show ResOwn w5.drew (w.heap.size + 3) _ _ r5 from ⟨O5.out.mem, O5.out.ws, N5.out⟩) hg9 (by omega)) (by omega))
    clear hS hS9 hB9 hg9
    go_wp2_with fail
    refine bodyPost_ret (v := .tuple #[.agg (resL r5 (.slice M5 r5.mem.length m5) (.slice U5 r5.ws.length u5)).toArray, .int .i64 pc5]) ?_ rfl ⟨_, _, rfl, O9.out, HL9.out⟩
    exact results_cell_tmp' Try.results18 _ _ _ ⟨w.heap.size + 2, 0, none⟩ _ _ rfl (load_res B9.out N5.out) rfl
  · go_simp
    have hS2 : (W0.drew.alloc (.cells #[.slice none 0 0, .int .i64 0, .int .i64 0, .int .i64 0, .int .i64 0, .int .i64 0, .int .u32 0, .int .u32 0, .int .u32 0, .int .u32 0, .int .u32 0, .int .u32 0, .int .u32 0, .int .u32 0, .int .u32 0, .int .u32 0, .int .u32 0, .int .u32 0, .int .u32 0, .int .u32 0, .int .u32 0, .int .u32 0, .slice none 0 0, .slice none 0 0, .int .i64 0] 59)).cell? ⟨w.heap.size, 0, none⟩ = some (.slice A p.code.length c) ∧ Box (W0.drew.alloc (.cells #[.slice none 0 0, .int .i64 0, .int .i64 0, .int .i64 0, .int .i64 0, .int .i64 0, .int .u32 0, .int .u32 0, .int .u32 0, .int .u32 0, .int .u32 0, .int .u32 0, .int .u32 0, .int .u32 0, .int .u32 0, .int .u32 0, .int .u32 0, .int .u32 0, .int .u32 0, .int .u32 0, .int .u32 0, .int .u32 0, .slice none 0 0, .slice none 0 0, .int .i64 0] 59)) (w.heap.size + 1) (resL r (.slice M r.mem.length m) (.slice U r.ws.length u)) := ⟨one_cell (show w.heap.size < W0.drew.heap.size by show _ < W0.heap.size; omega) hS.1, Box.alloc hS.2 _⟩
    refine hK.out _ _ hS2 (fun _ => ?_)
    clear hK K
    try simp only [Act.put, List.setIfInBounds_toArray, List.set_cons_zero, List.set_cons_succ]
    have HMZ := MBox.new W0 (machL (.slice none 0 0) (resL noRes (.slice none 0 0) (.slice none 0 0)) 0)
    have hz2 : (W0.drew.alloc (.cells #[.slice none 0 0, .int .i64 0, .int .i64 0, .int .i64 0, .int .i64 0, .int .i64 0, .int .u32 0, .int .u32 0, .int .u32 0, .int .u32 0, .int .u32 0, .int .u32 0, .int .u32 0, .int .u32 0, .int .u32 0, .int .u32 0, .int .u32 0, .int .u32 0, .int .u32 0, .int .u32 0, .int .u32 0, .int .u32 0, .slice none 0 0, .slice none 0 0, .int .i64 0] 59)).heap.size = w.heap.size + 4 := by simp [hs]
    have E1 : Hid ((W0.drew.alloc (.cells #[.slice none 0 0, .int .i64 0, .int .i64 0, .int .i64 0, .int .i64 0, .int .i64 0, .int .u32 0, .int .u32 0, .int .u32 0, .int .u32 0, .int .u32 0, .int .u32 0, .int .u32 0, .int .u32 0, .int .u32 0, .int .u32 0, .int .u32 0, .int .u32 0, .int .u32 0, .int .u32 0, .int .u32 0, .int .u32 0, .slice none 0 0, .slice none 0 0, .int .i64 0] 59)).cell? ⟨w.heap.size, 0, none⟩ = some (.slice A p.code.length c) ∧ (W0.drew.alloc (.cells #[.slice none 0 0, .int .i64 0, .int .i64 0, .int .i64 0, .int .i64 0, .int .i64 0, .int .u32 0, .int .u32 0, .int .u32 0, .int .u32 0, .int .u32 0, .int .u32 0, .int .u32 0, .int .u32 0, .int .u32 0, .int .u32 0, .int .u32 0, .int .u32 0, .int .u32 0, .int .u32 0, .int .u32 0, .int .u32 0, .slice none 0 0, .slice none 0 0, .int .i64 0] 59)).cell? ⟨w.heap.size, 1, none⟩ = some (.int .i64 p.size) ∧ (W0.drew.alloc (.cells #[.slice none 0 0, .int .i64 0, .int .i64 0, .int .i64 0, .int .i64 0, .int .i64 0, .int .u32 0, .int .u32 0, .int .u32 0, .int .u32 0, .int .u32 0, .int .u32 0, .int .u32 0, .int .u32 0, .int .u32 0, .int .u32 0, .int .u32 0, .int .u32 0, .int .u32 0, .int .u32 0, .int .u32 0, .int .u32 0, .slice none 0 0, .slice none 0 0, .int .i64 0] 59)).cell? ⟨w.heap.size, 2, none⟩ = some (.slice D p.data.length d)) := ⟨one_cell (w := W0.drew) (show w.heap.size < W0.heap.size by omega) E0.out.1, one_cell (w := W0.drew) (show w.heap.size < W0.heap.size by omega) E0.out.2.1, one_cell (w := W0.drew) (show w.heap.size < W0.heap.size by omega) E0.out.2.2⟩
    have Q1 : Hid (Box (W0.drew.alloc (.cells #[.slice none 0 0, .int .i64 0, .int .i64 0, .int .i64 0, .int .i64 0, .int .i64 0, .int .u32 0, .int .u32 0, .int .u32 0, .int .u32 0, .int .u32 0, .int .u32 0, .int .u32 0, .int .u32 0, .int .u32 0, .int .u32 0, .int .u32 0, .int .u32 0, .int .u32 0, .int .u32 0, .int .u32 0, .int .u32 0, .slice none 0 0, .slice none 0 0, .int .i64 0] 59)) (w.heap.size + 2) (resL noRes (.slice none 0 0) (.slice none 0 0))) := Box.alloc (w := W0.drew) Q0.out _
    have HL1 := Lib.hid (show Below w.heap.size w (W0.drew.alloc (.cells #[.slice none 0 0, .int .i64 0, .int .i64 0, .int .i64 0, .int .i64 0, .int .i64 0, .int .u32 0, .int .u32 0, .int .u32 0, .int .u32 0, .int .u32 0, .int .u32 0, .int .u32 0, .int .u32 0, .int .u32 0, .int .u32 0, .int .u32 0, .int .u32 0, .int .u32 0, .int .u32 0, .int .u32 0, .int .u32 0, .slice none 0 0, .slice none 0 0, .int .i64 0] 59)) from HB.out.drew.alloc (show w.heap.size ≤ W0.heap.size by omega) _)
    have HVd : ResV W0.drew W0.drew.heap.size (.slice M r.mem.length m) (.slice U r.ws.length u) r := ⟨HV.out.mem, HV.out.ws, h16⟩
    have HV1 := Lib.hid ((HVd.alloc (Nat.le_refl _) (.cells #[.slice none 0 0, .int .i64 0, .int .i64 0, .int .i64 0, .int .i64 0, .int .i64 0, .int .u32 0, .int .u32 0, .int .u32 0, .int .u32 0, .int .u32 0, .int .u32 0, .int .u32 0, .int .u32 0, .int .u32 0, .int .u32 0, .int .u32 0, .int .u32 0, .int .u32 0, .int .u32 0, .int .u32 0, .int .u32 0, .slice none 0 0, .slice none 0 0, .int .i64 0] 59)).more (show W0.drew.heap.size ≤ (W0.drew.alloc (.cells #[.slice none 0 0, .int .i64 0, .int .i64 0, .int .i64 0, .int .i64 0, .int .i64 0, .int .u32 0, .int .u32 0, .int .u32 0, .int .u32 0, .int .u32 0, .int .u32 0, .int .u32 0, .int .u32 0, .int .u32 0, .int .u32 0, .int .u32 0, .int .u32 0, .int .u32 0, .int .u32 0, .int .u32 0, .int .u32 0, .slice none 0 0, .slice none 0 0, .int .i64 0] 59)).heap.size by simp))
    clear HVd
    clear hS
    have hS := hS2
    clear hS2
    change MBox (W0.drew.alloc (.cells #[.slice none 0 0, .int .i64 0, .int .i64 0, .int .i64 0, .int .i64 0, .int .i64 0, .int .u32 0, .int .u32 0, .int .u32 0, .int .u32 0, .int .u32 0, .int .u32 0, .int .u32 0, .int .u32 0, .int .u32 0, .int .u32 0, .int .u32 0, .int .u32 0, .int .u32 0, .int .u32 0, .int .u32 0, .int .u32 0, .slice none 0 0, .slice none 0 0, .int .i64 0] 59)) W0.heap.size (machL (.slice none 0 0) (resL noRes (.slice none 0 0) (.slice none 0 0)) 0) at HMZ
    rw [hs] at HMZ
    refine tree_call hS (by rfl) (fun K hK => ?_)
    go_simp
    refine (copied_any r (.slice M r.mem.length m) (.slice U r.ws.length u) (W0.drew.alloc (.cells #[.slice none 0 0, .int .i64 0, .int .i64 0, .int .i64 0, .int .i64 0, .int .i64 0, .int .u32 0, .int .u32 0, .int .u32 0, .int .u32 0, .int .u32 0, .int .u32 0, .int .u32 0, .int .u32 0, .int .u32 0, .int .u32 0, .int .u32 0, .int .u32 0, .int .u32 0, .int .u32 0, .int .u32 0, .int .u32 0, .slice none 0 0, .slice none 0 0, .int .i64 0] 59)) HV1.out HM.out HW.out).mono ?_
    generalize W0.drew.alloc (.cells #[.slice none 0 0, .int .i64 0, .int .i64 0, .int .i64 0, .int .i64 0, .int .i64 0, .int .u32 0, .int .u32 0, .int .u32 0, .int .u32 0, .int .u32 0, .int .u32 0, .int .u32 0, .int .u32 0, .int .u32 0, .int .u32 0, .int .u32 0, .int .u32 0, .int .u32 0, .int .u32 0, .int .u32 0, .int .u32 0, .slice none 0 0, .slice none 0 0, .int .i64 0] 59) = w1 at *
    rintro e w2 ⟨vm1, vw1, rfl, hO1, hb1⟩
    have hO1' : ResOwn w2 (w.heap.size + 3) vm1 vw1 r := ResOwn.base (b1 := w.heap.size + 3) hO1 (by omega)
    have hb1' : Below (w.heap.size + 4) w1 w2 := hz2 ▸ hb1
    have hS1 : w2.cell? ⟨w.heap.size, 0, none⟩ = some (.slice A p.code.length c) ∧ Box w2 (w.heap.size + 1) (resL r (.slice M r.mem.length m) (.slice U r.ws.length u)) := ⟨below_cell hb1' (by omega) hS.1, hS.2.below hb1' (by omega)⟩
    have hv1 := own_one hO1'.mem
    have hv2 := own_one hO1'.ws
    have E2 : Hid (w2.cell? ⟨w.heap.size, 0, none⟩ = some (.slice A p.code.length c) ∧ w2.cell? ⟨w.heap.size, 1, none⟩ = some (.int .i64 p.size) ∧ w2.cell? ⟨w.heap.size, 2, none⟩ = some (.slice D p.data.length d)) := ⟨below_cell hb1' (by omega) E1.out.1, below_cell hb1' (by omega) E1.out.2.1, below_cell hb1' (by omega) E1.out.2.2⟩
    have Q2 := Lib.hid (Q1.out.below hb1' (by omega))
    have HL2 := Lib.hid (HL1.out.trans (hb1'.mono (by omega)))
    have O2 := Lib.hid hO1'
    have HMZ2 := HMZ.below hb1' (by omega)
    clear HMZ
    have HMZ := HMZ2
    clear HMZ2
    have hz3 : w.heap.size + 4 ≤ w2.heap.size := by have := hb1'.size; omega
    clear hO1 hO1' hb1 hb1' hS Q1 HL1 E1
    have hS := hS1
    clear hS1
    go_wp2_with fail
    refine hK.out _ _ hS (fun _ => ?_)
    clear hK K
    try simp only [Act.put, List.setIfInBounds_toArray, List.set_cons_zero, List.set_cons_succ]
    refine tree_take (v := .agg (machL (.slice A p.code.length c) (resL r vm1 vw1) pc).toArray) hS (by rfl) (fun x hx => exec_build _ _ rfl _ (by simp only [List.map_toArray, List.map_cons, List.map_nil]; exact machine_built A p.code.length c (resL r vm1 vw1) pc (resL_len h16)) x) ?_
    simp only [Act.put, List.setIfInBounds_toArray, List.set_cons_zero, List.set_cons_succ]
    have hbm : w.heap.size + 3 ≤ w.heap.size + 3 := Nat.le_refl _
    have hne0 : some w.heap.size ≠ some (w.heap.size + 3) := fun h => by injection h with h; omega
    have hne1 : some (w.heap.size + 1) ≠ some (w.heap.size + 3) := fun h => by injection h with h; omega
    have hmz : MBox w2 (w.heap.size + 3) (machL (.slice none 0 0) (resL noRes (.slice none 0 0) (.slice none 0 0)) 0) := HMZ
    refine tree_store_mbox hS (by rfl) 59 (.tmp 8) (.tmp 14) rfl (w.heap.size + 3) 0 (machL (.slice A p.code.length c) (resL r vm1 vw1) pc) rfl rfl (machL (.slice none 0 0) (resL noRes (.slice none 0 0) (.slice none 0 0)) 0) hmz (by rw [machL_len (resL_len h16), machL_len (resL_len rfl)]; exact Nat.le_refl _) 25 info_mach (machL_len (resL_len h16)) (machL_one rfl (resL_one hv1 hv2)) ?_ ?_
    · intro w3 h1 h2
      exact ⟨h2.cell hS.1 hne0, hS.2.grown h2 hne1⟩
    intro w3 hMB hg3
    rw [splice_whole _ _ (by rw [machL_len (resL_len h16), machL_len (resL_len rfl)])] at hMB
    refine tree_done ?_
    have E3 : Hid (w3.cell? ⟨w.heap.size, 0, none⟩ = some (.slice A p.code.length c) ∧ w3.cell? ⟨w.heap.size, 1, none⟩ = some (.int .i64 p.size) ∧ w3.cell? ⟨w.heap.size, 2, none⟩ = some (.slice D p.data.length d)) := ⟨hg3.cell E2.out.1 hne0, hg3.cell E2.out.2.1 hne0, hg3.cell E2.out.2.2 hne0⟩
    have Q3 := Lib.hid (Q2.out.grown hg3 (fun h => by injection h with h; omega))
    have B3 := Lib.hid (hS.2.grown hg3 (fun h => by injection h with h; omega))
    have HL3 := Lib.hid (Below.grown HL2.out hg3 HL2.out.size (fun k hk => grown_ge hk (by omega)))
    have O3 := Lib.hid (O2.out.grownM hmz hg3)
    clear hS E2 Q2 HL2 O2 hg3 hmz HMZ
    obtain ⟨e0, e1, e2⟩ := E3.out
    go_wp2_with (refine wpList_load_box rfl 34 (.tmp 4) rfl (w.heap.size + 1) 0 rfl (resL r (.slice M r.mem.length m) (.slice U r.ws.length u)) (resL r (.slice M r.mem.length m) (.slice U r.ws.length u)) B3.out (fun j v hv => by rw [Nat.zero_add]; exact hv) _ Try.underlying34 rfl 23 info_res (resL_len h16) ?_)
    refine (mayStep_any A D c d p M U m u r w3 ((HP0.out _ HL3.out).more HL3.out.size) h16).mono ?_; rintro e w4 ⟨rfl, hb4⟩
    rw [HMAY.out]
    have HL4 := Lib.hid (HL3.out.trans (hb4.mono HL3.out.size))
    have MB4 := Lib.hid (hMB.below hb4 hMB.lt)
    have O4 := Lib.hid (O3.out.below hb4)
    have Q4 := Lib.hid (Q3.out.below hb4 Q3.out.lt)
    clear e0 e1 e2 E3 B3 hb4 O3 Q3 hMB HL3
    go_wp2_with fail
    refine (mStep_any A c p r vm1 vw1 pc (w.heap.size + 3) w4 MB4.out (w.heap.size + 3) hbm O4.out ((HP0.out _ HL4.out).code.more (by omega)) FR.out.2.2.2.2.2.1 FR.out.2.2.2.2.2.2.1 HW.out HZ.out.1 HZ.out.2.1 HZ.out.2.2).mono ?_; rintro e w5 ⟨rfl, vm5, vw5, hMB5, hO5, hb5⟩
    rw [← HR5.out] at hMB5 hO5
    rw [← HP5.out] at hMB5
    have HL5 := Lib.hid (HL4.out.trans (hb5.mono (by omega)))
    have MB5 := Lib.hid hMB5
    have O5 := Lib.hid hO5
    have Q5 := Lib.hid (Q4.out.below hb5 (by omega))
    have N5 := Lib.hid hO5.regs
    clear hMB5 hO5 hb5 MB4 O4 Q4 HL4
    obtain ⟨M5, m5, rfl⟩ := (Row.of_own O5.out.mem).form
    obtain ⟨U5, u5, rfl⟩ := (Row.of_own O5.out.ws).form
    go_wp2_with fail
    have hS : Box w5.drew (w.heap.size + 3) (machL (.slice A p.code.length c) (resL r5 (.slice M5 r5.mem.length m5) (.slice U5 r5.ws.length u5)) pc5) := MB5.out.box
    refine wp_region_lin [(0, true), (1, true), (2, true), (3, true), (4, false), (5, true)]
      (by kernel_rfl) (by kernel_rfl) rfl (by kernel_rfl) (fun x => Box x (w.heap.size + 3) (machL (.slice A p.code.length c) (resL r5 (.slice M5 r5.mem.length m5) (.slice U5 r5.ws.length u5)) pc5)) ?_
    simp only [List.map_cons, List.map_nil, List.getElem?_toArray, List.getElem?_cons_succ, List.getElem?_cons_zero]
    (refine lin_take (v := ?_) hS (by rfl) ?_ ?_; rotate_left; (intro x hx; clear hx; go_simp; try (with_reducible rfl)); (simp only [Act.put, List.setIfInBounds_toArray, List.set_cons_zero, List.set_cons_succ]))
    refine lin_load_box hS (by rfl) 34 (.tmp 19) rfl (w.heap.size + 3) 1 rfl (machL (.slice A p.code.length c) (resL r5 (.slice M5 r5.mem.length m5) (.slice U5 r5.ws.length u5)) pc5) (resL r5 (.slice M5 r5.mem.length m5) (.slice U5 r5.ws.length u5)) (fun y hy => hy) (fun j v hv => by rw [Nat.add_comm]; exact machL_res (resL_len N5.out) hv) _ Try.underlying34 rfl 23 info_res (resL_len N5.out) ?_
    simp only [Act.put, List.setIfInBounds_toArray, List.set_cons_zero, List.set_cons_succ]
    (refine lin_take (v := ?_) hS (by rfl) ?_ ?_; rotate_left; (intro x hx; clear hx; go_simp; try (with_reducible rfl)); (simp only [Act.put, List.setIfInBounds_toArray, List.set_cons_zero, List.set_cons_succ]))
    (refine lin_take (v := .int .i64 pc5) hS (by rfl) ?_ ?_; (intro x hx; have x24 := hx.cell (machL_24 (resL_len N5.out)); clear hx; go_simp; try (with_reducible rfl)); (simp only [Act.put, List.setIfInBounds_toArray, List.set_cons_zero, List.set_cons_succ]))
    refine lin_store_box hS (by rfl) 34 (.tmp 6) (.tmp 20) rfl (w.heap.size + 2) 0 (resL r5 (.slice M5 r5.mem.length m5) (.slice U5 r5.ws.length u5)) rfl rfl (resL noRes (.slice none 0 0) (.slice none 0 0)) (Box.drew Q5.out) (by rw [resL_len N5.out, resL_len rfl]; exact Nat.le_refl _) 23 info_res (resL_len N5.out) (resL_one rfl rfl) (fun w9 h1 h2 => hS.grown h2 (fun h => by injection h with h; omega)) ?_
    intro w9 hB9 hg9
    rw [splice_whole _ _ (by rw [resL_len N5.out, resL_len rfl])] at hB9
    have hS9 : Box w9 (w.heap.size + 3) (machL (.slice A p.code.length c) (resL r5 (.slice M5 r5.mem.length m5) (.slice U5 r5.ws.length u5)) pc5) := hS.grown hg9 (fun h => by injection h with h; omega)
    simp only [Act.put]
    (refine lin_take (v := ?_) hS9 (by rfl) ?_ ?_; rotate_left; (intro x hx; clear hx; go_simp; try (with_reducible rfl)); (simp only [Act.put, List.setIfInBounds_toArray, List.set_cons_zero, List.set_cons_succ]))
    refine lin_done ?_
    have B9 := Lib.hid hB9
    have HL9 := Lib.hid (show Below w.heap.size w w9 from Below.grown HL5.out.drew hg9 HL5.out.size (fun k hk => grown_ge hk (by omega)))
    have O9 := Lib.hid (show ResOwn w9 w.heap.size (.slice M5 r5.mem.length m5) (.slice U5 r5.ws.length u5) r5 from ResOwn.base (ResOwn.grown (b := (w.heap.size + 2)) (show ResOwn w5.drew (w.heap.size + 3) _ _ r5 from ⟨O5.out.mem, O5.out.ws, N5.out⟩) hg9 (by omega)) (by omega))
    clear hS hS9 hB9 hg9
    go_wp2_with fail
    refine bodyPost_ret (v := .tuple #[.agg (resL r5 (.slice M5 r5.mem.length m5) (.slice U5 r5.ws.length u5)).toArray, .int .i64 pc5]) ?_ rfl ⟨_, _, rfl, O9.out, HL9.out⟩
    exact results_cell_tmp' Try.results18 _ _ _ ⟨w.heap.size + 2, 0, none⟩ _ _ rfl (load_res B9.out N5.out) rfl

set_option maxHeartbeats 1000000 in
theorem seqStep_stays (A D : Option Addr) (c d : Nat) (p : Prog) (M U : Option Addr) (m u : Nat) (r : Res) (w : World) (pc : Int) (hp : ProgV w w.heap.size (.slice A p.code.length c) (.slice D p.data.length d) p) (hr : ResV w w.heap.size (.slice M r.mem.length m) (.slice U r.ws.length u) r) (hm : r.mem.length ≤ 140737488355328) (hw : r.ws.length ≤ 1000000000000) (fr : r.Fits) (hmay : mayB p r = false) :
    Calls Try.prog 18 #[.agg #[.slice A p.code.length c, .int .i64 p.size, .slice D p.data.length d], .agg (resL r (.slice M r.mem.length m) (.slice U r.ws.length u)).toArray, .int .i64 pc] w fun e w' => ∃ vm' vw', e = .returned (.tuple #[.agg (resL (stepZ p r pc).1 vm' vw').toArray, .int .i64 (stepZ p r pc).2]) ∧ ResOwn w' w.heap.size vm' vw' (stepZ p r pc).1 ∧ Below w.heap.size w w' := by
  have HMAY := Lib.hid hmay
  rw [stepZ_stay (mayB_no hmay)]
  show Calls _ _ _ _ fun e w' => ∃ vm' vw', e = .returned (.tuple #[.agg (resL r vm' vw').toArray, .int .i64 pc]) ∧ ResOwn w' w.heap.size vm' vw' r ∧ Below w.heap.size w w'
  clear hmay
  obtain ⟨u1, u2⟩ := hp.code.cap
  obtain ⟨u3, u4⟩ := hp.data.cap
  have h16 := hr.regs
  have hs : (((w.alloc (.cells #[.slice A p.code.length c, .int .i64 p.size, .slice D p.data.length d] 25)).alloc (.cells (resL r (.slice M r.mem.length m) (.slice U r.ws.length u)).toArray 34)).alloc (.cells #[.int .i64 0, .int .i64 0, .int .i64 0, .int .i64 0, .int .i64 0, .int .u32 0, .int .u32 0, .int .u32 0, .int .u32 0, .int .u32 0, .int .u32 0, .int .u32 0, .int .u32 0, .int .u32 0, .int .u32 0, .int .u32 0, .int .u32 0, .int .u32 0, .int .u32 0, .int .u32 0, .int .u32 0, .slice none 0 0, .slice none 0 0] 34)).heap.size = w.heap.size + 3 := by simp
  have HB := Lib.hid ((((Below.refl w.heap.size w).alloc (Nat.le_refl _) (.cells #[.slice A p.code.length c, .int .i64 p.size, .slice D p.data.length d] 25)).alloc (by simp) (.cells (resL r (.slice M r.mem.length m) (.slice U r.ws.length u)).toArray 34)).alloc (by simp; omega) (.cells #[.int .i64 0, .int .i64 0, .int .i64 0, .int .i64 0, .int .i64 0, .int .u32 0, .int .u32 0, .int .u32 0, .int .u32 0, .int .u32 0, .int .u32 0, .int .u32 0, .int .u32 0, .int .u32 0, .int .u32 0, .int .u32 0, .int .u32 0, .int .u32 0, .int .u32 0, .int .u32 0, .int .u32 0, .slice none 0 0, .slice none 0 0] 34))
  have HV := Lib.hid (((hr.below HB.out).more (show w.heap.size ≤ (((w.alloc (.cells #[.slice A p.code.length c, .int .i64 p.size, .slice D p.data.length d] 25)).alloc (.cells (resL r (.slice M r.mem.length m) (.slice U r.ws.length u)).toArray 34)).alloc (.cells #[.int .i64 0, .int .i64 0, .int .i64 0, .int .i64 0, .int .i64 0, .int .u32 0, .int .u32 0, .int .u32 0, .int .u32 0, .int .u32 0, .int .u32 0, .int .u32 0, .int .u32 0, .int .u32 0, .int .u32 0, .int .u32 0, .int .u32 0, .int .u32 0, .int .u32 0, .int .u32 0, .int .u32 0, .slice none 0 0, .slice none 0 0] 34)).heap.size by rw [hs]; omega)))
  have HP0 := Lib.hid (fun (x : World) (h : Below w.heap.size w x) => hp.below h)
  have e0 : (((w.alloc (.cells #[.slice A p.code.length c, .int .i64 p.size, .slice D p.data.length d] 25)).alloc (.cells (resL r (.slice M r.mem.length m) (.slice U r.ws.length u)).toArray 34)).alloc (.cells #[.int .i64 0, .int .i64 0, .int .i64 0, .int .i64 0, .int .i64 0, .int .u32 0, .int .u32 0, .int .u32 0, .int .u32 0, .int .u32 0, .int .u32 0, .int .u32 0, .int .u32 0, .int .u32 0, .int .u32 0, .int .u32 0, .int .u32 0, .int .u32 0, .int .u32 0, .int .u32 0, .int .u32 0, .slice none 0 0, .slice none 0 0] 34)).cell? ⟨w.heap.size, 0, none⟩ = some (.slice A p.code.length c) := by go_simp
  have e1 : (((w.alloc (.cells #[.slice A p.code.length c, .int .i64 p.size, .slice D p.data.length d] 25)).alloc (.cells (resL r (.slice M r.mem.length m) (.slice U r.ws.length u)).toArray 34)).alloc (.cells #[.int .i64 0, .int .i64 0, .int .i64 0, .int .i64 0, .int .i64 0, .int .u32 0, .int .u32 0, .int .u32 0, .int .u32 0, .int .u32 0, .int .u32 0, .int .u32 0, .int .u32 0, .int .u32 0, .int .u32 0, .int .u32 0, .int .u32 0, .int .u32 0, .int .u32 0, .int .u32 0, .int .u32 0, .slice none 0 0, .slice none 0 0] 34)).cell? ⟨w.heap.size, 1, none⟩ = some (.int .i64 p.size) := by go_simp
  have e2 : (((w.alloc (.cells #[.slice A p.code.length c, .int .i64 p.size, .slice D p.data.length d] 25)).alloc (.cells (resL r (.slice M r.mem.length m) (.slice U r.ws.length u)).toArray 34)).alloc (.cells #[.int .i64 0, .int .i64 0, .int .i64 0, .int .i64 0, .int .i64 0, .int .u32 0, .int .u32 0, .int .u32 0, .int .u32 0, .int .u32 0, .int .u32 0, .int .u32 0, .int .u32 0, .int .u32 0, .int .u32 0, .int .u32 0, .int .u32 0, .int .u32 0, .int .u32 0, .int .u32 0, .int .u32 0, .slice none 0 0, .slice none 0 0] 34)).cell? ⟨w.heap.size, 2, none⟩ = some (.slice D p.data.length d) := by go_simp
  have B0 : Hid (Box (((w.alloc (.cells #[.slice A p.code.length c, .int .i64 p.size, .slice D p.data.length d] 25)).alloc (.cells (resL r (.slice M r.mem.length m) (.slice U r.ws.length u)).toArray 34)).alloc (.cells #[.int .i64 0, .int .i64 0, .int .i64 0, .int .i64 0, .int .i64 0, .int .u32 0, .int .u32 0, .int .u32 0, .int .u32 0, .int .u32 0, .int .u32 0, .int .u32 0, .int .u32 0, .int .u32 0, .int .u32 0, .int .u32 0, .int .u32 0, .int .u32 0, .int .u32 0, .int .u32 0, .int .u32 0, .slice none 0 0, .slice none 0 0] 34)) (w.heap.size + 1) (resL r (.slice M r.mem.length m) (.slice U r.ws.length u))) := by
    have := ((Box.new (w.alloc (.cells #[.slice A p.code.length c, .int .i64 p.size, .slice D p.data.length d] 25)) (resL r (.slice M r.mem.length m) (.slice U r.ws.length u)) 34).alloc (.cells #[.int .i64 0, .int .i64 0, .int .i64 0, .int .i64 0, .int .i64 0, .int .u32 0, .int .u32 0, .int .u32 0, .int .u32 0, .int .u32 0, .int .u32 0, .int .u32 0, .int .u32 0, .int .u32 0, .int .u32 0, .int .u32 0, .int .u32 0, .int .u32 0, .int .u32 0, .int .u32 0, .int .u32 0, .slice none 0 0, .slice none 0 0] 34))
    have e : (w.alloc (.cells #[.slice A p.code.length c, .int .i64 p.size, .slice D p.data.length d] 25)).heap.size = w.heap.size + 1 := by simp
    rw [e] at this
    exact this
  have Q0 : Hid (Box (((w.alloc (.cells #[.slice A p.code.length c, .int .i64 p.size, .slice D p.data.length d] 25)).alloc (.cells (resL r (.slice M r.mem.length m) (.slice U r.ws.length u)).toArray 34)).alloc (.cells #[.int .i64 0, .int .i64 0, .int .i64 0, .int .i64 0, .int .i64 0, .int .u32 0, .int .u32 0, .int .u32 0, .int .u32 0, .int .u32 0, .int .u32 0, .int .u32 0, .int .u32 0, .int .u32 0, .int .u32 0, .int .u32 0, .int .u32 0, .int .u32 0, .int .u32 0, .int .u32 0, .int .u32 0, .slice none 0 0, .slice none 0 0] 34)) (w.heap.size + 2) (resL noRes (.slice none 0 0) (.slice none 0 0))) := by
    have := Box.new ((w.alloc (.cells #[.slice A p.code.length c, .int .i64 p.size, .slice D p.data.length d] 25)).alloc (.cells (resL r (.slice M r.mem.length m) (.slice U r.ws.length u)).toArray 34)) (resL noRes (.slice none 0 0) (.slice none 0 0)) 34
    have e : ((w.alloc (.cells #[.slice A p.code.length c, .int .i64 p.size, .slice D p.data.length d] 25)).alloc (.cells (resL r (.slice M r.mem.length m) (.slice U r.ws.length u)).toArray 34)).heap.size = w.heap.size + 2 := by simp
    rw [e] at this
    exact this
  have E0 := Lib.hid (And.intro e0 (And.intro e1 e2))
  have HM := Lib.hid hm
  have HW := Lib.hid hw
  have FR := Lib.hid fr
  clear hp hr hm hw fr
  go_enter Try.func18, Try.ntmps18
  go_wp2_with fail
  generalize (((w.alloc (.cells #[.slice A p.code.length c, .int .i64 p.size, .slice D p.data.length d] 25)).alloc (.cells (resL r (.slice M r.mem.length m) (.slice U r.ws.length u)).toArray 34)).alloc (.cells #[.int .i64 0, .int .i64 0, .int .i64 0, .int .i64 0, .int .i64 0, .int .u32 0, .int .u32 0, .int .u32 0, .int .u32 0, .int .u32 0, .int .u32 0, .int .u32 0, .int .u32 0, .int .u32 0, .int .u32 0, .int .u32 0, .int .u32 0, .int .u32 0, .int .u32 0, .int .u32 0, .int .u32 0, .slice none 0 0, .slice none 0 0] 34)) = W0 at *
  have hS : W0.drew.cell? ⟨w.heap.size, 0, none⟩ = some (.slice A p.code.length c) ∧ Box W0.drew (w.heap.size + 1) (resL r (.slice M r.mem.length m) (.slice U r.ws.length u)) := ⟨e0, B0.out⟩
  clear e0 e1 e2
  refine wp_region_tree _ (LinT.of [(0, true), (1, true), (2, true), (4, true)] (.two 3 6 (LinT.of [(5, true), (6, false), (7, false)] .nil) (LinT.of [(3, false), (5, true), (7, false)] .nil))) (by kernel_rfl) (by kernel_rfl) rfl (by kernel_rfl) (fun x => x.cell? ⟨w.heap.size, 0, none⟩ = some (.slice A p.code.length c) ∧ Box x (w.heap.size + 1) (resL r (.slice M r.mem.length m) (.slice U r.ws.length u))) (fun _ _ h => h) ?_
  simp only [LinT.of, LinT.look, List.getElem?_toArray, List.getElem?_cons_succ, List.getElem?_cons_zero]
  iterate 2 (refine tree_take (v := ?_) hS (by rfl) ?_ ?_; rotate_left; (intro x hx; obtain ⟨x0, x1⟩ := hx; clear x1; go_simp; try (with_reducible rfl)); (simp only [Act.put, List.setIfInBounds_toArray, List.set_cons_zero, List.set_cons_succ]))
  refine tree_load_box hS (by rfl) 34 (.tmp 4) rfl (w.heap.size + 1) 0 rfl (resL r (.slice M r.mem.length m) (.slice U r.ws.length u)) (resL r (.slice M r.mem.length m) (.slice U r.ws.length u)) (fun y hy => hy.2) (fun j v hv => by rw [Nat.zero_add]; exact hv) _ Try.underlying34 rfl 23 info_res (resL_len h16) ?_
  simp only [Act.put, List.setIfInBounds_toArray, List.set_cons_zero, List.set_cons_succ]
  (refine tree_take (v := ?_) hS (by rfl) ?_ ?_; rotate_left; (intro x hx; obtain ⟨x0, x1⟩ := hx; clear x1; go_simp; try (with_reducible rfl)); (simp only [Act.put, List.setIfInBounds_toArray, List.set_cons_zero, List.set_cons_succ]))
  refine tree_two hS (by rfl) (by rfl) (fun K hK => ?_) (fun K hK => ?_)
  · go_simp
    refine (copied_any r (.slice M r.mem.length m) (.slice U r.ws.length u) W0.drew (show ResV W0.drew W0.drew.heap.size _ _ r from ⟨HV.out.mem, HV.out.ws, h16⟩) HM.out HW.out).mono ?_
    rintro e w1 ⟨vm1, vw1, rfl, hO1, hb1⟩
    have hO1' : ResOwn w1 (w.heap.size + 3) vm1 vw1 r := hs ▸ hO1
    have hb1' : Below (w.heap.size + 3) W0 w1 := hs ▸ (show Below W0.heap.size W0 w1 from ⟨hb1.os, hb1.tape, hb1.output, hb1.size, hb1.block⟩)
    have hS1 : w1.cell? ⟨w.heap.size, 0, none⟩ = some (.slice A p.code.length c) ∧ Box w1 (w.heap.size + 1) (resL r (.slice M r.mem.length m) (.slice U r.ws.length u)) := ⟨below_cell hb1' (by omega) hS.1, B0.out.below hb1' (by omega)⟩
    have hv1 := own_one hO1'.mem
    have hv2 := own_one hO1'.ws
    have E1 : Hid (w1.cell? ⟨w.heap.size, 0, none⟩ = some (.slice A p.code.length c) ∧ w1.cell? ⟨w.heap.size, 1, none⟩ = some (.int .i64 p.size) ∧ w1.cell? ⟨w.heap.size, 2, none⟩ = some (.slice D p.data.length d)) := ⟨below_cell hb1' (by omega) E0.out.1, below_cell hb1' (by omega) E0.out.2.1, below_cell hb1' (by omega) E0.out.2.2⟩
    have Q1 := Lib.hid (Q0.out.below hb1' (by omega))
    have HL1 := Lib.hid (HB.out.trans (hb1'.mono (by omega)))
    have O1 := Lib.hid hO1'
    have hz1 : w.heap.size + 3 ≤ w1.heap.size := by have := hb1'.size; omega
    clear hO1 hO1' hb1 hb1' hS
    have hS := hS1
    clear hS1
    go_wp2_with fail
    refine hK.out _ _ hS (fun _ => ?_)
    clear hK K
    try simp only [Act.put, List.setIfInBounds_toArray, List.set_cons_zero, List.set_cons_succ]
    refine tree_take (v := .agg (machL (.slice A p.code.length c) (resL r vm1 vw1) pc).toArray) hS (by rfl) (fun x hx => exec_build _ _ rfl _ (by simp only [List.map_toArray, List.map_cons, List.map_nil]; exact machine_built A p.code.length c (resL r vm1 vw1) pc (resL_len h16)) x) ?_
    simp only [Act.put, List.setIfInBounds_toArray, List.set_cons_zero, List.set_cons_succ]
    refine tree_call hS (by rfl) (fun K hK => ?_)
    go_simp
    have hS2 : (w1.alloc (.cells #[.slice none 0 0, .int .i64 0, .int .i64 0, .int .i64 0, .int .i64 0, .int .i64 0, .int .u32 0, .int .u32 0, .int .u32 0, .int .u32 0, .int .u32 0, .int .u32 0, .int .u32 0, .int .u32 0, .int .u32 0, .int .u32 0, .int .u32 0, .int .u32 0, .int .u32 0, .int .u32 0, .int .u32 0, .int .u32 0, .slice none 0 0, .slice none 0 0, .int .i64 0] 59)).cell? ⟨w.heap.size, 0, none⟩ = some (.slice A p.code.length c) ∧ Box (w1.alloc (.cells #[.slice none 0 0, .int .i64 0, .int .i64 0, .int .i64 0, .int .i64 0, .int .i64 0, .int .u32 0, .int .u32 0, .int .u32 0, .int .u32 0, .int .u32 0, .int .u32 0, .int .u32 0, .int .u32 0, .int .u32 0, .int .u32 0, .int .u32 0, .int .u32 0, .int .u32 0, .int .u32 0, .int .u32 0, .int .u32 0, .slice none 0 0, .slice none 0 0, .int .i64 0] 59)) (w.heap.size + 1) (resL r (.slice M r.mem.length m) (.slice U r.ws.length u)) := ⟨one_cell (by omega) hS.1, hS.2.alloc _⟩
    refine hK.out _ _ hS2 (fun _ => ?_)
    clear hK K
    try simp only [Act.put, List.setIfInBounds_toArray, List.set_cons_zero, List.set_cons_succ]
    have HMZ := MBox.new w1 (machL (.slice none 0 0) (resL noRes (.slice none 0 0) (.slice none 0 0)) 0)
    have E2 : Hid ((w1.alloc (.cells #[.slice none 0 0, .int .i64 0, .int .i64 0, .int .i64 0, .int .i64 0, .int .i64 0, .int .u32 0, .int .u32 0, .int .u32 0, .int .u32 0, .int .u32 0, .int .u32 0, .int .u32 0, .int .u32 0, .int .u32 0, .int .u32 0, .int .u32 0, .int .u32 0, .int .u32 0, .int .u32 0, .int .u32 0, .int .u32 0, .slice none 0 0, .slice none 0 0, .int .i64 0] 59)).cell? ⟨w.heap.size, 0, none⟩ = some (.slice A p.code.length c) ∧ (w1.alloc (.cells #[.slice none 0 0, .int .i64 0, .int .i64 0, .int .i64 0, .int .i64 0, .int .i64 0, .int .u32 0, .int .u32 0, .int .u32 0, .int .u32 0, .int .u32 0, .int .u32 0, .int .u32 0, .int .u32 0, .int .u32 0, .int .u32 0, .int .u32 0, .int .u32 0, .int .u32 0, .int .u32 0, .int .u32 0, .int .u32 0, .slice none 0 0, .slice none 0 0, .int .i64 0] 59)).cell? ⟨w.heap.size, 1, none⟩ = some (.int .i64 p.size) ∧ (w1.alloc (.cells #[.slice none 0 0, .int .i64 0, .int .i64 0, .int .i64 0, .int .i64 0, .int .i64 0, .int .u32 0, .int .u32 0, .int .u32 0, .int .u32 0, .int .u32 0, .int .u32 0, .int .u32 0, .int .u32 0, .int .u32 0, .int .u32 0, .int .u32 0, .int .u32 0, .int .u32 0, .int .u32 0, .int .u32 0, .int .u32 0, .slice none 0 0, .slice none 0 0, .int .i64 0] 59)).cell? ⟨w.heap.size, 2, none⟩ = some (.slice D p.data.length d)) := ⟨one_cell (by omega) E1.out.1, one_cell (by omega) E1.out.2.1, one_cell (by omega) E1.out.2.2⟩
    have Q2 := Lib.hid (Q1.out.alloc (.cells #[.slice none 0 0, .int .i64 0, .int .i64 0, .int .i64 0, .int .i64 0, .int .i64 0, .int .u32 0, .int .u32 0, .int .u32 0, .int .u32 0, .int .u32 0, .int .u32 0, .int .u32 0, .int .u32 0, .int .u32 0, .int .u32 0, .int .u32 0, .int .u32 0, .int .u32 0, .int .u32 0, .int .u32 0, .int .u32 0, .slice none 0 0, .slice none 0 0, .int .i64 0] 59))
    have HL2 := Lib.hid (HL1.out.alloc HL1.out.size (.cells #[.slice none 0 0, .int .i64 0, .int .i64 0, .int .i64 0, .int .i64 0, .int .i64 0, .int .u32 0, .int .u32 0, .int .u32 0, .int .u32 0, .int .u32 0, .int .u32 0, .int .u32 0, .int .u32 0, .int .u32 0, .int .u32 0, .int .u32 0, .int .u32 0, .int .u32 0, .int .u32 0, .int .u32 0, .int .u32 0, .slice none 0 0, .slice none 0 0, .int .i64 0] 59))
    have O2 := Lib.hid (show ResOwn (w1.alloc (.cells #[.slice none 0 0, .int .i64 0, .int .i64 0, .int .i64 0, .int .i64 0, .int .i64 0, .int .u32 0, .int .u32 0, .int .u32 0, .int .u32 0, .int .u32 0, .int .u32 0, .int .u32 0, .int .u32 0, .int .u32 0, .int .u32 0, .int .u32 0, .int .u32 0, .int .u32 0, .int .u32 0, .int .u32 0, .int .u32 0, .slice none 0 0, .slice none 0 0, .int .i64 0] 59)) (w.heap.size + 3) vm1 vw1 r from ⟨O1.out.mem.alloc _, O1.out.ws.alloc _, h16⟩)
    have hz2 : w1.heap.size < (w1.alloc (.cells #[.slice none 0 0, .int .i64 0, .int .i64 0, .int .i64 0, .int .i64 0, .int .i64 0, .int .u32 0, .int .u32 0, .int .u32 0, .int .u32 0, .int .u32 0, .int .u32 0, .int .u32 0, .int .u32 0, .int .u32 0, .int .u32 0, .int .u32 0, .int .u32 0, .int .u32 0, .int .u32 0, .int .u32 0, .int .u32 0, .slice none 0 0, .slice none 0 0, .int .i64 0] 59)).heap.size := by simp
    clear hS E1 Q1 HL1 O1
    have hS := hS2
    clear hS2
    change MBox (w1.alloc (.cells #[.slice none 0 0, .int .i64 0, .int .i64 0, .int .i64 0, .int .i64 0, .int .i64 0, .int .u32 0, .int .u32 0, .int .u32 0, .int .u32 0, .int .u32 0, .int .u32 0, .int .u32 0, .int .u32 0, .int .u32 0, .int .u32 0, .int .u32 0, .int .u32 0, .int .u32 0, .int .u32 0, .int .u32 0, .int .u32 0, .slice none 0 0, .slice none 0 0, .int .i64 0] 59)) w1.heap.size (machL (.slice none 0 0) (resL noRes (.slice none 0 0) (.slice none 0 0)) 0) at HMZ
    generalize w1.alloc (.cells #[.slice none 0 0, .int .i64 0, .int .i64 0, .int .i64 0, .int .i64 0, .int .i64 0, .int .u32 0, .int .u32 0, .int .u32 0, .int .u32 0, .int .u32 0, .int .u32 0, .int .u32 0, .int .u32 0, .int .u32 0, .int .u32 0, .int .u32 0, .int .u32 0, .int .u32 0, .int .u32 0, .int .u32 0, .int .u32 0, .slice none 0 0, .slice none 0 0, .int .i64 0] 59) = w2 at *
    generalize w1.heap.size = mb at *
    have hbm : w.heap.size + 3 ≤ mb := hz1
    have hne0 : some w.heap.size ≠ some mb := fun h => by injection h with h; omega
    have hne1 : some (w.heap.size + 1) ≠ some mb := fun h => by injection h with h; omega
    have hmz : MBox w2 mb (machL (.slice none 0 0) (resL noRes (.slice none 0 0) (.slice none 0 0)) 0) := HMZ
    refine tree_store_mbox hS (by rfl) 59 (.tmp 8) (.tmp 14) rfl mb 0 (machL (.slice A p.code.length c) (resL r vm1 vw1) pc) rfl rfl (machL (.slice none 0 0) (resL noRes (.slice none 0 0) (.slice none 0 0)) 0) hmz (by rw [machL_len (resL_len h16), machL_len (resL_len rfl)]; exact Nat.le_refl _) 25 info_mach (machL_len (resL_len h16)) (machL_one rfl (resL_one hv1 hv2)) ?_ ?_
    · intro w3 h1 h2
      exact ⟨h2.cell hS.1 hne0, hS.2.grown h2 hne1⟩
    intro w3 hMB hg3
    rw [splice_whole _ _ (by rw [machL_len (resL_len h16), machL_len (resL_len rfl)])] at hMB
    refine tree_done ?_
    have E3 : Hid (w3.cell? ⟨w.heap.size, 0, none⟩ = some (.slice A p.code.length c) ∧ w3.cell? ⟨w.heap.size, 1, none⟩ = some (.int .i64 p.size) ∧ w3.cell? ⟨w.heap.size, 2, none⟩ = some (.slice D p.data.length d)) := ⟨hg3.cell E2.out.1 hne0, hg3.cell E2.out.2.1 hne0, hg3.cell E2.out.2.2 hne0⟩
    have Q3 := Lib.hid (Q2.out.grown hg3 (fun h => by injection h with h; omega))
    have B3 := Lib.hid (hS.2.grown hg3 (fun h => by injection h with h; omega))
    have HL3 := Lib.hid (Below.grown HL2.out hg3 HL2.out.size (fun k hk => grown_ge hk (by omega)))
    have O3 := Lib.hid (O2.out.grownM hmz hg3)
    clear hS E2 Q2 HL2 O2 hg3 hmz HMZ
    obtain ⟨e0, e1, e2⟩ := E3.out
    go_wp2_with (refine wpList_load_box rfl 34 (.tmp 4) rfl (w.heap.size + 1) 0 rfl (resL r (.slice M r.mem.length m) (.slice U r.ws.length u)) (resL r (.slice M r.mem.length m) (.slice U r.ws.length u)) B3.out (fun j v hv => by rw [Nat.zero_add]; exact hv) _ Try.underlying34 rfl 23 info_res (resL_len h16) ?_)
    refine (mayStep_any A D c d p M U m u r w3 ((HP0.out _ HL3.out).more HL3.out.size) h16).mono ?_; rintro e w4 ⟨rfl, hb4⟩
    rw [HMAY.out]
    have HL4 := Lib.hid (HL3.out.trans (hb4.mono HL3.out.size))
    have MB4 := Lib.hid (hMB.below hb4 hMB.lt)
    have O4 := Lib.hid (O3.out.below hb4)
    have Q4 := Lib.hid (Q3.out.below hb4 Q3.out.lt)
    clear e0 e1 e2 E3 B3 hb4 O3 Q3 hMB HL3
    go_wp2_with fail
    obtain ⟨M1, m1, rfl⟩ := (Row.of_own O4.out.mem).form
    obtain ⟨U1, ux, rfl⟩ := (Row.of_own O4.out.ws).form
    have hS : Box w4.drew mb (machL (.slice A p.code.length c) (resL r (.slice M1 r.mem.length m1) (.slice U1 r.ws.length ux)) pc) := MB4.out.box
    refine wp_region_lin [(0, true), (1, true), (2, true), (3, true), (4, false), (5, true)]
      (by kernel_rfl) (by kernel_rfl) rfl (by kernel_rfl) (fun x => Box x mb (machL (.slice A p.code.length c) (resL r (.slice M1 r.mem.length m1) (.slice U1 r.ws.length ux)) pc)) ?_
    simp only [List.map_cons, List.map_nil, List.getElem?_toArray, List.getElem?_cons_succ, List.getElem?_cons_zero]
    (refine lin_take (v := ?_) hS (by rfl) ?_ ?_; rotate_left; (intro x hx; clear hx; go_simp; try (with_reducible rfl)); (simp only [Act.put, List.setIfInBounds_toArray, List.set_cons_zero, List.set_cons_succ]))
    refine lin_load_box hS (by rfl) 34 (.tmp 19) rfl mb 1 rfl (machL (.slice A p.code.length c) (resL r (.slice M1 r.mem.length m1) (.slice U1 r.ws.length ux)) pc) (resL r (.slice M1 r.mem.length m1) (.slice U1 r.ws.length ux)) (fun y hy => hy) (fun j v hv => by rw [Nat.add_comm]; exact machL_res (resL_len h16) hv) _ Try.underlying34 rfl 23 info_res (resL_len h16) ?_
    simp only [Act.put, List.setIfInBounds_toArray, List.set_cons_zero, List.set_cons_succ]
    (refine lin_take (v := ?_) hS (by rfl) ?_ ?_; rotate_left; (intro x hx; clear hx; go_simp; try (with_reducible rfl)); (simp only [Act.put, List.setIfInBounds_toArray, List.set_cons_zero, List.set_cons_succ]))
    (refine lin_take (v := .int .i64 pc) hS (by rfl) ?_ ?_; (intro x hx; have x24 := hx.cell (machL_24 (resL_len h16)); clear hx; go_simp; try (with_reducible rfl)); (simp only [Act.put, List.setIfInBounds_toArray, List.set_cons_zero, List.set_cons_succ]))
    refine lin_store_box hS (by rfl) 34 (.tmp 6) (.tmp 20) rfl (w.heap.size + 2) 0 (resL r (.slice M1 r.mem.length m1) (.slice U1 r.ws.length ux)) rfl rfl (resL noRes (.slice none 0 0) (.slice none 0 0)) (Box.drew Q4.out) (by rw [resL_len h16, resL_len rfl]; exact Nat.le_refl _) 23 info_res (resL_len h16) (resL_one rfl rfl) (fun w9 h1 h2 => hS.grown h2 (fun h => by injection h with h; omega)) ?_
    intro w9 hB9 hg9
    rw [splice_whole _ _ (by rw [resL_len h16, resL_len rfl])] at hB9
    have hS9 : Box w9 mb (machL (.slice A p.code.length c) (resL r (.slice M1 r.mem.length m1) (.slice U1 r.ws.length ux)) pc) := hS.grown hg9 (fun h => by injection h with h; omega)
    simp only [Act.put]
    (refine lin_take (v := ?_) hS9 (by rfl) ?_ ?_; rotate_left; (intro x hx; clear hx; go_simp; try (with_reducible rfl)); (simp only [Act.put, List.setIfInBounds_toArray, List.set_cons_zero, List.set_cons_succ]))
    refine lin_done ?_
    have B9 := Lib.hid hB9
    have HL9 := Lib.hid (show Below w.heap.size w w9 from Below.grown HL4.out.drew hg9 HL4.out.size (fun k hk => grown_ge hk (by omega)))
    have O9 := Lib.hid (show ResOwn w9 w.heap.size (.slice M1 r.mem.length m1) (.slice U1 r.ws.length ux) r from ResOwn.base (ResOwn.grown (b := (w.heap.size + 2)) (show ResOwn w4.drew (w.heap.size + 3) _ _ r from ⟨O4.out.mem, O4.out.ws, h16⟩) hg9 (by omega)) (by omega))
    clear hS hS9 hB9 hg9
    go_wp2_with fail
    refine bodyPost_ret (v := .tuple #[.agg (resL r (.slice M1 r.mem.length m1) (.slice U1 r.ws.length ux)).toArray, .int .i64 pc]) ?_ rfl ⟨_, _, rfl, O9.out, HL9.out⟩
    exact results_cell_tmp' Try.results18 _ _ _ ⟨w.heap.size + 2, 0, none⟩ _ _ rfl (load_res B9.out h16) rfl
  · go_simp
    have hS2 : (W0.drew.alloc (.cells #[.slice none 0 0, .int .i64 0, .int .i64 0, .int .i64 0, .int .i64 0, .int .i64 0, .int .u32 0, .int .u32 0, .int .u32 0, .int .u32 0, .int .u32 0, .int .u32 0, .int .u32 0, .int .u32 0, .int .u32 0, .int .u32 0, .int .u32 0, .int .u32 0, .int .u32 0, .int .u32 0, .int .u32 0, .int .u32 0, .slice none 0 0, .slice none 0 0, .int .i64 0] 59)).cell? ⟨w.heap.size, 0, none⟩ = some (.slice A p.code.length c) ∧ Box (W0.drew.alloc (.cells #[.slice none 0 0, .int .i64 0, .int .i64 0, .int .i64 0, .int .i64 0, .int .i64 0, .int .u32 0, .int .u32 0, .int .u32 0, .int .u32 0, .int .u32 0, .int .u32 0, .int .u32 0, .int .u32 0, .int .u32 0, .int .u32 0, .int .u32 0, .int .u32 0, .int .u32 0, .int .u32 0, .int .u32 0, .int .u32 0, .slice none 0 0, .slice none 0 0, .int .i64 0] 59)) (w.heap.size + 1) (resL r (.slice M r.mem.length m) (.slice U r.ws.length u)) := ⟨one_cell (show w.heap.size < W0.drew.heap.size by show _ < W0.heap.size; omega) hS.1, Box.alloc hS.2 _⟩
    refine hK.out _ _ hS2 (fun _ => ?_)
    clear hK K
    try simp only [Act.put, List.setIfInBounds_toArray, List.set_cons_zero, List.set_cons_succ]
    have HMZ := MBox.new W0 (machL (.slice none 0 0) (resL noRes (.slice none 0 0) (.slice none 0 0)) 0)
    have hz2 : (W0.drew.alloc (.cells #[.slice none 0 0, .int .i64 0, .int .i64 0, .int .i64 0, .int .i64 0, .int .i64 0, .int .u32 0, .int .u32 0, .int .u32 0, .int .u32 0, .int .u32 0, .int .u32 0, .int .u32 0, .int .u32 0, .int .u32 0, .int .u32 0, .int .u32 0, .int .u32 0, .int .u32 0, .int .u32 0, .int .u32 0, .int .u32 0, .slice none 0 0, .slice none 0 0, .int .i64 0] 59)).heap.size = w.heap.size + 4 := by simp [hs]
    have E1 : Hid ((W0.drew.alloc (.cells #[.slice none 0 0, .int .i64 0, .int .i64 0, .int .i64 0, .int .i64 0, .int .i64 0, .int .u32 0, .int .u32 0, .int .u32 0, .int .u32 0, .int .u32 0, .int .u32 0, .int .u32 0, .int .u32 0, .int .u32 0, .int .u32 0, .int .u32 0, .int .u32 0, .int .u32 0, .int .u32 0, .int .u32 0, .int .u32 0, .slice none 0 0, .slice none 0 0, .int .i64 0] 59)).cell? ⟨w.heap.size, 0, none⟩ = some (.slice A p.code.length c) ∧ (W0.drew.alloc (.cells #[.slice none 0 0, .int .i64 0, .int .i64 0, .int .i64 0, .int .i64 0, .int .i64 0, .int .u32 0, .int .u32 0, .int .u32 0, .int .u32 0, .int .u32 0, .int .u32 0, .int .u32 0, .int .u32 0, .int .u32 0, .int .u32 0, .int .u32 0, .int .u32 0, .int .u32 0, .int .u32 0, .int .u32 0, .int .u32 0, .slice none 0 0, .slice none 0 0, .int .i64 0] 59)).cell? ⟨w.heap.size, 1, none⟩ = some (.int .i64 p.size) ∧ (W0.drew.alloc (.cells #[.slice none 0 0, .int .i64 0, .int .i64 0, .int .i64 0, .int .i64 0, .int .i64 0, .int .u32 0, .int .u32 0, .int .u32 0, .int .u32 0, .int .u32 0, .int .u32 0, .int .u32 0, .int .u32 0, .int .u32 0, .int .u32 0, .int .u32 0, .int .u32 0, .int .u32 0, .int .u32 0, .int .u32 0, .int .u32 0, .slice none 0 0, .slice none 0 0, .int .i64 0] 59)).cell? ⟨w.heap.size, 2, none⟩ = some (.slice D p.data.length d)) := ⟨one_cell (w := W0.drew) (show w.heap.size < W0.heap.size by omega) E0.out.1, one_cell (w := W0.drew) (show w.heap.size < W0.heap.size by omega) E0.out.2.1, one_cell (w := W0.drew) (show w.heap.size < W0.heap.size by omega) E0.out.2.2⟩
    have Q1 : Hid (Box (W0.drew.alloc (.cells #[.slice none 0 0, .int .i64 0, .int .i64 0, .int .i64 0, .int .i64 0, .int .i64 0, .int .u32 0, .int .u32 0, .int .u32 0, .int .u32 0, .int .u32 0, .int .u32 0, .int .u32 0, .int .u32 0, .int .u32 0, .int .u32 0, .int .u32 0, .int .u32 0, .int .u32 0, .int .u32 0, .int .u32 0, .int .u32 0, .slice none 0 0, .slice none 0 0, .int .i64 0] 59)) (w.heap.size + 2) (resL noRes (.slice none 0 0) (.slice none 0 0))) := Box.alloc (w := W0.drew) Q0.out _
    have HL1 := Lib.hid (show Below w.heap.size w (W0.drew.alloc (.cells #[.slice none 0 0, .int .i64 0, .int .i64 0, .int .i64 0, .int .i64 0, .int .i64 0, .int .u32 0, .int .u32 0, .int .u32 0, .int .u32 0, .int .u32 0, .int .u32 0, .int .u32 0, .int .u32 0, .int .u32 0, .int .u32 0, .int .u32 0, .int .u32 0, .int .u32 0, .int .u32 0, .int .u32 0, .int .u32 0, .slice none 0 0, .slice none 0 0, .int .i64 0] 59)) from HB.out.drew.alloc (show w.heap.size ≤ W0.heap.size by omega) _)
    have HVd : ResV W0.drew W0.drew.heap.size (.slice M r.mem.length m) (.slice U r.ws.length u) r := ⟨HV.out.mem, HV.out.ws, h16⟩
    have HV1 := Lib.hid ((HVd.alloc (Nat.le_refl _) (.cells #[.slice none 0 0, .int .i64 0, .int .i64 0, .int .i64 0, .int .i64 0, .int .i64 0, .int .u32 0, .int .u32 0, .int .u32 0, .int .u32 0, .int .u32 0, .int .u32 0, .int .u32 0, .int .u32 0, .int .u32 0, .int .u32 0, .int .u32 0, .int .u32 0, .int .u32 0, .int .u32 0, .int .u32 0, .int .u32 0, .slice none 0 0, .slice none 0 0, .int .i64 0] 59)).more (show W0.drew.heap.size ≤ (W0.drew.alloc (.cells #[.slice none 0 0, .int .i64 0, .int .i64 0, .int .i64 0, .int .i64 0, .int .i64 0, .int .u32 0, .int .u32 0, .int .u32 0, .int .u32 0, .int .u32 0, .int .u32 0, .int .u32 0, .int .u32 0, .int .u32 0, .int .u32 0, .int .u32 0, .int .u32 0, .int .u32 0, .int .u32 0, .int .u32 0, .int .u32 0, .slice none 0 0, .slice none 0 0, .int .i64 0] 59)).heap.size by simp))
    clear HVd
    clear hS
    have hS := hS2
    clear hS2
    change MBox (W0.drew.alloc (.cells #[.slice none 0 0, .int .i64 0, .int .i64 0, .int .i64 0, .int .i64 0, .int .i64 0, .int .u32 0, .int .u32 0, .int .u32 0, .int .u32 0, .int .u32 0, .int .u32 0, .int .u32 0, .int .u32 0, .int .u32 0, .int .u32 0, .int .u32 0, .int .u32 0, .int .u32 0, .int .u32 0, .int .u32 0, .int .u32 0, .slice none 0 0, .slice none 0 0, .int .i64 0] 59)) W0.heap.size (machL (.slice none 0 0) (resL noRes (.slice none 0 0) (.slice none 0 0)) 0) at HMZ
    rw [hs] at HMZ
    refine tree_call hS (by rfl) (fun K hK => ?_)
    go_simp
    refine (copied_any r (.slice M r.mem.length m) (.slice U r.ws.length u) (W0.drew.alloc (.cells #[.slice none 0 0, .int .i64 0, .int .i64 0, .int .i64 0, .int .i64 0, .int .i64 0, .int .u32 0, .int .u32 0, .int .u32 0, .int .u32 0, .int .u32 0, .int .u32 0, .int .u32 0, .int .u32 0, .int .u32 0, .int .u32 0, .int .u32 0, .int .u32 0, .int .u32 0, .int .u32 0, .int .u32 0, .int .u32 0, .slice none 0 0, .slice none 0 0, .int .i64 0] 59)) HV1.out HM.out HW.out).mono ?_
    generalize W0.drew.alloc (.cells #[.slice none 0 0, .int .i64 0, .int .i64 0, .int .i64 0, .int .i64 0, .int .i64 0, .int .u32 0, .int .u32 0, .int .u32 0, .int .u32 0, .int .u32 0, .int .u32 0, .int .u32 0, .int .u32 0, .int .u32 0, .int .u32 0, .int .u32 0, .int .u32 0, .int .u32 0, .int .u32 0, .int .u32 0, .int .u32 0, .slice none 0 0, .slice none 0 0, .int .i64 0] 59) = w1 at *
    rintro e w2 ⟨vm1, vw1, rfl, hO1, hb1⟩
    have hO1' : ResOwn w2 (w.heap.size + 3) vm1 vw1 r := ResOwn.base (b1 := w.heap.size + 3) hO1 (by omega)
    have hb1' : Below (w.heap.size + 4) w1 w2 := hz2 ▸ hb1
    have hS1 : w2.cell? ⟨w.heap.size, 0, none⟩ = some (.slice A p.code.length c) ∧ Box w2 (w.heap.size + 1) (resL r (.slice M r.mem.length m) (.slice U r.ws.length u)) := ⟨below_cell hb1' (by omega) hS.1, hS.2.below hb1' (by omega)⟩
    have hv1 := own_one hO1'.mem
    have hv2 := own_one hO1'.ws
    have E2 : Hid (w2.cell? ⟨w.heap.size, 0, none⟩ = some (.slice A p.code.length c) ∧ w2.cell? ⟨w.heap.size, 1, none⟩ = some (.int .i64 p.size) ∧ w2.cell? ⟨w.heap.size, 2, none⟩ = some (.slice D p.data.length d)) := ⟨below_cell hb1' (by omega) E1.out.1, below_cell hb1' (by omega) E1.out.2.1, below_cell hb1' (by omega) E1.out.2.2⟩
    have Q2 := Lib.hid (Q1.out.below hb1' (by omega))
    have HL2 := Lib.hid (HL1.out.trans (hb1'.mono (by omega)))
    have O2 := Lib.hid hO1'
    have HMZ2 := HMZ.below hb1' (by omega)
    clear HMZ
    have HMZ := HMZ2
    clear HMZ2
    have hz3 : w.heap.size + 4 ≤ w2.heap.size := by have := hb1'.size; omega
    clear hO1 hO1' hb1 hb1' hS Q1 HL1 E1
    have hS := hS1
    clear hS1
    go_wp2_with fail
    refine hK.out _ _ hS (fun _ => ?_)
    clear hK K
    try simp only [Act.put, List.setIfInBounds_toArray, List.set_cons_zero, List.set_cons_succ]
    refine tree_take (v := .agg (machL (.slice A p.code.length c) (resL r vm1 vw1) pc).toArray) hS (by rfl) (fun x hx => exec_build _ _ rfl _ (by simp only [List.map_toArray, List.map_cons, List.map_nil]; exact machine_built A p.code.length c (resL r vm1 vw1) pc (resL_len h16)) x) ?_
    simp only [Act.put, List.setIfInBounds_toArray, List.set_cons_zero, List.set_cons_succ]
    have hbm : w.heap.size + 3 ≤ w.heap.size + 3 := Nat.le_refl _
    have hne0 : some w.heap.size ≠ some (w.heap.size + 3) := fun h => by injection h with h; omega
    have hne1 : some (w.heap.size + 1) ≠ some (w.heap.size + 3) := fun h => by injection h with h; omega
    have hmz : MBox w2 (w.heap.size + 3) (machL (.slice none 0 0) (resL noRes (.slice none 0 0) (.slice none 0 0)) 0) := HMZ
    refine tree_store_mbox hS (by rfl) 59 (.tmp 8) (.tmp 14) rfl (w.heap.size + 3) 0 (machL (.slice A p.code.length c) (resL r vm1 vw1) pc) rfl rfl (machL (.slice none 0 0) (resL noRes (.slice none 0 0) (.slice none 0 0)) 0) hmz (by rw [machL_len (resL_len h16), machL_len (resL_len rfl)]; exact Nat.le_refl _) 25 info_mach (machL_len (resL_len h16)) (machL_one rfl (resL_one hv1 hv2)) ?_ ?_
    · intro w3 h1 h2
      exact ⟨h2.cell hS.1 hne0, hS.2.grown h2 hne1⟩
    intro w3 hMB hg3
    rw [splice_whole _ _ (by rw [machL_len (resL_len h16), machL_len (resL_len rfl)])] at hMB
    refine tree_done ?_
    have E3 : Hid (w3.cell? ⟨w.heap.size, 0, none⟩ = some (.slice A p.code.length c) ∧ w3.cell? ⟨w.heap.size, 1, none⟩ = some (.int .i64 p.size) ∧ w3.cell? ⟨w.heap.size, 2, none⟩ = some (.slice D p.data.length d)) := ⟨hg3.cell E2.out.1 hne0, hg3.cell E2.out.2.1 hne0, hg3.cell E2.out.2.2 hne0⟩
    have Q3 := Lib.hid (Q2.out.grown hg3 (fun h => by injection h with h; omega))
    have B3 := Lib.hid (hS.2.grown hg3 (fun h => by injection h with h; omega))
    have HL3 := Lib.hid (Below.grown HL2.out hg3 HL2.out.size (fun k hk => grown_ge hk (by omega)))
    have O3 := Lib.hid (O2.out.grownM hmz hg3)
    clear hS E2 Q2 HL2 O2 hg3 hmz HMZ
    obtain ⟨e0, e1, e2⟩ := E3.out
    go_wp2_with (refine wpList_load_box rfl 34 (.tmp 4) rfl (w.heap.size + 1) 0 rfl (resL r (.slice M r.mem.length m) (.slice U r.ws.length u)) (resL r (.slice M r.mem.length m) (.slice U r.ws.length u)) B3.out (fun j v hv => by rw [Nat.zero_add]; exact hv) _ Try.underlying34 rfl 23 info_res (resL_len h16) ?_)
    refine (mayStep_any A D c d p M U m u r w3 ((HP0.out _ HL3.out).more HL3.out.size) h16).mono ?_; rintro e w4 ⟨rfl, hb4⟩
    rw [HMAY.out]
    have HL4 := Lib.hid (HL3.out.trans (hb4.mono HL3.out.size))
    have MB4 := Lib.hid (hMB.below hb4 hMB.lt)
    have O4 := Lib.hid (O3.out.below hb4)
    have Q4 := Lib.hid (Q3.out.below hb4 Q3.out.lt)
    clear e0 e1 e2 E3 B3 hb4 O3 Q3 hMB HL3
    go_wp2_with fail
    obtain ⟨M1, m1, rfl⟩ := (Row.of_own O4.out.mem).form
    obtain ⟨U1, ux, rfl⟩ := (Row.of_own O4.out.ws).form
    have hS : Box w4.drew (w.heap.size + 3) (machL (.slice A p.code.length c) (resL r (.slice M1 r.mem.length m1) (.slice U1 r.ws.length ux)) pc) := MB4.out.box
    refine wp_region_lin [(0, true), (1, true), (2, true), (3, true), (4, false), (5, true)]
      (by kernel_rfl) (by kernel_rfl) rfl (by kernel_rfl) (fun x => Box x (w.heap.size + 3) (machL (.slice A p.code.length c) (resL r (.slice M1 r.mem.length m1) (.slice U1 r.ws.length ux)) pc)) ?_
    simp only [List.map_cons, List.map_nil, List.getElem?_toArray, List.getElem?_cons_succ, List.getElem?_cons_zero]
    (refine lin_take (v := ?_) hS (by rfl) ?_ ?_; rotate_left; (intro x hx; clear hx; go_simp; try (with_reducible rfl)); (simp only [Act.put, List.setIfInBounds_toArray, List.set_cons_zero, List.set_cons_succ]))
    refine lin_load_box hS (by rfl) 34 (.tmp 19) rfl (w.heap.size + 3) 1 rfl (machL (.slice A p.code.length c) (resL r (.slice M1 r.mem.length m1) (.slice U1 r.ws.length ux)) pc) (resL r (.slice M1 r.mem.length m1) (.slice U1 r.ws.length ux)) (fun y hy => hy) (fun j v hv => by rw [Nat.add_comm]; exact machL_res (resL_len h16) hv) _ Try.underlying34 rfl 23 info_res (resL_len h16) ?_
    simp only [Act.put, List.setIfInBounds_toArray, List.set_cons_zero, List.set_cons_succ]
    (refine lin_take (v := ?_) hS (by rfl) ?_ ?_; rotate_left; (intro x hx; clear hx; go_simp; try (with_reducible rfl)); (simp only [Act.put, List.setIfInBounds_toArray, List.set_cons_zero, List.set_cons_succ]))
    (refine lin_take (v := .int .i64 pc) hS (by rfl) ?_ ?_; (intro x hx; have x24 := hx.cell (machL_24 (resL_len h16)); clear hx; go_simp; try (with_reducible rfl)); (simp only [Act.put, List.setIfInBounds_toArray, List.set_cons_zero, List.set_cons_succ]))
    refine lin_store_box hS (by rfl) 34 (.tmp 6) (.tmp 20) rfl (w.heap.size + 2) 0 (resL r (.slice M1 r.mem.length m1) (.slice U1 r.ws.length ux)) rfl rfl (resL noRes (.slice none 0 0) (.slice none 0 0)) (Box.drew Q4.out) (by rw [resL_len h16, resL_len rfl]; exact Nat.le_refl _) 23 info_res (resL_len h16) (resL_one rfl rfl) (fun w9 h1 h2 => hS.grown h2 (fun h => by injection h with h; omega)) ?_
    intro w9 hB9 hg9
    rw [splice_whole _ _ (by rw [resL_len h16, resL_len rfl])] at hB9
    have hS9 : Box w9 (w.heap.size + 3) (machL (.slice A p.code.length c) (resL r (.slice M1 r.mem.length m1) (.slice U1 r.ws.length ux)) pc) := hS.grown hg9 (fun h => by injection h with h; omega)
    simp only [Act.put]
    (refine lin_take (v := ?_) hS9 (by rfl) ?_ ?_; rotate_left; (intro x hx; clear hx; go_simp; try (with_reducible rfl)); (simp only [Act.put, List.setIfInBounds_toArray, List.set_cons_zero, List.set_cons_succ]))
    refine lin_done ?_
    have B9 := Lib.hid hB9
    have HL9 := Lib.hid (show Below w.heap.size w w9 from Below.grown HL4.out.drew hg9 HL4.out.size (fun k hk => grown_ge hk (by omega)))
    have O9 := Lib.hid (show ResOwn w9 w.heap.size (.slice M1 r.mem.length m1) (.slice U1 r.ws.length ux) r from ResOwn.base (ResOwn.grown (b := (w.heap.size + 2)) (show ResOwn w4.drew (w.heap.size + 3) _ _ r from ⟨O4.out.mem, O4.out.ws, h16⟩) hg9 (by omega)) (by omega))
    clear hS hS9 hB9 hg9
    go_wp2_with fail
    refine bodyPost_ret (v := .tuple #[.agg (resL r (.slice M1 r.mem.length m1) (.slice U1 r.ws.length ux)).toArray, .int .i64 pc]) ?_ rfl ⟨_, _, rfl, O9.out, HL9.out⟩
    exact results_cell_tmp' Try.results18 _ _ _ ⟨w.heap.size + 2, 0, none⟩ _ _ rfl (load_res B9.out h16) rfl

theorem seqStep_any (A D : Option Addr) (c d : Nat) (p : Prog) (M U : Option Addr) (m u : Nat) (r : Res) (w : World) (pc : Int) (hp : ProgV w w.heap.size (.slice A p.code.length c) (.slice D p.data.length d) p) (hr : ResV w w.heap.size (.slice M r.mem.length m) (.slice U r.ws.length u) r) (hm : r.mem.length ≤ 140737488355328) (hw : r.ws.length ≤ 1000000000000) (fr : r.Fits) :
    Calls Try.prog 18 #[.agg #[.slice A p.code.length c, .int .i64 p.size, .slice D p.data.length d], .agg (resL r (.slice M r.mem.length m) (.slice U r.ws.length u)).toArray, .int .i64 pc] w fun e w' => ∃ vm' vw', e = .returned (.tuple #[.agg (resL (stepZ p r pc).1 vm' vw').toArray, .int .i64 (stepZ p r pc).2]) ∧ ResOwn w' w.heap.size vm' vw' (stepZ p r pc).1 ∧ Below w.heap.size w w' := by
  cases h : mayB p r
  · exact seqStep_stays A D c d p M U m u r w pc hp hr hm hw fr h
  · exact seqStep_does A D c d p M U m u r w pc hp hr hm hw fr h
end Go.Proofs.Ytdjllgdeijdieaa.Words

/- What a run leaves are Go's ints. Nothing here speaks of one program text. -/
namespace Go.Proofs.Ytdjllgdeijdieaa.Words
set_option maxRecDepth 100000
open Go.RowKit
set_option linter.unusedVariables false

/-- The other numbers of a result, and the place, step by step. -/
structure RunFits (k : Nat) (x : Res × Int) : Prop where
  e : 0 ≤ x.1.e ∧ x.1.e ≤ 3
  tk : 0 ≤ x.1.tk ∧ x.1.tk ≤ 4
  ts : 0 ≤ x.1.ts ∧ x.1.ts ≤ k
  tp : -10000 * (k : Int) ≤ x.1.tp ∧ x.1.tp ≤ 10000 * k
  pc : -10000 * (k : Int) ≤ x.2 ∧ x.2 ≤ 10000 * k
theorem RunFits.more {k : Nat} {x : Res × Int} (h : RunFits k x) : RunFits (k + 1) x := by
  have h1 := h.ts
  have h2 := h.tp
  have h3 := h.pc
  exact ⟨h.e, h.tk, by omega, by omega, by omega⟩
theorem RunFits.trap {k : Nat} {r : Res} {pc a : Int} (h : RunFits k (r, pc)) (hs : 0 ≤ r.st ∧ r.st ≤ k) (ha : 0 ≤ a ∧ a ≤ 4) : RunFits (k + 1) (trapZ r a pc, pc) := by
  have h3 := h.pc
  simp only at h3
  refine ⟨by show (0 : Int) ≤ 2 ∧ (2 : Int) ≤ 3; omega, ha, ?_, ?_, ?_⟩
  · show 0 ≤ r.st ∧ r.st ≤ _; omega
  · show _ ≤ pc ∧ pc ≤ _; omega
  · show _ ≤ pc ∧ pc ≤ _; omega
theorem RunFits.go {k : Nat} {r r' : Res} {pc pc' : Int} (h : RunFits k (r, pc)) (he : r'.e = r.e ∨ r'.e = 1) (h1 : r'.tk = r.tk) (h2 : r'.ts = r.ts) (h3 : r'.tp = r.tp) (hp : pc - 8192 ≤ pc' ∧ pc' ≤ pc + 8192) : RunFits (k + 1) (bumpZ r', pc') := by
  have a0 := h.e
  have a1 := h.tk
  have a2 := h.ts
  have a3 := h.tp
  have a4 := h.pc
  simp only at a0 a1 a2 a3 a4
  refine ⟨?_, ?_, ?_, ?_, ?_⟩
  · show 0 ≤ r'.e ∧ r'.e ≤ 3; omega
  · show 0 ≤ r'.tk ∧ r'.tk ≤ 4; omega
  · show 0 ≤ r'.ts ∧ r'.ts ≤ _; omega
  · show _ ≤ r'.tp ∧ r'.tp ≤ _; omega
  · show _ ≤ pc' ∧ pc' ≤ _; omega
theorem RunFits.step {p : Prog} {k : Nat} {r : Res} {pc : Int} (hr : p.right = true) (h : RunFits k (r, pc)) (hs : 0 ≤ r.st ∧ r.st ≤ k) : RunFits (k + 1) (stepZ p r pc) := by
  obtain ⟨_, _, _, _, _, c6⟩ := right_code hr
  unfold stepZ
  split
  · exact h.more
  split
  · exact h.trap hs (by omega)
  rename_i hn
  obtain ⟨i, hi⟩ : ∃ i, p.code[pc.toNat]? = some i := ⟨_, List.getElem?_eq_getElem (by omega)⟩
  obtain ⟨id, ia, ib, he, bd, ba, bb, bi, f1, f8⟩ := right_ins (c6 i (List.mem_of_getElem? hi))
  rw [List.getD_eq_getElem?_getD, hi]
  simp only [Option.getD_some]
  unfold insZ
  split
  · split
    · rename_i hk
      exact h.trap hs (by have := checkZ_cases (sizeZ i.op) ((valZ r.regs i.a.toNat + i.imm) % 4294967296) p.size; omega)
    · split
      · exact h.go (.inl rfl) rfl rfl rfl (by omega)
      · exact h.go (.inl rfl) rfl rfl rfl (by omega)
  split
  · split
    · exact h.trap hs (by omega)
    · exact h.go (.inl rfl) rfl rfl rfl (by omega)
  split
  · refine h.go (.inl rfl) rfl rfl rfl ?_
    split <;> omega
  split
  · exact h.go (.inl rfl) rfl rfl rfl (by omega)
  · exact h.go (r' := { r with e := 1 }) (.inr rfl) rfl rfl rfl (by omega)
theorem RunFits.start (p : Prog) : RunFits 0 (startZ p) := by
  refine ⟨?_, ?_, ?_, ?_, ?_⟩ <;> (show _ ≤ (0 : Int) ∧ (0 : Int) ≤ _) <;> omega
theorem RunFits.steps {p : Prog} (hr : p.right = true) : ∀ (n : Nat) {k : Nat} {x : Res × Int}, RunFits k x → RunOk p k x.1 → k + n ≤ 1000000 → RunFits (k + n) (stepsZ p n x)
  | 0, k, x, h, _, _ => h
  | n + 1, k, x, h, ho, hk => by
    rw [show k + (n + 1) = (k + 1) + n by omega]
    exact RunFits.steps hr n (RunFits.step hr h ho.st) (ho.step (by omega) x.2) (by omega)
theorem Res.fits_of {p : Prog} {k : Nat} {x : Res × Int} (h : RunOk p k x.1) (g : RunFits k x) (hk : k ≤ 1000000) : x.1.Fits := by
  have h1 := g.e
  have h2 := g.tk
  have h3 := g.ts
  have h4 := g.tp
  have h5 := h.st
  exact ⟨by omega, by omega, by omega, by omega, by omega, h.regs, h.mem, h.fits⟩
/-- What a run leaves is what its steps leave, and out of fuel. -/
theorem runZ_at {p : Prog} {fuel : Int} {n k : Nat} (hr : p.right = true) (hc : clampZ fuel = n) (hk : k ≤ n) (he : k = n ∨ (stepsZ p k (startZ p)).1.e ≠ 0) : runZ p fuel = fuelZ (stepsZ p k (startZ p)).1 := by
  unfold runZ
  rw [if_pos hr, hc]
  rcases he with rfl | he
  · rfl
  · rw [show n = k + (n - k) by omega, stepsZ_add, stepsZ_end _ _ _ he]
end Go.Proofs.Ytdjllgdeijdieaa.Words

/- A run's writes and steps grow. Nothing here speaks of one program text. -/
namespace Go.Proofs.Ytdjllgdeijdieaa.Words
set_option maxRecDepth 100000
open Go.RowKit
set_option linter.unusedVariables false

theorem bump_st {r : Res} {k : Nat} (h : 0 ≤ r.st ∧ r.st ≤ k) (hk : k ≤ 1000000) : r.st ≤ (bumpZ r).st := by
  show r.st ≤ wrap64 (r.st + 1)
  rw [IntWalk.wrap64_in _ (by omega)]; omega
theorem stepZ_grow {p : Prog} {k : Nat} {r : Res} (h : RunOk p k r) (hk : k ≤ 1000000) (pc : Int) : r.ws.length ≤ (stepZ p r pc).1.ws.length ∧ r.st ≤ (stepZ p r pc).1.st := by
  have hb := bump_st h.st hk
  unfold stepZ
  split
  · exact ⟨Nat.le_refl _, Int.le_refl _⟩
  split
  · exact ⟨Nat.le_refl _, Int.le_refl _⟩
  generalize p.code.getD pc.toNat ⟨0, 0, 0, 0, 0⟩ = i
  unfold insZ
  split
  · split
    · exact ⟨Nat.le_refl _, Int.le_refl _⟩
    · split
      · exact ⟨Nat.le_refl _, hb⟩
      · exact ⟨by show r.ws.length ≤ (r.ws ++ [_]).length; simp, hb⟩
  split
  · split
    · exact ⟨Nat.le_refl _, Int.le_refl _⟩
    · exact ⟨Nat.le_refl _, hb⟩
  split
  · exact ⟨Nat.le_refl _, hb⟩
  split
  · exact ⟨Nat.le_refl _, hb⟩
  · exact ⟨Nat.le_refl _, hb⟩
theorem stepsZ_grow {p : Prog} : ∀ (n : Nat) {k : Nat} {x : Res × Int}, RunOk p k x.1 → k + n ≤ 1000000 → x.1.ws.length ≤ (stepsZ p n x).1.ws.length ∧ x.1.st ≤ (stepsZ p n x).1.st
  | 0, k, x, h, _ => ⟨Nat.le_refl _, Int.le_refl _⟩
  | n + 1, k, x, h, hk => by
    have h1 := stepZ_grow h (by omega) x.2
    have h2 := stepsZ_grow n (h.step (by omega) x.2) (by omega)
    exact ⟨Nat.le_trans h1.1 h2.1, Int.le_trans h1.2 h2.2⟩
theorem fuelZ_ws (r : Res) : (fuelZ r).ws = r.ws ∧ (fuelZ r).st = r.st ∧ (fuelZ r).regs = r.regs ∧ (fuelZ r).mem = r.mem := by
  unfold fuelZ; split <;> exact ⟨rfl, rfl, rfl, rfl⟩
theorem clampZ_nat (n : Nat) (h : n ≤ 100000) : clampZ (n : Int) = n := by
  unfold clampZ; rw [if_neg (by omega), if_neg (by omega)]; rfl
/-- What a run leaves, in bounds. -/
theorem runZ_ok {p : Prog} {fuel : Int} (hf : ∀ b ∈ p.data, 0 ≤ b ∧ b ≤ 255) : (runZ p fuel).regs.length = 16 ∧ (∀ b ∈ (runZ p fuel).mem, 0 ≤ b ∧ b ≤ 255) := by
  unfold runZ
  split
  · rename_i hr
    obtain ⟨_, _, c3, _, c5, _⟩ := right_code hr
    have h := RunOk.steps (clampZ fuel) (RunOk.start hf c3 c5) (by unfold clampZ; repeat' split; all_goals omega)
    have g := fuelZ_ws (stepsZ p (clampZ fuel) (startZ p)).1
    rw [g.2.2.1, g.2.2.2]
    exact ⟨h.len, h.mem⟩
  · exact ⟨rfl, by intro b hb; cases hb⟩
theorem runZ_more {p : Prog} {n m : Nat} (hf : ∀ b ∈ p.data, 0 ≤ b ∧ b ≤ 255) (hr : p.right = true) (hn : n + m ≤ 100000) : (runZ p (n : Int)).ws.length ≤ (runZ p ((n : Int) + m)).ws.length ∧ (runZ p (n : Int)).st ≤ (runZ p ((n : Int) + m)).st := by
  obtain ⟨_, _, c3, _, c5, _⟩ := right_code hr
  have h := RunOk.steps n (RunOk.start hf c3 c5) (by omega)
  rw [Nat.zero_add] at h
  have g := stepsZ_grow m h (by omega)
  rw [show ((n : Int) + m) = ((n + m : Nat) : Int) by omega]
  unfold runZ
  rw [if_pos hr, if_pos hr, clampZ_nat n (by omega), clampZ_nat (n + m) hn, stepsZ_add]
  have f1 := fuelZ_ws (stepsZ p n (startZ p)).1
  have f2 := fuelZ_ws (stepsZ p m (stepsZ p n (startZ p))).1
  rw [f1.1, f1.2.1, f2.1, f2.2.1]
  exact g
end Go.Proofs.Ytdjllgdeijdieaa.Words

/- An argument that is an instruction (a struct of five ints by value): its five numbers. -/
namespace Go.Proofs.Ytdjllgdeijdieaa.Words
set_option maxRecDepth 100000
open Go.ChangeShapes Go.WideShapes Go.ChangeAt Go.RowKit

section
variable {H : Type} {enc : TypeId × Value → H} {w : World} {base : Nat} {spare : Nat → Bool} {held : Bool}


theorem ins_cells {fuel : Nat} {cs : List Value} {x : DataW H × List MemPlace} (h : DataW.trod enc Try.prog w base spare held fuel 44 cs = some x) :
    ∃ i : Ins, i.Fits ∧ cs = insCells i := by
  obtain ⟨xs, n, _, _, hlen, hxl, hg⟩ := DataW.trod_struct Try.underlying44 h
  have hC : Try.prog.cellsOf 44 = 5 := by kernel_rfl
  have hc1 : Try.prog.cellsOf 3 = 1 := by kernel_rfl
  rw [hC] at hlen
  have hxl' : xs.length = 5 := hxl
  match cs, hlen with
  | [c0, c1, c2, c3, c4], _ =>
    have g : ∀ (j : Nat) (hj : j < 5), DataW.trod enc Try.prog w base spare held n 3 (([c0, c1, c2, c3, c4].drop j).take 1) = some xs[j] := by
      intro j hj
      rw [← List.getElem?_eq_getElem (by omega), ← hc1]
      match j, hj with
      | 0, _ => exact hg 0 _ rfl
      | 1, _ => exact hg 1 _ rfl
      | 2, _ => exact hg 2 _ rfl
      | 3, _ => exact hg 3 _ rfl
      | 4, _ => exact hg 4 _ rfl
    obtain ⟨n0, e0, _, f0⟩ := DataW.trod_int Try.underlying3 (g 0 (by omega))
    obtain ⟨n1, e1, _, f1⟩ := DataW.trod_int Try.underlying3 (g 1 (by omega))
    obtain ⟨n2, e2, _, f2⟩ := DataW.trod_int Try.underlying3 (g 2 (by omega))
    obtain ⟨n3, e3, _, f3⟩ := DataW.trod_int Try.underlying3 (g 3 (by omega))
    obtain ⟨n4, e4, _, f4⟩ := DataW.trod_int Try.underlying3 (g 4 (by omega))
    simp only [List.drop_zero, List.take_succ_cons, List.take_zero, List.drop_succ_cons, List.cons.injEq, and_true] at e0 e1 e2 e3 e4
    subst e0 e1 e2 e3 e4
    exact ⟨⟨n0, n1, n2, n3, n4⟩, ⟨bounds_i64 f0, bounds_i64 f1, bounds_i64 f2, bounds_i64 f3, bounds_i64 f4⟩, rfl⟩

theorem open_ins {r : Reach} {b0 : Nat} {v : Value} {d : DataW H} {ps : List MemPlace} (hval : Value.okWide Try.prog w r b0 44 v) (hd : DataW.Trod enc Try.prog w base spare held 44 v d ps) :
    ∃ i : Ins, i.Fits ∧ v = .agg #[.int .i64 i.op, .int .i64 i.d, .int .i64 i.a, .int .i64 i.b, .int .i64 i.imm] := by
  obtain ⟨cs, rfl, _⟩ := okWide_struct Try.underlying44 hval
  obtain ⟨fuel, hf⟩ := hd
  obtain ⟨i, hi, hc⟩ := ins_cells hf
  refine ⟨i, hi, ?_⟩
  obtain ⟨l⟩ := cs
  have : l = insCells i := by simpa [Value.cells] using hc
  rw [this]; rfl
end
end Go.Proofs.Ytdjllgdeijdieaa.Words

/- An argument that is a program (a struct of a slice of instructions, an int and a slice of bytes, by value): its plain data. -/
namespace Go.Proofs.Ytdjllgdeijdieaa.Words
set_option maxRecDepth 100000
open Go.ChangeShapes Go.WideShapes Go.ChangeAt Go.RowKit

instance : Inhabited Ins := ⟨⟨0, 0, 0, 0, 0⟩⟩

section
variable {H : Type} {enc : TypeId × Value → H} {w : World} {base : Nat} {spare : Nat → Bool} {held : Bool}

theorem range_map_get {α : Type} (f : Nat → α) (n k : Nat) (h : k < n) : ((List.range n).map f)[k]? = some (f k) := by
  rw [List.getElem?_map, List.getElem?_range h]; rfl

/-- A slice of instructions. -/
theorem open_code {t : TypeId} (ht : Try.prog.underlying t = some (.slice 44)) {fuel : Nat} {cs : List Value} {x : DataW H × List MemPlace} (h : DataW.trod enc Try.prog w base spare held fuel t cs = some x) :
    ∃ (A : Option Addr) (c : Nat) (l : List Ins), cs = [.slice A l.length c] ∧ Row w w.heap.size 5 (.slice A l.length c) l.length (codeCells l) ∧ ∀ i ∈ l, i.Fits := by
  have hC : Try.prog.cellsOf 44 = 5 := by kernel_rfl
  rcases Deep.open_slice ht h with ⟨rfl, _⟩ | ⟨a, len, cap, m, n, D, Pl, rfl, hb, hl, hm, hmm, _, hx⟩
  · exact ⟨none, 0, [], rfl, Row.nil _ _ _, by simp⟩
  rw [hC] at hx
  have hlm : len ≤ m := by rw [hmm]; split <;> omega
  obtain ⟨f, hf⟩ := Deep.choose_lt (α := Ins) (n := len) (p := fun i v => v.Fits ∧ w.cells? base (a.add (i * 5)) 5 = some (insCells v)) (fun i hi => by
    obtain ⟨cs', h1, h2⟩ := hx i (by omega)
    obtain ⟨v, hv, rfl⟩ := ins_cells h2
    exact ⟨v, hv, h1⟩)
  have hlen : ((List.range len).map f).length = len := by simp
  refine ⟨some a, cap, (List.range len).map f, by rw [hlen], ?_, ?_⟩
  · rw [hlen]
    refine ⟨by rw [codeCells_length, hlen], some a, cap, rfl, hl, by simpa [maxLen] using hm, (fun h => by cases h), fun hn => ?_⟩
    have hcell : ∀ k j u, k < len → j < 5 → (insCells (f k))[j]? = some u → w.cell? (a.add (k * 5 + j)) = some u := by
      intro k j u hk hj hu
      have h1 := (hf k hk).2
      obtain ⟨_, h2, h3⟩ := World.cells?_some h1
      have := h3 j hj
      rwa [Deep.add_add, hu] at this
    have h00 := hcell 0 0 (.int .i64 (f 0).op) (by omega) (by omega) rfl
    obtain ⟨b, off, spot⟩ := a
    have hs : spot = none := by simpa [Addr.add] using World.cell?_spot h00
    subst hs
    refine ⟨b, off, rfl, ?_, fun j u hu => ?_⟩
    · rw [add_spot] at h00
      unfold World.cell? at h00
      rcases hh : w.heap[b]? with _ | o
      · simp [hh] at h00
      · exact (Array.getElem?_eq_some_iff.1 hh).1
    · have hj : j < len * 5 := by
        rw [List.getElem?_eq_some_iff] at hu
        obtain ⟨h, _⟩ := hu
        rw [codeCells_length, hlen] at h; exact h
      have hk : j / 5 < len := by omega
      have hr : j % 5 < 5 := by omega
      have e : j / 5 * 5 + j % 5 = j := by omega
      have h5 := codeCells_at ((List.range len).map f) (j / 5) (f (j / 5)) (range_map_get f len _ hk) (j % 5) hr
      rw [e, hu] at h5
      have := hcell (j / 5) (j % 5) u hk hr h5.symm
      rwa [e, add_spot] at this
  · intro i hi
    obtain ⟨k, hk, rfl⟩ := List.mem_map.1 hi
    exact (hf k (List.mem_range.1 hk)).1

/-- A slice of bytes. -/
theorem open_bytes {t : TypeId} (ht : Try.prog.underlying t = some (.slice 5)) {fuel : Nat} {cs : List Value} {x : DataW H × List MemPlace} (h : DataW.trod enc Try.prog w base (fun _ => true) held fuel t cs = some x) :
    ∃ (A : Option Addr) (c : Nat) (l : List Int), cs = [.slice A l.length c] ∧ Row w w.heap.size 1 (.slice A l.length c) l.length (l.map (Value.int .u8)) ∧ ∀ b ∈ l, 0 ≤ b ∧ b ≤ 255 := by
  rcases open_ints ht Try.underlying5 (by kernel_rfl) h with ⟨rfl, _⟩ | ⟨x, l, c, zs, rfl, _, hl, hm, hz, _, hcell, hwz⟩
  · exact ⟨none, 0, [], rfl, Row.nil _ _ _, by simp⟩
  · have hzl : zs.length = c := by simpa using hz
    have hlen : (zs.take l).length = l := by rw [List.length_take]; omega
    refine ⟨some x, c, zs.take l, by rw [hlen], ?_, fun b hb => bounds_u8 (hwz b (List.mem_of_mem_take hb))⟩
    rw [hlen]
    exact Row.of_ints hl hm hzl hcell

theorem open_prog {r : Reach} {b0 : Nat} {v : Value} {d : DataW H} {ps : List MemPlace} (hval : Value.okWide Try.prog w r b0 25 v) (hd : DataW.Trod enc Try.prog w base (fun _ => true) held 25 v d ps) :
    ∃ (A : Option Addr) (c : Nat) (A' : Option Addr) (c' : Nat) (p : Prog), p.Fits ∧ v = .agg #[.slice A p.code.length c, .int .i64 p.size, .slice A' p.data.length c'] ∧ ProgV w w.heap.size (.slice A p.code.length c) (.slice A' p.data.length c') p := by
  obtain ⟨cs, rfl, _⟩ := okWide_struct Try.underlying25 hval
  obtain ⟨fuel, hf⟩ := hd
  obtain ⟨xs, n, _, _, hlen, hxl, hg⟩ := DataW.trod_struct Try.underlying25 hf
  have hC : Try.prog.cellsOf 25 = 3 := by kernel_rfl
  have k0 : Try.prog.cellsOf 22 = 1 := by kernel_rfl
  have k1 : Try.prog.cellsOf 3 = 1 := by kernel_rfl
  have k2 : Try.prog.cellsOf 23 = 1 := by kernel_rfl
  rw [hC] at hlen
  have hxl' : xs.length = 3 := hxl
  obtain ⟨l⟩ := cs
  have hl : (Value.agg ⟨l⟩).cells.toList = l := by simp [Value.cells]
  rw [hl] at hlen hg
  match l, hlen with
  | [c0, c1, c2], _ =>
    have g0 : DataW.trod enc Try.prog w base (fun _ => true) held n 22 [c0] = some xs[0] := by
      have := hg 0 _ rfl
      rw [List.getElem?_eq_getElem (by omega)] at this
      simpa [k0] using this
    have g1 : DataW.trod enc Try.prog w base (fun _ => true) held n 3 [c1] = some xs[1] := by
      have := hg 1 _ rfl
      rw [List.getElem?_eq_getElem (by omega)] at this
      simpa [k1] using this
    have g2 : DataW.trod enc Try.prog w base (fun _ => true) held n 23 [c2] = some xs[2] := by
      have := hg 2 _ rfl
      rw [List.getElem?_eq_getElem (by omega)] at this
      simpa [k2] using this
    obtain ⟨A, c, code, e0, h0, f0⟩ := open_code Try.underlying22 g0
    obtain ⟨sz, e1, _, f1⟩ := DataW.trod_int Try.underlying3 g1
    obtain ⟨A', c', data, e2, h2, f2⟩ := open_bytes Try.underlying23 g2
    simp only [List.cons.injEq, and_true] at e0 e1 e2
    subst e0 e1 e2
    exact ⟨A, c, A', c', ⟨code, sz, data⟩, ⟨f0, bounds_i64 f1, f2⟩, rfl, ⟨h0, h2⟩⟩
end
end Go.Proofs.Ytdjllgdeijdieaa.Words

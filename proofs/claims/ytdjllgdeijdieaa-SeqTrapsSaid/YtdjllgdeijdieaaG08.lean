/- Several texts in one: SeqStep, SeqStep2. -/
import Derived.Test.YtdjllgdeijdieaaG03
import Derived.Test.YtdjllgdeijdieaaG00
import Derived.Test.YtdjllgdeijdieaaG07

/- Contract of package seq: step, way by way. -/
namespace Go.Proofs.Ytdjllgdeijdieaa.Words
set_option maxRecDepth 100000
open Go.RowKit
set_option linter.unusedVariables false

set_option maxHeartbeats 1000000 in
theorem mStep_low (A : Option Addr) (n c : Nat) (r : Res) (vm vw : Value) (pc : Int) (b : Nat) (w : World) (hb : MBox w b (machL (.slice A n c) (resL r vm vw) pc)) (h16 : r.regs.length = 16) (hn : n ≤ 1000000) (h1 : pc < 0) :
    Calls Try.prog 23 #[.pointer (some ⟨b, 0, none⟩)] w fun e w' => e = .returned (.tuple #[]) ∧ MBox w' b (machL (.slice A n c) (resL (trapZ r 4 pc) vm vw) pc) ∧ w.grownBy w' (some b) := by
  have c0 := hb.cell (machL_0 (vc := .slice A n c) (L := resL r vm vw) (pc := pc))
  have c24 := hb.cell (machL_24 (vc := .slice A n c) (pc := pc) (resL_len (vm := vm) (vw := vw) h16))
  have q1 : decide (pc < 0) = true := decide_eq_true h1
  skip
  have hS : w.drew.cell? ⟨b, 24, none⟩ = some (.int .i64 pc) ∧ w.drew.cell? ⟨b, 0, none⟩ = some (.slice A n c) := ⟨c24, c0⟩
  have HBB := Lib.hid hb
  clear hb c0 c24 h1 
  go_enter Try.func23, Try.ntmps23
  go_wp2_with fail
  refine wp_region_lin [(0, true), (1, true), (2, true), (3, true), (4, true), (5, true), (6, true), (7, true), (8, true), (9, true), (10, true), (11, true), (12, true), (13, true), (14, true), (15, true), (16, true)]
    (by kernel_rfl) (by kernel_rfl) rfl (by kernel_rfl) (fun x => x.cell? ⟨b, 24, none⟩ = some (.int .i64 pc) ∧ x.cell? ⟨b, 0, none⟩ = some (.slice A n c)) ?_
  simp only [List.map_cons, List.map_nil, List.getElem?_toArray, List.getElem?_cons_succ, List.getElem?_cons_zero]
  iterate 6 (refine lin_take (v := ?_) hS (by rfl) ?_ ?_; rotate_left; (intro x hx; obtain ⟨x0, x1⟩ := hx; go_simp; try (with_reducible rfl)); (simp only [Act.put, List.setIfInBounds_toArray, List.set_cons_zero, List.set_cons_succ]))
  iterate 10 (refine lin_skip hS (by rfl) ?_; (simp only [Act.put, List.setIfInBounds_toArray, List.set_cons_zero, List.set_cons_succ]))
  (refine lin_take (v := ?_) hS (by rfl) ?_ ?_; rotate_left; (intro x hx; obtain ⟨x0, x1⟩ := hx; go_simp; try (with_reducible rfl)); (simp only [Act.put, List.setIfInBounds_toArray, List.set_cons_zero, List.set_cons_succ]))
  refine lin_done ?_
  clear hS
  go_wp2_with fail
  refine (mTrap_any (.slice A n c) r vm vw pc 4 b _ HBB.out.drew h16).mono ?_; rintro e w8 ⟨rfl, hb8, hg8⟩
  have hb8' := Lib.hid hb8
  have hg8' := Lib.hid (show w.grownBy w8 (some b) from ⟨hg8.os, hg8.tape, hg8.output, hg8.size, hg8.block⟩)
  clear hb8 hg8
  go_wp2_with fail
  exact bodyPost_ret (v := .tuple #[]) (by simp [results, Try.results23]) rfl ⟨rfl, hb8'.out, hg8'.out⟩

set_option maxHeartbeats 1000000 in
theorem mStep_high (A : Option Addr) (n c : Nat) (r : Res) (vm vw : Value) (pc : Int) (b : Nat) (w : World) (hb : MBox w b (machL (.slice A n c) (resL r vm vw) pc)) (h16 : r.regs.length = 16) (hn : n ≤ 1000000) (h1 : 0 ≤ pc) (h2 : (n : Int) ≤ pc) :
    Calls Try.prog 23 #[.pointer (some ⟨b, 0, none⟩)] w fun e w' => e = .returned (.tuple #[]) ∧ MBox w' b (machL (.slice A n c) (resL (trapZ r 4 pc) vm vw) pc) ∧ w.grownBy w' (some b) := by
  have c0 := hb.cell (machL_0 (vc := .slice A n c) (L := resL r vm vw) (pc := pc))
  have c24 := hb.cell (machL_24 (vc := .slice A n c) (pc := pc) (resL_len (vm := vm) (vw := vw) h16))
  have q1 : decide (pc < 0) = false := decide_eq_false (by omega)
  have q2 : decide ((n : Int) ≤ pc) = true := decide_eq_true h2
  have hS : w.drew.cell? ⟨b, 24, none⟩ = some (.int .i64 pc) ∧ w.drew.cell? ⟨b, 0, none⟩ = some (.slice A n c) := ⟨c24, c0⟩
  have HBB := Lib.hid hb
  clear hb c0 c24 h1 h2
  go_enter Try.func23, Try.ntmps23
  go_wp2_with fail
  refine wp_region_lin [(0, true), (1, true), (2, true), (3, true), (4, true), (5, true), (6, true), (7, true), (8, true), (9, true), (10, true), (11, true), (12, true), (13, true), (14, true), (15, true), (16, true)]
    (by kernel_rfl) (by kernel_rfl) rfl (by kernel_rfl) (fun x => x.cell? ⟨b, 24, none⟩ = some (.int .i64 pc) ∧ x.cell? ⟨b, 0, none⟩ = some (.slice A n c)) ?_
  simp only [List.map_cons, List.map_nil, List.getElem?_toArray, List.getElem?_cons_succ, List.getElem?_cons_zero]
  iterate 6 (refine lin_take (v := ?_) hS (by rfl) ?_ ?_; rotate_left; (intro x hx; obtain ⟨x0, x1⟩ := hx; go_simp; try (with_reducible rfl)); (simp only [Act.put, List.setIfInBounds_toArray, List.set_cons_zero, List.set_cons_succ]))
  iterate 11 (refine lin_take (v := ?_) hS (by rfl) ?_ ?_; rotate_left; (intro x hx; obtain ⟨x0, x1⟩ := hx; go_simp; try (with_reducible rfl)); (simp only [Act.put, List.setIfInBounds_toArray, List.set_cons_zero, List.set_cons_succ]))
  refine lin_done ?_
  clear hS
  go_wp2_with fail
  refine (mTrap_any (.slice A n c) r vm vw pc 4 b _ HBB.out.drew h16).mono ?_; rintro e w8 ⟨rfl, hb8, hg8⟩
  have hb8' := Lib.hid hb8
  have hg8' := Lib.hid (show w.grownBy w8 (some b) from ⟨hg8.os, hg8.tape, hg8.output, hg8.size, hg8.block⟩)
  clear hb8 hg8
  go_wp2_with fail
  exact bodyPost_ret (v := .tuple #[]) (by simp [results, Try.results23]) rfl ⟨rfl, hb8'.out, hg8'.out⟩

set_option maxHeartbeats 1000000 in
theorem mStep_form1 (cb co n c k : Nat) (op imm : Int) (id ia ib : Nat) (l : List Ins) (r : Res) (vm vw : Value) (b : Nat) (w : World) (hb : MBox w b (machL (.slice (some ⟨cb, co, none⟩) n c) (resL r vm vw) k)) (B : Nat) (hBb : B ≤ b) (ho : ResOwn w B vm vw r) (hrow : Row w b 5 (.slice (some ⟨cb, co, none⟩) n c) n (codeCells l))
    (fr : ∀ x ∈ r.regs, 0 ≤ x ∧ x ≤ 4294967295) (hmb : ∀ x ∈ r.mem, 0 ≤ x ∧ x ≤ 255) (hm : r.mem.length ≤ 140737488355328) (hw : r.ws.length ≤ 1000000000000) (hn : n ≤ 2000) (hi : l[k]? = some ⟨op, (id : Int), (ia : Int), (ib : Int), imm⟩) (bd : id ≤ 15) (ba : ia ≤ 15) (bb : ib ≤ 15) (bi : -8192 ≤ imm ∧ imm ≤ 8191) (hform : formZ op = 1) :
    Calls Try.prog 23 #[.pointer (some ⟨b, 0, none⟩)] w fun e w' => e = .returned (.tuple #[]) ∧ MachTo w b B (.slice (some ⟨cb, co, none⟩) n c) (insZ r.mem.length r k ⟨op, (id : Int), (ia : Int), (ib : Int), imm⟩) w' := by
  have h16 := ho.regs
  have hll : l.length = n := by have := hrow.len; rw [codeCells_length] at this; omega
  have hkl : k < n := by have := (List.getElem?_eq_some_iff.1 hi).1; omega
  obtain ⟨y0, y1, y2, y3, y4⟩ := hrow.ins hi
  obtain ⟨hcap1, hcap2⟩ := hrow.cap
  obtain ⟨b', off', ee, hcb, _⟩ := hrow.at_ (by omega)
  simp only [Option.some.injEq, Addr.mk.injEq, and_true] at ee
  obtain ⟨rfl, rfl⟩ := ee
  have c0 := hb.cell (machL_0 (vc := (.slice (some ⟨cb, co, none⟩) n c)) (L := resL r vm vw) (pc := k))
  have c24 := hb.cell (machL_24 (vc := (.slice (some ⟨cb, co, none⟩) n c)) (pc := k) (resL_len (vm := vm) (vw := vw) h16))
  have q1 : decide ((k : Int) < 0) = false := decide_eq_false (by omega)
  have q2 : decide (n ≤ k) = false := decide_eq_false (by omega)
  have q3 : decide ((n : Int) ≤ (k : Int)) = false := decide_eq_false (by omega)
  have hk0 : (0 : Int) ≤ k := by omega
  have hk1 : (k : Int) < n := by omega
  have hS0 : w.cell? ⟨b, 24, none⟩ = some (.int .i64 (k : Int)) ∧ w.cell? ⟨b, 0, none⟩ = some (.slice (some ⟨cb, co, none⟩) n c) ∧ w.cell? ⟨cb, co + k * 5, none⟩ = some (.int .i64 op) ∧ w.cell? ⟨cb, co + k * 5 + 1, none⟩ = some (.int .i64 (id : Int)) ∧ w.cell? ⟨cb, co + k * 5 + 2, none⟩ = some (.int .i64 (ia : Int)) ∧ w.cell? ⟨cb, co + k * 5 + 3, none⟩ = some (.int .i64 (ib : Int)) ∧ w.cell? ⟨cb, co + k * 5 + 4, none⟩ = some (.int .i64 imm) := ⟨c24, c0, y0, y1, y2, y3, y4⟩
  have hS : w.drew.cell? ⟨b, 24, none⟩ = some (.int .i64 (k : Int)) ∧ w.drew.cell? ⟨b, 0, none⟩ = some (.slice (some ⟨cb, co, none⟩) n c) ∧ w.drew.cell? ⟨cb, co + k * 5, none⟩ = some (.int .i64 op) ∧ w.drew.cell? ⟨cb, co + k * 5 + 1, none⟩ = some (.int .i64 (id : Int)) ∧ w.drew.cell? ⟨cb, co + k * 5 + 2, none⟩ = some (.int .i64 (ia : Int)) ∧ w.drew.cell? ⟨cb, co + k * 5 + 3, none⟩ = some (.int .i64 (ib : Int)) ∧ w.drew.cell? ⟨cb, co + k * 5 + 4, none⟩ = some (.int .i64 imm) := hS0
  have hlt := hb.lt
  have HBB := Lib.hid hb
  have HBS := Lib.hid hBb
  have HO := Lib.hid ho
  have HFR := Lib.hid fr
  have HMB := Lib.hid hmb
  have HM := Lib.hid hm
  have HW := Lib.hid hw
  have HN := Lib.hid (show k ≤ 2000 by omega)
  have HFO := Lib.hid hform
  have HS0 := Lib.hid hS0
  obtain ⟨bi0, bi1⟩ := bi
  clear hBb hb ho fr hmb hm hw hform hi hrow c0 c24 y0 y1 y2 y3 y4 hll hS0 hn
  go_enter Try.func23, Try.ntmps23
  go_wp2_with fail
  refine wp_region_lin [(0, true), (1, true), (2, true), (3, true), (4, true), (5, true), (6, true), (7, true), (8, true), (9, true), (10, true), (11, true), (12, true), (13, true), (14, true), (15, true), (16, true)]
    (by kernel_rfl) (by kernel_rfl) rfl (by kernel_rfl) (fun x => x.cell? ⟨b, 24, none⟩ = some (.int .i64 (k : Int)) ∧ x.cell? ⟨b, 0, none⟩ = some (.slice (some ⟨cb, co, none⟩) n c) ∧ x.cell? ⟨cb, co + k * 5, none⟩ = some (.int .i64 op) ∧ x.cell? ⟨cb, co + k * 5 + 1, none⟩ = some (.int .i64 (id : Int)) ∧ x.cell? ⟨cb, co + k * 5 + 2, none⟩ = some (.int .i64 (ia : Int)) ∧ x.cell? ⟨cb, co + k * 5 + 3, none⟩ = some (.int .i64 (ib : Int)) ∧ x.cell? ⟨cb, co + k * 5 + 4, none⟩ = some (.int .i64 imm)) ?_
  simp only [List.map_cons, List.map_nil, List.getElem?_toArray, List.getElem?_cons_succ, List.getElem?_cons_zero]
  iterate 17 (refine lin_take (v := ?_) hS (by rfl) ?_ ?_; rotate_left; (intro x hx; obtain ⟨x0, x1, x2, x3, x4, x5, x6⟩ := hx; go_simp; try (with_reducible rfl)); (simp only [Act.put, List.setIfInBounds_toArray, List.set_cons_zero, List.set_cons_succ]))
  refine lin_done ?_
  clear hS
  have hS : w.drew.drew.cell? ⟨b, 24, none⟩ = some (.int .i64 (k : Int)) ∧ w.drew.drew.cell? ⟨b, 0, none⟩ = some (.slice (some ⟨cb, co, none⟩) n c) ∧ w.drew.drew.cell? ⟨cb, co + k * 5, none⟩ = some (.int .i64 op) ∧ w.drew.drew.cell? ⟨cb, co + k * 5 + 1, none⟩ = some (.int .i64 (id : Int)) ∧ w.drew.drew.cell? ⟨cb, co + k * 5 + 2, none⟩ = some (.int .i64 (ia : Int)) ∧ w.drew.drew.cell? ⟨cb, co + k * 5 + 3, none⟩ = some (.int .i64 (ib : Int)) ∧ w.drew.drew.cell? ⟨cb, co + k * 5 + 4, none⟩ = some (.int .i64 imm) := HS0.out
  go_wp2_with fail
  clear q1 q2 q3
  refine wp_region_lin [(0, true), (1, true), (2, true), (3, true), (4, true), (5, true), (6, true), (7, true), (8, true), (9, true), (10, false), (11, false)]
    (by kernel_rfl) (by kernel_rfl) rfl (by kernel_rfl) (fun x => x.cell? ⟨b, 24, none⟩ = some (.int .i64 (k : Int)) ∧ x.cell? ⟨b, 0, none⟩ = some (.slice (some ⟨cb, co, none⟩) n c) ∧ x.cell? ⟨cb, co + k * 5, none⟩ = some (.int .i64 op) ∧ x.cell? ⟨cb, co + k * 5 + 1, none⟩ = some (.int .i64 (id : Int)) ∧ x.cell? ⟨cb, co + k * 5 + 2, none⟩ = some (.int .i64 (ia : Int)) ∧ x.cell? ⟨cb, co + k * 5 + 3, none⟩ = some (.int .i64 (ib : Int)) ∧ x.cell? ⟨cb, co + k * 5 + 4, none⟩ = some (.int .i64 imm)) ?_
  simp only [List.map_cons, List.map_nil, List.getElem?_toArray, List.getElem?_cons_succ, List.getElem?_cons_zero]
  iterate 10 (refine lin_take (v := ?_) hS (by rfl) ?_ ?_; rotate_left; (intro x hx; obtain ⟨x0, x1, x2, x3, x4, x5, x6⟩ := hx; go_simp; try (with_reducible rfl)); (simp only [Act.put, List.setIfInBounds_toArray, List.set_cons_zero, List.set_cons_succ]))
  have hSa : (w.drew.drew.alloc (.cells #[.int .i64 op, .int .i64 (id : Int), .int .i64 (ia : Int), .int .i64 (ib : Int), .int .i64 imm] 44)).cell? ⟨b, 24, none⟩ = some (.int .i64 (k : Int)) ∧ (w.drew.drew.alloc (.cells #[.int .i64 op, .int .i64 (id : Int), .int .i64 (ia : Int), .int .i64 (ib : Int), .int .i64 imm] 44)).cell? ⟨b, 0, none⟩ = some (.slice (some ⟨cb, co, none⟩) n c) ∧ (w.drew.drew.alloc (.cells #[.int .i64 op, .int .i64 (id : Int), .int .i64 (ia : Int), .int .i64 (ib : Int), .int .i64 imm] 44)).cell? ⟨cb, co + k * 5, none⟩ = some (.int .i64 op) ∧ (w.drew.drew.alloc (.cells #[.int .i64 op, .int .i64 (id : Int), .int .i64 (ia : Int), .int .i64 (ib : Int), .int .i64 imm] 44)).cell? ⟨cb, co + k * 5 + 1, none⟩ = some (.int .i64 (id : Int)) ∧ (w.drew.drew.alloc (.cells #[.int .i64 op, .int .i64 (id : Int), .int .i64 (ia : Int), .int .i64 (ib : Int), .int .i64 imm] 44)).cell? ⟨cb, co + k * 5 + 2, none⟩ = some (.int .i64 (ia : Int)) ∧ (w.drew.drew.alloc (.cells #[.int .i64 op, .int .i64 (id : Int), .int .i64 (ia : Int), .int .i64 (ib : Int), .int .i64 imm] 44)).cell? ⟨cb, co + k * 5 + 3, none⟩ = some (.int .i64 (ib : Int)) ∧ (w.drew.drew.alloc (.cells #[.int .i64 op, .int .i64 (id : Int), .int .i64 (ia : Int), .int .i64 (ib : Int), .int .i64 imm] 44)).cell? ⟨cb, co + k * 5 + 4, none⟩ = some (.int .i64 imm) := by
    obtain ⟨x0, x1, x2, x3, x4, x5, x6⟩ := HS0.out
    have hcb' : cb < w.drew.drew.heap.size := Nat.lt_trans hcb hlt
    exact ⟨one_cell hlt x0, one_cell hlt x1, one_cell hcb' x2, one_cell hcb' x3, one_cell hcb' x4, one_cell hcb' x5, one_cell hcb' x6⟩
  have hSz : (w.drew.drew.alloc (.cells #[.int .i64 0, .int .i64 0, .int .i64 0, .int .i64 0, .int .i64 0] 44)).cell? ⟨b, 24, none⟩ = some (.int .i64 (k : Int)) ∧ (w.drew.drew.alloc (.cells #[.int .i64 0, .int .i64 0, .int .i64 0, .int .i64 0, .int .i64 0] 44)).cell? ⟨b, 0, none⟩ = some (.slice (some ⟨cb, co, none⟩) n c) ∧ (w.drew.drew.alloc (.cells #[.int .i64 0, .int .i64 0, .int .i64 0, .int .i64 0, .int .i64 0] 44)).cell? ⟨cb, co + k * 5, none⟩ = some (.int .i64 op) ∧ (w.drew.drew.alloc (.cells #[.int .i64 0, .int .i64 0, .int .i64 0, .int .i64 0, .int .i64 0] 44)).cell? ⟨cb, co + k * 5 + 1, none⟩ = some (.int .i64 (id : Int)) ∧ (w.drew.drew.alloc (.cells #[.int .i64 0, .int .i64 0, .int .i64 0, .int .i64 0, .int .i64 0] 44)).cell? ⟨cb, co + k * 5 + 2, none⟩ = some (.int .i64 (ia : Int)) ∧ (w.drew.drew.alloc (.cells #[.int .i64 0, .int .i64 0, .int .i64 0, .int .i64 0, .int .i64 0] 44)).cell? ⟨cb, co + k * 5 + 3, none⟩ = some (.int .i64 (ib : Int)) ∧ (w.drew.drew.alloc (.cells #[.int .i64 0, .int .i64 0, .int .i64 0, .int .i64 0, .int .i64 0] 44)).cell? ⟨cb, co + k * 5 + 4, none⟩ = some (.int .i64 imm) := by
    obtain ⟨x0, x1, x2, x3, x4, x5, x6⟩ := HS0.out
    have hcb' : cb < w.drew.drew.heap.size := Nat.lt_trans hcb hlt
    exact ⟨one_cell hlt x0, one_cell hlt x1, one_cell hcb' x2, one_cell hcb' x3, one_cell hcb' x4, one_cell hcb' x5, one_cell hcb' x6⟩
  refine lin_call hS (by rfl) (fun K hK => ?_)
  go_simp
  refine hK.out _ _ hSz (fun _ => ?_)
  clear hK K
  try simp only [Act.put, List.setIfInBounds_toArray, List.set_cons_zero, List.set_cons_succ]
  refine lin_call hSz (by rfl) (fun K hK => ?_)
  go_simp
  refine hK.out _ _ hSa (fun _ => ?_)
  clear hK K
  refine lin_done ?_
  clear hS hSz hSa hk0 hk1
  have HB2 : Hid (MBox (w.alloc (.cells #[.int .i64 op, .int .i64 (id : Int), .int .i64 (ia : Int), .int .i64 (ib : Int), .int .i64 imm] 44)).drew.drew b (machL (.slice (some ⟨cb, co, none⟩) n c) (resL r vm vw) k)) := HBB.out.alloc (.cells #[.int .i64 op, .int .i64 (id : Int), .int .i64 (ia : Int), .int .i64 (ib : Int), .int .i64 imm] 44)
  have HG2 : Hid (w.grownBy (w.alloc (.cells #[.int .i64 op, .int .i64 (id : Int), .int .i64 (ia : Int), .int .i64 (ib : Int), .int .i64 imm] 44)).drew.drew (some b)) := ⟨rfl, rfl, rfl, by simp, fun k hk _ => heap_alloc_old w _ hk⟩
  have HO2 := Lib.hid (HO.out.grownM HBB.out HG2.out)
  have HL2 := Lib.hid (show Below B w (w.alloc (.cells #[.int .i64 op, .int .i64 (id : Int), .int .i64 (ia : Int), .int .i64 (ib : Int), .int .i64 imm] 44)).drew.drew from Below.grown (Below.refl _ _) HG2.out (by have := HBS.out; omega) (fun k hk => by injection hk with hk; have := HBS.out; omega))
  have i0 : (w.alloc (.cells #[.int .i64 op, .int .i64 (id : Int), .int .i64 (ia : Int), .int .i64 (ib : Int), .int .i64 imm] 44)).drew.drew.cell? ⟨w.heap.size, 0, none⟩ = some (.int .i64 op) := by go_simp
  have i1 : (w.alloc (.cells #[.int .i64 op, .int .i64 (id : Int), .int .i64 (ia : Int), .int .i64 (ib : Int), .int .i64 imm] 44)).drew.drew.cell? ⟨w.heap.size, 1, none⟩ = some (.int .i64 (id : Int)) := by go_simp
  have i2 : (w.alloc (.cells #[.int .i64 op, .int .i64 (id : Int), .int .i64 (ia : Int), .int .i64 (ib : Int), .int .i64 imm] 44)).drew.drew.cell? ⟨w.heap.size, 2, none⟩ = some (.int .i64 (ia : Int)) := by go_simp
  have i3 : (w.alloc (.cells #[.int .i64 op, .int .i64 (id : Int), .int .i64 (ia : Int), .int .i64 (ib : Int), .int .i64 imm] 44)).drew.drew.cell? ⟨w.heap.size, 3, none⟩ = some (.int .i64 (ib : Int)) := by go_simp
  have i4 : (w.alloc (.cells #[.int .i64 op, .int .i64 (id : Int), .int .i64 (ia : Int), .int .i64 (ib : Int), .int .i64 imm] 44)).drew.drew.cell? ⟨w.heap.size, 4, none⟩ = some (.int .i64 imm) := by go_simp
  generalize (w.alloc (.cells #[.int .i64 op, .int .i64 (id : Int), .int .i64 (ia : Int), .int .i64 (ib : Int), .int .i64 imm] 44)).drew.drew = w2 at *
  clear HO HBB HG2 HS0
  skip
  skip
  go_wp2_with fail
  refine (form_any _ _).mono ?_; rintro e w7 ⟨rfl, rfl⟩
  rw [HFO.out]
  go_wp2_with fail
  refine (mReckon_any (.slice (some ⟨cb, co, none⟩) n c) r vm vw k op imm id ia ib b _ HB2.out B HBS.out HO2.out HFR.out HMB.out HM.out HW.out bd ba bb (And.intro bi0 bi1) (by have := HN.out; omega) (.inl HFO.out)).mono ?_; rintro e w8 ⟨rfl, vm', vw', hb8, ho8, hl8⟩
  have HM8 := Lib.hid (show MachTo w b B (.slice (some ⟨cb, co, none⟩) n c) (insZ r.mem.length r k ⟨op, (id : Int), (ia : Int), (ib : Int), imm⟩) w8 from ⟨vm', vw', hb8, ho8, HL2.out.trans hl8⟩)
  clear hb8 ho8 hl8
  go_wp2_with fail
  exact bodyPost_end (v := .tuple #[]) (by simp [results, Try.results23]) rfl ⟨rfl, HM8.out⟩

set_option maxHeartbeats 1000000 in
theorem mStep_form2 (cb co n c k : Nat) (op imm : Int) (id ia ib : Nat) (l : List Ins) (r : Res) (vm vw : Value) (b : Nat) (w : World) (hb : MBox w b (machL (.slice (some ⟨cb, co, none⟩) n c) (resL r vm vw) k)) (B : Nat) (hBb : B ≤ b) (ho : ResOwn w B vm vw r) (hrow : Row w b 5 (.slice (some ⟨cb, co, none⟩) n c) n (codeCells l))
    (fr : ∀ x ∈ r.regs, 0 ≤ x ∧ x ≤ 4294967295) (hmb : ∀ x ∈ r.mem, 0 ≤ x ∧ x ≤ 255) (hm : r.mem.length ≤ 140737488355328) (hw : r.ws.length ≤ 1000000000000) (hn : n ≤ 2000) (hi : l[k]? = some ⟨op, (id : Int), (ia : Int), (ib : Int), imm⟩) (bd : id ≤ 15) (ba : ia ≤ 15) (bb : ib ≤ 15) (bi : -8192 ≤ imm ∧ imm ≤ 8191) (hform : formZ op = 2) :
    Calls Try.prog 23 #[.pointer (some ⟨b, 0, none⟩)] w fun e w' => e = .returned (.tuple #[]) ∧ MachTo w b B (.slice (some ⟨cb, co, none⟩) n c) (insZ r.mem.length r k ⟨op, (id : Int), (ia : Int), (ib : Int), imm⟩) w' := by
  have h16 := ho.regs
  have hll : l.length = n := by have := hrow.len; rw [codeCells_length] at this; omega
  have hkl : k < n := by have := (List.getElem?_eq_some_iff.1 hi).1; omega
  obtain ⟨y0, y1, y2, y3, y4⟩ := hrow.ins hi
  obtain ⟨hcap1, hcap2⟩ := hrow.cap
  obtain ⟨b', off', ee, hcb, _⟩ := hrow.at_ (by omega)
  simp only [Option.some.injEq, Addr.mk.injEq, and_true] at ee
  obtain ⟨rfl, rfl⟩ := ee
  have c0 := hb.cell (machL_0 (vc := (.slice (some ⟨cb, co, none⟩) n c)) (L := resL r vm vw) (pc := k))
  have c24 := hb.cell (machL_24 (vc := (.slice (some ⟨cb, co, none⟩) n c)) (pc := k) (resL_len (vm := vm) (vw := vw) h16))
  have q1 : decide ((k : Int) < 0) = false := decide_eq_false (by omega)
  have q2 : decide (n ≤ k) = false := decide_eq_false (by omega)
  have q3 : decide ((n : Int) ≤ (k : Int)) = false := decide_eq_false (by omega)
  have hk0 : (0 : Int) ≤ k := by omega
  have hk1 : (k : Int) < n := by omega
  have hS0 : w.cell? ⟨b, 24, none⟩ = some (.int .i64 (k : Int)) ∧ w.cell? ⟨b, 0, none⟩ = some (.slice (some ⟨cb, co, none⟩) n c) ∧ w.cell? ⟨cb, co + k * 5, none⟩ = some (.int .i64 op) ∧ w.cell? ⟨cb, co + k * 5 + 1, none⟩ = some (.int .i64 (id : Int)) ∧ w.cell? ⟨cb, co + k * 5 + 2, none⟩ = some (.int .i64 (ia : Int)) ∧ w.cell? ⟨cb, co + k * 5 + 3, none⟩ = some (.int .i64 (ib : Int)) ∧ w.cell? ⟨cb, co + k * 5 + 4, none⟩ = some (.int .i64 imm) := ⟨c24, c0, y0, y1, y2, y3, y4⟩
  have hS : w.drew.cell? ⟨b, 24, none⟩ = some (.int .i64 (k : Int)) ∧ w.drew.cell? ⟨b, 0, none⟩ = some (.slice (some ⟨cb, co, none⟩) n c) ∧ w.drew.cell? ⟨cb, co + k * 5, none⟩ = some (.int .i64 op) ∧ w.drew.cell? ⟨cb, co + k * 5 + 1, none⟩ = some (.int .i64 (id : Int)) ∧ w.drew.cell? ⟨cb, co + k * 5 + 2, none⟩ = some (.int .i64 (ia : Int)) ∧ w.drew.cell? ⟨cb, co + k * 5 + 3, none⟩ = some (.int .i64 (ib : Int)) ∧ w.drew.cell? ⟨cb, co + k * 5 + 4, none⟩ = some (.int .i64 imm) := hS0
  have hlt := hb.lt
  have HBB := Lib.hid hb
  have HBS := Lib.hid hBb
  have HO := Lib.hid ho
  have HFR := Lib.hid fr
  have HMB := Lib.hid hmb
  have HM := Lib.hid hm
  have HW := Lib.hid hw
  have HN := Lib.hid (show k ≤ 2000 by omega)
  have HFO := Lib.hid hform
  have HS0 := Lib.hid hS0
  obtain ⟨bi0, bi1⟩ := bi
  clear hBb hb ho fr hmb hm hw hform hi hrow c0 c24 y0 y1 y2 y3 y4 hll hS0 hn
  go_enter Try.func23, Try.ntmps23
  go_wp2_with fail
  refine wp_region_lin [(0, true), (1, true), (2, true), (3, true), (4, true), (5, true), (6, true), (7, true), (8, true), (9, true), (10, true), (11, true), (12, true), (13, true), (14, true), (15, true), (16, true)]
    (by kernel_rfl) (by kernel_rfl) rfl (by kernel_rfl) (fun x => x.cell? ⟨b, 24, none⟩ = some (.int .i64 (k : Int)) ∧ x.cell? ⟨b, 0, none⟩ = some (.slice (some ⟨cb, co, none⟩) n c) ∧ x.cell? ⟨cb, co + k * 5, none⟩ = some (.int .i64 op) ∧ x.cell? ⟨cb, co + k * 5 + 1, none⟩ = some (.int .i64 (id : Int)) ∧ x.cell? ⟨cb, co + k * 5 + 2, none⟩ = some (.int .i64 (ia : Int)) ∧ x.cell? ⟨cb, co + k * 5 + 3, none⟩ = some (.int .i64 (ib : Int)) ∧ x.cell? ⟨cb, co + k * 5 + 4, none⟩ = some (.int .i64 imm)) ?_
  simp only [List.map_cons, List.map_nil, List.getElem?_toArray, List.getElem?_cons_succ, List.getElem?_cons_zero]
  iterate 17 (refine lin_take (v := ?_) hS (by rfl) ?_ ?_; rotate_left; (intro x hx; obtain ⟨x0, x1, x2, x3, x4, x5, x6⟩ := hx; go_simp; try (with_reducible rfl)); (simp only [Act.put, List.setIfInBounds_toArray, List.set_cons_zero, List.set_cons_succ]))
  refine lin_done ?_
  clear hS
  have hS : w.drew.drew.cell? ⟨b, 24, none⟩ = some (.int .i64 (k : Int)) ∧ w.drew.drew.cell? ⟨b, 0, none⟩ = some (.slice (some ⟨cb, co, none⟩) n c) ∧ w.drew.drew.cell? ⟨cb, co + k * 5, none⟩ = some (.int .i64 op) ∧ w.drew.drew.cell? ⟨cb, co + k * 5 + 1, none⟩ = some (.int .i64 (id : Int)) ∧ w.drew.drew.cell? ⟨cb, co + k * 5 + 2, none⟩ = some (.int .i64 (ia : Int)) ∧ w.drew.drew.cell? ⟨cb, co + k * 5 + 3, none⟩ = some (.int .i64 (ib : Int)) ∧ w.drew.drew.cell? ⟨cb, co + k * 5 + 4, none⟩ = some (.int .i64 imm) := HS0.out
  go_wp2_with fail
  clear q1 q2 q3
  refine wp_region_lin [(0, true), (1, true), (2, true), (3, true), (4, true), (5, true), (6, true), (7, true), (8, true), (9, true), (10, false), (11, false)]
    (by kernel_rfl) (by kernel_rfl) rfl (by kernel_rfl) (fun x => x.cell? ⟨b, 24, none⟩ = some (.int .i64 (k : Int)) ∧ x.cell? ⟨b, 0, none⟩ = some (.slice (some ⟨cb, co, none⟩) n c) ∧ x.cell? ⟨cb, co + k * 5, none⟩ = some (.int .i64 op) ∧ x.cell? ⟨cb, co + k * 5 + 1, none⟩ = some (.int .i64 (id : Int)) ∧ x.cell? ⟨cb, co + k * 5 + 2, none⟩ = some (.int .i64 (ia : Int)) ∧ x.cell? ⟨cb, co + k * 5 + 3, none⟩ = some (.int .i64 (ib : Int)) ∧ x.cell? ⟨cb, co + k * 5 + 4, none⟩ = some (.int .i64 imm)) ?_
  simp only [List.map_cons, List.map_nil, List.getElem?_toArray, List.getElem?_cons_succ, List.getElem?_cons_zero]
  iterate 10 (refine lin_take (v := ?_) hS (by rfl) ?_ ?_; rotate_left; (intro x hx; obtain ⟨x0, x1, x2, x3, x4, x5, x6⟩ := hx; go_simp; try (with_reducible rfl)); (simp only [Act.put, List.setIfInBounds_toArray, List.set_cons_zero, List.set_cons_succ]))
  have hSa : (w.drew.drew.alloc (.cells #[.int .i64 op, .int .i64 (id : Int), .int .i64 (ia : Int), .int .i64 (ib : Int), .int .i64 imm] 44)).cell? ⟨b, 24, none⟩ = some (.int .i64 (k : Int)) ∧ (w.drew.drew.alloc (.cells #[.int .i64 op, .int .i64 (id : Int), .int .i64 (ia : Int), .int .i64 (ib : Int), .int .i64 imm] 44)).cell? ⟨b, 0, none⟩ = some (.slice (some ⟨cb, co, none⟩) n c) ∧ (w.drew.drew.alloc (.cells #[.int .i64 op, .int .i64 (id : Int), .int .i64 (ia : Int), .int .i64 (ib : Int), .int .i64 imm] 44)).cell? ⟨cb, co + k * 5, none⟩ = some (.int .i64 op) ∧ (w.drew.drew.alloc (.cells #[.int .i64 op, .int .i64 (id : Int), .int .i64 (ia : Int), .int .i64 (ib : Int), .int .i64 imm] 44)).cell? ⟨cb, co + k * 5 + 1, none⟩ = some (.int .i64 (id : Int)) ∧ (w.drew.drew.alloc (.cells #[.int .i64 op, .int .i64 (id : Int), .int .i64 (ia : Int), .int .i64 (ib : Int), .int .i64 imm] 44)).cell? ⟨cb, co + k * 5 + 2, none⟩ = some (.int .i64 (ia : Int)) ∧ (w.drew.drew.alloc (.cells #[.int .i64 op, .int .i64 (id : Int), .int .i64 (ia : Int), .int .i64 (ib : Int), .int .i64 imm] 44)).cell? ⟨cb, co + k * 5 + 3, none⟩ = some (.int .i64 (ib : Int)) ∧ (w.drew.drew.alloc (.cells #[.int .i64 op, .int .i64 (id : Int), .int .i64 (ia : Int), .int .i64 (ib : Int), .int .i64 imm] 44)).cell? ⟨cb, co + k * 5 + 4, none⟩ = some (.int .i64 imm) := by
    obtain ⟨x0, x1, x2, x3, x4, x5, x6⟩ := HS0.out
    have hcb' : cb < w.drew.drew.heap.size := Nat.lt_trans hcb hlt
    exact ⟨one_cell hlt x0, one_cell hlt x1, one_cell hcb' x2, one_cell hcb' x3, one_cell hcb' x4, one_cell hcb' x5, one_cell hcb' x6⟩
  have hSz : (w.drew.drew.alloc (.cells #[.int .i64 0, .int .i64 0, .int .i64 0, .int .i64 0, .int .i64 0] 44)).cell? ⟨b, 24, none⟩ = some (.int .i64 (k : Int)) ∧ (w.drew.drew.alloc (.cells #[.int .i64 0, .int .i64 0, .int .i64 0, .int .i64 0, .int .i64 0] 44)).cell? ⟨b, 0, none⟩ = some (.slice (some ⟨cb, co, none⟩) n c) ∧ (w.drew.drew.alloc (.cells #[.int .i64 0, .int .i64 0, .int .i64 0, .int .i64 0, .int .i64 0] 44)).cell? ⟨cb, co + k * 5, none⟩ = some (.int .i64 op) ∧ (w.drew.drew.alloc (.cells #[.int .i64 0, .int .i64 0, .int .i64 0, .int .i64 0, .int .i64 0] 44)).cell? ⟨cb, co + k * 5 + 1, none⟩ = some (.int .i64 (id : Int)) ∧ (w.drew.drew.alloc (.cells #[.int .i64 0, .int .i64 0, .int .i64 0, .int .i64 0, .int .i64 0] 44)).cell? ⟨cb, co + k * 5 + 2, none⟩ = some (.int .i64 (ia : Int)) ∧ (w.drew.drew.alloc (.cells #[.int .i64 0, .int .i64 0, .int .i64 0, .int .i64 0, .int .i64 0] 44)).cell? ⟨cb, co + k * 5 + 3, none⟩ = some (.int .i64 (ib : Int)) ∧ (w.drew.drew.alloc (.cells #[.int .i64 0, .int .i64 0, .int .i64 0, .int .i64 0, .int .i64 0] 44)).cell? ⟨cb, co + k * 5 + 4, none⟩ = some (.int .i64 imm) := by
    obtain ⟨x0, x1, x2, x3, x4, x5, x6⟩ := HS0.out
    have hcb' : cb < w.drew.drew.heap.size := Nat.lt_trans hcb hlt
    exact ⟨one_cell hlt x0, one_cell hlt x1, one_cell hcb' x2, one_cell hcb' x3, one_cell hcb' x4, one_cell hcb' x5, one_cell hcb' x6⟩
  refine lin_call hS (by rfl) (fun K hK => ?_)
  go_simp
  refine hK.out _ _ hSz (fun _ => ?_)
  clear hK K
  try simp only [Act.put, List.setIfInBounds_toArray, List.set_cons_zero, List.set_cons_succ]
  refine lin_call hSz (by rfl) (fun K hK => ?_)
  go_simp
  refine hK.out _ _ hSa (fun _ => ?_)
  clear hK K
  refine lin_done ?_
  clear hS hSz hSa hk0 hk1
  have HB2 : Hid (MBox (w.alloc (.cells #[.int .i64 op, .int .i64 (id : Int), .int .i64 (ia : Int), .int .i64 (ib : Int), .int .i64 imm] 44)).drew.drew b (machL (.slice (some ⟨cb, co, none⟩) n c) (resL r vm vw) k)) := HBB.out.alloc (.cells #[.int .i64 op, .int .i64 (id : Int), .int .i64 (ia : Int), .int .i64 (ib : Int), .int .i64 imm] 44)
  have HG2 : Hid (w.grownBy (w.alloc (.cells #[.int .i64 op, .int .i64 (id : Int), .int .i64 (ia : Int), .int .i64 (ib : Int), .int .i64 imm] 44)).drew.drew (some b)) := ⟨rfl, rfl, rfl, by simp, fun k hk _ => heap_alloc_old w _ hk⟩
  have HO2 := Lib.hid (HO.out.grownM HBB.out HG2.out)
  have HL2 := Lib.hid (show Below B w (w.alloc (.cells #[.int .i64 op, .int .i64 (id : Int), .int .i64 (ia : Int), .int .i64 (ib : Int), .int .i64 imm] 44)).drew.drew from Below.grown (Below.refl _ _) HG2.out (by have := HBS.out; omega) (fun k hk => by injection hk with hk; have := HBS.out; omega))
  have i0 : (w.alloc (.cells #[.int .i64 op, .int .i64 (id : Int), .int .i64 (ia : Int), .int .i64 (ib : Int), .int .i64 imm] 44)).drew.drew.cell? ⟨w.heap.size, 0, none⟩ = some (.int .i64 op) := by go_simp
  have i1 : (w.alloc (.cells #[.int .i64 op, .int .i64 (id : Int), .int .i64 (ia : Int), .int .i64 (ib : Int), .int .i64 imm] 44)).drew.drew.cell? ⟨w.heap.size, 1, none⟩ = some (.int .i64 (id : Int)) := by go_simp
  have i2 : (w.alloc (.cells #[.int .i64 op, .int .i64 (id : Int), .int .i64 (ia : Int), .int .i64 (ib : Int), .int .i64 imm] 44)).drew.drew.cell? ⟨w.heap.size, 2, none⟩ = some (.int .i64 (ia : Int)) := by go_simp
  have i3 : (w.alloc (.cells #[.int .i64 op, .int .i64 (id : Int), .int .i64 (ia : Int), .int .i64 (ib : Int), .int .i64 imm] 44)).drew.drew.cell? ⟨w.heap.size, 3, none⟩ = some (.int .i64 (ib : Int)) := by go_simp
  have i4 : (w.alloc (.cells #[.int .i64 op, .int .i64 (id : Int), .int .i64 (ia : Int), .int .i64 (ib : Int), .int .i64 imm] 44)).drew.drew.cell? ⟨w.heap.size, 4, none⟩ = some (.int .i64 imm) := by go_simp
  generalize (w.alloc (.cells #[.int .i64 op, .int .i64 (id : Int), .int .i64 (ia : Int), .int .i64 (ib : Int), .int .i64 imm] 44)).drew.drew = w2 at *
  clear HO HBB HG2 HS0
  skip
  skip
  go_wp2_with fail
  refine (form_any _ _).mono ?_; rintro e w7 ⟨rfl, rfl⟩
  rw [HFO.out]
  go_wp2_with fail
  refine (mReckon_any (.slice (some ⟨cb, co, none⟩) n c) r vm vw k op imm id ia ib b _ HB2.out B HBS.out HO2.out HFR.out HMB.out HM.out HW.out bd ba bb (And.intro bi0 bi1) (by have := HN.out; omega) (.inr (.inl HFO.out))).mono ?_; rintro e w8 ⟨rfl, vm', vw', hb8, ho8, hl8⟩
  have HM8 := Lib.hid (show MachTo w b B (.slice (some ⟨cb, co, none⟩) n c) (insZ r.mem.length r k ⟨op, (id : Int), (ia : Int), (ib : Int), imm⟩) w8 from ⟨vm', vw', hb8, ho8, HL2.out.trans hl8⟩)
  clear hb8 ho8 hl8
  go_wp2_with fail
  exact bodyPost_end (v := .tuple #[]) (by simp [results, Try.results23]) rfl ⟨rfl, HM8.out⟩

set_option maxHeartbeats 1000000 in
theorem mStep_form3 (cb co n c k : Nat) (op imm : Int) (id ia ib : Nat) (l : List Ins) (r : Res) (vm vw : Value) (b : Nat) (w : World) (hb : MBox w b (machL (.slice (some ⟨cb, co, none⟩) n c) (resL r vm vw) k)) (B : Nat) (hBb : B ≤ b) (ho : ResOwn w B vm vw r) (hrow : Row w b 5 (.slice (some ⟨cb, co, none⟩) n c) n (codeCells l))
    (fr : ∀ x ∈ r.regs, 0 ≤ x ∧ x ≤ 4294967295) (hmb : ∀ x ∈ r.mem, 0 ≤ x ∧ x ≤ 255) (hm : r.mem.length ≤ 140737488355328) (hw : r.ws.length ≤ 1000000000000) (hn : n ≤ 2000) (hi : l[k]? = some ⟨op, (id : Int), (ia : Int), (ib : Int), imm⟩) (bd : id ≤ 15) (ba : ia ≤ 15) (bb : ib ≤ 15) (bi : -8192 ≤ imm ∧ imm ≤ 8191) (hform : formZ op = 3) :
    Calls Try.prog 23 #[.pointer (some ⟨b, 0, none⟩)] w fun e w' => e = .returned (.tuple #[]) ∧ MachTo w b B (.slice (some ⟨cb, co, none⟩) n c) (insZ r.mem.length r k ⟨op, (id : Int), (ia : Int), (ib : Int), imm⟩) w' := by
  have h16 := ho.regs
  have hll : l.length = n := by have := hrow.len; rw [codeCells_length] at this; omega
  have hkl : k < n := by have := (List.getElem?_eq_some_iff.1 hi).1; omega
  obtain ⟨y0, y1, y2, y3, y4⟩ := hrow.ins hi
  obtain ⟨hcap1, hcap2⟩ := hrow.cap
  obtain ⟨b', off', ee, hcb, _⟩ := hrow.at_ (by omega)
  simp only [Option.some.injEq, Addr.mk.injEq, and_true] at ee
  obtain ⟨rfl, rfl⟩ := ee
  have c0 := hb.cell (machL_0 (vc := (.slice (some ⟨cb, co, none⟩) n c)) (L := resL r vm vw) (pc := k))
  have c24 := hb.cell (machL_24 (vc := (.slice (some ⟨cb, co, none⟩) n c)) (pc := k) (resL_len (vm := vm) (vw := vw) h16))
  have q1 : decide ((k : Int) < 0) = false := decide_eq_false (by omega)
  have q2 : decide (n ≤ k) = false := decide_eq_false (by omega)
  have q3 : decide ((n : Int) ≤ (k : Int)) = false := decide_eq_false (by omega)
  have hk0 : (0 : Int) ≤ k := by omega
  have hk1 : (k : Int) < n := by omega
  have hS0 : w.cell? ⟨b, 24, none⟩ = some (.int .i64 (k : Int)) ∧ w.cell? ⟨b, 0, none⟩ = some (.slice (some ⟨cb, co, none⟩) n c) ∧ w.cell? ⟨cb, co + k * 5, none⟩ = some (.int .i64 op) ∧ w.cell? ⟨cb, co + k * 5 + 1, none⟩ = some (.int .i64 (id : Int)) ∧ w.cell? ⟨cb, co + k * 5 + 2, none⟩ = some (.int .i64 (ia : Int)) ∧ w.cell? ⟨cb, co + k * 5 + 3, none⟩ = some (.int .i64 (ib : Int)) ∧ w.cell? ⟨cb, co + k * 5 + 4, none⟩ = some (.int .i64 imm) := ⟨c24, c0, y0, y1, y2, y3, y4⟩
  have hS : w.drew.cell? ⟨b, 24, none⟩ = some (.int .i64 (k : Int)) ∧ w.drew.cell? ⟨b, 0, none⟩ = some (.slice (some ⟨cb, co, none⟩) n c) ∧ w.drew.cell? ⟨cb, co + k * 5, none⟩ = some (.int .i64 op) ∧ w.drew.cell? ⟨cb, co + k * 5 + 1, none⟩ = some (.int .i64 (id : Int)) ∧ w.drew.cell? ⟨cb, co + k * 5 + 2, none⟩ = some (.int .i64 (ia : Int)) ∧ w.drew.cell? ⟨cb, co + k * 5 + 3, none⟩ = some (.int .i64 (ib : Int)) ∧ w.drew.cell? ⟨cb, co + k * 5 + 4, none⟩ = some (.int .i64 imm) := hS0
  have hlt := hb.lt
  have HBB := Lib.hid hb
  have HBS := Lib.hid hBb
  have HO := Lib.hid ho
  have HFR := Lib.hid fr
  have HMB := Lib.hid hmb
  have HM := Lib.hid hm
  have HW := Lib.hid hw
  have HN := Lib.hid (show k ≤ 2000 by omega)
  have HFO := Lib.hid hform
  have HS0 := Lib.hid hS0
  obtain ⟨bi0, bi1⟩ := bi
  clear hBb hb ho fr hmb hm hw hform hi hrow c0 c24 y0 y1 y2 y3 y4 hll hS0 hn
  go_enter Try.func23, Try.ntmps23
  go_wp2_with fail
  refine wp_region_lin [(0, true), (1, true), (2, true), (3, true), (4, true), (5, true), (6, true), (7, true), (8, true), (9, true), (10, true), (11, true), (12, true), (13, true), (14, true), (15, true), (16, true)]
    (by kernel_rfl) (by kernel_rfl) rfl (by kernel_rfl) (fun x => x.cell? ⟨b, 24, none⟩ = some (.int .i64 (k : Int)) ∧ x.cell? ⟨b, 0, none⟩ = some (.slice (some ⟨cb, co, none⟩) n c) ∧ x.cell? ⟨cb, co + k * 5, none⟩ = some (.int .i64 op) ∧ x.cell? ⟨cb, co + k * 5 + 1, none⟩ = some (.int .i64 (id : Int)) ∧ x.cell? ⟨cb, co + k * 5 + 2, none⟩ = some (.int .i64 (ia : Int)) ∧ x.cell? ⟨cb, co + k * 5 + 3, none⟩ = some (.int .i64 (ib : Int)) ∧ x.cell? ⟨cb, co + k * 5 + 4, none⟩ = some (.int .i64 imm)) ?_
  simp only [List.map_cons, List.map_nil, List.getElem?_toArray, List.getElem?_cons_succ, List.getElem?_cons_zero]
  iterate 17 (refine lin_take (v := ?_) hS (by rfl) ?_ ?_; rotate_left; (intro x hx; obtain ⟨x0, x1, x2, x3, x4, x5, x6⟩ := hx; go_simp; try (with_reducible rfl)); (simp only [Act.put, List.setIfInBounds_toArray, List.set_cons_zero, List.set_cons_succ]))
  refine lin_done ?_
  clear hS
  have hS : w.drew.drew.cell? ⟨b, 24, none⟩ = some (.int .i64 (k : Int)) ∧ w.drew.drew.cell? ⟨b, 0, none⟩ = some (.slice (some ⟨cb, co, none⟩) n c) ∧ w.drew.drew.cell? ⟨cb, co + k * 5, none⟩ = some (.int .i64 op) ∧ w.drew.drew.cell? ⟨cb, co + k * 5 + 1, none⟩ = some (.int .i64 (id : Int)) ∧ w.drew.drew.cell? ⟨cb, co + k * 5 + 2, none⟩ = some (.int .i64 (ia : Int)) ∧ w.drew.drew.cell? ⟨cb, co + k * 5 + 3, none⟩ = some (.int .i64 (ib : Int)) ∧ w.drew.drew.cell? ⟨cb, co + k * 5 + 4, none⟩ = some (.int .i64 imm) := HS0.out
  go_wp2_with fail
  clear q1 q2 q3
  refine wp_region_lin [(0, true), (1, true), (2, true), (3, true), (4, true), (5, true), (6, true), (7, true), (8, true), (9, true), (10, false), (11, false)]
    (by kernel_rfl) (by kernel_rfl) rfl (by kernel_rfl) (fun x => x.cell? ⟨b, 24, none⟩ = some (.int .i64 (k : Int)) ∧ x.cell? ⟨b, 0, none⟩ = some (.slice (some ⟨cb, co, none⟩) n c) ∧ x.cell? ⟨cb, co + k * 5, none⟩ = some (.int .i64 op) ∧ x.cell? ⟨cb, co + k * 5 + 1, none⟩ = some (.int .i64 (id : Int)) ∧ x.cell? ⟨cb, co + k * 5 + 2, none⟩ = some (.int .i64 (ia : Int)) ∧ x.cell? ⟨cb, co + k * 5 + 3, none⟩ = some (.int .i64 (ib : Int)) ∧ x.cell? ⟨cb, co + k * 5 + 4, none⟩ = some (.int .i64 imm)) ?_
  simp only [List.map_cons, List.map_nil, List.getElem?_toArray, List.getElem?_cons_succ, List.getElem?_cons_zero]
  iterate 10 (refine lin_take (v := ?_) hS (by rfl) ?_ ?_; rotate_left; (intro x hx; obtain ⟨x0, x1, x2, x3, x4, x5, x6⟩ := hx; go_simp; try (with_reducible rfl)); (simp only [Act.put, List.setIfInBounds_toArray, List.set_cons_zero, List.set_cons_succ]))
  have hSa : (w.drew.drew.alloc (.cells #[.int .i64 op, .int .i64 (id : Int), .int .i64 (ia : Int), .int .i64 (ib : Int), .int .i64 imm] 44)).cell? ⟨b, 24, none⟩ = some (.int .i64 (k : Int)) ∧ (w.drew.drew.alloc (.cells #[.int .i64 op, .int .i64 (id : Int), .int .i64 (ia : Int), .int .i64 (ib : Int), .int .i64 imm] 44)).cell? ⟨b, 0, none⟩ = some (.slice (some ⟨cb, co, none⟩) n c) ∧ (w.drew.drew.alloc (.cells #[.int .i64 op, .int .i64 (id : Int), .int .i64 (ia : Int), .int .i64 (ib : Int), .int .i64 imm] 44)).cell? ⟨cb, co + k * 5, none⟩ = some (.int .i64 op) ∧ (w.drew.drew.alloc (.cells #[.int .i64 op, .int .i64 (id : Int), .int .i64 (ia : Int), .int .i64 (ib : Int), .int .i64 imm] 44)).cell? ⟨cb, co + k * 5 + 1, none⟩ = some (.int .i64 (id : Int)) ∧ (w.drew.drew.alloc (.cells #[.int .i64 op, .int .i64 (id : Int), .int .i64 (ia : Int), .int .i64 (ib : Int), .int .i64 imm] 44)).cell? ⟨cb, co + k * 5 + 2, none⟩ = some (.int .i64 (ia : Int)) ∧ (w.drew.drew.alloc (.cells #[.int .i64 op, .int .i64 (id : Int), .int .i64 (ia : Int), .int .i64 (ib : Int), .int .i64 imm] 44)).cell? ⟨cb, co + k * 5 + 3, none⟩ = some (.int .i64 (ib : Int)) ∧ (w.drew.drew.alloc (.cells #[.int .i64 op, .int .i64 (id : Int), .int .i64 (ia : Int), .int .i64 (ib : Int), .int .i64 imm] 44)).cell? ⟨cb, co + k * 5 + 4, none⟩ = some (.int .i64 imm) := by
    obtain ⟨x0, x1, x2, x3, x4, x5, x6⟩ := HS0.out
    have hcb' : cb < w.drew.drew.heap.size := Nat.lt_trans hcb hlt
    exact ⟨one_cell hlt x0, one_cell hlt x1, one_cell hcb' x2, one_cell hcb' x3, one_cell hcb' x4, one_cell hcb' x5, one_cell hcb' x6⟩
  have hSz : (w.drew.drew.alloc (.cells #[.int .i64 0, .int .i64 0, .int .i64 0, .int .i64 0, .int .i64 0] 44)).cell? ⟨b, 24, none⟩ = some (.int .i64 (k : Int)) ∧ (w.drew.drew.alloc (.cells #[.int .i64 0, .int .i64 0, .int .i64 0, .int .i64 0, .int .i64 0] 44)).cell? ⟨b, 0, none⟩ = some (.slice (some ⟨cb, co, none⟩) n c) ∧ (w.drew.drew.alloc (.cells #[.int .i64 0, .int .i64 0, .int .i64 0, .int .i64 0, .int .i64 0] 44)).cell? ⟨cb, co + k * 5, none⟩ = some (.int .i64 op) ∧ (w.drew.drew.alloc (.cells #[.int .i64 0, .int .i64 0, .int .i64 0, .int .i64 0, .int .i64 0] 44)).cell? ⟨cb, co + k * 5 + 1, none⟩ = some (.int .i64 (id : Int)) ∧ (w.drew.drew.alloc (.cells #[.int .i64 0, .int .i64 0, .int .i64 0, .int .i64 0, .int .i64 0] 44)).cell? ⟨cb, co + k * 5 + 2, none⟩ = some (.int .i64 (ia : Int)) ∧ (w.drew.drew.alloc (.cells #[.int .i64 0, .int .i64 0, .int .i64 0, .int .i64 0, .int .i64 0] 44)).cell? ⟨cb, co + k * 5 + 3, none⟩ = some (.int .i64 (ib : Int)) ∧ (w.drew.drew.alloc (.cells #[.int .i64 0, .int .i64 0, .int .i64 0, .int .i64 0, .int .i64 0] 44)).cell? ⟨cb, co + k * 5 + 4, none⟩ = some (.int .i64 imm) := by
    obtain ⟨x0, x1, x2, x3, x4, x5, x6⟩ := HS0.out
    have hcb' : cb < w.drew.drew.heap.size := Nat.lt_trans hcb hlt
    exact ⟨one_cell hlt x0, one_cell hlt x1, one_cell hcb' x2, one_cell hcb' x3, one_cell hcb' x4, one_cell hcb' x5, one_cell hcb' x6⟩
  refine lin_call hS (by rfl) (fun K hK => ?_)
  go_simp
  refine hK.out _ _ hSz (fun _ => ?_)
  clear hK K
  try simp only [Act.put, List.setIfInBounds_toArray, List.set_cons_zero, List.set_cons_succ]
  refine lin_call hSz (by rfl) (fun K hK => ?_)
  go_simp
  refine hK.out _ _ hSa (fun _ => ?_)
  clear hK K
  refine lin_done ?_
  clear hS hSz hSa hk0 hk1
  have HB2 : Hid (MBox (w.alloc (.cells #[.int .i64 op, .int .i64 (id : Int), .int .i64 (ia : Int), .int .i64 (ib : Int), .int .i64 imm] 44)).drew.drew b (machL (.slice (some ⟨cb, co, none⟩) n c) (resL r vm vw) k)) := HBB.out.alloc (.cells #[.int .i64 op, .int .i64 (id : Int), .int .i64 (ia : Int), .int .i64 (ib : Int), .int .i64 imm] 44)
  have HG2 : Hid (w.grownBy (w.alloc (.cells #[.int .i64 op, .int .i64 (id : Int), .int .i64 (ia : Int), .int .i64 (ib : Int), .int .i64 imm] 44)).drew.drew (some b)) := ⟨rfl, rfl, rfl, by simp, fun k hk _ => heap_alloc_old w _ hk⟩
  have HO2 := Lib.hid (HO.out.grownM HBB.out HG2.out)
  have HL2 := Lib.hid (show Below B w (w.alloc (.cells #[.int .i64 op, .int .i64 (id : Int), .int .i64 (ia : Int), .int .i64 (ib : Int), .int .i64 imm] 44)).drew.drew from Below.grown (Below.refl _ _) HG2.out (by have := HBS.out; omega) (fun k hk => by injection hk with hk; have := HBS.out; omega))
  have i0 : (w.alloc (.cells #[.int .i64 op, .int .i64 (id : Int), .int .i64 (ia : Int), .int .i64 (ib : Int), .int .i64 imm] 44)).drew.drew.cell? ⟨w.heap.size, 0, none⟩ = some (.int .i64 op) := by go_simp
  have i1 : (w.alloc (.cells #[.int .i64 op, .int .i64 (id : Int), .int .i64 (ia : Int), .int .i64 (ib : Int), .int .i64 imm] 44)).drew.drew.cell? ⟨w.heap.size, 1, none⟩ = some (.int .i64 (id : Int)) := by go_simp
  have i2 : (w.alloc (.cells #[.int .i64 op, .int .i64 (id : Int), .int .i64 (ia : Int), .int .i64 (ib : Int), .int .i64 imm] 44)).drew.drew.cell? ⟨w.heap.size, 2, none⟩ = some (.int .i64 (ia : Int)) := by go_simp
  have i3 : (w.alloc (.cells #[.int .i64 op, .int .i64 (id : Int), .int .i64 (ia : Int), .int .i64 (ib : Int), .int .i64 imm] 44)).drew.drew.cell? ⟨w.heap.size, 3, none⟩ = some (.int .i64 (ib : Int)) := by go_simp
  have i4 : (w.alloc (.cells #[.int .i64 op, .int .i64 (id : Int), .int .i64 (ia : Int), .int .i64 (ib : Int), .int .i64 imm] 44)).drew.drew.cell? ⟨w.heap.size, 4, none⟩ = some (.int .i64 imm) := by go_simp
  generalize (w.alloc (.cells #[.int .i64 op, .int .i64 (id : Int), .int .i64 (ia : Int), .int .i64 (ib : Int), .int .i64 imm] 44)).drew.drew = w2 at *
  clear HO HBB HG2 HS0
  skip
  skip
  go_wp2_with fail
  refine (form_any _ _).mono ?_; rintro e w7 ⟨rfl, rfl⟩
  rw [HFO.out]
  go_wp2_with fail
  refine (mReckon_any (.slice (some ⟨cb, co, none⟩) n c) r vm vw k op imm id ia ib b _ HB2.out B HBS.out HO2.out HFR.out HMB.out HM.out HW.out bd ba bb (And.intro bi0 bi1) (by have := HN.out; omega) (.inr (.inr HFO.out))).mono ?_; rintro e w8 ⟨rfl, vm', vw', hb8, ho8, hl8⟩
  have HM8 := Lib.hid (show MachTo w b B (.slice (some ⟨cb, co, none⟩) n c) (insZ r.mem.length r k ⟨op, (id : Int), (ia : Int), (ib : Int), imm⟩) w8 from ⟨vm', vw', hb8, ho8, HL2.out.trans hl8⟩)
  clear hb8 ho8 hl8
  go_wp2_with fail
  exact bodyPost_end (v := .tuple #[]) (by simp [results, Try.results23]) rfl ⟨rfl, HM8.out⟩

set_option maxHeartbeats 1000000 in
theorem mStep_form4 (cb co n c k : Nat) (op imm : Int) (id ia ib : Nat) (l : List Ins) (r : Res) (vm vw : Value) (b : Nat) (w : World) (hb : MBox w b (machL (.slice (some ⟨cb, co, none⟩) n c) (resL r vm vw) k)) (B : Nat) (hBb : B ≤ b) (ho : ResOwn w B vm vw r) (hrow : Row w b 5 (.slice (some ⟨cb, co, none⟩) n c) n (codeCells l))
    (fr : ∀ x ∈ r.regs, 0 ≤ x ∧ x ≤ 4294967295) (hmb : ∀ x ∈ r.mem, 0 ≤ x ∧ x ≤ 255) (hm : r.mem.length ≤ 140737488355328) (hw : r.ws.length ≤ 1000000000000) (hn : n ≤ 2000) (hi : l[k]? = some ⟨op, (id : Int), (ia : Int), (ib : Int), imm⟩) (bd : id ≤ 15) (ba : ia ≤ 15) (bb : ib ≤ 15) (bi : -8192 ≤ imm ∧ imm ≤ 8191) (hform : formZ op = 4) :
    Calls Try.prog 23 #[.pointer (some ⟨b, 0, none⟩)] w fun e w' => e = .returned (.tuple #[]) ∧ MachTo w b B (.slice (some ⟨cb, co, none⟩) n c) (insZ r.mem.length r k ⟨op, (id : Int), (ia : Int), (ib : Int), imm⟩) w' := by
  have h16 := ho.regs
  have hll : l.length = n := by have := hrow.len; rw [codeCells_length] at this; omega
  have hkl : k < n := by have := (List.getElem?_eq_some_iff.1 hi).1; omega
  obtain ⟨y0, y1, y2, y3, y4⟩ := hrow.ins hi
  obtain ⟨hcap1, hcap2⟩ := hrow.cap
  obtain ⟨b', off', ee, hcb, _⟩ := hrow.at_ (by omega)
  simp only [Option.some.injEq, Addr.mk.injEq, and_true] at ee
  obtain ⟨rfl, rfl⟩ := ee
  have c0 := hb.cell (machL_0 (vc := (.slice (some ⟨cb, co, none⟩) n c)) (L := resL r vm vw) (pc := k))
  have c24 := hb.cell (machL_24 (vc := (.slice (some ⟨cb, co, none⟩) n c)) (pc := k) (resL_len (vm := vm) (vw := vw) h16))
  have q1 : decide ((k : Int) < 0) = false := decide_eq_false (by omega)
  have q2 : decide (n ≤ k) = false := decide_eq_false (by omega)
  have q3 : decide ((n : Int) ≤ (k : Int)) = false := decide_eq_false (by omega)
  have hk0 : (0 : Int) ≤ k := by omega
  have hk1 : (k : Int) < n := by omega
  have hS0 : w.cell? ⟨b, 24, none⟩ = some (.int .i64 (k : Int)) ∧ w.cell? ⟨b, 0, none⟩ = some (.slice (some ⟨cb, co, none⟩) n c) ∧ w.cell? ⟨cb, co + k * 5, none⟩ = some (.int .i64 op) ∧ w.cell? ⟨cb, co + k * 5 + 1, none⟩ = some (.int .i64 (id : Int)) ∧ w.cell? ⟨cb, co + k * 5 + 2, none⟩ = some (.int .i64 (ia : Int)) ∧ w.cell? ⟨cb, co + k * 5 + 3, none⟩ = some (.int .i64 (ib : Int)) ∧ w.cell? ⟨cb, co + k * 5 + 4, none⟩ = some (.int .i64 imm) := ⟨c24, c0, y0, y1, y2, y3, y4⟩
  have hS : w.drew.cell? ⟨b, 24, none⟩ = some (.int .i64 (k : Int)) ∧ w.drew.cell? ⟨b, 0, none⟩ = some (.slice (some ⟨cb, co, none⟩) n c) ∧ w.drew.cell? ⟨cb, co + k * 5, none⟩ = some (.int .i64 op) ∧ w.drew.cell? ⟨cb, co + k * 5 + 1, none⟩ = some (.int .i64 (id : Int)) ∧ w.drew.cell? ⟨cb, co + k * 5 + 2, none⟩ = some (.int .i64 (ia : Int)) ∧ w.drew.cell? ⟨cb, co + k * 5 + 3, none⟩ = some (.int .i64 (ib : Int)) ∧ w.drew.cell? ⟨cb, co + k * 5 + 4, none⟩ = some (.int .i64 imm) := hS0
  have hlt := hb.lt
  have HBB := Lib.hid hb
  have HBS := Lib.hid hBb
  have HO := Lib.hid ho
  have HFR := Lib.hid fr
  have HMB := Lib.hid hmb
  have HM := Lib.hid hm
  have HW := Lib.hid hw
  have HN := Lib.hid (show k ≤ 2000 by omega)
  have HFO := Lib.hid hform
  have HS0 := Lib.hid hS0
  obtain ⟨bi0, bi1⟩ := bi
  clear hBb hb ho fr hmb hm hw hform hi hrow c0 c24 y0 y1 y2 y3 y4 hll hS0 hn
  go_enter Try.func23, Try.ntmps23
  go_wp2_with fail
  refine wp_region_lin [(0, true), (1, true), (2, true), (3, true), (4, true), (5, true), (6, true), (7, true), (8, true), (9, true), (10, true), (11, true), (12, true), (13, true), (14, true), (15, true), (16, true)]
    (by kernel_rfl) (by kernel_rfl) rfl (by kernel_rfl) (fun x => x.cell? ⟨b, 24, none⟩ = some (.int .i64 (k : Int)) ∧ x.cell? ⟨b, 0, none⟩ = some (.slice (some ⟨cb, co, none⟩) n c) ∧ x.cell? ⟨cb, co + k * 5, none⟩ = some (.int .i64 op) ∧ x.cell? ⟨cb, co + k * 5 + 1, none⟩ = some (.int .i64 (id : Int)) ∧ x.cell? ⟨cb, co + k * 5 + 2, none⟩ = some (.int .i64 (ia : Int)) ∧ x.cell? ⟨cb, co + k * 5 + 3, none⟩ = some (.int .i64 (ib : Int)) ∧ x.cell? ⟨cb, co + k * 5 + 4, none⟩ = some (.int .i64 imm)) ?_
  simp only [List.map_cons, List.map_nil, List.getElem?_toArray, List.getElem?_cons_succ, List.getElem?_cons_zero]
  iterate 17 (refine lin_take (v := ?_) hS (by rfl) ?_ ?_; rotate_left; (intro x hx; obtain ⟨x0, x1, x2, x3, x4, x5, x6⟩ := hx; go_simp; try (with_reducible rfl)); (simp only [Act.put, List.setIfInBounds_toArray, List.set_cons_zero, List.set_cons_succ]))
  refine lin_done ?_
  clear hS
  have hS : w.drew.drew.cell? ⟨b, 24, none⟩ = some (.int .i64 (k : Int)) ∧ w.drew.drew.cell? ⟨b, 0, none⟩ = some (.slice (some ⟨cb, co, none⟩) n c) ∧ w.drew.drew.cell? ⟨cb, co + k * 5, none⟩ = some (.int .i64 op) ∧ w.drew.drew.cell? ⟨cb, co + k * 5 + 1, none⟩ = some (.int .i64 (id : Int)) ∧ w.drew.drew.cell? ⟨cb, co + k * 5 + 2, none⟩ = some (.int .i64 (ia : Int)) ∧ w.drew.drew.cell? ⟨cb, co + k * 5 + 3, none⟩ = some (.int .i64 (ib : Int)) ∧ w.drew.drew.cell? ⟨cb, co + k * 5 + 4, none⟩ = some (.int .i64 imm) := HS0.out
  go_wp2_with fail
  clear q1 q2 q3
  refine wp_region_lin [(0, true), (1, true), (2, true), (3, true), (4, true), (5, true), (6, true), (7, true), (8, true), (9, true), (10, false), (11, false)]
    (by kernel_rfl) (by kernel_rfl) rfl (by kernel_rfl) (fun x => x.cell? ⟨b, 24, none⟩ = some (.int .i64 (k : Int)) ∧ x.cell? ⟨b, 0, none⟩ = some (.slice (some ⟨cb, co, none⟩) n c) ∧ x.cell? ⟨cb, co + k * 5, none⟩ = some (.int .i64 op) ∧ x.cell? ⟨cb, co + k * 5 + 1, none⟩ = some (.int .i64 (id : Int)) ∧ x.cell? ⟨cb, co + k * 5 + 2, none⟩ = some (.int .i64 (ia : Int)) ∧ x.cell? ⟨cb, co + k * 5 + 3, none⟩ = some (.int .i64 (ib : Int)) ∧ x.cell? ⟨cb, co + k * 5 + 4, none⟩ = some (.int .i64 imm)) ?_
  simp only [List.map_cons, List.map_nil, List.getElem?_toArray, List.getElem?_cons_succ, List.getElem?_cons_zero]
  iterate 10 (refine lin_take (v := ?_) hS (by rfl) ?_ ?_; rotate_left; (intro x hx; obtain ⟨x0, x1, x2, x3, x4, x5, x6⟩ := hx; go_simp; try (with_reducible rfl)); (simp only [Act.put, List.setIfInBounds_toArray, List.set_cons_zero, List.set_cons_succ]))
  have hSa : (w.drew.drew.alloc (.cells #[.int .i64 op, .int .i64 (id : Int), .int .i64 (ia : Int), .int .i64 (ib : Int), .int .i64 imm] 44)).cell? ⟨b, 24, none⟩ = some (.int .i64 (k : Int)) ∧ (w.drew.drew.alloc (.cells #[.int .i64 op, .int .i64 (id : Int), .int .i64 (ia : Int), .int .i64 (ib : Int), .int .i64 imm] 44)).cell? ⟨b, 0, none⟩ = some (.slice (some ⟨cb, co, none⟩) n c) ∧ (w.drew.drew.alloc (.cells #[.int .i64 op, .int .i64 (id : Int), .int .i64 (ia : Int), .int .i64 (ib : Int), .int .i64 imm] 44)).cell? ⟨cb, co + k * 5, none⟩ = some (.int .i64 op) ∧ (w.drew.drew.alloc (.cells #[.int .i64 op, .int .i64 (id : Int), .int .i64 (ia : Int), .int .i64 (ib : Int), .int .i64 imm] 44)).cell? ⟨cb, co + k * 5 + 1, none⟩ = some (.int .i64 (id : Int)) ∧ (w.drew.drew.alloc (.cells #[.int .i64 op, .int .i64 (id : Int), .int .i64 (ia : Int), .int .i64 (ib : Int), .int .i64 imm] 44)).cell? ⟨cb, co + k * 5 + 2, none⟩ = some (.int .i64 (ia : Int)) ∧ (w.drew.drew.alloc (.cells #[.int .i64 op, .int .i64 (id : Int), .int .i64 (ia : Int), .int .i64 (ib : Int), .int .i64 imm] 44)).cell? ⟨cb, co + k * 5 + 3, none⟩ = some (.int .i64 (ib : Int)) ∧ (w.drew.drew.alloc (.cells #[.int .i64 op, .int .i64 (id : Int), .int .i64 (ia : Int), .int .i64 (ib : Int), .int .i64 imm] 44)).cell? ⟨cb, co + k * 5 + 4, none⟩ = some (.int .i64 imm) := by
    obtain ⟨x0, x1, x2, x3, x4, x5, x6⟩ := HS0.out
    have hcb' : cb < w.drew.drew.heap.size := Nat.lt_trans hcb hlt
    exact ⟨one_cell hlt x0, one_cell hlt x1, one_cell hcb' x2, one_cell hcb' x3, one_cell hcb' x4, one_cell hcb' x5, one_cell hcb' x6⟩
  have hSz : (w.drew.drew.alloc (.cells #[.int .i64 0, .int .i64 0, .int .i64 0, .int .i64 0, .int .i64 0] 44)).cell? ⟨b, 24, none⟩ = some (.int .i64 (k : Int)) ∧ (w.drew.drew.alloc (.cells #[.int .i64 0, .int .i64 0, .int .i64 0, .int .i64 0, .int .i64 0] 44)).cell? ⟨b, 0, none⟩ = some (.slice (some ⟨cb, co, none⟩) n c) ∧ (w.drew.drew.alloc (.cells #[.int .i64 0, .int .i64 0, .int .i64 0, .int .i64 0, .int .i64 0] 44)).cell? ⟨cb, co + k * 5, none⟩ = some (.int .i64 op) ∧ (w.drew.drew.alloc (.cells #[.int .i64 0, .int .i64 0, .int .i64 0, .int .i64 0, .int .i64 0] 44)).cell? ⟨cb, co + k * 5 + 1, none⟩ = some (.int .i64 (id : Int)) ∧ (w.drew.drew.alloc (.cells #[.int .i64 0, .int .i64 0, .int .i64 0, .int .i64 0, .int .i64 0] 44)).cell? ⟨cb, co + k * 5 + 2, none⟩ = some (.int .i64 (ia : Int)) ∧ (w.drew.drew.alloc (.cells #[.int .i64 0, .int .i64 0, .int .i64 0, .int .i64 0, .int .i64 0] 44)).cell? ⟨cb, co + k * 5 + 3, none⟩ = some (.int .i64 (ib : Int)) ∧ (w.drew.drew.alloc (.cells #[.int .i64 0, .int .i64 0, .int .i64 0, .int .i64 0, .int .i64 0] 44)).cell? ⟨cb, co + k * 5 + 4, none⟩ = some (.int .i64 imm) := by
    obtain ⟨x0, x1, x2, x3, x4, x5, x6⟩ := HS0.out
    have hcb' : cb < w.drew.drew.heap.size := Nat.lt_trans hcb hlt
    exact ⟨one_cell hlt x0, one_cell hlt x1, one_cell hcb' x2, one_cell hcb' x3, one_cell hcb' x4, one_cell hcb' x5, one_cell hcb' x6⟩
  refine lin_call hS (by rfl) (fun K hK => ?_)
  go_simp
  refine hK.out _ _ hSz (fun _ => ?_)
  clear hK K
  try simp only [Act.put, List.setIfInBounds_toArray, List.set_cons_zero, List.set_cons_succ]
  refine lin_call hSz (by rfl) (fun K hK => ?_)
  go_simp
  refine hK.out _ _ hSa (fun _ => ?_)
  clear hK K
  refine lin_done ?_
  clear hS hSz hSa hk0 hk1
  have HB2 : Hid (MBox (w.alloc (.cells #[.int .i64 op, .int .i64 (id : Int), .int .i64 (ia : Int), .int .i64 (ib : Int), .int .i64 imm] 44)).drew.drew b (machL (.slice (some ⟨cb, co, none⟩) n c) (resL r vm vw) k)) := HBB.out.alloc (.cells #[.int .i64 op, .int .i64 (id : Int), .int .i64 (ia : Int), .int .i64 (ib : Int), .int .i64 imm] 44)
  have HG2 : Hid (w.grownBy (w.alloc (.cells #[.int .i64 op, .int .i64 (id : Int), .int .i64 (ia : Int), .int .i64 (ib : Int), .int .i64 imm] 44)).drew.drew (some b)) := ⟨rfl, rfl, rfl, by simp, fun k hk _ => heap_alloc_old w _ hk⟩
  have HO2 := Lib.hid (HO.out.grownM HBB.out HG2.out)
  have HL2 := Lib.hid (show Below B w (w.alloc (.cells #[.int .i64 op, .int .i64 (id : Int), .int .i64 (ia : Int), .int .i64 (ib : Int), .int .i64 imm] 44)).drew.drew from Below.grown (Below.refl _ _) HG2.out (by have := HBS.out; omega) (fun k hk => by injection hk with hk; have := HBS.out; omega))
  have i0 : (w.alloc (.cells #[.int .i64 op, .int .i64 (id : Int), .int .i64 (ia : Int), .int .i64 (ib : Int), .int .i64 imm] 44)).drew.drew.cell? ⟨w.heap.size, 0, none⟩ = some (.int .i64 op) := by go_simp
  have i1 : (w.alloc (.cells #[.int .i64 op, .int .i64 (id : Int), .int .i64 (ia : Int), .int .i64 (ib : Int), .int .i64 imm] 44)).drew.drew.cell? ⟨w.heap.size, 1, none⟩ = some (.int .i64 (id : Int)) := by go_simp
  have i2 : (w.alloc (.cells #[.int .i64 op, .int .i64 (id : Int), .int .i64 (ia : Int), .int .i64 (ib : Int), .int .i64 imm] 44)).drew.drew.cell? ⟨w.heap.size, 2, none⟩ = some (.int .i64 (ia : Int)) := by go_simp
  have i3 : (w.alloc (.cells #[.int .i64 op, .int .i64 (id : Int), .int .i64 (ia : Int), .int .i64 (ib : Int), .int .i64 imm] 44)).drew.drew.cell? ⟨w.heap.size, 3, none⟩ = some (.int .i64 (ib : Int)) := by go_simp
  have i4 : (w.alloc (.cells #[.int .i64 op, .int .i64 (id : Int), .int .i64 (ia : Int), .int .i64 (ib : Int), .int .i64 imm] 44)).drew.drew.cell? ⟨w.heap.size, 4, none⟩ = some (.int .i64 imm) := by go_simp
  generalize (w.alloc (.cells #[.int .i64 op, .int .i64 (id : Int), .int .i64 (ia : Int), .int .i64 (ib : Int), .int .i64 imm] 44)).drew.drew = w2 at *
  clear HO HBB HG2 HS0
  skip
  skip
  go_wp2_with fail
  refine (form_any _ _).mono ?_; rintro e w7 ⟨rfl, rfl⟩
  rw [HFO.out]
  go_wp2_with fail
  refine (mLoad_any (.slice (some ⟨cb, co, none⟩) n c) r vm vw k op imm id ia ib b _ HB2.out B HBS.out HO2.out HFR.out HMB.out HM.out HW.out bd ba bb (And.intro bi0 bi1) (by have := HN.out; omega) (HFO.out)).mono ?_; rintro e w8 ⟨rfl, vm', vw', hb8, ho8, hl8⟩
  have HM8 := Lib.hid (show MachTo w b B (.slice (some ⟨cb, co, none⟩) n c) (insZ r.mem.length r k ⟨op, (id : Int), (ia : Int), (ib : Int), imm⟩) w8 from ⟨vm', vw', hb8, ho8, HL2.out.trans hl8⟩)
  clear hb8 ho8 hl8
  go_wp2_with fail
  exact bodyPost_end (v := .tuple #[]) (by simp [results, Try.results23]) rfl ⟨rfl, HM8.out⟩
end Go.Proofs.Ytdjllgdeijdieaa.Words

/- Contract of package seq: step, way by way. -/
namespace Go.Proofs.Ytdjllgdeijdieaa.Words
set_option maxRecDepth 100000
open Go.RowKit
set_option linter.unusedVariables false

set_option maxHeartbeats 1000000 in
theorem mStep_form5 (cb co n c k : Nat) (op imm : Int) (id ia ib : Nat) (l : List Ins) (r : Res) (vm vw : Value) (b : Nat) (w : World) (hb : MBox w b (machL (.slice (some ⟨cb, co, none⟩) n c) (resL r vm vw) k)) (B : Nat) (hBb : B ≤ b) (ho : ResOwn w B vm vw r) (hrow : Row w b 5 (.slice (some ⟨cb, co, none⟩) n c) n (codeCells l))
    (fr : ∀ x ∈ r.regs, 0 ≤ x ∧ x ≤ 4294967295) (hmb : ∀ x ∈ r.mem, 0 ≤ x ∧ x ≤ 255) (hm : r.mem.length ≤ 140737488355328) (hw : r.ws.length ≤ 1000000000000) (hn : n ≤ 2000) (hi : l[k]? = some ⟨op, (id : Int), (ia : Int), (ib : Int), imm⟩) (bd : id ≤ 15) (ba : ia ≤ 15) (bb : ib ≤ 15) (bi : -8192 ≤ imm ∧ imm ≤ 8191) (hform : formZ op = 5) :
    Calls Try.prog 23 #[.pointer (some ⟨b, 0, none⟩)] w fun e w' => e = .returned (.tuple #[]) ∧ MachTo w b B (.slice (some ⟨cb, co, none⟩) n c) (insZ r.mem.length r k ⟨op, (id : Int), (ia : Int), (ib : Int), imm⟩) w' := by
  have h16 := ho.regs
  have hll : l.length = n := by have := hrow.len; rw [codeCells_length] at this; omega
  have hkl : k < n := by have := (List.getElem?_eq_some_iff.1 hi).1; omega
  obtain ⟨y0, y1, y2, y3, y4⟩ := hrow.ins hi
  obtain ⟨hcap1, hcap2⟩ := hrow.cap
  obtain ⟨b', off', ee, hcb, _⟩ := hrow.at_ (by omega)
  simp only [Option.some.injEq, Addr.mk.injEq, and_true] at ee
  obtain ⟨rfl, rfl⟩ := ee
  have c0 := hb.cell (machL_0 (vc := (.slice (some ⟨cb, co, none⟩) n c)) (L := resL r vm vw) (pc := k))
  have c24 := hb.cell (machL_24 (vc := (.slice (some ⟨cb, co, none⟩) n c)) (pc := k) (resL_len (vm := vm) (vw := vw) h16))
  have q1 : decide ((k : Int) < 0) = false := decide_eq_false (by omega)
  have q2 : decide (n ≤ k) = false := decide_eq_false (by omega)
  have q3 : decide ((n : Int) ≤ (k : Int)) = false := decide_eq_false (by omega)
  have hk0 : (0 : Int) ≤ k := by omega
  have hk1 : (k : Int) < n := by omega
  have hS0 : w.cell? ⟨b, 24, none⟩ = some (.int .i64 (k : Int)) ∧ w.cell? ⟨b, 0, none⟩ = some (.slice (some ⟨cb, co, none⟩) n c) ∧ w.cell? ⟨cb, co + k * 5, none⟩ = some (.int .i64 op) ∧ w.cell? ⟨cb, co + k * 5 + 1, none⟩ = some (.int .i64 (id : Int)) ∧ w.cell? ⟨cb, co + k * 5 + 2, none⟩ = some (.int .i64 (ia : Int)) ∧ w.cell? ⟨cb, co + k * 5 + 3, none⟩ = some (.int .i64 (ib : Int)) ∧ w.cell? ⟨cb, co + k * 5 + 4, none⟩ = some (.int .i64 imm) := ⟨c24, c0, y0, y1, y2, y3, y4⟩
  have hS : w.drew.cell? ⟨b, 24, none⟩ = some (.int .i64 (k : Int)) ∧ w.drew.cell? ⟨b, 0, none⟩ = some (.slice (some ⟨cb, co, none⟩) n c) ∧ w.drew.cell? ⟨cb, co + k * 5, none⟩ = some (.int .i64 op) ∧ w.drew.cell? ⟨cb, co + k * 5 + 1, none⟩ = some (.int .i64 (id : Int)) ∧ w.drew.cell? ⟨cb, co + k * 5 + 2, none⟩ = some (.int .i64 (ia : Int)) ∧ w.drew.cell? ⟨cb, co + k * 5 + 3, none⟩ = some (.int .i64 (ib : Int)) ∧ w.drew.cell? ⟨cb, co + k * 5 + 4, none⟩ = some (.int .i64 imm) := hS0
  have hlt := hb.lt
  have HBB := Lib.hid hb
  have HBS := Lib.hid hBb
  have HO := Lib.hid ho
  have HFR := Lib.hid fr
  have HMB := Lib.hid hmb
  have HM := Lib.hid hm
  have HW := Lib.hid hw
  have HN := Lib.hid (show k ≤ 2000 by omega)
  have HFO := Lib.hid hform
  have HS0 := Lib.hid hS0
  obtain ⟨bi0, bi1⟩ := bi
  clear hBb hb ho fr hmb hm hw hform hi hrow c0 c24 y0 y1 y2 y3 y4 hll hS0 hn
  go_enter Try.func23, Try.ntmps23
  go_wp2_with fail
  refine wp_region_lin [(0, true), (1, true), (2, true), (3, true), (4, true), (5, true), (6, true), (7, true), (8, true), (9, true), (10, true), (11, true), (12, true), (13, true), (14, true), (15, true), (16, true)]
    (by kernel_rfl) (by kernel_rfl) rfl (by kernel_rfl) (fun x => x.cell? ⟨b, 24, none⟩ = some (.int .i64 (k : Int)) ∧ x.cell? ⟨b, 0, none⟩ = some (.slice (some ⟨cb, co, none⟩) n c) ∧ x.cell? ⟨cb, co + k * 5, none⟩ = some (.int .i64 op) ∧ x.cell? ⟨cb, co + k * 5 + 1, none⟩ = some (.int .i64 (id : Int)) ∧ x.cell? ⟨cb, co + k * 5 + 2, none⟩ = some (.int .i64 (ia : Int)) ∧ x.cell? ⟨cb, co + k * 5 + 3, none⟩ = some (.int .i64 (ib : Int)) ∧ x.cell? ⟨cb, co + k * 5 + 4, none⟩ = some (.int .i64 imm)) ?_
  simp only [List.map_cons, List.map_nil, List.getElem?_toArray, List.getElem?_cons_succ, List.getElem?_cons_zero]
  iterate 17 (refine lin_take (v := ?_) hS (by rfl) ?_ ?_; rotate_left; (intro x hx; obtain ⟨x0, x1, x2, x3, x4, x5, x6⟩ := hx; go_simp; try (with_reducible rfl)); (simp only [Act.put, List.setIfInBounds_toArray, List.set_cons_zero, List.set_cons_succ]))
  refine lin_done ?_
  clear hS
  have hS : w.drew.drew.cell? ⟨b, 24, none⟩ = some (.int .i64 (k : Int)) ∧ w.drew.drew.cell? ⟨b, 0, none⟩ = some (.slice (some ⟨cb, co, none⟩) n c) ∧ w.drew.drew.cell? ⟨cb, co + k * 5, none⟩ = some (.int .i64 op) ∧ w.drew.drew.cell? ⟨cb, co + k * 5 + 1, none⟩ = some (.int .i64 (id : Int)) ∧ w.drew.drew.cell? ⟨cb, co + k * 5 + 2, none⟩ = some (.int .i64 (ia : Int)) ∧ w.drew.drew.cell? ⟨cb, co + k * 5 + 3, none⟩ = some (.int .i64 (ib : Int)) ∧ w.drew.drew.cell? ⟨cb, co + k * 5 + 4, none⟩ = some (.int .i64 imm) := HS0.out
  go_wp2_with fail
  clear q1 q2 q3
  refine wp_region_lin [(0, true), (1, true), (2, true), (3, true), (4, true), (5, true), (6, true), (7, true), (8, true), (9, true), (10, false), (11, false)]
    (by kernel_rfl) (by kernel_rfl) rfl (by kernel_rfl) (fun x => x.cell? ⟨b, 24, none⟩ = some (.int .i64 (k : Int)) ∧ x.cell? ⟨b, 0, none⟩ = some (.slice (some ⟨cb, co, none⟩) n c) ∧ x.cell? ⟨cb, co + k * 5, none⟩ = some (.int .i64 op) ∧ x.cell? ⟨cb, co + k * 5 + 1, none⟩ = some (.int .i64 (id : Int)) ∧ x.cell? ⟨cb, co + k * 5 + 2, none⟩ = some (.int .i64 (ia : Int)) ∧ x.cell? ⟨cb, co + k * 5 + 3, none⟩ = some (.int .i64 (ib : Int)) ∧ x.cell? ⟨cb, co + k * 5 + 4, none⟩ = some (.int .i64 imm)) ?_
  simp only [List.map_cons, List.map_nil, List.getElem?_toArray, List.getElem?_cons_succ, List.getElem?_cons_zero]
  iterate 10 (refine lin_take (v := ?_) hS (by rfl) ?_ ?_; rotate_left; (intro x hx; obtain ⟨x0, x1, x2, x3, x4, x5, x6⟩ := hx; go_simp; try (with_reducible rfl)); (simp only [Act.put, List.setIfInBounds_toArray, List.set_cons_zero, List.set_cons_succ]))
  have hSa : (w.drew.drew.alloc (.cells #[.int .i64 op, .int .i64 (id : Int), .int .i64 (ia : Int), .int .i64 (ib : Int), .int .i64 imm] 44)).cell? ⟨b, 24, none⟩ = some (.int .i64 (k : Int)) ∧ (w.drew.drew.alloc (.cells #[.int .i64 op, .int .i64 (id : Int), .int .i64 (ia : Int), .int .i64 (ib : Int), .int .i64 imm] 44)).cell? ⟨b, 0, none⟩ = some (.slice (some ⟨cb, co, none⟩) n c) ∧ (w.drew.drew.alloc (.cells #[.int .i64 op, .int .i64 (id : Int), .int .i64 (ia : Int), .int .i64 (ib : Int), .int .i64 imm] 44)).cell? ⟨cb, co + k * 5, none⟩ = some (.int .i64 op) ∧ (w.drew.drew.alloc (.cells #[.int .i64 op, .int .i64 (id : Int), .int .i64 (ia : Int), .int .i64 (ib : Int), .int .i64 imm] 44)).cell? ⟨cb, co + k * 5 + 1, none⟩ = some (.int .i64 (id : Int)) ∧ (w.drew.drew.alloc (.cells #[.int .i64 op, .int .i64 (id : Int), .int .i64 (ia : Int), .int .i64 (ib : Int), .int .i64 imm] 44)).cell? ⟨cb, co + k * 5 + 2, none⟩ = some (.int .i64 (ia : Int)) ∧ (w.drew.drew.alloc (.cells #[.int .i64 op, .int .i64 (id : Int), .int .i64 (ia : Int), .int .i64 (ib : Int), .int .i64 imm] 44)).cell? ⟨cb, co + k * 5 + 3, none⟩ = some (.int .i64 (ib : Int)) ∧ (w.drew.drew.alloc (.cells #[.int .i64 op, .int .i64 (id : Int), .int .i64 (ia : Int), .int .i64 (ib : Int), .int .i64 imm] 44)).cell? ⟨cb, co + k * 5 + 4, none⟩ = some (.int .i64 imm) := by
    obtain ⟨x0, x1, x2, x3, x4, x5, x6⟩ := HS0.out
    have hcb' : cb < w.drew.drew.heap.size := Nat.lt_trans hcb hlt
    exact ⟨one_cell hlt x0, one_cell hlt x1, one_cell hcb' x2, one_cell hcb' x3, one_cell hcb' x4, one_cell hcb' x5, one_cell hcb' x6⟩
  have hSz : (w.drew.drew.alloc (.cells #[.int .i64 0, .int .i64 0, .int .i64 0, .int .i64 0, .int .i64 0] 44)).cell? ⟨b, 24, none⟩ = some (.int .i64 (k : Int)) ∧ (w.drew.drew.alloc (.cells #[.int .i64 0, .int .i64 0, .int .i64 0, .int .i64 0, .int .i64 0] 44)).cell? ⟨b, 0, none⟩ = some (.slice (some ⟨cb, co, none⟩) n c) ∧ (w.drew.drew.alloc (.cells #[.int .i64 0, .int .i64 0, .int .i64 0, .int .i64 0, .int .i64 0] 44)).cell? ⟨cb, co + k * 5, none⟩ = some (.int .i64 op) ∧ (w.drew.drew.alloc (.cells #[.int .i64 0, .int .i64 0, .int .i64 0, .int .i64 0, .int .i64 0] 44)).cell? ⟨cb, co + k * 5 + 1, none⟩ = some (.int .i64 (id : Int)) ∧ (w.drew.drew.alloc (.cells #[.int .i64 0, .int .i64 0, .int .i64 0, .int .i64 0, .int .i64 0] 44)).cell? ⟨cb, co + k * 5 + 2, none⟩ = some (.int .i64 (ia : Int)) ∧ (w.drew.drew.alloc (.cells #[.int .i64 0, .int .i64 0, .int .i64 0, .int .i64 0, .int .i64 0] 44)).cell? ⟨cb, co + k * 5 + 3, none⟩ = some (.int .i64 (ib : Int)) ∧ (w.drew.drew.alloc (.cells #[.int .i64 0, .int .i64 0, .int .i64 0, .int .i64 0, .int .i64 0] 44)).cell? ⟨cb, co + k * 5 + 4, none⟩ = some (.int .i64 imm) := by
    obtain ⟨x0, x1, x2, x3, x4, x5, x6⟩ := HS0.out
    have hcb' : cb < w.drew.drew.heap.size := Nat.lt_trans hcb hlt
    exact ⟨one_cell hlt x0, one_cell hlt x1, one_cell hcb' x2, one_cell hcb' x3, one_cell hcb' x4, one_cell hcb' x5, one_cell hcb' x6⟩
  refine lin_call hS (by rfl) (fun K hK => ?_)
  go_simp
  refine hK.out _ _ hSz (fun _ => ?_)
  clear hK K
  try simp only [Act.put, List.setIfInBounds_toArray, List.set_cons_zero, List.set_cons_succ]
  refine lin_call hSz (by rfl) (fun K hK => ?_)
  go_simp
  refine hK.out _ _ hSa (fun _ => ?_)
  clear hK K
  refine lin_done ?_
  clear hS hSz hSa hk0 hk1
  have HB2 : Hid (MBox (w.alloc (.cells #[.int .i64 op, .int .i64 (id : Int), .int .i64 (ia : Int), .int .i64 (ib : Int), .int .i64 imm] 44)).drew.drew b (machL (.slice (some ⟨cb, co, none⟩) n c) (resL r vm vw) k)) := HBB.out.alloc (.cells #[.int .i64 op, .int .i64 (id : Int), .int .i64 (ia : Int), .int .i64 (ib : Int), .int .i64 imm] 44)
  have HG2 : Hid (w.grownBy (w.alloc (.cells #[.int .i64 op, .int .i64 (id : Int), .int .i64 (ia : Int), .int .i64 (ib : Int), .int .i64 imm] 44)).drew.drew (some b)) := ⟨rfl, rfl, rfl, by simp, fun k hk _ => heap_alloc_old w _ hk⟩
  have HO2 := Lib.hid (HO.out.grownM HBB.out HG2.out)
  have HL2 := Lib.hid (show Below B w (w.alloc (.cells #[.int .i64 op, .int .i64 (id : Int), .int .i64 (ia : Int), .int .i64 (ib : Int), .int .i64 imm] 44)).drew.drew from Below.grown (Below.refl _ _) HG2.out (by have := HBS.out; omega) (fun k hk => by injection hk with hk; have := HBS.out; omega))
  have i0 : (w.alloc (.cells #[.int .i64 op, .int .i64 (id : Int), .int .i64 (ia : Int), .int .i64 (ib : Int), .int .i64 imm] 44)).drew.drew.cell? ⟨w.heap.size, 0, none⟩ = some (.int .i64 op) := by go_simp
  have i1 : (w.alloc (.cells #[.int .i64 op, .int .i64 (id : Int), .int .i64 (ia : Int), .int .i64 (ib : Int), .int .i64 imm] 44)).drew.drew.cell? ⟨w.heap.size, 1, none⟩ = some (.int .i64 (id : Int)) := by go_simp
  have i2 : (w.alloc (.cells #[.int .i64 op, .int .i64 (id : Int), .int .i64 (ia : Int), .int .i64 (ib : Int), .int .i64 imm] 44)).drew.drew.cell? ⟨w.heap.size, 2, none⟩ = some (.int .i64 (ia : Int)) := by go_simp
  have i3 : (w.alloc (.cells #[.int .i64 op, .int .i64 (id : Int), .int .i64 (ia : Int), .int .i64 (ib : Int), .int .i64 imm] 44)).drew.drew.cell? ⟨w.heap.size, 3, none⟩ = some (.int .i64 (ib : Int)) := by go_simp
  have i4 : (w.alloc (.cells #[.int .i64 op, .int .i64 (id : Int), .int .i64 (ia : Int), .int .i64 (ib : Int), .int .i64 imm] 44)).drew.drew.cell? ⟨w.heap.size, 4, none⟩ = some (.int .i64 imm) := by go_simp
  generalize (w.alloc (.cells #[.int .i64 op, .int .i64 (id : Int), .int .i64 (ia : Int), .int .i64 (ib : Int), .int .i64 imm] 44)).drew.drew = w2 at *
  clear HO HBB HG2 HS0
  skip
  skip
  go_wp2_with fail
  refine (form_any _ _).mono ?_; rintro e w7 ⟨rfl, rfl⟩
  rw [HFO.out]
  go_wp2_with fail
  refine (mStore_any (.slice (some ⟨cb, co, none⟩) n c) r vm vw k op imm id ia ib b _ HB2.out B HBS.out HO2.out HFR.out HMB.out HM.out HW.out bd ba bb (And.intro bi0 bi1) (by have := HN.out; omega) (HFO.out)).mono ?_; rintro e w8 ⟨rfl, vm', vw', hb8, ho8, hl8⟩
  have HM8 := Lib.hid (show MachTo w b B (.slice (some ⟨cb, co, none⟩) n c) (insZ r.mem.length r k ⟨op, (id : Int), (ia : Int), (ib : Int), imm⟩) w8 from ⟨vm', vw', hb8, ho8, HL2.out.trans hl8⟩)
  clear hb8 ho8 hl8
  go_wp2_with fail
  exact bodyPost_end (v := .tuple #[]) (by simp [results, Try.results23]) rfl ⟨rfl, HM8.out⟩

set_option maxHeartbeats 1000000 in
theorem mStep_form6 (cb co n c k : Nat) (op imm : Int) (id ia ib : Nat) (l : List Ins) (r : Res) (vm vw : Value) (b : Nat) (w : World) (hb : MBox w b (machL (.slice (some ⟨cb, co, none⟩) n c) (resL r vm vw) k)) (B : Nat) (hBb : B ≤ b) (ho : ResOwn w B vm vw r) (hrow : Row w b 5 (.slice (some ⟨cb, co, none⟩) n c) n (codeCells l))
    (fr : ∀ x ∈ r.regs, 0 ≤ x ∧ x ≤ 4294967295) (hmb : ∀ x ∈ r.mem, 0 ≤ x ∧ x ≤ 255) (hm : r.mem.length ≤ 140737488355328) (hw : r.ws.length ≤ 1000000000000) (hn : n ≤ 2000) (hi : l[k]? = some ⟨op, (id : Int), (ia : Int), (ib : Int), imm⟩) (bd : id ≤ 15) (ba : ia ≤ 15) (bb : ib ≤ 15) (bi : -8192 ≤ imm ∧ imm ≤ 8191) (hform : formZ op = 6) :
    Calls Try.prog 23 #[.pointer (some ⟨b, 0, none⟩)] w fun e w' => e = .returned (.tuple #[]) ∧ MachTo w b B (.slice (some ⟨cb, co, none⟩) n c) (insZ r.mem.length r k ⟨op, (id : Int), (ia : Int), (ib : Int), imm⟩) w' := by
  have h16 := ho.regs
  have hll : l.length = n := by have := hrow.len; rw [codeCells_length] at this; omega
  have hkl : k < n := by have := (List.getElem?_eq_some_iff.1 hi).1; omega
  obtain ⟨y0, y1, y2, y3, y4⟩ := hrow.ins hi
  obtain ⟨hcap1, hcap2⟩ := hrow.cap
  obtain ⟨b', off', ee, hcb, _⟩ := hrow.at_ (by omega)
  simp only [Option.some.injEq, Addr.mk.injEq, and_true] at ee
  obtain ⟨rfl, rfl⟩ := ee
  have c0 := hb.cell (machL_0 (vc := (.slice (some ⟨cb, co, none⟩) n c)) (L := resL r vm vw) (pc := k))
  have c24 := hb.cell (machL_24 (vc := (.slice (some ⟨cb, co, none⟩) n c)) (pc := k) (resL_len (vm := vm) (vw := vw) h16))
  have q1 : decide ((k : Int) < 0) = false := decide_eq_false (by omega)
  have q2 : decide (n ≤ k) = false := decide_eq_false (by omega)
  have q3 : decide ((n : Int) ≤ (k : Int)) = false := decide_eq_false (by omega)
  have hk0 : (0 : Int) ≤ k := by omega
  have hk1 : (k : Int) < n := by omega
  have hS0 : w.cell? ⟨b, 24, none⟩ = some (.int .i64 (k : Int)) ∧ w.cell? ⟨b, 0, none⟩ = some (.slice (some ⟨cb, co, none⟩) n c) ∧ w.cell? ⟨cb, co + k * 5, none⟩ = some (.int .i64 op) ∧ w.cell? ⟨cb, co + k * 5 + 1, none⟩ = some (.int .i64 (id : Int)) ∧ w.cell? ⟨cb, co + k * 5 + 2, none⟩ = some (.int .i64 (ia : Int)) ∧ w.cell? ⟨cb, co + k * 5 + 3, none⟩ = some (.int .i64 (ib : Int)) ∧ w.cell? ⟨cb, co + k * 5 + 4, none⟩ = some (.int .i64 imm) := ⟨c24, c0, y0, y1, y2, y3, y4⟩
  have hS : w.drew.cell? ⟨b, 24, none⟩ = some (.int .i64 (k : Int)) ∧ w.drew.cell? ⟨b, 0, none⟩ = some (.slice (some ⟨cb, co, none⟩) n c) ∧ w.drew.cell? ⟨cb, co + k * 5, none⟩ = some (.int .i64 op) ∧ w.drew.cell? ⟨cb, co + k * 5 + 1, none⟩ = some (.int .i64 (id : Int)) ∧ w.drew.cell? ⟨cb, co + k * 5 + 2, none⟩ = some (.int .i64 (ia : Int)) ∧ w.drew.cell? ⟨cb, co + k * 5 + 3, none⟩ = some (.int .i64 (ib : Int)) ∧ w.drew.cell? ⟨cb, co + k * 5 + 4, none⟩ = some (.int .i64 imm) := hS0
  have hlt := hb.lt
  have HBB := Lib.hid hb
  have HBS := Lib.hid hBb
  have HO := Lib.hid ho
  have HFR := Lib.hid fr
  have HMB := Lib.hid hmb
  have HM := Lib.hid hm
  have HW := Lib.hid hw
  have HN := Lib.hid (show k ≤ 2000 by omega)
  have HFO := Lib.hid hform
  have HS0 := Lib.hid hS0
  obtain ⟨bi0, bi1⟩ := bi
  clear hBb hb ho fr hmb hm hw hform hi hrow c0 c24 y0 y1 y2 y3 y4 hll hS0 hn
  go_enter Try.func23, Try.ntmps23
  go_wp2_with fail
  refine wp_region_lin [(0, true), (1, true), (2, true), (3, true), (4, true), (5, true), (6, true), (7, true), (8, true), (9, true), (10, true), (11, true), (12, true), (13, true), (14, true), (15, true), (16, true)]
    (by kernel_rfl) (by kernel_rfl) rfl (by kernel_rfl) (fun x => x.cell? ⟨b, 24, none⟩ = some (.int .i64 (k : Int)) ∧ x.cell? ⟨b, 0, none⟩ = some (.slice (some ⟨cb, co, none⟩) n c) ∧ x.cell? ⟨cb, co + k * 5, none⟩ = some (.int .i64 op) ∧ x.cell? ⟨cb, co + k * 5 + 1, none⟩ = some (.int .i64 (id : Int)) ∧ x.cell? ⟨cb, co + k * 5 + 2, none⟩ = some (.int .i64 (ia : Int)) ∧ x.cell? ⟨cb, co + k * 5 + 3, none⟩ = some (.int .i64 (ib : Int)) ∧ x.cell? ⟨cb, co + k * 5 + 4, none⟩ = some (.int .i64 imm)) ?_
  simp only [List.map_cons, List.map_nil, List.getElem?_toArray, List.getElem?_cons_succ, List.getElem?_cons_zero]
  iterate 17 (refine lin_take (v := ?_) hS (by rfl) ?_ ?_; rotate_left; (intro x hx; obtain ⟨x0, x1, x2, x3, x4, x5, x6⟩ := hx; go_simp; try (with_reducible rfl)); (simp only [Act.put, List.setIfInBounds_toArray, List.set_cons_zero, List.set_cons_succ]))
  refine lin_done ?_
  clear hS
  have hS : w.drew.drew.cell? ⟨b, 24, none⟩ = some (.int .i64 (k : Int)) ∧ w.drew.drew.cell? ⟨b, 0, none⟩ = some (.slice (some ⟨cb, co, none⟩) n c) ∧ w.drew.drew.cell? ⟨cb, co + k * 5, none⟩ = some (.int .i64 op) ∧ w.drew.drew.cell? ⟨cb, co + k * 5 + 1, none⟩ = some (.int .i64 (id : Int)) ∧ w.drew.drew.cell? ⟨cb, co + k * 5 + 2, none⟩ = some (.int .i64 (ia : Int)) ∧ w.drew.drew.cell? ⟨cb, co + k * 5 + 3, none⟩ = some (.int .i64 (ib : Int)) ∧ w.drew.drew.cell? ⟨cb, co + k * 5 + 4, none⟩ = some (.int .i64 imm) := HS0.out
  go_wp2_with fail
  clear q1 q2 q3
  refine wp_region_lin [(0, true), (1, true), (2, true), (3, true), (4, true), (5, true), (6, true), (7, true), (8, true), (9, true), (10, false), (11, false)]
    (by kernel_rfl) (by kernel_rfl) rfl (by kernel_rfl) (fun x => x.cell? ⟨b, 24, none⟩ = some (.int .i64 (k : Int)) ∧ x.cell? ⟨b, 0, none⟩ = some (.slice (some ⟨cb, co, none⟩) n c) ∧ x.cell? ⟨cb, co + k * 5, none⟩ = some (.int .i64 op) ∧ x.cell? ⟨cb, co + k * 5 + 1, none⟩ = some (.int .i64 (id : Int)) ∧ x.cell? ⟨cb, co + k * 5 + 2, none⟩ = some (.int .i64 (ia : Int)) ∧ x.cell? ⟨cb, co + k * 5 + 3, none⟩ = some (.int .i64 (ib : Int)) ∧ x.cell? ⟨cb, co + k * 5 + 4, none⟩ = some (.int .i64 imm)) ?_
  simp only [List.map_cons, List.map_nil, List.getElem?_toArray, List.getElem?_cons_succ, List.getElem?_cons_zero]
  iterate 10 (refine lin_take (v := ?_) hS (by rfl) ?_ ?_; rotate_left; (intro x hx; obtain ⟨x0, x1, x2, x3, x4, x5, x6⟩ := hx; go_simp; try (with_reducible rfl)); (simp only [Act.put, List.setIfInBounds_toArray, List.set_cons_zero, List.set_cons_succ]))
  have hSa : (w.drew.drew.alloc (.cells #[.int .i64 op, .int .i64 (id : Int), .int .i64 (ia : Int), .int .i64 (ib : Int), .int .i64 imm] 44)).cell? ⟨b, 24, none⟩ = some (.int .i64 (k : Int)) ∧ (w.drew.drew.alloc (.cells #[.int .i64 op, .int .i64 (id : Int), .int .i64 (ia : Int), .int .i64 (ib : Int), .int .i64 imm] 44)).cell? ⟨b, 0, none⟩ = some (.slice (some ⟨cb, co, none⟩) n c) ∧ (w.drew.drew.alloc (.cells #[.int .i64 op, .int .i64 (id : Int), .int .i64 (ia : Int), .int .i64 (ib : Int), .int .i64 imm] 44)).cell? ⟨cb, co + k * 5, none⟩ = some (.int .i64 op) ∧ (w.drew.drew.alloc (.cells #[.int .i64 op, .int .i64 (id : Int), .int .i64 (ia : Int), .int .i64 (ib : Int), .int .i64 imm] 44)).cell? ⟨cb, co + k * 5 + 1, none⟩ = some (.int .i64 (id : Int)) ∧ (w.drew.drew.alloc (.cells #[.int .i64 op, .int .i64 (id : Int), .int .i64 (ia : Int), .int .i64 (ib : Int), .int .i64 imm] 44)).cell? ⟨cb, co + k * 5 + 2, none⟩ = some (.int .i64 (ia : Int)) ∧ (w.drew.drew.alloc (.cells #[.int .i64 op, .int .i64 (id : Int), .int .i64 (ia : Int), .int .i64 (ib : Int), .int .i64 imm] 44)).cell? ⟨cb, co + k * 5 + 3, none⟩ = some (.int .i64 (ib : Int)) ∧ (w.drew.drew.alloc (.cells #[.int .i64 op, .int .i64 (id : Int), .int .i64 (ia : Int), .int .i64 (ib : Int), .int .i64 imm] 44)).cell? ⟨cb, co + k * 5 + 4, none⟩ = some (.int .i64 imm) := by
    obtain ⟨x0, x1, x2, x3, x4, x5, x6⟩ := HS0.out
    have hcb' : cb < w.drew.drew.heap.size := Nat.lt_trans hcb hlt
    exact ⟨one_cell hlt x0, one_cell hlt x1, one_cell hcb' x2, one_cell hcb' x3, one_cell hcb' x4, one_cell hcb' x5, one_cell hcb' x6⟩
  have hSz : (w.drew.drew.alloc (.cells #[.int .i64 0, .int .i64 0, .int .i64 0, .int .i64 0, .int .i64 0] 44)).cell? ⟨b, 24, none⟩ = some (.int .i64 (k : Int)) ∧ (w.drew.drew.alloc (.cells #[.int .i64 0, .int .i64 0, .int .i64 0, .int .i64 0, .int .i64 0] 44)).cell? ⟨b, 0, none⟩ = some (.slice (some ⟨cb, co, none⟩) n c) ∧ (w.drew.drew.alloc (.cells #[.int .i64 0, .int .i64 0, .int .i64 0, .int .i64 0, .int .i64 0] 44)).cell? ⟨cb, co + k * 5, none⟩ = some (.int .i64 op) ∧ (w.drew.drew.alloc (.cells #[.int .i64 0, .int .i64 0, .int .i64 0, .int .i64 0, .int .i64 0] 44)).cell? ⟨cb, co + k * 5 + 1, none⟩ = some (.int .i64 (id : Int)) ∧ (w.drew.drew.alloc (.cells #[.int .i64 0, .int .i64 0, .int .i64 0, .int .i64 0, .int .i64 0] 44)).cell? ⟨cb, co + k * 5 + 2, none⟩ = some (.int .i64 (ia : Int)) ∧ (w.drew.drew.alloc (.cells #[.int .i64 0, .int .i64 0, .int .i64 0, .int .i64 0, .int .i64 0] 44)).cell? ⟨cb, co + k * 5 + 3, none⟩ = some (.int .i64 (ib : Int)) ∧ (w.drew.drew.alloc (.cells #[.int .i64 0, .int .i64 0, .int .i64 0, .int .i64 0, .int .i64 0] 44)).cell? ⟨cb, co + k * 5 + 4, none⟩ = some (.int .i64 imm) := by
    obtain ⟨x0, x1, x2, x3, x4, x5, x6⟩ := HS0.out
    have hcb' : cb < w.drew.drew.heap.size := Nat.lt_trans hcb hlt
    exact ⟨one_cell hlt x0, one_cell hlt x1, one_cell hcb' x2, one_cell hcb' x3, one_cell hcb' x4, one_cell hcb' x5, one_cell hcb' x6⟩
  refine lin_call hS (by rfl) (fun K hK => ?_)
  go_simp
  refine hK.out _ _ hSz (fun _ => ?_)
  clear hK K
  try simp only [Act.put, List.setIfInBounds_toArray, List.set_cons_zero, List.set_cons_succ]
  refine lin_call hSz (by rfl) (fun K hK => ?_)
  go_simp
  refine hK.out _ _ hSa (fun _ => ?_)
  clear hK K
  refine lin_done ?_
  clear hS hSz hSa hk0 hk1
  have HB2 : Hid (MBox (w.alloc (.cells #[.int .i64 op, .int .i64 (id : Int), .int .i64 (ia : Int), .int .i64 (ib : Int), .int .i64 imm] 44)).drew.drew b (machL (.slice (some ⟨cb, co, none⟩) n c) (resL r vm vw) k)) := HBB.out.alloc (.cells #[.int .i64 op, .int .i64 (id : Int), .int .i64 (ia : Int), .int .i64 (ib : Int), .int .i64 imm] 44)
  have HG2 : Hid (w.grownBy (w.alloc (.cells #[.int .i64 op, .int .i64 (id : Int), .int .i64 (ia : Int), .int .i64 (ib : Int), .int .i64 imm] 44)).drew.drew (some b)) := ⟨rfl, rfl, rfl, by simp, fun k hk _ => heap_alloc_old w _ hk⟩
  have HO2 := Lib.hid (HO.out.grownM HBB.out HG2.out)
  have HL2 := Lib.hid (show Below B w (w.alloc (.cells #[.int .i64 op, .int .i64 (id : Int), .int .i64 (ia : Int), .int .i64 (ib : Int), .int .i64 imm] 44)).drew.drew from Below.grown (Below.refl _ _) HG2.out (by have := HBS.out; omega) (fun k hk => by injection hk with hk; have := HBS.out; omega))
  have i0 : (w.alloc (.cells #[.int .i64 op, .int .i64 (id : Int), .int .i64 (ia : Int), .int .i64 (ib : Int), .int .i64 imm] 44)).drew.drew.cell? ⟨w.heap.size, 0, none⟩ = some (.int .i64 op) := by go_simp
  have i1 : (w.alloc (.cells #[.int .i64 op, .int .i64 (id : Int), .int .i64 (ia : Int), .int .i64 (ib : Int), .int .i64 imm] 44)).drew.drew.cell? ⟨w.heap.size, 1, none⟩ = some (.int .i64 (id : Int)) := by go_simp
  have i2 : (w.alloc (.cells #[.int .i64 op, .int .i64 (id : Int), .int .i64 (ia : Int), .int .i64 (ib : Int), .int .i64 imm] 44)).drew.drew.cell? ⟨w.heap.size, 2, none⟩ = some (.int .i64 (ia : Int)) := by go_simp
  have i3 : (w.alloc (.cells #[.int .i64 op, .int .i64 (id : Int), .int .i64 (ia : Int), .int .i64 (ib : Int), .int .i64 imm] 44)).drew.drew.cell? ⟨w.heap.size, 3, none⟩ = some (.int .i64 (ib : Int)) := by go_simp
  have i4 : (w.alloc (.cells #[.int .i64 op, .int .i64 (id : Int), .int .i64 (ia : Int), .int .i64 (ib : Int), .int .i64 imm] 44)).drew.drew.cell? ⟨w.heap.size, 4, none⟩ = some (.int .i64 imm) := by go_simp
  generalize (w.alloc (.cells #[.int .i64 op, .int .i64 (id : Int), .int .i64 (ia : Int), .int .i64 (ib : Int), .int .i64 imm] 44)).drew.drew = w2 at *
  clear HO HBB HG2 HS0
  skip
  skip
  go_wp2_with fail
  refine (form_any _ _).mono ?_; rintro e w7 ⟨rfl, rfl⟩
  rw [HFO.out]
  go_wp2_with fail
  refine (mBranch_any (.slice (some ⟨cb, co, none⟩) n c) r vm vw k op imm id ia ib b _ HB2.out B HBS.out HO2.out HFR.out HMB.out HM.out HW.out bd ba bb (And.intro bi0 bi1) (by have := HN.out; omega) (HFO.out)).mono ?_; rintro e w8 ⟨rfl, vm', vw', hb8, ho8, hl8⟩
  have HM8 := Lib.hid (show MachTo w b B (.slice (some ⟨cb, co, none⟩) n c) (insZ r.mem.length r k ⟨op, (id : Int), (ia : Int), (ib : Int), imm⟩) w8 from ⟨vm', vw', hb8, ho8, HL2.out.trans hl8⟩)
  clear hb8 ho8 hl8
  go_wp2_with fail
  exact bodyPost_end (v := .tuple #[]) (by simp [results, Try.results23]) rfl ⟨rfl, HM8.out⟩

set_option maxHeartbeats 1000000 in
theorem mStep_form7 (cb co n c k : Nat) (op imm : Int) (id ia ib : Nat) (l : List Ins) (r : Res) (vm vw : Value) (b : Nat) (w : World) (hb : MBox w b (machL (.slice (some ⟨cb, co, none⟩) n c) (resL r vm vw) k)) (B : Nat) (hBb : B ≤ b) (ho : ResOwn w B vm vw r) (hrow : Row w b 5 (.slice (some ⟨cb, co, none⟩) n c) n (codeCells l))
    (fr : ∀ x ∈ r.regs, 0 ≤ x ∧ x ≤ 4294967295) (hmb : ∀ x ∈ r.mem, 0 ≤ x ∧ x ≤ 255) (hm : r.mem.length ≤ 140737488355328) (hw : r.ws.length ≤ 1000000000000) (hn : n ≤ 2000) (hi : l[k]? = some ⟨op, (id : Int), (ia : Int), (ib : Int), imm⟩) (bd : id ≤ 15) (ba : ia ≤ 15) (bb : ib ≤ 15) (bi : -8192 ≤ imm ∧ imm ≤ 8191) (hform : formZ op = 7) :
    Calls Try.prog 23 #[.pointer (some ⟨b, 0, none⟩)] w fun e w' => e = .returned (.tuple #[]) ∧ MachTo w b B (.slice (some ⟨cb, co, none⟩) n c) (insZ r.mem.length r k ⟨op, (id : Int), (ia : Int), (ib : Int), imm⟩) w' := by
  have h16 := ho.regs
  have hll : l.length = n := by have := hrow.len; rw [codeCells_length] at this; omega
  have hkl : k < n := by have := (List.getElem?_eq_some_iff.1 hi).1; omega
  obtain ⟨y0, y1, y2, y3, y4⟩ := hrow.ins hi
  obtain ⟨hcap1, hcap2⟩ := hrow.cap
  obtain ⟨b', off', ee, hcb, _⟩ := hrow.at_ (by omega)
  simp only [Option.some.injEq, Addr.mk.injEq, and_true] at ee
  obtain ⟨rfl, rfl⟩ := ee
  have c0 := hb.cell (machL_0 (vc := (.slice (some ⟨cb, co, none⟩) n c)) (L := resL r vm vw) (pc := k))
  have c24 := hb.cell (machL_24 (vc := (.slice (some ⟨cb, co, none⟩) n c)) (pc := k) (resL_len (vm := vm) (vw := vw) h16))
  have q1 : decide ((k : Int) < 0) = false := decide_eq_false (by omega)
  have q2 : decide (n ≤ k) = false := decide_eq_false (by omega)
  have q3 : decide ((n : Int) ≤ (k : Int)) = false := decide_eq_false (by omega)
  have hk0 : (0 : Int) ≤ k := by omega
  have hk1 : (k : Int) < n := by omega
  have hS0 : w.cell? ⟨b, 24, none⟩ = some (.int .i64 (k : Int)) ∧ w.cell? ⟨b, 0, none⟩ = some (.slice (some ⟨cb, co, none⟩) n c) ∧ w.cell? ⟨cb, co + k * 5, none⟩ = some (.int .i64 op) ∧ w.cell? ⟨cb, co + k * 5 + 1, none⟩ = some (.int .i64 (id : Int)) ∧ w.cell? ⟨cb, co + k * 5 + 2, none⟩ = some (.int .i64 (ia : Int)) ∧ w.cell? ⟨cb, co + k * 5 + 3, none⟩ = some (.int .i64 (ib : Int)) ∧ w.cell? ⟨cb, co + k * 5 + 4, none⟩ = some (.int .i64 imm) := ⟨c24, c0, y0, y1, y2, y3, y4⟩
  have hS : w.drew.cell? ⟨b, 24, none⟩ = some (.int .i64 (k : Int)) ∧ w.drew.cell? ⟨b, 0, none⟩ = some (.slice (some ⟨cb, co, none⟩) n c) ∧ w.drew.cell? ⟨cb, co + k * 5, none⟩ = some (.int .i64 op) ∧ w.drew.cell? ⟨cb, co + k * 5 + 1, none⟩ = some (.int .i64 (id : Int)) ∧ w.drew.cell? ⟨cb, co + k * 5 + 2, none⟩ = some (.int .i64 (ia : Int)) ∧ w.drew.cell? ⟨cb, co + k * 5 + 3, none⟩ = some (.int .i64 (ib : Int)) ∧ w.drew.cell? ⟨cb, co + k * 5 + 4, none⟩ = some (.int .i64 imm) := hS0
  have hlt := hb.lt
  have HBB := Lib.hid hb
  have HBS := Lib.hid hBb
  have HO := Lib.hid ho
  have HFR := Lib.hid fr
  have HMB := Lib.hid hmb
  have HM := Lib.hid hm
  have HW := Lib.hid hw
  have HN := Lib.hid (show k ≤ 2000 by omega)
  have HFO := Lib.hid hform
  have HS0 := Lib.hid hS0
  obtain ⟨bi0, bi1⟩ := bi
  clear hBb hb ho fr hmb hm hw hform hi hrow c0 c24 y0 y1 y2 y3 y4 hll hS0 hn
  go_enter Try.func23, Try.ntmps23
  go_wp2_with fail
  refine wp_region_lin [(0, true), (1, true), (2, true), (3, true), (4, true), (5, true), (6, true), (7, true), (8, true), (9, true), (10, true), (11, true), (12, true), (13, true), (14, true), (15, true), (16, true)]
    (by kernel_rfl) (by kernel_rfl) rfl (by kernel_rfl) (fun x => x.cell? ⟨b, 24, none⟩ = some (.int .i64 (k : Int)) ∧ x.cell? ⟨b, 0, none⟩ = some (.slice (some ⟨cb, co, none⟩) n c) ∧ x.cell? ⟨cb, co + k * 5, none⟩ = some (.int .i64 op) ∧ x.cell? ⟨cb, co + k * 5 + 1, none⟩ = some (.int .i64 (id : Int)) ∧ x.cell? ⟨cb, co + k * 5 + 2, none⟩ = some (.int .i64 (ia : Int)) ∧ x.cell? ⟨cb, co + k * 5 + 3, none⟩ = some (.int .i64 (ib : Int)) ∧ x.cell? ⟨cb, co + k * 5 + 4, none⟩ = some (.int .i64 imm)) ?_
  simp only [List.map_cons, List.map_nil, List.getElem?_toArray, List.getElem?_cons_succ, List.getElem?_cons_zero]
  iterate 17 (refine lin_take (v := ?_) hS (by rfl) ?_ ?_; rotate_left; (intro x hx; obtain ⟨x0, x1, x2, x3, x4, x5, x6⟩ := hx; go_simp; try (with_reducible rfl)); (simp only [Act.put, List.setIfInBounds_toArray, List.set_cons_zero, List.set_cons_succ]))
  refine lin_done ?_
  clear hS
  have hS : w.drew.drew.cell? ⟨b, 24, none⟩ = some (.int .i64 (k : Int)) ∧ w.drew.drew.cell? ⟨b, 0, none⟩ = some (.slice (some ⟨cb, co, none⟩) n c) ∧ w.drew.drew.cell? ⟨cb, co + k * 5, none⟩ = some (.int .i64 op) ∧ w.drew.drew.cell? ⟨cb, co + k * 5 + 1, none⟩ = some (.int .i64 (id : Int)) ∧ w.drew.drew.cell? ⟨cb, co + k * 5 + 2, none⟩ = some (.int .i64 (ia : Int)) ∧ w.drew.drew.cell? ⟨cb, co + k * 5 + 3, none⟩ = some (.int .i64 (ib : Int)) ∧ w.drew.drew.cell? ⟨cb, co + k * 5 + 4, none⟩ = some (.int .i64 imm) := HS0.out
  go_wp2_with fail
  clear q1 q2 q3
  refine wp_region_lin [(0, true), (1, true), (2, true), (3, true), (4, true), (5, true), (6, true), (7, true), (8, true), (9, true), (10, false), (11, false)]
    (by kernel_rfl) (by kernel_rfl) rfl (by kernel_rfl) (fun x => x.cell? ⟨b, 24, none⟩ = some (.int .i64 (k : Int)) ∧ x.cell? ⟨b, 0, none⟩ = some (.slice (some ⟨cb, co, none⟩) n c) ∧ x.cell? ⟨cb, co + k * 5, none⟩ = some (.int .i64 op) ∧ x.cell? ⟨cb, co + k * 5 + 1, none⟩ = some (.int .i64 (id : Int)) ∧ x.cell? ⟨cb, co + k * 5 + 2, none⟩ = some (.int .i64 (ia : Int)) ∧ x.cell? ⟨cb, co + k * 5 + 3, none⟩ = some (.int .i64 (ib : Int)) ∧ x.cell? ⟨cb, co + k * 5 + 4, none⟩ = some (.int .i64 imm)) ?_
  simp only [List.map_cons, List.map_nil, List.getElem?_toArray, List.getElem?_cons_succ, List.getElem?_cons_zero]
  iterate 10 (refine lin_take (v := ?_) hS (by rfl) ?_ ?_; rotate_left; (intro x hx; obtain ⟨x0, x1, x2, x3, x4, x5, x6⟩ := hx; go_simp; try (with_reducible rfl)); (simp only [Act.put, List.setIfInBounds_toArray, List.set_cons_zero, List.set_cons_succ]))
  have hSa : (w.drew.drew.alloc (.cells #[.int .i64 op, .int .i64 (id : Int), .int .i64 (ia : Int), .int .i64 (ib : Int), .int .i64 imm] 44)).cell? ⟨b, 24, none⟩ = some (.int .i64 (k : Int)) ∧ (w.drew.drew.alloc (.cells #[.int .i64 op, .int .i64 (id : Int), .int .i64 (ia : Int), .int .i64 (ib : Int), .int .i64 imm] 44)).cell? ⟨b, 0, none⟩ = some (.slice (some ⟨cb, co, none⟩) n c) ∧ (w.drew.drew.alloc (.cells #[.int .i64 op, .int .i64 (id : Int), .int .i64 (ia : Int), .int .i64 (ib : Int), .int .i64 imm] 44)).cell? ⟨cb, co + k * 5, none⟩ = some (.int .i64 op) ∧ (w.drew.drew.alloc (.cells #[.int .i64 op, .int .i64 (id : Int), .int .i64 (ia : Int), .int .i64 (ib : Int), .int .i64 imm] 44)).cell? ⟨cb, co + k * 5 + 1, none⟩ = some (.int .i64 (id : Int)) ∧ (w.drew.drew.alloc (.cells #[.int .i64 op, .int .i64 (id : Int), .int .i64 (ia : Int), .int .i64 (ib : Int), .int .i64 imm] 44)).cell? ⟨cb, co + k * 5 + 2, none⟩ = some (.int .i64 (ia : Int)) ∧ (w.drew.drew.alloc (.cells #[.int .i64 op, .int .i64 (id : Int), .int .i64 (ia : Int), .int .i64 (ib : Int), .int .i64 imm] 44)).cell? ⟨cb, co + k * 5 + 3, none⟩ = some (.int .i64 (ib : Int)) ∧ (w.drew.drew.alloc (.cells #[.int .i64 op, .int .i64 (id : Int), .int .i64 (ia : Int), .int .i64 (ib : Int), .int .i64 imm] 44)).cell? ⟨cb, co + k * 5 + 4, none⟩ = some (.int .i64 imm) := by
    obtain ⟨x0, x1, x2, x3, x4, x5, x6⟩ := HS0.out
    have hcb' : cb < w.drew.drew.heap.size := Nat.lt_trans hcb hlt
    exact ⟨one_cell hlt x0, one_cell hlt x1, one_cell hcb' x2, one_cell hcb' x3, one_cell hcb' x4, one_cell hcb' x5, one_cell hcb' x6⟩
  have hSz : (w.drew.drew.alloc (.cells #[.int .i64 0, .int .i64 0, .int .i64 0, .int .i64 0, .int .i64 0] 44)).cell? ⟨b, 24, none⟩ = some (.int .i64 (k : Int)) ∧ (w.drew.drew.alloc (.cells #[.int .i64 0, .int .i64 0, .int .i64 0, .int .i64 0, .int .i64 0] 44)).cell? ⟨b, 0, none⟩ = some (.slice (some ⟨cb, co, none⟩) n c) ∧ (w.drew.drew.alloc (.cells #[.int .i64 0, .int .i64 0, .int .i64 0, .int .i64 0, .int .i64 0] 44)).cell? ⟨cb, co + k * 5, none⟩ = some (.int .i64 op) ∧ (w.drew.drew.alloc (.cells #[.int .i64 0, .int .i64 0, .int .i64 0, .int .i64 0, .int .i64 0] 44)).cell? ⟨cb, co + k * 5 + 1, none⟩ = some (.int .i64 (id : Int)) ∧ (w.drew.drew.alloc (.cells #[.int .i64 0, .int .i64 0, .int .i64 0, .int .i64 0, .int .i64 0] 44)).cell? ⟨cb, co + k * 5 + 2, none⟩ = some (.int .i64 (ia : Int)) ∧ (w.drew.drew.alloc (.cells #[.int .i64 0, .int .i64 0, .int .i64 0, .int .i64 0, .int .i64 0] 44)).cell? ⟨cb, co + k * 5 + 3, none⟩ = some (.int .i64 (ib : Int)) ∧ (w.drew.drew.alloc (.cells #[.int .i64 0, .int .i64 0, .int .i64 0, .int .i64 0, .int .i64 0] 44)).cell? ⟨cb, co + k * 5 + 4, none⟩ = some (.int .i64 imm) := by
    obtain ⟨x0, x1, x2, x3, x4, x5, x6⟩ := HS0.out
    have hcb' : cb < w.drew.drew.heap.size := Nat.lt_trans hcb hlt
    exact ⟨one_cell hlt x0, one_cell hlt x1, one_cell hcb' x2, one_cell hcb' x3, one_cell hcb' x4, one_cell hcb' x5, one_cell hcb' x6⟩
  refine lin_call hS (by rfl) (fun K hK => ?_)
  go_simp
  refine hK.out _ _ hSz (fun _ => ?_)
  clear hK K
  try simp only [Act.put, List.setIfInBounds_toArray, List.set_cons_zero, List.set_cons_succ]
  refine lin_call hSz (by rfl) (fun K hK => ?_)
  go_simp
  refine hK.out _ _ hSa (fun _ => ?_)
  clear hK K
  refine lin_done ?_
  clear hS hSz hSa hk0 hk1
  have HB2 : Hid (MBox (w.alloc (.cells #[.int .i64 op, .int .i64 (id : Int), .int .i64 (ia : Int), .int .i64 (ib : Int), .int .i64 imm] 44)).drew.drew b (machL (.slice (some ⟨cb, co, none⟩) n c) (resL r vm vw) k)) := HBB.out.alloc (.cells #[.int .i64 op, .int .i64 (id : Int), .int .i64 (ia : Int), .int .i64 (ib : Int), .int .i64 imm] 44)
  have HG2 : Hid (w.grownBy (w.alloc (.cells #[.int .i64 op, .int .i64 (id : Int), .int .i64 (ia : Int), .int .i64 (ib : Int), .int .i64 imm] 44)).drew.drew (some b)) := ⟨rfl, rfl, rfl, by simp, fun k hk _ => heap_alloc_old w _ hk⟩
  have HO2 := Lib.hid (HO.out.grownM HBB.out HG2.out)
  have HL2 := Lib.hid (show Below B w (w.alloc (.cells #[.int .i64 op, .int .i64 (id : Int), .int .i64 (ia : Int), .int .i64 (ib : Int), .int .i64 imm] 44)).drew.drew from Below.grown (Below.refl _ _) HG2.out (by have := HBS.out; omega) (fun k hk => by injection hk with hk; have := HBS.out; omega))
  have i0 : (w.alloc (.cells #[.int .i64 op, .int .i64 (id : Int), .int .i64 (ia : Int), .int .i64 (ib : Int), .int .i64 imm] 44)).drew.drew.cell? ⟨w.heap.size, 0, none⟩ = some (.int .i64 op) := by go_simp
  have i1 : (w.alloc (.cells #[.int .i64 op, .int .i64 (id : Int), .int .i64 (ia : Int), .int .i64 (ib : Int), .int .i64 imm] 44)).drew.drew.cell? ⟨w.heap.size, 1, none⟩ = some (.int .i64 (id : Int)) := by go_simp
  have i2 : (w.alloc (.cells #[.int .i64 op, .int .i64 (id : Int), .int .i64 (ia : Int), .int .i64 (ib : Int), .int .i64 imm] 44)).drew.drew.cell? ⟨w.heap.size, 2, none⟩ = some (.int .i64 (ia : Int)) := by go_simp
  have i3 : (w.alloc (.cells #[.int .i64 op, .int .i64 (id : Int), .int .i64 (ia : Int), .int .i64 (ib : Int), .int .i64 imm] 44)).drew.drew.cell? ⟨w.heap.size, 3, none⟩ = some (.int .i64 (ib : Int)) := by go_simp
  have i4 : (w.alloc (.cells #[.int .i64 op, .int .i64 (id : Int), .int .i64 (ia : Int), .int .i64 (ib : Int), .int .i64 imm] 44)).drew.drew.cell? ⟨w.heap.size, 4, none⟩ = some (.int .i64 imm) := by go_simp
  generalize (w.alloc (.cells #[.int .i64 op, .int .i64 (id : Int), .int .i64 (ia : Int), .int .i64 (ib : Int), .int .i64 imm] 44)).drew.drew = w2 at *
  clear HO HBB HG2 HS0
  skip
  skip
  go_wp2_with fail
  refine (form_any _ _).mono ?_; rintro e w7 ⟨rfl, rfl⟩
  rw [HFO.out]
  go_wp2_with fail
  refine (mPass_any (.slice (some ⟨cb, co, none⟩) n c) r vm vw k imm b _ HB2.out h16 (by have := HN.out; omega) (by omega)).mono ?_; rintro e w8 ⟨rfl, hb8, hg8⟩
  have HM8 := Lib.hid (show MachTo w b B (.slice (some ⟨cb, co, none⟩) n c) (insZ r.mem.length r k ⟨op, (id : Int), (ia : Int), (ib : Int), imm⟩) w8 from by
    unfold insZ
    rw [if_neg (by show ¬ (formZ op = 4 ∨ formZ op = 5); have := HFO.out; omega), if_neg (show ¬ formZ op ≤ 3 by have := HFO.out; omega), if_neg (show ¬ formZ op = 6 by have := HFO.out; omega), if_pos (show formZ op = 7 from HFO.out)]
    obtain ⟨vm', vw', z1, z2, z3⟩ := MachTo.of (x := (bumpZ r, (k : Int) + imm)) HB2.out HBS.out hb8 hg8 HO2.out rfl rfl h16
    exact ⟨vm', vw', z1, z2, HL2.out.trans z3⟩)
  clear hb8 hg8
  go_wp2_with fail
  exact bodyPost_end (v := .tuple #[]) (by simp [results, Try.results23]) rfl ⟨rfl, HM8.out⟩

set_option maxHeartbeats 1000000 in
theorem mStep_form8 (cb co n c k : Nat) (op imm : Int) (id ia ib : Nat) (l : List Ins) (r : Res) (vm vw : Value) (b : Nat) (w : World) (hb : MBox w b (machL (.slice (some ⟨cb, co, none⟩) n c) (resL r vm vw) k)) (B : Nat) (hBb : B ≤ b) (ho : ResOwn w B vm vw r) (hrow : Row w b 5 (.slice (some ⟨cb, co, none⟩) n c) n (codeCells l))
    (fr : ∀ x ∈ r.regs, 0 ≤ x ∧ x ≤ 4294967295) (hmb : ∀ x ∈ r.mem, 0 ≤ x ∧ x ≤ 255) (hm : r.mem.length ≤ 140737488355328) (hw : r.ws.length ≤ 1000000000000) (hn : n ≤ 2000) (hi : l[k]? = some ⟨op, (id : Int), (ia : Int), (ib : Int), imm⟩) (bd : id ≤ 15) (ba : ia ≤ 15) (bb : ib ≤ 15) (bi : -8192 ≤ imm ∧ imm ≤ 8191) (hform : formZ op = 8) :
    Calls Try.prog 23 #[.pointer (some ⟨b, 0, none⟩)] w fun e w' => e = .returned (.tuple #[]) ∧ MachTo w b B (.slice (some ⟨cb, co, none⟩) n c) (insZ r.mem.length r k ⟨op, (id : Int), (ia : Int), (ib : Int), imm⟩) w' := by
  have h16 := ho.regs
  have hll : l.length = n := by have := hrow.len; rw [codeCells_length] at this; omega
  have hkl : k < n := by have := (List.getElem?_eq_some_iff.1 hi).1; omega
  obtain ⟨y0, y1, y2, y3, y4⟩ := hrow.ins hi
  obtain ⟨hcap1, hcap2⟩ := hrow.cap
  obtain ⟨b', off', ee, hcb, _⟩ := hrow.at_ (by omega)
  simp only [Option.some.injEq, Addr.mk.injEq, and_true] at ee
  obtain ⟨rfl, rfl⟩ := ee
  have c0 := hb.cell (machL_0 (vc := (.slice (some ⟨cb, co, none⟩) n c)) (L := resL r vm vw) (pc := k))
  have c24 := hb.cell (machL_24 (vc := (.slice (some ⟨cb, co, none⟩) n c)) (pc := k) (resL_len (vm := vm) (vw := vw) h16))
  have q1 : decide ((k : Int) < 0) = false := decide_eq_false (by omega)
  have q2 : decide (n ≤ k) = false := decide_eq_false (by omega)
  have q3 : decide ((n : Int) ≤ (k : Int)) = false := decide_eq_false (by omega)
  have hk0 : (0 : Int) ≤ k := by omega
  have hk1 : (k : Int) < n := by omega
  have hS0 : w.cell? ⟨b, 24, none⟩ = some (.int .i64 (k : Int)) ∧ w.cell? ⟨b, 0, none⟩ = some (.slice (some ⟨cb, co, none⟩) n c) ∧ w.cell? ⟨cb, co + k * 5, none⟩ = some (.int .i64 op) ∧ w.cell? ⟨cb, co + k * 5 + 1, none⟩ = some (.int .i64 (id : Int)) ∧ w.cell? ⟨cb, co + k * 5 + 2, none⟩ = some (.int .i64 (ia : Int)) ∧ w.cell? ⟨cb, co + k * 5 + 3, none⟩ = some (.int .i64 (ib : Int)) ∧ w.cell? ⟨cb, co + k * 5 + 4, none⟩ = some (.int .i64 imm) := ⟨c24, c0, y0, y1, y2, y3, y4⟩
  have hS : w.drew.cell? ⟨b, 24, none⟩ = some (.int .i64 (k : Int)) ∧ w.drew.cell? ⟨b, 0, none⟩ = some (.slice (some ⟨cb, co, none⟩) n c) ∧ w.drew.cell? ⟨cb, co + k * 5, none⟩ = some (.int .i64 op) ∧ w.drew.cell? ⟨cb, co + k * 5 + 1, none⟩ = some (.int .i64 (id : Int)) ∧ w.drew.cell? ⟨cb, co + k * 5 + 2, none⟩ = some (.int .i64 (ia : Int)) ∧ w.drew.cell? ⟨cb, co + k * 5 + 3, none⟩ = some (.int .i64 (ib : Int)) ∧ w.drew.cell? ⟨cb, co + k * 5 + 4, none⟩ = some (.int .i64 imm) := hS0
  have hlt := hb.lt
  have HBB := Lib.hid hb
  have HBS := Lib.hid hBb
  have HO := Lib.hid ho
  have HFR := Lib.hid fr
  have HMB := Lib.hid hmb
  have HM := Lib.hid hm
  have HW := Lib.hid hw
  have HN := Lib.hid (show k ≤ 2000 by omega)
  have HFO := Lib.hid hform
  have HS0 := Lib.hid hS0
  obtain ⟨bi0, bi1⟩ := bi
  clear hBb hb ho fr hmb hm hw hform hi hrow c0 c24 y0 y1 y2 y3 y4 hll hS0 hn
  go_enter Try.func23, Try.ntmps23
  go_wp2_with fail
  refine wp_region_lin [(0, true), (1, true), (2, true), (3, true), (4, true), (5, true), (6, true), (7, true), (8, true), (9, true), (10, true), (11, true), (12, true), (13, true), (14, true), (15, true), (16, true)]
    (by kernel_rfl) (by kernel_rfl) rfl (by kernel_rfl) (fun x => x.cell? ⟨b, 24, none⟩ = some (.int .i64 (k : Int)) ∧ x.cell? ⟨b, 0, none⟩ = some (.slice (some ⟨cb, co, none⟩) n c) ∧ x.cell? ⟨cb, co + k * 5, none⟩ = some (.int .i64 op) ∧ x.cell? ⟨cb, co + k * 5 + 1, none⟩ = some (.int .i64 (id : Int)) ∧ x.cell? ⟨cb, co + k * 5 + 2, none⟩ = some (.int .i64 (ia : Int)) ∧ x.cell? ⟨cb, co + k * 5 + 3, none⟩ = some (.int .i64 (ib : Int)) ∧ x.cell? ⟨cb, co + k * 5 + 4, none⟩ = some (.int .i64 imm)) ?_
  simp only [List.map_cons, List.map_nil, List.getElem?_toArray, List.getElem?_cons_succ, List.getElem?_cons_zero]
  iterate 17 (refine lin_take (v := ?_) hS (by rfl) ?_ ?_; rotate_left; (intro x hx; obtain ⟨x0, x1, x2, x3, x4, x5, x6⟩ := hx; go_simp; try (with_reducible rfl)); (simp only [Act.put, List.setIfInBounds_toArray, List.set_cons_zero, List.set_cons_succ]))
  refine lin_done ?_
  clear hS
  have hS : w.drew.drew.cell? ⟨b, 24, none⟩ = some (.int .i64 (k : Int)) ∧ w.drew.drew.cell? ⟨b, 0, none⟩ = some (.slice (some ⟨cb, co, none⟩) n c) ∧ w.drew.drew.cell? ⟨cb, co + k * 5, none⟩ = some (.int .i64 op) ∧ w.drew.drew.cell? ⟨cb, co + k * 5 + 1, none⟩ = some (.int .i64 (id : Int)) ∧ w.drew.drew.cell? ⟨cb, co + k * 5 + 2, none⟩ = some (.int .i64 (ia : Int)) ∧ w.drew.drew.cell? ⟨cb, co + k * 5 + 3, none⟩ = some (.int .i64 (ib : Int)) ∧ w.drew.drew.cell? ⟨cb, co + k * 5 + 4, none⟩ = some (.int .i64 imm) := HS0.out
  go_wp2_with fail
  clear q1 q2 q3
  refine wp_region_lin [(0, true), (1, true), (2, true), (3, true), (4, true), (5, true), (6, true), (7, true), (8, true), (9, true), (10, false), (11, false)]
    (by kernel_rfl) (by kernel_rfl) rfl (by kernel_rfl) (fun x => x.cell? ⟨b, 24, none⟩ = some (.int .i64 (k : Int)) ∧ x.cell? ⟨b, 0, none⟩ = some (.slice (some ⟨cb, co, none⟩) n c) ∧ x.cell? ⟨cb, co + k * 5, none⟩ = some (.int .i64 op) ∧ x.cell? ⟨cb, co + k * 5 + 1, none⟩ = some (.int .i64 (id : Int)) ∧ x.cell? ⟨cb, co + k * 5 + 2, none⟩ = some (.int .i64 (ia : Int)) ∧ x.cell? ⟨cb, co + k * 5 + 3, none⟩ = some (.int .i64 (ib : Int)) ∧ x.cell? ⟨cb, co + k * 5 + 4, none⟩ = some (.int .i64 imm)) ?_
  simp only [List.map_cons, List.map_nil, List.getElem?_toArray, List.getElem?_cons_succ, List.getElem?_cons_zero]
  iterate 10 (refine lin_take (v := ?_) hS (by rfl) ?_ ?_; rotate_left; (intro x hx; obtain ⟨x0, x1, x2, x3, x4, x5, x6⟩ := hx; go_simp; try (with_reducible rfl)); (simp only [Act.put, List.setIfInBounds_toArray, List.set_cons_zero, List.set_cons_succ]))
  have hSa : (w.drew.drew.alloc (.cells #[.int .i64 op, .int .i64 (id : Int), .int .i64 (ia : Int), .int .i64 (ib : Int), .int .i64 imm] 44)).cell? ⟨b, 24, none⟩ = some (.int .i64 (k : Int)) ∧ (w.drew.drew.alloc (.cells #[.int .i64 op, .int .i64 (id : Int), .int .i64 (ia : Int), .int .i64 (ib : Int), .int .i64 imm] 44)).cell? ⟨b, 0, none⟩ = some (.slice (some ⟨cb, co, none⟩) n c) ∧ (w.drew.drew.alloc (.cells #[.int .i64 op, .int .i64 (id : Int), .int .i64 (ia : Int), .int .i64 (ib : Int), .int .i64 imm] 44)).cell? ⟨cb, co + k * 5, none⟩ = some (.int .i64 op) ∧ (w.drew.drew.alloc (.cells #[.int .i64 op, .int .i64 (id : Int), .int .i64 (ia : Int), .int .i64 (ib : Int), .int .i64 imm] 44)).cell? ⟨cb, co + k * 5 + 1, none⟩ = some (.int .i64 (id : Int)) ∧ (w.drew.drew.alloc (.cells #[.int .i64 op, .int .i64 (id : Int), .int .i64 (ia : Int), .int .i64 (ib : Int), .int .i64 imm] 44)).cell? ⟨cb, co + k * 5 + 2, none⟩ = some (.int .i64 (ia : Int)) ∧ (w.drew.drew.alloc (.cells #[.int .i64 op, .int .i64 (id : Int), .int .i64 (ia : Int), .int .i64 (ib : Int), .int .i64 imm] 44)).cell? ⟨cb, co + k * 5 + 3, none⟩ = some (.int .i64 (ib : Int)) ∧ (w.drew.drew.alloc (.cells #[.int .i64 op, .int .i64 (id : Int), .int .i64 (ia : Int), .int .i64 (ib : Int), .int .i64 imm] 44)).cell? ⟨cb, co + k * 5 + 4, none⟩ = some (.int .i64 imm) := by
    obtain ⟨x0, x1, x2, x3, x4, x5, x6⟩ := HS0.out
    have hcb' : cb < w.drew.drew.heap.size := Nat.lt_trans hcb hlt
    exact ⟨one_cell hlt x0, one_cell hlt x1, one_cell hcb' x2, one_cell hcb' x3, one_cell hcb' x4, one_cell hcb' x5, one_cell hcb' x6⟩
  have hSz : (w.drew.drew.alloc (.cells #[.int .i64 0, .int .i64 0, .int .i64 0, .int .i64 0, .int .i64 0] 44)).cell? ⟨b, 24, none⟩ = some (.int .i64 (k : Int)) ∧ (w.drew.drew.alloc (.cells #[.int .i64 0, .int .i64 0, .int .i64 0, .int .i64 0, .int .i64 0] 44)).cell? ⟨b, 0, none⟩ = some (.slice (some ⟨cb, co, none⟩) n c) ∧ (w.drew.drew.alloc (.cells #[.int .i64 0, .int .i64 0, .int .i64 0, .int .i64 0, .int .i64 0] 44)).cell? ⟨cb, co + k * 5, none⟩ = some (.int .i64 op) ∧ (w.drew.drew.alloc (.cells #[.int .i64 0, .int .i64 0, .int .i64 0, .int .i64 0, .int .i64 0] 44)).cell? ⟨cb, co + k * 5 + 1, none⟩ = some (.int .i64 (id : Int)) ∧ (w.drew.drew.alloc (.cells #[.int .i64 0, .int .i64 0, .int .i64 0, .int .i64 0, .int .i64 0] 44)).cell? ⟨cb, co + k * 5 + 2, none⟩ = some (.int .i64 (ia : Int)) ∧ (w.drew.drew.alloc (.cells #[.int .i64 0, .int .i64 0, .int .i64 0, .int .i64 0, .int .i64 0] 44)).cell? ⟨cb, co + k * 5 + 3, none⟩ = some (.int .i64 (ib : Int)) ∧ (w.drew.drew.alloc (.cells #[.int .i64 0, .int .i64 0, .int .i64 0, .int .i64 0, .int .i64 0] 44)).cell? ⟨cb, co + k * 5 + 4, none⟩ = some (.int .i64 imm) := by
    obtain ⟨x0, x1, x2, x3, x4, x5, x6⟩ := HS0.out
    have hcb' : cb < w.drew.drew.heap.size := Nat.lt_trans hcb hlt
    exact ⟨one_cell hlt x0, one_cell hlt x1, one_cell hcb' x2, one_cell hcb' x3, one_cell hcb' x4, one_cell hcb' x5, one_cell hcb' x6⟩
  refine lin_call hS (by rfl) (fun K hK => ?_)
  go_simp
  refine hK.out _ _ hSz (fun _ => ?_)
  clear hK K
  try simp only [Act.put, List.setIfInBounds_toArray, List.set_cons_zero, List.set_cons_succ]
  refine lin_call hSz (by rfl) (fun K hK => ?_)
  go_simp
  refine hK.out _ _ hSa (fun _ => ?_)
  clear hK K
  refine lin_done ?_
  clear hS hSz hSa hk0 hk1
  have HB2 : Hid (MBox (w.alloc (.cells #[.int .i64 op, .int .i64 (id : Int), .int .i64 (ia : Int), .int .i64 (ib : Int), .int .i64 imm] 44)).drew.drew b (machL (.slice (some ⟨cb, co, none⟩) n c) (resL r vm vw) k)) := HBB.out.alloc (.cells #[.int .i64 op, .int .i64 (id : Int), .int .i64 (ia : Int), .int .i64 (ib : Int), .int .i64 imm] 44)
  have HG2 : Hid (w.grownBy (w.alloc (.cells #[.int .i64 op, .int .i64 (id : Int), .int .i64 (ia : Int), .int .i64 (ib : Int), .int .i64 imm] 44)).drew.drew (some b)) := ⟨rfl, rfl, rfl, by simp, fun k hk _ => heap_alloc_old w _ hk⟩
  have HO2 := Lib.hid (HO.out.grownM HBB.out HG2.out)
  have HL2 := Lib.hid (show Below B w (w.alloc (.cells #[.int .i64 op, .int .i64 (id : Int), .int .i64 (ia : Int), .int .i64 (ib : Int), .int .i64 imm] 44)).drew.drew from Below.grown (Below.refl _ _) HG2.out (by have := HBS.out; omega) (fun k hk => by injection hk with hk; have := HBS.out; omega))
  have i0 : (w.alloc (.cells #[.int .i64 op, .int .i64 (id : Int), .int .i64 (ia : Int), .int .i64 (ib : Int), .int .i64 imm] 44)).drew.drew.cell? ⟨w.heap.size, 0, none⟩ = some (.int .i64 op) := by go_simp
  have i1 : (w.alloc (.cells #[.int .i64 op, .int .i64 (id : Int), .int .i64 (ia : Int), .int .i64 (ib : Int), .int .i64 imm] 44)).drew.drew.cell? ⟨w.heap.size, 1, none⟩ = some (.int .i64 (id : Int)) := by go_simp
  have i2 : (w.alloc (.cells #[.int .i64 op, .int .i64 (id : Int), .int .i64 (ia : Int), .int .i64 (ib : Int), .int .i64 imm] 44)).drew.drew.cell? ⟨w.heap.size, 2, none⟩ = some (.int .i64 (ia : Int)) := by go_simp
  have i3 : (w.alloc (.cells #[.int .i64 op, .int .i64 (id : Int), .int .i64 (ia : Int), .int .i64 (ib : Int), .int .i64 imm] 44)).drew.drew.cell? ⟨w.heap.size, 3, none⟩ = some (.int .i64 (ib : Int)) := by go_simp
  have i4 : (w.alloc (.cells #[.int .i64 op, .int .i64 (id : Int), .int .i64 (ia : Int), .int .i64 (ib : Int), .int .i64 imm] 44)).drew.drew.cell? ⟨w.heap.size, 4, none⟩ = some (.int .i64 imm) := by go_simp
  generalize (w.alloc (.cells #[.int .i64 op, .int .i64 (id : Int), .int .i64 (ia : Int), .int .i64 (ib : Int), .int .i64 imm] 44)).drew.drew = w2 at *
  clear HO HBB HG2 HS0
  have c1 := HB2.out.cell (machL_res (resL_len h16) (resL_0 (r := r) (vm := vm) (vw := vw)))
  have d1 := HB2.out.frozen (0 + 1)
  go_wp2_with fail
  refine (form_any _ _).mono ?_; rintro e w7 ⟨rfl, rfl⟩
  rw [HFO.out]
  go_wp2_with fail
  have HB3 : Hid (MBox (w2.setCell ⟨b, 0 + 1, none⟩ (.int .i64 1)) b (machL (.slice (some ⟨cb, co, none⟩) n c) (resL { r with e := 1 } vm vw) k)) := by
    have := HB2.out.setCell (0 + 1) (.int .i64 1)
    rwa [machL_set (resL_len h16) _ (by omega), resL_set0] at this
  have HG3 := Lib.hid (grown_setCell w2 b (0 + 1) (.int .i64 1) HB2.out.lt)
  clear d1 c1
  refine (mPass_any (.slice (some ⟨cb, co, none⟩) n c) { r with e := 1 } vm vw k 0 b _ HB3.out h16 (by have := HN.out; omega) (by omega)).mono ?_; rintro e w8 ⟨rfl, hb8, hg8⟩
  have HM8 := Lib.hid (show MachTo w b B (.slice (some ⟨cb, co, none⟩) n c) (insZ r.mem.length r k ⟨op, (id : Int), (ia : Int), (ib : Int), imm⟩) w8 from by
    unfold insZ
    rw [if_neg (by show ¬ (formZ op = 4 ∨ formZ op = 5); have := HFO.out; omega), if_neg (show ¬ formZ op ≤ 3 by have := HFO.out; omega), if_neg (show ¬ formZ op = 6 by have := HFO.out; omega), if_neg (show ¬ formZ op = 7 by have := HFO.out; omega)]
    rw [Int.add_zero] at hb8
    obtain ⟨vm', vw', z1, z2, z3⟩ := MachTo.of (x := (bumpZ { r with e := 1 }, (k : Int))) HB2.out HBS.out hb8 (grown_trans HG3.out hg8) HO2.out rfl rfl h16
    exact ⟨vm', vw', z1, z2, HL2.out.trans z3⟩)
  clear hb8 hg8
  go_wp2_with fail
  exact bodyPost_end (v := .tuple #[]) (by simp [results, Try.results23]) rfl ⟨rfl, HM8.out⟩
end Go.Proofs.Ytdjllgdeijdieaa.Words

/- Several texts in one: SeqStore, SeqJoin. -/
import Derived.Test.YtdjllgdeijdieaaG03
import Derived.Test.YtdjllgdeijdieaaG00
import Derived.Test.YtdjllgdeijdieaaG05
import Derived.Test.YtdjllgdeijdieaaG06
import Derived.Test.YtdjllgdeijdieaaG04

/- Contract of package seq: store. -/
namespace Go.Proofs.Ytdjllgdeijdieaa.Words
set_option maxRecDepth 100000
open Go.RowKit
set_option linter.unusedVariables false

set_option maxHeartbeats 1000000 in
theorem mStore_no (vc : Value) (r : Res) (Am : Option Addr) (cm : Nat) (vw : Value) (pc op imm : Int) (id ia ib b : Nat) (w : World) (hb : MBox w b (machL vc (resL r (.slice Am r.mem.length cm) vw) pc)) (h16 : r.regs.length = 16) (fr : ∀ x ∈ r.regs, 0 ≤ x ∧ x ≤ 4294967295) (bd : id ≤ 15) (ba : ia ≤ 15) (bb : ib ≤ 15) (bi : -8192 ≤ imm ∧ imm ≤ 8191) (hp : -100000 ≤ pc ∧ pc ≤ 100000) (hm : r.mem.length ≤ 140737488355328) (hw : r.ws.length ≤ 1000000000000) (B : Nat) (hBb : B ≤ b) (ho : ResOwn w B (.slice Am r.mem.length cm) vw r) (hk : checkZ (sizeZ op) ((valZ r.regs ia + imm) % 4294967296) r.mem.length ≠ 0) :
    Calls Try.prog 38 #[.pointer (some ⟨b, 0, none⟩), .agg #[.int .i64 op, .int .i64 (id : Int), .int .i64 (ia : Int), .int .i64 (ib : Int), .int .i64 imm]] w fun e w' => e = .returned (.tuple #[]) ∧ MBox w' b (machL vc (resL (trapZ r (checkZ (sizeZ op) ((valZ r.regs ia + imm) % 4294967296) r.mem.length) pc) (.slice Am r.mem.length cm) vw) pc) ∧ w.grownBy w' (some b) := by
  have HFR := Lib.hid fr
  have HK := Lib.hid hk
  have HM := Lib.hid hm
  clear hk hm ho hw hBb
  have hlt := hb.lt
  have va0 := valZ_range fr ia
  have vb0 := valZ_range fr ib
  obtain ⟨va, hva⟩ : ∃ v, v = valZ r.regs ia := ⟨_, rfl⟩
  obtain ⟨vb, hvb⟩ : ∃ v, v = valZ r.regs ib := ⟨_, rfl⟩
  rw [← hva] at va0
  rw [← hvb] at vb0
  have HVA := Lib.hid hva
  have HVB := Lib.hid hvb
  have i0 : (w.alloc (.cells #[.int .i64 op, .int .i64 (id : Int), .int .i64 (ia : Int), .int .i64 (ib : Int), .int .i64 imm] 44)).cell? ⟨w.heap.size, 0, none⟩ = some (.int .i64 op) := by go_simp
  have i1 : (w.alloc (.cells #[.int .i64 op, .int .i64 (id : Int), .int .i64 (ia : Int), .int .i64 (ib : Int), .int .i64 imm] 44)).cell? ⟨w.heap.size, 1, none⟩ = some (.int .i64 (id : Int)) := by go_simp
  have i2 : (w.alloc (.cells #[.int .i64 op, .int .i64 (id : Int), .int .i64 (ia : Int), .int .i64 (ib : Int), .int .i64 imm] 44)).cell? ⟨w.heap.size, 2, none⟩ = some (.int .i64 (ia : Int)) := by go_simp
  have i3 : (w.alloc (.cells #[.int .i64 op, .int .i64 (id : Int), .int .i64 (ia : Int), .int .i64 (ib : Int), .int .i64 imm] 44)).cell? ⟨w.heap.size, 3, none⟩ = some (.int .i64 (ib : Int)) := by go_simp
  have i4 : (w.alloc (.cells #[.int .i64 op, .int .i64 (id : Int), .int .i64 (ia : Int), .int .i64 (ib : Int), .int .i64 imm] 44)).cell? ⟨w.heap.size, 4, none⟩ = some (.int .i64 imm) := by go_simp
  have hz0 : w.heap.size < (w.alloc (.cells #[.int .i64 op, .int .i64 (id : Int), .int .i64 (ia : Int), .int .i64 (ib : Int), .int .i64 imm] 44)).heap.size := by simp
  have HB0 := Lib.hid (hb.alloc (.cells #[.int .i64 op, .int .i64 (id : Int), .int .i64 (ia : Int), .int .i64 (ib : Int), .int .i64 imm] 44))
  have HG0 := Lib.hid (w.grownBy_alloc (.cells #[.int .i64 op, .int .i64 (id : Int), .int .i64 (ia : Int), .int .i64 (ib : Int), .int .i64 imm] 44) (some b))
  obtain ⟨bi0, bi1⟩ := bi
  obtain ⟨hp0, hp1⟩ := hp
  obtain ⟨kd, hkd⟩ : ∃ k, k = checkZ (sizeZ op) ((valZ r.regs ia + imm) % 4294967296) r.mem.length := ⟨_, rfl⟩
  rw [← hkd]
  have HKD := Lib.hid hkd
  clear hkd
  clear hva hvb hb fr
  go_enter Try.func38, Try.ntmps38
  go_wp2_with fail
  generalize hw0 : w.alloc (.cells #[.int .i64 op, .int .i64 (id : Int), .int .i64 (ia : Int), .int .i64 (ib : Int), .int .i64 imm] 44) = w0 at *
  clear hw0
  refine (mAddr_no vc r Am cm vw pc op imm id ia ib b w0 HB0.out h16 HFR.out bd ba bb (And.intro bi0 bi1) (And.intro hp0 hp1) HM.out HK.out).mono ?_; rintro e w1 ⟨rfl, hb1, hg1⟩
  rw [← HKD.out] at hb1
  have hb1' := Lib.hid hb1
  have hg1' := Lib.hid (grown_trans HG0.out hg1)
  clear hb1 hg1 i0 i1 i2 i3 i4
  go_wp2_with fail
  exact bodyPost_ret (v := .tuple #[]) (by simp [results, Try.results38]) rfl ⟨rfl, hb1'.out, hg1'.out⟩

set_option maxHeartbeats 1000000 in
theorem mStore_31 (vc : Value) (r : Res) (Am : Option Addr) (cm : Nat) (vw : Value) (pc imm : Int) (id ia ib b : Nat) (w : World) (hb : MBox w b (machL vc (resL r (.slice Am r.mem.length cm) vw) pc)) (h16 : r.regs.length = 16) (fr : ∀ x ∈ r.regs, 0 ≤ x ∧ x ≤ 4294967295) (bd : id ≤ 15) (ba : ia ≤ 15) (bb : ib ≤ 15) (bi : -8192 ≤ imm ∧ imm ≤ 8191) (hp : -100000 ≤ pc ∧ pc ≤ 100000) (hm : r.mem.length ≤ 140737488355328) (hw : r.ws.length ≤ 1000000000000) (B : Nat) (hBb : B ≤ b) (ho : ResOwn w B (.slice Am r.mem.length cm) vw r) (hk : checkZ 4 ((valZ r.regs ia + imm) % 4294967296) r.mem.length = 0) :
    Calls Try.prog 38 #[.pointer (some ⟨b, 0, none⟩), .agg #[.int .i64 31, .int .i64 (id : Int), .int .i64 (ia : Int), .int .i64 (ib : Int), .int .i64 imm]] w fun e w' => e = .returned (.tuple #[]) ∧ ∃ vw', MBox w' b (machL vc (resL (bumpZ { r with mem := storeZ r.mem 4 ((valZ r.regs ia + imm) % 4294967296) (maskZ (valZ r.regs ib) 4), ws := r.ws ++ [⟨((valZ r.regs ia + imm) % 4294967296), 4, maskZ (valZ r.regs ib) 4⟩] }) (.slice Am r.mem.length cm) vw') (pc + 1)) ∧ ResOwn w' B (.slice Am r.mem.length cm) vw' (bumpZ { r with mem := storeZ r.mem 4 ((valZ r.regs ia + imm) % 4294967296) (maskZ (valZ r.regs ib) 4), ws := r.ws ++ [⟨((valZ r.regs ia + imm) % 4294967296), 4, maskZ (valZ r.regs ib) 4⟩] }) ∧ Below B w w' := by
  have HFR := Lib.hid fr
  have HK := Lib.hid hk
  have HO0 := Lib.hid (ho.grownM hb (w.grownBy_alloc (.cells #[.int .i64 31, .int .i64 (id : Int), .int .i64 (ia : Int), .int .i64 (ib : Int), .int .i64 imm] 44) (some b)))
  obtain ⟨k, hkk⟩ : ∃ k : Nat, ((valZ r.regs ia + imm) % 4294967296) = (k : Int) := ⟨(((valZ r.regs ia + imm) % 4294967296)).toNat, by omega⟩
  rw [hkk] at hk ⊢
  have hok : Hid (storeOk 4 (k : Int) r.mem.length = true) := decide_eq_true ⟨by omega, by omega, by omega, hk⟩
  have HKK := Lib.hid hkk
  have HM := Lib.hid hm
  have HW := Lib.hid hw
  have HBB := Lib.hid hBb
  clear hk hkk hm hw ho hBb
  have hlt := hb.lt
  have va0 := valZ_range fr ia
  have vb0 := valZ_range fr ib
  obtain ⟨va, hva⟩ : ∃ v, v = valZ r.regs ia := ⟨_, rfl⟩
  obtain ⟨vb, hvb⟩ : ∃ v, v = valZ r.regs ib := ⟨_, rfl⟩
  rw [← hva] at va0
  rw [← hvb] at vb0
  have HVA := Lib.hid hva
  have HVB := Lib.hid hvb
  have i0 : (w.alloc (.cells #[.int .i64 31, .int .i64 (id : Int), .int .i64 (ia : Int), .int .i64 (ib : Int), .int .i64 imm] 44)).cell? ⟨w.heap.size, 0, none⟩ = some (.int .i64 31) := by go_simp
  have i1 : (w.alloc (.cells #[.int .i64 31, .int .i64 (id : Int), .int .i64 (ia : Int), .int .i64 (ib : Int), .int .i64 imm] 44)).cell? ⟨w.heap.size, 1, none⟩ = some (.int .i64 (id : Int)) := by go_simp
  have i2 : (w.alloc (.cells #[.int .i64 31, .int .i64 (id : Int), .int .i64 (ia : Int), .int .i64 (ib : Int), .int .i64 imm] 44)).cell? ⟨w.heap.size, 2, none⟩ = some (.int .i64 (ia : Int)) := by go_simp
  have i3 : (w.alloc (.cells #[.int .i64 31, .int .i64 (id : Int), .int .i64 (ia : Int), .int .i64 (ib : Int), .int .i64 imm] 44)).cell? ⟨w.heap.size, 3, none⟩ = some (.int .i64 (ib : Int)) := by go_simp
  have i4 : (w.alloc (.cells #[.int .i64 31, .int .i64 (id : Int), .int .i64 (ia : Int), .int .i64 (ib : Int), .int .i64 imm] 44)).cell? ⟨w.heap.size, 4, none⟩ = some (.int .i64 imm) := by go_simp
  have hz0 : w.heap.size < (w.alloc (.cells #[.int .i64 31, .int .i64 (id : Int), .int .i64 (ia : Int), .int .i64 (ib : Int), .int .i64 imm] 44)).heap.size := by simp
  have HB0 := Lib.hid (hb.alloc (.cells #[.int .i64 31, .int .i64 (id : Int), .int .i64 (ia : Int), .int .i64 (ib : Int), .int .i64 imm] 44))
  have HG0 := Lib.hid (w.grownBy_alloc (.cells #[.int .i64 31, .int .i64 (id : Int), .int .i64 (ia : Int), .int .i64 (ib : Int), .int .i64 imm] 44) (some b))
  obtain ⟨bi0, bi1⟩ := bi
  obtain ⟨hp0, hp1⟩ := hp
  rw [← hvb]
  obtain ⟨mz, hmz⟩ : ∃ m, m = maskZ vb 4 := ⟨_, rfl⟩
  rw [← hmz]
  have hmz0 : 0 ≤ mz ∧ mz ≤ 4294967295 := by rw [hmz]; unfold maskZ; simp; omega
  have HMZ := Lib.hid hmz
  have HMZ0 := Lib.hid hmz0
  obtain ⟨i0w, hi, hz0', hz1, hz2⟩ := info_parts info_wr
  have HZ0 := Lib.hid hz0'
  have HZ1 := Lib.hid hz1
  have HZ2 := Lib.hid hz2
  have HI := Lib.hid hi
  clear hmz hmz0 hi hz0' hz1 hz2
  clear hva hvb hb fr
  go_enter Try.func38, Try.ntmps38
  go_wp2_with fail
  generalize hw0 : w.alloc (.cells #[.int .i64 31, .int .i64 (id : Int), .int .i64 (ia : Int), .int .i64 (ib : Int), .int .i64 imm] 44) = w0 at *
  clear hw0
  refine (mAddr_ok vc r Am cm vw pc 31 imm id ia ib b w0 HB0.out h16 HFR.out bd ba bb (And.intro bi0 bi1) (And.intro hp0 hp1) HM.out (show checkZ (sizeZ 31) _ _ = 0 from HK.out)).mono ?_; rintro e w1 ⟨rfl, hb1, hg1⟩
  rw [HKK.out]
  have hne : some w.heap.size ≠ some b := fun h => by injection h with h; omega
  have I0 := hg1.cell i0 hne
  have I1 := hg1.cell i1 hne
  have I2 := hg1.cell i2 hne
  have I3 := hg1.cell i3 hne
  have I4 := hg1.cell i4 hne
  have HB1 := Lib.hid hb1
  have HO1 := Lib.hid (HO0.out.grownM HB0.out hg1)
  have HG1 := Lib.hid (grown_trans HG0.out hg1)
  have hz1 : w.heap.size < w1.heap.size := Nat.lt_of_lt_of_le hz0 hg1.size
  clear hb1 hg1 i0 i1 i2 i3 i4 HB0 HG0 HO0 hne
  have hk0 : (0 : Int) ≤ k := by omega
  have hk1 : (k : Int) ≤ 4294967295 := by have := HKK.out; omega
  go_wp2_with fail
  refine (size_any 31 _).mono ?_; rintro e w2 ⟨rfl, rfl⟩
  rw [show sizeZ 31 = 4 from rfl]
  go_wp2_with fail
  refine (mRead_any vc r (.slice Am r.mem.length cm) vw pc b ib _ HB1.out h16 bb).mono ?_; rintro e w2 ⟨rfl, rfl⟩
  rw [← HVB.out]
  go_wp2_with fail
  refine (lowest_any vb 4 _ vb0.1 vb0.2 (by omega)).mono ?_; rintro e w2 ⟨rfl, rfl⟩
  rw [← HMZ.out]
  go_wp2_with fail
  have j0 : (w1.alloc (.cells #[.int .i64 (k : Int), .int .i64 4, .int .u32 mz] 38)).cell? ⟨w1.heap.size, 0, none⟩ = some (.int .i64 (k : Int)) := by go_simp
  have j1 : (w1.alloc (.cells #[.int .i64 (k : Int), .int .i64 4, .int .u32 mz] 38)).cell? ⟨w1.heap.size, 1, none⟩ = some (.int .i64 4) := by go_simp
  have j2 : (w1.alloc (.cells #[.int .i64 (k : Int), .int .i64 4, .int .u32 mz] 38)).cell? ⟨w1.heap.size, 2, none⟩ = some (.int .u32 mz) := by go_simp
  have hz2 : w1.heap.size < (w1.alloc (.cells #[.int .i64 (k : Int), .int .i64 4, .int .u32 mz] 38)).heap.size := by simp
  have hbl : b < w1.heap.size := HB1.out.lt
  have HB2 := Lib.hid (HB1.out.alloc (.cells #[.int .i64 (k : Int), .int .i64 4, .int .u32 mz] 38))
  have HO2 := Lib.hid (HO1.out.grownM HB1.out (w1.grownBy_alloc (.cells #[.int .i64 (k : Int), .int .i64 4, .int .u32 mz] 38) (some b)))
  have HG2 := Lib.hid (grown_trans HG1.out (w1.grownBy_alloc (.cells #[.int .i64 (k : Int), .int .i64 4, .int .u32 mz] 38) (some b)))
  have HNW0 : Hid (∀ g, vw.ownBlock = some g → g < w1.heap.size) := fun g hg => (HO1.out.ws.lt g hg).2
  have HNM0 : Hid (∀ g, ((.slice Am r.mem.length cm) : Value).ownBlock = some g → g < w1.heap.size) := fun g hg => (HO1.out.mem.lt g hg).2
  clear I0 I1 I2 I3 I4
  generalize w1.alloc (.cells #[.int .i64 (k : Int), .int .i64 4, .int .u32 mz] 38) = w3 at *
  generalize w1.heap.size = wb at *
  have hml : 0 < r.mem.length := by
    have := checkZ_zero (storeOk_yes hok.out).2.2.2
    omega
  obtain ⟨g, cap, hsl, hgb, hgl⟩ := own_form HO2.out.mem (by omega)
  simp only [Value.slice.injEq, true_and] at hsl
  obtain ⟨rfl, rfl⟩ := hsl
  have HML := Lib.hid hml
  clear hml
  refine (mLay_4 vc (resL r (.slice (some ⟨g, 0, none⟩) r.mem.length cm) vw) pc mz g r.mem.length cm b k r.mem w3 HB2.out (resL_len h16) (resL_21 h16) rfl B HO2.out.mem hok.out HM.out HMZ0.out).mono ?_; rintro e w5 ⟨rfl, hown5, hg5⟩
  have hgw : g < wb := HNM0.out g rfl
  have hnw : some wb ≠ some g := fun h => by injection h with h; omega
  have j0 := hg5.cell j0 hnw
  have j1 := hg5.cell j1 hnw
  have j2 := hg5.cell j2 hnw
  have HNE : Hid ((.slice (some ⟨g, 0, none⟩) r.mem.length cm : Value).ownBlock ≠ vw.ownBlock) := own_apart HO2.out.mem HO2.out.ws (by decide) rfl
  have HB5 := Lib.hid (HB2.out.grown hg5 (fun h => own_notM HO2.out.mem HB2.out ne_u8 h.symm))
  have OM := Lib.hid hown5
  have OW := Lib.hid (HO2.out.ws.kept hg5 (.inr (fun h => HNE.out h.symm)))
  have HL5 := Lib.hid (show Below B w w5 from Below.grown (Below.grown (Below.refl _ _) HG2.out (by have := HBB.out; omega) (fun k hk => by injection hk with hk; have := HBB.out; omega)) hg5 (by have := HB2.out.lt; have := HBB.out; omega) (fun k hk => by injection hk with hk; omega))
  have HNW : Hid (some wb ≠ vw.ownBlock) := fun h => by have := HNW0.out wb h.symm; omega
  have HWB : Hid (wb ≠ b) := by show wb ≠ b; omega
  have hz5 : wb < w5.heap.size := Nat.lt_of_lt_of_le hz2 hg5.size
  clear hown5 hg5 hnw
  go_wp2_with fail
  have c23 := HB5.out.cell (machL_res (resL_len h16) (resL_22 (vm := .slice (some ⟨g, 0, none⟩) r.mem.length cm) (vw := vw) h16))
  have hS : w5.drew.cell? ⟨wb, 0, none⟩ = some (.int .i64 (k : Int)) ∧ w5.drew.cell? ⟨wb, 1, none⟩ = some (.int .i64 4) ∧ w5.drew.cell? ⟨wb, 2, none⟩ = some (.int .u32 mz) := ⟨j0, j1, j2⟩
  have hi := HI.out
  have hz0 := HZ0.out
  have hz1 := HZ1.out
  have hz2 := HZ2.out
  refine wp_region_tree _ (LinT.of [(0, true), (1, true), (2, true), (3, true), (4, true), (6, true)] (.two 5 7 (LinT.of [(7, false), (8, false), (9, true), (10, true), (11, true), (12, false)] .nil) (LinT.of [(5, false), (8, false), (9, true), (10, true), (11, true), (12, false)] .nil))) (by kernel_rfl) (by kernel_rfl) rfl (by kernel_rfl) (fun x => x.cell? ⟨wb, 0, none⟩ = some (.int .i64 (k : Int)) ∧ x.cell? ⟨wb, 1, none⟩ = some (.int .i64 4) ∧ x.cell? ⟨wb, 2, none⟩ = some (.int .u32 mz)) (fun _ _ h => h) ?_
  simp only [LinT.of, LinT.look, List.getElem?_toArray, List.getElem?_cons_succ, List.getElem?_cons_zero]
  iterate 6 (refine tree_take (v := ?_) hS (by rfl) ?_ ?_; rotate_left; (intro x hx; obtain ⟨x0, x1, x2⟩ := hx; go_simp; try (with_reducible rfl)); (simp only [Act.put, List.setIfInBounds_toArray, List.set_cons_zero, List.set_cons_succ]))
  have hSa : (w5.drew.alloc (.cells #[.int .i64 (k : Int), .int .i64 4, .int .u32 mz] 38)).cell? ⟨wb, 0, none⟩ = some (.int .i64 (k : Int)) ∧ (w5.drew.alloc (.cells #[.int .i64 (k : Int), .int .i64 4, .int .u32 mz] 38)).cell? ⟨wb, 1, none⟩ = some (.int .i64 4) ∧ (w5.drew.alloc (.cells #[.int .i64 (k : Int), .int .i64 4, .int .u32 mz] 38)).cell? ⟨wb, 2, none⟩ = some (.int .u32 mz) := ⟨one_cell hz5 j0, one_cell hz5 j1, one_cell hz5 j2⟩
  refine tree_two hS (by rfl) (by rfl) (fun K hK => ?_) (fun K hK => ?_)
  · have q23 : w5.drew.cell? ⟨b, 22 + 1, none⟩ = some vw := c23
    clear hi hz0 hz1 hz2
    go_simp
    refine hK.out _ _ hS (fun _ => ?_)
    clear hK K
    try simp only [Act.put, List.setIfInBounds_toArray, List.set_cons_zero, List.set_cons_succ]
    refine tree_call hS (by rfl) (fun K hK => ?_)
    go_simp
    refine hK.out _ _ hSa (fun _ => ?_)
    clear hK K c23 q23 hS
    have hS := hSa
    try simp only [Act.put, List.setIfInBounds_toArray, List.set_cons_zero, List.set_cons_succ]
    have hi := HI.out
    have hz0 := HZ0.out
    have hz1 := HZ1.out
    have hz2 := HZ2.out
    refine tree_call hS (by rfl) (fun K hK => ?_)
    refine wp_append_row _ (.tmp 37) (.tmp 39) 32 rfl B 38 i0w (.agg #[.int .i64 0, .int .i64 0, .int .u32 0]) 3 24 Try.underlying32 hi hz0 hz1 hz2 rfl (by omega) vw r.ws.length (wsL r.ws) rfl (OW.out.alloc _) (w5.heap.size + 1) (.slice (some ⟨w5.heap.size, 0, none⟩) 1 1) 1 [.int .i64 (k : Int), .int .i64 4, .int .u32 mz] rfl (row_one3 w5.drew _ _ _ _) (by simp [Value.oneCell']) (by have := HW.out; unfold maxLen; omega) (by have := HW.out; omega) (by have := HB5.out.lt; have := HBB.out; simp; omega) ?_
    intro v' y3 hown3 hg3
    have hg4 : w5.grownBy y3 vw.ownBlock := grown_trans (show w5.grownBy (w5.drew.alloc (.cells #[.int .i64 (k : Int), .int .i64 4, .int .u32 mz] 38)) vw.ownBlock from ⟨rfl, rfl, rfl, by simp, fun k hk _ => heap_alloc_old w5.drew _ hk⟩) hg3
    have hnb : some b ≠ vw.ownBlock := fun h => own_notM OW.out HB5.out ne_wr h.symm
    have hnw : some wb ≠ vw.ownBlock := HNW.out
    have B6 := Lib.hid (HB5.out.grown hg4 hnb)
    have c23 := B6.out.cell (machL_res (resL_len h16) (resL_22 (vm := (.slice (some ⟨g, 0, none⟩) r.mem.length cm)) (vw := vw) h16))
    have f23 := B6.out.frozen (22 + 1)
    clear hS
    have hS : y3.cell? ⟨wb, 0, none⟩ = some (.int .i64 (k : Int)) ∧ y3.cell? ⟨wb, 1, none⟩ = some (.int .i64 4) ∧ y3.cell? ⟨wb, 2, none⟩ = some (.int .u32 mz) := ⟨hg4.cell j0 hnw, hg4.cell j1 hnw, hg4.cell j2 hnw⟩
    have HO3 := Lib.hid hown3
    have HM3 := Lib.hid (OM.out.kept hg4 (.inr (HNE.out)))
    have G4 := Lib.hid (show Below B w y3 from Below.grown HL5.out hg4 (Nat.le_trans HBB.out (Nat.le_of_lt HB5.out.lt)) (fun k hk => (OW.out.lt k hk).1))
    clear hown3 hg3 hg4 hnb hnw
    obtain ⟨Av, cv, rfl⟩ := (Row.of_own HO3.out).form
    refine hK.out _ _ hS (fun _ => ?_)
    clear hK K
    simp only [Act.put, List.setIfInBounds_toArray, List.set_cons_zero, List.set_cons_succ]
    iterate 3 (refine tree_take (v := ?_) hS (by rfl) ?_ ?_; rotate_left; (intro x hx; obtain ⟨x0, x1, x2⟩ := hx; go_simp; try (with_reducible rfl)); (simp only [Act.put, List.setIfInBounds_toArray, List.set_cons_zero, List.set_cons_succ]))
    refine tree_call hS (by rfl) (fun K hK => ?_)
    go_simp
    have hS7 : (y3.setCell ⟨b, 22 + 1, none⟩ (.slice Av (r.ws.length + 1) cv)).cell? ⟨wb, 0, none⟩ = some (.int .i64 (k : Int)) ∧ (y3.setCell ⟨b, 22 + 1, none⟩ (.slice Av (r.ws.length + 1) cv)).cell? ⟨wb, 1, none⟩ = some (.int .i64 4) ∧ (y3.setCell ⟨b, 22 + 1, none⟩ (.slice Av (r.ws.length + 1) cv)).cell? ⟨wb, 2, none⟩ = some (.int .u32 mz) := by
      obtain ⟨x0, x1, x2⟩ := hS
      have hwb : wb ≠ b := HWB.out
      exact ⟨cell_set_other x0 hwb, cell_set_other x1 hwb, cell_set_other x2 hwb⟩
    refine hK.out _ _ hS7 (fun _ => ?_)
    clear hK K hS c23 f23
    refine tree_done ?_
    have B7 : Hid (MBox (y3.setCell ⟨b, 22 + 1, none⟩ (.slice Av (r.ws.length + 1) cv)) b (machL vc (resL { r with mem := storeZ r.mem 4 (k : Int) mz, ws := r.ws ++ [⟨(k : Int), 4, mz⟩] } (.slice (some ⟨g, 0, none⟩) r.mem.length cm) (.slice Av (r.ws.length + 1) cv)) pc)) := by
      have := B6.out.setCell (22 + 1) (.slice Av (r.ws.length + 1) cv)
      rwa [machL_set (resL_len h16) _ (by omega), resL_set22 h16] at this
    have O7 : Hid (ResOwn (y3.setCell ⟨b, 22 + 1, none⟩ (.slice Av (r.ws.length + 1) cv)) B (.slice (some ⟨g, 0, none⟩) r.mem.length cm) (.slice Av (r.ws.length + 1) cv) { r with mem := storeZ r.mem 4 (k : Int) mz, ws := r.ws ++ [⟨(k : Int), 4, mz⟩] }) := by
      refine ⟨?_, ?_, h16⟩
      · have := own_setM (k := 22 + 1) HM3.out B6.out ne_u8 (.slice Av (r.ws.length + 1) cv)
        rw [show (storeZ r.mem 4 (k : Int) mz).length = r.mem.length from storeZ_len _ _ _ _]
        exact this
      · have := own_setM (k := 22 + 1) HO3.out B6.out ne_wr (.slice Av (r.ws.length + 1) cv)
        rw [show (r.ws ++ [(⟨(k : Int), 4, mz⟩ : Wr)]).length = r.ws.length + 1 by simp, wsL_append]
        exact this
    have G7 := Lib.hid (show Below B w (y3.setCell ⟨b, 22 + 1, none⟩ (.slice Av (r.ws.length + 1) cv)) from G4.out.setCell HBB.out _)
    generalize y3.setCell ⟨b, 22 + 1, none⟩ (.slice Av (r.ws.length + 1) cv) = w7 at *
    clear hS7 j0 j1 j2 B6 HO3 HM3 G4
    go_wp2_with fail
    refine (mPass_any vc { r with mem := storeZ r.mem 4 (k : Int) mz, ws := r.ws ++ [⟨(k : Int), 4, mz⟩] } (.slice (some ⟨g, 0, none⟩) r.mem.length cm) (.slice Av (r.ws.length + 1) cv) pc 1 b _ B7.out h16 (by omega) (by omega)).mono ?_; rintro e w9 ⟨rfl, hb9, hg9⟩
    have hb9' := Lib.hid hb9
    have O9 := Lib.hid (O7.out.grownM B7.out hg9)
    have G9 := Lib.hid (show Below B w w9 from Below.grown G7.out hg9 (Nat.le_trans HBB.out (Nat.le_of_lt B7.out.lt)) (fun k hk => by injection hk with hk; have := HBB.out; omega))
    clear hb9 hg9
    go_wp2_with fail
    exact bodyPost_end (v := .tuple #[]) (by simp [results, Try.results38]) rfl ⟨rfl, _, hb9'.out, ⟨O9.out.mem, O9.out.ws, h16⟩, G9.out⟩
  · clear hi hz0 hz1 hz2
    go_simp
    refine hK.out _ _ hSa (fun _ => ?_)
    clear hK K
    try simp only [Act.put, List.setIfInBounds_toArray, List.set_cons_zero, List.set_cons_succ]
    have q23 : (w5.alloc (.cells #[.int .i64 (k : Int), .int .i64 4, .int .u32 mz] 38)).cell? ⟨b, 22 + 1, none⟩ = some vw := one_cell HB5.out.lt c23
    refine tree_call hSa (by rfl) (fun K hK => ?_)
    go_simp
    refine hK.out _ _ hSa (fun _ => ?_)
    clear hK K c23 q23 hS
    have hS := hSa
    try simp only [Act.put, List.setIfInBounds_toArray, List.set_cons_zero, List.set_cons_succ]
    have hi := HI.out
    have hz0 := HZ0.out
    have hz1 := HZ1.out
    have hz2 := HZ2.out
    refine tree_call hS (by rfl) (fun K hK => ?_)
    refine wp_append_row _ (.tmp 37) (.tmp 39) 32 rfl B 38 i0w (.agg #[.int .i64 0, .int .i64 0, .int .u32 0]) 3 24 Try.underlying32 hi hz0 hz1 hz2 rfl (by omega) vw r.ws.length (wsL r.ws) rfl (OW.out.alloc _) (w5.heap.size + 1) (.slice (some ⟨w5.heap.size, 0, none⟩) 1 1) 1 [.int .i64 (k : Int), .int .i64 4, .int .u32 mz] rfl (row_one3 w5.drew _ _ _ _) (by simp [Value.oneCell']) (by have := HW.out; unfold maxLen; omega) (by have := HW.out; omega) (by have := HB5.out.lt; have := HBB.out; simp; omega) ?_
    intro v' y3 hown3 hg3
    have hg4 : w5.grownBy y3 vw.ownBlock := grown_trans (show w5.grownBy (w5.drew.alloc (.cells #[.int .i64 (k : Int), .int .i64 4, .int .u32 mz] 38)) vw.ownBlock from ⟨rfl, rfl, rfl, by simp, fun k hk _ => heap_alloc_old w5.drew _ hk⟩) hg3
    have hnb : some b ≠ vw.ownBlock := fun h => own_notM OW.out HB5.out ne_wr h.symm
    have hnw : some wb ≠ vw.ownBlock := HNW.out
    have B6 := Lib.hid (HB5.out.grown hg4 hnb)
    have c23 := B6.out.cell (machL_res (resL_len h16) (resL_22 (vm := (.slice (some ⟨g, 0, none⟩) r.mem.length cm)) (vw := vw) h16))
    have f23 := B6.out.frozen (22 + 1)
    clear hS
    have hS : y3.cell? ⟨wb, 0, none⟩ = some (.int .i64 (k : Int)) ∧ y3.cell? ⟨wb, 1, none⟩ = some (.int .i64 4) ∧ y3.cell? ⟨wb, 2, none⟩ = some (.int .u32 mz) := ⟨hg4.cell j0 hnw, hg4.cell j1 hnw, hg4.cell j2 hnw⟩
    have HO3 := Lib.hid hown3
    have HM3 := Lib.hid (OM.out.kept hg4 (.inr (HNE.out)))
    have G4 := Lib.hid (show Below B w y3 from Below.grown HL5.out hg4 (Nat.le_trans HBB.out (Nat.le_of_lt HB5.out.lt)) (fun k hk => (OW.out.lt k hk).1))
    clear hown3 hg3 hg4 hnb hnw
    obtain ⟨Av, cv, rfl⟩ := (Row.of_own HO3.out).form
    refine hK.out _ _ hS (fun _ => ?_)
    clear hK K
    simp only [Act.put, List.setIfInBounds_toArray, List.set_cons_zero, List.set_cons_succ]
    iterate 3 (refine tree_take (v := ?_) hS (by rfl) ?_ ?_; rotate_left; (intro x hx; obtain ⟨x0, x1, x2⟩ := hx; go_simp; try (with_reducible rfl)); (simp only [Act.put, List.setIfInBounds_toArray, List.set_cons_zero, List.set_cons_succ]))
    refine tree_call hS (by rfl) (fun K hK => ?_)
    go_simp
    have hS7 : (y3.setCell ⟨b, 22 + 1, none⟩ (.slice Av (r.ws.length + 1) cv)).cell? ⟨wb, 0, none⟩ = some (.int .i64 (k : Int)) ∧ (y3.setCell ⟨b, 22 + 1, none⟩ (.slice Av (r.ws.length + 1) cv)).cell? ⟨wb, 1, none⟩ = some (.int .i64 4) ∧ (y3.setCell ⟨b, 22 + 1, none⟩ (.slice Av (r.ws.length + 1) cv)).cell? ⟨wb, 2, none⟩ = some (.int .u32 mz) := by
      obtain ⟨x0, x1, x2⟩ := hS
      have hwb : wb ≠ b := HWB.out
      exact ⟨cell_set_other x0 hwb, cell_set_other x1 hwb, cell_set_other x2 hwb⟩
    refine hK.out _ _ hS7 (fun _ => ?_)
    clear hK K hS c23 f23
    refine tree_done ?_
    have B7 : Hid (MBox (y3.setCell ⟨b, 22 + 1, none⟩ (.slice Av (r.ws.length + 1) cv)) b (machL vc (resL { r with mem := storeZ r.mem 4 (k : Int) mz, ws := r.ws ++ [⟨(k : Int), 4, mz⟩] } (.slice (some ⟨g, 0, none⟩) r.mem.length cm) (.slice Av (r.ws.length + 1) cv)) pc)) := by
      have := B6.out.setCell (22 + 1) (.slice Av (r.ws.length + 1) cv)
      rwa [machL_set (resL_len h16) _ (by omega), resL_set22 h16] at this
    have O7 : Hid (ResOwn (y3.setCell ⟨b, 22 + 1, none⟩ (.slice Av (r.ws.length + 1) cv)) B (.slice (some ⟨g, 0, none⟩) r.mem.length cm) (.slice Av (r.ws.length + 1) cv) { r with mem := storeZ r.mem 4 (k : Int) mz, ws := r.ws ++ [⟨(k : Int), 4, mz⟩] }) := by
      refine ⟨?_, ?_, h16⟩
      · have := own_setM (k := 22 + 1) HM3.out B6.out ne_u8 (.slice Av (r.ws.length + 1) cv)
        rw [show (storeZ r.mem 4 (k : Int) mz).length = r.mem.length from storeZ_len _ _ _ _]
        exact this
      · have := own_setM (k := 22 + 1) HO3.out B6.out ne_wr (.slice Av (r.ws.length + 1) cv)
        rw [show (r.ws ++ [(⟨(k : Int), 4, mz⟩ : Wr)]).length = r.ws.length + 1 by simp, wsL_append]
        exact this
    have G7 := Lib.hid (show Below B w (y3.setCell ⟨b, 22 + 1, none⟩ (.slice Av (r.ws.length + 1) cv)) from G4.out.setCell HBB.out _)
    generalize y3.setCell ⟨b, 22 + 1, none⟩ (.slice Av (r.ws.length + 1) cv) = w7 at *
    clear hS7 j0 j1 j2 B6 HO3 HM3 G4
    go_wp2_with fail
    refine (mPass_any vc { r with mem := storeZ r.mem 4 (k : Int) mz, ws := r.ws ++ [⟨(k : Int), 4, mz⟩] } (.slice (some ⟨g, 0, none⟩) r.mem.length cm) (.slice Av (r.ws.length + 1) cv) pc 1 b _ B7.out h16 (by omega) (by omega)).mono ?_; rintro e w9 ⟨rfl, hb9, hg9⟩
    have hb9' := Lib.hid hb9
    have O9 := Lib.hid (O7.out.grownM B7.out hg9)
    have G9 := Lib.hid (show Below B w w9 from Below.grown G7.out hg9 (Nat.le_trans HBB.out (Nat.le_of_lt B7.out.lt)) (fun k hk => by injection hk with hk; have := HBB.out; omega))
    clear hb9 hg9
    go_wp2_with fail
    exact bodyPost_end (v := .tuple #[]) (by simp [results, Try.results38]) rfl ⟨rfl, _, hb9'.out, ⟨O9.out.mem, O9.out.ws, h16⟩, G9.out⟩

set_option maxHeartbeats 1000000 in
theorem mStore_32 (vc : Value) (r : Res) (Am : Option Addr) (cm : Nat) (vw : Value) (pc imm : Int) (id ia ib b : Nat) (w : World) (hb : MBox w b (machL vc (resL r (.slice Am r.mem.length cm) vw) pc)) (h16 : r.regs.length = 16) (fr : ∀ x ∈ r.regs, 0 ≤ x ∧ x ≤ 4294967295) (bd : id ≤ 15) (ba : ia ≤ 15) (bb : ib ≤ 15) (bi : -8192 ≤ imm ∧ imm ≤ 8191) (hp : -100000 ≤ pc ∧ pc ≤ 100000) (hm : r.mem.length ≤ 140737488355328) (hw : r.ws.length ≤ 1000000000000) (B : Nat) (hBb : B ≤ b) (ho : ResOwn w B (.slice Am r.mem.length cm) vw r) (hk : checkZ 2 ((valZ r.regs ia + imm) % 4294967296) r.mem.length = 0) :
    Calls Try.prog 38 #[.pointer (some ⟨b, 0, none⟩), .agg #[.int .i64 32, .int .i64 (id : Int), .int .i64 (ia : Int), .int .i64 (ib : Int), .int .i64 imm]] w fun e w' => e = .returned (.tuple #[]) ∧ ∃ vw', MBox w' b (machL vc (resL (bumpZ { r with mem := storeZ r.mem 2 ((valZ r.regs ia + imm) % 4294967296) (maskZ (valZ r.regs ib) 2), ws := r.ws ++ [⟨((valZ r.regs ia + imm) % 4294967296), 2, maskZ (valZ r.regs ib) 2⟩] }) (.slice Am r.mem.length cm) vw') (pc + 1)) ∧ ResOwn w' B (.slice Am r.mem.length cm) vw' (bumpZ { r with mem := storeZ r.mem 2 ((valZ r.regs ia + imm) % 4294967296) (maskZ (valZ r.regs ib) 2), ws := r.ws ++ [⟨((valZ r.regs ia + imm) % 4294967296), 2, maskZ (valZ r.regs ib) 2⟩] }) ∧ Below B w w' := by
  have HFR := Lib.hid fr
  have HK := Lib.hid hk
  have HO0 := Lib.hid (ho.grownM hb (w.grownBy_alloc (.cells #[.int .i64 32, .int .i64 (id : Int), .int .i64 (ia : Int), .int .i64 (ib : Int), .int .i64 imm] 44) (some b)))
  obtain ⟨k, hkk⟩ : ∃ k : Nat, ((valZ r.regs ia + imm) % 4294967296) = (k : Int) := ⟨(((valZ r.regs ia + imm) % 4294967296)).toNat, by omega⟩
  rw [hkk] at hk ⊢
  have hok : Hid (storeOk 2 (k : Int) r.mem.length = true) := decide_eq_true ⟨by omega, by omega, by omega, hk⟩
  have HKK := Lib.hid hkk
  have HM := Lib.hid hm
  have HW := Lib.hid hw
  have HBB := Lib.hid hBb
  clear hk hkk hm hw ho hBb
  have hlt := hb.lt
  have va0 := valZ_range fr ia
  have vb0 := valZ_range fr ib
  obtain ⟨va, hva⟩ : ∃ v, v = valZ r.regs ia := ⟨_, rfl⟩
  obtain ⟨vb, hvb⟩ : ∃ v, v = valZ r.regs ib := ⟨_, rfl⟩
  rw [← hva] at va0
  rw [← hvb] at vb0
  have HVA := Lib.hid hva
  have HVB := Lib.hid hvb
  have i0 : (w.alloc (.cells #[.int .i64 32, .int .i64 (id : Int), .int .i64 (ia : Int), .int .i64 (ib : Int), .int .i64 imm] 44)).cell? ⟨w.heap.size, 0, none⟩ = some (.int .i64 32) := by go_simp
  have i1 : (w.alloc (.cells #[.int .i64 32, .int .i64 (id : Int), .int .i64 (ia : Int), .int .i64 (ib : Int), .int .i64 imm] 44)).cell? ⟨w.heap.size, 1, none⟩ = some (.int .i64 (id : Int)) := by go_simp
  have i2 : (w.alloc (.cells #[.int .i64 32, .int .i64 (id : Int), .int .i64 (ia : Int), .int .i64 (ib : Int), .int .i64 imm] 44)).cell? ⟨w.heap.size, 2, none⟩ = some (.int .i64 (ia : Int)) := by go_simp
  have i3 : (w.alloc (.cells #[.int .i64 32, .int .i64 (id : Int), .int .i64 (ia : Int), .int .i64 (ib : Int), .int .i64 imm] 44)).cell? ⟨w.heap.size, 3, none⟩ = some (.int .i64 (ib : Int)) := by go_simp
  have i4 : (w.alloc (.cells #[.int .i64 32, .int .i64 (id : Int), .int .i64 (ia : Int), .int .i64 (ib : Int), .int .i64 imm] 44)).cell? ⟨w.heap.size, 4, none⟩ = some (.int .i64 imm) := by go_simp
  have hz0 : w.heap.size < (w.alloc (.cells #[.int .i64 32, .int .i64 (id : Int), .int .i64 (ia : Int), .int .i64 (ib : Int), .int .i64 imm] 44)).heap.size := by simp
  have HB0 := Lib.hid (hb.alloc (.cells #[.int .i64 32, .int .i64 (id : Int), .int .i64 (ia : Int), .int .i64 (ib : Int), .int .i64 imm] 44))
  have HG0 := Lib.hid (w.grownBy_alloc (.cells #[.int .i64 32, .int .i64 (id : Int), .int .i64 (ia : Int), .int .i64 (ib : Int), .int .i64 imm] 44) (some b))
  obtain ⟨bi0, bi1⟩ := bi
  obtain ⟨hp0, hp1⟩ := hp
  rw [← hvb]
  obtain ⟨mz, hmz⟩ : ∃ m, m = maskZ vb 2 := ⟨_, rfl⟩
  rw [← hmz]
  have hmz0 : 0 ≤ mz ∧ mz ≤ 4294967295 := by rw [hmz]; unfold maskZ; simp; omega
  have HMZ := Lib.hid hmz
  have HMZ0 := Lib.hid hmz0
  obtain ⟨i0w, hi, hz0', hz1, hz2⟩ := info_parts info_wr
  have HZ0 := Lib.hid hz0'
  have HZ1 := Lib.hid hz1
  have HZ2 := Lib.hid hz2
  have HI := Lib.hid hi
  clear hmz hmz0 hi hz0' hz1 hz2
  clear hva hvb hb fr
  go_enter Try.func38, Try.ntmps38
  go_wp2_with fail
  generalize hw0 : w.alloc (.cells #[.int .i64 32, .int .i64 (id : Int), .int .i64 (ia : Int), .int .i64 (ib : Int), .int .i64 imm] 44) = w0 at *
  clear hw0
  refine (mAddr_ok vc r Am cm vw pc 32 imm id ia ib b w0 HB0.out h16 HFR.out bd ba bb (And.intro bi0 bi1) (And.intro hp0 hp1) HM.out (show checkZ (sizeZ 32) _ _ = 0 from HK.out)).mono ?_; rintro e w1 ⟨rfl, hb1, hg1⟩
  rw [HKK.out]
  have hne : some w.heap.size ≠ some b := fun h => by injection h with h; omega
  have I0 := hg1.cell i0 hne
  have I1 := hg1.cell i1 hne
  have I2 := hg1.cell i2 hne
  have I3 := hg1.cell i3 hne
  have I4 := hg1.cell i4 hne
  have HB1 := Lib.hid hb1
  have HO1 := Lib.hid (HO0.out.grownM HB0.out hg1)
  have HG1 := Lib.hid (grown_trans HG0.out hg1)
  have hz1 : w.heap.size < w1.heap.size := Nat.lt_of_lt_of_le hz0 hg1.size
  clear hb1 hg1 i0 i1 i2 i3 i4 HB0 HG0 HO0 hne
  have hk0 : (0 : Int) ≤ k := by omega
  have hk1 : (k : Int) ≤ 4294967295 := by have := HKK.out; omega
  go_wp2_with fail
  refine (size_any 32 _).mono ?_; rintro e w2 ⟨rfl, rfl⟩
  rw [show sizeZ 32 = 2 from rfl]
  go_wp2_with fail
  refine (mRead_any vc r (.slice Am r.mem.length cm) vw pc b ib _ HB1.out h16 bb).mono ?_; rintro e w2 ⟨rfl, rfl⟩
  rw [← HVB.out]
  go_wp2_with fail
  refine (lowest_any vb 2 _ vb0.1 vb0.2 (by omega)).mono ?_; rintro e w2 ⟨rfl, rfl⟩
  rw [← HMZ.out]
  go_wp2_with fail
  have j0 : (w1.alloc (.cells #[.int .i64 (k : Int), .int .i64 2, .int .u32 mz] 38)).cell? ⟨w1.heap.size, 0, none⟩ = some (.int .i64 (k : Int)) := by go_simp
  have j1 : (w1.alloc (.cells #[.int .i64 (k : Int), .int .i64 2, .int .u32 mz] 38)).cell? ⟨w1.heap.size, 1, none⟩ = some (.int .i64 2) := by go_simp
  have j2 : (w1.alloc (.cells #[.int .i64 (k : Int), .int .i64 2, .int .u32 mz] 38)).cell? ⟨w1.heap.size, 2, none⟩ = some (.int .u32 mz) := by go_simp
  have hz2 : w1.heap.size < (w1.alloc (.cells #[.int .i64 (k : Int), .int .i64 2, .int .u32 mz] 38)).heap.size := by simp
  have hbl : b < w1.heap.size := HB1.out.lt
  have HB2 := Lib.hid (HB1.out.alloc (.cells #[.int .i64 (k : Int), .int .i64 2, .int .u32 mz] 38))
  have HO2 := Lib.hid (HO1.out.grownM HB1.out (w1.grownBy_alloc (.cells #[.int .i64 (k : Int), .int .i64 2, .int .u32 mz] 38) (some b)))
  have HG2 := Lib.hid (grown_trans HG1.out (w1.grownBy_alloc (.cells #[.int .i64 (k : Int), .int .i64 2, .int .u32 mz] 38) (some b)))
  have HNW0 : Hid (∀ g, vw.ownBlock = some g → g < w1.heap.size) := fun g hg => (HO1.out.ws.lt g hg).2
  have HNM0 : Hid (∀ g, ((.slice Am r.mem.length cm) : Value).ownBlock = some g → g < w1.heap.size) := fun g hg => (HO1.out.mem.lt g hg).2
  clear I0 I1 I2 I3 I4
  generalize w1.alloc (.cells #[.int .i64 (k : Int), .int .i64 2, .int .u32 mz] 38) = w3 at *
  generalize w1.heap.size = wb at *
  have hml : 0 < r.mem.length := by
    have := checkZ_zero (storeOk_yes hok.out).2.2.2
    omega
  obtain ⟨g, cap, hsl, hgb, hgl⟩ := own_form HO2.out.mem (by omega)
  simp only [Value.slice.injEq, true_and] at hsl
  obtain ⟨rfl, rfl⟩ := hsl
  have HML := Lib.hid hml
  clear hml
  refine (mLay_2 vc (resL r (.slice (some ⟨g, 0, none⟩) r.mem.length cm) vw) pc mz g r.mem.length cm b k r.mem w3 HB2.out (resL_len h16) (resL_21 h16) rfl B HO2.out.mem hok.out HM.out HMZ0.out).mono ?_; rintro e w5 ⟨rfl, hown5, hg5⟩
  have hgw : g < wb := HNM0.out g rfl
  have hnw : some wb ≠ some g := fun h => by injection h with h; omega
  have j0 := hg5.cell j0 hnw
  have j1 := hg5.cell j1 hnw
  have j2 := hg5.cell j2 hnw
  have HNE : Hid ((.slice (some ⟨g, 0, none⟩) r.mem.length cm : Value).ownBlock ≠ vw.ownBlock) := own_apart HO2.out.mem HO2.out.ws (by decide) rfl
  have HB5 := Lib.hid (HB2.out.grown hg5 (fun h => own_notM HO2.out.mem HB2.out ne_u8 h.symm))
  have OM := Lib.hid hown5
  have OW := Lib.hid (HO2.out.ws.kept hg5 (.inr (fun h => HNE.out h.symm)))
  have HL5 := Lib.hid (show Below B w w5 from Below.grown (Below.grown (Below.refl _ _) HG2.out (by have := HBB.out; omega) (fun k hk => by injection hk with hk; have := HBB.out; omega)) hg5 (by have := HB2.out.lt; have := HBB.out; omega) (fun k hk => by injection hk with hk; omega))
  have HNW : Hid (some wb ≠ vw.ownBlock) := fun h => by have := HNW0.out wb h.symm; omega
  have HWB : Hid (wb ≠ b) := by show wb ≠ b; omega
  have hz5 : wb < w5.heap.size := Nat.lt_of_lt_of_le hz2 hg5.size
  clear hown5 hg5 hnw
  go_wp2_with fail
  have c23 := HB5.out.cell (machL_res (resL_len h16) (resL_22 (vm := .slice (some ⟨g, 0, none⟩) r.mem.length cm) (vw := vw) h16))
  have hS : w5.drew.cell? ⟨wb, 0, none⟩ = some (.int .i64 (k : Int)) ∧ w5.drew.cell? ⟨wb, 1, none⟩ = some (.int .i64 2) ∧ w5.drew.cell? ⟨wb, 2, none⟩ = some (.int .u32 mz) := ⟨j0, j1, j2⟩
  have hi := HI.out
  have hz0 := HZ0.out
  have hz1 := HZ1.out
  have hz2 := HZ2.out
  refine wp_region_tree _ (LinT.of [(0, true), (1, true), (2, true), (3, true), (4, true), (6, true)] (.two 5 7 (LinT.of [(7, false), (8, false), (9, true), (10, true), (11, true), (12, false)] .nil) (LinT.of [(5, false), (8, false), (9, true), (10, true), (11, true), (12, false)] .nil))) (by kernel_rfl) (by kernel_rfl) rfl (by kernel_rfl) (fun x => x.cell? ⟨wb, 0, none⟩ = some (.int .i64 (k : Int)) ∧ x.cell? ⟨wb, 1, none⟩ = some (.int .i64 2) ∧ x.cell? ⟨wb, 2, none⟩ = some (.int .u32 mz)) (fun _ _ h => h) ?_
  simp only [LinT.of, LinT.look, List.getElem?_toArray, List.getElem?_cons_succ, List.getElem?_cons_zero]
  iterate 6 (refine tree_take (v := ?_) hS (by rfl) ?_ ?_; rotate_left; (intro x hx; obtain ⟨x0, x1, x2⟩ := hx; go_simp; try (with_reducible rfl)); (simp only [Act.put, List.setIfInBounds_toArray, List.set_cons_zero, List.set_cons_succ]))
  have hSa : (w5.drew.alloc (.cells #[.int .i64 (k : Int), .int .i64 2, .int .u32 mz] 38)).cell? ⟨wb, 0, none⟩ = some (.int .i64 (k : Int)) ∧ (w5.drew.alloc (.cells #[.int .i64 (k : Int), .int .i64 2, .int .u32 mz] 38)).cell? ⟨wb, 1, none⟩ = some (.int .i64 2) ∧ (w5.drew.alloc (.cells #[.int .i64 (k : Int), .int .i64 2, .int .u32 mz] 38)).cell? ⟨wb, 2, none⟩ = some (.int .u32 mz) := ⟨one_cell hz5 j0, one_cell hz5 j1, one_cell hz5 j2⟩
  refine tree_two hS (by rfl) (by rfl) (fun K hK => ?_) (fun K hK => ?_)
  · have q23 : w5.drew.cell? ⟨b, 22 + 1, none⟩ = some vw := c23
    clear hi hz0 hz1 hz2
    go_simp
    refine hK.out _ _ hS (fun _ => ?_)
    clear hK K
    try simp only [Act.put, List.setIfInBounds_toArray, List.set_cons_zero, List.set_cons_succ]
    refine tree_call hS (by rfl) (fun K hK => ?_)
    go_simp
    refine hK.out _ _ hSa (fun _ => ?_)
    clear hK K c23 q23 hS
    have hS := hSa
    try simp only [Act.put, List.setIfInBounds_toArray, List.set_cons_zero, List.set_cons_succ]
    have hi := HI.out
    have hz0 := HZ0.out
    have hz1 := HZ1.out
    have hz2 := HZ2.out
    refine tree_call hS (by rfl) (fun K hK => ?_)
    refine wp_append_row _ (.tmp 37) (.tmp 39) 32 rfl B 38 i0w (.agg #[.int .i64 0, .int .i64 0, .int .u32 0]) 3 24 Try.underlying32 hi hz0 hz1 hz2 rfl (by omega) vw r.ws.length (wsL r.ws) rfl (OW.out.alloc _) (w5.heap.size + 1) (.slice (some ⟨w5.heap.size, 0, none⟩) 1 1) 1 [.int .i64 (k : Int), .int .i64 2, .int .u32 mz] rfl (row_one3 w5.drew _ _ _ _) (by simp [Value.oneCell']) (by have := HW.out; unfold maxLen; omega) (by have := HW.out; omega) (by have := HB5.out.lt; have := HBB.out; simp; omega) ?_
    intro v' y3 hown3 hg3
    have hg4 : w5.grownBy y3 vw.ownBlock := grown_trans (show w5.grownBy (w5.drew.alloc (.cells #[.int .i64 (k : Int), .int .i64 2, .int .u32 mz] 38)) vw.ownBlock from ⟨rfl, rfl, rfl, by simp, fun k hk _ => heap_alloc_old w5.drew _ hk⟩) hg3
    have hnb : some b ≠ vw.ownBlock := fun h => own_notM OW.out HB5.out ne_wr h.symm
    have hnw : some wb ≠ vw.ownBlock := HNW.out
    have B6 := Lib.hid (HB5.out.grown hg4 hnb)
    have c23 := B6.out.cell (machL_res (resL_len h16) (resL_22 (vm := (.slice (some ⟨g, 0, none⟩) r.mem.length cm)) (vw := vw) h16))
    have f23 := B6.out.frozen (22 + 1)
    clear hS
    have hS : y3.cell? ⟨wb, 0, none⟩ = some (.int .i64 (k : Int)) ∧ y3.cell? ⟨wb, 1, none⟩ = some (.int .i64 2) ∧ y3.cell? ⟨wb, 2, none⟩ = some (.int .u32 mz) := ⟨hg4.cell j0 hnw, hg4.cell j1 hnw, hg4.cell j2 hnw⟩
    have HO3 := Lib.hid hown3
    have HM3 := Lib.hid (OM.out.kept hg4 (.inr (HNE.out)))
    have G4 := Lib.hid (show Below B w y3 from Below.grown HL5.out hg4 (Nat.le_trans HBB.out (Nat.le_of_lt HB5.out.lt)) (fun k hk => (OW.out.lt k hk).1))
    clear hown3 hg3 hg4 hnb hnw
    obtain ⟨Av, cv, rfl⟩ := (Row.of_own HO3.out).form
    refine hK.out _ _ hS (fun _ => ?_)
    clear hK K
    simp only [Act.put, List.setIfInBounds_toArray, List.set_cons_zero, List.set_cons_succ]
    iterate 3 (refine tree_take (v := ?_) hS (by rfl) ?_ ?_; rotate_left; (intro x hx; obtain ⟨x0, x1, x2⟩ := hx; go_simp; try (with_reducible rfl)); (simp only [Act.put, List.setIfInBounds_toArray, List.set_cons_zero, List.set_cons_succ]))
    refine tree_call hS (by rfl) (fun K hK => ?_)
    go_simp
    have hS7 : (y3.setCell ⟨b, 22 + 1, none⟩ (.slice Av (r.ws.length + 1) cv)).cell? ⟨wb, 0, none⟩ = some (.int .i64 (k : Int)) ∧ (y3.setCell ⟨b, 22 + 1, none⟩ (.slice Av (r.ws.length + 1) cv)).cell? ⟨wb, 1, none⟩ = some (.int .i64 2) ∧ (y3.setCell ⟨b, 22 + 1, none⟩ (.slice Av (r.ws.length + 1) cv)).cell? ⟨wb, 2, none⟩ = some (.int .u32 mz) := by
      obtain ⟨x0, x1, x2⟩ := hS
      have hwb : wb ≠ b := HWB.out
      exact ⟨cell_set_other x0 hwb, cell_set_other x1 hwb, cell_set_other x2 hwb⟩
    refine hK.out _ _ hS7 (fun _ => ?_)
    clear hK K hS c23 f23
    refine tree_done ?_
    have B7 : Hid (MBox (y3.setCell ⟨b, 22 + 1, none⟩ (.slice Av (r.ws.length + 1) cv)) b (machL vc (resL { r with mem := storeZ r.mem 2 (k : Int) mz, ws := r.ws ++ [⟨(k : Int), 2, mz⟩] } (.slice (some ⟨g, 0, none⟩) r.mem.length cm) (.slice Av (r.ws.length + 1) cv)) pc)) := by
      have := B6.out.setCell (22 + 1) (.slice Av (r.ws.length + 1) cv)
      rwa [machL_set (resL_len h16) _ (by omega), resL_set22 h16] at this
    have O7 : Hid (ResOwn (y3.setCell ⟨b, 22 + 1, none⟩ (.slice Av (r.ws.length + 1) cv)) B (.slice (some ⟨g, 0, none⟩) r.mem.length cm) (.slice Av (r.ws.length + 1) cv) { r with mem := storeZ r.mem 2 (k : Int) mz, ws := r.ws ++ [⟨(k : Int), 2, mz⟩] }) := by
      refine ⟨?_, ?_, h16⟩
      · have := own_setM (k := 22 + 1) HM3.out B6.out ne_u8 (.slice Av (r.ws.length + 1) cv)
        rw [show (storeZ r.mem 2 (k : Int) mz).length = r.mem.length from storeZ_len _ _ _ _]
        exact this
      · have := own_setM (k := 22 + 1) HO3.out B6.out ne_wr (.slice Av (r.ws.length + 1) cv)
        rw [show (r.ws ++ [(⟨(k : Int), 2, mz⟩ : Wr)]).length = r.ws.length + 1 by simp, wsL_append]
        exact this
    have G7 := Lib.hid (show Below B w (y3.setCell ⟨b, 22 + 1, none⟩ (.slice Av (r.ws.length + 1) cv)) from G4.out.setCell HBB.out _)
    generalize y3.setCell ⟨b, 22 + 1, none⟩ (.slice Av (r.ws.length + 1) cv) = w7 at *
    clear hS7 j0 j1 j2 B6 HO3 HM3 G4
    go_wp2_with fail
    refine (mPass_any vc { r with mem := storeZ r.mem 2 (k : Int) mz, ws := r.ws ++ [⟨(k : Int), 2, mz⟩] } (.slice (some ⟨g, 0, none⟩) r.mem.length cm) (.slice Av (r.ws.length + 1) cv) pc 1 b _ B7.out h16 (by omega) (by omega)).mono ?_; rintro e w9 ⟨rfl, hb9, hg9⟩
    have hb9' := Lib.hid hb9
    have O9 := Lib.hid (O7.out.grownM B7.out hg9)
    have G9 := Lib.hid (show Below B w w9 from Below.grown G7.out hg9 (Nat.le_trans HBB.out (Nat.le_of_lt B7.out.lt)) (fun k hk => by injection hk with hk; have := HBB.out; omega))
    clear hb9 hg9
    go_wp2_with fail
    exact bodyPost_end (v := .tuple #[]) (by simp [results, Try.results38]) rfl ⟨rfl, _, hb9'.out, ⟨O9.out.mem, O9.out.ws, h16⟩, G9.out⟩
  · clear hi hz0 hz1 hz2
    go_simp
    refine hK.out _ _ hSa (fun _ => ?_)
    clear hK K
    try simp only [Act.put, List.setIfInBounds_toArray, List.set_cons_zero, List.set_cons_succ]
    have q23 : (w5.alloc (.cells #[.int .i64 (k : Int), .int .i64 2, .int .u32 mz] 38)).cell? ⟨b, 22 + 1, none⟩ = some vw := one_cell HB5.out.lt c23
    refine tree_call hSa (by rfl) (fun K hK => ?_)
    go_simp
    refine hK.out _ _ hSa (fun _ => ?_)
    clear hK K c23 q23 hS
    have hS := hSa
    try simp only [Act.put, List.setIfInBounds_toArray, List.set_cons_zero, List.set_cons_succ]
    have hi := HI.out
    have hz0 := HZ0.out
    have hz1 := HZ1.out
    have hz2 := HZ2.out
    refine tree_call hS (by rfl) (fun K hK => ?_)
    refine wp_append_row _ (.tmp 37) (.tmp 39) 32 rfl B 38 i0w (.agg #[.int .i64 0, .int .i64 0, .int .u32 0]) 3 24 Try.underlying32 hi hz0 hz1 hz2 rfl (by omega) vw r.ws.length (wsL r.ws) rfl (OW.out.alloc _) (w5.heap.size + 1) (.slice (some ⟨w5.heap.size, 0, none⟩) 1 1) 1 [.int .i64 (k : Int), .int .i64 2, .int .u32 mz] rfl (row_one3 w5.drew _ _ _ _) (by simp [Value.oneCell']) (by have := HW.out; unfold maxLen; omega) (by have := HW.out; omega) (by have := HB5.out.lt; have := HBB.out; simp; omega) ?_
    intro v' y3 hown3 hg3
    have hg4 : w5.grownBy y3 vw.ownBlock := grown_trans (show w5.grownBy (w5.drew.alloc (.cells #[.int .i64 (k : Int), .int .i64 2, .int .u32 mz] 38)) vw.ownBlock from ⟨rfl, rfl, rfl, by simp, fun k hk _ => heap_alloc_old w5.drew _ hk⟩) hg3
    have hnb : some b ≠ vw.ownBlock := fun h => own_notM OW.out HB5.out ne_wr h.symm
    have hnw : some wb ≠ vw.ownBlock := HNW.out
    have B6 := Lib.hid (HB5.out.grown hg4 hnb)
    have c23 := B6.out.cell (machL_res (resL_len h16) (resL_22 (vm := (.slice (some ⟨g, 0, none⟩) r.mem.length cm)) (vw := vw) h16))
    have f23 := B6.out.frozen (22 + 1)
    clear hS
    have hS : y3.cell? ⟨wb, 0, none⟩ = some (.int .i64 (k : Int)) ∧ y3.cell? ⟨wb, 1, none⟩ = some (.int .i64 2) ∧ y3.cell? ⟨wb, 2, none⟩ = some (.int .u32 mz) := ⟨hg4.cell j0 hnw, hg4.cell j1 hnw, hg4.cell j2 hnw⟩
    have HO3 := Lib.hid hown3
    have HM3 := Lib.hid (OM.out.kept hg4 (.inr (HNE.out)))
    have G4 := Lib.hid (show Below B w y3 from Below.grown HL5.out hg4 (Nat.le_trans HBB.out (Nat.le_of_lt HB5.out.lt)) (fun k hk => (OW.out.lt k hk).1))
    clear hown3 hg3 hg4 hnb hnw
    obtain ⟨Av, cv, rfl⟩ := (Row.of_own HO3.out).form
    refine hK.out _ _ hS (fun _ => ?_)
    clear hK K
    simp only [Act.put, List.setIfInBounds_toArray, List.set_cons_zero, List.set_cons_succ]
    iterate 3 (refine tree_take (v := ?_) hS (by rfl) ?_ ?_; rotate_left; (intro x hx; obtain ⟨x0, x1, x2⟩ := hx; go_simp; try (with_reducible rfl)); (simp only [Act.put, List.setIfInBounds_toArray, List.set_cons_zero, List.set_cons_succ]))
    refine tree_call hS (by rfl) (fun K hK => ?_)
    go_simp
    have hS7 : (y3.setCell ⟨b, 22 + 1, none⟩ (.slice Av (r.ws.length + 1) cv)).cell? ⟨wb, 0, none⟩ = some (.int .i64 (k : Int)) ∧ (y3.setCell ⟨b, 22 + 1, none⟩ (.slice Av (r.ws.length + 1) cv)).cell? ⟨wb, 1, none⟩ = some (.int .i64 2) ∧ (y3.setCell ⟨b, 22 + 1, none⟩ (.slice Av (r.ws.length + 1) cv)).cell? ⟨wb, 2, none⟩ = some (.int .u32 mz) := by
      obtain ⟨x0, x1, x2⟩ := hS
      have hwb : wb ≠ b := HWB.out
      exact ⟨cell_set_other x0 hwb, cell_set_other x1 hwb, cell_set_other x2 hwb⟩
    refine hK.out _ _ hS7 (fun _ => ?_)
    clear hK K hS c23 f23
    refine tree_done ?_
    have B7 : Hid (MBox (y3.setCell ⟨b, 22 + 1, none⟩ (.slice Av (r.ws.length + 1) cv)) b (machL vc (resL { r with mem := storeZ r.mem 2 (k : Int) mz, ws := r.ws ++ [⟨(k : Int), 2, mz⟩] } (.slice (some ⟨g, 0, none⟩) r.mem.length cm) (.slice Av (r.ws.length + 1) cv)) pc)) := by
      have := B6.out.setCell (22 + 1) (.slice Av (r.ws.length + 1) cv)
      rwa [machL_set (resL_len h16) _ (by omega), resL_set22 h16] at this
    have O7 : Hid (ResOwn (y3.setCell ⟨b, 22 + 1, none⟩ (.slice Av (r.ws.length + 1) cv)) B (.slice (some ⟨g, 0, none⟩) r.mem.length cm) (.slice Av (r.ws.length + 1) cv) { r with mem := storeZ r.mem 2 (k : Int) mz, ws := r.ws ++ [⟨(k : Int), 2, mz⟩] }) := by
      refine ⟨?_, ?_, h16⟩
      · have := own_setM (k := 22 + 1) HM3.out B6.out ne_u8 (.slice Av (r.ws.length + 1) cv)
        rw [show (storeZ r.mem 2 (k : Int) mz).length = r.mem.length from storeZ_len _ _ _ _]
        exact this
      · have := own_setM (k := 22 + 1) HO3.out B6.out ne_wr (.slice Av (r.ws.length + 1) cv)
        rw [show (r.ws ++ [(⟨(k : Int), 2, mz⟩ : Wr)]).length = r.ws.length + 1 by simp, wsL_append]
        exact this
    have G7 := Lib.hid (show Below B w (y3.setCell ⟨b, 22 + 1, none⟩ (.slice Av (r.ws.length + 1) cv)) from G4.out.setCell HBB.out _)
    generalize y3.setCell ⟨b, 22 + 1, none⟩ (.slice Av (r.ws.length + 1) cv) = w7 at *
    clear hS7 j0 j1 j2 B6 HO3 HM3 G4
    go_wp2_with fail
    refine (mPass_any vc { r with mem := storeZ r.mem 2 (k : Int) mz, ws := r.ws ++ [⟨(k : Int), 2, mz⟩] } (.slice (some ⟨g, 0, none⟩) r.mem.length cm) (.slice Av (r.ws.length + 1) cv) pc 1 b _ B7.out h16 (by omega) (by omega)).mono ?_; rintro e w9 ⟨rfl, hb9, hg9⟩
    have hb9' := Lib.hid hb9
    have O9 := Lib.hid (O7.out.grownM B7.out hg9)
    have G9 := Lib.hid (show Below B w w9 from Below.grown G7.out hg9 (Nat.le_trans HBB.out (Nat.le_of_lt B7.out.lt)) (fun k hk => by injection hk with hk; have := HBB.out; omega))
    clear hb9 hg9
    go_wp2_with fail
    exact bodyPost_end (v := .tuple #[]) (by simp [results, Try.results38]) rfl ⟨rfl, _, hb9'.out, ⟨O9.out.mem, O9.out.ws, h16⟩, G9.out⟩

set_option maxHeartbeats 1000000 in
theorem mStore_33 (vc : Value) (r : Res) (Am : Option Addr) (cm : Nat) (vw : Value) (pc imm : Int) (id ia ib b : Nat) (w : World) (hb : MBox w b (machL vc (resL r (.slice Am r.mem.length cm) vw) pc)) (h16 : r.regs.length = 16) (fr : ∀ x ∈ r.regs, 0 ≤ x ∧ x ≤ 4294967295) (bd : id ≤ 15) (ba : ia ≤ 15) (bb : ib ≤ 15) (bi : -8192 ≤ imm ∧ imm ≤ 8191) (hp : -100000 ≤ pc ∧ pc ≤ 100000) (hm : r.mem.length ≤ 140737488355328) (hw : r.ws.length ≤ 1000000000000) (B : Nat) (hBb : B ≤ b) (ho : ResOwn w B (.slice Am r.mem.length cm) vw r) (hk : checkZ 1 ((valZ r.regs ia + imm) % 4294967296) r.mem.length = 0) :
    Calls Try.prog 38 #[.pointer (some ⟨b, 0, none⟩), .agg #[.int .i64 33, .int .i64 (id : Int), .int .i64 (ia : Int), .int .i64 (ib : Int), .int .i64 imm]] w fun e w' => e = .returned (.tuple #[]) ∧ ∃ vw', MBox w' b (machL vc (resL (bumpZ { r with mem := storeZ r.mem 1 ((valZ r.regs ia + imm) % 4294967296) (maskZ (valZ r.regs ib) 1), ws := r.ws ++ [⟨((valZ r.regs ia + imm) % 4294967296), 1, maskZ (valZ r.regs ib) 1⟩] }) (.slice Am r.mem.length cm) vw') (pc + 1)) ∧ ResOwn w' B (.slice Am r.mem.length cm) vw' (bumpZ { r with mem := storeZ r.mem 1 ((valZ r.regs ia + imm) % 4294967296) (maskZ (valZ r.regs ib) 1), ws := r.ws ++ [⟨((valZ r.regs ia + imm) % 4294967296), 1, maskZ (valZ r.regs ib) 1⟩] }) ∧ Below B w w' := by
  have HFR := Lib.hid fr
  have HK := Lib.hid hk
  have HO0 := Lib.hid (ho.grownM hb (w.grownBy_alloc (.cells #[.int .i64 33, .int .i64 (id : Int), .int .i64 (ia : Int), .int .i64 (ib : Int), .int .i64 imm] 44) (some b)))
  obtain ⟨k, hkk⟩ : ∃ k : Nat, ((valZ r.regs ia + imm) % 4294967296) = (k : Int) := ⟨(((valZ r.regs ia + imm) % 4294967296)).toNat, by omega⟩
  rw [hkk] at hk ⊢
  have hok : Hid (storeOk 1 (k : Int) r.mem.length = true) := decide_eq_true ⟨by omega, by omega, by omega, hk⟩
  have HKK := Lib.hid hkk
  have HM := Lib.hid hm
  have HW := Lib.hid hw
  have HBB := Lib.hid hBb
  clear hk hkk hm hw ho hBb
  have hlt := hb.lt
  have va0 := valZ_range fr ia
  have vb0 := valZ_range fr ib
  obtain ⟨va, hva⟩ : ∃ v, v = valZ r.regs ia := ⟨_, rfl⟩
  obtain ⟨vb, hvb⟩ : ∃ v, v = valZ r.regs ib := ⟨_, rfl⟩
  rw [← hva] at va0
  rw [← hvb] at vb0
  have HVA := Lib.hid hva
  have HVB := Lib.hid hvb
  have i0 : (w.alloc (.cells #[.int .i64 33, .int .i64 (id : Int), .int .i64 (ia : Int), .int .i64 (ib : Int), .int .i64 imm] 44)).cell? ⟨w.heap.size, 0, none⟩ = some (.int .i64 33) := by go_simp
  have i1 : (w.alloc (.cells #[.int .i64 33, .int .i64 (id : Int), .int .i64 (ia : Int), .int .i64 (ib : Int), .int .i64 imm] 44)).cell? ⟨w.heap.size, 1, none⟩ = some (.int .i64 (id : Int)) := by go_simp
  have i2 : (w.alloc (.cells #[.int .i64 33, .int .i64 (id : Int), .int .i64 (ia : Int), .int .i64 (ib : Int), .int .i64 imm] 44)).cell? ⟨w.heap.size, 2, none⟩ = some (.int .i64 (ia : Int)) := by go_simp
  have i3 : (w.alloc (.cells #[.int .i64 33, .int .i64 (id : Int), .int .i64 (ia : Int), .int .i64 (ib : Int), .int .i64 imm] 44)).cell? ⟨w.heap.size, 3, none⟩ = some (.int .i64 (ib : Int)) := by go_simp
  have i4 : (w.alloc (.cells #[.int .i64 33, .int .i64 (id : Int), .int .i64 (ia : Int), .int .i64 (ib : Int), .int .i64 imm] 44)).cell? ⟨w.heap.size, 4, none⟩ = some (.int .i64 imm) := by go_simp
  have hz0 : w.heap.size < (w.alloc (.cells #[.int .i64 33, .int .i64 (id : Int), .int .i64 (ia : Int), .int .i64 (ib : Int), .int .i64 imm] 44)).heap.size := by simp
  have HB0 := Lib.hid (hb.alloc (.cells #[.int .i64 33, .int .i64 (id : Int), .int .i64 (ia : Int), .int .i64 (ib : Int), .int .i64 imm] 44))
  have HG0 := Lib.hid (w.grownBy_alloc (.cells #[.int .i64 33, .int .i64 (id : Int), .int .i64 (ia : Int), .int .i64 (ib : Int), .int .i64 imm] 44) (some b))
  obtain ⟨bi0, bi1⟩ := bi
  obtain ⟨hp0, hp1⟩ := hp
  rw [← hvb]
  obtain ⟨mz, hmz⟩ : ∃ m, m = maskZ vb 1 := ⟨_, rfl⟩
  rw [← hmz]
  have hmz0 : 0 ≤ mz ∧ mz ≤ 4294967295 := by rw [hmz]; unfold maskZ; simp; omega
  have HMZ := Lib.hid hmz
  have HMZ0 := Lib.hid hmz0
  obtain ⟨i0w, hi, hz0', hz1, hz2⟩ := info_parts info_wr
  have HZ0 := Lib.hid hz0'
  have HZ1 := Lib.hid hz1
  have HZ2 := Lib.hid hz2
  have HI := Lib.hid hi
  clear hmz hmz0 hi hz0' hz1 hz2
  clear hva hvb hb fr
  go_enter Try.func38, Try.ntmps38
  go_wp2_with fail
  generalize hw0 : w.alloc (.cells #[.int .i64 33, .int .i64 (id : Int), .int .i64 (ia : Int), .int .i64 (ib : Int), .int .i64 imm] 44) = w0 at *
  clear hw0
  refine (mAddr_ok vc r Am cm vw pc 33 imm id ia ib b w0 HB0.out h16 HFR.out bd ba bb (And.intro bi0 bi1) (And.intro hp0 hp1) HM.out (show checkZ (sizeZ 33) _ _ = 0 from HK.out)).mono ?_; rintro e w1 ⟨rfl, hb1, hg1⟩
  rw [HKK.out]
  have hne : some w.heap.size ≠ some b := fun h => by injection h with h; omega
  have I0 := hg1.cell i0 hne
  have I1 := hg1.cell i1 hne
  have I2 := hg1.cell i2 hne
  have I3 := hg1.cell i3 hne
  have I4 := hg1.cell i4 hne
  have HB1 := Lib.hid hb1
  have HO1 := Lib.hid (HO0.out.grownM HB0.out hg1)
  have HG1 := Lib.hid (grown_trans HG0.out hg1)
  have hz1 : w.heap.size < w1.heap.size := Nat.lt_of_lt_of_le hz0 hg1.size
  clear hb1 hg1 i0 i1 i2 i3 i4 HB0 HG0 HO0 hne
  have hk0 : (0 : Int) ≤ k := by omega
  have hk1 : (k : Int) ≤ 4294967295 := by have := HKK.out; omega
  go_wp2_with fail
  refine (size_any 33 _).mono ?_; rintro e w2 ⟨rfl, rfl⟩
  rw [show sizeZ 33 = 1 from rfl]
  go_wp2_with fail
  refine (mRead_any vc r (.slice Am r.mem.length cm) vw pc b ib _ HB1.out h16 bb).mono ?_; rintro e w2 ⟨rfl, rfl⟩
  rw [← HVB.out]
  go_wp2_with fail
  refine (lowest_any vb 1 _ vb0.1 vb0.2 (by omega)).mono ?_; rintro e w2 ⟨rfl, rfl⟩
  rw [← HMZ.out]
  go_wp2_with fail
  have j0 : (w1.alloc (.cells #[.int .i64 (k : Int), .int .i64 1, .int .u32 mz] 38)).cell? ⟨w1.heap.size, 0, none⟩ = some (.int .i64 (k : Int)) := by go_simp
  have j1 : (w1.alloc (.cells #[.int .i64 (k : Int), .int .i64 1, .int .u32 mz] 38)).cell? ⟨w1.heap.size, 1, none⟩ = some (.int .i64 1) := by go_simp
  have j2 : (w1.alloc (.cells #[.int .i64 (k : Int), .int .i64 1, .int .u32 mz] 38)).cell? ⟨w1.heap.size, 2, none⟩ = some (.int .u32 mz) := by go_simp
  have hz2 : w1.heap.size < (w1.alloc (.cells #[.int .i64 (k : Int), .int .i64 1, .int .u32 mz] 38)).heap.size := by simp
  have hbl : b < w1.heap.size := HB1.out.lt
  have HB2 := Lib.hid (HB1.out.alloc (.cells #[.int .i64 (k : Int), .int .i64 1, .int .u32 mz] 38))
  have HO2 := Lib.hid (HO1.out.grownM HB1.out (w1.grownBy_alloc (.cells #[.int .i64 (k : Int), .int .i64 1, .int .u32 mz] 38) (some b)))
  have HG2 := Lib.hid (grown_trans HG1.out (w1.grownBy_alloc (.cells #[.int .i64 (k : Int), .int .i64 1, .int .u32 mz] 38) (some b)))
  have HNW0 : Hid (∀ g, vw.ownBlock = some g → g < w1.heap.size) := fun g hg => (HO1.out.ws.lt g hg).2
  have HNM0 : Hid (∀ g, ((.slice Am r.mem.length cm) : Value).ownBlock = some g → g < w1.heap.size) := fun g hg => (HO1.out.mem.lt g hg).2
  clear I0 I1 I2 I3 I4
  generalize w1.alloc (.cells #[.int .i64 (k : Int), .int .i64 1, .int .u32 mz] 38) = w3 at *
  generalize w1.heap.size = wb at *
  have hml : 0 < r.mem.length := by
    have := checkZ_zero (storeOk_yes hok.out).2.2.2
    omega
  obtain ⟨g, cap, hsl, hgb, hgl⟩ := own_form HO2.out.mem (by omega)
  simp only [Value.slice.injEq, true_and] at hsl
  obtain ⟨rfl, rfl⟩ := hsl
  have HML := Lib.hid hml
  clear hml
  refine (mLay_1 vc (resL r (.slice (some ⟨g, 0, none⟩) r.mem.length cm) vw) pc mz g r.mem.length cm b k r.mem w3 HB2.out (resL_len h16) (resL_21 h16) rfl B HO2.out.mem hok.out HM.out HMZ0.out).mono ?_; rintro e w5 ⟨rfl, hown5, hg5⟩
  have hgw : g < wb := HNM0.out g rfl
  have hnw : some wb ≠ some g := fun h => by injection h with h; omega
  have j0 := hg5.cell j0 hnw
  have j1 := hg5.cell j1 hnw
  have j2 := hg5.cell j2 hnw
  have HNE : Hid ((.slice (some ⟨g, 0, none⟩) r.mem.length cm : Value).ownBlock ≠ vw.ownBlock) := own_apart HO2.out.mem HO2.out.ws (by decide) rfl
  have HB5 := Lib.hid (HB2.out.grown hg5 (fun h => own_notM HO2.out.mem HB2.out ne_u8 h.symm))
  have OM := Lib.hid hown5
  have OW := Lib.hid (HO2.out.ws.kept hg5 (.inr (fun h => HNE.out h.symm)))
  have HL5 := Lib.hid (show Below B w w5 from Below.grown (Below.grown (Below.refl _ _) HG2.out (by have := HBB.out; omega) (fun k hk => by injection hk with hk; have := HBB.out; omega)) hg5 (by have := HB2.out.lt; have := HBB.out; omega) (fun k hk => by injection hk with hk; omega))
  have HNW : Hid (some wb ≠ vw.ownBlock) := fun h => by have := HNW0.out wb h.symm; omega
  have HWB : Hid (wb ≠ b) := by show wb ≠ b; omega
  have hz5 : wb < w5.heap.size := Nat.lt_of_lt_of_le hz2 hg5.size
  clear hown5 hg5 hnw
  go_wp2_with fail
  have c23 := HB5.out.cell (machL_res (resL_len h16) (resL_22 (vm := .slice (some ⟨g, 0, none⟩) r.mem.length cm) (vw := vw) h16))
  have hS : w5.drew.cell? ⟨wb, 0, none⟩ = some (.int .i64 (k : Int)) ∧ w5.drew.cell? ⟨wb, 1, none⟩ = some (.int .i64 1) ∧ w5.drew.cell? ⟨wb, 2, none⟩ = some (.int .u32 mz) := ⟨j0, j1, j2⟩
  have hi := HI.out
  have hz0 := HZ0.out
  have hz1 := HZ1.out
  have hz2 := HZ2.out
  refine wp_region_tree _ (LinT.of [(0, true), (1, true), (2, true), (3, true), (4, true), (6, true)] (.two 5 7 (LinT.of [(7, false), (8, false), (9, true), (10, true), (11, true), (12, false)] .nil) (LinT.of [(5, false), (8, false), (9, true), (10, true), (11, true), (12, false)] .nil))) (by kernel_rfl) (by kernel_rfl) rfl (by kernel_rfl) (fun x => x.cell? ⟨wb, 0, none⟩ = some (.int .i64 (k : Int)) ∧ x.cell? ⟨wb, 1, none⟩ = some (.int .i64 1) ∧ x.cell? ⟨wb, 2, none⟩ = some (.int .u32 mz)) (fun _ _ h => h) ?_
  simp only [LinT.of, LinT.look, List.getElem?_toArray, List.getElem?_cons_succ, List.getElem?_cons_zero]
  iterate 6 (refine tree_take (v := ?_) hS (by rfl) ?_ ?_; rotate_left; (intro x hx; obtain ⟨x0, x1, x2⟩ := hx; go_simp; try (with_reducible rfl)); (simp only [Act.put, List.setIfInBounds_toArray, List.set_cons_zero, List.set_cons_succ]))
  have hSa : (w5.drew.alloc (.cells #[.int .i64 (k : Int), .int .i64 1, .int .u32 mz] 38)).cell? ⟨wb, 0, none⟩ = some (.int .i64 (k : Int)) ∧ (w5.drew.alloc (.cells #[.int .i64 (k : Int), .int .i64 1, .int .u32 mz] 38)).cell? ⟨wb, 1, none⟩ = some (.int .i64 1) ∧ (w5.drew.alloc (.cells #[.int .i64 (k : Int), .int .i64 1, .int .u32 mz] 38)).cell? ⟨wb, 2, none⟩ = some (.int .u32 mz) := ⟨one_cell hz5 j0, one_cell hz5 j1, one_cell hz5 j2⟩
  refine tree_two hS (by rfl) (by rfl) (fun K hK => ?_) (fun K hK => ?_)
  · have q23 : w5.drew.cell? ⟨b, 22 + 1, none⟩ = some vw := c23
    clear hi hz0 hz1 hz2
    go_simp
    refine hK.out _ _ hS (fun _ => ?_)
    clear hK K
    try simp only [Act.put, List.setIfInBounds_toArray, List.set_cons_zero, List.set_cons_succ]
    refine tree_call hS (by rfl) (fun K hK => ?_)
    go_simp
    refine hK.out _ _ hSa (fun _ => ?_)
    clear hK K c23 q23 hS
    have hS := hSa
    try simp only [Act.put, List.setIfInBounds_toArray, List.set_cons_zero, List.set_cons_succ]
    have hi := HI.out
    have hz0 := HZ0.out
    have hz1 := HZ1.out
    have hz2 := HZ2.out
    refine tree_call hS (by rfl) (fun K hK => ?_)
    refine wp_append_row _ (.tmp 37) (.tmp 39) 32 rfl B 38 i0w (.agg #[.int .i64 0, .int .i64 0, .int .u32 0]) 3 24 Try.underlying32 hi hz0 hz1 hz2 rfl (by omega) vw r.ws.length (wsL r.ws) rfl (OW.out.alloc _) (w5.heap.size + 1) (.slice (some ⟨w5.heap.size, 0, none⟩) 1 1) 1 [.int .i64 (k : Int), .int .i64 1, .int .u32 mz] rfl (row_one3 w5.drew _ _ _ _) (by simp [Value.oneCell']) (by have := HW.out; unfold maxLen; omega) (by have := HW.out; omega) (by have := HB5.out.lt; have := HBB.out; simp; omega) ?_
    intro v' y3 hown3 hg3
    have hg4 : w5.grownBy y3 vw.ownBlock := grown_trans (show w5.grownBy (w5.drew.alloc (.cells #[.int .i64 (k : Int), .int .i64 1, .int .u32 mz] 38)) vw.ownBlock from ⟨rfl, rfl, rfl, by simp, fun k hk _ => heap_alloc_old w5.drew _ hk⟩) hg3
    have hnb : some b ≠ vw.ownBlock := fun h => own_notM OW.out HB5.out ne_wr h.symm
    have hnw : some wb ≠ vw.ownBlock := HNW.out
    have B6 := Lib.hid (HB5.out.grown hg4 hnb)
    have c23 := B6.out.cell (machL_res (resL_len h16) (resL_22 (vm := (.slice (some ⟨g, 0, none⟩) r.mem.length cm)) (vw := vw) h16))
    have f23 := B6.out.frozen (22 + 1)
    clear hS
    have hS : y3.cell? ⟨wb, 0, none⟩ = some (.int .i64 (k : Int)) ∧ y3.cell? ⟨wb, 1, none⟩ = some (.int .i64 1) ∧ y3.cell? ⟨wb, 2, none⟩ = some (.int .u32 mz) := ⟨hg4.cell j0 hnw, hg4.cell j1 hnw, hg4.cell j2 hnw⟩
    have HO3 := Lib.hid hown3
    have HM3 := Lib.hid (OM.out.kept hg4 (.inr (HNE.out)))
    have G4 := Lib.hid (show Below B w y3 from Below.grown HL5.out hg4 (Nat.le_trans HBB.out (Nat.le_of_lt HB5.out.lt)) (fun k hk => (OW.out.lt k hk).1))
    clear hown3 hg3 hg4 hnb hnw
    obtain ⟨Av, cv, rfl⟩ := (Row.of_own HO3.out).form
    refine hK.out _ _ hS (fun _ => ?_)
    clear hK K
    simp only [Act.put, List.setIfInBounds_toArray, List.set_cons_zero, List.set_cons_succ]
    iterate 3 (refine tree_take (v := ?_) hS (by rfl) ?_ ?_; rotate_left; (intro x hx; obtain ⟨x0, x1, x2⟩ := hx; go_simp; try (with_reducible rfl)); (simp only [Act.put, List.setIfInBounds_toArray, List.set_cons_zero, List.set_cons_succ]))
    refine tree_call hS (by rfl) (fun K hK => ?_)
    go_simp
    have hS7 : (y3.setCell ⟨b, 22 + 1, none⟩ (.slice Av (r.ws.length + 1) cv)).cell? ⟨wb, 0, none⟩ = some (.int .i64 (k : Int)) ∧ (y3.setCell ⟨b, 22 + 1, none⟩ (.slice Av (r.ws.length + 1) cv)).cell? ⟨wb, 1, none⟩ = some (.int .i64 1) ∧ (y3.setCell ⟨b, 22 + 1, none⟩ (.slice Av (r.ws.length + 1) cv)).cell? ⟨wb, 2, none⟩ = some (.int .u32 mz) := by
      obtain ⟨x0, x1, x2⟩ := hS
      have hwb : wb ≠ b := HWB.out
      exact ⟨cell_set_other x0 hwb, cell_set_other x1 hwb, cell_set_other x2 hwb⟩
    refine hK.out _ _ hS7 (fun _ => ?_)
    clear hK K hS c23 f23
    refine tree_done ?_
    have B7 : Hid (MBox (y3.setCell ⟨b, 22 + 1, none⟩ (.slice Av (r.ws.length + 1) cv)) b (machL vc (resL { r with mem := storeZ r.mem 1 (k : Int) mz, ws := r.ws ++ [⟨(k : Int), 1, mz⟩] } (.slice (some ⟨g, 0, none⟩) r.mem.length cm) (.slice Av (r.ws.length + 1) cv)) pc)) := by
      have := B6.out.setCell (22 + 1) (.slice Av (r.ws.length + 1) cv)
      rwa [machL_set (resL_len h16) _ (by omega), resL_set22 h16] at this
    have O7 : Hid (ResOwn (y3.setCell ⟨b, 22 + 1, none⟩ (.slice Av (r.ws.length + 1) cv)) B (.slice (some ⟨g, 0, none⟩) r.mem.length cm) (.slice Av (r.ws.length + 1) cv) { r with mem := storeZ r.mem 1 (k : Int) mz, ws := r.ws ++ [⟨(k : Int), 1, mz⟩] }) := by
      refine ⟨?_, ?_, h16⟩
      · have := own_setM (k := 22 + 1) HM3.out B6.out ne_u8 (.slice Av (r.ws.length + 1) cv)
        rw [show (storeZ r.mem 1 (k : Int) mz).length = r.mem.length from storeZ_len _ _ _ _]
        exact this
      · have := own_setM (k := 22 + 1) HO3.out B6.out ne_wr (.slice Av (r.ws.length + 1) cv)
        rw [show (r.ws ++ [(⟨(k : Int), 1, mz⟩ : Wr)]).length = r.ws.length + 1 by simp, wsL_append]
        exact this
    have G7 := Lib.hid (show Below B w (y3.setCell ⟨b, 22 + 1, none⟩ (.slice Av (r.ws.length + 1) cv)) from G4.out.setCell HBB.out _)
    generalize y3.setCell ⟨b, 22 + 1, none⟩ (.slice Av (r.ws.length + 1) cv) = w7 at *
    clear hS7 j0 j1 j2 B6 HO3 HM3 G4
    go_wp2_with fail
    refine (mPass_any vc { r with mem := storeZ r.mem 1 (k : Int) mz, ws := r.ws ++ [⟨(k : Int), 1, mz⟩] } (.slice (some ⟨g, 0, none⟩) r.mem.length cm) (.slice Av (r.ws.length + 1) cv) pc 1 b _ B7.out h16 (by omega) (by omega)).mono ?_; rintro e w9 ⟨rfl, hb9, hg9⟩
    have hb9' := Lib.hid hb9
    have O9 := Lib.hid (O7.out.grownM B7.out hg9)
    have G9 := Lib.hid (show Below B w w9 from Below.grown G7.out hg9 (Nat.le_trans HBB.out (Nat.le_of_lt B7.out.lt)) (fun k hk => by injection hk with hk; have := HBB.out; omega))
    clear hb9 hg9
    go_wp2_with fail
    exact bodyPost_end (v := .tuple #[]) (by simp [results, Try.results38]) rfl ⟨rfl, _, hb9'.out, ⟨O9.out.mem, O9.out.ws, h16⟩, G9.out⟩
  · clear hi hz0 hz1 hz2
    go_simp
    refine hK.out _ _ hSa (fun _ => ?_)
    clear hK K
    try simp only [Act.put, List.setIfInBounds_toArray, List.set_cons_zero, List.set_cons_succ]
    have q23 : (w5.alloc (.cells #[.int .i64 (k : Int), .int .i64 1, .int .u32 mz] 38)).cell? ⟨b, 22 + 1, none⟩ = some vw := one_cell HB5.out.lt c23
    refine tree_call hSa (by rfl) (fun K hK => ?_)
    go_simp
    refine hK.out _ _ hSa (fun _ => ?_)
    clear hK K c23 q23 hS
    have hS := hSa
    try simp only [Act.put, List.setIfInBounds_toArray, List.set_cons_zero, List.set_cons_succ]
    have hi := HI.out
    have hz0 := HZ0.out
    have hz1 := HZ1.out
    have hz2 := HZ2.out
    refine tree_call hS (by rfl) (fun K hK => ?_)
    refine wp_append_row _ (.tmp 37) (.tmp 39) 32 rfl B 38 i0w (.agg #[.int .i64 0, .int .i64 0, .int .u32 0]) 3 24 Try.underlying32 hi hz0 hz1 hz2 rfl (by omega) vw r.ws.length (wsL r.ws) rfl (OW.out.alloc _) (w5.heap.size + 1) (.slice (some ⟨w5.heap.size, 0, none⟩) 1 1) 1 [.int .i64 (k : Int), .int .i64 1, .int .u32 mz] rfl (row_one3 w5.drew _ _ _ _) (by simp [Value.oneCell']) (by have := HW.out; unfold maxLen; omega) (by have := HW.out; omega) (by have := HB5.out.lt; have := HBB.out; simp; omega) ?_
    intro v' y3 hown3 hg3
    have hg4 : w5.grownBy y3 vw.ownBlock := grown_trans (show w5.grownBy (w5.drew.alloc (.cells #[.int .i64 (k : Int), .int .i64 1, .int .u32 mz] 38)) vw.ownBlock from ⟨rfl, rfl, rfl, by simp, fun k hk _ => heap_alloc_old w5.drew _ hk⟩) hg3
    have hnb : some b ≠ vw.ownBlock := fun h => own_notM OW.out HB5.out ne_wr h.symm
    have hnw : some wb ≠ vw.ownBlock := HNW.out
    have B6 := Lib.hid (HB5.out.grown hg4 hnb)
    have c23 := B6.out.cell (machL_res (resL_len h16) (resL_22 (vm := (.slice (some ⟨g, 0, none⟩) r.mem.length cm)) (vw := vw) h16))
    have f23 := B6.out.frozen (22 + 1)
    clear hS
    have hS : y3.cell? ⟨wb, 0, none⟩ = some (.int .i64 (k : Int)) ∧ y3.cell? ⟨wb, 1, none⟩ = some (.int .i64 1) ∧ y3.cell? ⟨wb, 2, none⟩ = some (.int .u32 mz) := ⟨hg4.cell j0 hnw, hg4.cell j1 hnw, hg4.cell j2 hnw⟩
    have HO3 := Lib.hid hown3
    have HM3 := Lib.hid (OM.out.kept hg4 (.inr (HNE.out)))
    have G4 := Lib.hid (show Below B w y3 from Below.grown HL5.out hg4 (Nat.le_trans HBB.out (Nat.le_of_lt HB5.out.lt)) (fun k hk => (OW.out.lt k hk).1))
    clear hown3 hg3 hg4 hnb hnw
    obtain ⟨Av, cv, rfl⟩ := (Row.of_own HO3.out).form
    refine hK.out _ _ hS (fun _ => ?_)
    clear hK K
    simp only [Act.put, List.setIfInBounds_toArray, List.set_cons_zero, List.set_cons_succ]
    iterate 3 (refine tree_take (v := ?_) hS (by rfl) ?_ ?_; rotate_left; (intro x hx; obtain ⟨x0, x1, x2⟩ := hx; go_simp; try (with_reducible rfl)); (simp only [Act.put, List.setIfInBounds_toArray, List.set_cons_zero, List.set_cons_succ]))
    refine tree_call hS (by rfl) (fun K hK => ?_)
    go_simp
    have hS7 : (y3.setCell ⟨b, 22 + 1, none⟩ (.slice Av (r.ws.length + 1) cv)).cell? ⟨wb, 0, none⟩ = some (.int .i64 (k : Int)) ∧ (y3.setCell ⟨b, 22 + 1, none⟩ (.slice Av (r.ws.length + 1) cv)).cell? ⟨wb, 1, none⟩ = some (.int .i64 1) ∧ (y3.setCell ⟨b, 22 + 1, none⟩ (.slice Av (r.ws.length + 1) cv)).cell? ⟨wb, 2, none⟩ = some (.int .u32 mz) := by
      obtain ⟨x0, x1, x2⟩ := hS
      have hwb : wb ≠ b := HWB.out
      exact ⟨cell_set_other x0 hwb, cell_set_other x1 hwb, cell_set_other x2 hwb⟩
    refine hK.out _ _ hS7 (fun _ => ?_)
    clear hK K hS c23 f23
    refine tree_done ?_
    have B7 : Hid (MBox (y3.setCell ⟨b, 22 + 1, none⟩ (.slice Av (r.ws.length + 1) cv)) b (machL vc (resL { r with mem := storeZ r.mem 1 (k : Int) mz, ws := r.ws ++ [⟨(k : Int), 1, mz⟩] } (.slice (some ⟨g, 0, none⟩) r.mem.length cm) (.slice Av (r.ws.length + 1) cv)) pc)) := by
      have := B6.out.setCell (22 + 1) (.slice Av (r.ws.length + 1) cv)
      rwa [machL_set (resL_len h16) _ (by omega), resL_set22 h16] at this
    have O7 : Hid (ResOwn (y3.setCell ⟨b, 22 + 1, none⟩ (.slice Av (r.ws.length + 1) cv)) B (.slice (some ⟨g, 0, none⟩) r.mem.length cm) (.slice Av (r.ws.length + 1) cv) { r with mem := storeZ r.mem 1 (k : Int) mz, ws := r.ws ++ [⟨(k : Int), 1, mz⟩] }) := by
      refine ⟨?_, ?_, h16⟩
      · have := own_setM (k := 22 + 1) HM3.out B6.out ne_u8 (.slice Av (r.ws.length + 1) cv)
        rw [show (storeZ r.mem 1 (k : Int) mz).length = r.mem.length from storeZ_len _ _ _ _]
        exact this
      · have := own_setM (k := 22 + 1) HO3.out B6.out ne_wr (.slice Av (r.ws.length + 1) cv)
        rw [show (r.ws ++ [(⟨(k : Int), 1, mz⟩ : Wr)]).length = r.ws.length + 1 by simp, wsL_append]
        exact this
    have G7 := Lib.hid (show Below B w (y3.setCell ⟨b, 22 + 1, none⟩ (.slice Av (r.ws.length + 1) cv)) from G4.out.setCell HBB.out _)
    generalize y3.setCell ⟨b, 22 + 1, none⟩ (.slice Av (r.ws.length + 1) cv) = w7 at *
    clear hS7 j0 j1 j2 B6 HO3 HM3 G4
    go_wp2_with fail
    refine (mPass_any vc { r with mem := storeZ r.mem 1 (k : Int) mz, ws := r.ws ++ [⟨(k : Int), 1, mz⟩] } (.slice (some ⟨g, 0, none⟩) r.mem.length cm) (.slice Av (r.ws.length + 1) cv) pc 1 b _ B7.out h16 (by omega) (by omega)).mono ?_; rintro e w9 ⟨rfl, hb9, hg9⟩
    have hb9' := Lib.hid hb9
    have O9 := Lib.hid (O7.out.grownM B7.out hg9)
    have G9 := Lib.hid (show Below B w w9 from Below.grown G7.out hg9 (Nat.le_trans HBB.out (Nat.le_of_lt B7.out.lt)) (fun k hk => by injection hk with hk; have := HBB.out; omega))
    clear hb9 hg9
    go_wp2_with fail
    exact bodyPost_end (v := .tuple #[]) (by simp [results, Try.results38]) rfl ⟨rfl, _, hb9'.out, ⟨O9.out.mem, O9.out.ws, h16⟩, G9.out⟩
end Go.Proofs.Ytdjllgdeijdieaa.Words

/- Contracts of package seq: reckon, load, store, branch, whole. -/
namespace Go.Proofs.Ytdjllgdeijdieaa.Words
set_option maxRecDepth 100000
open Go.RowKit
set_option linter.unusedVariables false

theorem formZ_5 {op : Int} (h : formZ op = 5) : op = 31 ∨ op = 32 ∨ op = 33 := by
  unfold formZ at h
  repeat' split at h
  all_goals omega

/-- From a machine in block b to a machine in it: nothing ahead of the block turns. -/
def MachTo (w : World) (b B : Nat) (vc : Value) (x : Res × Int) (w' : World) : Prop := ∃ vm' vw', MBox w' b (machL vc (resL x.1 vm' vw') x.2) ∧ ResOwn w' B vm' vw' x.1 ∧ Below B w w'
theorem MachTo.of {l0 : List Value} {w w' : World} {b B : Nat} {vc vm vw : Value} {r : Res} {x : Res × Int} (h0 : MBox w b l0) (hBb : B ≤ b) (hb : MBox w' b (machL vc (resL x.1 vm vw) x.2)) (hg : w.grownBy w' (some b)) (ho : ResOwn w B vm vw r) (hm : x.1.mem = r.mem) (hw : x.1.ws = r.ws) (h16 : x.1.regs.length = 16) : MachTo w b B vc x w' := by
  have o := ho.grownM h0 hg
  have hlt := h0.lt
  refine ⟨vm, vw, hb, ⟨?_, ?_, h16⟩, Below.grown (Below.refl _ _) hg (by omega) (fun k hk => by injection hk with hk; omega)⟩
  · rw [hm]; exact o.mem
  · rw [hw]; exact o.ws

theorem mReckon_any (vc : Value) (r : Res) (vm vw : Value) (pc op imm : Int) (id ia ib b : Nat) (w : World) (hb : MBox w b (machL vc (resL r vm vw) pc)) (B : Nat) (hBb : B ≤ b) (ho : ResOwn w B vm vw r) (fr : ∀ x ∈ r.regs, 0 ≤ x ∧ x ≤ 4294967295) (hmb : ∀ x ∈ r.mem, 0 ≤ x ∧ x ≤ 255) (hm : r.mem.length ≤ 140737488355328) (hw : r.ws.length ≤ 1000000000000) (bd : id ≤ 15) (ba : ia ≤ 15) (bb : ib ≤ 15) (bi : -8192 ≤ imm ∧ imm ≤ 8191) (hp : -100000 ≤ pc ∧ pc ≤ 100000) (hf : formZ op = 1 ∨ formZ op = 2 ∨ formZ op = 3) : Calls Try.prog 36 #[.pointer (some ⟨b, 0, none⟩), .agg #[.int .i64 op, .int .i64 (id : Int), .int .i64 (ia : Int), .int .i64 (ib : Int), .int .i64 imm]] w fun e w' => e = .returned (.tuple #[]) ∧ MachTo w b B vc (insZ r.mem.length r pc ⟨op, (id : Int), (ia : Int), (ib : Int), imm⟩) w' := by
  have h16 := ho.regs
  have hlt := hb.lt
  unfold insZ
  rw [if_neg (by show ¬ (formZ op = 4 ∨ formZ op = 5); omega), if_pos (show formZ op ≤ 3 by omega)]
  simp only [Int.toNat_natCast]
  split
  · rename_i hd
    refine (mReckon_no vc r vm vw pc op imm id ia ib b w hb h16 fr bd ba bb bi hp hd).mono ?_
    rintro e w' ⟨rfl, h1, h2⟩
    exact ⟨rfl, MachTo.of hb hBb h1 h2 ho rfl rfl h16⟩
  · rename_i hd
    refine (mReckon_ok vc r vm vw pc op imm id ia ib b w hb h16 fr bd ba bb bi hp (by simpa using hd)).mono ?_
    rintro e w' ⟨rfl, h1, h2⟩
    exact ⟨rfl, MachTo.of hb hBb h1 h2 ho rfl rfl (by show (setZ _ _ _).length = 16; rw [setZ_len]; exact h16)⟩

theorem mBranch_any (vc : Value) (r : Res) (vm vw : Value) (pc op imm : Int) (id ia ib b : Nat) (w : World) (hb : MBox w b (machL vc (resL r vm vw) pc)) (B : Nat) (hBb : B ≤ b) (ho : ResOwn w B vm vw r) (fr : ∀ x ∈ r.regs, 0 ≤ x ∧ x ≤ 4294967295) (hmb : ∀ x ∈ r.mem, 0 ≤ x ∧ x ≤ 255) (hm : r.mem.length ≤ 140737488355328) (hw : r.ws.length ≤ 1000000000000) (bd : id ≤ 15) (ba : ia ≤ 15) (bb : ib ≤ 15) (bi : -8192 ≤ imm ∧ imm ≤ 8191) (hp : -100000 ≤ pc ∧ pc ≤ 100000) (hf : formZ op = 6) : Calls Try.prog 39 #[.pointer (some ⟨b, 0, none⟩), .agg #[.int .i64 op, .int .i64 (id : Int), .int .i64 (ia : Int), .int .i64 (ib : Int), .int .i64 imm]] w fun e w' => e = .returned (.tuple #[]) ∧ MachTo w b B vc (insZ r.mem.length r pc ⟨op, (id : Int), (ia : Int), (ib : Int), imm⟩) w' := by
  have h16 := ho.regs
  have hlt := hb.lt
  unfold insZ
  rw [if_neg (by show ¬ (formZ op = 4 ∨ formZ op = 5); omega), if_neg (show ¬ formZ op ≤ 3 by omega), if_pos (show formZ op = 6 from hf)]
  simp only [Int.toNat_natCast]
  cases hd : takenB op (valZ r.regs ia) (valZ r.regs ib)
  · refine (mBranch_no vc r vm vw pc op imm id ia ib b w hb h16 fr bd ba bb bi hp hd).mono ?_
    rintro e w' ⟨rfl, h1, h2⟩
    exact ⟨rfl, MachTo.of (x := (bumpZ r, pc + 1)) hb hBb h1 h2 ho rfl rfl h16⟩
  · refine (mBranch_ok vc r vm vw pc op imm id ia ib b w hb h16 fr bd ba bb bi hp hd).mono ?_
    rintro e w' ⟨rfl, h1, h2⟩
    exact ⟨rfl, MachTo.of (x := (bumpZ r, pc + imm)) hb hBb h1 h2 ho rfl rfl h16⟩

theorem mLoad_any (vc : Value) (r : Res) (vm vw : Value) (pc op imm : Int) (id ia ib b : Nat) (w : World) (hb : MBox w b (machL vc (resL r vm vw) pc)) (B : Nat) (hBb : B ≤ b) (ho : ResOwn w B vm vw r) (fr : ∀ x ∈ r.regs, 0 ≤ x ∧ x ≤ 4294967295) (hmb : ∀ x ∈ r.mem, 0 ≤ x ∧ x ≤ 255) (hm : r.mem.length ≤ 140737488355328) (hw : r.ws.length ≤ 1000000000000) (bd : id ≤ 15) (ba : ia ≤ 15) (bb : ib ≤ 15) (bi : -8192 ≤ imm ∧ imm ≤ 8191) (hp : -100000 ≤ pc ∧ pc ≤ 100000) (hf : formZ op = 4) : Calls Try.prog 37 #[.pointer (some ⟨b, 0, none⟩), .agg #[.int .i64 op, .int .i64 (id : Int), .int .i64 (ia : Int), .int .i64 (ib : Int), .int .i64 imm]] w fun e w' => e = .returned (.tuple #[]) ∧ MachTo w b B vc (insZ r.mem.length r pc ⟨op, (id : Int), (ia : Int), (ib : Int), imm⟩) w' := by
  have h16 := ho.regs
  have hlt := hb.lt
  obtain ⟨Am, cm, rfl⟩ := (Row.of_own ho.mem).form
  unfold insZ
  rw [if_pos (show formZ op = 4 ∨ formZ op = 5 from .inl hf), if_pos (show formZ op = 4 from hf)]
  simp only [Int.toNat_natCast]
  split
  · rename_i hk
    refine (mLoad_no vc r Am cm vw pc op imm id ia ib b w hb h16 fr bd ba bb bi hp hm B ho hmb hk).mono ?_
    rintro e w' ⟨rfl, h1, h2⟩
    exact ⟨rfl, MachTo.of hb hBb h1 h2 ho rfl rfl h16⟩
  · rename_i hk
    refine (mLoad_ok vc r Am cm vw pc op imm id ia ib b w hb h16 fr bd ba bb bi hp hm B ho hmb (by simpa using hk)).mono ?_
    rintro e w' ⟨rfl, h1, h2⟩
    exact ⟨rfl, MachTo.of hb hBb h1 h2 ho rfl rfl (by show (setZ _ _ _).length = 16; rw [setZ_len]; exact h16)⟩

theorem mStore_any (vc : Value) (r : Res) (vm vw : Value) (pc op imm : Int) (id ia ib b : Nat) (w : World) (hb : MBox w b (machL vc (resL r vm vw) pc)) (B : Nat) (hBb : B ≤ b) (ho : ResOwn w B vm vw r) (fr : ∀ x ∈ r.regs, 0 ≤ x ∧ x ≤ 4294967295) (hmb : ∀ x ∈ r.mem, 0 ≤ x ∧ x ≤ 255) (hm : r.mem.length ≤ 140737488355328) (hw : r.ws.length ≤ 1000000000000) (bd : id ≤ 15) (ba : ia ≤ 15) (bb : ib ≤ 15) (bi : -8192 ≤ imm ∧ imm ≤ 8191) (hp : -100000 ≤ pc ∧ pc ≤ 100000) (hf : formZ op = 5) : Calls Try.prog 38 #[.pointer (some ⟨b, 0, none⟩), .agg #[.int .i64 op, .int .i64 (id : Int), .int .i64 (ia : Int), .int .i64 (ib : Int), .int .i64 imm]] w fun e w' => e = .returned (.tuple #[]) ∧ MachTo w b B vc (insZ r.mem.length r pc ⟨op, (id : Int), (ia : Int), (ib : Int), imm⟩) w' := by
  have h16 := ho.regs
  have hlt := hb.lt
  obtain ⟨Am, cm, rfl⟩ := (Row.of_own ho.mem).form
  unfold insZ
  rw [if_pos (show formZ op = 4 ∨ formZ op = 5 from .inr hf), if_neg (show ¬ formZ op = 4 by omega)]
  simp only [Int.toNat_natCast]
  split
  · rename_i hk
    refine (mStore_no vc r Am cm vw pc op imm id ia ib b w hb h16 fr bd ba bb bi hp hm hw B hBb ho hk).mono ?_
    rintro e w' ⟨rfl, h1, h2⟩
    exact ⟨rfl, MachTo.of hb hBb h1 h2 ho rfl rfl h16⟩
  · rename_i hk
    have hk' : checkZ (sizeZ op) ((valZ r.regs ia + imm) % 4294967296) r.mem.length = 0 := by simpa using hk
    have hop : op = 31 ∨ op = 32 ∨ op = 33 := formZ_5 hf
    rcases hop with rfl | rfl | rfl
    · refine (mStore_31 vc r Am cm vw pc imm id ia ib b w hb h16 fr bd ba bb bi hp hm hw B hBb ho hk').mono ?_
      rintro e w' ⟨rfl, vw', h1, h2, h3⟩
      exact ⟨rfl, _, vw', h1, h2, h3⟩
    · refine (mStore_32 vc r Am cm vw pc imm id ia ib b w hb h16 fr bd ba bb bi hp hm hw B hBb ho hk').mono ?_
      rintro e w' ⟨rfl, vw', h1, h2, h3⟩
      exact ⟨rfl, _, vw', h1, h2, h3⟩
    · refine (mStore_33 vc r Am cm vw pc imm id ia ib b w hb h16 fr bd ba bb bi hp hm hw B hBb ho hk').mono ?_
      rintro e w' ⟨rfl, vw', h1, h2, h3⟩
      exact ⟨rfl, _, vw', h1, h2, h3⟩
end Go.Proofs.Ytdjllgdeijdieaa.Words

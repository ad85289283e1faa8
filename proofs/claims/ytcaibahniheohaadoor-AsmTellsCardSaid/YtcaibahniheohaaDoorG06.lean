/- Several texts in one: AsmBins, AsmLay, LexStandMath, RefTarget. -/
import Derived.Test.YtcaibahniheohaaDoorG05
import Derived.Test.YtcaibahniheohaaDoorG00
import Derived.LoopTactic
import Derived.LoopN

/- Contract of package asm's builder.instruction. -/
namespace Go.Proofs.YtcaibahniheohaaDoor.Words
set_option maxRecDepth 100000
open Go.RowKit Go.Shelf Go.Lib
set_option linter.unusedVariables false
set_option linter.unusedSimpArgs false
set_option maxHeartbeats 4000000 in
theorem bins_plain_no (x : PartZ) (p : Prog) (w : World) (c m n : Nat) (f : List UInt8 → Option (Int × Int)) (vc vd : Value) (hB : Bld w c m n f p vc vd) (hpc : p.code.length ≤ 1000000) (hk : x.target.kind ≠ 1) (hright : rightB x.ins = false) :
  Calls Tryd.prog 31 #[.pointer (some ⟨c, 0, none⟩), .agg #[.int .i64 x.kind, .int .i64 (x.at_ : Int), .int .i64 x.num, .string (txt x.name), .int .i64 x.ins.op, .int .i64 x.ins.d, .int .i64 x.ins.a, .int .i64 x.ins.b, .int .i64 x.ins.imm, .int .i64 x.target.kind, .int .i64 x.target.num, .int .i64 (x.target.at_ : Int), .string (txt x.target.text)]] w (LayOut w c m n f (ins1 f x p)) := by
 have hlt := hB.lt
 have HPC := Lib.hid hpc
 have HZ : Hid (ins1 f x p = .bad x.at_ 8) := by show _ = _; unfold ins1 put1; rw [if_neg hk, hright]; rfl
 have HXB : Hid (Box (w.alloc (.cells #[.int .i64 x.kind, .int .i64 (x.at_ : Int), .int .i64 x.num, .string (txt x.name), .int .i64 x.ins.op, .int .i64 x.ins.d, .int .i64 x.ins.a, .int .i64 x.ins.b, .int .i64 x.ins.imm, .int .i64 x.target.kind, .int .i64 x.target.num, .int .i64 (x.target.at_ : Int), .string (txt x.target.text)] 55)) w.heap.size (partL x)) := Box.new w (partL x) _
 have HBL := Lib.hid (hB.alloc (.cells #[.int .i64 x.kind, .int .i64 (x.at_ : Int), .int .i64 x.num, .string (txt x.name), .int .i64 x.ins.op, .int .i64 x.ins.d, .int .i64 x.ins.a, .int .i64 x.ins.b, .int .i64 x.ins.imm, .int .i64 x.target.kind, .int .i64 x.target.num, .int .i64 (x.target.at_ : Int), .string (txt x.target.text)] 55))
 have HBW : Hid (Below c w (w.alloc (.cells #[.int .i64 x.kind, .int .i64 (x.at_ : Int), .int .i64 x.num, .string (txt x.name), .int .i64 x.ins.op, .int .i64 x.ins.d, .int .i64 x.ins.a, .int .i64 x.ins.b, .int .i64 x.ins.imm, .int .i64 x.target.kind, .int .i64 x.target.num, .int .i64 (x.target.at_ : Int), .string (txt x.target.text)] 55))) := (Below.refl c w).alloc (Nat.le_of_lt hlt) _
 have HN1 : Hid (vc.ownBlock ≠ some w.heap.size) := fun e => by have := (hB.2.2.1.lt _ e).2; omega
 have hcx : c ≠ w.heap.size := by omega
 have hk2 : (x.target.kind == 1) = false := by simpa using hk
 generalize ins1 f x p = Z at *
 clear hB hpc hk
 go_enter Tryd.func31, Tryd.ntmps31
 go_wp2_with fail
 refine (right_any x.ins _).mono ?_; rintro en w2 ⟨rfl, hb2⟩
 rw [hright]
 have HB2 := Lib.hid (HBW.out.trans (hb2.mono (Nat.le_of_lt HBL.out.lt)))
 have HX2 : Hid (Box w2 w.heap.size (partL x)) := HXB.out.below hb2 HXB.out.lt
 have HL2 := Lib.hid (HBL.out.go hb2)
 have y1 := HX2.out.cell (k := 1) rfl
 try simp only at y1
 clear hb2 hright
 go_wp2_with fail
 exact bodyPost_ret (v := .tuple #[.int .i64 (x.at_ : Int), .int .i64 8]) (by simp [results, Tryd.results31, go_sem]) rfl (LayOut.bad HZ.out rfl HB2.out)
set_option maxHeartbeats 4000000 in
theorem bins_plain_yes (x : PartZ) (p : Prog) (w : World) (c m n : Nat) (f : List UInt8 → Option (Int × Int)) (vc vd : Value) (hB : Bld w c m n f p vc vd) (hpc : p.code.length ≤ 1000000) (hk : x.target.kind ≠ 1) (hright : rightB x.ins = true) :
  Calls Tryd.prog 31 #[.pointer (some ⟨c, 0, none⟩), .agg #[.int .i64 x.kind, .int .i64 (x.at_ : Int), .int .i64 x.num, .string (txt x.name), .int .i64 x.ins.op, .int .i64 x.ins.d, .int .i64 x.ins.a, .int .i64 x.ins.b, .int .i64 x.ins.imm, .int .i64 x.target.kind, .int .i64 x.target.num, .int .i64 (x.target.at_ : Int), .string (txt x.target.text)]] w (LayOut w c m n f (ins1 f x p)) := by
 have hlt := hB.lt
 have HPC := Lib.hid hpc
 have HZ : Hid (ins1 f x p = .ok { p with code := p.code ++ [x.ins] }) := by show _ = _; unfold ins1 put1; rw [if_neg hk, hright]; rfl
 have HXB : Hid (Box (w.alloc (.cells #[.int .i64 x.kind, .int .i64 (x.at_ : Int), .int .i64 x.num, .string (txt x.name), .int .i64 x.ins.op, .int .i64 x.ins.d, .int .i64 x.ins.a, .int .i64 x.ins.b, .int .i64 x.ins.imm, .int .i64 x.target.kind, .int .i64 x.target.num, .int .i64 (x.target.at_ : Int), .string (txt x.target.text)] 55)) w.heap.size (partL x)) := Box.new w (partL x) _
 have HBL := Lib.hid (hB.alloc (.cells #[.int .i64 x.kind, .int .i64 (x.at_ : Int), .int .i64 x.num, .string (txt x.name), .int .i64 x.ins.op, .int .i64 x.ins.d, .int .i64 x.ins.a, .int .i64 x.ins.b, .int .i64 x.ins.imm, .int .i64 x.target.kind, .int .i64 x.target.num, .int .i64 (x.target.at_ : Int), .string (txt x.target.text)] 55))
 have HBW : Hid (Below c w (w.alloc (.cells #[.int .i64 x.kind, .int .i64 (x.at_ : Int), .int .i64 x.num, .string (txt x.name), .int .i64 x.ins.op, .int .i64 x.ins.d, .int .i64 x.ins.a, .int .i64 x.ins.b, .int .i64 x.ins.imm, .int .i64 x.target.kind, .int .i64 x.target.num, .int .i64 (x.target.at_ : Int), .string (txt x.target.text)] 55))) := (Below.refl c w).alloc (Nat.le_of_lt hlt) _
 have HN1 : Hid (vc.ownBlock ≠ some w.heap.size) := fun e => by have := (hB.2.2.1.lt _ e).2; omega
 have hcx : c ≠ w.heap.size := by omega
 have hk2 : (x.target.kind == 1) = false := by simpa using hk
 generalize ins1 f x p = Z at *
 clear hB hpc hk
 go_enter Tryd.func31, Tryd.ntmps31
 go_wp2_with fail
 refine (right_any x.ins _).mono ?_; rintro en w2 ⟨rfl, hb2⟩
 rw [hright]
 have HB2 := Lib.hid (HBW.out.trans (hb2.mono (Nat.le_of_lt HBL.out.lt)))
 have HX2 : Hid (Box w2 w.heap.size (partL x)) := HXB.out.below hb2 HXB.out.lt
 have HL2 := Lib.hid (HBL.out.go hb2)
 have y1 := HX2.out.cell (k := 1) rfl
 try simp only at y1
 clear hb2 hright
 clear y1
 have hl2 := HL2.out.lt
 go_wp2_with fail
 have HX3 : Hid (Box w2.drew w.heap.size (partL x)) := HX2.out.drew
 have HL3 : Hid (Bld w2.drew c m n f p vc vd) := HL2.out.drew
 clear hl2
 refine wp_region_tree (fun a x => _) (LinT.of [(0, true), (1, true), (2, true), (3, true), (4, true), (6, true), (7, true)] (.two 5 8 (LinT.of [(8, false), (9, false), (10, true), (11, true), (12, true), (13, false)] .nil) (LinT.of [(5, false), (9, false), (10, true), (11, true), (12, true), (13, false)] .nil))) (by kernel_rfl) (by kernel_rfl) rfl (by kernel_rfl) (fun y => Box y w.heap.size (partL x)) (fun _ _ h => h) ?_
 simp only [LinT.of, LinT.look, List.getElem?_toArray, List.getElem?_cons_succ, List.getElem?_cons_zero]
 have hS0 : Box w2.drew w.heap.size (partL x) := HX3.out
 iterate 6 (refine tree_take (v := ?_) hS0 (by rfl) ?_ ?_; rotate_left; (intro x hx; go_simp; try (with_reducible rfl)); (simp only [Act.put, List.setIfInBounds_toArray, List.set_cons_zero, List.set_cons_succ]))
 refine tree_get_box hS0 (by rfl) 38 (.tmp 51) rfl w.heap.size 4 rfl (partL x) [.int .i64 x.ins.op, .int .i64 x.ins.d, .int .i64 x.ins.a, .int .i64 x.ins.b, .int .i64 x.ins.imm] (fun y hy => hy) (by intro j v hj; rcases j with _ | _ | _ | _ | _ | j <;> first | exact hj | (simp at hj)) _ Tryd.underlying38 rfl 5 size_ins8 rfl ?_
 try (simp only [Act.put, List.setIfInBounds_toArray, List.set_cons_zero, List.set_cons_succ])
 obtain ⟨i0, hi, hz0, hz1, hz2⟩ := info_parts info_ins8
 have HI := Lib.hid hi
 have HZ0 := Lib.hid hz0
 have HZ1 := Lib.hid hz1
 have HZ2 := Lib.hid hz2
 clear hi hz0 hz1 hz2
 have c1 : w2.cell? ⟨c, 1, none⟩ = some vc := HL3.out.1.cell (k := 1) rfl
 have hcl : c < w2.heap.size := HL3.out.lt
 have hpcc := HPC.out
 have HEND : Hid (∀ (o : Obj) (y3 : World) (v3 : Value), (w2.drew.alloc o).grownBy y3 vc.ownBlock → y3.ownsRow (c + 1) 38 5 v3 (p.code.length + 1) (codeCells p.code ++ [.int .i64 x.ins.op, .int .i64 x.ins.d, .int .i64 x.ins.a, .int .i64 x.ins.b, .int .i64 x.ins.imm]) →
   (Bld (y3.setCell ⟨c, 1, none⟩ v3) c m n f { p with code := p.code ++ [x.ins] } v3 vd ∧ Below c w (y3.setCell ⟨c, 1, none⟩ v3)) ∧ Box y3 w.heap.size (partL x) ∧ y3.cell? ⟨c, 1, none⟩ = some vc ∧ y3.frozen? ⟨c, 1, none⟩ = false ∧ c < y3.heap.size ∧ ∃ A3 k3, v3 = .slice A3 (p.code.length + 1) k3) := by
  intro o y3 v3 hg ho
  have hne : some c ≠ vc.ownBlock := fun e => by have := (HL3.out.2.2.1.lt c e.symm).1; omega
  obtain ⟨q1, q2⟩ := HL3.out.code (i := x.ins) hg ho rfl
  obtain ⟨A3, k3, h3⟩ := (Row.of_own ho).form
  have hb2 := HL3.out.1.alloc o
  refine ⟨⟨q1, HB2.out.trans ((Below.refl c w2).drew.trans q2)⟩, (HX3.out.alloc o).grown hg (fun e => HN1.out e.symm), hg.cell (hb2.cell (k := 1) rfl) hne, ?_, ?_, A3, k3, h3⟩
  ·rw [World.frozen?_of_block (w := w2.drew.alloc o) (hg.block c hb2.lt hne)]; exact hb2.frozen 1
  ·have := hg.size; have := hb2.lt; omega
 refine tree_two hS0 (by rfl) (by rfl) (fun K hK => ?_) (fun K hK => ?_)
 ·go_simp
  refine hK.out _ _ hS0 (fun _ => ?_)
  clear hK K
  try (simp only [Act.put, List.setIfInBounds_toArray, List.set_cons_zero, List.set_cons_succ])
  refine tree_call hS0 (by rfl) (fun K hK => ?_)
  go_simp
  have hSa : Box (w2.drew.alloc (.cells #[.int .i64 x.ins.op, .int .i64 x.ins.d, .int .i64 x.ins.a, .int .i64 x.ins.b, .int .i64 x.ins.imm] 38)) w.heap.size (partL x) := hS0.alloc _
  refine hK.out _ _ hSa (fun _ => ?_)
  clear hK K
  try (simp only [Act.put, List.setIfInBounds_toArray, List.set_cons_zero, List.set_cons_succ])
  refine tree_call hSa (by rfl) (fun K hK => ?_)
  refine wp_append_row _ (.tmp 50) (.tmp 53) 23 rfl (c + 1) 38 i0 _ 5 40 Tryd.underlying23 HI.out HZ0.out HZ1.out HZ2.out rfl (by omega) _ p.code.length (codeCells p.code) rfl (HL3.out.2.2.1.alloc _) _ (.slice (some ⟨w2.heap.size, 0, none⟩) 1 1) 1 [.int .i64 x.ins.op, .int .i64 x.ins.d, .int .i64 x.ins.a, .int .i64 x.ins.b, .int .i64 x.ins.imm] rfl (row_list w2.drew [.int .i64 x.ins.op, .int .i64 x.ins.d, .int .i64 x.ins.a, .int .i64 x.ins.b, .int .i64 x.ins.imm] _) (by simp [Value.oneCell']) (by unfold maxLen; omega) (by omega) (by simp; omega) ?_
  intro v3 y3 hO3 hg3
  obtain ⟨PA, hS3, q3, q4, hy3, A3, k3, rfl⟩ := HEND.out _ _ _ hg3 hO3
  have HPA := Lib.hid PA
  clear hO3 hg3 PA
  refine hK.out _ _ hS3 (fun _ => ?_)
  clear hK K
  try (simp only [Act.put, List.setIfInBounds_toArray, List.set_cons_zero, List.set_cons_succ])
  iterate 3 (refine tree_take (v := ?_) hS3 (by rfl) ?_ ?_; rotate_left; (intro x hx; go_simp; try (with_reducible rfl)); (simp only [Act.put, List.setIfInBounds_toArray, List.set_cons_zero, List.set_cons_succ]))
  refine tree_call hS3 (by rfl) (fun K hK => ?_)
  go_simp
  refine hK.out _ _ (hS3.setCell_other hcx.symm 1 _) (fun _ => ?_)
  clear hK K
  refine tree_done ?_
  try (simp only [Act.put, List.setIfInBounds_toArray, List.set_cons_zero, List.set_cons_succ])
  go_wp2_with fail
  exact bodyPost_ret (v := .tuple #[.int .i64 0, .int .i64 0]) (by simp [results, Tryd.results31, go_sem]) rfl (LayOut.ok HZ.out rfl HPA.out.1 HPA.out.2)
 ·go_simp
  have hSa : Box (w2.drew.alloc (.cells #[.int .i64 x.ins.op, .int .i64 x.ins.d, .int .i64 x.ins.a, .int .i64 x.ins.b, .int .i64 x.ins.imm] 38)) w.heap.size (partL x) := hS0.alloc _
  have c1a : (w2.drew.alloc (.cells #[.int .i64 x.ins.op, .int .i64 x.ins.d, .int .i64 x.ins.a, .int .i64 x.ins.b, .int .i64 x.ins.imm] 38)).cell? ⟨c, 1, none⟩ = some vc := (World.cell?_alloc_lt _ _ _ hcl).trans c1
  have c1b : (w2.alloc (.cells #[.int .i64 x.ins.op, .int .i64 x.ins.d, .int .i64 x.ins.a, .int .i64 x.ins.b, .int .i64 x.ins.imm] 38)).cell? ⟨c, 1, none⟩ = some vc := c1a
  refine hK.out _ _ hSa (fun _ => ?_)
  clear hK K
  try (simp only [Act.put, List.setIfInBounds_toArray, List.set_cons_zero, List.set_cons_succ])
  refine tree_call hSa (by rfl) (fun K hK => ?_)
  go_simp
  refine hK.out _ _ hSa (fun _ => ?_)
  clear hK K
  try (simp only [Act.put, List.setIfInBounds_toArray, List.set_cons_zero, List.set_cons_succ])
  refine tree_call hSa (by rfl) (fun K hK => ?_)
  refine wp_append_row _ (.tmp 50) (.tmp 53) 23 rfl (c + 1) 38 i0 _ 5 40 Tryd.underlying23 HI.out HZ0.out HZ1.out HZ2.out rfl (by omega) _ p.code.length (codeCells p.code) rfl (HL3.out.2.2.1.alloc _) _ (.slice (some ⟨w2.heap.size, 0, none⟩) 1 1) 1 [.int .i64 x.ins.op, .int .i64 x.ins.d, .int .i64 x.ins.a, .int .i64 x.ins.b, .int .i64 x.ins.imm] rfl (row_list w2.drew [.int .i64 x.ins.op, .int .i64 x.ins.d, .int .i64 x.ins.a, .int .i64 x.ins.b, .int .i64 x.ins.imm] _) (by simp [Value.oneCell']) (by unfold maxLen; omega) (by omega) (by simp; omega) ?_
  intro v3 y3 hO3 hg3
  obtain ⟨PA, hS3, q3, q4, hy3, A3, k3, rfl⟩ := HEND.out _ _ _ hg3 hO3
  have HPA := Lib.hid PA
  clear hO3 hg3 PA
  refine hK.out _ _ hS3 (fun _ => ?_)
  clear hK K
  try (simp only [Act.put, List.setIfInBounds_toArray, List.set_cons_zero, List.set_cons_succ])
  iterate 3 (refine tree_take (v := ?_) hS3 (by rfl) ?_ ?_; rotate_left; (intro x hx; go_simp; try (with_reducible rfl)); (simp only [Act.put, List.setIfInBounds_toArray, List.set_cons_zero, List.set_cons_succ]))
  refine tree_call hS3 (by rfl) (fun K hK => ?_)
  go_simp
  refine hK.out _ _ (hS3.setCell_other hcx.symm 1 _) (fun _ => ?_)
  clear hK K
  refine tree_done ?_
  try (simp only [Act.put, List.setIfInBounds_toArray, List.set_cons_zero, List.set_cons_succ])
  go_wp2_with fail
  exact bodyPost_ret (v := .tuple #[.int .i64 0, .int .i64 0]) (by simp [results, Tryd.results31, go_sem]) rfl (LayOut.ok HZ.out rfl HPA.out.1 HPA.out.2)
set_option maxHeartbeats 4000000 in
theorem bins_none (x : PartZ) (p : Prog) (w : World) (c m n : Nat) (f : List UInt8 → Option (Int × Int)) (vc vd : Value) (hB : Bld w c m n f p vc vd) (hpc : p.code.length ≤ 1000000) (hk : x.target.kind = 1) (htx : x.target.text.length ≤ 1000000) (hf : f x.target.text = none) :
  Calls Tryd.prog 31 #[.pointer (some ⟨c, 0, none⟩), .agg #[.int .i64 x.kind, .int .i64 (x.at_ : Int), .int .i64 x.num, .string (txt x.name), .int .i64 x.ins.op, .int .i64 x.ins.d, .int .i64 x.ins.a, .int .i64 x.ins.b, .int .i64 x.ins.imm, .int .i64 x.target.kind, .int .i64 x.target.num, .int .i64 (x.target.at_ : Int), .string (txt x.target.text)]] w (LayOut w c m n f (ins1 f x p)) := by
 have hlt := hB.lt
 have HPC := Lib.hid hpc
 have HXB : Hid (Box (w.alloc (.cells #[.int .i64 x.kind, .int .i64 (x.at_ : Int), .int .i64 x.num, .string (txt x.name), .int .i64 x.ins.op, .int .i64 x.ins.d, .int .i64 x.ins.a, .int .i64 x.ins.b, .int .i64 x.ins.imm, .int .i64 x.target.kind, .int .i64 x.target.num, .int .i64 (x.target.at_ : Int), .string (txt x.target.text)] 55)) w.heap.size (partL x)) := Box.new w (partL x) _
 have HBL := Lib.hid (hB.alloc (.cells #[.int .i64 x.kind, .int .i64 (x.at_ : Int), .int .i64 x.num, .string (txt x.name), .int .i64 x.ins.op, .int .i64 x.ins.d, .int .i64 x.ins.a, .int .i64 x.ins.b, .int .i64 x.ins.imm, .int .i64 x.target.kind, .int .i64 x.target.num, .int .i64 (x.target.at_ : Int), .string (txt x.target.text)] 55))
 have HBW : Hid (Below c w (w.alloc (.cells #[.int .i64 x.kind, .int .i64 (x.at_ : Int), .int .i64 x.num, .string (txt x.name), .int .i64 x.ins.op, .int .i64 x.ins.d, .int .i64 x.ins.a, .int .i64 x.ins.b, .int .i64 x.ins.imm, .int .i64 x.target.kind, .int .i64 x.target.num, .int .i64 (x.target.at_ : Int), .string (txt x.target.text)] 55))) := (Below.refl c w).alloc (Nat.le_of_lt hlt) _
 have HN1 : Hid (vc.ownBlock ≠ some w.heap.size) := fun e => by have := (hB.2.2.1.lt _ e).2; omega
 have HN2 : Hid (vd.ownBlock ≠ some w.heap.size) := fun e => by have := (hB.2.2.2.1.lt _ e).2; omega
 have HMC : Hid (m < c) := hB.2.2.2.2
 have hcx : c ≠ w.heap.size := by omega
 have hk2 : (x.target.kind == 1) = true := by simpa using hk
 have HKT : Hid (∀ y, LabM y m n f → (Instr.lookup 50 (.map (some m)) (.string (txt x.target.text)) true).run Tryd.prog y = .ok (.tuple #[.agg #[.int .i64 0, .int .i64 0], .bool false]) y) := by
  intro y hy
  have := hy.look_ok htx
  rw [hf] at this
  exact this
 obtain ⟨A0, k0, hvc⟩ := (Row.of_own hB.2.2.1).form
 have HZ : Hid (ins1 f x p = .bad x.target.at_ 6) := by show _ = _; unfold ins1; rw [if_pos hk, hf]
 generalize ins1 f x p = Z at *
 clear hB hpc hk htx hf
 go_enter Tryd.func31, Tryd.ntmps31
 go_wp2_with fail
 have hS : Box (w.alloc (.cells #[.int .i64 x.kind, .int .i64 (x.at_ : Int), .int .i64 x.num, .string (txt x.name), .int .i64 x.ins.op, .int .i64 x.ins.d, .int .i64 x.ins.a, .int .i64 x.ins.b, .int .i64 x.ins.imm, .int .i64 x.target.kind, .int .i64 x.target.num, .int .i64 (x.target.at_ : Int), .string (txt x.target.text)] 55)).drew w.heap.size (partL x) ∧ Bld (w.alloc (.cells #[.int .i64 x.kind, .int .i64 (x.at_ : Int), .int .i64 x.num, .string (txt x.name), .int .i64 x.ins.op, .int .i64 x.ins.d, .int .i64 x.ins.a, .int .i64 x.ins.b, .int .i64 x.ins.imm, .int .i64 x.target.kind, .int .i64 x.target.num, .int .i64 (x.target.at_ : Int), .string (txt x.target.text)] 55)).drew c m n f p vc vd := ⟨HXB.out.drew, HBL.out.drew⟩
 refine wp_region_lin [(0, true), (1, true), (2, true), (3, true), (4, true), (5, true), (6, true), (7, true), (8, true), (9, true), (10, true), (11, false), (12, false), (13, true)] (by kernel_rfl) (by kernel_rfl) rfl (by kernel_rfl) (fun y => Box y w.heap.size (partL x) ∧ Bld y c m n f p vc vd) ?_
 simp only [List.map_cons, List.map_nil, List.getElem?_toArray, List.getElem?_cons_succ, List.getElem?_cons_zero]
 iterate 11 (refine lin_take (v := ?_) hS (by rfl) ?_ ?_; rotate_left; (intro y hy; obtain ⟨h1, h2⟩ := hy; have e1 := h2.1.cell (k := 0) rfl; have e2 := h1.cell (k := 12) rfl; have e3 := HKT.out y h2.2.1; clear h1 h2; go_simp; try (with_reducible rfl)); (simp only [Act.put, List.setIfInBounds_toArray, List.set_cons_zero, List.set_cons_succ]))
 have hSa : Box ((w.alloc (.cells #[.int .i64 x.kind, .int .i64 (x.at_ : Int), .int .i64 x.num, .string (txt x.name), .int .i64 x.ins.op, .int .i64 x.ins.d, .int .i64 x.ins.a, .int .i64 x.ins.b, .int .i64 x.ins.imm, .int .i64 x.target.kind, .int .i64 x.target.num, .int .i64 (x.target.at_ : Int), .string (txt x.target.text)] 55)).drew.alloc (.cells #[.int .i64 0, .int .i64 0] 82)) w.heap.size (partL x) ∧ Bld ((w.alloc (.cells #[.int .i64 x.kind, .int .i64 (x.at_ : Int), .int .i64 x.num, .string (txt x.name), .int .i64 x.ins.op, .int .i64 x.ins.d, .int .i64 x.ins.a, .int .i64 x.ins.b, .int .i64 x.ins.imm, .int .i64 x.target.kind, .int .i64 x.target.num, .int .i64 (x.target.at_ : Int), .string (txt x.target.text)] 55)).drew.alloc (.cells #[.int .i64 0, .int .i64 0] 82)) c m n f p vc vd := ⟨hS.1.alloc _, hS.2.alloc _⟩
 refine lin_call hS (by rfl) (fun K hK => ?_)
 go_simp
 refine hK.out _ _ hSa (fun _ => ?_)
 clear hK K
 try (simp only [Act.put, List.setIfInBounds_toArray, List.set_cons_zero, List.set_cons_succ])
 refine lin_call hSa (by rfl) (fun K hK => ?_)
 go_simp
 have hSb : Box (((w.alloc (.cells #[.int .i64 x.kind, .int .i64 (x.at_ : Int), .int .i64 x.num, .string (txt x.name), .int .i64 x.ins.op, .int .i64 x.ins.d, .int .i64 x.ins.a, .int .i64 x.ins.b, .int .i64 x.ins.imm, .int .i64 x.target.kind, .int .i64 x.target.num, .int .i64 (x.target.at_ : Int), .string (txt x.target.text)] 55)).alloc (.cells #[.int .i64 0, .int .i64 0] 82)).drew) w.heap.size (partL x) ∧ Bld (((w.alloc (.cells #[.int .i64 x.kind, .int .i64 (x.at_ : Int), .int .i64 x.num, .string (txt x.name), .int .i64 x.ins.op, .int .i64 x.ins.d, .int .i64 x.ins.a, .int .i64 x.ins.b, .int .i64 x.ins.imm, .int .i64 x.target.kind, .int .i64 x.target.num, .int .i64 (x.target.at_ : Int), .string (txt x.target.text)] 55)).alloc (.cells #[.int .i64 0, .int .i64 0] 82)).drew) c m n f p vc vd := ⟨(HXB.out.alloc _).drew, (HBL.out.alloc _).drew⟩
 have hlb : (((w.alloc (.cells #[.int .i64 x.kind, .int .i64 (x.at_ : Int), .int .i64 x.num, .string (txt x.name), .int .i64 x.ins.op, .int .i64 x.ins.d, .int .i64 x.ins.a, .int .i64 x.ins.b, .int .i64 x.ins.imm, .int .i64 x.target.kind, .int .i64 x.target.num, .int .i64 (x.target.at_ : Int), .string (txt x.target.text)] 55)).alloc (.cells #[.int .i64 0, .int .i64 0] 82)).drew).cell? ⟨w.heap.size + 1, 1, none⟩ = some (.int .i64 0) := by
  have := (Box.new (w.alloc (.cells #[.int .i64 x.kind, .int .i64 (x.at_ : Int), .int .i64 x.num, .string (txt x.name), .int .i64 x.ins.op, .int .i64 x.ins.d, .int .i64 x.ins.a, .int .i64 x.ins.b, .int .i64 x.ins.imm, .int .i64 x.target.kind, .int .i64 x.target.num, .int .i64 (x.target.at_ : Int), .string (txt x.target.text)] 55)) [.int .i64 0, .int .i64 0] 82).cell (k := 1) rfl
  rw [show (w.alloc (.cells #[.int .i64 x.kind, .int .i64 (x.at_ : Int), .int .i64 x.num, .string (txt x.name), .int .i64 x.ins.op, .int .i64 x.ins.d, .int .i64 x.ins.a, .int .i64 x.ins.b, .int .i64 x.ins.imm, .int .i64 x.target.kind, .int .i64 x.target.num, .int .i64 (x.target.at_ : Int), .string (txt x.target.text)] 55)).heap.size = w.heap.size + 1 by simp] at this
  exact this
 have hbw : Below c w (((w.alloc (.cells #[.int .i64 x.kind, .int .i64 (x.at_ : Int), .int .i64 x.num, .string (txt x.name), .int .i64 x.ins.op, .int .i64 x.ins.d, .int .i64 x.ins.a, .int .i64 x.ins.b, .int .i64 x.ins.imm, .int .i64 x.target.kind, .int .i64 x.target.num, .int .i64 (x.target.at_ : Int), .string (txt x.target.text)] 55)).alloc (.cells #[.int .i64 0, .int .i64 0] 82)).drew) := (HBW.out.alloc (Nat.le_of_lt HBL.out.lt) _).drew
 have hxl : w.heap.size + 1 < (((w.alloc (.cells #[.int .i64 x.kind, .int .i64 (x.at_ : Int), .int .i64 x.num, .string (txt x.name), .int .i64 x.ins.op, .int .i64 x.ins.d, .int .i64 x.ins.a, .int .i64 x.ins.b, .int .i64 x.ins.imm, .int .i64 x.target.kind, .int .i64 x.target.num, .int .i64 (x.target.at_ : Int), .string (txt x.target.text)] 55)).alloc (.cells #[.int .i64 0, .int .i64 0] 82)).drew).heap.size := by show _ < ((w.alloc (.cells #[.int .i64 x.kind, .int .i64 (x.at_ : Int), .int .i64 x.num, .string (txt x.name), .int .i64 x.ins.op, .int .i64 x.ins.d, .int .i64 x.ins.a, .int .i64 x.ins.b, .int .i64 x.ins.imm, .int .i64 x.target.kind, .int .i64 x.target.num, .int .i64 (x.target.at_ : Int), .string (txt x.target.text)] 55)).alloc _).heap.size; simp
 refine hK.out _ _ hSb (fun _ => ?_)
 clear hK K hS hSa
 try (simp only [Act.put, List.setIfInBounds_toArray, List.set_cons_zero, List.set_cons_succ])
 (refine lin_take (v := ?_) hSb (by rfl) ?_ ?_; rotate_left; (intro y hy; go_simp; try (with_reducible rfl)); (simp only [Act.put, List.setIfInBounds_toArray, List.set_cons_zero, List.set_cons_succ]))
 refine lin_done ?_
 clear HXB HBL HBW
 obtain ⟨HXB, HBL⟩ : Hid (Box (((w.alloc (.cells #[.int .i64 x.kind, .int .i64 (x.at_ : Int), .int .i64 x.num, .string (txt x.name), .int .i64 x.ins.op, .int .i64 x.ins.d, .int .i64 x.ins.a, .int .i64 x.ins.b, .int .i64 x.ins.imm, .int .i64 x.target.kind, .int .i64 x.target.num, .int .i64 (x.target.at_ : Int), .string (txt x.target.text)] 55)).alloc (.cells #[.int .i64 0, .int .i64 0] 82)).drew) w.heap.size (partL x)) ∧ Hid (Bld (((w.alloc (.cells #[.int .i64 x.kind, .int .i64 (x.at_ : Int), .int .i64 x.num, .string (txt x.name), .int .i64 x.ins.op, .int .i64 x.ins.d, .int .i64 x.ins.a, .int .i64 x.ins.b, .int .i64 x.ins.imm, .int .i64 x.target.kind, .int .i64 x.target.num, .int .i64 (x.target.at_ : Int), .string (txt x.target.text)] 55)).alloc (.cells #[.int .i64 0, .int .i64 0] 82)).drew) c m n f p vc vd) := ⟨hSb.1, hSb.2⟩
 have HBW := Lib.hid hbw
 clear hSb hbw
 generalize (((w.alloc (.cells #[.int .i64 x.kind, .int .i64 (x.at_ : Int), .int .i64 x.num, .string (txt x.name), .int .i64 x.ins.op, .int .i64 x.ins.d, .int .i64 x.ins.a, .int .i64 x.ins.b, .int .i64 x.ins.imm, .int .i64 x.target.kind, .int .i64 x.target.num, .int .i64 (x.target.at_ : Int), .string (txt x.target.text)] 55)).alloc (.cells #[.int .i64 0, .int .i64 0] 82)).drew) = X at *
 have y11 := HXB.out.cell (k := 11) rfl
 go_wp2_with fail
 exact bodyPost_ret (v := .tuple #[.int .i64 (x.target.at_ : Int), .int .i64 6]) (by simp [results, Tryd.results31, go_sem]) rfl (LayOut.bad HZ.out rfl HBW.out)
set_option maxHeartbeats 4000000 in
theorem bins_some_no (x : PartZ) (p : Prog) (w : World) (c m n : Nat) (f : List UInt8 → Option (Int × Int)) (vc vd : Value) (hB : Bld w c m n f p vc vd) (hpc : p.code.length ≤ 1000000) (r : Int × Int) (K0 : Int) (hk : x.target.kind = 1) (htx : x.target.text.length ≤ 1000000) (hf : f x.target.text = some r) (hr0 : 0 ≤ r.2) (hr1 : r.2 ≤ 1000000) (hK0 : K0 = r.2 - p.code.length) (hright : rightB { x.ins with imm := K0 } = false) :
  Calls Tryd.prog 31 #[.pointer (some ⟨c, 0, none⟩), .agg #[.int .i64 x.kind, .int .i64 (x.at_ : Int), .int .i64 x.num, .string (txt x.name), .int .i64 x.ins.op, .int .i64 x.ins.d, .int .i64 x.ins.a, .int .i64 x.ins.b, .int .i64 x.ins.imm, .int .i64 x.target.kind, .int .i64 x.target.num, .int .i64 (x.target.at_ : Int), .string (txt x.target.text)]] w (LayOut w c m n f (ins1 f x p)) := by
 have hlt := hB.lt
 have HPC := Lib.hid hpc
 have HXB : Hid (Box (w.alloc (.cells #[.int .i64 x.kind, .int .i64 (x.at_ : Int), .int .i64 x.num, .string (txt x.name), .int .i64 x.ins.op, .int .i64 x.ins.d, .int .i64 x.ins.a, .int .i64 x.ins.b, .int .i64 x.ins.imm, .int .i64 x.target.kind, .int .i64 x.target.num, .int .i64 (x.target.at_ : Int), .string (txt x.target.text)] 55)) w.heap.size (partL x)) := Box.new w (partL x) _
 have HBL := Lib.hid (hB.alloc (.cells #[.int .i64 x.kind, .int .i64 (x.at_ : Int), .int .i64 x.num, .string (txt x.name), .int .i64 x.ins.op, .int .i64 x.ins.d, .int .i64 x.ins.a, .int .i64 x.ins.b, .int .i64 x.ins.imm, .int .i64 x.target.kind, .int .i64 x.target.num, .int .i64 (x.target.at_ : Int), .string (txt x.target.text)] 55))
 have HBW : Hid (Below c w (w.alloc (.cells #[.int .i64 x.kind, .int .i64 (x.at_ : Int), .int .i64 x.num, .string (txt x.name), .int .i64 x.ins.op, .int .i64 x.ins.d, .int .i64 x.ins.a, .int .i64 x.ins.b, .int .i64 x.ins.imm, .int .i64 x.target.kind, .int .i64 x.target.num, .int .i64 (x.target.at_ : Int), .string (txt x.target.text)] 55))) := (Below.refl c w).alloc (Nat.le_of_lt hlt) _
 have HN1 : Hid (vc.ownBlock ≠ some w.heap.size) := fun e => by have := (hB.2.2.1.lt _ e).2; omega
 have HN2 : Hid (vd.ownBlock ≠ some w.heap.size) := fun e => by have := (hB.2.2.2.1.lt _ e).2; omega
 have HMC : Hid (m < c) := hB.2.2.2.2
 have hcx : c ≠ w.heap.size := by omega
 have hk2 : (x.target.kind == 1) = true := by simpa using hk
 have HKT : Hid (∀ y, LabM y m n f → (Instr.lookup 50 (.map (some m)) (.string (txt x.target.text)) true).run Tryd.prog y = .ok (.tuple #[.agg #[.int .i64 r.1, .int .i64 r.2], .bool true]) y) := by
  intro y hy
  have := hy.look_ok htx
  rw [hf] at this
  exact this
 obtain ⟨A0, k0, hvc⟩ := (Row.of_own hB.2.2.1).form
 have HZ : Hid (ins1 f x p = .bad x.at_ 8) := by show _ = _; unfold ins1 put1; rw [if_pos hk, hf]; simp only; rw [← hK0, hright]; rfl
 generalize ins1 f x p = Z at *
 obtain ⟨r1, r2⟩ := r
 simp only at hr0 hr1 hK0 HKT
 have HK0 := Lib.hid hK0
 clear hK0
 have HPL : Hid (p.code.length ≤ 1000000) := hpc
 clear hB hk htx hf
 go_enter Tryd.func31, Tryd.ntmps31
 go_wp2_with fail
 have hS : Box (w.alloc (.cells #[.int .i64 x.kind, .int .i64 (x.at_ : Int), .int .i64 x.num, .string (txt x.name), .int .i64 x.ins.op, .int .i64 x.ins.d, .int .i64 x.ins.a, .int .i64 x.ins.b, .int .i64 x.ins.imm, .int .i64 x.target.kind, .int .i64 x.target.num, .int .i64 (x.target.at_ : Int), .string (txt x.target.text)] 55)).drew w.heap.size (partL x) ∧ Bld (w.alloc (.cells #[.int .i64 x.kind, .int .i64 (x.at_ : Int), .int .i64 x.num, .string (txt x.name), .int .i64 x.ins.op, .int .i64 x.ins.d, .int .i64 x.ins.a, .int .i64 x.ins.b, .int .i64 x.ins.imm, .int .i64 x.target.kind, .int .i64 x.target.num, .int .i64 (x.target.at_ : Int), .string (txt x.target.text)] 55)).drew c m n f p vc vd := ⟨HXB.out.drew, HBL.out.drew⟩
 refine wp_region_lin [(0, true), (1, true), (2, true), (3, true), (4, true), (5, true), (6, true), (7, true), (8, true), (9, true), (10, true), (11, false), (12, false), (13, true)] (by kernel_rfl) (by kernel_rfl) rfl (by kernel_rfl) (fun y => Box y w.heap.size (partL x) ∧ Bld y c m n f p vc vd) ?_
 simp only [List.map_cons, List.map_nil, List.getElem?_toArray, List.getElem?_cons_succ, List.getElem?_cons_zero]
 iterate 11 (refine lin_take (v := ?_) hS (by rfl) ?_ ?_; rotate_left; (intro y hy; obtain ⟨h1, h2⟩ := hy; have e1 := h2.1.cell (k := 0) rfl; have e2 := h1.cell (k := 12) rfl; have e3 := HKT.out y h2.2.1; clear h1 h2; go_simp; try (with_reducible rfl)); (simp only [Act.put, List.setIfInBounds_toArray, List.set_cons_zero, List.set_cons_succ]))
 have hSa : Box ((w.alloc (.cells #[.int .i64 x.kind, .int .i64 (x.at_ : Int), .int .i64 x.num, .string (txt x.name), .int .i64 x.ins.op, .int .i64 x.ins.d, .int .i64 x.ins.a, .int .i64 x.ins.b, .int .i64 x.ins.imm, .int .i64 x.target.kind, .int .i64 x.target.num, .int .i64 (x.target.at_ : Int), .string (txt x.target.text)] 55)).drew.alloc (.cells #[.int .i64 0, .int .i64 0] 82)) w.heap.size (partL x) ∧ Bld ((w.alloc (.cells #[.int .i64 x.kind, .int .i64 (x.at_ : Int), .int .i64 x.num, .string (txt x.name), .int .i64 x.ins.op, .int .i64 x.ins.d, .int .i64 x.ins.a, .int .i64 x.ins.b, .int .i64 x.ins.imm, .int .i64 x.target.kind, .int .i64 x.target.num, .int .i64 (x.target.at_ : Int), .string (txt x.target.text)] 55)).drew.alloc (.cells #[.int .i64 0, .int .i64 0] 82)) c m n f p vc vd := ⟨hS.1.alloc _, hS.2.alloc _⟩
 refine lin_call hS (by rfl) (fun K hK => ?_)
 go_simp
 refine hK.out _ _ hSa (fun _ => ?_)
 clear hK K
 try (simp only [Act.put, List.setIfInBounds_toArray, List.set_cons_zero, List.set_cons_succ])
 refine lin_call hSa (by rfl) (fun K hK => ?_)
 go_simp
 have hSb : Box (((w.alloc (.cells #[.int .i64 x.kind, .int .i64 (x.at_ : Int), .int .i64 x.num, .string (txt x.name), .int .i64 x.ins.op, .int .i64 x.ins.d, .int .i64 x.ins.a, .int .i64 x.ins.b, .int .i64 x.ins.imm, .int .i64 x.target.kind, .int .i64 x.target.num, .int .i64 (x.target.at_ : Int), .string (txt x.target.text)] 55)).alloc (.cells #[.int .i64 r1, .int .i64 r2] 82)).drew) w.heap.size (partL x) ∧ Bld (((w.alloc (.cells #[.int .i64 x.kind, .int .i64 (x.at_ : Int), .int .i64 x.num, .string (txt x.name), .int .i64 x.ins.op, .int .i64 x.ins.d, .int .i64 x.ins.a, .int .i64 x.ins.b, .int .i64 x.ins.imm, .int .i64 x.target.kind, .int .i64 x.target.num, .int .i64 (x.target.at_ : Int), .string (txt x.target.text)] 55)).alloc (.cells #[.int .i64 r1, .int .i64 r2] 82)).drew) c m n f p vc vd := ⟨(HXB.out.alloc _).drew, (HBL.out.alloc _).drew⟩
 have hlb : (((w.alloc (.cells #[.int .i64 x.kind, .int .i64 (x.at_ : Int), .int .i64 x.num, .string (txt x.name), .int .i64 x.ins.op, .int .i64 x.ins.d, .int .i64 x.ins.a, .int .i64 x.ins.b, .int .i64 x.ins.imm, .int .i64 x.target.kind, .int .i64 x.target.num, .int .i64 (x.target.at_ : Int), .string (txt x.target.text)] 55)).alloc (.cells #[.int .i64 r1, .int .i64 r2] 82)).drew).cell? ⟨w.heap.size + 1, 1, none⟩ = some (.int .i64 r2) := by
  have := (Box.new (w.alloc (.cells #[.int .i64 x.kind, .int .i64 (x.at_ : Int), .int .i64 x.num, .string (txt x.name), .int .i64 x.ins.op, .int .i64 x.ins.d, .int .i64 x.ins.a, .int .i64 x.ins.b, .int .i64 x.ins.imm, .int .i64 x.target.kind, .int .i64 x.target.num, .int .i64 (x.target.at_ : Int), .string (txt x.target.text)] 55)) [.int .i64 r1, .int .i64 r2] 82).cell (k := 1) rfl
  rw [show (w.alloc (.cells #[.int .i64 x.kind, .int .i64 (x.at_ : Int), .int .i64 x.num, .string (txt x.name), .int .i64 x.ins.op, .int .i64 x.ins.d, .int .i64 x.ins.a, .int .i64 x.ins.b, .int .i64 x.ins.imm, .int .i64 x.target.kind, .int .i64 x.target.num, .int .i64 (x.target.at_ : Int), .string (txt x.target.text)] 55)).heap.size = w.heap.size + 1 by simp] at this
  exact this
 have hbw : Below c w (((w.alloc (.cells #[.int .i64 x.kind, .int .i64 (x.at_ : Int), .int .i64 x.num, .string (txt x.name), .int .i64 x.ins.op, .int .i64 x.ins.d, .int .i64 x.ins.a, .int .i64 x.ins.b, .int .i64 x.ins.imm, .int .i64 x.target.kind, .int .i64 x.target.num, .int .i64 (x.target.at_ : Int), .string (txt x.target.text)] 55)).alloc (.cells #[.int .i64 r1, .int .i64 r2] 82)).drew) := (HBW.out.alloc (Nat.le_of_lt HBL.out.lt) _).drew
 have hxl : w.heap.size + 1 < (((w.alloc (.cells #[.int .i64 x.kind, .int .i64 (x.at_ : Int), .int .i64 x.num, .string (txt x.name), .int .i64 x.ins.op, .int .i64 x.ins.d, .int .i64 x.ins.a, .int .i64 x.ins.b, .int .i64 x.ins.imm, .int .i64 x.target.kind, .int .i64 x.target.num, .int .i64 (x.target.at_ : Int), .string (txt x.target.text)] 55)).alloc (.cells #[.int .i64 r1, .int .i64 r2] 82)).drew).heap.size := by show _ < ((w.alloc (.cells #[.int .i64 x.kind, .int .i64 (x.at_ : Int), .int .i64 x.num, .string (txt x.name), .int .i64 x.ins.op, .int .i64 x.ins.d, .int .i64 x.ins.a, .int .i64 x.ins.b, .int .i64 x.ins.imm, .int .i64 x.target.kind, .int .i64 x.target.num, .int .i64 (x.target.at_ : Int), .string (txt x.target.text)] 55)).alloc _).heap.size; simp
 refine hK.out _ _ hSb (fun _ => ?_)
 clear hK K hS hSa
 try (simp only [Act.put, List.setIfInBounds_toArray, List.set_cons_zero, List.set_cons_succ])
 (refine lin_take (v := ?_) hSb (by rfl) ?_ ?_; rotate_left; (intro y hy; go_simp; try (with_reducible rfl)); (simp only [Act.put, List.setIfInBounds_toArray, List.set_cons_zero, List.set_cons_succ]))
 refine lin_done ?_
 clear HXB HBL HBW
 have hpl := HPC.out
 obtain ⟨HXB, HBL⟩ : Hid (Box (((w.alloc (.cells #[.int .i64 x.kind, .int .i64 (x.at_ : Int), .int .i64 x.num, .string (txt x.name), .int .i64 x.ins.op, .int .i64 x.ins.d, .int .i64 x.ins.a, .int .i64 x.ins.b, .int .i64 x.ins.imm, .int .i64 x.target.kind, .int .i64 x.target.num, .int .i64 (x.target.at_ : Int), .string (txt x.target.text)] 55)).alloc (.cells #[.int .i64 r1, .int .i64 r2] 82)).drew) w.heap.size (partL x)) ∧ Hid (Bld (((w.alloc (.cells #[.int .i64 x.kind, .int .i64 (x.at_ : Int), .int .i64 x.num, .string (txt x.name), .int .i64 x.ins.op, .int .i64 x.ins.d, .int .i64 x.ins.a, .int .i64 x.ins.b, .int .i64 x.ins.imm, .int .i64 x.target.kind, .int .i64 x.target.num, .int .i64 (x.target.at_ : Int), .string (txt x.target.text)] 55)).alloc (.cells #[.int .i64 r1, .int .i64 r2] 82)).drew) c m n f p vc vd) := ⟨hSb.1, hSb.2⟩
 have HBW := Lib.hid hbw
 clear hSb hbw
 generalize (((w.alloc (.cells #[.int .i64 x.kind, .int .i64 (x.at_ : Int), .int .i64 x.num, .string (txt x.name), .int .i64 x.ins.op, .int .i64 x.ins.d, .int .i64 x.ins.a, .int .i64 x.ins.b, .int .i64 x.ins.imm, .int .i64 x.target.kind, .int .i64 x.target.num, .int .i64 (x.target.at_ : Int), .string (txt x.target.text)] 55)).alloc (.cells #[.int .i64 r1, .int .i64 r2] 82)).drew) = X at *
 subst hvc
 have z1 := HBL.out.1.cell (k := 1) rfl
 have hcX := HBL.out.lt
 go_wp2_with fail
 have hS : X.drew.cell? ⟨w.heap.size + 1, 1, none⟩ = some (.int .i64 r2) ∧ X.drew.cell? ⟨c, 1, none⟩ = some (.slice A0 p.code.length k0) := ⟨hlb, z1⟩
 clear hlb z1
 refine wp_region_lin [(0, true), (1, true), (2, true), (3, true), (4, true), (5, true), (6, true), (7, true), (8, true), (9, true), (10, true), (11, false)] (by kernel_rfl) (by kernel_rfl) rfl (by kernel_rfl) (fun y => y.cell? ⟨w.heap.size + 1, 1, none⟩ = some (.int .i64 r2) ∧ y.cell? ⟨c, 1, none⟩ = some (.slice A0 p.code.length k0)) ?_
 simp only [List.map_cons, List.map_nil, List.getElem?_toArray, List.getElem?_cons_succ, List.getElem?_cons_zero]
 iterate 11 (refine lin_take (v := ?_) hS (by rfl) ?_ ?_; rotate_left; (intro y hy; obtain ⟨e1, e2⟩ := hy; go_simp; try (with_reducible rfl)); (simp only [Act.put, List.setIfInBounds_toArray, List.set_cons_zero, List.set_cons_succ]))
 have hw : IntKind.i64.wrap (r2 - (p.code.length : Int)) = K0 := by have := HK0.out; rw [this]; exact IntWalk.i64_in _ ⟨by omega, by omega⟩
 rw [hw]
 have y8 : X.drew.cell? ⟨w.heap.size, 8, none⟩ = some (.int .i64 x.ins.imm) := HXB.out.cell (k := 8) rfl
 have f8 : X.drew.frozen? ⟨w.heap.size, 8, none⟩ = false := HXB.out.frozen 8
 have hSc : (X.drew.setCell ⟨w.heap.size, 8, none⟩ (.int .i64 K0)).cell? ⟨w.heap.size + 1, 1, none⟩ = some (.int .i64 r2) ∧ (X.drew.setCell ⟨w.heap.size, 8, none⟩ (.int .i64 K0)).cell? ⟨c, 1, none⟩ = some (.slice A0 p.code.length k0) :=
  ⟨(World.cell?_setCell_other _ _ _ _ (fun e => by have := congrArg Addr.block e; simp at this)).trans hS.1, (World.cell?_setCell_other _ _ _ _ (fun e => hcx (congrArg Addr.block e).symm)).trans hS.2⟩
 refine lin_call hS (by rfl) (fun K hK => ?_)
 go_simp
 refine hK.out _ _ hSc (fun _ => ?_)
 clear hK K hS hSc y8 f8
 try (simp only [Act.put, List.setIfInBounds_toArray, List.set_cons_zero, List.set_cons_succ])
 refine lin_done ?_
 obtain ⟨HXC, HBC, HWC⟩ : Hid (Box ((X.setCell ⟨w.heap.size, 8, none⟩ (.int .i64 K0)).drew) w.heap.size (partL { x with ins := { x.ins with imm := K0 } })) ∧ Hid (Bld ((X.setCell ⟨w.heap.size, 8, none⟩ (.int .i64 K0)).drew) c m n f p (.slice A0 p.code.length k0) vd) ∧ Hid (Below c w ((X.setCell ⟨w.heap.size, 8, none⟩ (.int .i64 K0)).drew)) :=
  ⟨(HXB.out.setCell 8 _).drew, (HBL.out.set hlt HN1.out HN2.out 8 _).drew, (HBW.out.setCell (p := ⟨w.heap.size, 8, none⟩) (Nat.le_of_lt hlt) _).drew⟩
 clear HXB HBL HBW
 have HXB := HXC
 have HBL := HBC
 have HBW := HWC
 clear HXC HBC HWC hw
 generalize (X.setCell ⟨w.heap.size, 8, none⟩ (.int .i64 K0)).drew = Y at *
 have y4 : Y.cell? ⟨w.heap.size, 4, none⟩ = some (.int .i64 x.ins.op) := HXB.out.cell (k := 4) rfl
 have y5 : Y.cell? ⟨w.heap.size, 5, none⟩ = some (.int .i64 x.ins.d) := HXB.out.cell (k := 5) rfl
 have y6 : Y.cell? ⟨w.heap.size, 6, none⟩ = some (.int .i64 x.ins.a) := HXB.out.cell (k := 6) rfl
 have y7 : Y.cell? ⟨w.heap.size, 7, none⟩ = some (.int .i64 x.ins.b) := HXB.out.cell (k := 7) rfl
 have y8 : Y.cell? ⟨w.heap.size, 8, none⟩ = some (.int .i64 K0) := HXB.out.cell (k := 8) rfl
 have HHR := Lib.hid hright
 clear hright
 go_wp2_with fail
 have hright := HHR.out
 clear y4 y5 y6 y7 y8
 refine (right_any ({ x.ins with imm := K0 } : Ins) _).mono ?_; rintro en w2 ⟨rfl, hb2⟩
 rw [hright]
 have HB2 := Lib.hid (HBW.out.trans (hb2.mono (Nat.le_of_lt HBL.out.lt)))
 have HX2 : Hid (Box w2 w.heap.size (partL { x with ins := { x.ins with imm := K0 } })) := HXB.out.below hb2 HXB.out.lt
 have HL2 := Lib.hid (HBL.out.go hb2)
 have y1 := HX2.out.cell (k := 1) rfl
 try simp only at y1
 clear hb2 hright
 have y1b : w2.cell? ⟨w.heap.size, 1, none⟩ = some (.int .i64 (x.at_ : Int)) := y1
 go_wp2_with fail
 exact bodyPost_ret (v := .tuple #[.int .i64 (x.at_ : Int), .int .i64 8]) (by simp [results, Tryd.results31, go_sem]) rfl (LayOut.bad HZ.out rfl HB2.out)
set_option maxHeartbeats 4000000 in
theorem bins_some_yes (x : PartZ) (p : Prog) (w : World) (c m n : Nat) (f : List UInt8 → Option (Int × Int)) (vc vd : Value) (hB : Bld w c m n f p vc vd) (hpc : p.code.length ≤ 1000000) (r : Int × Int) (K0 : Int) (hk : x.target.kind = 1) (htx : x.target.text.length ≤ 1000000) (hf : f x.target.text = some r) (hr0 : 0 ≤ r.2) (hr1 : r.2 ≤ 1000000) (hK0 : K0 = r.2 - p.code.length) (hright : rightB { x.ins with imm := K0 } = true) :
  Calls Tryd.prog 31 #[.pointer (some ⟨c, 0, none⟩), .agg #[.int .i64 x.kind, .int .i64 (x.at_ : Int), .int .i64 x.num, .string (txt x.name), .int .i64 x.ins.op, .int .i64 x.ins.d, .int .i64 x.ins.a, .int .i64 x.ins.b, .int .i64 x.ins.imm, .int .i64 x.target.kind, .int .i64 x.target.num, .int .i64 (x.target.at_ : Int), .string (txt x.target.text)]] w (LayOut w c m n f (ins1 f x p)) := by
 have hlt := hB.lt
 have HPC := Lib.hid hpc
 have HXB : Hid (Box (w.alloc (.cells #[.int .i64 x.kind, .int .i64 (x.at_ : Int), .int .i64 x.num, .string (txt x.name), .int .i64 x.ins.op, .int .i64 x.ins.d, .int .i64 x.ins.a, .int .i64 x.ins.b, .int .i64 x.ins.imm, .int .i64 x.target.kind, .int .i64 x.target.num, .int .i64 (x.target.at_ : Int), .string (txt x.target.text)] 55)) w.heap.size (partL x)) := Box.new w (partL x) _
 have HBL := Lib.hid (hB.alloc (.cells #[.int .i64 x.kind, .int .i64 (x.at_ : Int), .int .i64 x.num, .string (txt x.name), .int .i64 x.ins.op, .int .i64 x.ins.d, .int .i64 x.ins.a, .int .i64 x.ins.b, .int .i64 x.ins.imm, .int .i64 x.target.kind, .int .i64 x.target.num, .int .i64 (x.target.at_ : Int), .string (txt x.target.text)] 55))
 have HBW : Hid (Below c w (w.alloc (.cells #[.int .i64 x.kind, .int .i64 (x.at_ : Int), .int .i64 x.num, .string (txt x.name), .int .i64 x.ins.op, .int .i64 x.ins.d, .int .i64 x.ins.a, .int .i64 x.ins.b, .int .i64 x.ins.imm, .int .i64 x.target.kind, .int .i64 x.target.num, .int .i64 (x.target.at_ : Int), .string (txt x.target.text)] 55))) := (Below.refl c w).alloc (Nat.le_of_lt hlt) _
 have HN1 : Hid (vc.ownBlock ≠ some w.heap.size) := fun e => by have := (hB.2.2.1.lt _ e).2; omega
 have HN2 : Hid (vd.ownBlock ≠ some w.heap.size) := fun e => by have := (hB.2.2.2.1.lt _ e).2; omega
 have HMC : Hid (m < c) := hB.2.2.2.2
 have hcx : c ≠ w.heap.size := by omega
 have hk2 : (x.target.kind == 1) = true := by simpa using hk
 have HKT : Hid (∀ y, LabM y m n f → (Instr.lookup 50 (.map (some m)) (.string (txt x.target.text)) true).run Tryd.prog y = .ok (.tuple #[.agg #[.int .i64 r.1, .int .i64 r.2], .bool true]) y) := by
  intro y hy
  have := hy.look_ok htx
  rw [hf] at this
  exact this
 obtain ⟨A0, k0, hvc⟩ := (Row.of_own hB.2.2.1).form
 have HZ : Hid (ins1 f x p = .ok { p with code := p.code ++ [({ x.ins with imm := K0 } : Ins)] }) := by show _ = _; unfold ins1 put1; rw [if_pos hk, hf]; simp only; rw [← hK0, hright]; rfl
 generalize ins1 f x p = Z at *
 obtain ⟨r1, r2⟩ := r
 simp only at hr0 hr1 hK0 HKT
 have HK0 := Lib.hid hK0
 clear hK0
 have HPL : Hid (p.code.length ≤ 1000000) := hpc
 clear hB hk htx hf
 go_enter Tryd.func31, Tryd.ntmps31
 go_wp2_with fail
 have hS : Box (w.alloc (.cells #[.int .i64 x.kind, .int .i64 (x.at_ : Int), .int .i64 x.num, .string (txt x.name), .int .i64 x.ins.op, .int .i64 x.ins.d, .int .i64 x.ins.a, .int .i64 x.ins.b, .int .i64 x.ins.imm, .int .i64 x.target.kind, .int .i64 x.target.num, .int .i64 (x.target.at_ : Int), .string (txt x.target.text)] 55)).drew w.heap.size (partL x) ∧ Bld (w.alloc (.cells #[.int .i64 x.kind, .int .i64 (x.at_ : Int), .int .i64 x.num, .string (txt x.name), .int .i64 x.ins.op, .int .i64 x.ins.d, .int .i64 x.ins.a, .int .i64 x.ins.b, .int .i64 x.ins.imm, .int .i64 x.target.kind, .int .i64 x.target.num, .int .i64 (x.target.at_ : Int), .string (txt x.target.text)] 55)).drew c m n f p vc vd := ⟨HXB.out.drew, HBL.out.drew⟩
 refine wp_region_lin [(0, true), (1, true), (2, true), (3, true), (4, true), (5, true), (6, true), (7, true), (8, true), (9, true), (10, true), (11, false), (12, false), (13, true)] (by kernel_rfl) (by kernel_rfl) rfl (by kernel_rfl) (fun y => Box y w.heap.size (partL x) ∧ Bld y c m n f p vc vd) ?_
 simp only [List.map_cons, List.map_nil, List.getElem?_toArray, List.getElem?_cons_succ, List.getElem?_cons_zero]
 iterate 11 (refine lin_take (v := ?_) hS (by rfl) ?_ ?_; rotate_left; (intro y hy; obtain ⟨h1, h2⟩ := hy; have e1 := h2.1.cell (k := 0) rfl; have e2 := h1.cell (k := 12) rfl; have e3 := HKT.out y h2.2.1; clear h1 h2; go_simp; try (with_reducible rfl)); (simp only [Act.put, List.setIfInBounds_toArray, List.set_cons_zero, List.set_cons_succ]))
 have hSa : Box ((w.alloc (.cells #[.int .i64 x.kind, .int .i64 (x.at_ : Int), .int .i64 x.num, .string (txt x.name), .int .i64 x.ins.op, .int .i64 x.ins.d, .int .i64 x.ins.a, .int .i64 x.ins.b, .int .i64 x.ins.imm, .int .i64 x.target.kind, .int .i64 x.target.num, .int .i64 (x.target.at_ : Int), .string (txt x.target.text)] 55)).drew.alloc (.cells #[.int .i64 0, .int .i64 0] 82)) w.heap.size (partL x) ∧ Bld ((w.alloc (.cells #[.int .i64 x.kind, .int .i64 (x.at_ : Int), .int .i64 x.num, .string (txt x.name), .int .i64 x.ins.op, .int .i64 x.ins.d, .int .i64 x.ins.a, .int .i64 x.ins.b, .int .i64 x.ins.imm, .int .i64 x.target.kind, .int .i64 x.target.num, .int .i64 (x.target.at_ : Int), .string (txt x.target.text)] 55)).drew.alloc (.cells #[.int .i64 0, .int .i64 0] 82)) c m n f p vc vd := ⟨hS.1.alloc _, hS.2.alloc _⟩
 refine lin_call hS (by rfl) (fun K hK => ?_)
 go_simp
 refine hK.out _ _ hSa (fun _ => ?_)
 clear hK K
 try (simp only [Act.put, List.setIfInBounds_toArray, List.set_cons_zero, List.set_cons_succ])
 refine lin_call hSa (by rfl) (fun K hK => ?_)
 go_simp
 have hSb : Box (((w.alloc (.cells #[.int .i64 x.kind, .int .i64 (x.at_ : Int), .int .i64 x.num, .string (txt x.name), .int .i64 x.ins.op, .int .i64 x.ins.d, .int .i64 x.ins.a, .int .i64 x.ins.b, .int .i64 x.ins.imm, .int .i64 x.target.kind, .int .i64 x.target.num, .int .i64 (x.target.at_ : Int), .string (txt x.target.text)] 55)).alloc (.cells #[.int .i64 r1, .int .i64 r2] 82)).drew) w.heap.size (partL x) ∧ Bld (((w.alloc (.cells #[.int .i64 x.kind, .int .i64 (x.at_ : Int), .int .i64 x.num, .string (txt x.name), .int .i64 x.ins.op, .int .i64 x.ins.d, .int .i64 x.ins.a, .int .i64 x.ins.b, .int .i64 x.ins.imm, .int .i64 x.target.kind, .int .i64 x.target.num, .int .i64 (x.target.at_ : Int), .string (txt x.target.text)] 55)).alloc (.cells #[.int .i64 r1, .int .i64 r2] 82)).drew) c m n f p vc vd := ⟨(HXB.out.alloc _).drew, (HBL.out.alloc _).drew⟩
 have hlb : (((w.alloc (.cells #[.int .i64 x.kind, .int .i64 (x.at_ : Int), .int .i64 x.num, .string (txt x.name), .int .i64 x.ins.op, .int .i64 x.ins.d, .int .i64 x.ins.a, .int .i64 x.ins.b, .int .i64 x.ins.imm, .int .i64 x.target.kind, .int .i64 x.target.num, .int .i64 (x.target.at_ : Int), .string (txt x.target.text)] 55)).alloc (.cells #[.int .i64 r1, .int .i64 r2] 82)).drew).cell? ⟨w.heap.size + 1, 1, none⟩ = some (.int .i64 r2) := by
  have := (Box.new (w.alloc (.cells #[.int .i64 x.kind, .int .i64 (x.at_ : Int), .int .i64 x.num, .string (txt x.name), .int .i64 x.ins.op, .int .i64 x.ins.d, .int .i64 x.ins.a, .int .i64 x.ins.b, .int .i64 x.ins.imm, .int .i64 x.target.kind, .int .i64 x.target.num, .int .i64 (x.target.at_ : Int), .string (txt x.target.text)] 55)) [.int .i64 r1, .int .i64 r2] 82).cell (k := 1) rfl
  rw [show (w.alloc (.cells #[.int .i64 x.kind, .int .i64 (x.at_ : Int), .int .i64 x.num, .string (txt x.name), .int .i64 x.ins.op, .int .i64 x.ins.d, .int .i64 x.ins.a, .int .i64 x.ins.b, .int .i64 x.ins.imm, .int .i64 x.target.kind, .int .i64 x.target.num, .int .i64 (x.target.at_ : Int), .string (txt x.target.text)] 55)).heap.size = w.heap.size + 1 by simp] at this
  exact this
 have hbw : Below c w (((w.alloc (.cells #[.int .i64 x.kind, .int .i64 (x.at_ : Int), .int .i64 x.num, .string (txt x.name), .int .i64 x.ins.op, .int .i64 x.ins.d, .int .i64 x.ins.a, .int .i64 x.ins.b, .int .i64 x.ins.imm, .int .i64 x.target.kind, .int .i64 x.target.num, .int .i64 (x.target.at_ : Int), .string (txt x.target.text)] 55)).alloc (.cells #[.int .i64 r1, .int .i64 r2] 82)).drew) := (HBW.out.alloc (Nat.le_of_lt HBL.out.lt) _).drew
 have hxl : w.heap.size + 1 < (((w.alloc (.cells #[.int .i64 x.kind, .int .i64 (x.at_ : Int), .int .i64 x.num, .string (txt x.name), .int .i64 x.ins.op, .int .i64 x.ins.d, .int .i64 x.ins.a, .int .i64 x.ins.b, .int .i64 x.ins.imm, .int .i64 x.target.kind, .int .i64 x.target.num, .int .i64 (x.target.at_ : Int), .string (txt x.target.text)] 55)).alloc (.cells #[.int .i64 r1, .int .i64 r2] 82)).drew).heap.size := by show _ < ((w.alloc (.cells #[.int .i64 x.kind, .int .i64 (x.at_ : Int), .int .i64 x.num, .string (txt x.name), .int .i64 x.ins.op, .int .i64 x.ins.d, .int .i64 x.ins.a, .int .i64 x.ins.b, .int .i64 x.ins.imm, .int .i64 x.target.kind, .int .i64 x.target.num, .int .i64 (x.target.at_ : Int), .string (txt x.target.text)] 55)).alloc _).heap.size; simp
 refine hK.out _ _ hSb (fun _ => ?_)
 clear hK K hS hSa
 try (simp only [Act.put, List.setIfInBounds_toArray, List.set_cons_zero, List.set_cons_succ])
 (refine lin_take (v := ?_) hSb (by rfl) ?_ ?_; rotate_left; (intro y hy; go_simp; try (with_reducible rfl)); (simp only [Act.put, List.setIfInBounds_toArray, List.set_cons_zero, List.set_cons_succ]))
 refine lin_done ?_
 clear HXB HBL HBW
 have hpl := HPC.out
 obtain ⟨HXB, HBL⟩ : Hid (Box (((w.alloc (.cells #[.int .i64 x.kind, .int .i64 (x.at_ : Int), .int .i64 x.num, .string (txt x.name), .int .i64 x.ins.op, .int .i64 x.ins.d, .int .i64 x.ins.a, .int .i64 x.ins.b, .int .i64 x.ins.imm, .int .i64 x.target.kind, .int .i64 x.target.num, .int .i64 (x.target.at_ : Int), .string (txt x.target.text)] 55)).alloc (.cells #[.int .i64 r1, .int .i64 r2] 82)).drew) w.heap.size (partL x)) ∧ Hid (Bld (((w.alloc (.cells #[.int .i64 x.kind, .int .i64 (x.at_ : Int), .int .i64 x.num, .string (txt x.name), .int .i64 x.ins.op, .int .i64 x.ins.d, .int .i64 x.ins.a, .int .i64 x.ins.b, .int .i64 x.ins.imm, .int .i64 x.target.kind, .int .i64 x.target.num, .int .i64 (x.target.at_ : Int), .string (txt x.target.text)] 55)).alloc (.cells #[.int .i64 r1, .int .i64 r2] 82)).drew) c m n f p vc vd) := ⟨hSb.1, hSb.2⟩
 have HBW := Lib.hid hbw
 clear hSb hbw
 generalize (((w.alloc (.cells #[.int .i64 x.kind, .int .i64 (x.at_ : Int), .int .i64 x.num, .string (txt x.name), .int .i64 x.ins.op, .int .i64 x.ins.d, .int .i64 x.ins.a, .int .i64 x.ins.b, .int .i64 x.ins.imm, .int .i64 x.target.kind, .int .i64 x.target.num, .int .i64 (x.target.at_ : Int), .string (txt x.target.text)] 55)).alloc (.cells #[.int .i64 r1, .int .i64 r2] 82)).drew) = X at *
 subst hvc
 have z1 := HBL.out.1.cell (k := 1) rfl
 have hcX := HBL.out.lt
 go_wp2_with fail
 have hS : X.drew.cell? ⟨w.heap.size + 1, 1, none⟩ = some (.int .i64 r2) ∧ X.drew.cell? ⟨c, 1, none⟩ = some (.slice A0 p.code.length k0) := ⟨hlb, z1⟩
 clear hlb z1
 refine wp_region_lin [(0, true), (1, true), (2, true), (3, true), (4, true), (5, true), (6, true), (7, true), (8, true), (9, true), (10, true), (11, false)] (by kernel_rfl) (by kernel_rfl) rfl (by kernel_rfl) (fun y => y.cell? ⟨w.heap.size + 1, 1, none⟩ = some (.int .i64 r2) ∧ y.cell? ⟨c, 1, none⟩ = some (.slice A0 p.code.length k0)) ?_
 simp only [List.map_cons, List.map_nil, List.getElem?_toArray, List.getElem?_cons_succ, List.getElem?_cons_zero]
 iterate 11 (refine lin_take (v := ?_) hS (by rfl) ?_ ?_; rotate_left; (intro y hy; obtain ⟨e1, e2⟩ := hy; go_simp; try (with_reducible rfl)); (simp only [Act.put, List.setIfInBounds_toArray, List.set_cons_zero, List.set_cons_succ]))
 have hw : IntKind.i64.wrap (r2 - (p.code.length : Int)) = K0 := by have := HK0.out; rw [this]; exact IntWalk.i64_in _ ⟨by omega, by omega⟩
 rw [hw]
 have y8 : X.drew.cell? ⟨w.heap.size, 8, none⟩ = some (.int .i64 x.ins.imm) := HXB.out.cell (k := 8) rfl
 have f8 : X.drew.frozen? ⟨w.heap.size, 8, none⟩ = false := HXB.out.frozen 8
 have hSc : (X.drew.setCell ⟨w.heap.size, 8, none⟩ (.int .i64 K0)).cell? ⟨w.heap.size + 1, 1, none⟩ = some (.int .i64 r2) ∧ (X.drew.setCell ⟨w.heap.size, 8, none⟩ (.int .i64 K0)).cell? ⟨c, 1, none⟩ = some (.slice A0 p.code.length k0) :=
  ⟨(World.cell?_setCell_other _ _ _ _ (fun e => by have := congrArg Addr.block e; simp at this)).trans hS.1, (World.cell?_setCell_other _ _ _ _ (fun e => hcx (congrArg Addr.block e).symm)).trans hS.2⟩
 refine lin_call hS (by rfl) (fun K hK => ?_)
 go_simp
 refine hK.out _ _ hSc (fun _ => ?_)
 clear hK K hS hSc y8 f8
 try (simp only [Act.put, List.setIfInBounds_toArray, List.set_cons_zero, List.set_cons_succ])
 refine lin_done ?_
 obtain ⟨HXC, HBC, HWC⟩ : Hid (Box ((X.setCell ⟨w.heap.size, 8, none⟩ (.int .i64 K0)).drew) w.heap.size (partL { x with ins := { x.ins with imm := K0 } })) ∧ Hid (Bld ((X.setCell ⟨w.heap.size, 8, none⟩ (.int .i64 K0)).drew) c m n f p (.slice A0 p.code.length k0) vd) ∧ Hid (Below c w ((X.setCell ⟨w.heap.size, 8, none⟩ (.int .i64 K0)).drew)) :=
  ⟨(HXB.out.setCell 8 _).drew, (HBL.out.set hlt HN1.out HN2.out 8 _).drew, (HBW.out.setCell (p := ⟨w.heap.size, 8, none⟩) (Nat.le_of_lt hlt) _).drew⟩
 clear HXB HBL HBW
 have HXB := HXC
 have HBL := HBC
 have HBW := HWC
 clear HXC HBC HWC hw
 generalize (X.setCell ⟨w.heap.size, 8, none⟩ (.int .i64 K0)).drew = Y at *
 have y4 : Y.cell? ⟨w.heap.size, 4, none⟩ = some (.int .i64 x.ins.op) := HXB.out.cell (k := 4) rfl
 have y5 : Y.cell? ⟨w.heap.size, 5, none⟩ = some (.int .i64 x.ins.d) := HXB.out.cell (k := 5) rfl
 have y6 : Y.cell? ⟨w.heap.size, 6, none⟩ = some (.int .i64 x.ins.a) := HXB.out.cell (k := 6) rfl
 have y7 : Y.cell? ⟨w.heap.size, 7, none⟩ = some (.int .i64 x.ins.b) := HXB.out.cell (k := 7) rfl
 have y8 : Y.cell? ⟨w.heap.size, 8, none⟩ = some (.int .i64 K0) := HXB.out.cell (k := 8) rfl
 have HHR := Lib.hid hright
 clear hright
 go_wp2_with fail
 have hright := HHR.out
 clear y4 y5 y6 y7 y8
 refine (right_any ({ x.ins with imm := K0 } : Ins) _).mono ?_; rintro en w2 ⟨rfl, hb2⟩
 rw [hright]
 have HB2 := Lib.hid (HBW.out.trans (hb2.mono (Nat.le_of_lt HBL.out.lt)))
 have HX2 : Hid (Box w2 w.heap.size (partL { x with ins := { x.ins with imm := K0 } })) := HXB.out.below hb2 HXB.out.lt
 have HL2 := Lib.hid (HBL.out.go hb2)
 have y1 := HX2.out.cell (k := 1) rfl
 try simp only at y1
 clear hb2 hright
 clear y1
 have hl2 := HL2.out.lt
 go_wp2_with fail
 have HX3 : Hid (Box w2.drew w.heap.size (partL { x with ins := { x.ins with imm := K0 } })) := HX2.out.drew
 have HL3 : Hid (Bld w2.drew c m n f p (Value.slice A0 p.code.length k0) vd) := HL2.out.drew
 clear hl2
 refine wp_region_tree (fun a x => _) (LinT.of [(0, true), (1, true), (2, true), (3, true), (4, true), (6, true), (7, true)] (.two 5 8 (LinT.of [(8, false), (9, false), (10, true), (11, true), (12, true), (13, false)] .nil) (LinT.of [(5, false), (9, false), (10, true), (11, true), (12, true), (13, false)] .nil))) (by kernel_rfl) (by kernel_rfl) rfl (by kernel_rfl) (fun y => Box y w.heap.size (partL { x with ins := { x.ins with imm := K0 } })) (fun _ _ h => h) ?_
 simp only [LinT.of, LinT.look, List.getElem?_toArray, List.getElem?_cons_succ, List.getElem?_cons_zero]
 have hS0 : Box w2.drew w.heap.size (partL { x with ins := { x.ins with imm := K0 } }) := HX3.out
 iterate 6 (refine tree_take (v := ?_) hS0 (by rfl) ?_ ?_; rotate_left; (intro x hx; go_simp; try (with_reducible rfl)); (simp only [Act.put, List.setIfInBounds_toArray, List.set_cons_zero, List.set_cons_succ]))
 refine tree_get_box hS0 (by rfl) 38 (.tmp 51) rfl w.heap.size 4 rfl (partL { x with ins := { x.ins with imm := K0 } }) [.int .i64 x.ins.op, .int .i64 x.ins.d, .int .i64 x.ins.a, .int .i64 x.ins.b, .int .i64 K0] (fun y hy => hy) (by intro j v hj; rcases j with _ | _ | _ | _ | _ | j <;> first | exact hj | (simp at hj)) _ Tryd.underlying38 rfl 5 size_ins8 rfl ?_
 try (simp only [Act.put, List.setIfInBounds_toArray, List.set_cons_zero, List.set_cons_succ])
 obtain ⟨i0, hi, hz0, hz1, hz2⟩ := info_parts info_ins8
 have HI := Lib.hid hi
 have HZ0 := Lib.hid hz0
 have HZ1 := Lib.hid hz1
 have HZ2 := Lib.hid hz2
 clear hi hz0 hz1 hz2
 have c1 : w2.cell? ⟨c, 1, none⟩ = some (Value.slice A0 p.code.length k0) := HL3.out.1.cell (k := 1) rfl
 have hcl : c < w2.heap.size := HL3.out.lt
 have hpcc := HPC.out
 have HEND : Hid (∀ (o : Obj) (y3 : World) (v3 : Value), (w2.drew.alloc o).grownBy y3 (Value.slice A0 p.code.length k0).ownBlock → y3.ownsRow (c + 1) 38 5 v3 (p.code.length + 1) (codeCells p.code ++ [.int .i64 x.ins.op, .int .i64 x.ins.d, .int .i64 x.ins.a, .int .i64 x.ins.b, .int .i64 K0]) →
   (Bld (y3.setCell ⟨c, 1, none⟩ v3) c m n f { p with code := p.code ++ [({ x.ins with imm := K0 } : Ins)] } v3 vd ∧ Below c w (y3.setCell ⟨c, 1, none⟩ v3)) ∧ Box y3 w.heap.size (partL { x with ins := { x.ins with imm := K0 } }) ∧ y3.cell? ⟨c, 1, none⟩ = some (Value.slice A0 p.code.length k0) ∧ y3.frozen? ⟨c, 1, none⟩ = false ∧ c < y3.heap.size ∧ ∃ A3 k3, v3 = .slice A3 (p.code.length + 1) k3) := by
  intro o y3 v3 hg ho
  have hne : some c ≠ (Value.slice A0 p.code.length k0).ownBlock := fun e => by have := (HL3.out.2.2.1.lt c e.symm).1; omega
  obtain ⟨q1, q2⟩ := HL3.out.code (i := ({ x.ins with imm := K0 } : Ins)) hg ho rfl
  obtain ⟨A3, k3, h3⟩ := (Row.of_own ho).form
  have hb2 := HL3.out.1.alloc o
  refine ⟨⟨q1, HB2.out.trans ((Below.refl c w2).drew.trans q2)⟩, (HX3.out.alloc o).grown hg (fun e => HN1.out e.symm), hg.cell (hb2.cell (k := 1) rfl) hne, ?_, ?_, A3, k3, h3⟩
  ·rw [World.frozen?_of_block (w := w2.drew.alloc o) (hg.block c hb2.lt hne)]; exact hb2.frozen 1
  ·have := hg.size; have := hb2.lt; omega
 refine tree_two hS0 (by rfl) (by rfl) (fun K hK => ?_) (fun K hK => ?_)
 ·go_simp
  refine hK.out _ _ hS0 (fun _ => ?_)
  clear hK K
  try (simp only [Act.put, List.setIfInBounds_toArray, List.set_cons_zero, List.set_cons_succ])
  refine tree_call hS0 (by rfl) (fun K hK => ?_)
  go_simp
  have hSa : Box (w2.drew.alloc (.cells #[.int .i64 x.ins.op, .int .i64 x.ins.d, .int .i64 x.ins.a, .int .i64 x.ins.b, .int .i64 K0] 38)) w.heap.size (partL { x with ins := { x.ins with imm := K0 } }) := hS0.alloc _
  refine hK.out _ _ hSa (fun _ => ?_)
  clear hK K
  try (simp only [Act.put, List.setIfInBounds_toArray, List.set_cons_zero, List.set_cons_succ])
  refine tree_call hSa (by rfl) (fun K hK => ?_)
  refine wp_append_row _ (.tmp 50) (.tmp 53) 23 rfl (c + 1) 38 i0 _ 5 40 Tryd.underlying23 HI.out HZ0.out HZ1.out HZ2.out rfl (by omega) _ p.code.length (codeCells p.code) rfl (HL3.out.2.2.1.alloc _) _ (.slice (some ⟨w2.heap.size, 0, none⟩) 1 1) 1 [.int .i64 x.ins.op, .int .i64 x.ins.d, .int .i64 x.ins.a, .int .i64 x.ins.b, .int .i64 K0] rfl (row_list w2.drew [.int .i64 x.ins.op, .int .i64 x.ins.d, .int .i64 x.ins.a, .int .i64 x.ins.b, .int .i64 K0] _) (by simp [Value.oneCell']) (by unfold maxLen; omega) (by omega) (by simp; omega) ?_
  intro v3 y3 hO3 hg3
  obtain ⟨PA, hS3, q3, q4, hy3, A3, k3, rfl⟩ := HEND.out _ _ _ hg3 hO3
  have HPA := Lib.hid PA
  clear hO3 hg3 PA
  refine hK.out _ _ hS3 (fun _ => ?_)
  clear hK K
  try (simp only [Act.put, List.setIfInBounds_toArray, List.set_cons_zero, List.set_cons_succ])
  iterate 3 (refine tree_take (v := ?_) hS3 (by rfl) ?_ ?_; rotate_left; (intro x hx; go_simp; try (with_reducible rfl)); (simp only [Act.put, List.setIfInBounds_toArray, List.set_cons_zero, List.set_cons_succ]))
  refine tree_call hS3 (by rfl) (fun K hK => ?_)
  go_simp
  refine hK.out _ _ (hS3.setCell_other hcx.symm 1 _) (fun _ => ?_)
  clear hK K
  refine tree_done ?_
  try (simp only [Act.put, List.setIfInBounds_toArray, List.set_cons_zero, List.set_cons_succ])
  go_wp2_with fail
  exact bodyPost_ret (v := .tuple #[.int .i64 0, .int .i64 0]) (by simp [results, Tryd.results31, go_sem]) rfl (LayOut.ok HZ.out rfl HPA.out.1 HPA.out.2)
 ·go_simp
  have hSa : Box (w2.drew.alloc (.cells #[.int .i64 x.ins.op, .int .i64 x.ins.d, .int .i64 x.ins.a, .int .i64 x.ins.b, .int .i64 K0] 38)) w.heap.size (partL { x with ins := { x.ins with imm := K0 } }) := hS0.alloc _
  have c1a : (w2.drew.alloc (.cells #[.int .i64 x.ins.op, .int .i64 x.ins.d, .int .i64 x.ins.a, .int .i64 x.ins.b, .int .i64 K0] 38)).cell? ⟨c, 1, none⟩ = some (Value.slice A0 p.code.length k0) := (World.cell?_alloc_lt _ _ _ hcl).trans c1
  have c1b : (w2.alloc (.cells #[.int .i64 x.ins.op, .int .i64 x.ins.d, .int .i64 x.ins.a, .int .i64 x.ins.b, .int .i64 K0] 38)).cell? ⟨c, 1, none⟩ = some (Value.slice A0 p.code.length k0) := c1a
  refine hK.out _ _ hSa (fun _ => ?_)
  clear hK K
  try (simp only [Act.put, List.setIfInBounds_toArray, List.set_cons_zero, List.set_cons_succ])
  refine tree_call hSa (by rfl) (fun K hK => ?_)
  go_simp
  refine hK.out _ _ hSa (fun _ => ?_)
  clear hK K
  try (simp only [Act.put, List.setIfInBounds_toArray, List.set_cons_zero, List.set_cons_succ])
  refine tree_call hSa (by rfl) (fun K hK => ?_)
  refine wp_append_row _ (.tmp 50) (.tmp 53) 23 rfl (c + 1) 38 i0 _ 5 40 Tryd.underlying23 HI.out HZ0.out HZ1.out HZ2.out rfl (by omega) _ p.code.length (codeCells p.code) rfl (HL3.out.2.2.1.alloc _) _ (.slice (some ⟨w2.heap.size, 0, none⟩) 1 1) 1 [.int .i64 x.ins.op, .int .i64 x.ins.d, .int .i64 x.ins.a, .int .i64 x.ins.b, .int .i64 K0] rfl (row_list w2.drew [.int .i64 x.ins.op, .int .i64 x.ins.d, .int .i64 x.ins.a, .int .i64 x.ins.b, .int .i64 K0] _) (by simp [Value.oneCell']) (by unfold maxLen; omega) (by omega) (by simp; omega) ?_
  intro v3 y3 hO3 hg3
  obtain ⟨PA, hS3, q3, q4, hy3, A3, k3, rfl⟩ := HEND.out _ _ _ hg3 hO3
  have HPA := Lib.hid PA
  clear hO3 hg3 PA
  refine hK.out _ _ hS3 (fun _ => ?_)
  clear hK K
  try (simp only [Act.put, List.setIfInBounds_toArray, List.set_cons_zero, List.set_cons_succ])
  iterate 3 (refine tree_take (v := ?_) hS3 (by rfl) ?_ ?_; rotate_left; (intro x hx; go_simp; try (with_reducible rfl)); (simp only [Act.put, List.setIfInBounds_toArray, List.set_cons_zero, List.set_cons_succ]))
  refine tree_call hS3 (by rfl) (fun K hK => ?_)
  go_simp
  refine hK.out _ _ (hS3.setCell_other hcx.symm 1 _) (fun _ => ?_)
  clear hK K
  refine tree_done ?_
  try (simp only [Act.put, List.setIfInBounds_toArray, List.set_cons_zero, List.set_cons_succ])
  go_wp2_with fail
  exact bodyPost_ret (v := .tuple #[.int .i64 0, .int .i64 0]) (by simp [results, Tryd.results31, go_sem]) rfl (LayOut.ok HZ.out rfl HPA.out.1 HPA.out.2)
end Go.Proofs.YtcaibahniheohaaDoor.Words

/- Contract of package asm's builder.lay. -/
namespace Go.Proofs.YtcaibahniheohaaDoor.Words
set_option maxRecDepth 100000
open Go.RowKit Go.Shelf Go.Lib
set_option linter.unusedVariables false
set_option linter.unusedSimpArgs false
theorem bins_any (x : PartZ) (p : Prog) (w : World) (c m n : Nat) (f : List UInt8 → Option (Int × Int)) (vc vd : Value) (hB : Bld w c m n f p vc vd) (hpc : p.code.length ≤ 1000000) (htx : x.target.text.length ≤ 1000000) (hf : ∀ r, f x.target.text = some r → 0 ≤ r.2 ∧ r.2 ≤ 1000000) :
  Calls Tryd.prog 31 #[.pointer (some ⟨c, 0, none⟩), .agg #[.int .i64 x.kind, .int .i64 (x.at_ : Int), .int .i64 x.num, .string (txt x.name), .int .i64 x.ins.op, .int .i64 x.ins.d, .int .i64 x.ins.a, .int .i64 x.ins.b, .int .i64 x.ins.imm, .int .i64 x.target.kind, .int .i64 x.target.num, .int .i64 (x.target.at_ : Int), .string (txt x.target.text)]] w (LayOut w c m n f (ins1 f x p)) := by
 by_cases hk : x.target.kind = 1
 ·cases hr : f x.target.text with
  | none => exact bins_none x p w c m n f vc vd hB hpc hk htx hr
  | some r =>
   obtain ⟨h0, h1⟩ := hf r hr
   cases hright : rightB { x.ins with imm := r.2 - p.code.length }
   ·exact bins_some_no x p w c m n f vc vd hB hpc r _ hk htx hr h0 h1 rfl hright
   ·exact bins_some_yes x p w c m n f vc vd hB hpc r _ hk htx hr h0 h1 rfl hright
 ·cases hright : rightB x.ins
  ·exact bins_plain_no x p w c m n f vc vd hB hpc hk hright
  ·exact bins_plain_yes x p w c m n f vc vd hB hpc hk hright
theorem field_lab (a p : Int) (y : World) : (Instr.field 82 (.agg #[.int .i64 a, .int .i64 p]) 0).run Tryd.prog y = .ok (.int .i64 a) y := by kernel_rfl
set_option maxHeartbeats 4000000 in
theorem lay_label_dup (x : PartZ) (p : Prog) (w : World) (c m n : Nat) (f : List UInt8 → Option (Int × Int)) (vc vd : Value) (hB : Bld w c m n f p vc vd) (hk : x.kind = 1) (hnm : x.name.length ≤ 1000000) (hd : ((f x.name).getD (0, 0)).1 ≠ x.at_) :
  Calls Tryd.prog 19 #[.pointer (some ⟨c, 0, none⟩), .agg #[.int .i64 x.kind, .int .i64 (x.at_ : Int), .int .i64 x.num, .string (txt x.name), .int .i64 x.ins.op, .int .i64 x.ins.d, .int .i64 x.ins.a, .int .i64 x.ins.b, .int .i64 x.ins.imm, .int .i64 x.target.kind, .int .i64 x.target.num, .int .i64 (x.target.at_ : Int), .string (txt x.target.text)]] w (LayOut w c m n f (lay1 f x p)) := by
 have hlt := hB.lt
 have HXB : Hid (Box (w.alloc (.cells #[.int .i64 x.kind, .int .i64 (x.at_ : Int), .int .i64 x.num, .string (txt x.name), .int .i64 x.ins.op, .int .i64 x.ins.d, .int .i64 x.ins.a, .int .i64 x.ins.b, .int .i64 x.ins.imm, .int .i64 x.target.kind, .int .i64 x.target.num, .int .i64 (x.target.at_ : Int), .string (txt x.target.text)] 55)) w.heap.size (partL x)) := Box.new w (partL x) _
 have HBL := Lib.hid (hB.alloc (.cells #[.int .i64 x.kind, .int .i64 (x.at_ : Int), .int .i64 x.num, .string (txt x.name), .int .i64 x.ins.op, .int .i64 x.ins.d, .int .i64 x.ins.a, .int .i64 x.ins.b, .int .i64 x.ins.imm, .int .i64 x.target.kind, .int .i64 x.target.num, .int .i64 (x.target.at_ : Int), .string (txt x.target.text)] 55))
 have HBW : Hid (Below c w (w.alloc (.cells #[.int .i64 x.kind, .int .i64 (x.at_ : Int), .int .i64 x.num, .string (txt x.name), .int .i64 x.ins.op, .int .i64 x.ins.d, .int .i64 x.ins.a, .int .i64 x.ins.b, .int .i64 x.ins.imm, .int .i64 x.target.kind, .int .i64 x.target.num, .int .i64 (x.target.at_ : Int), .string (txt x.target.text)] 55))) := (Below.refl c w).alloc (Nat.le_of_lt hlt) _
 have HN1 : Hid (vc.ownBlock ≠ some w.heap.size) := fun e => by have := (hB.2.2.1.lt _ e).2; omega
 have HN2 : Hid (vd.ownBlock ≠ some w.heap.size) := fun e => by have := (hB.2.2.2.1.lt _ e).2; omega
 have hcx : c ≠ w.heap.size := by omega
 have HB0 := Lib.hid hB
 have HZ : Hid (lay1 f x p = .bad x.at_ 6) := by show _ = _; unfold lay1; rw [if_pos hk, if_pos hd]
 have HKT : Hid (∀ y, LabM y m n f → (Instr.lookup 50 (.map (some m)) (.string (txt x.name)) false).run Tryd.prog y = .ok (.agg #[.int .i64 ((f x.name).getD (0, 0)).1, .int .i64 ((f x.name).getD (0, 0)).2]) y) := fun y hy => hy.look hnm
 have hk2 : (x.kind == 1) = true := by simpa using hk
 have hne : (((f x.name).getD (0, 0)).1 != (x.at_ : Int)) = true := by simpa using hd
 generalize ((f x.name).getD (0, 0)).1 = LA at *
 generalize ((f x.name).getD (0, 0)).2 = LP at *
 have HFD := Lib.hid (fun y => field_lab LA LP y)
 generalize lay1 f x p = Z at *
 clear hB
 clear hk hnm hd
 go_enter Tryd.func19, Tryd.ntmps19
 go_wp2_with fail
 have hS : Box (w.alloc (.cells #[.int .i64 x.kind, .int .i64 (x.at_ : Int), .int .i64 x.num, .string (txt x.name), .int .i64 x.ins.op, .int .i64 x.ins.d, .int .i64 x.ins.a, .int .i64 x.ins.b, .int .i64 x.ins.imm, .int .i64 x.target.kind, .int .i64 x.target.num, .int .i64 (x.target.at_ : Int), .string (txt x.target.text)] 55)).drew w.heap.size (partL x) ∧ Bld (w.alloc (.cells #[.int .i64 x.kind, .int .i64 (x.at_ : Int), .int .i64 x.num, .string (txt x.name), .int .i64 x.ins.op, .int .i64 x.ins.d, .int .i64 x.ins.a, .int .i64 x.ins.b, .int .i64 x.ins.imm, .int .i64 x.target.kind, .int .i64 x.target.num, .int .i64 (x.target.at_ : Int), .string (txt x.target.text)] 55)).drew c m n f p vc vd := ⟨HXB.out.drew, HBL.out.drew⟩
 refine wp_region_lin [(0, true), (1, true), (2, true), (3, true), (4, true), (5, true), (6, true), (7, true), (8, true), (9, true), (10, true)] (by kernel_rfl) (by kernel_rfl) rfl (by kernel_rfl) (fun y => Box y w.heap.size (partL x) ∧ Bld y c m n f p vc vd) ?_
 simp only [List.map_cons, List.map_nil, List.getElem?_toArray, List.getElem?_cons_succ, List.getElem?_cons_zero]
 iterate 11 (refine lin_take (v := ?_) hS (by rfl) ?_ ?_; rotate_left; (intro y hy; obtain ⟨h1, h2⟩ := hy; have e1 := h2.1.cell (k := 0) rfl; have e2 := h1.cell (k := 3) rfl; have e3 := h1.cell (k := 1) rfl; have e4 := HKT.out y h2.2.1; have e5 := HFD.out y; clear h1 h2; go_simp; try (with_reducible rfl)); (simp only [Act.put, List.setIfInBounds_toArray, List.set_cons_zero, List.set_cons_succ]))
 refine lin_done ?_
 have y1 : (w.alloc (.cells #[.int .i64 x.kind, .int .i64 (x.at_ : Int), .int .i64 x.num, .string (txt x.name), .int .i64 x.ins.op, .int .i64 x.ins.d, .int .i64 x.ins.a, .int .i64 x.ins.b, .int .i64 x.ins.imm, .int .i64 x.target.kind, .int .i64 x.target.num, .int .i64 (x.target.at_ : Int), .string (txt x.target.text)] 55)).drew.cell? ⟨w.heap.size, 1, none⟩ = some (.int .i64 (x.at_ : Int)) := HXB.out.cell (k := 1) rfl
 have HWD := Lib.hid HBW.out.drew
 clear hS
 go_wp2_with fail
 exact bodyPost_ret (v := .tuple #[.int .i64 (x.at_ : Int), .int .i64 6]) (by simp [results, Tryd.results19, go_sem]) rfl (LayOut.bad HZ.out rfl HWD.out)
set_option maxHeartbeats 4000000 in
theorem lay_label_new (x : PartZ) (p : Prog) (w : World) (c m n : Nat) (f : List UInt8 → Option (Int × Int)) (vc vd : Value) (hB : Bld w c m n f p vc vd) (hk : x.kind = 1) (hnm : x.name.length ≤ 1000000) (hd : ¬ ((f x.name).getD (0, 0)).1 ≠ x.at_) :
  Calls Tryd.prog 19 #[.pointer (some ⟨c, 0, none⟩), .agg #[.int .i64 x.kind, .int .i64 (x.at_ : Int), .int .i64 x.num, .string (txt x.name), .int .i64 x.ins.op, .int .i64 x.ins.d, .int .i64 x.ins.a, .int .i64 x.ins.b, .int .i64 x.ins.imm, .int .i64 x.target.kind, .int .i64 x.target.num, .int .i64 (x.target.at_ : Int), .string (txt x.target.text)]] w (LayOut w c m n f (lay1 f x p)) := by
 have hlt := hB.lt
 have HXB : Hid (Box (w.alloc (.cells #[.int .i64 x.kind, .int .i64 (x.at_ : Int), .int .i64 x.num, .string (txt x.name), .int .i64 x.ins.op, .int .i64 x.ins.d, .int .i64 x.ins.a, .int .i64 x.ins.b, .int .i64 x.ins.imm, .int .i64 x.target.kind, .int .i64 x.target.num, .int .i64 (x.target.at_ : Int), .string (txt x.target.text)] 55)) w.heap.size (partL x)) := Box.new w (partL x) _
 have HBL := Lib.hid (hB.alloc (.cells #[.int .i64 x.kind, .int .i64 (x.at_ : Int), .int .i64 x.num, .string (txt x.name), .int .i64 x.ins.op, .int .i64 x.ins.d, .int .i64 x.ins.a, .int .i64 x.ins.b, .int .i64 x.ins.imm, .int .i64 x.target.kind, .int .i64 x.target.num, .int .i64 (x.target.at_ : Int), .string (txt x.target.text)] 55))
 have HBW : Hid (Below c w (w.alloc (.cells #[.int .i64 x.kind, .int .i64 (x.at_ : Int), .int .i64 x.num, .string (txt x.name), .int .i64 x.ins.op, .int .i64 x.ins.d, .int .i64 x.ins.a, .int .i64 x.ins.b, .int .i64 x.ins.imm, .int .i64 x.target.kind, .int .i64 x.target.num, .int .i64 (x.target.at_ : Int), .string (txt x.target.text)] 55))) := (Below.refl c w).alloc (Nat.le_of_lt hlt) _
 have HN1 : Hid (vc.ownBlock ≠ some w.heap.size) := fun e => by have := (hB.2.2.1.lt _ e).2; omega
 have HN2 : Hid (vd.ownBlock ≠ some w.heap.size) := fun e => by have := (hB.2.2.2.1.lt _ e).2; omega
 have hcx : c ≠ w.heap.size := by omega
 have HB0 := Lib.hid hB
 have HZ : Hid (lay1 f x p = .ok p) := by show _ = _; unfold lay1; rw [if_pos hk, if_neg hd]
 have HKT : Hid (∀ y, LabM y m n f → (Instr.lookup 50 (.map (some m)) (.string (txt x.name)) false).run Tryd.prog y = .ok (.agg #[.int .i64 ((f x.name).getD (0, 0)).1, .int .i64 ((f x.name).getD (0, 0)).2]) y) := fun y hy => hy.look hnm
 have hk2 : (x.kind == 1) = true := by simpa using hk
 have hne : (((f x.name).getD (0, 0)).1 != (x.at_ : Int)) = false := by simpa using hd
 generalize ((f x.name).getD (0, 0)).1 = LA at *
 generalize ((f x.name).getD (0, 0)).2 = LP at *
 have HFD := Lib.hid (fun y => field_lab LA LP y)
 generalize lay1 f x p = Z at *
 clear hB
 clear hk hnm hd
 go_enter Tryd.func19, Tryd.ntmps19
 go_wp2_with fail
 have hS : Box (w.alloc (.cells #[.int .i64 x.kind, .int .i64 (x.at_ : Int), .int .i64 x.num, .string (txt x.name), .int .i64 x.ins.op, .int .i64 x.ins.d, .int .i64 x.ins.a, .int .i64 x.ins.b, .int .i64 x.ins.imm, .int .i64 x.target.kind, .int .i64 x.target.num, .int .i64 (x.target.at_ : Int), .string (txt x.target.text)] 55)).drew w.heap.size (partL x) ∧ Bld (w.alloc (.cells #[.int .i64 x.kind, .int .i64 (x.at_ : Int), .int .i64 x.num, .string (txt x.name), .int .i64 x.ins.op, .int .i64 x.ins.d, .int .i64 x.ins.a, .int .i64 x.ins.b, .int .i64 x.ins.imm, .int .i64 x.target.kind, .int .i64 x.target.num, .int .i64 (x.target.at_ : Int), .string (txt x.target.text)] 55)).drew c m n f p vc vd := ⟨HXB.out.drew, HBL.out.drew⟩
 refine wp_region_lin [(0, true), (1, true), (2, true), (3, true), (4, true), (5, true), (6, true), (7, true), (8, true), (9, true), (10, true)] (by kernel_rfl) (by kernel_rfl) rfl (by kernel_rfl) (fun y => Box y w.heap.size (partL x) ∧ Bld y c m n f p vc vd) ?_
 simp only [List.map_cons, List.map_nil, List.getElem?_toArray, List.getElem?_cons_succ, List.getElem?_cons_zero]
 iterate 11 (refine lin_take (v := ?_) hS (by rfl) ?_ ?_; rotate_left; (intro y hy; obtain ⟨h1, h2⟩ := hy; have e1 := h2.1.cell (k := 0) rfl; have e2 := h1.cell (k := 3) rfl; have e3 := h1.cell (k := 1) rfl; have e4 := HKT.out y h2.2.1; have e5 := HFD.out y; clear h1 h2; go_simp; try (with_reducible rfl)); (simp only [Act.put, List.setIfInBounds_toArray, List.set_cons_zero, List.set_cons_succ]))
 refine lin_done ?_
 have y1 : (w.alloc (.cells #[.int .i64 x.kind, .int .i64 (x.at_ : Int), .int .i64 x.num, .string (txt x.name), .int .i64 x.ins.op, .int .i64 x.ins.d, .int .i64 x.ins.a, .int .i64 x.ins.b, .int .i64 x.ins.imm, .int .i64 x.target.kind, .int .i64 x.target.num, .int .i64 (x.target.at_ : Int), .string (txt x.target.text)] 55)).drew.cell? ⟨w.heap.size, 1, none⟩ = some (.int .i64 (x.at_ : Int)) := HXB.out.cell (k := 1) rfl
 have HWD := Lib.hid HBW.out.drew
 clear hS
 go_wp2_with fail
 exact bodyPost_ret (v := .tuple #[.int .i64 0, .int .i64 0]) (by simp [results, Tryd.results19, go_sem]) rfl (LayOut.ok HZ.out rfl HBL.out.drew HWD.out)
set_option maxHeartbeats 4000000 in
theorem lay_size (x : PartZ) (p : Prog) (w : World) (c m n : Nat) (f : List UInt8 → Option (Int × Int)) (vc vd : Value) (hB : Bld w c m n f p vc vd) (hk : x.kind = 3) :
  Calls Tryd.prog 19 #[.pointer (some ⟨c, 0, none⟩), .agg #[.int .i64 x.kind, .int .i64 (x.at_ : Int), .int .i64 x.num, .string (txt x.name), .int .i64 x.ins.op, .int .i64 x.ins.d, .int .i64 x.ins.a, .int .i64 x.ins.b, .int .i64 x.ins.imm, .int .i64 x.target.kind, .int .i64 x.target.num, .int .i64 (x.target.at_ : Int), .string (txt x.target.text)]] w (LayOut w c m n f (lay1 f x p)) := by
 have hlt := hB.lt
 have HXB : Hid (Box (w.alloc (.cells #[.int .i64 x.kind, .int .i64 (x.at_ : Int), .int .i64 x.num, .string (txt x.name), .int .i64 x.ins.op, .int .i64 x.ins.d, .int .i64 x.ins.a, .int .i64 x.ins.b, .int .i64 x.ins.imm, .int .i64 x.target.kind, .int .i64 x.target.num, .int .i64 (x.target.at_ : Int), .string (txt x.target.text)] 55)) w.heap.size (partL x)) := Box.new w (partL x) _
 have HBL := Lib.hid (hB.alloc (.cells #[.int .i64 x.kind, .int .i64 (x.at_ : Int), .int .i64 x.num, .string (txt x.name), .int .i64 x.ins.op, .int .i64 x.ins.d, .int .i64 x.ins.a, .int .i64 x.ins.b, .int .i64 x.ins.imm, .int .i64 x.target.kind, .int .i64 x.target.num, .int .i64 (x.target.at_ : Int), .string (txt x.target.text)] 55))
 have HBW : Hid (Below c w (w.alloc (.cells #[.int .i64 x.kind, .int .i64 (x.at_ : Int), .int .i64 x.num, .string (txt x.name), .int .i64 x.ins.op, .int .i64 x.ins.d, .int .i64 x.ins.a, .int .i64 x.ins.b, .int .i64 x.ins.imm, .int .i64 x.target.kind, .int .i64 x.target.num, .int .i64 (x.target.at_ : Int), .string (txt x.target.text)] 55))) := (Below.refl c w).alloc (Nat.le_of_lt hlt) _
 have HN1 : Hid (vc.ownBlock ≠ some w.heap.size) := fun e => by have := (hB.2.2.1.lt _ e).2; omega
 have HN2 : Hid (vd.ownBlock ≠ some w.heap.size) := fun e => by have := (hB.2.2.2.1.lt _ e).2; omega
 have hcx : c ≠ w.heap.size := by omega
 have HB0 := Lib.hid hB
 have HZ : Hid (lay1 f x p = .ok { p with size := x.num }) := by show _ = _; unfold lay1; rw [if_neg (by omega), if_pos hk]
 have hk1 : (x.kind == 1) = false := by simp [hk]
 have hk3 : (x.kind == 3) = true := by simp [hk]
 have y2 := HBL.out.1.cell (k := 2) rfl
 have g2 := HBL.out.1.frozen 2
 have hsc : c < (w.alloc (.cells #[.int .i64 x.kind, .int .i64 (x.at_ : Int), .int .i64 x.num, .string (txt x.name), .int .i64 x.ins.op, .int .i64 x.ins.d, .int .i64 x.ins.a, .int .i64 x.ins.b, .int .i64 x.ins.imm, .int .i64 x.target.kind, .int .i64 x.target.num, .int .i64 (x.target.at_ : Int), .string (txt x.target.text)] 55)).heap.size := HBL.out.lt
 generalize lay1 f x p = Z at *
 clear hB
 clear hk
 go_enter Tryd.func19, Tryd.ntmps19
 go_wp2_with fail
 obtain ⟨q1, q2⟩ := HB0.out.resize x.num
 exact bodyPost_ret (v := .tuple #[.int .i64 0, .int .i64 0]) (by simp [results, Tryd.results19, go_sem]) rfl (LayOut.ok HZ.out rfl (q1.alloc _) (q2.alloc (by simp [World.setCell]; omega) _))
set_option maxHeartbeats 4000000 in
theorem lay_byte_no (x : PartZ) (p : Prog) (w : World) (c m n : Nat) (f : List UInt8 → Option (Int × Int)) (vc vd : Value) (hB : Bld w c m n f p vc vd) (hk : x.kind = 4) (hb : x.num < 0 ∨ 255 < x.num) :
  Calls Tryd.prog 19 #[.pointer (some ⟨c, 0, none⟩), .agg #[.int .i64 x.kind, .int .i64 (x.at_ : Int), .int .i64 x.num, .string (txt x.name), .int .i64 x.ins.op, .int .i64 x.ins.d, .int .i64 x.ins.a, .int .i64 x.ins.b, .int .i64 x.ins.imm, .int .i64 x.target.kind, .int .i64 x.target.num, .int .i64 (x.target.at_ : Int), .string (txt x.target.text)]] w (LayOut w c m n f (lay1 f x p)) := by
 have hlt := hB.lt
 have HXB : Hid (Box (w.alloc (.cells #[.int .i64 x.kind, .int .i64 (x.at_ : Int), .int .i64 x.num, .string (txt x.name), .int .i64 x.ins.op, .int .i64 x.ins.d, .int .i64 x.ins.a, .int .i64 x.ins.b, .int .i64 x.ins.imm, .int .i64 x.target.kind, .int .i64 x.target.num, .int .i64 (x.target.at_ : Int), .string (txt x.target.text)] 55)) w.heap.size (partL x)) := Box.new w (partL x) _
 have HBL := Lib.hid (hB.alloc (.cells #[.int .i64 x.kind, .int .i64 (x.at_ : Int), .int .i64 x.num, .string (txt x.name), .int .i64 x.ins.op, .int .i64 x.ins.d, .int .i64 x.ins.a, .int .i64 x.ins.b, .int .i64 x.ins.imm, .int .i64 x.target.kind, .int .i64 x.target.num, .int .i64 (x.target.at_ : Int), .string (txt x.target.text)] 55))
 have HBW : Hid (Below c w (w.alloc (.cells #[.int .i64 x.kind, .int .i64 (x.at_ : Int), .int .i64 x.num, .string (txt x.name), .int .i64 x.ins.op, .int .i64 x.ins.d, .int .i64 x.ins.a, .int .i64 x.ins.b, .int .i64 x.ins.imm, .int .i64 x.target.kind, .int .i64 x.target.num, .int .i64 (x.target.at_ : Int), .string (txt x.target.text)] 55))) := (Below.refl c w).alloc (Nat.le_of_lt hlt) _
 have HN1 : Hid (vc.ownBlock ≠ some w.heap.size) := fun e => by have := (hB.2.2.1.lt _ e).2; omega
 have HN2 : Hid (vd.ownBlock ≠ some w.heap.size) := fun e => by have := (hB.2.2.2.1.lt _ e).2; omega
 have hcx : c ≠ w.heap.size := by omega
 have HB0 := Lib.hid hB
 have HZ : Hid (lay1 f x p = .bad x.at_ 8) := by show _ = _; unfold lay1; rw [if_neg (by omega), if_neg (by omega), if_pos hk, if_pos hb]
 have hk1 : (x.kind == 1) = false := by simp [hk]
 have hk3 : (x.kind == 3) = false := by simp [hk]
 have hk4 : (x.kind == 4) = true := by simp [hk]
 generalize lay1 f x p = Z at *
 clear hB
 clear hk
 go_enter Tryd.func19, Tryd.ntmps19
 by_cases hn : x.num < 0
 ·have n1 : decide (x.num < 0) = true := decide_eq_true hn
  clear hb hn
  go_wp2_with fail
  exact bodyPost_ret (v := .tuple #[.int .i64 (x.at_ : Int), .int .i64 8]) (by simp [results, Tryd.results19, go_sem]) rfl (LayOut.bad HZ.out rfl HBW.out)
 ·have n1 : decide (x.num < 0) = false := decide_eq_false hn
  have n2 : decide (255 < x.num) = true := decide_eq_true (by omega)
  clear hb hn
  go_wp2_with fail
  exact bodyPost_ret (v := .tuple #[.int .i64 (x.at_ : Int), .int .i64 8]) (by simp [results, Tryd.results19, go_sem]) rfl (LayOut.bad HZ.out rfl HBW.out)
set_option maxHeartbeats 4000000 in
theorem lay_byte_yes (x : PartZ) (p : Prog) (w : World) (c m n : Nat) (f : List UInt8 → Option (Int × Int)) (vc vd : Value) (hB : Bld w c m n f p vc vd) (hpd : p.data.length ≤ 1000000) (hk : x.kind = 4) (hn0 : 0 ≤ x.num) (hn1 : x.num ≤ 255) :
  Calls Tryd.prog 19 #[.pointer (some ⟨c, 0, none⟩), .agg #[.int .i64 x.kind, .int .i64 (x.at_ : Int), .int .i64 x.num, .string (txt x.name), .int .i64 x.ins.op, .int .i64 x.ins.d, .int .i64 x.ins.a, .int .i64 x.ins.b, .int .i64 x.ins.imm, .int .i64 x.target.kind, .int .i64 x.target.num, .int .i64 (x.target.at_ : Int), .string (txt x.target.text)]] w (LayOut w c m n f (lay1 f x p)) := by
 have hlt := hB.lt
 have HXB : Hid (Box (w.alloc (.cells #[.int .i64 x.kind, .int .i64 (x.at_ : Int), .int .i64 x.num, .string (txt x.name), .int .i64 x.ins.op, .int .i64 x.ins.d, .int .i64 x.ins.a, .int .i64 x.ins.b, .int .i64 x.ins.imm, .int .i64 x.target.kind, .int .i64 x.target.num, .int .i64 (x.target.at_ : Int), .string (txt x.target.text)] 55)) w.heap.size (partL x)) := Box.new w (partL x) _
 have HBL := Lib.hid (hB.alloc (.cells #[.int .i64 x.kind, .int .i64 (x.at_ : Int), .int .i64 x.num, .string (txt x.name), .int .i64 x.ins.op, .int .i64 x.ins.d, .int .i64 x.ins.a, .int .i64 x.ins.b, .int .i64 x.ins.imm, .int .i64 x.target.kind, .int .i64 x.target.num, .int .i64 (x.target.at_ : Int), .string (txt x.target.text)] 55))
 have HBW : Hid (Below c w (w.alloc (.cells #[.int .i64 x.kind, .int .i64 (x.at_ : Int), .int .i64 x.num, .string (txt x.name), .int .i64 x.ins.op, .int .i64 x.ins.d, .int .i64 x.ins.a, .int .i64 x.ins.b, .int .i64 x.ins.imm, .int .i64 x.target.kind, .int .i64 x.target.num, .int .i64 (x.target.at_ : Int), .string (txt x.target.text)] 55))) := (Below.refl c w).alloc (Nat.le_of_lt hlt) _
 have HN1 : Hid (vc.ownBlock ≠ some w.heap.size) := fun e => by have := (hB.2.2.1.lt _ e).2; omega
 have HN2 : Hid (vd.ownBlock ≠ some w.heap.size) := fun e => by have := (hB.2.2.2.1.lt _ e).2; omega
 have hcx : c ≠ w.heap.size := by omega
 have HB0 := Lib.hid hB
 have HZ : Hid (lay1 f x p = .ok { p with data := p.data ++ [x.num] }) := by show _ = _; unfold lay1; rw [if_neg (by omega), if_neg (by omega), if_pos hk, if_neg (by omega)]
 have hk1 : (x.kind == 1) = false := by simp [hk]
 have hk3 : (x.kind == 3) = false := by simp [hk]
 have hk4 : (x.kind == 4) = true := by simp [hk]
 have n1 : decide (x.num < 0) = false := decide_eq_false (by omega)
 have n2 : decide (255 < x.num) = false := decide_eq_false (by omega)
 have HPD := Lib.hid hpd
 have HN := Lib.hid (show 0 ≤ x.num ∧ x.num ≤ 255 from ⟨hn0, hn1⟩)
 generalize lay1 f x p = Z at *
 clear hB
 clear hk hpd hn0 hn1
 go_enter Tryd.func19, Tryd.ntmps19
 go_wp2_with fail
 generalize (w.alloc (.cells #[.int .i64 x.kind, .int .i64 (x.at_ : Int), .int .i64 x.num, .string (txt x.name), .int .i64 x.ins.op, .int .i64 x.ins.d, .int .i64 x.ins.a, .int .i64 x.ins.b, .int .i64 x.ins.imm, .int .i64 x.target.kind, .int .i64 x.target.num, .int .i64 (x.target.at_ : Int), .string (txt x.target.text)] 55)) = X at *
 have HL3 : Hid (Bld X.drew c m n f p vc vd) := HBL.out.drew
 have hS0 : X.drew.cell? ⟨w.heap.size, 2, none⟩ = some (.int .i64 x.num) := HXB.out.cell (k := 2) rfl
 refine wp_region_tree (fun a x => _) (LinT.of [(0, true), (1, true), (2, true), (3, true), (4, true), (6, true), (7, true), (8, true)] (.two 5 9 (LinT.of [(9, false), (10, false), (11, true), (12, true), (13, true), (14, false)] .nil) (LinT.of [(5, false), (10, false), (11, true), (12, true), (13, true), (14, false)] .nil))) (by kernel_rfl) (by kernel_rfl) rfl (by kernel_rfl) (fun y => y.cell? ⟨w.heap.size, 2, none⟩ = some (.int .i64 x.num)) (fun _ _ h => h) ?_
 simp only [LinT.of, LinT.look, List.getElem?_toArray, List.getElem?_cons_succ, List.getElem?_cons_zero]
 iterate 8 (refine tree_take (v := ?_) hS0 (by rfl) ?_ ?_; rotate_left; (intro y hy; go_simp; try (with_reducible rfl)); (simp only [Act.put, List.setIfInBounds_toArray, List.set_cons_zero, List.set_cons_succ]))
 have hw : IntKind.u8.wrap x.num = x.num := IntWalk.u8_in _ HN.out
 try rw [hw]
 clear hw
 obtain ⟨i0, hi, hz0, hz1, hz2⟩ := info_parts info_byte8
 have HI := Lib.hid hi
 have HZ0 := Lib.hid hz0
 have HZ1 := Lib.hid hz1
 have HZ2 := Lib.hid hz2
 clear hi hz0 hz1 hz2
 have c1 : X.drew.cell? ⟨c, 3, none⟩ = some vd := HL3.out.1.cell (k := 3) rfl
 have c1x : X.cell? ⟨c, 3, none⟩ = some vd := c1
 have hcl : c < X.drew.heap.size := HL3.out.lt
 have hcl2 : c < X.heap.size := HL3.out.lt
 have hpcc := HPD.out
 have HEND : Hid (∀ (o : Obj) (y3 : World) (v3 : Value), (X.drew.alloc o).grownBy y3 vd.ownBlock → y3.ownsRow (c + 1) 5 1 v3 (p.data.length + 1) (p.data.map (Value.int .u8) ++ [.int .u8 x.num]) →
   (Bld (y3.setCell ⟨c, 3, none⟩ v3) c m n f { p with data := p.data ++ [x.num] } vc v3 ∧ Below c w (y3.setCell ⟨c, 3, none⟩ v3)) ∧ y3.cell? ⟨w.heap.size, 2, none⟩ = some (.int .i64 x.num) ∧ y3.cell? ⟨c, 3, none⟩ = some vd ∧ y3.frozen? ⟨c, 3, none⟩ = false ∧ c < y3.heap.size ∧ ∃ A3 k3, v3 = .slice A3 (p.data.length + 1) k3) := by
  intro o y3 v3 hg ho
  have hne : some c ≠ vd.ownBlock := fun e => by have := (HL3.out.2.2.2.1.lt c e.symm).1; omega
  obtain ⟨q1, q2⟩ := HL3.out.byte hg ho
  obtain ⟨A3, k3, h3⟩ := (Row.of_own ho).form
  have hb2 := HL3.out.1.alloc o
  refine ⟨⟨q1, HBW.out.drew.trans q2⟩, ((HXB.out.drew.alloc o).grown hg (fun e => HN2.out e.symm)).cell (k := 2) rfl, hg.cell (hb2.cell (k := 3) rfl) hne, ?_, ?_, A3, k3, h3⟩
  ·rw [World.frozen?_of_block (w := X.drew.alloc o) (hg.block c hb2.lt hne)]; exact hb2.frozen 3
  ·have := hg.size; have := hb2.lt; omega
 refine tree_two hS0 (by rfl) (by rfl) (fun K hK => ?_) (fun K hK => ?_)
 ·go_simp
  refine hK.out _ _ hS0 (fun _ => ?_)
  clear hK K
  try (simp only [Act.put, List.setIfInBounds_toArray, List.set_cons_zero, List.set_cons_succ])
  refine tree_call hS0 (by rfl) (fun K hK => ?_)
  go_simp
  have hSa : (X.drew.alloc (.cells #[.int .u8 x.num] 5)).cell? ⟨w.heap.size, 2, none⟩ = some (.int .i64 x.num) := (HXB.out.drew.alloc _).cell (k := 2) rfl
  refine hK.out _ _ hSa (fun _ => ?_)
  clear hK K
  try (simp only [Act.put, List.setIfInBounds_toArray, List.set_cons_zero, List.set_cons_succ])
  refine tree_call hSa (by rfl) (fun K hK => ?_)
  refine wp_append_row _ (.tmp 48) (.tmp 52) 24 rfl (c + 1) 5 i0 _ 1 1 Tryd.underlying24 HI.out HZ0.out HZ1.out HZ2.out rfl (by omega) _ p.data.length (p.data.map (Value.int .u8)) rfl (HL3.out.2.2.2.1.alloc _) _ (.slice (some ⟨X.heap.size, 0, none⟩) 1 1) 1 [.int .u8 x.num] rfl (row_list X.drew [.int .u8 x.num] _) (by simp [Value.oneCell']) (by unfold maxLen; omega) (by omega) (by have := HL3.out.lt; simp at this ⊢; omega) ?_
  intro v3 y3 hO3 hg3
  obtain ⟨PA, hS3, q3, q4, hy3, A3, k3, rfl⟩ := HEND.out _ _ _ hg3 hO3
  have HPA := Lib.hid PA
  clear hO3 hg3 PA
  refine hK.out _ _ hS3 (fun _ => ?_)
  clear hK K
  try (simp only [Act.put, List.setIfInBounds_toArray, List.set_cons_zero, List.set_cons_succ])
  iterate 3 (refine tree_take (v := ?_) hS3 (by rfl) ?_ ?_; rotate_left; (intro y hy; go_simp; try (with_reducible rfl)); (simp only [Act.put, List.setIfInBounds_toArray, List.set_cons_zero, List.set_cons_succ]))
  refine tree_call hS3 (by rfl) (fun K hK => ?_)
  go_simp
  refine hK.out _ _ ((World.cell?_setCell_other _ _ _ _ (fun e => hcx (congrArg Addr.block e))).trans hS3) (fun _ => ?_)
  clear hK K
  refine tree_done ?_
  try (simp only [Act.put, List.setIfInBounds_toArray, List.set_cons_zero, List.set_cons_succ])
  go_wp2_with fail
  exact bodyPost_ret (v := .tuple #[.int .i64 0, .int .i64 0]) (by simp [results, Tryd.results19, go_sem]) rfl (LayOut.ok HZ.out rfl HPA.out.1 HPA.out.2)
 ·go_simp
  have hSa : (X.drew.alloc (.cells #[.int .u8 x.num] 5)).cell? ⟨w.heap.size, 2, none⟩ = some (.int .i64 x.num) := (HXB.out.drew.alloc _).cell (k := 2) rfl
  have c1a : (X.drew.alloc (.cells #[.int .u8 x.num] 5)).cell? ⟨c, 3, none⟩ = some vd := (World.cell?_alloc_lt _ _ _ hcl).trans c1
  have c1b : (X.alloc (.cells #[.int .u8 x.num] 5)).cell? ⟨c, 3, none⟩ = some vd := c1a
  refine hK.out _ _ hSa (fun _ => ?_)
  clear hK K
  try (simp only [Act.put, List.setIfInBounds_toArray, List.set_cons_zero, List.set_cons_succ])
  refine tree_call hSa (by rfl) (fun K hK => ?_)
  go_simp
  refine hK.out _ _ hSa (fun _ => ?_)
  clear hK K
  try (simp only [Act.put, List.setIfInBounds_toArray, List.set_cons_zero, List.set_cons_succ])
  refine tree_call hSa (by rfl) (fun K hK => ?_)
  refine wp_append_row _ (.tmp 48) (.tmp 52) 24 rfl (c + 1) 5 i0 _ 1 1 Tryd.underlying24 HI.out HZ0.out HZ1.out HZ2.out rfl (by omega) _ p.data.length (p.data.map (Value.int .u8)) rfl (HL3.out.2.2.2.1.alloc _) _ (.slice (some ⟨X.heap.size, 0, none⟩) 1 1) 1 [.int .u8 x.num] rfl (row_list X.drew [.int .u8 x.num] _) (by simp [Value.oneCell']) (by unfold maxLen; omega) (by omega) (by have := HL3.out.lt; simp at this ⊢; omega) ?_
  intro v3 y3 hO3 hg3
  obtain ⟨PA, hS3, q3, q4, hy3, A3, k3, rfl⟩ := HEND.out _ _ _ hg3 hO3
  have HPA := Lib.hid PA
  clear hO3 hg3 PA
  refine hK.out _ _ hS3 (fun _ => ?_)
  clear hK K
  try (simp only [Act.put, List.setIfInBounds_toArray, List.set_cons_zero, List.set_cons_succ])
  iterate 3 (refine tree_take (v := ?_) hS3 (by rfl) ?_ ?_; rotate_left; (intro y hy; go_simp; try (with_reducible rfl)); (simp only [Act.put, List.setIfInBounds_toArray, List.set_cons_zero, List.set_cons_succ]))
  refine tree_call hS3 (by rfl) (fun K hK => ?_)
  go_simp
  refine hK.out _ _ ((World.cell?_setCell_other _ _ _ _ (fun e => hcx (congrArg Addr.block e))).trans hS3) (fun _ => ?_)
  clear hK K
  refine tree_done ?_
  try (simp only [Act.put, List.setIfInBounds_toArray, List.set_cons_zero, List.set_cons_succ])
  go_wp2_with fail
  exact bodyPost_ret (v := .tuple #[.int .i64 0, .int .i64 0]) (by simp [results, Tryd.results19, go_sem]) rfl (LayOut.ok HZ.out rfl HPA.out.1 HPA.out.2)
set_option maxHeartbeats 4000000 in
theorem lay_ins (x : PartZ) (p : Prog) (w : World) (c m n : Nat) (f : List UInt8 → Option (Int × Int)) (vc vd : Value) (hB : Bld w c m n f p vc vd) (hpc : p.code.length ≤ 1000000) (htx : x.target.text.length ≤ 1000000) (hf : ∀ r, f x.target.text = some r → 0 ≤ r.2 ∧ r.2 ≤ 1000000) (hk : x.kind = 2) :
  Calls Tryd.prog 19 #[.pointer (some ⟨c, 0, none⟩), .agg #[.int .i64 x.kind, .int .i64 (x.at_ : Int), .int .i64 x.num, .string (txt x.name), .int .i64 x.ins.op, .int .i64 x.ins.d, .int .i64 x.ins.a, .int .i64 x.ins.b, .int .i64 x.ins.imm, .int .i64 x.target.kind, .int .i64 x.target.num, .int .i64 (x.target.at_ : Int), .string (txt x.target.text)]] w (LayOut w c m n f (lay1 f x p)) := by
 have hlt := hB.lt
 have HXB : Hid (Box (w.alloc (.cells #[.int .i64 x.kind, .int .i64 (x.at_ : Int), .int .i64 x.num, .string (txt x.name), .int .i64 x.ins.op, .int .i64 x.ins.d, .int .i64 x.ins.a, .int .i64 x.ins.b, .int .i64 x.ins.imm, .int .i64 x.target.kind, .int .i64 x.target.num, .int .i64 (x.target.at_ : Int), .string (txt x.target.text)] 55)) w.heap.size (partL x)) := Box.new w (partL x) _
 have HBL := Lib.hid (hB.alloc (.cells #[.int .i64 x.kind, .int .i64 (x.at_ : Int), .int .i64 x.num, .string (txt x.name), .int .i64 x.ins.op, .int .i64 x.ins.d, .int .i64 x.ins.a, .int .i64 x.ins.b, .int .i64 x.ins.imm, .int .i64 x.target.kind, .int .i64 x.target.num, .int .i64 (x.target.at_ : Int), .string (txt x.target.text)] 55))
 have HBW : Hid (Below c w (w.alloc (.cells #[.int .i64 x.kind, .int .i64 (x.at_ : Int), .int .i64 x.num, .string (txt x.name), .int .i64 x.ins.op, .int .i64 x.ins.d, .int .i64 x.ins.a, .int .i64 x.ins.b, .int .i64 x.ins.imm, .int .i64 x.target.kind, .int .i64 x.target.num, .int .i64 (x.target.at_ : Int), .string (txt x.target.text)] 55))) := (Below.refl c w).alloc (Nat.le_of_lt hlt) _
 have HN1 : Hid (vc.ownBlock ≠ some w.heap.size) := fun e => by have := (hB.2.2.1.lt _ e).2; omega
 have HN2 : Hid (vd.ownBlock ≠ some w.heap.size) := fun e => by have := (hB.2.2.2.1.lt _ e).2; omega
 have hcx : c ≠ w.heap.size := by omega
 have HB0 := Lib.hid hB
 have HZ : Hid (lay1 f x p = ins1 f x p) := by show _ = _; unfold lay1; rw [if_neg (by omega), if_neg (by omega), if_neg (by omega), if_pos hk]
 have hk1 : (x.kind == 1) = false := by simp [hk]
 have hk3 : (x.kind == 3) = false := by simp [hk]
 have hk4 : (x.kind == 4) = false := by simp [hk]
 have hk2 : (x.kind == 2) = true := by simp [hk]
 have hI := Lib.hid (bins_any x p _ c m n f vc vd HBL.out hpc htx hf)
 generalize lay1 f x p = Z at *
 clear hB
 generalize ins1 f x p = Z2 at *
 clear hk hpc htx hf
 go_enter Tryd.func19, Tryd.ntmps19
 go_wp2_with fail
 refine hI.out.mono ?_; rintro en w3 hL
 have HE := HZ.out
 subst HE
 cases Z with
 | bad a e =>
  obtain ⟨rfl, hb⟩ := hL
  have HB3 := Lib.hid (HBW.out.trans hb)
  clear hb
  go_wp2_with fail
  exact bodyPost_ret (v := .tuple #[.int .i64 (a : Int), .int .i64 e]) (by simp [results, Tryd.results19, go_sem]) rfl (LayOut.bad rfl rfl HB3.out)
 | ok p2 =>
  obtain ⟨rfl, ⟨vc2, vd2, hB2⟩, hb⟩ := hL
  have HB2 := Lib.hid hB2
  have HB3 := Lib.hid (HBW.out.trans hb)
  clear hb hB2
  go_wp2_with fail
  exact bodyPost_ret (v := .tuple #[.int .i64 0, .int .i64 0]) (by simp [results, Tryd.results19, go_sem]) rfl (LayOut.ok rfl rfl HB2.out HB3.out)
set_option maxHeartbeats 4000000 in
theorem lay_none (x : PartZ) (p : Prog) (w : World) (c m n : Nat) (f : List UInt8 → Option (Int × Int)) (vc vd : Value) (hB : Bld w c m n f p vc vd) (hk : ¬ (x.kind = 1 ∨ x.kind = 2 ∨ x.kind = 3 ∨ x.kind = 4)) :
  Calls Tryd.prog 19 #[.pointer (some ⟨c, 0, none⟩), .agg #[.int .i64 x.kind, .int .i64 (x.at_ : Int), .int .i64 x.num, .string (txt x.name), .int .i64 x.ins.op, .int .i64 x.ins.d, .int .i64 x.ins.a, .int .i64 x.ins.b, .int .i64 x.ins.imm, .int .i64 x.target.kind, .int .i64 x.target.num, .int .i64 (x.target.at_ : Int), .string (txt x.target.text)]] w (LayOut w c m n f (lay1 f x p)) := by
 have hlt := hB.lt
 have HXB : Hid (Box (w.alloc (.cells #[.int .i64 x.kind, .int .i64 (x.at_ : Int), .int .i64 x.num, .string (txt x.name), .int .i64 x.ins.op, .int .i64 x.ins.d, .int .i64 x.ins.a, .int .i64 x.ins.b, .int .i64 x.ins.imm, .int .i64 x.target.kind, .int .i64 x.target.num, .int .i64 (x.target.at_ : Int), .string (txt x.target.text)] 55)) w.heap.size (partL x)) := Box.new w (partL x) _
 have HBL := Lib.hid (hB.alloc (.cells #[.int .i64 x.kind, .int .i64 (x.at_ : Int), .int .i64 x.num, .string (txt x.name), .int .i64 x.ins.op, .int .i64 x.ins.d, .int .i64 x.ins.a, .int .i64 x.ins.b, .int .i64 x.ins.imm, .int .i64 x.target.kind, .int .i64 x.target.num, .int .i64 (x.target.at_ : Int), .string (txt x.target.text)] 55))
 have HBW : Hid (Below c w (w.alloc (.cells #[.int .i64 x.kind, .int .i64 (x.at_ : Int), .int .i64 x.num, .string (txt x.name), .int .i64 x.ins.op, .int .i64 x.ins.d, .int .i64 x.ins.a, .int .i64 x.ins.b, .int .i64 x.ins.imm, .int .i64 x.target.kind, .int .i64 x.target.num, .int .i64 (x.target.at_ : Int), .string (txt x.target.text)] 55))) := (Below.refl c w).alloc (Nat.le_of_lt hlt) _
 have HN1 : Hid (vc.ownBlock ≠ some w.heap.size) := fun e => by have := (hB.2.2.1.lt _ e).2; omega
 have HN2 : Hid (vd.ownBlock ≠ some w.heap.size) := fun e => by have := (hB.2.2.2.1.lt _ e).2; omega
 have hcx : c ≠ w.heap.size := by omega
 have HB0 := Lib.hid hB
 have HZ : Hid (lay1 f x p = .ok p) := by show _ = _; unfold lay1; rw [if_neg (by omega), if_neg (by omega), if_neg (by omega), if_neg (by omega)]
 have hk1 : (x.kind == 1) = false := by simp; omega
 have hk3 : (x.kind == 3) = false := by simp; omega
 have hk4 : (x.kind == 4) = false := by simp; omega
 have hk2 : (x.kind == 2) = false := by simp; omega
 generalize lay1 f x p = Z at *
 clear hB
 clear hk
 go_enter Tryd.func19, Tryd.ntmps19
 go_wp2_with fail
 exact bodyPost_ret (v := .tuple #[.int .i64 0, .int .i64 0]) (by simp [results, Tryd.results19, go_sem]) rfl (LayOut.ok HZ.out rfl HBL.out HBW.out)
theorem lay_any (x : PartZ) (p : Prog) (w : World) (c m n : Nat) (f : List UInt8 → Option (Int × Int)) (vc vd : Value) (hB : Bld w c m n f p vc vd) (hpc : p.code.length ≤ 1000000) (hpd : p.data.length ≤ 1000000) (hnm : x.name.length ≤ 1000000) (htx : x.target.text.length ≤ 1000000) (hf : ∀ r, f x.target.text = some r → 0 ≤ r.2 ∧ r.2 ≤ 1000000) :
  Calls Tryd.prog 19 #[.pointer (some ⟨c, 0, none⟩), .agg #[.int .i64 x.kind, .int .i64 (x.at_ : Int), .int .i64 x.num, .string (txt x.name), .int .i64 x.ins.op, .int .i64 x.ins.d, .int .i64 x.ins.a, .int .i64 x.ins.b, .int .i64 x.ins.imm, .int .i64 x.target.kind, .int .i64 x.target.num, .int .i64 (x.target.at_ : Int), .string (txt x.target.text)]] w (LayOut w c m n f (lay1 f x p)) := by
 by_cases h1 : x.kind = 1
 ·by_cases hd : ((f x.name).getD (0, 0)).1 ≠ x.at_
  ·exact lay_label_dup x p w c m n f vc vd hB h1 hnm hd
  ·exact lay_label_new x p w c m n f vc vd hB h1 hnm hd
 by_cases h3 : x.kind = 3
 ·exact lay_size x p w c m n f vc vd hB h3
 by_cases h4 : x.kind = 4
 ·by_cases hb : x.num < 0 ∨ 255 < x.num
  ·exact lay_byte_no x p w c m n f vc vd hB h4 hb
  ·exact lay_byte_yes x p w c m n f vc vd hB hpd h4 (by omega) (by omega)
 by_cases h2 : x.kind = 2
 ·exact lay_ins x p w c m n f vc vd hB hpc htx hf h2
 ·exact lay_none x p w c m n f vc vd hB (by omega)
end Go.Proofs.YtcaibahniheohaaDoor.Words

/- Each token's text stands where it begins: plain mathematics over lexZ. -/
namespace Go.Proofs.YtcaibahniheohaaDoor.Words
set_option maxRecDepth 100000
set_option linter.unusedVariables false
open Go.Lib
def endAt (u : Option Tok) : Nat := match u with
 | some u => u.at_ + u.text.length
 | none => 0
def endOf (t : List Tok) : Nat → Nat
 | 0 => 0
 | i + 1 => endAt t[i]?
theorem endOf_succ (t : List Tok) (i : Nat) : endOf t (i + 1) = endAt t[i]? := rfl
structure Stands (l : List UInt8) (t : List Tok) (i : Nat) (k : Tok) : Prop where
 some_ : k.text ≠ []
 fits : k.at_ + k.text.length ≤ l.length
 text : (l.drop k.at_).take k.text.length = k.text
 kind : 1 ≤ k.kind ∧ k.kind ≤ 4
 num : k.kind ≠ 2 → k.num = 0
 from_ : endOf t i ≤ k.at_
 line : k.kind = 4 → ∃ u, 0 < i ∧ t[i - 1]? = some u ∧ u.kind ≠ 4
structure Good (l : List UInt8) (t : List Tok) (b : Nat) : Prop where
 each : ∀ i k, t[i]? = some k → Stands l t i k
 last : endOf t t.length ≤ b
theorem endOf_append {t : List Tok} (x : Tok) {i : Nat} (h : i ≤ t.length) : endOf (t ++ [x]) i = endOf t i := by
 cases i with
 | zero => rfl
 | succ i => rw [endOf_succ, endOf_succ, List.getElem?_append_left (by omega)]
theorem Good.add {l : List UInt8} {x : LexS} {kind num : Int} {p size : Nat} (h : Good l x.toks x.behind) (hb : x.behind ≤ p) (h0 : 0 < size) (hs : p + size ≤ l.length) (hk : 1 ≤ kind ∧ kind ≤ 4) (hn : kind ≠ 2 → num = 0) (hl : kind = 4 → lineB x.toks = true) :
  Good l (addZ l kind num p size x).toks (addZ l kind num p size x).behind := by
 have hlen : ((l.drop p).take size).length = size := by rw [List.length_take, List.length_drop]; omega
 have hap : ∀ i, i < x.toks.length → (x.toks ++ [(⟨kind, num, p, (l.drop p).take size⟩ : Tok)])[i]? = x.toks[i]? := fun i hi => List.getElem?_append_left hi
 constructor
 ·intro i k hi
  show Stands l (x.toks ++ [⟨kind, num, p, (l.drop p).take size⟩]) i k
  have hi' : (x.toks ++ [(⟨kind, num, p, (l.drop p).take size⟩ : Tok)])[i]? = some k := hi
  by_cases hlt : i < x.toks.length
  ·rw [hap i hlt] at hi'
   have g := h.each i k hi'
   refine ⟨g.some_, g.fits, g.text, g.kind, g.num, by rw [endOf_append _ (by omega)]; exact g.from_, fun hk4 => ?_⟩
   obtain ⟨u, h1, h2, h3⟩ := g.line hk4
   exact ⟨u, h1, by rw [hap (i - 1) (by omega)]; exact h2, h3⟩
  ·have hii : i = x.toks.length := by
    have := (List.getElem?_eq_some_iff.1 hi').1
    rw [List.length_append] at this
    simp at this
    omega
   subst hii
   rw [List.getElem?_append_right (Nat.le_refl _), Nat.sub_self] at hi'
   simp only [List.getElem?_cons_zero, Option.some.injEq] at hi'
   subst hi'
   refine ⟨?_, by rw [hlen]; exact hs, by rw [hlen], hk, hn, ?_, fun hk4 => ?_⟩
   ·intro e
    have := congrArg List.length e
    rw [hlen] at this
    simp at this
    omega
   ·rw [endOf_append _ (Nat.le_refl _)]
    exact Nat.le_trans h.last hb
   ·have hlb := hl hk4
    unfold lineB at hlb
    rw [List.getLast?_eq_getElem?] at hlb
    cases hu : x.toks[x.toks.length - 1]? with
    | none => rw [hu] at hlb; cases hlb
    | some u =>
     rw [hu] at hlb
     have hlt := (List.getElem?_eq_some_iff.1 hu).1
     exact ⟨u, by omega, by rw [hap _ hlt]; exact hu, of_decide_eq_true hlb⟩
 ·show endOf (x.toks ++ [⟨kind, num, p, (l.drop p).take size⟩]) (x.toks ++ [(⟨kind, num, p, (l.drop p).take size⟩ : Tok)]).length ≤ p + size
  rw [List.length_append]
  show endOf _ (x.toks.length + 1) ≤ _
  rw [endOf_succ, List.getElem?_append_right (Nat.le_refl _), Nat.sub_self]
  simp only [List.getElem?_cons_zero, endAt]
  rw [hlen]
  exact Nat.le_refl _
theorem firstR_name {r : Int} (h : firstR r = true) : nameR r = true := by unfold nameR; rw [h]; rfl
theorem nameZ_pos {l : List UInt8} (hne : l ≠ []) (h : firstR (runeR l) = true) : 0 < nameZ l := by
 unfold nameZ
 have hl : 0 < l.length := List.length_pos_iff.2 hne
 obtain ⟨f, hf⟩ : ∃ f, l.length = f + 1 := ⟨l.length - 1, by omega⟩
 rw [hf]
 unfold nameF
 rw [if_pos hl, List.drop_zero, if_pos (firstR_name h)]
 have h1 := wideR_pos l
 have h2 := wideR_le hne
 have := (nameF_le l f (0 + wideR l) (by omega)).1
 omega
theorem takeZ_good {l : List UInt8} {p : Nat} {x : LexS} (hp : p < l.length) (h : Good l x.toks x.behind) (hb : x.behind ≤ p) : Good l (takeZ l p x).2.toks (takeZ l p x).2.behind ∧ ((takeZ l p x).1 = 0 ∨ (takeZ l p x).1 = 5 ∨ (takeZ l p x).1 = 8) := by
 have hne := from_ne hp
 unfold takeZ
 split
 ·exact ⟨h, .inr (.inl rfl)⟩
 split
 ·refine ⟨?_, .inl rfl⟩
  unfold lineZ
  split
  ·rename_i hlb
   exact Good.add (x := { x with remark := false }) h hb (by omega) (by omega) (by omega) (fun _ => rfl) (fun _ => hlb)
  ·exact h
 split
 ·exact ⟨h, .inl rfl⟩
 split
 ·exact ⟨h, .inl rfl⟩
 split
 ·rename_i hf
  have h1 := nameZ_le (l.drop p)
  rw [List.length_drop] at h1
  exact ⟨h.add hb (nameZ_pos hne hf) (by omega) (by omega) (fun _ => rfl) (fun e => by cases e), .inl rfl⟩
 split
 ·exact ⟨h.add hb (by omega) (by omega) (by omega) (fun _ => rfl) (fun e => by cases e), .inl rfl⟩
 ·unfold numberZ
  split
  ·exact ⟨h, .inr (.inl rfl)⟩
  split
  ·exact ⟨h, .inr (.inr rfl)⟩
  ·have h1 := numZ_le (l.drop p)
   rw [List.length_drop] at h1
   exact ⟨h.add hb (by omega) (by omega) (by omega) (fun e => absurd rfl e) (fun e => by cases e), .inl rfl⟩
def StandR (l : List UInt8) : LexR → Prop
 | .toks t => ∀ i k, t[i]? = some k → Stands l t i k
 | .bad a e => a < l.length ∧ (e = 5 ∨ e = 8)
theorem lexF_good {l : List UInt8} : ∀ (f p : Nat) (x : LexS), Good l x.toks x.behind → StandR l (lexF l f p x)
 | 0, p, x, h => h.each
 | f + 1, p, x, h => by
  unfold lexF
  split
  ·rename_i hp
   split
   ·exact lexF_good f _ x h
   ·rename_i hb
    have g := takeZ_good hp h (by omega)
    split
    ·exact lexF_good f _ _ g.1
    ·rename_i he
     exact ⟨hp, by rcases g.2 with g | g | g <;> first | exact absurd g he | exact .inl g | exact .inr g⟩
  ·exact h.each
theorem lexZ_good {l : List UInt8} (h : l.length ≤ 20000) : StandR l (lexZ l) := by
 unfold lexZ
 rw [if_neg (by omega)]
 exact lexF_good _ _ _ ⟨fun i k hi => by simp at hi, Nat.le_refl _⟩
end Go.Proofs.YtcaibahniheohaaDoor.Words

/- Contracts of the document's own Target, Targets and RightProgram. -/
namespace Go.Proofs.YtcaibahniheohaaDoor.Words
set_option maxRecDepth 100000
open Go.RowKit
set_option linter.unusedVariables false
theorem targetZ_no {n k : Nat} {i : Ins} (h : isJump i = false ∨ i.imm < -8192 ∨ 8191 < i.imm ∨ (k : Int) + i.imm < 0 ∨ (n : Int) ≤ k + i.imm) : targetZ n k i = -1 := by unfold targetZ; rw [if_pos h]
theorem targetZ_yes {n k : Nat} {i : Ins} (h1 : isJump i = true) (h2 : -8192 ≤ i.imm) (h3 : i.imm ≤ 8191) (h4 : 0 ≤ (k : Int) + i.imm) (h5 : (k : Int) + i.imm < n) : targetZ n k i = k + i.imm := by
 unfold targetZ; rw [if_neg]; simp [h1]; omega
set_option maxHeartbeats 2000000 in
theorem refTarget_any (b off c k : Nat) (sz : Int) (vd : Value) (l : List Ins) (i : Ins) (w : World) (hr : Row w w.heap.size 5 (.slice (some ⟨b, off, none⟩) l.length c) l.length (codeCells l)) (hk : l[k]? = some i) (hsmall : l.length ≤ 4294967296) :
  Calls Tryd.prog 47 #[.agg #[.slice (some ⟨b, off, none⟩) l.length c, .int .i64 sz, vd], .int .i64 k] w fun e w' => e = .returned (.int .i64 (targetZ l.length k i)) ∧ Below w.heap.size w w' := by
 have hlt : k < l.length := by rw [List.getElem?_eq_some_iff] at hk; exact hk.1
 obtain ⟨hcl, hcm⟩ := hr.cap
 obtain ⟨b', off', e0, hb, _⟩ := hr.at_ (by omega)
 injection e0 with e0
 injection e0 with e1 e2
 subst e1 e2
 obtain ⟨c0, c1, c2, c3, c4⟩ := hr.ins hk
 have T1 := Lib.hid (fun h => targetZ_no (n := l.length) (k := k) (i := i) h)
 have T2 := Lib.hid (fun h1 h2 h3 h4 h5 => targetZ_yes (n := l.length) (k := k) (i := i) h1 h2 h3 h4 h5)
 have J := Lib.hid (isJump_form i)
 clear hr hk
 generalize l.length = n at *
 have hk0 : (0 : Int) ≤ k := by omega
 have hk1 : (k : Int) < n := by omega
 have hF := formZ_range i.op
 have HB := Lib.hid (fun o1 o2 => ((Below.refl w.heap.size w).alloc (Nat.le_refl _) o1).alloc (by simp) o2)
 go_enter Tryd.func47, Tryd.ntmps47
 go_wp2_with fail
 refine (refForm_any _ _).mono ?_; rintro e w1 ⟨rfl, rfl⟩
 by_cases hj : formZ i.op = 6 ∨ formZ i.op = 7
 ·have HJ := Lib.hid (J.out.2 hj)
  have hor := Lib.hid hj
  by_cases h1 : i.imm < -8192
  ·have t := Lib.hid (T1.out (.inr (.inl h1)))
   rcases hj with hj | hj
   all_goals
    rw [hj]
    go_wp2_with fail
    go_ret
    exact ⟨ret_int t.out.symm, HB.out _ _⟩
  by_cases h2 : 8191 < i.imm
  ·have t := Lib.hid (T1.out (.inr (.inr (.inl h2))))
   rcases hj with hj | hj
   all_goals
    rw [hj]
    go_wp2_with fail
    go_ret
    exact ⟨ret_int t.out.symm, HB.out _ _⟩
  by_cases h3 : (k : Int) + i.imm < 0
  ·have t := Lib.hid (T1.out (.inr (.inr (.inr (.inl h3)))))
   rcases hj with hj | hj
   all_goals
    rw [hj]
    go_wp2_with fail
    go_ret
    exact ⟨ret_int t.out.symm, HB.out _ _⟩
  by_cases h4 : (n : Int) ≤ k + i.imm
  ·have t := Lib.hid (T1.out (.inr (.inr (.inr (.inr h4)))))
   rcases hj with hj | hj
   all_goals
    rw [hj]
    go_wp2_with fail
    go_ret
    exact ⟨ret_int t.out.symm, HB.out _ _⟩
  ·have t := Lib.hid (T2.out HJ.out (by omega) (by omega) (by omega) (by omega))
   rcases hj with hj | hj
   all_goals
    rw [hj]
    go_wp2_with fail
    go_ret
    exact ⟨ret_int t.out.symm, HB.out _ _⟩
 ·have t := Lib.hid (T1.out (.inl (by
   have := J.out
   cases hh : isJump i
   ·rfl
   ·exact absurd (this.1 hh) hj)))
  have k1 : (formZ i.op == 6) = false := by simp; omega
  have k2 : (formZ i.op == 7) = false := by simp; omega
  have k3 : (formZ i.op != 6) = true := by simp; omega
  have k4 : (formZ i.op != 7) = true := by simp; omega
  clear hj
  go_wp2_with fail
  go_ret
  exact ⟨ret_int t.out.symm, HB.out _ _⟩
end Go.Proofs.YtcaibahniheohaaDoor.Words

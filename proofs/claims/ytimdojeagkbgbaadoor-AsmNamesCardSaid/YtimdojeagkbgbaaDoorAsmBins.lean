/- Contract of package asm's builder.instruction. -/
import Derived.Test.YtimdojeagkbgbaaDoorAsmBld
namespace Go.Proofs.YtimdojeagkbgbaaDoor.Words
set_option maxRecDepth 100000
open Go.RowKit Go.Shelf Go.Lib
set_option linter.unusedVariables false
set_option linter.unusedSimpArgs false


set_option maxHeartbeats 4000000 in
theorem bins_plain_no (x : PartZ) (p : Prog) (w : World) (c m n : Nat) (f : List UInt8 → Option (Int × Int)) (vc vd : Value) (hB : Bld w c m n f p vc vd) (hpc : p.code.length ≤ 1000000) (hk : x.target.kind ≠ 1) (hright : rightB x.ins = false) :
    Calls Tryd.prog 55 #[.pointer (some ⟨c, 0, none⟩), .agg #[.int .i64 x.kind, .int .i64 (x.at_ : Int), .int .i64 x.num, .string (txt x.name), .int .i64 x.ins.op, .int .i64 x.ins.d, .int .i64 x.ins.a, .int .i64 x.ins.b, .int .i64 x.ins.imm, .int .i64 x.target.kind, .int .i64 x.target.num, .int .i64 (x.target.at_ : Int), .string (txt x.target.text)]] w (LayOut w c m n f (ins1 f x p)) := by
  have hlt := hB.lt
  have HPC := Lib.hid hpc
  have HZ : Hid (ins1 f x p = .bad x.at_ 8) := by show _ = _; unfold ins1 put1; rw [if_neg hk, hright]; rfl
  have HXB : Hid (Box (w.alloc (.cells #[.int .i64 x.kind, .int .i64 (x.at_ : Int), .int .i64 x.num, .string (txt x.name), .int .i64 x.ins.op, .int .i64 x.ins.d, .int .i64 x.ins.a, .int .i64 x.ins.b, .int .i64 x.ins.imm, .int .i64 x.target.kind, .int .i64 x.target.num, .int .i64 (x.target.at_ : Int), .string (txt x.target.text)] 77)) w.heap.size (partL x)) := Box.new w (partL x) _
  have HBL := Lib.hid (hB.alloc (.cells #[.int .i64 x.kind, .int .i64 (x.at_ : Int), .int .i64 x.num, .string (txt x.name), .int .i64 x.ins.op, .int .i64 x.ins.d, .int .i64 x.ins.a, .int .i64 x.ins.b, .int .i64 x.ins.imm, .int .i64 x.target.kind, .int .i64 x.target.num, .int .i64 (x.target.at_ : Int), .string (txt x.target.text)] 77))
  have HBW : Hid (Below c w (w.alloc (.cells #[.int .i64 x.kind, .int .i64 (x.at_ : Int), .int .i64 x.num, .string (txt x.name), .int .i64 x.ins.op, .int .i64 x.ins.d, .int .i64 x.ins.a, .int .i64 x.ins.b, .int .i64 x.ins.imm, .int .i64 x.target.kind, .int .i64 x.target.num, .int .i64 (x.target.at_ : Int), .string (txt x.target.text)] 77))) := (Below.refl c w).alloc (Nat.le_of_lt hlt) _
  have HN1 : Hid (vc.ownBlock ≠ some w.heap.size) := fun e => by have := (hB.2.2.1.lt _ e).2; omega
  have hcx : c ≠ w.heap.size := by omega
  have hk2 : (x.target.kind == 1) = false := by simpa using hk
  generalize ins1 f x p = Z at *
  clear hB hpc hk
  go_enter Tryd.func55, Tryd.ntmps55
  go_wp2_with fail
  refine (right_any x.ins _).mono ?_; rintro en w2 ⟨rfl, hb2⟩
  rw [hright]
  have HB2 := Lib.hid (HBW.out.trans (hb2.mono (Nat.le_of_lt HBL.out.lt)))
  have HX2 : Hid (Box w2 w.heap.size (partL x)) := HXB.out.below hb2 HXB.out.lt
  have HL2 := Lib.hid (HBL.out.go hb2)
  have y1 := HX2.out.cell (k := 1) rfl
  try simp only at y1
  clear hb2 hright
  go_wp2_with fail
  exact bodyPost_ret (v := .tuple #[.int .i64 (x.at_ : Int), .int .i64 8]) (by simp [results, Tryd.results55, go_sem]) rfl (LayOut.bad HZ.out rfl HB2.out)

set_option maxHeartbeats 4000000 in
theorem bins_plain_yes (x : PartZ) (p : Prog) (w : World) (c m n : Nat) (f : List UInt8 → Option (Int × Int)) (vc vd : Value) (hB : Bld w c m n f p vc vd) (hpc : p.code.length ≤ 1000000) (hk : x.target.kind ≠ 1) (hright : rightB x.ins = true) :
    Calls Tryd.prog 55 #[.pointer (some ⟨c, 0, none⟩), .agg #[.int .i64 x.kind, .int .i64 (x.at_ : Int), .int .i64 x.num, .string (txt x.name), .int .i64 x.ins.op, .int .i64 x.ins.d, .int .i64 x.ins.a, .int .i64 x.ins.b, .int .i64 x.ins.imm, .int .i64 x.target.kind, .int .i64 x.target.num, .int .i64 (x.target.at_ : Int), .string (txt x.target.text)]] w (LayOut w c m n f (ins1 f x p)) := by
  have hlt := hB.lt
  have HPC := Lib.hid hpc
  have HZ : Hid (ins1 f x p = .ok { p with code := p.code ++ [x.ins] }) := by show _ = _; unfold ins1 put1; rw [if_neg hk, hright]; rfl
  have HXB : Hid (Box (w.alloc (.cells #[.int .i64 x.kind, .int .i64 (x.at_ : Int), .int .i64 x.num, .string (txt x.name), .int .i64 x.ins.op, .int .i64 x.ins.d, .int .i64 x.ins.a, .int .i64 x.ins.b, .int .i64 x.ins.imm, .int .i64 x.target.kind, .int .i64 x.target.num, .int .i64 (x.target.at_ : Int), .string (txt x.target.text)] 77)) w.heap.size (partL x)) := Box.new w (partL x) _
  have HBL := Lib.hid (hB.alloc (.cells #[.int .i64 x.kind, .int .i64 (x.at_ : Int), .int .i64 x.num, .string (txt x.name), .int .i64 x.ins.op, .int .i64 x.ins.d, .int .i64 x.ins.a, .int .i64 x.ins.b, .int .i64 x.ins.imm, .int .i64 x.target.kind, .int .i64 x.target.num, .int .i64 (x.target.at_ : Int), .string (txt x.target.text)] 77))
  have HBW : Hid (Below c w (w.alloc (.cells #[.int .i64 x.kind, .int .i64 (x.at_ : Int), .int .i64 x.num, .string (txt x.name), .int .i64 x.ins.op, .int .i64 x.ins.d, .int .i64 x.ins.a, .int .i64 x.ins.b, .int .i64 x.ins.imm, .int .i64 x.target.kind, .int .i64 x.target.num, .int .i64 (x.target.at_ : Int), .string (txt x.target.text)] 77))) := (Below.refl c w).alloc (Nat.le_of_lt hlt) _
  have HN1 : Hid (vc.ownBlock ≠ some w.heap.size) := fun e => by have := (hB.2.2.1.lt _ e).2; omega
  have hcx : c ≠ w.heap.size := by omega
  have hk2 : (x.target.kind == 1) = false := by simpa using hk
  generalize ins1 f x p = Z at *
  clear hB hpc hk
  go_enter Tryd.func55, Tryd.ntmps55
  go_wp2_with fail
  refine (right_any x.ins _).mono ?_; rintro en w2 ⟨rfl, hb2⟩
  rw [hright]
  have HB2 := Lib.hid (HBW.out.trans (hb2.mono (Nat.le_of_lt HBL.out.lt)))
  have HX2 : Hid (Box w2 w.heap.size (partL x)) := HXB.out.below hb2 HXB.out.lt
  have HL2 := Lib.hid (HBL.out.go hb2)
  have y1 := HX2.out.cell (k := 1) rfl
  try simp only at y1
  clear hb2 hright
  clear y1
  have hl2 := HL2.out.lt
  go_wp2_with fail
  have HX3 : Hid (Box w2.drew w.heap.size (partL x)) := HX2.out.drew
  have HL3 : Hid (Bld w2.drew c m n f p vc vd) := HL2.out.drew
  clear hl2
  refine wp_region_tree (fun a x => _) (LinT.of [(0, true), (1, true), (2, true), (3, true), (4, true), (6, true), (7, true)] (.two 5 8 (LinT.of [(8, false), (9, false), (10, true), (11, true), (12, true), (13, false)] .nil) (LinT.of [(5, false), (9, false), (10, true), (11, true), (12, true), (13, false)] .nil))) (by kernel_rfl) (by kernel_rfl) rfl (by kernel_rfl) (fun y => Box y w.heap.size (partL x)) (fun _ _ h => h) ?_
  simp only [LinT.of, LinT.look, List.getElem?_toArray, List.getElem?_cons_succ, List.getElem?_cons_zero]
  have hS0 : Box w2.drew w.heap.size (partL x) := HX3.out
  iterate 6 (refine tree_take (v := ?_) hS0 (by rfl) ?_ ?_; rotate_left; (intro x hx; go_simp; try (with_reducible rfl)); (simp only [Act.put, List.setIfInBounds_toArray, List.set_cons_zero, List.set_cons_succ]))
  refine tree_get_box hS0 (by rfl) 48 (.tmp 51) rfl w.heap.size 4 rfl (partL x) [.int .i64 x.ins.op, .int .i64 x.ins.d, .int .i64 x.ins.a, .int .i64 x.ins.b, .int .i64 x.ins.imm] (fun y hy => hy) (by intro j v hj; rcases j with _ | _ | _ | _ | _ | j <;> first | exact hj | (simp at hj)) _ Tryd.underlying48 rfl 5 size_ins8 rfl ?_
  try (simp only [Act.put, List.setIfInBounds_toArray, List.set_cons_zero, List.set_cons_succ])
  obtain ⟨i0, hi, hz0, hz1, hz2⟩ := info_parts info_ins8
  have HI := Lib.hid hi
  have HZ0 := Lib.hid hz0
  have HZ1 := Lib.hid hz1
  have HZ2 := Lib.hid hz2
  clear hi hz0 hz1 hz2
  have c1 : w2.cell? ⟨c, 1, none⟩ = some vc := HL3.out.1.cell (k := 1) rfl
  have hcl : c < w2.heap.size := HL3.out.lt
  have hpcc := HPC.out
  have HEND : Hid (∀ (o : Obj) (y3 : World) (v3 : Value), (w2.drew.alloc o).grownBy y3 vc.ownBlock → y3.ownsRow (c + 1) 48 5 v3 (p.code.length + 1) (codeCells p.code ++ [.int .i64 x.ins.op, .int .i64 x.ins.d, .int .i64 x.ins.a, .int .i64 x.ins.b, .int .i64 x.ins.imm]) →
      (Bld (y3.setCell ⟨c, 1, none⟩ v3) c m n f { p with code := p.code ++ [x.ins] } v3 vd ∧ Below c w (y3.setCell ⟨c, 1, none⟩ v3)) ∧ Box y3 w.heap.size (partL x) ∧ y3.cell? ⟨c, 1, none⟩ = some vc ∧ y3.frozen? ⟨c, 1, none⟩ = false ∧ c < y3.heap.size ∧ ∃ A3 k3, v3 = .slice A3 (p.code.length + 1) k3) := by
    intro o y3 v3 hg ho
    have hne : some c ≠ vc.ownBlock := fun e => by have := (HL3.out.2.2.1.lt c e.symm).1; omega
    obtain ⟨q1, q2⟩ := HL3.out.code (i := x.ins) hg ho rfl
    obtain ⟨A3, k3, h3⟩ := (Row.of_own ho).form
    have hb2 := HL3.out.1.alloc o
    refine ⟨⟨q1, HB2.out.trans ((Below.refl c w2).drew.trans q2)⟩, (HX3.out.alloc o).grown hg (fun e => HN1.out e.symm), hg.cell (hb2.cell (k := 1) rfl) hne, ?_, ?_, A3, k3, h3⟩
    · rw [World.frozen?_of_block (w := w2.drew.alloc o) (hg.block c hb2.lt hne)]; exact hb2.frozen 1
    · have := hg.size; have := hb2.lt; omega
  refine tree_two hS0 (by rfl) (by rfl) (fun K hK => ?_) (fun K hK => ?_)
  · go_simp
    refine hK.out _ _ hS0 (fun _ => ?_)
    clear hK K
    try (simp only [Act.put, List.setIfInBounds_toArray, List.set_cons_zero, List.set_cons_succ])
    refine tree_call hS0 (by rfl) (fun K hK => ?_)
    go_simp
    have hSa : Box (w2.drew.alloc (.cells #[.int .i64 x.ins.op, .int .i64 x.ins.d, .int .i64 x.ins.a, .int .i64 x.ins.b, .int .i64 x.ins.imm] 48)) w.heap.size (partL x) := hS0.alloc _
    refine hK.out _ _ hSa (fun _ => ?_)
    clear hK K
    try (simp only [Act.put, List.setIfInBounds_toArray, List.set_cons_zero, List.set_cons_succ])
    refine tree_call hSa (by rfl) (fun K hK => ?_)
    refine wp_append_row _ (.tmp 50) (.tmp 53) 36 rfl (c + 1) 48 i0 _ 5 40 Tryd.underlying36 HI.out HZ0.out HZ1.out HZ2.out rfl (by omega) _ p.code.length (codeCells p.code) rfl (HL3.out.2.2.1.alloc _) _ (.slice (some ⟨w2.heap.size, 0, none⟩) 1 1) 1 [.int .i64 x.ins.op, .int .i64 x.ins.d, .int .i64 x.ins.a, .int .i64 x.ins.b, .int .i64 x.ins.imm] rfl (row_list w2.drew [.int .i64 x.ins.op, .int .i64 x.ins.d, .int .i64 x.ins.a, .int .i64 x.ins.b, .int .i64 x.ins.imm] _) (by simp [Value.oneCell']) (by unfold maxLen; omega) (by omega) (by simp; omega) ?_
    intro v3 y3 hO3 hg3
    obtain ⟨PA, hS3, q3, q4, hy3, A3, k3, rfl⟩ := HEND.out _ _ _ hg3 hO3
    have HPA := Lib.hid PA
    clear hO3 hg3 PA
    refine hK.out _ _ hS3 (fun _ => ?_)
    clear hK K
    try (simp only [Act.put, List.setIfInBounds_toArray, List.set_cons_zero, List.set_cons_succ])
    iterate 3 (refine tree_take (v := ?_) hS3 (by rfl) ?_ ?_; rotate_left; (intro x hx; go_simp; try (with_reducible rfl)); (simp only [Act.put, List.setIfInBounds_toArray, List.set_cons_zero, List.set_cons_succ]))
    refine tree_call hS3 (by rfl) (fun K hK => ?_)
    go_simp
    refine hK.out _ _ (hS3.setCell_other hcx.symm 1 _) (fun _ => ?_)
    clear hK K
    refine tree_done ?_
    try (simp only [Act.put, List.setIfInBounds_toArray, List.set_cons_zero, List.set_cons_succ])
    go_wp2_with fail
    exact bodyPost_ret (v := .tuple #[.int .i64 0, .int .i64 0]) (by simp [results, Tryd.results55, go_sem]) rfl (LayOut.ok HZ.out rfl HPA.out.1 HPA.out.2)
  · go_simp
    have hSa : Box (w2.drew.alloc (.cells #[.int .i64 x.ins.op, .int .i64 x.ins.d, .int .i64 x.ins.a, .int .i64 x.ins.b, .int .i64 x.ins.imm] 48)) w.heap.size (partL x) := hS0.alloc _
    have c1a : (w2.drew.alloc (.cells #[.int .i64 x.ins.op, .int .i64 x.ins.d, .int .i64 x.ins.a, .int .i64 x.ins.b, .int .i64 x.ins.imm] 48)).cell? ⟨c, 1, none⟩ = some vc := (World.cell?_alloc_lt _ _ _ hcl).trans c1
    have c1b : (w2.alloc (.cells #[.int .i64 x.ins.op, .int .i64 x.ins.d, .int .i64 x.ins.a, .int .i64 x.ins.b, .int .i64 x.ins.imm] 48)).cell? ⟨c, 1, none⟩ = some vc := c1a
    refine hK.out _ _ hSa (fun _ => ?_)
    clear hK K
    try (simp only [Act.put, List.setIfInBounds_toArray, List.set_cons_zero, List.set_cons_succ])
    refine tree_call hSa (by rfl) (fun K hK => ?_)
    go_simp
    refine hK.out _ _ hSa (fun _ => ?_)
    clear hK K
    try (simp only [Act.put, List.setIfInBounds_toArray, List.set_cons_zero, List.set_cons_succ])
    refine tree_call hSa (by rfl) (fun K hK => ?_)
    refine wp_append_row _ (.tmp 50) (.tmp 53) 36 rfl (c + 1) 48 i0 _ 5 40 Tryd.underlying36 HI.out HZ0.out HZ1.out HZ2.out rfl (by omega) _ p.code.length (codeCells p.code) rfl (HL3.out.2.2.1.alloc _) _ (.slice (some ⟨w2.heap.size, 0, none⟩) 1 1) 1 [.int .i64 x.ins.op, .int .i64 x.ins.d, .int .i64 x.ins.a, .int .i64 x.ins.b, .int .i64 x.ins.imm] rfl (row_list w2.drew [.int .i64 x.ins.op, .int .i64 x.ins.d, .int .i64 x.ins.a, .int .i64 x.ins.b, .int .i64 x.ins.imm] _) (by simp [Value.oneCell']) (by unfold maxLen; omega) (by omega) (by simp; omega) ?_
    intro v3 y3 hO3 hg3
    obtain ⟨PA, hS3, q3, q4, hy3, A3, k3, rfl⟩ := HEND.out _ _ _ hg3 hO3
    have HPA := Lib.hid PA
    clear hO3 hg3 PA
    refine hK.out _ _ hS3 (fun _ => ?_)
    clear hK K
    try (simp only [Act.put, List.setIfInBounds_toArray, List.set_cons_zero, List.set_cons_succ])
    iterate 3 (refine tree_take (v := ?_) hS3 (by rfl) ?_ ?_; rotate_left; (intro x hx; go_simp; try (with_reducible rfl)); (simp only [Act.put, List.setIfInBounds_toArray, List.set_cons_zero, List.set_cons_succ]))
    refine tree_call hS3 (by rfl) (fun K hK => ?_)
    go_simp
    refine hK.out _ _ (hS3.setCell_other hcx.symm 1 _) (fun _ => ?_)
    clear hK K
    refine tree_done ?_
    try (simp only [Act.put, List.setIfInBounds_toArray, List.set_cons_zero, List.set_cons_succ])
    go_wp2_with fail
    exact bodyPost_ret (v := .tuple #[.int .i64 0, .int .i64 0]) (by simp [results, Tryd.results55, go_sem]) rfl (LayOut.ok HZ.out rfl HPA.out.1 HPA.out.2)

set_option maxHeartbeats 4000000 in
theorem bins_none (x : PartZ) (p : Prog) (w : World) (c m n : Nat) (f : List UInt8 → Option (Int × Int)) (vc vd : Value) (hB : Bld w c m n f p vc vd) (hpc : p.code.length ≤ 1000000) (hk : x.target.kind = 1) (htx : x.target.text.length ≤ 1000000) (hf : f x.target.text = none) :
    Calls Tryd.prog 55 #[.pointer (some ⟨c, 0, none⟩), .agg #[.int .i64 x.kind, .int .i64 (x.at_ : Int), .int .i64 x.num, .string (txt x.name), .int .i64 x.ins.op, .int .i64 x.ins.d, .int .i64 x.ins.a, .int .i64 x.ins.b, .int .i64 x.ins.imm, .int .i64 x.target.kind, .int .i64 x.target.num, .int .i64 (x.target.at_ : Int), .string (txt x.target.text)]] w (LayOut w c m n f (ins1 f x p)) := by
  have hlt := hB.lt
  have HPC := Lib.hid hpc
  have HXB : Hid (Box (w.alloc (.cells #[.int .i64 x.kind, .int .i64 (x.at_ : Int), .int .i64 x.num, .string (txt x.name), .int .i64 x.ins.op, .int .i64 x.ins.d, .int .i64 x.ins.a, .int .i64 x.ins.b, .int .i64 x.ins.imm, .int .i64 x.target.kind, .int .i64 x.target.num, .int .i64 (x.target.at_ : Int), .string (txt x.target.text)] 77)) w.heap.size (partL x)) := Box.new w (partL x) _
  have HBL := Lib.hid (hB.alloc (.cells #[.int .i64 x.kind, .int .i64 (x.at_ : Int), .int .i64 x.num, .string (txt x.name), .int .i64 x.ins.op, .int .i64 x.ins.d, .int .i64 x.ins.a, .int .i64 x.ins.b, .int .i64 x.ins.imm, .int .i64 x.target.kind, .int .i64 x.target.num, .int .i64 (x.target.at_ : Int), .string (txt x.target.text)] 77))
  have HBW : Hid (Below c w (w.alloc (.cells #[.int .i64 x.kind, .int .i64 (x.at_ : Int), .int .i64 x.num, .string (txt x.name), .int .i64 x.ins.op, .int .i64 x.ins.d, .int .i64 x.ins.a, .int .i64 x.ins.b, .int .i64 x.ins.imm, .int .i64 x.target.kind, .int .i64 x.target.num, .int .i64 (x.target.at_ : Int), .string (txt x.target.text)] 77))) := (Below.refl c w).alloc (Nat.le_of_lt hlt) _
  have HN1 : Hid (vc.ownBlock ≠ some w.heap.size) := fun e => by have := (hB.2.2.1.lt _ e).2; omega
  have HN2 : Hid (vd.ownBlock ≠ some w.heap.size) := fun e => by have := (hB.2.2.2.1.lt _ e).2; omega
  have HMC : Hid (m < c) := hB.2.2.2.2
  have hcx : c ≠ w.heap.size := by omega
  have hk2 : (x.target.kind == 1) = true := by simpa using hk
  have HKT : Hid (∀ y, LabM y m n f → (Instr.lookup 72 (.map (some m)) (.string (txt x.target.text)) true).run Tryd.prog y = .ok (.tuple #[.agg #[.int .i64 0, .int .i64 0], .bool false]) y) := by
    intro y hy
    have := hy.look_ok htx
    rw [hf] at this
    exact this
  obtain ⟨A0, k0, hvc⟩ := (Row.of_own hB.2.2.1).form
  have HZ : Hid (ins1 f x p = .bad x.target.at_ 6) := by show _ = _; unfold ins1; rw [if_pos hk, hf]
  generalize ins1 f x p = Z at *
  clear hB hpc hk htx hf
  go_enter Tryd.func55, Tryd.ntmps55
  go_wp2_with fail
  have hS : Box (w.alloc (.cells #[.int .i64 x.kind, .int .i64 (x.at_ : Int), .int .i64 x.num, .string (txt x.name), .int .i64 x.ins.op, .int .i64 x.ins.d, .int .i64 x.ins.a, .int .i64 x.ins.b, .int .i64 x.ins.imm, .int .i64 x.target.kind, .int .i64 x.target.num, .int .i64 (x.target.at_ : Int), .string (txt x.target.text)] 77)).drew w.heap.size (partL x) ∧ Bld (w.alloc (.cells #[.int .i64 x.kind, .int .i64 (x.at_ : Int), .int .i64 x.num, .string (txt x.name), .int .i64 x.ins.op, .int .i64 x.ins.d, .int .i64 x.ins.a, .int .i64 x.ins.b, .int .i64 x.ins.imm, .int .i64 x.target.kind, .int .i64 x.target.num, .int .i64 (x.target.at_ : Int), .string (txt x.target.text)] 77)).drew c m n f p vc vd := ⟨HXB.out.drew, HBL.out.drew⟩
  refine wp_region_lin [(0, true), (1, true), (2, true), (3, true), (4, true), (5, true), (6, true), (7, true), (8, true), (9, true), (10, true), (11, false), (12, false), (13, true)] (by kernel_rfl) (by kernel_rfl) rfl (by kernel_rfl) (fun y => Box y w.heap.size (partL x) ∧ Bld y c m n f p vc vd) ?_
  simp only [List.map_cons, List.map_nil, List.getElem?_toArray, List.getElem?_cons_succ, List.getElem?_cons_zero]
  iterate 11 (refine lin_take (v := ?_) hS (by rfl) ?_ ?_; rotate_left; (intro y hy; obtain ⟨h1, h2⟩ := hy; have e1 := h2.1.cell (k := 0) rfl; have e2 := h1.cell (k := 12) rfl; have e3 := HKT.out y h2.2.1; clear h1 h2; go_simp; try (with_reducible rfl)); (simp only [Act.put, List.setIfInBounds_toArray, List.set_cons_zero, List.set_cons_succ]))
  have hSa : Box ((w.alloc (.cells #[.int .i64 x.kind, .int .i64 (x.at_ : Int), .int .i64 x.num, .string (txt x.name), .int .i64 x.ins.op, .int .i64 x.ins.d, .int .i64 x.ins.a, .int .i64 x.ins.b, .int .i64 x.ins.imm, .int .i64 x.target.kind, .int .i64 x.target.num, .int .i64 (x.target.at_ : Int), .string (txt x.target.text)] 77)).drew.alloc (.cells #[.int .i64 0, .int .i64 0] 100)) w.heap.size (partL x) ∧ Bld ((w.alloc (.cells #[.int .i64 x.kind, .int .i64 (x.at_ : Int), .int .i64 x.num, .string (txt x.name), .int .i64 x.ins.op, .int .i64 x.ins.d, .int .i64 x.ins.a, .int .i64 x.ins.b, .int .i64 x.ins.imm, .int .i64 x.target.kind, .int .i64 x.target.num, .int .i64 (x.target.at_ : Int), .string (txt x.target.text)] 77)).drew.alloc (.cells #[.int .i64 0, .int .i64 0] 100)) c m n f p vc vd := ⟨hS.1.alloc _, hS.2.alloc _⟩
  refine lin_call hS (by rfl) (fun K hK => ?_)
  go_simp
  refine hK.out _ _ hSa (fun _ => ?_)
  clear hK K
  try (simp only [Act.put, List.setIfInBounds_toArray, List.set_cons_zero, List.set_cons_succ])
  refine lin_call hSa (by rfl) (fun K hK => ?_)
  go_simp
  have hSb : Box (((w.alloc (.cells #[.int .i64 x.kind, .int .i64 (x.at_ : Int), .int .i64 x.num, .string (txt x.name), .int .i64 x.ins.op, .int .i64 x.ins.d, .int .i64 x.ins.a, .int .i64 x.ins.b, .int .i64 x.ins.imm, .int .i64 x.target.kind, .int .i64 x.target.num, .int .i64 (x.target.at_ : Int), .string (txt x.target.text)] 77)).alloc (.cells #[.int .i64 0, .int .i64 0] 100)).drew) w.heap.size (partL x) ∧ Bld (((w.alloc (.cells #[.int .i64 x.kind, .int .i64 (x.at_ : Int), .int .i64 x.num, .string (txt x.name), .int .i64 x.ins.op, .int .i64 x.ins.d, .int .i64 x.ins.a, .int .i64 x.ins.b, .int .i64 x.ins.imm, .int .i64 x.target.kind, .int .i64 x.target.num, .int .i64 (x.target.at_ : Int), .string (txt x.target.text)] 77)).alloc (.cells #[.int .i64 0, .int .i64 0] 100)).drew) c m n f p vc vd := ⟨(HXB.out.alloc _).drew, (HBL.out.alloc _).drew⟩
  have hlb : (((w.alloc (.cells #[.int .i64 x.kind, .int .i64 (x.at_ : Int), .int .i64 x.num, .string (txt x.name), .int .i64 x.ins.op, .int .i64 x.ins.d, .int .i64 x.ins.a, .int .i64 x.ins.b, .int .i64 x.ins.imm, .int .i64 x.target.kind, .int .i64 x.target.num, .int .i64 (x.target.at_ : Int), .string (txt x.target.text)] 77)).alloc (.cells #[.int .i64 0, .int .i64 0] 100)).drew).cell? ⟨w.heap.size + 1, 1, none⟩ = some (.int .i64 0) := by
    have := (Box.new (w.alloc (.cells #[.int .i64 x.kind, .int .i64 (x.at_ : Int), .int .i64 x.num, .string (txt x.name), .int .i64 x.ins.op, .int .i64 x.ins.d, .int .i64 x.ins.a, .int .i64 x.ins.b, .int .i64 x.ins.imm, .int .i64 x.target.kind, .int .i64 x.target.num, .int .i64 (x.target.at_ : Int), .string (txt x.target.text)] 77)) [.int .i64 0, .int .i64 0] 100).cell (k := 1) rfl
    rw [show (w.alloc (.cells #[.int .i64 x.kind, .int .i64 (x.at_ : Int), .int .i64 x.num, .string (txt x.name), .int .i64 x.ins.op, .int .i64 x.ins.d, .int .i64 x.ins.a, .int .i64 x.ins.b, .int .i64 x.ins.imm, .int .i64 x.target.kind, .int .i64 x.target.num, .int .i64 (x.target.at_ : Int), .string (txt x.target.text)] 77)).heap.size = w.heap.size + 1 by simp] at this
    exact this
  have hbw : Below c w (((w.alloc (.cells #[.int .i64 x.kind, .int .i64 (x.at_ : Int), .int .i64 x.num, .string (txt x.name), .int .i64 x.ins.op, .int .i64 x.ins.d, .int .i64 x.ins.a, .int .i64 x.ins.b, .int .i64 x.ins.imm, .int .i64 x.target.kind, .int .i64 x.target.num, .int .i64 (x.target.at_ : Int), .string (txt x.target.text)] 77)).alloc (.cells #[.int .i64 0, .int .i64 0] 100)).drew) := (HBW.out.alloc (Nat.le_of_lt HBL.out.lt) _).drew
  have hxl : w.heap.size + 1 < (((w.alloc (.cells #[.int .i64 x.kind, .int .i64 (x.at_ : Int), .int .i64 x.num, .string (txt x.name), .int .i64 x.ins.op, .int .i64 x.ins.d, .int .i64 x.ins.a, .int .i64 x.ins.b, .int .i64 x.ins.imm, .int .i64 x.target.kind, .int .i64 x.target.num, .int .i64 (x.target.at_ : Int), .string (txt x.target.text)] 77)).alloc (.cells #[.int .i64 0, .int .i64 0] 100)).drew).heap.size := by show _ < ((w.alloc (.cells #[.int .i64 x.kind, .int .i64 (x.at_ : Int), .int .i64 x.num, .string (txt x.name), .int .i64 x.ins.op, .int .i64 x.ins.d, .int .i64 x.ins.a, .int .i64 x.ins.b, .int .i64 x.ins.imm, .int .i64 x.target.kind, .int .i64 x.target.num, .int .i64 (x.target.at_ : Int), .string (txt x.target.text)] 77)).alloc _).heap.size; simp
  refine hK.out _ _ hSb (fun _ => ?_)
  clear hK K hS hSa
  try (simp only [Act.put, List.setIfInBounds_toArray, List.set_cons_zero, List.set_cons_succ])
  (refine lin_take (v := ?_) hSb (by rfl) ?_ ?_; rotate_left; (intro y hy; go_simp; try (with_reducible rfl)); (simp only [Act.put, List.setIfInBounds_toArray, List.set_cons_zero, List.set_cons_succ]))
  refine lin_done ?_
  clear HXB HBL HBW
  obtain ⟨HXB, HBL⟩ : Hid (Box (((w.alloc (.cells #[.int .i64 x.kind, .int .i64 (x.at_ : Int), .int .i64 x.num, .string (txt x.name), .int .i64 x.ins.op, .int .i64 x.ins.d, .int .i64 x.ins.a, .int .i64 x.ins.b, .int .i64 x.ins.imm, .int .i64 x.target.kind, .int .i64 x.target.num, .int .i64 (x.target.at_ : Int), .string (txt x.target.text)] 77)).alloc (.cells #[.int .i64 0, .int .i64 0] 100)).drew) w.heap.size (partL x)) ∧ Hid (Bld (((w.alloc (.cells #[.int .i64 x.kind, .int .i64 (x.at_ : Int), .int .i64 x.num, .string (txt x.name), .int .i64 x.ins.op, .int .i64 x.ins.d, .int .i64 x.ins.a, .int .i64 x.ins.b, .int .i64 x.ins.imm, .int .i64 x.target.kind, .int .i64 x.target.num, .int .i64 (x.target.at_ : Int), .string (txt x.target.text)] 77)).alloc (.cells #[.int .i64 0, .int .i64 0] 100)).drew) c m n f p vc vd) := ⟨hSb.1, hSb.2⟩
  have HBW := Lib.hid hbw
  clear hSb hbw
  generalize (((w.alloc (.cells #[.int .i64 x.kind, .int .i64 (x.at_ : Int), .int .i64 x.num, .string (txt x.name), .int .i64 x.ins.op, .int .i64 x.ins.d, .int .i64 x.ins.a, .int .i64 x.ins.b, .int .i64 x.ins.imm, .int .i64 x.target.kind, .int .i64 x.target.num, .int .i64 (x.target.at_ : Int), .string (txt x.target.text)] 77)).alloc (.cells #[.int .i64 0, .int .i64 0] 100)).drew) = X at *
  have y11 := HXB.out.cell (k := 11) rfl
  go_wp2_with fail
  exact bodyPost_ret (v := .tuple #[.int .i64 (x.target.at_ : Int), .int .i64 6]) (by simp [results, Tryd.results55, go_sem]) rfl (LayOut.bad HZ.out rfl HBW.out)

set_option maxHeartbeats 4000000 in
theorem bins_some_no (x : PartZ) (p : Prog) (w : World) (c m n : Nat) (f : List UInt8 → Option (Int × Int)) (vc vd : Value) (hB : Bld w c m n f p vc vd) (hpc : p.code.length ≤ 1000000) (r : Int × Int) (K0 : Int) (hk : x.target.kind = 1) (htx : x.target.text.length ≤ 1000000) (hf : f x.target.text = some r) (hr0 : 0 ≤ r.2) (hr1 : r.2 ≤ 1000000) (hK0 : K0 = r.2 - p.code.length) (hright : rightB { x.ins with imm := K0 } = false) :
    Calls Tryd.prog 55 #[.pointer (some ⟨c, 0, none⟩), .agg #[.int .i64 x.kind, .int .i64 (x.at_ : Int), .int .i64 x.num, .string (txt x.name), .int .i64 x.ins.op, .int .i64 x.ins.d, .int .i64 x.ins.a, .int .i64 x.ins.b, .int .i64 x.ins.imm, .int .i64 x.target.kind, .int .i64 x.target.num, .int .i64 (x.target.at_ : Int), .string (txt x.target.text)]] w (LayOut w c m n f (ins1 f x p)) := by
  have hlt := hB.lt
  have HPC := Lib.hid hpc
  have HXB : Hid (Box (w.alloc (.cells #[.int .i64 x.kind, .int .i64 (x.at_ : Int), .int .i64 x.num, .string (txt x.name), .int .i64 x.ins.op, .int .i64 x.ins.d, .int .i64 x.ins.a, .int .i64 x.ins.b, .int .i64 x.ins.imm, .int .i64 x.target.kind, .int .i64 x.target.num, .int .i64 (x.target.at_ : Int), .string (txt x.target.text)] 77)) w.heap.size (partL x)) := Box.new w (partL x) _
  have HBL := Lib.hid (hB.alloc (.cells #[.int .i64 x.kind, .int .i64 (x.at_ : Int), .int .i64 x.num, .string (txt x.name), .int .i64 x.ins.op, .int .i64 x.ins.d, .int .i64 x.ins.a, .int .i64 x.ins.b, .int .i64 x.ins.imm, .int .i64 x.target.kind, .int .i64 x.target.num, .int .i64 (x.target.at_ : Int), .string (txt x.target.text)] 77))
  have HBW : Hid (Below c w (w.alloc (.cells #[.int .i64 x.kind, .int .i64 (x.at_ : Int), .int .i64 x.num, .string (txt x.name), .int .i64 x.ins.op, .int .i64 x.ins.d, .int .i64 x.ins.a, .int .i64 x.ins.b, .int .i64 x.ins.imm, .int .i64 x.target.kind, .int .i64 x.target.num, .int .i64 (x.target.at_ : Int), .string (txt x.target.text)] 77))) := (Below.refl c w).alloc (Nat.le_of_lt hlt) _
  have HN1 : Hid (vc.ownBlock ≠ some w.heap.size) := fun e => by have := (hB.2.2.1.lt _ e).2; omega
  have HN2 : Hid (vd.ownBlock ≠ some w.heap.size) := fun e => by have := (hB.2.2.2.1.lt _ e).2; omega
  have HMC : Hid (m < c) := hB.2.2.2.2
  have hcx : c ≠ w.heap.size := by omega
  have hk2 : (x.target.kind == 1) = true := by simpa using hk
  have HKT : Hid (∀ y, LabM y m n f → (Instr.lookup 72 (.map (some m)) (.string (txt x.target.text)) true).run Tryd.prog y = .ok (.tuple #[.agg #[.int .i64 r.1, .int .i64 r.2], .bool true]) y) := by
    intro y hy
    have := hy.look_ok htx
    rw [hf] at this
    exact this
  obtain ⟨A0, k0, hvc⟩ := (Row.of_own hB.2.2.1).form
  have HZ : Hid (ins1 f x p = .bad x.at_ 8) := by show _ = _; unfold ins1 put1; rw [if_pos hk, hf]; simp only; rw [← hK0, hright]; rfl
  generalize ins1 f x p = Z at *
  obtain ⟨r1, r2⟩ := r
  simp only at hr0 hr1 hK0 HKT
  have HK0 := Lib.hid hK0
  clear hK0
  have HPL : Hid (p.code.length ≤ 1000000) := hpc
  clear hB hk htx hf
  go_enter Tryd.func55, Tryd.ntmps55
  go_wp2_with fail
  have hS : Box (w.alloc (.cells #[.int .i64 x.kind, .int .i64 (x.at_ : Int), .int .i64 x.num, .string (txt x.name), .int .i64 x.ins.op, .int .i64 x.ins.d, .int .i64 x.ins.a, .int .i64 x.ins.b, .int .i64 x.ins.imm, .int .i64 x.target.kind, .int .i64 x.target.num, .int .i64 (x.target.at_ : Int), .string (txt x.target.text)] 77)).drew w.heap.size (partL x) ∧ Bld (w.alloc (.cells #[.int .i64 x.kind, .int .i64 (x.at_ : Int), .int .i64 x.num, .string (txt x.name), .int .i64 x.ins.op, .int .i64 x.ins.d, .int .i64 x.ins.a, .int .i64 x.ins.b, .int .i64 x.ins.imm, .int .i64 x.target.kind, .int .i64 x.target.num, .int .i64 (x.target.at_ : Int), .string (txt x.target.text)] 77)).drew c m n f p vc vd := ⟨HXB.out.drew, HBL.out.drew⟩
  refine wp_region_lin [(0, true), (1, true), (2, true), (3, true), (4, true), (5, true), (6, true), (7, true), (8, true), (9, true), (10, true), (11, false), (12, false), (13, true)] (by kernel_rfl) (by kernel_rfl) rfl (by kernel_rfl) (fun y => Box y w.heap.size (partL x) ∧ Bld y c m n f p vc vd) ?_
  simp only [List.map_cons, List.map_nil, List.getElem?_toArray, List.getElem?_cons_succ, List.getElem?_cons_zero]
  iterate 11 (refine lin_take (v := ?_) hS (by rfl) ?_ ?_; rotate_left; (intro y hy; obtain ⟨h1, h2⟩ := hy; have e1 := h2.1.cell (k := 0) rfl; have e2 := h1.cell (k := 12) rfl; have e3 := HKT.out y h2.2.1; clear h1 h2; go_simp; try (with_reducible rfl)); (simp only [Act.put, List.setIfInBounds_toArray, List.set_cons_zero, List.set_cons_succ]))
  have hSa : Box ((w.alloc (.cells #[.int .i64 x.kind, .int .i64 (x.at_ : Int), .int .i64 x.num, .string (txt x.name), .int .i64 x.ins.op, .int .i64 x.ins.d, .int .i64 x.ins.a, .int .i64 x.ins.b, .int .i64 x.ins.imm, .int .i64 x.target.kind, .int .i64 x.target.num, .int .i64 (x.target.at_ : Int), .string (txt x.target.text)] 77)).drew.alloc (.cells #[.int .i64 0, .int .i64 0] 100)) w.heap.size (partL x) ∧ Bld ((w.alloc (.cells #[.int .i64 x.kind, .int .i64 (x.at_ : Int), .int .i64 x.num, .string (txt x.name), .int .i64 x.ins.op, .int .i64 x.ins.d, .int .i64 x.ins.a, .int .i64 x.ins.b, .int .i64 x.ins.imm, .int .i64 x.target.kind, .int .i64 x.target.num, .int .i64 (x.target.at_ : Int), .string (txt x.target.text)] 77)).drew.alloc (.cells #[.int .i64 0, .int .i64 0] 100)) c m n f p vc vd := ⟨hS.1.alloc _, hS.2.alloc _⟩
  refine lin_call hS (by rfl) (fun K hK => ?_)
  go_simp
  refine hK.out _ _ hSa (fun _ => ?_)
  clear hK K
  try (simp only [Act.put, List.setIfInBounds_toArray, List.set_cons_zero, List.set_cons_succ])
  refine lin_call hSa (by rfl) (fun K hK => ?_)
  go_simp
  have hSb : Box (((w.alloc (.cells #[.int .i64 x.kind, .int .i64 (x.at_ : Int), .int .i64 x.num, .string (txt x.name), .int .i64 x.ins.op, .int .i64 x.ins.d, .int .i64 x.ins.a, .int .i64 x.ins.b, .int .i64 x.ins.imm, .int .i64 x.target.kind, .int .i64 x.target.num, .int .i64 (x.target.at_ : Int), .string (txt x.target.text)] 77)).alloc (.cells #[.int .i64 r1, .int .i64 r2] 100)).drew) w.heap.size (partL x) ∧ Bld (((w.alloc (.cells #[.int .i64 x.kind, .int .i64 (x.at_ : Int), .int .i64 x.num, .string (txt x.name), .int .i64 x.ins.op, .int .i64 x.ins.d, .int .i64 x.ins.a, .int .i64 x.ins.b, .int .i64 x.ins.imm, .int .i64 x.target.kind, .int .i64 x.target.num, .int .i64 (x.target.at_ : Int), .string (txt x.target.text)] 77)).alloc (.cells #[.int .i64 r1, .int .i64 r2] 100)).drew) c m n f p vc vd := ⟨(HXB.out.alloc _).drew, (HBL.out.alloc _).drew⟩
  have hlb : (((w.alloc (.cells #[.int .i64 x.kind, .int .i64 (x.at_ : Int), .int .i64 x.num, .string (txt x.name), .int .i64 x.ins.op, .int .i64 x.ins.d, .int .i64 x.ins.a, .int .i64 x.ins.b, .int .i64 x.ins.imm, .int .i64 x.target.kind, .int .i64 x.target.num, .int .i64 (x.target.at_ : Int), .string (txt x.target.text)] 77)).alloc (.cells #[.int .i64 r1, .int .i64 r2] 100)).drew).cell? ⟨w.heap.size + 1, 1, none⟩ = some (.int .i64 r2) := by
    have := (Box.new (w.alloc (.cells #[.int .i64 x.kind, .int .i64 (x.at_ : Int), .int .i64 x.num, .string (txt x.name), .int .i64 x.ins.op, .int .i64 x.ins.d, .int .i64 x.ins.a, .int .i64 x.ins.b, .int .i64 x.ins.imm, .int .i64 x.target.kind, .int .i64 x.target.num, .int .i64 (x.target.at_ : Int), .string (txt x.target.text)] 77)) [.int .i64 r1, .int .i64 r2] 100).cell (k := 1) rfl
    rw [show (w.alloc (.cells #[.int .i64 x.kind, .int .i64 (x.at_ : Int), .int .i64 x.num, .string (txt x.name), .int .i64 x.ins.op, .int .i64 x.ins.d, .int .i64 x.ins.a, .int .i64 x.ins.b, .int .i64 x.ins.imm, .int .i64 x.target.kind, .int .i64 x.target.num, .int .i64 (x.target.at_ : Int), .string (txt x.target.text)] 77)).heap.size = w.heap.size + 1 by simp] at this
    exact this
  have hbw : Below c w (((w.alloc (.cells #[.int .i64 x.kind, .int .i64 (x.at_ : Int), .int .i64 x.num, .string (txt x.name), .int .i64 x.ins.op, .int .i64 x.ins.d, .int .i64 x.ins.a, .int .i64 x.ins.b, .int .i64 x.ins.imm, .int .i64 x.target.kind, .int .i64 x.target.num, .int .i64 (x.target.at_ : Int), .string (txt x.target.text)] 77)).alloc (.cells #[.int .i64 r1, .int .i64 r2] 100)).drew) := (HBW.out.alloc (Nat.le_of_lt HBL.out.lt) _).drew
  have hxl : w.heap.size + 1 < (((w.alloc (.cells #[.int .i64 x.kind, .int .i64 (x.at_ : Int), .int .i64 x.num, .string (txt x.name), .int .i64 x.ins.op, .int .i64 x.ins.d, .int .i64 x.ins.a, .int .i64 x.ins.b, .int .i64 x.ins.imm, .int .i64 x.target.kind, .int .i64 x.target.num, .int .i64 (x.target.at_ : Int), .string (txt x.target.text)] 77)).alloc (.cells #[.int .i64 r1, .int .i64 r2] 100)).drew).heap.size := by show _ < ((w.alloc (.cells #[.int .i64 x.kind, .int .i64 (x.at_ : Int), .int .i64 x.num, .string (txt x.name), .int .i64 x.ins.op, .int .i64 x.ins.d, .int .i64 x.ins.a, .int .i64 x.ins.b, .int .i64 x.ins.imm, .int .i64 x.target.kind, .int .i64 x.target.num, .int .i64 (x.target.at_ : Int), .string (txt x.target.text)] 77)).alloc _).heap.size; simp
  refine hK.out _ _ hSb (fun _ => ?_)
  clear hK K hS hSa
  try (simp only [Act.put, List.setIfInBounds_toArray, List.set_cons_zero, List.set_cons_succ])
  (refine lin_take (v := ?_) hSb (by rfl) ?_ ?_; rotate_left; (intro y hy; go_simp; try (with_reducible rfl)); (simp only [Act.put, List.setIfInBounds_toArray, List.set_cons_zero, List.set_cons_succ]))
  refine lin_done ?_
  clear HXB HBL HBW
  have hpl := HPC.out
  obtain ⟨HXB, HBL⟩ : Hid (Box (((w.alloc (.cells #[.int .i64 x.kind, .int .i64 (x.at_ : Int), .int .i64 x.num, .string (txt x.name), .int .i64 x.ins.op, .int .i64 x.ins.d, .int .i64 x.ins.a, .int .i64 x.ins.b, .int .i64 x.ins.imm, .int .i64 x.target.kind, .int .i64 x.target.num, .int .i64 (x.target.at_ : Int), .string (txt x.target.text)] 77)).alloc (.cells #[.int .i64 r1, .int .i64 r2] 100)).drew) w.heap.size (partL x)) ∧ Hid (Bld (((w.alloc (.cells #[.int .i64 x.kind, .int .i64 (x.at_ : Int), .int .i64 x.num, .string (txt x.name), .int .i64 x.ins.op, .int .i64 x.ins.d, .int .i64 x.ins.a, .int .i64 x.ins.b, .int .i64 x.ins.imm, .int .i64 x.target.kind, .int .i64 x.target.num, .int .i64 (x.target.at_ : Int), .string (txt x.target.text)] 77)).alloc (.cells #[.int .i64 r1, .int .i64 r2] 100)).drew) c m n f p vc vd) := ⟨hSb.1, hSb.2⟩
  have HBW := Lib.hid hbw
  clear hSb hbw
  generalize (((w.alloc (.cells #[.int .i64 x.kind, .int .i64 (x.at_ : Int), .int .i64 x.num, .string (txt x.name), .int .i64 x.ins.op, .int .i64 x.ins.d, .int .i64 x.ins.a, .int .i64 x.ins.b, .int .i64 x.ins.imm, .int .i64 x.target.kind, .int .i64 x.target.num, .int .i64 (x.target.at_ : Int), .string (txt x.target.text)] 77)).alloc (.cells #[.int .i64 r1, .int .i64 r2] 100)).drew) = X at *
  subst hvc
  have z1 := HBL.out.1.cell (k := 1) rfl
  have hcX := HBL.out.lt
  go_wp2_with fail
  have hS : X.drew.cell? ⟨w.heap.size + 1, 1, none⟩ = some (.int .i64 r2) ∧ X.drew.cell? ⟨c, 1, none⟩ = some (.slice A0 p.code.length k0) := ⟨hlb, z1⟩
  clear hlb z1
  refine wp_region_lin [(0, true), (1, true), (2, true), (3, true), (4, true), (5, true), (6, true), (7, true), (8, true), (9, true), (10, true), (11, false)] (by kernel_rfl) (by kernel_rfl) rfl (by kernel_rfl) (fun y => y.cell? ⟨w.heap.size + 1, 1, none⟩ = some (.int .i64 r2) ∧ y.cell? ⟨c, 1, none⟩ = some (.slice A0 p.code.length k0)) ?_
  simp only [List.map_cons, List.map_nil, List.getElem?_toArray, List.getElem?_cons_succ, List.getElem?_cons_zero]
  iterate 11 (refine lin_take (v := ?_) hS (by rfl) ?_ ?_; rotate_left; (intro y hy; obtain ⟨e1, e2⟩ := hy; go_simp; try (with_reducible rfl)); (simp only [Act.put, List.setIfInBounds_toArray, List.set_cons_zero, List.set_cons_succ]))
  have hw : IntKind.i64.wrap (r2 - (p.code.length : Int)) = K0 := by have := HK0.out; rw [this]; exact IntWalk.i64_in _ ⟨by omega, by omega⟩
  rw [hw]
  have y8 : X.drew.cell? ⟨w.heap.size, 8, none⟩ = some (.int .i64 x.ins.imm) := HXB.out.cell (k := 8) rfl
  have f8 : X.drew.frozen? ⟨w.heap.size, 8, none⟩ = false := HXB.out.frozen 8
  have hSc : (X.drew.setCell ⟨w.heap.size, 8, none⟩ (.int .i64 K0)).cell? ⟨w.heap.size + 1, 1, none⟩ = some (.int .i64 r2) ∧ (X.drew.setCell ⟨w.heap.size, 8, none⟩ (.int .i64 K0)).cell? ⟨c, 1, none⟩ = some (.slice A0 p.code.length k0) :=
    ⟨(World.cell?_setCell_other _ _ _ _ (fun e => by have := congrArg Addr.block e; simp at this)).trans hS.1, (World.cell?_setCell_other _ _ _ _ (fun e => hcx (congrArg Addr.block e).symm)).trans hS.2⟩
  refine lin_call hS (by rfl) (fun K hK => ?_)
  go_simp
  refine hK.out _ _ hSc (fun _ => ?_)
  clear hK K hS hSc y8 f8
  try (simp only [Act.put, List.setIfInBounds_toArray, List.set_cons_zero, List.set_cons_succ])
  refine lin_done ?_
  obtain ⟨HXC, HBC, HWC⟩ : Hid (Box ((X.setCell ⟨w.heap.size, 8, none⟩ (.int .i64 K0)).drew) w.heap.size (partL { x with ins := { x.ins with imm := K0 } })) ∧ Hid (Bld ((X.setCell ⟨w.heap.size, 8, none⟩ (.int .i64 K0)).drew) c m n f p (.slice A0 p.code.length k0) vd) ∧ Hid (Below c w ((X.setCell ⟨w.heap.size, 8, none⟩ (.int .i64 K0)).drew)) :=
    ⟨(HXB.out.setCell 8 _).drew, (HBL.out.set hlt HN1.out HN2.out 8 _).drew, (HBW.out.setCell (p := ⟨w.heap.size, 8, none⟩) (Nat.le_of_lt hlt) _).drew⟩
  clear HXB HBL HBW
  have HXB := HXC
  have HBL := HBC
  have HBW := HWC
  clear HXC HBC HWC hw
  generalize (X.setCell ⟨w.heap.size, 8, none⟩ (.int .i64 K0)).drew = Y at *
  have y4 : Y.cell? ⟨w.heap.size, 4, none⟩ = some (.int .i64 x.ins.op) := HXB.out.cell (k := 4) rfl
  have y5 : Y.cell? ⟨w.heap.size, 5, none⟩ = some (.int .i64 x.ins.d) := HXB.out.cell (k := 5) rfl
  have y6 : Y.cell? ⟨w.heap.size, 6, none⟩ = some (.int .i64 x.ins.a) := HXB.out.cell (k := 6) rfl
  have y7 : Y.cell? ⟨w.heap.size, 7, none⟩ = some (.int .i64 x.ins.b) := HXB.out.cell (k := 7) rfl
  have y8 : Y.cell? ⟨w.heap.size, 8, none⟩ = some (.int .i64 K0) := HXB.out.cell (k := 8) rfl
  have HHR := Lib.hid hright
  clear hright
  go_wp2_with fail
  have hright := HHR.out
  clear y4 y5 y6 y7 y8
  refine (right_any ({ x.ins with imm := K0 } : Ins) _).mono ?_; rintro en w2 ⟨rfl, hb2⟩
  rw [hright]
  have HB2 := Lib.hid (HBW.out.trans (hb2.mono (Nat.le_of_lt HBL.out.lt)))
  have HX2 : Hid (Box w2 w.heap.size (partL { x with ins := { x.ins with imm := K0 } })) := HXB.out.below hb2 HXB.out.lt
  have HL2 := Lib.hid (HBL.out.go hb2)
  have y1 := HX2.out.cell (k := 1) rfl
  try simp only at y1
  clear hb2 hright
  have y1b : w2.cell? ⟨w.heap.size, 1, none⟩ = some (.int .i64 (x.at_ : Int)) := y1
  go_wp2_with fail
  exact bodyPost_ret (v := .tuple #[.int .i64 (x.at_ : Int), .int .i64 8]) (by simp [results, Tryd.results55, go_sem]) rfl (LayOut.bad HZ.out rfl HB2.out)

set_option maxHeartbeats 4000000 in
theorem bins_some_yes (x : PartZ) (p : Prog) (w : World) (c m n : Nat) (f : List UInt8 → Option (Int × Int)) (vc vd : Value) (hB : Bld w c m n f p vc vd) (hpc : p.code.length ≤ 1000000) (r : Int × Int) (K0 : Int) (hk : x.target.kind = 1) (htx : x.target.text.length ≤ 1000000) (hf : f x.target.text = some r) (hr0 : 0 ≤ r.2) (hr1 : r.2 ≤ 1000000) (hK0 : K0 = r.2 - p.code.length) (hright : rightB { x.ins with imm := K0 } = true) :
    Calls Tryd.prog 55 #[.pointer (some ⟨c, 0, none⟩), .agg #[.int .i64 x.kind, .int .i64 (x.at_ : Int), .int .i64 x.num, .string (txt x.name), .int .i64 x.ins.op, .int .i64 x.ins.d, .int .i64 x.ins.a, .int .i64 x.ins.b, .int .i64 x.ins.imm, .int .i64 x.target.kind, .int .i64 x.target.num, .int .i64 (x.target.at_ : Int), .string (txt x.target.text)]] w (LayOut w c m n f (ins1 f x p)) := by
  have hlt := hB.lt
  have HPC := Lib.hid hpc
  have HXB : Hid (Box (w.alloc (.cells #[.int .i64 x.kind, .int .i64 (x.at_ : Int), .int .i64 x.num, .string (txt x.name), .int .i64 x.ins.op, .int .i64 x.ins.d, .int .i64 x.ins.a, .int .i64 x.ins.b, .int .i64 x.ins.imm, .int .i64 x.target.kind, .int .i64 x.target.num, .int .i64 (x.target.at_ : Int), .string (txt x.target.text)] 77)) w.heap.size (partL x)) := Box.new w (partL x) _
  have HBL := Lib.hid (hB.alloc (.cells #[.int .i64 x.kind, .int .i64 (x.at_ : Int), .int .i64 x.num, .string (txt x.name), .int .i64 x.ins.op, .int .i64 x.ins.d, .int .i64 x.ins.a, .int .i64 x.ins.b, .int .i64 x.ins.imm, .int .i64 x.target.kind, .int .i64 x.target.num, .int .i64 (x.target.at_ : Int), .string (txt x.target.text)] 77))
  have HBW : Hid (Below c w (w.alloc (.cells #[.int .i64 x.kind, .int .i64 (x.at_ : Int), .int .i64 x.num, .string (txt x.name), .int .i64 x.ins.op, .int .i64 x.ins.d, .int .i64 x.ins.a, .int .i64 x.ins.b, .int .i64 x.ins.imm, .int .i64 x.target.kind, .int .i64 x.target.num, .int .i64 (x.target.at_ : Int), .string (txt x.target.text)] 77))) := (Below.refl c w).alloc (Nat.le_of_lt hlt) _
  have HN1 : Hid (vc.ownBlock ≠ some w.heap.size) := fun e => by have := (hB.2.2.1.lt _ e).2; omega
  have HN2 : Hid (vd.ownBlock ≠ some w.heap.size) := fun e => by have := (hB.2.2.2.1.lt _ e).2; omega
  have HMC : Hid (m < c) := hB.2.2.2.2
  have hcx : c ≠ w.heap.size := by omega
  have hk2 : (x.target.kind == 1) = true := by simpa using hk
  have HKT : Hid (∀ y, LabM y m n f → (Instr.lookup 72 (.map (some m)) (.string (txt x.target.text)) true).run Tryd.prog y = .ok (.tuple #[.agg #[.int .i64 r.1, .int .i64 r.2], .bool true]) y) := by
    intro y hy
    have := hy.look_ok htx
    rw [hf] at this
    exact this
  obtain ⟨A0, k0, hvc⟩ := (Row.of_own hB.2.2.1).form
  have HZ : Hid (ins1 f x p = .ok { p with code := p.code ++ [({ x.ins with imm := K0 } : Ins)] }) := by show _ = _; unfold ins1 put1; rw [if_pos hk, hf]; simp only; rw [← hK0, hright]; rfl
  generalize ins1 f x p = Z at *
  obtain ⟨r1, r2⟩ := r
  simp only at hr0 hr1 hK0 HKT
  have HK0 := Lib.hid hK0
  clear hK0
  have HPL : Hid (p.code.length ≤ 1000000) := hpc
  clear hB hk htx hf
  go_enter Tryd.func55, Tryd.ntmps55
  go_wp2_with fail
  have hS : Box (w.alloc (.cells #[.int .i64 x.kind, .int .i64 (x.at_ : Int), .int .i64 x.num, .string (txt x.name), .int .i64 x.ins.op, .int .i64 x.ins.d, .int .i64 x.ins.a, .int .i64 x.ins.b, .int .i64 x.ins.imm, .int .i64 x.target.kind, .int .i64 x.target.num, .int .i64 (x.target.at_ : Int), .string (txt x.target.text)] 77)).drew w.heap.size (partL x) ∧ Bld (w.alloc (.cells #[.int .i64 x.kind, .int .i64 (x.at_ : Int), .int .i64 x.num, .string (txt x.name), .int .i64 x.ins.op, .int .i64 x.ins.d, .int .i64 x.ins.a, .int .i64 x.ins.b, .int .i64 x.ins.imm, .int .i64 x.target.kind, .int .i64 x.target.num, .int .i64 (x.target.at_ : Int), .string (txt x.target.text)] 77)).drew c m n f p vc vd := ⟨HXB.out.drew, HBL.out.drew⟩
  refine wp_region_lin [(0, true), (1, true), (2, true), (3, true), (4, true), (5, true), (6, true), (7, true), (8, true), (9, true), (10, true), (11, false), (12, false), (13, true)] (by kernel_rfl) (by kernel_rfl) rfl (by kernel_rfl) (fun y => Box y w.heap.size (partL x) ∧ Bld y c m n f p vc vd) ?_
  simp only [List.map_cons, List.map_nil, List.getElem?_toArray, List.getElem?_cons_succ, List.getElem?_cons_zero]
  iterate 11 (refine lin_take (v := ?_) hS (by rfl) ?_ ?_; rotate_left; (intro y hy; obtain ⟨h1, h2⟩ := hy; have e1 := h2.1.cell (k := 0) rfl; have e2 := h1.cell (k := 12) rfl; have e3 := HKT.out y h2.2.1; clear h1 h2; go_simp; try (with_reducible rfl)); (simp only [Act.put, List.setIfInBounds_toArray, List.set_cons_zero, List.set_cons_succ]))
  have hSa : Box ((w.alloc (.cells #[.int .i64 x.kind, .int .i64 (x.at_ : Int), .int .i64 x.num, .string (txt x.name), .int .i64 x.ins.op, .int .i64 x.ins.d, .int .i64 x.ins.a, .int .i64 x.ins.b, .int .i64 x.ins.imm, .int .i64 x.target.kind, .int .i64 x.target.num, .int .i64 (x.target.at_ : Int), .string (txt x.target.text)] 77)).drew.alloc (.cells #[.int .i64 0, .int .i64 0] 100)) w.heap.size (partL x) ∧ Bld ((w.alloc (.cells #[.int .i64 x.kind, .int .i64 (x.at_ : Int), .int .i64 x.num, .string (txt x.name), .int .i64 x.ins.op, .int .i64 x.ins.d, .int .i64 x.ins.a, .int .i64 x.ins.b, .int .i64 x.ins.imm, .int .i64 x.target.kind, .int .i64 x.target.num, .int .i64 (x.target.at_ : Int), .string (txt x.target.text)] 77)).drew.alloc (.cells #[.int .i64 0, .int .i64 0] 100)) c m n f p vc vd := ⟨hS.1.alloc _, hS.2.alloc _⟩
  refine lin_call hS (by rfl) (fun K hK => ?_)
  go_simp
  refine hK.out _ _ hSa (fun _ => ?_)
  clear hK K
  try (simp only [Act.put, List.setIfInBounds_toArray, List.set_cons_zero, List.set_cons_succ])
  refine lin_call hSa (by rfl) (fun K hK => ?_)
  go_simp
  have hSb : Box (((w.alloc (.cells #[.int .i64 x.kind, .int .i64 (x.at_ : Int), .int .i64 x.num, .string (txt x.name), .int .i64 x.ins.op, .int .i64 x.ins.d, .int .i64 x.ins.a, .int .i64 x.ins.b, .int .i64 x.ins.imm, .int .i64 x.target.kind, .int .i64 x.target.num, .int .i64 (x.target.at_ : Int), .string (txt x.target.text)] 77)).alloc (.cells #[.int .i64 r1, .int .i64 r2] 100)).drew) w.heap.size (partL x) ∧ Bld (((w.alloc (.cells #[.int .i64 x.kind, .int .i64 (x.at_ : Int), .int .i64 x.num, .string (txt x.name), .int .i64 x.ins.op, .int .i64 x.ins.d, .int .i64 x.ins.a, .int .i64 x.ins.b, .int .i64 x.ins.imm, .int .i64 x.target.kind, .int .i64 x.target.num, .int .i64 (x.target.at_ : Int), .string (txt x.target.text)] 77)).alloc (.cells #[.int .i64 r1, .int .i64 r2] 100)).drew) c m n f p vc vd := ⟨(HXB.out.alloc _).drew, (HBL.out.alloc _).drew⟩
  have hlb : (((w.alloc (.cells #[.int .i64 x.kind, .int .i64 (x.at_ : Int), .int .i64 x.num, .string (txt x.name), .int .i64 x.ins.op, .int .i64 x.ins.d, .int .i64 x.ins.a, .int .i64 x.ins.b, .int .i64 x.ins.imm, .int .i64 x.target.kind, .int .i64 x.target.num, .int .i64 (x.target.at_ : Int), .string (txt x.target.text)] 77)).alloc (.cells #[.int .i64 r1, .int .i64 r2] 100)).drew).cell? ⟨w.heap.size + 1, 1, none⟩ = some (.int .i64 r2) := by
    have := (Box.new (w.alloc (.cells #[.int .i64 x.kind, .int .i64 (x.at_ : Int), .int .i64 x.num, .string (txt x.name), .int .i64 x.ins.op, .int .i64 x.ins.d, .int .i64 x.ins.a, .int .i64 x.ins.b, .int .i64 x.ins.imm, .int .i64 x.target.kind, .int .i64 x.target.num, .int .i64 (x.target.at_ : Int), .string (txt x.target.text)] 77)) [.int .i64 r1, .int .i64 r2] 100).cell (k := 1) rfl
    rw [show (w.alloc (.cells #[.int .i64 x.kind, .int .i64 (x.at_ : Int), .int .i64 x.num, .string (txt x.name), .int .i64 x.ins.op, .int .i64 x.ins.d, .int .i64 x.ins.a, .int .i64 x.ins.b, .int .i64 x.ins.imm, .int .i64 x.target.kind, .int .i64 x.target.num, .int .i64 (x.target.at_ : Int), .string (txt x.target.text)] 77)).heap.size = w.heap.size + 1 by simp] at this
    exact this
  have hbw : Below c w (((w.alloc (.cells #[.int .i64 x.kind, .int .i64 (x.at_ : Int), .int .i64 x.num, .string (txt x.name), .int .i64 x.ins.op, .int .i64 x.ins.d, .int .i64 x.ins.a, .int .i64 x.ins.b, .int .i64 x.ins.imm, .int .i64 x.target.kind, .int .i64 x.target.num, .int .i64 (x.target.at_ : Int), .string (txt x.target.text)] 77)).alloc (.cells #[.int .i64 r1, .int .i64 r2] 100)).drew) := (HBW.out.alloc (Nat.le_of_lt HBL.out.lt) _).drew
  have hxl : w.heap.size + 1 < (((w.alloc (.cells #[.int .i64 x.kind, .int .i64 (x.at_ : Int), .int .i64 x.num, .string (txt x.name), .int .i64 x.ins.op, .int .i64 x.ins.d, .int .i64 x.ins.a, .int .i64 x.ins.b, .int .i64 x.ins.imm, .int .i64 x.target.kind, .int .i64 x.target.num, .int .i64 (x.target.at_ : Int), .string (txt x.target.text)] 77)).alloc (.cells #[.int .i64 r1, .int .i64 r2] 100)).drew).heap.size := by show _ < ((w.alloc (.cells #[.int .i64 x.kind, .int .i64 (x.at_ : Int), .int .i64 x.num, .string (txt x.name), .int .i64 x.ins.op, .int .i64 x.ins.d, .int .i64 x.ins.a, .int .i64 x.ins.b, .int .i64 x.ins.imm, .int .i64 x.target.kind, .int .i64 x.target.num, .int .i64 (x.target.at_ : Int), .string (txt x.target.text)] 77)).alloc _).heap.size; simp
  refine hK.out _ _ hSb (fun _ => ?_)
  clear hK K hS hSa
  try (simp only [Act.put, List.setIfInBounds_toArray, List.set_cons_zero, List.set_cons_succ])
  (refine lin_take (v := ?_) hSb (by rfl) ?_ ?_; rotate_left; (intro y hy; go_simp; try (with_reducible rfl)); (simp only [Act.put, List.setIfInBounds_toArray, List.set_cons_zero, List.set_cons_succ]))
  refine lin_done ?_
  clear HXB HBL HBW
  have hpl := HPC.out
  obtain ⟨HXB, HBL⟩ : Hid (Box (((w.alloc (.cells #[.int .i64 x.kind, .int .i64 (x.at_ : Int), .int .i64 x.num, .string (txt x.name), .int .i64 x.ins.op, .int .i64 x.ins.d, .int .i64 x.ins.a, .int .i64 x.ins.b, .int .i64 x.ins.imm, .int .i64 x.target.kind, .int .i64 x.target.num, .int .i64 (x.target.at_ : Int), .string (txt x.target.text)] 77)).alloc (.cells #[.int .i64 r1, .int .i64 r2] 100)).drew) w.heap.size (partL x)) ∧ Hid (Bld (((w.alloc (.cells #[.int .i64 x.kind, .int .i64 (x.at_ : Int), .int .i64 x.num, .string (txt x.name), .int .i64 x.ins.op, .int .i64 x.ins.d, .int .i64 x.ins.a, .int .i64 x.ins.b, .int .i64 x.ins.imm, .int .i64 x.target.kind, .int .i64 x.target.num, .int .i64 (x.target.at_ : Int), .string (txt x.target.text)] 77)).alloc (.cells #[.int .i64 r1, .int .i64 r2] 100)).drew) c m n f p vc vd) := ⟨hSb.1, hSb.2⟩
  have HBW := Lib.hid hbw
  clear hSb hbw
  generalize (((w.alloc (.cells #[.int .i64 x.kind, .int .i64 (x.at_ : Int), .int .i64 x.num, .string (txt x.name), .int .i64 x.ins.op, .int .i64 x.ins.d, .int .i64 x.ins.a, .int .i64 x.ins.b, .int .i64 x.ins.imm, .int .i64 x.target.kind, .int .i64 x.target.num, .int .i64 (x.target.at_ : Int), .string (txt x.target.text)] 77)).alloc (.cells #[.int .i64 r1, .int .i64 r2] 100)).drew) = X at *
  subst hvc
  have z1 := HBL.out.1.cell (k := 1) rfl
  have hcX := HBL.out.lt
  go_wp2_with fail
  have hS : X.drew.cell? ⟨w.heap.size + 1, 1, none⟩ = some (.int .i64 r2) ∧ X.drew.cell? ⟨c, 1, none⟩ = some (.slice A0 p.code.length k0) := ⟨hlb, z1⟩
  clear hlb z1
  refine wp_region_lin [(0, true), (1, true), (2, true), (3, true), (4, true), (5, true), (6, true), (7, true), (8, true), (9, true), (10, true), (11, false)] (by kernel_rfl) (by kernel_rfl) rfl (by kernel_rfl) (fun y => y.cell? ⟨w.heap.size + 1, 1, none⟩ = some (.int .i64 r2) ∧ y.cell? ⟨c, 1, none⟩ = some (.slice A0 p.code.length k0)) ?_
  simp only [List.map_cons, List.map_nil, List.getElem?_toArray, List.getElem?_cons_succ, List.getElem?_cons_zero]
  iterate 11 (refine lin_take (v := ?_) hS (by rfl) ?_ ?_; rotate_left; (intro y hy; obtain ⟨e1, e2⟩ := hy; go_simp; try (with_reducible rfl)); (simp only [Act.put, List.setIfInBounds_toArray, List.set_cons_zero, List.set_cons_succ]))
  have hw : IntKind.i64.wrap (r2 - (p.code.length : Int)) = K0 := by have := HK0.out; rw [this]; exact IntWalk.i64_in _ ⟨by omega, by omega⟩
  rw [hw]
  have y8 : X.drew.cell? ⟨w.heap.size, 8, none⟩ = some (.int .i64 x.ins.imm) := HXB.out.cell (k := 8) rfl
  have f8 : X.drew.frozen? ⟨w.heap.size, 8, none⟩ = false := HXB.out.frozen 8
  have hSc : (X.drew.setCell ⟨w.heap.size, 8, none⟩ (.int .i64 K0)).cell? ⟨w.heap.size + 1, 1, none⟩ = some (.int .i64 r2) ∧ (X.drew.setCell ⟨w.heap.size, 8, none⟩ (.int .i64 K0)).cell? ⟨c, 1, none⟩ = some (.slice A0 p.code.length k0) :=
    ⟨(World.cell?_setCell_other _ _ _ _ (fun e => by have := congrArg Addr.block e; simp at this)).trans hS.1, (World.cell?_setCell_other _ _ _ _ (fun e => hcx (congrArg Addr.block e).symm)).trans hS.2⟩
  refine lin_call hS (by rfl) (fun K hK => ?_)
  go_simp
  refine hK.out _ _ hSc (fun _ => ?_)
  clear hK K hS hSc y8 f8
  try (simp only [Act.put, List.setIfInBounds_toArray, List.set_cons_zero, List.set_cons_succ])
  refine lin_done ?_
  obtain ⟨HXC, HBC, HWC⟩ : Hid (Box ((X.setCell ⟨w.heap.size, 8, none⟩ (.int .i64 K0)).drew) w.heap.size (partL { x with ins := { x.ins with imm := K0 } })) ∧ Hid (Bld ((X.setCell ⟨w.heap.size, 8, none⟩ (.int .i64 K0)).drew) c m n f p (.slice A0 p.code.length k0) vd) ∧ Hid (Below c w ((X.setCell ⟨w.heap.size, 8, none⟩ (.int .i64 K0)).drew)) :=
    ⟨(HXB.out.setCell 8 _).drew, (HBL.out.set hlt HN1.out HN2.out 8 _).drew, (HBW.out.setCell (p := ⟨w.heap.size, 8, none⟩) (Nat.le_of_lt hlt) _).drew⟩
  clear HXB HBL HBW
  have HXB := HXC
  have HBL := HBC
  have HBW := HWC
  clear HXC HBC HWC hw
  generalize (X.setCell ⟨w.heap.size, 8, none⟩ (.int .i64 K0)).drew = Y at *
  have y4 : Y.cell? ⟨w.heap.size, 4, none⟩ = some (.int .i64 x.ins.op) := HXB.out.cell (k := 4) rfl
  have y5 : Y.cell? ⟨w.heap.size, 5, none⟩ = some (.int .i64 x.ins.d) := HXB.out.cell (k := 5) rfl
  have y6 : Y.cell? ⟨w.heap.size, 6, none⟩ = some (.int .i64 x.ins.a) := HXB.out.cell (k := 6) rfl
  have y7 : Y.cell? ⟨w.heap.size, 7, none⟩ = some (.int .i64 x.ins.b) := HXB.out.cell (k := 7) rfl
  have y8 : Y.cell? ⟨w.heap.size, 8, none⟩ = some (.int .i64 K0) := HXB.out.cell (k := 8) rfl
  have HHR := Lib.hid hright
  clear hright
  go_wp2_with fail
  have hright := HHR.out
  clear y4 y5 y6 y7 y8
  refine (right_any ({ x.ins with imm := K0 } : Ins) _).mono ?_; rintro en w2 ⟨rfl, hb2⟩
  rw [hright]
  have HB2 := Lib.hid (HBW.out.trans (hb2.mono (Nat.le_of_lt HBL.out.lt)))
  have HX2 : Hid (Box w2 w.heap.size (partL { x with ins := { x.ins with imm := K0 } })) := HXB.out.below hb2 HXB.out.lt
  have HL2 := Lib.hid (HBL.out.go hb2)
  have y1 := HX2.out.cell (k := 1) rfl
  try simp only at y1
  clear hb2 hright
  clear y1
  have hl2 := HL2.out.lt
  go_wp2_with fail
  have HX3 : Hid (Box w2.drew w.heap.size (partL { x with ins := { x.ins with imm := K0 } })) := HX2.out.drew
  have HL3 : Hid (Bld w2.drew c m n f p (Value.slice A0 p.code.length k0) vd) := HL2.out.drew
  clear hl2
  refine wp_region_tree (fun a x => _) (LinT.of [(0, true), (1, true), (2, true), (3, true), (4, true), (6, true), (7, true)] (.two 5 8 (LinT.of [(8, false), (9, false), (10, true), (11, true), (12, true), (13, false)] .nil) (LinT.of [(5, false), (9, false), (10, true), (11, true), (12, true), (13, false)] .nil))) (by kernel_rfl) (by kernel_rfl) rfl (by kernel_rfl) (fun y => Box y w.heap.size (partL { x with ins := { x.ins with imm := K0 } })) (fun _ _ h => h) ?_
  simp only [LinT.of, LinT.look, List.getElem?_toArray, List.getElem?_cons_succ, List.getElem?_cons_zero]
  have hS0 : Box w2.drew w.heap.size (partL { x with ins := { x.ins with imm := K0 } }) := HX3.out
  iterate 6 (refine tree_take (v := ?_) hS0 (by rfl) ?_ ?_; rotate_left; (intro x hx; go_simp; try (with_reducible rfl)); (simp only [Act.put, List.setIfInBounds_toArray, List.set_cons_zero, List.set_cons_succ]))
  refine tree_get_box hS0 (by rfl) 48 (.tmp 51) rfl w.heap.size 4 rfl (partL { x with ins := { x.ins with imm := K0 } }) [.int .i64 x.ins.op, .int .i64 x.ins.d, .int .i64 x.ins.a, .int .i64 x.ins.b, .int .i64 K0] (fun y hy => hy) (by intro j v hj; rcases j with _ | _ | _ | _ | _ | j <;> first | exact hj | (simp at hj)) _ Tryd.underlying48 rfl 5 size_ins8 rfl ?_
  try (simp only [Act.put, List.setIfInBounds_toArray, List.set_cons_zero, List.set_cons_succ])
  obtain ⟨i0, hi, hz0, hz1, hz2⟩ := info_parts info_ins8
  have HI := Lib.hid hi
  have HZ0 := Lib.hid hz0
  have HZ1 := Lib.hid hz1
  have HZ2 := Lib.hid hz2
  clear hi hz0 hz1 hz2
  have c1 : w2.cell? ⟨c, 1, none⟩ = some (Value.slice A0 p.code.length k0) := HL3.out.1.cell (k := 1) rfl
  have hcl : c < w2.heap.size := HL3.out.lt
  have hpcc := HPC.out
  have HEND : Hid (∀ (o : Obj) (y3 : World) (v3 : Value), (w2.drew.alloc o).grownBy y3 (Value.slice A0 p.code.length k0).ownBlock → y3.ownsRow (c + 1) 48 5 v3 (p.code.length + 1) (codeCells p.code ++ [.int .i64 x.ins.op, .int .i64 x.ins.d, .int .i64 x.ins.a, .int .i64 x.ins.b, .int .i64 K0]) →
      (Bld (y3.setCell ⟨c, 1, none⟩ v3) c m n f { p with code := p.code ++ [({ x.ins with imm := K0 } : Ins)] } v3 vd ∧ Below c w (y3.setCell ⟨c, 1, none⟩ v3)) ∧ Box y3 w.heap.size (partL { x with ins := { x.ins with imm := K0 } }) ∧ y3.cell? ⟨c, 1, none⟩ = some (Value.slice A0 p.code.length k0) ∧ y3.frozen? ⟨c, 1, none⟩ = false ∧ c < y3.heap.size ∧ ∃ A3 k3, v3 = .slice A3 (p.code.length + 1) k3) := by
    intro o y3 v3 hg ho
    have hne : some c ≠ (Value.slice A0 p.code.length k0).ownBlock := fun e => by have := (HL3.out.2.2.1.lt c e.symm).1; omega
    obtain ⟨q1, q2⟩ := HL3.out.code (i := ({ x.ins with imm := K0 } : Ins)) hg ho rfl
    obtain ⟨A3, k3, h3⟩ := (Row.of_own ho).form
    have hb2 := HL3.out.1.alloc o
    refine ⟨⟨q1, HB2.out.trans ((Below.refl c w2).drew.trans q2)⟩, (HX3.out.alloc o).grown hg (fun e => HN1.out e.symm), hg.cell (hb2.cell (k := 1) rfl) hne, ?_, ?_, A3, k3, h3⟩
    · rw [World.frozen?_of_block (w := w2.drew.alloc o) (hg.block c hb2.lt hne)]; exact hb2.frozen 1
    · have := hg.size; have := hb2.lt; omega
  refine tree_two hS0 (by rfl) (by rfl) (fun K hK => ?_) (fun K hK => ?_)
  · go_simp
    refine hK.out _ _ hS0 (fun _ => ?_)
    clear hK K
    try (simp only [Act.put, List.setIfInBounds_toArray, List.set_cons_zero, List.set_cons_succ])
    refine tree_call hS0 (by rfl) (fun K hK => ?_)
    go_simp
    have hSa : Box (w2.drew.alloc (.cells #[.int .i64 x.ins.op, .int .i64 x.ins.d, .int .i64 x.ins.a, .int .i64 x.ins.b, .int .i64 K0] 48)) w.heap.size (partL { x with ins := { x.ins with imm := K0 } }) := hS0.alloc _
    refine hK.out _ _ hSa (fun _ => ?_)
    clear hK K
    try (simp only [Act.put, List.setIfInBounds_toArray, List.set_cons_zero, List.set_cons_succ])
    refine tree_call hSa (by rfl) (fun K hK => ?_)
    refine wp_append_row _ (.tmp 50) (.tmp 53) 36 rfl (c + 1) 48 i0 _ 5 40 Tryd.underlying36 HI.out HZ0.out HZ1.out HZ2.out rfl (by omega) _ p.code.length (codeCells p.code) rfl (HL3.out.2.2.1.alloc _) _ (.slice (some ⟨w2.heap.size, 0, none⟩) 1 1) 1 [.int .i64 x.ins.op, .int .i64 x.ins.d, .int .i64 x.ins.a, .int .i64 x.ins.b, .int .i64 K0] rfl (row_list w2.drew [.int .i64 x.ins.op, .int .i64 x.ins.d, .int .i64 x.ins.a, .int .i64 x.ins.b, .int .i64 K0] _) (by simp [Value.oneCell']) (by unfold maxLen; omega) (by omega) (by simp; omega) ?_
    intro v3 y3 hO3 hg3
    obtain ⟨PA, hS3, q3, q4, hy3, A3, k3, rfl⟩ := HEND.out _ _ _ hg3 hO3
    have HPA := Lib.hid PA
    clear hO3 hg3 PA
    refine hK.out _ _ hS3 (fun _ => ?_)
    clear hK K
    try (simp only [Act.put, List.setIfInBounds_toArray, List.set_cons_zero, List.set_cons_succ])
    iterate 3 (refine tree_take (v := ?_) hS3 (by rfl) ?_ ?_; rotate_left; (intro x hx; go_simp; try (with_reducible rfl)); (simp only [Act.put, List.setIfInBounds_toArray, List.set_cons_zero, List.set_cons_succ]))
    refine tree_call hS3 (by rfl) (fun K hK => ?_)
    go_simp
    refine hK.out _ _ (hS3.setCell_other hcx.symm 1 _) (fun _ => ?_)
    clear hK K
    refine tree_done ?_
    try (simp only [Act.put, List.setIfInBounds_toArray, List.set_cons_zero, List.set_cons_succ])
    go_wp2_with fail
    exact bodyPost_ret (v := .tuple #[.int .i64 0, .int .i64 0]) (by simp [results, Tryd.results55, go_sem]) rfl (LayOut.ok HZ.out rfl HPA.out.1 HPA.out.2)
  · go_simp
    have hSa : Box (w2.drew.alloc (.cells #[.int .i64 x.ins.op, .int .i64 x.ins.d, .int .i64 x.ins.a, .int .i64 x.ins.b, .int .i64 K0] 48)) w.heap.size (partL { x with ins := { x.ins with imm := K0 } }) := hS0.alloc _
    have c1a : (w2.drew.alloc (.cells #[.int .i64 x.ins.op, .int .i64 x.ins.d, .int .i64 x.ins.a, .int .i64 x.ins.b, .int .i64 K0] 48)).cell? ⟨c, 1, none⟩ = some (Value.slice A0 p.code.length k0) := (World.cell?_alloc_lt _ _ _ hcl).trans c1
    have c1b : (w2.alloc (.cells #[.int .i64 x.ins.op, .int .i64 x.ins.d, .int .i64 x.ins.a, .int .i64 x.ins.b, .int .i64 K0] 48)).cell? ⟨c, 1, none⟩ = some (Value.slice A0 p.code.length k0) := c1a
    refine hK.out _ _ hSa (fun _ => ?_)
    clear hK K
    try (simp only [Act.put, List.setIfInBounds_toArray, List.set_cons_zero, List.set_cons_succ])
    refine tree_call hSa (by rfl) (fun K hK => ?_)
    go_simp
    refine hK.out _ _ hSa (fun _ => ?_)
    clear hK K
    try (simp only [Act.put, List.setIfInBounds_toArray, List.set_cons_zero, List.set_cons_succ])
    refine tree_call hSa (by rfl) (fun K hK => ?_)
    refine wp_append_row _ (.tmp 50) (.tmp 53) 36 rfl (c + 1) 48 i0 _ 5 40 Tryd.underlying36 HI.out HZ0.out HZ1.out HZ2.out rfl (by omega) _ p.code.length (codeCells p.code) rfl (HL3.out.2.2.1.alloc _) _ (.slice (some ⟨w2.heap.size, 0, none⟩) 1 1) 1 [.int .i64 x.ins.op, .int .i64 x.ins.d, .int .i64 x.ins.a, .int .i64 x.ins.b, .int .i64 K0] rfl (row_list w2.drew [.int .i64 x.ins.op, .int .i64 x.ins.d, .int .i64 x.ins.a, .int .i64 x.ins.b, .int .i64 K0] _) (by simp [Value.oneCell']) (by unfold maxLen; omega) (by omega) (by simp; omega) ?_
    intro v3 y3 hO3 hg3
    obtain ⟨PA, hS3, q3, q4, hy3, A3, k3, rfl⟩ := HEND.out _ _ _ hg3 hO3
    have HPA := Lib.hid PA
    clear hO3 hg3 PA
    refine hK.out _ _ hS3 (fun _ => ?_)
    clear hK K
    try (simp only [Act.put, List.setIfInBounds_toArray, List.set_cons_zero, List.set_cons_succ])
    iterate 3 (refine tree_take (v := ?_) hS3 (by rfl) ?_ ?_; rotate_left; (intro x hx; go_simp; try (with_reducible rfl)); (simp only [Act.put, List.setIfInBounds_toArray, List.set_cons_zero, List.set_cons_succ]))
    refine tree_call hS3 (by rfl) (fun K hK => ?_)
    go_simp
    refine hK.out _ _ (hS3.setCell_other hcx.symm 1 _) (fun _ => ?_)
    clear hK K
    refine tree_done ?_
    try (simp only [Act.put, List.setIfInBounds_toArray, List.set_cons_zero, List.set_cons_succ])
    go_wp2_with fail
    exact bodyPost_ret (v := .tuple #[.int .i64 0, .int .i64 0]) (by simp [results, Tryd.results55, go_sem]) rfl (LayOut.ok HZ.out rfl HPA.out.1 HPA.out.2)
end Go.Proofs.YtimdojeagkbgbaaDoor.Words

/- Contract of package asm's builder.lay. -/
import Derived.Test.YtimdojeagkbgbaaDoorAsmBins
namespace Go.Proofs.YtimdojeagkbgbaaDoor.Words
set_option maxRecDepth 100000
open Go.RowKit Go.Shelf Go.Lib
set_option linter.unusedVariables false
set_option linter.unusedSimpArgs false

theorem bins_any (x : PartZ) (p : Prog) (w : World) (c m n : Nat) (f : List UInt8 → Option (Int × Int)) (vc vd : Value) (hB : Bld w c m n f p vc vd) (hpc : p.code.length ≤ 1000000) (htx : x.target.text.length ≤ 1000000) (hf : ∀ r, f x.target.text = some r → 0 ≤ r.2 ∧ r.2 ≤ 1000000) :
    Calls Tryd.prog 55 #[.pointer (some ⟨c, 0, none⟩), .agg #[.int .i64 x.kind, .int .i64 (x.at_ : Int), .int .i64 x.num, .string (txt x.name), .int .i64 x.ins.op, .int .i64 x.ins.d, .int .i64 x.ins.a, .int .i64 x.ins.b, .int .i64 x.ins.imm, .int .i64 x.target.kind, .int .i64 x.target.num, .int .i64 (x.target.at_ : Int), .string (txt x.target.text)]] w (LayOut w c m n f (ins1 f x p)) := by
  by_cases hk : x.target.kind = 1
  · cases hr : f x.target.text with
    | none => exact bins_none x p w c m n f vc vd hB hpc hk htx hr
    | some r =>
      obtain ⟨h0, h1⟩ := hf r hr
      cases hright : rightB { x.ins with imm := r.2 - p.code.length }
      · exact bins_some_no x p w c m n f vc vd hB hpc r _ hk htx hr h0 h1 rfl hright
      · exact bins_some_yes x p w c m n f vc vd hB hpc r _ hk htx hr h0 h1 rfl hright
  · cases hright : rightB x.ins
    · exact bins_plain_no x p w c m n f vc vd hB hpc hk hright
    · exact bins_plain_yes x p w c m n f vc vd hB hpc hk hright
theorem field_lab (a p : Int) (y : World) : (Instr.field 100 (.agg #[.int .i64 a, .int .i64 p]) 0).run Tryd.prog y = .ok (.int .i64 a) y := by kernel_rfl

set_option maxHeartbeats 4000000 in
theorem lay_label_dup (x : PartZ) (p : Prog) (w : World) (c m n : Nat) (f : List UInt8 → Option (Int × Int)) (vc vd : Value) (hB : Bld w c m n f p vc vd) (hk : x.kind = 1) (hnm : x.name.length ≤ 1000000) (hd : ((f x.name).getD (0, 0)).1 ≠ x.at_) :
    Calls Tryd.prog 37 #[.pointer (some ⟨c, 0, none⟩), .agg #[.int .i64 x.kind, .int .i64 (x.at_ : Int), .int .i64 x.num, .string (txt x.name), .int .i64 x.ins.op, .int .i64 x.ins.d, .int .i64 x.ins.a, .int .i64 x.ins.b, .int .i64 x.ins.imm, .int .i64 x.target.kind, .int .i64 x.target.num, .int .i64 (x.target.at_ : Int), .string (txt x.target.text)]] w (LayOut w c m n f (lay1 f x p)) := by
  have hlt := hB.lt
  have HXB : Hid (Box (w.alloc (.cells #[.int .i64 x.kind, .int .i64 (x.at_ : Int), .int .i64 x.num, .string (txt x.name), .int .i64 x.ins.op, .int .i64 x.ins.d, .int .i64 x.ins.a, .int .i64 x.ins.b, .int .i64 x.ins.imm, .int .i64 x.target.kind, .int .i64 x.target.num, .int .i64 (x.target.at_ : Int), .string (txt x.target.text)] 77)) w.heap.size (partL x)) := Box.new w (partL x) _
  have HBL := Lib.hid (hB.alloc (.cells #[.int .i64 x.kind, .int .i64 (x.at_ : Int), .int .i64 x.num, .string (txt x.name), .int .i64 x.ins.op, .int .i64 x.ins.d, .int .i64 x.ins.a, .int .i64 x.ins.b, .int .i64 x.ins.imm, .int .i64 x.target.kind, .int .i64 x.target.num, .int .i64 (x.target.at_ : Int), .string (txt x.target.text)] 77))
  have HBW : Hid (Below c w (w.alloc (.cells #[.int .i64 x.kind, .int .i64 (x.at_ : Int), .int .i64 x.num, .string (txt x.name), .int .i64 x.ins.op, .int .i64 x.ins.d, .int .i64 x.ins.a, .int .i64 x.ins.b, .int .i64 x.ins.imm, .int .i64 x.target.kind, .int .i64 x.target.num, .int .i64 (x.target.at_ : Int), .string (txt x.target.text)] 77))) := (Below.refl c w).alloc (Nat.le_of_lt hlt) _
  have HN1 : Hid (vc.ownBlock ≠ some w.heap.size) := fun e => by have := (hB.2.2.1.lt _ e).2; omega
  have HN2 : Hid (vd.ownBlock ≠ some w.heap.size) := fun e => by have := (hB.2.2.2.1.lt _ e).2; omega
  have hcx : c ≠ w.heap.size := by omega
  have HB0 := Lib.hid hB
  have HZ : Hid (lay1 f x p = .bad x.at_ 6) := by show _ = _; unfold lay1; rw [if_pos hk, if_pos hd]
  have HKT : Hid (∀ y, LabM y m n f → (Instr.lookup 72 (.map (some m)) (.string (txt x.name)) false).run Tryd.prog y = .ok (.agg #[.int .i64 ((f x.name).getD (0, 0)).1, .int .i64 ((f x.name).getD (0, 0)).2]) y) := fun y hy => hy.look hnm
  have hk2 : (x.kind == 1) = true := by simpa using hk
  have hne : (((f x.name).getD (0, 0)).1 != (x.at_ : Int)) = true := by simpa using hd
  generalize ((f x.name).getD (0, 0)).1 = LA at *
  generalize ((f x.name).getD (0, 0)).2 = LP at *
  have HFD := Lib.hid (fun y => field_lab LA LP y)
  generalize lay1 f x p = Z at *
  clear hB
  clear hk hnm hd
  go_enter Tryd.func37, Tryd.ntmps37
  go_wp2_with fail
  have hS : Box (w.alloc (.cells #[.int .i64 x.kind, .int .i64 (x.at_ : Int), .int .i64 x.num, .string (txt x.name), .int .i64 x.ins.op, .int .i64 x.ins.d, .int .i64 x.ins.a, .int .i64 x.ins.b, .int .i64 x.ins.imm, .int .i64 x.target.kind, .int .i64 x.target.num, .int .i64 (x.target.at_ : Int), .string (txt x.target.text)] 77)).drew w.heap.size (partL x) ∧ Bld (w.alloc (.cells #[.int .i64 x.kind, .int .i64 (x.at_ : Int), .int .i64 x.num, .string (txt x.name), .int .i64 x.ins.op, .int .i64 x.ins.d, .int .i64 x.ins.a, .int .i64 x.ins.b, .int .i64 x.ins.imm, .int .i64 x.target.kind, .int .i64 x.target.num, .int .i64 (x.target.at_ : Int), .string (txt x.target.text)] 77)).drew c m n f p vc vd := ⟨HXB.out.drew, HBL.out.drew⟩
  refine wp_region_lin [(0, true), (1, true), (2, true), (3, true), (4, true), (5, true), (6, true), (7, true), (8, true), (9, true), (10, true)] (by kernel_rfl) (by kernel_rfl) rfl (by kernel_rfl) (fun y => Box y w.heap.size (partL x) ∧ Bld y c m n f p vc vd) ?_
  simp only [List.map_cons, List.map_nil, List.getElem?_toArray, List.getElem?_cons_succ, List.getElem?_cons_zero]
  iterate 11 (refine lin_take (v := ?_) hS (by rfl) ?_ ?_; rotate_left; (intro y hy; obtain ⟨h1, h2⟩ := hy; have e1 := h2.1.cell (k := 0) rfl; have e2 := h1.cell (k := 3) rfl; have e3 := h1.cell (k := 1) rfl; have e4 := HKT.out y h2.2.1; have e5 := HFD.out y; clear h1 h2; go_simp; try (with_reducible rfl)); (simp only [Act.put, List.setIfInBounds_toArray, List.set_cons_zero, List.set_cons_succ]))
  refine lin_done ?_
  have y1 : (w.alloc (.cells #[.int .i64 x.kind, .int .i64 (x.at_ : Int), .int .i64 x.num, .string (txt x.name), .int .i64 x.ins.op, .int .i64 x.ins.d, .int .i64 x.ins.a, .int .i64 x.ins.b, .int .i64 x.ins.imm, .int .i64 x.target.kind, .int .i64 x.target.num, .int .i64 (x.target.at_ : Int), .string (txt x.target.text)] 77)).drew.cell? ⟨w.heap.size, 1, none⟩ = some (.int .i64 (x.at_ : Int)) := HXB.out.cell (k := 1) rfl
  have HWD := Lib.hid HBW.out.drew
  clear hS
  go_wp2_with fail
  exact bodyPost_ret (v := .tuple #[.int .i64 (x.at_ : Int), .int .i64 6]) (by simp [results, Tryd.results37, go_sem]) rfl (LayOut.bad HZ.out rfl HWD.out)

set_option maxHeartbeats 4000000 in
theorem lay_label_new (x : PartZ) (p : Prog) (w : World) (c m n : Nat) (f : List UInt8 → Option (Int × Int)) (vc vd : Value) (hB : Bld w c m n f p vc vd) (hk : x.kind = 1) (hnm : x.name.length ≤ 1000000) (hd : ¬ ((f x.name).getD (0, 0)).1 ≠ x.at_) :
    Calls Tryd.prog 37 #[.pointer (some ⟨c, 0, none⟩), .agg #[.int .i64 x.kind, .int .i64 (x.at_ : Int), .int .i64 x.num, .string (txt x.name), .int .i64 x.ins.op, .int .i64 x.ins.d, .int .i64 x.ins.a, .int .i64 x.ins.b, .int .i64 x.ins.imm, .int .i64 x.target.kind, .int .i64 x.target.num, .int .i64 (x.target.at_ : Int), .string (txt x.target.text)]] w (LayOut w c m n f (lay1 f x p)) := by
  have hlt := hB.lt
  have HXB : Hid (Box (w.alloc (.cells #[.int .i64 x.kind, .int .i64 (x.at_ : Int), .int .i64 x.num, .string (txt x.name), .int .i64 x.ins.op, .int .i64 x.ins.d, .int .i64 x.ins.a, .int .i64 x.ins.b, .int .i64 x.ins.imm, .int .i64 x.target.kind, .int .i64 x.target.num, .int .i64 (x.target.at_ : Int), .string (txt x.target.text)] 77)) w.heap.size (partL x)) := Box.new w (partL x) _
  have HBL := Lib.hid (hB.alloc (.cells #[.int .i64 x.kind, .int .i64 (x.at_ : Int), .int .i64 x.num, .string (txt x.name), .int .i64 x.ins.op, .int .i64 x.ins.d, .int .i64 x.ins.a, .int .i64 x.ins.b, .int .i64 x.ins.imm, .int .i64 x.target.kind, .int .i64 x.target.num, .int .i64 (x.target.at_ : Int), .string (txt x.target.text)] 77))
  have HBW : Hid (Below c w (w.alloc (.cells #[.int .i64 x.kind, .int .i64 (x.at_ : Int), .int .i64 x.num, .string (txt x.name), .int .i64 x.ins.op, .int .i64 x.ins.d, .int .i64 x.ins.a, .int .i64 x.ins.b, .int .i64 x.ins.imm, .int .i64 x.target.kind, .int .i64 x.target.num, .int .i64 (x.target.at_ : Int), .string (txt x.target.text)] 77))) := (Below.refl c w).alloc (Nat.le_of_lt hlt) _
  have HN1 : Hid (vc.ownBlock ≠ some w.heap.size) := fun e => by have := (hB.2.2.1.lt _ e).2; omega
  have HN2 : Hid (vd.ownBlock ≠ some w.heap.size) := fun e => by have := (hB.2.2.2.1.lt _ e).2; omega
  have hcx : c ≠ w.heap.size := by omega
  have HB0 := Lib.hid hB
  have HZ : Hid (lay1 f x p = .ok p) := by show _ = _; unfold lay1; rw [if_pos hk, if_neg hd]
  have HKT : Hid (∀ y, LabM y m n f → (Instr.lookup 72 (.map (some m)) (.string (txt x.name)) false).run Tryd.prog y = .ok (.agg #[.int .i64 ((f x.name).getD (0, 0)).1, .int .i64 ((f x.name).getD (0, 0)).2]) y) := fun y hy => hy.look hnm
  have hk2 : (x.kind == 1) = true := by simpa using hk
  have hne : (((f x.name).getD (0, 0)).1 != (x.at_ : Int)) = false := by simpa using hd
  generalize ((f x.name).getD (0, 0)).1 = LA at *
  generalize ((f x.name).getD (0, 0)).2 = LP at *
  have HFD := Lib.hid (fun y => field_lab LA LP y)
  generalize lay1 f x p = Z at *
  clear hB
  clear hk hnm hd
  go_enter Tryd.func37, Tryd.ntmps37
  go_wp2_with fail
  have hS : Box (w.alloc (.cells #[.int .i64 x.kind, .int .i64 (x.at_ : Int), .int .i64 x.num, .string (txt x.name), .int .i64 x.ins.op, .int .i64 x.ins.d, .int .i64 x.ins.a, .int .i64 x.ins.b, .int .i64 x.ins.imm, .int .i64 x.target.kind, .int .i64 x.target.num, .int .i64 (x.target.at_ : Int), .string (txt x.target.text)] 77)).drew w.heap.size (partL x) ∧ Bld (w.alloc (.cells #[.int .i64 x.kind, .int .i64 (x.at_ : Int), .int .i64 x.num, .string (txt x.name), .int .i64 x.ins.op, .int .i64 x.ins.d, .int .i64 x.ins.a, .int .i64 x.ins.b, .int .i64 x.ins.imm, .int .i64 x.target.kind, .int .i64 x.target.num, .int .i64 (x.target.at_ : Int), .string (txt x.target.text)] 77)).drew c m n f p vc vd := ⟨HXB.out.drew, HBL.out.drew⟩
  refine wp_region_lin [(0, true), (1, true), (2, true), (3, true), (4, true), (5, true), (6, true), (7, true), (8, true), (9, true), (10, true)] (by kernel_rfl) (by kernel_rfl) rfl (by kernel_rfl) (fun y => Box y w.heap.size (partL x) ∧ Bld y c m n f p vc vd) ?_
  simp only [List.map_cons, List.map_nil, List.getElem?_toArray, List.getElem?_cons_succ, List.getElem?_cons_zero]
  iterate 11 (refine lin_take (v := ?_) hS (by rfl) ?_ ?_; rotate_left; (intro y hy; obtain ⟨h1, h2⟩ := hy; have e1 := h2.1.cell (k := 0) rfl; have e2 := h1.cell (k := 3) rfl; have e3 := h1.cell (k := 1) rfl; have e4 := HKT.out y h2.2.1; have e5 := HFD.out y; clear h1 h2; go_simp; try (with_reducible rfl)); (simp only [Act.put, List.setIfInBounds_toArray, List.set_cons_zero, List.set_cons_succ]))
  refine lin_done ?_
  have y1 : (w.alloc (.cells #[.int .i64 x.kind, .int .i64 (x.at_ : Int), .int .i64 x.num, .string (txt x.name), .int .i64 x.ins.op, .int .i64 x.ins.d, .int .i64 x.ins.a, .int .i64 x.ins.b, .int .i64 x.ins.imm, .int .i64 x.target.kind, .int .i64 x.target.num, .int .i64 (x.target.at_ : Int), .string (txt x.target.text)] 77)).drew.cell? ⟨w.heap.size, 1, none⟩ = some (.int .i64 (x.at_ : Int)) := HXB.out.cell (k := 1) rfl
  have HWD := Lib.hid HBW.out.drew
  clear hS
  go_wp2_with fail
  exact bodyPost_ret (v := .tuple #[.int .i64 0, .int .i64 0]) (by simp [results, Tryd.results37, go_sem]) rfl (LayOut.ok HZ.out rfl HBL.out.drew HWD.out)

set_option maxHeartbeats 4000000 in
theorem lay_size (x : PartZ) (p : Prog) (w : World) (c m n : Nat) (f : List UInt8 → Option (Int × Int)) (vc vd : Value) (hB : Bld w c m n f p vc vd) (hk : x.kind = 3) :
    Calls Tryd.prog 37 #[.pointer (some ⟨c, 0, none⟩), .agg #[.int .i64 x.kind, .int .i64 (x.at_ : Int), .int .i64 x.num, .string (txt x.name), .int .i64 x.ins.op, .int .i64 x.ins.d, .int .i64 x.ins.a, .int .i64 x.ins.b, .int .i64 x.ins.imm, .int .i64 x.target.kind, .int .i64 x.target.num, .int .i64 (x.target.at_ : Int), .string (txt x.target.text)]] w (LayOut w c m n f (lay1 f x p)) := by
  have hlt := hB.lt
  have HXB : Hid (Box (w.alloc (.cells #[.int .i64 x.kind, .int .i64 (x.at_ : Int), .int .i64 x.num, .string (txt x.name), .int .i64 x.ins.op, .int .i64 x.ins.d, .int .i64 x.ins.a, .int .i64 x.ins.b, .int .i64 x.ins.imm, .int .i64 x.target.kind, .int .i64 x.target.num, .int .i64 (x.target.at_ : Int), .string (txt x.target.text)] 77)) w.heap.size (partL x)) := Box.new w (partL x) _
  have HBL := Lib.hid (hB.alloc (.cells #[.int .i64 x.kind, .int .i64 (x.at_ : Int), .int .i64 x.num, .string (txt x.name), .int .i64 x.ins.op, .int .i64 x.ins.d, .int .i64 x.ins.a, .int .i64 x.ins.b, .int .i64 x.ins.imm, .int .i64 x.target.kind, .int .i64 x.target.num, .int .i64 (x.target.at_ : Int), .string (txt x.target.text)] 77))
  have HBW : Hid (Below c w (w.alloc (.cells #[.int .i64 x.kind, .int .i64 (x.at_ : Int), .int .i64 x.num, .string (txt x.name), .int .i64 x.ins.op, .int .i64 x.ins.d, .int .i64 x.ins.a, .int .i64 x.ins.b, .int .i64 x.ins.imm, .int .i64 x.target.kind, .int .i64 x.target.num, .int .i64 (x.target.at_ : Int), .string (txt x.target.text)] 77))) := (Below.refl c w).alloc (Nat.le_of_lt hlt) _
  have HN1 : Hid (vc.ownBlock ≠ some w.heap.size) := fun e => by have := (hB.2.2.1.lt _ e).2; omega
  have HN2 : Hid (vd.ownBlock ≠ some w.heap.size) := fun e => by have := (hB.2.2.2.1.lt _ e).2; omega
  have hcx : c ≠ w.heap.size := by omega
  have HB0 := Lib.hid hB
  have HZ : Hid (lay1 f x p = .ok { p with size := x.num }) := by show _ = _; unfold lay1; rw [if_neg (by omega), if_pos hk]
  have hk1 : (x.kind == 1) = false := by simp [hk]
  have hk3 : (x.kind == 3) = true := by simp [hk]
  have y2 := HBL.out.1.cell (k := 2) rfl
  have g2 := HBL.out.1.frozen 2
  have hsc : c < (w.alloc (.cells #[.int .i64 x.kind, .int .i64 (x.at_ : Int), .int .i64 x.num, .string (txt x.name), .int .i64 x.ins.op, .int .i64 x.ins.d, .int .i64 x.ins.a, .int .i64 x.ins.b, .int .i64 x.ins.imm, .int .i64 x.target.kind, .int .i64 x.target.num, .int .i64 (x.target.at_ : Int), .string (txt x.target.text)] 77)).heap.size := HBL.out.lt
  generalize lay1 f x p = Z at *
  clear hB
  clear hk
  go_enter Tryd.func37, Tryd.ntmps37
  go_wp2_with fail
  obtain ⟨q1, q2⟩ := HB0.out.resize x.num
  exact bodyPost_ret (v := .tuple #[.int .i64 0, .int .i64 0]) (by simp [results, Tryd.results37, go_sem]) rfl (LayOut.ok HZ.out rfl (q1.alloc _) (q2.alloc (by simp [World.setCell]; omega) _))

set_option maxHeartbeats 4000000 in
theorem lay_byte_no (x : PartZ) (p : Prog) (w : World) (c m n : Nat) (f : List UInt8 → Option (Int × Int)) (vc vd : Value) (hB : Bld w c m n f p vc vd) (hk : x.kind = 4) (hb : x.num < 0 ∨ 255 < x.num) :
    Calls Tryd.prog 37 #[.pointer (some ⟨c, 0, none⟩), .agg #[.int .i64 x.kind, .int .i64 (x.at_ : Int), .int .i64 x.num, .string (txt x.name), .int .i64 x.ins.op, .int .i64 x.ins.d, .int .i64 x.ins.a, .int .i64 x.ins.b, .int .i64 x.ins.imm, .int .i64 x.target.kind, .int .i64 x.target.num, .int .i64 (x.target.at_ : Int), .string (txt x.target.text)]] w (LayOut w c m n f (lay1 f x p)) := by
  have hlt := hB.lt
  have HXB : Hid (Box (w.alloc (.cells #[.int .i64 x.kind, .int .i64 (x.at_ : Int), .int .i64 x.num, .string (txt x.name), .int .i64 x.ins.op, .int .i64 x.ins.d, .int .i64 x.ins.a, .int .i64 x.ins.b, .int .i64 x.ins.imm, .int .i64 x.target.kind, .int .i64 x.target.num, .int .i64 (x.target.at_ : Int), .string (txt x.target.text)] 77)) w.heap.size (partL x)) := Box.new w (partL x) _
  have HBL := Lib.hid (hB.alloc (.cells #[.int .i64 x.kind, .int .i64 (x.at_ : Int), .int .i64 x.num, .string (txt x.name), .int .i64 x.ins.op, .int .i64 x.ins.d, .int .i64 x.ins.a, .int .i64 x.ins.b, .int .i64 x.ins.imm, .int .i64 x.target.kind, .int .i64 x.target.num, .int .i64 (x.target.at_ : Int), .string (txt x.target.text)] 77))
  have HBW : Hid (Below c w (w.alloc (.cells #[.int .i64 x.kind, .int .i64 (x.at_ : Int), .int .i64 x.num, .string (txt x.name), .int .i64 x.ins.op, .int .i64 x.ins.d, .int .i64 x.ins.a, .int .i64 x.ins.b, .int .i64 x.ins.imm, .int .i64 x.target.kind, .int .i64 x.target.num, .int .i64 (x.target.at_ : Int), .string (txt x.target.text)] 77))) := (Below.refl c w).alloc (Nat.le_of_lt hlt) _
  have HN1 : Hid (vc.ownBlock ≠ some w.heap.size) := fun e => by have := (hB.2.2.1.lt _ e).2; omega
  have HN2 : Hid (vd.ownBlock ≠ some w.heap.size) := fun e => by have := (hB.2.2.2.1.lt _ e).2; omega
  have hcx : c ≠ w.heap.size := by omega
  have HB0 := Lib.hid hB
  have HZ : Hid (lay1 f x p = .bad x.at_ 8) := by show _ = _; unfold lay1; rw [if_neg (by omega), if_neg (by omega), if_pos hk, if_pos hb]
  have hk1 : (x.kind == 1) = false := by simp [hk]
  have hk3 : (x.kind == 3) = false := by simp [hk]
  have hk4 : (x.kind == 4) = true := by simp [hk]
  generalize lay1 f x p = Z at *
  clear hB
  clear hk
  go_enter Tryd.func37, Tryd.ntmps37
  by_cases hn : x.num < 0
  · have n1 : decide (x.num < 0) = true := decide_eq_true hn
    clear hb hn
    go_wp2_with fail
    exact bodyPost_ret (v := .tuple #[.int .i64 (x.at_ : Int), .int .i64 8]) (by simp [results, Tryd.results37, go_sem]) rfl (LayOut.bad HZ.out rfl HBW.out)
  · have n1 : decide (x.num < 0) = false := decide_eq_false hn
    have n2 : decide (255 < x.num) = true := decide_eq_true (by omega)
    clear hb hn
    go_wp2_with fail
    exact bodyPost_ret (v := .tuple #[.int .i64 (x.at_ : Int), .int .i64 8]) (by simp [results, Tryd.results37, go_sem]) rfl (LayOut.bad HZ.out rfl HBW.out)

set_option maxHeartbeats 4000000 in
theorem lay_byte_yes (x : PartZ) (p : Prog) (w : World) (c m n : Nat) (f : List UInt8 → Option (Int × Int)) (vc vd : Value) (hB : Bld w c m n f p vc vd) (hpd : p.data.length ≤ 1000000) (hk : x.kind = 4) (hn0 : 0 ≤ x.num) (hn1 : x.num ≤ 255) :
    Calls Tryd.prog 37 #[.pointer (some ⟨c, 0, none⟩), .agg #[.int .i64 x.kind, .int .i64 (x.at_ : Int), .int .i64 x.num, .string (txt x.name), .int .i64 x.ins.op, .int .i64 x.ins.d, .int .i64 x.ins.a, .int .i64 x.ins.b, .int .i64 x.ins.imm, .int .i64 x.target.kind, .int .i64 x.target.num, .int .i64 (x.target.at_ : Int), .string (txt x.target.text)]] w (LayOut w c m n f (lay1 f x p)) := by
  have hlt := hB.lt
  have HXB : Hid (Box (w.alloc (.cells #[.int .i64 x.kind, .int .i64 (x.at_ : Int), .int .i64 x.num, .string (txt x.name), .int .i64 x.ins.op, .int .i64 x.ins.d, .int .i64 x.ins.a, .int .i64 x.ins.b, .int .i64 x.ins.imm, .int .i64 x.target.kind, .int .i64 x.target.num, .int .i64 (x.target.at_ : Int), .string (txt x.target.text)] 77)) w.heap.size (partL x)) := Box.new w (partL x) _
  have HBL := Lib.hid (hB.alloc (.cells #[.int .i64 x.kind, .int .i64 (x.at_ : Int), .int .i64 x.num, .string (txt x.name), .int .i64 x.ins.op, .int .i64 x.ins.d, .int .i64 x.ins.a, .int .i64 x.ins.b, .int .i64 x.ins.imm, .int .i64 x.target.kind, .int .i64 x.target.num, .int .i64 (x.target.at_ : Int), .string (txt x.target.text)] 77))
  have HBW : Hid (Below c w (w.alloc (.cells #[.int .i64 x.kind, .int .i64 (x.at_ : Int), .int .i64 x.num, .string (txt x.name), .int .i64 x.ins.op, .int .i64 x.ins.d, .int .i64 x.ins.a, .int .i64 x.ins.b, .int .i64 x.ins.imm, .int .i64 x.target.kind, .int .i64 x.target.num, .int .i64 (x.target.at_ : Int), .string (txt x.target.text)] 77))) := (Below.refl c w).alloc (Nat.le_of_lt hlt) _
  have HN1 : Hid (vc.ownBlock ≠ some w.heap.size) := fun e => by have := (hB.2.2.1.lt _ e).2; omega
  have HN2 : Hid (vd.ownBlock ≠ some w.heap.size) := fun e => by have := (hB.2.2.2.1.lt _ e).2; omega
  have hcx : c ≠ w.heap.size := by omega
  have HB0 := Lib.hid hB
  have HZ : Hid (lay1 f x p = .ok { p with data := p.data ++ [x.num] }) := by show _ = _; unfold lay1; rw [if_neg (by omega), if_neg (by omega), if_pos hk, if_neg (by omega)]
  have hk1 : (x.kind == 1) = false := by simp [hk]
  have hk3 : (x.kind == 3) = false := by simp [hk]
  have hk4 : (x.kind == 4) = true := by simp [hk]
  have n1 : decide (x.num < 0) = false := decide_eq_false (by omega)
  have n2 : decide (255 < x.num) = false := decide_eq_false (by omega)
  have HPD := Lib.hid hpd
  have HN := Lib.hid (show 0 ≤ x.num ∧ x.num ≤ 255 from ⟨hn0, hn1⟩)
  generalize lay1 f x p = Z at *
  clear hB
  clear hk hpd hn0 hn1
  go_enter Tryd.func37, Tryd.ntmps37
  go_wp2_with fail
  generalize (w.alloc (.cells #[.int .i64 x.kind, .int .i64 (x.at_ : Int), .int .i64 x.num, .string (txt x.name), .int .i64 x.ins.op, .int .i64 x.ins.d, .int .i64 x.ins.a, .int .i64 x.ins.b, .int .i64 x.ins.imm, .int .i64 x.target.kind, .int .i64 x.target.num, .int .i64 (x.target.at_ : Int), .string (txt x.target.text)] 77)) = X at *
  have HL3 : Hid (Bld X.drew c m n f p vc vd) := HBL.out.drew
  have hS0 : X.drew.cell? ⟨w.heap.size, 2, none⟩ = some (.int .i64 x.num) := HXB.out.cell (k := 2) rfl
  refine wp_region_tree (fun a x => _) (LinT.of [(0, true), (1, true), (2, true), (3, true), (4, true), (6, true), (7, true), (8, true)] (.two 5 9 (LinT.of [(9, false), (10, false), (11, true), (12, true), (13, true), (14, false)] .nil) (LinT.of [(5, false), (10, false), (11, true), (12, true), (13, true), (14, false)] .nil))) (by kernel_rfl) (by kernel_rfl) rfl (by kernel_rfl) (fun y => y.cell? ⟨w.heap.size, 2, none⟩ = some (.int .i64 x.num)) (fun _ _ h => h) ?_
  simp only [LinT.of, LinT.look, List.getElem?_toArray, List.getElem?_cons_succ, List.getElem?_cons_zero]
  iterate 8 (refine tree_take (v := ?_) hS0 (by rfl) ?_ ?_; rotate_left; (intro y hy; go_simp; try (with_reducible rfl)); (simp only [Act.put, List.setIfInBounds_toArray, List.set_cons_zero, List.set_cons_succ]))
  have hw : IntKind.u8.wrap x.num = x.num := IntWalk.u8_in _ HN.out
  try rw [hw]
  clear hw
  obtain ⟨i0, hi, hz0, hz1, hz2⟩ := info_parts info_byte8
  have HI := Lib.hid hi
  have HZ0 := Lib.hid hz0
  have HZ1 := Lib.hid hz1
  have HZ2 := Lib.hid hz2
  clear hi hz0 hz1 hz2
  have c1 : X.drew.cell? ⟨c, 3, none⟩ = some vd := HL3.out.1.cell (k := 3) rfl
  have c1x : X.cell? ⟨c, 3, none⟩ = some vd := c1
  have hcl : c < X.drew.heap.size := HL3.out.lt
  have hcl2 : c < X.heap.size := HL3.out.lt
  have hpcc := HPD.out
  have HEND : Hid (∀ (o : Obj) (y3 : World) (v3 : Value), (X.drew.alloc o).grownBy y3 vd.ownBlock → y3.ownsRow (c + 1) 5 1 v3 (p.data.length + 1) (p.data.map (Value.int .u8) ++ [.int .u8 x.num]) →
      (Bld (y3.setCell ⟨c, 3, none⟩ v3) c m n f { p with data := p.data ++ [x.num] } vc v3 ∧ Below c w (y3.setCell ⟨c, 3, none⟩ v3)) ∧ y3.cell? ⟨w.heap.size, 2, none⟩ = some (.int .i64 x.num) ∧ y3.cell? ⟨c, 3, none⟩ = some vd ∧ y3.frozen? ⟨c, 3, none⟩ = false ∧ c < y3.heap.size ∧ ∃ A3 k3, v3 = .slice A3 (p.data.length + 1) k3) := by
    intro o y3 v3 hg ho
    have hne : some c ≠ vd.ownBlock := fun e => by have := (HL3.out.2.2.2.1.lt c e.symm).1; omega
    obtain ⟨q1, q2⟩ := HL3.out.byte hg ho
    obtain ⟨A3, k3, h3⟩ := (Row.of_own ho).form
    have hb2 := HL3.out.1.alloc o
    refine ⟨⟨q1, HBW.out.drew.trans q2⟩, ((HXB.out.drew.alloc o).grown hg (fun e => HN2.out e.symm)).cell (k := 2) rfl, hg.cell (hb2.cell (k := 3) rfl) hne, ?_, ?_, A3, k3, h3⟩
    · rw [World.frozen?_of_block (w := X.drew.alloc o) (hg.block c hb2.lt hne)]; exact hb2.frozen 3
    · have := hg.size; have := hb2.lt; omega
  refine tree_two hS0 (by rfl) (by rfl) (fun K hK => ?_) (fun K hK => ?_)
  · go_simp
    refine hK.out _ _ hS0 (fun _ => ?_)
    clear hK K
    try (simp only [Act.put, List.setIfInBounds_toArray, List.set_cons_zero, List.set_cons_succ])
    refine tree_call hS0 (by rfl) (fun K hK => ?_)
    go_simp
    have hSa : (X.drew.alloc (.cells #[.int .u8 x.num] 5)).cell? ⟨w.heap.size, 2, none⟩ = some (.int .i64 x.num) := (HXB.out.drew.alloc _).cell (k := 2) rfl
    refine hK.out _ _ hSa (fun _ => ?_)
    clear hK K
    try (simp only [Act.put, List.setIfInBounds_toArray, List.set_cons_zero, List.set_cons_succ])
    refine tree_call hSa (by rfl) (fun K hK => ?_)
    refine wp_append_row _ (.tmp 48) (.tmp 52) 37 rfl (c + 1) 5 i0 _ 1 1 Tryd.underlying37 HI.out HZ0.out HZ1.out HZ2.out rfl (by omega) _ p.data.length (p.data.map (Value.int .u8)) rfl (HL3.out.2.2.2.1.alloc _) _ (.slice (some ⟨X.heap.size, 0, none⟩) 1 1) 1 [.int .u8 x.num] rfl (row_list X.drew [.int .u8 x.num] _) (by simp [Value.oneCell']) (by unfold maxLen; omega) (by omega) (by have := HL3.out.lt; simp at this ⊢; omega) ?_
    intro v3 y3 hO3 hg3
    obtain ⟨PA, hS3, q3, q4, hy3, A3, k3, rfl⟩ := HEND.out _ _ _ hg3 hO3
    have HPA := Lib.hid PA
    clear hO3 hg3 PA
    refine hK.out _ _ hS3 (fun _ => ?_)
    clear hK K
    try (simp only [Act.put, List.setIfInBounds_toArray, List.set_cons_zero, List.set_cons_succ])
    iterate 3 (refine tree_take (v := ?_) hS3 (by rfl) ?_ ?_; rotate_left; (intro y hy; go_simp; try (with_reducible rfl)); (simp only [Act.put, List.setIfInBounds_toArray, List.set_cons_zero, List.set_cons_succ]))
    refine tree_call hS3 (by rfl) (fun K hK => ?_)
    go_simp
    refine hK.out _ _ ((World.cell?_setCell_other _ _ _ _ (fun e => hcx (congrArg Addr.block e))).trans hS3) (fun _ => ?_)
    clear hK K
    refine tree_done ?_
    try (simp only [Act.put, List.setIfInBounds_toArray, List.set_cons_zero, List.set_cons_succ])
    go_wp2_with fail
    exact bodyPost_ret (v := .tuple #[.int .i64 0, .int .i64 0]) (by simp [results, Tryd.results37, go_sem]) rfl (LayOut.ok HZ.out rfl HPA.out.1 HPA.out.2)
  · go_simp
    have hSa : (X.drew.alloc (.cells #[.int .u8 x.num] 5)).cell? ⟨w.heap.size, 2, none⟩ = some (.int .i64 x.num) := (HXB.out.drew.alloc _).cell (k := 2) rfl
    have c1a : (X.drew.alloc (.cells #[.int .u8 x.num] 5)).cell? ⟨c, 3, none⟩ = some vd := (World.cell?_alloc_lt _ _ _ hcl).trans c1
    have c1b : (X.alloc (.cells #[.int .u8 x.num] 5)).cell? ⟨c, 3, none⟩ = some vd := c1a
    refine hK.out _ _ hSa (fun _ => ?_)
    clear hK K
    try (simp only [Act.put, List.setIfInBounds_toArray, List.set_cons_zero, List.set_cons_succ])
    refine tree_call hSa (by rfl) (fun K hK => ?_)
    go_simp
    refine hK.out _ _ hSa (fun _ => ?_)
    clear hK K
    try (simp only [Act.put, List.setIfInBounds_toArray, List.set_cons_zero, List.set_cons_succ])
    refine tree_call hSa (by rfl) (fun K hK => ?_)
    refine wp_append_row _ (.tmp 48) (.tmp 52) 37 rfl (c + 1) 5 i0 _ 1 1 Tryd.underlying37 HI.out HZ0.out HZ1.out HZ2.out rfl (by omega) _ p.data.length (p.data.map (Value.int .u8)) rfl (HL3.out.2.2.2.1.alloc _) _ (.slice (some ⟨X.heap.size, 0, none⟩) 1 1) 1 [.int .u8 x.num] rfl (row_list X.drew [.int .u8 x.num] _) (by simp [Value.oneCell']) (by unfold maxLen; omega) (by omega) (by have := HL3.out.lt; simp at this ⊢; omega) ?_
    intro v3 y3 hO3 hg3
    obtain ⟨PA, hS3, q3, q4, hy3, A3, k3, rfl⟩ := HEND.out _ _ _ hg3 hO3
    have HPA := Lib.hid PA
    clear hO3 hg3 PA
    refine hK.out _ _ hS3 (fun _ => ?_)
    clear hK K
    try (simp only [Act.put, List.setIfInBounds_toArray, List.set_cons_zero, List.set_cons_succ])
    iterate 3 (refine tree_take (v := ?_) hS3 (by rfl) ?_ ?_; rotate_left; (intro y hy; go_simp; try (with_reducible rfl)); (simp only [Act.put, List.setIfInBounds_toArray, List.set_cons_zero, List.set_cons_succ]))
    refine tree_call hS3 (by rfl) (fun K hK => ?_)
    go_simp
    refine hK.out _ _ ((World.cell?_setCell_other _ _ _ _ (fun e => hcx (congrArg Addr.block e))).trans hS3) (fun _ => ?_)
    clear hK K
    refine tree_done ?_
    try (simp only [Act.put, List.setIfInBounds_toArray, List.set_cons_zero, List.set_cons_succ])
    go_wp2_with fail
    exact bodyPost_ret (v := .tuple #[.int .i64 0, .int .i64 0]) (by simp [results, Tryd.results37, go_sem]) rfl (LayOut.ok HZ.out rfl HPA.out.1 HPA.out.2)

set_option maxHeartbeats 4000000 in
theorem lay_ins (x : PartZ) (p : Prog) (w : World) (c m n : Nat) (f : List UInt8 → Option (Int × Int)) (vc vd : Value) (hB : Bld w c m n f p vc vd) (hpc : p.code.length ≤ 1000000) (htx : x.target.text.length ≤ 1000000) (hf : ∀ r, f x.target.text = some r → 0 ≤ r.2 ∧ r.2 ≤ 1000000) (hk : x.kind = 2) :
    Calls Tryd.prog 37 #[.pointer (some ⟨c, 0, none⟩), .agg #[.int .i64 x.kind, .int .i64 (x.at_ : Int), .int .i64 x.num, .string (txt x.name), .int .i64 x.ins.op, .int .i64 x.ins.d, .int .i64 x.ins.a, .int .i64 x.ins.b, .int .i64 x.ins.imm, .int .i64 x.target.kind, .int .i64 x.target.num, .int .i64 (x.target.at_ : Int), .string (txt x.target.text)]] w (LayOut w c m n f (lay1 f x p)) := by
  have hlt := hB.lt
  have HXB : Hid (Box (w.alloc (.cells #[.int .i64 x.kind, .int .i64 (x.at_ : Int), .int .i64 x.num, .string (txt x.name), .int .i64 x.ins.op, .int .i64 x.ins.d, .int .i64 x.ins.a, .int .i64 x.ins.b, .int .i64 x.ins.imm, .int .i64 x.target.kind, .int .i64 x.target.num, .int .i64 (x.target.at_ : Int), .string (txt x.target.text)] 77)) w.heap.size (partL x)) := Box.new w (partL x) _
  have HBL := Lib.hid (hB.alloc (.cells #[.int .i64 x.kind, .int .i64 (x.at_ : Int), .int .i64 x.num, .string (txt x.name), .int .i64 x.ins.op, .int .i64 x.ins.d, .int .i64 x.ins.a, .int .i64 x.ins.b, .int .i64 x.ins.imm, .int .i64 x.target.kind, .int .i64 x.target.num, .int .i64 (x.target.at_ : Int), .string (txt x.target.text)] 77))
  have HBW : Hid (Below c w (w.alloc (.cells #[.int .i64 x.kind, .int .i64 (x.at_ : Int), .int .i64 x.num, .string (txt x.name), .int .i64 x.ins.op, .int .i64 x.ins.d, .int .i64 x.ins.a, .int .i64 x.ins.b, .int .i64 x.ins.imm, .int .i64 x.target.kind, .int .i64 x.target.num, .int .i64 (x.target.at_ : Int), .string (txt x.target.text)] 77))) := (Below.refl c w).alloc (Nat.le_of_lt hlt) _
  have HN1 : Hid (vc.ownBlock ≠ some w.heap.size) := fun e => by have := (hB.2.2.1.lt _ e).2; omega
  have HN2 : Hid (vd.ownBlock ≠ some w.heap.size) := fun e => by have := (hB.2.2.2.1.lt _ e).2; omega
  have hcx : c ≠ w.heap.size := by omega
  have HB0 := Lib.hid hB
  have HZ : Hid (lay1 f x p = ins1 f x p) := by show _ = _; unfold lay1; rw [if_neg (by omega), if_neg (by omega), if_neg (by omega), if_pos hk]
  have hk1 : (x.kind == 1) = false := by simp [hk]
  have hk3 : (x.kind == 3) = false := by simp [hk]
  have hk4 : (x.kind == 4) = false := by simp [hk]
  have hk2 : (x.kind == 2) = true := by simp [hk]
  have hI := Lib.hid (bins_any x p _ c m n f vc vd HBL.out hpc htx hf)
  generalize lay1 f x p = Z at *
  clear hB
  generalize ins1 f x p = Z2 at *
  clear hk hpc htx hf
  go_enter Tryd.func37, Tryd.ntmps37
  go_wp2_with fail
  refine hI.out.mono ?_; rintro en w3 hL
  have HE := HZ.out
  subst HE
  cases Z with
  | bad a e =>
    obtain ⟨rfl, hb⟩ := hL
    have HB3 := Lib.hid (HBW.out.trans hb)
    clear hb
    go_wp2_with fail
    exact bodyPost_ret (v := .tuple #[.int .i64 (a : Int), .int .i64 e]) (by simp [results, Tryd.results37, go_sem]) rfl (LayOut.bad rfl rfl HB3.out)
  | ok p2 =>
    obtain ⟨rfl, ⟨vc2, vd2, hB2⟩, hb⟩ := hL
    have HB2 := Lib.hid hB2
    have HB3 := Lib.hid (HBW.out.trans hb)
    clear hb hB2
    go_wp2_with fail
    exact bodyPost_ret (v := .tuple #[.int .i64 0, .int .i64 0]) (by simp [results, Tryd.results37, go_sem]) rfl (LayOut.ok rfl rfl HB2.out HB3.out)

set_option maxHeartbeats 4000000 in
theorem lay_none (x : PartZ) (p : Prog) (w : World) (c m n : Nat) (f : List UInt8 → Option (Int × Int)) (vc vd : Value) (hB : Bld w c m n f p vc vd) (hk : ¬ (x.kind = 1 ∨ x.kind = 2 ∨ x.kind = 3 ∨ x.kind = 4)) :
    Calls Tryd.prog 37 #[.pointer (some ⟨c, 0, none⟩), .agg #[.int .i64 x.kind, .int .i64 (x.at_ : Int), .int .i64 x.num, .string (txt x.name), .int .i64 x.ins.op, .int .i64 x.ins.d, .int .i64 x.ins.a, .int .i64 x.ins.b, .int .i64 x.ins.imm, .int .i64 x.target.kind, .int .i64 x.target.num, .int .i64 (x.target.at_ : Int), .string (txt x.target.text)]] w (LayOut w c m n f (lay1 f x p)) := by
  have hlt := hB.lt
  have HXB : Hid (Box (w.alloc (.cells #[.int .i64 x.kind, .int .i64 (x.at_ : Int), .int .i64 x.num, .string (txt x.name), .int .i64 x.ins.op, .int .i64 x.ins.d, .int .i64 x.ins.a, .int .i64 x.ins.b, .int .i64 x.ins.imm, .int .i64 x.target.kind, .int .i64 x.target.num, .int .i64 (x.target.at_ : Int), .string (txt x.target.text)] 77)) w.heap.size (partL x)) := Box.new w (partL x) _
  have HBL := Lib.hid (hB.alloc (.cells #[.int .i64 x.kind, .int .i64 (x.at_ : Int), .int .i64 x.num, .string (txt x.name), .int .i64 x.ins.op, .int .i64 x.ins.d, .int .i64 x.ins.a, .int .i64 x.ins.b, .int .i64 x.ins.imm, .int .i64 x.target.kind, .int .i64 x.target.num, .int .i64 (x.target.at_ : Int), .string (txt x.target.text)] 77))
  have HBW : Hid (Below c w (w.alloc (.cells #[.int .i64 x.kind, .int .i64 (x.at_ : Int), .int .i64 x.num, .string (txt x.name), .int .i64 x.ins.op, .int .i64 x.ins.d, .int .i64 x.ins.a, .int .i64 x.ins.b, .int .i64 x.ins.imm, .int .i64 x.target.kind, .int .i64 x.target.num, .int .i64 (x.target.at_ : Int), .string (txt x.target.text)] 77))) := (Below.refl c w).alloc (Nat.le_of_lt hlt) _
  have HN1 : Hid (vc.ownBlock ≠ some w.heap.size) := fun e => by have := (hB.2.2.1.lt _ e).2; omega
  have HN2 : Hid (vd.ownBlock ≠ some w.heap.size) := fun e => by have := (hB.2.2.2.1.lt _ e).2; omega
  have hcx : c ≠ w.heap.size := by omega
  have HB0 := Lib.hid hB
  have HZ : Hid (lay1 f x p = .ok p) := by show _ = _; unfold lay1; rw [if_neg (by omega), if_neg (by omega), if_neg (by omega), if_neg (by omega)]
  have hk1 : (x.kind == 1) = false := by simp; omega
  have hk3 : (x.kind == 3) = false := by simp; omega
  have hk4 : (x.kind == 4) = false := by simp; omega
  have hk2 : (x.kind == 2) = false := by simp; omega
  generalize lay1 f x p = Z at *
  clear hB
  clear hk
  go_enter Tryd.func37, Tryd.ntmps37
  go_wp2_with fail
  exact bodyPost_ret (v := .tuple #[.int .i64 0, .int .i64 0]) (by simp [results, Tryd.results37, go_sem]) rfl (LayOut.ok HZ.out rfl HBL.out HBW.out)

theorem lay_any (x : PartZ) (p : Prog) (w : World) (c m n : Nat) (f : List UInt8 → Option (Int × Int)) (vc vd : Value) (hB : Bld w c m n f p vc vd) (hpc : p.code.length ≤ 1000000) (hpd : p.data.length ≤ 1000000) (hnm : x.name.length ≤ 1000000) (htx : x.target.text.length ≤ 1000000) (hf : ∀ r, f x.target.text = some r → 0 ≤ r.2 ∧ r.2 ≤ 1000000) :
    Calls Tryd.prog 37 #[.pointer (some ⟨c, 0, none⟩), .agg #[.int .i64 x.kind, .int .i64 (x.at_ : Int), .int .i64 x.num, .string (txt x.name), .int .i64 x.ins.op, .int .i64 x.ins.d, .int .i64 x.ins.a, .int .i64 x.ins.b, .int .i64 x.ins.imm, .int .i64 x.target.kind, .int .i64 x.target.num, .int .i64 (x.target.at_ : Int), .string (txt x.target.text)]] w (LayOut w c m n f (lay1 f x p)) := by
  by_cases h1 : x.kind = 1
  · by_cases hd : ((f x.name).getD (0, 0)).1 ≠ x.at_
    · exact lay_label_dup x p w c m n f vc vd hB h1 hnm hd
    · exact lay_label_new x p w c m n f vc vd hB h1 hnm hd
  by_cases h3 : x.kind = 3
  · exact lay_size x p w c m n f vc vd hB h3
  by_cases h4 : x.kind = 4
  · by_cases hb : x.num < 0 ∨ 255 < x.num
    · exact lay_byte_no x p w c m n f vc vd hB h4 hb
    · exact lay_byte_yes x p w c m n f vc vd hB hpd h4 (by omega) (by omega)
  by_cases h2 : x.kind = 2
  · exact lay_ins x p w c m n f vc vd hB hpc htx hf h2
  · exact lay_none x p w c m n f vc vd hB (by omega)
end Go.Proofs.YtimdojeagkbgbaaDoor.Words

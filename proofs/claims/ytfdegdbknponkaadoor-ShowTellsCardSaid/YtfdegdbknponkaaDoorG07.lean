/- Several texts in one: AsmLay, LexStandMath, RefTarget, Kept, RefRight, ImgRight, ImgRight2. -/
import Derived.Test.YtfdegdbknponkaaDoorG06
import Derived.Test.YtfdegdbknponkaaDoorG00
import Derived.Test.YtfdegdbknponkaaDoorG01
import Derived.LoopTactic
import Derived.LoopN

/- Contract of package asm's builder.lay. -/
namespace Go.Proofs.YtfdegdbknponkaaDoor.Words
set_option maxRecDepth 100000
open Go.RowKit Go.Shelf Go.Lib
set_option linter.unusedVariables false
set_option linter.unusedSimpArgs false

theorem bins_any (x : PartZ) (p : Prog) (w : World) (c m n : Nat) (f : List UInt8 → Option (Int × Int)) (vc vd : Value) (hB : Bld w c m n f p vc vd) (hpc : p.code.length ≤ 1000000) (htx : x.target.text.length ≤ 1000000) (hf : ∀ r, f x.target.text = some r → 0 ≤ r.2 ∧ r.2 ≤ 1000000) :
    Calls Tryd.prog 47 #[.pointer (some ⟨c, 0, none⟩), .agg #[.int .i64 x.kind, .int .i64 (x.at_ : Int), .int .i64 x.num, .string (txt x.name), .int .i64 x.ins.op, .int .i64 x.ins.d, .int .i64 x.ins.a, .int .i64 x.ins.b, .int .i64 x.ins.imm, .int .i64 x.target.kind, .int .i64 x.target.num, .int .i64 (x.target.at_ : Int), .string (txt x.target.text)]] w (LayOut w c m n f (ins1 f x p)) := by
  by_cases hk : x.target.kind = 1
  · cases hr : f x.target.text with
    | none => exact bins_none x p w c m n f vc vd hB hpc hk htx hr
    | some r =>
      obtain ⟨h0, h1⟩ := hf r hr
      cases hright : rightB { x.ins with imm := r.2 - p.code.length }
      · exact bins_some_no x p w c m n f vc vd hB hpc r _ hk htx hr h0 h1 rfl hright
      · exact bins_some_yes x p w c m n f vc vd hB hpc r _ hk htx hr h0 h1 rfl hright
  · cases hright : rightB x.ins
    · exact bins_plain_no x p w c m n f vc vd hB hpc hk hright
    · exact bins_plain_yes x p w c m n f vc vd hB hpc hk hright
theorem field_lab (a p : Int) (y : World) : (Instr.field 94 (.agg #[.int .i64 a, .int .i64 p]) 0).run Tryd.prog y = .ok (.int .i64 a) y := by kernel_rfl

set_option maxHeartbeats 4000000 in
theorem lay_label_dup (x : PartZ) (p : Prog) (w : World) (c m n : Nat) (f : List UInt8 → Option (Int × Int)) (vc vd : Value) (hB : Bld w c m n f p vc vd) (hk : x.kind = 1) (hnm : x.name.length ≤ 1000000) (hd : ((f x.name).getD (0, 0)).1 ≠ x.at_) :
    Calls Tryd.prog 34 #[.pointer (some ⟨c, 0, none⟩), .agg #[.int .i64 x.kind, .int .i64 (x.at_ : Int), .int .i64 x.num, .string (txt x.name), .int .i64 x.ins.op, .int .i64 x.ins.d, .int .i64 x.ins.a, .int .i64 x.ins.b, .int .i64 x.ins.imm, .int .i64 x.target.kind, .int .i64 x.target.num, .int .i64 (x.target.at_ : Int), .string (txt x.target.text)]] w (LayOut w c m n f (lay1 f x p)) := by
  have hlt := hB.lt
  have HXB : Hid (Box (w.alloc (.cells #[.int .i64 x.kind, .int .i64 (x.at_ : Int), .int .i64 x.num, .string (txt x.name), .int .i64 x.ins.op, .int .i64 x.ins.d, .int .i64 x.ins.a, .int .i64 x.ins.b, .int .i64 x.ins.imm, .int .i64 x.target.kind, .int .i64 x.target.num, .int .i64 (x.target.at_ : Int), .string (txt x.target.text)] 69)) w.heap.size (partL x)) := Box.new w (partL x) _
  have HBL := Lib.hid (hB.alloc (.cells #[.int .i64 x.kind, .int .i64 (x.at_ : Int), .int .i64 x.num, .string (txt x.name), .int .i64 x.ins.op, .int .i64 x.ins.d, .int .i64 x.ins.a, .int .i64 x.ins.b, .int .i64 x.ins.imm, .int .i64 x.target.kind, .int .i64 x.target.num, .int .i64 (x.target.at_ : Int), .string (txt x.target.text)] 69))
  have HBW : Hid (Below c w (w.alloc (.cells #[.int .i64 x.kind, .int .i64 (x.at_ : Int), .int .i64 x.num, .string (txt x.name), .int .i64 x.ins.op, .int .i64 x.ins.d, .int .i64 x.ins.a, .int .i64 x.ins.b, .int .i64 x.ins.imm, .int .i64 x.target.kind, .int .i64 x.target.num, .int .i64 (x.target.at_ : Int), .string (txt x.target.text)] 69))) := (Below.refl c w).alloc (Nat.le_of_lt hlt) _
  have HN1 : Hid (vc.ownBlock ≠ some w.heap.size) := fun e => by have := (hB.2.2.1.lt _ e).2; omega
  have HN2 : Hid (vd.ownBlock ≠ some w.heap.size) := fun e => by have := (hB.2.2.2.1.lt _ e).2; omega
  have hcx : c ≠ w.heap.size := by omega
  have HB0 := Lib.hid hB
  have HZ : Hid (lay1 f x p = .bad x.at_ 6) := by show _ = _; unfold lay1; rw [if_pos hk, if_pos hd]
  have HKT : Hid (∀ y, LabM y m n f → (Instr.lookup 64 (.map (some m)) (.string (txt x.name)) false).run Tryd.prog y = .ok (.agg #[.int .i64 ((f x.name).getD (0, 0)).1, .int .i64 ((f x.name).getD (0, 0)).2]) y) := fun y hy => hy.look hnm
  have hk2 : (x.kind == 1) = true := by simpa using hk
  have hne : (((f x.name).getD (0, 0)).1 != (x.at_ : Int)) = true := by simpa using hd
  generalize ((f x.name).getD (0, 0)).1 = LA at *
  generalize ((f x.name).getD (0, 0)).2 = LP at *
  have HFD := Lib.hid (fun y => field_lab LA LP y)
  generalize lay1 f x p = Z at *
  clear hB
  clear hk hnm hd
  go_enter Tryd.func34, Tryd.ntmps34
  go_wp2_with fail
  have hS : Box (w.alloc (.cells #[.int .i64 x.kind, .int .i64 (x.at_ : Int), .int .i64 x.num, .string (txt x.name), .int .i64 x.ins.op, .int .i64 x.ins.d, .int .i64 x.ins.a, .int .i64 x.ins.b, .int .i64 x.ins.imm, .int .i64 x.target.kind, .int .i64 x.target.num, .int .i64 (x.target.at_ : Int), .string (txt x.target.text)] 69)).drew w.heap.size (partL x) ∧ Bld (w.alloc (.cells #[.int .i64 x.kind, .int .i64 (x.at_ : Int), .int .i64 x.num, .string (txt x.name), .int .i64 x.ins.op, .int .i64 x.ins.d, .int .i64 x.ins.a, .int .i64 x.ins.b, .int .i64 x.ins.imm, .int .i64 x.target.kind, .int .i64 x.target.num, .int .i64 (x.target.at_ : Int), .string (txt x.target.text)] 69)).drew c m n f p vc vd := ⟨HXB.out.drew, HBL.out.drew⟩
  refine wp_region_lin [(0, true), (1, true), (2, true), (3, true), (4, true), (5, true), (6, true), (7, true), (8, true), (9, true), (10, true)] (by kernel_rfl) (by kernel_rfl) rfl (by kernel_rfl) (fun y => Box y w.heap.size (partL x) ∧ Bld y c m n f p vc vd) ?_
  simp only [List.map_cons, List.map_nil, List.getElem?_toArray, List.getElem?_cons_succ, List.getElem?_cons_zero]
  iterate 11 (refine lin_take (v := ?_) hS (by rfl) ?_ ?_; rotate_left; (intro y hy; obtain ⟨h1, h2⟩ := hy; have e1 := h2.1.cell (k := 0) rfl; have e2 := h1.cell (k := 3) rfl; have e3 := h1.cell (k := 1) rfl; have e4 := HKT.out y h2.2.1; have e5 := HFD.out y; clear h1 h2; go_simp; try (with_reducible rfl)); (simp only [Act.put, List.setIfInBounds_toArray, List.set_cons_zero, List.set_cons_succ]))
  refine lin_done ?_
  have y1 : (w.alloc (.cells #[.int .i64 x.kind, .int .i64 (x.at_ : Int), .int .i64 x.num, .string (txt x.name), .int .i64 x.ins.op, .int .i64 x.ins.d, .int .i64 x.ins.a, .int .i64 x.ins.b, .int .i64 x.ins.imm, .int .i64 x.target.kind, .int .i64 x.target.num, .int .i64 (x.target.at_ : Int), .string (txt x.target.text)] 69)).drew.cell? ⟨w.heap.size, 1, none⟩ = some (.int .i64 (x.at_ : Int)) := HXB.out.cell (k := 1) rfl
  have HWD := Lib.hid HBW.out.drew
  clear hS
  go_wp2_with fail
  exact bodyPost_ret (v := .tuple #[.int .i64 (x.at_ : Int), .int .i64 6]) (by simp [results, Tryd.results34, go_sem]) rfl (LayOut.bad HZ.out rfl HWD.out)

set_option maxHeartbeats 4000000 in
theorem lay_label_new (x : PartZ) (p : Prog) (w : World) (c m n : Nat) (f : List UInt8 → Option (Int × Int)) (vc vd : Value) (hB : Bld w c m n f p vc vd) (hk : x.kind = 1) (hnm : x.name.length ≤ 1000000) (hd : ¬ ((f x.name).getD (0, 0)).1 ≠ x.at_) :
    Calls Tryd.prog 34 #[.pointer (some ⟨c, 0, none⟩), .agg #[.int .i64 x.kind, .int .i64 (x.at_ : Int), .int .i64 x.num, .string (txt x.name), .int .i64 x.ins.op, .int .i64 x.ins.d, .int .i64 x.ins.a, .int .i64 x.ins.b, .int .i64 x.ins.imm, .int .i64 x.target.kind, .int .i64 x.target.num, .int .i64 (x.target.at_ : Int), .string (txt x.target.text)]] w (LayOut w c m n f (lay1 f x p)) := by
  have hlt := hB.lt
  have HXB : Hid (Box (w.alloc (.cells #[.int .i64 x.kind, .int .i64 (x.at_ : Int), .int .i64 x.num, .string (txt x.name), .int .i64 x.ins.op, .int .i64 x.ins.d, .int .i64 x.ins.a, .int .i64 x.ins.b, .int .i64 x.ins.imm, .int .i64 x.target.kind, .int .i64 x.target.num, .int .i64 (x.target.at_ : Int), .string (txt x.target.text)] 69)) w.heap.size (partL x)) := Box.new w (partL x) _
  have HBL := Lib.hid (hB.alloc (.cells #[.int .i64 x.kind, .int .i64 (x.at_ : Int), .int .i64 x.num, .string (txt x.name), .int .i64 x.ins.op, .int .i64 x.ins.d, .int .i64 x.ins.a, .int .i64 x.ins.b, .int .i64 x.ins.imm, .int .i64 x.target.kind, .int .i64 x.target.num, .int .i64 (x.target.at_ : Int), .string (txt x.target.text)] 69))
  have HBW : Hid (Below c w (w.alloc (.cells #[.int .i64 x.kind, .int .i64 (x.at_ : Int), .int .i64 x.num, .string (txt x.name), .int .i64 x.ins.op, .int .i64 x.ins.d, .int .i64 x.ins.a, .int .i64 x.ins.b, .int .i64 x.ins.imm, .int .i64 x.target.kind, .int .i64 x.target.num, .int .i64 (x.target.at_ : Int), .string (txt x.target.text)] 69))) := (Below.refl c w).alloc (Nat.le_of_lt hlt) _
  have HN1 : Hid (vc.ownBlock ≠ some w.heap.size) := fun e => by have := (hB.2.2.1.lt _ e).2; omega
  have HN2 : Hid (vd.ownBlock ≠ some w.heap.size) := fun e => by have := (hB.2.2.2.1.lt _ e).2; omega
  have hcx : c ≠ w.heap.size := by omega
  have HB0 := Lib.hid hB
  have HZ : Hid (lay1 f x p = .ok p) := by show _ = _; unfold lay1; rw [if_pos hk, if_neg hd]
  have HKT : Hid (∀ y, LabM y m n f → (Instr.lookup 64 (.map (some m)) (.string (txt x.name)) false).run Tryd.prog y = .ok (.agg #[.int .i64 ((f x.name).getD (0, 0)).1, .int .i64 ((f x.name).getD (0, 0)).2]) y) := fun y hy => hy.look hnm
  have hk2 : (x.kind == 1) = true := by simpa using hk
  have hne : (((f x.name).getD (0, 0)).1 != (x.at_ : Int)) = false := by simpa using hd
  generalize ((f x.name).getD (0, 0)).1 = LA at *
  generalize ((f x.name).getD (0, 0)).2 = LP at *
  have HFD := Lib.hid (fun y => field_lab LA LP y)
  generalize lay1 f x p = Z at *
  clear hB
  clear hk hnm hd
  go_enter Tryd.func34, Tryd.ntmps34
  go_wp2_with fail
  have hS : Box (w.alloc (.cells #[.int .i64 x.kind, .int .i64 (x.at_ : Int), .int .i64 x.num, .string (txt x.name), .int .i64 x.ins.op, .int .i64 x.ins.d, .int .i64 x.ins.a, .int .i64 x.ins.b, .int .i64 x.ins.imm, .int .i64 x.target.kind, .int .i64 x.target.num, .int .i64 (x.target.at_ : Int), .string (txt x.target.text)] 69)).drew w.heap.size (partL x) ∧ Bld (w.alloc (.cells #[.int .i64 x.kind, .int .i64 (x.at_ : Int), .int .i64 x.num, .string (txt x.name), .int .i64 x.ins.op, .int .i64 x.ins.d, .int .i64 x.ins.a, .int .i64 x.ins.b, .int .i64 x.ins.imm, .int .i64 x.target.kind, .int .i64 x.target.num, .int .i64 (x.target.at_ : Int), .string (txt x.target.text)] 69)).drew c m n f p vc vd := ⟨HXB.out.drew, HBL.out.drew⟩
  refine wp_region_lin [(0, true), (1, true), (2, true), (3, true), (4, true), (5, true), (6, true), (7, true), (8, true), (9, true), (10, true)] (by kernel_rfl) (by kernel_rfl) rfl (by kernel_rfl) (fun y => Box y w.heap.size (partL x) ∧ Bld y c m n f p vc vd) ?_
  simp only [List.map_cons, List.map_nil, List.getElem?_toArray, List.getElem?_cons_succ, List.getElem?_cons_zero]
  iterate 11 (refine lin_take (v := ?_) hS (by rfl) ?_ ?_; rotate_left; (intro y hy; obtain ⟨h1, h2⟩ := hy; have e1 := h2.1.cell (k := 0) rfl; have e2 := h1.cell (k := 3) rfl; have e3 := h1.cell (k := 1) rfl; have e4 := HKT.out y h2.2.1; have e5 := HFD.out y; clear h1 h2; go_simp; try (with_reducible rfl)); (simp only [Act.put, List.setIfInBounds_toArray, List.set_cons_zero, List.set_cons_succ]))
  refine lin_done ?_
  have y1 : (w.alloc (.cells #[.int .i64 x.kind, .int .i64 (x.at_ : Int), .int .i64 x.num, .string (txt x.name), .int .i64 x.ins.op, .int .i64 x.ins.d, .int .i64 x.ins.a, .int .i64 x.ins.b, .int .i64 x.ins.imm, .int .i64 x.target.kind, .int .i64 x.target.num, .int .i64 (x.target.at_ : Int), .string (txt x.target.text)] 69)).drew.cell? ⟨w.heap.size, 1, none⟩ = some (.int .i64 (x.at_ : Int)) := HXB.out.cell (k := 1) rfl
  have HWD := Lib.hid HBW.out.drew
  clear hS
  go_wp2_with fail
  exact bodyPost_ret (v := .tuple #[.int .i64 0, .int .i64 0]) (by simp [results, Tryd.results34, go_sem]) rfl (LayOut.ok HZ.out rfl HBL.out.drew HWD.out)

set_option maxHeartbeats 4000000 in
theorem lay_size (x : PartZ) (p : Prog) (w : World) (c m n : Nat) (f : List UInt8 → Option (Int × Int)) (vc vd : Value) (hB : Bld w c m n f p vc vd) (hk : x.kind = 3) :
    Calls Tryd.prog 34 #[.pointer (some ⟨c, 0, none⟩), .agg #[.int .i64 x.kind, .int .i64 (x.at_ : Int), .int .i64 x.num, .string (txt x.name), .int .i64 x.ins.op, .int .i64 x.ins.d, .int .i64 x.ins.a, .int .i64 x.ins.b, .int .i64 x.ins.imm, .int .i64 x.target.kind, .int .i64 x.target.num, .int .i64 (x.target.at_ : Int), .string (txt x.target.text)]] w (LayOut w c m n f (lay1 f x p)) := by
  have hlt := hB.lt
  have HXB : Hid (Box (w.alloc (.cells #[.int .i64 x.kind, .int .i64 (x.at_ : Int), .int .i64 x.num, .string (txt x.name), .int .i64 x.ins.op, .int .i64 x.ins.d, .int .i64 x.ins.a, .int .i64 x.ins.b, .int .i64 x.ins.imm, .int .i64 x.target.kind, .int .i64 x.target.num, .int .i64 (x.target.at_ : Int), .string (txt x.target.text)] 69)) w.heap.size (partL x)) := Box.new w (partL x) _
  have HBL := Lib.hid (hB.alloc (.cells #[.int .i64 x.kind, .int .i64 (x.at_ : Int), .int .i64 x.num, .string (txt x.name), .int .i64 x.ins.op, .int .i64 x.ins.d, .int .i64 x.ins.a, .int .i64 x.ins.b, .int .i64 x.ins.imm, .int .i64 x.target.kind, .int .i64 x.target.num, .int .i64 (x.target.at_ : Int), .string (txt x.target.text)] 69))
  have HBW : Hid (Below c w (w.alloc (.cells #[.int .i64 x.kind, .int .i64 (x.at_ : Int), .int .i64 x.num, .string (txt x.name), .int .i64 x.ins.op, .int .i64 x.ins.d, .int .i64 x.ins.a, .int .i64 x.ins.b, .int .i64 x.ins.imm, .int .i64 x.target.kind, .int .i64 x.target.num, .int .i64 (x.target.at_ : Int), .string (txt x.target.text)] 69))) := (Below.refl c w).alloc (Nat.le_of_lt hlt) _
  have HN1 : Hid (vc.ownBlock ≠ some w.heap.size) := fun e => by have := (hB.2.2.1.lt _ e).2; omega
  have HN2 : Hid (vd.ownBlock ≠ some w.heap.size) := fun e => by have := (hB.2.2.2.1.lt _ e).2; omega
  have hcx : c ≠ w.heap.size := by omega
  have HB0 := Lib.hid hB
  have HZ : Hid (lay1 f x p = .ok { p with size := x.num }) := by show _ = _; unfold lay1; rw [if_neg (by omega), if_pos hk]
  have hk1 : (x.kind == 1) = false := by simp [hk]
  have hk3 : (x.kind == 3) = true := by simp [hk]
  have y2 := HBL.out.1.cell (k := 2) rfl
  have g2 := HBL.out.1.frozen 2
  have hsc : c < (w.alloc (.cells #[.int .i64 x.kind, .int .i64 (x.at_ : Int), .int .i64 x.num, .string (txt x.name), .int .i64 x.ins.op, .int .i64 x.ins.d, .int .i64 x.ins.a, .int .i64 x.ins.b, .int .i64 x.ins.imm, .int .i64 x.target.kind, .int .i64 x.target.num, .int .i64 (x.target.at_ : Int), .string (txt x.target.text)] 69)).heap.size := HBL.out.lt
  generalize lay1 f x p = Z at *
  clear hB
  clear hk
  go_enter Tryd.func34, Tryd.ntmps34
  go_wp2_with fail
  obtain ⟨q1, q2⟩ := HB0.out.resize x.num
  exact bodyPost_ret (v := .tuple #[.int .i64 0, .int .i64 0]) (by simp [results, Tryd.results34, go_sem]) rfl (LayOut.ok HZ.out rfl (q1.alloc _) (q2.alloc (by simp [World.setCell]; omega) _))

set_option maxHeartbeats 4000000 in
theorem lay_byte_no (x : PartZ) (p : Prog) (w : World) (c m n : Nat) (f : List UInt8 → Option (Int × Int)) (vc vd : Value) (hB : Bld w c m n f p vc vd) (hk : x.kind = 4) (hb : x.num < 0 ∨ 255 < x.num) :
    Calls Tryd.prog 34 #[.pointer (some ⟨c, 0, none⟩), .agg #[.int .i64 x.kind, .int .i64 (x.at_ : Int), .int .i64 x.num, .string (txt x.name), .int .i64 x.ins.op, .int .i64 x.ins.d, .int .i64 x.ins.a, .int .i64 x.ins.b, .int .i64 x.ins.imm, .int .i64 x.target.kind, .int .i64 x.target.num, .int .i64 (x.target.at_ : Int), .string (txt x.target.text)]] w (LayOut w c m n f (lay1 f x p)) := by
  have hlt := hB.lt
  have HXB : Hid (Box (w.alloc (.cells #[.int .i64 x.kind, .int .i64 (x.at_ : Int), .int .i64 x.num, .string (txt x.name), .int .i64 x.ins.op, .int .i64 x.ins.d, .int .i64 x.ins.a, .int .i64 x.ins.b, .int .i64 x.ins.imm, .int .i64 x.target.kind, .int .i64 x.target.num, .int .i64 (x.target.at_ : Int), .string (txt x.target.text)] 69)) w.heap.size (partL x)) := Box.new w (partL x) _
  have HBL := Lib.hid (hB.alloc (.cells #[.int .i64 x.kind, .int .i64 (x.at_ : Int), .int .i64 x.num, .string (txt x.name), .int .i64 x.ins.op, .int .i64 x.ins.d, .int .i64 x.ins.a, .int .i64 x.ins.b, .int .i64 x.ins.imm, .int .i64 x.target.kind, .int .i64 x.target.num, .int .i64 (x.target.at_ : Int), .string (txt x.target.text)] 69))
  have HBW : Hid (Below c w (w.alloc (.cells #[.int .i64 x.kind, .int .i64 (x.at_ : Int), .int .i64 x.num, .string (txt x.name), .int .i64 x.ins.op, .int .i64 x.ins.d, .int .i64 x.ins.a, .int .i64 x.ins.b, .int .i64 x.ins.imm, .int .i64 x.target.kind, .int .i64 x.target.num, .int .i64 (x.target.at_ : Int), .string (txt x.target.text)] 69))) := (Below.refl c w).alloc (Nat.le_of_lt hlt) _
  have HN1 : Hid (vc.ownBlock ≠ some w.heap.size) := fun e => by have := (hB.2.2.1.lt _ e).2; omega
  have HN2 : Hid (vd.ownBlock ≠ some w.heap.size) := fun e => by have := (hB.2.2.2.1.lt _ e).2; omega
  have hcx : c ≠ w.heap.size := by omega
  have HB0 := Lib.hid hB
  have HZ : Hid (lay1 f x p = .bad x.at_ 8) := by show _ = _; unfold lay1; rw [if_neg (by omega), if_neg (by omega), if_pos hk, if_pos hb]
  have hk1 : (x.kind == 1) = false := by simp [hk]
  have hk3 : (x.kind == 3) = false := by simp [hk]
  have hk4 : (x.kind == 4) = true := by simp [hk]
  generalize lay1 f x p = Z at *
  clear hB
  clear hk
  go_enter Tryd.func34, Tryd.ntmps34
  by_cases hn : x.num < 0
  · have n1 : decide (x.num < 0) = true := decide_eq_true hn
    clear hb hn
    go_wp2_with fail
    exact bodyPost_ret (v := .tuple #[.int .i64 (x.at_ : Int), .int .i64 8]) (by simp [results, Tryd.results34, go_sem]) rfl (LayOut.bad HZ.out rfl HBW.out)
  · have n1 : decide (x.num < 0) = false := decide_eq_false hn
    have n2 : decide (255 < x.num) = true := decide_eq_true (by omega)
    clear hb hn
    go_wp2_with fail
    exact bodyPost_ret (v := .tuple #[.int .i64 (x.at_ : Int), .int .i64 8]) (by simp [results, Tryd.results34, go_sem]) rfl (LayOut.bad HZ.out rfl HBW.out)

set_option maxHeartbeats 4000000 in
theorem lay_byte_yes (x : PartZ) (p : Prog) (w : World) (c m n : Nat) (f : List UInt8 → Option (Int × Int)) (vc vd : Value) (hB : Bld w c m n f p vc vd) (hpd : p.data.length ≤ 1000000) (hk : x.kind = 4) (hn0 : 0 ≤ x.num) (hn1 : x.num ≤ 255) :
    Calls Tryd.prog 34 #[.pointer (some ⟨c, 0, none⟩), .agg #[.int .i64 x.kind, .int .i64 (x.at_ : Int), .int .i64 x.num, .string (txt x.name), .int .i64 x.ins.op, .int .i64 x.ins.d, .int .i64 x.ins.a, .int .i64 x.ins.b, .int .i64 x.ins.imm, .int .i64 x.target.kind, .int .i64 x.target.num, .int .i64 (x.target.at_ : Int), .string (txt x.target.text)]] w (LayOut w c m n f (lay1 f x p)) := by
  have hlt := hB.lt
  have HXB : Hid (Box (w.alloc (.cells #[.int .i64 x.kind, .int .i64 (x.at_ : Int), .int .i64 x.num, .string (txt x.name), .int .i64 x.ins.op, .int .i64 x.ins.d, .int .i64 x.ins.a, .int .i64 x.ins.b, .int .i64 x.ins.imm, .int .i64 x.target.kind, .int .i64 x.target.num, .int .i64 (x.target.at_ : Int), .string (txt x.target.text)] 69)) w.heap.size (partL x)) := Box.new w (partL x) _
  have HBL := Lib.hid (hB.alloc (.cells #[.int .i64 x.kind, .int .i64 (x.at_ : Int), .int .i64 x.num, .string (txt x.name), .int .i64 x.ins.op, .int .i64 x.ins.d, .int .i64 x.ins.a, .int .i64 x.ins.b, .int .i64 x.ins.imm, .int .i64 x.target.kind, .int .i64 x.target.num, .int .i64 (x.target.at_ : Int), .string (txt x.target.text)] 69))
  have HBW : Hid (Below c w (w.alloc (.cells #[.int .i64 x.kind, .int .i64 (x.at_ : Int), .int .i64 x.num, .string (txt x.name), .int .i64 x.ins.op, .int .i64 x.ins.d, .int .i64 x.ins.a, .int .i64 x.ins.b, .int .i64 x.ins.imm, .int .i64 x.target.kind, .int .i64 x.target.num, .int .i64 (x.target.at_ : Int), .string (txt x.target.text)] 69))) := (Below.refl c w).alloc (Nat.le_of_lt hlt) _
  have HN1 : Hid (vc.ownBlock ≠ some w.heap.size) := fun e => by have := (hB.2.2.1.lt _ e).2; omega
  have HN2 : Hid (vd.ownBlock ≠ some w.heap.size) := fun e => by have := (hB.2.2.2.1.lt _ e).2; omega
  have hcx : c ≠ w.heap.size := by omega
  have HB0 := Lib.hid hB
  have HZ : Hid (lay1 f x p = .ok { p with data := p.data ++ [x.num] }) := by show _ = _; unfold lay1; rw [if_neg (by omega), if_neg (by omega), if_pos hk, if_neg (by omega)]
  have hk1 : (x.kind == 1) = false := by simp [hk]
  have hk3 : (x.kind == 3) = false := by simp [hk]
  have hk4 : (x.kind == 4) = true := by simp [hk]
  have n1 : decide (x.num < 0) = false := decide_eq_false (by omega)
  have n2 : decide (255 < x.num) = false := decide_eq_false (by omega)
  have HPD := Lib.hid hpd
  have HN := Lib.hid (show 0 ≤ x.num ∧ x.num ≤ 255 from ⟨hn0, hn1⟩)
  generalize lay1 f x p = Z at *
  clear hB
  clear hk hpd hn0 hn1
  go_enter Tryd.func34, Tryd.ntmps34
  go_wp2_with fail
  generalize (w.alloc (.cells #[.int .i64 x.kind, .int .i64 (x.at_ : Int), .int .i64 x.num, .string (txt x.name), .int .i64 x.ins.op, .int .i64 x.ins.d, .int .i64 x.ins.a, .int .i64 x.ins.b, .int .i64 x.ins.imm, .int .i64 x.target.kind, .int .i64 x.target.num, .int .i64 (x.target.at_ : Int), .string (txt x.target.text)] 69)) = X at *
  have HL3 : Hid (Bld X.drew c m n f p vc vd) := HBL.out.drew
  have hS0 : X.drew.cell? ⟨w.heap.size, 2, none⟩ = some (.int .i64 x.num) := HXB.out.cell (k := 2) rfl
  refine wp_region_tree (fun a x => _) (LinT.of [(0, true), (1, true), (2, true), (3, true), (4, true), (6, true), (7, true), (8, true)] (.two 5 9 (LinT.of [(9, false), (10, false), (11, true), (12, true), (13, true), (14, false)] .nil) (LinT.of [(5, false), (10, false), (11, true), (12, true), (13, true), (14, false)] .nil))) (by kernel_rfl) (by kernel_rfl) rfl (by kernel_rfl) (fun y => y.cell? ⟨w.heap.size, 2, none⟩ = some (.int .i64 x.num)) (fun _ _ h => h) ?_
  simp only [LinT.of, LinT.look, List.getElem?_toArray, List.getElem?_cons_succ, List.getElem?_cons_zero]
  iterate 8 (refine tree_take (v := ?_) hS0 (by rfl) ?_ ?_; rotate_left; (intro y hy; go_simp; try (with_reducible rfl)); (simp only [Act.put, List.setIfInBounds_toArray, List.set_cons_zero, List.set_cons_succ]))
  have hw : IntKind.u8.wrap x.num = x.num := IntWalk.u8_in _ HN.out
  try rw [hw]
  clear hw
  obtain ⟨i0, hi, hz0, hz1, hz2⟩ := info_parts info_byte8
  have HI := Lib.hid hi
  have HZ0 := Lib.hid hz0
  have HZ1 := Lib.hid hz1
  have HZ2 := Lib.hid hz2
  clear hi hz0 hz1 hz2
  have c1 : X.drew.cell? ⟨c, 3, none⟩ = some vd := HL3.out.1.cell (k := 3) rfl
  have c1x : X.cell? ⟨c, 3, none⟩ = some vd := c1
  have hcl : c < X.drew.heap.size := HL3.out.lt
  have hcl2 : c < X.heap.size := HL3.out.lt
  have hpcc := HPD.out
  have HEND : Hid (∀ (o : Obj) (y3 : World) (v3 : Value), (X.drew.alloc o).grownBy y3 vd.ownBlock → y3.ownsRow (c + 1) 5 1 v3 (p.data.length + 1) (p.data.map (Value.int .u8) ++ [.int .u8 x.num]) →
      (Bld (y3.setCell ⟨c, 3, none⟩ v3) c m n f { p with data := p.data ++ [x.num] } vc v3 ∧ Below c w (y3.setCell ⟨c, 3, none⟩ v3)) ∧ y3.cell? ⟨w.heap.size, 2, none⟩ = some (.int .i64 x.num) ∧ y3.cell? ⟨c, 3, none⟩ = some vd ∧ y3.frozen? ⟨c, 3, none⟩ = false ∧ c < y3.heap.size ∧ ∃ A3 k3, v3 = .slice A3 (p.data.length + 1) k3) := by
    intro o y3 v3 hg ho
    have hne : some c ≠ vd.ownBlock := fun e => by have := (HL3.out.2.2.2.1.lt c e.symm).1; omega
    obtain ⟨q1, q2⟩ := HL3.out.byte hg ho
    obtain ⟨A3, k3, h3⟩ := (Row.of_own ho).form
    have hb2 := HL3.out.1.alloc o
    refine ⟨⟨q1, HBW.out.drew.trans q2⟩, ((HXB.out.drew.alloc o).grown hg (fun e => HN2.out e.symm)).cell (k := 2) rfl, hg.cell (hb2.cell (k := 3) rfl) hne, ?_, ?_, A3, k3, h3⟩
    · rw [World.frozen?_of_block (w := X.drew.alloc o) (hg.block c hb2.lt hne)]; exact hb2.frozen 3
    · have := hg.size; have := hb2.lt; omega
  refine tree_two hS0 (by rfl) (by rfl) (fun K hK => ?_) (fun K hK => ?_)
  · go_simp
    refine hK.out _ _ hS0 (fun _ => ?_)
    clear hK K
    try (simp only [Act.put, List.setIfInBounds_toArray, List.set_cons_zero, List.set_cons_succ])
    refine tree_call hS0 (by rfl) (fun K hK => ?_)
    go_simp
    have hSa : (X.drew.alloc (.cells #[.int .u8 x.num] 5)).cell? ⟨w.heap.size, 2, none⟩ = some (.int .i64 x.num) := (HXB.out.drew.alloc _).cell (k := 2) rfl
    refine hK.out _ _ hSa (fun _ => ?_)
    clear hK K
    try (simp only [Act.put, List.setIfInBounds_toArray, List.set_cons_zero, List.set_cons_succ])
    refine tree_call hSa (by rfl) (fun K hK => ?_)
    refine wp_append_row _ (.tmp 48) (.tmp 52) 24 rfl (c + 1) 5 i0 _ 1 1 Tryd.underlying24 HI.out HZ0.out HZ1.out HZ2.out rfl (by omega) _ p.data.length (p.data.map (Value.int .u8)) rfl (HL3.out.2.2.2.1.alloc _) _ (.slice (some ⟨X.heap.size, 0, none⟩) 1 1) 1 [.int .u8 x.num] rfl (row_list X.drew [.int .u8 x.num] _) (by simp [Value.oneCell']) (by unfold maxLen; omega) (by omega) (by have := HL3.out.lt; simp at this ⊢; omega) ?_
    intro v3 y3 hO3 hg3
    obtain ⟨PA, hS3, q3, q4, hy3, A3, k3, rfl⟩ := HEND.out _ _ _ hg3 hO3
    have HPA := Lib.hid PA
    clear hO3 hg3 PA
    refine hK.out _ _ hS3 (fun _ => ?_)
    clear hK K
    try (simp only [Act.put, List.setIfInBounds_toArray, List.set_cons_zero, List.set_cons_succ])
    iterate 3 (refine tree_take (v := ?_) hS3 (by rfl) ?_ ?_; rotate_left; (intro y hy; go_simp; try (with_reducible rfl)); (simp only [Act.put, List.setIfInBounds_toArray, List.set_cons_zero, List.set_cons_succ]))
    refine tree_call hS3 (by rfl) (fun K hK => ?_)
    go_simp
    refine hK.out _ _ ((World.cell?_setCell_other _ _ _ _ (fun e => hcx (congrArg Addr.block e))).trans hS3) (fun _ => ?_)
    clear hK K
    refine tree_done ?_
    try (simp only [Act.put, List.setIfInBounds_toArray, List.set_cons_zero, List.set_cons_succ])
    go_wp2_with fail
    exact bodyPost_ret (v := .tuple #[.int .i64 0, .int .i64 0]) (by simp [results, Tryd.results34, go_sem]) rfl (LayOut.ok HZ.out rfl HPA.out.1 HPA.out.2)
  · go_simp
    have hSa : (X.drew.alloc (.cells #[.int .u8 x.num] 5)).cell? ⟨w.heap.size, 2, none⟩ = some (.int .i64 x.num) := (HXB.out.drew.alloc _).cell (k := 2) rfl
    have c1a : (X.drew.alloc (.cells #[.int .u8 x.num] 5)).cell? ⟨c, 3, none⟩ = some vd := (World.cell?_alloc_lt _ _ _ hcl).trans c1
    have c1b : (X.alloc (.cells #[.int .u8 x.num] 5)).cell? ⟨c, 3, none⟩ = some vd := c1a
    refine hK.out _ _ hSa (fun _ => ?_)
    clear hK K
    try (simp only [Act.put, List.setIfInBounds_toArray, List.set_cons_zero, List.set_cons_succ])
    refine tree_call hSa (by rfl) (fun K hK => ?_)
    go_simp
    refine hK.out _ _ hSa (fun _ => ?_)
    clear hK K
    try (simp only [Act.put, List.setIfInBounds_toArray, List.set_cons_zero, List.set_cons_succ])
    refine tree_call hSa (by rfl) (fun K hK => ?_)
    refine wp_append_row _ (.tmp 48) (.tmp 52) 24 rfl (c + 1) 5 i0 _ 1 1 Tryd.underlying24 HI.out HZ0.out HZ1.out HZ2.out rfl (by omega) _ p.data.length (p.data.map (Value.int .u8)) rfl (HL3.out.2.2.2.1.alloc _) _ (.slice (some ⟨X.heap.size, 0, none⟩) 1 1) 1 [.int .u8 x.num] rfl (row_list X.drew [.int .u8 x.num] _) (by simp [Value.oneCell']) (by unfold maxLen; omega) (by omega) (by have := HL3.out.lt; simp at this ⊢; omega) ?_
    intro v3 y3 hO3 hg3
    obtain ⟨PA, hS3, q3, q4, hy3, A3, k3, rfl⟩ := HEND.out _ _ _ hg3 hO3
    have HPA := Lib.hid PA
    clear hO3 hg3 PA
    refine hK.out _ _ hS3 (fun _ => ?_)
    clear hK K
    try (simp only [Act.put, List.setIfInBounds_toArray, List.set_cons_zero, List.set_cons_succ])
    iterate 3 (refine tree_take (v := ?_) hS3 (by rfl) ?_ ?_; rotate_left; (intro y hy; go_simp; try (with_reducible rfl)); (simp only [Act.put, List.setIfInBounds_toArray, List.set_cons_zero, List.set_cons_succ]))
    refine tree_call hS3 (by rfl) (fun K hK => ?_)
    go_simp
    refine hK.out _ _ ((World.cell?_setCell_other _ _ _ _ (fun e => hcx (congrArg Addr.block e))).trans hS3) (fun _ => ?_)
    clear hK K
    refine tree_done ?_
    try (simp only [Act.put, List.setIfInBounds_toArray, List.set_cons_zero, List.set_cons_succ])
    go_wp2_with fail
    exact bodyPost_ret (v := .tuple #[.int .i64 0, .int .i64 0]) (by simp [results, Tryd.results34, go_sem]) rfl (LayOut.ok HZ.out rfl HPA.out.1 HPA.out.2)

set_option maxHeartbeats 4000000 in
theorem lay_ins (x : PartZ) (p : Prog) (w : World) (c m n : Nat) (f : List UInt8 → Option (Int × Int)) (vc vd : Value) (hB : Bld w c m n f p vc vd) (hpc : p.code.length ≤ 1000000) (htx : x.target.text.length ≤ 1000000) (hf : ∀ r, f x.target.text = some r → 0 ≤ r.2 ∧ r.2 ≤ 1000000) (hk : x.kind = 2) :
    Calls Tryd.prog 34 #[.pointer (some ⟨c, 0, none⟩), .agg #[.int .i64 x.kind, .int .i64 (x.at_ : Int), .int .i64 x.num, .string (txt x.name), .int .i64 x.ins.op, .int .i64 x.ins.d, .int .i64 x.ins.a, .int .i64 x.ins.b, .int .i64 x.ins.imm, .int .i64 x.target.kind, .int .i64 x.target.num, .int .i64 (x.target.at_ : Int), .string (txt x.target.text)]] w (LayOut w c m n f (lay1 f x p)) := by
  have hlt := hB.lt
  have HXB : Hid (Box (w.alloc (.cells #[.int .i64 x.kind, .int .i64 (x.at_ : Int), .int .i64 x.num, .string (txt x.name), .int .i64 x.ins.op, .int .i64 x.ins.d, .int .i64 x.ins.a, .int .i64 x.ins.b, .int .i64 x.ins.imm, .int .i64 x.target.kind, .int .i64 x.target.num, .int .i64 (x.target.at_ : Int), .string (txt x.target.text)] 69)) w.heap.size (partL x)) := Box.new w (partL x) _
  have HBL := Lib.hid (hB.alloc (.cells #[.int .i64 x.kind, .int .i64 (x.at_ : Int), .int .i64 x.num, .string (txt x.name), .int .i64 x.ins.op, .int .i64 x.ins.d, .int .i64 x.ins.a, .int .i64 x.ins.b, .int .i64 x.ins.imm, .int .i64 x.target.kind, .int .i64 x.target.num, .int .i64 (x.target.at_ : Int), .string (txt x.target.text)] 69))
  have HBW : Hid (Below c w (w.alloc (.cells #[.int .i64 x.kind, .int .i64 (x.at_ : Int), .int .i64 x.num, .string (txt x.name), .int .i64 x.ins.op, .int .i64 x.ins.d, .int .i64 x.ins.a, .int .i64 x.ins.b, .int .i64 x.ins.imm, .int .i64 x.target.kind, .int .i64 x.target.num, .int .i64 (x.target.at_ : Int), .string (txt x.target.text)] 69))) := (Below.refl c w).alloc (Nat.le_of_lt hlt) _
  have HN1 : Hid (vc.ownBlock ≠ some w.heap.size) := fun e => by have := (hB.2.2.1.lt _ e).2; omega
  have HN2 : Hid (vd.ownBlock ≠ some w.heap.size) := fun e => by have := (hB.2.2.2.1.lt _ e).2; omega
  have hcx : c ≠ w.heap.size := by omega
  have HB0 := Lib.hid hB
  have HZ : Hid (lay1 f x p = ins1 f x p) := by show _ = _; unfold lay1; rw [if_neg (by omega), if_neg (by omega), if_neg (by omega), if_pos hk]
  have hk1 : (x.kind == 1) = false := by simp [hk]
  have hk3 : (x.kind == 3) = false := by simp [hk]
  have hk4 : (x.kind == 4) = false := by simp [hk]
  have hk2 : (x.kind == 2) = true := by simp [hk]
  have hI := Lib.hid (bins_any x p _ c m n f vc vd HBL.out hpc htx hf)
  generalize lay1 f x p = Z at *
  clear hB
  generalize ins1 f x p = Z2 at *
  clear hk hpc htx hf
  go_enter Tryd.func34, Tryd.ntmps34
  go_wp2_with fail
  refine hI.out.mono ?_; rintro en w3 hL
  have HE := HZ.out
  subst HE
  cases Z with
  | bad a e =>
    obtain ⟨rfl, hb⟩ := hL
    have HB3 := Lib.hid (HBW.out.trans hb)
    clear hb
    go_wp2_with fail
    exact bodyPost_ret (v := .tuple #[.int .i64 (a : Int), .int .i64 e]) (by simp [results, Tryd.results34, go_sem]) rfl (LayOut.bad rfl rfl HB3.out)
  | ok p2 =>
    obtain ⟨rfl, ⟨vc2, vd2, hB2⟩, hb⟩ := hL
    have HB2 := Lib.hid hB2
    have HB3 := Lib.hid (HBW.out.trans hb)
    clear hb hB2
    go_wp2_with fail
    exact bodyPost_ret (v := .tuple #[.int .i64 0, .int .i64 0]) (by simp [results, Tryd.results34, go_sem]) rfl (LayOut.ok rfl rfl HB2.out HB3.out)

set_option maxHeartbeats 4000000 in
theorem lay_none (x : PartZ) (p : Prog) (w : World) (c m n : Nat) (f : List UInt8 → Option (Int × Int)) (vc vd : Value) (hB : Bld w c m n f p vc vd) (hk : ¬ (x.kind = 1 ∨ x.kind = 2 ∨ x.kind = 3 ∨ x.kind = 4)) :
    Calls Tryd.prog 34 #[.pointer (some ⟨c, 0, none⟩), .agg #[.int .i64 x.kind, .int .i64 (x.at_ : Int), .int .i64 x.num, .string (txt x.name), .int .i64 x.ins.op, .int .i64 x.ins.d, .int .i64 x.ins.a, .int .i64 x.ins.b, .int .i64 x.ins.imm, .int .i64 x.target.kind, .int .i64 x.target.num, .int .i64 (x.target.at_ : Int), .string (txt x.target.text)]] w (LayOut w c m n f (lay1 f x p)) := by
  have hlt := hB.lt
  have HXB : Hid (Box (w.alloc (.cells #[.int .i64 x.kind, .int .i64 (x.at_ : Int), .int .i64 x.num, .string (txt x.name), .int .i64 x.ins.op, .int .i64 x.ins.d, .int .i64 x.ins.a, .int .i64 x.ins.b, .int .i64 x.ins.imm, .int .i64 x.target.kind, .int .i64 x.target.num, .int .i64 (x.target.at_ : Int), .string (txt x.target.text)] 69)) w.heap.size (partL x)) := Box.new w (partL x) _
  have HBL := Lib.hid (hB.alloc (.cells #[.int .i64 x.kind, .int .i64 (x.at_ : Int), .int .i64 x.num, .string (txt x.name), .int .i64 x.ins.op, .int .i64 x.ins.d, .int .i64 x.ins.a, .int .i64 x.ins.b, .int .i64 x.ins.imm, .int .i64 x.target.kind, .int .i64 x.target.num, .int .i64 (x.target.at_ : Int), .string (txt x.target.text)] 69))
  have HBW : Hid (Below c w (w.alloc (.cells #[.int .i64 x.kind, .int .i64 (x.at_ : Int), .int .i64 x.num, .string (txt x.name), .int .i64 x.ins.op, .int .i64 x.ins.d, .int .i64 x.ins.a, .int .i64 x.ins.b, .int .i64 x.ins.imm, .int .i64 x.target.kind, .int .i64 x.target.num, .int .i64 (x.target.at_ : Int), .string (txt x.target.text)] 69))) := (Below.refl c w).alloc (Nat.le_of_lt hlt) _
  have HN1 : Hid (vc.ownBlock ≠ some w.heap.size) := fun e => by have := (hB.2.2.1.lt _ e).2; omega
  have HN2 : Hid (vd.ownBlock ≠ some w.heap.size) := fun e => by have := (hB.2.2.2.1.lt _ e).2; omega
  have hcx : c ≠ w.heap.size := by omega
  have HB0 := Lib.hid hB
  have HZ : Hid (lay1 f x p = .ok p) := by show _ = _; unfold lay1; rw [if_neg (by omega), if_neg (by omega), if_neg (by omega), if_neg (by omega)]
  have hk1 : (x.kind == 1) = false := by simp; omega
  have hk3 : (x.kind == 3) = false := by simp; omega
  have hk4 : (x.kind == 4) = false := by simp; omega
  have hk2 : (x.kind == 2) = false := by simp; omega
  generalize lay1 f x p = Z at *
  clear hB
  clear hk
  go_enter Tryd.func34, Tryd.ntmps34
  go_wp2_with fail
  exact bodyPost_ret (v := .tuple #[.int .i64 0, .int .i64 0]) (by simp [results, Tryd.results34, go_sem]) rfl (LayOut.ok HZ.out rfl HBL.out HBW.out)

theorem lay_any (x : PartZ) (p : Prog) (w : World) (c m n : Nat) (f : List UInt8 → Option (Int × Int)) (vc vd : Value) (hB : Bld w c m n f p vc vd) (hpc : p.code.length ≤ 1000000) (hpd : p.data.length ≤ 1000000) (hnm : x.name.length ≤ 1000000) (htx : x.target.text.length ≤ 1000000) (hf : ∀ r, f x.target.text = some r → 0 ≤ r.2 ∧ r.2 ≤ 1000000) :
    Calls Tryd.prog 34 #[.pointer (some ⟨c, 0, none⟩), .agg #[.int .i64 x.kind, .int .i64 (x.at_ : Int), .int .i64 x.num, .string (txt x.name), .int .i64 x.ins.op, .int .i64 x.ins.d, .int .i64 x.ins.a, .int .i64 x.ins.b, .int .i64 x.ins.imm, .int .i64 x.target.kind, .int .i64 x.target.num, .int .i64 (x.target.at_ : Int), .string (txt x.target.text)]] w (LayOut w c m n f (lay1 f x p)) := by
  by_cases h1 : x.kind = 1
  · by_cases hd : ((f x.name).getD (0, 0)).1 ≠ x.at_
    · exact lay_label_dup x p w c m n f vc vd hB h1 hnm hd
    · exact lay_label_new x p w c m n f vc vd hB h1 hnm hd
  by_cases h3 : x.kind = 3
  · exact lay_size x p w c m n f vc vd hB h3
  by_cases h4 : x.kind = 4
  · by_cases hb : x.num < 0 ∨ 255 < x.num
    · exact lay_byte_no x p w c m n f vc vd hB h4 hb
    · exact lay_byte_yes x p w c m n f vc vd hB hpd h4 (by omega) (by omega)
  by_cases h2 : x.kind = 2
  · exact lay_ins x p w c m n f vc vd hB hpc htx hf h2
  · exact lay_none x p w c m n f vc vd hB (by omega)
end Go.Proofs.YtfdegdbknponkaaDoor.Words

/- Each token's text stands where it begins: plain mathematics over lexZ. -/
namespace Go.Proofs.YtfdegdbknponkaaDoor.Words
set_option maxRecDepth 100000
set_option linter.unusedVariables false
open Go.Lib

/-- Where the token ahead of a place in the list ends. -/
def endAt (u : Option Tok) : Nat := match u with
  | some u => u.at_ + u.text.length
  | none => 0
def endOf (t : List Tok) : Nat → Nat
  | 0 => 0
  | i + 1 => endAt t[i]?
theorem endOf_succ (t : List Tok) (i : Nat) : endOf t (i + 1) = endAt t[i]? := rfl
/-- A token that stands. -/
structure Stands (l : List UInt8) (t : List Tok) (i : Nat) (k : Tok) : Prop where
  some_ : k.text ≠ []
  fits : k.at_ + k.text.length ≤ l.length
  text : (l.drop k.at_).take k.text.length = k.text
  kind : 1 ≤ k.kind ∧ k.kind ≤ 4
  num : k.kind ≠ 2 → k.num = 0
  from_ : endOf t i ≤ k.at_
  line : k.kind = 4 → ∃ u, 0 < i ∧ t[i - 1]? = some u ∧ u.kind ≠ 4
structure Good (l : List UInt8) (t : List Tok) (b : Nat) : Prop where
  each : ∀ i k, t[i]? = some k → Stands l t i k
  last : endOf t t.length ≤ b
theorem endOf_append {t : List Tok} (x : Tok) {i : Nat} (h : i ≤ t.length) : endOf (t ++ [x]) i = endOf t i := by
  cases i with
  | zero => rfl
  | succ i => rw [endOf_succ, endOf_succ, List.getElem?_append_left (by omega)]
theorem Good.add {l : List UInt8} {x : LexS} {kind num : Int} {p size : Nat} (h : Good l x.toks x.behind) (hb : x.behind ≤ p) (h0 : 0 < size) (hs : p + size ≤ l.length) (hk : 1 ≤ kind ∧ kind ≤ 4) (hn : kind ≠ 2 → num = 0) (hl : kind = 4 → lineB x.toks = true) :
    Good l (addZ l kind num p size x).toks (addZ l kind num p size x).behind := by
  have hlen : ((l.drop p).take size).length = size := by rw [List.length_take, List.length_drop]; omega
  have hap : ∀ i, i < x.toks.length → (x.toks ++ [(⟨kind, num, p, (l.drop p).take size⟩ : Tok)])[i]? = x.toks[i]? := fun i hi => List.getElem?_append_left hi
  constructor
  · intro i k hi
    show Stands l (x.toks ++ [⟨kind, num, p, (l.drop p).take size⟩]) i k
    have hi' : (x.toks ++ [(⟨kind, num, p, (l.drop p).take size⟩ : Tok)])[i]? = some k := hi
    by_cases hlt : i < x.toks.length
    · rw [hap i hlt] at hi'
      have g := h.each i k hi'
      refine ⟨g.some_, g.fits, g.text, g.kind, g.num, by rw [endOf_append _ (by omega)]; exact g.from_, fun hk4 => ?_⟩
      obtain ⟨u, h1, h2, h3⟩ := g.line hk4
      exact ⟨u, h1, by rw [hap (i - 1) (by omega)]; exact h2, h3⟩
    · have hii : i = x.toks.length := by
        have := (List.getElem?_eq_some_iff.1 hi').1
        rw [List.length_append] at this
        simp at this
        omega
      subst hii
      rw [List.getElem?_append_right (Nat.le_refl _), Nat.sub_self] at hi'
      simp only [List.getElem?_cons_zero, Option.some.injEq] at hi'
      subst hi'
      refine ⟨?_, by rw [hlen]; exact hs, by rw [hlen], hk, hn, ?_, fun hk4 => ?_⟩
      · intro e
        have := congrArg List.length e
        rw [hlen] at this
        simp at this
        omega
      · rw [endOf_append _ (Nat.le_refl _)]
        exact Nat.le_trans h.last hb
      · have hlb := hl hk4
        unfold lineB at hlb
        rw [List.getLast?_eq_getElem?] at hlb
        cases hu : x.toks[x.toks.length - 1]? with
        | none => rw [hu] at hlb; cases hlb
        | some u =>
          rw [hu] at hlb
          have hlt := (List.getElem?_eq_some_iff.1 hu).1
          exact ⟨u, by omega, by rw [hap _ hlt]; exact hu, of_decide_eq_true hlb⟩
  · show endOf (x.toks ++ [⟨kind, num, p, (l.drop p).take size⟩]) (x.toks ++ [(⟨kind, num, p, (l.drop p).take size⟩ : Tok)]).length ≤ p + size
    rw [List.length_append]
    show endOf _ (x.toks.length + 1) ≤ _
    rw [endOf_succ, List.getElem?_append_right (Nat.le_refl _), Nat.sub_self]
    simp only [List.getElem?_cons_zero, endAt]
    rw [hlen]
    exact Nat.le_refl _
theorem Good.flag {l : List UInt8} {x : LexS} {r : Bool} (h : Good l x.toks x.behind) : Good l ({ x with remark := r } : LexS).toks ({ x with remark := r } : LexS).behind := h
theorem firstR_name {r : Int} (h : firstR r = true) : nameR r = true := by unfold nameR; rw [h]; rfl
theorem nameZ_pos {l : List UInt8} (hne : l ≠ []) (h : firstR (runeR l) = true) : 0 < nameZ l := by
  unfold nameZ
  have hl : 0 < l.length := List.length_pos_iff.2 hne
  obtain ⟨f, hf⟩ : ∃ f, l.length = f + 1 := ⟨l.length - 1, by omega⟩
  rw [hf]
  unfold nameF
  rw [if_pos hl, List.drop_zero, if_pos (firstR_name h)]
  have h1 := wideR_pos l
  have h2 := wideR_le hne
  have := (nameF_le l f (0 + wideR l) (by omega)).1
  omega
theorem takeZ_good {l : List UInt8} {p : Nat} {x : LexS} (hp : p < l.length) (h : Good l x.toks x.behind) (hb : x.behind ≤ p) : Good l (takeZ l p x).2.toks (takeZ l p x).2.behind ∧ ((takeZ l p x).1 = 0 ∨ (takeZ l p x).1 = 5 ∨ (takeZ l p x).1 = 8) := by
  have hne := from_ne hp
  unfold takeZ
  split
  · exact ⟨h, .inr (.inl rfl)⟩
  split
  · refine ⟨?_, .inl rfl⟩
    unfold lineZ
    split
    · rename_i hlb
      exact Good.add (x := { x with remark := false }) h hb (by omega) (by omega) (by omega) (fun _ => rfl) (fun _ => hlb)
    · exact h
  split
  · exact ⟨h, .inl rfl⟩
  split
  · exact ⟨h, .inl rfl⟩
  split
  · rename_i hf
    have h1 := nameZ_le (l.drop p)
    rw [List.length_drop] at h1
    exact ⟨h.add hb (nameZ_pos hne hf) (by omega) (by omega) (fun _ => rfl) (fun e => by cases e), .inl rfl⟩
  split
  · exact ⟨h.add hb (by omega) (by omega) (by omega) (fun _ => rfl) (fun e => by cases e), .inl rfl⟩
  · unfold numberZ
    split
    · exact ⟨h, .inr (.inl rfl)⟩
    split
    · exact ⟨h, .inr (.inr rfl)⟩
    · have h1 := numZ_le (l.drop p)
      rw [List.length_drop] at h1
      exact ⟨h.add hb (by omega) (by omega) (by omega) (fun e => absurd rfl e) (fun e => by cases e), .inl rfl⟩
/-- What a text is, stands. -/
def StandR (l : List UInt8) : LexR → Prop
  | .toks t => ∀ i k, t[i]? = some k → Stands l t i k
  | .bad a e => a < l.length ∧ (e = 5 ∨ e = 8)
theorem lexF_good {l : List UInt8} : ∀ (f p : Nat) (x : LexS), Good l x.toks x.behind → StandR l (lexF l f p x)
  | 0, p, x, h => h.each
  | f + 1, p, x, h => by
    unfold lexF
    split
    · rename_i hp
      split
      · exact lexF_good f _ x h
      · rename_i hb
        have g := takeZ_good hp h (by omega)
        split
        · exact lexF_good f _ _ g.1
        · rename_i he
          exact ⟨hp, by rcases g.2 with g | g | g <;> first | exact absurd g he | exact .inl g | exact .inr g⟩
    · exact h.each
theorem lexZ_good {l : List UInt8} (h : l.length ≤ 20000) : StandR l (lexZ l) := by
  unfold lexZ
  rw [if_neg (by omega)]
  exact lexF_good _ _ _ ⟨fun i k hi => by simp at hi, Nat.le_refl _⟩
end Go.Proofs.YtfdegdbknponkaaDoor.Words

/- Contracts of the document's own Target, Targets and RightProgram. -/
namespace Go.Proofs.YtfdegdbknponkaaDoor.Words
set_option maxRecDepth 100000
open Go.RowKit
set_option linter.unusedVariables false

theorem targetZ_no {n k : Nat} {i : Ins} (h : isJump i = false ∨ i.imm < -8192 ∨ 8191 < i.imm ∨ (k : Int) + i.imm < 0 ∨ (n : Int) ≤ k + i.imm) : targetZ n k i = -1 := by unfold targetZ; rw [if_pos h]
theorem targetZ_yes {n k : Nat} {i : Ins} (h1 : isJump i = true) (h2 : -8192 ≤ i.imm) (h3 : i.imm ≤ 8191) (h4 : 0 ≤ (k : Int) + i.imm) (h5 : (k : Int) + i.imm < n) : targetZ n k i = k + i.imm := by
  unfold targetZ; rw [if_neg]; simp [h1]; omega

set_option maxHeartbeats 2000000 in
theorem refTarget_any (b off c k : Nat) (sz : Int) (vd : Value) (l : List Ins) (i : Ins) (w : World) (hr : Row w w.heap.size 5 (.slice (some ⟨b, off, none⟩) l.length c) l.length (codeCells l)) (hk : l[k]? = some i) (hsmall : l.length ≤ 4294967296) :
    Calls Tryd.prog 59 #[.agg #[.slice (some ⟨b, off, none⟩) l.length c, .int .i64 sz, vd], .int .i64 k] w fun e w' => e = .returned (.int .i64 (targetZ l.length k i)) ∧ Below w.heap.size w w' := by
  have hlt : k < l.length := by rw [List.getElem?_eq_some_iff] at hk; exact hk.1
  obtain ⟨hcl, hcm⟩ := hr.cap
  obtain ⟨b', off', e0, hb, _⟩ := hr.at_ (by omega)
  injection e0 with e0
  injection e0 with e1 e2
  subst e1 e2
  obtain ⟨c0, c1, c2, c3, c4⟩ := hr.ins hk
  have T1 := Lib.hid (fun h => targetZ_no (n := l.length) (k := k) (i := i) h)
  have T2 := Lib.hid (fun h1 h2 h3 h4 h5 => targetZ_yes (n := l.length) (k := k) (i := i) h1 h2 h3 h4 h5)
  have J := Lib.hid (isJump_form i)
  clear hr hk
  generalize l.length = n at *
  have hk0 : (0 : Int) ≤ k := by omega
  have hk1 : (k : Int) < n := by omega
  have hF := formZ_range i.op
  have HB := Lib.hid (fun o1 o2 => ((Below.refl w.heap.size w).alloc (Nat.le_refl _) o1).alloc (by simp) o2)
  go_enter Tryd.func59, Tryd.ntmps59
  go_wp2_with fail
  refine (refForm_any _ _).mono ?_; rintro e w1 ⟨rfl, rfl⟩
  by_cases hj : formZ i.op = 6 ∨ formZ i.op = 7
  · have HJ := Lib.hid (J.out.2 hj)
    have hor := Lib.hid hj
    by_cases h1 : i.imm < -8192
    · have t := Lib.hid (T1.out (.inr (.inl h1)))
      rcases hj with hj | hj
      all_goals
        rw [hj]
        go_wp2_with fail
        go_ret
        exact ⟨ret_int t.out.symm, HB.out _ _⟩
    by_cases h2 : 8191 < i.imm
    · have t := Lib.hid (T1.out (.inr (.inr (.inl h2))))
      rcases hj with hj | hj
      all_goals
        rw [hj]
        go_wp2_with fail
        go_ret
        exact ⟨ret_int t.out.symm, HB.out _ _⟩
    by_cases h3 : (k : Int) + i.imm < 0
    · have t := Lib.hid (T1.out (.inr (.inr (.inr (.inl h3)))))
      rcases hj with hj | hj
      all_goals
        rw [hj]
        go_wp2_with fail
        go_ret
        exact ⟨ret_int t.out.symm, HB.out _ _⟩
    by_cases h4 : (n : Int) ≤ k + i.imm
    · have t := Lib.hid (T1.out (.inr (.inr (.inr (.inr h4)))))
      rcases hj with hj | hj
      all_goals
        rw [hj]
        go_wp2_with fail
        go_ret
        exact ⟨ret_int t.out.symm, HB.out _ _⟩
    · have t := Lib.hid (T2.out HJ.out (by omega) (by omega) (by omega) (by omega))
      rcases hj with hj | hj
      all_goals
        rw [hj]
        go_wp2_with fail
        go_ret
        exact ⟨ret_int t.out.symm, HB.out _ _⟩
  · have t := Lib.hid (T1.out (.inl (by
      have := J.out
      cases hh : isJump i
      · rfl
      · exact absurd (this.1 hh) hj)))
    have k1 : (formZ i.op == 6) = false := by simp; omega
    have k2 : (formZ i.op == 7) = false := by simp; omega
    have k3 : (formZ i.op != 6) = true := by simp; omega
    have k4 : (formZ i.op != 7) = true := by simp; omega
    clear hj
    go_wp2_with fail
    go_ret
    exact ⟨ret_int t.out.symm, HB.out _ _⟩
end Go.Proofs.YtfdegdbknponkaaDoor.Words

/- 'Kept W x': below the heap of W nothing has turned. The condition for chains of calls that make memory. Nothing here speaks of one program. -/
namespace Go.Proofs.YtfdegdbknponkaaDoor.Words
set_option maxRecDepth 100000
open Go.RowKit
/-- Nothing that was there has turned. -/
def Kept (W x : World) : Prop := Below W.heap.size W x
theorem Kept.refl (W : World) : Kept W W := Below.refl _ _
theorem Kept.to {W x y : World} (h : Kept W x) (hb : Below x.heap.size x y) : Kept W y := Below.trans h (hb.mono (Below.size h))
theorem Kept.drewN {W x : World} (h : Kept W x) (k : Nat) : Kept W (x.drewN k) := Below.drewN_ h k
theorem Kept.drew {W x : World} (h : Kept W x) : Kept W x.drew := Below.drew h
theorem Kept.alloc {W x : World} (h : Kept W x) (o : Obj) : Kept W (x.alloc o) := Below.alloc h (Below.size h) o
theorem Kept.cell {W x : World} (h : Kept W x) {b o : Nat} {v : Value} (hb : b < W.heap.size) (hv : W.cell? ⟨b, o, none⟩ = some v) : x.cell? ⟨b, o, none⟩ = some v := by
  rw [Below.cell (p := ⟨b, o, none⟩) h hb]; exact hv
theorem Kept.size {W x : World} (h : Kept W x) : W.heap.size ≤ x.heap.size := Below.size h
theorem Kept.row {W x : World} (h : Kept W x) {s n : Nat} {v : Value} {xs : List Value} (hr : Row W W.heap.size s v n xs) : Row x x.heap.size s v n xs := (hr.below h).more h.size
theorem Kept.trans {W x y : World} (h : Kept W x) (g : Kept x y) : Kept W y := h.to g
end Go.Proofs.YtfdegdbknponkaaDoor.Words

/- Contracts of the document's own Targets and RightProgram. -/
namespace Go.Proofs.YtfdegdbknponkaaDoor.Words
set_option maxRecDepth 100000
open Go.RowKit
set_option linter.unusedVariables false

theorem targetsOk_step {n j : Nat} {l : List Ins} {i : Ins} (h : l[j]? = some i) : targetsOk n j (l.drop j) = (!badTarget n j i && targetsOk n (j + 1) (l.drop (j + 1))) := by
  obtain ⟨hlt, rfl⟩ := List.getElem?_eq_some_iff.1 h
  rw [List.drop_eq_getElem_cons hlt]; rfl
def errT (b : Bool) : Int := if b = true then 0 else 4
theorem all_step {l : List Ins} {j : Nat} {i : Ins} (h : l[j]? = some i) : (l.drop j).all rightB = (rightB i && (l.drop (j + 1)).all rightB) := by
  obtain ⟨hlt, rfl⟩ := List.getElem?_eq_some_iff.1 h
  rw [List.drop_eq_getElem_cons hlt]; rfl
theorem at_some {l : List Ins} {j : Nat} (h : j < l.length) : ∃ i, l[j]? = some i := ⟨_, List.getElem?_eq_getElem h⟩

set_option maxHeartbeats 2000000 in
theorem refTargets_any (A : Option Addr) (c : Nat) (sz : Int) (vd : Value) (l : List Ins) (w : World) (hr : Row w w.heap.size 5 (.slice A l.length c) l.length (codeCells l)) (hsmall : l.length ≤ 4294967296) :
    Calls Tryd.prog 39 #[.agg #[.slice A l.length c, .int .i64 sz, vd]] w fun e w' => e = .returned (.int .i64 (errT (targetsOk l.length 0 l))) ∧ Below w.heap.size w w' := by
  obtain ⟨hcl, hcm⟩ := hr.cap
  have HK := Lib.hid (fun (x : World) (h : Kept (w.alloc (.cells #[.slice A l.length c, .int .i64 sz, vd] 26)) x) => ((Below.refl w.heap.size w).alloc (Nat.le_refl _) _).trans (h.mono (by simp)))
  by_cases hn : l.length = 0
  · have hl : l = [] := List.eq_nil_of_length_eq_zero hn
    subst hl
    go_enter Tryd.func39, Tryd.ntmps39
    go_wp2_with fail
    refine wp_loop_rounds 1 ?_
    rw [rounds_succ]
    go_wp2_with fail
    go_ret
    exact ⟨rfl, HK.out _ (Kept.refl _)⟩
  obtain ⟨b, off, rfl, hb, _⟩ := hr.at_ hn
  have hB : w.heap.size < (w.alloc (.cells #[.slice (some ⟨b, off, none⟩) l.length c, .int .i64 sz, vd] 26)).heap.size := by simp
  have HR := Lib.hid (hr.alloc (Nat.le_refl _) (.cells #[.slice (some ⟨b, off, none⟩) l.length c, .int .i64 sz, vd] 26) |>.more (Nat.le_of_lt hB))
  have HA := Lib.hid (fun j h => at_some (l := l) (j := j) h)
  have HT := Lib.hid (fun j i h => targetsOk_step (n := l.length) (j := j) (l := l) (i := i) h)
  have HE := Lib.hid (fun (k : Nat) (h : l.length ≤ k) => List.drop_eq_nil_of_le h)
  have H0 := Lib.hid (show targetsOk l.length 0 l = targetsOk l.length 0 (l.drop 0) by rw [List.drop_zero])
  have HC := Lib.hid (fun (x : World) (h : Kept (w.alloc (.cells #[.slice (some ⟨b, off, none⟩) l.length c, .int .i64 sz, vd] 26)) x) (k : Nat) (i : Ins) (hi : l[k]? = some i) =>
    (h.row HR.out).ins hi)
  have HD := Lib.hid (fun (x : World) (h : Kept (w.alloc (.cells #[.slice (some ⟨b, off, none⟩) l.length c, .int .i64 sz, vd] 26)) x) (k : Nat) (i : Ins) (hi : l[k]? = some i) =>
    refTarget_any b off c k sz vd l i x (h.row HR.out) hi hsmall)
  have c0 : (w.alloc (.cells #[.slice (some ⟨b, off, none⟩) l.length c, .int .i64 sz, vd] 26)).cell? ⟨w.heap.size, 0, none⟩ = some (.slice (some ⟨b, off, none⟩) l.length c) := by go_simp
  have c1 : (w.alloc (.cells #[.slice (some ⟨b, off, none⟩) l.length c, .int .i64 sz, vd] 26)).cell? ⟨w.heap.size, 1, none⟩ = some (.int .i64 sz) := by go_simp
  have c2 : (w.alloc (.cells #[.slice (some ⟨b, off, none⟩) l.length c, .int .i64 sz, vd] 26)).cell? ⟨w.heap.size, 2, none⟩ = some vd := by go_simp
  go_enter Tryd.func39, Tryd.ntmps39
  go_wp2_with fail
  generalize w.alloc (.cells #[.slice (some ⟨b, off, none⟩) l.length c, .int .i64 sz, vd] 26) = W at *
  have C0 := Lib.hid (fun (x : World) (h : Kept W x) => h.cell hB c0)
  have C1 := Lib.hid (fun (x : World) (h : Kept W x) => h.cell hB c1)
  have C2 := Lib.hid (fun (x : World) (h : Kept W x) => h.cell hB c2)
  clear c0 c1 c2 hr hB
  generalize hN : l.length = n at *
  have HN := Lib.hid hN
  clear hN
  go_loopw [3] (fun i wr => ∃ j : Nat, j ≤ n ∧ i = .int .i64 j ∧ Kept W wr ∧ targetsOk n 0 l = targetsOk n j (l.drop j)) (fun i _ => n - (intOf i).toNat)
  case atStart => exact ⟨0, Nat.zero_le _, rfl, Kept.refl _, H0.out⟩
  case round =>
    obtain ⟨j, hj, rfl, hK, hT⟩ := hrel
    have HTJ := Lib.hid hT
    clear hT
    have c0 := C0.out _ hK
    by_cases hlt : j < n
    · obtain ⟨i, hi⟩ := HA.out j hlt
      have hs := Lib.hid (HT.out j i hi)
      obtain ⟨d0, _, _, _, _⟩ := HC.out _ hK j i hi
      have k0 : (0 : Int) ≤ j := by omega
      have k1 : (j : Int) < n := by omega
      go_wp2_with fail
      refine (refForm_any _ _).mono ?_; rintro e w1 ⟨rfl, rfl⟩
      by_cases hj6 : formZ i.op = 6 ∨ formZ i.op = 7
      · have HJ := Lib.hid ((isJump_form i).2 hj6)
        have c1 := C1.out _ hK
        have c2 := C2.out _ hK
        have HDi := Lib.hid (HD.out _ hK j i hi)
        rcases hj6 with hj6 | hj6
        all_goals
          rw [hj6]
          go_wp2_with fail
          refine HDi.out.mono ?_; rintro e w2 ⟨rfl, hb2⟩
          have hK2 := hK.to hb2
          by_cases ht : targetZ n j i < 0
          · have hbad : badTarget n j i = true := by unfold badTarget; rw [HJ.out]; simp [ht]
            have hres := Lib.hid (show errT (targetsOk n 0 l) = 4 by rw [HTJ.out, hs.out, hbad]; rfl)
            go_wp2_with fail
            go_ret
            exact ⟨ret_int (by rw [HN.out]; exact hres.out.symm), HK.out _ hK2⟩
          · have hok : badTarget n j i = false := by unfold badTarget; simp [ht]
            have hres := Lib.hid (show targetsOk n 0 l = targetsOk n (j + 1) (l.drop (j + 1)) by rw [HTJ.out, hs.out, hok]; rfl)
            go_wp2_with fail
            go_roundw
            case rel => exact ⟨j + 1, by omega, by go_num, hK2, hres.out⟩
            case measure => simp [intOf]; omega
      · have hok : badTarget n j i = false := by
          have : isJump i = false := by
            cases hh : isJump i
            · rfl
            · exact absurd ((isJump_form i).1 hh) hj6
          unfold badTarget; rw [this]; rfl
        have hres := Lib.hid (show targetsOk n 0 l = targetsOk n (j + 1) (l.drop (j + 1)) by rw [HTJ.out, hs.out, hok]; rfl)
        have q1 : (formZ i.op == 6) = false := by simp; omega
        have q2 : (formZ i.op == 7) = false := by simp; omega
        clear hok hj6
        go_wp2_with fail
        go_roundw
        case rel => exact ⟨j + 1, by omega, by go_num, hK, hres.out⟩
        case measure => simp [intOf]; omega
    · have hres := Lib.hid (show errT (targetsOk n 0 l) = 0 by rw [HTJ.out, HE.out j (by omega)]; rfl)
      go_wp2_with fail
      go_ret
      exact ⟨ret_int (by rw [HN.out]; exact hres.out.symm), HK.out _ hK⟩

/-- The numbers of a program that may be. -/
def sizesOk (n : Nat) (sz : Int) (m : Nat) : Bool := decide (1 ≤ n ∧ n ≤ 2000 ∧ 0 ≤ sz ∧ sz ≤ 65536 ∧ (m : Int) ≤ sz)
def rightZ (l : List Ins) (sz : Int) (m : Nat) : Bool := sizesOk l.length sz m && l.all rightB && targetsOk l.length 0 l
theorem rightZ_no {l : List Ins} {sz : Int} {m : Nat} (h : ¬ (1 ≤ l.length ∧ l.length ≤ 2000 ∧ 0 ≤ sz ∧ sz ≤ 65536 ∧ (m : Int) ≤ sz)) : rightZ l sz m = false := by
  unfold rightZ sizesOk; rw [decide_eq_false h]; rfl
theorem rightZ_all {l : List Ins} {sz : Int} {m : Nat} (h : l.all rightB = false) : rightZ l sz m = false := by
  unfold rightZ; rw [h]; simp
theorem rightZ_yes {l : List Ins} {sz : Int} {m : Nat} (h : 1 ≤ l.length ∧ l.length ≤ 2000 ∧ 0 ≤ sz ∧ sz ≤ 65536 ∧ (m : Int) ≤ sz) (ha : l.all rightB = true) : rightZ l sz m = targetsOk l.length 0 l := by
  unfold rightZ sizesOk; rw [decide_eq_true h, ha]; rfl
theorem right_prog (p : Prog) : p.right = rightZ p.code p.size p.data.length := rfl

set_option maxHeartbeats 4000000 in
theorem refRight_any (A : Option Addr) (c : Nat) (sz : Int) (A' : Option Addr) (m c' : Nat) (l : List Ins) (w : World) (hr : Row w w.heap.size 5 (.slice A l.length c) l.length (codeCells l)) (hm : m ≤ c') (hc' : c' ≤ 9223372036854775807) :
    Calls Tryd.prog 19 #[.agg #[.slice A l.length c, .int .i64 sz, .slice A' m c']] w fun e w' => e = .returned (.bool (rightZ l sz m)) ∧ Below w.heap.size w w' := by
  obtain ⟨hcl, hcm⟩ := hr.cap
  have HK := Lib.hid (fun (x : World) (h : Kept (w.alloc (.cells #[.slice A l.length c, .int .i64 sz, .slice A' m c'] 26)) x) => ((Below.refl w.heap.size w).alloc (Nat.le_refl _) _).trans (h.mono (by simp)))
  by_cases hno : 1 ≤ l.length ∧ l.length ≤ 2000 ∧ 0 ≤ sz ∧ sz ≤ 65536 ∧ (m : Int) ≤ sz
  rotate_left
  · rw [rightZ_no hno]
    clear hr
    generalize l.length = n at *
    by_cases h1 : n < 1
    · go_enter Tryd.func19, Tryd.ntmps19
      go_wp2_with fail
      go_ret
      exact ⟨rfl, HK.out _ (Kept.refl _)⟩
    by_cases h2 : 2000 < n
    · go_enter Tryd.func19, Tryd.ntmps19
      go_wp2_with fail
      go_ret
      exact ⟨rfl, HK.out _ (Kept.refl _)⟩
    by_cases h3 : sz < 0
    · go_enter Tryd.func19, Tryd.ntmps19
      go_wp2_with fail
      go_ret
      exact ⟨rfl, HK.out _ (Kept.refl _)⟩
    by_cases h4 : 65536 < sz
    · go_enter Tryd.func19, Tryd.ntmps19
      go_wp2_with fail
      go_ret
      exact ⟨rfl, HK.out _ (Kept.refl _)⟩
    have h5 : sz < (m : Int) := by omega
    clear hno
    go_enter Tryd.func19, Tryd.ntmps19
    go_wp2_with fail
    go_ret
    exact ⟨rfl, HK.out _ (Kept.refl _)⟩
  have HNO := Lib.hid hno
  obtain ⟨n1, n2, n3, n4, n5⟩ := hno
  obtain ⟨b, off, rfl, hb, _⟩ := hr.at_ (by omega)
  have hB : w.heap.size < (w.alloc (.cells #[.slice (some ⟨b, off, none⟩) l.length c, .int .i64 sz, .slice A' m c'] 26)).heap.size := by simp
  have HR := Lib.hid (hr.alloc (Nat.le_refl _) (.cells #[.slice (some ⟨b, off, none⟩) l.length c, .int .i64 sz, .slice A' m c'] 26) |>.more (Nat.le_of_lt hB))
  have HA := Lib.hid (fun j h => at_some (l := l) (j := j) h)
  have HT := Lib.hid (fun j i h => all_step (j := j) (l := l) (i := i) h)
  have HE := Lib.hid (fun (k : Nat) (h : l.length ≤ k) => List.drop_eq_nil_of_le h)
  have H0 := Lib.hid (show l.all rightB = (l.drop 0).all rightB by rw [List.drop_zero])
  have HC := Lib.hid (fun (x : World) (h : Kept (w.alloc (.cells #[.slice (some ⟨b, off, none⟩) l.length c, .int .i64 sz, .slice A' m c'] 26)) x) (k : Nat) (i : Ins) (hi : l[k]? = some i) =>
    (h.row HR.out).ins hi)
  have HD := Lib.hid (fun (x : World) (h : Kept (w.alloc (.cells #[.slice (some ⟨b, off, none⟩) l.length c, .int .i64 sz, .slice A' m c'] 26)) x) =>
    refTargets_any (some ⟨b, off, none⟩) c sz (.slice A' m c') l x (h.row HR.out) (Nat.le_trans n2 (by omega)))
  have HF := Lib.hid (fun h => rightZ_all (l := l) (sz := sz) (m := m) h)
  have HY := Lib.hid (fun h => rightZ_yes (l := l) HNO.out h)
  have c0 : (w.alloc (.cells #[.slice (some ⟨b, off, none⟩) l.length c, .int .i64 sz, .slice A' m c'] 26)).cell? ⟨w.heap.size, 0, none⟩ = some (.slice (some ⟨b, off, none⟩) l.length c) := by go_simp
  have c1 : (w.alloc (.cells #[.slice (some ⟨b, off, none⟩) l.length c, .int .i64 sz, .slice A' m c'] 26)).cell? ⟨w.heap.size, 1, none⟩ = some (.int .i64 sz) := by go_simp
  have c2 : (w.alloc (.cells #[.slice (some ⟨b, off, none⟩) l.length c, .int .i64 sz, .slice A' m c'] 26)).cell? ⟨w.heap.size, 2, none⟩ = some (.slice A' m c') := by go_simp
  clear HNO
  go_enter Tryd.func19, Tryd.ntmps19
  go_wp2_with fail
  generalize w.alloc (.cells #[.slice (some ⟨b, off, none⟩) l.length c, .int .i64 sz, .slice A' m c'] 26) = W at *
  have C0 := Lib.hid (fun (x : World) (h : Kept W x) => h.cell hB c0)
  have C1 := Lib.hid (fun (x : World) (h : Kept W x) => h.cell hB c1)
  have C2 := Lib.hid (fun (x : World) (h : Kept W x) => h.cell hB c2)
  clear c0 c1 c2 hr hB
  generalize hN : l.length = n at *
  have HN := Lib.hid hN
  clear hN
  go_loopw [3] (fun i wr => ∃ j : Nat, j ≤ n ∧ i = .int .i64 j ∧ Kept W wr ∧ l.all rightB = (l.drop j).all rightB) (fun i _ => n - (intOf i).toNat)
  case atStart => exact ⟨0, Nat.zero_le _, rfl, Kept.refl _, H0.out⟩
  case round =>
    obtain ⟨j, hj, rfl, hK, hT⟩ := hrel
    have HTJ := Lib.hid hT
    clear hT
    have c0 := C0.out _ hK
    by_cases hlt : j < n
    · obtain ⟨i, hi⟩ := HA.out j hlt
      have hs := Lib.hid (HT.out j i hi)
      obtain ⟨d0, d1, d2, d3, d4⟩ := HC.out _ hK j i hi
      have k0 : (0 : Int) ≤ j := by omega
      have k1 : (j : Int) < n := by omega
      go_wp2_with fail
      refine (rightIns_any i _).mono ?_; rintro e w1 ⟨rfl, hb2⟩
      have hK2 := hK.to hb2
      clear hb2
      cases hri : rightB i
      · have hres := Lib.hid (HF.out (by rw [HTJ.out, hs.out, hri]; rfl))
        go_wp2_with fail
        go_ret
        exact ⟨ret_bool hres.out.symm, HK.out _ hK2⟩
      · have hres := Lib.hid (show l.all rightB = (l.drop (j + 1)).all rightB by rw [HTJ.out, hs.out, hri]; rfl)
        go_wp2_with fail
        go_roundw
        case rel => exact ⟨j + 1, by omega, by go_num, hK2, hres.out⟩
        case measure => simp [intOf]; omega
    · have hres := Lib.hid (HY.out (by rw [HTJ.out, HE.out j (by omega)]; rfl))
      have c1 := C1.out _ hK
      have c2 := C2.out _ hK
      have HDx := Lib.hid (HD.out _ hK)
      go_wp2_with fail
      refine HDx.out.mono ?_; rintro e w2 ⟨rfl, hb2⟩
      have hK2 := hK.to hb2
      clear hb2
      cases ht : targetsOk n 0 l
      · rw [ht] at hres
        have e4 : errT false = 4 := rfl
        rw [e4]
        go_wp2_with fail
        go_ret
        exact ⟨ret_bool hres.out.symm, HK.out _ hK2⟩
      · rw [ht] at hres
        have e4 : errT true = 0 := rfl
        rw [e4]
        go_wp2_with fail
        go_ret
        exact ⟨ret_bool hres.out.symm, HK.out _ hK2⟩
end Go.Proofs.YtfdegdbknponkaaDoor.Words

/- Contracts of package image: numbers, Targets, Right. -/
namespace Go.Proofs.YtfdegdbknponkaaDoor.Words
set_option maxRecDepth 100000
open Go.RowKit
set_option linter.unusedVariables false

set_option maxHeartbeats 400000 in
theorem numbersOf_any (A A' : Option Addr) (n c m c' : Nat) (sz : Int) (w : World) (hn : n ≤ 9223372036854775807) (hm : m ≤ 9223372036854775807) :
    Calls Tryd.prog 75 #[.agg #[.slice A n c, .int .i64 sz, .slice A' m c']] w fun e w' => e = .returned (.agg #[.int .i64 n, .int .i64 sz, .int .i64 m]) ∧ Below w.heap.size w w' := by
  go_enter Tryd.func75, Tryd.ntmps75
  go_wp2_with fail
  refine bodyPost_ret (v := .agg #[.int .i64 n, .int .i64 sz, .int .i64 m]) (by simp [results, Tryd.results75, go_sem]; done) rfl ⟨rfl, ?_⟩
  exact ((Below.refl w.heap.size w).alloc (Nat.le_refl _) _).alloc (by simp) _

/-- The numbers that may be. -/
def fitN (n sz m : Int) : Bool := decide (1 ≤ n ∧ n ≤ 2000 ∧ 0 ≤ sz ∧ sz ≤ 65536 ∧ 0 ≤ m ∧ m ≤ sz)
theorem fitN_no {n sz m : Int} (h : ¬ (1 ≤ n ∧ n ≤ 2000 ∧ 0 ≤ sz ∧ sz ≤ 65536 ∧ 0 ≤ m ∧ m ≤ sz)) : fitN n sz m = false := decide_eq_false h
theorem fitN_yes {n sz m : Int} (h : 1 ≤ n ∧ n ≤ 2000 ∧ 0 ≤ sz ∧ sz ≤ 65536 ∧ 0 ≤ m ∧ m ≤ sz) : fitN n sz m = true := decide_eq_true h
set_option maxHeartbeats 2000000 in
theorem fit_any (n sz m : Int) (w : World) :
    Calls Tryd.prog 76 #[.agg #[.int .i64 n, .int .i64 sz, .int .i64 m]] w fun e w' => e = .returned (.bool (fitN n sz m)) ∧ Below w.heap.size w w' := by
  by_cases h1 : n < 1
  · rw [fitN_no (by omega)]
    go_enter Tryd.func76, Tryd.ntmps76
    go_wp2_with fail
    go_ret
    exact ⟨rfl, (Below.refl _ _).alloc (Nat.le_refl _) _⟩
  by_cases h2 : 2000 < n
  · rw [fitN_no (by omega)]
    go_enter Tryd.func76, Tryd.ntmps76
    go_wp2_with fail
    go_ret
    exact ⟨rfl, (Below.refl _ _).alloc (Nat.le_refl _) _⟩
  by_cases h3 : sz < 0
  · rw [fitN_no (by omega)]
    go_enter Tryd.func76, Tryd.ntmps76
    go_wp2_with fail
    go_ret
    exact ⟨rfl, (Below.refl _ _).alloc (Nat.le_refl _) _⟩
  by_cases h4 : 65536 < sz
  · rw [fitN_no (by omega)]
    go_enter Tryd.func76, Tryd.ntmps76
    go_wp2_with fail
    go_ret
    exact ⟨rfl, (Below.refl _ _).alloc (Nat.le_refl _) _⟩
  by_cases h5 : m < 0
  · rw [fitN_no (by omega)]
    go_enter Tryd.func76, Tryd.ntmps76
    go_wp2_with fail
    go_ret
    exact ⟨rfl, (Below.refl _ _).alloc (Nat.le_refl _) _⟩
  by_cases h6 : sz < m
  · rw [fitN_no (by omega)]
    go_enter Tryd.func76, Tryd.ntmps76
    go_wp2_with fail
    go_ret
    exact ⟨ret_bool (by simp; try omega), (Below.refl _ _).alloc (Nat.le_refl _) _⟩
  · rw [fitN_yes (by omega)]
    go_enter Tryd.func76, Tryd.ntmps76
    go_wp2_with fail
    go_ret
    exact ⟨ret_bool (by simp; try omega), (Below.refl _ _).alloc (Nat.le_refl _) _⟩

set_option maxHeartbeats 400000 in
theorem hasTarget_any (i : Ins) (w : World) :
    Calls Tryd.prog 73 #[.int .i64 i.op] w fun e w' => e = .returned (.bool (isJump i)) ∧ w = w' := by
  have hF := formZ_range i.op
  have HJ := Lib.hid (isJump_form i)
  go_enter Tryd.func73, Tryd.ntmps73
  go_wp2_with fail
  refine (form_any _ _).mono ?_; rintro e w1 ⟨rfl, rfl⟩
  by_cases h6 : formZ i.op = 6
  · have hj := Lib.hid (HJ.out.2 (.inl h6))
    rw [h6]
    go_wp2_with fail
    go_ret
    exact ⟨ret_bool hj.out.symm, rfl⟩
  by_cases h7 : formZ i.op = 7
  · have hj := Lib.hid (HJ.out.2 (.inr h7))
    rw [h7]
    go_wp2_with fail
    go_ret
    exact ⟨ret_bool hj.out.symm, rfl⟩
  · have hj : isJump i = false := by
      cases hh : isJump i
      · rfl
      · rcases HJ.out.1 hh with h | h <;> omega
    have hj := Lib.hid hj
    clear HJ
    go_wp2_with fail
    go_ret
    exact ⟨ret_bool (by rw [hj.out]; simp; omega), rfl⟩

/-- Is a target in the code? -/
theorem badTarget_eq {n k : Nat} {i : Ins} (hk : k < n) (hn : n ≤ 8192) : badTarget n k i = (isJump i && !decide (-(k : Int) ≤ i.imm ∧ i.imm < n - k)) := by
  unfold badTarget
  cases hj : isJump i
  · rfl
  · simp only [Bool.true_and]
    by_cases h : -(k : Int) ≤ i.imm ∧ i.imm < n - k
    · rw [targetZ_yes hj (by omega) (by omega) (by omega) (by omega), decide_eq_true h]; simp; omega
    · rw [targetZ_no (by omega), decide_eq_false h]; rfl
set_option maxHeartbeats 400000 in
theorem within_any (n k : Nat) (imm : Int) (w : World) (hk : k < n) (hn : n ≤ 8192) :
    Calls Tryd.prog 74 #[.int .i64 k, .int .i64 imm, .int .i64 n] w fun e w' => e = .returned (.bool (decide (-(k : Int) ≤ imm ∧ imm < n - k))) ∧ w = w' := by
  by_cases h1 : -(k : Int) ≤ imm
  · by_cases h2 : imm < n - k
    · have hr : decide (-(k : Int) ≤ imm ∧ imm < n - k) = true := decide_eq_true ⟨h1, h2⟩
      rw [hr]
      clear hr
      go_enter Tryd.func74, Tryd.ntmps74
      go_wp2_with fail
      go_ret
      exact ⟨rfl, rfl⟩
    · have hr : decide (-(k : Int) ≤ imm ∧ imm < n - k) = false := decide_eq_false (fun h => h2 h.2)
      rw [hr]
      clear hr
      go_enter Tryd.func74, Tryd.ntmps74
      go_wp2_with fail
      go_ret
      exact ⟨rfl, rfl⟩
  · have hr : decide (-(k : Int) ≤ imm ∧ imm < n - k) = false := decide_eq_false (fun h => h1 h.1)
    rw [hr]
    clear hr
    go_enter Tryd.func74, Tryd.ntmps74
    go_wp2_with fail
    go_ret
    exact ⟨rfl, rfl⟩
end Go.Proofs.YtfdegdbknponkaaDoor.Words

/- Contracts of package image: Targets, Right. -/
namespace Go.Proofs.YtfdegdbknponkaaDoor.Words
set_option maxRecDepth 100000
open Go.RowKit
set_option linter.unusedVariables false

set_option maxHeartbeats 2000000 in
theorem targets_any (A : Option Addr) (c : Nat) (sz : Int) (vd : Value) (l : List Ins) (w : World) (hr : Row w w.heap.size 5 (.slice A l.length c) l.length (codeCells l)) (hsmall : l.length ≤ 8192) :
    Calls Tryd.prog 48 #[.agg #[.slice A l.length c, .int .i64 sz, vd]] w fun e w' => e = .returned (.int .i64 (errT (targetsOk l.length 0 l))) ∧ Below w.heap.size w w' := by
  obtain ⟨hcl, hcm⟩ := hr.cap
  have HK := Lib.hid (fun (x : World) (h : Kept (w.alloc (.cells #[.slice A l.length c, .int .i64 sz, vd] 26)) x) => ((Below.refl w.heap.size w).alloc (Nat.le_refl _) _).trans (h.mono (by simp)))
  by_cases hn : l.length = 0
  · have hl : l = [] := List.eq_nil_of_length_eq_zero hn
    subst hl
    go_enter Tryd.func48, Tryd.ntmps48
    go_wp2_with fail
    refine wp_loop_rounds 1 ?_
    rw [rounds_succ]
    go_wp2_with fail
    go_ret
    exact ⟨rfl, HK.out _ (Kept.refl _)⟩
  obtain ⟨b, off, rfl, hb, _⟩ := hr.at_ hn
  have hB : w.heap.size < (w.alloc (.cells #[.slice (some ⟨b, off, none⟩) l.length c, .int .i64 sz, vd] 26)).heap.size := by simp
  have HR := Lib.hid (hr.alloc (Nat.le_refl _) (.cells #[.slice (some ⟨b, off, none⟩) l.length c, .int .i64 sz, vd] 26) |>.more (Nat.le_of_lt hB))
  have HA := Lib.hid (fun j h => at_some (l := l) (j := j) h)
  have HT := Lib.hid (fun j i h => targetsOk_step (n := l.length) (j := j) (l := l) (i := i) h)
  have HE := Lib.hid (fun (k : Nat) (h : l.length ≤ k) => List.drop_eq_nil_of_le h)
  have H0 := Lib.hid (show targetsOk l.length 0 l = targetsOk l.length 0 (l.drop 0) by rw [List.drop_zero])
  have HC := Lib.hid (fun (x : World) (h : Kept (w.alloc (.cells #[.slice (some ⟨b, off, none⟩) l.length c, .int .i64 sz, vd] 26)) x) (k : Nat) (i : Ins) (hi : l[k]? = some i) =>
    (h.row HR.out).ins hi)
  have c0 : (w.alloc (.cells #[.slice (some ⟨b, off, none⟩) l.length c, .int .i64 sz, vd] 26)).cell? ⟨w.heap.size, 0, none⟩ = some (.slice (some ⟨b, off, none⟩) l.length c) := by go_simp
  go_enter Tryd.func48, Tryd.ntmps48
  go_wp2_with fail
  generalize w.alloc (.cells #[.slice (some ⟨b, off, none⟩) l.length c, .int .i64 sz, vd] 26) = W at *
  have C0 := Lib.hid (fun (x : World) (h : Kept W x) => h.cell hB c0)
  clear c0 hr hB
  generalize hN : l.length = n at *
  have HN := Lib.hid hN
  clear hN
  go_loopw [8] (fun i wr => ∃ j : Nat, j ≤ n ∧ i = .int .i64 j ∧ Kept W wr ∧ targetsOk n 0 l = targetsOk n j (l.drop j)) (fun i _ => n - (intOf i).toNat)
  case atStart => exact ⟨0, Nat.zero_le _, rfl, Kept.refl _, H0.out⟩
  case round =>
    obtain ⟨j, hj, rfl, hK, hT⟩ := hrel
    have HTJ := Lib.hid hT
    clear hT
    by_cases hlt : j < n
    · obtain ⟨i, hi⟩ := HA.out j hlt
      have hs := Lib.hid (HT.out j i hi)
      obtain ⟨d0, d1, d2, d3, d4⟩ := HC.out _ hK j i hi
      have k0 : (0 : Int) ≤ j := by omega
      have k1 : (j : Int) < n := by omega
      have hbad := Lib.hid (badTarget_eq (n := n) (k := j) (i := i) hlt hsmall)
      have C0x := C0.out _ (hK.alloc (.cells #[.int .i64 i.op, .int .i64 i.d, .int .i64 i.a, .int .i64 i.b, .int .i64 i.imm] 38))
      go_wp2_with fail
      refine (hasTarget_any i _).mono ?_; rintro e w1 ⟨rfl, rfl⟩
      have hK2 := hK.alloc (.cells #[.int .i64 i.op, .int .i64 i.d, .int .i64 i.a, .int .i64 i.b, .int .i64 i.imm] 38)
      cases hjm : isJump i
      · have hok : badTarget n j i = false := by rw [hbad.out, hjm]; rfl
        have hres := Lib.hid (show targetsOk n 0 l = targetsOk n (j + 1) (l.drop (j + 1)) by rw [HTJ.out, hs.out, hok]; rfl)
        clear hok
        go_wp2_with fail
        go_roundw
        case rel => exact ⟨j + 1, by omega, by go_num, hK2, hres.out⟩
        case measure => simp [intOf]; omega
      · go_wp2_with fail
        refine (within_any n j i.imm _ hlt hsmall).mono ?_; rintro e w2 ⟨rfl, rfl⟩
        cases hw : decide (-(j : Int) ≤ i.imm ∧ i.imm < n - j)
        · have hres := Lib.hid (show errT (targetsOk n 0 l) = 4 by rw [HTJ.out, hs.out, hbad.out, hjm, hw]; rfl)
          clear hw
          go_wp2_with fail
          go_ret
          exact ⟨ret_int (by rw [HN.out]; exact hres.out.symm), HK.out _ hK2⟩
        · have hres := Lib.hid (show targetsOk n 0 l = targetsOk n (j + 1) (l.drop (j + 1)) by rw [HTJ.out, hs.out, hbad.out, hjm, hw]; rfl)
          clear hw
          go_wp2_with fail
          go_roundw
          case rel => exact ⟨j + 1, by omega, by go_num, hK2, hres.out⟩
          case measure => simp [intOf]; omega
    · have hres := Lib.hid (show errT (targetsOk n 0 l) = 0 by rw [HTJ.out, HE.out j (by omega)]; rfl)
      go_wp2_with fail
      go_ret
      exact ⟨ret_int (by rw [HN.out]; exact hres.out.symm), HK.out _ hK⟩

set_option maxHeartbeats 2000000 in
theorem allRight_any (A : Option Addr) (c : Nat) (l : List Ins) (w : World) (hr : Row w w.heap.size 5 (.slice A l.length c) l.length (codeCells l)) (hsmall : l.length ≤ 8192) :
    Calls Tryd.prog 77 #[.slice A l.length c] w fun e w' => e = .returned (.bool (l.all rightB)) ∧ Below w.heap.size w w' := by
  obtain ⟨hcl, hcm⟩ := hr.cap
  by_cases hn : l.length = 0
  · have hl : l = [] := List.eq_nil_of_length_eq_zero hn
    subst hl
    go_enter Tryd.func77, Tryd.ntmps77
    go_wp2_with fail
    refine wp_loop_rounds 1 ?_
    rw [rounds_succ]
    go_wp2_with fail
    go_ret
    exact ⟨rfl, Below.refl _ _⟩
  obtain ⟨b, off, rfl, hb, _⟩ := hr.at_ hn
  have HA := Lib.hid (fun j h => at_some (l := l) (j := j) h)
  have HT := Lib.hid (fun j i h => all_step (j := j) (l := l) (i := i) h)
  have HE := Lib.hid (fun (k : Nat) (h : l.length ≤ k) => List.drop_eq_nil_of_le h)
  have H0 := Lib.hid (show l.all rightB = (l.drop 0).all rightB by rw [List.drop_zero])
  have HC := Lib.hid (fun (x : World) (h : Kept w x) (k : Nat) (i : Ins) (hi : l[k]? = some i) => (h.row hr).ins hi)
  clear hr hb
  go_enter Tryd.func77, Tryd.ntmps77
  go_wp2_with fail
  generalize hN : l.length = n at *
  have HN := Lib.hid hN
  clear hN
  go_loopw [7] (fun i wr => ∃ j : Nat, j ≤ n ∧ i = .int .i64 j ∧ Kept w wr ∧ l.all rightB = (l.drop j).all rightB) (fun i _ => n - (intOf i).toNat)
  case atStart => exact ⟨0, Nat.zero_le _, rfl, Kept.refl _, H0.out⟩
  case round =>
    obtain ⟨j, hj, rfl, hK, hT⟩ := hrel
    have HTJ := Lib.hid hT
    clear hT
    by_cases hlt : j < n
    · obtain ⟨i, hi⟩ := HA.out j hlt
      have hs := Lib.hid (HT.out j i hi)
      obtain ⟨d0, d1, d2, d3, d4⟩ := HC.out _ hK j i hi
      have k0 : (0 : Int) ≤ j := by omega
      have k1 : (j : Int) < n := by omega
      go_wp2_with fail
      refine (right_any i _).mono ?_; rintro e w1 ⟨rfl, hb2⟩
      have hK2 := (hK.alloc _).to hb2
      clear hb2
      cases hri : rightB i
      · have hres := Lib.hid (show l.all rightB = false by rw [HTJ.out, hs.out, hri]; rfl)
        go_wp2_with fail
        go_ret
        exact ⟨ret_bool hres.out.symm, hK2⟩
      · have hres := Lib.hid (show l.all rightB = (l.drop (j + 1)).all rightB by rw [HTJ.out, hs.out, hri]; rfl)
        go_wp2_with fail
        go_roundw
        case rel => exact ⟨j + 1, by omega, by go_num, hK2, hres.out⟩
        case measure => simp [intOf]; omega
    · have hres := Lib.hid (show l.all rightB = true by rw [HTJ.out, HE.out j (by omega)]; rfl)
      go_wp2_with fail
      go_ret
      exact ⟨ret_bool hres.out.symm, hK⟩

theorem rightZ_fit {l : List Ins} {sz : Int} {m : Nat} : rightZ l sz m = (fitN l.length sz m && l.all rightB && targetsOk l.length 0 l) := by
  unfold rightZ sizesOk fitN
  congr 2
  rw [decide_eq_decide]
  omega
set_option maxHeartbeats 2000000 in
theorem imgRight_any (A : Option Addr) (c : Nat) (sz : Int) (A' : Option Addr) (m c' : Nat) (l : List Ins) (w : World) (hr : Row w w.heap.size 5 (.slice A l.length c) l.length (codeCells l)) (hm : m ≤ c') (hc' : c' ≤ 9223372036854775807) :
    Calls Tryd.prog 49 #[.agg #[.slice A l.length c, .int .i64 sz, .slice A' m c']] w fun e w' => e = .returned (.bool (rightZ l sz m)) ∧ Below w.heap.size w w' := by
  obtain ⟨hcl, hcm⟩ := hr.cap
  have HK := Lib.hid (fun (x : World) (h : Kept (w.alloc (.cells #[.slice A l.length c, .int .i64 sz, .slice A' m c'] 26)) x) => ((Below.refl w.heap.size w).alloc (Nat.le_refl _) _).trans (h.mono (by simp)))
  have hB : w.heap.size < (w.alloc (.cells #[.slice A l.length c, .int .i64 sz, .slice A' m c'] 26)).heap.size := by simp
  have HR := Lib.hid (hr.alloc (Nat.le_refl _) (.cells #[.slice A l.length c, .int .i64 sz, .slice A' m c'] 26) |>.more (Nat.le_of_lt hB))
  have c0 : (w.alloc (.cells #[.slice A l.length c, .int .i64 sz, .slice A' m c'] 26)).cell? ⟨w.heap.size, 0, none⟩ = some (.slice A l.length c) := by go_simp
  have c1 : (w.alloc (.cells #[.slice A l.length c, .int .i64 sz, .slice A' m c'] 26)).cell? ⟨w.heap.size, 1, none⟩ = some (.int .i64 sz) := by go_simp
  have c2 : (w.alloc (.cells #[.slice A l.length c, .int .i64 sz, .slice A' m c'] 26)).cell? ⟨w.heap.size, 2, none⟩ = some (.slice A' m c') := by go_simp
  have HZ := Lib.hid (rightZ_fit (l := l) (sz := sz) (m := m))
  have HS := Lib.hid (fun (h : fitN l.length sz m = true) => (show l.length ≤ 8192 by have := of_decide_eq_true h; omega))
  go_enter Tryd.func49, Tryd.ntmps49
  go_wp2_with fail
  generalize w.alloc (.cells #[.slice A l.length c, .int .i64 sz, .slice A' m c'] 26) = W at *
  have C0 := Lib.hid (fun (x : World) (h : Kept W x) => h.cell hB c0)
  have C1 := Lib.hid (fun (x : World) (h : Kept W x) => h.cell hB c1)
  have C2 := Lib.hid (fun (x : World) (h : Kept W x) => h.cell hB c2)
  have HA := Lib.hid (fun (x : World) (h : Kept W x) (hs : l.length ≤ 8192) => allRight_any A c l x (h.row HR.out) hs)
  have HT := Lib.hid (fun (x : World) (h : Kept W x) (hs : l.length ≤ 8192) => targets_any A c sz (.slice A' m c') l x (h.row HR.out) hs)
  clear c0 c1 c2 hr hB
  refine (numbersOf_any A A' l.length c m c' sz _ (by omega) (by omega)).mono ?_; rintro e w1 ⟨rfl, hb1⟩
  have k1 : Kept W w1 := hb1
  have c0 := C0.out _ k1
  clear hb1
  go_wp2_with fail
  refine (fit_any l.length sz m _).mono ?_; rintro e w2 ⟨rfl, hb2⟩
  have k2 := k1.to hb2
  have c0 := C0.out _ k2
  clear hb2 k1
  cases hf : fitN l.length sz m
  · have hres := Lib.hid (show rightZ l sz m = false by rw [HZ.out, hf]; rfl)
    go_wp2_with fail
    go_ret
    exact ⟨ret_bool hres.out.symm, HK.out _ k2⟩
  have hs := HS.out hf
  have HAx := Lib.hid (HA.out _ k2 hs)
  go_wp2_with fail
  refine HAx.out.mono ?_; rintro e w3 ⟨rfl, hb3⟩
  have k3 := k2.to hb3
  have c0 := C0.out _ k3
  have c1 := C1.out _ k3
  have c2 := C2.out _ k3
  clear hb3 k2
  cases ha : l.all rightB
  · have hres := Lib.hid (show rightZ l sz m = false by rw [HZ.out, hf, ha]; rfl)
    go_wp2_with fail
    go_ret
    exact ⟨ret_bool hres.out.symm, HK.out _ k3⟩
  have HTx := Lib.hid (HT.out _ k3 hs)
  go_wp2_with fail
  refine HTx.out.mono ?_; rintro e w4 ⟨rfl, hb4⟩
  have k4 := k3.to hb4
  clear hb4 k3
  cases ht : targetsOk l.length 0 l
  · have hres := Lib.hid (show rightZ l sz m = false by rw [HZ.out, hf, ha, ht]; rfl)
    have e4 : errT false = 4 := rfl
    rw [e4]
    go_wp2_with fail
    go_ret
    exact ⟨ret_bool hres.out.symm, HK.out _ k4⟩
  · have hres := Lib.hid (show rightZ l sz m = true by rw [HZ.out, hf, ha, ht]; rfl)
    have e4 : errT true = 0 := rfl
    rw [e4]
    go_wp2_with fail
    go_ret
    exact ⟨ret_bool hres.out.symm, HK.out _ k4⟩
end Go.Proofs.YtfdegdbknponkaaDoor.Words

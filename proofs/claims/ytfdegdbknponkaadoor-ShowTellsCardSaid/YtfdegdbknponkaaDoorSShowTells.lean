/- The walk of ShowTells: how any instruction, any program, and any cell is written. -/
import Derived.Test.YtfdegdbknponkaaDoorG13
import Derived.Test.YtfdegdbknponkaaDoorG14
import Derived.Test.YtfdegdbknponkaaDoorG12
import Derived.Test.YtfdegdbknponkaaDoorG11
import Derived.Test.YtfdegdbknponkaaDoorG02
namespace Go.Proofs.YtfdegdbknponkaaDoor.Words
set_option maxRecDepth 100000
open Go.RowKit Go.Shelf Go.Lib
set_option linter.unusedVariables false
set_option linter.unusedSimpArgs false

section
variable {A D : Option Addr} {c d : Nat} {p : Prog} {i : Ins} {z : Cel} {w : World}
set_option maxHeartbeats 2000000 in
theorem showTells_no (hT : TabsS w) (r : ProgV w w.heap.size (.slice A p.code.length c) (.slice D p.data.length d) p) (hf : fewB p.code.length p.data.length = false) :
    Calls Tryd.prog 8 #[.agg #[.int .i64 i.op, .int .i64 i.d, .int .i64 i.a, .int .i64 i.b, .int .i64 i.imm], .agg #[.slice A p.code.length c, .int .i64 p.size, .slice D p.data.length d], .agg #[.int .i64 z.kind, .int .i64 z.ins.op, .int .i64 z.ins.d, .int .i64 z.ins.a, .int .i64 z.ins.b, .int .i64 z.ins.imm, .int .i64 z.reg, .int .i64 z.pc, .int .i64 z.off]] w fun e w' => e = .returned (.bool true) ∧ Below w.heap.size w w' := by
  have cA := Lib.hid (fun y (hy : TabsS y) => alive9_any y hy)
  obtain ⟨u1, u2⟩ := r.code.cap
  obtain ⟨u3, u4⟩ := r.data.cap
  have hn63 : p.code.length ≤ 9223372036854775807 := by omega
  have hd63 : p.data.length ≤ 9223372036854775807 := by omega
  have hb1 := (Below.refl w.heap.size w).alloc (Nat.le_refl _) (.cells #[.int .i64 i.op, .int .i64 i.d, .int .i64 i.a, .int .i64 i.b, .int .i64 i.imm] 38)
  have hb2 := hb1.alloc (by simp) (.cells #[.slice A p.code.length c, .int .i64 p.size, .slice D p.data.length d] 26)
  have hb3 := hb2.alloc (by simp; omega) (.cells #[.int .i64 z.kind, .int .i64 z.ins.op, .int .i64 z.ins.d, .int .i64 z.ins.a, .int .i64 z.ins.b, .int .i64 z.ins.imm, .int .i64 z.reg, .int .i64 z.pc, .int .i64 z.off] 49)
  have hB : w.heap.size + 2 < (((w.alloc (.cells #[.int .i64 i.op, .int .i64 i.d, .int .i64 i.a, .int .i64 i.b, .int .i64 i.imm] 38)).alloc (.cells #[.slice A p.code.length c, .int .i64 p.size, .slice D p.data.length d] 26)).alloc (.cells #[.int .i64 z.kind, .int .i64 z.ins.op, .int .i64 z.ins.d, .int .i64 z.ins.a, .int .i64 z.ins.b, .int .i64 z.ins.imm, .int .i64 z.reg, .int .i64 z.pc, .int .i64 z.off] 49)).heap.size := by simp
  have HW := Lib.hid hb3
  have HT0 := Lib.hid (hT.below hb3)
  have HP := Lib.hid ((r.below hb3).more hb3.size)
  have HI0 := Lib.hid (((Box.new w [.int .i64 i.op, .int .i64 i.d, .int .i64 i.a, .int .i64 i.b, .int .i64 i.imm] 38).alloc (.cells #[.slice A p.code.length c, .int .i64 p.size, .slice D p.data.length d] 26)).alloc (.cells #[.int .i64 z.kind, .int .i64 z.ins.op, .int .i64 z.ins.d, .int .i64 z.ins.a, .int .i64 z.ins.b, .int .i64 z.ins.imm, .int .i64 z.reg, .int .i64 z.pc, .int .i64 z.off] 49))
  change Hid (Box (((w.alloc (.cells #[.int .i64 i.op, .int .i64 i.d, .int .i64 i.a, .int .i64 i.b, .int .i64 i.imm] 38)).alloc (.cells #[.slice A p.code.length c, .int .i64 p.size, .slice D p.data.length d] 26)).alloc (.cells #[.int .i64 z.kind, .int .i64 z.ins.op, .int .i64 z.ins.d, .int .i64 z.ins.a, .int .i64 z.ins.b, .int .i64 z.ins.imm, .int .i64 z.reg, .int .i64 z.pc, .int .i64 z.off] 49)) w.heap.size _) at HI0
  have hp0 := ((Box.new (w.alloc (.cells #[.int .i64 i.op, .int .i64 i.d, .int .i64 i.a, .int .i64 i.b, .int .i64 i.imm] 38)) [.slice A p.code.length c, .int .i64 p.size, .slice D p.data.length d] 26).alloc (.cells #[.int .i64 z.kind, .int .i64 z.ins.op, .int .i64 z.ins.d, .int .i64 z.ins.a, .int .i64 z.ins.b, .int .i64 z.ins.imm, .int .i64 z.reg, .int .i64 z.pc, .int .i64 z.off] 49))
  rw [show (w.alloc (.cells #[.int .i64 i.op, .int .i64 i.d, .int .i64 i.a, .int .i64 i.b, .int .i64 i.imm] 38)).heap.size = w.heap.size + 1 by simp] at hp0
  change Box (((w.alloc (.cells #[.int .i64 i.op, .int .i64 i.d, .int .i64 i.a, .int .i64 i.b, .int .i64 i.imm] 38)).alloc (.cells #[.slice A p.code.length c, .int .i64 p.size, .slice D p.data.length d] 26)).alloc (.cells #[.int .i64 z.kind, .int .i64 z.ins.op, .int .i64 z.ins.d, .int .i64 z.ins.a, .int .i64 z.ins.b, .int .i64 z.ins.imm, .int .i64 z.reg, .int .i64 z.pc, .int .i64 z.off] 49)) (w.heap.size + 1) _ at hp0
  have HP0 := Lib.hid hp0
  have hc0 := (Box.new ((w.alloc (.cells #[.int .i64 i.op, .int .i64 i.d, .int .i64 i.a, .int .i64 i.b, .int .i64 i.imm] 38)).alloc (.cells #[.slice A p.code.length c, .int .i64 p.size, .slice D p.data.length d] 26)) [.int .i64 z.kind, .int .i64 z.ins.op, .int .i64 z.ins.d, .int .i64 z.ins.a, .int .i64 z.ins.b, .int .i64 z.ins.imm, .int .i64 z.reg, .int .i64 z.pc, .int .i64 z.off] 49)
  rw [show ((w.alloc (.cells #[.int .i64 i.op, .int .i64 i.d, .int .i64 i.a, .int .i64 i.b, .int .i64 i.imm] 38)).alloc (.cells #[.slice A p.code.length c, .int .i64 p.size, .slice D p.data.length d] 26)).heap.size = w.heap.size + 2 by simp] at hc0
  change Box (((w.alloc (.cells #[.int .i64 i.op, .int .i64 i.d, .int .i64 i.a, .int .i64 i.b, .int .i64 i.imm] 38)).alloc (.cells #[.slice A p.code.length c, .int .i64 p.size, .slice D p.data.length d] 26)).alloc (.cells #[.int .i64 z.kind, .int .i64 z.ins.op, .int .i64 z.ins.d, .int .i64 z.ins.a, .int .i64 z.ins.b, .int .i64 z.ins.imm, .int .i64 z.reg, .int .i64 z.pc, .int .i64 z.off] 49)) (w.heap.size + 2) _ at hc0
  have HC0 := Lib.hid hc0
  clear hb1 hb2 hb3 hp0 hc0 hT r
  have HF := Lib.hid hf
  clear hf
  go_enter Tryd.func8, Tryd.ntmps8
  go_wp2_with fail
  generalize (((w.alloc (.cells #[.int .i64 i.op, .int .i64 i.d, .int .i64 i.a, .int .i64 i.b, .int .i64 i.imm] 38)).alloc (.cells #[.slice A p.code.length c, .int .i64 p.size, .slice D p.data.length d] 26)).alloc (.cells #[.int .i64 z.kind, .int .i64 z.ins.op, .int .i64 z.ins.d, .int .i64 z.ins.a, .int .i64 z.ins.b, .int .i64 z.ins.imm, .int .i64 z.reg, .int .i64 z.pc, .int .i64 z.off] 49)) = W at *
  refine (cA.out _ HT0.out).mono ?_; rintro e w1 ⟨rfl, hb1⟩
  have k1 : Kept W w1 := (Kept.refl _).to hb1
  clear hb1
  have d0 := (HP0.out.below k1 (by omega)).cell (k := 0) rfl
  have d1 := (HP0.out.below k1 (by omega)).cell (k := 1) rfl
  have d2 := (HP0.out.below k1 (by omega)).cell (k := 2) rfl
  go_wp2_with fail
  refine (few_any A D p.code.length c p.data.length d p.size _ hn63 hd63).mono ?_; rintro e w2 ⟨rfl, hb2⟩
  have k2 := k1.to hb2
  clear hb2 d0 d1 d2
  rw [HF.out]
  go_wp2_with fail
  go_ret
  exact ⟨by first | rfl | simp, HW.out.trans (Below.mono k2 (by omega))⟩

set_option maxHeartbeats 8000000 in
theorem showTells_in (hT : TabsS w) (r : ProgV w w.heap.size (.slice A p.code.length c) (.slice D p.data.length d) p) (fi : i.Fits) (fp : p.Fits) (fz : z.Fits) (hf : fewB p.code.length p.data.length = true) :
    Calls Tryd.prog 8 #[.agg #[.int .i64 i.op, .int .i64 i.d, .int .i64 i.a, .int .i64 i.b, .int .i64 i.imm], .agg #[.slice A p.code.length c, .int .i64 p.size, .slice D p.data.length d], .agg #[.int .i64 z.kind, .int .i64 z.ins.op, .int .i64 z.ins.d, .int .i64 z.ins.a, .int .i64 z.ins.b, .int .i64 z.ins.imm, .int .i64 z.reg, .int .i64 z.pc, .int .i64 z.off]] w fun e w' => e = .returned (.bool true) ∧ Below w.heap.size w w' := by
  obtain ⟨h6, h5⟩ : p.code.length ≤ 200 ∧ p.data.length ≤ 500 := by unfold fewB at hf; exact of_decide_eq_true hf
  have c1 := fun y (hy : TabsS y) => showIns_any i fi y hy
  have c2 := fun y => refShow_any i y
  have c3 := fun y (hy : TabsS y) (hp : ProgV y y.heap.size (.slice A p.code.length c) (.slice D p.data.length d) p) => showText_any A D c d p y hy hp fp (fun _ => ⟨by omega, by omega⟩)
  have c4 := fun y (hp : ProgV y y.heap.size (.slice A p.code.length c) (.slice D p.data.length d) p) => refText_any A D c d p y hp fp (by omega) (by omega)
  have c5 := fun y (hy : TabsS y) => showCell_any z fz y hy
  have c6 := fun y => refCell_any z fz y
  have CC1 := Lib.hid c1
  have CC2 := Lib.hid c2
  have CC3 := Lib.hid c3
  have CC4 := Lib.hid c4
  have CC5 := Lib.hid c5
  have CC6 := Lib.hid c6
  clear c1 c2 c3 c4 c5 c6 h5 h6 fi fp fz
  generalize txt (showZ i) = X1 at *
  generalize txt (textS p) = X2 at *
  generalize txt (cellZ z) = X3 at *
  have cA := Lib.hid (fun y (hy : TabsS y) => alive9_any y hy)
  obtain ⟨u1, u2⟩ := r.code.cap
  obtain ⟨u3, u4⟩ := r.data.cap
  have hn63 : p.code.length ≤ 9223372036854775807 := by omega
  have hd63 : p.data.length ≤ 9223372036854775807 := by omega
  have hb1 := (Below.refl w.heap.size w).alloc (Nat.le_refl _) (.cells #[.int .i64 i.op, .int .i64 i.d, .int .i64 i.a, .int .i64 i.b, .int .i64 i.imm] 38)
  have hb2 := hb1.alloc (by simp) (.cells #[.slice A p.code.length c, .int .i64 p.size, .slice D p.data.length d] 26)
  have hb3 := hb2.alloc (by simp; omega) (.cells #[.int .i64 z.kind, .int .i64 z.ins.op, .int .i64 z.ins.d, .int .i64 z.ins.a, .int .i64 z.ins.b, .int .i64 z.ins.imm, .int .i64 z.reg, .int .i64 z.pc, .int .i64 z.off] 49)
  have hB : w.heap.size + 2 < (((w.alloc (.cells #[.int .i64 i.op, .int .i64 i.d, .int .i64 i.a, .int .i64 i.b, .int .i64 i.imm] 38)).alloc (.cells #[.slice A p.code.length c, .int .i64 p.size, .slice D p.data.length d] 26)).alloc (.cells #[.int .i64 z.kind, .int .i64 z.ins.op, .int .i64 z.ins.d, .int .i64 z.ins.a, .int .i64 z.ins.b, .int .i64 z.ins.imm, .int .i64 z.reg, .int .i64 z.pc, .int .i64 z.off] 49)).heap.size := by simp
  have HW := Lib.hid hb3
  have HT0 := Lib.hid (hT.below hb3)
  have HP := Lib.hid ((r.below hb3).more hb3.size)
  have HI0 := Lib.hid (((Box.new w [.int .i64 i.op, .int .i64 i.d, .int .i64 i.a, .int .i64 i.b, .int .i64 i.imm] 38).alloc (.cells #[.slice A p.code.length c, .int .i64 p.size, .slice D p.data.length d] 26)).alloc (.cells #[.int .i64 z.kind, .int .i64 z.ins.op, .int .i64 z.ins.d, .int .i64 z.ins.a, .int .i64 z.ins.b, .int .i64 z.ins.imm, .int .i64 z.reg, .int .i64 z.pc, .int .i64 z.off] 49))
  change Hid (Box (((w.alloc (.cells #[.int .i64 i.op, .int .i64 i.d, .int .i64 i.a, .int .i64 i.b, .int .i64 i.imm] 38)).alloc (.cells #[.slice A p.code.length c, .int .i64 p.size, .slice D p.data.length d] 26)).alloc (.cells #[.int .i64 z.kind, .int .i64 z.ins.op, .int .i64 z.ins.d, .int .i64 z.ins.a, .int .i64 z.ins.b, .int .i64 z.ins.imm, .int .i64 z.reg, .int .i64 z.pc, .int .i64 z.off] 49)) w.heap.size _) at HI0
  have hp0 := ((Box.new (w.alloc (.cells #[.int .i64 i.op, .int .i64 i.d, .int .i64 i.a, .int .i64 i.b, .int .i64 i.imm] 38)) [.slice A p.code.length c, .int .i64 p.size, .slice D p.data.length d] 26).alloc (.cells #[.int .i64 z.kind, .int .i64 z.ins.op, .int .i64 z.ins.d, .int .i64 z.ins.a, .int .i64 z.ins.b, .int .i64 z.ins.imm, .int .i64 z.reg, .int .i64 z.pc, .int .i64 z.off] 49))
  rw [show (w.alloc (.cells #[.int .i64 i.op, .int .i64 i.d, .int .i64 i.a, .int .i64 i.b, .int .i64 i.imm] 38)).heap.size = w.heap.size + 1 by simp] at hp0
  change Box (((w.alloc (.cells #[.int .i64 i.op, .int .i64 i.d, .int .i64 i.a, .int .i64 i.b, .int .i64 i.imm] 38)).alloc (.cells #[.slice A p.code.length c, .int .i64 p.size, .slice D p.data.length d] 26)).alloc (.cells #[.int .i64 z.kind, .int .i64 z.ins.op, .int .i64 z.ins.d, .int .i64 z.ins.a, .int .i64 z.ins.b, .int .i64 z.ins.imm, .int .i64 z.reg, .int .i64 z.pc, .int .i64 z.off] 49)) (w.heap.size + 1) _ at hp0
  have HP0 := Lib.hid hp0
  have hc0 := (Box.new ((w.alloc (.cells #[.int .i64 i.op, .int .i64 i.d, .int .i64 i.a, .int .i64 i.b, .int .i64 i.imm] 38)).alloc (.cells #[.slice A p.code.length c, .int .i64 p.size, .slice D p.data.length d] 26)) [.int .i64 z.kind, .int .i64 z.ins.op, .int .i64 z.ins.d, .int .i64 z.ins.a, .int .i64 z.ins.b, .int .i64 z.ins.imm, .int .i64 z.reg, .int .i64 z.pc, .int .i64 z.off] 49)
  rw [show ((w.alloc (.cells #[.int .i64 i.op, .int .i64 i.d, .int .i64 i.a, .int .i64 i.b, .int .i64 i.imm] 38)).alloc (.cells #[.slice A p.code.length c, .int .i64 p.size, .slice D p.data.length d] 26)).heap.size = w.heap.size + 2 by simp] at hc0
  change Box (((w.alloc (.cells #[.int .i64 i.op, .int .i64 i.d, .int .i64 i.a, .int .i64 i.b, .int .i64 i.imm] 38)).alloc (.cells #[.slice A p.code.length c, .int .i64 p.size, .slice D p.data.length d] 26)).alloc (.cells #[.int .i64 z.kind, .int .i64 z.ins.op, .int .i64 z.ins.d, .int .i64 z.ins.a, .int .i64 z.ins.b, .int .i64 z.ins.imm, .int .i64 z.reg, .int .i64 z.pc, .int .i64 z.off] 49)) (w.heap.size + 2) _ at hc0
  have HC0 := Lib.hid hc0
  clear hb1 hb2 hb3 hp0 hc0 hT r
  have HF := Lib.hid hf
  clear hf
  go_enter Tryd.func8, Tryd.ntmps8
  go_wp2_with fail
  generalize (((w.alloc (.cells #[.int .i64 i.op, .int .i64 i.d, .int .i64 i.a, .int .i64 i.b, .int .i64 i.imm] 38)).alloc (.cells #[.slice A p.code.length c, .int .i64 p.size, .slice D p.data.length d] 26)).alloc (.cells #[.int .i64 z.kind, .int .i64 z.ins.op, .int .i64 z.ins.d, .int .i64 z.ins.a, .int .i64 z.ins.b, .int .i64 z.ins.imm, .int .i64 z.reg, .int .i64 z.pc, .int .i64 z.off] 49)) = W at *
  refine (cA.out _ HT0.out).mono ?_; rintro e w1 ⟨rfl, hb1⟩
  have k1 : Kept W w1 := (Kept.refl _).to hb1
  clear hb1
  have d0 := (HP0.out.below k1 (by omega)).cell (k := 0) rfl
  have d1 := (HP0.out.below k1 (by omega)).cell (k := 1) rfl
  have d2 := (HP0.out.below k1 (by omega)).cell (k := 2) rfl
  go_wp2_with fail
  refine (few_any A D p.code.length c p.data.length d p.size _ hn63 hd63).mono ?_; rintro e w2 ⟨rfl, hb2⟩
  have k2 := k1.to hb2
  clear hb2 d0 d1 d2
  rw [HF.out]
  go_wp2_with fail
  have PV := Lib.hid (fun (x : World) (h : Kept W x) => (HP.out.below h).more h.size)
  have TV := Lib.hid (fun (x : World) (h : Kept W x) => HT0.out.below h)
  have j0 : Kept W w2.drew := k2.drew
  have fi0 := fun x (h : Kept W x) => (HI0.out.below h (by omega)).cell (k := 0) rfl
  have fi1 := fun x (h : Kept W x) => (HI0.out.below h (by omega)).cell (k := 1) rfl
  have fi2 := fun x (h : Kept W x) => (HI0.out.below h (by omega)).cell (k := 2) rfl
  have fi3 := fun x (h : Kept W x) => (HI0.out.below h (by omega)).cell (k := 3) rfl
  have fi4 := fun x (h : Kept W x) => (HI0.out.below h (by omega)).cell (k := 4) rfl
  have fp0 := fun x (h : Kept W x) => (HP0.out.below h (by omega)).cell (k := 0) rfl
  have fp1 := fun x (h : Kept W x) => (HP0.out.below h (by omega)).cell (k := 1) rfl
  have fp2 := fun x (h : Kept W x) => (HP0.out.below h (by omega)).cell (k := 2) rfl
  have fc0 := fun x (h : Kept W x) => (HC0.out.below h (by omega)).cell (k := 0) rfl
  have fc1 := fun x (h : Kept W x) => (HC0.out.below h (by omega)).cell (k := 1) rfl
  have fc2 := fun x (h : Kept W x) => (HC0.out.below h (by omega)).cell (k := 2) rfl
  have fc3 := fun x (h : Kept W x) => (HC0.out.below h (by omega)).cell (k := 3) rfl
  have fc4 := fun x (h : Kept W x) => (HC0.out.below h (by omega)).cell (k := 4) rfl
  have fc5 := fun x (h : Kept W x) => (HC0.out.below h (by omega)).cell (k := 5) rfl
  have fc6 := fun x (h : Kept W x) => (HC0.out.below h (by omega)).cell (k := 6) rfl
  have fc7 := fun x (h : Kept W x) => (HC0.out.below h (by omega)).cell (k := 7) rfl
  have fc8 := fun x (h : Kept W x) => (HC0.out.below h (by omega)).cell (k := 8) rfl
  refine wp_region_lin [(0, true), (2, true), (1, false), (3, false), (4, true), (5, true), (6, true), (8, true), (7, false), (9, false), (10, true), (11, true), (12, true), (13, true), (15, true), (14, false), (16, false), (17, true), (18, true), (19, true)]
    (by kernel_rfl) (by kernel_rfl) rfl (by kernel_rfl) (Kept W) ?_
  simp only [List.map_cons, List.map_nil, List.getElem?_toArray, List.getElem?_cons_succ, List.getElem?_cons_zero]
  iterate 2 (refine lin_take (v := ?_) (by assumption) (by rfl) ?_ ?_; rotate_left; (intro x hx; (try dsimp only at hx); go_simp; try (with_reducible rfl)); (try simp only [Act.put, List.setIfInBounds_toArray, List.set_cons_zero, List.set_cons_succ]))
  refine lin_call (by assumption) (by rfl) (fun K hK => ?_)
  go_simp
  refine (CC1.out _ (TV.out _ j0)).mono ?_
  rintro e x1 ⟨rfl, hb1⟩
  have j1 := j0.to hb1
  clear hb1
  go_wp2_with fail
  refine hK.out _ _ j1 (fun _ => ?_)
  clear hK K
  try simp only [Act.put, List.setIfInBounds_toArray, List.set_cons_zero, List.set_cons_succ]
  refine lin_call (by assumption) (by rfl) (fun K hK => ?_)
  go_simp
  refine (CC2.out _).mono ?_
  rintro e x2 ⟨rfl, hb2⟩
  have j2 := j1.to hb2
  clear hb2
  go_wp2_with fail
  refine hK.out _ _ j2 (fun _ => ?_)
  clear hK K
  try simp only [Act.put, List.setIfInBounds_toArray, List.set_cons_zero, List.set_cons_succ]
  iterate 4 (refine lin_take (v := ?_) (by assumption) (by rfl) ?_ ?_; rotate_left; (intro x hx; (try dsimp only at hx); go_simp; try (with_reducible rfl)); (try simp only [Act.put, List.setIfInBounds_toArray, List.set_cons_zero, List.set_cons_succ]))
  refine lin_call (by assumption) (by rfl) (fun K hK => ?_)
  go_simp
  refine (CC3.out _ (TV.out _ j2) (PV.out _ j2)).mono ?_
  rintro e x3 ⟨rfl, hb3⟩
  have j3 := j2.to hb3
  clear hb3
  go_wp2_with fail
  refine hK.out _ _ j3 (fun _ => ?_)
  clear hK K
  try simp only [Act.put, List.setIfInBounds_toArray, List.set_cons_zero, List.set_cons_succ]
  refine lin_call (by assumption) (by rfl) (fun K hK => ?_)
  go_simp
  refine (CC4.out _ (PV.out _ j3)).mono ?_
  rintro e x4 ⟨rfl, hb4⟩
  have j4 := j3.to hb4
  clear hb4
  go_wp2_with fail
  refine hK.out _ _ j4 (fun _ => ?_)
  clear hK K
  try simp only [Act.put, List.setIfInBounds_toArray, List.set_cons_zero, List.set_cons_succ]
  iterate 5 (refine lin_take (v := ?_) (by assumption) (by rfl) ?_ ?_; rotate_left; (intro x hx; (try dsimp only at hx); go_simp; try (with_reducible rfl)); (try simp only [Act.put, List.setIfInBounds_toArray, List.set_cons_zero, List.set_cons_succ]))
  refine lin_call (by assumption) (by rfl) (fun K hK => ?_)
  go_simp
  refine (CC5.out _ (TV.out _ j4)).mono ?_
  rintro e x5 ⟨rfl, hb5⟩
  have j5 := j4.to hb5
  clear hb5
  go_wp2_with fail
  refine hK.out _ _ j5 (fun _ => ?_)
  clear hK K
  try simp only [Act.put, List.setIfInBounds_toArray, List.set_cons_zero, List.set_cons_succ]
  refine lin_call (by assumption) (by rfl) (fun K hK => ?_)
  go_simp
  refine (CC6.out _).mono ?_
  rintro e x6 ⟨rfl, hb6⟩
  have j6 := j5.to hb6
  clear hb6
  go_wp2_with fail
  refine hK.out _ _ j6 (fun _ => ?_)
  clear hK K
  try simp only [Act.put, List.setIfInBounds_toArray, List.set_cons_zero, List.set_cons_succ]
  iterate 3 (refine lin_take (v := ?_) (by assumption) (by rfl) ?_ ?_; rotate_left; (intro x hx; (try dsimp only at hx); go_simp; try (with_reducible rfl)); (try simp only [Act.put, List.setIfInBounds_toArray, List.set_cons_zero, List.set_cons_succ]))
  refine lin_done ?_
  have K8 := Lib.hid (HW.out.trans (Below.mono j6 (by omega)))
  clear fi0 fi1 fi2 fi3 fi4 fp0 fp1 fp2 fc0 fc1 fc2 fc3 fc4 fc5 fc6 fc7 fc8
  go_wp2_with fail
  go_ret
  exact ⟨by first | rfl | simp, K8.out⟩
end
theorem showTells_walk (i : Ins) (A : Option Addr) (c : Nat) (D : Option Addr) (d : Nat) (p : Prog) (z : Cel) (w : World) (hT : TabsS w) (fi : i.Fits) (fp : p.Fits) (r : ProgV w w.heap.size (.slice A p.code.length c) (.slice D p.data.length d) p) (fz : z.Fits) :
    Calls Tryd.prog 8 #[.agg #[.int .i64 i.op, .int .i64 i.d, .int .i64 i.a, .int .i64 i.b, .int .i64 i.imm], .agg #[.slice A p.code.length c, .int .i64 p.size, .slice D p.data.length d], .agg #[.int .i64 z.kind, .int .i64 z.ins.op, .int .i64 z.ins.d, .int .i64 z.ins.a, .int .i64 z.ins.b, .int .i64 z.ins.imm, .int .i64 z.reg, .int .i64 z.pc, .int .i64 z.off]] w fun e w' => e = .returned (.bool true) ∧ Below w.heap.size w w' := by
  cases hf : fewB p.code.length p.data.length
  · exact showTells_no hT r hf
  · exact showTells_in hT r fi fp fz hf
end Go.Proofs.YtfdegdbknponkaaDoor.Words

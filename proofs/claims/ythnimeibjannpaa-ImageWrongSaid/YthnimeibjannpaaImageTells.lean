/- The walk of ImageTells. -/
import Derived.Test.YthnimeibjannpaaImageTurned
namespace Go.Proofs.Ythnimeibjannpaa.Words
open Go.RowKit
set_option linter.unusedVariables false

theorem errT_range (b : Bool) : -9223372036854775808 ≤ errT b ∧ errT b ≤ 9223372036854775807 := by unfold errT; split <;> omega

section
variable (A : Option Addr) (c : Nat) (D : Option Addr) (d : Nat) (p : Prog) (B : Option Addr) (n b : Nat) (zs : List Int) (w : World)

set_option maxHeartbeats 1000000 in
theorem imageTells_few (f : p.Fits) (r : ProgV w w.heap.size (.slice A p.code.length c) (.slice D p.data.length d) p) (s : Row w w.heap.size 1 (.slice B n b) n (zs.map (Value.int .u8))) (hz : ∀ x ∈ zs, 0 ≤ x ∧ x ≤ 255) (hf : fewB p.code.length p.data.length = false) :
    Calls Try.prog 3 #[.agg #[.slice A p.code.length c, .int .i64 p.size, .slice D p.data.length d], .slice B n b] w fun e w' => e = .returned (.bool true) ∧ Below w.heap.size w w' := by
  have HF := Lib.hid hf
  clear hf
  obtain ⟨u1, u2⟩ := r.code.cap
  obtain ⟨u3, u4⟩ := r.data.cap
  obtain ⟨u5, u6⟩ := s.cap
  have hB : w.heap.size < (w.alloc (.cells #[.slice A p.code.length c, .int .i64 p.size, .slice D p.data.length d] 25)).heap.size := by simp
  have HP := Lib.hid ((r.alloc (Nat.le_refl _) (.cells #[.slice A p.code.length c, .int .i64 p.size, .slice D p.data.length d] 25)).more (Nat.le_of_lt hB))
  have HS := Lib.hid ((s.alloc (Nat.le_refl _) (.cells #[.slice A p.code.length c, .int .i64 p.size, .slice D p.data.length d] 25)).more (Nat.le_of_lt hB))
  have HW := Lib.hid ((Below.refl w.heap.size w).alloc (Nat.le_refl _) (.cells #[.slice A p.code.length c, .int .i64 p.size, .slice D p.data.length d] 25))
  have c0 : (w.alloc (.cells #[.slice A p.code.length c, .int .i64 p.size, .slice D p.data.length d] 25)).cell? ⟨w.heap.size, 0, none⟩ = some (.slice A p.code.length c) := by go_simp
  have c1 : (w.alloc (.cells #[.slice A p.code.length c, .int .i64 p.size, .slice D p.data.length d] 25)).cell? ⟨w.heap.size, 1, none⟩ = some (.int .i64 p.size) := by go_simp
  have c2 : (w.alloc (.cells #[.slice A p.code.length c, .int .i64 p.size, .slice D p.data.length d] 25)).cell? ⟨w.heap.size, 2, none⟩ = some (.slice D p.data.length d) := by go_simp
  clear r s
  go_enter Try.func3, Try.ntmps3
  go_wp2_with fail
  generalize (w.alloc (.cells #[.slice A p.code.length c, .int .i64 p.size, .slice D p.data.length d] 25)) = W at *
  have C0 := Lib.hid (fun (x : World) (h : Kept W x) => h.cell hB c0)
  have C1 := Lib.hid (fun (x : World) (h : Kept W x) => h.cell hB c1)
  have C2 := Lib.hid (fun (x : World) (h : Kept W x) => h.cell hB c2)
  have HPx := Lib.hid (fun (x : World) (h : Kept W x) => (show ProgV x x.heap.size _ _ p from ⟨h.row HP.out.code, h.row HP.out.data⟩))
  have HSx := Lib.hid (fun (x : World) (h : Kept W x) => h.row HS.out)
  have HWB := Lib.hid (fun (x : World) (h : Kept W x) => HW.out.trans (h.mono (Nat.le_of_lt hB)))
  clear c0 c1 c2 HP HS HW
  refine (imgAlive_any _).mono ?_; rintro e w1 ⟨rfl, hb1⟩
  have k1 : Kept W w1 := hb1
  have c0 := C0.out _ k1
  have c1 := C1.out _ k1
  have c2 := C2.out _ k1
  clear hb1
  go_wp2_with fail
  refine (few_any A D p.code.length c p.data.length d p.size _ (by omega) (by omega)).mono ?_; rintro e w2 ⟨rfl, hb2⟩
  rw [HF.out]
  have k2 := k1.to hb2
  clear c0 c1 c2 hb2 k1
  go_wp2_with fail
  go_ret
  exact ⟨rfl, HWB.out _ k2⟩

set_option maxHeartbeats 1000000 in
theorem imageTells_long (f : p.Fits) (r : ProgV w w.heap.size (.slice A p.code.length c) (.slice D p.data.length d) p) (s : Row w w.heap.size 1 (.slice B n b) n (zs.map (Value.int .u8))) (hz : ∀ x ∈ zs, 0 ≤ x ∧ x ≤ 255) (hf : fewB p.code.length p.data.length = true) (hn : 1500 < n) :
    Calls Try.prog 3 #[.agg #[.slice A p.code.length c, .int .i64 p.size, .slice D p.data.length d], .slice B n b] w fun e w' => e = .returned (.bool true) ∧ Below w.heap.size w w' := by
  have HF := Lib.hid hf
  clear hf
  obtain ⟨u1, u2⟩ := r.code.cap
  obtain ⟨u3, u4⟩ := r.data.cap
  obtain ⟨u5, u6⟩ := s.cap
  have hB : w.heap.size < (w.alloc (.cells #[.slice A p.code.length c, .int .i64 p.size, .slice D p.data.length d] 25)).heap.size := by simp
  have HP := Lib.hid ((r.alloc (Nat.le_refl _) (.cells #[.slice A p.code.length c, .int .i64 p.size, .slice D p.data.length d] 25)).more (Nat.le_of_lt hB))
  have HS := Lib.hid ((s.alloc (Nat.le_refl _) (.cells #[.slice A p.code.length c, .int .i64 p.size, .slice D p.data.length d] 25)).more (Nat.le_of_lt hB))
  have HW := Lib.hid ((Below.refl w.heap.size w).alloc (Nat.le_refl _) (.cells #[.slice A p.code.length c, .int .i64 p.size, .slice D p.data.length d] 25))
  have c0 : (w.alloc (.cells #[.slice A p.code.length c, .int .i64 p.size, .slice D p.data.length d] 25)).cell? ⟨w.heap.size, 0, none⟩ = some (.slice A p.code.length c) := by go_simp
  have c1 : (w.alloc (.cells #[.slice A p.code.length c, .int .i64 p.size, .slice D p.data.length d] 25)).cell? ⟨w.heap.size, 1, none⟩ = some (.int .i64 p.size) := by go_simp
  have c2 : (w.alloc (.cells #[.slice A p.code.length c, .int .i64 p.size, .slice D p.data.length d] 25)).cell? ⟨w.heap.size, 2, none⟩ = some (.slice D p.data.length d) := by go_simp
  clear r s
  go_enter Try.func3, Try.ntmps3
  go_wp2_with fail
  generalize (w.alloc (.cells #[.slice A p.code.length c, .int .i64 p.size, .slice D p.data.length d] 25)) = W at *
  have C0 := Lib.hid (fun (x : World) (h : Kept W x) => h.cell hB c0)
  have C1 := Lib.hid (fun (x : World) (h : Kept W x) => h.cell hB c1)
  have C2 := Lib.hid (fun (x : World) (h : Kept W x) => h.cell hB c2)
  have HPx := Lib.hid (fun (x : World) (h : Kept W x) => (show ProgV x x.heap.size _ _ p from ⟨h.row HP.out.code, h.row HP.out.data⟩))
  have HSx := Lib.hid (fun (x : World) (h : Kept W x) => h.row HS.out)
  have HWB := Lib.hid (fun (x : World) (h : Kept W x) => HW.out.trans (h.mono (Nat.le_of_lt hB)))
  clear c0 c1 c2 HP HS HW
  refine (imgAlive_any _).mono ?_; rintro e w1 ⟨rfl, hb1⟩
  have k1 : Kept W w1 := hb1
  have c0 := C0.out _ k1
  have c1 := C1.out _ k1
  have c2 := C2.out _ k1
  clear hb1
  go_wp2_with fail
  refine (few_any A D p.code.length c p.data.length d p.size _ (by omega) (by omega)).mono ?_; rintro e w2 ⟨rfl, hb2⟩
  rw [HF.out]
  have k2 := k1.to hb2
  clear c0 c1 c2 hb2 k1
  go_wp2_with fail
  go_ret
  exact ⟨rfl, HWB.out _ k2⟩

set_option maxHeartbeats 2000000 in
theorem imageTells_main (f : p.Fits) (r : ProgV w w.heap.size (.slice A p.code.length c) (.slice D p.data.length d) p) (s : Row w w.heap.size 1 (.slice B n b) n (zs.map (Value.int .u8))) (hz : ∀ x ∈ zs, 0 ≤ x ∧ x ≤ 255) (hf : fewB p.code.length p.data.length = true) (hn : n ≤ 1500) :
    Calls Try.prog 3 #[.agg #[.slice A p.code.length c, .int .i64 p.size, .slice D p.data.length d], .slice B n b] w fun e w' => e = .returned (.bool true) ∧ Below w.heap.size w w' := by
  obtain ⟨i0, hi, hz0, hz1, hz2⟩ := info_parts info_u8
  have HZ2 := Lib.hid hz2
  clear hz2
  have HFf := Lib.hid f
  have HF := Lib.hid hf
  have hfe := few_yes hf
  have HZB := Lib.hid hz
  have hzl : zs.length = n := by have := s.len; simpa using this
  clear hf hz
  obtain ⟨u1, u2⟩ := r.code.cap
  obtain ⟨u3, u4⟩ := r.data.cap
  obtain ⟨u5, u6⟩ := s.cap
  have hB : w.heap.size < (w.alloc (.cells #[.slice A p.code.length c, .int .i64 p.size, .slice D p.data.length d] 25)).heap.size := by simp
  have HP := Lib.hid ((r.alloc (Nat.le_refl _) (.cells #[.slice A p.code.length c, .int .i64 p.size, .slice D p.data.length d] 25)).more (Nat.le_of_lt hB))
  have HS := Lib.hid ((s.alloc (Nat.le_refl _) (.cells #[.slice A p.code.length c, .int .i64 p.size, .slice D p.data.length d] 25)).more (Nat.le_of_lt hB))
  have HW := Lib.hid ((Below.refl w.heap.size w).alloc (Nat.le_refl _) (.cells #[.slice A p.code.length c, .int .i64 p.size, .slice D p.data.length d] 25))
  have c0 : (w.alloc (.cells #[.slice A p.code.length c, .int .i64 p.size, .slice D p.data.length d] 25)).cell? ⟨w.heap.size, 0, none⟩ = some (.slice A p.code.length c) := by go_simp
  have c1 : (w.alloc (.cells #[.slice A p.code.length c, .int .i64 p.size, .slice D p.data.length d] 25)).cell? ⟨w.heap.size, 1, none⟩ = some (.int .i64 p.size) := by go_simp
  have c2 : (w.alloc (.cells #[.slice A p.code.length c, .int .i64 p.size, .slice D p.data.length d] 25)).cell? ⟨w.heap.size, 2, none⟩ = some (.slice D p.data.length d) := by go_simp
  clear r s
  go_enter Try.func3, Try.ntmps3
  go_wp2_with fail
  generalize (w.alloc (.cells #[.slice A p.code.length c, .int .i64 p.size, .slice D p.data.length d] 25)) = W at *
  have C0 := Lib.hid (fun (x : World) (h : Kept W x) => h.cell hB c0)
  have C1 := Lib.hid (fun (x : World) (h : Kept W x) => h.cell hB c1)
  have C2 := Lib.hid (fun (x : World) (h : Kept W x) => h.cell hB c2)
  have HPx := Lib.hid (fun (x : World) (h : Kept W x) => (show ProgV x x.heap.size _ _ p from ⟨h.row HP.out.code, h.row HP.out.data⟩))
  have HSx := Lib.hid (fun (x : World) (h : Kept W x) => h.row HS.out)
  have HWB := Lib.hid (fun (x : World) (h : Kept W x) => HW.out.trans (h.mono (Nat.le_of_lt hB)))
  clear c0 c1 c2 HP HS HW
  refine (imgAlive_any _).mono ?_; rintro e w1 ⟨rfl, hb1⟩
  have k1 : Kept W w1 := hb1
  have c0 := C0.out _ k1
  have c1 := C1.out _ k1
  have c2 := C2.out _ k1
  clear hb1
  go_wp2_with fail
  refine (few_any A D p.code.length c p.data.length d p.size _ (by omega) (by omega)).mono ?_; rintro e w2 ⟨rfl, hb2⟩
  rw [HF.out]
  have k2 := k1.to hb2
  clear c0 c1 c2 hb2 k1
  go_wp2_with (at_builtin; refine wpList_append_row _ rfl (.const (.slice none 0 0)) (.tmp 25) 23 rfl w2.heap.size 5 i0 (.int .u8 0) 1 1 Try.underlying23 hi hz0 hz1 HZ2.out rfl (by omega) (.slice none 0 0) 0 [] rfl (World.ownsRow_nil _ _ _ _) _ _ n _ rfl (HSx.out _ k2) (u8_one _) (by unfold maxLen; omega) (by omega) (Nat.le_refl _) ?_; intro v3 w3 hown3 hg3; simp only [Nat.zero_add, List.nil_append] at hown3; obtain ⟨A3, c3, rfl⟩ := (Row.of_own hown3).form)
  have kk3 : Kept w2 w3 := Below.grown (Below.refl _ _) hg3 (Nat.le_refl _) (fun k hk => by cases hk)
  have k3 := k2.trans kk3
  clear hg3
  refine (imgRead_len hzl (Row.of_own hown3) HZB.out).mono ?_; rintro e w4 ⟨vc, vd, rfl, hP, hb4⟩
  have k4 := k3.to hb4
  have hE := readE_range zs
  have hdb := Lib.hid (read_data HZB.out)
  have hP4 := hP.prog
  obtain ⟨A4, c4, rfl⟩ := hP4.code.form
  obtain ⟨D4, d4, rfl⟩ := hP4.data.form
  clear hP hb4 hown3
  go_wp2_with fail
  have kX : Kept w4 (w4.alloc (.cells #[.slice A4 (readP zs).code.length c4, .int .i64 (readP zs).size, .slice D4 (readP zs).data.length d4] 25)) := (Kept.refl w4).alloc _
  have k6 := k4.trans kX
  have x0 : (w4.alloc (.cells #[.slice A4 (readP zs).code.length c4, .int .i64 (readP zs).size, .slice D4 (readP zs).data.length d4] 25)).cell? ⟨w4.heap.size, 0, none⟩ = some (.slice A4 (readP zs).code.length c4) := by go_simp
  have x1 : (w4.alloc (.cells #[.slice A4 (readP zs).code.length c4, .int .i64 (readP zs).size, .slice D4 (readP zs).data.length d4] 25)).cell? ⟨w4.heap.size, 1, none⟩ = some (.int .i64 (readP zs).size) := by go_simp
  have x2 : (w4.alloc (.cells #[.slice A4 (readP zs).code.length c4, .int .i64 (readP zs).size, .slice D4 (readP zs).data.length d4] 25)).cell? ⟨w4.heap.size, 2, none⟩ = some (.slice D4 (readP zs).data.length d4) := by go_simp
  have hs6 : w4.heap.size < (w4.alloc (.cells #[.slice A4 (readP zs).code.length c4, .int .i64 (readP zs).size, .slice D4 (readP zs).data.length d4] 25)).heap.size := by simp
  have hPX := Lib.hid (show ProgV (w4.alloc (.cells #[.slice A4 (readP zs).code.length c4, .int .i64 (readP zs).size, .slice D4 (readP zs).data.length d4] 25)) (w4.alloc (.cells #[.slice A4 (readP zs).code.length c4, .int .i64 (readP zs).size, .slice D4 (readP zs).data.length d4] 25)).heap.size _ _ (readP zs) from ⟨kX.row hP4.code, kX.row hP4.data⟩)
  generalize (w4.alloc (.cells #[.slice A4 (readP zs).code.length c4, .int .i64 (readP zs).size, .slice D4 (readP zs).data.length d4] 25)) = W6 at *
  clear hP4
  have hRow := HSx.out _ k6
  have hRd : Calls Try.prog 12 #[.slice B n b] W6 fun e w' => ∃ vc vd, e = .returned (.tuple #[.agg #[vc, .int .i64 (readP zs).size, vd], .int .i64 (readE zs)]) ∧ ProgV w' w'.heap.size vc vd (readP zs) ∧ Below W6.heap.size W6 w' := by
    subst hzl; exact refRead_any B b zs W6 hRow HZB.out
  refine hRd.mono ?_; rintro e w5 ⟨vc5, vd5, rfl, hP5, hb5⟩
  obtain ⟨A5, c5, rfl⟩ := hP5.code.form
  obtain ⟨D5, d5, rfl⟩ := hP5.data.form
  have kk5 : Kept W6 w5 := hb5
  clear hRd hRow hb5
  generalize readP zs = P' at *
  generalize readE zs = E' at *
  have q0 := kk5.cell hs6 x0
  have q1 := kk5.cell hs6 x1
  have q2 := kk5.cell hs6 x2
  go_wp2_with fail
  have k8 : Kept w5 (w5.alloc (.cells #[.slice A5 P'.code.length c5, .int .i64 P'.size, .slice D5 P'.data.length d5] 25)) := (Kept.refl w5).alloc _
  have kW8 := (k6.trans kk5).trans k8
  have kW68 := kk5.trans k8
  have hs5 : w5.heap.size < (w5.alloc (.cells #[.slice A5 P'.code.length c5, .int .i64 P'.size, .slice D5 P'.data.length d5] 25)).heap.size := by simp
  have y0 : (w5.alloc (.cells #[.slice A5 P'.code.length c5, .int .i64 P'.size, .slice D5 P'.data.length d5] 25)).cell? ⟨w5.heap.size, 0, none⟩ = some (.slice A5 P'.code.length c5) := by go_simp
  have y1 : (w5.alloc (.cells #[.slice A5 P'.code.length c5, .int .i64 P'.size, .slice D5 P'.data.length d5] 25)).cell? ⟨w5.heap.size, 1, none⟩ = some (.int .i64 P'.size) := by go_simp
  have y2 : (w5.alloc (.cells #[.slice A5 P'.code.length c5, .int .i64 P'.size, .slice D5 P'.data.length d5] 25)).cell? ⟨w5.heap.size, 2, none⟩ = some (.slice D5 P'.data.length d5) := by go_simp
  have hPY := Lib.hid (show ProgV (w5.alloc (.cells #[.slice A5 P'.code.length c5, .int .i64 P'.size, .slice D5 P'.data.length d5] 25)) (w5.alloc (.cells #[.slice A5 P'.code.length c5, .int .i64 P'.size, .slice D5 P'.data.length d5] 25)).heap.size _ _ P' from ⟨k8.row hP5.code, k8.row hP5.data⟩)
  have q0 := k8.cell (by have := kk5.size; omega) q0
  have q1 := k8.cell (by have := kk5.size; omega) q1
  have q2 := k8.cell (by have := kk5.size; omega) q2
  have hs4 : w4.heap.size < (w5.alloc (.cells #[.slice A5 P'.code.length c5, .int .i64 P'.size, .slice D5 P'.data.length d5] 25)).heap.size := by have := kk5.size; simp; omega
  generalize (w5.alloc (.cells #[.slice A5 P'.code.length c5, .int .i64 P'.size, .slice D5 P'.data.length d5] 25)) = W8 at *
  have c0 : ∀ x, Kept W8 x → _ := fun x h => C0.out x (kW8.trans h)
  have c1 : ∀ x, Kept W8 x → _ := fun x h => C1.out x (kW8.trans h)
  have c2 : ∀ x, Kept W8 x → _ := fun x h => C2.out x (kW8.trans h)
  have p0 : ∀ x, Kept W8 x → _ := fun x h => Kept.cell h hs4 q0
  have p1 : ∀ x, Kept W8 x → _ := fun x h => Kept.cell h hs4 q1
  have p2 : ∀ x, Kept W8 x → _ := fun x h => Kept.cell h hs4 q2
  have r0 : ∀ x, Kept W8 x → _ := fun x h => Kept.cell h hs5 y0
  have r1 : ∀ x, Kept W8 x → _ := fun x h => Kept.cell h hs5 y1
  have r2 : ∀ x, Kept W8 x → _ := fun x h => Kept.cell h hs5 y2
  have j0 : Kept W8 W8.drew := (Kept.refl W8).drew
  clear q0 q1 q2 y0 y1 y2 x0 x1 x2 hP5 kX k8 kk5 k6 k4 k3 k2 kk3
  refine wp_region_lin [(0, true), (2, true), (1, false), (3, false), (4, true), (5, true), (6, true), (9, true), (7, false), (8, false), (10, false), (11, true), (12, true), (13, true), (14, true), (17, true), (15, false), (16, true), (18, false), (19, true), (20, true), (21, true), (22, true), (23, true), (24, true), (25, false), (26, true), (27, true), (28, true), (30, true), (29, false), (31, true), (32, true), (33, true)]
    (by kernel_rfl) (by kernel_rfl) rfl (by kernel_rfl) (Kept W8) ?_
  simp only [List.map_cons, List.map_nil, List.getElem?_toArray, List.getElem?_cons_succ, List.getElem?_cons_zero]
  iterate 2 (refine lin_take (v := ?_) (by assumption) (by rfl) ?_ ?_; rotate_left; (intro x hx; (try dsimp only at hx); go_simp; try (with_reducible rfl)); (simp only [Act.put, List.setIfInBounds_toArray, List.set_cons_zero, List.set_cons_succ]))
  refine lin_call (by assumption) (by rfl) (fun K hK => ?_)
  go_simp
  refine (imgRight_any A c p.size D p.data.length d p.code _ (HPx.out _ (kW8.trans j0)).code u3 u4).mono ?_; rintro e x1 ⟨rfl, hb⟩
  have j1 := j0.to hb
  clear hb
  go_wp2_with fail
  refine hK.out _ _ j1 (fun _ => ?_)
  clear hK K
  try simp only [Act.put, List.setIfInBounds_toArray, List.set_cons_zero, List.set_cons_succ]
  refine lin_call (by assumption) (by rfl) (fun K hK => ?_)
  go_simp
  refine (refRight_any A c p.size D p.data.length d p.code _ (HPx.out _ (kW8.trans j1)).code u3 u4).mono ?_; rintro e x2 ⟨rfl, hb⟩
  have j2 := j1.to hb
  clear hb
  go_wp2_with fail
  refine hK.out _ _ j2 (fun _ => ?_)
  clear hK K
  try simp only [Act.put, List.setIfInBounds_toArray, List.set_cons_zero, List.set_cons_succ]
  iterate 4 (refine lin_take (v := ?_) (by assumption) (by rfl) ?_ ?_; rotate_left; (intro x hx; (try dsimp only at hx); go_simp; try (with_reducible rfl)); (simp only [Act.put, List.setIfInBounds_toArray, List.set_cons_zero, List.set_cons_succ]))
  refine lin_call (by assumption) (by rfl) (fun K hK => ?_)
  go_simp
  refine (targets_any A c p.size (.slice D p.data.length d) p.code _ (HPx.out _ (kW8.trans j2)).code (by omega)).mono ?_; rintro e x3 ⟨rfl, hb⟩
  have j3 := j2.to hb
  clear hb
  go_wp2_with fail
  refine hK.out _ _ j3 (fun _ => ?_)
  clear hK K
  try simp only [Act.put, List.setIfInBounds_toArray, List.set_cons_zero, List.set_cons_succ]
  refine lin_call (by assumption) (by rfl) (fun K hK => ?_)
  go_simp
  refine (num_any _ _ (errT_range _)).mono ?_; rintro e x4 ⟨rfl, rfl⟩
  go_wp2_with fail
  refine hK.out _ _ j3 (fun _ => ?_)
  clear hK K
  try simp only [Act.put, List.setIfInBounds_toArray, List.set_cons_zero, List.set_cons_succ]
  refine lin_call (by assumption) (by rfl) (fun K hK => ?_)
  go_simp
  refine (refTargets_any A c p.size (.slice D p.data.length d) p.code _ (HPx.out _ (kW8.trans j3)).code (by omega)).mono ?_; rintro e x4 ⟨rfl, hb⟩
  have j4 := j3.to hb
  clear hb
  go_wp2_with fail
  refine hK.out _ _ j4 (fun _ => ?_)
  clear hK K
  try simp only [Act.put, List.setIfInBounds_toArray, List.set_cons_zero, List.set_cons_succ]
  iterate 5 (refine lin_take (v := ?_) (by assumption) (by rfl) ?_ ?_; rotate_left; (intro x hx; (try dsimp only at hx); go_simp; try (with_reducible rfl)); (simp only [Act.put, List.setIfInBounds_toArray, List.set_cons_zero, List.set_cons_succ]))
  refine lin_call (by assumption) (by rfl) (fun K hK => ?_)
  go_simp
  refine (bytes_any A D c d p _ (HPx.out _ (kW8.trans j4))).mono ?_; rintro e o1 ⟨v1, rfl, own1, hb⟩
  have j5 := j4.to hb
  obtain ⟨Q1, l1, rfl⟩ := (Row.of_own own1).form
  clear hb
  go_wp2_with fail
  refine hK.out _ _ j5 (fun _ => ?_)
  clear hK K
  try simp only [Act.put, List.setIfInBounds_toArray, List.set_cons_zero, List.set_cons_succ]
  have cv1 : ∀ x, Kept o1 x → (convert 23 9 (.slice Q1 (imgOf p).length l1)).run Try.prog x = .ok (.string (strOfNums (imgOf p))) x := fun x h => conv_row x 23 5 Try.underlying23 Try.underlying5 (h.row (Row.of_own own1)) 9 Try.underlying9
  refine lin_more (S' := Kept o1) (fun x h => j5.trans h) ?_
  have oo1 := Kept.refl o1
  (refine lin_take (v := ?_) (by assumption) (by rfl) ?_ ?_; rotate_left; (intro x hx; (try dsimp only at hx); go_simp; try (with_reducible rfl)); (simp only [Act.put, List.setIfInBounds_toArray, List.set_cons_zero, List.set_cons_succ]))
  have c0' : ∀ x, Kept o1 x → _ := fun x h => c0 x (j5.trans h)
  refine lin_call (by assumption) (by rfl) (fun K hK => ?_)
  go_simp
  refine (refImage_any A D c d p _ (HPx.out _ (kW8.trans j5))).mono ?_; rintro e o2 ⟨v2, rfl, own2, hb⟩
  have j6 := oo1.to hb
  obtain ⟨Q2, l2, rfl⟩ := (Row.of_own own2).form
  clear hb
  go_wp2_with fail
  refine hK.out _ _ j6 (fun _ => ?_)
  clear hK K
  try simp only [Act.put, List.setIfInBounds_toArray, List.set_cons_zero, List.set_cons_succ]
  have cv2 : ∀ x, Kept o2 x → (convert 23 9 (.slice Q2 (imgOf p).length l2)).run Try.prog x = .ok (.string (strOfNums (imgOf p))) x := fun x h => conv_row x 23 5 Try.underlying23 Try.underlying5 (h.row (Row.of_own own2)) 9 Try.underlying9
  have j7 := j5.trans j6
  refine lin_more (S' := Kept o2) (fun x h => j6.trans h) ?_
  have oo2 := Kept.refl o2
  have p0' : ∀ x, Kept o2 x → _ := fun x h => p0 x (j7.trans h)
  have p1' : ∀ x, Kept o2 x → _ := fun x h => p1 x (j7.trans h)
  have p2' : ∀ x, Kept o2 x → _ := fun x h => p2 x (j7.trans h)
  have r0' : ∀ x, Kept o2 x → _ := fun x h => r0 x (j7.trans h)
  have r1' : ∀ x, Kept o2 x → _ := fun x h => r1 x (j7.trans h)
  have r2' : ∀ x, Kept o2 x → _ := fun x h => r2 x (j7.trans h)
  clear p0 p1 p2 r0 r1 r2 c0 c1 c2 c0' cv1 own1 own2
  iterate 6 (refine lin_take (v := ?_) (by assumption) (by rfl) ?_ ?_; rotate_left; (intro x hx; (try dsimp only at hx); go_simp; try (with_reducible rfl)); (simp only [Act.put, List.setIfInBounds_toArray, List.set_cons_zero, List.set_cons_succ]))
  have j67 := kW68.trans j7
  have hSame := refSame_any A4 D4 A5 D5 c4 d4 c5 d5 P' P' _ ⟨j67.row hPX.out.code, j67.row hPX.out.data⟩ ⟨j7.row hPY.out.code, j7.row hPY.out.data⟩ hdb.out hdb.out
  rw [decide_eq_true rfl] at hSame
  have HSame := Lib.hid hSame
  clear hSame cv2 p0' p1' p2' r0' r1' r2'
  refine lin_call (by assumption) (by rfl) (fun K hK => ?_)
  go_simp
  refine (HSame.out).mono ?_; rintro e o3 ⟨rfl, hb⟩
  have j8 := oo2.to hb
  clear hb
  go_wp2_with fail
  refine hK.out _ _ j8 (fun _ => ?_)
  clear hK K
  try simp only [Act.put, List.setIfInBounds_toArray, List.set_cons_zero, List.set_cons_succ]
  iterate 4 (refine lin_take (v := ?_) (by assumption) (by rfl) ?_ ?_; rotate_left; (intro x hx; (try dsimp only at hx); go_simp; try (with_reducible rfl)); (simp only [Act.put, List.setIfInBounds_toArray, List.set_cons_zero, List.set_cons_succ]))
  refine lin_call (by assumption) (by rfl) (fun K hK => ?_)
  go_simp
  refine (num_any _ _ (by omega)).mono ?_; rintro e o4 ⟨rfl, rfl⟩
  go_wp2_with fail
  refine hK.out _ _ j8 (fun _ => ?_)
  clear hK K
  try simp only [Act.put, List.setIfInBounds_toArray, List.set_cons_zero, List.set_cons_succ]
  iterate 3 (refine lin_take (v := ?_) (by assumption) (by rfl) ?_ ?_; rotate_left; (intro x hx; (try dsimp only at hx); go_simp; try (with_reducible rfl)); (simp only [Act.put, List.setIfInBounds_toArray, List.set_cons_zero, List.set_cons_succ]))
  refine lin_done ?_
  go_wp2_with fail
  go_ret
  exact ⟨rfl, HWB.out _ (kW8.trans (j7.trans j8))⟩

end
theorem imageTells_walk (A : Option Addr) (c : Nat) (D : Option Addr) (d : Nat) (p : Prog) (v1 : Value) (n1 : Nat) (zs : List Int) (w : World) (f : p.Fits) (r : ProgV w w.heap.size (.slice A p.code.length c) (.slice D p.data.length d) p) (s : Row w w.heap.size 1 v1 n1 (zs.map (Value.int .u8))) (hz : ∀ x ∈ zs, 0 ≤ x ∧ x ≤ 255) :
    Calls Try.prog 3 #[.agg #[.slice A p.code.length c, .int .i64 p.size, .slice D p.data.length d], v1] w fun e w' => e = .returned (.bool true) ∧ Below w.heap.size w w' := by
  obtain ⟨B, b, rfl⟩ := s.form
  cases hf : fewB p.code.length p.data.length
  · exact imageTells_few A c D d p B n1 b zs w f r s hz hf
  by_cases hn : n1 ≤ 1500
  · exact imageTells_main A c D d p B n1 b zs w f r s hz hf hn
  · exact imageTells_long A c D d p B n1 b zs w f r s hz hf (by omega)
end Go.Proofs.Ythnimeibjannpaa.Words

/- The walk of ImageApart. -/
import Derived.Test.YthnimeibjannpaaImageBack
namespace Go.Proofs.Ythnimeibjannpaa.Words
open Go.RowKit
set_option linter.unusedVariables false

theorem apart_eq {p q : Prog} (hp : p.right = true) (hq : q.right = true) : (decide (imgZ p = imgZ q) == decide (p = q)) = true := by
  rw [beq_iff_eq, decide_eq_decide]; exact img_inj hp hq

section
variable (A : Option Addr) (c : Nat) (D : Option Addr) (d : Nat) (p : Prog) (A' : Option Addr) (c' : Nat) (D' : Option Addr) (d' : Nat) (q : Prog) (w : World)

set_option maxHeartbeats 1000000 in
theorem imageApart_no1 (f : p.Fits) (g : q.Fits) (r : ProgV w w.heap.size (.slice A p.code.length c) (.slice D p.data.length d) p) (s : ProgV w w.heap.size (.slice A' q.code.length c') (.slice D' q.data.length d') q)  (hf : fewB p.code.length p.data.length = false) :
    Calls Try.prog 8 #[.agg #[.slice A p.code.length c, .int .i64 p.size, .slice D p.data.length d], .agg #[.slice A' q.code.length c', .int .i64 q.size, .slice D' q.data.length d']] w fun e w' => e = .returned (.bool true) ∧ Below w.heap.size w w' := by
  have HF := Lib.hid hf
  clear hf
  obtain ⟨u1, u2⟩ := r.code.cap
  obtain ⟨u3, u4⟩ := r.data.cap
  obtain ⟨u5, u6⟩ := s.code.cap
  obtain ⟨u7, u8⟩ := s.data.cap
  have hB : w.heap.size + 1 < ((w.alloc (.cells #[.slice A p.code.length c, .int .i64 p.size, .slice D p.data.length d] 25)).alloc (.cells #[.slice A' q.code.length c', .int .i64 q.size, .slice D' q.data.length d'] 25)).heap.size := by simp
  have HP := Lib.hid (((r.alloc (Nat.le_refl _) (.cells #[.slice A p.code.length c, .int .i64 p.size, .slice D p.data.length d] 25)).alloc (by simp) (.cells #[.slice A' q.code.length c', .int .i64 q.size, .slice D' q.data.length d'] 25)).more (B' := ((w.alloc (.cells #[.slice A p.code.length c, .int .i64 p.size, .slice D p.data.length d] 25)).alloc (.cells #[.slice A' q.code.length c', .int .i64 q.size, .slice D' q.data.length d'] 25)).heap.size) (by omega))
  have HQ := Lib.hid (((s.alloc (Nat.le_refl _) (.cells #[.slice A p.code.length c, .int .i64 p.size, .slice D p.data.length d] 25)).alloc (by simp) (.cells #[.slice A' q.code.length c', .int .i64 q.size, .slice D' q.data.length d'] 25)).more (B' := ((w.alloc (.cells #[.slice A p.code.length c, .int .i64 p.size, .slice D p.data.length d] 25)).alloc (.cells #[.slice A' q.code.length c', .int .i64 q.size, .slice D' q.data.length d'] 25)).heap.size) (by omega))
  have HW := Lib.hid (((Below.refl w.heap.size w).alloc (Nat.le_refl _) (.cells #[.slice A p.code.length c, .int .i64 p.size, .slice D p.data.length d] 25)).alloc (by simp) (.cells #[.slice A' q.code.length c', .int .i64 q.size, .slice D' q.data.length d'] 25))
  have c0 : ((w.alloc (.cells #[.slice A p.code.length c, .int .i64 p.size, .slice D p.data.length d] 25)).alloc (.cells #[.slice A' q.code.length c', .int .i64 q.size, .slice D' q.data.length d'] 25)).cell? ⟨w.heap.size, 0, none⟩ = some (.slice A p.code.length c) := by go_simp
  have c1 : ((w.alloc (.cells #[.slice A p.code.length c, .int .i64 p.size, .slice D p.data.length d] 25)).alloc (.cells #[.slice A' q.code.length c', .int .i64 q.size, .slice D' q.data.length d'] 25)).cell? ⟨w.heap.size, 1, none⟩ = some (.int .i64 p.size) := by go_simp
  have c2 : ((w.alloc (.cells #[.slice A p.code.length c, .int .i64 p.size, .slice D p.data.length d] 25)).alloc (.cells #[.slice A' q.code.length c', .int .i64 q.size, .slice D' q.data.length d'] 25)).cell? ⟨w.heap.size, 2, none⟩ = some (.slice D p.data.length d) := by go_simp
  have e0 : ((w.alloc (.cells #[.slice A p.code.length c, .int .i64 p.size, .slice D p.data.length d] 25)).alloc (.cells #[.slice A' q.code.length c', .int .i64 q.size, .slice D' q.data.length d'] 25)).cell? ⟨w.heap.size + 1, 0, none⟩ = some (.slice A' q.code.length c') := by go_simp
  have e1 : ((w.alloc (.cells #[.slice A p.code.length c, .int .i64 p.size, .slice D p.data.length d] 25)).alloc (.cells #[.slice A' q.code.length c', .int .i64 q.size, .slice D' q.data.length d'] 25)).cell? ⟨w.heap.size + 1, 1, none⟩ = some (.int .i64 q.size) := by go_simp
  have e2 : ((w.alloc (.cells #[.slice A p.code.length c, .int .i64 p.size, .slice D p.data.length d] 25)).alloc (.cells #[.slice A' q.code.length c', .int .i64 q.size, .slice D' q.data.length d'] 25)).cell? ⟨w.heap.size + 1, 2, none⟩ = some (.slice D' q.data.length d') := by go_simp
  clear r s
  go_enter Try.func8, Try.ntmps8
  go_wp2_with fail
  generalize ((w.alloc (.cells #[.slice A p.code.length c, .int .i64 p.size, .slice D p.data.length d] 25)).alloc (.cells #[.slice A' q.code.length c', .int .i64 q.size, .slice D' q.data.length d'] 25)) = W at *
  have C0 := Lib.hid (fun (x : World) (h : Kept W x) => h.cell (by omega) c0)
  have C1 := Lib.hid (fun (x : World) (h : Kept W x) => h.cell (by omega) c1)
  have C2 := Lib.hid (fun (x : World) (h : Kept W x) => h.cell (by omega) c2)
  have E0 := Lib.hid (fun (x : World) (h : Kept W x) => h.cell (by omega) e0)
  have E1 := Lib.hid (fun (x : World) (h : Kept W x) => h.cell (by omega) e1)
  have E2 := Lib.hid (fun (x : World) (h : Kept W x) => h.cell (by omega) e2)
  have HPx := Lib.hid (fun (x : World) (h : Kept W x) => (show ProgV x x.heap.size _ _ p from ⟨h.row HP.out.code, h.row HP.out.data⟩))
  have HQx := Lib.hid (fun (x : World) (h : Kept W x) => (show ProgV x x.heap.size _ _ q from ⟨h.row HQ.out.code, h.row HQ.out.data⟩))
  have HWB := Lib.hid (fun (x : World) (h : Kept W x) => HW.out.trans (h.mono (by omega)))
  clear c0 c1 c2 e0 e1 e2 HP HQ HW
  refine (imgAlive_any _).mono ?_; rintro e w1 ⟨rfl, hb1⟩
  have k1 : Kept W w1 := hb1
  have c0 := C0.out _ k1
  have c1 := C1.out _ k1
  have c2 := C2.out _ k1
  have e0 := E0.out _ k1
  have e1 := E1.out _ k1
  have e2 := E2.out _ k1
  clear hb1
  go_wp2_with fail
  refine (few_any A D p.code.length c p.data.length d p.size _ (by omega) (by omega)).mono ?_; rintro e w2 ⟨rfl, hb2⟩
  rw [HF.out]
  have k2 := k1.to hb2
  clear hb2 k1 c0 c1 c2 e0 e1 e2
  have c0 := C0.out _ k2
  have c1 := C1.out _ k2
  have c2 := C2.out _ k2
  have e0 := E0.out _ k2
  have e1 := E1.out _ k2
  have e2 := E2.out _ k2
  go_wp2_with fail
  go_ret
  exact ⟨rfl, HWB.out _ k2⟩

set_option maxHeartbeats 1000000 in
theorem imageApart_no2 (f : p.Fits) (g : q.Fits) (r : ProgV w w.heap.size (.slice A p.code.length c) (.slice D p.data.length d) p) (s : ProgV w w.heap.size (.slice A' q.code.length c') (.slice D' q.data.length d') q) (hf : fewB p.code.length p.data.length = true) (hg : fewB q.code.length q.data.length = false) :
    Calls Try.prog 8 #[.agg #[.slice A p.code.length c, .int .i64 p.size, .slice D p.data.length d], .agg #[.slice A' q.code.length c', .int .i64 q.size, .slice D' q.data.length d']] w fun e w' => e = .returned (.bool true) ∧ Below w.heap.size w w' := by
  have HF := Lib.hid hf
  have HG := Lib.hid hg
  clear hf hg
  obtain ⟨u1, u2⟩ := r.code.cap
  obtain ⟨u3, u4⟩ := r.data.cap
  obtain ⟨u5, u6⟩ := s.code.cap
  obtain ⟨u7, u8⟩ := s.data.cap
  have hB : w.heap.size + 1 < ((w.alloc (.cells #[.slice A p.code.length c, .int .i64 p.size, .slice D p.data.length d] 25)).alloc (.cells #[.slice A' q.code.length c', .int .i64 q.size, .slice D' q.data.length d'] 25)).heap.size := by simp
  have HP := Lib.hid (((r.alloc (Nat.le_refl _) (.cells #[.slice A p.code.length c, .int .i64 p.size, .slice D p.data.length d] 25)).alloc (by simp) (.cells #[.slice A' q.code.length c', .int .i64 q.size, .slice D' q.data.length d'] 25)).more (B' := ((w.alloc (.cells #[.slice A p.code.length c, .int .i64 p.size, .slice D p.data.length d] 25)).alloc (.cells #[.slice A' q.code.length c', .int .i64 q.size, .slice D' q.data.length d'] 25)).heap.size) (by omega))
  have HQ := Lib.hid (((s.alloc (Nat.le_refl _) (.cells #[.slice A p.code.length c, .int .i64 p.size, .slice D p.data.length d] 25)).alloc (by simp) (.cells #[.slice A' q.code.length c', .int .i64 q.size, .slice D' q.data.length d'] 25)).more (B' := ((w.alloc (.cells #[.slice A p.code.length c, .int .i64 p.size, .slice D p.data.length d] 25)).alloc (.cells #[.slice A' q.code.length c', .int .i64 q.size, .slice D' q.data.length d'] 25)).heap.size) (by omega))
  have HW := Lib.hid (((Below.refl w.heap.size w).alloc (Nat.le_refl _) (.cells #[.slice A p.code.length c, .int .i64 p.size, .slice D p.data.length d] 25)).alloc (by simp) (.cells #[.slice A' q.code.length c', .int .i64 q.size, .slice D' q.data.length d'] 25))
  have c0 : ((w.alloc (.cells #[.slice A p.code.length c, .int .i64 p.size, .slice D p.data.length d] 25)).alloc (.cells #[.slice A' q.code.length c', .int .i64 q.size, .slice D' q.data.length d'] 25)).cell? ⟨w.heap.size, 0, none⟩ = some (.slice A p.code.length c) := by go_simp
  have c1 : ((w.alloc (.cells #[.slice A p.code.length c, .int .i64 p.size, .slice D p.data.length d] 25)).alloc (.cells #[.slice A' q.code.length c', .int .i64 q.size, .slice D' q.data.length d'] 25)).cell? ⟨w.heap.size, 1, none⟩ = some (.int .i64 p.size) := by go_simp
  have c2 : ((w.alloc (.cells #[.slice A p.code.length c, .int .i64 p.size, .slice D p.data.length d] 25)).alloc (.cells #[.slice A' q.code.length c', .int .i64 q.size, .slice D' q.data.length d'] 25)).cell? ⟨w.heap.size, 2, none⟩ = some (.slice D p.data.length d) := by go_simp
  have e0 : ((w.alloc (.cells #[.slice A p.code.length c, .int .i64 p.size, .slice D p.data.length d] 25)).alloc (.cells #[.slice A' q.code.length c', .int .i64 q.size, .slice D' q.data.length d'] 25)).cell? ⟨w.heap.size + 1, 0, none⟩ = some (.slice A' q.code.length c') := by go_simp
  have e1 : ((w.alloc (.cells #[.slice A p.code.length c, .int .i64 p.size, .slice D p.data.length d] 25)).alloc (.cells #[.slice A' q.code.length c', .int .i64 q.size, .slice D' q.data.length d'] 25)).cell? ⟨w.heap.size + 1, 1, none⟩ = some (.int .i64 q.size) := by go_simp
  have e2 : ((w.alloc (.cells #[.slice A p.code.length c, .int .i64 p.size, .slice D p.data.length d] 25)).alloc (.cells #[.slice A' q.code.length c', .int .i64 q.size, .slice D' q.data.length d'] 25)).cell? ⟨w.heap.size + 1, 2, none⟩ = some (.slice D' q.data.length d') := by go_simp
  clear r s
  go_enter Try.func8, Try.ntmps8
  go_wp2_with fail
  generalize ((w.alloc (.cells #[.slice A p.code.length c, .int .i64 p.size, .slice D p.data.length d] 25)).alloc (.cells #[.slice A' q.code.length c', .int .i64 q.size, .slice D' q.data.length d'] 25)) = W at *
  have C0 := Lib.hid (fun (x : World) (h : Kept W x) => h.cell (by omega) c0)
  have C1 := Lib.hid (fun (x : World) (h : Kept W x) => h.cell (by omega) c1)
  have C2 := Lib.hid (fun (x : World) (h : Kept W x) => h.cell (by omega) c2)
  have E0 := Lib.hid (fun (x : World) (h : Kept W x) => h.cell (by omega) e0)
  have E1 := Lib.hid (fun (x : World) (h : Kept W x) => h.cell (by omega) e1)
  have E2 := Lib.hid (fun (x : World) (h : Kept W x) => h.cell (by omega) e2)
  have HPx := Lib.hid (fun (x : World) (h : Kept W x) => (show ProgV x x.heap.size _ _ p from ⟨h.row HP.out.code, h.row HP.out.data⟩))
  have HQx := Lib.hid (fun (x : World) (h : Kept W x) => (show ProgV x x.heap.size _ _ q from ⟨h.row HQ.out.code, h.row HQ.out.data⟩))
  have HWB := Lib.hid (fun (x : World) (h : Kept W x) => HW.out.trans (h.mono (by omega)))
  clear c0 c1 c2 e0 e1 e2 HP HQ HW
  refine (imgAlive_any _).mono ?_; rintro e w1 ⟨rfl, hb1⟩
  have k1 : Kept W w1 := hb1
  have c0 := C0.out _ k1
  have c1 := C1.out _ k1
  have c2 := C2.out _ k1
  have e0 := E0.out _ k1
  have e1 := E1.out _ k1
  have e2 := E2.out _ k1
  clear hb1
  go_wp2_with fail
  refine (few_any A D p.code.length c p.data.length d p.size _ (by omega) (by omega)).mono ?_; rintro e w2 ⟨rfl, hb2⟩
  rw [HF.out]
  have k2 := k1.to hb2
  clear hb2 k1 c0 c1 c2 e0 e1 e2
  have c0 := C0.out _ k2
  have c1 := C1.out _ k2
  have c2 := C2.out _ k2
  have e0 := E0.out _ k2
  have e1 := E1.out _ k2
  have e2 := E2.out _ k2
  go_wp2_with fail
  refine (few_any A' D' q.code.length c' q.data.length d' q.size _ (by omega) (by omega)).mono ?_; rintro e w3 ⟨rfl, hb3⟩
  rw [HG.out]
  have k3 := k2.to hb3
  clear hb3 k2 c0 c1 c2 e0 e1 e2
  have c0 := C0.out _ k3
  have c1 := C1.out _ k3
  have c2 := C2.out _ k3
  have e0 := E0.out _ k3
  have e1 := E1.out _ k3
  have e2 := E2.out _ k3
  go_wp2_with fail
  go_ret
  exact ⟨rfl, HWB.out _ k3⟩

set_option maxHeartbeats 1000000 in
theorem imageApart_no3 (f : p.Fits) (g : q.Fits) (r : ProgV w w.heap.size (.slice A p.code.length c) (.slice D p.data.length d) p) (s : ProgV w w.heap.size (.slice A' q.code.length c') (.slice D' q.data.length d') q) (hf : fewB p.code.length p.data.length = true) (hg : fewB q.code.length q.data.length = true) (hr : p.right = false) :
    Calls Try.prog 8 #[.agg #[.slice A p.code.length c, .int .i64 p.size, .slice D p.data.length d], .agg #[.slice A' q.code.length c', .int .i64 q.size, .slice D' q.data.length d']] w fun e w' => e = .returned (.bool true) ∧ Below w.heap.size w w' := by
  have HF := Lib.hid hf
  have HG := Lib.hid hg
  have HR := Lib.hid hr
  clear hf hg hr
  obtain ⟨u1, u2⟩ := r.code.cap
  obtain ⟨u3, u4⟩ := r.data.cap
  obtain ⟨u5, u6⟩ := s.code.cap
  obtain ⟨u7, u8⟩ := s.data.cap
  have hB : w.heap.size + 1 < ((w.alloc (.cells #[.slice A p.code.length c, .int .i64 p.size, .slice D p.data.length d] 25)).alloc (.cells #[.slice A' q.code.length c', .int .i64 q.size, .slice D' q.data.length d'] 25)).heap.size := by simp
  have HP := Lib.hid (((r.alloc (Nat.le_refl _) (.cells #[.slice A p.code.length c, .int .i64 p.size, .slice D p.data.length d] 25)).alloc (by simp) (.cells #[.slice A' q.code.length c', .int .i64 q.size, .slice D' q.data.length d'] 25)).more (B' := ((w.alloc (.cells #[.slice A p.code.length c, .int .i64 p.size, .slice D p.data.length d] 25)).alloc (.cells #[.slice A' q.code.length c', .int .i64 q.size, .slice D' q.data.length d'] 25)).heap.size) (by omega))
  have HQ := Lib.hid (((s.alloc (Nat.le_refl _) (.cells #[.slice A p.code.length c, .int .i64 p.size, .slice D p.data.length d] 25)).alloc (by simp) (.cells #[.slice A' q.code.length c', .int .i64 q.size, .slice D' q.data.length d'] 25)).more (B' := ((w.alloc (.cells #[.slice A p.code.length c, .int .i64 p.size, .slice D p.data.length d] 25)).alloc (.cells #[.slice A' q.code.length c', .int .i64 q.size, .slice D' q.data.length d'] 25)).heap.size) (by omega))
  have HW := Lib.hid (((Below.refl w.heap.size w).alloc (Nat.le_refl _) (.cells #[.slice A p.code.length c, .int .i64 p.size, .slice D p.data.length d] 25)).alloc (by simp) (.cells #[.slice A' q.code.length c', .int .i64 q.size, .slice D' q.data.length d'] 25))
  have c0 : ((w.alloc (.cells #[.slice A p.code.length c, .int .i64 p.size, .slice D p.data.length d] 25)).alloc (.cells #[.slice A' q.code.length c', .int .i64 q.size, .slice D' q.data.length d'] 25)).cell? ⟨w.heap.size, 0, none⟩ = some (.slice A p.code.length c) := by go_simp
  have c1 : ((w.alloc (.cells #[.slice A p.code.length c, .int .i64 p.size, .slice D p.data.length d] 25)).alloc (.cells #[.slice A' q.code.length c', .int .i64 q.size, .slice D' q.data.length d'] 25)).cell? ⟨w.heap.size, 1, none⟩ = some (.int .i64 p.size) := by go_simp
  have c2 : ((w.alloc (.cells #[.slice A p.code.length c, .int .i64 p.size, .slice D p.data.length d] 25)).alloc (.cells #[.slice A' q.code.length c', .int .i64 q.size, .slice D' q.data.length d'] 25)).cell? ⟨w.heap.size, 2, none⟩ = some (.slice D p.data.length d) := by go_simp
  have e0 : ((w.alloc (.cells #[.slice A p.code.length c, .int .i64 p.size, .slice D p.data.length d] 25)).alloc (.cells #[.slice A' q.code.length c', .int .i64 q.size, .slice D' q.data.length d'] 25)).cell? ⟨w.heap.size + 1, 0, none⟩ = some (.slice A' q.code.length c') := by go_simp
  have e1 : ((w.alloc (.cells #[.slice A p.code.length c, .int .i64 p.size, .slice D p.data.length d] 25)).alloc (.cells #[.slice A' q.code.length c', .int .i64 q.size, .slice D' q.data.length d'] 25)).cell? ⟨w.heap.size + 1, 1, none⟩ = some (.int .i64 q.size) := by go_simp
  have e2 : ((w.alloc (.cells #[.slice A p.code.length c, .int .i64 p.size, .slice D p.data.length d] 25)).alloc (.cells #[.slice A' q.code.length c', .int .i64 q.size, .slice D' q.data.length d'] 25)).cell? ⟨w.heap.size + 1, 2, none⟩ = some (.slice D' q.data.length d') := by go_simp
  clear r s
  go_enter Try.func8, Try.ntmps8
  go_wp2_with fail
  generalize ((w.alloc (.cells #[.slice A p.code.length c, .int .i64 p.size, .slice D p.data.length d] 25)).alloc (.cells #[.slice A' q.code.length c', .int .i64 q.size, .slice D' q.data.length d'] 25)) = W at *
  have C0 := Lib.hid (fun (x : World) (h : Kept W x) => h.cell (by omega) c0)
  have C1 := Lib.hid (fun (x : World) (h : Kept W x) => h.cell (by omega) c1)
  have C2 := Lib.hid (fun (x : World) (h : Kept W x) => h.cell (by omega) c2)
  have E0 := Lib.hid (fun (x : World) (h : Kept W x) => h.cell (by omega) e0)
  have E1 := Lib.hid (fun (x : World) (h : Kept W x) => h.cell (by omega) e1)
  have E2 := Lib.hid (fun (x : World) (h : Kept W x) => h.cell (by omega) e2)
  have HPx := Lib.hid (fun (x : World) (h : Kept W x) => (show ProgV x x.heap.size _ _ p from ⟨h.row HP.out.code, h.row HP.out.data⟩))
  have HQx := Lib.hid (fun (x : World) (h : Kept W x) => (show ProgV x x.heap.size _ _ q from ⟨h.row HQ.out.code, h.row HQ.out.data⟩))
  have HWB := Lib.hid (fun (x : World) (h : Kept W x) => HW.out.trans (h.mono (by omega)))
  clear c0 c1 c2 e0 e1 e2 HP HQ HW
  refine (imgAlive_any _).mono ?_; rintro e w1 ⟨rfl, hb1⟩
  have k1 : Kept W w1 := hb1
  have c0 := C0.out _ k1
  have c1 := C1.out _ k1
  have c2 := C2.out _ k1
  have e0 := E0.out _ k1
  have e1 := E1.out _ k1
  have e2 := E2.out _ k1
  clear hb1
  go_wp2_with fail
  refine (few_any A D p.code.length c p.data.length d p.size _ (by omega) (by omega)).mono ?_; rintro e w2 ⟨rfl, hb2⟩
  rw [HF.out]
  have k2 := k1.to hb2
  clear hb2 k1 c0 c1 c2 e0 e1 e2
  have c0 := C0.out _ k2
  have c1 := C1.out _ k2
  have c2 := C2.out _ k2
  have e0 := E0.out _ k2
  have e1 := E1.out _ k2
  have e2 := E2.out _ k2
  go_wp2_with fail
  refine (few_any A' D' q.code.length c' q.data.length d' q.size _ (by omega) (by omega)).mono ?_; rintro e w3 ⟨rfl, hb3⟩
  rw [HG.out]
  have k3 := k2.to hb3
  clear hb3 k2 c0 c1 c2 e0 e1 e2
  have c0 := C0.out _ k3
  have c1 := C1.out _ k3
  have c2 := C2.out _ k3
  have e0 := E0.out _ k3
  have e1 := E1.out _ k3
  have e2 := E2.out _ k3
  go_wp2_with fail
  refine (refRight_any A c p.size D p.data.length d p.code _ (HPx.out _ k3).code u3 u4).mono ?_; rintro e w4 ⟨rfl, hb4⟩
  rw [← right_prog, HR.out]
  have k4 := k3.to hb4
  clear hb4 k3 c0 c1 c2 e0 e1 e2
  have c0 := C0.out _ k4
  have c1 := C1.out _ k4
  have c2 := C2.out _ k4
  have e0 := E0.out _ k4
  have e1 := E1.out _ k4
  have e2 := E2.out _ k4
  go_wp2_with fail
  go_ret
  exact ⟨rfl, HWB.out _ k4⟩

set_option maxHeartbeats 1000000 in
theorem imageApart_no4 (f : p.Fits) (g : q.Fits) (r : ProgV w w.heap.size (.slice A p.code.length c) (.slice D p.data.length d) p) (s : ProgV w w.heap.size (.slice A' q.code.length c') (.slice D' q.data.length d') q) (hf : fewB p.code.length p.data.length = true) (hg : fewB q.code.length q.data.length = true) (hr : p.right = true) (hs : q.right = false) :
    Calls Try.prog 8 #[.agg #[.slice A p.code.length c, .int .i64 p.size, .slice D p.data.length d], .agg #[.slice A' q.code.length c', .int .i64 q.size, .slice D' q.data.length d']] w fun e w' => e = .returned (.bool true) ∧ Below w.heap.size w w' := by
  have HF := Lib.hid hf
  have HG := Lib.hid hg
  have HR := Lib.hid hr
  have HS := Lib.hid hs
  clear hf hg hr hs
  obtain ⟨u1, u2⟩ := r.code.cap
  obtain ⟨u3, u4⟩ := r.data.cap
  obtain ⟨u5, u6⟩ := s.code.cap
  obtain ⟨u7, u8⟩ := s.data.cap
  have hB : w.heap.size + 1 < ((w.alloc (.cells #[.slice A p.code.length c, .int .i64 p.size, .slice D p.data.length d] 25)).alloc (.cells #[.slice A' q.code.length c', .int .i64 q.size, .slice D' q.data.length d'] 25)).heap.size := by simp
  have HP := Lib.hid (((r.alloc (Nat.le_refl _) (.cells #[.slice A p.code.length c, .int .i64 p.size, .slice D p.data.length d] 25)).alloc (by simp) (.cells #[.slice A' q.code.length c', .int .i64 q.size, .slice D' q.data.length d'] 25)).more (B' := ((w.alloc (.cells #[.slice A p.code.length c, .int .i64 p.size, .slice D p.data.length d] 25)).alloc (.cells #[.slice A' q.code.length c', .int .i64 q.size, .slice D' q.data.length d'] 25)).heap.size) (by omega))
  have HQ := Lib.hid (((s.alloc (Nat.le_refl _) (.cells #[.slice A p.code.length c, .int .i64 p.size, .slice D p.data.length d] 25)).alloc (by simp) (.cells #[.slice A' q.code.length c', .int .i64 q.size, .slice D' q.data.length d'] 25)).more (B' := ((w.alloc (.cells #[.slice A p.code.length c, .int .i64 p.size, .slice D p.data.length d] 25)).alloc (.cells #[.slice A' q.code.length c', .int .i64 q.size, .slice D' q.data.length d'] 25)).heap.size) (by omega))
  have HW := Lib.hid (((Below.refl w.heap.size w).alloc (Nat.le_refl _) (.cells #[.slice A p.code.length c, .int .i64 p.size, .slice D p.data.length d] 25)).alloc (by simp) (.cells #[.slice A' q.code.length c', .int .i64 q.size, .slice D' q.data.length d'] 25))
  have c0 : ((w.alloc (.cells #[.slice A p.code.length c, .int .i64 p.size, .slice D p.data.length d] 25)).alloc (.cells #[.slice A' q.code.length c', .int .i64 q.size, .slice D' q.data.length d'] 25)).cell? ⟨w.heap.size, 0, none⟩ = some (.slice A p.code.length c) := by go_simp
  have c1 : ((w.alloc (.cells #[.slice A p.code.length c, .int .i64 p.size, .slice D p.data.length d] 25)).alloc (.cells #[.slice A' q.code.length c', .int .i64 q.size, .slice D' q.data.length d'] 25)).cell? ⟨w.heap.size, 1, none⟩ = some (.int .i64 p.size) := by go_simp
  have c2 : ((w.alloc (.cells #[.slice A p.code.length c, .int .i64 p.size, .slice D p.data.length d] 25)).alloc (.cells #[.slice A' q.code.length c', .int .i64 q.size, .slice D' q.data.length d'] 25)).cell? ⟨w.heap.size, 2, none⟩ = some (.slice D p.data.length d) := by go_simp
  have e0 : ((w.alloc (.cells #[.slice A p.code.length c, .int .i64 p.size, .slice D p.data.length d] 25)).alloc (.cells #[.slice A' q.code.length c', .int .i64 q.size, .slice D' q.data.length d'] 25)).cell? ⟨w.heap.size + 1, 0, none⟩ = some (.slice A' q.code.length c') := by go_simp
  have e1 : ((w.alloc (.cells #[.slice A p.code.length c, .int .i64 p.size, .slice D p.data.length d] 25)).alloc (.cells #[.slice A' q.code.length c', .int .i64 q.size, .slice D' q.data.length d'] 25)).cell? ⟨w.heap.size + 1, 1, none⟩ = some (.int .i64 q.size) := by go_simp
  have e2 : ((w.alloc (.cells #[.slice A p.code.length c, .int .i64 p.size, .slice D p.data.length d] 25)).alloc (.cells #[.slice A' q.code.length c', .int .i64 q.size, .slice D' q.data.length d'] 25)).cell? ⟨w.heap.size + 1, 2, none⟩ = some (.slice D' q.data.length d') := by go_simp
  clear r s
  go_enter Try.func8, Try.ntmps8
  go_wp2_with fail
  generalize ((w.alloc (.cells #[.slice A p.code.length c, .int .i64 p.size, .slice D p.data.length d] 25)).alloc (.cells #[.slice A' q.code.length c', .int .i64 q.size, .slice D' q.data.length d'] 25)) = W at *
  have C0 := Lib.hid (fun (x : World) (h : Kept W x) => h.cell (by omega) c0)
  have C1 := Lib.hid (fun (x : World) (h : Kept W x) => h.cell (by omega) c1)
  have C2 := Lib.hid (fun (x : World) (h : Kept W x) => h.cell (by omega) c2)
  have E0 := Lib.hid (fun (x : World) (h : Kept W x) => h.cell (by omega) e0)
  have E1 := Lib.hid (fun (x : World) (h : Kept W x) => h.cell (by omega) e1)
  have E2 := Lib.hid (fun (x : World) (h : Kept W x) => h.cell (by omega) e2)
  have HPx := Lib.hid (fun (x : World) (h : Kept W x) => (show ProgV x x.heap.size _ _ p from ⟨h.row HP.out.code, h.row HP.out.data⟩))
  have HQx := Lib.hid (fun (x : World) (h : Kept W x) => (show ProgV x x.heap.size _ _ q from ⟨h.row HQ.out.code, h.row HQ.out.data⟩))
  have HWB := Lib.hid (fun (x : World) (h : Kept W x) => HW.out.trans (h.mono (by omega)))
  clear c0 c1 c2 e0 e1 e2 HP HQ HW
  refine (imgAlive_any _).mono ?_; rintro e w1 ⟨rfl, hb1⟩
  have k1 : Kept W w1 := hb1
  have c0 := C0.out _ k1
  have c1 := C1.out _ k1
  have c2 := C2.out _ k1
  have e0 := E0.out _ k1
  have e1 := E1.out _ k1
  have e2 := E2.out _ k1
  clear hb1
  go_wp2_with fail
  refine (few_any A D p.code.length c p.data.length d p.size _ (by omega) (by omega)).mono ?_; rintro e w2 ⟨rfl, hb2⟩
  rw [HF.out]
  have k2 := k1.to hb2
  clear hb2 k1 c0 c1 c2 e0 e1 e2
  have c0 := C0.out _ k2
  have c1 := C1.out _ k2
  have c2 := C2.out _ k2
  have e0 := E0.out _ k2
  have e1 := E1.out _ k2
  have e2 := E2.out _ k2
  go_wp2_with fail
  refine (few_any A' D' q.code.length c' q.data.length d' q.size _ (by omega) (by omega)).mono ?_; rintro e w3 ⟨rfl, hb3⟩
  rw [HG.out]
  have k3 := k2.to hb3
  clear hb3 k2 c0 c1 c2 e0 e1 e2
  have c0 := C0.out _ k3
  have c1 := C1.out _ k3
  have c2 := C2.out _ k3
  have e0 := E0.out _ k3
  have e1 := E1.out _ k3
  have e2 := E2.out _ k3
  go_wp2_with fail
  refine (refRight_any A c p.size D p.data.length d p.code _ (HPx.out _ k3).code u3 u4).mono ?_; rintro e w4 ⟨rfl, hb4⟩
  rw [← right_prog, HR.out]
  have k4 := k3.to hb4
  clear hb4 k3 c0 c1 c2 e0 e1 e2
  have c0 := C0.out _ k4
  have c1 := C1.out _ k4
  have c2 := C2.out _ k4
  have e0 := E0.out _ k4
  have e1 := E1.out _ k4
  have e2 := E2.out _ k4
  go_wp2_with fail
  refine (refRight_any A' c' q.size D' q.data.length d' q.code _ (HQx.out _ k4).code u7 u8).mono ?_; rintro e w5 ⟨rfl, hb5⟩
  rw [← right_prog, HS.out]
  have k5 := k4.to hb5
  clear hb5 k4 c0 c1 c2 e0 e1 e2
  have c0 := C0.out _ k5
  have c1 := C1.out _ k5
  have c2 := C2.out _ k5
  have e0 := E0.out _ k5
  have e1 := E1.out _ k5
  have e2 := E2.out _ k5
  go_wp2_with fail
  go_ret
  exact ⟨rfl, HWB.out _ k5⟩

set_option maxHeartbeats 2000000 in
theorem imageApart_main (f : p.Fits) (g : q.Fits) (r : ProgV w w.heap.size (.slice A p.code.length c) (.slice D p.data.length d) p) (s : ProgV w w.heap.size (.slice A' q.code.length c') (.slice D' q.data.length d') q) (hf : fewB p.code.length p.data.length = true) (hg : fewB q.code.length q.data.length = true) (hr : p.right = true) (hs : q.right = true) :
    Calls Try.prog 8 #[.agg #[.slice A p.code.length c, .int .i64 p.size, .slice D p.data.length d], .agg #[.slice A' q.code.length c', .int .i64 q.size, .slice D' q.data.length d']] w fun e w' => e = .returned (.bool true) ∧ Below w.heap.size w w' := by
  have HFf := Lib.hid f
  have HGf := Lib.hid g
  have HF := Lib.hid hf
  have HG := Lib.hid hg
  have HR := Lib.hid hr
  have HS := Lib.hid hs
  clear hf hg hr hs
  obtain ⟨u1, u2⟩ := r.code.cap
  obtain ⟨u3, u4⟩ := r.data.cap
  obtain ⟨u5, u6⟩ := s.code.cap
  obtain ⟨u7, u8⟩ := s.data.cap
  have hB : w.heap.size + 1 < ((w.alloc (.cells #[.slice A p.code.length c, .int .i64 p.size, .slice D p.data.length d] 25)).alloc (.cells #[.slice A' q.code.length c', .int .i64 q.size, .slice D' q.data.length d'] 25)).heap.size := by simp
  have HP := Lib.hid (((r.alloc (Nat.le_refl _) (.cells #[.slice A p.code.length c, .int .i64 p.size, .slice D p.data.length d] 25)).alloc (by simp) (.cells #[.slice A' q.code.length c', .int .i64 q.size, .slice D' q.data.length d'] 25)).more (B' := ((w.alloc (.cells #[.slice A p.code.length c, .int .i64 p.size, .slice D p.data.length d] 25)).alloc (.cells #[.slice A' q.code.length c', .int .i64 q.size, .slice D' q.data.length d'] 25)).heap.size) (by omega))
  have HQ := Lib.hid (((s.alloc (Nat.le_refl _) (.cells #[.slice A p.code.length c, .int .i64 p.size, .slice D p.data.length d] 25)).alloc (by simp) (.cells #[.slice A' q.code.length c', .int .i64 q.size, .slice D' q.data.length d'] 25)).more (B' := ((w.alloc (.cells #[.slice A p.code.length c, .int .i64 p.size, .slice D p.data.length d] 25)).alloc (.cells #[.slice A' q.code.length c', .int .i64 q.size, .slice D' q.data.length d'] 25)).heap.size) (by omega))
  have HW := Lib.hid (((Below.refl w.heap.size w).alloc (Nat.le_refl _) (.cells #[.slice A p.code.length c, .int .i64 p.size, .slice D p.data.length d] 25)).alloc (by simp) (.cells #[.slice A' q.code.length c', .int .i64 q.size, .slice D' q.data.length d'] 25))
  have c0 : ((w.alloc (.cells #[.slice A p.code.length c, .int .i64 p.size, .slice D p.data.length d] 25)).alloc (.cells #[.slice A' q.code.length c', .int .i64 q.size, .slice D' q.data.length d'] 25)).cell? ⟨w.heap.size, 0, none⟩ = some (.slice A p.code.length c) := by go_simp
  have c1 : ((w.alloc (.cells #[.slice A p.code.length c, .int .i64 p.size, .slice D p.data.length d] 25)).alloc (.cells #[.slice A' q.code.length c', .int .i64 q.size, .slice D' q.data.length d'] 25)).cell? ⟨w.heap.size, 1, none⟩ = some (.int .i64 p.size) := by go_simp
  have c2 : ((w.alloc (.cells #[.slice A p.code.length c, .int .i64 p.size, .slice D p.data.length d] 25)).alloc (.cells #[.slice A' q.code.length c', .int .i64 q.size, .slice D' q.data.length d'] 25)).cell? ⟨w.heap.size, 2, none⟩ = some (.slice D p.data.length d) := by go_simp
  have e0 : ((w.alloc (.cells #[.slice A p.code.length c, .int .i64 p.size, .slice D p.data.length d] 25)).alloc (.cells #[.slice A' q.code.length c', .int .i64 q.size, .slice D' q.data.length d'] 25)).cell? ⟨w.heap.size + 1, 0, none⟩ = some (.slice A' q.code.length c') := by go_simp
  have e1 : ((w.alloc (.cells #[.slice A p.code.length c, .int .i64 p.size, .slice D p.data.length d] 25)).alloc (.cells #[.slice A' q.code.length c', .int .i64 q.size, .slice D' q.data.length d'] 25)).cell? ⟨w.heap.size + 1, 1, none⟩ = some (.int .i64 q.size) := by go_simp
  have e2 : ((w.alloc (.cells #[.slice A p.code.length c, .int .i64 p.size, .slice D p.data.length d] 25)).alloc (.cells #[.slice A' q.code.length c', .int .i64 q.size, .slice D' q.data.length d'] 25)).cell? ⟨w.heap.size + 1, 2, none⟩ = some (.slice D' q.data.length d') := by go_simp
  clear r s
  go_enter Try.func8, Try.ntmps8
  go_wp2_with fail
  generalize ((w.alloc (.cells #[.slice A p.code.length c, .int .i64 p.size, .slice D p.data.length d] 25)).alloc (.cells #[.slice A' q.code.length c', .int .i64 q.size, .slice D' q.data.length d'] 25)) = W at *
  have C0 := Lib.hid (fun (x : World) (h : Kept W x) => h.cell (by omega) c0)
  have C1 := Lib.hid (fun (x : World) (h : Kept W x) => h.cell (by omega) c1)
  have C2 := Lib.hid (fun (x : World) (h : Kept W x) => h.cell (by omega) c2)
  have E0 := Lib.hid (fun (x : World) (h : Kept W x) => h.cell (by omega) e0)
  have E1 := Lib.hid (fun (x : World) (h : Kept W x) => h.cell (by omega) e1)
  have E2 := Lib.hid (fun (x : World) (h : Kept W x) => h.cell (by omega) e2)
  have HPx := Lib.hid (fun (x : World) (h : Kept W x) => (show ProgV x x.heap.size _ _ p from ⟨h.row HP.out.code, h.row HP.out.data⟩))
  have HQx := Lib.hid (fun (x : World) (h : Kept W x) => (show ProgV x x.heap.size _ _ q from ⟨h.row HQ.out.code, h.row HQ.out.data⟩))
  have HWB := Lib.hid (fun (x : World) (h : Kept W x) => HW.out.trans (h.mono (by omega)))
  clear c0 c1 c2 e0 e1 e2 HP HQ HW
  refine (imgAlive_any _).mono ?_; rintro e w1 ⟨rfl, hb1⟩
  have k1 : Kept W w1 := hb1
  have c0 := C0.out _ k1
  have c1 := C1.out _ k1
  have c2 := C2.out _ k1
  have e0 := E0.out _ k1
  have e1 := E1.out _ k1
  have e2 := E2.out _ k1
  clear hb1
  go_wp2_with fail
  refine (few_any A D p.code.length c p.data.length d p.size _ (by omega) (by omega)).mono ?_; rintro e w2 ⟨rfl, hb2⟩
  rw [HF.out]
  have k2 := k1.to hb2
  clear hb2 k1 c0 c1 c2 e0 e1 e2
  have c0 := C0.out _ k2
  have c1 := C1.out _ k2
  have c2 := C2.out _ k2
  have e0 := E0.out _ k2
  have e1 := E1.out _ k2
  have e2 := E2.out _ k2
  go_wp2_with fail
  refine (few_any A' D' q.code.length c' q.data.length d' q.size _ (by omega) (by omega)).mono ?_; rintro e w3 ⟨rfl, hb3⟩
  rw [HG.out]
  have k3 := k2.to hb3
  clear hb3 k2 c0 c1 c2 e0 e1 e2
  have c0 := C0.out _ k3
  have c1 := C1.out _ k3
  have c2 := C2.out _ k3
  have e0 := E0.out _ k3
  have e1 := E1.out _ k3
  have e2 := E2.out _ k3
  go_wp2_with fail
  refine (refRight_any A c p.size D p.data.length d p.code _ (HPx.out _ k3).code u3 u4).mono ?_; rintro e w4 ⟨rfl, hb4⟩
  rw [← right_prog, HR.out]
  have k4 := k3.to hb4
  clear hb4 k3 c0 c1 c2 e0 e1 e2
  have c0 := C0.out _ k4
  have c1 := C1.out _ k4
  have c2 := C2.out _ k4
  have e0 := E0.out _ k4
  have e1 := E1.out _ k4
  have e2 := E2.out _ k4
  go_wp2_with fail
  refine (refRight_any A' c' q.size D' q.data.length d' q.code _ (HQx.out _ k4).code u7 u8).mono ?_; rintro e w5 ⟨rfl, hb5⟩
  rw [← right_prog, HS.out]
  have k5 := k4.to hb5
  clear hb5 k4 c0 c1 c2 e0 e1 e2
  have c0 := C0.out _ k5
  have c1 := C1.out _ k5
  have c2 := C2.out _ k5
  have e0 := E0.out _ k5
  have e1 := E1.out _ k5
  have e2 := E2.out _ k5
  go_wp2_with fail
  have k6 : Kept W w5.drew := k5.drew
  clear c0 c1 c2 e0 e1 e2
  have c0 := C0.out
  have c1 := C1.out
  have c2 := C2.out
  have e0 := E0.out
  have e1 := E1.out
  have e2 := E2.out
  refine wp_region_lin [(0, true), (3, true), (7, true), (8, true), (1, false), (2, true), (4, false), (5, true), (6, true), (9, false), (10, true), (11, true)]
    (by kernel_rfl) (by kernel_rfl) rfl (by kernel_rfl) (Kept W) ?_
  simp only [List.map_cons, List.map_nil, List.getElem?_toArray, List.getElem?_cons_succ, List.getElem?_cons_zero]
  iterate 4 (refine lin_take (v := ?_) (by assumption) (by rfl) ?_ ?_; rotate_left; (intro x hx; (try dsimp only at hx); go_simp; try (with_reducible rfl)); (simp only [Act.put, List.setIfInBounds_toArray, List.set_cons_zero, List.set_cons_succ]))
  refine lin_call (by assumption) (by rfl) (fun K hK => ?_)
  go_simp
  refine (bytes_any A D c d p _ (HPx.out _ k6)).mono ?_; rintro e w6 ⟨v6, rfl, own6, hb6⟩
  have k7 := k6.to hb6
  rw [imgOf_yes HR.out] at own6
  obtain ⟨A6, c6, rfl⟩ := (Row.of_own own6).form
  go_wp2_with fail
  refine hK.out _ _ k7 (fun _ => ?_)
  clear hK K hb6 c0 c1 c2 e0 e1 e2
  try simp only [Act.put, List.setIfInBounds_toArray, List.set_cons_zero, List.set_cons_succ]
  have cv : ∀ x, Kept w6 x → (convert 23 9 (.slice A6 (imgZ p).length c6)).run Try.prog x = .ok (.string (strOfNums (imgZ p))) x := fun x h => conv_row x 23 5 Try.underlying23 Try.underlying5 (h.row (Row.of_own own6)) 9 Try.underlying9
  refine lin_more (S' := Kept w6) (fun x h => k7.trans h) ?_
  have kk6 := Kept.refl w6
  (refine lin_take (v := ?_) (by assumption) (by rfl) ?_ ?_; rotate_left; (intro x hx; (try dsimp only at hx); go_simp; try (with_reducible rfl)); (simp only [Act.put, List.setIfInBounds_toArray, List.set_cons_zero, List.set_cons_succ]))
  refine lin_call (by assumption) (by rfl) (fun K hK => ?_)
  go_simp
  refine (bytes_any A' D' c' d' q _ (HQx.out _ k7)).mono ?_; rintro e w7 ⟨v7, rfl, own7, hb7⟩
  have k8 := k7.to hb7
  rw [imgOf_yes HS.out] at own7
  obtain ⟨A7, c7, rfl⟩ := (Row.of_own own7).form
  go_wp2_with fail
  refine hK.out _ _ (kk6.to hb7) (fun _ => ?_)
  clear hK K
  try simp only [Act.put, List.setIfInBounds_toArray, List.set_cons_zero, List.set_cons_succ]
  have cv7 : ∀ x, Kept w7 x → (convert 23 9 (.slice A7 (imgZ q).length c7)).run Try.prog x = .ok (.string (strOfNums (imgZ q))) x := fun x h => conv_row x 23 5 Try.underlying23 Try.underlying5 (h.row (Row.of_own own7)) 9 Try.underlying9
  have kk67 : Kept w6 w7 := kk6.to hb7
  clear cv hb7
  refine lin_more (S' := Kept w7) (fun x h => kk67.trans h) ?_
  have kk7 := Kept.refl w7
  have hcmp := str_eq (imgZ_bytes HR.out HFf.out.2.2) (imgZ_bytes HS.out HGf.out.2.2)
  (refine lin_take (v := ?_) (by assumption) (by rfl) ?_ ?_; rotate_left; (intro x hx; (try dsimp only at hx); go_simp; try (with_reducible rfl)); (simp only [Act.put, List.setIfInBounds_toArray, List.set_cons_zero, List.set_cons_succ]))
  (refine lin_take (v := ?_) (by assumption) (by rfl) ?_ ?_; rotate_left; (intro x hx; (try dsimp only at hx); go_simp; try (with_reducible rfl)); (simp only [Act.put, List.setIfInBounds_toArray, List.set_cons_zero, List.set_cons_succ]))
  have hSame := refSame_any A D A' D' c d c' d' p q _ (HPx.out _ k8) (HQx.out _ k8) HFf.out.2.2 HGf.out.2.2
  have HSame := Lib.hid hSame
  clear hSame cv7 hcmp
  refine lin_call (by assumption) (by rfl) (fun K hK => ?_)
  go_simp
  refine HSame.out.mono ?_; rintro e w8 ⟨rfl, hb8⟩
  have k9 := k8.to hb8
  have kk8 : Kept w7 w8 := hb8
  go_wp2_with fail
  refine hK.out _ _ kk8 (fun _ => ?_)
  clear hK K
  try simp only [Act.put, List.setIfInBounds_toArray, List.set_cons_zero, List.set_cons_succ]
  iterate 2 (refine lin_take (v := ?_) (by assumption) (by rfl) ?_ ?_; rotate_left; (intro x hx; (try dsimp only at hx); go_simp; try (with_reducible rfl)); (simp only [Act.put, List.setIfInBounds_toArray, List.set_cons_zero, List.set_cons_succ]))
  refine lin_done ?_
  go_wp2_with fail
  go_ret
  exact ⟨ret_bool (apart_eq HR.out HS.out), HWB.out _ k9⟩

theorem imageApart_walk (f : p.Fits) (r : ProgV w w.heap.size (.slice A p.code.length c) (.slice D p.data.length d) p) (g : q.Fits) (s : ProgV w w.heap.size (.slice A' q.code.length c') (.slice D' q.data.length d') q) :
    Calls Try.prog 8 #[.agg #[.slice A p.code.length c, .int .i64 p.size, .slice D p.data.length d], .agg #[.slice A' q.code.length c', .int .i64 q.size, .slice D' q.data.length d']] w fun e w' => e = .returned (.bool true) ∧ Below w.heap.size w w' := by
  cases hf : fewB p.code.length p.data.length
  · exact imageApart_no1 A c D d p A' c' D' d' q w f g r s hf
  cases hg : fewB q.code.length q.data.length
  · exact imageApart_no2 A c D d p A' c' D' d' q w f g r s hf hg
  cases hr : p.right
  · exact imageApart_no3 A c D d p A' c' D' d' q w f g r s hf hg hr
  cases hs : q.right
  · exact imageApart_no4 A c D d p A' c' D' d' q w f g r s hf hg hr hs
  · exact imageApart_main A c D d p A' c' D' d' q w f g r s hf hg hr hs
end
end Go.Proofs.Ythnimeibjannpaa.Words

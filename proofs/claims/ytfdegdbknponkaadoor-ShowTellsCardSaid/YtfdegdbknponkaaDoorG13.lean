/- Several texts in one: RefShow, RefText. -/
import Derived.Test.YtfdegdbknponkaaDoorG08
import Derived.Test.YtfdegdbknponkaaDoorG09
import Derived.Test.YtfdegdbknponkaaDoorG02
import Derived.Test.YtfdegdbknponkaaDoorG07
import Derived.Deep.QuietTactic
import Derived.BigQuiet
import Derived.Test.YtfdegdbknponkaaDoorG12

/- Contracts of the document's own r and ShowIns: what an instruction is shown as. No conditions. -/
namespace Go.Proofs.YtfdegdbknponkaaDoor.Words
set_option maxRecDepth 100000
open Go.RowKit Go.Shelf Go.Lib
set_option linter.unusedVariables false
set_option linter.unusedSimpArgs false

set_option maxHeartbeats 1000000 in
theorem refR_any (n : Int) (w : World) (h : -17179869184 ≤ n ∧ n ≤ 17179869184) : Calls Tryd.prog 41 #[.int .i64 n] w fun e w' => e = .returned (.string (txt (regS n))) ∧ w = w' := by
  have cD := dec_any n w h
  have hl := decN_len h
  have hj : (⟨#[114]⟩ : ByteArray) ++ txt (decN n) = txt (regS n) := by
    rw [show (⟨#[114]⟩ : ByteArray) = txt [114] from rfl, txt_join]; rfl
  have hsum : ¬ ((⟨#[114]⟩ : ByteArray).size + (txt (decN n)).size > 9223372036854775807) := by
    rw [show (⟨#[114]⟩ : ByteArray).size = 1 from rfl, txt_len]; omega
  have HJ := Lib.hid hj
  clear hl h
  generalize txt (decN n) = D at *
  generalize txt (regS n) = Z at *
  go_enter Tryd.func41, Tryd.ntmps41
  go_wp2_with fail
  refine cD.mono ?_; rintro e w1 ⟨rfl, rfl⟩
  go_wp2_with fail
  go_ret
  exact ⟨by first | rfl | rw [HJ.out], rfl⟩

theorem refShow_no (i : Ins) (w : World) (hr : rightB i = false) :
    Calls Tryd.prog 21 #[.agg #[.int .i64 i.op, .int .i64 i.d, .int .i64 i.a, .int .i64 i.b, .int .i64 i.imm]] w fun e w' => e = .returned (.string (txt (showZ i))) ∧ Below w.heap.size w w' := by
  rw [showZ_no hr]
  have HB := Lib.hid (fun x (h : Kept (w.alloc (.cells #[.int .i64 i.op, .int .i64 i.d, .int .i64 i.a, .int .i64 i.b, .int .i64 i.imm] 38)) x) => ((Below.refl w.heap.size w).alloc (Nat.le_refl _) _).trans (Below.mono h (by simp)))
  have cR := fun y => rightIns_any i y
  rw [hr] at cR
  have CR := Lib.hid cR
  clear cR
  go_enter Tryd.func21, Tryd.ntmps21
  go_wp2_with fail
  refine (CR.out _).mono ?_; rintro e w1 ⟨rfl, hb1⟩
  go_wp2_with fail
  go_ret
  exact ⟨by first | rfl | simp, HB.out _ (Kept.to (Kept.refl _) hb1)⟩


set_option maxHeartbeats 4000000 in
theorem refShow_1 (i : Ins) (w : World) (hr : rightB i = true) (hf : formZ i.op = 1) :
    Calls Tryd.prog 21 #[.agg #[.int .i64 i.op, .int .i64 i.d, .int .i64 i.a, .int .i64 i.b, .int .i64 i.imm]] w fun e w' => e = .returned (.string (txt (showZ i))) ∧ Below w.heap.size w w' := by
  rw [showZ_yes hr]
  obtain ⟨ho, hd, ha, hb, hi⟩ := right_range hr
  have hform := showI_1 hf hd ha hb
  have l0 := nameN_len ho
  have lD := regS_len hd
  have lA := regS_len ha
  have lB := regS_len hb
  obtain ⟨X, hX⟩ : ∃ X, X = txt (nameN i.op) := ⟨_, rfl⟩
  obtain ⟨RD, hRD⟩ : ∃ R, R = txt (regS i.d) := ⟨_, rfl⟩
  obtain ⟨RA, hRA⟩ : ∃ R, R = txt (regS i.a) := ⟨_, rfl⟩
  obtain ⟨RB, hRB⟩ : ∃ R, R = txt (regS i.b) := ⟨_, rfl⟩
  obtain ⟨Z, hZ⟩ : ∃ Z, Z = txt (showI i) := ⟨_, rfl⟩
  rw [← hZ]
  have s0 : X.size ≤ 4 := by rw [hX, txt_len]; exact l0
  have sD : RD.size ≤ 3 := by rw [hRD, txt_len]; exact lD
  have sA : RA.size ≤ 3 := by rw [hRA, txt_len]; exact lA
  have sB : RB.size ≤ 3 := by rw [hRB, txt_len]; exact lB
  have hj : ((((((X ++ (⟨#[32]⟩ : ByteArray)) ++ RD) ++ (⟨#[44, 32]⟩ : ByteArray)) ++ RA) ++ (⟨#[44, 32]⟩ : ByteArray)) ++ RB) = Z := by rw [hZ, hform, ← txt_join, ← txt_join, ← txt_join, ← txt_join, ← txt_join, ← txt_join, ← hX, ← hRD, ← hRA, ← hRB]; try rfl
  have u0 : ¬ ((X).size + ((⟨#[32]⟩ : ByteArray)).size > 9223372036854775807) := by rw [show (⟨#[32]⟩ : ByteArray).size = 1 from rfl]; omega
  have u1 : ¬ (((X ++ (⟨#[32]⟩ : ByteArray))).size + (RD).size > 9223372036854775807) := by rw [ByteArray.size_append, show (⟨#[32]⟩ : ByteArray).size = 1 from rfl]; omega
  have u2 : ¬ ((((X ++ (⟨#[32]⟩ : ByteArray)) ++ RD)).size + ((⟨#[44, 32]⟩ : ByteArray)).size > 9223372036854775807) := by rw [ByteArray.size_append, ByteArray.size_append, show (⟨#[32]⟩ : ByteArray).size = 1 from rfl, show (⟨#[44, 32]⟩ : ByteArray).size = 2 from rfl]; omega
  have u3 : ¬ (((((X ++ (⟨#[32]⟩ : ByteArray)) ++ RD) ++ (⟨#[44, 32]⟩ : ByteArray))).size + (RA).size > 9223372036854775807) := by rw [ByteArray.size_append, ByteArray.size_append, ByteArray.size_append, show (⟨#[32]⟩ : ByteArray).size = 1 from rfl, show (⟨#[44, 32]⟩ : ByteArray).size = 2 from rfl]; omega
  have u4 : ¬ ((((((X ++ (⟨#[32]⟩ : ByteArray)) ++ RD) ++ (⟨#[44, 32]⟩ : ByteArray)) ++ RA)).size + ((⟨#[44, 32]⟩ : ByteArray)).size > 9223372036854775807) := by rw [ByteArray.size_append, ByteArray.size_append, ByteArray.size_append, ByteArray.size_append, show (⟨#[32]⟩ : ByteArray).size = 1 from rfl, show (⟨#[44, 32]⟩ : ByteArray).size = 2 from rfl]; omega
  have u5 : ¬ (((((((X ++ (⟨#[32]⟩ : ByteArray)) ++ RD) ++ (⟨#[44, 32]⟩ : ByteArray)) ++ RA) ++ (⟨#[44, 32]⟩ : ByteArray))).size + (RB).size > 9223372036854775807) := by rw [ByteArray.size_append, ByteArray.size_append, ByteArray.size_append, ByteArray.size_append, ByteArray.size_append, show (⟨#[32]⟩ : ByteArray).size = 1 from rfl, show (⟨#[44, 32]⟩ : ByteArray).size = 2 from rfl]; omega
  have cRD := fun y => refR_any i.d y (by omega)
  rw [← hRD] at cRD
  have cRA := fun y => refR_any i.a y (by omega)
  rw [← hRA] at cRA
  have cRB := fun y => refR_any i.b y (by omega)
  rw [← hRB] at cRB
  have CRD := Lib.hid cRD
  clear cRD
  have CRA := Lib.hid cRA
  clear cRA
  have CRB := Lib.hid cRB
  clear cRB
  have HJ := Lib.hid hj
  have cI := fun y => rightIns_any i y
  rw [hr] at cI
  have CI := Lib.hid cI
  have HB := Lib.hid (fun x (h : Kept (w.alloc (.cells #[.int .i64 i.op, .int .i64 i.d, .int .i64 i.a, .int .i64 i.b, .int .i64 i.imm] 38)) x) => ((Below.refl w.heap.size w).alloc (Nat.le_refl _) _).trans (Below.mono h (by simp)))
  have hB : w.heap.size < (w.alloc (.cells #[.int .i64 i.op, .int .i64 i.d, .int .i64 i.a, .int .i64 i.b, .int .i64 i.imm] 38)).heap.size := by simp
  have c0 : (w.alloc (.cells #[.int .i64 i.op, .int .i64 i.d, .int .i64 i.a, .int .i64 i.b, .int .i64 i.imm] 38)).cell? ⟨w.heap.size, 0, none⟩ = some (.int .i64 i.op) := by go_simp
  have c1 : (w.alloc (.cells #[.int .i64 i.op, .int .i64 i.d, .int .i64 i.a, .int .i64 i.b, .int .i64 i.imm] 38)).cell? ⟨w.heap.size, 1, none⟩ = some (.int .i64 i.d) := by go_simp
  have c2 : (w.alloc (.cells #[.int .i64 i.op, .int .i64 i.d, .int .i64 i.a, .int .i64 i.b, .int .i64 i.imm] 38)).cell? ⟨w.heap.size, 2, none⟩ = some (.int .i64 i.a) := by go_simp
  have c3 : (w.alloc (.cells #[.int .i64 i.op, .int .i64 i.d, .int .i64 i.a, .int .i64 i.b, .int .i64 i.imm] 38)).cell? ⟨w.heap.size, 3, none⟩ = some (.int .i64 i.b) := by go_simp
  have c4 : (w.alloc (.cells #[.int .i64 i.op, .int .i64 i.d, .int .i64 i.a, .int .i64 i.b, .int .i64 i.imm] 38)).cell? ⟨w.heap.size, 4, none⟩ = some (.int .i64 i.imm) := by go_simp
  have C0 := Lib.hid (fun x (h : Kept _ x) => h.cell hB c0)
  have C1 := Lib.hid (fun x (h : Kept _ x) => h.cell hB c1)
  have C2 := Lib.hid (fun x (h : Kept _ x) => h.cell hB c2)
  have C3 := Lib.hid (fun x (h : Kept _ x) => h.cell hB c3)
  have C4 := Lib.hid (fun x (h : Kept _ x) => h.cell hB c4)
  obtain ⟨n, hk⟩ : ∃ n : Nat, i.op - 1 = (n : Int) := ⟨(i.op - 1).toNat, by omega⟩
  have HK41 := Lib.hid (show n < 41 by omega)
  have hname : namesZ.getD n [] = nameN i.op := by unfold nameN; rw [hk]; rfl
  have HN := Lib.hid hname
  have hn0 : (0 : Int) ≤ n := by omega
  have hn41 : (n : Int) < 41 := by omega
  have hwn : IntKind.i64.wrap (n : Int) = n := by rw [IntKind.wrap_i64]; omega
  have HX := Lib.hid hX
  clear cI hform ho hd ha hb hi l0 lD lA lB hRD hRA hRB sD sA sB hX hZ hr c0 c1 c2 c3 c4 hB hname s0 
  go_enter Tryd.func21, Tryd.ntmps21
  go_wp2_with fail
  refine (CI.out _).mono ?_; rintro e w1 ⟨rfl, hb1⟩
  generalize w.alloc (.cells #[.int .i64 i.op, .int .i64 i.d, .int .i64 i.a, .int .i64 i.b, .int .i64 i.imm] 38) = W at *
  have k1 : Kept W w1 := Kept.to (Kept.refl _) hb1
  clear hb1
  go_wp2_with fail
  have j0 : Kept W w1.drew := k1.drew
  have cp0 := C0.out
  refine wp_region_lin [(1, true), (2, true), (3, true), (0, false), (4, true), (5, true), (6, true)]
    (by kernel_rfl) (by kernel_rfl) rfl (by kernel_rfl) (Kept W) ?_
  simp only [List.map_cons, List.map_nil, List.getElem?_toArray, List.getElem?_cons_succ, List.getElem?_cons_zero]
  iterate 3 (refine lin_take (v := ?_) (by assumption) (by rfl) ?_ ?_; rotate_left; (intro x hx; (try dsimp only at hx); go_simp; try (with_reducible rfl)); (simp only [Act.put, List.setIfInBounds_toArray, List.set_cons_zero, List.set_cons_succ]))
  refine lin_call (by assumption) (by rfl) (fun K hK => ?_)
  go_simp
  refine (refNames_any _).mono ?_
  rintro e w2 ⟨A2, c2, rfl, hr2, hb2⟩
  obtain ⟨g2, o2, rfl, hg2, _⟩ := hr2.at_ (by omega)
  have j2 := j0.to hb2
  have nm := names_row (n := 41) hr2 HK41.out
  rw [HN.out, ← HX.out] at nm
  have NM := Lib.hid (fun x (h : Kept W x ∧ Kept w2 x) => h.2.cell hg2 nm)
  clear nm hr2 hb2
  go_wp2_with fail
  refine hK.out _ _ j2 (fun _ => ?_)
  clear hK K
  try simp only [Act.put, List.setIfInBounds_toArray, List.set_cons_zero, List.set_cons_succ]
  refine lin_more (S' := fun x => Kept W x ∧ Kept w2 x) (fun _ h => h.1) ?_
  have js : Kept W w2 ∧ Kept w2 w2 := ⟨j2, Kept.refl _⟩
  have nm := NM.out
  iterate 3 (refine lin_take (v := ?_) (by assumption) (by rfl) ?_ ?_; rotate_left; (intro x hx; (try dsimp only at hx); go_simp; try (with_reducible rfl)); (try simp only [Act.put, List.setIfInBounds_toArray, List.set_cons_zero, List.set_cons_succ]))
  refine lin_done ?_
  clear cp0 nm js
  have K2 := Lib.hid (HB.out _ j2)
  have d0 := C0.out _ j2
  have d1 := C1.out _ j2
  have d2 := C2.out _ j2
  have d3 := C3.out _ j2
  have d4 := C4.out _ j2
  clear j2 j0 k1
  go_wp2_with fail
  refine (refForm_any _ _).mono ?_; rintro e w3 ⟨rfl, rfl⟩
  rw [hf]
  go_wp2_with fail
  go_quiet (first | (go_at_call 41; refine quiet_mine7 (CRD.out _)) | (go_at_call 41; refine quiet_mine7 (CRA.out _)) | (go_at_call 41; refine quiet_mine7 (CRB.out _)))
  go_wp2_with fail
  go_ret
  exact ⟨by first | rfl | rw [HJ.out], by first | exact K2.out | exact K2.out.drew | exact Below.drewN_ K2.out _⟩

set_option maxHeartbeats 4000000 in
theorem refShow_2 (i : Ins) (w : World) (hr : rightB i = true) (hf : formZ i.op = 2) :
    Calls Tryd.prog 21 #[.agg #[.int .i64 i.op, .int .i64 i.d, .int .i64 i.a, .int .i64 i.b, .int .i64 i.imm]] w fun e w' => e = .returned (.string (txt (showZ i))) ∧ Below w.heap.size w w' := by
  rw [showZ_yes hr]
  obtain ⟨ho, hd, ha, hb, hi⟩ := right_range hr
  have hform := showI_2 hf hd ha
  have l0 := nameN_len ho
  have lD := regS_len hd
  have lA := regS_len ha
  have lN := decN_len8 hi
  obtain ⟨X, hX⟩ : ∃ X, X = txt (nameN i.op) := ⟨_, rfl⟩
  obtain ⟨RD, hRD⟩ : ∃ R, R = txt (regS i.d) := ⟨_, rfl⟩
  obtain ⟨RA, hRA⟩ : ∃ R, R = txt (regS i.a) := ⟨_, rfl⟩
  obtain ⟨DN, hDN⟩ : ∃ D, D = txt (decN i.imm) := ⟨_, rfl⟩
  obtain ⟨Z, hZ⟩ : ∃ Z, Z = txt (showI i) := ⟨_, rfl⟩
  rw [← hZ]
  have s0 : X.size ≤ 4 := by rw [hX, txt_len]; exact l0
  have sD : RD.size ≤ 3 := by rw [hRD, txt_len]; exact lD
  have sA : RA.size ≤ 3 := by rw [hRA, txt_len]; exact lA
  have sN : DN.size ≤ 12 := by rw [hDN, txt_len]; exact lN
  have hj : ((((((X ++ (⟨#[32]⟩ : ByteArray)) ++ RD) ++ (⟨#[44, 32]⟩ : ByteArray)) ++ RA) ++ (⟨#[44, 32]⟩ : ByteArray)) ++ DN) = Z := by rw [hZ, hform, ← txt_join, ← txt_join, ← txt_join, ← txt_join, ← txt_join, ← txt_join, ← hX, ← hRD, ← hRA, ← hDN]; try rfl
  have u0 : ¬ ((X).size + ((⟨#[32]⟩ : ByteArray)).size > 9223372036854775807) := by rw [show (⟨#[32]⟩ : ByteArray).size = 1 from rfl]; omega
  have u1 : ¬ (((X ++ (⟨#[32]⟩ : ByteArray))).size + (RD).size > 9223372036854775807) := by rw [ByteArray.size_append, show (⟨#[32]⟩ : ByteArray).size = 1 from rfl]; omega
  have u2 : ¬ ((((X ++ (⟨#[32]⟩ : ByteArray)) ++ RD)).size + ((⟨#[44, 32]⟩ : ByteArray)).size > 9223372036854775807) := by rw [ByteArray.size_append, ByteArray.size_append, show (⟨#[32]⟩ : ByteArray).size = 1 from rfl, show (⟨#[44, 32]⟩ : ByteArray).size = 2 from rfl]; omega
  have u3 : ¬ (((((X ++ (⟨#[32]⟩ : ByteArray)) ++ RD) ++ (⟨#[44, 32]⟩ : ByteArray))).size + (RA).size > 9223372036854775807) := by rw [ByteArray.size_append, ByteArray.size_append, ByteArray.size_append, show (⟨#[32]⟩ : ByteArray).size = 1 from rfl, show (⟨#[44, 32]⟩ : ByteArray).size = 2 from rfl]; omega
  have u4 : ¬ ((((((X ++ (⟨#[32]⟩ : ByteArray)) ++ RD) ++ (⟨#[44, 32]⟩ : ByteArray)) ++ RA)).size + ((⟨#[44, 32]⟩ : ByteArray)).size > 9223372036854775807) := by rw [ByteArray.size_append, ByteArray.size_append, ByteArray.size_append, ByteArray.size_append, show (⟨#[32]⟩ : ByteArray).size = 1 from rfl, show (⟨#[44, 32]⟩ : ByteArray).size = 2 from rfl]; omega
  have u5 : ¬ (((((((X ++ (⟨#[32]⟩ : ByteArray)) ++ RD) ++ (⟨#[44, 32]⟩ : ByteArray)) ++ RA) ++ (⟨#[44, 32]⟩ : ByteArray))).size + (DN).size > 9223372036854775807) := by rw [ByteArray.size_append, ByteArray.size_append, ByteArray.size_append, ByteArray.size_append, ByteArray.size_append, show (⟨#[32]⟩ : ByteArray).size = 1 from rfl, show (⟨#[44, 32]⟩ : ByteArray).size = 2 from rfl]; omega
  have cRD := fun y => refR_any i.d y (by omega)
  rw [← hRD] at cRD
  have cRA := fun y => refR_any i.a y (by omega)
  rw [← hRA] at cRA
  have cDN := fun y => dec_any i.imm y (by omega)
  rw [← hDN] at cDN
  have CRD := Lib.hid cRD
  clear cRD
  have CRA := Lib.hid cRA
  clear cRA
  have CDN := Lib.hid cDN
  clear cDN
  have HJ := Lib.hid hj
  have cI := fun y => rightIns_any i y
  rw [hr] at cI
  have CI := Lib.hid cI
  have HB := Lib.hid (fun x (h : Kept (w.alloc (.cells #[.int .i64 i.op, .int .i64 i.d, .int .i64 i.a, .int .i64 i.b, .int .i64 i.imm] 38)) x) => ((Below.refl w.heap.size w).alloc (Nat.le_refl _) _).trans (Below.mono h (by simp)))
  have hB : w.heap.size < (w.alloc (.cells #[.int .i64 i.op, .int .i64 i.d, .int .i64 i.a, .int .i64 i.b, .int .i64 i.imm] 38)).heap.size := by simp
  have c0 : (w.alloc (.cells #[.int .i64 i.op, .int .i64 i.d, .int .i64 i.a, .int .i64 i.b, .int .i64 i.imm] 38)).cell? ⟨w.heap.size, 0, none⟩ = some (.int .i64 i.op) := by go_simp
  have c1 : (w.alloc (.cells #[.int .i64 i.op, .int .i64 i.d, .int .i64 i.a, .int .i64 i.b, .int .i64 i.imm] 38)).cell? ⟨w.heap.size, 1, none⟩ = some (.int .i64 i.d) := by go_simp
  have c2 : (w.alloc (.cells #[.int .i64 i.op, .int .i64 i.d, .int .i64 i.a, .int .i64 i.b, .int .i64 i.imm] 38)).cell? ⟨w.heap.size, 2, none⟩ = some (.int .i64 i.a) := by go_simp
  have c3 : (w.alloc (.cells #[.int .i64 i.op, .int .i64 i.d, .int .i64 i.a, .int .i64 i.b, .int .i64 i.imm] 38)).cell? ⟨w.heap.size, 3, none⟩ = some (.int .i64 i.b) := by go_simp
  have c4 : (w.alloc (.cells #[.int .i64 i.op, .int .i64 i.d, .int .i64 i.a, .int .i64 i.b, .int .i64 i.imm] 38)).cell? ⟨w.heap.size, 4, none⟩ = some (.int .i64 i.imm) := by go_simp
  have C0 := Lib.hid (fun x (h : Kept _ x) => h.cell hB c0)
  have C1 := Lib.hid (fun x (h : Kept _ x) => h.cell hB c1)
  have C2 := Lib.hid (fun x (h : Kept _ x) => h.cell hB c2)
  have C3 := Lib.hid (fun x (h : Kept _ x) => h.cell hB c3)
  have C4 := Lib.hid (fun x (h : Kept _ x) => h.cell hB c4)
  obtain ⟨n, hk⟩ : ∃ n : Nat, i.op - 1 = (n : Int) := ⟨(i.op - 1).toNat, by omega⟩
  have HK41 := Lib.hid (show n < 41 by omega)
  have hname : namesZ.getD n [] = nameN i.op := by unfold nameN; rw [hk]; rfl
  have HN := Lib.hid hname
  have hn0 : (0 : Int) ≤ n := by omega
  have hn41 : (n : Int) < 41 := by omega
  have hwn : IntKind.i64.wrap (n : Int) = n := by rw [IntKind.wrap_i64]; omega
  have HX := Lib.hid hX
  clear cI hform ho hd ha hb hi l0 lD lA hRD hRA sD sA hX hZ hr c0 c1 c2 c3 c4 hB hname s0 lN hDN sN
  go_enter Tryd.func21, Tryd.ntmps21
  go_wp2_with fail
  refine (CI.out _).mono ?_; rintro e w1 ⟨rfl, hb1⟩
  generalize w.alloc (.cells #[.int .i64 i.op, .int .i64 i.d, .int .i64 i.a, .int .i64 i.b, .int .i64 i.imm] 38) = W at *
  have k1 : Kept W w1 := Kept.to (Kept.refl _) hb1
  clear hb1
  go_wp2_with fail
  have j0 : Kept W w1.drew := k1.drew
  have cp0 := C0.out
  refine wp_region_lin [(1, true), (2, true), (3, true), (0, false), (4, true), (5, true), (6, true)]
    (by kernel_rfl) (by kernel_rfl) rfl (by kernel_rfl) (Kept W) ?_
  simp only [List.map_cons, List.map_nil, List.getElem?_toArray, List.getElem?_cons_succ, List.getElem?_cons_zero]
  iterate 3 (refine lin_take (v := ?_) (by assumption) (by rfl) ?_ ?_; rotate_left; (intro x hx; (try dsimp only at hx); go_simp; try (with_reducible rfl)); (simp only [Act.put, List.setIfInBounds_toArray, List.set_cons_zero, List.set_cons_succ]))
  refine lin_call (by assumption) (by rfl) (fun K hK => ?_)
  go_simp
  refine (refNames_any _).mono ?_
  rintro e w2 ⟨A2, c2, rfl, hr2, hb2⟩
  obtain ⟨g2, o2, rfl, hg2, _⟩ := hr2.at_ (by omega)
  have j2 := j0.to hb2
  have nm := names_row (n := 41) hr2 HK41.out
  rw [HN.out, ← HX.out] at nm
  have NM := Lib.hid (fun x (h : Kept W x ∧ Kept w2 x) => h.2.cell hg2 nm)
  clear nm hr2 hb2
  go_wp2_with fail
  refine hK.out _ _ j2 (fun _ => ?_)
  clear hK K
  try simp only [Act.put, List.setIfInBounds_toArray, List.set_cons_zero, List.set_cons_succ]
  refine lin_more (S' := fun x => Kept W x ∧ Kept w2 x) (fun _ h => h.1) ?_
  have js : Kept W w2 ∧ Kept w2 w2 := ⟨j2, Kept.refl _⟩
  have nm := NM.out
  iterate 3 (refine lin_take (v := ?_) (by assumption) (by rfl) ?_ ?_; rotate_left; (intro x hx; (try dsimp only at hx); go_simp; try (with_reducible rfl)); (try simp only [Act.put, List.setIfInBounds_toArray, List.set_cons_zero, List.set_cons_succ]))
  refine lin_done ?_
  clear cp0 nm js
  have K2 := Lib.hid (HB.out _ j2)
  have d0 := C0.out _ j2
  have d1 := C1.out _ j2
  have d2 := C2.out _ j2
  have d3 := C3.out _ j2
  have d4 := C4.out _ j2
  clear j2 j0 k1
  go_wp2_with fail
  refine (refForm_any _ _).mono ?_; rintro e w3 ⟨rfl, rfl⟩
  rw [hf]
  go_wp2_with fail
  go_quiet (first | (go_at_call 41; refine quiet_mine7 (CRD.out _)) | (go_at_call 41; refine quiet_mine7 (CRA.out _)) | (go_at_call 20; refine quiet_mine7 (CDN.out _)))
  go_wp2_with fail
  go_ret
  exact ⟨by first | rfl | rw [HJ.out], by first | exact K2.out | exact K2.out.drew | exact Below.drewN_ K2.out _⟩

set_option maxHeartbeats 4000000 in
theorem refShow_3 (i : Ins) (w : World) (hr : rightB i = true) (hf : formZ i.op = 3) :
    Calls Tryd.prog 21 #[.agg #[.int .i64 i.op, .int .i64 i.d, .int .i64 i.a, .int .i64 i.b, .int .i64 i.imm]] w fun e w' => e = .returned (.string (txt (showZ i))) ∧ Below w.heap.size w w' := by
  rw [showZ_yes hr]
  obtain ⟨ho, hd, ha, hb, hi⟩ := right_range hr
  have hform := showI_3 hf hd
  have l0 := nameN_len ho
  have lD := regS_len hd
  have lN := decN_len8 hi
  obtain ⟨X, hX⟩ : ∃ X, X = txt (nameN i.op) := ⟨_, rfl⟩
  obtain ⟨RD, hRD⟩ : ∃ R, R = txt (regS i.d) := ⟨_, rfl⟩
  obtain ⟨DN, hDN⟩ : ∃ D, D = txt (decN i.imm) := ⟨_, rfl⟩
  obtain ⟨Z, hZ⟩ : ∃ Z, Z = txt (showI i) := ⟨_, rfl⟩
  rw [← hZ]
  have s0 : X.size ≤ 4 := by rw [hX, txt_len]; exact l0
  have sD : RD.size ≤ 3 := by rw [hRD, txt_len]; exact lD
  have sN : DN.size ≤ 12 := by rw [hDN, txt_len]; exact lN
  have hj : ((((X ++ (⟨#[32]⟩ : ByteArray)) ++ RD) ++ (⟨#[44, 32]⟩ : ByteArray)) ++ DN) = Z := by rw [hZ, hform, ← txt_join, ← txt_join, ← txt_join, ← txt_join, ← hX, ← hRD, ← hDN]; try rfl
  have u0 : ¬ ((X).size + ((⟨#[32]⟩ : ByteArray)).size > 9223372036854775807) := by rw [show (⟨#[32]⟩ : ByteArray).size = 1 from rfl]; omega
  have u1 : ¬ (((X ++ (⟨#[32]⟩ : ByteArray))).size + (RD).size > 9223372036854775807) := by rw [ByteArray.size_append, show (⟨#[32]⟩ : ByteArray).size = 1 from rfl]; omega
  have u2 : ¬ ((((X ++ (⟨#[32]⟩ : ByteArray)) ++ RD)).size + ((⟨#[44, 32]⟩ : ByteArray)).size > 9223372036854775807) := by rw [ByteArray.size_append, ByteArray.size_append, show (⟨#[32]⟩ : ByteArray).size = 1 from rfl, show (⟨#[44, 32]⟩ : ByteArray).size = 2 from rfl]; omega
  have u3 : ¬ (((((X ++ (⟨#[32]⟩ : ByteArray)) ++ RD) ++ (⟨#[44, 32]⟩ : ByteArray))).size + (DN).size > 9223372036854775807) := by rw [ByteArray.size_append, ByteArray.size_append, ByteArray.size_append, show (⟨#[32]⟩ : ByteArray).size = 1 from rfl, show (⟨#[44, 32]⟩ : ByteArray).size = 2 from rfl]; omega
  have cRD := fun y => refR_any i.d y (by omega)
  rw [← hRD] at cRD
  have cDN := fun y => dec_any i.imm y (by omega)
  rw [← hDN] at cDN
  have CRD := Lib.hid cRD
  clear cRD
  have CDN := Lib.hid cDN
  clear cDN
  have HJ := Lib.hid hj
  have cI := fun y => rightIns_any i y
  rw [hr] at cI
  have CI := Lib.hid cI
  have HB := Lib.hid (fun x (h : Kept (w.alloc (.cells #[.int .i64 i.op, .int .i64 i.d, .int .i64 i.a, .int .i64 i.b, .int .i64 i.imm] 38)) x) => ((Below.refl w.heap.size w).alloc (Nat.le_refl _) _).trans (Below.mono h (by simp)))
  have hB : w.heap.size < (w.alloc (.cells #[.int .i64 i.op, .int .i64 i.d, .int .i64 i.a, .int .i64 i.b, .int .i64 i.imm] 38)).heap.size := by simp
  have c0 : (w.alloc (.cells #[.int .i64 i.op, .int .i64 i.d, .int .i64 i.a, .int .i64 i.b, .int .i64 i.imm] 38)).cell? ⟨w.heap.size, 0, none⟩ = some (.int .i64 i.op) := by go_simp
  have c1 : (w.alloc (.cells #[.int .i64 i.op, .int .i64 i.d, .int .i64 i.a, .int .i64 i.b, .int .i64 i.imm] 38)).cell? ⟨w.heap.size, 1, none⟩ = some (.int .i64 i.d) := by go_simp
  have c2 : (w.alloc (.cells #[.int .i64 i.op, .int .i64 i.d, .int .i64 i.a, .int .i64 i.b, .int .i64 i.imm] 38)).cell? ⟨w.heap.size, 2, none⟩ = some (.int .i64 i.a) := by go_simp
  have c3 : (w.alloc (.cells #[.int .i64 i.op, .int .i64 i.d, .int .i64 i.a, .int .i64 i.b, .int .i64 i.imm] 38)).cell? ⟨w.heap.size, 3, none⟩ = some (.int .i64 i.b) := by go_simp
  have c4 : (w.alloc (.cells #[.int .i64 i.op, .int .i64 i.d, .int .i64 i.a, .int .i64 i.b, .int .i64 i.imm] 38)).cell? ⟨w.heap.size, 4, none⟩ = some (.int .i64 i.imm) := by go_simp
  have C0 := Lib.hid (fun x (h : Kept _ x) => h.cell hB c0)
  have C1 := Lib.hid (fun x (h : Kept _ x) => h.cell hB c1)
  have C2 := Lib.hid (fun x (h : Kept _ x) => h.cell hB c2)
  have C3 := Lib.hid (fun x (h : Kept _ x) => h.cell hB c3)
  have C4 := Lib.hid (fun x (h : Kept _ x) => h.cell hB c4)
  obtain ⟨n, hk⟩ : ∃ n : Nat, i.op - 1 = (n : Int) := ⟨(i.op - 1).toNat, by omega⟩
  have HK41 := Lib.hid (show n < 41 by omega)
  have hname : namesZ.getD n [] = nameN i.op := by unfold nameN; rw [hk]; rfl
  have HN := Lib.hid hname
  have hn0 : (0 : Int) ≤ n := by omega
  have hn41 : (n : Int) < 41 := by omega
  have hwn : IntKind.i64.wrap (n : Int) = n := by rw [IntKind.wrap_i64]; omega
  have HX := Lib.hid hX
  clear cI hform ho hd ha hb hi l0 lD hRD sD hX hZ hr c0 c1 c2 c3 c4 hB hname s0 lN hDN sN
  go_enter Tryd.func21, Tryd.ntmps21
  go_wp2_with fail
  refine (CI.out _).mono ?_; rintro e w1 ⟨rfl, hb1⟩
  generalize w.alloc (.cells #[.int .i64 i.op, .int .i64 i.d, .int .i64 i.a, .int .i64 i.b, .int .i64 i.imm] 38) = W at *
  have k1 : Kept W w1 := Kept.to (Kept.refl _) hb1
  clear hb1
  go_wp2_with fail
  have j0 : Kept W w1.drew := k1.drew
  have cp0 := C0.out
  refine wp_region_lin [(1, true), (2, true), (3, true), (0, false), (4, true), (5, true), (6, true)]
    (by kernel_rfl) (by kernel_rfl) rfl (by kernel_rfl) (Kept W) ?_
  simp only [List.map_cons, List.map_nil, List.getElem?_toArray, List.getElem?_cons_succ, List.getElem?_cons_zero]
  iterate 3 (refine lin_take (v := ?_) (by assumption) (by rfl) ?_ ?_; rotate_left; (intro x hx; (try dsimp only at hx); go_simp; try (with_reducible rfl)); (simp only [Act.put, List.setIfInBounds_toArray, List.set_cons_zero, List.set_cons_succ]))
  refine lin_call (by assumption) (by rfl) (fun K hK => ?_)
  go_simp
  refine (refNames_any _).mono ?_
  rintro e w2 ⟨A2, c2, rfl, hr2, hb2⟩
  obtain ⟨g2, o2, rfl, hg2, _⟩ := hr2.at_ (by omega)
  have j2 := j0.to hb2
  have nm := names_row (n := 41) hr2 HK41.out
  rw [HN.out, ← HX.out] at nm
  have NM := Lib.hid (fun x (h : Kept W x ∧ Kept w2 x) => h.2.cell hg2 nm)
  clear nm hr2 hb2
  go_wp2_with fail
  refine hK.out _ _ j2 (fun _ => ?_)
  clear hK K
  try simp only [Act.put, List.setIfInBounds_toArray, List.set_cons_zero, List.set_cons_succ]
  refine lin_more (S' := fun x => Kept W x ∧ Kept w2 x) (fun _ h => h.1) ?_
  have js : Kept W w2 ∧ Kept w2 w2 := ⟨j2, Kept.refl _⟩
  have nm := NM.out
  iterate 3 (refine lin_take (v := ?_) (by assumption) (by rfl) ?_ ?_; rotate_left; (intro x hx; (try dsimp only at hx); go_simp; try (with_reducible rfl)); (try simp only [Act.put, List.setIfInBounds_toArray, List.set_cons_zero, List.set_cons_succ]))
  refine lin_done ?_
  clear cp0 nm js
  have K2 := Lib.hid (HB.out _ j2)
  have d0 := C0.out _ j2
  have d1 := C1.out _ j2
  have d2 := C2.out _ j2
  have d3 := C3.out _ j2
  have d4 := C4.out _ j2
  clear j2 j0 k1
  go_wp2_with fail
  refine (refForm_any _ _).mono ?_; rintro e w3 ⟨rfl, rfl⟩
  rw [hf]
  go_wp2_with fail
  go_quiet (first | (go_at_call 41; refine quiet_mine7 (CRD.out _)) | (go_at_call 20; refine quiet_mine7 (CDN.out _)))
  go_wp2_with fail
  go_ret
  exact ⟨by first | rfl | rw [HJ.out], by first | exact K2.out | exact K2.out.drew | exact Below.drewN_ K2.out _⟩

set_option maxHeartbeats 4000000 in
theorem refShow_4 (i : Ins) (w : World) (hr : rightB i = true) (hf : formZ i.op = 4) :
    Calls Tryd.prog 21 #[.agg #[.int .i64 i.op, .int .i64 i.d, .int .i64 i.a, .int .i64 i.b, .int .i64 i.imm]] w fun e w' => e = .returned (.string (txt (showZ i))) ∧ Below w.heap.size w w' := by
  rw [showZ_yes hr]
  obtain ⟨ho, hd, ha, hb, hi⟩ := right_range hr
  have hform := showI_4 hf hd ha
  have l0 := nameN_len ho
  have lD := regS_len hd
  have lA := regS_len ha
  have lN := decN_len8 hi
  obtain ⟨X, hX⟩ : ∃ X, X = txt (nameN i.op) := ⟨_, rfl⟩
  obtain ⟨RD, hRD⟩ : ∃ R, R = txt (regS i.d) := ⟨_, rfl⟩
  obtain ⟨RA, hRA⟩ : ∃ R, R = txt (regS i.a) := ⟨_, rfl⟩
  obtain ⟨DN, hDN⟩ : ∃ D, D = txt (decN i.imm) := ⟨_, rfl⟩
  obtain ⟨Z, hZ⟩ : ∃ Z, Z = txt (showI i) := ⟨_, rfl⟩
  rw [← hZ]
  have s0 : X.size ≤ 4 := by rw [hX, txt_len]; exact l0
  have sD : RD.size ≤ 3 := by rw [hRD, txt_len]; exact lD
  have sA : RA.size ≤ 3 := by rw [hRA, txt_len]; exact lA
  have sN : DN.size ≤ 12 := by rw [hDN, txt_len]; exact lN
  have hj : (((((((X ++ (⟨#[32]⟩ : ByteArray)) ++ RD) ++ (⟨#[44, 32]⟩ : ByteArray)) ++ DN) ++ (⟨#[40]⟩ : ByteArray)) ++ RA) ++ (⟨#[41]⟩ : ByteArray)) = Z := by rw [hZ, hform, ← txt_join, ← txt_join, ← txt_join, ← txt_join, ← txt_join, ← txt_join, ← txt_join, ← hX, ← hRD, ← hRA, ← hDN]; try rfl
  have u0 : ¬ ((X).size + ((⟨#[32]⟩ : ByteArray)).size > 9223372036854775807) := by rw [show (⟨#[32]⟩ : ByteArray).size = 1 from rfl]; omega
  have u1 : ¬ (((X ++ (⟨#[32]⟩ : ByteArray))).size + (RD).size > 9223372036854775807) := by rw [ByteArray.size_append, show (⟨#[32]⟩ : ByteArray).size = 1 from rfl]; omega
  have u2 : ¬ ((((X ++ (⟨#[32]⟩ : ByteArray)) ++ RD)).size + ((⟨#[44, 32]⟩ : ByteArray)).size > 9223372036854775807) := by rw [ByteArray.size_append, ByteArray.size_append, show (⟨#[32]⟩ : ByteArray).size = 1 from rfl, show (⟨#[44, 32]⟩ : ByteArray).size = 2 from rfl]; omega
  have u3 : ¬ (((((X ++ (⟨#[32]⟩ : ByteArray)) ++ RD) ++ (⟨#[44, 32]⟩ : ByteArray))).size + (DN).size > 9223372036854775807) := by rw [ByteArray.size_append, ByteArray.size_append, ByteArray.size_append, show (⟨#[32]⟩ : ByteArray).size = 1 from rfl, show (⟨#[44, 32]⟩ : ByteArray).size = 2 from rfl]; omega
  have u4 : ¬ ((((((X ++ (⟨#[32]⟩ : ByteArray)) ++ RD) ++ (⟨#[44, 32]⟩ : ByteArray)) ++ DN)).size + ((⟨#[40]⟩ : ByteArray)).size > 9223372036854775807) := by rw [ByteArray.size_append, ByteArray.size_append, ByteArray.size_append, ByteArray.size_append, show (⟨#[32]⟩ : ByteArray).size = 1 from rfl, show (⟨#[44, 32]⟩ : ByteArray).size = 2 from rfl, show (⟨#[40]⟩ : ByteArray).size = 1 from rfl]; omega
  have u5 : ¬ (((((((X ++ (⟨#[32]⟩ : ByteArray)) ++ RD) ++ (⟨#[44, 32]⟩ : ByteArray)) ++ DN) ++ (⟨#[40]⟩ : ByteArray))).size + (RA).size > 9223372036854775807) := by rw [ByteArray.size_append, ByteArray.size_append, ByteArray.size_append, ByteArray.size_append, ByteArray.size_append, show (⟨#[32]⟩ : ByteArray).size = 1 from rfl, show (⟨#[44, 32]⟩ : ByteArray).size = 2 from rfl, show (⟨#[40]⟩ : ByteArray).size = 1 from rfl]; omega
  have u6 : ¬ ((((((((X ++ (⟨#[32]⟩ : ByteArray)) ++ RD) ++ (⟨#[44, 32]⟩ : ByteArray)) ++ DN) ++ (⟨#[40]⟩ : ByteArray)) ++ RA)).size + ((⟨#[41]⟩ : ByteArray)).size > 9223372036854775807) := by rw [ByteArray.size_append, ByteArray.size_append, ByteArray.size_append, ByteArray.size_append, ByteArray.size_append, ByteArray.size_append, show (⟨#[32]⟩ : ByteArray).size = 1 from rfl, show (⟨#[44, 32]⟩ : ByteArray).size = 2 from rfl, show (⟨#[40]⟩ : ByteArray).size = 1 from rfl, show (⟨#[41]⟩ : ByteArray).size = 1 from rfl]; omega
  have cRD := fun y => refR_any i.d y (by omega)
  rw [← hRD] at cRD
  have cRA := fun y => refR_any i.a y (by omega)
  rw [← hRA] at cRA
  have cDN := fun y => dec_any i.imm y (by omega)
  rw [← hDN] at cDN
  have CRD := Lib.hid cRD
  clear cRD
  have CRA := Lib.hid cRA
  clear cRA
  have CDN := Lib.hid cDN
  clear cDN
  have HJ := Lib.hid hj
  have cI := fun y => rightIns_any i y
  rw [hr] at cI
  have CI := Lib.hid cI
  have HB := Lib.hid (fun x (h : Kept (w.alloc (.cells #[.int .i64 i.op, .int .i64 i.d, .int .i64 i.a, .int .i64 i.b, .int .i64 i.imm] 38)) x) => ((Below.refl w.heap.size w).alloc (Nat.le_refl _) _).trans (Below.mono h (by simp)))
  have hB : w.heap.size < (w.alloc (.cells #[.int .i64 i.op, .int .i64 i.d, .int .i64 i.a, .int .i64 i.b, .int .i64 i.imm] 38)).heap.size := by simp
  have c0 : (w.alloc (.cells #[.int .i64 i.op, .int .i64 i.d, .int .i64 i.a, .int .i64 i.b, .int .i64 i.imm] 38)).cell? ⟨w.heap.size, 0, none⟩ = some (.int .i64 i.op) := by go_simp
  have c1 : (w.alloc (.cells #[.int .i64 i.op, .int .i64 i.d, .int .i64 i.a, .int .i64 i.b, .int .i64 i.imm] 38)).cell? ⟨w.heap.size, 1, none⟩ = some (.int .i64 i.d) := by go_simp
  have c2 : (w.alloc (.cells #[.int .i64 i.op, .int .i64 i.d, .int .i64 i.a, .int .i64 i.b, .int .i64 i.imm] 38)).cell? ⟨w.heap.size, 2, none⟩ = some (.int .i64 i.a) := by go_simp
  have c3 : (w.alloc (.cells #[.int .i64 i.op, .int .i64 i.d, .int .i64 i.a, .int .i64 i.b, .int .i64 i.imm] 38)).cell? ⟨w.heap.size, 3, none⟩ = some (.int .i64 i.b) := by go_simp
  have c4 : (w.alloc (.cells #[.int .i64 i.op, .int .i64 i.d, .int .i64 i.a, .int .i64 i.b, .int .i64 i.imm] 38)).cell? ⟨w.heap.size, 4, none⟩ = some (.int .i64 i.imm) := by go_simp
  have C0 := Lib.hid (fun x (h : Kept _ x) => h.cell hB c0)
  have C1 := Lib.hid (fun x (h : Kept _ x) => h.cell hB c1)
  have C2 := Lib.hid (fun x (h : Kept _ x) => h.cell hB c2)
  have C3 := Lib.hid (fun x (h : Kept _ x) => h.cell hB c3)
  have C4 := Lib.hid (fun x (h : Kept _ x) => h.cell hB c4)
  obtain ⟨n, hk⟩ : ∃ n : Nat, i.op - 1 = (n : Int) := ⟨(i.op - 1).toNat, by omega⟩
  have HK41 := Lib.hid (show n < 41 by omega)
  have hname : namesZ.getD n [] = nameN i.op := by unfold nameN; rw [hk]; rfl
  have HN := Lib.hid hname
  have hn0 : (0 : Int) ≤ n := by omega
  have hn41 : (n : Int) < 41 := by omega
  have hwn : IntKind.i64.wrap (n : Int) = n := by rw [IntKind.wrap_i64]; omega
  have HX := Lib.hid hX
  clear cI hform ho hd ha hb hi l0 lD lA hRD hRA sD sA hX hZ hr c0 c1 c2 c3 c4 hB hname s0 lN hDN sN
  go_enter Tryd.func21, Tryd.ntmps21
  go_wp2_with fail
  refine (CI.out _).mono ?_; rintro e w1 ⟨rfl, hb1⟩
  generalize w.alloc (.cells #[.int .i64 i.op, .int .i64 i.d, .int .i64 i.a, .int .i64 i.b, .int .i64 i.imm] 38) = W at *
  have k1 : Kept W w1 := Kept.to (Kept.refl _) hb1
  clear hb1
  go_wp2_with fail
  have j0 : Kept W w1.drew := k1.drew
  have cp0 := C0.out
  refine wp_region_lin [(1, true), (2, true), (3, true), (0, false), (4, true), (5, true), (6, true)]
    (by kernel_rfl) (by kernel_rfl) rfl (by kernel_rfl) (Kept W) ?_
  simp only [List.map_cons, List.map_nil, List.getElem?_toArray, List.getElem?_cons_succ, List.getElem?_cons_zero]
  iterate 3 (refine lin_take (v := ?_) (by assumption) (by rfl) ?_ ?_; rotate_left; (intro x hx; (try dsimp only at hx); go_simp; try (with_reducible rfl)); (simp only [Act.put, List.setIfInBounds_toArray, List.set_cons_zero, List.set_cons_succ]))
  refine lin_call (by assumption) (by rfl) (fun K hK => ?_)
  go_simp
  refine (refNames_any _).mono ?_
  rintro e w2 ⟨A2, c2, rfl, hr2, hb2⟩
  obtain ⟨g2, o2, rfl, hg2, _⟩ := hr2.at_ (by omega)
  have j2 := j0.to hb2
  have nm := names_row (n := 41) hr2 HK41.out
  rw [HN.out, ← HX.out] at nm
  have NM := Lib.hid (fun x (h : Kept W x ∧ Kept w2 x) => h.2.cell hg2 nm)
  clear nm hr2 hb2
  go_wp2_with fail
  refine hK.out _ _ j2 (fun _ => ?_)
  clear hK K
  try simp only [Act.put, List.setIfInBounds_toArray, List.set_cons_zero, List.set_cons_succ]
  refine lin_more (S' := fun x => Kept W x ∧ Kept w2 x) (fun _ h => h.1) ?_
  have js : Kept W w2 ∧ Kept w2 w2 := ⟨j2, Kept.refl _⟩
  have nm := NM.out
  iterate 3 (refine lin_take (v := ?_) (by assumption) (by rfl) ?_ ?_; rotate_left; (intro x hx; (try dsimp only at hx); go_simp; try (with_reducible rfl)); (try simp only [Act.put, List.setIfInBounds_toArray, List.set_cons_zero, List.set_cons_succ]))
  refine lin_done ?_
  clear cp0 nm js
  have K2 := Lib.hid (HB.out _ j2)
  have d0 := C0.out _ j2
  have d1 := C1.out _ j2
  have d2 := C2.out _ j2
  have d3 := C3.out _ j2
  have d4 := C4.out _ j2
  clear j2 j0 k1
  go_wp2_with fail
  refine (refForm_any _ _).mono ?_; rintro e w3 ⟨rfl, rfl⟩
  rw [hf]
  go_wp2_with fail
  go_quiet (first | (go_at_call 41; refine quiet_mine7 (CRD.out _)) | (go_at_call 41; refine quiet_mine7 (CRA.out _)) | (go_at_call 20; refine quiet_mine7 (CDN.out _)))
  go_wp2_with fail
  go_ret
  exact ⟨by first | rfl | rw [HJ.out], by first | exact K2.out | exact K2.out.drew | exact Below.drewN_ K2.out _⟩

set_option maxHeartbeats 4000000 in
theorem refShow_5 (i : Ins) (w : World) (hr : rightB i = true) (hf : formZ i.op = 5) :
    Calls Tryd.prog 21 #[.agg #[.int .i64 i.op, .int .i64 i.d, .int .i64 i.a, .int .i64 i.b, .int .i64 i.imm]] w fun e w' => e = .returned (.string (txt (showZ i))) ∧ Below w.heap.size w w' := by
  rw [showZ_yes hr]
  obtain ⟨ho, hd, ha, hb, hi⟩ := right_range hr
  have hform := showI_5 hf hb ha
  have l0 := nameN_len ho
  have lB := regS_len hb
  have lA := regS_len ha
  have lN := decN_len8 hi
  obtain ⟨X, hX⟩ : ∃ X, X = txt (nameN i.op) := ⟨_, rfl⟩
  obtain ⟨RB, hRB⟩ : ∃ R, R = txt (regS i.b) := ⟨_, rfl⟩
  obtain ⟨RA, hRA⟩ : ∃ R, R = txt (regS i.a) := ⟨_, rfl⟩
  obtain ⟨DN, hDN⟩ : ∃ D, D = txt (decN i.imm) := ⟨_, rfl⟩
  obtain ⟨Z, hZ⟩ : ∃ Z, Z = txt (showI i) := ⟨_, rfl⟩
  rw [← hZ]
  have s0 : X.size ≤ 4 := by rw [hX, txt_len]; exact l0
  have sB : RB.size ≤ 3 := by rw [hRB, txt_len]; exact lB
  have sA : RA.size ≤ 3 := by rw [hRA, txt_len]; exact lA
  have sN : DN.size ≤ 12 := by rw [hDN, txt_len]; exact lN
  have hj : (((((((X ++ (⟨#[32]⟩ : ByteArray)) ++ RB) ++ (⟨#[44, 32]⟩ : ByteArray)) ++ DN) ++ (⟨#[40]⟩ : ByteArray)) ++ RA) ++ (⟨#[41]⟩ : ByteArray)) = Z := by rw [hZ, hform, ← txt_join, ← txt_join, ← txt_join, ← txt_join, ← txt_join, ← txt_join, ← txt_join, ← hX, ← hRB, ← hRA, ← hDN]; try rfl
  have u0 : ¬ ((X).size + ((⟨#[32]⟩ : ByteArray)).size > 9223372036854775807) := by rw [show (⟨#[32]⟩ : ByteArray).size = 1 from rfl]; omega
  have u1 : ¬ (((X ++ (⟨#[32]⟩ : ByteArray))).size + (RB).size > 9223372036854775807) := by rw [ByteArray.size_append, show (⟨#[32]⟩ : ByteArray).size = 1 from rfl]; omega
  have u2 : ¬ ((((X ++ (⟨#[32]⟩ : ByteArray)) ++ RB)).size + ((⟨#[44, 32]⟩ : ByteArray)).size > 9223372036854775807) := by rw [ByteArray.size_append, ByteArray.size_append, show (⟨#[32]⟩ : ByteArray).size = 1 from rfl, show (⟨#[44, 32]⟩ : ByteArray).size = 2 from rfl]; omega
  have u3 : ¬ (((((X ++ (⟨#[32]⟩ : ByteArray)) ++ RB) ++ (⟨#[44, 32]⟩ : ByteArray))).size + (DN).size > 9223372036854775807) := by rw [ByteArray.size_append, ByteArray.size_append, ByteArray.size_append, show (⟨#[32]⟩ : ByteArray).size = 1 from rfl, show (⟨#[44, 32]⟩ : ByteArray).size = 2 from rfl]; omega
  have u4 : ¬ ((((((X ++ (⟨#[32]⟩ : ByteArray)) ++ RB) ++ (⟨#[44, 32]⟩ : ByteArray)) ++ DN)).size + ((⟨#[40]⟩ : ByteArray)).size > 9223372036854775807) := by rw [ByteArray.size_append, ByteArray.size_append, ByteArray.size_append, ByteArray.size_append, show (⟨#[32]⟩ : ByteArray).size = 1 from rfl, show (⟨#[44, 32]⟩ : ByteArray).size = 2 from rfl, show (⟨#[40]⟩ : ByteArray).size = 1 from rfl]; omega
  have u5 : ¬ (((((((X ++ (⟨#[32]⟩ : ByteArray)) ++ RB) ++ (⟨#[44, 32]⟩ : ByteArray)) ++ DN) ++ (⟨#[40]⟩ : ByteArray))).size + (RA).size > 9223372036854775807) := by rw [ByteArray.size_append, ByteArray.size_append, ByteArray.size_append, ByteArray.size_append, ByteArray.size_append, show (⟨#[32]⟩ : ByteArray).size = 1 from rfl, show (⟨#[44, 32]⟩ : ByteArray).size = 2 from rfl, show (⟨#[40]⟩ : ByteArray).size = 1 from rfl]; omega
  have u6 : ¬ ((((((((X ++ (⟨#[32]⟩ : ByteArray)) ++ RB) ++ (⟨#[44, 32]⟩ : ByteArray)) ++ DN) ++ (⟨#[40]⟩ : ByteArray)) ++ RA)).size + ((⟨#[41]⟩ : ByteArray)).size > 9223372036854775807) := by rw [ByteArray.size_append, ByteArray.size_append, ByteArray.size_append, ByteArray.size_append, ByteArray.size_append, ByteArray.size_append, show (⟨#[32]⟩ : ByteArray).size = 1 from rfl, show (⟨#[44, 32]⟩ : ByteArray).size = 2 from rfl, show (⟨#[40]⟩ : ByteArray).size = 1 from rfl, show (⟨#[41]⟩ : ByteArray).size = 1 from rfl]; omega
  have cRB := fun y => refR_any i.b y (by omega)
  rw [← hRB] at cRB
  have cRA := fun y => refR_any i.a y (by omega)
  rw [← hRA] at cRA
  have cDN := fun y => dec_any i.imm y (by omega)
  rw [← hDN] at cDN
  have CRB := Lib.hid cRB
  clear cRB
  have CRA := Lib.hid cRA
  clear cRA
  have CDN := Lib.hid cDN
  clear cDN
  have HJ := Lib.hid hj
  have cI := fun y => rightIns_any i y
  rw [hr] at cI
  have CI := Lib.hid cI
  have HB := Lib.hid (fun x (h : Kept (w.alloc (.cells #[.int .i64 i.op, .int .i64 i.d, .int .i64 i.a, .int .i64 i.b, .int .i64 i.imm] 38)) x) => ((Below.refl w.heap.size w).alloc (Nat.le_refl _) _).trans (Below.mono h (by simp)))
  have hB : w.heap.size < (w.alloc (.cells #[.int .i64 i.op, .int .i64 i.d, .int .i64 i.a, .int .i64 i.b, .int .i64 i.imm] 38)).heap.size := by simp
  have c0 : (w.alloc (.cells #[.int .i64 i.op, .int .i64 i.d, .int .i64 i.a, .int .i64 i.b, .int .i64 i.imm] 38)).cell? ⟨w.heap.size, 0, none⟩ = some (.int .i64 i.op) := by go_simp
  have c1 : (w.alloc (.cells #[.int .i64 i.op, .int .i64 i.d, .int .i64 i.a, .int .i64 i.b, .int .i64 i.imm] 38)).cell? ⟨w.heap.size, 1, none⟩ = some (.int .i64 i.d) := by go_simp
  have c2 : (w.alloc (.cells #[.int .i64 i.op, .int .i64 i.d, .int .i64 i.a, .int .i64 i.b, .int .i64 i.imm] 38)).cell? ⟨w.heap.size, 2, none⟩ = some (.int .i64 i.a) := by go_simp
  have c3 : (w.alloc (.cells #[.int .i64 i.op, .int .i64 i.d, .int .i64 i.a, .int .i64 i.b, .int .i64 i.imm] 38)).cell? ⟨w.heap.size, 3, none⟩ = some (.int .i64 i.b) := by go_simp
  have c4 : (w.alloc (.cells #[.int .i64 i.op, .int .i64 i.d, .int .i64 i.a, .int .i64 i.b, .int .i64 i.imm] 38)).cell? ⟨w.heap.size, 4, none⟩ = some (.int .i64 i.imm) := by go_simp
  have C0 := Lib.hid (fun x (h : Kept _ x) => h.cell hB c0)
  have C1 := Lib.hid (fun x (h : Kept _ x) => h.cell hB c1)
  have C2 := Lib.hid (fun x (h : Kept _ x) => h.cell hB c2)
  have C3 := Lib.hid (fun x (h : Kept _ x) => h.cell hB c3)
  have C4 := Lib.hid (fun x (h : Kept _ x) => h.cell hB c4)
  obtain ⟨n, hk⟩ : ∃ n : Nat, i.op - 1 = (n : Int) := ⟨(i.op - 1).toNat, by omega⟩
  have HK41 := Lib.hid (show n < 41 by omega)
  have hname : namesZ.getD n [] = nameN i.op := by unfold nameN; rw [hk]; rfl
  have HN := Lib.hid hname
  have hn0 : (0 : Int) ≤ n := by omega
  have hn41 : (n : Int) < 41 := by omega
  have hwn : IntKind.i64.wrap (n : Int) = n := by rw [IntKind.wrap_i64]; omega
  have HX := Lib.hid hX
  clear cI hform ho hd ha hb hi l0 lB lA hRB hRA sB sA hX hZ hr c0 c1 c2 c3 c4 hB hname s0 lN hDN sN
  go_enter Tryd.func21, Tryd.ntmps21
  go_wp2_with fail
  refine (CI.out _).mono ?_; rintro e w1 ⟨rfl, hb1⟩
  generalize w.alloc (.cells #[.int .i64 i.op, .int .i64 i.d, .int .i64 i.a, .int .i64 i.b, .int .i64 i.imm] 38) = W at *
  have k1 : Kept W w1 := Kept.to (Kept.refl _) hb1
  clear hb1
  go_wp2_with fail
  have j0 : Kept W w1.drew := k1.drew
  have cp0 := C0.out
  refine wp_region_lin [(1, true), (2, true), (3, true), (0, false), (4, true), (5, true), (6, true)]
    (by kernel_rfl) (by kernel_rfl) rfl (by kernel_rfl) (Kept W) ?_
  simp only [List.map_cons, List.map_nil, List.getElem?_toArray, List.getElem?_cons_succ, List.getElem?_cons_zero]
  iterate 3 (refine lin_take (v := ?_) (by assumption) (by rfl) ?_ ?_; rotate_left; (intro x hx; (try dsimp only at hx); go_simp; try (with_reducible rfl)); (simp only [Act.put, List.setIfInBounds_toArray, List.set_cons_zero, List.set_cons_succ]))
  refine lin_call (by assumption) (by rfl) (fun K hK => ?_)
  go_simp
  refine (refNames_any _).mono ?_
  rintro e w2 ⟨A2, c2, rfl, hr2, hb2⟩
  obtain ⟨g2, o2, rfl, hg2, _⟩ := hr2.at_ (by omega)
  have j2 := j0.to hb2
  have nm := names_row (n := 41) hr2 HK41.out
  rw [HN.out, ← HX.out] at nm
  have NM := Lib.hid (fun x (h : Kept W x ∧ Kept w2 x) => h.2.cell hg2 nm)
  clear nm hr2 hb2
  go_wp2_with fail
  refine hK.out _ _ j2 (fun _ => ?_)
  clear hK K
  try simp only [Act.put, List.setIfInBounds_toArray, List.set_cons_zero, List.set_cons_succ]
  refine lin_more (S' := fun x => Kept W x ∧ Kept w2 x) (fun _ h => h.1) ?_
  have js : Kept W w2 ∧ Kept w2 w2 := ⟨j2, Kept.refl _⟩
  have nm := NM.out
  iterate 3 (refine lin_take (v := ?_) (by assumption) (by rfl) ?_ ?_; rotate_left; (intro x hx; (try dsimp only at hx); go_simp; try (with_reducible rfl)); (try simp only [Act.put, List.setIfInBounds_toArray, List.set_cons_zero, List.set_cons_succ]))
  refine lin_done ?_
  clear cp0 nm js
  have K2 := Lib.hid (HB.out _ j2)
  have d0 := C0.out _ j2
  have d1 := C1.out _ j2
  have d2 := C2.out _ j2
  have d3 := C3.out _ j2
  have d4 := C4.out _ j2
  clear j2 j0 k1
  go_wp2_with fail
  refine (refForm_any _ _).mono ?_; rintro e w3 ⟨rfl, rfl⟩
  rw [hf]
  go_wp2_with fail
  go_quiet (first | (go_at_call 41; refine quiet_mine7 (CRB.out _)) | (go_at_call 41; refine quiet_mine7 (CRA.out _)) | (go_at_call 20; refine quiet_mine7 (CDN.out _)))
  go_wp2_with fail
  go_ret
  exact ⟨by first | rfl | rw [HJ.out], by first | exact K2.out | exact K2.out.drew | exact Below.drewN_ K2.out _⟩

set_option maxHeartbeats 4000000 in
theorem refShow_6 (i : Ins) (w : World) (hr : rightB i = true) (hf : formZ i.op = 6) :
    Calls Tryd.prog 21 #[.agg #[.int .i64 i.op, .int .i64 i.d, .int .i64 i.a, .int .i64 i.b, .int .i64 i.imm]] w fun e w' => e = .returned (.string (txt (showZ i))) ∧ Below w.heap.size w w' := by
  rw [showZ_yes hr]
  obtain ⟨ho, hd, ha, hb, hi⟩ := right_range hr
  have hform := showI_6 hf ha hb
  have l0 := nameN_len ho
  have lA := regS_len ha
  have lB := regS_len hb
  have lN := decN_len8 hi
  obtain ⟨X, hX⟩ : ∃ X, X = txt (nameN i.op) := ⟨_, rfl⟩
  obtain ⟨RA, hRA⟩ : ∃ R, R = txt (regS i.a) := ⟨_, rfl⟩
  obtain ⟨RB, hRB⟩ : ∃ R, R = txt (regS i.b) := ⟨_, rfl⟩
  obtain ⟨DN, hDN⟩ : ∃ D, D = txt (decN i.imm) := ⟨_, rfl⟩
  obtain ⟨Z, hZ⟩ : ∃ Z, Z = txt (showI i) := ⟨_, rfl⟩
  rw [← hZ]
  have s0 : X.size ≤ 4 := by rw [hX, txt_len]; exact l0
  have sA : RA.size ≤ 3 := by rw [hRA, txt_len]; exact lA
  have sB : RB.size ≤ 3 := by rw [hRB, txt_len]; exact lB
  have sN : DN.size ≤ 12 := by rw [hDN, txt_len]; exact lN
  have hj : ((((((X ++ (⟨#[32]⟩ : ByteArray)) ++ RA) ++ (⟨#[44, 32]⟩ : ByteArray)) ++ RB) ++ (⟨#[44, 32]⟩ : ByteArray)) ++ DN) = Z := by rw [hZ, hform, ← txt_join, ← txt_join, ← txt_join, ← txt_join, ← txt_join, ← txt_join, ← hX, ← hRA, ← hRB, ← hDN]; try rfl
  have u0 : ¬ ((X).size + ((⟨#[32]⟩ : ByteArray)).size > 9223372036854775807) := by rw [show (⟨#[32]⟩ : ByteArray).size = 1 from rfl]; omega
  have u1 : ¬ (((X ++ (⟨#[32]⟩ : ByteArray))).size + (RA).size > 9223372036854775807) := by rw [ByteArray.size_append, show (⟨#[32]⟩ : ByteArray).size = 1 from rfl]; omega
  have u2 : ¬ ((((X ++ (⟨#[32]⟩ : ByteArray)) ++ RA)).size + ((⟨#[44, 32]⟩ : ByteArray)).size > 9223372036854775807) := by rw [ByteArray.size_append, ByteArray.size_append, show (⟨#[32]⟩ : ByteArray).size = 1 from rfl, show (⟨#[44, 32]⟩ : ByteArray).size = 2 from rfl]; omega
  have u3 : ¬ (((((X ++ (⟨#[32]⟩ : ByteArray)) ++ RA) ++ (⟨#[44, 32]⟩ : ByteArray))).size + (RB).size > 9223372036854775807) := by rw [ByteArray.size_append, ByteArray.size_append, ByteArray.size_append, show (⟨#[32]⟩ : ByteArray).size = 1 from rfl, show (⟨#[44, 32]⟩ : ByteArray).size = 2 from rfl]; omega
  have u4 : ¬ ((((((X ++ (⟨#[32]⟩ : ByteArray)) ++ RA) ++ (⟨#[44, 32]⟩ : ByteArray)) ++ RB)).size + ((⟨#[44, 32]⟩ : ByteArray)).size > 9223372036854775807) := by rw [ByteArray.size_append, ByteArray.size_append, ByteArray.size_append, ByteArray.size_append, show (⟨#[32]⟩ : ByteArray).size = 1 from rfl, show (⟨#[44, 32]⟩ : ByteArray).size = 2 from rfl]; omega
  have u5 : ¬ (((((((X ++ (⟨#[32]⟩ : ByteArray)) ++ RA) ++ (⟨#[44, 32]⟩ : ByteArray)) ++ RB) ++ (⟨#[44, 32]⟩ : ByteArray))).size + (DN).size > 9223372036854775807) := by rw [ByteArray.size_append, ByteArray.size_append, ByteArray.size_append, ByteArray.size_append, ByteArray.size_append, show (⟨#[32]⟩ : ByteArray).size = 1 from rfl, show (⟨#[44, 32]⟩ : ByteArray).size = 2 from rfl]; omega
  have cRA := fun y => refR_any i.a y (by omega)
  rw [← hRA] at cRA
  have cRB := fun y => refR_any i.b y (by omega)
  rw [← hRB] at cRB
  have cDN := fun y => dec_any i.imm y (by omega)
  rw [← hDN] at cDN
  have CRA := Lib.hid cRA
  clear cRA
  have CRB := Lib.hid cRB
  clear cRB
  have CDN := Lib.hid cDN
  clear cDN
  have HJ := Lib.hid hj
  have cI := fun y => rightIns_any i y
  rw [hr] at cI
  have CI := Lib.hid cI
  have HB := Lib.hid (fun x (h : Kept (w.alloc (.cells #[.int .i64 i.op, .int .i64 i.d, .int .i64 i.a, .int .i64 i.b, .int .i64 i.imm] 38)) x) => ((Below.refl w.heap.size w).alloc (Nat.le_refl _) _).trans (Below.mono h (by simp)))
  have hB : w.heap.size < (w.alloc (.cells #[.int .i64 i.op, .int .i64 i.d, .int .i64 i.a, .int .i64 i.b, .int .i64 i.imm] 38)).heap.size := by simp
  have c0 : (w.alloc (.cells #[.int .i64 i.op, .int .i64 i.d, .int .i64 i.a, .int .i64 i.b, .int .i64 i.imm] 38)).cell? ⟨w.heap.size, 0, none⟩ = some (.int .i64 i.op) := by go_simp
  have c1 : (w.alloc (.cells #[.int .i64 i.op, .int .i64 i.d, .int .i64 i.a, .int .i64 i.b, .int .i64 i.imm] 38)).cell? ⟨w.heap.size, 1, none⟩ = some (.int .i64 i.d) := by go_simp
  have c2 : (w.alloc (.cells #[.int .i64 i.op, .int .i64 i.d, .int .i64 i.a, .int .i64 i.b, .int .i64 i.imm] 38)).cell? ⟨w.heap.size, 2, none⟩ = some (.int .i64 i.a) := by go_simp
  have c3 : (w.alloc (.cells #[.int .i64 i.op, .int .i64 i.d, .int .i64 i.a, .int .i64 i.b, .int .i64 i.imm] 38)).cell? ⟨w.heap.size, 3, none⟩ = some (.int .i64 i.b) := by go_simp
  have c4 : (w.alloc (.cells #[.int .i64 i.op, .int .i64 i.d, .int .i64 i.a, .int .i64 i.b, .int .i64 i.imm] 38)).cell? ⟨w.heap.size, 4, none⟩ = some (.int .i64 i.imm) := by go_simp
  have C0 := Lib.hid (fun x (h : Kept _ x) => h.cell hB c0)
  have C1 := Lib.hid (fun x (h : Kept _ x) => h.cell hB c1)
  have C2 := Lib.hid (fun x (h : Kept _ x) => h.cell hB c2)
  have C3 := Lib.hid (fun x (h : Kept _ x) => h.cell hB c3)
  have C4 := Lib.hid (fun x (h : Kept _ x) => h.cell hB c4)
  obtain ⟨n, hk⟩ : ∃ n : Nat, i.op - 1 = (n : Int) := ⟨(i.op - 1).toNat, by omega⟩
  have HK41 := Lib.hid (show n < 41 by omega)
  have hname : namesZ.getD n [] = nameN i.op := by unfold nameN; rw [hk]; rfl
  have HN := Lib.hid hname
  have hn0 : (0 : Int) ≤ n := by omega
  have hn41 : (n : Int) < 41 := by omega
  have hwn : IntKind.i64.wrap (n : Int) = n := by rw [IntKind.wrap_i64]; omega
  have HX := Lib.hid hX
  clear cI hform ho hd ha hb hi l0 lA lB hRA hRB sA sB hX hZ hr c0 c1 c2 c3 c4 hB hname s0 lN hDN sN
  go_enter Tryd.func21, Tryd.ntmps21
  go_wp2_with fail
  refine (CI.out _).mono ?_; rintro e w1 ⟨rfl, hb1⟩
  generalize w.alloc (.cells #[.int .i64 i.op, .int .i64 i.d, .int .i64 i.a, .int .i64 i.b, .int .i64 i.imm] 38) = W at *
  have k1 : Kept W w1 := Kept.to (Kept.refl _) hb1
  clear hb1
  go_wp2_with fail
  have j0 : Kept W w1.drew := k1.drew
  have cp0 := C0.out
  refine wp_region_lin [(1, true), (2, true), (3, true), (0, false), (4, true), (5, true), (6, true)]
    (by kernel_rfl) (by kernel_rfl) rfl (by kernel_rfl) (Kept W) ?_
  simp only [List.map_cons, List.map_nil, List.getElem?_toArray, List.getElem?_cons_succ, List.getElem?_cons_zero]
  iterate 3 (refine lin_take (v := ?_) (by assumption) (by rfl) ?_ ?_; rotate_left; (intro x hx; (try dsimp only at hx); go_simp; try (with_reducible rfl)); (simp only [Act.put, List.setIfInBounds_toArray, List.set_cons_zero, List.set_cons_succ]))
  refine lin_call (by assumption) (by rfl) (fun K hK => ?_)
  go_simp
  refine (refNames_any _).mono ?_
  rintro e w2 ⟨A2, c2, rfl, hr2, hb2⟩
  obtain ⟨g2, o2, rfl, hg2, _⟩ := hr2.at_ (by omega)
  have j2 := j0.to hb2
  have nm := names_row (n := 41) hr2 HK41.out
  rw [HN.out, ← HX.out] at nm
  have NM := Lib.hid (fun x (h : Kept W x ∧ Kept w2 x) => h.2.cell hg2 nm)
  clear nm hr2 hb2
  go_wp2_with fail
  refine hK.out _ _ j2 (fun _ => ?_)
  clear hK K
  try simp only [Act.put, List.setIfInBounds_toArray, List.set_cons_zero, List.set_cons_succ]
  refine lin_more (S' := fun x => Kept W x ∧ Kept w2 x) (fun _ h => h.1) ?_
  have js : Kept W w2 ∧ Kept w2 w2 := ⟨j2, Kept.refl _⟩
  have nm := NM.out
  iterate 3 (refine lin_take (v := ?_) (by assumption) (by rfl) ?_ ?_; rotate_left; (intro x hx; (try dsimp only at hx); go_simp; try (with_reducible rfl)); (try simp only [Act.put, List.setIfInBounds_toArray, List.set_cons_zero, List.set_cons_succ]))
  refine lin_done ?_
  clear cp0 nm js
  have K2 := Lib.hid (HB.out _ j2)
  have d0 := C0.out _ j2
  have d1 := C1.out _ j2
  have d2 := C2.out _ j2
  have d3 := C3.out _ j2
  have d4 := C4.out _ j2
  clear j2 j0 k1
  go_wp2_with fail
  refine (refForm_any _ _).mono ?_; rintro e w3 ⟨rfl, rfl⟩
  rw [hf]
  go_wp2_with fail
  go_quiet (first | (go_at_call 41; refine quiet_mine7 (CRA.out _)) | (go_at_call 41; refine quiet_mine7 (CRB.out _)) | (go_at_call 20; refine quiet_mine7 (CDN.out _)))
  go_wp2_with fail
  go_ret
  exact ⟨by first | rfl | rw [HJ.out], by first | exact K2.out | exact K2.out.drew | exact Below.drewN_ K2.out _⟩

set_option maxHeartbeats 4000000 in
theorem refShow_7 (i : Ins) (w : World) (hr : rightB i = true) (hf : formZ i.op = 7) :
    Calls Tryd.prog 21 #[.agg #[.int .i64 i.op, .int .i64 i.d, .int .i64 i.a, .int .i64 i.b, .int .i64 i.imm]] w fun e w' => e = .returned (.string (txt (showZ i))) ∧ Below w.heap.size w w' := by
  rw [showZ_yes hr]
  obtain ⟨ho, hd, ha, hb, hi⟩ := right_range hr
  have hform := showI_7 hf
  have l0 := nameN_len ho
  have lN := decN_len8 hi
  obtain ⟨X, hX⟩ : ∃ X, X = txt (nameN i.op) := ⟨_, rfl⟩
  obtain ⟨DN, hDN⟩ : ∃ D, D = txt (decN i.imm) := ⟨_, rfl⟩
  obtain ⟨Z, hZ⟩ : ∃ Z, Z = txt (showI i) := ⟨_, rfl⟩
  rw [← hZ]
  have s0 : X.size ≤ 4 := by rw [hX, txt_len]; exact l0
  have sN : DN.size ≤ 12 := by rw [hDN, txt_len]; exact lN
  have hj : ((X ++ (⟨#[32]⟩ : ByteArray)) ++ DN) = Z := by rw [hZ, hform, ← txt_join, ← txt_join, ← hX, ← hDN]; try rfl
  have u0 : ¬ ((X).size + ((⟨#[32]⟩ : ByteArray)).size > 9223372036854775807) := by rw [show (⟨#[32]⟩ : ByteArray).size = 1 from rfl]; omega
  have u1 : ¬ (((X ++ (⟨#[32]⟩ : ByteArray))).size + (DN).size > 9223372036854775807) := by rw [ByteArray.size_append, show (⟨#[32]⟩ : ByteArray).size = 1 from rfl]; omega
  have cDN := fun y => dec_any i.imm y (by omega)
  rw [← hDN] at cDN
  have CDN := Lib.hid cDN
  clear cDN
  have HJ := Lib.hid hj
  have cI := fun y => rightIns_any i y
  rw [hr] at cI
  have CI := Lib.hid cI
  have HB := Lib.hid (fun x (h : Kept (w.alloc (.cells #[.int .i64 i.op, .int .i64 i.d, .int .i64 i.a, .int .i64 i.b, .int .i64 i.imm] 38)) x) => ((Below.refl w.heap.size w).alloc (Nat.le_refl _) _).trans (Below.mono h (by simp)))
  have hB : w.heap.size < (w.alloc (.cells #[.int .i64 i.op, .int .i64 i.d, .int .i64 i.a, .int .i64 i.b, .int .i64 i.imm] 38)).heap.size := by simp
  have c0 : (w.alloc (.cells #[.int .i64 i.op, .int .i64 i.d, .int .i64 i.a, .int .i64 i.b, .int .i64 i.imm] 38)).cell? ⟨w.heap.size, 0, none⟩ = some (.int .i64 i.op) := by go_simp
  have c1 : (w.alloc (.cells #[.int .i64 i.op, .int .i64 i.d, .int .i64 i.a, .int .i64 i.b, .int .i64 i.imm] 38)).cell? ⟨w.heap.size, 1, none⟩ = some (.int .i64 i.d) := by go_simp
  have c2 : (w.alloc (.cells #[.int .i64 i.op, .int .i64 i.d, .int .i64 i.a, .int .i64 i.b, .int .i64 i.imm] 38)).cell? ⟨w.heap.size, 2, none⟩ = some (.int .i64 i.a) := by go_simp
  have c3 : (w.alloc (.cells #[.int .i64 i.op, .int .i64 i.d, .int .i64 i.a, .int .i64 i.b, .int .i64 i.imm] 38)).cell? ⟨w.heap.size, 3, none⟩ = some (.int .i64 i.b) := by go_simp
  have c4 : (w.alloc (.cells #[.int .i64 i.op, .int .i64 i.d, .int .i64 i.a, .int .i64 i.b, .int .i64 i.imm] 38)).cell? ⟨w.heap.size, 4, none⟩ = some (.int .i64 i.imm) := by go_simp
  have C0 := Lib.hid (fun x (h : Kept _ x) => h.cell hB c0)
  have C1 := Lib.hid (fun x (h : Kept _ x) => h.cell hB c1)
  have C2 := Lib.hid (fun x (h : Kept _ x) => h.cell hB c2)
  have C3 := Lib.hid (fun x (h : Kept _ x) => h.cell hB c3)
  have C4 := Lib.hid (fun x (h : Kept _ x) => h.cell hB c4)
  obtain ⟨n, hk⟩ : ∃ n : Nat, i.op - 1 = (n : Int) := ⟨(i.op - 1).toNat, by omega⟩
  have HK41 := Lib.hid (show n < 41 by omega)
  have hname : namesZ.getD n [] = nameN i.op := by unfold nameN; rw [hk]; rfl
  have HN := Lib.hid hname
  have hn0 : (0 : Int) ≤ n := by omega
  have hn41 : (n : Int) < 41 := by omega
  have hwn : IntKind.i64.wrap (n : Int) = n := by rw [IntKind.wrap_i64]; omega
  have HX := Lib.hid hX
  clear cI hform ho hd ha hb hi l0  hX hZ hr c0 c1 c2 c3 c4 hB hname s0 lN hDN sN
  go_enter Tryd.func21, Tryd.ntmps21
  go_wp2_with fail
  refine (CI.out _).mono ?_; rintro e w1 ⟨rfl, hb1⟩
  generalize w.alloc (.cells #[.int .i64 i.op, .int .i64 i.d, .int .i64 i.a, .int .i64 i.b, .int .i64 i.imm] 38) = W at *
  have k1 : Kept W w1 := Kept.to (Kept.refl _) hb1
  clear hb1
  go_wp2_with fail
  have j0 : Kept W w1.drew := k1.drew
  have cp0 := C0.out
  refine wp_region_lin [(1, true), (2, true), (3, true), (0, false), (4, true), (5, true), (6, true)]
    (by kernel_rfl) (by kernel_rfl) rfl (by kernel_rfl) (Kept W) ?_
  simp only [List.map_cons, List.map_nil, List.getElem?_toArray, List.getElem?_cons_succ, List.getElem?_cons_zero]
  iterate 3 (refine lin_take (v := ?_) (by assumption) (by rfl) ?_ ?_; rotate_left; (intro x hx; (try dsimp only at hx); go_simp; try (with_reducible rfl)); (simp only [Act.put, List.setIfInBounds_toArray, List.set_cons_zero, List.set_cons_succ]))
  refine lin_call (by assumption) (by rfl) (fun K hK => ?_)
  go_simp
  refine (refNames_any _).mono ?_
  rintro e w2 ⟨A2, c2, rfl, hr2, hb2⟩
  obtain ⟨g2, o2, rfl, hg2, _⟩ := hr2.at_ (by omega)
  have j2 := j0.to hb2
  have nm := names_row (n := 41) hr2 HK41.out
  rw [HN.out, ← HX.out] at nm
  have NM := Lib.hid (fun x (h : Kept W x ∧ Kept w2 x) => h.2.cell hg2 nm)
  clear nm hr2 hb2
  go_wp2_with fail
  refine hK.out _ _ j2 (fun _ => ?_)
  clear hK K
  try simp only [Act.put, List.setIfInBounds_toArray, List.set_cons_zero, List.set_cons_succ]
  refine lin_more (S' := fun x => Kept W x ∧ Kept w2 x) (fun _ h => h.1) ?_
  have js : Kept W w2 ∧ Kept w2 w2 := ⟨j2, Kept.refl _⟩
  have nm := NM.out
  iterate 3 (refine lin_take (v := ?_) (by assumption) (by rfl) ?_ ?_; rotate_left; (intro x hx; (try dsimp only at hx); go_simp; try (with_reducible rfl)); (try simp only [Act.put, List.setIfInBounds_toArray, List.set_cons_zero, List.set_cons_succ]))
  refine lin_done ?_
  clear cp0 nm js
  have K2 := Lib.hid (HB.out _ j2)
  have d0 := C0.out _ j2
  have d1 := C1.out _ j2
  have d2 := C2.out _ j2
  have d3 := C3.out _ j2
  have d4 := C4.out _ j2
  clear j2 j0 k1
  go_wp2_with fail
  refine (refForm_any _ _).mono ?_; rintro e w3 ⟨rfl, rfl⟩
  rw [hf]
  go_wp2_with (go_at_call 20; refine (CDN.out _).mono ?_; rintro e w4 ⟨rfl, rfl⟩)
  go_ret
  exact ⟨by first | rfl | rw [HJ.out], K2.out⟩

set_option maxHeartbeats 4000000 in
theorem refShow_8 (i : Ins) (w : World) (hr : rightB i = true) (hf : formZ i.op = 8) :
    Calls Tryd.prog 21 #[.agg #[.int .i64 i.op, .int .i64 i.d, .int .i64 i.a, .int .i64 i.b, .int .i64 i.imm]] w fun e w' => e = .returned (.string (txt (showZ i))) ∧ Below w.heap.size w w' := by
  rw [showZ_yes hr]
  obtain ⟨ho, hd, ha, hb, hi⟩ := right_range hr
  have hform := showI_8 hf
  have l0 := nameN_len ho
  obtain ⟨X, hX⟩ : ∃ X, X = txt (nameN i.op) := ⟨_, rfl⟩
  obtain ⟨Z, hZ⟩ : ∃ Z, Z = txt (showI i) := ⟨_, rfl⟩
  rw [← hZ]
  have s0 : X.size ≤ 4 := by rw [hX, txt_len]; exact l0
  have hj : X = Z := by rw [hZ, hform, ← hX]
  have HJ := Lib.hid hj
  have cI := fun y => rightIns_any i y
  rw [hr] at cI
  have CI := Lib.hid cI
  have HB := Lib.hid (fun x (h : Kept (w.alloc (.cells #[.int .i64 i.op, .int .i64 i.d, .int .i64 i.a, .int .i64 i.b, .int .i64 i.imm] 38)) x) => ((Below.refl w.heap.size w).alloc (Nat.le_refl _) _).trans (Below.mono h (by simp)))
  have hB : w.heap.size < (w.alloc (.cells #[.int .i64 i.op, .int .i64 i.d, .int .i64 i.a, .int .i64 i.b, .int .i64 i.imm] 38)).heap.size := by simp
  have c0 : (w.alloc (.cells #[.int .i64 i.op, .int .i64 i.d, .int .i64 i.a, .int .i64 i.b, .int .i64 i.imm] 38)).cell? ⟨w.heap.size, 0, none⟩ = some (.int .i64 i.op) := by go_simp
  have c1 : (w.alloc (.cells #[.int .i64 i.op, .int .i64 i.d, .int .i64 i.a, .int .i64 i.b, .int .i64 i.imm] 38)).cell? ⟨w.heap.size, 1, none⟩ = some (.int .i64 i.d) := by go_simp
  have c2 : (w.alloc (.cells #[.int .i64 i.op, .int .i64 i.d, .int .i64 i.a, .int .i64 i.b, .int .i64 i.imm] 38)).cell? ⟨w.heap.size, 2, none⟩ = some (.int .i64 i.a) := by go_simp
  have c3 : (w.alloc (.cells #[.int .i64 i.op, .int .i64 i.d, .int .i64 i.a, .int .i64 i.b, .int .i64 i.imm] 38)).cell? ⟨w.heap.size, 3, none⟩ = some (.int .i64 i.b) := by go_simp
  have c4 : (w.alloc (.cells #[.int .i64 i.op, .int .i64 i.d, .int .i64 i.a, .int .i64 i.b, .int .i64 i.imm] 38)).cell? ⟨w.heap.size, 4, none⟩ = some (.int .i64 i.imm) := by go_simp
  have C0 := Lib.hid (fun x (h : Kept _ x) => h.cell hB c0)
  have C1 := Lib.hid (fun x (h : Kept _ x) => h.cell hB c1)
  have C2 := Lib.hid (fun x (h : Kept _ x) => h.cell hB c2)
  have C3 := Lib.hid (fun x (h : Kept _ x) => h.cell hB c3)
  have C4 := Lib.hid (fun x (h : Kept _ x) => h.cell hB c4)
  obtain ⟨n, hk⟩ : ∃ n : Nat, i.op - 1 = (n : Int) := ⟨(i.op - 1).toNat, by omega⟩
  have HK41 := Lib.hid (show n < 41 by omega)
  have hname : namesZ.getD n [] = nameN i.op := by unfold nameN; rw [hk]; rfl
  have HN := Lib.hid hname
  have hn0 : (0 : Int) ≤ n := by omega
  have hn41 : (n : Int) < 41 := by omega
  have hwn : IntKind.i64.wrap (n : Int) = n := by rw [IntKind.wrap_i64]; omega
  have HX := Lib.hid hX
  clear cI hform ho hd ha hb hi l0  hX hZ hr c0 c1 c2 c3 c4 hB hname s0 
  go_enter Tryd.func21, Tryd.ntmps21
  go_wp2_with fail
  refine (CI.out _).mono ?_; rintro e w1 ⟨rfl, hb1⟩
  generalize w.alloc (.cells #[.int .i64 i.op, .int .i64 i.d, .int .i64 i.a, .int .i64 i.b, .int .i64 i.imm] 38) = W at *
  have k1 : Kept W w1 := Kept.to (Kept.refl _) hb1
  clear hb1
  go_wp2_with fail
  have j0 : Kept W w1.drew := k1.drew
  have cp0 := C0.out
  refine wp_region_lin [(1, true), (2, true), (3, true), (0, false), (4, true), (5, true), (6, true)]
    (by kernel_rfl) (by kernel_rfl) rfl (by kernel_rfl) (Kept W) ?_
  simp only [List.map_cons, List.map_nil, List.getElem?_toArray, List.getElem?_cons_succ, List.getElem?_cons_zero]
  iterate 3 (refine lin_take (v := ?_) (by assumption) (by rfl) ?_ ?_; rotate_left; (intro x hx; (try dsimp only at hx); go_simp; try (with_reducible rfl)); (simp only [Act.put, List.setIfInBounds_toArray, List.set_cons_zero, List.set_cons_succ]))
  refine lin_call (by assumption) (by rfl) (fun K hK => ?_)
  go_simp
  refine (refNames_any _).mono ?_
  rintro e w2 ⟨A2, c2, rfl, hr2, hb2⟩
  obtain ⟨g2, o2, rfl, hg2, _⟩ := hr2.at_ (by omega)
  have j2 := j0.to hb2
  have nm := names_row (n := 41) hr2 HK41.out
  rw [HN.out, ← HX.out] at nm
  have NM := Lib.hid (fun x (h : Kept W x ∧ Kept w2 x) => h.2.cell hg2 nm)
  clear nm hr2 hb2
  go_wp2_with fail
  refine hK.out _ _ j2 (fun _ => ?_)
  clear hK K
  try simp only [Act.put, List.setIfInBounds_toArray, List.set_cons_zero, List.set_cons_succ]
  refine lin_more (S' := fun x => Kept W x ∧ Kept w2 x) (fun _ h => h.1) ?_
  have js : Kept W w2 ∧ Kept w2 w2 := ⟨j2, Kept.refl _⟩
  have nm := NM.out
  iterate 3 (refine lin_take (v := ?_) (by assumption) (by rfl) ?_ ?_; rotate_left; (intro x hx; (try dsimp only at hx); go_simp; try (with_reducible rfl)); (try simp only [Act.put, List.setIfInBounds_toArray, List.set_cons_zero, List.set_cons_succ]))
  refine lin_done ?_
  clear cp0 nm js
  have K2 := Lib.hid (HB.out _ j2)
  have d0 := C0.out _ j2
  have d1 := C1.out _ j2
  have d2 := C2.out _ j2
  have d3 := C3.out _ j2
  have d4 := C4.out _ j2
  clear j2 j0 k1
  go_wp2_with fail
  refine (refForm_any _ _).mono ?_; rintro e w3 ⟨rfl, rfl⟩
  rw [hf]
  go_wp2_with fail
  go_ret
  exact ⟨by first | rfl | rw [HJ.out], K2.out⟩

/-- ShowIns. -/
theorem refShow_any (i : Ins) (w : World) :
    Calls Tryd.prog 21 #[.agg #[.int .i64 i.op, .int .i64 i.d, .int .i64 i.a, .int .i64 i.b, .int .i64 i.imm]] w fun e w' => e = .returned (.string (txt (showZ i))) ∧ Below w.heap.size w w' := by
  cases hr : rightB i
  · exact refShow_no i w hr
  · have := formZ_right hr
    have h8 : formZ i.op = 1 ∨ formZ i.op = 2 ∨ formZ i.op = 3 ∨ formZ i.op = 4 ∨ formZ i.op = 5 ∨ formZ i.op = 6 ∨ formZ i.op = 7 ∨ formZ i.op = 8 := by omega
    rcases h8 with h | h | h | h | h | h | h | h
    · exact refShow_1 i w hr h
    · exact refShow_2 i w hr h
    · exact refShow_3 i w hr h
    · exact refShow_4 i w hr h
    · exact refShow_5 i w hr h
    · exact refShow_6 i w hr h
    · exact refShow_7 i w hr h
    · exact refShow_8 i w hr h
end Go.Proofs.YtfdegdbknponkaaDoor.Words

/- Contract of the document's own ShowText. -/
namespace Go.Proofs.YtfdegdbknponkaaDoor.Words
set_option maxRecDepth 100000
open Go.RowKit Go.Shelf Go.Lib
set_option linter.unusedVariables false
set_option linter.unusedSimpArgs false

set_option maxHeartbeats 2000000 in
theorem refText_no (A D : Option Addr) (c d : Nat) (p : Prog) (w : World) (r : ProgV w w.heap.size (.slice A p.code.length c) (.slice D p.data.length d) p) (hr : rightZ p.code p.size p.data.length = false) :
    Calls Tryd.prog 25 #[.agg #[.slice A p.code.length c, .int .i64 p.size, .slice D p.data.length d]] w fun e w' => e = .returned (.string (txt (textS p))) ∧ Below w.heap.size w w' := by
  have hempty : textS p = [] := if_neg (by rw [right_prog, hr]; decide)
  rw [hempty]
  have HRZ := Lib.hid hr
  clear hr hempty
  obtain ⟨u1, u2⟩ := r.code.cap
  obtain ⟨u3, u4⟩ := r.data.cap
  have hB : w.heap.size < (w.alloc (.cells #[.slice A p.code.length c, .int .i64 p.size, .slice D p.data.length d] 26)).heap.size := by simp
  have HP := Lib.hid ((r.alloc (Nat.le_refl _) (.cells #[.slice A p.code.length c, .int .i64 p.size, .slice D p.data.length d] 26)).more (B' := (w.alloc (.cells #[.slice A p.code.length c, .int .i64 p.size, .slice D p.data.length d] 26)).heap.size) (Nat.le_of_lt hB))
  have HW := Lib.hid ((Below.refl w.heap.size w).alloc (Nat.le_refl _) (.cells #[.slice A p.code.length c, .int .i64 p.size, .slice D p.data.length d] 26))
  have c0 : (w.alloc (.cells #[.slice A p.code.length c, .int .i64 p.size, .slice D p.data.length d] 26)).cell? ⟨w.heap.size, 0, none⟩ = some (.slice A p.code.length c) := by go_simp
  have e1 : (w.alloc (.cells #[.slice A p.code.length c, .int .i64 p.size, .slice D p.data.length d] 26)).cell? ⟨w.heap.size, 1, none⟩ = some (.int .i64 p.size) := by go_simp
  have e2 : (w.alloc (.cells #[.slice A p.code.length c, .int .i64 p.size, .slice D p.data.length d] 26)).cell? ⟨w.heap.size, 2, none⟩ = some (.slice D p.data.length d) := by go_simp
  clear r
  go_enter Tryd.func25, Tryd.ntmps25
  go_wp2_with fail
  generalize (w.alloc (.cells #[.slice A p.code.length c, .int .i64 p.size, .slice D p.data.length d] 26)) = W at *
  have HZ := Lib.hid (fun (x : World) (h : Kept W x) => HW.out.trans (Below.mono h (Nat.le_of_lt hB)))
  have C0 := Lib.hid (fun (x : World) (h : Kept W x) => h.cell hB c0)
  have C1 := Lib.hid (fun (x : World) (h : Kept W x) => h.cell hB e1)
  have C2 := Lib.hid (fun (x : World) (h : Kept W x) => h.cell hB e2)
  have PV := Lib.hid (fun (x : World) (h : Kept W x) => (HP.out.below h).more h.size)
  clear c0 e1 e2
  refine (refRight_any A c p.size D p.data.length d p.code _ (PV.out _ (Kept.refl _)).code u3 u4).mono ?_; rintro e w1 ⟨rfl, hb1⟩
  have k1 : Kept W w1 := (Kept.refl _).to hb1
  clear hb1
  rw [HRZ.out]
  go_wp2_with fail
  go_ret
  exact ⟨rfl, HZ.out _ k1⟩

set_option maxHeartbeats 8000000 in
theorem refText_in (A D : Option Addr) (c d : Nat) (p : Prog) (w : World) (r : ProgV w w.heap.size (.slice A p.code.length c) (.slice D p.data.length d) p) (f : p.Fits) (hr : rightZ p.code p.size p.data.length = true) (h5 : p.data.length ≤ 1000) (h6 : p.code.length ≤ 1000) :
    Calls Tryd.prog 25 #[.agg #[.slice A p.code.length c, .int .i64 p.size, .slice D p.data.length d]] w fun e w' => e = .returned (.string (txt (textS p))) ∧ Below w.heap.size w w' := by
  have hright : p.right = true := by rw [right_prog]; exact hr
  have htx : textS p = showT p := if_pos hright
  rw [htx]
  obtain ⟨⟨hs1, hs2, hs3, hs4, hs5⟩, hall, _⟩ := right_parts hright
  have HRT := Lib.hid hright
  have HDD := Lib.hid f.2.2
  have HDL := Lib.hid (fun i => txtD_len (p := p) ⟨hs3, hs4⟩ f.2.2 i)
  have HCL := Lib.hid (fun i (h : i ≤ p.code.length) => txtC_len hright f.2.2 i h)
  have H5 := Lib.hid h5
  have H6 := Lib.hid h6
  have HRZ := Lib.hid hr
  have cS := Lib.hid (fun y => dec_any p.size y (by omega))
  have hsl := decN_len (n := p.size) (by omega)
  obtain ⟨SZ, hSZ⟩ : ∃ SZ, SZ = txt (decN p.size) := ⟨_, rfl⟩
  rw [← hSZ] at cS
  have hszl : SZ.size ≤ 12 := by rw [hSZ, txt_len]; exact hsl
  have jh : ((⟨#[115, 105, 122, 101, 32]⟩ : ByteArray) ++ SZ) ++ (⟨#[10]⟩ : ByteArray) = txt (txtD p 0) := by
    rw [hSZ, txtD_zero]
    unfold headT
    rw [show (⟨#[115, 105, 122, 101, 32]⟩ : ByteArray) = txt [115, 105, 122, 101, 32] from rfl, show (⟨#[10]⟩ : ByteArray) = txt [10] from rfl, txt_join, txt_join]
  have uh1 : ¬ (((⟨#[115, 105, 122, 101, 32]⟩ : ByteArray)).size + SZ.size > 9223372036854775807) := by rw [show ((⟨#[115, 105, 122, 101, 32]⟩ : ByteArray)).size = 5 from rfl]; omega
  have uh2 : ¬ (((⟨#[115, 105, 122, 101, 32]⟩ : ByteArray) ++ SZ).size + ((⟨#[10]⟩ : ByteArray)).size > 9223372036854775807) := by rw [ByteArray.size_append, show ((⟨#[115, 105, 122, 101, 32]⟩ : ByteArray)).size = 5 from rfl, show ((⟨#[10]⟩ : ByteArray)).size = 1 from rfl]; omega
  have JH := Lib.hid jh
  clear hr hright htx hs1 hs2 hs3 hs4 hs5 hall hsl hSZ jh f h5 h6
  obtain ⟨u1, u2⟩ := r.code.cap
  obtain ⟨u3, u4⟩ := r.data.cap
  have hB : w.heap.size < (w.alloc (.cells #[.slice A p.code.length c, .int .i64 p.size, .slice D p.data.length d] 26)).heap.size := by simp
  have HP := Lib.hid ((r.alloc (Nat.le_refl _) (.cells #[.slice A p.code.length c, .int .i64 p.size, .slice D p.data.length d] 26)).more (B' := (w.alloc (.cells #[.slice A p.code.length c, .int .i64 p.size, .slice D p.data.length d] 26)).heap.size) (Nat.le_of_lt hB))
  have HW := Lib.hid ((Below.refl w.heap.size w).alloc (Nat.le_refl _) (.cells #[.slice A p.code.length c, .int .i64 p.size, .slice D p.data.length d] 26))
  have c0 : (w.alloc (.cells #[.slice A p.code.length c, .int .i64 p.size, .slice D p.data.length d] 26)).cell? ⟨w.heap.size, 0, none⟩ = some (.slice A p.code.length c) := by go_simp
  have e1 : (w.alloc (.cells #[.slice A p.code.length c, .int .i64 p.size, .slice D p.data.length d] 26)).cell? ⟨w.heap.size, 1, none⟩ = some (.int .i64 p.size) := by go_simp
  have e2 : (w.alloc (.cells #[.slice A p.code.length c, .int .i64 p.size, .slice D p.data.length d] 26)).cell? ⟨w.heap.size, 2, none⟩ = some (.slice D p.data.length d) := by go_simp
  clear r
  go_enter Tryd.func25, Tryd.ntmps25
  go_wp2_with fail
  generalize (w.alloc (.cells #[.slice A p.code.length c, .int .i64 p.size, .slice D p.data.length d] 26)) = W at *
  have HZ := Lib.hid (fun (x : World) (h : Kept W x) => HW.out.trans (Below.mono h (Nat.le_of_lt hB)))
  have C0 := Lib.hid (fun (x : World) (h : Kept W x) => h.cell hB c0)
  have C1 := Lib.hid (fun (x : World) (h : Kept W x) => h.cell hB e1)
  have C2 := Lib.hid (fun (x : World) (h : Kept W x) => h.cell hB e2)
  have PV := Lib.hid (fun (x : World) (h : Kept W x) => (HP.out.below h).more h.size)
  clear c0 e1 e2
  refine (refRight_any A c p.size D p.data.length d p.code _ (PV.out _ (Kept.refl _)).code u3 u4).mono ?_; rintro e w1 ⟨rfl, hb1⟩
  have k1 : Kept W w1 := (Kept.refl _).to hb1
  clear hb1
  rw [HRZ.out]
  have d1 := C1.out _ k1
  go_wp2_with (go_at_call 20; refine (cS.out _).mono ?_; rintro e w4 ⟨rfl, rfl⟩)
  clear d1
  have K1 := Lib.hid k1
  have dB := Lib.hid hB
  clear k1 hB
  go_loopw [3, 4] (fun q x wr => ∃ i : Nat, i ≤ p.data.length ∧ q = .string (txt (txtD p i)) ∧ x = .int .i64 i ∧ Kept W wr) (fun _ x _ => p.data.length - (intOf x).toNat)
  case atStart => exact ⟨0, Nat.zero_le _, by rw [← JH.out], rfl, K1.out⟩
  case round =>
    obtain ⟨i, hi, rfl, rfl, hK⟩ := hrel
    have hPV := (PV.out _ hK).data
    have d2 := C2.out _ hK
    have HKK := Lib.hid hK
    by_cases hlt : i < p.data.length
    · obtain ⟨g, o, rfl, hg, _⟩ := hPV.at_ (by omega)
      have hb := hPV.num i hlt
      obtain ⟨x, hx⟩ : ∃ x, x = p.data.getD i 0 := ⟨_, rfl⟩
      obtain ⟨hx0, hx1⟩ := data_in HDD.out i
      rw [← hx] at hb hx0 hx1
      have hdl := decN_len (n := x) (by omega)
      have cDx := fun y => dec_any x y (by omega)
      obtain ⟨DX, hDX⟩ : ∃ D, D = txt (decN x) := ⟨_, rfl⟩
      rw [← hDX] at cDx
      have hDs : DX.size ≤ 12 := by rw [hDX, txt_len]; exact hdl
      obtain ⟨S, hS⟩ : ∃ S, S = txt (txtD p i) := ⟨_, rfl⟩
      have hSs : S.size ≤ 20000 := by rw [hS, txt_len]; have := HDL.out i; have := H5.out; omega
      have CDX := Lib.hid cDx
      have HLT := Lib.hid hlt
      obtain ⟨R, hR⟩ : ∃ R, R = i % 16 := ⟨_, rfl⟩
      have hR0 : R < 16 := by omega
      have hrem : Int.tmod (i : Int) 16 = (R : Int) := by rw [Int.tmod_eq_emod_of_nonneg (by omega)]; omega
      have hrem2 : (i : Int) % 16 = (R : Int) := by omega
      have n0 : (0 : Int) ≤ i := by omega
      have n1 : (i : Int) < p.data.length := by omega
      have nd : decide ((i : Int) < (p.data.length : Int)) = true := decide_eq_true n1
      have nd2 : decide (i < p.data.length) = true := decide_eq_true hlt
      rw [← hS]
      clear hPV hK hg cDx hdl
      by_cases h0 : R = 0
      · by_cases hl : i + 1 = p.data.length
        ·
          have hj : ((S ++ (⟨#[98, 121, 116, 101, 32]⟩ : ByteArray)) ++ DX) ++ (⟨#[10]⟩ : ByteArray) = txt (txtD p (i + 1)) := by
            rw [txtD_succ, hS, hDX, show (⟨#[98, 121, 116, 101, 32]⟩ : ByteArray) = txt [98, 121, 116, 101, 32] from rfl, show (⟨#[10]⟩ : ByteArray) = txt [10] from rfl, txt_join, txt_join, txt_join]
            unfold bytT aheadS nlS
            rw [if_pos (by omega), if_pos (by omega), ← hx]
            simp
          have v1 : ¬ (S.size + ((⟨#[98, 121, 116, 101, 32]⟩ : ByteArray)).size > 9223372036854775807) := by rw [show ((⟨#[98, 121, 116, 101, 32]⟩ : ByteArray)).size = 5 from rfl]; omega
          have v2 : ¬ ((S ++ (⟨#[98, 121, 116, 101, 32]⟩ : ByteArray)).size + DX.size > 9223372036854775807) := by rw [ByteArray.size_append, show ((⟨#[98, 121, 116, 101, 32]⟩ : ByteArray)).size = 5 from rfl]; omega
          have v3 : ¬ (((S ++ (⟨#[98, 121, 116, 101, 32]⟩ : ByteArray)) ++ DX).size + ((⟨#[10]⟩ : ByteArray)).size > 9223372036854775807) := by rw [ByteArray.size_append, ByteArray.size_append, show ((⟨#[98, 121, 116, 101, 32]⟩ : ByteArray)).size = 5 from rfl, show ((⟨#[10]⟩ : ByteArray)).size = 1 from rfl]; omega
          have HJ := Lib.hid hj
          have t0 : ((R : Int) == 0) = true := by simp; omega
          have t15 : ((R : Int) == 15) = false := by simp; omega
          have tn : ((i : Int) + 1 == (p.data.length : Int)) = true := by simp; omega
          have tn2 : ((i : Int) + 1 = (p.data.length : Int)) = True := by simp; omega
          clear hj hS hDX hx hSs hDs hR0 hlt hi hR
          go_wp2_with (go_at_call 20; refine (CDX.out _).mono ?_; rintro e w4 ⟨rfl, rfl⟩)
          go_roundw
          case rel => exact ⟨i + 1, HLT.out, by rw [← HJ.out], by go_num, HKK.out⟩
          case measure => have := HLT.out; simp only [intOf]; omega
        ·
          have hj : (S ++ (⟨#[98, 121, 116, 101, 32]⟩ : ByteArray)) ++ DX = txt (txtD p (i + 1)) := by
            rw [txtD_succ, hS, hDX, show (⟨#[98, 121, 116, 101, 32]⟩ : ByteArray) = txt [98, 121, 116, 101, 32] from rfl, txt_join, txt_join]
            unfold bytT aheadS nlS
            rw [if_pos (by omega), if_neg (by omega), ← hx]
            simp
          have v1 : ¬ (S.size + ((⟨#[98, 121, 116, 101, 32]⟩ : ByteArray)).size > 9223372036854775807) := by rw [show ((⟨#[98, 121, 116, 101, 32]⟩ : ByteArray)).size = 5 from rfl]; omega
          have v2 : ¬ ((S ++ (⟨#[98, 121, 116, 101, 32]⟩ : ByteArray)).size + DX.size > 9223372036854775807) := by rw [ByteArray.size_append, show ((⟨#[98, 121, 116, 101, 32]⟩ : ByteArray)).size = 5 from rfl]; omega
          have HJ := Lib.hid hj
          have t0 : ((R : Int) == 0) = true := by simp; omega
          have t15 : ((R : Int) == 15) = false := by simp; omega
          have tn : ((i : Int) + 1 == (p.data.length : Int)) = false := by simp; omega
          have tn2 : ((i : Int) + 1 = (p.data.length : Int)) = False := by simp; omega
          clear hj hS hDX hx hSs hDs hR0 hlt hi hR
          go_wp2_with (go_at_call 20; refine (CDX.out _).mono ?_; rintro e w4 ⟨rfl, rfl⟩)
          go_roundw
          case rel => exact ⟨i + 1, HLT.out, by rw [← HJ.out], by go_num, HKK.out⟩
          case measure => have := HLT.out; simp only [intOf]; omega
      · by_cases h15 : R = 15
        ·
          have hj : ((S ++ (⟨#[44, 32]⟩ : ByteArray)) ++ DX) ++ (⟨#[10]⟩ : ByteArray) = txt (txtD p (i + 1)) := by
            rw [txtD_succ, hS, hDX, show (⟨#[44, 32]⟩ : ByteArray) = txt [44, 32] from rfl, show (⟨#[10]⟩ : ByteArray) = txt [10] from rfl, txt_join, txt_join, txt_join]
            unfold bytT aheadS nlS
            rw [if_neg (by omega), if_pos (by omega), ← hx]
            simp
          have v1 : ¬ (S.size + ((⟨#[44, 32]⟩ : ByteArray)).size > 9223372036854775807) := by rw [show ((⟨#[44, 32]⟩ : ByteArray)).size = 2 from rfl]; omega
          have v2 : ¬ ((S ++ (⟨#[44, 32]⟩ : ByteArray)).size + DX.size > 9223372036854775807) := by rw [ByteArray.size_append, show ((⟨#[44, 32]⟩ : ByteArray)).size = 2 from rfl]; omega
          have v3 : ¬ (((S ++ (⟨#[44, 32]⟩ : ByteArray)) ++ DX).size + ((⟨#[10]⟩ : ByteArray)).size > 9223372036854775807) := by rw [ByteArray.size_append, ByteArray.size_append, show ((⟨#[44, 32]⟩ : ByteArray)).size = 2 from rfl, show ((⟨#[10]⟩ : ByteArray)).size = 1 from rfl]; omega
          have HJ := Lib.hid hj
          have t0 : ((R : Int) == 0) = false := by simp; omega
          have t15 : ((R : Int) == 15) = true := by simp; omega
          clear hj hS hDX hx hSs hDs hR0 hlt hi hR
          go_wp2_with (go_at_call 20; refine (CDX.out _).mono ?_; rintro e w4 ⟨rfl, rfl⟩)
          go_roundw
          case rel => exact ⟨i + 1, HLT.out, by rw [← HJ.out], by go_num, HKK.out⟩
          case measure => have := HLT.out; simp only [intOf]; omega
        · by_cases hl : i + 1 = p.data.length
          ·
            have hj : ((S ++ (⟨#[44, 32]⟩ : ByteArray)) ++ DX) ++ (⟨#[10]⟩ : ByteArray) = txt (txtD p (i + 1)) := by
              rw [txtD_succ, hS, hDX, show (⟨#[44, 32]⟩ : ByteArray) = txt [44, 32] from rfl, show (⟨#[10]⟩ : ByteArray) = txt [10] from rfl, txt_join, txt_join, txt_join]
              unfold bytT aheadS nlS
              rw [if_neg (by omega), if_pos (by omega), ← hx]
              simp
            have v1 : ¬ (S.size + ((⟨#[44, 32]⟩ : ByteArray)).size > 9223372036854775807) := by rw [show ((⟨#[44, 32]⟩ : ByteArray)).size = 2 from rfl]; omega
            have v2 : ¬ ((S ++ (⟨#[44, 32]⟩ : ByteArray)).size + DX.size > 9223372036854775807) := by rw [ByteArray.size_append, show ((⟨#[44, 32]⟩ : ByteArray)).size = 2 from rfl]; omega
            have v3 : ¬ (((S ++ (⟨#[44, 32]⟩ : ByteArray)) ++ DX).size + ((⟨#[10]⟩ : ByteArray)).size > 9223372036854775807) := by rw [ByteArray.size_append, ByteArray.size_append, show ((⟨#[44, 32]⟩ : ByteArray)).size = 2 from rfl, show ((⟨#[10]⟩ : ByteArray)).size = 1 from rfl]; omega
            have HJ := Lib.hid hj
            have t0 : ((R : Int) == 0) = false := by simp; omega
            have t15 : ((R : Int) == 15) = false := by simp; omega
            have tn : ((i : Int) + 1 == (p.data.length : Int)) = true := by simp; omega
            have tn2 : ((i : Int) + 1 = (p.data.length : Int)) = True := by simp; omega
            clear hj hS hDX hx hSs hDs hR0 hlt hi hR
            go_wp2_with (go_at_call 20; refine (CDX.out _).mono ?_; rintro e w4 ⟨rfl, rfl⟩)
            go_roundw
            case rel => exact ⟨i + 1, HLT.out, by rw [← HJ.out], by go_num, HKK.out⟩
            case measure => have := HLT.out; simp only [intOf]; omega
          ·
            have hj : (S ++ (⟨#[44, 32]⟩ : ByteArray)) ++ DX = txt (txtD p (i + 1)) := by
              rw [txtD_succ, hS, hDX, show (⟨#[44, 32]⟩ : ByteArray) = txt [44, 32] from rfl, txt_join, txt_join]
              unfold bytT aheadS nlS
              rw [if_neg (by omega), if_neg (by omega), ← hx]
              simp
            have v1 : ¬ (S.size + ((⟨#[44, 32]⟩ : ByteArray)).size > 9223372036854775807) := by rw [show ((⟨#[44, 32]⟩ : ByteArray)).size = 2 from rfl]; omega
            have v2 : ¬ ((S ++ (⟨#[44, 32]⟩ : ByteArray)).size + DX.size > 9223372036854775807) := by rw [ByteArray.size_append, show ((⟨#[44, 32]⟩ : ByteArray)).size = 2 from rfl]; omega
            have HJ := Lib.hid hj
            have t0 : ((R : Int) == 0) = false := by simp; omega
            have t15 : ((R : Int) == 15) = false := by simp; omega
            have tn : ((i : Int) + 1 == (p.data.length : Int)) = false := by simp; omega
            have tn2 : ((i : Int) + 1 = (p.data.length : Int)) = False := by simp; omega
            clear hj hS hDX hx hSs hDs hR0 hlt hi hR
            go_wp2_with (go_at_call 20; refine (CDX.out _).mono ?_; rintro e w4 ⟨rfl, rfl⟩)
            go_roundw
            case rel => exact ⟨i + 1, HLT.out, by rw [← HJ.out], by go_num, HKK.out⟩
            case measure => have := HLT.out; simp only [intOf]; omega
    · have hie : i = p.data.length := by omega
      subst hie
      have nd : decide ((p.data.length : Int) < (p.data.length : Int)) = false := decide_eq_false (by omega)
      have nd2 : decide (p.data.length < p.data.length) = false := decide_eq_false (by omega)
      rw [← txtC_zero]
      clear hPV hlt hi hK
      go_wp2_with fail
      clear d2 nd nd2
      go_loopw [3, 5] (fun q x wr2 => ∃ i : Nat, i ≤ p.code.length ∧ q = .string (txt (txtC p i)) ∧ x = .int .i64 i ∧ Kept W wr2) (fun _ x _ => p.code.length - (intOf x).toNat)
      case atStart => exact ⟨0, Nat.zero_le _, rfl, rfl, HKK.out⟩
      case round =>
        obtain ⟨i, hi, rfl, rfl, hK2⟩ := hrel
        have hPV := (PV.out _ hK2).code
        have d0 := C0.out _ hK2
        by_cases hlt : i < p.code.length
        · obtain ⟨g, o, rfl, hg, _⟩ := hPV.at_ (by omega)
          obtain ⟨I, hIe⟩ : ∃ I, I = p.code.getD i ins0 := ⟨_, rfl⟩
          have hIg : p.code[i]? = some I := by rw [hIe, List.getD_eq_getElem?_getD, List.getElem?_eq_getElem hlt]; rfl
          have hIr : rightB I = true := by rw [hIe]; exact code_right HRT.out hlt
          obtain ⟨x0, x1, x2, x3, x4⟩ := Row.ins (l := p.code) hPV (k := i) hIg
          have hsl := showI_len hIr
          obtain ⟨SI, hSI⟩ : ∃ SI, SI = txt (showI I) := ⟨_, rfl⟩
          have hSIs : SI.size ≤ 40 := by rw [hSI, txt_len]; exact hsl
          have cI := Lib.hid (fun y => by have := refShow_any I y; rw [showZ_yes hIr, ← hSI] at this; exact this)
          obtain ⟨S, hS⟩ : ∃ S, S = txt (txtC p i) := ⟨_, rfl⟩
          have hSs : S.size ≤ 100000 := by rw [hS, txt_len]; have := HCL.out i hi; have := H5.out; have := H6.out; omega
          have hj : (S ++ SI) ++ (⟨#[10]⟩ : ByteArray) = txt (txtC p (i + 1)) := by
            rw [txtC_succ, hS, hSI]
            unfold codT
            rw [← hIe, show (⟨#[10]⟩ : ByteArray) = txt [10] from rfl, txt_join, txt_join, List.append_assoc]
          have v1 : ¬ (S.size + SI.size > 9223372036854775807) := by omega
          have v2 : ¬ ((S ++ SI).size + ((⟨#[10]⟩ : ByteArray)).size > 9223372036854775807) := by rw [ByteArray.size_append, show ((⟨#[10]⟩ : ByteArray)).size = 1 from rfl]; omega
          have HJ := Lib.hid hj
          have HLT := Lib.hid hlt
          have HK2 := Lib.hid hK2
          have n0 : (0 : Int) ≤ i := by omega
          have n1 : (i : Int) < p.code.length := by omega
          have nd : decide ((i : Int) < (p.code.length : Int)) = true := decide_eq_true n1
          have nd2 : decide (i < p.code.length) = true := decide_eq_true hlt
          rw [← hS]
          clear hPV hi hlt hK2 hg hSI hSIs hS hSs hj hIe hIg hIr hsl
          go_wp2_with fail
          refine (cI.out _).mono ?_
          rintro e w4 ⟨rfl, hb4⟩
          have J2 := Lib.hid (HK2.out.to hb4)
          clear hb4 d0 x0 x1 x2 x3 x4
          go_wp2_with fail
          go_roundw
          case rel => exact ⟨i + 1, HLT.out, by rw [← HJ.out], by go_num, J2.out⟩
          case measure => have := HLT.out; simp only [intOf]; omega
        · have hie : i = p.code.length := by omega
          subst hie
          have nd : decide ((p.code.length : Int) < (p.code.length : Int)) = false := decide_eq_false (by omega)
          have nd2 : decide (p.code.length < p.code.length) = false := decide_eq_false (by omega)
          have HK2 := Lib.hid hK2
          clear hPV hlt hi hK2
          go_wp2_with fail
          go_ret
          exact ⟨rfl, HZ.out _ HK2.out⟩
theorem refText_any (A D : Option Addr) (c d : Nat) (p : Prog) (w : World) (r : ProgV w w.heap.size (.slice A p.code.length c) (.slice D p.data.length d) p) (f : p.Fits) (h5 : p.data.length ≤ 1000) (h6 : p.code.length ≤ 1000) :
    Calls Tryd.prog 25 #[.agg #[.slice A p.code.length c, .int .i64 p.size, .slice D p.data.length d]] w fun e w' => e = .returned (.string (txt (textS p))) ∧ Below w.heap.size w w' := by
  cases hr : rightZ p.code p.size p.data.length
  · exact refText_no A D c d p w r hr
  · exact refText_in A D c d p w r f hr h5 h6
end Go.Proofs.YtfdegdbknponkaaDoor.Words

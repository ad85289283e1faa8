/- The walk of ShowLines: a text has a line for the size, one for each sixteen bytes, and one for each instruction. -/
import Derived.Test.YtfdegdbknponkaaDoorG12
import Derived.Test.YtfdegdbknponkaaDoorG11
import Derived.Test.YtfdegdbknponkaaDoorG07
namespace Go.Proofs.YtfdegdbknponkaaDoor.Words
set_option maxRecDepth 100000
open Go.RowKit Go.Shelf Go.Lib
set_option linter.unusedVariables false
set_option linter.unusedSimpArgs false

theorem index_txt {l : List UInt8} {k : Nat} {c : UInt8} (h : l[k]? = some c) (w : World) : (Instr.index 9 (.string (txt l)) (.int .i64 (k : Int))).run Tryd.prog w = .ok (.int .u8 (c.toNat : Int)) w := by
  obtain ⟨hlt, rfl⟩ := List.getElem?_eq_some_iff.1 h
  have hs : (txt l).size = l.length := txt_len l
  rw [run_index_string w 9 (txt l) .i64 k Tryd.underlying9, dif_pos ⟨by omega, by rw [hs]; omega⟩]
  rfl
set_option maxHeartbeats 2000000 in
theorem showLines_no1 {A D : Option Addr} {c d : Nat} {p : Prog} {w : World} (hT : TabsS w) (r : ProgV w w.heap.size (.slice A p.code.length c) (.slice D p.data.length d) p) (f : p.Fits) (hf : fewB p.code.length p.data.length = false) (hr : rightZ p.code p.size p.data.length = true) :
    Calls Tryd.prog 11 #[.agg #[.slice A p.code.length c, .int .i64 p.size, .slice D p.data.length d]] w fun e w' => e = .returned (.bool true) ∧ Below w.heap.size w w' := by
  have cA := fun y (hy : TabsS y) => alive9_any y hy
  have CA := Lib.hid cA
  clear cA
  obtain ⟨u1, u2⟩ := r.code.cap
  obtain ⟨u3, u4⟩ := r.data.cap
  have hn63 : p.code.length ≤ 9223372036854775807 := by omega
  have hd63 : p.data.length ≤ 9223372036854775807 := by omega
  have hB : w.heap.size < (w.alloc (.cells #[.slice A p.code.length c, .int .i64 p.size, .slice D p.data.length d] 26)).heap.size := by simp
  have HP := Lib.hid ((r.alloc (Nat.le_refl _) (.cells #[.slice A p.code.length c, .int .i64 p.size, .slice D p.data.length d] 26)).more (B' := (w.alloc (.cells #[.slice A p.code.length c, .int .i64 p.size, .slice D p.data.length d] 26)).heap.size) (Nat.le_of_lt hB))
  have HW := Lib.hid ((Below.refl w.heap.size w).alloc (Nat.le_refl _) (.cells #[.slice A p.code.length c, .int .i64 p.size, .slice D p.data.length d] 26))
  have HT0 := Lib.hid (hT.below ((Below.refl w.heap.size w).alloc (Nat.le_refl _) (.cells #[.slice A p.code.length c, .int .i64 p.size, .slice D p.data.length d] 26)))
  have c0 : (w.alloc (.cells #[.slice A p.code.length c, .int .i64 p.size, .slice D p.data.length d] 26)).cell? ⟨w.heap.size, 0, none⟩ = some (.slice A p.code.length c) := by go_simp
  have e1 : (w.alloc (.cells #[.slice A p.code.length c, .int .i64 p.size, .slice D p.data.length d] 26)).cell? ⟨w.heap.size, 1, none⟩ = some (.int .i64 p.size) := by go_simp
  have e2 : (w.alloc (.cells #[.slice A p.code.length c, .int .i64 p.size, .slice D p.data.length d] 26)).cell? ⟨w.heap.size, 2, none⟩ = some (.slice D p.data.length d) := by go_simp
  have HFF := Lib.hid f
  clear r hT f
  have HF := Lib.hid hf
  have HRZ := Lib.hid hr
  clear hf hr
  go_enter Tryd.func11, Tryd.ntmps11
  go_wp2_with fail
  generalize (w.alloc (.cells #[.slice A p.code.length c, .int .i64 p.size, .slice D p.data.length d] 26)) = W at *
  have HZ := Lib.hid (fun (x : World) (h : Kept W x) => HW.out.trans (Below.mono h (Nat.le_of_lt hB)))
  have C0 := Lib.hid (fun (x : World) (h : Kept W x) => h.cell hB c0)
  have C1 := Lib.hid (fun (x : World) (h : Kept W x) => h.cell hB e1)
  have C2 := Lib.hid (fun (x : World) (h : Kept W x) => h.cell hB e2)
  have PV := Lib.hid (fun (x : World) (h : Kept W x) => (HP.out.below h).more h.size)
  have TV := Lib.hid (fun (x : World) (h : Kept W x) => HT0.out.below h)
  clear c0 e1 e2
  refine (CA.out _ HT0.out).mono ?_; rintro e w1 ⟨rfl, hb1⟩
  have k1 : Kept W w1 := (Kept.refl _).to hb1
  clear hb1
  have d0 := C0.out _ k1
  have d1 := C1.out _ k1
  have d2 := C2.out _ k1
  go_wp2_with fail
  refine (few_any A D p.code.length c p.data.length d p.size _ hn63 hd63).mono ?_; rintro e w2 ⟨rfl, hb2⟩
  have k2 := k1.to hb2
  clear hb2 d0 d1 d2
  have d0 := C0.out _ k2
  have d1 := C1.out _ k2
  have d2 := C2.out _ k2
  rw [HF.out]
  go_wp2_with fail
  refine (refRight_any A c p.size D p.data.length d p.code _ (PV.out _ k2).code u3 u4).mono ?_; rintro e w3 ⟨rfl, hb3⟩
  have k3 := k2.to hb3
  clear hb3 d0 d1 d2
  have d0 := C0.out _ k3
  have d1 := C1.out _ k3
  have d2 := C2.out _ k3
  rw [HRZ.out]
  go_wp2_with fail
  go_ret
  exact ⟨by first | rfl | simp, HZ.out _ k3⟩

set_option maxHeartbeats 2000000 in
theorem showLines_no2 {A D : Option Addr} {c d : Nat} {p : Prog} {w : World} (hT : TabsS w) (r : ProgV w w.heap.size (.slice A p.code.length c) (.slice D p.data.length d) p) (f : p.Fits) (hf : fewB p.code.length p.data.length = false) (hr : rightZ p.code p.size p.data.length = false) :
    Calls Tryd.prog 11 #[.agg #[.slice A p.code.length c, .int .i64 p.size, .slice D p.data.length d]] w fun e w' => e = .returned (.bool true) ∧ Below w.heap.size w w' := by
  have hempty : textS p = [] := if_neg (by rw [right_prog, hr]; decide)
  have CX := Lib.hid (fun y (hy : TabsS y) (hp : ProgV y y.heap.size (.slice A p.code.length c) (.slice D p.data.length d) p) => (by
    have h := showText_any A D c d p y hy hp f (fun h => absurd h (by rw [right_prog, hr]; decide))
    rw [hempty] at h
    exact h : Calls Tryd.prog 24 #[.agg #[.slice A p.code.length c, .int .i64 p.size, .slice D p.data.length d]] y fun e w' => e = .returned (.string (txt [])) ∧ Below y.heap.size y w'))
  have q0 : ((txt []).toList == []) = true := by rw [Lib.toList_data]; rfl
  clear hempty
  have cA := fun y (hy : TabsS y) => alive9_any y hy
  have CA := Lib.hid cA
  clear cA
  obtain ⟨u1, u2⟩ := r.code.cap
  obtain ⟨u3, u4⟩ := r.data.cap
  have hn63 : p.code.length ≤ 9223372036854775807 := by omega
  have hd63 : p.data.length ≤ 9223372036854775807 := by omega
  have hB : w.heap.size < (w.alloc (.cells #[.slice A p.code.length c, .int .i64 p.size, .slice D p.data.length d] 26)).heap.size := by simp
  have HP := Lib.hid ((r.alloc (Nat.le_refl _) (.cells #[.slice A p.code.length c, .int .i64 p.size, .slice D p.data.length d] 26)).more (B' := (w.alloc (.cells #[.slice A p.code.length c, .int .i64 p.size, .slice D p.data.length d] 26)).heap.size) (Nat.le_of_lt hB))
  have HW := Lib.hid ((Below.refl w.heap.size w).alloc (Nat.le_refl _) (.cells #[.slice A p.code.length c, .int .i64 p.size, .slice D p.data.length d] 26))
  have HT0 := Lib.hid (hT.below ((Below.refl w.heap.size w).alloc (Nat.le_refl _) (.cells #[.slice A p.code.length c, .int .i64 p.size, .slice D p.data.length d] 26)))
  have c0 : (w.alloc (.cells #[.slice A p.code.length c, .int .i64 p.size, .slice D p.data.length d] 26)).cell? ⟨w.heap.size, 0, none⟩ = some (.slice A p.code.length c) := by go_simp
  have e1 : (w.alloc (.cells #[.slice A p.code.length c, .int .i64 p.size, .slice D p.data.length d] 26)).cell? ⟨w.heap.size, 1, none⟩ = some (.int .i64 p.size) := by go_simp
  have e2 : (w.alloc (.cells #[.slice A p.code.length c, .int .i64 p.size, .slice D p.data.length d] 26)).cell? ⟨w.heap.size, 2, none⟩ = some (.slice D p.data.length d) := by go_simp
  have HFF := Lib.hid f
  clear r hT f
  have HF := Lib.hid hf
  have HRZ := Lib.hid hr
  clear hf hr
  go_enter Tryd.func11, Tryd.ntmps11
  go_wp2_with fail
  generalize (w.alloc (.cells #[.slice A p.code.length c, .int .i64 p.size, .slice D p.data.length d] 26)) = W at *
  have HZ := Lib.hid (fun (x : World) (h : Kept W x) => HW.out.trans (Below.mono h (Nat.le_of_lt hB)))
  have C0 := Lib.hid (fun (x : World) (h : Kept W x) => h.cell hB c0)
  have C1 := Lib.hid (fun (x : World) (h : Kept W x) => h.cell hB e1)
  have C2 := Lib.hid (fun (x : World) (h : Kept W x) => h.cell hB e2)
  have PV := Lib.hid (fun (x : World) (h : Kept W x) => (HP.out.below h).more h.size)
  have TV := Lib.hid (fun (x : World) (h : Kept W x) => HT0.out.below h)
  clear c0 e1 e2
  refine (CA.out _ HT0.out).mono ?_; rintro e w1 ⟨rfl, hb1⟩
  have k1 : Kept W w1 := (Kept.refl _).to hb1
  clear hb1
  have d0 := C0.out _ k1
  have d1 := C1.out _ k1
  have d2 := C2.out _ k1
  go_wp2_with fail
  refine (few_any A D p.code.length c p.data.length d p.size _ hn63 hd63).mono ?_; rintro e w2 ⟨rfl, hb2⟩
  have k2 := k1.to hb2
  clear hb2 d0 d1 d2
  have d0 := C0.out _ k2
  have d1 := C1.out _ k2
  have d2 := C2.out _ k2
  rw [HF.out]
  go_wp2_with fail
  refine (refRight_any A c p.size D p.data.length d p.code _ (PV.out _ k2).code u3 u4).mono ?_; rintro e w3 ⟨rfl, hb3⟩
  have k3 := k2.to hb3
  clear hb3 d0 d1 d2
  have d0 := C0.out _ k3
  have d1 := C1.out _ k3
  have d2 := C2.out _ k3
  rw [HRZ.out]
  go_wp2_with fail
  refine (CX.out _ (TV.out _ k3) (PV.out _ k3)).mono ?_; rintro e w4 ⟨rfl, hb4⟩
  have k4 := k3.to hb4
  clear hb4 d0 d1 d2
  go_wp2_with fail
  go_ret
  exact ⟨by first | rfl | simp, HZ.out _ k4⟩

set_option maxHeartbeats 2000000 in
theorem showLines_no3 {A D : Option Addr} {c d : Nat} {p : Prog} {w : World} (hT : TabsS w) (r : ProgV w w.heap.size (.slice A p.code.length c) (.slice D p.data.length d) p) (f : p.Fits) (hf : fewB p.code.length p.data.length = true) (hr : rightZ p.code p.size p.data.length = false) :
    Calls Tryd.prog 11 #[.agg #[.slice A p.code.length c, .int .i64 p.size, .slice D p.data.length d]] w fun e w' => e = .returned (.bool true) ∧ Below w.heap.size w w' := by
  have hempty : textS p = [] := if_neg (by rw [right_prog, hr]; decide)
  have CX := Lib.hid (fun y (hy : TabsS y) (hp : ProgV y y.heap.size (.slice A p.code.length c) (.slice D p.data.length d) p) => (by
    have h := showText_any A D c d p y hy hp f (fun h => absurd h (by rw [right_prog, hr]; decide))
    rw [hempty] at h
    exact h : Calls Tryd.prog 24 #[.agg #[.slice A p.code.length c, .int .i64 p.size, .slice D p.data.length d]] y fun e w' => e = .returned (.string (txt [])) ∧ Below y.heap.size y w'))
  have q0 : ((txt []).toList == []) = true := by rw [Lib.toList_data]; rfl
  clear hempty
  have cA := fun y (hy : TabsS y) => alive9_any y hy
  have CA := Lib.hid cA
  clear cA
  obtain ⟨u1, u2⟩ := r.code.cap
  obtain ⟨u3, u4⟩ := r.data.cap
  have hn63 : p.code.length ≤ 9223372036854775807 := by omega
  have hd63 : p.data.length ≤ 9223372036854775807 := by omega
  have hB : w.heap.size < (w.alloc (.cells #[.slice A p.code.length c, .int .i64 p.size, .slice D p.data.length d] 26)).heap.size := by simp
  have HP := Lib.hid ((r.alloc (Nat.le_refl _) (.cells #[.slice A p.code.length c, .int .i64 p.size, .slice D p.data.length d] 26)).more (B' := (w.alloc (.cells #[.slice A p.code.length c, .int .i64 p.size, .slice D p.data.length d] 26)).heap.size) (Nat.le_of_lt hB))
  have HW := Lib.hid ((Below.refl w.heap.size w).alloc (Nat.le_refl _) (.cells #[.slice A p.code.length c, .int .i64 p.size, .slice D p.data.length d] 26))
  have HT0 := Lib.hid (hT.below ((Below.refl w.heap.size w).alloc (Nat.le_refl _) (.cells #[.slice A p.code.length c, .int .i64 p.size, .slice D p.data.length d] 26)))
  have c0 : (w.alloc (.cells #[.slice A p.code.length c, .int .i64 p.size, .slice D p.data.length d] 26)).cell? ⟨w.heap.size, 0, none⟩ = some (.slice A p.code.length c) := by go_simp
  have e1 : (w.alloc (.cells #[.slice A p.code.length c, .int .i64 p.size, .slice D p.data.length d] 26)).cell? ⟨w.heap.size, 1, none⟩ = some (.int .i64 p.size) := by go_simp
  have e2 : (w.alloc (.cells #[.slice A p.code.length c, .int .i64 p.size, .slice D p.data.length d] 26)).cell? ⟨w.heap.size, 2, none⟩ = some (.slice D p.data.length d) := by go_simp
  have HFF := Lib.hid f
  clear r hT f
  have HF := Lib.hid hf
  have HRZ := Lib.hid hr
  clear hf hr
  go_enter Tryd.func11, Tryd.ntmps11
  go_wp2_with fail
  generalize (w.alloc (.cells #[.slice A p.code.length c, .int .i64 p.size, .slice D p.data.length d] 26)) = W at *
  have HZ := Lib.hid (fun (x : World) (h : Kept W x) => HW.out.trans (Below.mono h (Nat.le_of_lt hB)))
  have C0 := Lib.hid (fun (x : World) (h : Kept W x) => h.cell hB c0)
  have C1 := Lib.hid (fun (x : World) (h : Kept W x) => h.cell hB e1)
  have C2 := Lib.hid (fun (x : World) (h : Kept W x) => h.cell hB e2)
  have PV := Lib.hid (fun (x : World) (h : Kept W x) => (HP.out.below h).more h.size)
  have TV := Lib.hid (fun (x : World) (h : Kept W x) => HT0.out.below h)
  clear c0 e1 e2
  refine (CA.out _ HT0.out).mono ?_; rintro e w1 ⟨rfl, hb1⟩
  have k1 : Kept W w1 := (Kept.refl _).to hb1
  clear hb1
  have d0 := C0.out _ k1
  have d1 := C1.out _ k1
  have d2 := C2.out _ k1
  go_wp2_with fail
  refine (few_any A D p.code.length c p.data.length d p.size _ hn63 hd63).mono ?_; rintro e w2 ⟨rfl, hb2⟩
  have k2 := k1.to hb2
  clear hb2 d0 d1 d2
  have d0 := C0.out _ k2
  have d1 := C1.out _ k2
  have d2 := C2.out _ k2
  rw [HF.out]
  go_wp2_with fail
  refine (refRight_any A c p.size D p.data.length d p.code _ (PV.out _ k2).code u3 u4).mono ?_; rintro e w3 ⟨rfl, hb3⟩
  have k3 := k2.to hb3
  clear hb3 d0 d1 d2
  have d0 := C0.out _ k3
  have d1 := C1.out _ k3
  have d2 := C2.out _ k3
  rw [HRZ.out]
  go_wp2_with fail
  refine (refRight_any A c p.size D p.data.length d p.code _ (PV.out _ k3).code u3 u4).mono ?_; rintro e w4 ⟨rfl, hb4⟩
  have k4 := k3.to hb4
  clear hb4 d0 d1 d2
  have d0 := C0.out _ k4
  have d1 := C1.out _ k4
  have d2 := C2.out _ k4
  rw [HRZ.out]
  go_wp2_with fail
  refine (CX.out _ (TV.out _ k4) (PV.out _ k4)).mono ?_; rintro e w5 ⟨rfl, hb5⟩
  have k5 := k4.to hb5
  clear hb5 d0 d1 d2
  go_wp2_with fail
  go_ret
  exact ⟨by first | rfl | simp, HZ.out _ k5⟩

set_option maxHeartbeats 4000000 in
theorem showLines_in {A D : Option Addr} {c d : Nat} {p : Prog} {w : World} (hT : TabsS w) (r : ProgV w w.heap.size (.slice A p.code.length c) (.slice D p.data.length d) p) (f : p.Fits) (hf : fewB p.code.length p.data.length = true) (hr : rightZ p.code p.size p.data.length = true) :
    Calls Tryd.prog 11 #[.agg #[.slice A p.code.length c, .int .i64 p.size, .slice D p.data.length d]] w fun e w' => e = .returned (.bool true) ∧ Below w.heap.size w w' := by
  have hright : p.right = true := by rw [right_prog]; exact hr
  obtain ⟨h6, h5⟩ : p.code.length ≤ 200 ∧ p.data.length ≤ 500 := by unfold fewB at hf; exact of_decide_eq_true hf
  have htx : textS p = showT p := if_pos hright
  have CX := Lib.hid (fun y (hy : TabsS y) (hp : ProgV y y.heap.size (.slice A p.code.length c) (.slice D p.data.length d) p) => (by
    have h := showText_any A D c d p y hy hp f (fun _ => ⟨by omega, by omega⟩)
    rw [htx] at h
    exact h : Calls Tryd.prog 24 #[.agg #[.slice A p.code.length c, .int .i64 p.size, .slice D p.data.length d]] y fun e w' => e = .returned (.string (txt (showT p))) ∧ Below y.heap.size y w'))
  have hcnt := cnt_showT hright
  have hlen : (showT p).length ≤ 20 + 18 * p.data.length + 41 * p.code.length := txtC_len hright f.2.2 _ (Nat.le_refl _)
  obtain ⟨l0, hl0⟩ := showT_end hright
  generalize hST : showT p = ST at *
  have hll : ST.length = l0.length + 1 := by rw [hl0]; simp
  obtain ⟨N, hN⟩ : ∃ N, N = l0.length := ⟨_, rfl⟩
  rw [← hN] at hll
  have hsz : (txt ST).size = N + 1 := by rw [txt_len, hll]
  have hcut : (txt ST).extract N (N + 1) = (⟨#[10]⟩ : ByteArray) := by
    rw [txt_cut (txt ST) N 1, txt_data, hl0, hN]
    simp
  have hix : ∀ (k : Nat) (ch : UInt8), ST[k]? = some ch → ∀ y, (Instr.index 9 (.string (txt ST)) (.int .i64 (k : Int))).run Tryd.prog y = .ok (.int .u8 (ch.toNat : Int)) y := fun k ch h y => index_txt h y
  have hN2 : N ≤ 20000 := by omega
  have HST := Lib.hid hll
  have HIX := Lib.hid hix
  have HCNT := Lib.hid hcnt
  have q10 : ((⟨#[10]⟩ : ByteArray).toList == [10]) = true := by rw [Lib.toList_data]; rfl
  have HN2 := Lib.hid hN2
  have H5 := Lib.hid h5
  have H6 := Lib.hid h6
  generalize txt ST = X at *
  have cA := fun y (hy : TabsS y) => alive9_any y hy
  have CA := Lib.hid cA
  clear cA
  obtain ⟨u1, u2⟩ := r.code.cap
  obtain ⟨u3, u4⟩ := r.data.cap
  have hn63 : p.code.length ≤ 9223372036854775807 := by omega
  have hd63 : p.data.length ≤ 9223372036854775807 := by omega
  have hB : w.heap.size < (w.alloc (.cells #[.slice A p.code.length c, .int .i64 p.size, .slice D p.data.length d] 26)).heap.size := by simp
  have HP := Lib.hid ((r.alloc (Nat.le_refl _) (.cells #[.slice A p.code.length c, .int .i64 p.size, .slice D p.data.length d] 26)).more (B' := (w.alloc (.cells #[.slice A p.code.length c, .int .i64 p.size, .slice D p.data.length d] 26)).heap.size) (Nat.le_of_lt hB))
  have HW := Lib.hid ((Below.refl w.heap.size w).alloc (Nat.le_refl _) (.cells #[.slice A p.code.length c, .int .i64 p.size, .slice D p.data.length d] 26))
  have HT0 := Lib.hid (hT.below ((Below.refl w.heap.size w).alloc (Nat.le_refl _) (.cells #[.slice A p.code.length c, .int .i64 p.size, .slice D p.data.length d] 26)))
  have c0 : (w.alloc (.cells #[.slice A p.code.length c, .int .i64 p.size, .slice D p.data.length d] 26)).cell? ⟨w.heap.size, 0, none⟩ = some (.slice A p.code.length c) := by go_simp
  have e1 : (w.alloc (.cells #[.slice A p.code.length c, .int .i64 p.size, .slice D p.data.length d] 26)).cell? ⟨w.heap.size, 1, none⟩ = some (.int .i64 p.size) := by go_simp
  have e2 : (w.alloc (.cells #[.slice A p.code.length c, .int .i64 p.size, .slice D p.data.length d] 26)).cell? ⟨w.heap.size, 2, none⟩ = some (.slice D p.data.length d) := by go_simp
  have HFF := Lib.hid f
  clear r hT f
  have HF := Lib.hid hf
  have HRZ := Lib.hid hr
  clear hf hr hright htx hcnt hlen hl0 hST hll hix hN hN2
  go_enter Tryd.func11, Tryd.ntmps11
  go_wp2_with fail
  generalize (w.alloc (.cells #[.slice A p.code.length c, .int .i64 p.size, .slice D p.data.length d] 26)) = W at *
  have HZ := Lib.hid (fun (x : World) (h : Kept W x) => HW.out.trans (Below.mono h (Nat.le_of_lt hB)))
  have C0 := Lib.hid (fun (x : World) (h : Kept W x) => h.cell hB c0)
  have C1 := Lib.hid (fun (x : World) (h : Kept W x) => h.cell hB e1)
  have C2 := Lib.hid (fun (x : World) (h : Kept W x) => h.cell hB e2)
  have PV := Lib.hid (fun (x : World) (h : Kept W x) => (HP.out.below h).more h.size)
  have TV := Lib.hid (fun (x : World) (h : Kept W x) => HT0.out.below h)
  clear c0 e1 e2
  refine (CA.out _ HT0.out).mono ?_; rintro e w1 ⟨rfl, hb1⟩
  have k1 : Kept W w1 := (Kept.refl _).to hb1
  clear hb1
  have d0 := C0.out _ k1
  have d1 := C1.out _ k1
  have d2 := C2.out _ k1
  go_wp2_with fail
  refine (few_any A D p.code.length c p.data.length d p.size _ hn63 hd63).mono ?_; rintro e w2 ⟨rfl, hb2⟩
  have k2 := k1.to hb2
  clear hb2 d0 d1 d2
  have d0 := C0.out _ k2
  have d1 := C1.out _ k2
  have d2 := C2.out _ k2
  rw [HF.out]
  go_wp2_with fail
  refine (refRight_any A c p.size D p.data.length d p.code _ (PV.out _ k2).code u3 u4).mono ?_; rintro e w3 ⟨rfl, hb3⟩
  have k3 := k2.to hb3
  clear hb3 d0 d1 d2
  have d0 := C0.out _ k3
  have d1 := C1.out _ k3
  have d2 := C2.out _ k3
  rw [HRZ.out]
  go_wp2_with fail
  refine (CX.out _ (TV.out _ k3) (PV.out _ k3)).mono ?_; rintro e w4 ⟨rfl, hb4⟩
  have k4 := k3.to hb4
  clear hb4 d0 d1 d2
  have hcut2 := hcut
  have HSZ := Lib.hid hsz
  have HCUT := Lib.hid hcut
  clear hcut hcut2
  go_wp2_with fail
  have K4 := Lib.hid k4
  go_loopw [5, 6] (fun n q wr => ∃ k : Nat, k ≤ N + 1 ∧ q = .int .i64 k ∧ n = .int .i64 (cnt10 (ST.take k) : Nat) ∧ wr = w4) (fun _ q _ => N + 1 - (intOf q).toNat)
  case atStart => exact ⟨0, Nat.zero_le _, rfl, rfl, rfl⟩
  case round =>
    obtain ⟨k, hk, rfl, rfl, rfl⟩ := hrel
    have hn2 := HN2.out
    by_cases hkn : k < N + 1
    · obtain ⟨ch, hch⟩ : ∃ ch, ST[k]? = some ch := ⟨_, List.getElem?_eq_getElem (by rw [HST.out]; exact hkn)⟩
      have ix := HIX.out k ch hch
      have hct := cnt_take hch
      have hcl := cnt_le (ST.take k)
      rw [List.length_take] at hcl
      have HKN := Lib.hid hkn
      have k0 : (0 : Int) ≤ k := by omega
      have k1' : (k : Int) < (N : Int) + 1 := by omega
      have nd : decide ((k : Int) < (N : Int) + 1) = true := decide_eq_true k1'
      have nd2 : decide (k < N + 1) = true := decide_eq_true hkn
      obtain ⟨CN, hCN⟩ : ∃ CN, CN = cnt10 (ST.take k) := ⟨_, rfl⟩
      rw [← hCN] at hct hcl ⊢
      have hcn2 : (CN : Int) ≤ 20001 := by omega
      by_cases h10 : ch = 10
      · rw [if_pos h10] at hct
        have HCT := Lib.hid hct
        have h10i : ((ch.toNat : Int) == 10) = true := by subst h10; rfl
        generalize (ch.toNat : Int) = C at *
        clear hct hch hCN hcl h10 hk hkn
        go_wp2_with fail
        go_roundw
        case rel => exact ⟨k + 1, HKN.out, by go_num, by rw [HCT.out]; go_num, by first | rfl | trivial⟩
        case measure => have := HKN.out; simp only [intOf]; omega
      · rw [if_neg h10] at hct
        have HCT := Lib.hid hct
        have h10i : ((ch.toNat : Int) == 10) = false := by
          simp only [beq_eq_false_iff_ne, ne_eq]
          intro e
          exact h10 (UInt8.toNat_inj.1 (by show ch.toNat = 10; omega))
        generalize (ch.toNat : Int) = C at *
        clear hct hch hCN hcl h10 hk hkn
        go_wp2_with fail
        go_roundw
        case rel => exact ⟨k + 1, HKN.out, by go_num, by rw [HCT.out]; rfl, by first | rfl | trivial⟩
        case measure => have := HKN.out; simp only [intOf]; omega
    · have hkk : k = N + 1 := by omega
      subst hkk
      have htk : ST.take (N + 1) = ST := List.take_of_length_le (by rw [HST.out]; exact Nat.le_refl _)
      rw [htk, HCNT.out]
      have d0 := C0.out _ K4.out
      have d2 := C2.out _ K4.out
      have h55 := H5.out
      have h66 := H6.out
      have nd : decide ((N : Int) + 1 < (N : Int) + 1) = false := decide_eq_false (by omega)
      have nd2 : decide (N + 1 < N + 1) = false := decide_eq_false (by omega)
      have hct := HCUT.out
      clear htk hk hkn
      go_wp2_with fail
      go_ret
      exact ⟨by first | rfl | simp, HZ.out _ K4.out⟩
theorem showLines_walk (A : Option Addr) (c : Nat) (D : Option Addr) (d : Nat) (p : Prog) (w : World) (hT : TabsS w) (f : p.Fits) (r : ProgV w w.heap.size (.slice A p.code.length c) (.slice D p.data.length d) p) :
    Calls Tryd.prog 11 #[.agg #[.slice A p.code.length c, .int .i64 p.size, .slice D p.data.length d]] w fun e w' => e = .returned (.bool true) ∧ Below w.heap.size w w' := by
  cases hf : fewB p.code.length p.data.length
  · cases hr : rightZ p.code p.size p.data.length
    · exact showLines_no2 hT r f hf hr
    · exact showLines_no1 hT r f hf hr
  · cases hr : rightZ p.code p.size p.data.length
    · exact showLines_no3 hT r f hf hr
    · exact showLines_in hT r f hf hr
end Go.Proofs.YtfdegdbknponkaaDoor.Words

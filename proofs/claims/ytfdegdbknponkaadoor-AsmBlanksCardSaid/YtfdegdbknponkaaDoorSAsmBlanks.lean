/- The walk of AsmBlanks: blanks and remarks at lines' ends, and empty lines, turn nothing. -/
import Derived.Test.YtfdegdbknponkaaDoorSAsmBlaMath
import Derived.Test.YtfdegdbknponkaaDoorG10
import Derived.Test.YtfdegdbknponkaaDoorG09
import Derived.Test.YtfdegdbknponkaaDoorG08
import Derived.Laws.BitsLemmas
namespace Go.Proofs.YtfdegdbknponkaaDoor.Words
set_option maxRecDepth 100000
open Go.RowKit Go.Shelf Go.Lib
set_option linter.unusedVariables false
set_option linter.unusedSimpArgs false

theorem and1023_i64 (n : Int) : bits .and .i64 n 1023 = n % 1024 := by
  have h : (BitVec.ofInt 64 1023).toNat = 2 ^ 10 - 1 := by decide
  have key : (BitVec.ofInt 64 n &&& BitVec.ofInt 64 1023).toNat = (n % ((2 ^ 64 : Nat) : Int)).toNat % 2 ^ 10 := by
    rw [BitVec.toNat_and, BitVec.toNat_ofInt, h, Nat.and_two_pow_sub_one_eq_mod]
  show IntKind.i64.wrap ((BitVec.ofInt 64 n &&& BitVec.ofInt 64 1023).toNat : Nat) = n % 1024
  rw [key, IntKind.wrap_i64]
  omega
def padK (z : Int) : Nat := (z % 1024 % 5).toNat
theorem padK_lt (z : Int) : padK z < 5 := by unfold padK; omega
def endL : List Value := [.string ⟨#[10]⟩, .string ⟨#[32, 9, 10]⟩, .string ⟨#[32, 35, 32, 114, 101, 109, 97, 114, 107, 32, 40, 10]⟩, .string ⟨#[13, 10]⟩, .string ⟨#[10, 10, 32, 32, 10]⟩]
theorem endL_at {k : Nat} (h : k < 5) : endL[k]? = some (.string (txt (pcText (endPcs k)))) := by
  match k, h with
  | 0, _ => rfl
  | 1, _ => rfl
  | 2, _ => rfl
  | 3, _ => rfl
  | 4, _ => rfl
theorem ownProgB {w : World} {base : Nat} {vc vd : Value} {p : Prog} (hc : w.ownsRow base 38 5 vc p.code.length (codeCells p.code)) (hd : w.ownsRow base 5 1 vd p.data.length (p.data.map (Value.int .u8))) : ProgV w w.heap.size vc vd p := ⟨Row.of_own hc, Row.of_own hd⟩


set_option maxHeartbeats 2000000 in
theorem asmBlanks_no1 {A D A1 : Option Addr} {c d c1 m : Nat} {p : Prog} {zs : List Int} {w : World} (hT : TabsA w) (r : ProgV w w.heap.size (.slice A p.code.length c) (.slice D p.data.length d) p) (f : p.Fits) (r1 : Row w w.heap.size 1 (.slice A1 m c1) m (zs.map (Value.int .i64))) (hf : fewB p.code.length p.data.length = false) :
    Calls Tryd.prog 5 #[.agg #[.slice A p.code.length c, .int .i64 p.size, .slice D p.data.length d], .slice A1 m c1] w fun e w' => e = .returned (.bool true) ∧ Below w.heap.size w w' := by
  have cA := fun y (hy : TabsA y) => alive8_any y hy
  have CA := Lib.hid cA
  clear cA
  obtain ⟨u1, u2⟩ := r.code.cap
  obtain ⟨u3, u4⟩ := r.data.cap
  obtain ⟨u5, u6⟩ := r1.cap
  have hm63 : m ≤ 9223372036854775807 := by omega
  have hn63 : p.code.length ≤ 9223372036854775807 := by omega
  have hd63 : p.data.length ≤ 9223372036854775807 := by omega
  have hB : w.heap.size < (w.alloc (.cells #[.slice A p.code.length c, .int .i64 p.size, .slice D p.data.length d] 26)).heap.size := by simp
  have HP := Lib.hid ((r.alloc (Nat.le_refl _) (.cells #[.slice A p.code.length c, .int .i64 p.size, .slice D p.data.length d] 26)).more (B' := (w.alloc (.cells #[.slice A p.code.length c, .int .i64 p.size, .slice D p.data.length d] 26)).heap.size) (Nat.le_of_lt hB))
  have HR := Lib.hid ((r1.alloc (Nat.le_refl _) (.cells #[.slice A p.code.length c, .int .i64 p.size, .slice D p.data.length d] 26)).more (B' := (w.alloc (.cells #[.slice A p.code.length c, .int .i64 p.size, .slice D p.data.length d] 26)).heap.size) (Nat.le_of_lt hB))
  have HW := Lib.hid ((Below.refl w.heap.size w).alloc (Nat.le_refl _) (.cells #[.slice A p.code.length c, .int .i64 p.size, .slice D p.data.length d] 26))
  have HT0 := Lib.hid (hT.below ((Below.refl w.heap.size w).alloc (Nat.le_refl _) (.cells #[.slice A p.code.length c, .int .i64 p.size, .slice D p.data.length d] 26)))
  have c0 : (w.alloc (.cells #[.slice A p.code.length c, .int .i64 p.size, .slice D p.data.length d] 26)).cell? ⟨w.heap.size, 0, none⟩ = some (.slice A p.code.length c) := by go_simp
  have e1 : (w.alloc (.cells #[.slice A p.code.length c, .int .i64 p.size, .slice D p.data.length d] 26)).cell? ⟨w.heap.size, 1, none⟩ = some (.int .i64 p.size) := by go_simp
  have e2 : (w.alloc (.cells #[.slice A p.code.length c, .int .i64 p.size, .slice D p.data.length d] 26)).cell? ⟨w.heap.size, 2, none⟩ = some (.slice D p.data.length d) := by go_simp
  clear r r1 hT
  have HF := Lib.hid hf
  clear hf
  go_enter Tryd.func5, Tryd.ntmps5
  go_wp2_with fail
  generalize (w.alloc (.cells #[.slice A p.code.length c, .int .i64 p.size, .slice D p.data.length d] 26)) = W at *
  have HZ := Lib.hid (fun (x : World) (h : Kept W x) => HW.out.trans (Below.mono h (Nat.le_of_lt hB)))
  have C0 := Lib.hid (fun (x : World) (h : Kept W x) => h.cell hB c0)
  have C1 := Lib.hid (fun (x : World) (h : Kept W x) => h.cell hB e1)
  have C2 := Lib.hid (fun (x : World) (h : Kept W x) => h.cell hB e2)
  have PV := Lib.hid (fun (x : World) (h : Kept W x) => (HP.out.below h).more h.size)
  have RV := Lib.hid (fun (x : World) (h : Kept W x) => (HR.out.below h).more h.size)
  clear c0 e1 e2
  refine (CA.out _ HT0.out).mono ?_; rintro e w1 ⟨rfl, hb1⟩
  have k1 : Kept W w1 := (Kept.refl _).to hb1
  have TV := Lib.hid (fun (x : World) (h : Kept W x) => HT0.out.below h)
  clear hb1
  have d0 := C0.out _ k1
  have d1 := C1.out _ k1
  have d2 := C2.out _ k1
  go_wp2_with fail
  refine (few_any A D p.code.length c p.data.length d p.size _ hn63 hd63).mono ?_; rintro e w2 ⟨rfl, hb2⟩
  have k2 := k1.to hb2
  clear hb2 d0 d1 d2
  have d0 := C0.out _ k2
  have d1 := C1.out _ k2
  have d2 := C2.out _ k2
  rw [HF.out]
  go_wp2_with fail
  go_ret
  exact ⟨rfl, HZ.out _ (by first | exact k2 | exact k3)⟩


set_option maxHeartbeats 2000000 in
theorem asmBlanks_no2 {A D A1 : Option Addr} {c d c1 m : Nat} {p : Prog} {zs : List Int} {w : World} (hT : TabsA w) (r : ProgV w w.heap.size (.slice A p.code.length c) (.slice D p.data.length d) p) (f : p.Fits) (r1 : Row w w.heap.size 1 (.slice A1 m c1) m (zs.map (Value.int .i64))) (hf : fewB p.code.length p.data.length = true) (h60 : 60 < p.code.length) :
    Calls Tryd.prog 5 #[.agg #[.slice A p.code.length c, .int .i64 p.size, .slice D p.data.length d], .slice A1 m c1] w fun e w' => e = .returned (.bool true) ∧ Below w.heap.size w w' := by
  have cA := fun y (hy : TabsA y) => alive8_any y hy
  have CA := Lib.hid cA
  clear cA
  obtain ⟨u1, u2⟩ := r.code.cap
  obtain ⟨u3, u4⟩ := r.data.cap
  obtain ⟨u5, u6⟩ := r1.cap
  have hm63 : m ≤ 9223372036854775807 := by omega
  have hn63 : p.code.length ≤ 9223372036854775807 := by omega
  have hd63 : p.data.length ≤ 9223372036854775807 := by omega
  have hB : w.heap.size < (w.alloc (.cells #[.slice A p.code.length c, .int .i64 p.size, .slice D p.data.length d] 26)).heap.size := by simp
  have HP := Lib.hid ((r.alloc (Nat.le_refl _) (.cells #[.slice A p.code.length c, .int .i64 p.size, .slice D p.data.length d] 26)).more (B' := (w.alloc (.cells #[.slice A p.code.length c, .int .i64 p.size, .slice D p.data.length d] 26)).heap.size) (Nat.le_of_lt hB))
  have HR := Lib.hid ((r1.alloc (Nat.le_refl _) (.cells #[.slice A p.code.length c, .int .i64 p.size, .slice D p.data.length d] 26)).more (B' := (w.alloc (.cells #[.slice A p.code.length c, .int .i64 p.size, .slice D p.data.length d] 26)).heap.size) (Nat.le_of_lt hB))
  have HW := Lib.hid ((Below.refl w.heap.size w).alloc (Nat.le_refl _) (.cells #[.slice A p.code.length c, .int .i64 p.size, .slice D p.data.length d] 26))
  have HT0 := Lib.hid (hT.below ((Below.refl w.heap.size w).alloc (Nat.le_refl _) (.cells #[.slice A p.code.length c, .int .i64 p.size, .slice D p.data.length d] 26)))
  have c0 : (w.alloc (.cells #[.slice A p.code.length c, .int .i64 p.size, .slice D p.data.length d] 26)).cell? ⟨w.heap.size, 0, none⟩ = some (.slice A p.code.length c) := by go_simp
  have e1 : (w.alloc (.cells #[.slice A p.code.length c, .int .i64 p.size, .slice D p.data.length d] 26)).cell? ⟨w.heap.size, 1, none⟩ = some (.int .i64 p.size) := by go_simp
  have e2 : (w.alloc (.cells #[.slice A p.code.length c, .int .i64 p.size, .slice D p.data.length d] 26)).cell? ⟨w.heap.size, 2, none⟩ = some (.slice D p.data.length d) := by go_simp
  clear r r1 hT
  have HF := Lib.hid hf
  clear hf
  go_enter Tryd.func5, Tryd.ntmps5
  go_wp2_with fail
  generalize (w.alloc (.cells #[.slice A p.code.length c, .int .i64 p.size, .slice D p.data.length d] 26)) = W at *
  have HZ := Lib.hid (fun (x : World) (h : Kept W x) => HW.out.trans (Below.mono h (Nat.le_of_lt hB)))
  have C0 := Lib.hid (fun (x : World) (h : Kept W x) => h.cell hB c0)
  have C1 := Lib.hid (fun (x : World) (h : Kept W x) => h.cell hB e1)
  have C2 := Lib.hid (fun (x : World) (h : Kept W x) => h.cell hB e2)
  have PV := Lib.hid (fun (x : World) (h : Kept W x) => (HP.out.below h).more h.size)
  have RV := Lib.hid (fun (x : World) (h : Kept W x) => (HR.out.below h).more h.size)
  clear c0 e1 e2
  refine (CA.out _ HT0.out).mono ?_; rintro e w1 ⟨rfl, hb1⟩
  have k1 : Kept W w1 := (Kept.refl _).to hb1
  have TV := Lib.hid (fun (x : World) (h : Kept W x) => HT0.out.below h)
  clear hb1
  have d0 := C0.out _ k1
  have d1 := C1.out _ k1
  have d2 := C2.out _ k1
  go_wp2_with fail
  refine (few_any A D p.code.length c p.data.length d p.size _ hn63 hd63).mono ?_; rintro e w2 ⟨rfl, hb2⟩
  have k2 := k1.to hb2
  clear hb2 d0 d1 d2
  have d0 := C0.out _ k2
  have d1 := C1.out _ k2
  have d2 := C2.out _ k2
  rw [HF.out]
  have g1 : decide (60 < (p.code.length : Int)) = true := decide_eq_true (by omega)
  have g1' : decide (60 < p.code.length) = true := decide_eq_true (by omega)
  go_wp2_with fail
  go_ret
  exact ⟨rfl, HZ.out _ (by first | exact k2 | exact k3)⟩


set_option maxHeartbeats 2000000 in
theorem asmBlanks_no3 {A D A1 : Option Addr} {c d c1 m : Nat} {p : Prog} {zs : List Int} {w : World} (hT : TabsA w) (r : ProgV w w.heap.size (.slice A p.code.length c) (.slice D p.data.length d) p) (f : p.Fits) (r1 : Row w w.heap.size 1 (.slice A1 m c1) m (zs.map (Value.int .i64))) (hf : fewB p.code.length p.data.length = true) (h60 : p.code.length ≤ 60) (hr : rightZ p.code p.size p.data.length = false) :
    Calls Tryd.prog 5 #[.agg #[.slice A p.code.length c, .int .i64 p.size, .slice D p.data.length d], .slice A1 m c1] w fun e w' => e = .returned (.bool true) ∧ Below w.heap.size w w' := by
  have cA := fun y (hy : TabsA y) => alive8_any y hy
  have CA := Lib.hid cA
  clear cA
  obtain ⟨u1, u2⟩ := r.code.cap
  obtain ⟨u3, u4⟩ := r.data.cap
  obtain ⟨u5, u6⟩ := r1.cap
  have hm63 : m ≤ 9223372036854775807 := by omega
  have hn63 : p.code.length ≤ 9223372036854775807 := by omega
  have hd63 : p.data.length ≤ 9223372036854775807 := by omega
  have hB : w.heap.size < (w.alloc (.cells #[.slice A p.code.length c, .int .i64 p.size, .slice D p.data.length d] 26)).heap.size := by simp
  have HP := Lib.hid ((r.alloc (Nat.le_refl _) (.cells #[.slice A p.code.length c, .int .i64 p.size, .slice D p.data.length d] 26)).more (B' := (w.alloc (.cells #[.slice A p.code.length c, .int .i64 p.size, .slice D p.data.length d] 26)).heap.size) (Nat.le_of_lt hB))
  have HR := Lib.hid ((r1.alloc (Nat.le_refl _) (.cells #[.slice A p.code.length c, .int .i64 p.size, .slice D p.data.length d] 26)).more (B' := (w.alloc (.cells #[.slice A p.code.length c, .int .i64 p.size, .slice D p.data.length d] 26)).heap.size) (Nat.le_of_lt hB))
  have HW := Lib.hid ((Below.refl w.heap.size w).alloc (Nat.le_refl _) (.cells #[.slice A p.code.length c, .int .i64 p.size, .slice D p.data.length d] 26))
  have HT0 := Lib.hid (hT.below ((Below.refl w.heap.size w).alloc (Nat.le_refl _) (.cells #[.slice A p.code.length c, .int .i64 p.size, .slice D p.data.length d] 26)))
  have c0 : (w.alloc (.cells #[.slice A p.code.length c, .int .i64 p.size, .slice D p.data.length d] 26)).cell? ⟨w.heap.size, 0, none⟩ = some (.slice A p.code.length c) := by go_simp
  have e1 : (w.alloc (.cells #[.slice A p.code.length c, .int .i64 p.size, .slice D p.data.length d] 26)).cell? ⟨w.heap.size, 1, none⟩ = some (.int .i64 p.size) := by go_simp
  have e2 : (w.alloc (.cells #[.slice A p.code.length c, .int .i64 p.size, .slice D p.data.length d] 26)).cell? ⟨w.heap.size, 2, none⟩ = some (.slice D p.data.length d) := by go_simp
  clear r r1 hT
  have HF := Lib.hid hf
  have HRZ := Lib.hid hr
  clear hf hr
  go_enter Tryd.func5, Tryd.ntmps5
  go_wp2_with fail
  generalize (w.alloc (.cells #[.slice A p.code.length c, .int .i64 p.size, .slice D p.data.length d] 26)) = W at *
  have HZ := Lib.hid (fun (x : World) (h : Kept W x) => HW.out.trans (Below.mono h (Nat.le_of_lt hB)))
  have C0 := Lib.hid (fun (x : World) (h : Kept W x) => h.cell hB c0)
  have C1 := Lib.hid (fun (x : World) (h : Kept W x) => h.cell hB e1)
  have C2 := Lib.hid (fun (x : World) (h : Kept W x) => h.cell hB e2)
  have PV := Lib.hid (fun (x : World) (h : Kept W x) => (HP.out.below h).more h.size)
  have RV := Lib.hid (fun (x : World) (h : Kept W x) => (HR.out.below h).more h.size)
  clear c0 e1 e2
  refine (CA.out _ HT0.out).mono ?_; rintro e w1 ⟨rfl, hb1⟩
  have k1 : Kept W w1 := (Kept.refl _).to hb1
  have TV := Lib.hid (fun (x : World) (h : Kept W x) => HT0.out.below h)
  clear hb1
  have d0 := C0.out _ k1
  have d1 := C1.out _ k1
  have d2 := C2.out _ k1
  go_wp2_with fail
  refine (few_any A D p.code.length c p.data.length d p.size _ hn63 hd63).mono ?_; rintro e w2 ⟨rfl, hb2⟩
  have k2 := k1.to hb2
  clear hb2 d0 d1 d2
  have d0 := C0.out _ k2
  have d1 := C1.out _ k2
  have d2 := C2.out _ k2
  rw [HF.out]
  have g1 : decide (60 < (p.code.length : Int)) = false := decide_eq_false (by omega)
  have g1' : decide (60 < p.code.length) = false := decide_eq_false (by omega)
  go_wp2_with fail
  refine (refRight_any A c p.size D p.data.length d p.code _ (PV.out _ k2).code u3 u4).mono ?_; rintro e w3 ⟨rfl, hb3⟩
  have k3 := k2.to hb3
  have hz3 : w.heap.size < w3.heap.size := Nat.lt_of_lt_of_le hB k3.size
  clear hb3 d0 d1 d2
  have d0 := C0.out _ k3
  have d1 := C1.out _ k3
  have d2 := C2.out _ k3
  rw [HRZ.out]
  go_wp2_with fail
  go_ret
  exact ⟨rfl, HZ.out _ (by first | exact k2 | exact k3)⟩


set_option maxHeartbeats 2000000 in
theorem asmBlanks_no4 {A D A1 : Option Addr} {c d c1 m : Nat} {p : Prog} {zs : List Int} {w : World} (hT : TabsA w) (r : ProgV w w.heap.size (.slice A p.code.length c) (.slice D p.data.length d) p) (f : p.Fits) (r1 : Row w w.heap.size 1 (.slice A1 m c1) m (zs.map (Value.int .i64))) (hf : fewB p.code.length p.data.length = true) (h60 : p.code.length ≤ 60) (hr : rightZ p.code p.size p.data.length = true) (hm : m < p.code.length) :
    Calls Tryd.prog 5 #[.agg #[.slice A p.code.length c, .int .i64 p.size, .slice D p.data.length d], .slice A1 m c1] w fun e w' => e = .returned (.bool true) ∧ Below w.heap.size w w' := by
  have cA := fun y (hy : TabsA y) => alive8_any y hy
  have CA := Lib.hid cA
  clear cA
  obtain ⟨u1, u2⟩ := r.code.cap
  obtain ⟨u3, u4⟩ := r.data.cap
  obtain ⟨u5, u6⟩ := r1.cap
  have hm63 : m ≤ 9223372036854775807 := by omega
  have hn63 : p.code.length ≤ 9223372036854775807 := by omega
  have hd63 : p.data.length ≤ 9223372036854775807 := by omega
  have hB : w.heap.size < (w.alloc (.cells #[.slice A p.code.length c, .int .i64 p.size, .slice D p.data.length d] 26)).heap.size := by simp
  have HP := Lib.hid ((r.alloc (Nat.le_refl _) (.cells #[.slice A p.code.length c, .int .i64 p.size, .slice D p.data.length d] 26)).more (B' := (w.alloc (.cells #[.slice A p.code.length c, .int .i64 p.size, .slice D p.data.length d] 26)).heap.size) (Nat.le_of_lt hB))
  have HR := Lib.hid ((r1.alloc (Nat.le_refl _) (.cells #[.slice A p.code.length c, .int .i64 p.size, .slice D p.data.length d] 26)).more (B' := (w.alloc (.cells #[.slice A p.code.length c, .int .i64 p.size, .slice D p.data.length d] 26)).heap.size) (Nat.le_of_lt hB))
  have HW := Lib.hid ((Below.refl w.heap.size w).alloc (Nat.le_refl _) (.cells #[.slice A p.code.length c, .int .i64 p.size, .slice D p.data.length d] 26))
  have HT0 := Lib.hid (hT.below ((Below.refl w.heap.size w).alloc (Nat.le_refl _) (.cells #[.slice A p.code.length c, .int .i64 p.size, .slice D p.data.length d] 26)))
  have c0 : (w.alloc (.cells #[.slice A p.code.length c, .int .i64 p.size, .slice D p.data.length d] 26)).cell? ⟨w.heap.size, 0, none⟩ = some (.slice A p.code.length c) := by go_simp
  have e1 : (w.alloc (.cells #[.slice A p.code.length c, .int .i64 p.size, .slice D p.data.length d] 26)).cell? ⟨w.heap.size, 1, none⟩ = some (.int .i64 p.size) := by go_simp
  have e2 : (w.alloc (.cells #[.slice A p.code.length c, .int .i64 p.size, .slice D p.data.length d] 26)).cell? ⟨w.heap.size, 2, none⟩ = some (.slice D p.data.length d) := by go_simp
  clear r r1 hT
  have HF := Lib.hid hf
  have HRZ := Lib.hid hr
  clear hf hr
  go_enter Tryd.func5, Tryd.ntmps5
  go_wp2_with fail
  generalize (w.alloc (.cells #[.slice A p.code.length c, .int .i64 p.size, .slice D p.data.length d] 26)) = W at *
  have HZ := Lib.hid (fun (x : World) (h : Kept W x) => HW.out.trans (Below.mono h (Nat.le_of_lt hB)))
  have C0 := Lib.hid (fun (x : World) (h : Kept W x) => h.cell hB c0)
  have C1 := Lib.hid (fun (x : World) (h : Kept W x) => h.cell hB e1)
  have C2 := Lib.hid (fun (x : World) (h : Kept W x) => h.cell hB e2)
  have PV := Lib.hid (fun (x : World) (h : Kept W x) => (HP.out.below h).more h.size)
  have RV := Lib.hid (fun (x : World) (h : Kept W x) => (HR.out.below h).more h.size)
  clear c0 e1 e2
  refine (CA.out _ HT0.out).mono ?_; rintro e w1 ⟨rfl, hb1⟩
  have k1 : Kept W w1 := (Kept.refl _).to hb1
  have TV := Lib.hid (fun (x : World) (h : Kept W x) => HT0.out.below h)
  clear hb1
  have d0 := C0.out _ k1
  have d1 := C1.out _ k1
  have d2 := C2.out _ k1
  go_wp2_with fail
  refine (few_any A D p.code.length c p.data.length d p.size _ hn63 hd63).mono ?_; rintro e w2 ⟨rfl, hb2⟩
  have k2 := k1.to hb2
  clear hb2 d0 d1 d2
  have d0 := C0.out _ k2
  have d1 := C1.out _ k2
  have d2 := C2.out _ k2
  rw [HF.out]
  have g1 : decide (60 < (p.code.length : Int)) = false := decide_eq_false (by omega)
  have g1' : decide (60 < p.code.length) = false := decide_eq_false (by omega)
  go_wp2_with fail
  refine (refRight_any A c p.size D p.data.length d p.code _ (PV.out _ k2).code u3 u4).mono ?_; rintro e w3 ⟨rfl, hb3⟩
  have k3 := k2.to hb3
  have hz3 : w.heap.size < w3.heap.size := Nat.lt_of_lt_of_le hB k3.size
  clear hb3 d0 d1 d2
  have d0 := C0.out _ k3
  have d1 := C1.out _ k3
  have d2 := C2.out _ k3
  rw [HRZ.out]
  have g2 : decide ((m : Int) < (p.code.length : Int)) = true := decide_eq_true (by omega)
  have g2' : decide (m < p.code.length) = true := decide_eq_true (by omega)
  go_wp2_with fail
  go_ret
  exact ⟨rfl, HZ.out _ (by first | exact k2 | exact k3)⟩


set_option maxHeartbeats 8000000 in
theorem asmBlanks_in {A D A1 : Option Addr} {c d c1 m : Nat} {p : Prog} {zs : List Int} {w : World} (hT : TabsA w) (r : ProgV w w.heap.size (.slice A p.code.length c) (.slice D p.data.length d) p) (f : p.Fits) (r1 : Row w w.heap.size 1 (.slice A1 m c1) m (zs.map (Value.int .i64))) (hz : ∀ x ∈ zs, -9223372036854775808 ≤ x ∧ x ≤ 9223372036854775807) (hf : fewB p.code.length p.data.length = true) (h60 : p.code.length ≤ 60) (hr : rightZ p.code p.size p.data.length = true) (hm : p.code.length ≤ m) :
    Calls Tryd.prog 5 #[.agg #[.slice A p.code.length c, .int .i64 p.size, .slice D p.data.length d], .slice A1 m c1] w fun e w' => e = .returned (.bool true) ∧ Below w.heap.size w w' := by
  have hright : p.right = true := by rw [right_prog]; exact hr
  have hdd := f.2.2
  have h5 : p.data.length ≤ 500 := by unfold fewB at hf; exact (of_decide_eq_true hf).2
  obtain ⟨⟨hs1, hs2, hs3, hs4, hs5⟩, hall, _⟩ := right_parts hright
  obtain ⟨kk, hkk⟩ : ∃ kk : Nat → Nat, kk = fun j => padK (zs.getD j 0) := ⟨_, rfl⟩
  obtain ⟨k0, hk0⟩ : ∃ k0, k0 = padK (zs.getD 0 0) := ⟨_, rfl⟩
  obtain ⟨a1, a2, a3⟩ := bla_asm hright hdd h5 h60 k0 kk
  have AZ := Lib.hid a1
  have cRd := Lib.hid (fun y (hy : TabsA y) => (by have h := asmRead_any (txt (blaText p k0 kk)) y (by rw [txt_sz]; omega) hy.1 hy.2 (by rw [txt_data]; exact a2); rw [txt_data, a1] at h; exact h : Calls Tryd.prog 13 #[.string (txt (blaText p k0 kk))] y fun e w' => ReadOut (.ok p) y.heap.size e w' ∧ Below y.heap.size y w'))
  have HDL := Lib.hid (fun i (h : i ≤ p.data.length) => blaUpD_len (p := p) (by omega) hdd k0 i h)
  have HCL := Lib.hid (fun i (h : i ≤ p.code.length) => blaUpC_len hright hdd k0 kk i h)
  have HDS := Lib.hid (fun i (h : i < p.data.length) => blaUpD_succ (p := p) (k0 := k0) h)
  have HCS := Lib.hid (fun i => blaUpC_succ p k0 kk i)
  have HTL := Lib.hid a3
  have HBYT := Lib.hid (fun i (h : i < p.data.length) => show 0 ≤ p.data.getD i 0 ∧ p.data.getD i 0 ≤ 255 by
    rw [List.getD_eq_getElem?_getD, List.getElem?_eq_getElem h]; exact hdd _ (List.getElem_mem h))
  have HINS := Lib.hid (fun i (h : i < p.code.length) => code_getD (fun i hi => List.all_eq_true.1 hall i hi) h)
  have HDD := Lib.hid hdd
  have H5 := Lib.hid h5
  have H60 := Lib.hid h60
  have HM := Lib.hid hm
  have HS1 := Lib.hid hs1
  have cS := Lib.hid (fun y => dec_any p.size y (by omega))
  have hsl := decN_len (n := p.size) (by omega)
  obtain ⟨SZ, hSZ⟩ : ∃ SZ, SZ = txt (decN p.size) := ⟨_, rfl⟩
  rw [← hSZ] at cS
  have hszl : SZ.size ≤ 12 := by rw [hSZ, txt_len]; exact hsl
  have jh : ((⟨#[115, 105, 122, 101, 32]⟩ : ByteArray) ++ SZ) ++ (⟨#[10]⟩ : ByteArray) = txt (blaUpD p k0 0) := by
    rw [hSZ, blaUpD_zero]
    unfold blaHT
    rw [show (⟨#[115, 105, 122, 101, 32]⟩ : ByteArray) = txt (sizeN ++ [32]) from rfl, show (⟨#[10]⟩ : ByteArray) = txt [10] from rfl, txt_join, txt_join]
  have uh1 : ¬ (((⟨#[115, 105, 122, 101, 32]⟩ : ByteArray)).size + SZ.size > 9223372036854775807) := by rw [show ((⟨#[115, 105, 122, 101, 32]⟩ : ByteArray)).size = 5 from rfl]; omega
  have uh2 : ¬ (((⟨#[115, 105, 122, 101, 32]⟩ : ByteArray) ++ SZ).size + ((⟨#[10]⟩ : ByteArray)).size > 9223372036854775807) := by rw [ByteArray.size_append, show ((⟨#[115, 105, 122, 101, 32]⟩ : ByteArray)).size = 5 from rfl, show ((⟨#[10]⟩ : ByteArray)).size = 1 from rfl]; omega
  have JH := Lib.hid jh
  have cA := fun y (hy : TabsA y) => alive8_any y hy
  have CA := Lib.hid cA
  clear cA
  obtain ⟨u1, u2⟩ := r.code.cap
  obtain ⟨u3, u4⟩ := r.data.cap
  obtain ⟨u5, u6⟩ := r1.cap
  have hm63 : m ≤ 9223372036854775807 := by omega
  have hn63 : p.code.length ≤ 9223372036854775807 := by omega
  have hd63 : p.data.length ≤ 9223372036854775807 := by omega
  have hB : w.heap.size < (w.alloc (.cells #[.slice A p.code.length c, .int .i64 p.size, .slice D p.data.length d] 26)).heap.size := by simp
  have HP := Lib.hid ((r.alloc (Nat.le_refl _) (.cells #[.slice A p.code.length c, .int .i64 p.size, .slice D p.data.length d] 26)).more (B' := (w.alloc (.cells #[.slice A p.code.length c, .int .i64 p.size, .slice D p.data.length d] 26)).heap.size) (Nat.le_of_lt hB))
  have HR := Lib.hid ((r1.alloc (Nat.le_refl _) (.cells #[.slice A p.code.length c, .int .i64 p.size, .slice D p.data.length d] 26)).more (B' := (w.alloc (.cells #[.slice A p.code.length c, .int .i64 p.size, .slice D p.data.length d] 26)).heap.size) (Nat.le_of_lt hB))
  have HW := Lib.hid ((Below.refl w.heap.size w).alloc (Nat.le_refl _) (.cells #[.slice A p.code.length c, .int .i64 p.size, .slice D p.data.length d] 26))
  have HT0 := Lib.hid (hT.below ((Below.refl w.heap.size w).alloc (Nat.le_refl _) (.cells #[.slice A p.code.length c, .int .i64 p.size, .slice D p.data.length d] 26)))
  have c0 : (w.alloc (.cells #[.slice A p.code.length c, .int .i64 p.size, .slice D p.data.length d] 26)).cell? ⟨w.heap.size, 0, none⟩ = some (.slice A p.code.length c) := by go_simp
  have e1 : (w.alloc (.cells #[.slice A p.code.length c, .int .i64 p.size, .slice D p.data.length d] 26)).cell? ⟨w.heap.size, 1, none⟩ = some (.int .i64 p.size) := by go_simp
  have e2 : (w.alloc (.cells #[.slice A p.code.length c, .int .i64 p.size, .slice D p.data.length d] 26)).cell? ⟨w.heap.size, 2, none⟩ = some (.slice D p.data.length d) := by go_simp
  clear r r1 hT
  have HF := Lib.hid hf
  have HRZ := Lib.hid hr
  clear hf hr hright hdd hs3 hs4 hs5 hall a1 a2 a3 hsl hSZ jh f
  go_enter Tryd.func5, Tryd.ntmps5
  go_wp2_with fail
  generalize (w.alloc (.cells #[.slice A p.code.length c, .int .i64 p.size, .slice D p.data.length d] 26)) = W at *
  have HZ := Lib.hid (fun (x : World) (h : Kept W x) => HW.out.trans (Below.mono h (Nat.le_of_lt hB)))
  have C0 := Lib.hid (fun (x : World) (h : Kept W x) => h.cell hB c0)
  have C1 := Lib.hid (fun (x : World) (h : Kept W x) => h.cell hB e1)
  have C2 := Lib.hid (fun (x : World) (h : Kept W x) => h.cell hB e2)
  have PV := Lib.hid (fun (x : World) (h : Kept W x) => (HP.out.below h).more h.size)
  have RV := Lib.hid (fun (x : World) (h : Kept W x) => (HR.out.below h).more h.size)
  clear c0 e1 e2
  refine (CA.out _ HT0.out).mono ?_; rintro e w1 ⟨rfl, hb1⟩
  have k1 : Kept W w1 := (Kept.refl _).to hb1
  have TV := Lib.hid (fun (x : World) (h : Kept W x) => HT0.out.below h)
  clear hb1
  have d0 := C0.out _ k1
  have d1 := C1.out _ k1
  have d2 := C2.out _ k1
  go_wp2_with fail
  refine (few_any A D p.code.length c p.data.length d p.size _ hn63 hd63).mono ?_; rintro e w2 ⟨rfl, hb2⟩
  have k2 := k1.to hb2
  clear hb2 d0 d1 d2
  have d0 := C0.out _ k2
  have d1 := C1.out _ k2
  have d2 := C2.out _ k2
  rw [HF.out]
  have g1 : decide (60 < (p.code.length : Int)) = false := decide_eq_false (by omega)
  have g1' : decide (60 < p.code.length) = false := decide_eq_false (by omega)
  go_wp2_with fail
  refine (refRight_any A c p.size D p.data.length d p.code _ (PV.out _ k2).code u3 u4).mono ?_; rintro e w3 ⟨rfl, hb3⟩
  have k3 := k2.to hb3
  have hz3 : w.heap.size < w3.heap.size := Nat.lt_of_lt_of_le hB k3.size
  clear hb3 d0 d1 d2
  have d0 := C0.out _ k3
  have d1 := C1.out _ k3
  have d2 := C2.out _ k3
  rw [HRZ.out]
  have g2 : decide ((m : Int) < (p.code.length : Int)) = false := decide_eq_false (by omega)
  have g2' : decide (m < p.code.length) = false := decide_eq_false (by omega)
  clear hm h60 h5 hs1 hs2
  go_wp2_with (go_at_call 20; refine (cS.out _).mono ?_; rintro e w4 ⟨rfl, rfl⟩)
  have er := row_lits w3 endL 9 (by decide)
  have kX : Kept W (w3.alloc (.cells #[.string ⟨#[10]⟩, .string ⟨#[32, 9, 10]⟩, .string ⟨#[32, 35, 32, 114, 101, 109, 97, 114, 107, 32, 40, 10]⟩, .string ⟨#[13, 10]⟩, .string ⟨#[10, 10, 32, 32, 10]⟩] 9)) := k3.alloc _
  have hgX : w3.heap.size < (w3.alloc (.cells #[.string ⟨#[10]⟩, .string ⟨#[32, 9, 10]⟩, .string ⟨#[32, 35, 32, 114, 101, 109, 97, 114, 107, 32, 40, 10]⟩, .string ⟨#[13, 10]⟩, .string ⟨#[10, 10, 32, 32, 10]⟩] 9)).heap.size := by simp
  change Row (w3.alloc (.cells #[.string ⟨#[10]⟩, .string ⟨#[32, 9, 10]⟩, .string ⟨#[32, 35, 32, 114, 101, 109, 97, 114, 107, 32, 40, 10]⟩, .string ⟨#[13, 10]⟩, .string ⟨#[10, 10, 32, 32, 10]⟩] 9)) (w3.heap.size + 1) 1 (.slice (some ⟨w3.heap.size, 0, none⟩) 5 5) 5 endL at er
  generalize (w3.alloc (.cells #[.string ⟨#[10]⟩, .string ⟨#[32, 9, 10]⟩, .string ⟨#[32, 35, 32, 114, 101, 109, 97, 114, 107, 32, 40, 10]⟩, .string ⟨#[13, 10]⟩, .string ⟨#[10, 10, 32, 32, 10]⟩] 9)) = X at *
  have EE := Lib.hid (fun (x : World) (h : Kept X x) (k : Nat) (hk : k < 5) => h.cell (o := k) hgX (by have := er.cells _ rfl k _ (endL_at hk); rwa [add_spot, Nat.zero_add] at this))
  have KX := Lib.hid kX
  clear er d0 d1 d2 k3 k2 k1 hz3
  have dB := Lib.hid hB
  clear hB
  go_loopw [7, 8] (fun q x wr => ∃ i : Nat, i ≤ p.data.length ∧ q = .string (txt (blaUpD p k0 i)) ∧ x = .int .i64 i ∧ Kept X wr) (fun _ x _ => p.data.length - (intOf x).toNat)
  case atStart => exact ⟨0, Nat.zero_le _, by rw [← JH.out], rfl, Kept.refl _⟩
  case round =>
    obtain ⟨i, hi, rfl, rfl, hK⟩ := hrel
    have kW := KX.out.trans hK
    have hPV := (PV.out _ kW).data
    have d2 := C2.out _ kW
    by_cases hlt : i < p.data.length
    · obtain ⟨g, o, rfl, hg, _⟩ := hPV.at_ (by omega)
      have hb := hPV.num i hlt
      have hRV := RV.out _ kW
      have hm1 : m ≠ 0 := by have := HM.out; have := HS1.out; omega
      obtain ⟨g1, o1, rfl, hg1, _⟩ := hRV.at_ hm1
      have hp := hRV.num 0 (by omega)
      rw [Nat.add_zero] at hp
      have hkz : k0 < 5 := by rw [hk0]; exact padK_lt _
      have hE := EE.out _ hK k0 hkz
      obtain ⟨z, hz0⟩ : ∃ z, z = zs.getD 0 0 := ⟨_, rfl⟩
      rw [← hz0] at hp hk0
      obtain ⟨a, ha⟩ : ∃ a : Nat, (a : Int) = z % 1024 := ⟨(z % 1024).toNat, by omega⟩
      have hbit : bits .and .i64 z 1023 = (a : Int) := by rw [and1023_i64]; exact ha.symm
      have hrem : Int.tmod (a : Int) 5 = (k0 : Int) := by rw [hk0]; unfold padK; rw [← ha, Int.tmod_eq_emod_of_nonneg (by omega)]; omega
      have hrem2 : (a : Int) % 5 = (k0 : Int) := by rw [hk0]; unfold padK; rw [← ha]; omega
      have ha1 : (a : Int) < 1024 := by omega
      have hk5 : (k0 : Int) < 5 := by omega
      have hk00 : (0 : Int) ≤ k0 := by omega
      obtain ⟨x, hx⟩ : ∃ x, x = p.data.getD i 0 := ⟨_, rfl⟩
      have hbr := HBYT.out i hlt
      rw [← hx] at hb hbr
      obtain ⟨hx0, hx1⟩ := hbr
      have hdl := decN_len (n := x) (by omega)
      have cDx := fun y => dec_any x y (by omega)
      obtain ⟨DX, hDX⟩ : ∃ D, D = txt (decN x) := ⟨_, rfl⟩
      rw [← hDX] at cDx
      have hDs : DX.size ≤ 12 := by rw [hDX, txt_len]; exact hdl
      obtain ⟨S, hS⟩ : ∃ S, S = txt (blaUpD p k0 i) := ⟨_, rfl⟩
      have hSs : S.size ≤ 15020 := by rw [hS, txt_len]; have := HDL.out i hi; have := H5.out; omega
      obtain ⟨E, hEE⟩ : ∃ E, E = txt (pcText (endPcs k0)) := ⟨_, rfl⟩
      rw [← hEE] at hE
      have hEs : E.size ≤ 12 := by rw [hEE, txt_len]; exact endPcs_len k0
      have hj : ((S ++ (⟨#[98, 121, 116, 101, 32]⟩ : ByteArray)) ++ DX) ++ E = txt (blaUpD p k0 (i + 1)) := by
        rw [HDS.out i hlt, ← hx, hS, hDX, hEE]
        unfold blaDT
        rw [show (⟨#[98, 121, 116, 101, 32]⟩ : ByteArray) = txt (byteN ++ [32]) from rfl, txt_join, txt_join, txt_join]
        simp
      have v1 : ¬ (S.size + ((⟨#[98, 121, 116, 101, 32]⟩ : ByteArray)).size > 9223372036854775807) := by rw [show ((⟨#[98, 121, 116, 101, 32]⟩ : ByteArray)).size = 5 from rfl]; omega
      have v2 : ¬ ((S ++ (⟨#[98, 121, 116, 101, 32]⟩ : ByteArray)).size + DX.size > 9223372036854775807) := by rw [ByteArray.size_append, show ((⟨#[98, 121, 116, 101, 32]⟩ : ByteArray)).size = 5 from rfl]; omega
      have v3 : ¬ (((S ++ (⟨#[98, 121, 116, 101, 32]⟩ : ByteArray)) ++ DX).size + E.size > 9223372036854775807) := by rw [ByteArray.size_append, ByteArray.size_append, show ((⟨#[98, 121, 116, 101, 32]⟩ : ByteArray)).size = 5 from rfl]; omega
      have HJ := Lib.hid hj
      have CDX := Lib.hid cDx
      have HLT := Lib.hid hlt
      have HKK := Lib.hid hK
      have n0 : (0 : Int) ≤ i := by omega
      have n1 : (i : Int) < p.data.length := by omega
      have n2 : (0 : Int) < m := by omega
      have nd : decide ((i : Int) < (p.data.length : Int)) = true := decide_eq_true n1
      have nd2 : decide (i < p.data.length) = true := decide_eq_true hlt
      rw [← hS]
      clear hPV hRV hi hlt hK hkz hdl hDX hSs hEs hEE hS hj cDx hz0 hk0 ha hg hg1 hx hDs
      go_wp2_with fail
      go_quiet ((go_at_call 20; refine quiet_mine7 (CDX.out _)))
      go_wp2_with fail
      go_roundw
      case rel => exact ⟨i + 1, HLT.out, by rw [← HJ.out], by go_num, by first | exact HKK.out | exact HKK.out.drewN _ | exact HKK.out.drew⟩
      case measure => have := HLT.out; simp only [intOf]; omega
    · have hie : i = p.data.length := by omega
      subst hie
      have nd : decide ((p.data.length : Int) < (p.data.length : Int)) = false := decide_eq_false (by omega)
      have nd2 : decide (p.data.length < p.data.length) = false := decide_eq_false (by omega)
      have e0 : txt (blaUpD p k0 p.data.length) = txt (blaUpC p k0 kk 0) := by rw [blaUpC_zero]
      have HKK := Lib.hid hK
      rw [e0]
      clear hPV hlt hi hK e0 kW
      go_wp2_with fail
      clear d2 nd nd2
      go_loopw [7, 9] (fun q x wr2 => ∃ i : Nat, i ≤ p.code.length ∧ q = .string (txt (blaUpC p k0 kk i)) ∧ x = .int .i64 i ∧ Kept wr wr2) (fun _ x _ => p.code.length - (intOf x).toNat)
      case atStart => exact ⟨0, Nat.zero_le _, rfl, rfl, Kept.refl _⟩
      case round =>
        obtain ⟨i, hi, rfl, rfl, hK2⟩ := hrel
        have kXx := HKK.out.trans hK2
        have kW := KX.out.trans kXx
        have hPV := (PV.out _ kW).code
        have d0 := C0.out _ kW
        have hws : w.heap.size < wr.heap.size := Nat.lt_of_lt_of_le dB.out kW.size
        by_cases hlt : i < p.code.length
        · obtain ⟨g, o, rfl, hg, _⟩ := hPV.at_ (by omega)
          obtain ⟨I, hIe⟩ : ∃ I, I = p.code.getD i ins0 := ⟨_, rfl⟩
          have hIg : p.code[i]? = some I := by rw [hIe, List.getD_eq_getElem?_getD, List.getElem?_eq_getElem hlt]; rfl
          have hIr : rightB I = true := by rw [hIe]; exact HINS.out i hlt
          obtain ⟨x0, x1, x2, x3, x4⟩ := Row.ins (l := p.code) hPV (k := i) hIg
          have hRV := RV.out _ kW
          have hm1 : m ≠ 0 := by have := HM.out; omega
          obtain ⟨g1, o1, rfl, hg1, _⟩ := hRV.at_ hm1
          have him : i < m := by have := HM.out; omega
          have hp := hRV.num i him
          obtain ⟨z, hz0⟩ : ∃ z, z = zs.getD i 0 := ⟨_, rfl⟩
          rw [← hz0] at hp
          have hki : kk i = padK z := by rw [hkk, hz0]
          obtain ⟨k, hk⟩ : ∃ k, k = padK z := ⟨_, rfl⟩
          have hk5' : k < 5 := by rw [hk]; exact padK_lt _
          have hE := EE.out _ kXx k hk5'
          obtain ⟨a, ha⟩ : ∃ a : Nat, (a : Int) = z % 1024 := ⟨(z % 1024).toNat, by omega⟩
          have hbit : bits .and .i64 z 1023 = (a : Int) := by rw [and1023_i64]; exact ha.symm
          have hrem : Int.tmod (a : Int) 5 = (k : Int) := by rw [hk]; unfold padK; rw [← ha, Int.tmod_eq_emod_of_nonneg (by omega)]; omega
          have hrem2 : (a : Int) % 5 = (k : Int) := by rw [hk]; unfold padK; rw [← ha]; omega
          have ha1 : (a : Int) < 1024 := by omega
          have hk5 : (k : Int) < 5 := by omega
          have hk00 : (0 : Int) ≤ k := by omega
          have hsl := showI_len hIr
          obtain ⟨SI, hSI⟩ : ∃ SI, SI = txt (showI I) := ⟨_, rfl⟩
          have hSIs : SI.size ≤ 40 := by rw [hSI, txt_len]; exact hsl
          have cI := Lib.hid (fun y => by have := refShow_any I y; rw [showZ_yes hIr, ← hSI] at this; exact this)
          obtain ⟨S, hS⟩ : ∃ S, S = txt (blaUpC p k0 kk i) := ⟨_, rfl⟩
          have hSs : S.size ≤ 18200 := by rw [hS, txt_len]; have := HCL.out i hi; have := H5.out; have := H60.out; omega
          obtain ⟨E, hEE⟩ : ∃ E, E = txt (pcText (endPcs k)) := ⟨_, rfl⟩
          rw [← hEE] at hE
          have hEs : E.size ≤ 12 := by rw [hEE, txt_len]; exact endPcs_len k
          have hj : (S ++ SI) ++ E = txt (blaUpC p k0 kk (i + 1)) := by
            rw [HCS.out i, hS, hSI, hEE]
            unfold blaCT
            rw [← hIe, hki, ← hk, txt_join, txt_join, List.append_assoc]
          have v1 : ¬ (S.size + SI.size > 9223372036854775807) := by omega
          have v2 : ¬ ((S ++ SI).size + E.size > 9223372036854775807) := by rw [ByteArray.size_append]; omega
          have v3 : ¬ (9223372036854775807 < S.size + SI.size + E.size) := by omega
          have v4 : ¬ (9223372036854775807 < S.size + SI.size) := by omega
          have HJ := Lib.hid hj
          have HLT := Lib.hid hlt
          have HK2 := Lib.hid hK2
          have n0 : (0 : Int) ≤ i := by omega
          have n1 : (i : Int) < p.code.length := by omega
          have n2 : (i : Int) < m := by omega
          have nd : decide ((i : Int) < (p.code.length : Int)) = true := decide_eq_true n1
          have nd2 : decide (i < p.code.length) = true := decide_eq_true hlt
          have hw3 : w3.heap.size < wr.heap.size := Nat.lt_of_lt_of_le hgX kXx.size
          have P0 := Lib.hid (fun x (h : Kept wr x) => h.cell hws d0)
          have X0 := Lib.hid (fun x (h : Kept wr x) => h.cell hg x0)
          have X1 := Lib.hid (fun x (h : Kept wr x) => h.cell hg x1)
          have X2 := Lib.hid (fun x (h : Kept wr x) => h.cell hg x2)
          have X3 := Lib.hid (fun x (h : Kept wr x) => h.cell hg x3)
          have X4 := Lib.hid (fun x (h : Kept wr x) => h.cell hg x4)
          have XP := Lib.hid (fun x (h : Kept wr x) => h.cell hg1 hp)
          have XE := Lib.hid (fun x (h : Kept wr x) => h.cell hw3 hE)
          rw [← hS]
          clear hPV hRV hi hlt hK2 kXx kW hg hg1 x0 x1 x2 x3 x4 hp hE hSI hSIs hS hSs hEE hEs hj hz0 hki hk hk5' ha hIe hIg hIr hsl hws hw3
          go_wp2_with fail
          have j0 : Kept wr wr.drew := (Kept.refl _).drew
          clear d0
          have p0 := P0.out
          have y0 := X0.out
          have y1 := X1.out
          have y2 := X2.out
          have y3 := X3.out
          have y4 := X4.out
          have yp := XP.out
          have ye := XE.out
          refine wp_region_lin [(0, true), (1, true), (2, true), (3, true), (4, true), (5, true), (8, true), (9, true), (10, true), (11, true), (12, true), (13, true), (14, true), (15, true), (16, true), (6, false), (7, true), (17, true), (18, true)]
            (by kernel_rfl) (by kernel_rfl) rfl (by kernel_rfl) (Kept wr) ?_
          simp only [List.map_cons, List.map_nil, List.getElem?_toArray, List.getElem?_cons_succ, List.getElem?_cons_zero]
          iterate 15 (refine lin_take (v := ?_) (by assumption) (by rfl) ?_ ?_; rotate_left; (intro x hx; (try dsimp only at hx); go_simp; try (with_reducible rfl)); (try simp only [Act.put, List.setIfInBounds_toArray, List.set_cons_zero, List.set_cons_succ]))
          refine lin_call (by assumption) (by rfl) (fun K hK => ?_)
          go_simp
          refine (cI.out _).mono ?_
          rintro e w4 ⟨rfl, hb4⟩
          have j2 := j0.to hb4
          clear hb4
          go_wp2_with fail
          refine hK.out _ _ j2 (fun _ => ?_)
          clear hK K
          try simp only [Act.put, List.setIfInBounds_toArray, List.set_cons_zero, List.set_cons_succ]
          iterate 3 (refine lin_take (v := ?_) (by assumption) (by rfl) ?_ ?_; rotate_left; (intro x hx; (try dsimp only at hx); go_simp; try (with_reducible rfl)); (try simp only [Act.put, List.setIfInBounds_toArray, List.set_cons_zero, List.set_cons_succ]))
          refine lin_done ?_
          clear p0 y0 y1 y2 y3 y4 yp ye
          have J2 := Lib.hid j2
          clear j2 j0
          go_wp2_with fail
          go_roundw
          case rel => exact ⟨i + 1, HLT.out, by rw [← HJ.out], by go_num, HK2.out.trans J2.out⟩
          case measure => have := HLT.out; simp only [intOf]; omega
        · have hie : i = p.code.length := by omega
          subst hie
          have nd : decide ((p.code.length : Int) < (p.code.length : Int)) = false := decide_eq_false (by omega)
          have nd2 : decide (p.code.length < p.code.length) = false := decide_eq_false (by omega)
          have e0 : txt (blaUpC p k0 kk p.code.length) = txt (blaText p k0 kk) := rfl
          rw [e0]
          have hts : (txt (blaText p k0 kk)).size ≤ 20000 := by rw [txt_len]; exact HTL.out
          have cRR := Lib.hid (cRd.out _ (TV.out _ kW))
          generalize txt (blaText p k0 kk) = TXT at *
          have t1 : decide (20000 < (TXT.size : Int)) = false := decide_eq_false (by omega)
          have t2 : decide (20000 < TXT.size) = false := decide_eq_false (by omega)
          have KW := Lib.hid kW
          clear hPV hlt hi hK2 kXx kW e0 hts
          go_wp2_with fail
          refine cRR.out.mono ?_
          rintro e w5 ⟨ho5, hb5⟩
          obtain ⟨vc1, vd1, rfl, hc1, hd1⟩ := ho5
          have HC1 := Lib.hid (Row.of_own hc1)
          have HD1 := Lib.hid (Row.of_own hd1)
          obtain ⟨Ac1, cc1, rfl⟩ := HC1.out.form
          obtain ⟨Ad1, cd1, rfl⟩ := HD1.out.form
          have k5 := KW.out.to hb5
          have hz5 : w.heap.size < w5.heap.size := Nat.lt_of_lt_of_le dB.out k5.size
          clear hb5 hc1 hd1 d0 hws
          have d0 := C0.out _ k5
          have d1 := C1.out _ k5
          have d2 := C2.out _ k5
          have K5 := Lib.hid k5
          clear k5 nd nd2
          go_wp2_with (go_at_call 16; refine (num8_any _ _).mono ?_; rintro e w9 ⟨rfl, rfl⟩)
          have B6 : Hid (Below w5.heap.size w5 (w5.alloc (.cells #[.slice Ac1 p.code.length cc1, .int .i64 p.size, .slice Ad1 p.data.length cd1] 26))) := (Below.refl _ _).alloc (Nat.le_refl _) _
          have k6 := K5.out.to B6.out
          generalize (w5.alloc (.cells #[.slice Ac1 p.code.length cc1, .int .i64 p.size, .slice Ad1 p.data.length cd1] 26)) = w6 at *
          refine (refSame_any A D Ac1 Ad1 c d cc1 cd1 p p _ (PV.out _ k6) ⟨(HC1.out.below B6.out).more B6.out.size, (HD1.out.below B6.out).more B6.out.size⟩ HDD.out HDD.out).mono ?_
          rintro e w7 ⟨rfl, hb7⟩
          rw [decide_eq_true (Eq.refl p)]
          have K7 := Lib.hid (HZ.out _ (k6.to hb7))
          clear hb7 k6
          try dsimp only
          go_wp2_with fail
          go_ret
          exact ⟨by first | rfl | simp, K7.out⟩



theorem asmBlanks_walk (A : Option Addr) (c : Nat) (D : Option Addr) (d : Nat) (p : Prog) (v1 : Value) (m : Nat) (zs : List Int) (w : World) (hT : TabsA w) (f : p.Fits) (r : ProgV w w.heap.size (.slice A p.code.length c) (.slice D p.data.length d) p)
    (r1 : Row w w.heap.size 1 v1 m (zs.map (Value.int .i64))) (hz : ∀ x ∈ zs, -9223372036854775808 ≤ x ∧ x ≤ 9223372036854775807) :
    Calls Tryd.prog 5 #[.agg #[.slice A p.code.length c, .int .i64 p.size, .slice D p.data.length d], v1] w fun e w' => e = .returned (.bool true) ∧ Below w.heap.size w w' := by
  obtain ⟨A1, c1, rfl⟩ := r1.form
  cases hf : fewB p.code.length p.data.length
  · exact asmBlanks_no1 hT r f r1 hf
  by_cases h60 : 60 < p.code.length
  · exact asmBlanks_no2 hT r f r1 hf h60
  cases hr : rightZ p.code p.size p.data.length
  · exact asmBlanks_no3 hT r f r1 hf (by omega) hr
  by_cases hm : m < p.code.length
  · exact asmBlanks_no4 hT r f r1 hf (by omega) hr hm
  · exact asmBlanks_in hT r f r1 hz hf (by omega) hr (by omega)
end Go.Proofs.YtfdegdbknponkaaDoor.Words

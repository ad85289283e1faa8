/- Several texts in one: RefRight, ImgRight, ImgRight2, AsmReadMath, AsmCheck, AsmNames, AsmRead. -/
import Derived.Test.YtcaibahniheohaaDoorG06
import Derived.Test.YtcaibahniheohaaDoorG03
import Derived.Test.YtcaibahniheohaaDoorG05
import Derived.LoopTactic

/- Contracts of the document's own Targets and RightProgram. -/
namespace Go.Proofs.YtcaibahniheohaaDoor.Words
set_option maxRecDepth 100000
open Go.RowKit
set_option linter.unusedVariables false
theorem targetsOk_step {n j : Nat} {l : List Ins} {i : Ins} (h : l[j]? = some i) : targetsOk n j (l.drop j) = (!badTarget n j i && targetsOk n (j + 1) (l.drop (j + 1))) := by
 obtain ⟨hlt, rfl⟩ := List.getElem?_eq_some_iff.1 h
 rw [List.drop_eq_getElem_cons hlt]; rfl
def errT (b : Bool) : Int := if b = true then 0 else 4
theorem all_step {l : List Ins} {j : Nat} {i : Ins} (h : l[j]? = some i) : (l.drop j).all rightB = (rightB i && (l.drop (j + 1)).all rightB) := by
 obtain ⟨hlt, rfl⟩ := List.getElem?_eq_some_iff.1 h
 rw [List.drop_eq_getElem_cons hlt]; rfl
theorem at_some {l : List Ins} {j : Nat} (h : j < l.length) : ∃ i, l[j]? = some i := ⟨_, List.getElem?_eq_getElem h⟩
set_option maxHeartbeats 2000000 in
theorem refTargets_any (A : Option Addr) (c : Nat) (sz : Int) (vd : Value) (l : List Ins) (w : World) (hr : Row w w.heap.size 5 (.slice A l.length c) l.length (codeCells l)) (hsmall : l.length ≤ 4294967296) :
  Calls Tryd.prog 25 #[.agg #[.slice A l.length c, .int .i64 sz, vd]] w fun e w' => e = .returned (.int .i64 (errT (targetsOk l.length 0 l))) ∧ Below w.heap.size w w' := by
 obtain ⟨hcl, hcm⟩ := hr.cap
 have HK := Lib.hid (fun (x : World) (h : Kept (w.alloc (.cells #[.slice A l.length c, .int .i64 sz, vd] 26)) x) => ((Below.refl w.heap.size w).alloc (Nat.le_refl _) _).trans (h.mono (by simp)))
 by_cases hn : l.length = 0
 ·have hl : l = [] := List.eq_nil_of_length_eq_zero hn
  subst hl
  go_enter Tryd.func25, Tryd.ntmps25
  go_wp2_with fail
  refine wp_loop_rounds 1 ?_
  rw [rounds_succ]
  go_wp2_with fail
  go_ret
  exact ⟨rfl, HK.out _ (Kept.refl _)⟩
 obtain ⟨b, off, rfl, hb, _⟩ := hr.at_ hn
 have hB : w.heap.size < (w.alloc (.cells #[.slice (some ⟨b, off, none⟩) l.length c, .int .i64 sz, vd] 26)).heap.size := by simp
 have HR := Lib.hid (hr.alloc (Nat.le_refl _) (.cells #[.slice (some ⟨b, off, none⟩) l.length c, .int .i64 sz, vd] 26) |>.more (Nat.le_of_lt hB))
 have HA := Lib.hid (fun j h => at_some (l := l) (j := j) h)
 have HT := Lib.hid (fun j i h => targetsOk_step (n := l.length) (j := j) (l := l) (i := i) h)
 have HE := Lib.hid (fun (k : Nat) (h : l.length ≤ k) => List.drop_eq_nil_of_le h)
 have H0 := Lib.hid (show targetsOk l.length 0 l = targetsOk l.length 0 (l.drop 0) by rw [List.drop_zero])
 have HC := Lib.hid (fun (x : World) (h : Kept (w.alloc (.cells #[.slice (some ⟨b, off, none⟩) l.length c, .int .i64 sz, vd] 26)) x) (k : Nat) (i : Ins) (hi : l[k]? = some i) =>
  (h.row HR.out).ins hi)
 have HD := Lib.hid (fun (x : World) (h : Kept (w.alloc (.cells #[.slice (some ⟨b, off, none⟩) l.length c, .int .i64 sz, vd] 26)) x) (k : Nat) (i : Ins) (hi : l[k]? = some i) =>
  refTarget_any b off c k sz vd l i x (h.row HR.out) hi hsmall)
 have c0 : (w.alloc (.cells #[.slice (some ⟨b, off, none⟩) l.length c, .int .i64 sz, vd] 26)).cell? ⟨w.heap.size, 0, none⟩ = some (.slice (some ⟨b, off, none⟩) l.length c) := by go_simp
 have c1 : (w.alloc (.cells #[.slice (some ⟨b, off, none⟩) l.length c, .int .i64 sz, vd] 26)).cell? ⟨w.heap.size, 1, none⟩ = some (.int .i64 sz) := by go_simp
 have c2 : (w.alloc (.cells #[.slice (some ⟨b, off, none⟩) l.length c, .int .i64 sz, vd] 26)).cell? ⟨w.heap.size, 2, none⟩ = some vd := by go_simp
 go_enter Tryd.func25, Tryd.ntmps25
 go_wp2_with fail
 generalize w.alloc (.cells #[.slice (some ⟨b, off, none⟩) l.length c, .int .i64 sz, vd] 26) = W at *
 have C0 := Lib.hid (fun (x : World) (h : Kept W x) => h.cell hB c0)
 have C1 := Lib.hid (fun (x : World) (h : Kept W x) => h.cell hB c1)
 have C2 := Lib.hid (fun (x : World) (h : Kept W x) => h.cell hB c2)
 clear c0 c1 c2 hr hB
 generalize hN : l.length = n at *
 have HN := Lib.hid hN
 clear hN
 go_loopw [3] (fun i wr => ∃ j : Nat, j ≤ n ∧ i = .int .i64 j ∧ Kept W wr ∧ targetsOk n 0 l = targetsOk n j (l.drop j)) (fun i _ => n - (intOf i).toNat)
 case atStart => exact ⟨0, Nat.zero_le _, rfl, Kept.refl _, H0.out⟩
 case round =>
  obtain ⟨j, hj, rfl, hK, hT⟩ := hrel
  have HTJ := Lib.hid hT
  clear hT
  have c0 := C0.out _ hK
  by_cases hlt : j < n
  ·obtain ⟨i, hi⟩ := HA.out j hlt
   have hs := Lib.hid (HT.out j i hi)
   obtain ⟨d0, _, _, _, _⟩ := HC.out _ hK j i hi
   have k0 : (0 : Int) ≤ j := by omega
   have k1 : (j : Int) < n := by omega
   go_wp2_with fail
   refine (refForm_any _ _).mono ?_; rintro e w1 ⟨rfl, rfl⟩
   by_cases hj6 : formZ i.op = 6 ∨ formZ i.op = 7
   ·have HJ := Lib.hid ((isJump_form i).2 hj6)
    have c1 := C1.out _ hK
    have c2 := C2.out _ hK
    have HDi := Lib.hid (HD.out _ hK j i hi)
    rcases hj6 with hj6 | hj6
    all_goals
     rw [hj6]
     go_wp2_with fail
     refine HDi.out.mono ?_; rintro e w2 ⟨rfl, hb2⟩
     have hK2 := hK.to hb2
     by_cases ht : targetZ n j i < 0
     ·have hbad : badTarget n j i = true := by unfold badTarget; rw [HJ.out]; simp [ht]
      have hres := Lib.hid (show errT (targetsOk n 0 l) = 4 by rw [HTJ.out, hs.out, hbad]; rfl)
      go_wp2_with fail
      go_ret
      exact ⟨ret_int (by rw [HN.out]; exact hres.out.symm), HK.out _ hK2⟩
     ·have hok : badTarget n j i = false := by unfold badTarget; simp [ht]
      have hres := Lib.hid (show targetsOk n 0 l = targetsOk n (j + 1) (l.drop (j + 1)) by rw [HTJ.out, hs.out, hok]; rfl)
      go_wp2_with fail
      go_roundw
      case rel => exact ⟨j + 1, by omega, by go_num, hK2, hres.out⟩
      case measure => simp [intOf]; omega
   ·have hok : badTarget n j i = false := by
     have : isJump i = false := by
      cases hh : isJump i
      ·rfl
      ·exact absurd ((isJump_form i).1 hh) hj6
     unfold badTarget; rw [this]; rfl
    have hres := Lib.hid (show targetsOk n 0 l = targetsOk n (j + 1) (l.drop (j + 1)) by rw [HTJ.out, hs.out, hok]; rfl)
    have q1 : (formZ i.op == 6) = false := by simp; omega
    have q2 : (formZ i.op == 7) = false := by simp; omega
    clear hok hj6
    go_wp2_with fail
    go_roundw
    case rel => exact ⟨j + 1, by omega, by go_num, hK, hres.out⟩
    case measure => simp [intOf]; omega
  ·have hres := Lib.hid (show errT (targetsOk n 0 l) = 0 by rw [HTJ.out, HE.out j (by omega)]; rfl)
   go_wp2_with fail
   go_ret
   exact ⟨ret_int (by rw [HN.out]; exact hres.out.symm), HK.out _ hK⟩
def sizesOk (n : Nat) (sz : Int) (m : Nat) : Bool := decide (1 ≤ n ∧ n ≤ 2000 ∧ 0 ≤ sz ∧ sz ≤ 65536 ∧ (m : Int) ≤ sz)
def rightZ (l : List Ins) (sz : Int) (m : Nat) : Bool := sizesOk l.length sz m && l.all rightB && targetsOk l.length 0 l
theorem rightZ_no {l : List Ins} {sz : Int} {m : Nat} (h : ¬ (1 ≤ l.length ∧ l.length ≤ 2000 ∧ 0 ≤ sz ∧ sz ≤ 65536 ∧ (m : Int) ≤ sz)) : rightZ l sz m = false := by
 unfold rightZ sizesOk; rw [decide_eq_false h]; rfl
theorem rightZ_all {l : List Ins} {sz : Int} {m : Nat} (h : l.all rightB = false) : rightZ l sz m = false := by
 unfold rightZ; rw [h]; simp
theorem rightZ_yes {l : List Ins} {sz : Int} {m : Nat} (h : 1 ≤ l.length ∧ l.length ≤ 2000 ∧ 0 ≤ sz ∧ sz ≤ 65536 ∧ (m : Int) ≤ sz) (ha : l.all rightB = true) : rightZ l sz m = targetsOk l.length 0 l := by
 unfold rightZ sizesOk; rw [decide_eq_true h, ha]; rfl
set_option maxHeartbeats 4000000 in
theorem refRight_any (A : Option Addr) (c : Nat) (sz : Int) (A' : Option Addr) (m c' : Nat) (l : List Ins) (w : World) (hr : Row w w.heap.size 5 (.slice A l.length c) l.length (codeCells l)) (hm : m ≤ c') (hc' : c' ≤ 9223372036854775807) :
  Calls Tryd.prog 12 #[.agg #[.slice A l.length c, .int .i64 sz, .slice A' m c']] w fun e w' => e = .returned (.bool (rightZ l sz m)) ∧ Below w.heap.size w w' := by
 obtain ⟨hcl, hcm⟩ := hr.cap
 have HK := Lib.hid (fun (x : World) (h : Kept (w.alloc (.cells #[.slice A l.length c, .int .i64 sz, .slice A' m c'] 26)) x) => ((Below.refl w.heap.size w).alloc (Nat.le_refl _) _).trans (h.mono (by simp)))
 by_cases hno : 1 ≤ l.length ∧ l.length ≤ 2000 ∧ 0 ≤ sz ∧ sz ≤ 65536 ∧ (m : Int) ≤ sz
 rotate_left
 ·rw [rightZ_no hno]
  clear hr
  generalize l.length = n at *
  by_cases h1 : n < 1
  ·go_enter Tryd.func12, Tryd.ntmps12
   go_wp2_with fail
   go_ret
   exact ⟨rfl, HK.out _ (Kept.refl _)⟩
  by_cases h2 : 2000 < n
  ·go_enter Tryd.func12, Tryd.ntmps12
   go_wp2_with fail
   go_ret
   exact ⟨rfl, HK.out _ (Kept.refl _)⟩
  by_cases h3 : sz < 0
  ·go_enter Tryd.func12, Tryd.ntmps12
   go_wp2_with fail
   go_ret
   exact ⟨rfl, HK.out _ (Kept.refl _)⟩
  by_cases h4 : 65536 < sz
  ·go_enter Tryd.func12, Tryd.ntmps12
   go_wp2_with fail
   go_ret
   exact ⟨rfl, HK.out _ (Kept.refl _)⟩
  have h5 : sz < (m : Int) := by omega
  clear hno
  go_enter Tryd.func12, Tryd.ntmps12
  go_wp2_with fail
  go_ret
  exact ⟨rfl, HK.out _ (Kept.refl _)⟩
 have HNO := Lib.hid hno
 obtain ⟨n1, n2, n3, n4, n5⟩ := hno
 obtain ⟨b, off, rfl, hb, _⟩ := hr.at_ (by omega)
 have hB : w.heap.size < (w.alloc (.cells #[.slice (some ⟨b, off, none⟩) l.length c, .int .i64 sz, .slice A' m c'] 26)).heap.size := by simp
 have HR := Lib.hid (hr.alloc (Nat.le_refl _) (.cells #[.slice (some ⟨b, off, none⟩) l.length c, .int .i64 sz, .slice A' m c'] 26) |>.more (Nat.le_of_lt hB))
 have HA := Lib.hid (fun j h => at_some (l := l) (j := j) h)
 have HT := Lib.hid (fun j i h => all_step (j := j) (l := l) (i := i) h)
 have HE := Lib.hid (fun (k : Nat) (h : l.length ≤ k) => List.drop_eq_nil_of_le h)
 have H0 := Lib.hid (show l.all rightB = (l.drop 0).all rightB by rw [List.drop_zero])
 have HC := Lib.hid (fun (x : World) (h : Kept (w.alloc (.cells #[.slice (some ⟨b, off, none⟩) l.length c, .int .i64 sz, .slice A' m c'] 26)) x) (k : Nat) (i : Ins) (hi : l[k]? = some i) =>
  (h.row HR.out).ins hi)
 have HD := Lib.hid (fun (x : World) (h : Kept (w.alloc (.cells #[.slice (some ⟨b, off, none⟩) l.length c, .int .i64 sz, .slice A' m c'] 26)) x) =>
  refTargets_any (some ⟨b, off, none⟩) c sz (.slice A' m c') l x (h.row HR.out) (Nat.le_trans n2 (by omega)))
 have HF := Lib.hid (fun h => rightZ_all (l := l) (sz := sz) (m := m) h)
 have HY := Lib.hid (fun h => rightZ_yes (l := l) HNO.out h)
 have c0 : (w.alloc (.cells #[.slice (some ⟨b, off, none⟩) l.length c, .int .i64 sz, .slice A' m c'] 26)).cell? ⟨w.heap.size, 0, none⟩ = some (.slice (some ⟨b, off, none⟩) l.length c) := by go_simp
 have c1 : (w.alloc (.cells #[.slice (some ⟨b, off, none⟩) l.length c, .int .i64 sz, .slice A' m c'] 26)).cell? ⟨w.heap.size, 1, none⟩ = some (.int .i64 sz) := by go_simp
 have c2 : (w.alloc (.cells #[.slice (some ⟨b, off, none⟩) l.length c, .int .i64 sz, .slice A' m c'] 26)).cell? ⟨w.heap.size, 2, none⟩ = some (.slice A' m c') := by go_simp
 clear HNO
 go_enter Tryd.func12, Tryd.ntmps12
 go_wp2_with fail
 generalize w.alloc (.cells #[.slice (some ⟨b, off, none⟩) l.length c, .int .i64 sz, .slice A' m c'] 26) = W at *
 have C0 := Lib.hid (fun (x : World) (h : Kept W x) => h.cell hB c0)
 have C1 := Lib.hid (fun (x : World) (h : Kept W x) => h.cell hB c1)
 have C2 := Lib.hid (fun (x : World) (h : Kept W x) => h.cell hB c2)
 clear c0 c1 c2 hr hB
 generalize hN : l.length = n at *
 have HN := Lib.hid hN
 clear hN
 go_loopw [3] (fun i wr => ∃ j : Nat, j ≤ n ∧ i = .int .i64 j ∧ Kept W wr ∧ l.all rightB = (l.drop j).all rightB) (fun i _ => n - (intOf i).toNat)
 case atStart => exact ⟨0, Nat.zero_le _, rfl, Kept.refl _, H0.out⟩
 case round =>
  obtain ⟨j, hj, rfl, hK, hT⟩ := hrel
  have HTJ := Lib.hid hT
  clear hT
  have c0 := C0.out _ hK
  by_cases hlt : j < n
  ·obtain ⟨i, hi⟩ := HA.out j hlt
   have hs := Lib.hid (HT.out j i hi)
   obtain ⟨d0, d1, d2, d3, d4⟩ := HC.out _ hK j i hi
   have k0 : (0 : Int) ≤ j := by omega
   have k1 : (j : Int) < n := by omega
   go_wp2_with fail
   refine (rightIns_any i _).mono ?_; rintro e w1 ⟨rfl, hb2⟩
   have hK2 := hK.to hb2
   clear hb2
   cases hri : rightB i
   ·have hres := Lib.hid (HF.out (by rw [HTJ.out, hs.out, hri]; rfl))
    go_wp2_with fail
    go_ret
    exact ⟨ret_bool hres.out.symm, HK.out _ hK2⟩
   ·have hres := Lib.hid (show l.all rightB = (l.drop (j + 1)).all rightB by rw [HTJ.out, hs.out, hri]; rfl)
    go_wp2_with fail
    go_roundw
    case rel => exact ⟨j + 1, by omega, by go_num, hK2, hres.out⟩
    case measure => simp [intOf]; omega
  ·have hres := Lib.hid (HY.out (by rw [HTJ.out, HE.out j (by omega)]; rfl))
   have c1 := C1.out _ hK
   have c2 := C2.out _ hK
   have HDx := Lib.hid (HD.out _ hK)
   go_wp2_with fail
   refine HDx.out.mono ?_; rintro e w2 ⟨rfl, hb2⟩
   have hK2 := hK.to hb2
   clear hb2
   cases ht : targetsOk n 0 l
   ·rw [ht] at hres
    have e4 : errT false = 4 := rfl
    rw [e4]
    go_wp2_with fail
    go_ret
    exact ⟨ret_bool hres.out.symm, HK.out _ hK2⟩
   ·rw [ht] at hres
    have e4 : errT true = 0 := rfl
    rw [e4]
    go_wp2_with fail
    go_ret
    exact ⟨ret_bool hres.out.symm, HK.out _ hK2⟩
end Go.Proofs.YtcaibahniheohaaDoor.Words

/- Contracts of package image: numbers, Targets, Right. -/
namespace Go.Proofs.YtcaibahniheohaaDoor.Words
set_option maxRecDepth 100000
open Go.RowKit
set_option linter.unusedVariables false
set_option maxHeartbeats 400000 in
theorem numbersOf_any (A A' : Option Addr) (n c m c' : Nat) (sz : Int) (w : World) (hn : n ≤ 9223372036854775807) (hm : m ≤ 9223372036854775807) :
  Calls Tryd.prog 63 #[.agg #[.slice A n c, .int .i64 sz, .slice A' m c']] w fun e w' => e = .returned (.agg #[.int .i64 n, .int .i64 sz, .int .i64 m]) ∧ Below w.heap.size w w' := by
 go_enter Tryd.func63, Tryd.ntmps63
 go_wp2_with fail
 refine bodyPost_ret (v := .agg #[.int .i64 n, .int .i64 sz, .int .i64 m]) (by simp [results, Tryd.results63, go_sem]; done) rfl ⟨rfl, ?_⟩
 exact ((Below.refl w.heap.size w).alloc (Nat.le_refl _) _).alloc (by simp) _
def fitN (n sz m : Int) : Bool := decide (1 ≤ n ∧ n ≤ 2000 ∧ 0 ≤ sz ∧ sz ≤ 65536 ∧ 0 ≤ m ∧ m ≤ sz)
theorem fitN_no {n sz m : Int} (h : ¬ (1 ≤ n ∧ n ≤ 2000 ∧ 0 ≤ sz ∧ sz ≤ 65536 ∧ 0 ≤ m ∧ m ≤ sz)) : fitN n sz m = false := decide_eq_false h
theorem fitN_yes {n sz m : Int} (h : 1 ≤ n ∧ n ≤ 2000 ∧ 0 ≤ sz ∧ sz ≤ 65536 ∧ 0 ≤ m ∧ m ≤ sz) : fitN n sz m = true := decide_eq_true h
set_option maxHeartbeats 2000000 in
theorem fit_any (n sz m : Int) (w : World) :
  Calls Tryd.prog 64 #[.agg #[.int .i64 n, .int .i64 sz, .int .i64 m]] w fun e w' => e = .returned (.bool (fitN n sz m)) ∧ Below w.heap.size w w' := by
 by_cases h1 : n < 1
 ·rw [fitN_no (by omega)]
  go_enter Tryd.func64, Tryd.ntmps64
  go_wp2_with fail
  go_ret
  exact ⟨rfl, (Below.refl _ _).alloc (Nat.le_refl _) _⟩
 by_cases h2 : 2000 < n
 ·rw [fitN_no (by omega)]
  go_enter Tryd.func64, Tryd.ntmps64
  go_wp2_with fail
  go_ret
  exact ⟨rfl, (Below.refl _ _).alloc (Nat.le_refl _) _⟩
 by_cases h3 : sz < 0
 ·rw [fitN_no (by omega)]
  go_enter Tryd.func64, Tryd.ntmps64
  go_wp2_with fail
  go_ret
  exact ⟨rfl, (Below.refl _ _).alloc (Nat.le_refl _) _⟩
 by_cases h4 : 65536 < sz
 ·rw [fitN_no (by omega)]
  go_enter Tryd.func64, Tryd.ntmps64
  go_wp2_with fail
  go_ret
  exact ⟨rfl, (Below.refl _ _).alloc (Nat.le_refl _) _⟩
 by_cases h5 : m < 0
 ·rw [fitN_no (by omega)]
  go_enter Tryd.func64, Tryd.ntmps64
  go_wp2_with fail
  go_ret
  exact ⟨rfl, (Below.refl _ _).alloc (Nat.le_refl _) _⟩
 by_cases h6 : sz < m
 ·rw [fitN_no (by omega)]
  go_enter Tryd.func64, Tryd.ntmps64
  go_wp2_with fail
  go_ret
  exact ⟨ret_bool (by simp; try omega), (Below.refl _ _).alloc (Nat.le_refl _) _⟩
 ·rw [fitN_yes (by omega)]
  go_enter Tryd.func64, Tryd.ntmps64
  go_wp2_with fail
  go_ret
  exact ⟨ret_bool (by simp; try omega), (Below.refl _ _).alloc (Nat.le_refl _) _⟩
set_option maxHeartbeats 400000 in
theorem hasTarget_any (i : Ins) (w : World) :
  Calls Tryd.prog 61 #[.int .i64 i.op] w fun e w' => e = .returned (.bool (isJump i)) ∧ w = w' := by
 have hF := formZ_range i.op
 have HJ := Lib.hid (isJump_form i)
 go_enter Tryd.func61, Tryd.ntmps61
 go_wp2_with fail
 refine (form_any _ _).mono ?_; rintro e w1 ⟨rfl, rfl⟩
 by_cases h6 : formZ i.op = 6
 ·have hj := Lib.hid (HJ.out.2 (.inl h6))
  rw [h6]
  go_wp2_with fail
  go_ret
  exact ⟨ret_bool hj.out.symm, rfl⟩
 by_cases h7 : formZ i.op = 7
 ·have hj := Lib.hid (HJ.out.2 (.inr h7))
  rw [h7]
  go_wp2_with fail
  go_ret
  exact ⟨ret_bool hj.out.symm, rfl⟩
 ·have hj : isJump i = false := by
   cases hh : isJump i
   ·rfl
   ·rcases HJ.out.1 hh with h | h <;> omega
  have hj := Lib.hid hj
  clear HJ
  go_wp2_with fail
  go_ret
  exact ⟨ret_bool (by rw [hj.out]; simp; omega), rfl⟩
theorem badTarget_eq {n k : Nat} {i : Ins} (hk : k < n) (hn : n ≤ 8192) : badTarget n k i = (isJump i && !decide (-(k : Int) ≤ i.imm ∧ i.imm < n - k)) := by
 unfold badTarget
 cases hj : isJump i
 ·rfl
 ·simp only [Bool.true_and]
  by_cases h : -(k : Int) ≤ i.imm ∧ i.imm < n - k
  ·rw [targetZ_yes hj (by omega) (by omega) (by omega) (by omega), decide_eq_true h]; simp; omega
  ·rw [targetZ_no (by omega), decide_eq_false h]; rfl
set_option maxHeartbeats 400000 in
theorem within_any (n k : Nat) (imm : Int) (w : World) (hk : k < n) (hn : n ≤ 8192) :
  Calls Tryd.prog 62 #[.int .i64 k, .int .i64 imm, .int .i64 n] w fun e w' => e = .returned (.bool (decide (-(k : Int) ≤ imm ∧ imm < n - k))) ∧ w = w' := by
 by_cases h1 : -(k : Int) ≤ imm
 ·by_cases h2 : imm < n - k
  ·have hr : decide (-(k : Int) ≤ imm ∧ imm < n - k) = true := decide_eq_true ⟨h1, h2⟩
   rw [hr]
   clear hr
   go_enter Tryd.func62, Tryd.ntmps62
   go_wp2_with fail
   go_ret
   exact ⟨rfl, rfl⟩
  ·have hr : decide (-(k : Int) ≤ imm ∧ imm < n - k) = false := decide_eq_false (fun h => h2 h.2)
   rw [hr]
   clear hr
   go_enter Tryd.func62, Tryd.ntmps62
   go_wp2_with fail
   go_ret
   exact ⟨rfl, rfl⟩
 ·have hr : decide (-(k : Int) ≤ imm ∧ imm < n - k) = false := decide_eq_false (fun h => h1 h.1)
  rw [hr]
  clear hr
  go_enter Tryd.func62, Tryd.ntmps62
  go_wp2_with fail
  go_ret
  exact ⟨rfl, rfl⟩
end Go.Proofs.YtcaibahniheohaaDoor.Words

/- Contracts of package image: Targets, Right. -/
namespace Go.Proofs.YtcaibahniheohaaDoor.Words
set_option maxRecDepth 100000
open Go.RowKit
set_option linter.unusedVariables false
set_option maxHeartbeats 2000000 in
theorem targets_any (A : Option Addr) (c : Nat) (sz : Int) (vd : Value) (l : List Ins) (w : World) (hr : Row w w.heap.size 5 (.slice A l.length c) l.length (codeCells l)) (hsmall : l.length ≤ 8192) :
  Calls Tryd.prog 32 #[.agg #[.slice A l.length c, .int .i64 sz, vd]] w fun e w' => e = .returned (.int .i64 (errT (targetsOk l.length 0 l))) ∧ Below w.heap.size w w' := by
 obtain ⟨hcl, hcm⟩ := hr.cap
 have HK := Lib.hid (fun (x : World) (h : Kept (w.alloc (.cells #[.slice A l.length c, .int .i64 sz, vd] 26)) x) => ((Below.refl w.heap.size w).alloc (Nat.le_refl _) _).trans (h.mono (by simp)))
 by_cases hn : l.length = 0
 ·have hl : l = [] := List.eq_nil_of_length_eq_zero hn
  subst hl
  go_enter Tryd.func32, Tryd.ntmps32
  go_wp2_with fail
  refine wp_loop_rounds 1 ?_
  rw [rounds_succ]
  go_wp2_with fail
  go_ret
  exact ⟨rfl, HK.out _ (Kept.refl _)⟩
 obtain ⟨b, off, rfl, hb, _⟩ := hr.at_ hn
 have hB : w.heap.size < (w.alloc (.cells #[.slice (some ⟨b, off, none⟩) l.length c, .int .i64 sz, vd] 26)).heap.size := by simp
 have HR := Lib.hid (hr.alloc (Nat.le_refl _) (.cells #[.slice (some ⟨b, off, none⟩) l.length c, .int .i64 sz, vd] 26) |>.more (Nat.le_of_lt hB))
 have HA := Lib.hid (fun j h => at_some (l := l) (j := j) h)
 have HT := Lib.hid (fun j i h => targetsOk_step (n := l.length) (j := j) (l := l) (i := i) h)
 have HE := Lib.hid (fun (k : Nat) (h : l.length ≤ k) => List.drop_eq_nil_of_le h)
 have H0 := Lib.hid (show targetsOk l.length 0 l = targetsOk l.length 0 (l.drop 0) by rw [List.drop_zero])
 have HC := Lib.hid (fun (x : World) (h : Kept (w.alloc (.cells #[.slice (some ⟨b, off, none⟩) l.length c, .int .i64 sz, vd] 26)) x) (k : Nat) (i : Ins) (hi : l[k]? = some i) =>
  (h.row HR.out).ins hi)
 have c0 : (w.alloc (.cells #[.slice (some ⟨b, off, none⟩) l.length c, .int .i64 sz, vd] 26)).cell? ⟨w.heap.size, 0, none⟩ = some (.slice (some ⟨b, off, none⟩) l.length c) := by go_simp
 go_enter Tryd.func32, Tryd.ntmps32
 go_wp2_with fail
 generalize w.alloc (.cells #[.slice (some ⟨b, off, none⟩) l.length c, .int .i64 sz, vd] 26) = W at *
 have C0 := Lib.hid (fun (x : World) (h : Kept W x) => h.cell hB c0)
 clear c0 hr hB
 generalize hN : l.length = n at *
 have HN := Lib.hid hN
 clear hN
 go_loopw [8] (fun i wr => ∃ j : Nat, j ≤ n ∧ i = .int .i64 j ∧ Kept W wr ∧ targetsOk n 0 l = targetsOk n j (l.drop j)) (fun i _ => n - (intOf i).toNat)
 case atStart => exact ⟨0, Nat.zero_le _, rfl, Kept.refl _, H0.out⟩
 case round =>
  obtain ⟨j, hj, rfl, hK, hT⟩ := hrel
  have HTJ := Lib.hid hT
  clear hT
  by_cases hlt : j < n
  ·obtain ⟨i, hi⟩ := HA.out j hlt
   have hs := Lib.hid (HT.out j i hi)
   obtain ⟨d0, d1, d2, d3, d4⟩ := HC.out _ hK j i hi
   have k0 : (0 : Int) ≤ j := by omega
   have k1 : (j : Int) < n := by omega
   have hbad := Lib.hid (badTarget_eq (n := n) (k := j) (i := i) hlt hsmall)
   have C0x := C0.out _ (hK.alloc (.cells #[.int .i64 i.op, .int .i64 i.d, .int .i64 i.a, .int .i64 i.b, .int .i64 i.imm] 38))
   go_wp2_with fail
   refine (hasTarget_any i _).mono ?_; rintro e w1 ⟨rfl, rfl⟩
   have hK2 := hK.alloc (.cells #[.int .i64 i.op, .int .i64 i.d, .int .i64 i.a, .int .i64 i.b, .int .i64 i.imm] 38)
   cases hjm : isJump i
   ·have hok : badTarget n j i = false := by rw [hbad.out, hjm]; rfl
    have hres := Lib.hid (show targetsOk n 0 l = targetsOk n (j + 1) (l.drop (j + 1)) by rw [HTJ.out, hs.out, hok]; rfl)
    clear hok
    go_wp2_with fail
    go_roundw
    case rel => exact ⟨j + 1, by omega, by go_num, hK2, hres.out⟩
    case measure => simp [intOf]; omega
   ·go_wp2_with fail
    refine (within_any n j i.imm _ hlt hsmall).mono ?_; rintro e w2 ⟨rfl, rfl⟩
    cases hw : decide (-(j : Int) ≤ i.imm ∧ i.imm < n - j)
    ·have hres := Lib.hid (show errT (targetsOk n 0 l) = 4 by rw [HTJ.out, hs.out, hbad.out, hjm, hw]; rfl)
     clear hw
     go_wp2_with fail
     go_ret
     exact ⟨ret_int (by rw [HN.out]; exact hres.out.symm), HK.out _ hK2⟩
    ·have hres := Lib.hid (show targetsOk n 0 l = targetsOk n (j + 1) (l.drop (j + 1)) by rw [HTJ.out, hs.out, hbad.out, hjm, hw]; rfl)
     clear hw
     go_wp2_with fail
     go_roundw
     case rel => exact ⟨j + 1, by omega, by go_num, hK2, hres.out⟩
     case measure => simp [intOf]; omega
  ·have hres := Lib.hid (show errT (targetsOk n 0 l) = 0 by rw [HTJ.out, HE.out j (by omega)]; rfl)
   go_wp2_with fail
   go_ret
   exact ⟨ret_int (by rw [HN.out]; exact hres.out.symm), HK.out _ hK⟩
set_option maxHeartbeats 2000000 in
theorem allRight_any (A : Option Addr) (c : Nat) (l : List Ins) (w : World) (hr : Row w w.heap.size 5 (.slice A l.length c) l.length (codeCells l)) (hsmall : l.length ≤ 8192) :
  Calls Tryd.prog 65 #[.slice A l.length c] w fun e w' => e = .returned (.bool (l.all rightB)) ∧ Below w.heap.size w w' := by
 obtain ⟨hcl, hcm⟩ := hr.cap
 by_cases hn : l.length = 0
 ·have hl : l = [] := List.eq_nil_of_length_eq_zero hn
  subst hl
  go_enter Tryd.func65, Tryd.ntmps65
  go_wp2_with fail
  refine wp_loop_rounds 1 ?_
  rw [rounds_succ]
  go_wp2_with fail
  go_ret
  exact ⟨rfl, Below.refl _ _⟩
 obtain ⟨b, off, rfl, hb, _⟩ := hr.at_ hn
 have HA := Lib.hid (fun j h => at_some (l := l) (j := j) h)
 have HT := Lib.hid (fun j i h => all_step (j := j) (l := l) (i := i) h)
 have HE := Lib.hid (fun (k : Nat) (h : l.length ≤ k) => List.drop_eq_nil_of_le h)
 have H0 := Lib.hid (show l.all rightB = (l.drop 0).all rightB by rw [List.drop_zero])
 have HC := Lib.hid (fun (x : World) (h : Kept w x) (k : Nat) (i : Ins) (hi : l[k]? = some i) => (h.row hr).ins hi)
 clear hr hb
 go_enter Tryd.func65, Tryd.ntmps65
 go_wp2_with fail
 generalize hN : l.length = n at *
 have HN := Lib.hid hN
 clear hN
 go_loopw [7] (fun i wr => ∃ j : Nat, j ≤ n ∧ i = .int .i64 j ∧ Kept w wr ∧ l.all rightB = (l.drop j).all rightB) (fun i _ => n - (intOf i).toNat)
 case atStart => exact ⟨0, Nat.zero_le _, rfl, Kept.refl _, H0.out⟩
 case round =>
  obtain ⟨j, hj, rfl, hK, hT⟩ := hrel
  have HTJ := Lib.hid hT
  clear hT
  by_cases hlt : j < n
  ·obtain ⟨i, hi⟩ := HA.out j hlt
   have hs := Lib.hid (HT.out j i hi)
   obtain ⟨d0, d1, d2, d3, d4⟩ := HC.out _ hK j i hi
   have k0 : (0 : Int) ≤ j := by omega
   have k1 : (j : Int) < n := by omega
   go_wp2_with fail
   refine (right_any i _).mono ?_; rintro e w1 ⟨rfl, hb2⟩
   have hK2 := (hK.alloc _).to hb2
   clear hb2
   cases hri : rightB i
   ·have hres := Lib.hid (show l.all rightB = false by rw [HTJ.out, hs.out, hri]; rfl)
    go_wp2_with fail
    go_ret
    exact ⟨ret_bool hres.out.symm, hK2⟩
   ·have hres := Lib.hid (show l.all rightB = (l.drop (j + 1)).all rightB by rw [HTJ.out, hs.out, hri]; rfl)
    go_wp2_with fail
    go_roundw
    case rel => exact ⟨j + 1, by omega, by go_num, hK2, hres.out⟩
    case measure => simp [intOf]; omega
  ·have hres := Lib.hid (show l.all rightB = true by rw [HTJ.out, HE.out j (by omega)]; rfl)
   go_wp2_with fail
   go_ret
   exact ⟨ret_bool hres.out.symm, hK⟩
theorem rightZ_fit {l : List Ins} {sz : Int} {m : Nat} : rightZ l sz m = (fitN l.length sz m && l.all rightB && targetsOk l.length 0 l) := by
 unfold rightZ sizesOk fitN
 congr 2
 rw [decide_eq_decide]
 omega
set_option maxHeartbeats 2000000 in
theorem imgRight_any (A : Option Addr) (c : Nat) (sz : Int) (A' : Option Addr) (m c' : Nat) (l : List Ins) (w : World) (hr : Row w w.heap.size 5 (.slice A l.length c) l.length (codeCells l)) (hm : m ≤ c') (hc' : c' ≤ 9223372036854775807) :
  Calls Tryd.prog 33 #[.agg #[.slice A l.length c, .int .i64 sz, .slice A' m c']] w fun e w' => e = .returned (.bool (rightZ l sz m)) ∧ Below w.heap.size w w' := by
 obtain ⟨hcl, hcm⟩ := hr.cap
 have HK := Lib.hid (fun (x : World) (h : Kept (w.alloc (.cells #[.slice A l.length c, .int .i64 sz, .slice A' m c'] 26)) x) => ((Below.refl w.heap.size w).alloc (Nat.le_refl _) _).trans (h.mono (by simp)))
 have hB : w.heap.size < (w.alloc (.cells #[.slice A l.length c, .int .i64 sz, .slice A' m c'] 26)).heap.size := by simp
 have HR := Lib.hid (hr.alloc (Nat.le_refl _) (.cells #[.slice A l.length c, .int .i64 sz, .slice A' m c'] 26) |>.more (Nat.le_of_lt hB))
 have c0 : (w.alloc (.cells #[.slice A l.length c, .int .i64 sz, .slice A' m c'] 26)).cell? ⟨w.heap.size, 0, none⟩ = some (.slice A l.length c) := by go_simp
 have c1 : (w.alloc (.cells #[.slice A l.length c, .int .i64 sz, .slice A' m c'] 26)).cell? ⟨w.heap.size, 1, none⟩ = some (.int .i64 sz) := by go_simp
 have c2 : (w.alloc (.cells #[.slice A l.length c, .int .i64 sz, .slice A' m c'] 26)).cell? ⟨w.heap.size, 2, none⟩ = some (.slice A' m c') := by go_simp
 have HZ := Lib.hid (rightZ_fit (l := l) (sz := sz) (m := m))
 have HS := Lib.hid (fun (h : fitN l.length sz m = true) => (show l.length ≤ 8192 by have := of_decide_eq_true h; omega))
 go_enter Tryd.func33, Tryd.ntmps33
 go_wp2_with fail
 generalize w.alloc (.cells #[.slice A l.length c, .int .i64 sz, .slice A' m c'] 26) = W at *
 have C0 := Lib.hid (fun (x : World) (h : Kept W x) => h.cell hB c0)
 have C1 := Lib.hid (fun (x : World) (h : Kept W x) => h.cell hB c1)
 have C2 := Lib.hid (fun (x : World) (h : Kept W x) => h.cell hB c2)
 have HA := Lib.hid (fun (x : World) (h : Kept W x) (hs : l.length ≤ 8192) => allRight_any A c l x (h.row HR.out) hs)
 have HT := Lib.hid (fun (x : World) (h : Kept W x) (hs : l.length ≤ 8192) => targets_any A c sz (.slice A' m c') l x (h.row HR.out) hs)
 clear c0 c1 c2 hr hB
 refine (numbersOf_any A A' l.length c m c' sz _ (by omega) (by omega)).mono ?_; rintro e w1 ⟨rfl, hb1⟩
 have k1 : Kept W w1 := hb1
 have c0 := C0.out _ k1
 clear hb1
 go_wp2_with fail
 refine (fit_any l.length sz m _).mono ?_; rintro e w2 ⟨rfl, hb2⟩
 have k2 := k1.to hb2
 have c0 := C0.out _ k2
 clear hb2 k1
 cases hf : fitN l.length sz m
 ·have hres := Lib.hid (show rightZ l sz m = false by rw [HZ.out, hf]; rfl)
  go_wp2_with fail
  go_ret
  exact ⟨ret_bool hres.out.symm, HK.out _ k2⟩
 have hs := HS.out hf
 have HAx := Lib.hid (HA.out _ k2 hs)
 go_wp2_with fail
 refine HAx.out.mono ?_; rintro e w3 ⟨rfl, hb3⟩
 have k3 := k2.to hb3
 have c0 := C0.out _ k3
 have c1 := C1.out _ k3
 have c2 := C2.out _ k3
 clear hb3 k2
 cases ha : l.all rightB
 ·have hres := Lib.hid (show rightZ l sz m = false by rw [HZ.out, hf, ha]; rfl)
  go_wp2_with fail
  go_ret
  exact ⟨ret_bool hres.out.symm, HK.out _ k3⟩
 have HTx := Lib.hid (HT.out _ k3 hs)
 go_wp2_with fail
 refine HTx.out.mono ?_; rintro e w4 ⟨rfl, hb4⟩
 have k4 := k3.to hb4
 clear hb4 k3
 cases ht : targetsOk l.length 0 l
 ·have hres := Lib.hid (show rightZ l sz m = false by rw [HZ.out, hf, ha, ht]; rfl)
  have e4 : errT false = 4 := rfl
  rw [e4]
  go_wp2_with fail
  go_ret
  exact ⟨ret_bool hres.out.symm, HK.out _ k4⟩
 ·have hres := Lib.hid (show rightZ l sz m = true by rw [HZ.out, hf, ha, ht]; rfl)
  have e4 : errT true = 0 := rfl
  rw [e4]
  go_wp2_with fail
  go_ret
  exact ⟨ret_bool hres.out.symm, HK.out _ k4⟩
end Go.Proofs.YtcaibahniheohaaDoor.Words

/- What a text's program is: plain mathematics. -/
namespace Go.Proofs.YtcaibahniheohaaDoor.Words
set_option maxRecDepth 100000
open Go.RowKit Go.Shelf Go.Lib
set_option linter.unusedVariables false
set_option linter.unusedSimpArgs false
def checkZ (p : Prog) : AsmR := if targetsOk p.code.length 0 p.code = false then .bad 0 4 else if rightZ p.code p.size p.data.length = true then .ok p else .bad 0 1
def endZ (Z : AsmR) : AsmR := match Z with | .bad a e => .bad a e | .ok p => checkZ p
def partsZ (n : Nat) (Z : Bool × List Tok × List PartZ) : AsmR := if Z.1 = true then endZ (layF Z.2.2 [] Z.2.2 ⟨[], 0, []⟩) else .bad (headAt Z.2.1 n) 5
def asmZ (l : List UInt8) : AsmR := match lexZ l with | .bad a e => .bad a e | .toks t => partsZ l.length (textT t)
/-! ### what holds of each token -/
theorem lexF_all (l : List UInt8) (P : Tok → Prop) (h : ∀ p x, p < l.length → (takeZ l p x).1 = 0 → (∀ t ∈ x.toks, P t) → ∀ t ∈ (takeZ l p x).2.toks, P t) : ∀ f p x, (∀ t ∈ x.toks, P t) → ∀ ts, lexF l f p x = .toks ts → ∀ k ∈ ts, P k
 | 0, p, x, hx, ts, he => by unfold lexF at he; injection he with he; subst he; exact hx
 | f + 1, p, x, hx, ts, he => by
  unfold lexF at he
  split at he
  ·rename_i hp
   split at he
   ·exact lexF_all l P h f _ x hx ts he
   ·split at he
    ·rename_i h0
     exact lexF_all l P h f _ _ (h p x hp h0 hx) ts he
    ·cases he
  ·injection he with he; subst he; exact hx
theorem add_all {P : Tok → Prop} {l : List UInt8} {k n : Int} {p s : Nat} {x : LexS} (hx : ∀ t ∈ x.toks, P t) (h : P ⟨k, n, p, (l.drop p).take s⟩) : ∀ t ∈ (addZ l k n p s x).toks, P t := by
 intro t ht
 unfold addZ at ht
 rcases List.mem_append.1 ht with ht | ht
 ·exact hx t ht
 ·rw [List.mem_singleton.1 ht]; exact h
theorem take_all {P : Tok → Prop} {l : List UInt8} {p : Nat} {x : LexS} (hx : ∀ t ∈ x.toks, P t) (h0 : (takeZ l p x).1 = 0)
  (h4 : runeR (l.drop p) = 10 → P ⟨4, 0, p, (l.drop p).take 1⟩) (h1 : firstR (runeR (l.drop p)) = true → P ⟨1, 0, p, (l.drop p).take (nameZ (l.drop p))⟩) (h3 : signR (runeR (l.drop p)) = true → P ⟨3, 0, p, (l.drop p).take 1⟩)
  (h2 : -4294967296 ≤ (numZ (l.drop p)).1 → (numZ (l.drop p)).1 ≤ 4294967296 → P ⟨2, (numZ (l.drop p)).1, p, (l.drop p).take (numZ (l.drop p)).2⟩) : ∀ t ∈ (takeZ l p x).2.toks, P t := by
 unfold takeZ at h0 ⊢
 split
 ·exact hx
 split
 ·rename_i hr
  unfold lineZ
  split
  ·exact add_all hx (h4 hr)
  ·exact hx
 split
 ·exact hx
 split
 ·exact hx
 split
 ·rename_i hf; exact add_all hx (h1 hf)
 split
 ·rename_i hs; exact add_all hx (h3 hs)
 ·unfold numberZ at h0 ⊢
  split
  ·exact hx
  split
  ·exact hx
  ·rename_i hn; exact add_all hx (h2 (by omega) (by omega))
theorem lexZ_toks {l : List UInt8} {t : List Tok} (h : lexZ l = .toks t) : l.length ≤ 20000 ∧ lexF l l.length 0 ⟨0, false, []⟩ = .toks t := by
 unfold lexZ at h
 by_cases hl : 20000 < l.length
 ·rw [if_pos hl] at h; cases h
 ·rw [if_neg hl] at h; exact ⟨by omega, h⟩
theorem lex_good {l : List UInt8} {t : List Tok} (h : lexZ l = .toks t) : ∀ i k, t[i]? = some k → Stands l t i k := by
 have h2 := lexZ_good (l := l) (lexZ_toks h).1
 rw [h] at h2
 exact h2
theorem lex_in {l : List UInt8} {t : List Tok} (h : lexZ l = .toks t) : ∀ k ∈ t, TokIn k := by
 obtain ⟨h1, h2⟩ := lexZ_toks h
 have hnum : ∀ k ∈ t, -4294967296 ≤ k.num ∧ k.num ≤ 4294967296 :=
  lexF_all l (fun k => -4294967296 ≤ k.num ∧ k.num ≤ 4294967296) (fun p x hp h0 hx => take_all hx h0 (fun _ => by simp) (fun _ => by simp) (fun _ => by simp) (fun a b => ⟨a, b⟩)) _ _ _ (by simp) t h2
 intro k hk
 obtain ⟨i, hi⟩ := List.mem_iff_getElem?.1 hk
 have hs := (lex_good h i k hi).fits
 obtain ⟨q1, q2⟩ := hnum k hk
 exact ⟨by omega, by omega, q1, q2⟩
theorem lex_order {l : List UInt8} {t : List Tok} (h : lexZ l = .toks t) : (t.map (·.at_)).Pairwise (· < ·) := by
 have hg := lex_good h
 have key : ∀ (j i : Nat), i < j → ∀ (a b : Tok), t[i]? = some a → t[j]? = some b → a.at_ < b.at_ := by
  intro j
  induction j with
  | zero => intro i hi; omega
  | succ j ih =>
   intro i hi a b ha hb
   obtain ⟨c, hc⟩ : ∃ c, t[j]? = some c := ⟨_, List.getElem?_eq_getElem (by have := (List.getElem?_eq_some_iff.1 hb).1; omega)⟩
   have h1 := (hg (j + 1) b hb).from_
   rw [endOf_succ, hc] at h1
   have h2 := (hg j c hc).some_
   have h3 : 0 < c.text.length := List.length_pos_iff.2 h2
   have h4 : c.at_ + c.text.length ≤ b.at_ := h1
   by_cases hij : i = j
   ·subst hij; rw [ha] at hc; injection hc with hc; subst hc; omega
   ·have := ih i (by omega) a c ha hc; omega
 rw [List.pairwise_map, List.pairwise_iff_getElem]
 intro i j hi hj hij
 exact key j i hij _ _ (List.getElem?_eq_getElem hi) (List.getElem?_eq_getElem hj)
theorem lex_len {l : List UInt8} {t : List Tok} (h : lexZ l = .toks t) : t.length ≤ l.length := by
 have hg := lex_good h
 have key : ∀ (j : Nat) (b : Tok), t[j]? = some b → j ≤ b.at_ := by
  intro j
  induction j with
  | zero => intro b hb; omega
  | succ j ih =>
   intro b hb
   obtain ⟨c, hc⟩ : ∃ c, t[j]? = some c := ⟨_, List.getElem?_eq_getElem (by have := (List.getElem?_eq_some_iff.1 hb).1; omega)⟩
   have h1 := (hg (j + 1) b hb).from_
   rw [endOf_succ, hc] at h1
   have h3 : 0 < c.text.length := List.length_pos_iff.2 (hg j c hc).some_
   have h4 : c.at_ + c.text.length ≤ b.at_ := h1
   have := ih c hc; omega
 cases hn : t.length with
 | zero => exact Nat.zero_le _
 | succ n =>
  obtain ⟨c, hc⟩ : ∃ c, t[n]? = some c := ⟨_, List.getElem?_eq_getElem (by omega)⟩
  have h1 := key n c hc
  have h2 := (hg n c hc).fits
  have h3 : 0 < c.text.length := List.length_pos_iff.2 (hg n c hc).some_
  omega
/-! ### where the parts of a text begin -/
def Sub (Z : Bool × List Tok × List PartZ) (r : List Tok) : Prop := (Z.2.2.map (·.at_) ++ Z.2.1.map (·.at_)).Sublist (r.map (·.at_))
theorem Sub.id (b : Bool) (r : List Tok) : Sub (b, r, []) r := List.Sublist.refl _
theorem Sub.append {Z Y : Bool × List Tok × List PartZ} {r : List Tok} {b : Bool} (h : Sub Z r) (g : Sub Y Z.2.1) : Sub (b, Y.2.1, Z.2.2 ++ Y.2.2) r := by
 unfold Sub at *
 simp only [List.map_append, List.append_assoc]
 exact (List.Sublist.append_left g _).trans h
theorem regT_sub (r : List Tok) : (regT r).2.Sublist r := by
 cases r with
 | nil => exact List.Sublist.refl _
 | cons t ts =>
  have h : regT (t :: ts) = match regZ t.text with | some n => (some n, ts) | none => (none, t :: ts) := rfl
  rw [h]
  cases regZ t.text with
  | none => exact List.Sublist.refl _
  | some n => exact List.sublist_cons_self _ _
theorem immT_sub (r : List Tok) : (immT r).2.Sublist r := by
 cases r with
 | nil => exact List.Sublist.refl _
 | cons t ts =>
  have h : immT (t :: ts) = if t.kind = 2 then (some t.num, ts) else (none, t :: ts) := rfl
  rw [h]
  split
  ·exact List.sublist_cons_self _ _
  ·exact List.Sublist.refl _
theorem signT_sub (c : List UInt8) (r : List Tok) : (signT c r).2.Sublist r := by
 cases r with
 | nil => exact List.Sublist.refl _
 | cons t ts =>
  have h : signT c (t :: ts) = if isS t c = true then (true, ts) else (false, t :: ts) := rfl
  rw [h]
  split
  ·exact List.sublist_cons_self _ _
  ·exact List.Sublist.refl _
theorem fieldT_sub (c : Int) (x : PartZ) (r : List Tok) : (fieldT c x r).2.2.Sublist r := by
 have h1 := regT_sub r
 have h2 := immT_sub r
 have h3 := signT_sub [UInt8.ofNat c.toNat] r
 unfold fieldT
 split
 ·generalize regT r = Q at *; obtain ⟨o, ts⟩ := Q; cases o <;> exact h1
 split
 ·generalize regT r = Q at *; obtain ⟨o, ts⟩ := Q; cases o <;> exact h1
 split
 ·generalize regT r = Q at *; obtain ⟨o, ts⟩ := Q; cases o <;> exact h1
 split
 ·generalize immT r = Q at *; obtain ⟨o, ts⟩ := Q; cases o <;> exact h2
 split
 ·cases r with
  | nil => exact List.Sublist.refl _
  | cons t ts =>
   by_cases hk : t.kind = 1
   ·simp only [hk, if_true]; exact List.sublist_cons_self _ _
   ·simp only [hk, if_false]
    generalize immT (t :: ts) = Q at *; obtain ⟨o, ts2⟩ := Q; cases o <;> exact h2
 ·exact h3
theorem fieldsT_sub : ∀ (l : List UInt8) (x : PartZ) (r : List Tok), (fieldsT l x r).2.2.Sublist r
 | [], x, r => List.Sublist.refl _
 | c :: cs, x, r => by
  unfold fieldsT
  have h1 := fieldT_sub c.toNat x r
  split
  ·exact (fieldsT_sub cs _ _).trans h1
  ·exact h1
theorem fieldT_at (c : Int) (x : PartZ) (r : List Tok) : (fieldT c x r).2.1.at_ = x.at_ ∧ (fieldT c x r).2.1.kind = x.kind ∧ (fieldT c x r).2.1.name = x.name ∧ ((fieldT c x r).2.1.target = x.target ∨ (fieldT c x r).2.1.target ∈ r) := by
 unfold fieldT
 split
 ·generalize regT r = Q at *; obtain ⟨o, ts⟩ := Q; cases o <;> exact ⟨rfl, rfl, rfl, .inl rfl⟩
 split
 ·generalize regT r = Q at *; obtain ⟨o, ts⟩ := Q; cases o <;> exact ⟨rfl, rfl, rfl, .inl rfl⟩
 split
 ·generalize regT r = Q at *; obtain ⟨o, ts⟩ := Q; cases o <;> exact ⟨rfl, rfl, rfl, .inl rfl⟩
 split
 ·generalize immT r = Q at *; obtain ⟨o, ts⟩ := Q; cases o <;> exact ⟨rfl, rfl, rfl, .inl rfl⟩
 split
 ·cases r with
  | nil => exact ⟨rfl, rfl, rfl, .inl rfl⟩
  | cons t ts =>
   by_cases hk : t.kind = 1
   ·exact ⟨by simp [hk], by simp [hk], by simp [hk], by right; simp [hk]⟩
   ·simp only [hk, if_false]
    generalize immT (t :: ts) = Q at *; obtain ⟨o, ts2⟩ := Q; cases o <;> exact ⟨rfl, rfl, rfl, .inl rfl⟩
 ·exact ⟨rfl, rfl, rfl, .inl rfl⟩
theorem fieldsT_at : ∀ (l : List UInt8) (x : PartZ) (r : List Tok), (fieldsT l x r).2.1.at_ = x.at_ ∧ (fieldsT l x r).2.1.kind = x.kind ∧ (fieldsT l x r).2.1.name = x.name ∧ ((fieldsT l x r).2.1.target = x.target ∨ (fieldsT l x r).2.1.target ∈ r)
 | [], x, r => ⟨rfl, rfl, rfl, .inl rfl⟩
 | c :: cs, x, r => by
  unfold fieldsT
  obtain ⟨h1, h2, h3, h4⟩ := fieldT_at c.toNat x r
  have hs := fieldT_sub c.toNat x r
  split
  ·obtain ⟨g1, g2, g3, g4⟩ := fieldsT_at cs (fieldT c.toNat x r).2.1 (fieldT c.toNat x r).2.2
   refine ⟨g1.trans h1, g2.trans h2, g3.trans h3, ?_⟩
   rcases g4 with g4 | g4
   ·rcases h4 with h4 | h4
    ·exact .inl (g4.trans h4)
    ·exact .inr (by rw [g4]; exact h4)
   ·exact .inr (hs.subset g4)
  ·exact ⟨h1, h2, h3, h4⟩
theorem insT_sub (op : Int) (t : Tok) (r : List Tok) : Sub (insT op t.at_ r) (t :: r) := by
 have h1 := (fieldsT_sub (shapeZ op) ⟨2, t.at_, 0, [], ⟨op, 0, 0, 0, 0⟩, tok0⟩ r).map (·.at_)
 have h2 := (fieldsT_at (shapeZ op) ⟨2, t.at_, 0, [], ⟨op, 0, 0, 0, 0⟩, tok0⟩ r).1
 unfold insT Sub
 split
 ·simp only [List.map_cons, List.map_nil, List.cons_append, List.nil_append, h2]
  exact List.Sublist.cons_cons _ h1
 ·simp only [List.map_nil, List.nil_append, List.map_cons]
  exact List.Sublist.cons _ h1
theorem numT_sub (k : Int) (r : List Tok) : Sub (numT k r) r := by
 cases r with
 | nil => exact List.Sublist.refl _
 | cons t ts =>
  have h : numT k (t :: ts) = if t.kind = 2 then (true, ts, [⟨k, t.at_, t.num, [], ins0, tok0⟩]) else (false, t :: ts, []) := rfl
  rw [h]
  split
  ·exact List.Sublist.refl _
  ·exact List.Sublist.refl _
theorem byteF_sub : ∀ f ok r, Sub (byteF f ok r) r
 | 0, ok, r => Sub.id _ _
 | f + 1, ok, r => by
  unfold byteF
  split
  ·split
   ·have h1 : Sub ((signT [44] r).1, (signT [44] r).2, []) r := by unfold Sub; exact (signT_sub [44] r).map _
    have h2 := numT_sub 4 (signT [44] r).2
    have h3 := byteF_sub f (numT 4 (signT [44] r).2).1 (numT 4 (signT [44] r).2).2.1
    have h4 := Sub.append (b := (byteF f (numT 4 (signT [44] r).2).1 (numT 4 (signT [44] r).2).2.1).1) h2 h3
    have h5 := Sub.append (b := (byteF f (numT 4 (signT [44] r).2).1 (numT 4 (signT [44] r).2).2.1).1) h1 h4
    simpa only [List.nil_append] using h5
   ·exact Sub.id _ _
  ·exact Sub.id _ _
theorem bytesT_sub (r : List Tok) : Sub (bytesT r) r := by
 unfold bytesT
 exact Sub.append (numT_sub 4 r) (byteF_sub _ _ _)
theorem stmtT_sub (r : List Tok) : Sub (stmtT r) r := by
 cases r with
 | nil => exact List.Sublist.refl _
 | cons t ts =>
  by_cases h : t.kind = 1
  ·rw [stmtT_one t ts h]
   split
   ·exact insT_sub _ _ _
   split
   ·exact (numT_sub 3 ts).trans (List.sublist_cons_self _ _)
   split
   ·exact (bytesT_sub ts).trans (List.sublist_cons_self _ _)
   ·exact Sub.id _ _
  ·rw [stmtT_kind 0 (show (nextT (t :: ts) 0).kind ≠ 1 from h)]; exact Sub.id _ _
theorem labT_sub (r : List Tok) : Sub (labT r) r := by
 rcases r with _ | ⟨t, _ | ⟨c, ts⟩⟩
 ·exact List.Sublist.refl _
 ·exact List.Sublist.refl _
 ·rw [labT_two]
  split
  ·exact List.Sublist.cons_cons _ (List.sublist_cons_self _ _)
  ·exact Sub.id _ _
theorem labelsF_sub : ∀ f r, Sub (true, (labelsF f r).1, (labelsF f r).2) r
 | 0, r => Sub.id _ _
 | f + 1, r => by
  rw [labelsF_lab]
  split
  ·exact Sub.append (labT_sub r) (labelsF_sub f _)
  ·exact Sub.id _ _
theorem endT_sub (r : List Tok) : (endT r).2.Sublist r := by
 cases r with
 | nil => exact List.Sublist.refl _
 | cons t ts =>
  have h : endT (t :: ts) = if t.kind = 4 then (true, ts) else (false, t :: ts) := rfl
  rw [h]; split
  ·exact List.sublist_cons_self _ _
  ·exact List.Sublist.refl _
theorem lineT_sub (r : List Tok) : Sub (lineT r) r := by
 have h1 := labelsF_sub r.length r
 have h2 := stmtT_sub (labelsF r.length r).1
 have h3 := (endT_sub (stmtT (labelsF r.length r).1).2.1).map (·.at_)
 unfold lineT
 split
 ·have h4 := Sub.append (b := true) h1 h2
  unfold Sub at h4 ⊢
  exact (List.Sublist.append_left h3 _).trans h4
 ·exact Sub.append (b := false) h1 h2
theorem textF_sub : ∀ f r, Sub (textF f r) r
 | 0, r => Sub.id _ _
 | f + 1, r => by
  unfold textF
  split
  ·rename_i h; subst h; exact Sub.id _ _
  ·split
   ·exact Sub.append (lineT_sub r) (textF_sub f _)
   ·exact lineT_sub r
/-! ### what parts are -/
def PartOk (x : PartZ) : Prop := x.name.length ≤ 1000000 ∧ x.target.text.length ≤ 1000000
theorem part_num {k n : Int} {a : Nat} : PartOk ⟨k, a, n, [], ins0, tok0⟩ := ⟨by simp, by simp⟩
theorem insT_ok (op : Int) (at_ : Nat) (r : List Tok) (h : ∀ t ∈ r, TokIn t) : (∀ x ∈ (insT op at_ r).2.2, PartOk x) ∧ ∀ t ∈ (insT op at_ r).2.1, TokIn t := by
 have h1 := fieldsT_sub (shapeZ op) ⟨2, at_, 0, [], ⟨op, 0, 0, 0, 0⟩, tok0⟩ r
 obtain ⟨_, _, h2, h3⟩ := fieldsT_at (shapeZ op) ⟨2, at_, 0, [], ⟨op, 0, 0, 0, 0⟩, tok0⟩ r
 unfold insT
 split
 ·refine ⟨fun x hx => ?_, fun t ht => h t (h1.subset ht)⟩
  rw [List.mem_singleton.1 hx]
  refine ⟨by rw [h2]; simp, ?_⟩
  rcases h3 with h3 | h3
  ·rw [h3]; simp
  ·exact (h _ h3).text
 ·exact ⟨fun x hx => by simp at hx, fun t ht => h t (h1.subset ht)⟩
theorem numT_ok (k : Int) (r : List Tok) (h : ∀ t ∈ r, TokIn t) : (∀ x ∈ (numT k r).2.2, PartOk x) ∧ ∀ t ∈ (numT k r).2.1, TokIn t := by
 cases r with
 | nil => exact ⟨fun x hx => by simp [numT] at hx, h⟩
 | cons t ts =>
  have e : numT k (t :: ts) = if t.kind = 2 then (true, ts, [⟨k, t.at_, t.num, [], ins0, tok0⟩]) else (false, t :: ts, []) := rfl
  rw [e]
  split
  ·refine ⟨fun x hx => ?_, fun u hu => h u (List.mem_cons_of_mem _ hu)⟩
   rw [List.mem_singleton.1 hx]; exact part_num
  ·exact ⟨fun x hx => by simp at hx, h⟩
theorem byteF_ok : ∀ f ok r, (∀ t ∈ r, TokIn t) → (∀ x ∈ (byteF f ok r).2.2, PartOk x) ∧ ∀ t ∈ (byteF f ok r).2.1, TokIn t
 | 0, ok, r, h => ⟨fun x hx => by simp [byteF] at hx, h⟩
 | f + 1, ok, r, h => by
  unfold byteF
  split
  ·split
   ·obtain ⟨a1, a2⟩ := numT_ok 4 (signT [44] r).2 (fun t ht => h t ((signT_sub [44] r).subset ht))
    obtain ⟨b1, b2⟩ := byteF_ok f (numT 4 (signT [44] r).2).1 (numT 4 (signT [44] r).2).2.1 a2
    refine ⟨fun x hx => ?_, b2⟩
    rcases List.mem_append.1 hx with hx | hx
    ·exact a1 x hx
    ·exact b1 x hx
   ·exact ⟨fun x hx => by simp at hx, h⟩
  ·exact ⟨fun x hx => by simp at hx, h⟩
theorem bytesT_ok (r : List Tok) (h : ∀ t ∈ r, TokIn t) : (∀ x ∈ (bytesT r).2.2, PartOk x) ∧ ∀ t ∈ (bytesT r).2.1, TokIn t := by
 unfold bytesT
 obtain ⟨a1, a2⟩ := numT_ok 4 r h
 obtain ⟨b1, b2⟩ := byteF_ok r.length (numT 4 r).1 (numT 4 r).2.1 a2
 refine ⟨fun x hx => ?_, b2⟩
 rcases List.mem_append.1 hx with hx | hx
 ·exact a1 x hx
 ·exact b1 x hx
theorem stmtT_ok (r : List Tok) (h : ∀ t ∈ r, TokIn t) : (∀ x ∈ (stmtT r).2.2, PartOk x) ∧ ∀ t ∈ (stmtT r).2.1, TokIn t := by
 cases r with
 | nil => exact ⟨fun x hx => by simp [stmtT] at hx, h⟩
 | cons t ts =>
  have hts : ∀ u ∈ ts, TokIn u := fun u hu => h u (List.mem_cons_of_mem _ hu)
  by_cases hk : t.kind = 1
  ·rw [stmtT_one t ts hk]
   split
   ·exact insT_ok _ _ _ hts
   split
   ·exact numT_ok _ _ hts
   split
   ·exact bytesT_ok _ hts
   ·exact ⟨fun x hx => by simp at hx, h⟩
  ·rw [stmtT_kind 0 (show (nextT (t :: ts) 0).kind ≠ 1 from hk)]; exact ⟨fun x hx => by simp at hx, h⟩
theorem labT_ok (r : List Tok) (h : ∀ t ∈ r, TokIn t) : (∀ x ∈ (labT r).2.2, PartOk x) ∧ ∀ t ∈ (labT r).2.1, TokIn t := by
 rcases r with _ | ⟨t, _ | ⟨c, ts⟩⟩
 ·exact ⟨fun x hx => by simp [labT, labelT] at hx, h⟩
 ·exact ⟨fun x hx => by simp [labT, labelT] at hx, h⟩
 ·rw [labT_two]
  split
  ·refine ⟨fun x hx => ?_, fun u hu => h u (List.mem_cons_of_mem _ (List.mem_cons_of_mem _ hu))⟩
   rw [List.mem_singleton.1 hx]
   exact ⟨(h t (by simp)).text, by simp⟩
  ·exact ⟨fun x hx => by simp at hx, h⟩
theorem labelsF_ok : ∀ f r, (∀ t ∈ r, TokIn t) → (∀ x ∈ (labelsF f r).2, PartOk x) ∧ ∀ t ∈ (labelsF f r).1, TokIn t
 | 0, r, h => ⟨fun x hx => by simp [labelsF] at hx, h⟩
 | f + 1, r, h => by
  rw [labelsF_lab]
  split
  ·obtain ⟨a1, a2⟩ := labT_ok r h
   obtain ⟨b1, b2⟩ := labelsF_ok f _ a2
   refine ⟨fun x hx => ?_, b2⟩
   rcases List.mem_append.1 hx with hx | hx
   ·exact a1 x hx
   ·exact b1 x hx
  ·exact ⟨fun x hx => by simp at hx, h⟩
theorem lineT_ok (r : List Tok) (h : ∀ t ∈ r, TokIn t) : (∀ x ∈ (lineT r).2.2, PartOk x) ∧ ∀ t ∈ (lineT r).2.1, TokIn t := by
 obtain ⟨a1, a2⟩ := labelsF_ok r.length r h
 obtain ⟨b1, b2⟩ := stmtT_ok _ a2
 have hp : ∀ x ∈ (labelsF r.length r).2 ++ (stmtT (labelsF r.length r).1).2.2, PartOk x := by
  intro x hx
  rcases List.mem_append.1 hx with hx | hx
  ·exact a1 x hx
  ·exact b1 x hx
 unfold lineT
 split
 ·exact ⟨hp, fun t ht => b2 t ((endT_sub _).subset ht)⟩
 ·exact ⟨hp, b2⟩
theorem textF_ok : ∀ f r, (∀ t ∈ r, TokIn t) → (∀ x ∈ (textF f r).2.2, PartOk x)
 | 0, r, h => fun x hx => by simp [textF] at hx
 | f + 1, r, h => by
  unfold textF
  split
  ·exact fun x hx => by simp at hx
  ·obtain ⟨a1, a2⟩ := lineT_ok r h
   split
   ·intro x hx
    rcases List.mem_append.1 hx with hx | hx
    ·exact a1 x hx
    ·exact textF_ok f _ a2 x hx
   ·exact a1
theorem textF_len : ∀ f r, (textF f r).2.2.length + (textF f r).2.1.length ≤ r.length
 | 0, r => by simp [textF]
 | f + 1, r => by
  unfold textF
  split
  ·simp
  ·have h1 := lineT_len r
   split
   ·have h2 := textF_len f (lineT r).2.1
    simp only [List.length_append]; omega
   ·exact h1
theorem parts_order {t : List Tok} (h : (t.map (·.at_)).Pairwise (· < ·)) : ((textT t).2.2.map (·.at_)).Pairwise (· < ·) :=
 (List.pairwise_append.1 (List.Pairwise.sublist (textF_sub _ t) h)).1
theorem layF_step {pre xs : List PartZ} {x : PartZ} (p : Prog) (ho : ((pre ++ x :: xs).map (·.at_)).Pairwise (· < ·)) :
  layF (pre ++ x :: xs) pre (x :: xs) p = match lay1 (fun t => firstL t (pre ++ x :: xs) 0) x p with | .bad a e => .bad a e | .ok p' => layF (pre ++ x :: xs) (pre ++ [x]) xs p' := by
 have hd : ∀ y ∈ pre, y.at_ ≠ x.at_ := by
  intro y hy
  rw [List.map_append, List.pairwise_append] at ho
  have := ho.2.2 y.at_ (List.mem_map_of_mem hy) x.at_ (by simp)
  omega
 conv => lhs; unfold layF
 unfold lay1
 by_cases h1 : x.kind = 1
 ·rw [if_pos h1, if_pos h1]
  have hh := firstL_has x.name pre 0
  have hf : firstL x.name (pre ++ x :: xs) 0 = match firstL x.name pre 0 with | some r => some r | none => some ((x.at_ : Int), (0 : Int) + nIns pre) := by
   rw [firstL_append, firstL_cons, if_pos ⟨h1, rfl⟩]
   cases firstL x.name pre 0 <;> rfl
  simp only [hf]
  cases hq : firstL x.name pre 0 with
  | none =>
   rw [hq] at hh
   rw [← hh]
   simp
  | some r =>
   rw [hq] at hh
   rw [← hh]
   obtain ⟨a, q⟩ := r
   obtain ⟨_, _, y, hy, _, _, hya⟩ := firstL_in hq
   have := hd y hy
   have hne : a ≠ (x.at_ : Int) := by omega
   simp [hne]
 ·rw [if_neg h1, if_neg h1]
  by_cases h3 : x.kind = 3
  ·rw [if_pos h3, if_pos h3]
  ·rw [if_neg h3, if_neg h3]
   by_cases h4 : x.kind = 4
   ·rw [if_pos h4, if_pos h4]
    by_cases hb : x.num < 0 ∨ 255 < x.num
    ·rw [if_pos hb, if_pos hb]
    ·rw [if_neg hb, if_neg hb]
   ·rw [if_neg h4, if_neg h4]
    by_cases h2 : x.kind = 2
    ·rw [if_pos h2, if_pos h2]
     unfold aimZ ins1
     by_cases ht : x.target.kind = 1
     ·rw [if_pos ht, if_pos ht, firstL_place]
      cases hq : firstL x.target.text (pre ++ x :: xs) 0 with
      | none => simp [hq]
      | some r =>
       unfold put1
       cases hrt : rightB { x.ins with imm := r.2 - p.code.length } <;> simp [hrt, hq]
     ·rw [if_neg ht, if_neg ht]
      unfold put1
      cases hrt : rightB x.ins <;> simp [hrt]
    ·rw [if_neg h2, if_neg h2]
theorem lay1_len {f : List UInt8 → Option (Int × Int)} {x : PartZ} {p p' : Prog} (h : lay1 f x p = .ok p') : p'.code.length ≤ p.code.length + (if x.kind = 2 then 1 else 0) ∧ p'.data.length ≤ p.data.length + 1 := by
 unfold lay1 ins1 put1 at h
 repeat' split at h
 all_goals first
  | (cases h; done)
  | (injection h with h; subst h; simp_all; try omega)
end Go.Proofs.YtcaibahniheohaaDoor.Words

/- Contract of package asm's check. -/
namespace Go.Proofs.YtcaibahniheohaaDoor.Words
set_option maxRecDepth 100000
open Go.RowKit Go.Shelf Go.Lib
set_option linter.unusedVariables false
set_option linter.unusedSimpArgs false
def checkE (l : List Ins) (sz : Int) (m : Nat) : Int := if targetsOk l.length 0 l = false then 4 else if rightZ l sz m = true then 0 else 1
theorem checkE_z (p : Prog) : checkZ p = if checkE p.code p.size p.data.length = 0 then .ok p else .bad 0 (checkE p.code p.size p.data.length) := by
 unfold checkZ checkE
 by_cases h : targetsOk p.code.length 0 p.code = false
 ·rw [if_pos h, if_pos h, if_neg (by decide)]
 ·rw [if_neg h, if_neg h]
  by_cases h2 : rightZ p.code p.size p.data.length = true
  ·rw [if_pos h2, if_pos h2, if_pos rfl]
  ·rw [if_neg h2, if_neg h2, if_neg (by decide)]
set_option maxHeartbeats 2000000 in
theorem asmCheck_any (A : Option Addr) (c : Nat) (sz : Int) (A' : Option Addr) (m c' : Nat) (l : List Ins) (w : World) (hr : Row w w.heap.size 5 (.slice A l.length c) l.length (codeCells l)) (hm : m ≤ c') (hc' : c' ≤ 9223372036854775807) (hsmall : l.length ≤ 8192) :
  Calls Tryd.prog 20 #[.agg #[.slice A l.length c, .int .i64 sz, .slice A' m c']] w fun e w' => e = .returned (.int .i64 (checkE l sz m)) ∧ Below w.heap.size w w' := by
 have X1 : Hid (Box (w.alloc (.cells #[.slice A l.length c, .int .i64 sz, .slice A' m c'] 26)) w.heap.size [.slice A l.length c, .int .i64 sz, .slice A' m c']) := Box.new w [.slice A l.length c, .int .i64 sz, .slice A' m c'] _
 have B1 : Hid (Below w.heap.size w (w.alloc (.cells #[.slice A l.length c, .int .i64 sz, .slice A' m c'] 26))) := (Below.refl _ _).alloc (Nat.le_refl _) _
 have HR := Lib.hid hr
 have cT := Lib.hid (targets_any A c sz (.slice A' m c') l (w.alloc (.cells #[.slice A l.length c, .int .i64 sz, .slice A' m c'] 26)) ((hr.alloc (Nat.le_refl _) _).more (by simp)) hsmall)
 have HM := Lib.hid hm
 have HC := Lib.hid hc'
 have hW : (w.alloc (.cells #[.slice A l.length c, .int .i64 sz, .slice A' m c'] 26)).heap.size = w.heap.size + 1 := by simp
 clear hr hm hc' hsmall
 go_enter Tryd.func20, Tryd.ntmps20
 go_wp2_with fail
 refine cT.out.mono ?_; rintro en w2 ⟨rfl, hb2⟩
 cases ht : targetsOk l.length 0 l
 ·have e4 : errT false = 4 := rfl
  rw [e4]
  have HB2 := Lib.hid (B1.out.trans (hb2.mono (by omega)))
  have HE : Hid (checkE l sz m = 4) := by show _ = _; unfold checkE; rw [if_pos ht]
  clear hb2 ht
  go_wp2_with fail
  go_ret
  exact ⟨by rw [HE.out]; rfl, HB2.out⟩
 ·have e4 : errT true = 0 := rfl
  rw [e4]
  have HB2 := Lib.hid (B1.out.trans (hb2.mono (by omega)))
  have X2 := X1.out.below hb2 (by omega)
  have y0 := X2.cell (k := 0) rfl
  have y1 := X2.cell (k := 1) rfl
  have y2 := X2.cell (k := 2) rfl
  have cR := Lib.hid (imgRight_any A c sz A' m c' l w2 ((HR.out.below HB2.out).more HB2.out.size) HM.out HC.out)
  have HT := Lib.hid ht
  clear hb2 ht X2
  go_wp2_with fail
  refine cR.out.mono ?_; rintro en w3 ⟨rfl, hb3⟩
  have HB3 := Lib.hid (HB2.out.trans (hb3.mono HB2.out.size))
  clear hb3
  cases hz : rightZ l sz m
  ·have HE : Hid (checkE l sz m = 1) := by show _ = _; unfold checkE; rw [if_neg (by rw [HT.out]; decide), hz]; rfl
   clear hz
   go_wp2_with fail
   go_ret
   exact ⟨by rw [HE.out]; rfl, HB3.out⟩
  ·have HE : Hid (checkE l sz m = 0) := by show _ = _; unfold checkE; rw [if_neg (by rw [HT.out]; decide), hz]; rfl
   clear hz
   go_wp2_with fail
   go_ret
   exact ⟨by rw [HE.out]; rfl, HB3.out⟩
end Go.Proofs.YtcaibahniheohaaDoor.Words

/- Contracts of package asm's Names, and of the document's own. -/
namespace Go.Proofs.YtcaibahniheohaaDoor.Words
set_option maxRecDepth 100000
open Go.RowKit Go.Shelf Go.Lib
set_option linter.unusedVariables false
set_option linter.unusedSimpArgs false
def allN : List UInt8 := namesZ.flatMap (fun t => t ++ [32])
theorem allN_len : allN.length = 169 := by decide +kernel
theorem allN_low : ∀ c ∈ allN, c.toNat < 128 := by decide +kernel
def atN : Nat → List (List UInt8) × Nat
 | 0 => ([], 0)
 | k + 1 => if allN[k]? = some 32 then ((atN k).1 ++ [(allN.drop (atN k).2).take (k - (atN k).2)], k + 1) else atN k
theorem atN_le : ∀ k, (atN k).2 ≤ k ∧ (atN k).1.length ≤ k
 | 0 => ⟨Nat.le_refl _, Nat.le_refl _⟩
 | k + 1 => by
  have := atN_le k
  unfold atN
  split
  ·simp; omega
  ·omega
theorem atN_end : (atN 169).1 = namesZ := by decide +kernel
theorem info_str : (Tryd.prog.info? 9).map (fun i => (i.zero, i.size, i.bytes)) = some (some (.string ⟨#[]⟩), 1, 16) := by kernel_rfl
theorem lit_eq : (⟨#[97, 100, 100, 32, 115, 117, 98, 32, 97, 110, 100, 32, 111, 114, 32, 120, 111, 114, 32, 115, 108, 108, 32, 115, 114, 108, 32, 115, 114, 97, 32, 115, 108, 116, 32, 115, 108, 116, 117, 32, 109, 117, 108, 32, 109, 117, 108, 104, 32, 100, 105, 118, 32, 100, 105, 118, 117, 32, 114, 101, 109, 32, 114, 101, 109, 117, 32, 97, 100, 100, 105, 32, 97, 110, 100, 105, 32, 111, 114, 105, 32, 120, 111, 114, 105, 32, 115, 108, 116, 105, 32, 115, 108, 108, 105, 32, 115, 114, 108, 105, 32, 115, 114, 97, 105, 32, 108, 117, 105, 32, 108, 119, 32, 108, 104, 32, 108, 104, 117, 32, 108, 98, 32, 108, 98, 117, 32, 115, 119, 32, 115, 104, 32, 115, 98, 32, 98, 101, 113, 32, 98, 110, 101, 32, 98, 108, 116, 32, 98, 103, 101, 32, 98, 108, 116, 117, 32, 98, 103, 101, 117, 32, 106, 32, 104, 97, 108, 116, 32]⟩ : ByteArray) = txt allN := by decide +kernel
set_option maxHeartbeats 4000000 in
theorem names_any (w : World) : Calls Tryd.prog 14 #[] w fun e w' => ∃ v, e = .returned v ∧ w'.ownsRow w.heap.size 9 1 v 41 namesL ∧ Below w.heap.size w w' := by
 obtain ⟨i0, hi, hz0, hz1, hz2⟩ := info_parts info_str
 have HI := Lib.hid hi
 have HZ0 := Lib.hid hz0
 have HZ1 := Lib.hid hz1
 have HZ2 := Lib.hid hz2
 clear hi hz0 hz1 hz2
 go_enter Tryd.func14, Tryd.ntmps14
 go_wp2_with fail
 go_loopw [1, 2] (fun v bg wr => ∃ k : Nat, k ≤ 169 ∧ bg = .int .i64 ((atN k).2 : Int) ∧ wr.heap[w.heap.size]? = some (.stringIter (txt allN) k) ∧ wr.ownsRow (w.heap.size + 1) 9 1 v (atN k).1.length ((atN k).1.map (fun t => Value.string (txt t))) ∧ Below w.heap.size w wr) (fun _ _ wr => 169 - wr.iterPos w.heap.size)
 case atStart =>
  refine ⟨0, Nat.zero_le _, rfl, ?_, World.ownsRow_nil _ _ _ _, (Below.refl _ w).alloc (Nat.le_refl _) _⟩
  rw [← lit_eq]
  exact World.iter_heap w _ 0
 case round =>
  obtain ⟨k, hk, rfl, hit, hown, hB⟩ := hrel
  have HIT := Lib.hid hit
  have HO := Lib.hid hown
  have HB := Lib.hid hB
  have HK := Lib.hid hk
  obtain ⟨A, cc, rfl⟩ := (Row.of_own hown).form
  have hsz : w.heap.size < wr.heap.size := (Array.getElem?_eq_some_iff.1 hit).1
  have hal := allN_len
  have hts : (txt allN).size = 169 := by rw [txt_sz, allN_len]
  obtain ⟨b0, b1⟩ := atN_le k
  by_cases hlt : k < 169
  ·obtain ⟨c, hc⟩ : ∃ c, allN[k]? = some c := ⟨_, List.getElem?_eq_getElem (by omega)⟩
   have hc128 := allN_low c (List.mem_iff_getElem?.2 ⟨k, hc⟩)
   have hnx := fun ty => next_rune (P := Tryd.prog) hit (show k < (txt allN).size by omega) ty
   obtain ⟨q1, q2⟩ := ascii_at hc hc128
   rw [txt_data, q1, q2] at hnx
   have hit2 := Lib.hid (Lib.iterAt_heap wr w.heap.size (txt allN) k (k + 1) hit)
   have HB2 := Lib.hid (Lib.below_iterAt hB (k := w.heap.size) (Nat.le_refl _) (txt allN) (k + 1))
   have hsz2 : (wr.iterAt w.heap.size (txt allN) (k + 1)).heap.size = wr.heap.size := Lib.iterAt_size _ _ _ _
   have HSZ2 := Lib.hid hsz2
   have HO2 : Hid ((wr.iterAt w.heap.size (txt allN) (k + 1)).ownsRow (w.heap.size + 1) 9 1 (.slice A (atN k).1.length cc) (atN k).1.length ((atN k).1.map (fun t => Value.string (txt t)))) :=
    own_grown hown (iterAt_grown _ _ _ _) (fun g hg e => by have := (hown.lt g hg).1; injection e with e; omega)
   have HST : Hid (atN (k + 1) = if allN[k]? = some 32 then ((atN k).1 ++ [(allN.drop (atN k).2).take (k - (atN k).2)], k + 1) else atN k) := rfl
   rw [hc] at HST
   by_cases h32 : c = 32
   ·subst h32
    have HS2 : Hid (atN (k + 1) = ((atN k).1 ++ [(allN.drop (atN k).2).take (k - (atN k).2)], k + 1)) := by show _ = _; rw [HST.out, if_pos rfl]
    have HCUT : Hid ((txt allN).extract (atN k).2 k = txt ((allN.drop (atN k).2).take (k - (atN k).2))) := by
     have := txt_cut (txt allN) (atN k).2 (k - (atN k).2)
     rw [txt_data, Nat.add_sub_cancel' b0] at this
     exact this
    clear HST hc hc128 q1 q2 hit hown hB hk hsz2
    generalize (atN k).2 = bg at *
    generalize (atN k).1 = ws at *
    have e32 : ((32 : UInt8).toNat : Int) = 32 := rfl
    rw [e32] at hnx
    have j0 : (0 : Int) ≤ bg := by omega
    have j1 : (bg : Int) ≤ k := by omega
    have j2 : (k : Int) ≤ 169 := by omega
    have HWS := Lib.hid b1
    clear b1
    have hwl : ws.length ≤ 1000 := by have := HWS.out; omega
    go_wp2_with (at_builtin; refine wpList_append_row _ rfl (.tmp 12) (.tmp 16) 39 rfl (w.heap.size + 1) 9 i0 _ 1 16 Tryd.underlying39 HI.out HZ0.out HZ1.out HZ2.out rfl (by omega) (.slice A ws.length cc) ws.length (ws.map (fun t => Value.string (txt t))) rfl (HO2.out.alloc _) ((wr.iterAt w.heap.size (txt allN) (k + 1)).heap.size + 1) (.slice (some ⟨(wr.iterAt w.heap.size (txt allN) (k + 1)).heap.size, 0, none⟩) 1 1) 1 [.string ((⟨#[97, 100, 100, 32, 115, 117, 98, 32, 97, 110, 100, 32, 111, 114, 32, 120, 111, 114, 32, 115, 108, 108, 32, 115, 114, 108, 32, 115, 114, 97, 32, 115, 108, 116, 32, 115, 108, 116, 117, 32, 109, 117, 108, 32, 109, 117, 108, 104, 32, 100, 105, 118, 32, 100, 105, 118, 117, 32, 114, 101, 109, 32, 114, 101, 109, 117, 32, 97, 100, 100, 105, 32, 97, 110, 100, 105, 32, 111, 114, 105, 32, 120, 111, 114, 105, 32, 115, 108, 116, 105, 32, 115, 108, 108, 105, 32, 115, 114, 108, 105, 32, 115, 114, 97, 105, 32, 108, 117, 105, 32, 108, 119, 32, 108, 104, 32, 108, 104, 117, 32, 108, 98, 32, 108, 98, 117, 32, 115, 119, 32, 115, 104, 32, 115, 98, 32, 98, 101, 113, 32, 98, 110, 101, 32, 98, 108, 116, 32, 98, 103, 101, 32, 98, 108, 116, 117, 32, 98, 103, 101, 117, 32, 106, 32, 104, 97, 108, 116, 32]⟩ : ByteArray).extract bg k)] rfl (row_list (wr.iterAt w.heap.size (txt allN) (k + 1)) [.string ((⟨#[97, 100, 100, 32, 115, 117, 98, 32, 97, 110, 100, 32, 111, 114, 32, 120, 111, 114, 32, 115, 108, 108, 32, 115, 114, 108, 32, 115, 114, 97, 32, 115, 108, 116, 32, 115, 108, 116, 117, 32, 109, 117, 108, 32, 109, 117, 108, 104, 32, 100, 105, 118, 32, 100, 105, 118, 117, 32, 114, 101, 109, 32, 114, 101, 109, 117, 32, 97, 100, 100, 105, 32, 97, 110, 100, 105, 32, 111, 114, 105, 32, 120, 111, 114, 105, 32, 115, 108, 116, 105, 32, 115, 108, 108, 105, 32, 115, 114, 108, 105, 32, 115, 114, 97, 105, 32, 108, 117, 105, 32, 108, 119, 32, 108, 104, 32, 108, 104, 117, 32, 108, 98, 32, 108, 98, 117, 32, 115, 119, 32, 115, 104, 32, 115, 98, 32, 98, 101, 113, 32, 98, 110, 101, 32, 98, 108, 116, 32, 98, 103, 101, 32, 98, 108, 116, 117, 32, 98, 103, 101, 117, 32, 106, 32, 104, 97, 108, 116, 32]⟩ : ByteArray).extract bg k)] _) (by simp [Value.oneCell']) (by unfold maxLen; omega) (by omega) (by rw [World.size_alloc, HSZ2.out]; omega) ?_; intro v3 y3 hO3 hg3; have HO3 := Lib.hid hO3; have HG3 := Lib.hid hg3; clear hO3 hg3)
    go_roundw
    case rel =>
     refine ⟨k + 1, by omega, by rw [HS2.out]; simp, ?_, ?_, ?_⟩
     ·rw [HG3.out.block _ (by rw [World.size_alloc, HSZ2.out]; omega) (fun e => by have := (HO2.out.lt _ e.symm).1; omega)]
      exact (Below.heap_alloc _ _ _ (by rw [HSZ2.out]; exact hsz)).trans hit2.out
     ·have := HO3.out
      rw [lit_eq, HCUT.out] at this
      rw [HS2.out]
      simp only [List.length_append, List.length_cons, List.length_nil, List.map_append, List.map_cons, List.map_nil]
      exact this
     ·exact (HB2.out.alloc (by rw [HSZ2.out]; omega) _).grown HG3.out (by rw [World.size_alloc, HSZ2.out]; omega) (fun j hj => by have := (HO2.out.lt j hj).1; omega)
    case measure =>
     simp only [World.iterPos, HIT.out]
     have : y3.heap[w.heap.size]? = some (.stringIter (txt allN) (k + 1)) := by
      rw [HG3.out.block _ (by rw [World.size_alloc, HSZ2.out]; omega) (fun e => by have := (HO2.out.lt _ e.symm).1; omega)]
      exact (Below.heap_alloc _ _ _ (by rw [HSZ2.out]; exact hsz)).trans hit2.out
     rw [this]
     simp only
     omega
   ·have HS2 : Hid (atN (k + 1) = atN k) := by show _ = _; rw [HST.out, if_neg (fun e => h32 (by injection e))]
    have hne : ((c.toNat : Int) == 32) = false := by
     simp only [beq_eq_false_iff_ne, ne_eq]
     intro e
     apply h32
     have : c.toNat = 32 := by omega
     exact UInt8.toNat_inj.1 this
    generalize (c.toNat : Int) = C at *
    clear HST hc hc128 q1 q2 hit hown hB hk hsz2
    go_wp2_with fail
    go_roundw
    case rel => exact ⟨k + 1, by omega, by rw [HS2.out], hit2.out, by rw [HS2.out]; exact HO2.out, HB2.out⟩
    case measure =>
     simp only [World.iterPos, hit2.out, HIT.out]
     omega
  ·have hnx := fun ty => next_none (P := Tryd.prog) hit (show ¬ k < (txt allN).size by omega) ty
   have hkk : k = 169 := by omega
   clear hown hB hit hk
   go_wp2_with fail
   go_ret
   have e : (atN k).1 = namesZ := by rw [hkk]; exact atN_end
   refine ⟨.slice A (atN k).1.length cc, rfl, ?_, HB.out⟩
   have := HO.out
   rw [e] at this ⊢
   exact own_base this (Nat.le_succ _)
end Go.Proofs.YtcaibahniheohaaDoor.Words

/- Contract of package asm's Read. -/
namespace Go.Proofs.YtcaibahniheohaaDoor.Words
set_option maxRecDepth 100000
open Go.RowKit Go.Shelf Go.Lib
set_option linter.unusedVariables false
set_option linter.unusedSimpArgs false
def ReadOut (Z : AsmR) (base : Nat) (e : Ending) (w : World) : Prop :=
 match Z with
 | .bad a k => e = .returned (.tuple #[.agg #[.slice none 0 0, .int .i64 0, .slice none 0 0], .int .i64 (a : Int), .int .i64 k])
 | .ok p => ∃ vc vd, e = .returned (.tuple #[.agg #[vc, .int .i64 p.size, vd], .int .i64 (-1), .int .i64 0]) ∧ w.ownsRow base 38 5 vc p.code.length (codeCells p.code) ∧ w.ownsRow base 5 1 vd p.data.length (p.data.map (Value.int .u8))
theorem ReadOut.bad {Z : AsmR} {base : Nat} {e : Ending} {w : World} {a : Nat} {k : Int} (h : Z = .bad a k) (he : e = .returned (.tuple #[.agg #[.slice none 0 0, .int .i64 0, .slice none 0 0], .int .i64 (a : Int), .int .i64 k])) : ReadOut Z base e w := by
 subst h; exact he
theorem ReadOut.ok {Z : AsmR} {base : Nat} {e : Ending} {w : World} {p : Prog} {vc vd : Value} (h : Z = .ok p) (he : e = .returned (.tuple #[.agg #[vc, .int .i64 p.size, vd], .int .i64 (-1), .int .i64 0])) (h1 : w.ownsRow base 38 5 vc p.code.length (codeCells p.code)) (h2 : w.ownsRow base 5 1 vd p.data.length (p.data.map (Value.int .u8))) : ReadOut Z base e w := by
 subst h; exact ⟨vc, vd, he, h1, h2⟩
theorem next_head (r : List Tok) (e : Nat) : (nextT r e).at_ = headAt r e := by cases r <;> rfl
theorem layF_at {ps : List PartZ} {k : Nat} {x : PartZ} (hx : ps[k]? = some x) (ho : (ps.map (·.at_)).Pairwise (· < ·)) (p : Prog) :
  layF ps (ps.take k) (ps.drop k) p = match lay1 (fun t => firstL t ps 0) x p with | .bad a e => .bad a e | .ok p' => layF ps (ps.take (k + 1)) (ps.drop (k + 1)) p' := by
 have hd : ps.drop k = x :: ps.drop (k + 1) := by
  obtain ⟨hk, rfl⟩ := List.getElem?_eq_some_iff.1 hx
  exact List.drop_eq_getElem_cons hk
 have hs : ps = ps.take k ++ x :: ps.drop (k + 1) := by
  conv => lhs; rw [← List.take_append_drop k ps]
  rw [hd]
 have h := layF_step (pre := ps.take k) (xs := ps.drop (k + 1)) (x := x) p (by rw [← hs]; exact ho)
 rw [← hs] at h
 rw [hd, take_snoc hx]
 exact h
theorem lay1_err {f : List UInt8 → Option (Int × Int)} {x : PartZ} {p : Prog} : ∀ a e, lay1 f x p = .bad a e → e ≠ 0 := by
 intro a e h
 unfold lay1 ins1 put1 at h
 repeat' split at h
 all_goals first
  | (cases h; done)
  | (injection h with h1 h2; subst h2; decide)
theorem LexOut.cases {Z : LexR} {base : Nat} {e : Ending} {w : World} (h : LexOut Z base e w) : (∃ a k, Z = .bad a k ∧ e = .returned (.tuple #[.slice none 0 0, .int .i64 (a : Int), .int .i64 k])) ∨ ∃ t v, Z = .toks t ∧ e = .returned (.tuple #[v, .int .i64 (-1), .int .i64 0]) ∧ w.ownsRow base 48 4 v t.length (toksL t) := by
 cases Z with
 | bad a k => exact .inl ⟨a, k, rfl, h⟩
 | toks t => obtain ⟨v, h1, h2⟩ := h; exact .inr ⟨t, v, rfl, h1, h2⟩
set_option maxHeartbeats 8000000 in
theorem asmRead_any (s : ByteArray) (w : World) (hs : s.size ≤ 9223372036854775807) (hT : Tabs w) (hSh : Shapes w) (hfew : ∀ t, lexZ s.data.toList = .toks t → (textT t).1 = true → nIns (textT t).2.2 ≤ 8192) :
  Calls Tryd.prog 6 #[.string s] w fun e w' => ReadOut (asmZ s.data.toList) w.heap.size e w' ∧ Below w.heap.size w w' := by
 have hl := data_len s
 have HL := Lib.hid hl
 obtain ⟨Z, hZ⟩ : ∃ Z, Z = asmZ s.data.toList := ⟨_, rfl⟩
 have HZ := Lib.hid hZ
 rw [← hZ]
 have R0 : Hid (Box (w.alloc (.cells #[.slice none 0 0, .int .i64 0, .slice none 0 0] 26)) w.heap.size [.slice none 0 0, .int .i64 0, .slice none 0 0]) := Box.new w [.slice none 0 0, .int .i64 0, .slice none 0 0] _
 have B0 : Hid (Below w.heap.size w (w.alloc (.cells #[.slice none 0 0, .int .i64 0, .slice none 0 0] 26))) := (Below.refl _ _).alloc (Nat.le_refl _) _
 have hW1 : (w.alloc (.cells #[.slice none 0 0, .int .i64 0, .slice none 0 0] 26)).heap.size = w.heap.size + 1 := by simp
 have cS := Lib.hid (split_any s (w.alloc (.cells #[.slice none 0 0, .int .i64 0, .slice none 0 0] 26)) hs (hT.below ((Below.refl _ _).alloc (Nat.le_refl _) _)))
 have HSH := Lib.hid (hSh.below ((Below.refl w.heap.size w).alloc (Nat.le_refl _) (.cells #[.slice none 0 0, .int .i64 0, .slice none 0 0] 26)))
 have hgw : 2 < w.heap.size := hSh.1
 have HFEW := Lib.hid hfew
 have hs0 : (0 : Int) ≤ s.size := by omega
 clear hl hZ hT hSh hfew hs
 go_enter Tryd.func6, Tryd.ntmps6
 go_wp2_with fail
 refine cS.out.mono ?_; rintro en w2 ⟨ho, hb2⟩
 have R2 : Hid (Box w2 w.heap.size [.slice none 0 0, .int .i64 0, .slice none 0 0]) := R0.out.below hb2 (by omega)
 have B2 := Lib.hid (B0.out.trans (hb2.mono (by omega)))
 have B12 := Lib.hid hb2
 have hsz2 : w.heap.size + 1 ≤ w2.heap.size := by have := hb2.size; omega
 clear hb2
 rcases ho.cases with ⟨a, k, hz, rfl⟩ | ⟨t, v, hz, rfl, hown⟩
 ·have HB : Hid (Z = .bad a k) := by show _ = _; rw [HZ.out]; unfold asmZ; rw [hz]
  have hk : (k != 0) = true := by
   have hl := HL.out
   by_cases hlen : s.data.toList.length ≤ 20000
   ·have := lexZ_good hlen
    rw [hz] at this
    obtain ⟨_, h2⟩ := this
    rcases h2 with rfl | rfl <;> rfl
   ·unfold lexZ at hz
    rw [if_pos (by omega)] at hz
    injection hz with _ hz
    subst hz; rfl
  have r0 := R2.out.cell (k := 0) rfl
  have r1 := R2.out.cell (k := 1) rfl
  have r2 := R2.out.cell (k := 2) rfl
  have g0 := R2.out.frozen 0
  have g1 := R2.out.frozen 1
  have g2 := R2.out.frozen 2
  clear ho hz
  go_wp2_with fail
  refine bodyPost_ret (v := .tuple #[.agg #[.slice none 0 0, .int .i64 0, .slice none 0 0], .int .i64 (a : Int), .int .i64 k]) (by simp [results, Tryd.results6, go_sem, r0, r1, r2]) rfl ⟨ReadOut.bad HB.out rfl, ((B2.out.setCell (p := ⟨w.heap.size, 0, none⟩) (Nat.le_refl _) _).setCell (p := ⟨w.heap.size, 1, none⟩) (Nat.le_refl _) _).setCell (p := ⟨w.heap.size, 2, none⟩) (Nat.le_refl _) _⟩
 ·have HB : Hid (Z = partsZ s.data.toList.length (textT t)) := by show _ = _; rw [HZ.out]; unfold asmZ; rw [hz]
  have HTI := Lib.hid (lex_in hz)
  have HTL := Lib.hid (lex_len hz)
  have HTO := Lib.hid (lex_order hz)
  have HFW := Lib.hid (HFEW.out t hz)
  have HSL := Lib.hid (lexZ_toks hz).1
  obtain ⟨A, tc, rfl⟩ := (Row.of_own hown).form
  have HOT := Lib.hid (Row.of_own hown)
  clear ho hz hown HFEW
  go_wp2_with fail
  refine (names_any _).mono ?_; rintro en w3 ⟨vn, rfl, hon, hb3⟩
  obtain ⟨An, cn, rfl⟩ := (Row.of_own hon).form
  have B3 := Lib.hid (B2.out.trans (hb3.mono B2.out.size))
  have R3 : Hid (Box w3 w.heap.size [.slice none 0 0, .int .i64 0, .slice none 0 0]) := R2.out.below hb3 (by omega)
  have HO3 := Lib.hid ((HOT.out.below hb3).more hb3.size)
  have HN3 := Lib.hid (Row.of_own hon)
  have hsz3 : w.heap.size + 1 ≤ w3.heap.size := by have := hb3.size; omega
  have SH3 := Lib.hid ((HSH.out.below B12.out).below hb3)
  clear hb3 hon
  -- the parser
  have P4 : Hid (Par (w3.alloc (.cells #[.slice A t.length tc, .int .i64 (s.size : Int), .slice An 41 cn, .slice none 0 0] 46)) w3.heap.size s.size t (.slice none 0 0) []) :=
   ⟨.slice A t.length tc, .slice An 41 cn, Box.new w3 [.slice A t.length tc, .int .i64 (s.size : Int), .slice An 41 cn, .slice none 0 0] _, HO3.out.alloc (Nat.le_refl _) _, HN3.out.alloc (Nat.le_refl _) _, World.ownsRow_nil _ _ _ _, HTI.out⟩
  have B4 : Hid (Below w3.heap.size w3 (w3.alloc (.cells #[.slice A t.length tc, .int .i64 (s.size : Int), .slice An 41 cn, .slice none 0 0] 46))) := (Below.refl _ _).alloc (Nat.le_refl _) _
  have cX := Lib.hid (asmText_any _ w3.heap.size s.size t (.slice none 0 0) [] P4.out (SH3.out.below B4.out) (by omega) (by have := HTL.out; have := HSL.out; simp only [List.length_nil]; omega))
  go_wp2_with fail
  refine cX.out.mono ?_; rintro en w5 ⟨rfl, vp, hp5, hb5⟩
  rw [List.nil_append] at hp5
  have P5 := Lib.hid hp5
  have B5 := Lib.hid (B4.out.trans hb5)
  have R5 : Hid (Box w5 w.heap.size [.slice none 0 0, .int .i64 0, .slice none 0 0]) := R3.out.below B5.out (by omega)
  have hsz5 : w3.heap.size < w5.heap.size := hp5.lt
  clear hp5 hb5
  obtain ⟨X, hX⟩ : ∃ X, X = textT t := ⟨_, rfl⟩
  have HXX := Lib.hid hX
  rw [← hX] at P5 HB HFW ⊢
  clear hX
  cases hx1 : X.1
  ·have HB6 : Hid (Z = .bad (headAt X.2.1 s.size) 5) := by
    show _ = _
    rw [HB.out]; unfold partsZ; rw [if_neg (by rw [hx1]; decide), HL.out]
   have hN := next_any w5 w3.heap.size s.size X.2.1 vp X.2.2 P5.out
   have fd := field_at (nextT X.2.1 s.size)
   have HNH := Lib.hid (next_head X.2.1 s.size)
   clear hx1
   generalize nextT X.2.1 s.size = nt at *
   go_wp2_with fail
   refine hN.mono ?_; rintro en w6 ⟨rfl, hb6⟩
   have R6 : Box w6 w.heap.size [.slice none 0 0, .int .i64 0, .slice none 0 0] := R5.out.below hb6 (by omega)
   have B6 := Lib.hid ((B3.out.trans (B5.out.mono (by omega))).trans (hb6.mono (by omega)))
   have r0 := R6.cell (k := 0) rfl
   have r1 := R6.cell (k := 1) rfl
   have r2 := R6.cell (k := 2) rfl
   have g0 := R6.frozen 0
   have g1 := R6.frozen 1
   have g2 := R6.frozen 2
   clear hb6 R6
   go_wp2_with fail
   refine bodyPost_ret (v := .tuple #[.agg #[.slice none 0 0, .int .i64 0, .slice none 0 0], .int .i64 (nt.at_ : Int), .int .i64 5]) (by simp [results, Tryd.results6, go_sem, r0, r1, r2]) rfl ⟨ReadOut.bad (by rw [HB6.out, HNH.out]) rfl, ((B6.out.setCell (p := ⟨w.heap.size, 0, none⟩) (Nat.le_refl _) _).setCell (p := ⟨w.heap.size, 1, none⟩) (Nat.le_refl _) _).setCell (p := ⟨w.heap.size, 2, none⟩) (Nat.le_refl _) _⟩
  ·have HB6 : Hid (Z = endZ (layF X.2.2 [] X.2.2 ⟨[], 0, []⟩)) := by
    show _ = _
    rw [HB.out]; unfold partsZ; rw [if_pos hx1]
   have HOK : Hid (∀ x ∈ X.2.2, PartOk x) := by
    intro x hx
    rw [HXX.out] at hx
    exact textF_ok _ _ HTI.out x hx
   have HPL : Hid (X.2.2.length ≤ 20000) := by
    show _ ≤ _
    have h1 := textF_len t.length t
    have h2 := HTL.out
    have h3 := HSL.out
    have h4 : X.2.2 = (textF t.length t).2.2 := by rw [HXX.out]; rfl
    rw [h4]; omega
   have HPO : Hid ((X.2.2.map (·.at_)).Pairwise (· < ·)) := by rw [HXX.out]; exact parts_order HTO.out
   have HNI : Hid (nIns X.2.2 ≤ 8192) := HFW.out hx1
   obtain ⟨Ap, cp, rfl⟩ := P5.out.form
   have z3 := P5.out.parts
   have HOW := Lib.hid P5.out.own
   generalize X.2.2 = ps at *
   have cL := Lib.hid (labelsOf_any (.slice Ap ps.length cp) ps w5 (Row.of_own HOW.out) (fun x hx => (HOK.out x hx).1) (by have := HPL.out; omega))
   clear HFW HXX HB P4 cX HZ hx1
   go_wp2_with fail
   refine cL.out.mono ?_; rintro en w6 ⟨rfl, hm6, hb6⟩
   have R6 : Hid (Box w6 w.heap.size [.slice none 0 0, .int .i64 0, .slice none 0 0]) := R5.out.below hb6 (by omega)
   have B6 := Lib.hid hb6
   have M6 := Lib.hid hm6
   have hsz6 : w5.heap.size < w6.heap.size := hm6.lt
   have z6 := below_cell hb6 hsz5 z3
   have hsz36 : w3.heap.size < w6.heap.size := by omega
   clear hm6 hb6 z3 cL
   have L7 : Hid (Bld (w6.alloc (.cells #[.map (some w5.heap.size), .slice none 0 0, .int .i64 0, .slice none 0 0] 53)) w6.heap.size w5.heap.size ps.length (fun t => firstL t ps 0) ⟨[], 0, []⟩ (.slice none 0 0) (.slice none 0 0)) :=
    ⟨Box.new w6 [.map (some w5.heap.size), .slice none 0 0, .int .i64 0, .slice none 0 0] _, M6.out.go ((Below.refl _ w6).alloc (Nat.le_refl _) _), World.ownsRow_nil _ _ _ _, World.ownsRow_nil _ _ _ _, hsz6⟩
   have B7 : Hid (Below w6.heap.size w6 (w6.alloc (.cells #[.map (some w5.heap.size), .slice none 0 0, .int .i64 0, .slice none 0 0] 53))) := (Below.refl _ w6).alloc (Nat.le_refl _) _
   have HBF := Lib.hid (fun (y : World) (hy : Below w6.heap.size w6 y) => ((B3.out.trans (B5.out.mono (show w.heap.size ≤ w3.heap.size by omega))).trans (B6.out.mono (show w.heap.size ≤ w5.heap.size by omega))).trans (hy.mono (show w.heap.size ≤ w6.heap.size by omega)))
   have HRF := Lib.hid (fun (y : World) (hy : Below w6.heap.size w6 y) => (R6.out.below hy (by omega)))
   have HPR := Lib.hid (fun (y : World) (hy : Below w6.heap.size w6 y) => (((Row.of_own HOW.out).below B6.out).more (Nat.le_of_lt hsz6)).below hy)
   have n0 : (ps.length : Int) ≤ 20000 := by have := HPL.out; omega
   go_wp2_with fail
   go_loopw [43] (fun i wr => ∃ (k : Nat) (p : Prog) (vc vd : Value), k ≤ ps.length ∧ i = .int .i64 k ∧ Bld wr w6.heap.size w5.heap.size ps.length (fun t => firstL t ps 0) p vc vd ∧ Below w6.heap.size w6 wr ∧ Z = endZ (layF ps (ps.take k) (ps.drop k) p) ∧ p.code.length ≤ nIns (ps.take k) ∧ p.data.length ≤ k) (fun i _ => ps.length - (intOf i).toNat)
   case atStart => exact ⟨0, ⟨[], 0, []⟩, _, _, Nat.zero_le _, rfl, L7.out, B7.out, HB6.out, Nat.zero_le _, Nat.zero_le _⟩
   case round =>
    obtain ⟨k, p, vc, vd, hk, rfl, hbl, hbw, hzz, hpc, hpd⟩ := hrel
    have HBL := Lib.hid hbl
    have HBW := Lib.hid hbw
    have HZZ := Lib.hid hzz
    have HPC := Lib.hid hpc
    have HPD := Lib.hid hpd
    have HK := Lib.hid hk
    by_cases hlt : k < ps.length
    ·obtain ⟨x, hx⟩ : ∃ x, ps[k]? = some x := ⟨_, List.getElem?_eq_getElem (by omega)⟩
     have hxm : x ∈ ps := List.mem_iff_getElem?.2 ⟨k, hx⟩
     obtain ⟨g, off, hA, hg, _⟩ := (HPR.out wr hbw).at_ (by omega)
     subst hA
     obtain ⟨c0, c1, c2, c3, c4, c5, c6, c7, c8, c9, c10, c11, c12⟩ := range_cells ((HPR.out wr hbw).part hx)
     have hgr : g < wr.heap.size := by have := hbw.size; omega
     have kq : decide ((k : Int) < ps.length) = true := decide_eq_true (by omega)
     have kq2 : decide (k < ps.length) = true := decide_eq_true hlt
     have k0 : (0 : Int) ≤ k := by omega
     have k1 : (k : Int) < ps.length := by omega
     have hni1 : nIns (ps.take k) ≤ k := Nat.le_trans (nIns_le _) (List.length_take_le k ps)
     have cLay := Lib.hid (lay_any x p (wr.alloc (.cells #[.int .i64 x.kind, .int .i64 (x.at_ : Int), .int .i64 x.num, .string (txt x.name), .int .i64 x.ins.op, .int .i64 x.ins.d, .int .i64 x.ins.a, .int .i64 x.ins.b, .int .i64 x.ins.imm, .int .i64 x.target.kind, .int .i64 x.target.num, .int .i64 (x.target.at_ : Int), .string (txt x.target.text)] 55)) w6.heap.size w5.heap.size ps.length (fun t => firstL t ps 0) vc vd (hbl.alloc _) (by omega) (by omega) (HOK.out x hxm).1 (HOK.out x hxm).2 (fun r hr => by
      obtain ⟨a, q⟩ := r
      obtain ⟨q1, q2, _⟩ := firstL_in hr
      have := nIns_le ps
      have := HPL.out
      exact ⟨by simpa using q1, by simp only at q2 ⊢; omega⟩))
     have HNEZ := Lib.hid (lay1_err (f := fun t => firstL t ps 0) (x := x) (p := p))
     have HST := Lib.hid (layF_at hx HPO.out p)
     have HTK := Lib.hid (take_snoc hx)
     have HAL := Lib.hid (hbw.alloc (Nat.le_trans (Nat.le_refl _) hbw.size) (.cells #[.int .i64 x.kind, .int .i64 (x.at_ : Int), .int .i64 x.num, .string (txt x.name), .int .i64 x.ins.op, .int .i64 x.ins.d, .int .i64 x.ins.a, .int .i64 x.ins.b, .int .i64 x.ins.imm, .int .i64 x.target.kind, .int .i64 x.target.num, .int .i64 (x.target.at_ : Int), .string (txt x.target.text)] 55))
     have HLEN : Hid (∀ p', lay1 (fun t => firstL t ps 0) x p = .ok p' → p'.code.length ≤ nIns (ps.take (k + 1)) ∧ p'.data.length ≤ k + 1) := by
      intro p' hp'
      obtain ⟨q1, q2⟩ := lay1_len hp'
      have h1 := HPC.out
      have h2 := HPD.out
      rw [take_snoc hx, nIns_append]
      have h3 : nIns [x] = if x.kind = 2 then 1 else 0 := by rw [nIns_cons]; simp [nIns]
      rw [h3]
      exact ⟨by omega, by omega⟩
     generalize lay1 (fun t => firstL t ps 0) x p = LZ at *
     clear hbl hbw hzz hpc hpd hk hx hxm
     go_wp2_with fail
     refine cLay.out.mono ?_; rintro en w8 hL
     cases LZ with
     | bad a e =>
      obtain ⟨rfl, hb8⟩ := hL
      have HB8 := Lib.hid (HAL.out.trans hb8)
      have HZ8 : Hid (Z = .bad a e) := by show _ = _; rw [HZZ.out, HST.out]; rfl
      have he : (e != 0) = true := by simpa using HNEZ.out a e rfl
      have R8 := HRF.out w8 HB8.out
      have r0 := R8.cell (k := 0) rfl
      have r1 := R8.cell (k := 1) rfl
      have r2 := R8.cell (k := 2) rfl
      have g0 := R8.frozen 0
      have g1 := R8.frozen 1
      have g2 := R8.frozen 2
      have BF := Lib.hid (HBF.out w8 HB8.out)
      clear hb8 R8
      go_wp2_with fail
      refine bodyPost_ret (v := .tuple #[.agg #[.slice none 0 0, .int .i64 0, .slice none 0 0], .int .i64 (a : Int), .int .i64 e]) (by simp [results, Tryd.results6, go_sem, r0, r1, r2]) rfl ⟨ReadOut.bad HZ8.out rfl, ((BF.out.setCell (p := ⟨w.heap.size, 0, none⟩) (Nat.le_refl _) _).setCell (p := ⟨w.heap.size, 1, none⟩) (Nat.le_refl _) _).setCell (p := ⟨w.heap.size, 2, none⟩) (Nat.le_refl _) _⟩
     | ok p2 =>
      obtain ⟨rfl, ⟨vc2, vd2, hB2⟩, hb8⟩ := hL
      have HB8 := Lib.hid (HAL.out.trans hb8)
      have HL8 := Lib.hid hB2
      have HZ8 : Hid (Z = endZ (layF ps (ps.take (k + 1)) (ps.drop (k + 1)) p2)) := by show _ = _; rw [HZZ.out, HST.out]
      clear hb8 hB2
      go_wp2_with fail
      go_roundw
      case rel => exact ⟨k + 1, p2, vc2, vd2, by omega, rfl, HL8.out, HB8.out, HZ8.out, (HLEN.out p2 rfl).1, (HLEN.out p2 rfl).2⟩
      case measure => simp only [intOf]; omega
    ·have kq : decide ((k : Int) < ps.length) = false := decide_eq_false (by omega)
     have kq2 : decide (k < ps.length) = false := decide_eq_false hlt
     have hkN : k = ps.length := by omega
     have HZ9 : Hid (Z = checkZ p) := by
      show _ = _
      rw [HZZ.out, hkN, List.drop_length]; rfl
     have hcode : p.code.length ≤ 8192 := by
      have h1 := HPC.out
      rw [hkN, List.take_length] at h1
      have h2 := HNI.out
      omega
     obtain ⟨Ac, cc, rfl⟩ := (Row.of_own hbl.2.2.1).form
     obtain ⟨Ad, cd, rfl⟩ := (Row.of_own hbl.2.2.2.1).form
     have b1 := hbl.1.cell (k := 1) rfl
     have b2 := hbl.1.cell (k := 2) rfl
     have b3 := hbl.1.cell (k := 3) rfl
     obtain ⟨dl1, dl2⟩ := (Row.of_own hbl.2.2.2.1).cap
     have cC := Lib.hid (asmCheck_any Ac cc p.size Ad p.data.length cd p.code wr (Row.of_own hbl.2.2.1) dl1 dl2 hcode)
     have HCK := Lib.hid (checkE_z p)
     clear hbl hbw hzz hpc hpd hk dl1 dl2
     go_wp2_with fail
     refine cC.out.mono ?_; rintro en w9 ⟨rfl, hb9⟩
     have HB9 := Lib.hid (HBW.out.trans (hb9.mono HBW.out.size))
     have R9 := HRF.out w9 HB9.out
     have hc6 : w6.heap.size < wr.heap.size := HBL.out.lt
     have e1 := below_cell hb9 hc6 b1
     have e2 := below_cell hb9 hc6 b2
     have e3 := below_cell hb9 hc6 b3
     have HO1 := Lib.hid (own_below HBL.out.2.2.1 hb9)
     have HO2 := Lib.hid (own_below HBL.out.2.2.2.1 hb9)
     have r0 := R9.cell (k := 0) rfl
     have r1 := R9.cell (k := 1) rfl
     have r2 := R9.cell (k := 2) rfl
     have g0 := R9.frozen 0
     have g1 := R9.frozen 1
     have g2 := R9.frozen 2
     have BF := Lib.hid (HBF.out w9 HB9.out)
     clear hb9 R9 b1 b2 b3
     generalize checkE p.code p.size p.data.length = E at *
     by_cases hE : E = 0
     ·subst hE
      have HZ10 : Hid (Z = .ok p) := by show _ = _; rw [HZ9.out, HCK.out]; rfl
      go_wp2_with fail
      refine bodyPost_ret (v := .tuple #[.agg #[.slice Ac p.code.length cc, .int .i64 p.size, .slice Ad p.data.length cd], .int .i64 (-1), .int .i64 0]) (by simp [results, Tryd.results6, go_sem, r0, r1, r2]) rfl ⟨ReadOut.ok HZ10.out rfl ?_ ?_, ((BF.out.setCell (p := ⟨w.heap.size, 0, none⟩) (Nat.le_refl _) _).setCell (p := ⟨w.heap.size, 1, none⟩) (Nat.le_refl _) _).setCell (p := ⟨w.heap.size, 2, none⟩) (Nat.le_refl _) _⟩
      ·exact own_base (ownsRow_setCell_below (ownsRow_setCell_below (ownsRow_setCell_below HO1.out (a := ⟨w.heap.size, 0, none⟩) (show w.heap.size < w6.heap.size + 1 by omega) _) (a := ⟨w.heap.size, 1, none⟩) (show w.heap.size < w6.heap.size + 1 by omega) _) (a := ⟨w.heap.size, 2, none⟩) (show w.heap.size < w6.heap.size + 1 by omega) _) (by omega)
      ·exact own_base (ownsRow_setCell_below (ownsRow_setCell_below (ownsRow_setCell_below HO2.out (a := ⟨w.heap.size, 0, none⟩) (show w.heap.size < w6.heap.size + 1 by omega) _) (a := ⟨w.heap.size, 1, none⟩) (show w.heap.size < w6.heap.size + 1 by omega) _) (a := ⟨w.heap.size, 2, none⟩) (show w.heap.size < w6.heap.size + 1 by omega) _) (by omega)
     ·have hE2 : (E != 0) = true := by simpa using hE
      have HZ10 : Hid (Z = .bad 0 E) := by show _ = _; rw [HZ9.out, HCK.out, if_neg hE]
      clear hE
      go_wp2_with fail
      refine bodyPost_ret (v := .tuple #[.agg #[.slice none 0 0, .int .i64 0, .slice none 0 0], .int .i64 0, .int .i64 E]) (by simp [results, Tryd.results6, go_sem, r0, r1, r2]) rfl ⟨ReadOut.bad HZ10.out rfl, ((BF.out.setCell (p := ⟨w.heap.size, 0, none⟩) (Nat.le_refl _) _).setCell (p := ⟨w.heap.size, 1, none⟩) (Nat.le_refl _) _).setCell (p := ⟨w.heap.size, 2, none⟩) (Nat.le_refl _) _⟩
end Go.Proofs.YtcaibahniheohaaDoor.Words

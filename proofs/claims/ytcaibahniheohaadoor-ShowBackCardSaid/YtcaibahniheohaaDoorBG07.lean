/- Several texts in one: RefRight, ImgRight, ImgRight2, AsmReadMath, AsmNames, AsmRead. -/
import Derived.Test.YtcaibahniheohaaDoorBG06
import Derived.Test.YtcaibahniheohaaDoorBG03
import Derived.Test.YtcaibahniheohaaDoorBG05
import Derived.LoopTactic

/- Contracts of the document's own Targets and RightProgram. -/
namespace Go.Proofs.YtcaibahniheohaaDoor.Words
set_option maxRecDepth 100000
open Go.RowKit
set_option linter.unusedVariables false
theorem targetsOk_step {n j : Nat} {l : List Ins} {i : Ins} (h : l[j]? = some i) : targetsOk n j (l.drop j) = (!badTarget n j i && targetsOk n (j + 1) (l.drop (j + 1))) := by
 obtain ⟨hlt, rfl⟩ := List.getElem?_eq_some_iff.1 h
 rw [List.drop_eq_getElem_cons hlt]; rfl
def errT (b : Bool) : Int := if b = true then 0 else 4
theorem all_step {l : List Ins} {j : Nat} {i : Ins} (h : l[j]? = some i) : (l.drop j).all rightB = (rightB i && (l.drop (j + 1)).all rightB) := by
 obtain ⟨hlt, rfl⟩ := List.getElem?_eq_some_iff.1 h
 rw [List.drop_eq_getElem_cons hlt]; rfl
theorem at_some {l : List Ins} {j : Nat} (h : j < l.length) : ∃ i, l[j]? = some i := ⟨_, List.getElem?_eq_getElem h⟩
set_option maxHeartbeats 2000000 in
theorem refTargets_any (A : Option Addr) (c : Nat) (sz : Int) (vd : Value) (l : List Ins) (w : World) (hr : Row w w.heap.size 5 (.slice A l.length c) l.length (codeCells l)) (hsmall : l.length ≤ 4294967296) :
  Calls Tryd.prog 25 #[.agg #[.slice A l.length c, .int .i64 sz, vd]] w fun e w' => e = .returned (.int .i64 (errT (targetsOk l.length 0 l))) ∧ Below w.heap.size w w' := by
 obtain ⟨hcl, hcm⟩ := hr.cap
 have HK := Lib.hid (fun (x : World) (h : Kept (w.alloc (.cells #[.slice A l.length c, .int .i64 sz, vd] 26)) x) => ((Below.refl w.heap.size w).alloc (Nat.le_refl _) _).trans (h.mono (by simp)))
 by_cases hn : l.length = 0
 ·have hl : l = [] := List.eq_nil_of_length_eq_zero hn
  subst hl
  go_enter Tryd.func25, Tryd.ntmps25
  go_wp2_with fail
  refine wp_loop_rounds 1 ?_
  rw [rounds_succ]
  go_wp2_with fail
  go_ret
  exact ⟨rfl, HK.out _ (Kept.refl _)⟩
 obtain ⟨b, off, rfl, hb, _⟩ := hr.at_ hn
 have hB : w.heap.size < (w.alloc (.cells #[.slice (some ⟨b, off, none⟩) l.length c, .int .i64 sz, vd] 26)).heap.size := by simp
 have HR := Lib.hid (hr.alloc (Nat.le_refl _) (.cells #[.slice (some ⟨b, off, none⟩) l.length c, .int .i64 sz, vd] 26) |>.more (Nat.le_of_lt hB))
 have HA := Lib.hid (fun j h => at_some (l := l) (j := j) h)
 have HT := Lib.hid (fun j i h => targetsOk_step (n := l.length) (j := j) (l := l) (i := i) h)
 have HE := Lib.hid (fun (k : Nat) (h : l.length ≤ k) => List.drop_eq_nil_of_le h)
 have H0 := Lib.hid (show targetsOk l.length 0 l = targetsOk l.length 0 (l.drop 0) by rw [List.drop_zero])
 have HC := Lib.hid (fun (x : World) (h : Kept (w.alloc (.cells #[.slice (some ⟨b, off, none⟩) l.length c, .int .i64 sz, vd] 26)) x) (k : Nat) (i : Ins) (hi : l[k]? = some i) =>
  (h.row HR.out).ins hi)
 have HD := Lib.hid (fun (x : World) (h : Kept (w.alloc (.cells #[.slice (some ⟨b, off, none⟩) l.length c, .int .i64 sz, vd] 26)) x) (k : Nat) (i : Ins) (hi : l[k]? = some i) =>
  refTarget_any b off c k sz vd l i x (h.row HR.out) hi hsmall)
 have c0 : (w.alloc (.cells #[.slice (some ⟨b, off, none⟩) l.length c, .int .i64 sz, vd] 26)).cell? ⟨w.heap.size, 0, none⟩ = some (.slice (some ⟨b, off, none⟩) l.length c) := by go_simp
 have c1 : (w.alloc (.cells #[.slice (some ⟨b, off, none⟩) l.length c, .int .i64 sz, vd] 26)).cell? ⟨w.heap.size, 1, none⟩ = some (.int .i64 sz) := by go_simp
 have c2 : (w.alloc (.cells #[.slice (some ⟨b, off, none⟩) l.length c, .int .i64 sz, vd] 26)).cell? ⟨w.heap.size, 2, none⟩ = some vd := by go_simp
 go_enter Tryd.func25, Tryd.ntmps25
 go_wp2_with fail
 generalize w.alloc (.cells #[.slice (some ⟨b, off, none⟩) l.length c, .int .i64 sz, vd] 26) = W at *
 have C0 := Lib.hid (fun (x : World) (h : Kept W x) => h.cell hB c0)
 have C1 := Lib.hid (fun (x : World) (h : Kept W x) => h.cell hB c1)
 have C2 := Lib.hid (fun (x : World) (h : Kept W x) => h.cell hB c2)
 clear c0 c1 c2 hr hB
 generalize hN : l.length = n at *
 have HN := Lib.hid hN
 clear hN
 go_loopw [3] (fun i wr => ∃ j : Nat, j ≤ n ∧ i = .int .i64 j ∧ Kept W wr ∧ targetsOk n 0 l = targetsOk n j (l.drop j)) (fun i _ => n - (intOf i).toNat)
 case atStart => exact ⟨0, Nat.zero_le _, rfl, Kept.refl _, H0.out⟩
 case round =>
  obtain ⟨j, hj, rfl, hK, hT⟩ := hrel
  have HTJ := Lib.hid hT
  clear hT
  have c0 := C0.out _ hK
  by_cases hlt : j < n
  ·obtain ⟨i, hi⟩ := HA.out j hlt
   have hs := Lib.hid (HT.out j i hi)
   obtain ⟨d0, _, _, _, _⟩ := HC.out _ hK j i hi
   have k0 : (0 : Int) ≤ j := by omega
   have k1 : (j : Int) < n := by omega
   go_wp2_with fail
   refine (refForm_any _ _).mono ?_; rintro e w1 ⟨rfl, rfl⟩
   by_cases hj6 : formZ i.op = 6 ∨ formZ i.op = 7
   ·have HJ := Lib.hid ((isJump_form i).2 hj6)
    have c1 := C1.out _ hK
    have c2 := C2.out _ hK
    have HDi := Lib.hid (HD.out _ hK j i hi)
    rcases hj6 with hj6 | hj6
    all_goals
     rw [hj6]
     go_wp2_with fail
     refine HDi.out.mono ?_; rintro e w2 ⟨rfl, hb2⟩
     have hK2 := hK.to hb2
     by_cases ht : targetZ n j i < 0
     ·have hbad : badTarget n j i = true := by unfold badTarget; rw [HJ.out]; simp [ht]
      have hres := Lib.hid (show errT (targetsOk n 0 l) = 4 by rw [HTJ.out, hs.out, hbad]; rfl)
      go_wp2_with fail
      go_ret
      exact ⟨ret_int (by rw [HN.out]; exact hres.out.symm), HK.out _ hK2⟩
     ·have hok : badTarget n j i = false := by unfold badTarget; simp [ht]
      have hres := Lib.hid (show targetsOk n 0 l = targetsOk n (j + 1) (l.drop (j + 1)) by rw [HTJ.out, hs.out, hok]; rfl)
      go_wp2_with fail
      go_roundw
      case rel => exact ⟨j + 1, by omega, by go_num, hK2, hres.out⟩
      case measure => simp [intOf]; omega
   ·have hok : badTarget n j i = false := by
     have : isJump i = false := by
      cases hh : isJump i
      ·rfl
      ·exact absurd ((isJump_form i).1 hh) hj6
     unfold badTarget; rw [this]; rfl
    have hres := Lib.hid (show targetsOk n 0 l = targetsOk n (j + 1) (l.drop (j + 1)) by rw [HTJ.out, hs.out, hok]; rfl)
    have q1 : (formZ i.op == 6) = false := by simp; omega
    have q2 : (formZ i.op == 7) = false := by simp; omega
    clear hok hj6
    go_wp2_with fail
    go_roundw
    case rel => exact ⟨j + 1, by omega, by go_num, hK, hres.out⟩
    case measure => simp [intOf]; omega
  ·have hres := Lib.hid (show errT (targetsOk n 0 l) = 0 by rw [HTJ.out, HE.out j (by omega)]; rfl)
   go_wp2_with fail
   go_ret
   exact ⟨ret_int (by rw [HN.out]; exact hres.out.symm), HK.out _ hK⟩
def sizesOk (n : Nat) (sz : Int) (m : Nat) : Bool := decide (1 ≤ n ∧ n ≤ 2000 ∧ 0 ≤ sz ∧ sz ≤ 65536 ∧ (m : Int) ≤ sz)
def rightZ (l : List Ins) (sz : Int) (m : Nat) : Bool := sizesOk l.length sz m && l.all rightB && targetsOk l.length 0 l
theorem rightZ_no {l : List Ins} {sz : Int} {m : Nat} (h : ¬ (1 ≤ l.length ∧ l.length ≤ 2000 ∧ 0 ≤ sz ∧ sz ≤ 65536 ∧ (m : Int) ≤ sz)) : rightZ l sz m = false := by
 unfold rightZ sizesOk; rw [decide_eq_false h]; rfl
theorem rightZ_all {l : List Ins} {sz : Int} {m : Nat} (h : l.all rightB = false) : rightZ l sz m = false := by
 unfold rightZ; rw [h]; simp
theorem rightZ_yes {l : List Ins} {sz : Int} {m : Nat} (h : 1 ≤ l.length ∧ l.length ≤ 2000 ∧ 0 ≤ sz ∧ sz ≤ 65536 ∧ (m : Int) ≤ sz) (ha : l.all rightB = true) : rightZ l sz m = targetsOk l.length 0 l := by
 unfold rightZ sizesOk; rw [decide_eq_true h, ha]; rfl
theorem right_prog (p : Prog) : p.right = rightZ p.code p.size p.data.length := rfl
set_option maxHeartbeats 4000000 in
theorem refRight_any (A : Option Addr) (c : Nat) (sz : Int) (A' : Option Addr) (m c' : Nat) (l : List Ins) (w : World) (hr : Row w w.heap.size 5 (.slice A l.length c) l.length (codeCells l)) (hm : m ≤ c') (hc' : c' ≤ 9223372036854775807) :
  Calls Tryd.prog 12 #[.agg #[.slice A l.length c, .int .i64 sz, .slice A' m c']] w fun e w' => e = .returned (.bool (rightZ l sz m)) ∧ Below w.heap.size w w' := by
 obtain ⟨hcl, hcm⟩ := hr.cap
 have HK := Lib.hid (fun (x : World) (h : Kept (w.alloc (.cells #[.slice A l.length c, .int .i64 sz, .slice A' m c'] 26)) x) => ((Below.refl w.heap.size w).alloc (Nat.le_refl _) _).trans (h.mono (by simp)))
 by_cases hno : 1 ≤ l.length ∧ l.length ≤ 2000 ∧ 0 ≤ sz ∧ sz ≤ 65536 ∧ (m : Int) ≤ sz
 rotate_left
 ·rw [rightZ_no hno]
  clear hr
  generalize l.length = n at *
  by_cases h1 : n < 1
  ·go_enter Tryd.func12, Tryd.ntmps12
   go_wp2_with fail
   go_ret
   exact ⟨rfl, HK.out _ (Kept.refl _)⟩
  by_cases h2 : 2000 < n
  ·go_enter Tryd.func12, Tryd.ntmps12
   go_wp2_with fail
   go_ret
   exact ⟨rfl, HK.out _ (Kept.refl _)⟩
  by_cases h3 : sz < 0
  ·go_enter Tryd.func12, Tryd.ntmps12
   go_wp2_with fail
   go_ret
   exact ⟨rfl, HK.out _ (Kept.refl _)⟩
  by_cases h4 : 65536 < sz
  ·go_enter Tryd.func12, Tryd.ntmps12
   go_wp2_with fail
   go_ret
   exact ⟨rfl, HK.out _ (Kept.refl _)⟩
  have h5 : sz < (m : Int) := by omega
  clear hno
  go_enter Tryd.func12, Tryd.ntmps12
  go_wp2_with fail
  go_ret
  exact ⟨rfl, HK.out _ (Kept.refl _)⟩
 have HNO := Lib.hid hno
 obtain ⟨n1, n2, n3, n4, n5⟩ := hno
 obtain ⟨b, off, rfl, hb, _⟩ := hr.at_ (by omega)
 have hB : w.heap.size < (w.alloc (.cells #[.slice (some ⟨b, off, none⟩) l.length c, .int .i64 sz, .slice A' m c'] 26)).heap.size := by simp
 have HR := Lib.hid (hr.alloc (Nat.le_refl _) (.cells #[.slice (some ⟨b, off, none⟩) l.length c, .int .i64 sz, .slice A' m c'] 26) |>.more (Nat.le_of_lt hB))
 have HA := Lib.hid (fun j h => at_some (l := l) (j := j) h)
 have HT := Lib.hid (fun j i h => all_step (j := j) (l := l) (i := i) h)
 have HE := Lib.hid (fun (k : Nat) (h : l.length ≤ k) => List.drop_eq_nil_of_le h)
 have H0 := Lib.hid (show l.all rightB = (l.drop 0).all rightB by rw [List.drop_zero])
 have HC := Lib.hid (fun (x : World) (h : Kept (w.alloc (.cells #[.slice (some ⟨b, off, none⟩) l.length c, .int .i64 sz, .slice A' m c'] 26)) x) (k : Nat) (i : Ins) (hi : l[k]? = some i) =>
  (h.row HR.out).ins hi)
 have HD := Lib.hid (fun (x : World) (h : Kept (w.alloc (.cells #[.slice (some ⟨b, off, none⟩) l.length c, .int .i64 sz, .slice A' m c'] 26)) x) =>
  refTargets_any (some ⟨b, off, none⟩) c sz (.slice A' m c') l x (h.row HR.out) (Nat.le_trans n2 (by omega)))
 have HF := Lib.hid (fun h => rightZ_all (l := l) (sz := sz) (m := m) h)
 have HY := Lib.hid (fun h => rightZ_yes (l := l) HNO.out h)
 have c0 : (w.alloc (.cells #[.slice (some ⟨b, off, none⟩) l.length c, .int .i64 sz, .slice A' m c'] 26)).cell? ⟨w.heap.size, 0, none⟩ = some (.slice (some ⟨b, off, none⟩) l.length c) := by go_simp
 have c1 : (w.alloc (.cells #[.slice (some ⟨b, off, none⟩) l.length c, .int .i64 sz, .slice A' m c'] 26)).cell? ⟨w.heap.size, 1, none⟩ = some (.int .i64 sz) := by go_simp
 have c2 : (w.alloc (.cells #[.slice (some ⟨b, off, none⟩) l.length c, .int .i64 sz, .slice A' m c'] 26)).cell? ⟨w.heap.size, 2, none⟩ = some (.slice A' m c') := by go_simp
 clear HNO
 go_enter Tryd.func12, Tryd.ntmps12
 go_wp2_with fail
 generalize w.alloc (.cells #[.slice (some ⟨b, off, none⟩) l.length c, .int .i64 sz, .slice A' m c'] 26) = W at *
 have C0 := Lib.hid (fun (x : World) (h : Kept W x) => h.cell hB c0)
 have C1 := Lib.hid (fun (x : World) (h : Kept W x) => h.cell hB c1)
 have C2 := Lib.hid (fun (x : World) (h : Kept W x) => h.cell hB c2)
 clear c0 c1 c2 hr hB
 generalize hN : l.length = n at *
 have HN := Lib.hid hN
 clear hN
 go_loopw [3] (fun i wr => ∃ j : Nat, j ≤ n ∧ i = .int .i64 j ∧ Kept W wr ∧ l.all rightB = (l.drop j).all rightB) (fun i _ => n - (intOf i).toNat)
 case atStart => exact ⟨0, Nat.zero_le _, rfl, Kept.refl _, H0.out⟩
 case round =>
  obtain ⟨j, hj, rfl, hK, hT⟩ := hrel
  have HTJ := Lib.hid hT
  clear hT
  have c0 := C0.out _ hK
  by_cases hlt : j < n
  ·obtain ⟨i, hi⟩ := HA.out j hlt
   have hs := Lib.hid (HT.out j i hi)
   obtain ⟨d0, d1, d2, d3, d4⟩ := HC.out _ hK j i hi
   have k0 : (0 : Int) ≤ j := by omega
   have k1 : (j : Int) < n := by omega
   go_wp2_with fail
   refine (rightIns_any i _).mono ?_; rintro e w1 ⟨rfl, hb2⟩
   have hK2 := hK.to hb2
   clear hb2
   cases hri : rightB i
   ·have hres := Lib.hid (HF.out (by rw [HTJ.out, hs.out, hri]; rfl))
    go_wp2_with fail
    go_ret
    exact ⟨ret_bool hres.out.symm, HK.out _ hK2⟩
   ·have hres := Lib.hid (show l.all rightB = (l.drop (j + 1)).all rightB by rw [HTJ.out, hs.out, hri]; rfl)
    go_wp2_with fail
    go_roundw
    case rel => exact ⟨j + 1, by omega, by go_num, hK2, hres.out⟩
    case measure => simp [intOf]; omega
  ·have hres := Lib.hid (HY.out (by rw [HTJ.out, HE.out j (by omega)]; rfl))
   have c1 := C1.out _ hK
   have c2 := C2.out _ hK
   have HDx := Lib.hid (HD.out _ hK)
   go_wp2_with fail
   refine HDx.out.mono ?_; rintro e w2 ⟨rfl, hb2⟩
   have hK2 := hK.to hb2
   clear hb2
   cases ht : targetsOk n 0 l
   ·rw [ht] at hres
    have e4 : errT false = 4 := rfl
    rw [e4]
    go_wp2_with fail
    go_ret
    exact ⟨ret_bool hres.out.symm, HK.out _ hK2⟩
   ·rw [ht] at hres
    have e4 : errT true = 0 := rfl
    rw [e4]
    go_wp2_with fail
    go_ret
    exact ⟨ret_bool hres.out.symm, HK.out _ hK2⟩
end Go.Proofs.YtcaibahniheohaaDoor.Words

/- Contracts of package image: numbers, Targets, Right. -/
namespace Go.Proofs.YtcaibahniheohaaDoor.Words
set_option maxRecDepth 100000
open Go.RowKit
set_option linter.unusedVariables false
set_option maxHeartbeats 400000 in
theorem numbersOf_any (A A' : Option Addr) (n c m c' : Nat) (sz : Int) (w : World) (hn : n ≤ 9223372036854775807) (hm : m ≤ 9223372036854775807) :
  Calls Tryd.prog 63 #[.agg #[.slice A n c, .int .i64 sz, .slice A' m c']] w fun e w' => e = .returned (.agg #[.int .i64 n, .int .i64 sz, .int .i64 m]) ∧ Below w.heap.size w w' := by
 go_enter Tryd.func63, Tryd.ntmps63
 go_wp2_with fail
 refine bodyPost_ret (v := .agg #[.int .i64 n, .int .i64 sz, .int .i64 m]) (by simp [results, Tryd.results63, go_sem]; done) rfl ⟨rfl, ?_⟩
 exact ((Below.refl w.heap.size w).alloc (Nat.le_refl _) _).alloc (by simp) _
def fitN (n sz m : Int) : Bool := decide (1 ≤ n ∧ n ≤ 2000 ∧ 0 ≤ sz ∧ sz ≤ 65536 ∧ 0 ≤ m ∧ m ≤ sz)
theorem fitN_no {n sz m : Int} (h : ¬ (1 ≤ n ∧ n ≤ 2000 ∧ 0 ≤ sz ∧ sz ≤ 65536 ∧ 0 ≤ m ∧ m ≤ sz)) : fitN n sz m = false := decide_eq_false h
theorem fitN_yes {n sz m : Int} (h : 1 ≤ n ∧ n ≤ 2000 ∧ 0 ≤ sz ∧ sz ≤ 65536 ∧ 0 ≤ m ∧ m ≤ sz) : fitN n sz m = true := decide_eq_true h
set_option maxHeartbeats 2000000 in
theorem fit_any (n sz m : Int) (w : World) :
  Calls Tryd.prog 64 #[.agg #[.int .i64 n, .int .i64 sz, .int .i64 m]] w fun e w' => e = .returned (.bool (fitN n sz m)) ∧ Below w.heap.size w w' := by
 by_cases h1 : n < 1
 ·rw [fitN_no (by omega)]
  go_enter Tryd.func64, Tryd.ntmps64
  go_wp2_with fail
  go_ret
  exact ⟨rfl, (Below.refl _ _).alloc (Nat.le_refl _) _⟩
 by_cases h2 : 2000 < n
 ·rw [fitN_no (by omega)]
  go_enter Tryd.func64, Tryd.ntmps64
  go_wp2_with fail
  go_ret
  exact ⟨rfl, (Below.refl _ _).alloc (Nat.le_refl _) _⟩
 by_cases h3 : sz < 0
 ·rw [fitN_no (by omega)]
  go_enter Tryd.func64, Tryd.ntmps64
  go_wp2_with fail
  go_ret
  exact ⟨rfl, (Below.refl _ _).alloc (Nat.le_refl _) _⟩
 by_cases h4 : 65536 < sz
 ·rw [fitN_no (by omega)]
  go_enter Tryd.func64, Tryd.ntmps64
  go_wp2_with fail
  go_ret
  exact ⟨rfl, (Below.refl _ _).alloc (Nat.le_refl _) _⟩
 by_cases h5 : m < 0
 ·rw [fitN_no (by omega)]
  go_enter Tryd.func64, Tryd.ntmps64
  go_wp2_with fail
  go_ret
  exact ⟨rfl, (Below.refl _ _).alloc (Nat.le_refl _) _⟩
 by_cases h6 : sz < m
 ·rw [fitN_no (by omega)]
  go_enter Tryd.func64, Tryd.ntmps64
  go_wp2_with fail
  go_ret
  exact ⟨ret_bool (by simp; try omega), (Below.refl _ _).alloc (Nat.le_refl _) _⟩
 ·rw [fitN_yes (by omega)]
  go_enter Tryd.func64, Tryd.ntmps64
  go_wp2_with fail
  go_ret
  exact ⟨ret_bool (by simp; try omega), (Below.refl _ _).alloc (Nat.le_refl _) _⟩
set_option maxHeartbeats 400000 in
theorem hasTarget_any (i : Ins) (w : World) :
  Calls Tryd.prog 61 #[.int .i64 i.op] w fun e w' => e = .returned (.bool (isJump i)) ∧ w = w' := by
 have hF := formZ_range i.op
 have HJ := Lib.hid (isJump_form i)
 go_enter Tryd.func61, Tryd.ntmps61
 go_wp2_with fail
 refine (form_any _ _).mono ?_; rintro e w1 ⟨rfl, rfl⟩
 by_cases h6 : formZ i.op = 6
 ·have hj := Lib.hid (HJ.out.2 (.inl h6))
  rw [h6]
  go_wp2_with fail
  go_ret
  exact ⟨ret_bool hj.out.symm, rfl⟩
 by_cases h7 : formZ i.op = 7
 ·have hj := Lib.hid (HJ.out.2 (.inr h7))
  rw [h7]
  go_wp2_with fail
  go_ret
  exact ⟨ret_bool hj.out.symm, rfl⟩
 ·have hj : isJump i = false := by
   cases hh : isJump i
   ·rfl
   ·rcases HJ.out.1 hh with h | h <;> omega
  have hj := Lib.hid hj
  clear HJ
  go_wp2_with fail
  go_ret
  exact ⟨ret_bool (by rw [hj.out]; simp; omega), rfl⟩
theorem badTarget_eq {n k : Nat} {i : Ins} (hk : k < n) (hn : n ≤ 8192) : badTarget n k i = (isJump i && !decide (-(k : Int) ≤ i.imm ∧ i.imm < n - k)) := by
 unfold badTarget
 cases hj : isJump i
 ·rfl
 ·simp only [Bool.true_and]
  by_cases h : -(k : Int) ≤ i.imm ∧ i.imm < n - k
  ·rw [targetZ_yes hj (by omega) (by omega) (by omega) (by omega), decide_eq_true h]; simp; omega
  ·rw [targetZ_no (by omega), decide_eq_false h]; rfl
set_option maxHeartbeats 400000 in
theorem within_any (n k : Nat) (imm : Int) (w : World) (hk : k < n) (hn : n ≤ 8192) :
  Calls Tryd.prog 62 #[.int .i64 k, .int .i64 imm, .int .i64 n] w fun e w' => e = .returned (.bool (decide (-(k : Int) ≤ imm ∧ imm < n - k))) ∧ w = w' := by
 by_cases h1 : -(k : Int) ≤ imm
 ·by_cases h2 : imm < n - k
  ·have hr : decide (-(k : Int) ≤ imm ∧ imm < n - k) = true := decide_eq_true ⟨h1, h2⟩
   rw [hr]
   clear hr
   go_enter Tryd.func62, Tryd.ntmps62
   go_wp2_with fail
   go_ret
   exact ⟨rfl, rfl⟩
  ·have hr : decide (-(k : Int) ≤ imm ∧ imm < n - k) = false := decide_eq_false (fun h => h2 h.2)
   rw [hr]
   clear hr
   go_enter Tryd.func62, Tryd.ntmps62
   go_wp2_with fail
   go_ret
   exact ⟨rfl, rfl⟩
 ·have hr : decide (-(k : Int) ≤ imm ∧ imm < n - k) = false := decide_eq_false (fun h => h1 h.1)
  rw [hr]
  clear hr
  go_enter Tryd.func62, Tryd.ntmps62
  go_wp2_with fail
  go_ret
  exact ⟨rfl, rfl⟩
end Go.Proofs.YtcaibahniheohaaDoor.Words

/- Contracts of package image: Targets, Right. -/
namespace Go.Proofs.YtcaibahniheohaaDoor.Words
set_option maxRecDepth 100000
open Go.RowKit
set_option linter.unusedVariables false
set_option maxHeartbeats 2000000 in
theorem targets_any (A : Option Addr) (c : Nat) (sz : Int) (vd : Value) (l : List Ins) (w : World) (hr : Row w w.heap.size 5 (.slice A l.length c) l.length (codeCells l)) (hsmall : l.length ≤ 8192) :
  Calls Tryd.prog 32 #[.agg #[.slice A l.length c, .int .i64 sz, vd]] w fun e w' => e = .returned (.int .i64 (errT (targetsOk l.length 0 l))) ∧ Below w.heap.size w w' := by
 obtain ⟨hcl, hcm⟩ := hr.cap
 have HK := Lib.hid (fun (x : World) (h : Kept (w.alloc (.cells #[.slice A l.length c, .int .i64 sz, vd] 26)) x) => ((Below.refl w.heap.size w).alloc (Nat.le_refl _) _).trans (h.mono (by simp)))
 by_cases hn : l.length = 0
 ·have hl : l = [] := List.eq_nil_of_length_eq_zero hn
  subst hl
  go_enter Tryd.func32, Tryd.ntmps32
  go_wp2_with fail
  refine wp_loop_rounds 1 ?_
  rw [rounds_succ]
  go_wp2_with fail
  go_ret
  exact ⟨rfl, HK.out _ (Kept.refl _)⟩
 obtain ⟨b, off, rfl, hb, _⟩ := hr.at_ hn
 have hB : w.heap.size < (w.alloc (.cells #[.slice (some ⟨b, off, none⟩) l.length c, .int .i64 sz, vd] 26)).heap.size := by simp
 have HR := Lib.hid (hr.alloc (Nat.le_refl _) (.cells #[.slice (some ⟨b, off, none⟩) l.length c, .int .i64 sz, vd] 26) |>.more (Nat.le_of_lt hB))
 have HA := Lib.hid (fun j h => at_some (l := l) (j := j) h)
 have HT := Lib.hid (fun j i h => targetsOk_step (n := l.length) (j := j) (l := l) (i := i) h)
 have HE := Lib.hid (fun (k : Nat) (h : l.length ≤ k) => List.drop_eq_nil_of_le h)
 have H0 := Lib.hid (show targetsOk l.length 0 l = targetsOk l.length 0 (l.drop 0) by rw [List.drop_zero])
 have HC := Lib.hid (fun (x : World) (h : Kept (w.alloc (.cells #[.slice (some ⟨b, off, none⟩) l.length c, .int .i64 sz, vd] 26)) x) (k : Nat) (i : Ins) (hi : l[k]? = some i) =>
  (h.row HR.out).ins hi)
 have c0 : (w.alloc (.cells #[.slice (some ⟨b, off, none⟩) l.length c, .int .i64 sz, vd] 26)).cell? ⟨w.heap.size, 0, none⟩ = some (.slice (some ⟨b, off, none⟩) l.length c) := by go_simp
 go_enter Tryd.func32, Tryd.ntmps32
 go_wp2_with fail
 generalize w.alloc (.cells #[.slice (some ⟨b, off, none⟩) l.length c, .int .i64 sz, vd] 26) = W at *
 have C0 := Lib.hid (fun (x : World) (h : Kept W x) => h.cell hB c0)
 clear c0 hr hB
 generalize hN : l.length = n at *
 have HN := Lib.hid hN
 clear hN
 go_loopw [8] (fun i wr => ∃ j : Nat, j ≤ n ∧ i = .int .i64 j ∧ Kept W wr ∧ targetsOk n 0 l = targetsOk n j (l.drop j)) (fun i _ => n - (intOf i).toNat)
 case atStart => exact ⟨0, Nat.zero_le _, rfl, Kept.refl _, H0.out⟩
 case round =>
  obtain ⟨j, hj, rfl, hK, hT⟩ := hrel
  have HTJ := Lib.hid hT
  clear hT
  by_cases hlt : j < n
  ·obtain ⟨i, hi⟩ := HA.out j hlt
   have hs := Lib.hid (HT.out j i hi)
   obtain ⟨d0, d1, d2, d3, d4⟩ := HC.out _ hK j i hi
   have k0 : (0 : Int) ≤ j := by omega
   have k1 : (j : Int) < n := by omega
   have hbad := Lib.hid (badTarget_eq (n := n) (k := j) (i := i) hlt hsmall)
   have C0x := C0.out _ (hK.alloc (.cells #[.int .i64 i.op, .int .i64 i.d, .int .i64 i.a, .int .i64 i.b, .int .i64 i.imm] 38))
   go_wp2_with fail
   refine (hasTarget_any i _).mono ?_; rintro e w1 ⟨rfl, rfl⟩
   have hK2 := hK.alloc (.cells #[.int .i64 i.op, .int .i64 i.d, .int .i64 i.a, .int .i64 i.b, .int .i64 i.imm] 38)
   cases hjm : isJump i
   ·have hok : badTarget n j i = false := by rw [hbad.out, hjm]; rfl
    have hres := Lib.hid (show targetsOk n 0 l = targetsOk n (j + 1) (l.drop (j + 1)) by rw [HTJ.out, hs.out, hok]; rfl)
    clear hok
    go_wp2_with fail
    go_roundw
    case rel => exact ⟨j + 1, by omega, by go_num, hK2, hres.out⟩
    case measure => simp [intOf]; omega
   ·go_wp2_with fail
    refine (within_any n j i.imm _ hlt hsmall).mono ?_; rintro e w2 ⟨rfl, rfl⟩
    cases hw : decide (-(j : Int) ≤ i.imm ∧ i.imm < n - j)
    ·have hres := Lib.hid (show errT (targetsOk n 0 l) = 4 by rw [HTJ.out, hs.out, hbad.out, hjm, hw]; rfl)
     clear hw
     go_wp2_with fail
     go_ret
     exact ⟨ret_int (by rw [HN.out]; exact hres.out.symm), HK.out _ hK2⟩
    ·have hres := Lib.hid (show targetsOk n 0 l = targetsOk n (j + 1) (l.drop (j + 1)) by rw [HTJ.out, hs.out, hbad.out, hjm, hw]; rfl)
     clear hw
     go_wp2_with fail
     go_roundw
     case rel => exact ⟨j + 1, by omega, by go_num, hK2, hres.out⟩
     case measure => simp [intOf]; omega
  ·have hres := Lib.hid (show errT (targetsOk n 0 l) = 0 by rw [HTJ.out, HE.out j (by omega)]; rfl)
   go_wp2_with fail
   go_ret
   exact ⟨ret_int (by rw [HN.out]; exact hres.out.symm), HK.out _ hK⟩
set_option maxHeartbeats 2000000 in
theorem allRight_any (A : Option Addr) (c : Nat) (l : List Ins) (w : World) (hr : Row w w.heap.size 5 (.slice A l.length c) l.length (codeCells l)) (hsmall : l.length ≤ 8192) :
  Calls Tryd.prog 65 #[.slice A l.length c] w fun e w' => e = .returned (.bool (l.all rightB)) ∧ Below w.heap.size w w' := by
 obtain ⟨hcl, hcm⟩ := hr.cap
 by_cases hn : l.length = 0
 ·have hl : l = [] := List.eq_nil_of_length_eq_zero hn
  subst hl
  go_enter Tryd.func65, Tryd.ntmps65
  go_wp2_with fail
  refine wp_loop_rounds 1 ?_
  rw [rounds_succ]
  go_wp2_with fail
  go_ret
  exact ⟨rfl, Below.refl _ _⟩
 obtain ⟨b, off, rfl, hb, _⟩ := hr.at_ hn
 have HA := Lib.hid (fun j h => at_some (l := l) (j := j) h)
 have HT := Lib.hid (fun j i h => all_step (j := j) (l := l) (i := i) h)
 have HE := Lib.hid (fun (k : Nat) (h : l.length ≤ k) => List.drop_eq_nil_of_le h)
 have H0 := Lib.hid (show l.all rightB = (l.drop 0).all rightB by rw [List.drop_zero])
 have HC := Lib.hid (fun (x : World) (h : Kept w x) (k : Nat) (i : Ins) (hi : l[k]? = some i) => (h.row hr).ins hi)
 clear hr hb
 go_enter Tryd.func65, Tryd.ntmps65
 go_wp2_with fail
 generalize hN : l.length = n at *
 have HN := Lib.hid hN
 clear hN
 go_loopw [7] (fun i wr => ∃ j : Nat, j ≤ n ∧ i = .int .i64 j ∧ Kept w wr ∧ l.all rightB = (l.drop j).all rightB) (fun i _ => n - (intOf i).toNat)
 case atStart => exact ⟨0, Nat.zero_le _, rfl, Kept.refl _, H0.out⟩
 case round =>
  obtain ⟨j, hj, rfl, hK, hT⟩ := hrel
  have HTJ := Lib.hid hT
  clear hT
  by_cases hlt : j < n
  ·obtain ⟨i, hi⟩ := HA.out j hlt
   have hs := Lib.hid (HT.out j i hi)
   obtain ⟨d0, d1, d2, d3, d4⟩ := HC.out _ hK j i hi
   have k0 : (0 : Int) ≤ j := by omega
   have k1 : (j : Int) < n := by omega
   go_wp2_with fail
   refine (right_any i _).mono ?_; rintro e w1 ⟨rfl, hb2⟩
   have hK2 := (hK.alloc _).to hb2
   clear hb2
   cases hri : rightB i
   ·have hres := Lib.hid (show l.all rightB = false by rw [HTJ.out, hs.out, hri]; rfl)
    go_wp2_with fail
    go_ret
    exact ⟨ret_bool hres.out.symm, hK2⟩
   ·have hres := Lib.hid (show l.all rightB = (l.drop (j + 1)).all rightB by rw [HTJ.out, hs.out, hri]; rfl)
    go_wp2_with fail
    go_roundw
    case rel => exact ⟨j + 1, by omega, by go_num, hK2, hres.out⟩
    case measure => simp [intOf]; omega
  ·have hres := Lib.hid (show l.all rightB = true by rw [HTJ.out, HE.out j (by omega)]; rfl)
   go_wp2_with fail
   go_ret
   exact ⟨ret_bool hres.out.symm, hK⟩
theorem rightZ_fit {l : List Ins} {sz : Int} {m : Nat} : rightZ l sz m = (fitN l.length sz m && l.all rightB && targetsOk l.length 0 l) := by
 unfold rightZ sizesOk fitN
 congr 2
 rw [decide_eq_decide]
 omega
set_option maxHeartbeats 2000000 in
theorem imgRight_any (A : Option Addr) (c : Nat) (sz : Int) (A' : Option Addr) (m c' : Nat) (l : List Ins) (w : World) (hr : Row w w.heap.size 5 (.slice A l.length c) l.length (codeCells l)) (hm : m ≤ c') (hc' : c' ≤ 9223372036854775807) :
  Calls Tryd.prog 33 #[.agg #[.slice A l.length c, .int .i64 sz, .slice A' m c']] w fun e w' => e = .returned (.bool (rightZ l sz m)) ∧ Below w.heap.size w w' := by
 obtain ⟨hcl, hcm⟩ := hr.cap
 have HK := Lib.hid (fun (x : World) (h : Kept (w.alloc (.cells #[.slice A l.length c, .int .i64 sz, .slice A' m c'] 26)) x) => ((Below.refl w.heap.size w).alloc (Nat.le_refl _) _).trans (h.mono (by simp)))
 have hB : w.heap.size < (w.alloc (.cells #[.slice A l.length c, .int .i64 sz, .slice A' m c'] 26)).heap.size := by simp
 have HR := Lib.hid (hr.alloc (Nat.le_refl _) (.cells #[.slice A l.length c, .int .i64 sz, .slice A' m c'] 26) |>.more (Nat.le_of_lt hB))
 have c0 : (w.alloc (.cells #[.slice A l.length c, .int .i64 sz, .slice A' m c'] 26)).cell? ⟨w.heap.size, 0, none⟩ = some (.slice A l.length c) := by go_simp
 have c1 : (w.alloc (.cells #[.slice A l.length c, .int .i64 sz, .slice A' m c'] 26)).cell? ⟨w.heap.size, 1, none⟩ = some (.int .i64 sz) := by go_simp
 have c2 : (w.alloc (.cells #[.slice A l.length c, .int .i64 sz, .slice A' m c'] 26)).cell? ⟨w.heap.size, 2, none⟩ = some (.slice A' m c') := by go_simp
 have HZ := Lib.hid (rightZ_fit (l := l) (sz := sz) (m := m))
 have HS := Lib.hid (fun (h : fitN l.length sz m = true) => (show l.length ≤ 8192 by have := of_decide_eq_true h; omega))
 go_enter Tryd.func33, Tryd.ntmps33
 go_wp2_with fail
 generalize w.alloc (.cells #[.slice A l.length c, .int .i64 sz, .slice A' m c'] 26) = W at *
 have C0 := Lib.hid (fun (x : World) (h : Kept W x) => h.cell hB c0)
 have C1 := Lib.hid (fun (x : World) (h : Kept W x) => h.cell hB c1)
 have C2 := Lib.hid (fun (x : World) (h : Kept W x) => h.cell hB c2)
 have HA := Lib.hid (fun (x : World) (h : Kept W x) (hs : l.length ≤ 8192) => allRight_any A c l x (h.row HR.out) hs)
 have HT := Lib.hid (fun (x : World) (h : Kept W x) (hs : l.length ≤ 8192) => targets_any A c sz (.slice A' m c') l x (h.row HR.out) hs)
 clear c0 c1 c2 hr hB
 refine (numbersOf_any A A' l.length c m c' sz _ (by omega) (by omega)).mono ?_; rintro e w1 ⟨rfl, hb1⟩
 have k1 : Kept W w1 := hb1
 have c0 := C0.out _ k1
 clear hb1
 go_wp2_with fail
 refine (fit_any l.length sz m _).mono ?_; rintro e w2 ⟨rfl, hb2⟩
 have k2 := k1.to hb2
 have c0 := C0.out _ k2
 clear hb2 k1
 cases hf : fitN l.length sz m
 ·have hres := Lib.hid (show rightZ l sz m = false by rw [HZ.out, hf]; rfl)
  go_wp2_with fail
  go_ret
  exact ⟨ret_bool hres.out.symm, HK.out _ k2⟩
 have hs := HS.out hf
 have HAx := Lib.hid (HA.out _ k2 hs)
 go_wp2_with fail
 refine HAx.out.mono ?_; rintro e w3 ⟨rfl, hb3⟩
 have k3 := k2.to hb3
 have c0 := C0.out _ k3
 have c1 := C1.out _ k3
 have c2 := C2.out _ k3
 clear hb3 k2
 cases ha : l.all rightB
 ·have hres := Lib.hid (show rightZ l sz m = false by rw [HZ.out, hf, ha]; rfl)
  go_wp2_with fail
  go_ret
  exact ⟨ret_bool hres.out.symm, HK.out _ k3⟩
 have HTx := Lib.hid (HT.out _ k3 hs)
 go_wp2_with fail
 refine HTx.out.mono ?_; rintro e w4 ⟨rfl, hb4⟩
 have k4 := k3.to hb4
 clear hb4 k3
 cases ht : targetsOk l.length 0 l
 ·have hres := Lib.hid (show rightZ l sz m = false by rw [HZ.out, hf, ha, ht]; rfl)
  have e4 : errT false = 4 := rfl
  rw [e4]
  go_wp2_with fail
  go_ret
  exact ⟨ret_bool hres.out.symm, HK.out _ k4⟩
 ·have hres := Lib.hid (show rightZ l sz m = true by rw [HZ.out, hf, ha, ht]; rfl)
  have e4 : errT true = 0 := rfl
  rw [e4]
  go_wp2_with fail
  go_ret
  exact ⟨ret_bool hres.out.symm, HK.out _ k4⟩
end Go.Proofs.YtcaibahniheohaaDoor.Words

/- What a text's program is: plain mathematics. -/
namespace Go.Proofs.YtcaibahniheohaaDoor.Words
set_option maxRecDepth 100000
open Go.RowKit Go.Shelf Go.Lib
set_option linter.unusedVariables false
set_option linter.unusedSimpArgs false
def checkZ (p : Prog) : AsmR := if targetsOk p.code.length 0 p.code = false then .bad 0 4 else if rightZ p.code p.size p.data.length = true then .ok p else .bad 0 1
def endZ (Z : AsmR) : AsmR := match Z with | .bad a e => .bad a e | .ok p => checkZ p
def partsZ (n : Nat) (Z : Bool × List Tok × List PartZ) : AsmR := if Z.1 = true then endZ (layF Z.2.2 [] Z.2.2 ⟨[], 0, []⟩) else .bad (headAt Z.2.1 n) 5
def asmZ (l : List UInt8) : AsmR := match lexZ l with | .bad a e => .bad a e | .toks t => partsZ l.length (textT t)
/-! ### what holds of each token -/
theorem lexF_all (l : List UInt8) (P : Tok → Prop) (h : ∀ p x, p < l.length → (takeZ l p x).1 = 0 → (∀ t ∈ x.toks, P t) → ∀ t ∈ (takeZ l p x).2.toks, P t) : ∀ f p x, (∀ t ∈ x.toks, P t) → ∀ ts, lexF l f p x = .toks ts → ∀ k ∈ ts, P k
 | 0, p, x, hx, ts, he => by unfold lexF at he; injection he with he; subst he; exact hx
 | f + 1, p, x, hx, ts, he => by
  unfold lexF at he
  split at he
  ·rename_i hp
   split at he
   ·exact lexF_all l P h f _ x hx ts he
   ·split at he
    ·rename_i h0
     exact lexF_all l P h f _ _ (h p x hp h0 hx) ts he
    ·cases he
  ·injection he with he; subst he; exact hx
theorem add_all {P : Tok → Prop} {l : List UInt8} {k n : Int} {p s : Nat} {x : LexS} (hx : ∀ t ∈ x.toks, P t) (h : P ⟨k, n, p, (l.drop p).take s⟩) : ∀ t ∈ (addZ l k n p s x).toks, P t := by
 intro t ht
 unfold addZ at ht
 rcases List.mem_append.1 ht with ht | ht
 ·exact hx t ht
 ·rw [List.mem_singleton.1 ht]; exact h
theorem take_all {P : Tok → Prop} {l : List UInt8} {p : Nat} {x : LexS} (hx : ∀ t ∈ x.toks, P t) (h0 : (takeZ l p x).1 = 0)
  (h4 : runeR (l.drop p) = 10 → P ⟨4, 0, p, (l.drop p).take 1⟩) (h1 : firstR (runeR (l.drop p)) = true → P ⟨1, 0, p, (l.drop p).take (nameZ (l.drop p))⟩) (h3 : signR (runeR (l.drop p)) = true → P ⟨3, 0, p, (l.drop p).take 1⟩)
  (h2 : -4294967296 ≤ (numZ (l.drop p)).1 → (numZ (l.drop p)).1 ≤ 4294967296 → P ⟨2, (numZ (l.drop p)).1, p, (l.drop p).take (numZ (l.drop p)).2⟩) : ∀ t ∈ (takeZ l p x).2.toks, P t := by
 unfold takeZ at h0 ⊢
 split
 ·exact hx
 split
 ·rename_i hr
  unfold lineZ
  split
  ·exact add_all hx (h4 hr)
  ·exact hx
 split
 ·exact hx
 split
 ·exact hx
 split
 ·rename_i hf; exact add_all hx (h1 hf)
 split
 ·rename_i hs; exact add_all hx (h3 hs)
 ·unfold numberZ at h0 ⊢
  split
  ·exact hx
  split
  ·exact hx
  ·rename_i hn; exact add_all hx (h2 (by omega) (by omega))
theorem lexZ_toks {l : List UInt8} {t : List Tok} (h : lexZ l = .toks t) : l.length ≤ 20000 ∧ lexF l l.length 0 ⟨0, false, []⟩ = .toks t := by
 unfold lexZ at h
 by_cases hl : 20000 < l.length
 ·rw [if_pos hl] at h; cases h
 ·rw [if_neg hl] at h; exact ⟨by omega, h⟩
theorem lex_good {l : List UInt8} {t : List Tok} (h : lexZ l = .toks t) : ∀ i k, t[i]? = some k → Stands l t i k := by
 have h2 := lexZ_good (l := l) (lexZ_toks h).1
 rw [h] at h2
 exact h2
theorem lex_len {l : List UInt8} {t : List Tok} (h : lexZ l = .toks t) : t.length ≤ l.length := by
 have hg := lex_good h
 have key : ∀ (j : Nat) (b : Tok), t[j]? = some b → j ≤ b.at_ := by
  intro j
  induction j with
  | zero => intro b hb; omega
  | succ j ih =>
   intro b hb
   obtain ⟨c, hc⟩ : ∃ c, t[j]? = some c := ⟨_, List.getElem?_eq_getElem (by have := (List.getElem?_eq_some_iff.1 hb).1; omega)⟩
   have h1 := (hg (j + 1) b hb).from_
   rw [endOf_succ, hc] at h1
   have h3 : 0 < c.text.length := List.length_pos_iff.2 (hg j c hc).some_
   have h4 : c.at_ + c.text.length ≤ b.at_ := h1
   have := ih c hc; omega
 cases hn : t.length with
 | zero => exact Nat.zero_le _
 | succ n =>
  obtain ⟨c, hc⟩ : ∃ c, t[n]? = some c := ⟨_, List.getElem?_eq_getElem (by omega)⟩
  have h1 := key n c hc
  have h2 := (hg n c hc).fits
  have h3 : 0 < c.text.length := List.length_pos_iff.2 (hg n c hc).some_
  omega
/-! ### where the parts of a text begin -/
def Sub (Z : Bool × List Tok × List PartZ) (r : List Tok) : Prop := (Z.2.2.map (·.at_) ++ Z.2.1.map (·.at_)).Sublist (r.map (·.at_))
theorem Sub.id (b : Bool) (r : List Tok) : Sub (b, r, []) r := List.Sublist.refl _
theorem Sub.append {Z Y : Bool × List Tok × List PartZ} {r : List Tok} {b : Bool} (h : Sub Z r) (g : Sub Y Z.2.1) : Sub (b, Y.2.1, Z.2.2 ++ Y.2.2) r := by
 unfold Sub at *
 simp only [List.map_append, List.append_assoc]
 exact (List.Sublist.append_left g _).trans h
/-! ### what parts are -/
theorem textF_len : ∀ f r, (textF f r).2.2.length + (textF f r).2.1.length ≤ r.length
 | 0, r => by simp [textF]
 | f + 1, r => by
  unfold textF
  split
  ·simp
  ·have h1 := lineT_len r
   split
   ·have h2 := textF_len f (lineT r).2.1
    simp only [List.length_append]; omega
   ·exact h1
end Go.Proofs.YtcaibahniheohaaDoor.Words

/- Contracts of package asm's Names, and of the document's own. -/
namespace Go.Proofs.YtcaibahniheohaaDoor.Words
set_option maxRecDepth 100000
open Go.RowKit Go.Shelf Go.Lib
set_option linter.unusedVariables false
set_option linter.unusedSimpArgs false
def allN : List UInt8 := namesZ.flatMap (fun t => t ++ [32])
theorem allN_len : allN.length = 169 := by decide +kernel
theorem allN_low : ∀ c ∈ allN, c.toNat < 128 := by decide +kernel
def atN : Nat → List (List UInt8) × Nat
 | 0 => ([], 0)
 | k + 1 => if allN[k]? = some 32 then ((atN k).1 ++ [(allN.drop (atN k).2).take (k - (atN k).2)], k + 1) else atN k
theorem atN_le : ∀ k, (atN k).2 ≤ k ∧ (atN k).1.length ≤ k
 | 0 => ⟨Nat.le_refl _, Nat.le_refl _⟩
 | k + 1 => by
  have := atN_le k
  unfold atN
  split
  ·simp; omega
  ·omega
theorem atN_end : (atN 169).1 = namesZ := by decide +kernel
theorem info_str : (Tryd.prog.info? 9).map (fun i => (i.zero, i.size, i.bytes)) = some (some (.string ⟨#[]⟩), 1, 16) := by kernel_rfl
theorem lit_eq : (⟨#[97, 100, 100, 32, 115, 117, 98, 32, 97, 110, 100, 32, 111, 114, 32, 120, 111, 114, 32, 115, 108, 108, 32, 115, 114, 108, 32, 115, 114, 97, 32, 115, 108, 116, 32, 115, 108, 116, 117, 32, 109, 117, 108, 32, 109, 117, 108, 104, 32, 100, 105, 118, 32, 100, 105, 118, 117, 32, 114, 101, 109, 32, 114, 101, 109, 117, 32, 97, 100, 100, 105, 32, 97, 110, 100, 105, 32, 111, 114, 105, 32, 120, 111, 114, 105, 32, 115, 108, 116, 105, 32, 115, 108, 108, 105, 32, 115, 114, 108, 105, 32, 115, 114, 97, 105, 32, 108, 117, 105, 32, 108, 119, 32, 108, 104, 32, 108, 104, 117, 32, 108, 98, 32, 108, 98, 117, 32, 115, 119, 32, 115, 104, 32, 115, 98, 32, 98, 101, 113, 32, 98, 110, 101, 32, 98, 108, 116, 32, 98, 103, 101, 32, 98, 108, 116, 117, 32, 98, 103, 101, 117, 32, 106, 32, 104, 97, 108, 116, 32]⟩ : ByteArray) = txt allN := by decide +kernel
set_option maxHeartbeats 4000000 in
theorem names_any (w : World) : Calls Tryd.prog 14 #[] w fun e w' => ∃ v, e = .returned v ∧ w'.ownsRow w.heap.size 9 1 v 41 namesL ∧ Below w.heap.size w w' := by
 obtain ⟨i0, hi, hz0, hz1, hz2⟩ := info_parts info_str
 have HI := Lib.hid hi
 have HZ0 := Lib.hid hz0
 have HZ1 := Lib.hid hz1
 have HZ2 := Lib.hid hz2
 clear hi hz0 hz1 hz2
 go_enter Tryd.func14, Tryd.ntmps14
 go_wp2_with fail
 go_loopw [1, 2] (fun v bg wr => ∃ k : Nat, k ≤ 169 ∧ bg = .int .i64 ((atN k).2 : Int) ∧ wr.heap[w.heap.size]? = some (.stringIter (txt allN) k) ∧ wr.ownsRow (w.heap.size + 1) 9 1 v (atN k).1.length ((atN k).1.map (fun t => Value.string (txt t))) ∧ Below w.heap.size w wr) (fun _ _ wr => 169 - wr.iterPos w.heap.size)
 case atStart =>
  refine ⟨0, Nat.zero_le _, rfl, ?_, World.ownsRow_nil _ _ _ _, (Below.refl _ w).alloc (Nat.le_refl _) _⟩
  rw [← lit_eq]
  exact World.iter_heap w _ 0
 case round =>
  obtain ⟨k, hk, rfl, hit, hown, hB⟩ := hrel
  have HIT := Lib.hid hit
  have HO := Lib.hid hown
  have HB := Lib.hid hB
  have HK := Lib.hid hk
  obtain ⟨A, cc, rfl⟩ := (Row.of_own hown).form
  have hsz : w.heap.size < wr.heap.size := (Array.getElem?_eq_some_iff.1 hit).1
  have hal := allN_len
  have hts : (txt allN).size = 169 := by rw [txt_sz, allN_len]
  obtain ⟨b0, b1⟩ := atN_le k
  by_cases hlt : k < 169
  ·obtain ⟨c, hc⟩ : ∃ c, allN[k]? = some c := ⟨_, List.getElem?_eq_getElem (by omega)⟩
   have hc128 := allN_low c (List.mem_iff_getElem?.2 ⟨k, hc⟩)
   have hnx := fun ty => next_rune (P := Tryd.prog) hit (show k < (txt allN).size by omega) ty
   obtain ⟨q1, q2⟩ := ascii_at hc hc128
   rw [txt_data, q1, q2] at hnx
   have hit2 := Lib.hid (Lib.iterAt_heap wr w.heap.size (txt allN) k (k + 1) hit)
   have HB2 := Lib.hid (Lib.below_iterAt hB (k := w.heap.size) (Nat.le_refl _) (txt allN) (k + 1))
   have hsz2 : (wr.iterAt w.heap.size (txt allN) (k + 1)).heap.size = wr.heap.size := Lib.iterAt_size _ _ _ _
   have HSZ2 := Lib.hid hsz2
   have HO2 : Hid ((wr.iterAt w.heap.size (txt allN) (k + 1)).ownsRow (w.heap.size + 1) 9 1 (.slice A (atN k).1.length cc) (atN k).1.length ((atN k).1.map (fun t => Value.string (txt t)))) :=
    own_grown hown (iterAt_grown _ _ _ _) (fun g hg e => by have := (hown.lt g hg).1; injection e with e; omega)
   have HST : Hid (atN (k + 1) = if allN[k]? = some 32 then ((atN k).1 ++ [(allN.drop (atN k).2).take (k - (atN k).2)], k + 1) else atN k) := rfl
   rw [hc] at HST
   by_cases h32 : c = 32
   ·subst h32
    have HS2 : Hid (atN (k + 1) = ((atN k).1 ++ [(allN.drop (atN k).2).take (k - (atN k).2)], k + 1)) := by show _ = _; rw [HST.out, if_pos rfl]
    have HCUT : Hid ((txt allN).extract (atN k).2 k = txt ((allN.drop (atN k).2).take (k - (atN k).2))) := by
     have := txt_cut (txt allN) (atN k).2 (k - (atN k).2)
     rw [txt_data, Nat.add_sub_cancel' b0] at this
     exact this
    clear HST hc hc128 q1 q2 hit hown hB hk hsz2
    generalize (atN k).2 = bg at *
    generalize (atN k).1 = ws at *
    have e32 : ((32 : UInt8).toNat : Int) = 32 := rfl
    rw [e32] at hnx
    have j0 : (0 : Int) ≤ bg := by omega
    have j1 : (bg : Int) ≤ k := by omega
    have j2 : (k : Int) ≤ 169 := by omega
    have HWS := Lib.hid b1
    clear b1
    have hwl : ws.length ≤ 1000 := by have := HWS.out; omega
    go_wp2_with (at_builtin; refine wpList_append_row _ rfl (.tmp 12) (.tmp 16) 39 rfl (w.heap.size + 1) 9 i0 _ 1 16 Tryd.underlying39 HI.out HZ0.out HZ1.out HZ2.out rfl (by omega) (.slice A ws.length cc) ws.length (ws.map (fun t => Value.string (txt t))) rfl (HO2.out.alloc _) ((wr.iterAt w.heap.size (txt allN) (k + 1)).heap.size + 1) (.slice (some ⟨(wr.iterAt w.heap.size (txt allN) (k + 1)).heap.size, 0, none⟩) 1 1) 1 [.string ((⟨#[97, 100, 100, 32, 115, 117, 98, 32, 97, 110, 100, 32, 111, 114, 32, 120, 111, 114, 32, 115, 108, 108, 32, 115, 114, 108, 32, 115, 114, 97, 32, 115, 108, 116, 32, 115, 108, 116, 117, 32, 109, 117, 108, 32, 109, 117, 108, 104, 32, 100, 105, 118, 32, 100, 105, 118, 117, 32, 114, 101, 109, 32, 114, 101, 109, 117, 32, 97, 100, 100, 105, 32, 97, 110, 100, 105, 32, 111, 114, 105, 32, 120, 111, 114, 105, 32, 115, 108, 116, 105, 32, 115, 108, 108, 105, 32, 115, 114, 108, 105, 32, 115, 114, 97, 105, 32, 108, 117, 105, 32, 108, 119, 32, 108, 104, 32, 108, 104, 117, 32, 108, 98, 32, 108, 98, 117, 32, 115, 119, 32, 115, 104, 32, 115, 98, 32, 98, 101, 113, 32, 98, 110, 101, 32, 98, 108, 116, 32, 98, 103, 101, 32, 98, 108, 116, 117, 32, 98, 103, 101, 117, 32, 106, 32, 104, 97, 108, 116, 32]⟩ : ByteArray).extract bg k)] rfl (row_list (wr.iterAt w.heap.size (txt allN) (k + 1)) [.string ((⟨#[97, 100, 100, 32, 115, 117, 98, 32, 97, 110, 100, 32, 111, 114, 32, 120, 111, 114, 32, 115, 108, 108, 32, 115, 114, 108, 32, 115, 114, 97, 32, 115, 108, 116, 32, 115, 108, 116, 117, 32, 109, 117, 108, 32, 109, 117, 108, 104, 32, 100, 105, 118, 32, 100, 105, 118, 117, 32, 114, 101, 109, 32, 114, 101, 109, 117, 32, 97, 100, 100, 105, 32, 97, 110, 100, 105, 32, 111, 114, 105, 32, 120, 111, 114, 105, 32, 115, 108, 116, 105, 32, 115, 108, 108, 105, 32, 115, 114, 108, 105, 32, 115, 114, 97, 105, 32, 108, 117, 105, 32, 108, 119, 32, 108, 104, 32, 108, 104, 117, 32, 108, 98, 32, 108, 98, 117, 32, 115, 119, 32, 115, 104, 32, 115, 98, 32, 98, 101, 113, 32, 98, 110, 101, 32, 98, 108, 116, 32, 98, 103, 101, 32, 98, 108, 116, 117, 32, 98, 103, 101, 117, 32, 106, 32, 104, 97, 108, 116, 32]⟩ : ByteArray).extract bg k)] _) (by simp [Value.oneCell']) (by unfold maxLen; omega) (by omega) (by rw [World.size_alloc, HSZ2.out]; omega) ?_; intro v3 y3 hO3 hg3; have HO3 := Lib.hid hO3; have HG3 := Lib.hid hg3; clear hO3 hg3)
    go_roundw
    case rel =>
     refine ⟨k + 1, by omega, by rw [HS2.out]; simp, ?_, ?_, ?_⟩
     ·rw [HG3.out.block _ (by rw [World.size_alloc, HSZ2.out]; omega) (fun e => by have := (HO2.out.lt _ e.symm).1; omega)]
      exact (Below.heap_alloc _ _ _ (by rw [HSZ2.out]; exact hsz)).trans hit2.out
     ·have := HO3.out
      rw [lit_eq, HCUT.out] at this
      rw [HS2.out]
      simp only [List.length_append, List.length_cons, List.length_nil, List.map_append, List.map_cons, List.map_nil]
      exact this
     ·exact (HB2.out.alloc (by rw [HSZ2.out]; omega) _).grown HG3.out (by rw [World.size_alloc, HSZ2.out]; omega) (fun j hj => by have := (HO2.out.lt j hj).1; omega)
    case measure =>
     simp only [World.iterPos, HIT.out]
     have : y3.heap[w.heap.size]? = some (.stringIter (txt allN) (k + 1)) := by
      rw [HG3.out.block _ (by rw [World.size_alloc, HSZ2.out]; omega) (fun e => by have := (HO2.out.lt _ e.symm).1; omega)]
      exact (Below.heap_alloc _ _ _ (by rw [HSZ2.out]; exact hsz)).trans hit2.out
     rw [this]
     simp only
     omega
   ·have HS2 : Hid (atN (k + 1) = atN k) := by show _ = _; rw [HST.out, if_neg (fun e => h32 (by injection e))]
    have hne : ((c.toNat : Int) == 32) = false := by
     simp only [beq_eq_false_iff_ne, ne_eq]
     intro e
     apply h32
     have : c.toNat = 32 := by omega
     exact UInt8.toNat_inj.1 this
    generalize (c.toNat : Int) = C at *
    clear HST hc hc128 q1 q2 hit hown hB hk hsz2
    go_wp2_with fail
    go_roundw
    case rel => exact ⟨k + 1, by omega, by rw [HS2.out], hit2.out, by rw [HS2.out]; exact HO2.out, HB2.out⟩
    case measure =>
     simp only [World.iterPos, hit2.out, HIT.out]
     omega
  ·have hnx := fun ty => next_none (P := Tryd.prog) hit (show ¬ k < (txt allN).size by omega) ty
   have hkk : k = 169 := by omega
   clear hown hB hit hk
   go_wp2_with fail
   go_ret
   have e : (atN k).1 = namesZ := by rw [hkk]; exact atN_end
   refine ⟨.slice A (atN k).1.length cc, rfl, ?_, HB.out⟩
   have := HO.out
   rw [e] at this ⊢
   exact own_base this (Nat.le_succ _)
end Go.Proofs.YtcaibahniheohaaDoor.Words

/- Contract of package asm's Read. -/
namespace Go.Proofs.YtcaibahniheohaaDoor.Words
set_option maxRecDepth 100000
open Go.RowKit Go.Shelf Go.Lib
set_option linter.unusedVariables false
set_option linter.unusedSimpArgs false
def ReadOut (Z : AsmR) (base : Nat) (e : Ending) (w : World) : Prop :=
 match Z with
 | .bad a k => e = .returned (.tuple #[.agg #[.slice none 0 0, .int .i64 0, .slice none 0 0], .int .i64 (a : Int), .int .i64 k])
 | .ok p => ∃ vc vd, e = .returned (.tuple #[.agg #[vc, .int .i64 p.size, vd], .int .i64 (-1), .int .i64 0]) ∧ w.ownsRow base 38 5 vc p.code.length (codeCells p.code) ∧ w.ownsRow base 5 1 vd p.data.length (p.data.map (Value.int .u8))
theorem ReadOut.bad {Z : AsmR} {base : Nat} {e : Ending} {w : World} {a : Nat} {k : Int} (h : Z = .bad a k) (he : e = .returned (.tuple #[.agg #[.slice none 0 0, .int .i64 0, .slice none 0 0], .int .i64 (a : Int), .int .i64 k])) : ReadOut Z base e w := by
 subst h; exact he
theorem ReadOut.ok {Z : AsmR} {base : Nat} {e : Ending} {w : World} {p : Prog} {vc vd : Value} (h : Z = .ok p) (he : e = .returned (.tuple #[.agg #[vc, .int .i64 p.size, vd], .int .i64 (-1), .int .i64 0])) (h1 : w.ownsRow base 38 5 vc p.code.length (codeCells p.code)) (h2 : w.ownsRow base 5 1 vd p.data.length (p.data.map (Value.int .u8))) : ReadOut Z base e w := by
 subst h; exact ⟨vc, vd, he, h1, h2⟩
theorem LexOut.cases {Z : LexR} {base : Nat} {e : Ending} {w : World} (h : LexOut Z base e w) : (∃ a k, Z = .bad a k ∧ e = .returned (.tuple #[.slice none 0 0, .int .i64 (a : Int), .int .i64 k])) ∨ ∃ t v, Z = .toks t ∧ e = .returned (.tuple #[v, .int .i64 (-1), .int .i64 0]) ∧ w.ownsRow base 48 4 v t.length (toksL t) := by
 cases Z with
 | bad a k => exact .inl ⟨a, k, rfl, h⟩
 | toks t => obtain ⟨v, h1, h2⟩ := h; exact .inr ⟨t, v, rfl, h1, h2⟩
end Go.Proofs.YtcaibahniheohaaDoor.Words

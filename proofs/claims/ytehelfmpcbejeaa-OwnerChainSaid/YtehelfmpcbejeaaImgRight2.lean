/- Contracts of package image: Targets, Right. -/
import Derived.Test.YtehelfmpcbejeaaImgRight
namespace Go.Proofs.Ytehelfmpcbejeaa.Words
set_option maxRecDepth 100000
open Go.RowKit
set_option linter.unusedVariables false

set_option maxHeartbeats 2000000 in
theorem targets_any (A : Option Addr) (c : Nat) (sz : Int) (vd : Value) (l : List Ins) (w : World) (hr : Row w w.heap.size 5 (.slice A l.length c) l.length (codeCells l)) (hsmall : l.length ≤ 8192) :
    Calls Try.prog 36 #[.agg #[.slice A l.length c, .int .i64 sz, vd]] w fun e w' => e = .returned (.int .i64 (errT (targetsOk l.length 0 l))) ∧ Below w.heap.size w w' := by
  obtain ⟨hcl, hcm⟩ := hr.cap
  have HK := Lib.hid (fun (x : World) (h : Kept (w.alloc (.cells #[.slice A l.length c, .int .i64 sz, vd] 25)) x) => ((Below.refl w.heap.size w).alloc (Nat.le_refl _) _).trans (h.mono (by simp)))
  by_cases hn : l.length = 0
  · have hl : l = [] := List.eq_nil_of_length_eq_zero hn
    subst hl
    go_enter Try.func36, Try.ntmps36
    go_wp2_with fail
    refine wp_loop_rounds 1 ?_
    rw [rounds_succ]
    go_wp2_with fail
    go_ret
    exact ⟨rfl, HK.out _ (Kept.refl _)⟩
  obtain ⟨b, off, rfl, hb, _⟩ := hr.at_ hn
  have hB : w.heap.size < (w.alloc (.cells #[.slice (some ⟨b, off, none⟩) l.length c, .int .i64 sz, vd] 25)).heap.size := by simp
  have HR := Lib.hid (hr.alloc (Nat.le_refl _) (.cells #[.slice (some ⟨b, off, none⟩) l.length c, .int .i64 sz, vd] 25) |>.more (Nat.le_of_lt hB))
  have HA := Lib.hid (fun j h => at_some (l := l) (j := j) h)
  have HT := Lib.hid (fun j i h => targetsOk_step (n := l.length) (j := j) (l := l) (i := i) h)
  have HE := Lib.hid (fun (k : Nat) (h : l.length ≤ k) => List.drop_eq_nil_of_le h)
  have H0 := Lib.hid (show targetsOk l.length 0 l = targetsOk l.length 0 (l.drop 0) by rw [List.drop_zero])
  have HC := Lib.hid (fun (x : World) (h : Kept (w.alloc (.cells #[.slice (some ⟨b, off, none⟩) l.length c, .int .i64 sz, vd] 25)) x) (k : Nat) (i : Ins) (hi : l[k]? = some i) =>
    (h.row HR.out).ins hi)
  have c0 : (w.alloc (.cells #[.slice (some ⟨b, off, none⟩) l.length c, .int .i64 sz, vd] 25)).cell? ⟨w.heap.size, 0, none⟩ = some (.slice (some ⟨b, off, none⟩) l.length c) := by go_simp
  go_enter Try.func36, Try.ntmps36
  go_wp2_with fail
  generalize w.alloc (.cells #[.slice (some ⟨b, off, none⟩) l.length c, .int .i64 sz, vd] 25) = W at *
  have C0 := Lib.hid (fun (x : World) (h : Kept W x) => h.cell hB c0)
  clear c0 hr hB
  generalize hN : l.length = n at *
  have HN := Lib.hid hN
  clear hN
  go_loopw [8] (fun i wr => ∃ j : Nat, j ≤ n ∧ i = .int .i64 j ∧ Kept W wr ∧ targetsOk n 0 l = targetsOk n j (l.drop j)) (fun i _ => n - (intOf i).toNat)
  case atStart => exact ⟨0, Nat.zero_le _, rfl, Kept.refl _, H0.out⟩
  case round =>
    obtain ⟨j, hj, rfl, hK, hT⟩ := hrel
    have HTJ := Lib.hid hT
    clear hT
    by_cases hlt : j < n
    · obtain ⟨i, hi⟩ := HA.out j hlt
      have hs := Lib.hid (HT.out j i hi)
      obtain ⟨d0, d1, d2, d3, d4⟩ := HC.out _ hK j i hi
      have k0 : (0 : Int) ≤ j := by omega
      have k1 : (j : Int) < n := by omega
      have hbad := Lib.hid (badTarget_eq (n := n) (k := j) (i := i) hlt hsmall)
      have C0x := C0.out _ (hK.alloc (.cells #[.int .i64 i.op, .int .i64 i.d, .int .i64 i.a, .int .i64 i.b, .int .i64 i.imm] 28))
      go_wp2_with fail
      refine (hasTarget_any i _).mono ?_; rintro e w1 ⟨rfl, rfl⟩
      have hK2 := hK.alloc (.cells #[.int .i64 i.op, .int .i64 i.d, .int .i64 i.a, .int .i64 i.b, .int .i64 i.imm] 28)
      cases hjm : isJump i
      · have hok : badTarget n j i = false := by rw [hbad.out, hjm]; rfl
        have hres := Lib.hid (show targetsOk n 0 l = targetsOk n (j + 1) (l.drop (j + 1)) by rw [HTJ.out, hs.out, hok]; rfl)
        clear hok
        go_wp2_with fail
        go_roundw
        case rel => exact ⟨j + 1, by omega, by go_num, hK2, hres.out⟩
        case measure => simp [intOf]; omega
      · go_wp2_with fail
        refine (within_any n j i.imm _ hlt hsmall).mono ?_; rintro e w2 ⟨rfl, rfl⟩
        cases hw : decide (-(j : Int) ≤ i.imm ∧ i.imm < n - j)
        · have hres := Lib.hid (show errT (targetsOk n 0 l) = 4 by rw [HTJ.out, hs.out, hbad.out, hjm, hw]; rfl)
          clear hw
          go_wp2_with fail
          go_ret
          exact ⟨ret_int (by rw [HN.out]; exact hres.out.symm), HK.out _ hK2⟩
        · have hres := Lib.hid (show targetsOk n 0 l = targetsOk n (j + 1) (l.drop (j + 1)) by rw [HTJ.out, hs.out, hbad.out, hjm, hw]; rfl)
          clear hw
          go_wp2_with fail
          go_roundw
          case rel => exact ⟨j + 1, by omega, by go_num, hK2, hres.out⟩
          case measure => simp [intOf]; omega
    · have hres := Lib.hid (show errT (targetsOk n 0 l) = 0 by rw [HTJ.out, HE.out j (by omega)]; rfl)
      go_wp2_with fail
      go_ret
      exact ⟨ret_int (by rw [HN.out]; exact hres.out.symm), HK.out _ hK⟩

set_option maxHeartbeats 2000000 in
theorem allRight_any (A : Option Addr) (c : Nat) (l : List Ins) (w : World) (hr : Row w w.heap.size 5 (.slice A l.length c) l.length (codeCells l)) (hsmall : l.length ≤ 8192) :
    Calls Try.prog 35 #[.slice A l.length c] w fun e w' => e = .returned (.bool (l.all rightB)) ∧ Below w.heap.size w w' := by
  obtain ⟨hcl, hcm⟩ := hr.cap
  by_cases hn : l.length = 0
  · have hl : l = [] := List.eq_nil_of_length_eq_zero hn
    subst hl
    go_enter Try.func35, Try.ntmps35
    go_wp2_with fail
    refine wp_loop_rounds 1 ?_
    rw [rounds_succ]
    go_wp2_with fail
    go_ret
    exact ⟨rfl, Below.refl _ _⟩
  obtain ⟨b, off, rfl, hb, _⟩ := hr.at_ hn
  have HA := Lib.hid (fun j h => at_some (l := l) (j := j) h)
  have HT := Lib.hid (fun j i h => all_step (j := j) (l := l) (i := i) h)
  have HE := Lib.hid (fun (k : Nat) (h : l.length ≤ k) => List.drop_eq_nil_of_le h)
  have H0 := Lib.hid (show l.all rightB = (l.drop 0).all rightB by rw [List.drop_zero])
  have HC := Lib.hid (fun (x : World) (h : Kept w x) (k : Nat) (i : Ins) (hi : l[k]? = some i) => (h.row hr).ins hi)
  clear hr hb
  go_enter Try.func35, Try.ntmps35
  go_wp2_with fail
  generalize hN : l.length = n at *
  have HN := Lib.hid hN
  clear hN
  go_loopw [7] (fun i wr => ∃ j : Nat, j ≤ n ∧ i = .int .i64 j ∧ Kept w wr ∧ l.all rightB = (l.drop j).all rightB) (fun i _ => n - (intOf i).toNat)
  case atStart => exact ⟨0, Nat.zero_le _, rfl, Kept.refl _, H0.out⟩
  case round =>
    obtain ⟨j, hj, rfl, hK, hT⟩ := hrel
    have HTJ := Lib.hid hT
    clear hT
    by_cases hlt : j < n
    · obtain ⟨i, hi⟩ := HA.out j hlt
      have hs := Lib.hid (HT.out j i hi)
      obtain ⟨d0, d1, d2, d3, d4⟩ := HC.out _ hK j i hi
      have k0 : (0 : Int) ≤ j := by omega
      have k1 : (j : Int) < n := by omega
      go_wp2_with fail
      refine (right_any i _).mono ?_; rintro e w1 ⟨rfl, hb2⟩
      have hK2 := (hK.alloc _).to hb2
      clear hb2
      cases hri : rightB i
      · have hres := Lib.hid (show l.all rightB = false by rw [HTJ.out, hs.out, hri]; rfl)
        go_wp2_with fail
        go_ret
        exact ⟨ret_bool hres.out.symm, hK2⟩
      · have hres := Lib.hid (show l.all rightB = (l.drop (j + 1)).all rightB by rw [HTJ.out, hs.out, hri]; rfl)
        go_wp2_with fail
        go_roundw
        case rel => exact ⟨j + 1, by omega, by go_num, hK2, hres.out⟩
        case measure => simp [intOf]; omega
    · have hres := Lib.hid (show l.all rightB = true by rw [HTJ.out, HE.out j (by omega)]; rfl)
      go_wp2_with fail
      go_ret
      exact ⟨ret_bool hres.out.symm, hK⟩

theorem rightZ_fit {l : List Ins} {sz : Int} {m : Nat} : rightZ l sz m = (fitN l.length sz m && l.all rightB && targetsOk l.length 0 l) := by
  unfold rightZ sizesOk fitN
  congr 2
  rw [decide_eq_decide]
  omega
set_option maxHeartbeats 2000000 in
theorem imgRight_any (A : Option Addr) (c : Nat) (sz : Int) (A' : Option Addr) (m c' : Nat) (l : List Ins) (w : World) (hr : Row w w.heap.size 5 (.slice A l.length c) l.length (codeCells l)) (hm : m ≤ c') (hc' : c' ≤ 9223372036854775807) :
    Calls Try.prog 19 #[.agg #[.slice A l.length c, .int .i64 sz, .slice A' m c']] w fun e w' => e = .returned (.bool (rightZ l sz m)) ∧ Below w.heap.size w w' := by
  obtain ⟨hcl, hcm⟩ := hr.cap
  have HK := Lib.hid (fun (x : World) (h : Kept (w.alloc (.cells #[.slice A l.length c, .int .i64 sz, .slice A' m c'] 25)) x) => ((Below.refl w.heap.size w).alloc (Nat.le_refl _) _).trans (h.mono (by simp)))
  have hB : w.heap.size < (w.alloc (.cells #[.slice A l.length c, .int .i64 sz, .slice A' m c'] 25)).heap.size := by simp
  have HR := Lib.hid (hr.alloc (Nat.le_refl _) (.cells #[.slice A l.length c, .int .i64 sz, .slice A' m c'] 25) |>.more (Nat.le_of_lt hB))
  have c0 : (w.alloc (.cells #[.slice A l.length c, .int .i64 sz, .slice A' m c'] 25)).cell? ⟨w.heap.size, 0, none⟩ = some (.slice A l.length c) := by go_simp
  have c1 : (w.alloc (.cells #[.slice A l.length c, .int .i64 sz, .slice A' m c'] 25)).cell? ⟨w.heap.size, 1, none⟩ = some (.int .i64 sz) := by go_simp
  have c2 : (w.alloc (.cells #[.slice A l.length c, .int .i64 sz, .slice A' m c'] 25)).cell? ⟨w.heap.size, 2, none⟩ = some (.slice A' m c') := by go_simp
  have HZ := Lib.hid (rightZ_fit (l := l) (sz := sz) (m := m))
  have HS := Lib.hid (fun (h : fitN l.length sz m = true) => (show l.length ≤ 8192 by have := of_decide_eq_true h; omega))
  go_enter Try.func19, Try.ntmps19
  go_wp2_with fail
  generalize w.alloc (.cells #[.slice A l.length c, .int .i64 sz, .slice A' m c'] 25) = W at *
  have C0 := Lib.hid (fun (x : World) (h : Kept W x) => h.cell hB c0)
  have C1 := Lib.hid (fun (x : World) (h : Kept W x) => h.cell hB c1)
  have C2 := Lib.hid (fun (x : World) (h : Kept W x) => h.cell hB c2)
  have HA := Lib.hid (fun (x : World) (h : Kept W x) (hs : l.length ≤ 8192) => allRight_any A c l x (h.row HR.out) hs)
  have HT := Lib.hid (fun (x : World) (h : Kept W x) (hs : l.length ≤ 8192) => targets_any A c sz (.slice A' m c') l x (h.row HR.out) hs)
  clear c0 c1 c2 hr hB
  refine (numbersOf_any A A' l.length c m c' sz _ (by omega) (by omega)).mono ?_; rintro e w1 ⟨rfl, hb1⟩
  have k1 : Kept W w1 := hb1
  have c0 := C0.out _ k1
  clear hb1
  go_wp2_with fail
  refine (fit_any l.length sz m _).mono ?_; rintro e w2 ⟨rfl, hb2⟩
  have k2 := k1.to hb2
  have c0 := C0.out _ k2
  clear hb2 k1
  cases hf : fitN l.length sz m
  · have hres := Lib.hid (show rightZ l sz m = false by rw [HZ.out, hf]; rfl)
    go_wp2_with fail
    go_ret
    exact ⟨ret_bool hres.out.symm, HK.out _ k2⟩
  have hs := HS.out hf
  have HAx := Lib.hid (HA.out _ k2 hs)
  go_wp2_with fail
  refine HAx.out.mono ?_; rintro e w3 ⟨rfl, hb3⟩
  have k3 := k2.to hb3
  have c0 := C0.out _ k3
  have c1 := C1.out _ k3
  have c2 := C2.out _ k3
  clear hb3 k2
  cases ha : l.all rightB
  · have hres := Lib.hid (show rightZ l sz m = false by rw [HZ.out, hf, ha]; rfl)
    go_wp2_with fail
    go_ret
    exact ⟨ret_bool hres.out.symm, HK.out _ k3⟩
  have HTx := Lib.hid (HT.out _ k3 hs)
  go_wp2_with fail
  refine HTx.out.mono ?_; rintro e w4 ⟨rfl, hb4⟩
  have k4 := k3.to hb4
  clear hb4 k3
  cases ht : targetsOk l.length 0 l
  · have hres := Lib.hid (show rightZ l sz m = false by rw [HZ.out, hf, ha, ht]; rfl)
    have e4 : errT false = 4 := rfl
    rw [e4]
    go_wp2_with fail
    go_ret
    exact ⟨ret_bool hres.out.symm, HK.out _ k4⟩
  · have hres := Lib.hid (show rightZ l sz m = true by rw [HZ.out, hf, ha, ht]; rfl)
    have e4 : errT true = 0 := rfl
    rw [e4]
    go_wp2_with fail
    go_ret
    exact ⟨ret_bool hres.out.symm, HK.out _ k4⟩
end Go.Proofs.Ytehelfmpcbejeaa.Words

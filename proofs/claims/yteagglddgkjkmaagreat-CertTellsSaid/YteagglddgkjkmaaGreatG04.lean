/- Several texts in one: RefTarget, RefRight, ImgRight, ImgRight2, BlkLeads, BlkCut, SplData. -/
import Derived.Test.YteagglddgkjkmaaGreatG02
import Derived.Test.YteagglddgkjkmaaGreatG00
import Derived.LoopTactic
import Derived.LoopN
import Derived.Test.YteagglddgkjkmaaGreatG03
import Derived.Test.YteagglddgkjkmaaGreatG01
import Derived.OwnWalk
import Derived.Test.YteagglddgkjkmaaGreatRows

/- Contracts of the document's own Target, Targets and RightProgram. -/
namespace Go.Proofs.YteagglddgkjkmaaGreat.Words
set_option maxRecDepth 100000
open Go.RowKit
set_option linter.unusedVariables false

theorem targetZ_no {n k : Nat} {i : Ins} (h : isJump i = false ∨ i.imm < -8192 ∨ 8191 < i.imm ∨ (k : Int) + i.imm < 0 ∨ (n : Int) ≤ k + i.imm) : targetZ n k i = -1 := by unfold targetZ; rw [if_pos h]
theorem targetZ_yes {n k : Nat} {i : Ins} (h1 : isJump i = true) (h2 : -8192 ≤ i.imm) (h3 : i.imm ≤ 8191) (h4 : 0 ≤ (k : Int) + i.imm) (h5 : (k : Int) + i.imm < n) : targetZ n k i = k + i.imm := by
  unfold targetZ; rw [if_neg]; simp [h1]; omega

set_option maxHeartbeats 2000000 in
theorem refTarget_any (b off c k : Nat) (sz : Int) (vd : Value) (l : List Ins) (i : Ins) (w : World) (hr : Row w w.heap.size 5 (.slice (some ⟨b, off, none⟩) l.length c) l.length (codeCells l)) (hk : l[k]? = some i) (hsmall : l.length ≤ 4294967296) :
    Calls Tryz.prog 68 #[.agg #[.slice (some ⟨b, off, none⟩) l.length c, .int .i64 sz, vd], .int .i64 k] w fun e w' => e = .returned (.int .i64 (targetZ l.length k i)) ∧ Below w.heap.size w w' := by
  have hlt : k < l.length := by rw [List.getElem?_eq_some_iff] at hk; exact hk.1
  obtain ⟨hcl, hcm⟩ := hr.cap
  obtain ⟨b', off', e0, hb, _⟩ := hr.at_ (by omega)
  injection e0 with e0
  injection e0 with e1 e2
  subst e1 e2
  obtain ⟨c0, c1, c2, c3, c4⟩ := hr.ins hk
  have T1 := Lib.hid (fun h => targetZ_no (n := l.length) (k := k) (i := i) h)
  have T2 := Lib.hid (fun h1 h2 h3 h4 h5 => targetZ_yes (n := l.length) (k := k) (i := i) h1 h2 h3 h4 h5)
  have J := Lib.hid (isJump_form i)
  clear hr hk
  generalize l.length = n at *
  have hk0 : (0 : Int) ≤ k := by omega
  have hk1 : (k : Int) < n := by omega
  have hF := formZ_range i.op
  have HB := Lib.hid (fun o1 o2 => ((Below.refl w.heap.size w).alloc (Nat.le_refl _) o1).alloc (by simp) o2)
  go_enter Tryz.func68, Tryz.ntmps68
  go_wp2_with fail
  refine (refForm_any _ _).mono ?_; rintro e w1 ⟨rfl, rfl⟩
  by_cases hj : formZ i.op = 6 ∨ formZ i.op = 7
  · have HJ := Lib.hid (J.out.2 hj)
    have hor := Lib.hid hj
    by_cases h1 : i.imm < -8192
    · have t := Lib.hid (T1.out (.inr (.inl h1)))
      rcases hj with hj | hj
      all_goals
        rw [hj]
        go_wp2_with fail
        go_ret
        exact ⟨ret_int t.out.symm, HB.out _ _⟩
    by_cases h2 : 8191 < i.imm
    · have t := Lib.hid (T1.out (.inr (.inr (.inl h2))))
      rcases hj with hj | hj
      all_goals
        rw [hj]
        go_wp2_with fail
        go_ret
        exact ⟨ret_int t.out.symm, HB.out _ _⟩
    by_cases h3 : (k : Int) + i.imm < 0
    · have t := Lib.hid (T1.out (.inr (.inr (.inr (.inl h3)))))
      rcases hj with hj | hj
      all_goals
        rw [hj]
        go_wp2_with fail
        go_ret
        exact ⟨ret_int t.out.symm, HB.out _ _⟩
    by_cases h4 : (n : Int) ≤ k + i.imm
    · have t := Lib.hid (T1.out (.inr (.inr (.inr (.inr h4)))))
      rcases hj with hj | hj
      all_goals
        rw [hj]
        go_wp2_with fail
        go_ret
        exact ⟨ret_int t.out.symm, HB.out _ _⟩
    · have t := Lib.hid (T2.out HJ.out (by omega) (by omega) (by omega) (by omega))
      rcases hj with hj | hj
      all_goals
        rw [hj]
        go_wp2_with fail
        go_ret
        exact ⟨ret_int t.out.symm, HB.out _ _⟩
  · have t := Lib.hid (T1.out (.inl (by
      have := J.out
      cases hh : isJump i
      · rfl
      · exact absurd (this.1 hh) hj)))
    have k1 : (formZ i.op == 6) = false := by simp; omega
    have k2 : (formZ i.op == 7) = false := by simp; omega
    have k3 : (formZ i.op != 6) = true := by simp; omega
    have k4 : (formZ i.op != 7) = true := by simp; omega
    clear hj
    go_wp2_with fail
    go_ret
    exact ⟨ret_int t.out.symm, HB.out _ _⟩
end Go.Proofs.YteagglddgkjkmaaGreat.Words

/- Contracts of the document's own Targets and RightProgram. -/
namespace Go.Proofs.YteagglddgkjkmaaGreat.Words
set_option maxRecDepth 100000
open Go.RowKit
set_option linter.unusedVariables false

theorem targetsOk_step {n j : Nat} {l : List Ins} {i : Ins} (h : l[j]? = some i) : targetsOk n j (l.drop j) = (!badTarget n j i && targetsOk n (j + 1) (l.drop (j + 1))) := by
  obtain ⟨hlt, rfl⟩ := List.getElem?_eq_some_iff.1 h
  rw [List.drop_eq_getElem_cons hlt]; rfl
def errT (b : Bool) : Int := if b = true then 0 else 4
theorem all_step {l : List Ins} {j : Nat} {i : Ins} (h : l[j]? = some i) : (l.drop j).all rightB = (rightB i && (l.drop (j + 1)).all rightB) := by
  obtain ⟨hlt, rfl⟩ := List.getElem?_eq_some_iff.1 h
  rw [List.drop_eq_getElem_cons hlt]; rfl
theorem at_some {l : List Ins} {j : Nat} (h : j < l.length) : ∃ i, l[j]? = some i := ⟨_, List.getElem?_eq_getElem h⟩

set_option maxHeartbeats 2000000 in
theorem refTargets_any (A : Option Addr) (c : Nat) (sz : Int) (vd : Value) (l : List Ins) (w : World) (hr : Row w w.heap.size 5 (.slice A l.length c) l.length (codeCells l)) (hsmall : l.length ≤ 4294967296) :
    Calls Tryz.prog 77 #[.agg #[.slice A l.length c, .int .i64 sz, vd]] w fun e w' => e = .returned (.int .i64 (errT (targetsOk l.length 0 l))) ∧ Below w.heap.size w w' := by
  obtain ⟨hcl, hcm⟩ := hr.cap
  have HK := Lib.hid (fun (x : World) (h : Kept (w.alloc (.cells #[.slice A l.length c, .int .i64 sz, vd] 28)) x) => ((Below.refl w.heap.size w).alloc (Nat.le_refl _) _).trans (h.mono (by simp)))
  by_cases hn : l.length = 0
  · have hl : l = [] := List.eq_nil_of_length_eq_zero hn
    subst hl
    go_enter Tryz.func77, Tryz.ntmps77
    go_wp2_with fail
    refine wp_loop_rounds 1 ?_
    rw [rounds_succ]
    go_wp2_with fail
    go_ret
    exact ⟨rfl, HK.out _ (Kept.refl _)⟩
  obtain ⟨b, off, rfl, hb, _⟩ := hr.at_ hn
  have hB : w.heap.size < (w.alloc (.cells #[.slice (some ⟨b, off, none⟩) l.length c, .int .i64 sz, vd] 28)).heap.size := by simp
  have HR := Lib.hid (hr.alloc (Nat.le_refl _) (.cells #[.slice (some ⟨b, off, none⟩) l.length c, .int .i64 sz, vd] 28) |>.more (Nat.le_of_lt hB))
  have HA := Lib.hid (fun j h => at_some (l := l) (j := j) h)
  have HT := Lib.hid (fun j i h => targetsOk_step (n := l.length) (j := j) (l := l) (i := i) h)
  have HE := Lib.hid (fun (k : Nat) (h : l.length ≤ k) => List.drop_eq_nil_of_le h)
  have H0 := Lib.hid (show targetsOk l.length 0 l = targetsOk l.length 0 (l.drop 0) by rw [List.drop_zero])
  have HC := Lib.hid (fun (x : World) (h : Kept (w.alloc (.cells #[.slice (some ⟨b, off, none⟩) l.length c, .int .i64 sz, vd] 28)) x) (k : Nat) (i : Ins) (hi : l[k]? = some i) =>
    (h.row HR.out).ins hi)
  have HD := Lib.hid (fun (x : World) (h : Kept (w.alloc (.cells #[.slice (some ⟨b, off, none⟩) l.length c, .int .i64 sz, vd] 28)) x) (k : Nat) (i : Ins) (hi : l[k]? = some i) =>
    refTarget_any b off c k sz vd l i x (h.row HR.out) hi hsmall)
  have c0 : (w.alloc (.cells #[.slice (some ⟨b, off, none⟩) l.length c, .int .i64 sz, vd] 28)).cell? ⟨w.heap.size, 0, none⟩ = some (.slice (some ⟨b, off, none⟩) l.length c) := by go_simp
  have c1 : (w.alloc (.cells #[.slice (some ⟨b, off, none⟩) l.length c, .int .i64 sz, vd] 28)).cell? ⟨w.heap.size, 1, none⟩ = some (.int .i64 sz) := by go_simp
  have c2 : (w.alloc (.cells #[.slice (some ⟨b, off, none⟩) l.length c, .int .i64 sz, vd] 28)).cell? ⟨w.heap.size, 2, none⟩ = some vd := by go_simp
  go_enter Tryz.func77, Tryz.ntmps77
  go_wp2_with fail
  generalize w.alloc (.cells #[.slice (some ⟨b, off, none⟩) l.length c, .int .i64 sz, vd] 28) = W at *
  have C0 := Lib.hid (fun (x : World) (h : Kept W x) => h.cell hB c0)
  have C1 := Lib.hid (fun (x : World) (h : Kept W x) => h.cell hB c1)
  have C2 := Lib.hid (fun (x : World) (h : Kept W x) => h.cell hB c2)
  clear c0 c1 c2 hr hB
  generalize hN : l.length = n at *
  have HN := Lib.hid hN
  clear hN
  go_loopw [3] (fun i wr => ∃ j : Nat, j ≤ n ∧ i = .int .i64 j ∧ Kept W wr ∧ targetsOk n 0 l = targetsOk n j (l.drop j)) (fun i _ => n - (intOf i).toNat)
  case atStart => exact ⟨0, Nat.zero_le _, rfl, Kept.refl _, H0.out⟩
  case round =>
    obtain ⟨j, hj, rfl, hK, hT⟩ := hrel
    have HTJ := Lib.hid hT
    clear hT
    have c0 := C0.out _ hK
    by_cases hlt : j < n
    · obtain ⟨i, hi⟩ := HA.out j hlt
      have hs := Lib.hid (HT.out j i hi)
      obtain ⟨d0, _, _, _, _⟩ := HC.out _ hK j i hi
      have k0 : (0 : Int) ≤ j := by omega
      have k1 : (j : Int) < n := by omega
      go_wp2_with fail
      refine (refForm_any _ _).mono ?_; rintro e w1 ⟨rfl, rfl⟩
      by_cases hj6 : formZ i.op = 6 ∨ formZ i.op = 7
      · have HJ := Lib.hid ((isJump_form i).2 hj6)
        have c1 := C1.out _ hK
        have c2 := C2.out _ hK
        have HDi := Lib.hid (HD.out _ hK j i hi)
        rcases hj6 with hj6 | hj6
        all_goals
          rw [hj6]
          go_wp2_with fail
          refine HDi.out.mono ?_; rintro e w2 ⟨rfl, hb2⟩
          have hK2 := hK.to hb2
          by_cases ht : targetZ n j i < 0
          · have hbad : badTarget n j i = true := by unfold badTarget; rw [HJ.out]; simp [ht]
            have hres := Lib.hid (show errT (targetsOk n 0 l) = 4 by rw [HTJ.out, hs.out, hbad]; rfl)
            go_wp2_with fail
            go_ret
            exact ⟨ret_int (by rw [HN.out]; exact hres.out.symm), HK.out _ hK2⟩
          · have hok : badTarget n j i = false := by unfold badTarget; simp [ht]
            have hres := Lib.hid (show targetsOk n 0 l = targetsOk n (j + 1) (l.drop (j + 1)) by rw [HTJ.out, hs.out, hok]; rfl)
            go_wp2_with fail
            go_roundw
            case rel => exact ⟨j + 1, by omega, by go_num, hK2, hres.out⟩
            case measure => simp [intOf]; omega
      · have hok : badTarget n j i = false := by
          have : isJump i = false := by
            cases hh : isJump i
            · rfl
            · exact absurd ((isJump_form i).1 hh) hj6
          unfold badTarget; rw [this]; rfl
        have hres := Lib.hid (show targetsOk n 0 l = targetsOk n (j + 1) (l.drop (j + 1)) by rw [HTJ.out, hs.out, hok]; rfl)
        have q1 : (formZ i.op == 6) = false := by simp; omega
        have q2 : (formZ i.op == 7) = false := by simp; omega
        clear hok hj6
        go_wp2_with fail
        go_roundw
        case rel => exact ⟨j + 1, by omega, by go_num, hK, hres.out⟩
        case measure => simp [intOf]; omega
    · have hres := Lib.hid (show errT (targetsOk n 0 l) = 0 by rw [HTJ.out, HE.out j (by omega)]; rfl)
      go_wp2_with fail
      go_ret
      exact ⟨ret_int (by rw [HN.out]; exact hres.out.symm), HK.out _ hK⟩

/-- The numbers of a program that may be. -/
def sizesOk (n : Nat) (sz : Int) (m : Nat) : Bool := decide (1 ≤ n ∧ n ≤ 2000 ∧ 0 ≤ sz ∧ sz ≤ 65536 ∧ (m : Int) ≤ sz)
def rightZ (l : List Ins) (sz : Int) (m : Nat) : Bool := sizesOk l.length sz m && l.all rightB && targetsOk l.length 0 l
theorem rightZ_no {l : List Ins} {sz : Int} {m : Nat} (h : ¬ (1 ≤ l.length ∧ l.length ≤ 2000 ∧ 0 ≤ sz ∧ sz ≤ 65536 ∧ (m : Int) ≤ sz)) : rightZ l sz m = false := by
  unfold rightZ sizesOk; rw [decide_eq_false h]; rfl
theorem rightZ_all {l : List Ins} {sz : Int} {m : Nat} (h : l.all rightB = false) : rightZ l sz m = false := by
  unfold rightZ; rw [h]; simp
theorem rightZ_yes {l : List Ins} {sz : Int} {m : Nat} (h : 1 ≤ l.length ∧ l.length ≤ 2000 ∧ 0 ≤ sz ∧ sz ≤ 65536 ∧ (m : Int) ≤ sz) (ha : l.all rightB = true) : rightZ l sz m = targetsOk l.length 0 l := by
  unfold rightZ sizesOk; rw [decide_eq_true h, ha]; rfl
theorem right_prog (p : Prog) : p.right = rightZ p.code p.size p.data.length := rfl

set_option maxHeartbeats 4000000 in
theorem refRight_any (A : Option Addr) (c : Nat) (sz : Int) (A' : Option Addr) (m c' : Nat) (l : List Ins) (w : World) (hr : Row w w.heap.size 5 (.slice A l.length c) l.length (codeCells l)) (hm : m ≤ c') (hc' : c' ≤ 9223372036854775807) :
    Calls Tryz.prog 50 #[.agg #[.slice A l.length c, .int .i64 sz, .slice A' m c']] w fun e w' => e = .returned (.bool (rightZ l sz m)) ∧ Below w.heap.size w w' := by
  obtain ⟨hcl, hcm⟩ := hr.cap
  have HK := Lib.hid (fun (x : World) (h : Kept (w.alloc (.cells #[.slice A l.length c, .int .i64 sz, .slice A' m c'] 28)) x) => ((Below.refl w.heap.size w).alloc (Nat.le_refl _) _).trans (h.mono (by simp)))
  by_cases hno : 1 ≤ l.length ∧ l.length ≤ 2000 ∧ 0 ≤ sz ∧ sz ≤ 65536 ∧ (m : Int) ≤ sz
  rotate_left
  · rw [rightZ_no hno]
    clear hr
    generalize l.length = n at *
    by_cases h1 : n < 1
    · go_enter Tryz.func50, Tryz.ntmps50
      go_wp2_with fail
      go_ret
      exact ⟨rfl, HK.out _ (Kept.refl _)⟩
    by_cases h2 : 2000 < n
    · go_enter Tryz.func50, Tryz.ntmps50
      go_wp2_with fail
      go_ret
      exact ⟨rfl, HK.out _ (Kept.refl _)⟩
    by_cases h3 : sz < 0
    · go_enter Tryz.func50, Tryz.ntmps50
      go_wp2_with fail
      go_ret
      exact ⟨rfl, HK.out _ (Kept.refl _)⟩
    by_cases h4 : 65536 < sz
    · go_enter Tryz.func50, Tryz.ntmps50
      go_wp2_with fail
      go_ret
      exact ⟨rfl, HK.out _ (Kept.refl _)⟩
    have h5 : sz < (m : Int) := by omega
    clear hno
    go_enter Tryz.func50, Tryz.ntmps50
    go_wp2_with fail
    go_ret
    exact ⟨rfl, HK.out _ (Kept.refl _)⟩
  have HNO := Lib.hid hno
  obtain ⟨n1, n2, n3, n4, n5⟩ := hno
  obtain ⟨b, off, rfl, hb, _⟩ := hr.at_ (by omega)
  have hB : w.heap.size < (w.alloc (.cells #[.slice (some ⟨b, off, none⟩) l.length c, .int .i64 sz, .slice A' m c'] 28)).heap.size := by simp
  have HR := Lib.hid (hr.alloc (Nat.le_refl _) (.cells #[.slice (some ⟨b, off, none⟩) l.length c, .int .i64 sz, .slice A' m c'] 28) |>.more (Nat.le_of_lt hB))
  have HA := Lib.hid (fun j h => at_some (l := l) (j := j) h)
  have HT := Lib.hid (fun j i h => all_step (j := j) (l := l) (i := i) h)
  have HE := Lib.hid (fun (k : Nat) (h : l.length ≤ k) => List.drop_eq_nil_of_le h)
  have H0 := Lib.hid (show l.all rightB = (l.drop 0).all rightB by rw [List.drop_zero])
  have HC := Lib.hid (fun (x : World) (h : Kept (w.alloc (.cells #[.slice (some ⟨b, off, none⟩) l.length c, .int .i64 sz, .slice A' m c'] 28)) x) (k : Nat) (i : Ins) (hi : l[k]? = some i) =>
    (h.row HR.out).ins hi)
  have HD := Lib.hid (fun (x : World) (h : Kept (w.alloc (.cells #[.slice (some ⟨b, off, none⟩) l.length c, .int .i64 sz, .slice A' m c'] 28)) x) =>
    refTargets_any (some ⟨b, off, none⟩) c sz (.slice A' m c') l x (h.row HR.out) (Nat.le_trans n2 (by omega)))
  have HF := Lib.hid (fun h => rightZ_all (l := l) (sz := sz) (m := m) h)
  have HY := Lib.hid (fun h => rightZ_yes (l := l) HNO.out h)
  have c0 : (w.alloc (.cells #[.slice (some ⟨b, off, none⟩) l.length c, .int .i64 sz, .slice A' m c'] 28)).cell? ⟨w.heap.size, 0, none⟩ = some (.slice (some ⟨b, off, none⟩) l.length c) := by go_simp
  have c1 : (w.alloc (.cells #[.slice (some ⟨b, off, none⟩) l.length c, .int .i64 sz, .slice A' m c'] 28)).cell? ⟨w.heap.size, 1, none⟩ = some (.int .i64 sz) := by go_simp
  have c2 : (w.alloc (.cells #[.slice (some ⟨b, off, none⟩) l.length c, .int .i64 sz, .slice A' m c'] 28)).cell? ⟨w.heap.size, 2, none⟩ = some (.slice A' m c') := by go_simp
  clear HNO
  go_enter Tryz.func50, Tryz.ntmps50
  go_wp2_with fail
  generalize w.alloc (.cells #[.slice (some ⟨b, off, none⟩) l.length c, .int .i64 sz, .slice A' m c'] 28) = W at *
  have C0 := Lib.hid (fun (x : World) (h : Kept W x) => h.cell hB c0)
  have C1 := Lib.hid (fun (x : World) (h : Kept W x) => h.cell hB c1)
  have C2 := Lib.hid (fun (x : World) (h : Kept W x) => h.cell hB c2)
  clear c0 c1 c2 hr hB
  generalize hN : l.length = n at *
  have HN := Lib.hid hN
  clear hN
  go_loopw [3] (fun i wr => ∃ j : Nat, j ≤ n ∧ i = .int .i64 j ∧ Kept W wr ∧ l.all rightB = (l.drop j).all rightB) (fun i _ => n - (intOf i).toNat)
  case atStart => exact ⟨0, Nat.zero_le _, rfl, Kept.refl _, H0.out⟩
  case round =>
    obtain ⟨j, hj, rfl, hK, hT⟩ := hrel
    have HTJ := Lib.hid hT
    clear hT
    have c0 := C0.out _ hK
    by_cases hlt : j < n
    · obtain ⟨i, hi⟩ := HA.out j hlt
      have hs := Lib.hid (HT.out j i hi)
      obtain ⟨d0, d1, d2, d3, d4⟩ := HC.out _ hK j i hi
      have k0 : (0 : Int) ≤ j := by omega
      have k1 : (j : Int) < n := by omega
      go_wp2_with fail
      refine (rightIns_any i _).mono ?_; rintro e w1 ⟨rfl, hb2⟩
      have hK2 := hK.to hb2
      clear hb2
      cases hri : rightB i
      · have hres := Lib.hid (HF.out (by rw [HTJ.out, hs.out, hri]; rfl))
        go_wp2_with fail
        go_ret
        exact ⟨ret_bool hres.out.symm, HK.out _ hK2⟩
      · have hres := Lib.hid (show l.all rightB = (l.drop (j + 1)).all rightB by rw [HTJ.out, hs.out, hri]; rfl)
        go_wp2_with fail
        go_roundw
        case rel => exact ⟨j + 1, by omega, by go_num, hK2, hres.out⟩
        case measure => simp [intOf]; omega
    · have hres := Lib.hid (HY.out (by rw [HTJ.out, HE.out j (by omega)]; rfl))
      have c1 := C1.out _ hK
      have c2 := C2.out _ hK
      have HDx := Lib.hid (HD.out _ hK)
      go_wp2_with fail
      refine HDx.out.mono ?_; rintro e w2 ⟨rfl, hb2⟩
      have hK2 := hK.to hb2
      clear hb2
      cases ht : targetsOk n 0 l
      · rw [ht] at hres
        have e4 : errT false = 4 := rfl
        rw [e4]
        go_wp2_with fail
        go_ret
        exact ⟨ret_bool hres.out.symm, HK.out _ hK2⟩
      · rw [ht] at hres
        have e4 : errT true = 0 := rfl
        rw [e4]
        go_wp2_with fail
        go_ret
        exact ⟨ret_bool hres.out.symm, HK.out _ hK2⟩
end Go.Proofs.YteagglddgkjkmaaGreat.Words

/- Contracts of package image: numbers, Targets, Right. -/
namespace Go.Proofs.YteagglddgkjkmaaGreat.Words
set_option maxRecDepth 100000
open Go.RowKit
set_option linter.unusedVariables false

set_option maxHeartbeats 400000 in
theorem numbersOf_any (A A' : Option Addr) (n c m c' : Nat) (sz : Int) (w : World) (hn : n ≤ 9223372036854775807) (hm : m ≤ 9223372036854775807) :
    Calls Tryz.prog 79 #[.agg #[.slice A n c, .int .i64 sz, .slice A' m c']] w fun e w' => e = .returned (.agg #[.int .i64 n, .int .i64 sz, .int .i64 m]) ∧ Below w.heap.size w w' := by
  go_enter Tryz.func79, Tryz.ntmps79
  go_wp2_with fail
  refine bodyPost_ret (v := .agg #[.int .i64 n, .int .i64 sz, .int .i64 m]) (by simp [results, Tryz.results79, go_sem]; done) rfl ⟨rfl, ?_⟩
  exact ((Below.refl w.heap.size w).alloc (Nat.le_refl _) _).alloc (by simp) _

/-- The numbers that may be. -/
def fitN (n sz m : Int) : Bool := decide (1 ≤ n ∧ n ≤ 2000 ∧ 0 ≤ sz ∧ sz ≤ 65536 ∧ 0 ≤ m ∧ m ≤ sz)
theorem fitN_no {n sz m : Int} (h : ¬ (1 ≤ n ∧ n ≤ 2000 ∧ 0 ≤ sz ∧ sz ≤ 65536 ∧ 0 ≤ m ∧ m ≤ sz)) : fitN n sz m = false := decide_eq_false h
theorem fitN_yes {n sz m : Int} (h : 1 ≤ n ∧ n ≤ 2000 ∧ 0 ≤ sz ∧ sz ≤ 65536 ∧ 0 ≤ m ∧ m ≤ sz) : fitN n sz m = true := decide_eq_true h
set_option maxHeartbeats 2000000 in
theorem fit_any (n sz m : Int) (w : World) :
    Calls Tryz.prog 80 #[.agg #[.int .i64 n, .int .i64 sz, .int .i64 m]] w fun e w' => e = .returned (.bool (fitN n sz m)) ∧ Below w.heap.size w w' := by
  by_cases h1 : n < 1
  · rw [fitN_no (by omega)]
    go_enter Tryz.func80, Tryz.ntmps80
    go_wp2_with fail
    go_ret
    exact ⟨rfl, (Below.refl _ _).alloc (Nat.le_refl _) _⟩
  by_cases h2 : 2000 < n
  · rw [fitN_no (by omega)]
    go_enter Tryz.func80, Tryz.ntmps80
    go_wp2_with fail
    go_ret
    exact ⟨rfl, (Below.refl _ _).alloc (Nat.le_refl _) _⟩
  by_cases h3 : sz < 0
  · rw [fitN_no (by omega)]
    go_enter Tryz.func80, Tryz.ntmps80
    go_wp2_with fail
    go_ret
    exact ⟨rfl, (Below.refl _ _).alloc (Nat.le_refl _) _⟩
  by_cases h4 : 65536 < sz
  · rw [fitN_no (by omega)]
    go_enter Tryz.func80, Tryz.ntmps80
    go_wp2_with fail
    go_ret
    exact ⟨rfl, (Below.refl _ _).alloc (Nat.le_refl _) _⟩
  by_cases h5 : m < 0
  · rw [fitN_no (by omega)]
    go_enter Tryz.func80, Tryz.ntmps80
    go_wp2_with fail
    go_ret
    exact ⟨rfl, (Below.refl _ _).alloc (Nat.le_refl _) _⟩
  by_cases h6 : sz < m
  · rw [fitN_no (by omega)]
    go_enter Tryz.func80, Tryz.ntmps80
    go_wp2_with fail
    go_ret
    exact ⟨ret_bool (by simp; try omega), (Below.refl _ _).alloc (Nat.le_refl _) _⟩
  · rw [fitN_yes (by omega)]
    go_enter Tryz.func80, Tryz.ntmps80
    go_wp2_with fail
    go_ret
    exact ⟨ret_bool (by simp; try omega), (Below.refl _ _).alloc (Nat.le_refl _) _⟩

set_option maxHeartbeats 400000 in
theorem hasTarget_any (i : Ins) (w : World) :
    Calls Tryz.prog 92 #[.int .i64 i.op] w fun e w' => e = .returned (.bool (isJump i)) ∧ w = w' := by
  have hF := formZ_range i.op
  have HJ := Lib.hid (isJump_form i)
  go_enter Tryz.func92, Tryz.ntmps92
  go_wp2_with fail
  refine (form_any _ _).mono ?_; rintro e w1 ⟨rfl, rfl⟩
  by_cases h6 : formZ i.op = 6
  · have hj := Lib.hid (HJ.out.2 (.inl h6))
    rw [h6]
    go_wp2_with fail
    go_ret
    exact ⟨ret_bool hj.out.symm, rfl⟩
  by_cases h7 : formZ i.op = 7
  · have hj := Lib.hid (HJ.out.2 (.inr h7))
    rw [h7]
    go_wp2_with fail
    go_ret
    exact ⟨ret_bool hj.out.symm, rfl⟩
  · have hj : isJump i = false := by
      cases hh : isJump i
      · rfl
      · rcases HJ.out.1 hh with h | h <;> omega
    have hj := Lib.hid hj
    clear HJ
    go_wp2_with fail
    go_ret
    exact ⟨ret_bool (by rw [hj.out]; simp; omega), rfl⟩

/-- Is a target in the code? -/
theorem badTarget_eq {n k : Nat} {i : Ins} (hk : k < n) (hn : n ≤ 8192) : badTarget n k i = (isJump i && !decide (-(k : Int) ≤ i.imm ∧ i.imm < n - k)) := by
  unfold badTarget
  cases hj : isJump i
  · rfl
  · simp only [Bool.true_and]
    by_cases h : -(k : Int) ≤ i.imm ∧ i.imm < n - k
    · rw [targetZ_yes hj (by omega) (by omega) (by omega) (by omega), decide_eq_true h]; simp; omega
    · rw [targetZ_no (by omega), decide_eq_false h]; rfl
set_option maxHeartbeats 400000 in
theorem within_any (n k : Nat) (imm : Int) (w : World) (hk : k < n) (hn : n ≤ 8192) :
    Calls Tryz.prog 93 #[.int .i64 k, .int .i64 imm, .int .i64 n] w fun e w' => e = .returned (.bool (decide (-(k : Int) ≤ imm ∧ imm < n - k))) ∧ w = w' := by
  by_cases h1 : -(k : Int) ≤ imm
  · by_cases h2 : imm < n - k
    · have hr : decide (-(k : Int) ≤ imm ∧ imm < n - k) = true := decide_eq_true ⟨h1, h2⟩
      rw [hr]
      clear hr
      go_enter Tryz.func93, Tryz.ntmps93
      go_wp2_with fail
      go_ret
      exact ⟨rfl, rfl⟩
    · have hr : decide (-(k : Int) ≤ imm ∧ imm < n - k) = false := decide_eq_false (fun h => h2 h.2)
      rw [hr]
      clear hr
      go_enter Tryz.func93, Tryz.ntmps93
      go_wp2_with fail
      go_ret
      exact ⟨rfl, rfl⟩
  · have hr : decide (-(k : Int) ≤ imm ∧ imm < n - k) = false := decide_eq_false (fun h => h1 h.1)
    rw [hr]
    clear hr
    go_enter Tryz.func93, Tryz.ntmps93
    go_wp2_with fail
    go_ret
    exact ⟨rfl, rfl⟩
end Go.Proofs.YteagglddgkjkmaaGreat.Words

/- Contracts of package image: Targets, Right. -/
namespace Go.Proofs.YteagglddgkjkmaaGreat.Words
set_option maxRecDepth 100000
open Go.RowKit
set_option linter.unusedVariables false

set_option maxHeartbeats 2000000 in
theorem targets_any (A : Option Addr) (c : Nat) (sz : Int) (vd : Value) (l : List Ins) (w : World) (hr : Row w w.heap.size 5 (.slice A l.length c) l.length (codeCells l)) (hsmall : l.length ≤ 8192) :
    Calls Tryz.prog 82 #[.agg #[.slice A l.length c, .int .i64 sz, vd]] w fun e w' => e = .returned (.int .i64 (errT (targetsOk l.length 0 l))) ∧ Below w.heap.size w w' := by
  obtain ⟨hcl, hcm⟩ := hr.cap
  have HK := Lib.hid (fun (x : World) (h : Kept (w.alloc (.cells #[.slice A l.length c, .int .i64 sz, vd] 28)) x) => ((Below.refl w.heap.size w).alloc (Nat.le_refl _) _).trans (h.mono (by simp)))
  by_cases hn : l.length = 0
  · have hl : l = [] := List.eq_nil_of_length_eq_zero hn
    subst hl
    go_enter Tryz.func82, Tryz.ntmps82
    go_wp2_with fail
    refine wp_loop_rounds 1 ?_
    rw [rounds_succ]
    go_wp2_with fail
    go_ret
    exact ⟨rfl, HK.out _ (Kept.refl _)⟩
  obtain ⟨b, off, rfl, hb, _⟩ := hr.at_ hn
  have hB : w.heap.size < (w.alloc (.cells #[.slice (some ⟨b, off, none⟩) l.length c, .int .i64 sz, vd] 28)).heap.size := by simp
  have HR := Lib.hid (hr.alloc (Nat.le_refl _) (.cells #[.slice (some ⟨b, off, none⟩) l.length c, .int .i64 sz, vd] 28) |>.more (Nat.le_of_lt hB))
  have HA := Lib.hid (fun j h => at_some (l := l) (j := j) h)
  have HT := Lib.hid (fun j i h => targetsOk_step (n := l.length) (j := j) (l := l) (i := i) h)
  have HE := Lib.hid (fun (k : Nat) (h : l.length ≤ k) => List.drop_eq_nil_of_le h)
  have H0 := Lib.hid (show targetsOk l.length 0 l = targetsOk l.length 0 (l.drop 0) by rw [List.drop_zero])
  have HC := Lib.hid (fun (x : World) (h : Kept (w.alloc (.cells #[.slice (some ⟨b, off, none⟩) l.length c, .int .i64 sz, vd] 28)) x) (k : Nat) (i : Ins) (hi : l[k]? = some i) =>
    (h.row HR.out).ins hi)
  have c0 : (w.alloc (.cells #[.slice (some ⟨b, off, none⟩) l.length c, .int .i64 sz, vd] 28)).cell? ⟨w.heap.size, 0, none⟩ = some (.slice (some ⟨b, off, none⟩) l.length c) := by go_simp
  go_enter Tryz.func82, Tryz.ntmps82
  go_wp2_with fail
  generalize w.alloc (.cells #[.slice (some ⟨b, off, none⟩) l.length c, .int .i64 sz, vd] 28) = W at *
  have C0 := Lib.hid (fun (x : World) (h : Kept W x) => h.cell hB c0)
  clear c0 hr hB
  generalize hN : l.length = n at *
  have HN := Lib.hid hN
  clear hN
  go_loopw [8] (fun i wr => ∃ j : Nat, j ≤ n ∧ i = .int .i64 j ∧ Kept W wr ∧ targetsOk n 0 l = targetsOk n j (l.drop j)) (fun i _ => n - (intOf i).toNat)
  case atStart => exact ⟨0, Nat.zero_le _, rfl, Kept.refl _, H0.out⟩
  case round =>
    obtain ⟨j, hj, rfl, hK, hT⟩ := hrel
    have HTJ := Lib.hid hT
    clear hT
    by_cases hlt : j < n
    · obtain ⟨i, hi⟩ := HA.out j hlt
      have hs := Lib.hid (HT.out j i hi)
      obtain ⟨d0, d1, d2, d3, d4⟩ := HC.out _ hK j i hi
      have k0 : (0 : Int) ≤ j := by omega
      have k1 : (j : Int) < n := by omega
      have hbad := Lib.hid (badTarget_eq (n := n) (k := j) (i := i) hlt hsmall)
      have C0x := C0.out _ (hK.alloc (.cells #[.int .i64 i.op, .int .i64 i.d, .int .i64 i.a, .int .i64 i.b, .int .i64 i.imm] 44))
      go_wp2_with fail
      refine (hasTarget_any i _).mono ?_; rintro e w1 ⟨rfl, rfl⟩
      have hK2 := hK.alloc (.cells #[.int .i64 i.op, .int .i64 i.d, .int .i64 i.a, .int .i64 i.b, .int .i64 i.imm] 44)
      cases hjm : isJump i
      · have hok : badTarget n j i = false := by rw [hbad.out, hjm]; rfl
        have hres := Lib.hid (show targetsOk n 0 l = targetsOk n (j + 1) (l.drop (j + 1)) by rw [HTJ.out, hs.out, hok]; rfl)
        clear hok
        go_wp2_with fail
        go_roundw
        case rel => exact ⟨j + 1, by omega, by go_num, hK2, hres.out⟩
        case measure => simp [intOf]; omega
      · go_wp2_with fail
        refine (within_any n j i.imm _ hlt hsmall).mono ?_; rintro e w2 ⟨rfl, rfl⟩
        cases hw : decide (-(j : Int) ≤ i.imm ∧ i.imm < n - j)
        · have hres := Lib.hid (show errT (targetsOk n 0 l) = 4 by rw [HTJ.out, hs.out, hbad.out, hjm, hw]; rfl)
          clear hw
          go_wp2_with fail
          go_ret
          exact ⟨ret_int (by rw [HN.out]; exact hres.out.symm), HK.out _ hK2⟩
        · have hres := Lib.hid (show targetsOk n 0 l = targetsOk n (j + 1) (l.drop (j + 1)) by rw [HTJ.out, hs.out, hbad.out, hjm, hw]; rfl)
          clear hw
          go_wp2_with fail
          go_roundw
          case rel => exact ⟨j + 1, by omega, by go_num, hK2, hres.out⟩
          case measure => simp [intOf]; omega
    · have hres := Lib.hid (show errT (targetsOk n 0 l) = 0 by rw [HTJ.out, HE.out j (by omega)]; rfl)
      go_wp2_with fail
      go_ret
      exact ⟨ret_int (by rw [HN.out]; exact hres.out.symm), HK.out _ hK⟩

set_option maxHeartbeats 2000000 in
theorem allRight_any (A : Option Addr) (c : Nat) (l : List Ins) (w : World) (hr : Row w w.heap.size 5 (.slice A l.length c) l.length (codeCells l)) (hsmall : l.length ≤ 8192) :
    Calls Tryz.prog 81 #[.slice A l.length c] w fun e w' => e = .returned (.bool (l.all rightB)) ∧ Below w.heap.size w w' := by
  obtain ⟨hcl, hcm⟩ := hr.cap
  by_cases hn : l.length = 0
  · have hl : l = [] := List.eq_nil_of_length_eq_zero hn
    subst hl
    go_enter Tryz.func81, Tryz.ntmps81
    go_wp2_with fail
    refine wp_loop_rounds 1 ?_
    rw [rounds_succ]
    go_wp2_with fail
    go_ret
    exact ⟨rfl, Below.refl _ _⟩
  obtain ⟨b, off, rfl, hb, _⟩ := hr.at_ hn
  have HA := Lib.hid (fun j h => at_some (l := l) (j := j) h)
  have HT := Lib.hid (fun j i h => all_step (j := j) (l := l) (i := i) h)
  have HE := Lib.hid (fun (k : Nat) (h : l.length ≤ k) => List.drop_eq_nil_of_le h)
  have H0 := Lib.hid (show l.all rightB = (l.drop 0).all rightB by rw [List.drop_zero])
  have HC := Lib.hid (fun (x : World) (h : Kept w x) (k : Nat) (i : Ins) (hi : l[k]? = some i) => (h.row hr).ins hi)
  clear hr hb
  go_enter Tryz.func81, Tryz.ntmps81
  go_wp2_with fail
  generalize hN : l.length = n at *
  have HN := Lib.hid hN
  clear hN
  go_loopw [7] (fun i wr => ∃ j : Nat, j ≤ n ∧ i = .int .i64 j ∧ Kept w wr ∧ l.all rightB = (l.drop j).all rightB) (fun i _ => n - (intOf i).toNat)
  case atStart => exact ⟨0, Nat.zero_le _, rfl, Kept.refl _, H0.out⟩
  case round =>
    obtain ⟨j, hj, rfl, hK, hT⟩ := hrel
    have HTJ := Lib.hid hT
    clear hT
    by_cases hlt : j < n
    · obtain ⟨i, hi⟩ := HA.out j hlt
      have hs := Lib.hid (HT.out j i hi)
      obtain ⟨d0, d1, d2, d3, d4⟩ := HC.out _ hK j i hi
      have k0 : (0 : Int) ≤ j := by omega
      have k1 : (j : Int) < n := by omega
      go_wp2_with fail
      refine (right_any i _).mono ?_; rintro e w1 ⟨rfl, hb2⟩
      have hK2 := (hK.alloc _).to hb2
      clear hb2
      cases hri : rightB i
      · have hres := Lib.hid (show l.all rightB = false by rw [HTJ.out, hs.out, hri]; rfl)
        go_wp2_with fail
        go_ret
        exact ⟨ret_bool hres.out.symm, hK2⟩
      · have hres := Lib.hid (show l.all rightB = (l.drop (j + 1)).all rightB by rw [HTJ.out, hs.out, hri]; rfl)
        go_wp2_with fail
        go_roundw
        case rel => exact ⟨j + 1, by omega, by go_num, hK2, hres.out⟩
        case measure => simp [intOf]; omega
    · have hres := Lib.hid (show l.all rightB = true by rw [HTJ.out, HE.out j (by omega)]; rfl)
      go_wp2_with fail
      go_ret
      exact ⟨ret_bool hres.out.symm, hK⟩

theorem rightZ_fit {l : List Ins} {sz : Int} {m : Nat} : rightZ l sz m = (fitN l.length sz m && l.all rightB && targetsOk l.length 0 l) := by
  unfold rightZ sizesOk fitN
  congr 2
  rw [decide_eq_decide]
  omega
set_option maxHeartbeats 2000000 in
theorem imgRight_any (A : Option Addr) (c : Nat) (sz : Int) (A' : Option Addr) (m c' : Nat) (l : List Ins) (w : World) (hr : Row w w.heap.size 5 (.slice A l.length c) l.length (codeCells l)) (hm : m ≤ c') (hc' : c' ≤ 9223372036854775807) :
    Calls Tryz.prog 55 #[.agg #[.slice A l.length c, .int .i64 sz, .slice A' m c']] w fun e w' => e = .returned (.bool (rightZ l sz m)) ∧ Below w.heap.size w w' := by
  obtain ⟨hcl, hcm⟩ := hr.cap
  have HK := Lib.hid (fun (x : World) (h : Kept (w.alloc (.cells #[.slice A l.length c, .int .i64 sz, .slice A' m c'] 28)) x) => ((Below.refl w.heap.size w).alloc (Nat.le_refl _) _).trans (h.mono (by simp)))
  have hB : w.heap.size < (w.alloc (.cells #[.slice A l.length c, .int .i64 sz, .slice A' m c'] 28)).heap.size := by simp
  have HR := Lib.hid (hr.alloc (Nat.le_refl _) (.cells #[.slice A l.length c, .int .i64 sz, .slice A' m c'] 28) |>.more (Nat.le_of_lt hB))
  have c0 : (w.alloc (.cells #[.slice A l.length c, .int .i64 sz, .slice A' m c'] 28)).cell? ⟨w.heap.size, 0, none⟩ = some (.slice A l.length c) := by go_simp
  have c1 : (w.alloc (.cells #[.slice A l.length c, .int .i64 sz, .slice A' m c'] 28)).cell? ⟨w.heap.size, 1, none⟩ = some (.int .i64 sz) := by go_simp
  have c2 : (w.alloc (.cells #[.slice A l.length c, .int .i64 sz, .slice A' m c'] 28)).cell? ⟨w.heap.size, 2, none⟩ = some (.slice A' m c') := by go_simp
  have HZ := Lib.hid (rightZ_fit (l := l) (sz := sz) (m := m))
  have HS := Lib.hid (fun (h : fitN l.length sz m = true) => (show l.length ≤ 8192 by have := of_decide_eq_true h; omega))
  go_enter Tryz.func55, Tryz.ntmps55
  go_wp2_with fail
  generalize w.alloc (.cells #[.slice A l.length c, .int .i64 sz, .slice A' m c'] 28) = W at *
  have C0 := Lib.hid (fun (x : World) (h : Kept W x) => h.cell hB c0)
  have C1 := Lib.hid (fun (x : World) (h : Kept W x) => h.cell hB c1)
  have C2 := Lib.hid (fun (x : World) (h : Kept W x) => h.cell hB c2)
  have HA := Lib.hid (fun (x : World) (h : Kept W x) (hs : l.length ≤ 8192) => allRight_any A c l x (h.row HR.out) hs)
  have HT := Lib.hid (fun (x : World) (h : Kept W x) (hs : l.length ≤ 8192) => targets_any A c sz (.slice A' m c') l x (h.row HR.out) hs)
  clear c0 c1 c2 hr hB
  refine (numbersOf_any A A' l.length c m c' sz _ (by omega) (by omega)).mono ?_; rintro e w1 ⟨rfl, hb1⟩
  have k1 : Kept W w1 := hb1
  have c0 := C0.out _ k1
  clear hb1
  go_wp2_with fail
  refine (fit_any l.length sz m _).mono ?_; rintro e w2 ⟨rfl, hb2⟩
  have k2 := k1.to hb2
  have c0 := C0.out _ k2
  clear hb2 k1
  cases hf : fitN l.length sz m
  · have hres := Lib.hid (show rightZ l sz m = false by rw [HZ.out, hf]; rfl)
    go_wp2_with fail
    go_ret
    exact ⟨ret_bool hres.out.symm, HK.out _ k2⟩
  have hs := HS.out hf
  have HAx := Lib.hid (HA.out _ k2 hs)
  go_wp2_with fail
  refine HAx.out.mono ?_; rintro e w3 ⟨rfl, hb3⟩
  have k3 := k2.to hb3
  have c0 := C0.out _ k3
  have c1 := C1.out _ k3
  have c2 := C2.out _ k3
  clear hb3 k2
  cases ha : l.all rightB
  · have hres := Lib.hid (show rightZ l sz m = false by rw [HZ.out, hf, ha]; rfl)
    go_wp2_with fail
    go_ret
    exact ⟨ret_bool hres.out.symm, HK.out _ k3⟩
  have HTx := Lib.hid (HT.out _ k3 hs)
  go_wp2_with fail
  refine HTx.out.mono ?_; rintro e w4 ⟨rfl, hb4⟩
  have k4 := k3.to hb4
  clear hb4 k3
  cases ht : targetsOk l.length 0 l
  · have hres := Lib.hid (show rightZ l sz m = false by rw [HZ.out, hf, ha, ht]; rfl)
    have e4 : errT false = 4 := rfl
    rw [e4]
    go_wp2_with fail
    go_ret
    exact ⟨ret_bool hres.out.symm, HK.out _ k4⟩
  · have hres := Lib.hid (show rightZ l sz m = true by rw [HZ.out, hf, ha, ht]; rfl)
    have e4 : errT true = 0 := rfl
    rw [e4]
    go_wp2_with fail
    go_ret
    exact ⟨ret_bool hres.out.symm, HK.out _ k4⟩
end Go.Proofs.YteagglddgkjkmaaGreat.Words

/- Contract of package blocks: Leaders. -/
namespace Go.Proofs.YteagglddgkjkmaaGreat.Words
set_option maxRecDepth 100000
open Go.RowKit
set_option linter.unusedVariables false

theorem info_bool : (Tryz.prog.info? 4).map (fun i => (i.zero, i.size, i.bytes)) = some (some (.bool false), 1, 1) := by kernel_rfl
theorem info_intB : (Tryz.prog.info? 3).map (fun i => (i.zero, i.size, i.bytes)) = some (some (.int .i64 0), 1, 8) := by kernel_rfl
def bools (m : List Bool) : List Value := m.map Value.bool
theorem bools_set (m : List Bool) (k : Nat) (b : Bool) : (bools m).set k (.bool b) = bools (m.set k b) := by simp [bools, List.map_set]
theorem bools_get {m : List Bool} {k : Nat} (h : k < m.length) : (bools m)[k]? = some (.bool (m.getD k false)) := by
  unfold bools; rw [List.getElem?_map, List.getD_eq_getElem?_getD, List.getElem?_eq_getElem h]; rfl
theorem bools_made (n : Nat) : (madeCells (Value.bool false).cells (n * 1)).toList = bools (List.replicate n false) := by
  rw [Nat.mul_one, show (Value.bool false).cells = #[Value.bool false] from rfl, toList_madeCells_one]; simp [bools]
theorem natL_one (L : List Nat) : ∀ u ∈ natL L, u.oneCell' = true := by
  intro u hu
  obtain ⟨x, _, rfl⟩ := List.mem_map.1 hu
  rfl
theorem natL_len (L : List Nat) : (natL L).length = L.length := by simp [natL]
/-- The five cells of an instruction that was laid, behind a call. -/
theorem ins_kept {w x : World} {i : Ins} {t : TypeId} (hb : Below (w.alloc (.cells #[.int .i64 i.op, .int .i64 i.d, .int .i64 i.a, .int .i64 i.b, .int .i64 i.imm] t)).heap.size (w.alloc (.cells #[.int .i64 i.op, .int .i64 i.d, .int .i64 i.a, .int .i64 i.b, .int .i64 i.imm] t)) x) :
    w.heap.size < x.heap.size ∧ x.cell? ⟨w.heap.size, 0, none⟩ = some (.int .i64 i.op) ∧ x.cell? ⟨w.heap.size, 1, none⟩ = some (.int .i64 i.d) ∧ x.cell? ⟨w.heap.size, 2, none⟩ = some (.int .i64 i.a) ∧ x.cell? ⟨w.heap.size, 3, none⟩ = some (.int .i64 i.b) ∧ x.cell? ⟨w.heap.size, 4, none⟩ = some (.int .i64 i.imm) := by
  refine ⟨by have := hb.size; simp at this; omega, ?_, ?_, ?_, ?_, ?_⟩
  all_goals exact ((bcell hb).1 _ _ (by simp)).trans (by go_simp)
/-- Targets lie in the code. -/
theorem target_in {n : Nat} : ∀ {l : List Ins} {k0 j : Nat} {i : Ins}, targetsOk n k0 l = true → l[j]? = some i → isJump i = true → 0 ≤ ((k0 + j : Nat) : Int) + i.imm ∧ ((k0 + j : Nat) : Int) + i.imm < n := by
  intro l
  induction l with
  | nil => intro k0 j i h hi; simp at hi
  | cons x l ih =>
    intro k0 j i h hi hj
    rw [targetsOk, Bool.and_eq_true] at h
    cases j with
    | zero =>
      simp at hi; subst hi
      have h1 := h.1
      unfold badTarget at h1
      rw [hj] at h1
      simp only [Bool.true_and, Bool.not_eq_true', decide_eq_false_iff_not] at h1
      by_cases hb : (k0 : Int) + x.imm < 0 ∨ (n : Int) ≤ k0 + x.imm
      · exact absurd (by rw [targetZ_no (by rcases hb with h | h <;> omega)]; omega) h1
      · simp only [Nat.add_zero]; omega
    | succ j =>
      simp at hi
      have := ih (k0 := k0 + 1) (j := j) h.2 hi hj
      rw [show k0 + (j + 1) = k0 + 1 + j by omega]; exact this
theorem rightZ_parts {l : List Ins} {sz : Int} {m : Nat} (h : rightZ l sz m = true) : (1 ≤ l.length ∧ l.length ≤ 2000) ∧ targetsOk l.length 0 l = true := by
  rw [rightZ_fit, Bool.and_eq_true, Bool.and_eq_true] at h
  have := of_decide_eq_true h.1.1
  exact ⟨by omega, h.2⟩

/-- What Leaders answers. -/
def leadsR (l : List Ins) (sz : Int) (m : Nat) : List Nat := if rightZ l sz m = true then leadsZ l else []
def leadsTo (l : List Ins) (N j : Nat) : List Nat := (List.range j).filter fun k => (marksN N l).getD k false
theorem leadsTo_succ (l : List Ins) (N j : Nat) : leadsTo l N (j + 1) = if (marksN N l).getD j false = true then leadsTo l N j ++ [j] else leadsTo l N j := by
  unfold leadsTo
  rw [List.range_succ, List.filter_append]
  by_cases h : (marksN N l).getD j false = true
  · rw [if_pos h, List.filter_cons, if_pos h, List.filter_nil]
  · rw [if_neg h, List.filter_cons, if_neg h, List.filter_nil, List.append_nil]
theorem leadsTo_le (l : List Ins) (N j : Nat) : (leadsTo l N j).length ≤ j := by
  unfold leadsTo
  exact Nat.le_trans (List.length_filter_le _ _) (by simp)
theorem leadsTo_all {l : List Ins} {N : Nat} (h : l.length ≤ N) : leadsTo l N l.length = leadsZ l := by
  unfold leadsTo leadsZ
  refine List.filter_congr fun k hk => ?_
  rw [marksN_get h (List.mem_range.1 hk)]

/-- What holds ahead of each round of the marks. -/
structure RoundM (l : List Ins) (W wr : World) (g N j : Nat) (m : List Bool) : Prop where
  kept : Kept W wr
  own : wr.ownsRow W.heap.size 4 1 (.slice (some ⟨g, 0, none⟩) N N) N (bools m)
  len : m.length = N
  done : marksN N l = marksF j (l.drop j) m

theorem own_bset {w : World} {base g N : Nat} {m : List Bool} (h : w.ownsRow base 4 1 (.slice (some ⟨g, 0, none⟩) N N) N (bools m)) (k : Nat) : (w.setCell ⟨g, k, none⟩ (.bool true)).ownsRow base 4 1 (.slice (some ⟨g, 0, none⟩) N N) N (bools (m.set k true)) := by
  have := (h.stored k (.bool true)).1
  rwa [bools_set] at this
theorem own_bcell {w : World} {base g N : Nat} {m : List Bool} (h : w.ownsRow base 4 1 (.slice (some ⟨g, 0, none⟩) N N) N (bools m)) {k : Nat} (hk : k < m.length) : w.cell? ⟨g, k, none⟩ = some (.bool (m.getD k false)) := by
  have hl : m.length = N := by have := h.1; simpa [bools] using this
  rw [h.cellAt k (by omega), bools_get hk]

/-- What holds ahead of each round of the list. -/
structure RoundO (l : List Ins) (W wr : World) (g N k : Nat) (ms : List Bool) (v : Value) : Prop where
  kept : Kept W wr
  marks : wr.ownsRow W.heap.size 4 1 (.slice (some ⟨g, 0, none⟩) N N) N (bools ms)
  out : wr.ownsRow W.heap.size 3 1 v (leadsTo l N k).length (natL (leadsTo l N k))

theorem markE_no {k : Nat} {i : Ins} {m : List Bool} (h : isEnd i = false) : markE k i m = m := by unfold markE; rw [h]; rfl
theorem markE_yes {k : Nat} {i : Ins} {m : List Bool} (h : isEnd i = true) : markE k i m = m.set (k + 1) true := by unfold markE; rw [if_pos h]
theorem markJ_no {k : Nat} {i : Ins} {m : List Bool} (h : isJump i = false) : markJ k i m = m := by unfold markJ; rw [h]; rfl
theorem markJ_yes {k T : Nat} {i : Ins} {m : List Bool} (h : isJump i = true) (hT : (k : Int) + i.imm = T) : markJ k i m = m.set T true := by unfold markJ; rw [if_pos h, hT]; rfl

set_option maxHeartbeats 2000000 in
theorem blkLeaders_any (A : Option Addr) (c : Nat) (sz : Int) (A' : Option Addr) (m c' : Nat) (l : List Ins) (w : World) (hr : Row w w.heap.size 5 (.slice A l.length c) l.length (codeCells l)) (hm : m ≤ c') (hc' : c' ≤ 9223372036854775807) :
    Calls Tryz.prog 58 #[.agg #[.slice A l.length c, .int .i64 sz, .slice A' m c']] w fun e w' => ∃ v, e = .returned v ∧ w'.ownsRow w.heap.size 3 1 v (leadsR l sz m).length (natL (leadsR l sz m)) ∧ Below w.heap.size w w' := by
  obtain ⟨i0, hi, hz0, hz1, hz2⟩ := info_parts info_bool
  have HZ2 := Lib.hid hz2
  clear hz2
  obtain ⟨i1, hi', hz0', hz1', hz2'⟩ := info_parts info_intB
  have HZ2' := Lib.hid hz2'
  clear hz2'
  obtain ⟨hcl, hcm⟩ := hr.cap
  have HK := Lib.hid (fun (x : World) (h : Kept (w.alloc (.cells #[.slice A l.length c, .int .i64 sz, .slice A' m c'] 28)) x) => ((Below.refl w.heap.size w).alloc (Nat.le_refl _) _).trans (h.mono (by simp)))
  have hB : w.heap.size < (w.alloc (.cells #[.slice A l.length c, .int .i64 sz, .slice A' m c'] 28)).heap.size := by simp
  have HR := Lib.hid (hr.alloc (Nat.le_refl _) (.cells #[.slice A l.length c, .int .i64 sz, .slice A' m c'] 28) |>.more (Nat.le_of_lt hB))
  have c0 : (w.alloc (.cells #[.slice A l.length c, .int .i64 sz, .slice A' m c'] 28)).cell? ⟨w.heap.size, 0, none⟩ = some (.slice A l.length c) := by go_simp
  have HRP := Lib.hid (fun h => rightZ_parts (l := l) (sz := sz) (m := m) h)
  have hw0 : (w.alloc (.cells #[.slice A l.length c, .int .i64 sz, .slice A' m c'] 28)).heap.size = w.heap.size + 1 := by simp
  go_enter Tryz.func58, Tryz.ntmps58
  go_wp2_with fail
  generalize w.alloc (.cells #[.slice A l.length c, .int .i64 sz, .slice A' m c'] 28) = W at *
  have C0 := Lib.hid (fun (x : World) (h : Kept W x) => h.cell hB c0)
  have HX := Lib.hid (imgRight_any A c sz A' m c' l W HR.out hm hc')
  clear c0 hr
  refine HX.out.mono ?_; rintro e w1 ⟨rfl, hb1⟩
  have k1 : Kept W w1 := hb1
  have c0 := C0.out _ k1
  have hs1 := hb1.size
  clear hb1
  cases hri : rightZ l sz m
  · go_wp2_with fail
    go_ret
    have hl : leadsR l sz m = [] := by unfold leadsR; rw [hri]; rfl
    rw [hl]
    exact ⟨_, rfl, World.ownsRow_nil _ _ _ _, HK.out _ k1⟩
  obtain ⟨⟨n0, n1⟩, hto⟩ := HRP.out hri
  have HL := Lib.hid (show leadsR l sz m = leadsTo l (l.length + 1) l.length by unfold leadsR; rw [if_pos hri, leadsTo_all (by omega)])
  have HT := Lib.hid (fun (j : Nat) (i : Ins) (h : l[j]? = some i) (hj : isJump i = true) => (by have := target_in hto h hj; simpa using this : 0 ≤ (j : Int) + i.imm ∧ (j : Int) + i.imm < l.length))
  have HMS := Lib.hid (fun (j : Nat) (i : Ins) (h : l[j]? = some i) (m : List Bool) => marksF_step h m)
  have HA := Lib.hid (fun j h => at_some (l := l) (j := j) h)
  have HE := Lib.hid (fun (k : Nat) (h : l.length ≤ k) => List.drop_eq_nil_of_le h)
  have HD0 := Lib.hid (show l.drop 0 = l from rfl)
  have hn0 : l.length ≠ 0 := by omega
  obtain ⟨b, off, rfl, hbb, _⟩ := HR.out.at_ hn0
  have HC := Lib.hid (fun (x : World) (h : Kept W x) (k : Nat) (i : Ins) (hi : l[k]? = some i) => (h.row HR.out).ins hi)
  clear HR HX hto hbb HRP hri
  have hne : w.heap.size < w1.heap.size := by omega
  go_wp2_with (at_make; refine wpList_make_full _ rfl _ _ 109 rfl W.heap.size 4 i0 (.bool false) 1 Tryz.underlying109 hi hz0 hz1 .i64 .i64 _ _ (l.length + 1) rfl rfl (by omega) (by omega) (by rw [HZ2.out]; omega) (by unfold maxLen; omega) hs1 ?_; rotate_right; intro w2 hown hg2; rw [bools_made] at hown; have k2 := k1.trans (Below.grown (Below.refl _ _) hg2 (Nat.le_refl _) (fun k hk => nomatch hk)); have c0 := C0.out _ k2; have fz := hown.frozenAt 0; have cz := own_bcell (k := 0) hown (by simp))
  have hg1 : W.heap.size ≤ w1.heap.size := hs1
  have hO1 := own_bset hown 0
  have hP : RoundM l W (w2.setCell ⟨w1.heap.size, 0, none⟩ (.bool true)) w1.heap.size (l.length + 1) 0 ((List.replicate (l.length + 1) false).set 0 true) :=
    ⟨Below.setCell k2 hg1 _, hO1, by simp, by rw [HD0.out]; rfl⟩
  clear cz fz hown hg2 k1 hO1
  generalize hG : w1.heap.size = g at *
  clear hG
  generalize w2.setCell ⟨g, 0, none⟩ (.bool true) = w3 at *
  generalize hN : l.length = n at *
  have HN := Lib.hid hN
  clear hN k2
  go_loopw [21] (fun i wr => ∃ (j : Nat) (m : List Bool), j ≤ n ∧ i = .int .i64 j ∧ RoundM l W wr g (n + 1) j m) (fun i _ => n - (intOf i).toNat)
  case atStart => exact ⟨0, _, Nat.zero_le _, rfl, hP⟩
  case round =>
    obtain ⟨j, ms, hj, rfl, hK⟩ := hrel
    have hk := hK.kept
    have hO := hK.own
    have hml := hK.len
    have HDN := Lib.hid hK.done
    clear hK hP
    by_cases hlt : j < n
    · obtain ⟨i, hi⟩ := HA.out j hlt
      have HS := Lib.hid (fun m => HMS.out j i hi m)
      have HTT := Lib.hid (HT.out j i hi)
      obtain ⟨d0, d1, d2, d3, d4⟩ := HC.out _ hk j i hi
      have j0 : (0 : Int) ≤ j := by omega
      have j1 : (j : Int) < n := by omega
      clear hi
      go_wp2_with fail
      refine (blkHas_any i _).mono ?_; rintro e w4 ⟨rfl, hb4⟩
      obtain ⟨hz4, q0, q1, q2, q3, q4⟩ := ins_kept hb4
      have k4 := (hk.alloc _).to hb4
      have hO4 := own_below (hO.alloc _) hb4
      have hzg : g < wr.heap.size := (hO.lt _ rfl).2
      clear hb4 hk hO
      cases hjm : isJump i
      · obtain ⟨MJ, hMJ⟩ : ∃ MJ, MJ = ms := ⟨_, rfl⟩
        have MJH : markJ j i ms = MJ := by rw [markJ_no hjm, hMJ]
        have MJL : MJ.length = n + 1 := by rw [hMJ]; exact hml
        rw [← hMJ] at hO4
        have k4X := k4
        have hO4X := hO4
        clear hMJ
        go_wp2_with fail
        refine (blkEnds_any i _).mono ?_; rintro e w5 ⟨rfl, hb5⟩
        have k5 := k4X.to hb5
        have hO5 := own_below hO4X hb5
        clear hb5
        cases he : isEnd i
        · have hres := Lib.hid (show marksN (n + 1) l = marksF (j + 1) (l.drop (j + 1)) MJ by rw [HDN.out, HS.out, MJH, markE_no he])
          go_wp2_with fail
          go_roundw
          case rel => exact ⟨j + 1, _, by omega, by go_num, ⟨k5, hO5, MJL, hres.out⟩⟩
          case measure => simp [intOf]; omega
        · have hres := Lib.hid (show marksN (n + 1) l = marksF (j + 1) (l.drop (j + 1)) (MJ.set (j + 1) true) by rw [HDN.out, HS.out, MJH, markE_yes he])
          have fz := hO5.frozenAt (j + 1)
          have cz := own_bcell (k := j + 1) hO5 (by rw [MJL]; omega)
          have hO6 := Lib.hid (own_bset hO5 (j + 1))
          go_wp2_with fail
          go_roundw
          case rel => exact ⟨j + 1, _, by omega, by go_num, ⟨Below.setCell k5 hg1 _, hO6.out, by simpa using MJL, hres.out⟩⟩
          case measure => simp [intOf]; omega
      · obtain ⟨t0, t1⟩ := HTT.out hjm
        obtain ⟨T, hT⟩ : ∃ T : Nat, (j : Int) + i.imm = T := ⟨((j : Int) + i.imm).toNat, by omega⟩
        have HJY := Lib.hid (fun m => markJ_yes (m := m) hjm hT)
        have hTn : T < n := by omega
        have fz := hO4.frozenAt T
        have cz := own_bcell (k := T) hO4 (by omega)
        have hO4X := own_bset hO4 T
        have k4X : Kept W (w4.setCell ⟨g, T, none⟩ (.bool true)) := Below.setCell k4 hg1 _
        obtain ⟨MJ, hMJ⟩ : ∃ MJ, MJ = ms.set T true := ⟨_, rfl⟩
        have MJH : markJ j i ms = MJ := by rw [HJY.out, hMJ]
        have MJL : MJ.length = n + 1 := by rw [hMJ]; simpa using hml
        rw [← hMJ] at hO4X
        have hO4X := Lib.hid hO4X
        have k4X := Lib.hid k4X
        clear hMJ hO4 k4
        go_wp2_with fail
        refine (blkEnds_any i _).mono ?_; rintro e w5 ⟨rfl, hb5⟩
        have k5 := k4X.out.to hb5
        have hO5 := own_below hO4X.out hb5
        clear hb5
        cases he : isEnd i
        · have hres := Lib.hid (show marksN (n + 1) l = marksF (j + 1) (l.drop (j + 1)) MJ by rw [HDN.out, HS.out, MJH, markE_no he])
          go_wp2_with fail
          go_roundw
          case rel => exact ⟨j + 1, _, by omega, by go_num, ⟨k5, hO5, MJL, hres.out⟩⟩
          case measure => simp [intOf]; omega
        · have hres := Lib.hid (show marksN (n + 1) l = marksF (j + 1) (l.drop (j + 1)) (MJ.set (j + 1) true) by rw [HDN.out, HS.out, MJH, markE_yes he])
          have fz := hO5.frozenAt (j + 1)
          have cz := own_bcell (k := j + 1) hO5 (by rw [MJL]; omega)
          have hO6 := Lib.hid (own_bset hO5 (j + 1))
          go_wp2_with fail
          go_roundw
          case rel => exact ⟨j + 1, _, by omega, by go_num, ⟨Below.setCell k5 hg1 _, hO6.out, by simpa using MJL, hres.out⟩⟩
          case measure => simp [intOf]; omega
    · have hjn : j = n := by omega
      subst hjn
      have hms : ms = marksN (j + 1) l := by rw [HDN.out, HE.out j (Nat.le_refl _)]; rfl
      have HMG := Lib.hid (fun k => congrArg (fun x : List Bool => x.getD k false) hms)
      have c0 := C0.out _ hk
      have hP : RoundO l W wr g (j + 1) 0 ms (.slice none 0 0) := ⟨hk, hO, World.ownsRow_nil _ _ _ _⟩
      clear hms HDN hk hO HT HMS HA HE HD0 HC
      go_wp2_with fail
      go_loopw [6, 44] (fun v i wr => ∃ k : Nat, k ≤ j ∧ i = .int .i64 k ∧ RoundO l W wr g (j + 1) k ms v) (fun _ i _ => j - (intOf i).toNat)
      case atStart => exact ⟨0, Nat.zero_le _, rfl, hP⟩
      case round =>
        obtain ⟨k, hkj, rfl, hK⟩ := hrel
        have hk := hK.kept
        have hM := hK.marks
        have hU := hK.out
        clear hK hP
        have HSU := Lib.hid (leadsTo_succ l (j + 1) k)
        have hle := leadsTo_le l (j + 1) k
        by_cases hlt : k < j
        · have cz := own_bcell (k := k) hM (by omega)
          have hG := Lib.hid (HMG.out k)
          have k0 : (0 : Int) ≤ k := by omega
          have k1 : (k : Int) < j := by omega
          cases hb : ms.getD k false
          · have hres := Lib.hid (show leadsTo l (j + 1) (k + 1) = leadsTo l (j + 1) k by rw [HSU.out, if_neg (by have := hG.out; rw [← this, hb]; simp)])
            rw [hb] at cz
            clear hb hle
            go_wp2_with fail
            go_roundw
            case rel => exact ⟨k + 1, by omega, by go_num, ⟨hk, hM, by rw [hres.out]; exact hU⟩⟩
            case measure => simp [intOf]; omega
          · have hres := Lib.hid (show leadsTo l (j + 1) (k + 1) = leadsTo l (j + 1) k ++ [k] by rw [HSU.out, if_pos (by have := hG.out; rw [← this, hb])])
            rw [hb] at cz
            have hUH := Lib.hid hU
            generalize hcnt : (leadsTo l (j + 1) k).length = cnt at *
            have HCN := Lib.hid hcnt
            clear hb hU hcnt
            go_wp2_with (at_builtin; refine wpList_append_own _ rfl (.tmp 51) (.tmp 53) 59 rfl W.heap.size 3 i1 (.int .i64 0) 1 8 Tryz.underlying59 hi' hz0' hz1' HZ2'.out rfl (by omega) _ cnt (natL (leadsTo l (j + 1) k)) rfl (hUH.out.alloc _) ⟨wr.heap.size, 0, none⟩ 1 1 (natL [k]) rfl rfl (new_cells wr _ _ _ rfl) (natL_one [k]) (by unfold maxLen; omega) (by omega) (by have := hk.size; simp; omega) ?_; intro v2 w5 hO5 hg5 _)
            have k5 : Kept W w5 := Below.grown (hk.alloc _) hg5 (by have := hk.size; simp; omega) (fun q hq => (hUH.out.lt q hq).1)
            have hM5 := own_grown (hM.alloc _) hg5 (fun q hq => by rw [← hq]; exact own_apart hM hUH.out (by decide) hq)
            clear hg5
            go_roundw
            case rel =>
              refine ⟨k + 1, by omega, by go_num, ⟨k5, hM5, ?_⟩⟩
              rw [hres.out, List.length_append, HCN.out, natL_snoc]
              exact hO5
            case measure => simp [intOf]; omega
        · have hkj2 : k = j := by omega
          subst hkj2
          go_wp2_with fail
          go_ret
          exact ⟨_, rfl, by rw [HL.out]; exact own_base hU (by omega), HK.out _ hk⟩
end Go.Proofs.YteagglddgkjkmaaGreat.Words

/- Contract of package blocks: Cut. -/
namespace Go.Proofs.YteagglddgkjkmaaGreat.Words
set_option maxRecDepth 100000
open Go.RowKit
set_option linter.unusedVariables false

theorem info_block : (Tryz.prog.info? 24).map (fun i => (i.zero, i.size, i.bytes)) = some (some (.agg #[.int .i64 0, .int .i64 0, .int .i64 0, .int .i64 0, .slice none 0 0, .slice none 0 0]), 6, 80) := by kernel_rfl
/-- The six cells of a block without cells. -/
def blkL (b : Blk) : List Value := [.int .i64 b.from_, .int .i64 b.to, .int .i64 b.next, .int .i64 b.taken, .slice none 0 0, .slice none 0 0]
theorem blkL_len (b : Blk) : (blkL b).length = 6 := rfl
theorem blkL_one (b : Blk) : ∀ u ∈ blkL b, u.oneCell' = true := by
  intro u hu
  simp only [blkL, List.mem_cons, List.not_mem_nil, or_false] at hu
  rcases hu with rfl | rfl | rfl | rfl | rfl | rfl <;> rfl
def cutR (l : List Ins) (sz : Int) (m : Nat) : List Blk := if rightZ l sz m = true then cutZ l else []
theorem cutR_eq (l : List Ins) (sz : Int) (m : Nat) : cutR l sz m = cutTo l (leadsR l sz m) (leadsR l sz m).length := by
  unfold cutR leadsR cutZ
  split
  · rfl
  · rfl
theorem leadsR_sorted (l : List Ins) (sz : Int) (m : Nat) : (leadsR l sz m).Pairwise (· < ·) := by
  unfold leadsR; split
  · exact leads_sorted l
  · exact List.Pairwise.nil
theorem leadsR_lt {l : List Ins} {sz : Int} {m : Nat} {x : Nat} (h : x ∈ leadsR l sz m) : x < l.length := by
  unfold leadsR at h; split at h
  · exact (mem_leads.1 h).1
  · simp at h
theorem leadsR_le (l : List Ins) (sz : Int) (m : Nat) : (leadsR l sz m).length ≤ l.length := by
  unfold leadsR; split
  · rw [← leadsTo_all (Nat.le_refl _)]; exact leadsTo_le _ _ _
  · simp
theorem leadD_mem {L : List Nat} {k : Nat} (h : k < L.length) : L.getD k 0 ∈ L := by
  rw [List.getD_eq_getElem?_getD, List.getElem?_eq_getElem h]; exact List.getElem_mem h
theorem sorted_at {L : List Nat} (hs : L.Pairwise (· < ·)) {a b : Nat} (hab : a < b) (hb : b < L.length) : L.getD a 0 < L.getD b 0 := by
  rw [List.getD_eq_getElem?_getD, List.getElem?_eq_getElem (by omega), List.getD_eq_getElem?_getD, List.getElem?_eq_getElem hb]
  exact List.pairwise_iff_getElem.1 hs a b (by omega) hb hab
/-- Where the k-th block ends. -/
theorem blkTo_range {L : List Nat} {n k : Nat} (hs : L.Pairwise (· < ·)) (hn : ∀ x ∈ L, x < n) (hk : k < L.length) : L.getD k 0 < blkToZ L n k ∧ blkToZ L n k ≤ n := by
  unfold blkToZ
  split
  · rename_i h
    exact ⟨sorted_at hs (Nat.lt_succ_self k) h, Nat.le_of_lt (hn _ (leadD_mem h))⟩
  · exact ⟨hn _ (leadD_mem hk), Nat.le_refl _⟩

/-- An instruction's box and a block's box behind it. -/
structure BoxB (x : World) (q : Nat) (i : Ins) (b : Blk) : Prop where
  big : q + 1 < x.heap.size
  i0 : x.cell? ⟨q, 0, none⟩ = some (.int .i64 i.op)
  i1 : x.cell? ⟨q, 1, none⟩ = some (.int .i64 i.d)
  i2 : x.cell? ⟨q, 2, none⟩ = some (.int .i64 i.a)
  i3 : x.cell? ⟨q, 3, none⟩ = some (.int .i64 i.b)
  i4 : x.cell? ⟨q, 4, none⟩ = some (.int .i64 i.imm)
  b0 : x.cell? ⟨q + 1, 0, none⟩ = some (.int .i64 b.from_)
  b1 : x.cell? ⟨q + 1, 1, none⟩ = some (.int .i64 b.to)
  b2 : x.cell? ⟨q + 1, 2, none⟩ = some (.int .i64 b.next)
  b3 : x.cell? ⟨q + 1, 3, none⟩ = some (.int .i64 b.taken)
  b4 : x.cell? ⟨q + 1, 4, none⟩ = some (.slice none 0 0)
  b5 : x.cell? ⟨q + 1, 5, none⟩ = some (.slice none 0 0)
  f2 : x.frozen? ⟨q + 1, 2, none⟩ = false
  f3 : x.frozen? ⟨q + 1, 3, none⟩ = false
theorem BoxB.below {x y : World} {q : Nat} {i : Ins} {b : Blk} (h : BoxB x q i b) (hb : Below x.heap.size x y) : BoxB y q i b := by
  obtain ⟨hc, hf⟩ := bcell hb
  have := hb.size
  have h0 := h.big
  exact ⟨by omega, (hc _ _ (by omega)).trans h.i0, (hc _ _ (by omega)).trans h.i1, (hc _ _ (by omega)).trans h.i2, (hc _ _ (by omega)).trans h.i3, (hc _ _ (by omega)).trans h.i4,
    (hc _ _ h0).trans h.b0, (hc _ _ h0).trans h.b1, (hc _ _ h0).trans h.b2, (hc _ _ h0).trans h.b3, (hc _ _ h0).trans h.b4, (hc _ _ h0).trans h.b5, (hf _ _ h0).trans h.f2, (hf _ _ h0).trans h.f3⟩
theorem frozen_setCell (w : World) (a p : Addr) (v : Value) : (w.setCell a v).frozen? p = w.frozen? p := by go_simp
theorem BoxB.nextTo {x : World} {q : Nat} {i : Ins} {b : Blk} (h : BoxB x q i b) (n : Int) : BoxB (x.setCell ⟨q + 1, 2, none⟩ (.int .i64 n)) q i { b with next := n } := by
  obtain ⟨h0, a0, a1, a2, a3, a4, c0, c1, c2, c3, c4, c5, f2, f3⟩ := h
  refine ⟨by simpa using h0, ?_, ?_, ?_, ?_, ?_, ?_, ?_, ?_, ?_, ?_, ?_, ?_, ?_⟩ <;> go_simp
theorem BoxB.takenTo {x : World} {q : Nat} {i : Ins} {b : Blk} (h : BoxB x q i b) (n : Int) : BoxB (x.setCell ⟨q + 1, 3, none⟩ (.int .i64 n)) q i { b with taken := n } := by
  obtain ⟨h0, a0, a1, a2, a3, a4, c0, c1, c2, c3, c4, c5, f2, f3⟩ := h
  refine ⟨by simpa using h0, ?_, ?_, ?_, ?_, ?_, ?_, ?_, ?_, ?_, ?_, ?_, ?_, ?_⟩ <;> go_simp
theorem BoxB.drewN {x : World} {q : Nat} {i : Ins} {b : Blk} (h : BoxB x q i b) (k : Nat) : BoxB (x.drewN k) q i b := ⟨h.big, h.i0, h.i1, h.i2, h.i3, h.i4, h.b0, h.b1, h.b2, h.b3, h.b4, h.b5, h.f2, h.f3⟩
theorem Kept.set {W x : World} (h : Kept W x) {g o : Nat} (hg : W.heap.size ≤ g) (u : Value) : Kept W (x.setCell ⟨g, o, none⟩ u) := Below.setCell h hg u
theorem new_cells_at (w : World) (g : Nat) (hg : g = w.heap.size) (cs : Array Value) (t : TypeId) (xs : List Value) (h : cs.toList = xs) : ∀ j u, xs[j]? = some u → (w.alloc (.cells cs t)).cell? ((⟨g, 0, none⟩ : Addr).add j) = some u := by
  subst hg; exact new_cells w cs t xs h
theorem BoxB.made (w : World) (i : Ins) (b : Blk) (t t' : TypeId) : BoxB ((w.alloc (.cells #[.int .i64 i.op, .int .i64 i.d, .int .i64 i.a, .int .i64 i.b, .int .i64 i.imm] t)).alloc (.cells #[.int .i64 b.from_, .int .i64 b.to, .int .i64 b.next, .int .i64 b.taken, .slice none 0 0, .slice none 0 0] t')) w.heap.size i b := by
  refine ⟨by simp, ?_, ?_, ?_, ?_, ?_, ?_, ?_, ?_, ?_, ?_, ?_, ?_, ?_⟩ <;> go_simp

/-- The two rows that a round keeps. -/
structure RowsB (x : World) (B : Nat) (vl : Value) (L : List Nat) (vo : Value) (k : Nat) (bs : List Blk) : Prop where
  lead : x.ownsRow B 3 1 vl L.length (natL L)
  out : x.ownsRow B 24 6 vo k (flat blkL bs)
theorem RowsB.below {x y : World} {B : Nat} {vl vo : Value} {L : List Nat} {k : Nat} {bs : List Blk} (h : RowsB x B vl L vo k bs) (hb : Below x.heap.size x y) : RowsB y B vl L vo k bs := ⟨own_below h.lead hb, own_below h.out hb⟩
theorem RowsB.set {x : World} {B : Nat} {vl vo : Value} {L : List Nat} {k : Nat} {bs : List Blk} (h : RowsB x B vl L vo k bs) {g o : Nat} (u : Value) (h1 : vl.ownBlock ≠ some g) (h2 : vo.ownBlock ≠ some g) : RowsB (x.setCell ⟨g, o, none⟩ u) B vl L vo k bs :=
  ⟨ownsRow_setCell_other h.lead h1 u, ownsRow_setCell_other h.out h2 u⟩
theorem RowsB.alloc {x : World} {B : Nat} {vl vo : Value} {L : List Nat} {k : Nat} {bs : List Blk} (h : RowsB x B vl L vo k bs) (o : Obj) : RowsB (x.alloc o) B vl L vo k bs := ⟨h.lead.alloc o, h.out.alloc o⟩
theorem RowsB.drewN {x : World} {B : Nat} {vl vo : Value} {L : List Nat} {k : Nat} {bs : List Blk} (h : RowsB x B vl L vo k bs) (q : Nat) : RowsB (x.drewN q) B vl L vo k bs := ⟨h.lead, h.out⟩

/-- What holds ahead of each round. -/
structure RoundB (l : List Ins) (W wr : World) (B : Nat) (vl : Value) (L : List Nat) (k : Nat) (v : Value) : Prop where
  kept : Kept W wr
  rows : RowsB wr B vl L v k (cutTo l L k)

set_option maxHeartbeats 4000000 in
theorem blkCut_any (A : Option Addr) (c : Nat) (sz : Int) (A' : Option Addr) (m c' : Nat) (l : List Ins) (w : World) (hr : Row w w.heap.size 5 (.slice A l.length c) l.length (codeCells l)) (hm : m ≤ c') (hc' : c' ≤ 9223372036854775807) :
    Calls Tryz.prog 42 #[.agg #[.slice A l.length c, .int .i64 sz, .slice A' m c']] w fun e w' => ∃ v, e = .returned v ∧ w'.ownsRow w.heap.size 24 6 v (cutR l sz m).length (flat blkL (cutR l sz m)) ∧ Below w.heap.size w w' := by
  obtain ⟨i0, hi, hz0, hz1, hz2⟩ := info_parts info_block
  have HZ2 := Lib.hid hz2
  clear hz2
  obtain ⟨hcl, hcm⟩ := hr.cap
  have HK := Lib.hid (fun (x : World) (h : Kept (w.alloc (.cells #[.slice A l.length c, .int .i64 sz, .slice A' m c'] 28)) x) => ((Below.refl w.heap.size w).alloc (Nat.le_refl _) _).trans (h.mono (by simp)))
  have hB : w.heap.size < (w.alloc (.cells #[.slice A l.length c, .int .i64 sz, .slice A' m c'] 28)).heap.size := by simp
  have HR := Lib.hid (hr.alloc (Nat.le_refl _) (.cells #[.slice A l.length c, .int .i64 sz, .slice A' m c'] 28) |>.more (Nat.le_of_lt hB))
  have c0 : (w.alloc (.cells #[.slice A l.length c, .int .i64 sz, .slice A' m c'] 28)).cell? ⟨w.heap.size, 0, none⟩ = some (.slice A l.length c) := by go_simp
  have hw0 : (w.alloc (.cells #[.slice A l.length c, .int .i64 sz, .slice A' m c'] 28)).heap.size = w.heap.size + 1 := by simp
  have HCR := Lib.hid (cutR_eq l sz m)
  have HLS := Lib.hid (leadsR_sorted l sz m)
  have HLT := Lib.hid (fun x h => leadsR_lt (l := l) (sz := sz) (m := m) (x := x) h)
  have HRP := Lib.hid (fun h => rightZ_parts (l := l) (sz := sz) (m := m) h)
  have HLN := Lib.hid (fun (h : leadsR l sz m ≠ []) => (show rightZ l sz m = true by
    cases hh : rightZ l sz m
    · exact absurd (by unfold leadsR; rw [hh]; rfl) h
    · rfl))
  go_enter Tryz.func42, Tryz.ntmps42
  go_wp2_with fail
  generalize w.alloc (.cells #[.slice A l.length c, .int .i64 sz, .slice A' m c'] 28) = W at *
  have C0 := Lib.hid (fun (x : World) (h : Kept W x) => h.cell hB c0)
  have HX := Lib.hid (blkLeaders_any A c sz A' m c' l W HR.out hm hc')
  clear c0 hr
  refine HX.out.mono ?_; rintro e w1 ⟨vl, rfl, hown, hb1⟩
  have k1 : Kept W w1 := hb1
  have hs1 := hb1.size
  clear hb1 HX
  generalize hLL : leadsR l sz m = L at *
  have HLLE := Lib.hid (show L.length ≤ l.length by rw [← hLL]; exact leadsR_le l sz m)
  clear hLL
  by_cases hL0 : L.length = 0
  · have hL : L = [] := List.eq_nil_of_length_eq_zero hL0
    subst hL
    obtain ⟨AL, cl, rfl⟩ := (Row.of_own hown).form
    go_wp2_with fail
    refine wp_loop_rounds 1 ?_
    rw [rounds_succ]
    go_wp2_with fail
    go_ret
    rw [HCR.out]
    exact ⟨_, rfl, World.ownsRow_nil _ _ _ _, HK.out _ k1⟩
  obtain ⟨g, cl, rfl, hgb, hgs⟩ := own_form hown hL0
  have hri := HLN.out (fun h => hL0 (by rw [h]; rfl))
  obtain ⟨⟨n0, n1⟩, hto⟩ := HRP.out hri
  have HT := Lib.hid (fun (j : Nat) (i : Ins) (h : l[j]? = some i) (hj : isJump i = true) => (by have := target_in hto h hj; simpa using this : 0 ≤ (j : Int) + i.imm ∧ (j : Int) + i.imm < l.length))
  have HA := Lib.hid (fun j h => at_some (l := l) (j := j) h)
  have hn0 : l.length ≠ 0 := by omega
  obtain ⟨b, off, rfl, hbb, _⟩ := HR.out.at_ hn0
  have HC := Lib.hid (fun (x : World) (h : Kept W x) (k : Nat) (i : Ins) (hi : l[k]? = some i) => (h.row HR.out).ins hi)
  have HBT := Lib.hid (fun (k : Nat) (hk : k < L.length) => blkTo_range (n := l.length) HLS.out (fun x hx => HLT.out x hx) hk)
  have HLB := Lib.hid (fun (k : Nat) (hk : k < L.length) => HLT.out _ (leadD_mem hk))
  have hLle := HLLE.out
  have HNA := Lib.hid (fun (x : World) (y : Int) (h : x.ownsRow W.heap.size 3 1 (.slice (some ⟨g, 0, none⟩) L.length cl) L.length (natL L)) => numberAt_any g 0 cl L y x (Row.of_own h) HLS.out (by omega))
  have HTO := Lib.hid (fun (k : Nat) (h : k + 1 < L.length) => (show blkToZ L l.length k = L.getD (k + 1) 0 by unfold blkToZ; rw [if_pos h]))
  have HTN := Lib.hid (fun (k : Nat) (h : ¬ k + 1 < L.length) => (show blkToZ L l.length k = l.length by unfold blkToZ; rw [if_neg h]))
  have HLC := Lib.hid (fun (x : World) (h : x.ownsRow W.heap.size 3 1 (.slice (some ⟨g, 0, none⟩) L.length cl) L.length (natL L)) (k : Nat) (hk : k < L.length) => (h.cellAt k (by rw [Nat.mul_one]; exact hk)).trans (natL_get hk))
  have HCS := Lib.hid (fun (k : Nat) => cutTo_succ l L k)
  have HCL := Lib.hid (fun (k : Nat) => cutTo_len l L k)
  have HBK := Lib.hid (fun (k : Nat) => (show blkZ l L k = ⟨(L.getD k 0 : Nat), (blkToZ L l.length k : Nat), if goesB (insAtZ l (blkToZ L l.length k - 1)) = true then numZ L (blkToZ L l.length k : Nat) else -1,
    if isJump (insAtZ l (blkToZ L l.length k - 1)) = true then numZ L ((blkToZ L l.length k : Nat) - 1 + (insAtZ l (blkToZ L l.length k - 1)).imm) else -1⟩ from rfl))
  have HIA := Lib.hid (fun (j : Nat) (i : Ins) (h : l[j]? = some i) => (show insAtZ l j = i by unfold insAtZ; rw [List.getD_eq_getElem?_getD, h]; rfl))
  have hP : RoundB l W w1 W.heap.size (.slice (some ⟨g, 0, none⟩) L.length cl) L 0 (.slice none 0 0) := ⟨k1, hown, World.ownsRow_nil _ _ _ _⟩
  have hWw : w.heap.size < W.heap.size := by omega
  clear HR hto HRP hri hown HLN HLT HLS hw0
  go_wp2_with fail
  generalize hN : L.length = n at *
  have HN := Lib.hid hN
  clear hN k1
  go_loopw [4, 14] (fun v i wr => ∃ k : Nat, k ≤ n ∧ i = .int .i64 k ∧ RoundB l W wr W.heap.size (.slice (some ⟨g, 0, none⟩) n cl) L k v) (fun _ i _ => n - (intOf i).toNat)
  case atStart => exact ⟨0, Nat.zero_le _, rfl, hP⟩
  case round =>
    obtain ⟨k, hkn, rfl, hK⟩ := hrel
    have hk := hK.kept
    have HRW := Lib.hid hK.rows
    clear hK hP
    have hwr := hk.size
    by_cases hlt : k < n
    · obtain ⟨r0, r1⟩ := HBT.out k hlt
      have hlead := HRW.out.lead
      rw [HN.out] at hlead
      have e0 := HLC.out _ hlead k hlt
      have hLk := HLB.out k hlt
      have HBKk := Lib.hid (HBK.out k)
      have HTOk := Lib.hid (HTO.out k)
      have HTNk := Lib.hid (HTN.out k)
      have HLCk := Lib.hid (HLC.out _ hlead)
      clear hlead
      obtain ⟨TO, hTO⟩ : ∃ TO, TO = blkToZ L l.length k := ⟨_, rfl⟩
      rw [← hTO] at r0 r1 HBKk HTOk HTNk
      obtain ⟨FR, hFR⟩ : ∃ FR, FR = L.getD k 0 := ⟨_, rfl⟩
      rw [← hFR] at r0 e0 hLk HBKk
      clear hTO hFR
      obtain ⟨P, rfl⟩ : ∃ P : Nat, TO = P + 1 := ⟨TO - 1, by omega⟩
      obtain ⟨i, hi2⟩ := HA.out P (by omega)
      rw [Nat.add_sub_cancel, HIA.out P i hi2] at HBKk
      have HTT := Lib.hid (HT.out P i hi2)
      obtain ⟨d0, d1, d2, d3, d4⟩ := HC.out _ hk P i hi2
      have c0 := C0.out _ hk
      have j0 : (0 : Int) ≤ k := by omega
      have j1 : (k : Int) < n := by omega
      have p0 : (0 : Int) ≤ P := by omega
      have p1 : (P : Int) < l.length := by omega
      have BX := Lib.hid (BoxB.made wr i ⟨FR, (P : Int) + 1, -1, -1⟩ 44 24)
      have RW0 := Lib.hid ((HRW.out.alloc (.cells #[.int .i64 i.op, .int .i64 i.d, .int .i64 i.a, .int .i64 i.b, .int .i64 i.imm] 44)).alloc (.cells #[.int .i64 FR, .int .i64 ((P : Int) + 1), .int .i64 (-1), .int .i64 (-1), .slice none 0 0, .slice none 0 0] 24))
      have kYH := Lib.hid ((hk.alloc (.cells #[.int .i64 i.op, .int .i64 i.d, .int .i64 i.a, .int .i64 i.b, .int .i64 i.imm] 44)).alloc (.cells #[.int .i64 FR, .int .i64 ((P : Int) + 1), .int .i64 (-1), .int .i64 (-1), .slice none 0 0, .slice none 0 0] 24))
      have hnl := Lib.hid (fun q (h : wr.heap.size ≤ q) => (show (Value.slice (some ⟨g, 0, none⟩) n cl).ownBlock ≠ some q from fun e => by have := (HRW.out.lead.lt q e).2; omega))
      have hno := Lib.hid (fun q (h : wr.heap.size ≤ q) e => (show False by have := (HRW.out.out.lt q e).2; omega))
      clear hi2 HRW
      by_cases hk1 : k + 1 < n
      · have e1 := HLCk.out (k + 1) hk1
        have hTOe := HTOk.out hk1
        rw [← hTOe, Int.natCast_add, Int.natCast_one] at e1
        have j2 : (k : Int) + 1 < n := by omega
        clear hTOe
        go_wp2_with fail
        refine (blkGoes_any i _).mono ?_; rintro e x1 ⟨rfl, hb1⟩
        have BX1 := Lib.hid (BX.out.below hb1)
        have RW1 := Lib.hid (RW0.out.below hb1)
        have k1 := Lib.hid (kYH.out.to hb1)
        clear hb1
        obtain ⟨_, a0, a1, a2, a3, a4, u0, u1, u2, u3, u4, u5, f2, f3⟩ := BX1.out
        cases hgo : goesB i
        · go_wp2_with fail
          refine (blkHas_any i _).mono ?_; rintro e x3 ⟨rfl, hb3⟩
          have BX3 := Lib.hid (BX1.out.below hb3)
          have RW3 := Lib.hid (RW1.out.below hb3)
          have k3 := Lib.hid (k1.out.to hb3)
          clear hb3 a0 a1 a2 a3 a4 u0 u1 u2 u3 u4 u5 f2 f3
          cases hju : isJump i
          · clear HTT
            obtain ⟨_, a0, a1, a2, a3, a4, u0, u1, u2, u3, u4, u5, f2, f3⟩ := BX3.out
            have hbs := Lib.hid (show blkZ l L k = ⟨FR, (P : Int) + 1, -1, -1⟩ by rw [HBKk.out]; simp [hgo, hju])
            have hwz := Lib.hid (show W.heap.size ≤ x3.heap.size from k3.out.size)
            go_wp2_with (at_builtin; refine wpList_append_own _ rfl (.tmp 57) (.tmp 59) 29 rfl W.heap.size 24 i0 (.agg #[.int .i64 0, .int .i64 0, .int .i64 0, .int .i64 0, .slice none 0 0, .slice none 0 0]) 6 80 Tryz.underlying29 hi hz0 hz1 HZ2.out rfl (by omega) _ k (flat blkL (cutTo l L k)) rfl (RW3.out.out.alloc _) _ 1 1 (blkL ⟨FR, (P : Int) + 1, -1, -1⟩) rfl rfl (new_cells_at _ _ (by simp) _ _ _ rfl) (blkL_one _) (by unfold maxLen; omega) (by omega) (by have := hwz.out; simp at this ⊢; omega) ?_; intro v2 x5 hO5 hg5 _)
            have k5 : Kept W x5 := Below.grown (k3.out.alloc _) hg5 (by have := hwz.out; simp at this ⊢; omega) (fun q hq => (RW3.out.out.lt q hq).1)
            have hL5 := own_grown (RW3.out.lead.alloc _) hg5 (fun q hq => by rw [← hq]; exact own_apart RW3.out.lead RW3.out.out (by decide) hq)
            clear hg5
            go_roundw
            case rel =>
              refine ⟨k + 1, by omega, by go_num, k5, hL5, ?_⟩
              rw [HCS.out, flat_snoc, hbs.out]
              exact hO5
            case measure => simp [intOf]; omega
          · obtain ⟨t0, t1⟩ := HTT.out hju
            obtain ⟨_, a0, a1, a2, a3, a4, u0, u1, u2, u3, u4, u5, f2, f3⟩ := BX3.out
            have hl9 := RW3.out.lead
            rw [HN.out] at hl9
            have HNX := Lib.hid (HNA.out _ ((P : Int) + i.imm) hl9)
            clear hl9
            go_wp2_with fail
            refine HNX.out.mono ?_; rintro e x4 ⟨rfl, q4, rfl⟩
            have BX4 := Lib.hid ((BX3.out.drewN q4).takenTo (numZ L ((P : Int) + i.imm)))
            have RW4 := Lib.hid ((RW3.out.drewN q4).set (g := wr.heap.size + 1) (o := 3) (.int .i64 (numZ L ((P : Int) + i.imm))) (hnl.out _ (by omega)) (fun e => hno.out _ (by omega) e))
            have k4 := Lib.hid (Kept.set (k3.out.drewN q4) (g := wr.heap.size + 1) (o := 3) (by omega) (.int .i64 (numZ L ((P : Int) + i.imm))))
            have hbs := Lib.hid (show blkZ l L k = ⟨FR, (P : Int) + 1, -1, numZ L ((P : Int) + i.imm)⟩ by rw [HBKk.out]; simp [hgo, hju])
            have hwz := Lib.hid (show W.heap.size ≤ x3.heap.size from k3.out.size)
            go_wp2_with (at_builtin; refine wpList_append_own _ rfl (.tmp 57) (.tmp 59) 29 rfl W.heap.size 24 i0 (.agg #[.int .i64 0, .int .i64 0, .int .i64 0, .int .i64 0, .slice none 0 0, .slice none 0 0]) 6 80 Tryz.underlying29 hi hz0 hz1 HZ2.out rfl (by omega) _ k (flat blkL (cutTo l L k)) rfl (RW4.out.out.alloc _) _ 1 1 (blkL ⟨FR, (P : Int) + 1, -1, numZ L ((P : Int) + i.imm)⟩) rfl rfl (new_cells_at _ _ (by simp) _ _ _ rfl) (blkL_one _) (by unfold maxLen; omega) (by omega) (by have := hwz.out; simp at this ⊢; omega) ?_; intro v2 x5 hO5 hg5 _)
            have k5 : Kept W x5 := Below.grown (Kept.alloc k4.out _) hg5 (by have := hwz.out; simp at this ⊢; omega) (fun q hq => (RW4.out.out.lt q hq).1)
            have hL5 := own_grown (RW4.out.lead.alloc _) hg5 (fun q hq => by rw [← hq]; exact own_apart RW4.out.lead RW4.out.out (by decide) hq)
            clear hg5
            go_roundw
            case rel =>
              refine ⟨k + 1, by omega, by go_num, k5, hL5, ?_⟩
              rw [HCS.out, flat_snoc, hbs.out]
              exact hO5
            case measure => simp [intOf]; omega
        · have hl9 := RW1.out.lead
          rw [HN.out] at hl9
          have HNX := Lib.hid (HNA.out _ ((P : Int) + 1) hl9)
          clear hl9
          go_wp2_with fail
          refine HNX.out.mono ?_; rintro e x2 ⟨rfl, q2, rfl⟩
          have BX2 := Lib.hid ((BX1.out.drewN q2).nextTo (numZ L ((P : Int) + 1)))
          have RW2 := Lib.hid ((RW1.out.drewN q2).set (g := wr.heap.size + 1) (o := 2) (.int .i64 (numZ L ((P : Int) + 1))) (hnl.out _ (by omega)) (fun e => hno.out _ (by omega) e))
          have k2 := Lib.hid (Kept.set (k1.out.drewN q2) (g := wr.heap.size + 1) (o := 2) (by omega) (.int .i64 (numZ L ((P : Int) + 1))))
          go_wp2_with fail
          refine (blkHas_any i _).mono ?_; rintro e x3 ⟨rfl, hb3⟩
          have BX3 := Lib.hid (BX2.out.below hb3)
          have RW3 := Lib.hid (RW2.out.below hb3)
          have k3 := Lib.hid (Kept.to k2.out hb3)
          clear hb3 a0 a1 a2 a3 a4 u0 u1 u2 u3 u4 u5 f2 f3 BX2 RW2 k2
          cases hju : isJump i
          · clear HTT
            obtain ⟨_, a0, a1, a2, a3, a4, u0, u1, u2, u3, u4, u5, f2, f3⟩ := BX3.out
            have hbs := Lib.hid (show blkZ l L k = ⟨FR, (P : Int) + 1, numZ L ((P : Int) + 1), -1⟩ by rw [HBKk.out]; simp [hgo, hju])
            have hwz := Lib.hid (show W.heap.size ≤ x3.heap.size from k3.out.size)
            go_wp2_with (at_builtin; refine wpList_append_own _ rfl (.tmp 57) (.tmp 59) 29 rfl W.heap.size 24 i0 (.agg #[.int .i64 0, .int .i64 0, .int .i64 0, .int .i64 0, .slice none 0 0, .slice none 0 0]) 6 80 Tryz.underlying29 hi hz0 hz1 HZ2.out rfl (by omega) _ k (flat blkL (cutTo l L k)) rfl (RW3.out.out.alloc _) _ 1 1 (blkL ⟨FR, (P : Int) + 1, numZ L ((P : Int) + 1), -1⟩) rfl rfl (new_cells_at _ _ (by simp) _ _ _ rfl) (blkL_one _) (by unfold maxLen; omega) (by omega) (by have := hwz.out; simp at this ⊢; omega) ?_; intro v2 x5 hO5 hg5 _)
            have k5 : Kept W x5 := Below.grown (k3.out.alloc _) hg5 (by have := hwz.out; simp at this ⊢; omega) (fun q hq => (RW3.out.out.lt q hq).1)
            have hL5 := own_grown (RW3.out.lead.alloc _) hg5 (fun q hq => by rw [← hq]; exact own_apart RW3.out.lead RW3.out.out (by decide) hq)
            clear hg5
            go_roundw
            case rel =>
              refine ⟨k + 1, by omega, by go_num, k5, hL5, ?_⟩
              rw [HCS.out, flat_snoc, hbs.out]
              exact hO5
            case measure => simp [intOf]; omega
          · obtain ⟨t0, t1⟩ := HTT.out hju
            obtain ⟨_, a0, a1, a2, a3, a4, u0, u1, u2, u3, u4, u5, f2, f3⟩ := BX3.out
            have hl9 := RW3.out.lead
            rw [HN.out] at hl9
            have HNX := Lib.hid (HNA.out _ ((P : Int) + i.imm) hl9)
            clear hl9
            go_wp2_with fail
            refine HNX.out.mono ?_; rintro e x4 ⟨rfl, q4, rfl⟩
            have BX4 := Lib.hid ((BX3.out.drewN q4).takenTo (numZ L ((P : Int) + i.imm)))
            have RW4 := Lib.hid ((RW3.out.drewN q4).set (g := wr.heap.size + 1) (o := 3) (.int .i64 (numZ L ((P : Int) + i.imm))) (hnl.out _ (by omega)) (fun e => hno.out _ (by omega) e))
            have k4 := Lib.hid (Kept.set (k3.out.drewN q4) (g := wr.heap.size + 1) (o := 3) (by omega) (.int .i64 (numZ L ((P : Int) + i.imm))))
            have hbs := Lib.hid (show blkZ l L k = ⟨FR, (P : Int) + 1, numZ L ((P : Int) + 1), numZ L ((P : Int) + i.imm)⟩ by rw [HBKk.out]; simp [hgo, hju])
            have hwz := Lib.hid (show W.heap.size ≤ x3.heap.size from k3.out.size)
            go_wp2_with (at_builtin; refine wpList_append_own _ rfl (.tmp 57) (.tmp 59) 29 rfl W.heap.size 24 i0 (.agg #[.int .i64 0, .int .i64 0, .int .i64 0, .int .i64 0, .slice none 0 0, .slice none 0 0]) 6 80 Tryz.underlying29 hi hz0 hz1 HZ2.out rfl (by omega) _ k (flat blkL (cutTo l L k)) rfl (RW4.out.out.alloc _) _ 1 1 (blkL ⟨FR, (P : Int) + 1, numZ L ((P : Int) + 1), numZ L ((P : Int) + i.imm)⟩) rfl rfl (new_cells_at _ _ (by simp) _ _ _ rfl) (blkL_one _) (by unfold maxLen; omega) (by omega) (by have := hwz.out; simp at this ⊢; omega) ?_; intro v2 x5 hO5 hg5 _)
            have k5 : Kept W x5 := Below.grown (Kept.alloc k4.out _) hg5 (by have := hwz.out; simp at this ⊢; omega) (fun q hq => (RW4.out.out.lt q hq).1)
            have hL5 := own_grown (RW4.out.lead.alloc _) hg5 (fun q hq => by rw [← hq]; exact own_apart RW4.out.lead RW4.out.out (by decide) hq)
            clear hg5
            go_roundw
            case rel =>
              refine ⟨k + 1, by omega, by go_num, k5, hL5, ?_⟩
              rw [HCS.out, flat_snoc, hbs.out]
              exact hO5
            case measure => simp [intOf]; omega
      · have hTOe := HTNk.out hk1
        have hTOi : (l.length : Int) = (P : Int) + 1 := by omega
        have j2 : ¬ (k : Int) + 1 < n := by omega
        clear hTOe
        go_wp2_with fail
        refine (blkGoes_any i _).mono ?_; rintro e x1 ⟨rfl, hb1⟩
        have BX1 := Lib.hid (BX.out.below hb1)
        have RW1 := Lib.hid (RW0.out.below hb1)
        have k1 := Lib.hid (kYH.out.to hb1)
        clear hb1
        obtain ⟨_, a0, a1, a2, a3, a4, u0, u1, u2, u3, u4, u5, f2, f3⟩ := BX1.out
        cases hgo : goesB i
        · go_wp2_with fail
          refine (blkHas_any i _).mono ?_; rintro e x3 ⟨rfl, hb3⟩
          have BX3 := Lib.hid (BX1.out.below hb3)
          have RW3 := Lib.hid (RW1.out.below hb3)
          have k3 := Lib.hid (k1.out.to hb3)
          clear hb3 a0 a1 a2 a3 a4 u0 u1 u2 u3 u4 u5 f2 f3
          cases hju : isJump i
          · clear HTT
            obtain ⟨_, a0, a1, a2, a3, a4, u0, u1, u2, u3, u4, u5, f2, f3⟩ := BX3.out
            have hbs := Lib.hid (show blkZ l L k = ⟨FR, (P : Int) + 1, -1, -1⟩ by rw [HBKk.out]; simp [hgo, hju])
            have hwz := Lib.hid (show W.heap.size ≤ x3.heap.size from k3.out.size)
            go_wp2_with (at_builtin; refine wpList_append_own _ rfl (.tmp 57) (.tmp 59) 29 rfl W.heap.size 24 i0 (.agg #[.int .i64 0, .int .i64 0, .int .i64 0, .int .i64 0, .slice none 0 0, .slice none 0 0]) 6 80 Tryz.underlying29 hi hz0 hz1 HZ2.out rfl (by omega) _ k (flat blkL (cutTo l L k)) rfl (RW3.out.out.alloc _) _ 1 1 (blkL ⟨FR, (P : Int) + 1, -1, -1⟩) rfl rfl (new_cells_at _ _ (by simp) _ _ _ rfl) (blkL_one _) (by unfold maxLen; omega) (by omega) (by have := hwz.out; simp at this ⊢; omega) ?_; intro v2 x5 hO5 hg5 _)
            have k5 : Kept W x5 := Below.grown (k3.out.alloc _) hg5 (by have := hwz.out; simp at this ⊢; omega) (fun q hq => (RW3.out.out.lt q hq).1)
            have hL5 := own_grown (RW3.out.lead.alloc _) hg5 (fun q hq => by rw [← hq]; exact own_apart RW3.out.lead RW3.out.out (by decide) hq)
            clear hg5
            go_roundw
            case rel =>
              refine ⟨k + 1, by omega, by go_num, k5, hL5, ?_⟩
              rw [HCS.out, flat_snoc, hbs.out]
              exact hO5
            case measure => simp [intOf]; omega
          · obtain ⟨t0, t1⟩ := HTT.out hju
            obtain ⟨_, a0, a1, a2, a3, a4, u0, u1, u2, u3, u4, u5, f2, f3⟩ := BX3.out
            have hl9 := RW3.out.lead
            rw [HN.out] at hl9
            have HNX := Lib.hid (HNA.out _ ((P : Int) + i.imm) hl9)
            clear hl9
            go_wp2_with fail
            refine HNX.out.mono ?_; rintro e x4 ⟨rfl, q4, rfl⟩
            have BX4 := Lib.hid ((BX3.out.drewN q4).takenTo (numZ L ((P : Int) + i.imm)))
            have RW4 := Lib.hid ((RW3.out.drewN q4).set (g := wr.heap.size + 1) (o := 3) (.int .i64 (numZ L ((P : Int) + i.imm))) (hnl.out _ (by omega)) (fun e => hno.out _ (by omega) e))
            have k4 := Lib.hid (Kept.set (k3.out.drewN q4) (g := wr.heap.size + 1) (o := 3) (by omega) (.int .i64 (numZ L ((P : Int) + i.imm))))
            have hbs := Lib.hid (show blkZ l L k = ⟨FR, (P : Int) + 1, -1, numZ L ((P : Int) + i.imm)⟩ by rw [HBKk.out]; simp [hgo, hju])
            have hwz := Lib.hid (show W.heap.size ≤ x3.heap.size from k3.out.size)
            go_wp2_with (at_builtin; refine wpList_append_own _ rfl (.tmp 57) (.tmp 59) 29 rfl W.heap.size 24 i0 (.agg #[.int .i64 0, .int .i64 0, .int .i64 0, .int .i64 0, .slice none 0 0, .slice none 0 0]) 6 80 Tryz.underlying29 hi hz0 hz1 HZ2.out rfl (by omega) _ k (flat blkL (cutTo l L k)) rfl (RW4.out.out.alloc _) _ 1 1 (blkL ⟨FR, (P : Int) + 1, -1, numZ L ((P : Int) + i.imm)⟩) rfl rfl (new_cells_at _ _ (by simp) _ _ _ rfl) (blkL_one _) (by unfold maxLen; omega) (by omega) (by have := hwz.out; simp at this ⊢; omega) ?_; intro v2 x5 hO5 hg5 _)
            have k5 : Kept W x5 := Below.grown (Kept.alloc k4.out _) hg5 (by have := hwz.out; simp at this ⊢; omega) (fun q hq => (RW4.out.out.lt q hq).1)
            have hL5 := own_grown (RW4.out.lead.alloc _) hg5 (fun q hq => by rw [← hq]; exact own_apart RW4.out.lead RW4.out.out (by decide) hq)
            clear hg5
            go_roundw
            case rel =>
              refine ⟨k + 1, by omega, by go_num, k5, hL5, ?_⟩
              rw [HCS.out, flat_snoc, hbs.out]
              exact hO5
            case measure => simp [intOf]; omega
        · have hl9 := RW1.out.lead
          rw [HN.out] at hl9
          have HNX := Lib.hid (HNA.out _ ((P : Int) + 1) hl9)
          clear hl9
          go_wp2_with fail
          refine HNX.out.mono ?_; rintro e x2 ⟨rfl, q2, rfl⟩
          have BX2 := Lib.hid ((BX1.out.drewN q2).nextTo (numZ L ((P : Int) + 1)))
          have RW2 := Lib.hid ((RW1.out.drewN q2).set (g := wr.heap.size + 1) (o := 2) (.int .i64 (numZ L ((P : Int) + 1))) (hnl.out _ (by omega)) (fun e => hno.out _ (by omega) e))
          have k2 := Lib.hid (Kept.set (k1.out.drewN q2) (g := wr.heap.size + 1) (o := 2) (by omega) (.int .i64 (numZ L ((P : Int) + 1))))
          go_wp2_with fail
          refine (blkHas_any i _).mono ?_; rintro e x3 ⟨rfl, hb3⟩
          have BX3 := Lib.hid (BX2.out.below hb3)
          have RW3 := Lib.hid (RW2.out.below hb3)
          have k3 := Lib.hid (Kept.to k2.out hb3)
          clear hb3 a0 a1 a2 a3 a4 u0 u1 u2 u3 u4 u5 f2 f3 BX2 RW2 k2
          cases hju : isJump i
          · clear HTT
            obtain ⟨_, a0, a1, a2, a3, a4, u0, u1, u2, u3, u4, u5, f2, f3⟩ := BX3.out
            have hbs := Lib.hid (show blkZ l L k = ⟨FR, (P : Int) + 1, numZ L ((P : Int) + 1), -1⟩ by rw [HBKk.out]; simp [hgo, hju])
            have hwz := Lib.hid (show W.heap.size ≤ x3.heap.size from k3.out.size)
            go_wp2_with (at_builtin; refine wpList_append_own _ rfl (.tmp 57) (.tmp 59) 29 rfl W.heap.size 24 i0 (.agg #[.int .i64 0, .int .i64 0, .int .i64 0, .int .i64 0, .slice none 0 0, .slice none 0 0]) 6 80 Tryz.underlying29 hi hz0 hz1 HZ2.out rfl (by omega) _ k (flat blkL (cutTo l L k)) rfl (RW3.out.out.alloc _) _ 1 1 (blkL ⟨FR, (P : Int) + 1, numZ L ((P : Int) + 1), -1⟩) rfl rfl (new_cells_at _ _ (by simp) _ _ _ rfl) (blkL_one _) (by unfold maxLen; omega) (by omega) (by have := hwz.out; simp at this ⊢; omega) ?_; intro v2 x5 hO5 hg5 _)
            have k5 : Kept W x5 := Below.grown (k3.out.alloc _) hg5 (by have := hwz.out; simp at this ⊢; omega) (fun q hq => (RW3.out.out.lt q hq).1)
            have hL5 := own_grown (RW3.out.lead.alloc _) hg5 (fun q hq => by rw [← hq]; exact own_apart RW3.out.lead RW3.out.out (by decide) hq)
            clear hg5
            go_roundw
            case rel =>
              refine ⟨k + 1, by omega, by go_num, k5, hL5, ?_⟩
              rw [HCS.out, flat_snoc, hbs.out]
              exact hO5
            case measure => simp [intOf]; omega
          · obtain ⟨t0, t1⟩ := HTT.out hju
            obtain ⟨_, a0, a1, a2, a3, a4, u0, u1, u2, u3, u4, u5, f2, f3⟩ := BX3.out
            have hl9 := RW3.out.lead
            rw [HN.out] at hl9
            have HNX := Lib.hid (HNA.out _ ((P : Int) + i.imm) hl9)
            clear hl9
            go_wp2_with fail
            refine HNX.out.mono ?_; rintro e x4 ⟨rfl, q4, rfl⟩
            have BX4 := Lib.hid ((BX3.out.drewN q4).takenTo (numZ L ((P : Int) + i.imm)))
            have RW4 := Lib.hid ((RW3.out.drewN q4).set (g := wr.heap.size + 1) (o := 3) (.int .i64 (numZ L ((P : Int) + i.imm))) (hnl.out _ (by omega)) (fun e => hno.out _ (by omega) e))
            have k4 := Lib.hid (Kept.set (k3.out.drewN q4) (g := wr.heap.size + 1) (o := 3) (by omega) (.int .i64 (numZ L ((P : Int) + i.imm))))
            have hbs := Lib.hid (show blkZ l L k = ⟨FR, (P : Int) + 1, numZ L ((P : Int) + 1), numZ L ((P : Int) + i.imm)⟩ by rw [HBKk.out]; simp [hgo, hju])
            have hwz := Lib.hid (show W.heap.size ≤ x3.heap.size from k3.out.size)
            go_wp2_with (at_builtin; refine wpList_append_own _ rfl (.tmp 57) (.tmp 59) 29 rfl W.heap.size 24 i0 (.agg #[.int .i64 0, .int .i64 0, .int .i64 0, .int .i64 0, .slice none 0 0, .slice none 0 0]) 6 80 Tryz.underlying29 hi hz0 hz1 HZ2.out rfl (by omega) _ k (flat blkL (cutTo l L k)) rfl (RW4.out.out.alloc _) _ 1 1 (blkL ⟨FR, (P : Int) + 1, numZ L ((P : Int) + 1), numZ L ((P : Int) + i.imm)⟩) rfl rfl (new_cells_at _ _ (by simp) _ _ _ rfl) (blkL_one _) (by unfold maxLen; omega) (by omega) (by have := hwz.out; simp at this ⊢; omega) ?_; intro v2 x5 hO5 hg5 _)
            have k5 : Kept W x5 := Below.grown (Kept.alloc k4.out _) hg5 (by have := hwz.out; simp at this ⊢; omega) (fun q hq => (RW4.out.out.lt q hq).1)
            have hL5 := own_grown (RW4.out.lead.alloc _) hg5 (fun q hq => by rw [← hq]; exact own_apart RW4.out.lead RW4.out.out (by decide) hq)
            clear hg5
            go_roundw
            case rel =>
              refine ⟨k + 1, by omega, by go_num, k5, hL5, ?_⟩
              rw [HCS.out, flat_snoc, hbs.out]
              exact hO5
            case measure => simp [intOf]; omega
    · have hkn2 : k = n := by omega
      subst hkn2
      go_wp2_with fail
      go_ret
      have hout := HRW.out.out
      rw [HCR.out]
      exact ⟨_, rfl, by rw [HCL.out]; exact own_base hout (by omega), HK.out _ hk⟩
end Go.Proofs.YteagglddgkjkmaaGreat.Words

/- A split as plain data: its blocks with their cells, its owners; what its value reads as. -/
namespace Go.Proofs.YteagglddgkjkmaaGreat.Words
set_option maxRecDepth 100000
open Go.RowKit
set_option linter.unusedVariables false

/-- A block with its cells. -/
structure BlkC where
  from_ : Int
  to : Int
  next : Int
  taken : Int
  a : List Cel
  e : List Cel
deriving DecidableEq
/-- A block's six cells in memory. -/
structure BlkR where
  from_ : Int
  to : Int
  next : Int
  taken : Int
  va : Value
  ve : Value
def blkRL (r : BlkR) : List Value := [.int .i64 r.from_, .int .i64 r.to, .int .i64 r.next, .int .i64 r.taken, r.va, r.ve]
theorem blkRL_len (r : BlkR) : (blkRL r).length = 6 := rfl
/-- What a block's cells in memory read as. -/
structure BlkV (w : World) (B : Nat) (r : BlkR) (c : BlkC) : Prop where
  from_ : r.from_ = c.from_
  to : r.to = c.to
  next : r.next = c.next
  taken : r.taken = c.taken
  a : Row w B 9 r.va c.a.length (flat celCells c.a)
  e : Row w B 9 r.ve c.e.length (flat celCells c.e)
def BlksV (w : World) (B : Nat) (v : Value) (l : List BlkC) : Prop :=
  ∃ rs : List BlkR, Row w B 6 v l.length (flat blkRL rs) ∧ rs.length = l.length ∧ ∀ (k : Nat) (r : BlkR) (c : BlkC), rs[k]? = some r → l[k]? = some c → BlkV w B r c
section
variable {w w' : World} {B : Nat} {v : Value} {l : List BlkC} {r : BlkR} {c : BlkC}
theorem BlkV.keep (h : BlkV w B r c) (hk : ∀ a : Addr, a.block < B → w'.cell? a = w.cell? a) : BlkV w' B r c := ⟨h.from_, h.to, h.next, h.taken, h.a.keep hk, h.e.keep hk⟩
theorem BlkV.more {B' : Nat} (h : BlkV w B r c) (hB : B ≤ B') : BlkV w B' r c := ⟨h.from_, h.to, h.next, h.taken, h.a.more hB, h.e.more hB⟩
theorem BlksV.keep (h : BlksV w B v l) (hk : ∀ a : Addr, a.block < B → w'.cell? a = w.cell? a) : BlksV w' B v l := by
  obtain ⟨rs, h1, h2, h3⟩ := h
  exact ⟨rs, h1.keep hk, h2, fun k r c hr hc => (h3 k r c hr hc).keep hk⟩
theorem BlksV.more {B' : Nat} (h : BlksV w B v l) (hB : B ≤ B') : BlksV w B' v l := by
  obtain ⟨rs, h1, h2, h3⟩ := h
  exact ⟨rs, h1.more hB, h2, fun k r c hr hc => (h3 k r c hr hc).more hB⟩
theorem BlksV.below (h : BlksV w B v l) (hb : Below B w w') : BlksV w' B v l := h.keep fun _ hp => hb.cell hp
theorem BlksV.alloc (h : BlksV w B v l) (hB : B ≤ w.heap.size) (o : Obj) : BlksV (w.alloc o) B v l := h.keep fun p hp => World.cell?_alloc_lt w o p (by omega)
theorem BlksV.drewN (h : BlksV w B v l) (k : Nat) : BlksV (w.drewN k) B v l := h.keep fun _ _ => rfl
theorem BlksV.form (h : BlksV w B v l) : ∃ A c, v = .slice A l.length c := by
  obtain ⟨rs, h1, _⟩ := h
  exact h1.form
end
/-- Blocks without cells. -/
def bareB (b : Blk) : BlkC := ⟨b.from_, b.to, b.next, b.taken, [], []⟩
theorem BlksV.bare {w : World} {B : Nat} {v : Value} {l : List Blk} (h : Row w B 6 v l.length (flat blkL l)) : BlksV w B v (l.map bareB) := by
  refine ⟨l.map fun b => ⟨b.from_, b.to, b.next, b.taken, .slice none 0 0, .slice none 0 0⟩, ?_, by simp, fun k r c hr hc => ?_⟩
  · rw [List.length_map]
    have : flat blkRL (l.map fun b => (⟨b.from_, b.to, b.next, b.taken, .slice none 0 0, .slice none 0 0⟩ : BlkR)) = flat blkL l := by
      unfold flat
      rw [List.flatMap_map]
      rfl
    rw [this]; exact h
  · rw [List.getElem?_map] at hr hc
    cases hl : l[k]? with
    | none => rw [hl] at hr; cases hr
    | some b =>
      rw [hl] at hr hc
      injection hr with hr
      injection hc with hc
      subst hr hc
      exact ⟨rfl, rfl, rfl, rfl, Row.nil _ _ _, Row.nil _ _ _⟩
/-- A split's seventeen cells. -/
def splV (v : Value) (o : List Int) : List Value := v :: o.map (Value.int .i64)
theorem splV_len {v : Value} {o : List Int} (h : o.length = 16) : (splV v o).length = 17 := by simp [splV, h]
theorem eqIn_own (l m : List Int) (w : World) (hl : l.length = 16) (hm : m.length = 16) : (Op.equalIn 10000 30 (.agg (l.map (Value.int .i64)).toArray) (.agg (m.map (Value.int .i64)).toArray)).run Tryz.prog w = .ok (decide (l = m)) w := by
  obtain ⟨i, hi, _⟩ := info_parts info_intB
  have hc : Tryz.prog.cellsOf 3 = 1 := by kernel_rfl
  rw [show (10000 : Nat) = 9999 + 1 from rfl, run_equalIn_array w 9999 _ _ Tryz.underlying30 hi, hc, show (9999 : Nat) = 9998 + 1 from rfl,
    items_num w 9998 Tryz.underlying3 l m (List.range 16) (fun i h => by rw [List.mem_range] at h; omega), show (16 : Nat) = l.length from hl.symm, all_getD l m (hl.trans hm.symm)]
theorem neq_own (l m : List Int) (w : World) (hl : l.length = 16) (hm : m.length = 16) : (binOp .neq 30 (.agg (l.map (Value.int .i64)).toArray) (.agg (m.map (Value.int .i64)).toArray)).run Tryz.prog w = .ok (.bool (!decide (l = m))) w := by
  rw [run_neq_struct, eqIn_own l m w hl hm]
  rfl
end Go.Proofs.YteagglddgkjkmaaGreat.Words

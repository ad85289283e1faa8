/- Contracts of the document's own Targets and RightProgram. -/
import Derived.Test.YtehelfmpcbejeaaRefTarget
import Derived.Test.YtehelfmpcbejeaaKept
namespace Go.Proofs.Ytehelfmpcbejeaa.Words
set_option maxRecDepth 100000
open Go.RowKit
set_option linter.unusedVariables false

theorem targetsOk_step {n j : Nat} {l : List Ins} {i : Ins} (h : l[j]? = some i) : targetsOk n j (l.drop j) = (!badTarget n j i && targetsOk n (j + 1) (l.drop (j + 1))) := by
  obtain ⟨hlt, rfl⟩ := List.getElem?_eq_some_iff.1 h
  rw [List.drop_eq_getElem_cons hlt]; rfl
def errT (b : Bool) : Int := if b = true then 0 else 4
theorem all_step {l : List Ins} {j : Nat} {i : Ins} (h : l[j]? = some i) : (l.drop j).all rightB = (rightB i && (l.drop (j + 1)).all rightB) := by
  obtain ⟨hlt, rfl⟩ := List.getElem?_eq_some_iff.1 h
  rw [List.drop_eq_getElem_cons hlt]; rfl
theorem at_some {l : List Ins} {j : Nat} (h : j < l.length) : ∃ i, l[j]? = some i := ⟨_, List.getElem?_eq_getElem h⟩

set_option maxHeartbeats 2000000 in
theorem refTargets_any (A : Option Addr) (c : Nat) (sz : Int) (vd : Value) (l : List Ins) (w : World) (hr : Row w w.heap.size 5 (.slice A l.length c) l.length (codeCells l)) (hsmall : l.length ≤ 4294967296) :
    Calls Try.prog 32 #[.agg #[.slice A l.length c, .int .i64 sz, vd]] w fun e w' => e = .returned (.int .i64 (errT (targetsOk l.length 0 l))) ∧ Below w.heap.size w w' := by
  obtain ⟨hcl, hcm⟩ := hr.cap
  have HK := Lib.hid (fun (x : World) (h : Kept (w.alloc (.cells #[.slice A l.length c, .int .i64 sz, vd] 25)) x) => ((Below.refl w.heap.size w).alloc (Nat.le_refl _) _).trans (h.mono (by simp)))
  by_cases hn : l.length = 0
  · have hl : l = [] := List.eq_nil_of_length_eq_zero hn
    subst hl
    go_enter Try.func32, Try.ntmps32
    go_wp2_with fail
    refine wp_loop_rounds 1 ?_
    rw [rounds_succ]
    go_wp2_with fail
    go_ret
    exact ⟨rfl, HK.out _ (Kept.refl _)⟩
  obtain ⟨b, off, rfl, hb, _⟩ := hr.at_ hn
  have hB : w.heap.size < (w.alloc (.cells #[.slice (some ⟨b, off, none⟩) l.length c, .int .i64 sz, vd] 25)).heap.size := by simp
  have HR := Lib.hid (hr.alloc (Nat.le_refl _) (.cells #[.slice (some ⟨b, off, none⟩) l.length c, .int .i64 sz, vd] 25) |>.more (Nat.le_of_lt hB))
  have HA := Lib.hid (fun j h => at_some (l := l) (j := j) h)
  have HT := Lib.hid (fun j i h => targetsOk_step (n := l.length) (j := j) (l := l) (i := i) h)
  have HE := Lib.hid (fun (k : Nat) (h : l.length ≤ k) => List.drop_eq_nil_of_le h)
  have H0 := Lib.hid (show targetsOk l.length 0 l = targetsOk l.length 0 (l.drop 0) by rw [List.drop_zero])
  have HC := Lib.hid (fun (x : World) (h : Kept (w.alloc (.cells #[.slice (some ⟨b, off, none⟩) l.length c, .int .i64 sz, vd] 25)) x) (k : Nat) (i : Ins) (hi : l[k]? = some i) =>
    (h.row HR.out).ins hi)
  have HD := Lib.hid (fun (x : World) (h : Kept (w.alloc (.cells #[.slice (some ⟨b, off, none⟩) l.length c, .int .i64 sz, vd] 25)) x) (k : Nat) (i : Ins) (hi : l[k]? = some i) =>
    refTarget_any b off c k sz vd l i x (h.row HR.out) hi hsmall)
  have c0 : (w.alloc (.cells #[.slice (some ⟨b, off, none⟩) l.length c, .int .i64 sz, vd] 25)).cell? ⟨w.heap.size, 0, none⟩ = some (.slice (some ⟨b, off, none⟩) l.length c) := by go_simp
  have c1 : (w.alloc (.cells #[.slice (some ⟨b, off, none⟩) l.length c, .int .i64 sz, vd] 25)).cell? ⟨w.heap.size, 1, none⟩ = some (.int .i64 sz) := by go_simp
  have c2 : (w.alloc (.cells #[.slice (some ⟨b, off, none⟩) l.length c, .int .i64 sz, vd] 25)).cell? ⟨w.heap.size, 2, none⟩ = some vd := by go_simp
  go_enter Try.func32, Try.ntmps32
  go_wp2_with fail
  generalize w.alloc (.cells #[.slice (some ⟨b, off, none⟩) l.length c, .int .i64 sz, vd] 25) = W at *
  have C0 := Lib.hid (fun (x : World) (h : Kept W x) => h.cell hB c0)
  have C1 := Lib.hid (fun (x : World) (h : Kept W x) => h.cell hB c1)
  have C2 := Lib.hid (fun (x : World) (h : Kept W x) => h.cell hB c2)
  clear c0 c1 c2 hr hB
  generalize hN : l.length = n at *
  have HN := Lib.hid hN
  clear hN
  go_loopw [3] (fun i wr => ∃ j : Nat, j ≤ n ∧ i = .int .i64 j ∧ Kept W wr ∧ targetsOk n 0 l = targetsOk n j (l.drop j)) (fun i _ => n - (intOf i).toNat)
  case atStart => exact ⟨0, Nat.zero_le _, rfl, Kept.refl _, H0.out⟩
  case round =>
    obtain ⟨j, hj, rfl, hK, hT⟩ := hrel
    have HTJ := Lib.hid hT
    clear hT
    have c0 := C0.out _ hK
    by_cases hlt : j < n
    · obtain ⟨i, hi⟩ := HA.out j hlt
      have hs := Lib.hid (HT.out j i hi)
      obtain ⟨d0, _, _, _, _⟩ := HC.out _ hK j i hi
      have k0 : (0 : Int) ≤ j := by omega
      have k1 : (j : Int) < n := by omega
      go_wp2_with fail
      refine (refForm_any _ _).mono ?_; rintro e w1 ⟨rfl, rfl⟩
      by_cases hj6 : formZ i.op = 6 ∨ formZ i.op = 7
      · have HJ := Lib.hid ((isJump_form i).2 hj6)
        have c1 := C1.out _ hK
        have c2 := C2.out _ hK
        have HDi := Lib.hid (HD.out _ hK j i hi)
        rcases hj6 with hj6 | hj6
        all_goals
          rw [hj6]
          go_wp2_with fail
          refine HDi.out.mono ?_; rintro e w2 ⟨rfl, hb2⟩
          have hK2 := hK.to hb2
          by_cases ht : targetZ n j i < 0
          · have hbad : badTarget n j i = true := by unfold badTarget; rw [HJ.out]; simp [ht]
            have hres := Lib.hid (show errT (targetsOk n 0 l) = 4 by rw [HTJ.out, hs.out, hbad]; rfl)
            go_wp2_with fail
            go_ret
            exact ⟨ret_int (by rw [HN.out]; exact hres.out.symm), HK.out _ hK2⟩
          · have hok : badTarget n j i = false := by unfold badTarget; simp [ht]
            have hres := Lib.hid (show targetsOk n 0 l = targetsOk n (j + 1) (l.drop (j + 1)) by rw [HTJ.out, hs.out, hok]; rfl)
            go_wp2_with fail
            go_roundw
            case rel => exact ⟨j + 1, by omega, by go_num, hK2, hres.out⟩
            case measure => simp [intOf]; omega
      · have hok : badTarget n j i = false := by
          have : isJump i = false := by
            cases hh : isJump i
            · rfl
            · exact absurd ((isJump_form i).1 hh) hj6
          unfold badTarget; rw [this]; rfl
        have hres := Lib.hid (show targetsOk n 0 l = targetsOk n (j + 1) (l.drop (j + 1)) by rw [HTJ.out, hs.out, hok]; rfl)
        have q1 : (formZ i.op == 6) = false := by simp; omega
        have q2 : (formZ i.op == 7) = false := by simp; omega
        clear hok hj6
        go_wp2_with fail
        go_roundw
        case rel => exact ⟨j + 1, by omega, by go_num, hK, hres.out⟩
        case measure => simp [intOf]; omega
    · have hres := Lib.hid (show errT (targetsOk n 0 l) = 0 by rw [HTJ.out, HE.out j (by omega)]; rfl)
      go_wp2_with fail
      go_ret
      exact ⟨ret_int (by rw [HN.out]; exact hres.out.symm), HK.out _ hK⟩

/-- The numbers of a program that may be. -/
def sizesOk (n : Nat) (sz : Int) (m : Nat) : Bool := decide (1 ≤ n ∧ n ≤ 2000 ∧ 0 ≤ sz ∧ sz ≤ 65536 ∧ (m : Int) ≤ sz)
def rightZ (l : List Ins) (sz : Int) (m : Nat) : Bool := sizesOk l.length sz m && l.all rightB && targetsOk l.length 0 l
theorem rightZ_no {l : List Ins} {sz : Int} {m : Nat} (h : ¬ (1 ≤ l.length ∧ l.length ≤ 2000 ∧ 0 ≤ sz ∧ sz ≤ 65536 ∧ (m : Int) ≤ sz)) : rightZ l sz m = false := by
  unfold rightZ sizesOk; rw [decide_eq_false h]; rfl
theorem rightZ_all {l : List Ins} {sz : Int} {m : Nat} (h : l.all rightB = false) : rightZ l sz m = false := by
  unfold rightZ; rw [h]; simp
theorem rightZ_yes {l : List Ins} {sz : Int} {m : Nat} (h : 1 ≤ l.length ∧ l.length ≤ 2000 ∧ 0 ≤ sz ∧ sz ≤ 65536 ∧ (m : Int) ≤ sz) (ha : l.all rightB = true) : rightZ l sz m = targetsOk l.length 0 l := by
  unfold rightZ sizesOk; rw [decide_eq_true h, ha]; rfl
theorem right_prog (p : Prog) : p.right = rightZ p.code p.size p.data.length := rfl

set_option maxHeartbeats 4000000 in
theorem refRight_any (A : Option Addr) (c : Nat) (sz : Int) (A' : Option Addr) (m c' : Nat) (l : List Ins) (w : World) (hr : Row w w.heap.size 5 (.slice A l.length c) l.length (codeCells l)) (hm : m ≤ c') (hc' : c' ≤ 9223372036854775807) :
    Calls Try.prog 16 #[.agg #[.slice A l.length c, .int .i64 sz, .slice A' m c']] w fun e w' => e = .returned (.bool (rightZ l sz m)) ∧ Below w.heap.size w w' := by
  obtain ⟨hcl, hcm⟩ := hr.cap
  have HK := Lib.hid (fun (x : World) (h : Kept (w.alloc (.cells #[.slice A l.length c, .int .i64 sz, .slice A' m c'] 25)) x) => ((Below.refl w.heap.size w).alloc (Nat.le_refl _) _).trans (h.mono (by simp)))
  by_cases hno : 1 ≤ l.length ∧ l.length ≤ 2000 ∧ 0 ≤ sz ∧ sz ≤ 65536 ∧ (m : Int) ≤ sz
  rotate_left
  · rw [rightZ_no hno]
    clear hr
    generalize l.length = n at *
    by_cases h1 : n < 1
    · go_enter Try.func16, Try.ntmps16
      go_wp2_with fail
      go_ret
      exact ⟨rfl, HK.out _ (Kept.refl _)⟩
    by_cases h2 : 2000 < n
    · go_enter Try.func16, Try.ntmps16
      go_wp2_with fail
      go_ret
      exact ⟨rfl, HK.out _ (Kept.refl _)⟩
    by_cases h3 : sz < 0
    · go_enter Try.func16, Try.ntmps16
      go_wp2_with fail
      go_ret
      exact ⟨rfl, HK.out _ (Kept.refl _)⟩
    by_cases h4 : 65536 < sz
    · go_enter Try.func16, Try.ntmps16
      go_wp2_with fail
      go_ret
      exact ⟨rfl, HK.out _ (Kept.refl _)⟩
    have h5 : sz < (m : Int) := by omega
    clear hno
    go_enter Try.func16, Try.ntmps16
    go_wp2_with fail
    go_ret
    exact ⟨rfl, HK.out _ (Kept.refl _)⟩
  have HNO := Lib.hid hno
  obtain ⟨n1, n2, n3, n4, n5⟩ := hno
  obtain ⟨b, off, rfl, hb, _⟩ := hr.at_ (by omega)
  have hB : w.heap.size < (w.alloc (.cells #[.slice (some ⟨b, off, none⟩) l.length c, .int .i64 sz, .slice A' m c'] 25)).heap.size := by simp
  have HR := Lib.hid (hr.alloc (Nat.le_refl _) (.cells #[.slice (some ⟨b, off, none⟩) l.length c, .int .i64 sz, .slice A' m c'] 25) |>.more (Nat.le_of_lt hB))
  have HA := Lib.hid (fun j h => at_some (l := l) (j := j) h)
  have HT := Lib.hid (fun j i h => all_step (j := j) (l := l) (i := i) h)
  have HE := Lib.hid (fun (k : Nat) (h : l.length ≤ k) => List.drop_eq_nil_of_le h)
  have H0 := Lib.hid (show l.all rightB = (l.drop 0).all rightB by rw [List.drop_zero])
  have HC := Lib.hid (fun (x : World) (h : Kept (w.alloc (.cells #[.slice (some ⟨b, off, none⟩) l.length c, .int .i64 sz, .slice A' m c'] 25)) x) (k : Nat) (i : Ins) (hi : l[k]? = some i) =>
    (h.row HR.out).ins hi)
  have HD := Lib.hid (fun (x : World) (h : Kept (w.alloc (.cells #[.slice (some ⟨b, off, none⟩) l.length c, .int .i64 sz, .slice A' m c'] 25)) x) =>
    refTargets_any (some ⟨b, off, none⟩) c sz (.slice A' m c') l x (h.row HR.out) (Nat.le_trans n2 (by omega)))
  have HF := Lib.hid (fun h => rightZ_all (l := l) (sz := sz) (m := m) h)
  have HY := Lib.hid (fun h => rightZ_yes (l := l) HNO.out h)
  have c0 : (w.alloc (.cells #[.slice (some ⟨b, off, none⟩) l.length c, .int .i64 sz, .slice A' m c'] 25)).cell? ⟨w.heap.size, 0, none⟩ = some (.slice (some ⟨b, off, none⟩) l.length c) := by go_simp
  have c1 : (w.alloc (.cells #[.slice (some ⟨b, off, none⟩) l.length c, .int .i64 sz, .slice A' m c'] 25)).cell? ⟨w.heap.size, 1, none⟩ = some (.int .i64 sz) := by go_simp
  have c2 : (w.alloc (.cells #[.slice (some ⟨b, off, none⟩) l.length c, .int .i64 sz, .slice A' m c'] 25)).cell? ⟨w.heap.size, 2, none⟩ = some (.slice A' m c') := by go_simp
  clear HNO
  go_enter Try.func16, Try.ntmps16
  go_wp2_with fail
  generalize w.alloc (.cells #[.slice (some ⟨b, off, none⟩) l.length c, .int .i64 sz, .slice A' m c'] 25) = W at *
  have C0 := Lib.hid (fun (x : World) (h : Kept W x) => h.cell hB c0)
  have C1 := Lib.hid (fun (x : World) (h : Kept W x) => h.cell hB c1)
  have C2 := Lib.hid (fun (x : World) (h : Kept W x) => h.cell hB c2)
  clear c0 c1 c2 hr hB
  generalize hN : l.length = n at *
  have HN := Lib.hid hN
  clear hN
  go_loopw [3] (fun i wr => ∃ j : Nat, j ≤ n ∧ i = .int .i64 j ∧ Kept W wr ∧ l.all rightB = (l.drop j).all rightB) (fun i _ => n - (intOf i).toNat)
  case atStart => exact ⟨0, Nat.zero_le _, rfl, Kept.refl _, H0.out⟩
  case round =>
    obtain ⟨j, hj, rfl, hK, hT⟩ := hrel
    have HTJ := Lib.hid hT
    clear hT
    have c0 := C0.out _ hK
    by_cases hlt : j < n
    · obtain ⟨i, hi⟩ := HA.out j hlt
      have hs := Lib.hid (HT.out j i hi)
      obtain ⟨d0, d1, d2, d3, d4⟩ := HC.out _ hK j i hi
      have k0 : (0 : Int) ≤ j := by omega
      have k1 : (j : Int) < n := by omega
      go_wp2_with fail
      refine (rightIns_any i _).mono ?_; rintro e w1 ⟨rfl, hb2⟩
      have hK2 := hK.to hb2
      clear hb2
      cases hri : rightB i
      · have hres := Lib.hid (HF.out (by rw [HTJ.out, hs.out, hri]; rfl))
        go_wp2_with fail
        go_ret
        exact ⟨ret_bool hres.out.symm, HK.out _ hK2⟩
      · have hres := Lib.hid (show l.all rightB = (l.drop (j + 1)).all rightB by rw [HTJ.out, hs.out, hri]; rfl)
        go_wp2_with fail
        go_roundw
        case rel => exact ⟨j + 1, by omega, by go_num, hK2, hres.out⟩
        case measure => simp [intOf]; omega
    · have hres := Lib.hid (HY.out (by rw [HTJ.out, HE.out j (by omega)]; rfl))
      have c1 := C1.out _ hK
      have c2 := C2.out _ hK
      have HDx := Lib.hid (HD.out _ hK)
      go_wp2_with fail
      refine HDx.out.mono ?_; rintro e w2 ⟨rfl, hb2⟩
      have hK2 := hK.to hb2
      clear hb2
      cases ht : targetsOk n 0 l
      · rw [ht] at hres
        have e4 : errT false = 4 := rfl
        rw [e4]
        go_wp2_with fail
        go_ret
        exact ⟨ret_bool hres.out.symm, HK.out _ hK2⟩
      · rw [ht] at hres
        have e4 : errT true = 0 := rfl
        rw [e4]
        go_wp2_with fail
        go_ret
        exact ⟨ret_bool hres.out.symm, HK.out _ hK2⟩
end Go.Proofs.Ytehelfmpcbejeaa.Words

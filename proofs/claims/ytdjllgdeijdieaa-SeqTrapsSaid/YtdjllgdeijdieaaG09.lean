/- Several texts in one: SeqStep3, RefFirst, RefTarget, RefRight, ImgRight, ImgRight2, SeqBase. -/
import Derived.Test.YtdjllgdeijdieaaG00
import Derived.Test.YtdjllgdeijdieaaG08
import Derived.Test.YtdjllgdeijdieaaG01
import Derived.Test.YtdjllgdeijdieaaG03
import Derived.LoopTactic
import Derived.LoopN

/- Contract of package seq: step, whole. -/
namespace Go.Proofs.Ytdjllgdeijdieaa.Words
set_option maxRecDepth 100000
open Go.RowKit
set_option linter.unusedVariables false

theorem mStep_any (A : Option Addr) (c : Nat) (p : Prog) (r : Res) (vm vw : Value) (pc : Int) (b : Nat) (w : World) (hb : MBox w b (machL (.slice A p.code.length c) (resL r vm vw) pc)) (B : Nat) (hBb : B ≤ b) (ho : ResOwn w B vm vw r)
    (hrow : Row w b 5 (.slice A p.code.length c) p.code.length (codeCells p.code)) (fr : ∀ x ∈ r.regs, 0 ≤ x ∧ x ≤ 4294967295) (hmb : ∀ x ∈ r.mem, 0 ≤ x ∧ x ≤ 255) (hw : r.ws.length ≤ 1000000000000)
    (h0 : r.e = 0) (h1 : p.right = true) (h2 : (r.mem.length : Int) = p.size) :
    Calls Try.prog 23 #[.pointer (some ⟨b, 0, none⟩)] w fun e w' => e = .returned (.tuple #[]) ∧ MachTo w b B (.slice A p.code.length c) (stepZ p r pc) w' := by
  obtain ⟨c1, c2, c3, c4, c5, c6⟩ := right_code h1
  have hlt := hb.lt
  have h16 := ho.regs
  by_cases hlow : pc < 0
  · rw [stepZ_pc h0 h1 h2 (.inl hlow)]
    refine (mStep_low A p.code.length c r vm vw pc b w hb h16 (by omega) hlow).mono ?_
    rintro e w' ⟨rfl, z1, z2⟩
    exact ⟨rfl, MachTo.of (x := (trapZ r 4 pc, pc)) hb hBb z1 z2 ho rfl rfl h16⟩
  by_cases hhigh : (p.code.length : Int) ≤ pc
  · rw [stepZ_pc h0 h1 h2 (.inr hhigh)]
    refine (mStep_high A p.code.length c r vm vw pc b w hb h16 (by omega) (by omega) hhigh).mono ?_
    rintro e w' ⟨rfl, z1, z2⟩
    exact ⟨rfl, MachTo.of (x := (trapZ r 4 pc, pc)) hb hBb z1 z2 ho rfl rfl h16⟩
  obtain ⟨k, rfl⟩ : ∃ k : Nat, pc = (k : Int) := ⟨pc.toNat, by omega⟩
  have hk : k < p.code.length := by omega
  obtain ⟨i, hi⟩ : ∃ i, p.code[k]? = some i := ⟨_, List.getElem?_eq_getElem hk⟩
  obtain ⟨id, ia, ib, he, bd, ba, bb, bi, f1, f8⟩ := right_ins (c6 i (List.mem_of_getElem? hi))
  rw [stepZ_ins h0 h1 h2 hi, ← h2]
  obtain ⟨cb, co, rfl, _, _⟩ := hrow.at_ (by omega)
  obtain ⟨op, d', a', b', imm⟩ := i
  simp only [Ins.mk.injEq, true_and, and_true] at he
  obtain ⟨rfl, rfl, rfl⟩ := he
  have hf : formZ op = 1 ∨ formZ op = 2 ∨ formZ op = 3 ∨ formZ op = 4 ∨ formZ op = 5 ∨ formZ op = 6 ∨ formZ op = 7 ∨ formZ op = 8 := by simp only at f1 f8; omega
  have hm : r.mem.length ≤ 140737488355328 := by omega
  rcases hf with hf | hf | hf | hf | hf | hf | hf | hf
  · exact mStep_form1 cb co p.code.length c k op imm id ia ib p.code r vm vw b w hb B hBb ho hrow fr hmb hm hw c2 hi bd ba bb bi hf
  · exact mStep_form2 cb co p.code.length c k op imm id ia ib p.code r vm vw b w hb B hBb ho hrow fr hmb hm hw c2 hi bd ba bb bi hf
  · exact mStep_form3 cb co p.code.length c k op imm id ia ib p.code r vm vw b w hb B hBb ho hrow fr hmb hm hw c2 hi bd ba bb bi hf
  · exact mStep_form4 cb co p.code.length c k op imm id ia ib p.code r vm vw b w hb B hBb ho hrow fr hmb hm hw c2 hi bd ba bb bi hf
  · exact mStep_form5 cb co p.code.length c k op imm id ia ib p.code r vm vw b w hb B hBb ho hrow fr hmb hm hw c2 hi bd ba bb bi hf
  · exact mStep_form6 cb co p.code.length c k op imm id ia ib p.code r vm vw b w hb B hBb ho hrow fr hmb hm hw c2 hi bd ba bb bi hf
  · exact mStep_form7 cb co p.code.length c k op imm id ia ib p.code r vm vw b w hb B hBb ho hrow fr hmb hm hw c2 hi bd ba bb bi hf
  · exact mStep_form8 cb co p.code.length c k op imm id ia ib p.code r vm vw b w hb B hBb ho hrow fr hmb hm hw c2 hi bd ba bb bi hf
end Go.Proofs.Ytdjllgdeijdieaa.Words

/- Contract of the document's own First: the memory of a program. -/
namespace Go.Proofs.Ytdjllgdeijdieaa.Words
set_option maxRecDepth 100000
open Go.RowKit
set_option linter.unusedVariables false

/-- The memory of a program: its data, and bytes 0 behind. -/
def firstZ (p : Prog) : List Int := p.data ++ List.replicate (p.size.toNat - p.data.length) 0
theorem firstZ_len (p : Prog) (k : Nat) (hk : p.size = (k : Int)) (hd : p.data.length ≤ k) : (firstZ p).length = k := by
  unfold firstZ; rw [hk]; simp; omega
theorem firstZ_bytes (p : Prog) (h : ∀ b ∈ p.data, 0 ≤ b ∧ b ≤ 255) : ∀ b ∈ firstZ p, 0 ≤ b ∧ b ≤ 255 := by
  intro b hb
  unfold firstZ at hb
  rw [List.mem_append] at hb
  rcases hb with hb | hb
  · exact h b hb
  · rw [List.mem_replicate] at hb; omega

set_option maxRecDepth 20000 in
set_option maxHeartbeats 400000 in
theorem refFirst_any (A D : Option Addr) (c d k : Nat) (p : Prog) (w : World) (h : ProgV w w.heap.size (.slice A p.code.length c) (.slice D p.data.length d) p) (hk : p.size = (k : Int)) (hk1 : k ≤ 140737488355328) (hd : p.data.length ≤ k) :
    Calls Try.prog 11 #[.agg #[.slice A p.code.length c, .int .i64 p.size, .slice D p.data.length d]] w fun e w' =>
      ∃ v', e = .returned v' ∧ w'.ownsRow w.heap.size 5 1 v' k ((firstZ p).map (Value.int .u8)) ∧ Below w.heap.size w w' := by
  obtain ⟨i0, hi, hz0, hz1, hz2⟩ := info_parts info_u8
  have HZ2 := Lib.hid hz2
  clear hz2
  obtain ⟨u1, u2⟩ := h.data.cap
  have HR := Lib.hid (fun (x : World) (hx : Below w.heap.size w x) => h.data.below hx)
  have HB := Lib.hid ((Below.refl w.heap.size w).alloc (Nat.le_refl _) (.cells #[.slice A p.code.length c, .int .i64 (k : Int), .slice D p.data.length d] 25))
  have hs : (w.alloc (.cells #[.slice A p.code.length c, .int .i64 (k : Int), .slice D p.data.length d] 25)).heap.size = w.heap.size + 1 := by simp
  have C2 : Hid ((w.alloc (.cells #[.slice A p.code.length c, .int .i64 (k : Int), .slice D p.data.length d] 25)).cell? ⟨w.heap.size, 2, none⟩ = some (.slice D p.data.length d)) := by
    show _ = _
    go_simp
  have HF : Hid (splice (madeCells (Value.int .u8 0).cells (k * 1)).toList 0 ((p.data.map (Value.int .u8)).take k) = (firstZ p).map (Value.int .u8)) := by
    show _ = _
    rw [show ((Value.int .u8 0).cells) = #[Value.int .u8 0] from rfl, toList_madeCells_one, List.take_of_length_le (by simp; exact hd)]
    unfold splice firstZ
    rw [hk]
    simp
  rw [hk]
  clear h
  go_enter Try.func11, Try.ntmps11
  go_wp2_with (first
    | (at_make; refine wpList_make_full _ rfl _ _ 23 rfl (w.heap.size + 1) 5 i0 (.int .u8 0) 1 Try.underlying23 hi hz0 hz1 _ _ _ _ k rfl rfl rfl rfl (by rw [HZ2.out]; omega) (by unfold maxLen; omega) (by rw [hs]; exact Nat.le_refl _) ?_; intro w1 hown1 hg1; have b1 : Below w.heap.size w w1 := Below.grown HB.out hg1 HB.out.size (fun _ h => by cases h); rw [hs] at hown1; have d2 := below_cell (Below.grown (Below.refl (w.heap.size + 1) _) hg1 (Nat.le_of_eq hs.symm) (fun _ h => by cases h)) (Nat.lt_succ_self _) C2.out)
    | (with_reducible show wpList _ _ _ _ _ _; refine wpList_copy_rows rfl (.tmp 7) (.tmp 9) 23 23 rfl 5 Try.underlying23 (by kernel_rfl) (w.heap.size + 1) (w.heap.size + 1) k k 0 k k _ hown1 rfl D p.data.length d w.heap.size _ rfl (HR.out _ b1) (u8_one _) (by omega) ?_; intro w2 hown2 hb2; rw [HF.out] at hown2))
  go_ret
  exact ⟨_, rfl, own_base hown2 (Nat.le_succ _), b1.trans (hb2.mono (Nat.le_succ _))⟩
end Go.Proofs.Ytdjllgdeijdieaa.Words

/- Contracts of the document's own Target, Targets and RightProgram. -/
namespace Go.Proofs.Ytdjllgdeijdieaa.Words
set_option maxRecDepth 100000
open Go.RowKit
set_option linter.unusedVariables false

theorem targetZ_no {n k : Nat} {i : Ins} (h : isJump i = false ∨ i.imm < -8192 ∨ 8191 < i.imm ∨ (k : Int) + i.imm < 0 ∨ (n : Int) ≤ k + i.imm) : targetZ n k i = -1 := by unfold targetZ; rw [if_pos h]
theorem targetZ_yes {n k : Nat} {i : Ins} (h1 : isJump i = true) (h2 : -8192 ≤ i.imm) (h3 : i.imm ≤ 8191) (h4 : 0 ≤ (k : Int) + i.imm) (h5 : (k : Int) + i.imm < n) : targetZ n k i = k + i.imm := by
  unfold targetZ; rw [if_neg]; simp [h1]; omega

set_option maxHeartbeats 2000000 in
theorem refTarget_any (b off c k : Nat) (sz : Int) (vd : Value) (l : List Ins) (i : Ins) (w : World) (hr : Row w w.heap.size 5 (.slice (some ⟨b, off, none⟩) l.length c) l.length (codeCells l)) (hk : l[k]? = some i) (hsmall : l.length ≤ 4294967296) :
    Calls Try.prog 29 #[.agg #[.slice (some ⟨b, off, none⟩) l.length c, .int .i64 sz, vd], .int .i64 k] w fun e w' => e = .returned (.int .i64 (targetZ l.length k i)) ∧ Below w.heap.size w w' := by
  have hlt : k < l.length := by rw [List.getElem?_eq_some_iff] at hk; exact hk.1
  obtain ⟨hcl, hcm⟩ := hr.cap
  obtain ⟨b', off', e0, hb, _⟩ := hr.at_ (by omega)
  injection e0 with e0
  injection e0 with e1 e2
  subst e1 e2
  obtain ⟨c0, c1, c2, c3, c4⟩ := hr.ins hk
  have T1 := Lib.hid (fun h => targetZ_no (n := l.length) (k := k) (i := i) h)
  have T2 := Lib.hid (fun h1 h2 h3 h4 h5 => targetZ_yes (n := l.length) (k := k) (i := i) h1 h2 h3 h4 h5)
  have J := Lib.hid (isJump_form i)
  clear hr hk
  generalize l.length = n at *
  have hk0 : (0 : Int) ≤ k := by omega
  have hk1 : (k : Int) < n := by omega
  have hF := formZ_range i.op
  have HB := Lib.hid (fun o1 o2 => ((Below.refl w.heap.size w).alloc (Nat.le_refl _) o1).alloc (by simp) o2)
  go_enter Try.func29, Try.ntmps29
  go_wp2_with fail
  refine (refForm_any _ _).mono ?_; rintro e w1 ⟨rfl, rfl⟩
  by_cases hj : formZ i.op = 6 ∨ formZ i.op = 7
  · have HJ := Lib.hid (J.out.2 hj)
    have hor := Lib.hid hj
    by_cases h1 : i.imm < -8192
    · have t := Lib.hid (T1.out (.inr (.inl h1)))
      rcases hj with hj | hj
      all_goals
        rw [hj]
        go_wp2_with fail
        go_ret
        exact ⟨ret_int t.out.symm, HB.out _ _⟩
    by_cases h2 : 8191 < i.imm
    · have t := Lib.hid (T1.out (.inr (.inr (.inl h2))))
      rcases hj with hj | hj
      all_goals
        rw [hj]
        go_wp2_with fail
        go_ret
        exact ⟨ret_int t.out.symm, HB.out _ _⟩
    by_cases h3 : (k : Int) + i.imm < 0
    · have t := Lib.hid (T1.out (.inr (.inr (.inr (.inl h3)))))
      rcases hj with hj | hj
      all_goals
        rw [hj]
        go_wp2_with fail
        go_ret
        exact ⟨ret_int t.out.symm, HB.out _ _⟩
    by_cases h4 : (n : Int) ≤ k + i.imm
    · have t := Lib.hid (T1.out (.inr (.inr (.inr (.inr h4)))))
      rcases hj with hj | hj
      all_goals
        rw [hj]
        go_wp2_with fail
        go_ret
        exact ⟨ret_int t.out.symm, HB.out _ _⟩
    · have t := Lib.hid (T2.out HJ.out (by omega) (by omega) (by omega) (by omega))
      rcases hj with hj | hj
      all_goals
        rw [hj]
        go_wp2_with fail
        go_ret
        exact ⟨ret_int t.out.symm, HB.out _ _⟩
  · have t := Lib.hid (T1.out (.inl (by
      have := J.out
      cases hh : isJump i
      · rfl
      · exact absurd (this.1 hh) hj)))
    have k1 : (formZ i.op == 6) = false := by simp; omega
    have k2 : (formZ i.op == 7) = false := by simp; omega
    have k3 : (formZ i.op != 6) = true := by simp; omega
    have k4 : (formZ i.op != 7) = true := by simp; omega
    clear hj
    go_wp2_with fail
    go_ret
    exact ⟨ret_int t.out.symm, HB.out _ _⟩
end Go.Proofs.Ytdjllgdeijdieaa.Words

/- Contracts of the document's own Targets and RightProgram. -/
namespace Go.Proofs.Ytdjllgdeijdieaa.Words
set_option maxRecDepth 100000
open Go.RowKit
set_option linter.unusedVariables false

theorem targetsOk_step {n j : Nat} {l : List Ins} {i : Ins} (h : l[j]? = some i) : targetsOk n j (l.drop j) = (!badTarget n j i && targetsOk n (j + 1) (l.drop (j + 1))) := by
  obtain ⟨hlt, rfl⟩ := List.getElem?_eq_some_iff.1 h
  rw [List.drop_eq_getElem_cons hlt]; rfl
def errT (b : Bool) : Int := if b = true then 0 else 4
theorem all_step {l : List Ins} {j : Nat} {i : Ins} (h : l[j]? = some i) : (l.drop j).all rightB = (rightB i && (l.drop (j + 1)).all rightB) := by
  obtain ⟨hlt, rfl⟩ := List.getElem?_eq_some_iff.1 h
  rw [List.drop_eq_getElem_cons hlt]; rfl
theorem at_some {l : List Ins} {j : Nat} (h : j < l.length) : ∃ i, l[j]? = some i := ⟨_, List.getElem?_eq_getElem h⟩

set_option maxHeartbeats 2000000 in
theorem refTargets_any (A : Option Addr) (c : Nat) (sz : Int) (vd : Value) (l : List Ins) (w : World) (hr : Row w w.heap.size 5 (.slice A l.length c) l.length (codeCells l)) (hsmall : l.length ≤ 4294967296) :
    Calls Try.prog 20 #[.agg #[.slice A l.length c, .int .i64 sz, vd]] w fun e w' => e = .returned (.int .i64 (errT (targetsOk l.length 0 l))) ∧ Below w.heap.size w w' := by
  obtain ⟨hcl, hcm⟩ := hr.cap
  have HK := Lib.hid (fun (x : World) (h : Kept (w.alloc (.cells #[.slice A l.length c, .int .i64 sz, vd] 25)) x) => ((Below.refl w.heap.size w).alloc (Nat.le_refl _) _).trans (h.mono (by simp)))
  by_cases hn : l.length = 0
  · have hl : l = [] := List.eq_nil_of_length_eq_zero hn
    subst hl
    go_enter Try.func20, Try.ntmps20
    go_wp2_with fail
    refine wp_loop_rounds 1 ?_
    rw [rounds_succ]
    go_wp2_with fail
    go_ret
    exact ⟨rfl, HK.out _ (Kept.refl _)⟩
  obtain ⟨b, off, rfl, hb, _⟩ := hr.at_ hn
  have hB : w.heap.size < (w.alloc (.cells #[.slice (some ⟨b, off, none⟩) l.length c, .int .i64 sz, vd] 25)).heap.size := by simp
  have HR := Lib.hid (hr.alloc (Nat.le_refl _) (.cells #[.slice (some ⟨b, off, none⟩) l.length c, .int .i64 sz, vd] 25) |>.more (Nat.le_of_lt hB))
  have HA := Lib.hid (fun j h => at_some (l := l) (j := j) h)
  have HT := Lib.hid (fun j i h => targetsOk_step (n := l.length) (j := j) (l := l) (i := i) h)
  have HE := Lib.hid (fun (k : Nat) (h : l.length ≤ k) => List.drop_eq_nil_of_le h)
  have H0 := Lib.hid (show targetsOk l.length 0 l = targetsOk l.length 0 (l.drop 0) by rw [List.drop_zero])
  have HC := Lib.hid (fun (x : World) (h : Kept (w.alloc (.cells #[.slice (some ⟨b, off, none⟩) l.length c, .int .i64 sz, vd] 25)) x) (k : Nat) (i : Ins) (hi : l[k]? = some i) =>
    (h.row HR.out).ins hi)
  have HD := Lib.hid (fun (x : World) (h : Kept (w.alloc (.cells #[.slice (some ⟨b, off, none⟩) l.length c, .int .i64 sz, vd] 25)) x) (k : Nat) (i : Ins) (hi : l[k]? = some i) =>
    refTarget_any b off c k sz vd l i x (h.row HR.out) hi hsmall)
  have c0 : (w.alloc (.cells #[.slice (some ⟨b, off, none⟩) l.length c, .int .i64 sz, vd] 25)).cell? ⟨w.heap.size, 0, none⟩ = some (.slice (some ⟨b, off, none⟩) l.length c) := by go_simp
  have c1 : (w.alloc (.cells #[.slice (some ⟨b, off, none⟩) l.length c, .int .i64 sz, vd] 25)).cell? ⟨w.heap.size, 1, none⟩ = some (.int .i64 sz) := by go_simp
  have c2 : (w.alloc (.cells #[.slice (some ⟨b, off, none⟩) l.length c, .int .i64 sz, vd] 25)).cell? ⟨w.heap.size, 2, none⟩ = some vd := by go_simp
  go_enter Try.func20, Try.ntmps20
  go_wp2_with fail
  generalize w.alloc (.cells #[.slice (some ⟨b, off, none⟩) l.length c, .int .i64 sz, vd] 25) = W at *
  have C0 := Lib.hid (fun (x : World) (h : Kept W x) => h.cell hB c0)
  have C1 := Lib.hid (fun (x : World) (h : Kept W x) => h.cell hB c1)
  have C2 := Lib.hid (fun (x : World) (h : Kept W x) => h.cell hB c2)
  clear c0 c1 c2 hr hB
  generalize hN : l.length = n at *
  have HN := Lib.hid hN
  clear hN
  go_loopw [3] (fun i wr => ∃ j : Nat, j ≤ n ∧ i = .int .i64 j ∧ Kept W wr ∧ targetsOk n 0 l = targetsOk n j (l.drop j)) (fun i _ => n - (intOf i).toNat)
  case atStart => exact ⟨0, Nat.zero_le _, rfl, Kept.refl _, H0.out⟩
  case round =>
    obtain ⟨j, hj, rfl, hK, hT⟩ := hrel
    have HTJ := Lib.hid hT
    clear hT
    have c0 := C0.out _ hK
    by_cases hlt : j < n
    · obtain ⟨i, hi⟩ := HA.out j hlt
      have hs := Lib.hid (HT.out j i hi)
      obtain ⟨d0, _, _, _, _⟩ := HC.out _ hK j i hi
      have k0 : (0 : Int) ≤ j := by omega
      have k1 : (j : Int) < n := by omega
      go_wp2_with fail
      refine (refForm_any _ _).mono ?_; rintro e w1 ⟨rfl, rfl⟩
      by_cases hj6 : formZ i.op = 6 ∨ formZ i.op = 7
      · have HJ := Lib.hid ((isJump_form i).2 hj6)
        have c1 := C1.out _ hK
        have c2 := C2.out _ hK
        have HDi := Lib.hid (HD.out _ hK j i hi)
        rcases hj6 with hj6 | hj6
        all_goals
          rw [hj6]
          go_wp2_with fail
          refine HDi.out.mono ?_; rintro e w2 ⟨rfl, hb2⟩
          have hK2 := hK.to hb2
          by_cases ht : targetZ n j i < 0
          · have hbad : badTarget n j i = true := by unfold badTarget; rw [HJ.out]; simp [ht]
            have hres := Lib.hid (show errT (targetsOk n 0 l) = 4 by rw [HTJ.out, hs.out, hbad]; rfl)
            go_wp2_with fail
            go_ret
            exact ⟨ret_int (by rw [HN.out]; exact hres.out.symm), HK.out _ hK2⟩
          · have hok : badTarget n j i = false := by unfold badTarget; simp [ht]
            have hres := Lib.hid (show targetsOk n 0 l = targetsOk n (j + 1) (l.drop (j + 1)) by rw [HTJ.out, hs.out, hok]; rfl)
            go_wp2_with fail
            go_roundw
            case rel => exact ⟨j + 1, by omega, by go_num, hK2, hres.out⟩
            case measure => simp [intOf]; omega
      · have hok : badTarget n j i = false := by
          have : isJump i = false := by
            cases hh : isJump i
            · rfl
            · exact absurd ((isJump_form i).1 hh) hj6
          unfold badTarget; rw [this]; rfl
        have hres := Lib.hid (show targetsOk n 0 l = targetsOk n (j + 1) (l.drop (j + 1)) by rw [HTJ.out, hs.out, hok]; rfl)
        have q1 : (formZ i.op == 6) = false := by simp; omega
        have q2 : (formZ i.op == 7) = false := by simp; omega
        clear hok hj6
        go_wp2_with fail
        go_roundw
        case rel => exact ⟨j + 1, by omega, by go_num, hK, hres.out⟩
        case measure => simp [intOf]; omega
    · have hres := Lib.hid (show errT (targetsOk n 0 l) = 0 by rw [HTJ.out, HE.out j (by omega)]; rfl)
      go_wp2_with fail
      go_ret
      exact ⟨ret_int (by rw [HN.out]; exact hres.out.symm), HK.out _ hK⟩

/-- The numbers of a program that may be. -/
def sizesOk (n : Nat) (sz : Int) (m : Nat) : Bool := decide (1 ≤ n ∧ n ≤ 2000 ∧ 0 ≤ sz ∧ sz ≤ 65536 ∧ (m : Int) ≤ sz)
def rightZ (l : List Ins) (sz : Int) (m : Nat) : Bool := sizesOk l.length sz m && l.all rightB && targetsOk l.length 0 l
theorem rightZ_no {l : List Ins} {sz : Int} {m : Nat} (h : ¬ (1 ≤ l.length ∧ l.length ≤ 2000 ∧ 0 ≤ sz ∧ sz ≤ 65536 ∧ (m : Int) ≤ sz)) : rightZ l sz m = false := by
  unfold rightZ sizesOk; rw [decide_eq_false h]; rfl
theorem rightZ_all {l : List Ins} {sz : Int} {m : Nat} (h : l.all rightB = false) : rightZ l sz m = false := by
  unfold rightZ; rw [h]; simp
theorem rightZ_yes {l : List Ins} {sz : Int} {m : Nat} (h : 1 ≤ l.length ∧ l.length ≤ 2000 ∧ 0 ≤ sz ∧ sz ≤ 65536 ∧ (m : Int) ≤ sz) (ha : l.all rightB = true) : rightZ l sz m = targetsOk l.length 0 l := by
  unfold rightZ sizesOk; rw [decide_eq_true h, ha]; rfl
theorem right_prog (p : Prog) : p.right = rightZ p.code p.size p.data.length := rfl

set_option maxHeartbeats 4000000 in
theorem refRight_any (A : Option Addr) (c : Nat) (sz : Int) (A' : Option Addr) (m c' : Nat) (l : List Ins) (w : World) (hr : Row w w.heap.size 5 (.slice A l.length c) l.length (codeCells l)) (hm : m ≤ c') (hc' : c' ≤ 9223372036854775807) :
    Calls Try.prog 9 #[.agg #[.slice A l.length c, .int .i64 sz, .slice A' m c']] w fun e w' => e = .returned (.bool (rightZ l sz m)) ∧ Below w.heap.size w w' := by
  obtain ⟨hcl, hcm⟩ := hr.cap
  have HK := Lib.hid (fun (x : World) (h : Kept (w.alloc (.cells #[.slice A l.length c, .int .i64 sz, .slice A' m c'] 25)) x) => ((Below.refl w.heap.size w).alloc (Nat.le_refl _) _).trans (h.mono (by simp)))
  by_cases hno : 1 ≤ l.length ∧ l.length ≤ 2000 ∧ 0 ≤ sz ∧ sz ≤ 65536 ∧ (m : Int) ≤ sz
  rotate_left
  · rw [rightZ_no hno]
    clear hr
    generalize l.length = n at *
    by_cases h1 : n < 1
    · go_enter Try.func9, Try.ntmps9
      go_wp2_with fail
      go_ret
      exact ⟨rfl, HK.out _ (Kept.refl _)⟩
    by_cases h2 : 2000 < n
    · go_enter Try.func9, Try.ntmps9
      go_wp2_with fail
      go_ret
      exact ⟨rfl, HK.out _ (Kept.refl _)⟩
    by_cases h3 : sz < 0
    · go_enter Try.func9, Try.ntmps9
      go_wp2_with fail
      go_ret
      exact ⟨rfl, HK.out _ (Kept.refl _)⟩
    by_cases h4 : 65536 < sz
    · go_enter Try.func9, Try.ntmps9
      go_wp2_with fail
      go_ret
      exact ⟨rfl, HK.out _ (Kept.refl _)⟩
    have h5 : sz < (m : Int) := by omega
    clear hno
    go_enter Try.func9, Try.ntmps9
    go_wp2_with fail
    go_ret
    exact ⟨rfl, HK.out _ (Kept.refl _)⟩
  have HNO := Lib.hid hno
  obtain ⟨n1, n2, n3, n4, n5⟩ := hno
  obtain ⟨b, off, rfl, hb, _⟩ := hr.at_ (by omega)
  have hB : w.heap.size < (w.alloc (.cells #[.slice (some ⟨b, off, none⟩) l.length c, .int .i64 sz, .slice A' m c'] 25)).heap.size := by simp
  have HR := Lib.hid (hr.alloc (Nat.le_refl _) (.cells #[.slice (some ⟨b, off, none⟩) l.length c, .int .i64 sz, .slice A' m c'] 25) |>.more (Nat.le_of_lt hB))
  have HA := Lib.hid (fun j h => at_some (l := l) (j := j) h)
  have HT := Lib.hid (fun j i h => all_step (j := j) (l := l) (i := i) h)
  have HE := Lib.hid (fun (k : Nat) (h : l.length ≤ k) => List.drop_eq_nil_of_le h)
  have H0 := Lib.hid (show l.all rightB = (l.drop 0).all rightB by rw [List.drop_zero])
  have HC := Lib.hid (fun (x : World) (h : Kept (w.alloc (.cells #[.slice (some ⟨b, off, none⟩) l.length c, .int .i64 sz, .slice A' m c'] 25)) x) (k : Nat) (i : Ins) (hi : l[k]? = some i) =>
    (h.row HR.out).ins hi)
  have HD := Lib.hid (fun (x : World) (h : Kept (w.alloc (.cells #[.slice (some ⟨b, off, none⟩) l.length c, .int .i64 sz, .slice A' m c'] 25)) x) =>
    refTargets_any (some ⟨b, off, none⟩) c sz (.slice A' m c') l x (h.row HR.out) (Nat.le_trans n2 (by omega)))
  have HF := Lib.hid (fun h => rightZ_all (l := l) (sz := sz) (m := m) h)
  have HY := Lib.hid (fun h => rightZ_yes (l := l) HNO.out h)
  have c0 : (w.alloc (.cells #[.slice (some ⟨b, off, none⟩) l.length c, .int .i64 sz, .slice A' m c'] 25)).cell? ⟨w.heap.size, 0, none⟩ = some (.slice (some ⟨b, off, none⟩) l.length c) := by go_simp
  have c1 : (w.alloc (.cells #[.slice (some ⟨b, off, none⟩) l.length c, .int .i64 sz, .slice A' m c'] 25)).cell? ⟨w.heap.size, 1, none⟩ = some (.int .i64 sz) := by go_simp
  have c2 : (w.alloc (.cells #[.slice (some ⟨b, off, none⟩) l.length c, .int .i64 sz, .slice A' m c'] 25)).cell? ⟨w.heap.size, 2, none⟩ = some (.slice A' m c') := by go_simp
  clear HNO
  go_enter Try.func9, Try.ntmps9
  go_wp2_with fail
  generalize w.alloc (.cells #[.slice (some ⟨b, off, none⟩) l.length c, .int .i64 sz, .slice A' m c'] 25) = W at *
  have C0 := Lib.hid (fun (x : World) (h : Kept W x) => h.cell hB c0)
  have C1 := Lib.hid (fun (x : World) (h : Kept W x) => h.cell hB c1)
  have C2 := Lib.hid (fun (x : World) (h : Kept W x) => h.cell hB c2)
  clear c0 c1 c2 hr hB
  generalize hN : l.length = n at *
  have HN := Lib.hid hN
  clear hN
  go_loopw [3] (fun i wr => ∃ j : Nat, j ≤ n ∧ i = .int .i64 j ∧ Kept W wr ∧ l.all rightB = (l.drop j).all rightB) (fun i _ => n - (intOf i).toNat)
  case atStart => exact ⟨0, Nat.zero_le _, rfl, Kept.refl _, H0.out⟩
  case round =>
    obtain ⟨j, hj, rfl, hK, hT⟩ := hrel
    have HTJ := Lib.hid hT
    clear hT
    have c0 := C0.out _ hK
    by_cases hlt : j < n
    · obtain ⟨i, hi⟩ := HA.out j hlt
      have hs := Lib.hid (HT.out j i hi)
      obtain ⟨d0, d1, d2, d3, d4⟩ := HC.out _ hK j i hi
      have k0 : (0 : Int) ≤ j := by omega
      have k1 : (j : Int) < n := by omega
      go_wp2_with fail
      refine (rightIns_any i _).mono ?_; rintro e w1 ⟨rfl, hb2⟩
      have hK2 := hK.to hb2
      clear hb2
      cases hri : rightB i
      · have hres := Lib.hid (HF.out (by rw [HTJ.out, hs.out, hri]; rfl))
        go_wp2_with fail
        go_ret
        exact ⟨ret_bool hres.out.symm, HK.out _ hK2⟩
      · have hres := Lib.hid (show l.all rightB = (l.drop (j + 1)).all rightB by rw [HTJ.out, hs.out, hri]; rfl)
        go_wp2_with fail
        go_roundw
        case rel => exact ⟨j + 1, by omega, by go_num, hK2, hres.out⟩
        case measure => simp [intOf]; omega
    · have hres := Lib.hid (HY.out (by rw [HTJ.out, HE.out j (by omega)]; rfl))
      have c1 := C1.out _ hK
      have c2 := C2.out _ hK
      have HDx := Lib.hid (HD.out _ hK)
      go_wp2_with fail
      refine HDx.out.mono ?_; rintro e w2 ⟨rfl, hb2⟩
      have hK2 := hK.to hb2
      clear hb2
      cases ht : targetsOk n 0 l
      · rw [ht] at hres
        have e4 : errT false = 4 := rfl
        rw [e4]
        go_wp2_with fail
        go_ret
        exact ⟨ret_bool hres.out.symm, HK.out _ hK2⟩
      · rw [ht] at hres
        have e4 : errT true = 0 := rfl
        rw [e4]
        go_wp2_with fail
        go_ret
        exact ⟨ret_bool hres.out.symm, HK.out _ hK2⟩
end Go.Proofs.Ytdjllgdeijdieaa.Words

/- Contracts of package image: numbers, Targets, Right. -/
namespace Go.Proofs.Ytdjllgdeijdieaa.Words
set_option maxRecDepth 100000
open Go.RowKit
set_option linter.unusedVariables false

set_option maxHeartbeats 400000 in
theorem numbersOf_any (A A' : Option Addr) (n c m c' : Nat) (sz : Int) (w : World) (hn : n ≤ 9223372036854775807) (hm : m ≤ 9223372036854775807) :
    Calls Try.prog 30 #[.agg #[.slice A n c, .int .i64 sz, .slice A' m c']] w fun e w' => e = .returned (.agg #[.int .i64 n, .int .i64 sz, .int .i64 m]) ∧ Below w.heap.size w w' := by
  go_enter Try.func30, Try.ntmps30
  go_wp2_with fail
  refine bodyPost_ret (v := .agg #[.int .i64 n, .int .i64 sz, .int .i64 m]) (by simp [results, Try.results30, go_sem]; done) rfl ⟨rfl, ?_⟩
  exact ((Below.refl w.heap.size w).alloc (Nat.le_refl _) _).alloc (by simp) _

/-- The numbers that may be. -/
def fitN (n sz m : Int) : Bool := decide (1 ≤ n ∧ n ≤ 2000 ∧ 0 ≤ sz ∧ sz ≤ 65536 ∧ 0 ≤ m ∧ m ≤ sz)
theorem fitN_no {n sz m : Int} (h : ¬ (1 ≤ n ∧ n ≤ 2000 ∧ 0 ≤ sz ∧ sz ≤ 65536 ∧ 0 ≤ m ∧ m ≤ sz)) : fitN n sz m = false := decide_eq_false h
theorem fitN_yes {n sz m : Int} (h : 1 ≤ n ∧ n ≤ 2000 ∧ 0 ≤ sz ∧ sz ≤ 65536 ∧ 0 ≤ m ∧ m ≤ sz) : fitN n sz m = true := decide_eq_true h
set_option maxHeartbeats 2000000 in
theorem fit_any (n sz m : Int) (w : World) :
    Calls Try.prog 31 #[.agg #[.int .i64 n, .int .i64 sz, .int .i64 m]] w fun e w' => e = .returned (.bool (fitN n sz m)) ∧ Below w.heap.size w w' := by
  by_cases h1 : n < 1
  · rw [fitN_no (by omega)]
    go_enter Try.func31, Try.ntmps31
    go_wp2_with fail
    go_ret
    exact ⟨rfl, (Below.refl _ _).alloc (Nat.le_refl _) _⟩
  by_cases h2 : 2000 < n
  · rw [fitN_no (by omega)]
    go_enter Try.func31, Try.ntmps31
    go_wp2_with fail
    go_ret
    exact ⟨rfl, (Below.refl _ _).alloc (Nat.le_refl _) _⟩
  by_cases h3 : sz < 0
  · rw [fitN_no (by omega)]
    go_enter Try.func31, Try.ntmps31
    go_wp2_with fail
    go_ret
    exact ⟨rfl, (Below.refl _ _).alloc (Nat.le_refl _) _⟩
  by_cases h4 : 65536 < sz
  · rw [fitN_no (by omega)]
    go_enter Try.func31, Try.ntmps31
    go_wp2_with fail
    go_ret
    exact ⟨rfl, (Below.refl _ _).alloc (Nat.le_refl _) _⟩
  by_cases h5 : m < 0
  · rw [fitN_no (by omega)]
    go_enter Try.func31, Try.ntmps31
    go_wp2_with fail
    go_ret
    exact ⟨rfl, (Below.refl _ _).alloc (Nat.le_refl _) _⟩
  by_cases h6 : sz < m
  · rw [fitN_no (by omega)]
    go_enter Try.func31, Try.ntmps31
    go_wp2_with fail
    go_ret
    exact ⟨ret_bool (by simp; try omega), (Below.refl _ _).alloc (Nat.le_refl _) _⟩
  · rw [fitN_yes (by omega)]
    go_enter Try.func31, Try.ntmps31
    go_wp2_with fail
    go_ret
    exact ⟨ret_bool (by simp; try omega), (Below.refl _ _).alloc (Nat.le_refl _) _⟩

set_option maxHeartbeats 400000 in
theorem hasTarget_any (i : Ins) (w : World) :
    Calls Try.prog 42 #[.int .i64 i.op] w fun e w' => e = .returned (.bool (isJump i)) ∧ w = w' := by
  have hF := formZ_range i.op
  have HJ := Lib.hid (isJump_form i)
  go_enter Try.func42, Try.ntmps42
  go_wp2_with fail
  refine (form_any _ _).mono ?_; rintro e w1 ⟨rfl, rfl⟩
  by_cases h6 : formZ i.op = 6
  · have hj := Lib.hid (HJ.out.2 (.inl h6))
    rw [h6]
    go_wp2_with fail
    go_ret
    exact ⟨ret_bool hj.out.symm, rfl⟩
  by_cases h7 : formZ i.op = 7
  · have hj := Lib.hid (HJ.out.2 (.inr h7))
    rw [h7]
    go_wp2_with fail
    go_ret
    exact ⟨ret_bool hj.out.symm, rfl⟩
  · have hj : isJump i = false := by
      cases hh : isJump i
      · rfl
      · rcases HJ.out.1 hh with h | h <;> omega
    have hj := Lib.hid hj
    clear HJ
    go_wp2_with fail
    go_ret
    exact ⟨ret_bool (by rw [hj.out]; simp; omega), rfl⟩

/-- Is a target in the code? -/
theorem badTarget_eq {n k : Nat} {i : Ins} (hk : k < n) (hn : n ≤ 8192) : badTarget n k i = (isJump i && !decide (-(k : Int) ≤ i.imm ∧ i.imm < n - k)) := by
  unfold badTarget
  cases hj : isJump i
  · rfl
  · simp only [Bool.true_and]
    by_cases h : -(k : Int) ≤ i.imm ∧ i.imm < n - k
    · rw [targetZ_yes hj (by omega) (by omega) (by omega) (by omega), decide_eq_true h]; simp; omega
    · rw [targetZ_no (by omega), decide_eq_false h]; rfl
set_option maxHeartbeats 400000 in
theorem within_any (n k : Nat) (imm : Int) (w : World) (hk : k < n) (hn : n ≤ 8192) :
    Calls Try.prog 43 #[.int .i64 k, .int .i64 imm, .int .i64 n] w fun e w' => e = .returned (.bool (decide (-(k : Int) ≤ imm ∧ imm < n - k))) ∧ w = w' := by
  by_cases h1 : -(k : Int) ≤ imm
  · by_cases h2 : imm < n - k
    · have hr : decide (-(k : Int) ≤ imm ∧ imm < n - k) = true := decide_eq_true ⟨h1, h2⟩
      rw [hr]
      clear hr
      go_enter Try.func43, Try.ntmps43
      go_wp2_with fail
      go_ret
      exact ⟨rfl, rfl⟩
    · have hr : decide (-(k : Int) ≤ imm ∧ imm < n - k) = false := decide_eq_false (fun h => h2 h.2)
      rw [hr]
      clear hr
      go_enter Try.func43, Try.ntmps43
      go_wp2_with fail
      go_ret
      exact ⟨rfl, rfl⟩
  · have hr : decide (-(k : Int) ≤ imm ∧ imm < n - k) = false := decide_eq_false (fun h => h1 h.1)
    rw [hr]
    clear hr
    go_enter Try.func43, Try.ntmps43
    go_wp2_with fail
    go_ret
    exact ⟨rfl, rfl⟩
end Go.Proofs.Ytdjllgdeijdieaa.Words

/- Contracts of package image: Targets, Right. -/
namespace Go.Proofs.Ytdjllgdeijdieaa.Words
set_option maxRecDepth 100000
open Go.RowKit
set_option linter.unusedVariables false

set_option maxHeartbeats 2000000 in
theorem targets_any (A : Option Addr) (c : Nat) (sz : Int) (vd : Value) (l : List Ins) (w : World) (hr : Row w w.heap.size 5 (.slice A l.length c) l.length (codeCells l)) (hsmall : l.length ≤ 8192) :
    Calls Try.prog 33 #[.agg #[.slice A l.length c, .int .i64 sz, vd]] w fun e w' => e = .returned (.int .i64 (errT (targetsOk l.length 0 l))) ∧ Below w.heap.size w w' := by
  obtain ⟨hcl, hcm⟩ := hr.cap
  have HK := Lib.hid (fun (x : World) (h : Kept (w.alloc (.cells #[.slice A l.length c, .int .i64 sz, vd] 25)) x) => ((Below.refl w.heap.size w).alloc (Nat.le_refl _) _).trans (h.mono (by simp)))
  by_cases hn : l.length = 0
  · have hl : l = [] := List.eq_nil_of_length_eq_zero hn
    subst hl
    go_enter Try.func33, Try.ntmps33
    go_wp2_with fail
    refine wp_loop_rounds 1 ?_
    rw [rounds_succ]
    go_wp2_with fail
    go_ret
    exact ⟨rfl, HK.out _ (Kept.refl _)⟩
  obtain ⟨b, off, rfl, hb, _⟩ := hr.at_ hn
  have hB : w.heap.size < (w.alloc (.cells #[.slice (some ⟨b, off, none⟩) l.length c, .int .i64 sz, vd] 25)).heap.size := by simp
  have HR := Lib.hid (hr.alloc (Nat.le_refl _) (.cells #[.slice (some ⟨b, off, none⟩) l.length c, .int .i64 sz, vd] 25) |>.more (Nat.le_of_lt hB))
  have HA := Lib.hid (fun j h => at_some (l := l) (j := j) h)
  have HT := Lib.hid (fun j i h => targetsOk_step (n := l.length) (j := j) (l := l) (i := i) h)
  have HE := Lib.hid (fun (k : Nat) (h : l.length ≤ k) => List.drop_eq_nil_of_le h)
  have H0 := Lib.hid (show targetsOk l.length 0 l = targetsOk l.length 0 (l.drop 0) by rw [List.drop_zero])
  have HC := Lib.hid (fun (x : World) (h : Kept (w.alloc (.cells #[.slice (some ⟨b, off, none⟩) l.length c, .int .i64 sz, vd] 25)) x) (k : Nat) (i : Ins) (hi : l[k]? = some i) =>
    (h.row HR.out).ins hi)
  have c0 : (w.alloc (.cells #[.slice (some ⟨b, off, none⟩) l.length c, .int .i64 sz, vd] 25)).cell? ⟨w.heap.size, 0, none⟩ = some (.slice (some ⟨b, off, none⟩) l.length c) := by go_simp
  go_enter Try.func33, Try.ntmps33
  go_wp2_with fail
  generalize w.alloc (.cells #[.slice (some ⟨b, off, none⟩) l.length c, .int .i64 sz, vd] 25) = W at *
  have C0 := Lib.hid (fun (x : World) (h : Kept W x) => h.cell hB c0)
  clear c0 hr hB
  generalize hN : l.length = n at *
  have HN := Lib.hid hN
  clear hN
  go_loopw [8] (fun i wr => ∃ j : Nat, j ≤ n ∧ i = .int .i64 j ∧ Kept W wr ∧ targetsOk n 0 l = targetsOk n j (l.drop j)) (fun i _ => n - (intOf i).toNat)
  case atStart => exact ⟨0, Nat.zero_le _, rfl, Kept.refl _, H0.out⟩
  case round =>
    obtain ⟨j, hj, rfl, hK, hT⟩ := hrel
    have HTJ := Lib.hid hT
    clear hT
    by_cases hlt : j < n
    · obtain ⟨i, hi⟩ := HA.out j hlt
      have hs := Lib.hid (HT.out j i hi)
      obtain ⟨d0, d1, d2, d3, d4⟩ := HC.out _ hK j i hi
      have k0 : (0 : Int) ≤ j := by omega
      have k1 : (j : Int) < n := by omega
      have hbad := Lib.hid (badTarget_eq (n := n) (k := j) (i := i) hlt hsmall)
      have C0x := C0.out _ (hK.alloc (.cells #[.int .i64 i.op, .int .i64 i.d, .int .i64 i.a, .int .i64 i.b, .int .i64 i.imm] 44))
      go_wp2_with fail
      refine (hasTarget_any i _).mono ?_; rintro e w1 ⟨rfl, rfl⟩
      have hK2 := hK.alloc (.cells #[.int .i64 i.op, .int .i64 i.d, .int .i64 i.a, .int .i64 i.b, .int .i64 i.imm] 44)
      cases hjm : isJump i
      · have hok : badTarget n j i = false := by rw [hbad.out, hjm]; rfl
        have hres := Lib.hid (show targetsOk n 0 l = targetsOk n (j + 1) (l.drop (j + 1)) by rw [HTJ.out, hs.out, hok]; rfl)
        clear hok
        go_wp2_with fail
        go_roundw
        case rel => exact ⟨j + 1, by omega, by go_num, hK2, hres.out⟩
        case measure => simp [intOf]; omega
      · go_wp2_with fail
        refine (within_any n j i.imm _ hlt hsmall).mono ?_; rintro e w2 ⟨rfl, rfl⟩
        cases hw : decide (-(j : Int) ≤ i.imm ∧ i.imm < n - j)
        · have hres := Lib.hid (show errT (targetsOk n 0 l) = 4 by rw [HTJ.out, hs.out, hbad.out, hjm, hw]; rfl)
          clear hw
          go_wp2_with fail
          go_ret
          exact ⟨ret_int (by rw [HN.out]; exact hres.out.symm), HK.out _ hK2⟩
        · have hres := Lib.hid (show targetsOk n 0 l = targetsOk n (j + 1) (l.drop (j + 1)) by rw [HTJ.out, hs.out, hbad.out, hjm, hw]; rfl)
          clear hw
          go_wp2_with fail
          go_roundw
          case rel => exact ⟨j + 1, by omega, by go_num, hK2, hres.out⟩
          case measure => simp [intOf]; omega
    · have hres := Lib.hid (show errT (targetsOk n 0 l) = 0 by rw [HTJ.out, HE.out j (by omega)]; rfl)
      go_wp2_with fail
      go_ret
      exact ⟨ret_int (by rw [HN.out]; exact hres.out.symm), HK.out _ hK⟩

set_option maxHeartbeats 2000000 in
theorem allRight_any (A : Option Addr) (c : Nat) (l : List Ins) (w : World) (hr : Row w w.heap.size 5 (.slice A l.length c) l.length (codeCells l)) (hsmall : l.length ≤ 8192) :
    Calls Try.prog 32 #[.slice A l.length c] w fun e w' => e = .returned (.bool (l.all rightB)) ∧ Below w.heap.size w w' := by
  obtain ⟨hcl, hcm⟩ := hr.cap
  by_cases hn : l.length = 0
  · have hl : l = [] := List.eq_nil_of_length_eq_zero hn
    subst hl
    go_enter Try.func32, Try.ntmps32
    go_wp2_with fail
    refine wp_loop_rounds 1 ?_
    rw [rounds_succ]
    go_wp2_with fail
    go_ret
    exact ⟨rfl, Below.refl _ _⟩
  obtain ⟨b, off, rfl, hb, _⟩ := hr.at_ hn
  have HA := Lib.hid (fun j h => at_some (l := l) (j := j) h)
  have HT := Lib.hid (fun j i h => all_step (j := j) (l := l) (i := i) h)
  have HE := Lib.hid (fun (k : Nat) (h : l.length ≤ k) => List.drop_eq_nil_of_le h)
  have H0 := Lib.hid (show l.all rightB = (l.drop 0).all rightB by rw [List.drop_zero])
  have HC := Lib.hid (fun (x : World) (h : Kept w x) (k : Nat) (i : Ins) (hi : l[k]? = some i) => (h.row hr).ins hi)
  clear hr hb
  go_enter Try.func32, Try.ntmps32
  go_wp2_with fail
  generalize hN : l.length = n at *
  have HN := Lib.hid hN
  clear hN
  go_loopw [7] (fun i wr => ∃ j : Nat, j ≤ n ∧ i = .int .i64 j ∧ Kept w wr ∧ l.all rightB = (l.drop j).all rightB) (fun i _ => n - (intOf i).toNat)
  case atStart => exact ⟨0, Nat.zero_le _, rfl, Kept.refl _, H0.out⟩
  case round =>
    obtain ⟨j, hj, rfl, hK, hT⟩ := hrel
    have HTJ := Lib.hid hT
    clear hT
    by_cases hlt : j < n
    · obtain ⟨i, hi⟩ := HA.out j hlt
      have hs := Lib.hid (HT.out j i hi)
      obtain ⟨d0, d1, d2, d3, d4⟩ := HC.out _ hK j i hi
      have k0 : (0 : Int) ≤ j := by omega
      have k1 : (j : Int) < n := by omega
      go_wp2_with fail
      refine (right_any i _).mono ?_; rintro e w1 ⟨rfl, hb2⟩
      have hK2 := (hK.alloc _).to hb2
      clear hb2
      cases hri : rightB i
      · have hres := Lib.hid (show l.all rightB = false by rw [HTJ.out, hs.out, hri]; rfl)
        go_wp2_with fail
        go_ret
        exact ⟨ret_bool hres.out.symm, hK2⟩
      · have hres := Lib.hid (show l.all rightB = (l.drop (j + 1)).all rightB by rw [HTJ.out, hs.out, hri]; rfl)
        go_wp2_with fail
        go_roundw
        case rel => exact ⟨j + 1, by omega, by go_num, hK2, hres.out⟩
        case measure => simp [intOf]; omega
    · have hres := Lib.hid (show l.all rightB = true by rw [HTJ.out, HE.out j (by omega)]; rfl)
      go_wp2_with fail
      go_ret
      exact ⟨ret_bool hres.out.symm, hK⟩

theorem rightZ_fit {l : List Ins} {sz : Int} {m : Nat} : rightZ l sz m = (fitN l.length sz m && l.all rightB && targetsOk l.length 0 l) := by
  unfold rightZ sizesOk fitN
  congr 2
  rw [decide_eq_decide]
  omega
set_option maxHeartbeats 2000000 in
theorem imgRight_any (A : Option Addr) (c : Nat) (sz : Int) (A' : Option Addr) (m c' : Nat) (l : List Ins) (w : World) (hr : Row w w.heap.size 5 (.slice A l.length c) l.length (codeCells l)) (hm : m ≤ c') (hc' : c' ≤ 9223372036854775807) :
    Calls Try.prog 21 #[.agg #[.slice A l.length c, .int .i64 sz, .slice A' m c']] w fun e w' => e = .returned (.bool (rightZ l sz m)) ∧ Below w.heap.size w w' := by
  obtain ⟨hcl, hcm⟩ := hr.cap
  have HK := Lib.hid (fun (x : World) (h : Kept (w.alloc (.cells #[.slice A l.length c, .int .i64 sz, .slice A' m c'] 25)) x) => ((Below.refl w.heap.size w).alloc (Nat.le_refl _) _).trans (h.mono (by simp)))
  have hB : w.heap.size < (w.alloc (.cells #[.slice A l.length c, .int .i64 sz, .slice A' m c'] 25)).heap.size := by simp
  have HR := Lib.hid (hr.alloc (Nat.le_refl _) (.cells #[.slice A l.length c, .int .i64 sz, .slice A' m c'] 25) |>.more (Nat.le_of_lt hB))
  have c0 : (w.alloc (.cells #[.slice A l.length c, .int .i64 sz, .slice A' m c'] 25)).cell? ⟨w.heap.size, 0, none⟩ = some (.slice A l.length c) := by go_simp
  have c1 : (w.alloc (.cells #[.slice A l.length c, .int .i64 sz, .slice A' m c'] 25)).cell? ⟨w.heap.size, 1, none⟩ = some (.int .i64 sz) := by go_simp
  have c2 : (w.alloc (.cells #[.slice A l.length c, .int .i64 sz, .slice A' m c'] 25)).cell? ⟨w.heap.size, 2, none⟩ = some (.slice A' m c') := by go_simp
  have HZ := Lib.hid (rightZ_fit (l := l) (sz := sz) (m := m))
  have HS := Lib.hid (fun (h : fitN l.length sz m = true) => (show l.length ≤ 8192 by have := of_decide_eq_true h; omega))
  go_enter Try.func21, Try.ntmps21
  go_wp2_with fail
  generalize w.alloc (.cells #[.slice A l.length c, .int .i64 sz, .slice A' m c'] 25) = W at *
  have C0 := Lib.hid (fun (x : World) (h : Kept W x) => h.cell hB c0)
  have C1 := Lib.hid (fun (x : World) (h : Kept W x) => h.cell hB c1)
  have C2 := Lib.hid (fun (x : World) (h : Kept W x) => h.cell hB c2)
  have HA := Lib.hid (fun (x : World) (h : Kept W x) (hs : l.length ≤ 8192) => allRight_any A c l x (h.row HR.out) hs)
  have HT := Lib.hid (fun (x : World) (h : Kept W x) (hs : l.length ≤ 8192) => targets_any A c sz (.slice A' m c') l x (h.row HR.out) hs)
  clear c0 c1 c2 hr hB
  refine (numbersOf_any A A' l.length c m c' sz _ (by omega) (by omega)).mono ?_; rintro e w1 ⟨rfl, hb1⟩
  have k1 : Kept W w1 := hb1
  have c0 := C0.out _ k1
  clear hb1
  go_wp2_with fail
  refine (fit_any l.length sz m _).mono ?_; rintro e w2 ⟨rfl, hb2⟩
  have k2 := k1.to hb2
  have c0 := C0.out _ k2
  clear hb2 k1
  cases hf : fitN l.length sz m
  · have hres := Lib.hid (show rightZ l sz m = false by rw [HZ.out, hf]; rfl)
    go_wp2_with fail
    go_ret
    exact ⟨ret_bool hres.out.symm, HK.out _ k2⟩
  have hs := HS.out hf
  have HAx := Lib.hid (HA.out _ k2 hs)
  go_wp2_with fail
  refine HAx.out.mono ?_; rintro e w3 ⟨rfl, hb3⟩
  have k3 := k2.to hb3
  have c0 := C0.out _ k3
  have c1 := C1.out _ k3
  have c2 := C2.out _ k3
  clear hb3 k2
  cases ha : l.all rightB
  · have hres := Lib.hid (show rightZ l sz m = false by rw [HZ.out, hf, ha]; rfl)
    go_wp2_with fail
    go_ret
    exact ⟨ret_bool hres.out.symm, HK.out _ k3⟩
  have HTx := Lib.hid (HT.out _ k3 hs)
  go_wp2_with fail
  refine HTx.out.mono ?_; rintro e w4 ⟨rfl, hb4⟩
  have k4 := k3.to hb4
  clear hb4 k3
  cases ht : targetsOk l.length 0 l
  · have hres := Lib.hid (show rightZ l sz m = false by rw [HZ.out, hf, ha, ht]; rfl)
    have e4 : errT false = 4 := rfl
    rw [e4]
    go_wp2_with fail
    go_ret
    exact ⟨ret_bool hres.out.symm, HK.out _ k4⟩
  · have hres := Lib.hid (show rightZ l sz m = true by rw [HZ.out, hf, ha, ht]; rfl)
    have e4 : errT true = 0 := rfl
    rw [e4]
    go_wp2_with fail
    go_ret
    exact ⟨ret_bool hres.out.symm, HK.out _ k4⟩
end Go.Proofs.Ytdjllgdeijdieaa.Words

/- Contracts of package seq: copied, begin, mayStep. -/
namespace Go.Proofs.Ytdjllgdeijdieaa.Words
set_option maxRecDepth 100000
open Go.RowKit
set_option linter.unusedVariables false

set_option maxHeartbeats 1000000 in
theorem copied_any (r : Res) (vm vw : Value) (w : World) (h : ResV w w.heap.size vm vw r) (hm : r.mem.length ≤ 140737488355328) (hw : r.ws.length ≤ 1000000000000) :
    Calls Try.prog 26 #[.agg (resL r vm vw).toArray] w fun e w' => ∃ vm' vw', e = .returned (.agg (resL r vm' vw').toArray) ∧ ResOwn w' w.heap.size vm' vw' r ∧ Below w.heap.size w w' := by
  obtain ⟨i0, hi, hz0, hz1, hz2⟩ := info_parts info_u8
  have HZ2 := Lib.hid hz2
  obtain ⟨j0, ji, jz0, jz1, jz2⟩ := info_parts info_wr
  have JZ2 := Lib.hid jz2
  clear hz2 jz2
  obtain ⟨Am, cm, rfl⟩ := h.mem.form
  obtain ⟨Aw, cw, rfl⟩ := h.ws.form
  have h16 := h.regs
  have h21 := resL_21 (vm := .slice Am r.mem.length cm) (vw := .slice Aw r.ws.length cw) h16
  have h22 := resL_22 (vm := .slice Am r.mem.length cm) (vw := .slice Aw r.ws.length cw) h16
  have HM := Lib.hid (((h.mem.alloc (Nat.le_refl _) (.cells (resL r (.slice Am r.mem.length cm) (.slice Aw r.ws.length cw)).toArray 34)).alloc (by simp) (.cells #[.int .i64 0, .int .i64 0, .int .i64 0, .int .i64 0, .int .i64 0, .int .u32 0, .int .u32 0, .int .u32 0, .int .u32 0, .int .u32 0, .int .u32 0, .int .u32 0, .int .u32 0, .int .u32 0, .int .u32 0, .int .u32 0, .int .u32 0, .int .u32 0, .int .u32 0, .int .u32 0, .int .u32 0, .slice none 0 0, .slice none 0 0] 34)))
  have HWs := Lib.hid h.ws
  have HB := Lib.hid (((Below.refl w.heap.size w).alloc (Nat.le_refl _) (.cells (resL r (.slice Am r.mem.length cm) (.slice Aw r.ws.length cw)).toArray 34)).alloc (by simp) (.cells #[.int .i64 0, .int .i64 0, .int .i64 0, .int .i64 0, .int .i64 0, .int .u32 0, .int .u32 0, .int .u32 0, .int .u32 0, .int .u32 0, .int .u32 0, .int .u32 0, .int .u32 0, .int .u32 0, .int .u32 0, .int .u32 0, .int .u32 0, .int .u32 0, .int .u32 0, .int .u32 0, .int .u32 0, .slice none 0 0, .slice none 0 0] 34))
  have B0 := Lib.hid ((Box.new w (resL r (.slice Am r.mem.length cm) (.slice Aw r.ws.length cw)) 34).alloc (.cells #[.int .i64 0, .int .i64 0, .int .i64 0, .int .i64 0, .int .i64 0, .int .u32 0, .int .u32 0, .int .u32 0, .int .u32 0, .int .u32 0, .int .u32 0, .int .u32 0, .int .u32 0, .int .u32 0, .int .u32 0, .int .u32 0, .int .u32 0, .int .u32 0, .int .u32 0, .int .u32 0, .int .u32 0, .slice none 0 0, .slice none 0 0] 34))
  have R0 : Hid (Box ((w.alloc (.cells (resL r (.slice Am r.mem.length cm) (.slice Aw r.ws.length cw)).toArray 34)).alloc (.cells #[.int .i64 0, .int .i64 0, .int .i64 0, .int .i64 0, .int .i64 0, .int .u32 0, .int .u32 0, .int .u32 0, .int .u32 0, .int .u32 0, .int .u32 0, .int .u32 0, .int .u32 0, .int .u32 0, .int .u32 0, .int .u32 0, .int .u32 0, .int .u32 0, .int .u32 0, .int .u32 0, .int .u32 0, .slice none 0 0, .slice none 0 0] 34)) (w.heap.size + 1) (resL noRes (.slice none 0 0) (.slice none 0 0))) := by
    have := Box.new (w.alloc (.cells (resL r (.slice Am r.mem.length cm) (.slice Aw r.ws.length cw)).toArray 34)) (resL noRes (.slice none 0 0) (.slice none 0 0)) 34
    have e : (w.alloc (.cells (resL r (.slice Am r.mem.length cm) (.slice Aw r.ws.length cw)).toArray 34)).heap.size = w.heap.size + 1 := by simp
    rw [e] at this
    exact this
  clear h
  go_enter Try.func26, Try.ntmps26
  go_wp2_with (first
    | (at_builtin; refine wpList_append_row _ rfl (.const (.slice none 0 0)) (.tmp 4) 23 rfl (w.heap.size + 2) 5 i0 (.int .u8 0) 1 1 Try.underlying23 hi hz0 hz1 HZ2.out rfl (by omega) (.slice none 0 0) 0 [] rfl (World.ownsRow_nil _ _ _ _) _ _ r.mem.length _ rfl HM.out (u8_one _) (by unfold maxLen; omega) (by omega) (by simp) ?_; intro v1 w1 hown1 hg1; simp only [Nat.zero_add, List.nil_append] at hown1; have b1 : Below w.heap.size w w1 := Below.grown HB.out hg1 (by simp; omega) (fun k hk => by cases hk); have B1 := Lib.hid (B0.out.grown hg1 (fun h => by cases h)); have R1 := Lib.hid (R0.out.grown hg1 (fun h => by cases h)); have d21 := B1.out.cell h21; have d22 := B1.out.cell h22; have f21 := B1.out.frozen 21; obtain ⟨A1, c1, rfl⟩ := (Row.of_own hown1).form)
    | (at_builtin; refine wpList_append_row _ rfl (.const (.slice none 0 0)) (.tmp 8) 32 rfl (w.heap.size + 2) 38 j0 (.agg #[.int .i64 0, .int .i64 0, .int .u32 0]) 3 24 Try.underlying32 ji jz0 jz1 JZ2.out rfl (by omega) (.slice none 0 0) 0 [] rfl (World.ownsRow_nil _ _ _ _) _ _ r.ws.length _ rfl (HWs.out.below (Below.setCell b1 (Nat.le_refl _) _)) (wsL_one _) (by unfold maxLen; omega) (by omega) (by have := hg1.size; simp [World.setCell] at this ⊢; omega) ?_; intro v2 w2 hown2 hg2; simp only [Nat.zero_add, List.nil_append] at hown2; have b2 : Below w.heap.size w w2 := Below.grown (Below.setCell b1 (Nat.le_refl _) _) hg2 (by have := b1.size; simp [World.setCell]; omega) (fun k hk => by cases hk); have B2 := Lib.hid ((B1.out.setCell 21 (.slice A1 r.mem.length c1)).grown hg2 (fun h => by cases h)); have R2 := Lib.hid ((R1.out.setCell_other (b' := w.heap.size) (by omega) 21 (.slice A1 r.mem.length c1)).grown hg2 (fun h => by cases h)); rw [resL_set21 h16] at B2; have e22 := B2.out.cell (resL_22 h16); have f22 := B2.out.frozen 22; obtain ⟨A2, c2, rfl⟩ := (Row.of_own hown2).form)
    | (refine wpList_load_box rfl 34 (.tmp 1) rfl w.heap.size 0 rfl (resL r (.slice A1 r.mem.length c1) (.slice A2 r.ws.length c2)) (resL r (.slice A1 r.mem.length c1) (.slice A2 r.ws.length c2)) (resL_set22 h16 _ ▸ B2.out.setCell 22 (.slice A2 r.ws.length c2)) (fun j v hv => by rw [Nat.zero_add]; exact hv) _ Try.underlying34 rfl 23 info_res (resL_len h16) ?_)
    | (refine wpList_store_box rfl 34 (.tmp 2) (.tmp 11) rfl (w.heap.size + 1) 0 (resL r (.slice A1 r.mem.length c1) (.slice A2 r.ws.length c2)) rfl rfl (resL noRes (.slice none 0 0) (.slice none 0 0)) (R2.out.setCell_other (by omega) 22 (.slice A2 r.ws.length c2)) (by rw [resL_len h16, resL_len rfl]; exact Nat.le_refl _) 23 info_res (resL_len h16) (resL_one rfl rfl) ?_; intro w3 B3 hg3; rw [splice_whole _ _ (by rw [resL_len h16, resL_len rfl])] at B3))
  refine bodyPost_ret (v := .agg (resL r (.slice A1 r.mem.length c1) (.slice A2 r.ws.length c2)).toArray) ?_ rfl ⟨_, _, rfl, ?_, ?_⟩
  · exact results_cell Try.results26 _ _ _ ⟨w.heap.size + 1, 0, none⟩ _ rfl (load_res B3 h16)
  · have k1 := own_grown (ownsRow_setCell_below hown1 (a := ⟨w.heap.size, 21, none⟩) (by show w.heap.size < w.heap.size + 2; omega) (.slice A1 r.mem.length c1)) hg2 (fun g _ h => by cases h)
    have k2 := own_grown (ownsRow_setCell_below k1 (a := ⟨w.heap.size, 22, none⟩) (by show w.heap.size < w.heap.size + 2; omega) (.slice A2 r.ws.length c2)) hg3 (fun g hg h => by have := (k1.lt g hg).1; injection h with h; omega)
    have k3 := own_grown (ownsRow_setCell_below hown2 (a := ⟨w.heap.size, 22, none⟩) (by show w.heap.size < w.heap.size + 2; omega) (.slice A2 r.ws.length c2)) hg3 (fun g hg h => by have := (hown2.lt g hg).1; injection h with h; omega)
    exact ⟨own_base k2 (by omega), own_base k3 (by omega), h16⟩
  · exact Below.grown (Below.setCell b2 (Nat.le_refl _) _) hg3 (by have := b2.size; simp [World.setCell]; omega) (fun k hk => by injection hk with hk; omega)

set_option maxRecDepth 20000 in
set_option maxHeartbeats 400000 in
theorem begin_any (A D : Option Addr) (c d k : Nat) (p : Prog) (w : World) (h : ProgV w w.heap.size (.slice A p.code.length c) (.slice D p.data.length d) p) (hk : p.size = (k : Int)) (hk1 : k ≤ 140737488355328) (hd : p.data.length ≤ k) :
    Calls Try.prog 22 #[.agg #[.slice A p.code.length c, .int .i64 p.size, .slice D p.data.length d]] w fun e w' =>
      ∃ v', e = .returned v' ∧ w'.ownsRow w.heap.size 5 1 v' k ((firstZ p).map (Value.int .u8)) ∧ Below w.heap.size w w' := by
  obtain ⟨i0, hi, hz0, hz1, hz2⟩ := info_parts info_u8
  have HZ2 := Lib.hid hz2
  clear hz2
  obtain ⟨u1, u2⟩ := h.data.cap
  have HR := Lib.hid (fun (x : World) (hx : Below w.heap.size w x) => h.data.below hx)
  have HB := Lib.hid ((Below.refl w.heap.size w).alloc (Nat.le_refl _) (.cells #[.slice A p.code.length c, .int .i64 (k : Int), .slice D p.data.length d] 25))
  have hs : (w.alloc (.cells #[.slice A p.code.length c, .int .i64 (k : Int), .slice D p.data.length d] 25)).heap.size = w.heap.size + 1 := by simp
  have C2 : Hid ((w.alloc (.cells #[.slice A p.code.length c, .int .i64 (k : Int), .slice D p.data.length d] 25)).cell? ⟨w.heap.size, 2, none⟩ = some (.slice D p.data.length d)) := by
    show _ = _
    go_simp
  have HF : Hid (splice (madeCells (Value.int .u8 0).cells (k * 1)).toList 0 ((p.data.map (Value.int .u8)).take k) = (firstZ p).map (Value.int .u8)) := by
    show _ = _
    rw [show ((Value.int .u8 0).cells) = #[Value.int .u8 0] from rfl, toList_madeCells_one, List.take_of_length_le (by simp; exact hd)]
    unfold splice firstZ
    rw [hk]
    simp
  rw [hk]
  clear h
  go_enter Try.func22, Try.ntmps22
  go_wp2_with (first
    | (at_make; refine wpList_make_full _ rfl _ _ 23 rfl (w.heap.size + 1) 5 i0 (.int .u8 0) 1 Try.underlying23 hi hz0 hz1 _ _ _ _ k rfl rfl rfl rfl (by rw [HZ2.out]; omega) (by unfold maxLen; omega) (by rw [hs]; exact Nat.le_refl _) ?_; intro w1 hown1 hg1; have b1 : Below w.heap.size w w1 := Below.grown HB.out hg1 HB.out.size (fun _ h => by cases h); rw [hs] at hown1; have d2 := below_cell (Below.grown (Below.refl (w.heap.size + 1) _) hg1 (Nat.le_of_eq hs.symm) (fun _ h => by cases h)) (Nat.lt_succ_self _) C2.out)
    | (with_reducible show wpList _ _ _ _ _ _; refine wpList_copy_rows rfl (.tmp 7) (.tmp 9) 23 23 rfl 5 Try.underlying23 (by kernel_rfl) (w.heap.size + 1) (w.heap.size + 1) k k 0 k k _ hown1 rfl D p.data.length d w.heap.size _ rfl (HR.out _ b1) (u8_one _) (by omega) ?_; intro w2 hown2 hb2; rw [HF.out] at hown2))
  go_ret
  exact ⟨_, rfl, own_base hown2 (Nat.le_succ _), b1.trans (hb2.mono (Nat.le_succ _))⟩

set_option maxHeartbeats 1000000 in
theorem mayStep_end (A D : Option Addr) (c d : Nat) (p : Prog) (M U : Option Addr) (m u : Nat) (r : Res) (w : World) (hp : ProgV w w.heap.size (.slice A p.code.length c) (.slice D p.data.length d) p) (h16 : r.regs.length = 16) (h0 : r.e ≠ 0) :
    Calls Try.prog 27 #[.agg #[.slice A p.code.length c, .int .i64 p.size, .slice D p.data.length d], .agg (resL r (.slice M r.mem.length m) (.slice U r.ws.length u)).toArray] w fun e w' => e = .returned (.bool false) ∧ Below w.heap.size w w' := by
  obtain ⟨u1, u2⟩ := hp.code.cap
  obtain ⟨u3, u4⟩ := hp.data.cap
  have HB := Lib.hid ((((Below.refl w.heap.size w).alloc (Nat.le_refl _) (.cells #[.slice A p.code.length c, .int .i64 p.size, .slice D p.data.length d] 25)).alloc (by simp) (.cells (resL r (.slice M r.mem.length m) (.slice U r.ws.length u)).toArray 34)))
  have HP := Lib.hid ((hp.code.below HB.out).more (show w.heap.size ≤ ((w.alloc (.cells #[.slice A p.code.length c, .int .i64 p.size, .slice D p.data.length d] 25)).alloc (.cells (resL r (.slice M r.mem.length m) (.slice U r.ws.length u)).toArray 34)).heap.size by simp; omega))
  have e0 : ((w.alloc (.cells #[.slice A p.code.length c, .int .i64 p.size, .slice D p.data.length d] 25)).alloc (.cells (resL r (.slice M r.mem.length m) (.slice U r.ws.length u)).toArray 34)).cell? ⟨w.heap.size, 0, none⟩ = some (.slice A p.code.length c) := by go_simp
  have e1 : ((w.alloc (.cells #[.slice A p.code.length c, .int .i64 p.size, .slice D p.data.length d] 25)).alloc (.cells (resL r (.slice M r.mem.length m) (.slice U r.ws.length u)).toArray 34)).cell? ⟨w.heap.size, 1, none⟩ = some (.int .i64 p.size) := by go_simp
  have e2 : ((w.alloc (.cells #[.slice A p.code.length c, .int .i64 p.size, .slice D p.data.length d] 25)).alloc (.cells (resL r (.slice M r.mem.length m) (.slice U r.ws.length u)).toArray 34)).cell? ⟨w.heap.size, 2, none⟩ = some (.slice D p.data.length d) := by go_simp
  have B0 : Box ((w.alloc (.cells #[.slice A p.code.length c, .int .i64 p.size, .slice D p.data.length d] 25)).alloc (.cells (resL r (.slice M r.mem.length m) (.slice U r.ws.length u)).toArray 34)) (w.heap.size + 1) (resL r (.slice M r.mem.length m) (.slice U r.ws.length u)) := by
    have := Box.new (w.alloc (.cells #[.slice A p.code.length c, .int .i64 p.size, .slice D p.data.length d] 25)) (resL r (.slice M r.mem.length m) (.slice U r.ws.length u)) 34
    have e : (w.alloc (.cells #[.slice A p.code.length c, .int .i64 p.size, .slice D p.data.length d] 25)).heap.size = w.heap.size + 1 := by simp
    rw [e] at this
    exact this
  have z0 := B0.cell resL_0
  have z21 := B0.cell (resL_21 h16)
  have q0 : (r.e == 0) = false := by simp; exact h0
  clear h0
  clear B0 hp
  go_enter Try.func27, Try.ntmps27
  go_wp2_with fail
  go_ret
  exact ⟨rfl, HB.out⟩

set_option maxHeartbeats 1000000 in
theorem mayStep_len (A D : Option Addr) (c d : Nat) (p : Prog) (M U : Option Addr) (m u : Nat) (r : Res) (w : World) (hp : ProgV w w.heap.size (.slice A p.code.length c) (.slice D p.data.length d) p) (h16 : r.regs.length = 16) (h0 : r.e = 0) (h2 : (r.mem.length : Int) ≠ p.size) :
    Calls Try.prog 27 #[.agg #[.slice A p.code.length c, .int .i64 p.size, .slice D p.data.length d], .agg (resL r (.slice M r.mem.length m) (.slice U r.ws.length u)).toArray] w fun e w' => e = .returned (.bool false) ∧ Below w.heap.size w w' := by
  obtain ⟨u1, u2⟩ := hp.code.cap
  obtain ⟨u3, u4⟩ := hp.data.cap
  have HB := Lib.hid ((((Below.refl w.heap.size w).alloc (Nat.le_refl _) (.cells #[.slice A p.code.length c, .int .i64 p.size, .slice D p.data.length d] 25)).alloc (by simp) (.cells (resL r (.slice M r.mem.length m) (.slice U r.ws.length u)).toArray 34)))
  have HP := Lib.hid ((hp.code.below HB.out).more (show w.heap.size ≤ ((w.alloc (.cells #[.slice A p.code.length c, .int .i64 p.size, .slice D p.data.length d] 25)).alloc (.cells (resL r (.slice M r.mem.length m) (.slice U r.ws.length u)).toArray 34)).heap.size by simp; omega))
  have e0 : ((w.alloc (.cells #[.slice A p.code.length c, .int .i64 p.size, .slice D p.data.length d] 25)).alloc (.cells (resL r (.slice M r.mem.length m) (.slice U r.ws.length u)).toArray 34)).cell? ⟨w.heap.size, 0, none⟩ = some (.slice A p.code.length c) := by go_simp
  have e1 : ((w.alloc (.cells #[.slice A p.code.length c, .int .i64 p.size, .slice D p.data.length d] 25)).alloc (.cells (resL r (.slice M r.mem.length m) (.slice U r.ws.length u)).toArray 34)).cell? ⟨w.heap.size, 1, none⟩ = some (.int .i64 p.size) := by go_simp
  have e2 : ((w.alloc (.cells #[.slice A p.code.length c, .int .i64 p.size, .slice D p.data.length d] 25)).alloc (.cells (resL r (.slice M r.mem.length m) (.slice U r.ws.length u)).toArray 34)).cell? ⟨w.heap.size, 2, none⟩ = some (.slice D p.data.length d) := by go_simp
  have B0 : Box ((w.alloc (.cells #[.slice A p.code.length c, .int .i64 p.size, .slice D p.data.length d] 25)).alloc (.cells (resL r (.slice M r.mem.length m) (.slice U r.ws.length u)).toArray 34)) (w.heap.size + 1) (resL r (.slice M r.mem.length m) (.slice U r.ws.length u)) := by
    have := Box.new (w.alloc (.cells #[.slice A p.code.length c, .int .i64 p.size, .slice D p.data.length d] 25)) (resL r (.slice M r.mem.length m) (.slice U r.ws.length u)) 34
    have e : (w.alloc (.cells #[.slice A p.code.length c, .int .i64 p.size, .slice D p.data.length d] 25)).heap.size = w.heap.size + 1 := by simp
    rw [e] at this
    exact this
  have z0 := B0.cell resL_0
  have z21 := B0.cell (resL_21 h16)
  have q0 : (r.e == 0) = true := by simp; exact h0
  have q2 : ((r.mem.length : Int) == p.size) = false := by simp; exact h2
  clear h0 h2
  clear B0 hp
  go_enter Try.func27, Try.ntmps27
  go_wp2_with fail
  go_ret
  exact ⟨rfl, HB.out⟩

set_option maxHeartbeats 1000000 in
theorem mayStep_right (A D : Option Addr) (c d : Nat) (p : Prog) (M U : Option Addr) (m u : Nat) (r : Res) (w : World) (hp : ProgV w w.heap.size (.slice A p.code.length c) (.slice D p.data.length d) p) (h16 : r.regs.length = 16) (h0 : r.e = 0) (h2 : (r.mem.length : Int) = p.size) (b : Bool) (h1 : p.right = b) :
    Calls Try.prog 27 #[.agg #[.slice A p.code.length c, .int .i64 p.size, .slice D p.data.length d], .agg (resL r (.slice M r.mem.length m) (.slice U r.ws.length u)).toArray] w fun e w' => e = .returned (.bool b) ∧ Below w.heap.size w w' := by
  obtain ⟨u1, u2⟩ := hp.code.cap
  obtain ⟨u3, u4⟩ := hp.data.cap
  have HB := Lib.hid ((((Below.refl w.heap.size w).alloc (Nat.le_refl _) (.cells #[.slice A p.code.length c, .int .i64 p.size, .slice D p.data.length d] 25)).alloc (by simp) (.cells (resL r (.slice M r.mem.length m) (.slice U r.ws.length u)).toArray 34)))
  have HP := Lib.hid ((hp.code.below HB.out).more (show w.heap.size ≤ ((w.alloc (.cells #[.slice A p.code.length c, .int .i64 p.size, .slice D p.data.length d] 25)).alloc (.cells (resL r (.slice M r.mem.length m) (.slice U r.ws.length u)).toArray 34)).heap.size by simp; omega))
  have e0 : ((w.alloc (.cells #[.slice A p.code.length c, .int .i64 p.size, .slice D p.data.length d] 25)).alloc (.cells (resL r (.slice M r.mem.length m) (.slice U r.ws.length u)).toArray 34)).cell? ⟨w.heap.size, 0, none⟩ = some (.slice A p.code.length c) := by go_simp
  have e1 : ((w.alloc (.cells #[.slice A p.code.length c, .int .i64 p.size, .slice D p.data.length d] 25)).alloc (.cells (resL r (.slice M r.mem.length m) (.slice U r.ws.length u)).toArray 34)).cell? ⟨w.heap.size, 1, none⟩ = some (.int .i64 p.size) := by go_simp
  have e2 : ((w.alloc (.cells #[.slice A p.code.length c, .int .i64 p.size, .slice D p.data.length d] 25)).alloc (.cells (resL r (.slice M r.mem.length m) (.slice U r.ws.length u)).toArray 34)).cell? ⟨w.heap.size, 2, none⟩ = some (.slice D p.data.length d) := by go_simp
  have B0 : Box ((w.alloc (.cells #[.slice A p.code.length c, .int .i64 p.size, .slice D p.data.length d] 25)).alloc (.cells (resL r (.slice M r.mem.length m) (.slice U r.ws.length u)).toArray 34)) (w.heap.size + 1) (resL r (.slice M r.mem.length m) (.slice U r.ws.length u)) := by
    have := Box.new (w.alloc (.cells #[.slice A p.code.length c, .int .i64 p.size, .slice D p.data.length d] 25)) (resL r (.slice M r.mem.length m) (.slice U r.ws.length u)) 34
    have e : (w.alloc (.cells #[.slice A p.code.length c, .int .i64 p.size, .slice D p.data.length d] 25)).heap.size = w.heap.size + 1 := by simp
    rw [e] at this
    exact this
  have z0 := B0.cell resL_0
  have z21 := B0.cell (resL_21 h16)
  have q0 : (r.e == 0) = true := by simp; exact h0
  have q2 : ((r.mem.length : Int) == p.size) = true := by simp; exact h2
  have HRT : Hid (p.right = b) := h1
  clear h0 h1 h2
  clear B0 hp
  go_enter Try.func27, Try.ntmps27
  go_wp2_with fail
  generalize ((w.alloc (.cells #[.slice A p.code.length c, .int .i64 p.size, .slice D p.data.length d] 25)).alloc (.cells (resL r (.slice M r.mem.length m) (.slice U r.ws.length u)).toArray 34)) = w1 at *
  refine (imgRight_any A c p.size D p.data.length d p.code _ HP.out u3 u4).mono ?_; rintro e w3 ⟨rfl, hb3⟩
  rw [show rightZ p.code p.size p.data.length = b from HRT.out]
  have hz := Lib.hid (HB.out.trans (hb3.mono (show w.heap.size ≤ w1.heap.size from HB.out.size)))
  clear e0 e1 e2 z0 z21 hb3
  go_wp2_with fail
  go_ret
  exact ⟨rfl, hz.out⟩

end Go.Proofs.Ytdjllgdeijdieaa.Words

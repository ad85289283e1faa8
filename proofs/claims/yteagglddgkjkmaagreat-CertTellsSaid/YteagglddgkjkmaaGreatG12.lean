/- Several texts in one: OnrRefClosed, WithBase, RefCert2, CertOfKind, CertBal, RefCounts, CertCounts. -/
import Derived.Test.YteagglddgkjkmaaGreatG05
import Derived.Test.YteagglddgkjkmaaGreatG02
import Derived.Test.YteagglddgkjkmaaGreatG04
import Derived.Test.YteagglddgkjkmaaGreatG11
import Derived.Test.YteagglddgkjkmaaGreatG06
import Derived.LoopN
import Derived.Deep.Cut
import Derived.Test.YteagglddgkjkmaaGreatG10
import Derived.Test.YteagglddgkjkmaaGreatG09
import Derived.Laws.Tables

/- Contract of the document's own Closed. -/
namespace Go.Proofs.YteagglddgkjkmaaGreat.Words
set_option maxRecDepth 100000
open Go.RowKit
set_option linter.unusedVariables false
set_option linter.unusedSimpArgs false

section
variable {P : Program} {ops : Array Oper} {Q : Exit → Act → World → Prop}
theorem lin_skipF {op : Oper} {rest : List (Option Oper × Bool)} {S : World → Prop} {a : Act} {w : World} (hS : S w)
    (hw : Region.wanted op (yielded ops a.tmps) = false) (h : wpLin P ops Q rest S (a.put op.dst undef) w) : wpLin P ops Q ((some op, false) :: rest) S a w :=
  ⟨S, fun _ h => h, hS, by unfold linStep; rw [if_neg (by rw [hw]; decide)]; exact ⟨hS, h⟩⟩
end
theorem free_mem {o : List Int} {i : Ins} (ho : atO o 0 = 0) (hi : rightB i = true) (hm : formZ i.op = 4 ∨ formZ i.op = 5) : freeB o i = !onEB o i.a := by
  have hr := right_range hi
  unfold freeB needZ
  rw [if_pos (show memB i.op = true from decide_eq_true hm)]
  unfold anyEB onEB
  simp only [List.any_cons, List.any_nil, Bool.or_false]
  by_cases h : 0 < i.a
  · rw [decide_eq_true h, Bool.true_and]
  · rw [show i.a = 0 from by omega, ho]; rfl
theorem free_rec {o : List Int} {i : Ins} (ho : atO o 0 = 0) (h1 : 1 ≤ formZ i.op) (h3 : formZ i.op ≤ 3) : freeB o i = if 0 < i.d ∧ atO o i.d = 1 then !anyEB (readsZ i) o else true := by
  unfold freeB needZ
  rw [if_neg (by unfold memB; rw [decide_eq_true_eq]; omega)]
  have hr : recB i.op = true := decide_eq_true ⟨h1, h3⟩
  by_cases hd : atO o i.d = 1
  · rw [if_pos ⟨hr, hd⟩]
    by_cases h0 : 0 < i.d
    · rw [if_pos ⟨h0, hd⟩]
    · exfalso
      have : i.d.toNat = (0 : Int).toNat := by omega
      unfold atO at ho hd
      rw [this, ho] at hd; omega
  · rw [if_neg (fun c => hd c.2), if_neg (fun c => hd c.2)]; rfl
theorem free_no {o : List Int} {i : Ins} (h : 6 ≤ formZ i.op) : freeB o i = true := by
  unfold freeB needZ
  rw [if_neg (by unfold memB; rw [decide_eq_true_eq]; omega), if_neg (by unfold recB; rw [decide_eq_true_eq]; omega)]; rfl

set_option maxHeartbeats 16000000 in
theorem refClosed_any (A : Option Addr) (c : Nat) (sz : Int) (A' : Option Addr) (m c' : Nat) (l : List Ins) (o : List Int) (w : World) (hr : Row w w.heap.size 5 (.slice A l.length c) l.length (codeCells l)) (hm : m ≤ c') (hc' : c' ≤ 9223372036854775807) (ho : o.length = 16) :
    Calls Tryz.prog 46 #[.agg #[.slice A l.length c, .int .i64 sz, .slice A' m c'], .agg (oV o).toArray] w fun e w' => e = .returned (.bool (closedZ l sz m o)) ∧ Below w.heap.size w w' := by
  obtain ⟨W1, hW1⟩ : ∃ W1, W1 = w.alloc (.cells #[.slice A l.length c, .int .i64 sz, .slice A' m c'] 28) := ⟨_, rfl⟩
  obtain ⟨W2, hW2⟩ : ∃ W2, W2 = W1.alloc (.cells (oV o).toArray 30) := ⟨_, rfl⟩
  have hz1 : W1.heap.size = w.heap.size + 1 := by rw [hW1]; simp
  have hz2 : W2.heap.size = w.heap.size + 2 := by rw [hW2]; simp [hz1]
  have hK : Below w.heap.size w W2 := by rw [hW2, hW1]; exact ((Below.refl w.heap.size w).alloc (Nat.le_refl _) _).alloc (by simp) _
  have HB0 : Box W2 (w.heap.size + 1) (oV o) := by rw [hW2, ← hz1]; exact Box.new W1 (oV o) _
  have HI : Box W2 w.heap.size [.slice A l.length c, .int .i64 sz, .slice A' m c'] := by
    rw [hW2]; refine Box.alloc ?_ _; rw [hW1]; exact Box.new w [.slice A l.length c, .int .i64 sz, .slice A' m c'] _
  have HRR := Lib.hid (show Row W2 W2.heap.size 5 (.slice A l.length c) l.length (codeCells l) from (hr.below hK).more (by omega))
  have HB := Lib.hid HB0
  have HIB := Lib.hid HI
  have HKK := Lib.hid hK
  have HO := Lib.hid ho
  have HCL := Lib.hid (show closedZ l sz m o = (ownersB o && rightZ l sz m && l.all (freeB o)) from rfl)
  have HOB := Lib.hid (show ownersB o = (decide (atO o 0 = 0) && (List.range 15).all fun k => decide (atO o ((k : Int) + 1) = 1 ∨ atO o ((k : Int) + 1) = 2)) from rfl)
  have c0 := HI.cell (k := 0) rfl
  have c1 := HI.cell (k := 1) rfl
  have c2 := HI.cell (k := 2) rfl
  obtain ⟨hcl, hcm⟩ := hr.cap
  clear HI HB0 hK hr ho
  go_enter Tryz.func46, Tryz.ntmps46
  go_wp2_with fail
  rw [← hW1, ← hW2]
  clear hW1 hW2
  have k0 := Kept.refl W2
  refine (refRight_any A c sz A' m c' l _ HRR.out hm hc').mono ?_; rintro e w1 ⟨rfl, hb1⟩
  have k1 := k0.to hb1
  have HK1 := Lib.hid (HKK.out.trans (Below.mono k1 (by omega)))
  clear hb1 c0 c1 c2
  cases hri : rightZ l sz m
  · have HL := Lib.hid (show closedZ l sz m o = false by rw [HCL.out, hri, Bool.and_false]; rfl)
    go_wp2_with fail
    go_ret
    exact ⟨ret_bool HL.out.symm, HK1.out⟩
  have HB1 := Lib.hid (HB.out.kept k1)
  have HI1 := Lib.hid (HIB.out.kept k1)
  have HR1 := Lib.hid (k1.row HRR.out)
  have o0 := HB1.out.cell (oV_at HO.out (n := 0) (by omega))
  rw [show (((0 : Nat) : Int)) = 0 from rfl] at o0
  have HRI := Lib.hid hri
  have hz3 : w.heap.size + 2 ≤ w1.heap.size := by have := k1.size; omega
  clear hri k0 k1 HB HIB HRR HKK
  by_cases hq0 : atO o 0 = 0
  rotate_left
  · have HL := Lib.hid (show closedZ l sz m o = false by rw [HCL.out, HOB.out, decide_eq_false hq0]; rfl)
    have q0 : (atO o 0 != 0) = true := by simpa using hq0
    clear hq0
    go_wp2_with fail
    go_ret
    exact ⟨ret_bool HL.out.symm, HK1.out⟩
  have HQ0 := Lib.hid hq0
  have HOS := Lib.hid (show ownersB o = ((List.range 15).drop 0).all fun k => decide (atO o ((k : Int) + 1) = 1 ∨ atO o ((k : Int) + 1) = 2) by rw [HOB.out, decide_eq_true hq0, List.drop_zero, Bool.true_and])
  rw [hq0] at o0
  clear hq0
  go_wp2_with fail
  go_loopw [5] (fun ii wr => ∃ k : Nat, 1 ≤ k ∧ k ≤ 16 ∧ ii = .int .i64 k ∧ wr = w1 ∧ ownersB o = ((List.range 15).drop (k - 1)).all fun k => decide (atO o ((k : Int) + 1) = 1 ∨ atO o ((k : Int) + 1) = 2)) (fun ii _ => 16 - (intOf ii).toNat)
  case atStart => exact ⟨1, Nat.le_refl _, by omega, rfl, rfl, HOS.out⟩
  case round =>
    obtain ⟨j, hj1, hj, rfl, rfl, hT⟩ := hrel
    have HT := Lib.hid hT
    clear hT
    by_cases hlt : j < 16
    · have hst := owners_step HO.out (j - 1) (by omega) (fun k => decide (atO o ((k : Int) + 1) = 1 ∨ atO o ((k : Int) + 1) = 2))
      rw [show ((j - 1 : Nat) : Int) + 1 = j from by omega, show j - 1 + 1 = j + 1 - 1 from by omega] at hst
      have HST := Lib.hid hst
      clear hst
      have d1 := HB1.out.cell (oV_at HO.out (n := j) (by omega))
      have k0 : (0 : Int) ≤ j := by omega
      have k1 : (j : Int) < 16 := by omega
      by_cases h1 : atO o j = 1
      · have HG := Lib.hid (show decide (atO o j = 1 ∨ atO o j = 2) = true from decide_eq_true (.inl h1))
        rw [h1] at d1
        clear h1
        go_wp2_with fail
        go_roundw
        case rel => exact ⟨j + 1, by omega, by omega, by go_num, by first | rfl | trivial, by rw [HT.out, HST.out, HG.out]; rfl⟩
        case measure => simp only [intOf]; omega
      by_cases h2 : atO o j = 2
      · have HG := Lib.hid (show decide (atO o j = 1 ∨ atO o j = 2) = true from decide_eq_true (.inr h2))
        rw [h2] at d1
        clear h1 h2
        go_wp2_with fail
        go_roundw
        case rel => exact ⟨j + 1, by omega, by omega, by go_num, by first | rfl | trivial, by rw [HT.out, HST.out, HG.out]; rfl⟩
        case measure => simp only [intOf]; omega
      · have HG := Lib.hid (show decide (atO o j = 1 ∨ atO o j = 2) = false from decide_eq_false (fun h => h.elim h1 h2))
        have q1 : (atO o j != 1) = true := by simpa using h1
        have q2 : (atO o j != 2) = true := by simpa using h2
        have HL := Lib.hid (show closedZ l sz m o = false by rw [HCL.out, HT.out, HST.out, HG.out]; rfl)
        clear h1 h2
        go_wp2_with fail
        go_ret
        exact ⟨ret_bool HL.out.symm, HK1.out⟩
    · have g1 : ¬ ((j : Int) < 16) := by omega
      have HCA := Lib.hid (show closedZ l sz m o = (l.drop 0).all (freeB o) by rw [HCL.out, HT.out, HRI.out, List.drop_eq_nil_of_le (show (List.range 15).length ≤ j - 1 from by simp; omega), List.drop_zero]; rfl)
      obtain ⟨hl2, hall⟩ := rightZ_ins HRI.out
      have HC := Lib.hid hall
      have HAT := Lib.hid (fun (j : Nat) (i : Ins) (h : l[j]? = some i) => all_at (f := freeB o) h)
      have HAE := Lib.hid (fun (j : Nat) (h : l.length ≤ j) => (show (l.drop j).all (freeB o) = true by rw [List.drop_eq_nil_of_le h]; rfl))
      clear hall HCL HT HRI HOB HOS o0
      generalize hn : l.length = n at HI1 hl2 hcl ⊢
      have Hn := Lib.hid hn
      clear hn
      go_wp2_with fail
      go_loopw [6] (fun ii wx => ∃ j : Nat, j ≤ n ∧ ii = .int .i64 j ∧ Kept wr wx ∧ closedZ l sz m o = (l.drop j).all (freeB o)) (fun ii _ => n - (intOf ii).toNat)
      case atStart => exact ⟨0, Nat.zero_le _, rfl, Kept.refl _, HCA.out⟩
      case round =>
        obtain ⟨j, hj, rfl, hkw, hF⟩ := hrel
        have HKW := Lib.hid hkw
        have HF := Lib.hid hF
        clear hkw hF
        have c0 := (HI1.out.kept HKW.out).cell (k := 0) rfl
        by_cases hlj : j < n
        · have hl : j < l.length := by rw [Hn.out]; exact hlj
          obtain ⟨i, hi⟩ : ∃ i, l[j]? = some i := ⟨_, List.getElem?_eq_getElem hl⟩
          have HRI := Lib.hid (HC.out i (List.mem_of_getElem? hi))
          have hrow := HKW.out.row HR1.out
          obtain ⟨g, off, rfl, hg, _⟩ := hrow.at_ (by omega)
          obtain ⟨d0, d1, d2, d3, d4⟩ := hrow.ins hi
          have HST := Lib.hid (HF.out.trans (HAT.out j i hi))
          have k0 : (0 : Int) ≤ j := by omega
          have k1 : (j : Int) < n := by omega
          have HXI := Lib.hid (Box.new wr (insV i) 44)
          have HBW := Lib.hid ((HB1.out.kept HKW.out).alloc (.cells (insV i).toArray 44))
          have hkz := HKW.out.size
          have HKA0 := HKW.out.alloc (.cells (insV i).toArray 44)
          have HKA := Lib.hid HKA0
          clear hi hl hrow HKA0
          go_wp2_with fail
          change Calls _ _ _ (wr.alloc (.cells (insV i).toArray 44)) _
          obtain ⟨xb, hxb⟩ : ∃ xb, xb = wr.heap.size := ⟨_, rfl⟩
          rw [← hxb] at HXI hkz ⊢
          clear hxb d0 d1 d2 d3 d4 c0
          generalize wr.alloc (.cells (insV i).toArray 44) = Y at *
          refine (refForm_any _ _).mono ?_; rintro e w5 ⟨rfl, rfl⟩
          try dsimp only
          have HF8 := Lib.hid (formZ_range i.op)
          have HRG := Lib.hid (right_range HRI.out)
          have hbz := HXI.out.lt
          have e0 := HXI.out.cell (k := 0) rfl
          have HF1 := Lib.hid (show formZ i.op ≠ 0 from by
            have h := HRI.out
            unfold rightB at h
            simp only [Bool.and_eq_true, decide_eq_true_eq] at h
            exact h.1.1.1.1)
          have HM := Lib.hid (fun h => free_mem (o := o) (i := i) HQ0.out HRI.out h)
          have HRC := Lib.hid (fun h1 h3 => free_rec (o := o) (i := i) HQ0.out h1 h3)
          have HNO := Lib.hid (fun h => free_no (o := o) (i := i) h)
          have HKE := Lib.hid (HK1.out.trans (Below.mono HKA.out (by omega)))
          generalize hf : formZ i.op = f at *
          clear hf
          by_cases hf4 : f = 4
          · subst hf4
            have e2 := HXI.out.cell (k := 2) rfl
            have HFM := Lib.hid (HM.out (by decide))
            clear HM HRC HNO
            go_wp2_with (first
              | (refine wpList_load_box rfl 30 (.tmp 3) rfl (w.heap.size + 1) 0 rfl (oV o) (oV o) HBW.out whole_at _ Tryz.underlying30 rfl 16 (by kernel_rfl) ((oV_len o).trans HO.out) ?_))
            refine (refOnE_any o i.a _ HO.out (HRG.out.2.2.1.2)).mono ?_; rintro e w6 ⟨rfl, hb6⟩
            have HK6 := Lib.hid (HKA.out.to hb6)
            have HKE6 := Lib.hid (HKE.out.trans (hb6.mono (by have := HKE.out.size; omega)))
            clear hb6
            cases hq : onEB o i.a
            · have HE := Lib.hid (show freeB o i = true by rw [HFM.out, hq]; rfl)
              clear hq e2 e0
              go_wp2_with fail
              refine wp_region_lin [(0, true), (1, true), (2, true), (3, true), (4, true), (5, true), (6, true), (7, true), (8, true), (9, true), (10, true), (11, true), (12, true), (13, true), (14, true), (15, true), (16, true), (17, true), (18, true), (19, true), (20, true), (21, false), (22, false), (23, true)]
                (by kernel_rfl) (by kernel_rfl) rfl (by kernel_rfl) (Kept w6) ?_
              have k9 : Kept w6 w6.drew := (Kept.refl w6).drew
              simp only [List.map_cons, List.map_nil, List.getElem?_toArray, List.getElem?_cons_succ, List.getElem?_cons_zero]
              iterate 7 (refine lin_take (v := ?_) (by assumption) (by rfl) ?_ ?_; rotate_left; (intro x hx; (try dsimp only at hx); (try have d1 := D1.out x hx); (try have f1 := F1.out x hx); go_simp; try (with_reducible rfl)); (try simp only [Act.put, List.setIfInBounds_toArray, List.set_cons_zero, List.set_cons_succ]))
              iterate 3 (refine lin_skip (by assumption) (by rfl) ?_; (try simp only [Act.put, List.setIfInBounds_toArray, List.set_cons_zero, List.set_cons_succ]))
              iterate 2 (refine lin_take (v := ?_) (by assumption) (by rfl) ?_ ?_; rotate_left; (intro x hx; (try dsimp only at hx); (try have d1 := D1.out x hx); (try have f1 := F1.out x hx); go_simp; try (with_reducible rfl)); (try simp only [Act.put, List.setIfInBounds_toArray, List.set_cons_zero, List.set_cons_succ]))
              iterate 5 (refine lin_skip (by assumption) (by rfl) ?_; (try simp only [Act.put, List.setIfInBounds_toArray, List.set_cons_zero, List.set_cons_succ]))
              iterate 2 (refine lin_take (v := ?_) (by assumption) (by rfl) ?_ ?_; rotate_left; (intro x hx; (try dsimp only at hx); (try have d1 := D1.out x hx); (try have f1 := F1.out x hx); go_simp; try (with_reducible rfl)); (try simp only [Act.put, List.setIfInBounds_toArray, List.set_cons_zero, List.set_cons_succ]))
              iterate 2 (refine lin_skip (by assumption) (by rfl) ?_; (try simp only [Act.put, List.setIfInBounds_toArray, List.set_cons_zero, List.set_cons_succ]))
              iterate 2 (refine lin_skipF (by assumption) (by rfl) ?_; (try simp only [Act.put, List.setIfInBounds_toArray, List.set_cons_zero, List.set_cons_succ]))
              iterate 1 (refine lin_take (v := ?_) (by assumption) (by rfl) ?_ ?_; rotate_left; (intro x hx; (try dsimp only at hx); (try have d1 := D1.out x hx); (try have f1 := F1.out x hx); go_simp; try (with_reducible rfl)); (try simp only [Act.put, List.setIfInBounds_toArray, List.set_cons_zero, List.set_cons_succ]))
              refine lin_done ?_
              go_wp2_with fail
              go_roundw
              case rel => exact ⟨j + 1, by omega, by go_num, HK6.out.drew, by rw [HST.out, HE.out, Bool.true_and]⟩
              case measure => simp only [intOf]; omega
            · have HE := Lib.hid (show freeB o i = false by rw [HFM.out, hq]; rfl)
              clear hq e2 e0
              go_wp2_with fail
              go_ret
              exact ⟨ret_bool (by rw [HST.out, HE.out]; rfl), HKE6.out⟩
          by_cases hf5 : f = 5
          · subst hf5
            have e2 := HXI.out.cell (k := 2) rfl
            have HFM := Lib.hid (HM.out (by decide))
            clear HM HRC HNO
            go_wp2_with (first
              | (refine wpList_load_box rfl 30 (.tmp 3) rfl (w.heap.size + 1) 0 rfl (oV o) (oV o) HBW.out whole_at _ Tryz.underlying30 rfl 16 (by kernel_rfl) ((oV_len o).trans HO.out) ?_))
            refine (refOnE_any o i.a _ HO.out (HRG.out.2.2.1.2)).mono ?_; rintro e w6 ⟨rfl, hb6⟩
            have HK6 := Lib.hid (HKA.out.to hb6)
            have HKE6 := Lib.hid (HKE.out.trans (hb6.mono (by have := HKE.out.size; omega)))
            clear hb6
            cases hq : onEB o i.a
            · have HE := Lib.hid (show freeB o i = true by rw [HFM.out, hq]; rfl)
              clear hq e2 e0
              go_wp2_with fail
              refine wp_region_lin [(0, true), (1, true), (2, true), (3, true), (4, true), (5, true), (6, true), (7, true), (8, true), (9, true), (10, true), (11, true), (12, true), (13, true), (14, true), (15, true), (16, true), (17, true), (18, true), (19, true), (20, true), (21, false), (22, false), (23, true)]
                (by kernel_rfl) (by kernel_rfl) rfl (by kernel_rfl) (Kept w6) ?_
              have k9 : Kept w6 w6.drew := (Kept.refl w6).drew
              simp only [List.map_cons, List.map_nil, List.getElem?_toArray, List.getElem?_cons_succ, List.getElem?_cons_zero]
              iterate 7 (refine lin_take (v := ?_) (by assumption) (by rfl) ?_ ?_; rotate_left; (intro x hx; (try dsimp only at hx); (try have d1 := D1.out x hx); (try have f1 := F1.out x hx); go_simp; try (with_reducible rfl)); (try simp only [Act.put, List.setIfInBounds_toArray, List.set_cons_zero, List.set_cons_succ]))
              iterate 3 (refine lin_skip (by assumption) (by rfl) ?_; (try simp only [Act.put, List.setIfInBounds_toArray, List.set_cons_zero, List.set_cons_succ]))
              iterate 2 (refine lin_take (v := ?_) (by assumption) (by rfl) ?_ ?_; rotate_left; (intro x hx; (try dsimp only at hx); (try have d1 := D1.out x hx); (try have f1 := F1.out x hx); go_simp; try (with_reducible rfl)); (try simp only [Act.put, List.setIfInBounds_toArray, List.set_cons_zero, List.set_cons_succ]))
              iterate 5 (refine lin_skip (by assumption) (by rfl) ?_; (try simp only [Act.put, List.setIfInBounds_toArray, List.set_cons_zero, List.set_cons_succ]))
              iterate 2 (refine lin_take (v := ?_) (by assumption) (by rfl) ?_ ?_; rotate_left; (intro x hx; (try dsimp only at hx); (try have d1 := D1.out x hx); (try have f1 := F1.out x hx); go_simp; try (with_reducible rfl)); (try simp only [Act.put, List.setIfInBounds_toArray, List.set_cons_zero, List.set_cons_succ]))
              iterate 2 (refine lin_skip (by assumption) (by rfl) ?_; (try simp only [Act.put, List.setIfInBounds_toArray, List.set_cons_zero, List.set_cons_succ]))
              iterate 2 (refine lin_skipF (by assumption) (by rfl) ?_; (try simp only [Act.put, List.setIfInBounds_toArray, List.set_cons_zero, List.set_cons_succ]))
              iterate 1 (refine lin_take (v := ?_) (by assumption) (by rfl) ?_ ?_; rotate_left; (intro x hx; (try dsimp only at hx); (try have d1 := D1.out x hx); (try have f1 := F1.out x hx); go_simp; try (with_reducible rfl)); (try simp only [Act.put, List.setIfInBounds_toArray, List.set_cons_zero, List.set_cons_succ]))
              refine lin_done ?_
              go_wp2_with fail
              go_roundw
              case rel => exact ⟨j + 1, by omega, by go_num, HK6.out.drew, by rw [HST.out, HE.out, Bool.true_and]⟩
              case measure => simp only [intOf]; omega
            · have HE := Lib.hid (show freeB o i = false by rw [HFM.out, hq]; rfl)
              clear hq e2 e0
              go_wp2_with fail
              go_ret
              exact ⟨ret_bool (by rw [HST.out, HE.out]; rfl), HKE6.out⟩
          have q4 : (f == 4) = false := by simpa using hf4
          have q5 : (f == 5) = false := by simpa using hf5
          have HF8 := HF8.out
          have HF1 := HF1.out
          have D1 := Lib.hid (fun (x : World) (h : Kept Y x) => h.cell hbz (HXI.out.cell (k := 1) rfl))
          have G5 : decide ((1 : Int) ≤ f) = true := decide_eq_true (by omega)
          by_cases h3 : f ≤ 3
          rotate_left
          · have HE := Lib.hid (HNO.out (by omega))
            have G3 : decide (f ≤ 3) = false := decide_eq_false h3
            clear hf4 hf5 HF8 HF1 h3
            go_wp2_with fail
            refine wp_region_lin [(0, true), (1, true), (2, true), (3, true), (4, true), (5, true), (6, true), (7, true), (8, true), (9, true), (10, true), (11, true), (12, true), (13, true), (14, true), (15, true), (16, true), (17, true), (18, true), (19, true), (20, true), (21, false), (22, false), (23, true)]
              (by kernel_rfl) (by kernel_rfl) rfl (by kernel_rfl) (Kept Y) ?_
            have k9 : Kept Y Y.drew := (Kept.refl Y).drew
            simp only [List.map_cons, List.map_nil, List.getElem?_toArray, List.getElem?_cons_succ, List.getElem?_cons_zero]
            iterate 7 (refine lin_take (v := ?_) (by assumption) (by rfl) ?_ ?_; rotate_left; (intro x hx; (try dsimp only at hx); (try have d1 := D1.out x hx); (try have f1 := F1.out x hx); go_simp; try (with_reducible rfl)); (try simp only [Act.put, List.setIfInBounds_toArray, List.set_cons_zero, List.set_cons_succ]))
            iterate 3 (refine lin_skip (by assumption) (by rfl) ?_; (try simp only [Act.put, List.setIfInBounds_toArray, List.set_cons_zero, List.set_cons_succ]))
            iterate 2 (refine lin_take (v := ?_) (by assumption) (by rfl) ?_ ?_; rotate_left; (intro x hx; (try dsimp only at hx); (try have d1 := D1.out x hx); (try have f1 := F1.out x hx); go_simp; try (with_reducible rfl)); (try simp only [Act.put, List.setIfInBounds_toArray, List.set_cons_zero, List.set_cons_succ]))
            iterate 5 (refine lin_skip (by assumption) (by rfl) ?_; (try simp only [Act.put, List.setIfInBounds_toArray, List.set_cons_zero, List.set_cons_succ]))
            iterate 2 (refine lin_take (v := ?_) (by assumption) (by rfl) ?_ ?_; rotate_left; (intro x hx; (try dsimp only at hx); (try have d1 := D1.out x hx); (try have f1 := F1.out x hx); go_simp; try (with_reducible rfl)); (try simp only [Act.put, List.setIfInBounds_toArray, List.set_cons_zero, List.set_cons_succ]))
            iterate 2 (refine lin_skip (by assumption) (by rfl) ?_; (try simp only [Act.put, List.setIfInBounds_toArray, List.set_cons_zero, List.set_cons_succ]))
            iterate 2 (refine lin_skipF (by assumption) (by rfl) ?_; (try simp only [Act.put, List.setIfInBounds_toArray, List.set_cons_zero, List.set_cons_succ]))
            iterate 1 (refine lin_take (v := ?_) (by assumption) (by rfl) ?_ ?_; rotate_left; (intro x hx; (try dsimp only at hx); (try have d1 := D1.out x hx); (try have f1 := F1.out x hx); go_simp; try (with_reducible rfl)); (try simp only [Act.put, List.setIfInBounds_toArray, List.set_cons_zero, List.set_cons_succ]))
            refine lin_done ?_
            go_wp2_with fail
            go_roundw
            case rel => exact ⟨j + 1, by omega, by go_num, HKA.out.drew, by rw [HST.out, HE.out, Bool.true_and]⟩
            case measure => simp only [intOf]; omega
          have HRC2 := Lib.hid (HRC.out (by omega) h3)
          have G3 : decide (f ≤ 3) = true := decide_eq_true h3
          clear hf4 hf5 HF8 HF1 h3
          by_cases hd : 0 < i.d
          rotate_left
          · have HE := Lib.hid (HRC2.out.trans (if_neg (fun h => hd h.1)))
            have G4 : decide (0 < i.d) = false := decide_eq_false hd
            clear hd
            go_wp2_with fail
            refine wp_region_lin [(0, true), (1, true), (2, true), (3, true), (4, true), (5, true), (6, true), (7, true), (8, true), (9, true), (10, true), (11, true), (12, true), (13, true), (14, true), (15, true), (16, true), (17, true), (18, true), (19, true), (20, true), (21, false), (22, false), (23, true)]
              (by kernel_rfl) (by kernel_rfl) rfl (by kernel_rfl) (Kept Y) ?_
            have k9 : Kept Y Y.drew := (Kept.refl Y).drew
            simp only [List.map_cons, List.map_nil, List.getElem?_toArray, List.getElem?_cons_succ, List.getElem?_cons_zero]
            iterate 12 (refine lin_take (v := ?_) (by assumption) (by rfl) ?_ ?_; rotate_left; (intro x hx; (try dsimp only at hx); (try have d1 := D1.out x hx); (try have f1 := F1.out x hx); go_simp; try (with_reducible rfl)); (try simp only [Act.put, List.setIfInBounds_toArray, List.set_cons_zero, List.set_cons_succ]))
            iterate 5 (refine lin_skip (by assumption) (by rfl) ?_; (try simp only [Act.put, List.setIfInBounds_toArray, List.set_cons_zero, List.set_cons_succ]))
            iterate 2 (refine lin_take (v := ?_) (by assumption) (by rfl) ?_ ?_; rotate_left; (intro x hx; (try dsimp only at hx); (try have d1 := D1.out x hx); (try have f1 := F1.out x hx); go_simp; try (with_reducible rfl)); (try simp only [Act.put, List.setIfInBounds_toArray, List.set_cons_zero, List.set_cons_succ]))
            iterate 2 (refine lin_skip (by assumption) (by rfl) ?_; (try simp only [Act.put, List.setIfInBounds_toArray, List.set_cons_zero, List.set_cons_succ]))
            iterate 2 (refine lin_skipF (by assumption) (by rfl) ?_; (try simp only [Act.put, List.setIfInBounds_toArray, List.set_cons_zero, List.set_cons_succ]))
            iterate 1 (refine lin_take (v := ?_) (by assumption) (by rfl) ?_ ?_; rotate_left; (intro x hx; (try dsimp only at hx); (try have d1 := D1.out x hx); (try have f1 := F1.out x hx); go_simp; try (with_reducible rfl)); (try simp only [Act.put, List.setIfInBounds_toArray, List.set_cons_zero, List.set_cons_succ]))
            refine lin_done ?_
            go_wp2_with fail
            go_roundw
            case rel => exact ⟨j + 1, by omega, by go_num, HKA.out.drew, by rw [HST.out, HE.out, Bool.true_and]⟩
            case measure => simp only [intOf]; omega
          have G4 : decide (0 < i.d) = true := decide_eq_true hd
          have b0 : 0 ≤ i.d := HRG.out.2.1.1
          have b15 : i.d < 16 := by have := HRG.out.2.1.2; omega
          have f1 := HBW.out.cell (oV_at HO.out (n := i.d.toNat) (by omega))
          rw [show ((i.d.toNat : Nat) : Int) = i.d from by omega] at f1
          have hbw := HBW.out.lt
          have F1 := Lib.hid (fun (x : World) (h : Kept Y x) => h.cell hbw f1)
          clear f1
          cases hq : (atO o i.d == 1)
          · have HE := Lib.hid (HRC2.out.trans (if_neg (fun h => by rw [h.2] at hq; exact absurd hq (by decide))))
            clear hd
            go_wp2_with fail
            refine wp_region_lin [(0, true), (1, true), (2, true), (3, true), (4, true), (5, true), (6, true), (7, true), (8, true), (9, true), (10, true), (11, true), (12, true), (13, true), (14, true), (15, true), (16, true), (17, true), (18, true), (19, true), (20, true), (21, false), (22, false), (23, true)]
              (by kernel_rfl) (by kernel_rfl) rfl (by kernel_rfl) (Kept Y) ?_
            have k9 : Kept Y Y.drew := (Kept.refl Y).drew
            simp only [List.map_cons, List.map_nil, List.getElem?_toArray, List.getElem?_cons_succ, List.getElem?_cons_zero]
            iterate 19 (refine lin_take (v := ?_) (by assumption) (by rfl) ?_ ?_; rotate_left; (intro x hx; (try dsimp only at hx); (try have d1 := D1.out x hx); (try have f1 := F1.out x hx); go_simp; try (with_reducible rfl)); (try simp only [Act.put, List.setIfInBounds_toArray, List.set_cons_zero, List.set_cons_succ]))
            iterate 2 (refine lin_skip (by assumption) (by rfl) ?_; (try simp only [Act.put, List.setIfInBounds_toArray, List.set_cons_zero, List.set_cons_succ]))
            iterate 2 (refine lin_skipF (by assumption) (by rfl) ?_; (try simp only [Act.put, List.setIfInBounds_toArray, List.set_cons_zero, List.set_cons_succ]))
            iterate 1 (refine lin_take (v := ?_) (by assumption) (by rfl) ?_ ?_; rotate_left; (intro x hx; (try dsimp only at hx); (try have d1 := D1.out x hx); (try have f1 := F1.out x hx); go_simp; try (with_reducible rfl)); (try simp only [Act.put, List.setIfInBounds_toArray, List.set_cons_zero, List.set_cons_succ]))
            refine lin_done ?_
            go_wp2_with fail
            go_roundw
            case rel => exact ⟨j + 1, by omega, by go_num, HKA.out.drew, by rw [HST.out, HE.out, Bool.true_and]⟩
            case measure => simp only [intOf]; omega
          have HE := Lib.hid (HRC2.out.trans (if_pos ⟨hd, by simpa using hq⟩))
          have HRL := Lib.hid (reads_len i)
          clear hd
          go_wp2_with fail
          refine wp_region_lin [(0, true), (1, true), (2, true), (3, true), (4, true), (5, true), (6, true), (7, true), (8, true), (9, true), (10, true), (11, true), (12, true), (13, true), (14, true), (15, true), (16, true), (17, true), (18, true), (19, true), (20, true), (21, false), (22, false), (23, true)]
            (by kernel_rfl) (by kernel_rfl) rfl (by kernel_rfl) (Kept Y) ?_
          have k9 : Kept Y Y.drew := (Kept.refl Y).drew
          simp only [List.map_cons, List.map_nil, List.getElem?_toArray, List.getElem?_cons_succ, List.getElem?_cons_zero]
          iterate 19 (refine lin_take (v := ?_) (by assumption) (by rfl) ?_ ?_; rotate_left; (intro x hx; (try dsimp only at hx); (try have d1 := D1.out x hx); (try have f1 := F1.out x hx); go_simp; try (with_reducible rfl)); (try simp only [Act.put, List.setIfInBounds_toArray, List.set_cons_zero, List.set_cons_succ]))
          refine lin_take_box k9 rfl 30 (.tmp 3) rfl (w.heap.size + 1) 0 rfl (oV o) (oV o) (fun y hy => HBW.out.kept hy) whole_at _ Tryz.underlying30 rfl 16 (by kernel_rfl) ((oV_len o).trans HO.out) ?_
          (try simp only [Act.put, List.setIfInBounds_toArray, List.set_cons_zero, List.set_cons_succ])
          refine lin_take_box k9 rfl 44 (.tmp 7) rfl xb 0 rfl (insV i) (insV i) (fun y hy => HXI.out.kept hy) whole_at _ Tryz.underlying44 rfl 5 (by kernel_rfl) rfl ?_
          (try simp only [Act.put, List.setIfInBounds_toArray, List.set_cons_zero, List.set_cons_succ])
          refine lin_call k9 (by rfl) (fun K hK => ?_)
          go_simp
          refine (refReadsN_any i _).mono ?_; rintro e w6 ⟨v, rfl, hrow6, hnew, hb6⟩
          go_wp2_with fail
          have k10 := k9.to hb6
          refine hK.out _ _ k10 (fun _ => ?_)
          clear hK K hb6 hnew
          obtain ⟨A6, c6, rfl⟩ := hrow6.form
          (try simp only [Act.put, List.setIfInBounds_toArray, List.set_cons_zero, List.set_cons_succ])
          refine lin_call k10 (by rfl) (fun K hK => ?_)
          go_simp
          refine (refAnyE_any A6 c6 (readsZ i) o _ HO.out hrow6 (fun r hr => by have := reads_mem hr; omega) (by have := HRL.out; omega)).mono ?_; rintro e w7 ⟨rfl, hb7⟩
          go_wp2_with fail
          have k11 := k10.to hb7
          refine hK.out _ _ k11 (fun _ => ?_)
          clear hK K hb7
          (try simp only [Act.put, List.setIfInBounds_toArray, List.set_cons_zero, List.set_cons_succ])
          have HK7 := Lib.hid (HKA.out.trans k11)
          have HKE7 := Lib.hid (HK1.out.trans (Below.mono HK7.out (by omega)))
          cases hr : anyEB (readsZ i) o
          · have HE2 := Lib.hid (show freeB o i = true by rw [HE.out, hr]; rfl)
            iterate 1 (refine lin_take (v := ?_) (by assumption) (by rfl) ?_ ?_; rotate_left; (intro x hx; (try dsimp only at hx); (try have d1 := D1.out x hx); (try have f1 := F1.out x hx); go_simp; try (with_reducible rfl)); (try simp only [Act.put, List.setIfInBounds_toArray, List.set_cons_zero, List.set_cons_succ]))
            refine lin_done ?_
            go_wp2_with fail
            go_roundw
            case rel => exact ⟨j + 1, by omega, by go_num, HK7.out, by rw [HST.out, HE2.out, Bool.true_and]⟩
            case measure => simp only [intOf]; omega
          · have HE2 := Lib.hid (show freeB o i = false by rw [HE.out, hr]; rfl)
            iterate 1 (refine lin_take (v := ?_) (by assumption) (by rfl) ?_ ?_; rotate_left; (intro x hx; (try dsimp only at hx); (try have d1 := D1.out x hx); (try have f1 := F1.out x hx); go_simp; try (with_reducible rfl)); (try simp only [Act.put, List.setIfInBounds_toArray, List.set_cons_zero, List.set_cons_succ]))
            refine lin_done ?_
            go_wp2_with fail
            go_ret
            exact ⟨ret_bool (by rw [HST.out, HE2.out]; rfl), HKE7.out⟩
        · have HKE := Lib.hid (HK1.out.trans (Below.mono HKW.out (by omega)))
          have HE := Lib.hid (HF.out.trans (HAE.out j (by rw [Hn.out]; omega)))
          go_wp2_with fail
          go_ret
          exact ⟨ret_bool HE.out.symm, HKE.out⟩
end Go.Proofs.YteagglddgkjkmaaGreat.Words

/- What both Withs share: a split's box, what With answers, and what stands while the blocks are filled. -/
namespace Go.Proofs.YteagglddgkjkmaaGreat.Words
set_option maxRecDepth 100000
open Go.RowKit
set_option linter.unusedVariables false
set_option linter.unusedSimpArgs false

theorem size_spl : (Tryz.prog.info? 32).map (·.size) = some 17 := by kernel_rfl
theorem size_prg : (Tryz.prog.info? 28).map (·.size) = some 3 := by kernel_rfl
theorem splV_one {v : Value} {o : List Int} (hv : v.oneCell' = true) : ∀ u ∈ splV v o, u.oneCell' = true := by
  intro u hu
  rcases List.mem_cons.1 hu with rfl | h
  · exact hv
  · obtain ⟨x, _, rfl⟩ := List.mem_map.1 h; rfl
def zeroSpl : List Value := splV (.slice none 0 0) zeroO
theorem spl_built_aux (v : Value) (a0 a1 a2 a3 a4 a5 a6 a7 a8 a9 a10 a11 a12 a13 a14 a15 : Int) (A : Option Addr) (n c : Nat) :
    Tryz.prog.built 32 [(0, .slice A n c), (1, .agg (oV [a0, a1, a2, a3, a4, a5, a6, a7, a8, a9, a10, a11, a12, a13, a14, a15]).toArray)] = some (splV (.slice A n c) [a0, a1, a2, a3, a4, a5, a6, a7, a8, a9, a10, a11, a12, a13, a14, a15]).toArray := by kernel_rfl
theorem spl_built (A : Option Addr) (n c : Nat) (o : List Int) (h : o.length = 16) : Tryz.prog.built 32 [(0, .slice A n c), (1, .agg (oV o).toArray)] = some (splV (.slice A n c) o).toArray := by
  match o, h with
  | [a0, a1, a2, a3, a4, a5, a6, a7, a8, a9, a10, a11, a12, a13, a14, a15], _ => exact spl_built_aux (.int .i64 0) a0 a1 a2 a3 a4 a5 a6 a7 a8 a9 a10 a11 a12 a13 a14 a15 A n c
theorem load_spl {w : World} {b : Nat} {v : Value} {o : List Int} (ho : o.length = 16) (h : Box w b (splV v o)) : (loadVar 32 ⟨b, 0, none⟩).run Tryz.prog w = .ok (.agg (splV v o).toArray) w :=
  run_loadVar_mid w b 0 32 _ _ h.whole Tryz.underlying32 rfl (by rw [splV_len ho]; exact size_spl)
/-- Blocks with their cells in memory at or behind lo. -/
def BlksN (w : World) (lo : Nat) (v : Value) (cs : List BlkC) : Prop :=
  ∃ rs : List BlkR, Row w w.heap.size 6 v cs.length (flat blkRL rs) ∧ NewV lo v ∧ rs.length = cs.length ∧ ∀ (k : Nat) (r : BlkR) (c : BlkC), rs[k]? = some r → cs[k]? = some c → BlkF w lo w.heap.size r c
theorem BlksN.blks {w : World} {lo : Nat} {v : Value} {cs : List BlkC} (h : BlksN w lo v cs) : BlksV w w.heap.size v cs := by
  obtain ⟨rs, h1, h2, h3, h4⟩ := h
  exact ⟨rs, h1, h3, fun k r c a b => (h4 k r c a b).v⟩
theorem BlksN.keepS {S : Nat → Prop} {w w' : World} {lo : Nat} {v : Value} {cs : List BlkC} (h : BlksN w lo v cs) (hk : KeepS S w w') (hS : ∀ k, S k → k < lo) : BlksN w' lo v cs := by
  obtain ⟨rs, h1, h2, h3, h4⟩ := h
  exact ⟨rs, (row_keepN h1 h2 (Nat.le_refl _) hk (fun k a _ e => by have := hS k e; omega)).more hk.size, h2, h3, fun k r c a b => ((h4 k r c a b).keepS (Nat.le_refl _) hk (fun j a _ e => by have := hS j e; omega)).more hk.size⟩
theorem BlksN.below {w w' : World} {lo : Nat} {v : Value} {cs : List BlkC} (h : BlksN w lo v cs) (hb : Below w.heap.size w w') : BlksN w' lo v cs := h.keepS (S := fun _ => False) (KeepS.of_below hb) (fun _ e => e.elim)
theorem NewV.less {a b : Nat} {v : Value} (h : NewV b v) (hab : a ≤ b) : NewV a v := fun x n c hv => Nat.le_trans hab (h x n c hv)
theorem BlksN.less {w : World} {lo lo' : Nat} {v : Value} {cs : List BlkC} (h : BlksN w lo v cs) (hl : lo' ≤ lo) : BlksN w lo' v cs := by
  obtain ⟨rs, h1, h2, h3, h4⟩ := h
  exact ⟨rs, h1, h2.less hl, h3, fun k r c a b => ⟨(h4 k r c a b).v, (h4 k r c a b).na.less hl, (h4 k r c a b).ne.less hl⟩⟩
/-- What With answers. -/
def WithOut (w : World) (cs : List BlkC) (o : List Int) (k : Int) (e : Ending) (w' : World) : Prop :=
  ∃ v, e = .returned (.tuple #[.agg (splV v o).toArray, .int .i64 k]) ∧ BlksN w' w.heap.size v cs ∧ Below w.heap.size w w'
def ownW (l : List Ins) (sz : Int) (m : Nat) (o : List Int) : List Int := if closedZ l sz m o = true then o else zeroO
def errW (l : List Ins) (sz : Int) (m : Nat) (o : List Int) : Int := if closedZ l sz m o = true then 0 else 1
theorem with_no {l : List Ins} {sz : Int} {m : Nat} {o : List Int} (h : closedZ l sz m o = false) : withZ l sz m o = [] ∧ ownW l sz m o = zeroO ∧ errW l sz m o = 1 := by
  unfold withZ ownW errW; simp [h]
theorem with_yes {l : List Ins} {sz : Int} {m : Nat} {o : List Int} (h : closedZ l sz m o = true) : withZ l sz m o = (cutR l sz m).map (fillB (zeroed o) l) ∧ ownW l sz m o = o ∧ errW l sz m o = 0 := by
  unfold withZ ownW errW; simp [h]
theorem cut_some {l : List Ins} {sz : Int} {m : Nat} {o : List Int} (h : closedZ l sz m o = true) : 0 < (cutR l sz m).length ∧ l.length ≤ 2000 := by
  unfold closedZ at h
  simp only [Bool.and_eq_true] at h
  have hr := h.1.2
  have h2 := rightZ_parts hr
  refine ⟨?_, h2.1.2⟩
  unfold cutR
  rw [if_pos hr, cutZ_len]
  exact List.length_pos_of_mem (leads_zero (by omega))
theorem exec_built {P : Program} {a : Act} {op : Oper} (t : TypeId) (parts : Array (Nat × Operand)) (ho : op.op = .build t parts) (cells : Array Value) (hb : P.built t (parts.map fun (i, x) => (i, a.eval x)).toList = some cells) (x : World) :
    (execOp a.eval op).run P x = .ok (.value (.agg cells)) x := by
  have h1 := run_build x t (parts.map fun (i, y) => (i, a.eval y)) cells hb
  unfold execOp
  rw [ho]
  simp only [Sem.run_bind]
  have h2 : (Instr.build t (parts.map fun (i, y) => (i, a.eval y))).run P x = .ok (.agg cells) x := h1
  simp only [h2]
  rfl

/-- The boxes and the code while the blocks are filled. -/
structure WithC (B BS : Nat) (A : Option Addr) (c : Nat) (sz : Int) (A' : Option Addr) (m c' : Nat) (l : List Ins) (o : List Int) (v : Value) (y : World) : Prop where
  fp : Box y B [.slice A l.length c, .int .i64 sz, .slice A' m c']
  fo : Box y (B + 1) (oV o)
  fs : Box y (B + 2) zeroSpl
  ft : Box y BS (splV v o)
  fr : Row y B 5 (.slice A l.length c) l.length (codeCells l)
theorem WithC.keepS {B BS bv : Nat} {A : Option Addr} {c : Nat} {sz : Int} {A' : Option Addr} {m c' : Nat} {l : List Ins} {o : List Int} {v : Value} {y y' : World} (h : WithC B BS A c sz A' m c' l o v y) (hk : KeepS (fun j => j = bv) y y') (hb : B + 2 < bv) (hn : BS ≠ bv) : WithC B BS A c sz A' m c' l o v y' :=
  ⟨h.fp.keepS hk (by omega), h.fo.keepS hk (by omega), h.fs.keepS hk (by omega), h.ft.keepS hk hn, h.fr.below (hk.below (Nat.le_of_lt h.fp.lt) (fun j e => by omega))⟩
theorem FsR.all_keep {base bv cap lo : Nat} {z : List Int} {l : List Ins} {bs : List Blk} {W w w' : World} {S : Nat → Prop} (h : FsR base bv cap z l bs bs.length W w) (hk : KeepS S w w') (hS : ∀ k, S k → k < bv) (hlo : lo ≤ bv) : BlksN w' lo (.slice (some ⟨bv, 0, none⟩) bs.length cap) (bs.map (fillB z l)) := by
  obtain ⟨rs, h1, _⟩ := h.f
  rw [fillTo_all] at h1
  have h2 : FilR base bv cap bs.length w' rs (bs.map (fillB z l)) := ⟨own_keepS h1.own hk (fun g hg e => by have := hS _ e; simp [Value.ownBlock] at hg; omega), h1.len, fun k r c a b => ((h1.all k r c a b).keepS (Nat.le_refl _) hk (fun j h1 _ e => by have := hS _ e; omega)).more hk.size⟩
  refine ⟨rs, ?_, ?_, h2.len, fun k r c a b => ⟨(h2.all k r c a b).v, (h2.all k r c a b).na.less (by omega), (h2.all k r c a b).ne.less (by omega)⟩⟩
  · have := Row.of_own h2.own
    rwa [List.length_map]
  · intro a n c e
    injection e with e1 _ _
    injection e1 with e1
    rw [← e1]; exact hlo
theorem splV_0 (v : Value) (o : List Int) : (splV v o)[0]? = some v := rfl
theorem bs_at {α : Type} {l : List α} {k : Nat} (h : k < l.length) : ∃ b, l[k]? = some b := ⟨_, List.getElem?_eq_getElem h⟩
end Go.Proofs.YteagglddgkjkmaaGreat.Words

/- Contracts of the document's own some, most, Most of chapter 14. -/
namespace Go.Proofs.YteagglddgkjkmaaGreat.Words
set_option maxRecDepth 100000
open Go.RowKit
set_option linter.unusedVariables false
set_option linter.unusedSimpArgs false

theorem some_step {k : Int} {l : List Cel} {j : Nat} {x : Cel} (hx : l[j]? = some x) : someZ k (l.take (j + 1)) = if x.kind = k then someZ k (l.take j) ++ [x] else someZ k (l.take j) := by
  rw [List.take_add_one, hx, someZ_append]
  simp only [Option.toList_some]
  rw [some_one]
  by_cases h : x.kind = k
  · rw [if_pos h, if_pos h]
  · rw [if_neg h, if_neg h, List.append_nil]
theorem offs_step {o : Int} {l : List Cel} {j : Nat} {x : Cel} (hx : l[j]? = some x) : offs (l.take (j + 1)) o = offs (l.take j) o + if x.off = o then 1 else 0 := by
  rw [List.take_add_one, hx, offs_append]
  congr 1
  unfold offs
  by_cases h : x.off = o <;> simp [h]
def mostTo (l : List Cel) (j : Nat) : Nat := ((l.take j).map fun c => offs l c.off).foldl max 0
theorem mostTo_step {l : List Cel} {j : Nat} {x : Cel} (hx : l[j]? = some x) : mostTo l (j + 1) = max (mostTo l j) (offs l x.off) := by
  unfold mostTo
  rw [List.take_add_one, hx, List.map_append, List.foldl_append]; rfl
theorem mostTo_all {l : List Cel} {j : Nat} (h : l.length ≤ j) : mostTo l j = mostZ l := by unfold mostTo mostZ; rw [List.take_of_length_le h]
theorem offs_le (l : List Cel) (o : Int) : offs l o ≤ l.length := List.countP_le_length

set_option maxHeartbeats 2000000 in
theorem refMost_any (A : Option Addr) (c n : Nat) (l : List Cel) (w : World) (e1 : l.length = n) (h1 : Row w w.heap.size 9 (.slice A n c) n (flat celCells l)) :
    Calls Tryz.prog 34 #[.slice A n c] w fun e w' => e = .returned (.int .i64 (mostZ l : Int)) ∧ ∃ q, w' = w.drewN q := by
  have u1 := h1.cap
  have H1 := Lib.hid h1
  have HA := Lib.hid (fun j (h : j < n) => at_someG (l := l) (j := j) (by omega))
  have HE := Lib.hid (fun (k : Nat) (h : n ≤ k) => mostTo_all (l := l) (j := k) (by omega))
  have HO := Lib.hid (fun (k : Nat) (o : Int) (h : n ≤ k) => (show offs (l.take k) o = offs l o by rw [List.take_of_length_le (by omega)]))
  have HST := Lib.hid (fun (j : Nat) (x : Cel) (hx : l[j]? = some x) => mostTo_step hx)
  have HSO := Lib.hid (fun (j : Nat) (x : Cel) (o : Int) (hx : l[j]? = some x) => offs_step (o := o) hx)
  have HLE := Lib.hid (fun (k : Nat) (o : Int) => (show offs (l.take k) o ≤ n from Nat.le_trans (offs_le _ _) (by rw [List.length_take]; omega)))
  have HLM := Lib.hid (fun (k : Nat) => (show mostTo l k ≤ n from foldl_max_le (Nat.zero_le _) (fun y hy => by obtain ⟨c, _, rfl⟩ := List.mem_map.1 hy; exact Nat.le_trans (offs_le _ _) (by omega))))
  have e0 : mostTo l 0 = 0 := rfl
  have HE0 := Lib.hid e0
  clear h1 e1 e0
  go_enter Tryz.func34, Tryz.ntmps34
  go_wp2_with fail
  go_loopw [3, 4] (fun m i wr => ∃ j q : Nat, j ≤ n ∧ m = .int .i64 (mostTo l j : Int) ∧ i = .int .i64 j ∧ wr = w.drewN q) (fun _ i _ => n - (intOf i).toNat)
  case atStart => exact ⟨0, 0, Nat.zero_le _, by rw [HE0.out]; rfl, rfl, rfl⟩
  case round =>
    obtain ⟨j, q, hj, rfl, rfl, rfl⟩ := hrel
    obtain ⟨bst, hbst⟩ : ∃ bst, bst = mostTo l j := ⟨_, rfl⟩
    have hbl := HLM.out j
    rw [← hbst] at hbl ⊢
    have HB := Lib.hid hbst
    clear hbst
    by_cases hlt : j < n
    · obtain ⟨x, hx⟩ := HA.out j hlt
      obtain ⟨b, off, rfl, hb, _⟩ := H1.out.at_ (by omega)
      have HC := Lib.hid (fun (k : Nat) (y : Cel) (hy : l[k]? = some y) => (H1.out.cel hy).2.2.2.2.2.2.2.2)
      have d0 := HC.out j x hx
      have HS := Lib.hid (HST.out j x hx)
      have k0 : (0 : Int) ≤ j := by omega
      have k1 : (j : Int) < n := by omega
      have z0 : offs (l.take 0) x.off = 0 := rfl
      have HZ0 := Lib.hid z0
      clear hx z0
      go_wp2_with fail
      go_loopw [5, 6] (fun m i wr => ∃ k q : Nat, k ≤ n ∧ m = .int .i64 (offs (l.take k) x.off : Int) ∧ i = .int .i64 k ∧ wr = w.drewN q) (fun _ i _ => n - (intOf i).toNat)
      case atStart => exact ⟨0, q, Nat.zero_le _, by rw [HZ0.out]; rfl, rfl, rfl⟩
      case round =>
        obtain ⟨k, q2, hk, rfl, rfl, rfl⟩ := hrel
        obtain ⟨cn, hcn⟩ : ∃ cn, cn = offs (l.take k) x.off := ⟨_, rfl⟩
        have hcl := HLE.out k x.off
        rw [← hcn] at hcl ⊢
        have HCN := Lib.hid hcn
        clear hcn
        by_cases hlk : k < n
        · obtain ⟨y, hy⟩ := HA.out k hlk
          have d1 := HC.out k y hy
          have HS2 := Lib.hid (HSO.out k y x.off hy)
          have hle2 := HLE.out (k + 1) x.off
          have g0 : (0 : Int) ≤ k := by omega
          have g1 : (k : Int) < n := by omega
          clear hy
          by_cases ho : y.off = x.off
          · have hb1 : (y.off == x.off) = true := by simpa using ho
            have hres := Lib.hid (show offs (l.take (k + 1)) x.off = cn + 1 by rw [HS2.out, if_pos ho, ← HCN.out])
            have hc2 : cn + 1 ≤ n := by rw [← hres.out]; exact hle2
            have g2 : (cn : Int) + 1 ≤ n := by omega
            rw [ho] at d1
            have hb2 : (x.off == x.off) = true := by simp
            clear ho hle2
            go_wp2_with fail
            go_quiet (fail)
            go_wp2_with fail
            go_roundw
            case rel => exact ⟨k + 1, _, by omega, by rw [hres.out]; go_num, by go_num, rfl⟩
            case measure => simp [intOf]; omega
          · have hb1 : (y.off == x.off) = false := by simpa using ho
            have hres := Lib.hid (show offs (l.take (k + 1)) x.off = cn by rw [HS2.out, if_neg ho, ← HCN.out]; rfl)
            clear ho hle2
            go_wp2_with fail
            go_quiet (fail)
            go_wp2_with fail
            go_roundw
            case rel => exact ⟨k + 1, _, by omega, by rw [hres.out], by go_num, rfl⟩
            case measure => simp [intOf]; omega
        · have hof := Lib.hid (show offs l x.off = cn by rw [HCN.out]; exact (HO.out k x.off (by omega)).symm)
          by_cases hgt : bst < cn
          · have hres := Lib.hid (show mostTo l (j + 1) = cn by rw [HS.out, ← HB.out, hof.out]; omega)
            have g2 : (bst : Int) < cn := by omega
            go_wp2_with fail
            go_roundw
            case rel => exact ⟨j + 1, _, by omega, by rw [hres.out], by go_num, rfl⟩
            case measure => simp [intOf]; omega
          · have hres := Lib.hid (show mostTo l (j + 1) = bst by rw [HS.out, ← HB.out, hof.out]; omega)
            have g2 : ¬ (bst : Int) < cn := by omega
            go_wp2_with fail
            go_roundw
            case rel => exact ⟨j + 1, _, by omega, by rw [hres.out], by go_num, rfl⟩
            case measure => simp [intOf]; omega
    · have hres := Lib.hid (show mostZ l = bst by rw [HB.out]; exact (HE.out j (by omega)).symm)
      go_wp2_with fail
      go_ret
      exact ⟨by rw [hres.out]; rfl, q, rfl⟩
end Go.Proofs.YteagglddgkjkmaaGreat.Words

/- Contract of package cert's ofKind. -/
namespace Go.Proofs.YteagglddgkjkmaaGreat.Words
set_option maxRecDepth 100000
open Go.RowKit
set_option linter.unusedVariables false
set_option linter.unusedSimpArgs false

theorem someZ_len (k : Int) (l : List Cel) : (someZ k l).length ≤ l.length := List.length_filter_le _ _
theorem row_newC (w : World) (o : Obj) (x : Cel) : Row ((w.alloc o).alloc (.cells (celCells x).toArray 49)) (w.heap.size + 2) 9 (.slice (some ⟨w.heap.size + 1, 0, none⟩) 1 1) 1 (celCells x) := by
  have := row_new (w := w.alloc o) (celCells x) 9 rfl (by omega) 49
  simpa using this

set_option maxHeartbeats 2000000 in
theorem ofKind_any (A : Option Addr) (c n : Nat) (l : List Cel) (k : Int) (w : World) (e1 : l.length = n) (h1 : Row w w.heap.size 9 (.slice A n c) n (flat celCells l)) (hs : n ≤ 2000000) :
    Calls Tryz.prog 23 #[.slice A n c, .int .i64 k] w (CelsN w (someZ k l)) := by
  obtain ⟨i0, hi, hq0, hq1, hq2⟩ := info_parts info_cel
  have HI := Lib.hid hi
  have HZ0 := Lib.hid hq0
  have HZ1 := Lib.hid hq1
  have HZ2 := Lib.hid hq2
  clear hi hq0 hq1 hq2
  have u1 := h1.cap
  have H1 := Lib.hid h1
  have HA := Lib.hid (fun j (h : j < n) => at_someG (l := l) (j := j) (by omega))
  have HST := Lib.hid (fun (j : Nat) (x : Cel) (hx : l[j]? = some x) => some_step (k := k) hx)
  have HE := Lib.hid (fun (j : Nat) (h : n ≤ j) => (show l.take j = l from List.take_of_length_le (by omega)))
  have HLN := Lib.hid (fun (j : Nat) => (show (someZ k (l.take j)).length ≤ 2000000 from Nat.le_trans (someZ_len _ _) (by rw [List.length_take]; omega)))
  have e0 : someZ k (l.take 0) = [] := rfl
  have HE0 := Lib.hid e0
  clear h1 e1 e0
  go_enter Tryz.func23, Tryz.ntmps23
  go_wp2_with fail
  go_loopw [5, 10] (fun v i wr => ∃ j : Nat, j ≤ n ∧ i = .int .i64 j ∧ wr.ownsRow w.heap.size 49 9 v (someZ k (l.take j)).length (flat celCells (someZ k (l.take j))) ∧ Kept w wr) (fun _ i _ => n - (intOf i).toNat)
  case atStart => exact ⟨0, Nat.zero_le _, rfl, by rw [HE0.out]; exact World.ownsRow_nil _ _ _ _, Kept.refl _⟩
  case round =>
    obtain ⟨j, hj, rfl, hO, hK⟩ := hrel
    obtain ⟨out, hout⟩ : ∃ out, out = someZ k (l.take j) := ⟨_, rfl⟩
    have hol := HLN.out j
    rw [← hout] at hO hol
    have HOUT := Lib.hid hout
    have HOW := Lib.hid hO
    have HK := Lib.hid hK
    have HOL := Lib.hid hol
    obtain ⟨m, hm⟩ : ∃ m, m = out.length := ⟨_, rfl⟩
    rw [← hm] at HOW hO HOL
    have HM := Lib.hid hm
    obtain ⟨Ao, co, hv⟩ := (Row.of_own hO).form
    subst hv
    clear hout hO hol hm
    by_cases hlt : j < n
    · obtain ⟨x, hx⟩ := HA.out j hlt
      have hrow := H1.out.below (w' := wr) hK
      obtain ⟨b, off, rfl, hb, _⟩ := hrow.at_ (by omega)
      obtain ⟨d0, d1, d2, d3, d4, d5, d6, d7, d8⟩ := hrow.cel hx
      have HS := Lib.hid (HST.out j x hx)
      have k0 : (0 : Int) ≤ j := by omega
      have k1 : (j : Int) < n := by omega
      have hbz : b < wr.heap.size := by have := hK.size; omega
      clear hx hrow hK
      by_cases hk : x.kind = k
      · have hb1 : (x.kind == k) = true := by simpa using hk
        have hres := Lib.hid (show someZ k (l.take (j + 1)) = out ++ [x] by rw [HS.out, if_pos hk, ← HOUT.out])
        have HRN := Lib.hid (row_newC wr (.cells (celCells x).toArray 49) x)
        have HOW2 := Lib.hid (own_below HOW.out (((Below.refl wr.heap.size wr).alloc (Nat.le_refl _) (.cells (celCells x).toArray 49)).alloc (by simp) (.cells (celCells x).toArray 49)))
        have HKA := Lib.hid ((HK.out.alloc (.cells (celCells x).toArray 49)).alloc (.cells (celCells x).toArray 49))
        subst hk
        go_wp2_with (first
          | (refine wpList_append_new _ rfl (.tmp 18) (.tmp 20) 22 rfl w.heap.size 49 i0 _ 9 72 Tryz.underlying22 HI.out HZ0.out HZ1.out HZ2.out rfl (by omega) (.slice Ao m co) m (flat celCells out) rfl HOW2.out _ (.slice (some ⟨wr.heap.size + 1, 0, none⟩) 1 1) 1 (celCells x) rfl HRN.out (celCells_one x) (by unfold maxLen; have := HOL.out; omega) (by have := HOL.out; omega) (by have := HK.out.size; simp; omega) ?_; intro v2 w2 hO hg hn2; have HO2 := Lib.hid hO; have HK2 : Hid (Kept w w2) := Below.grown HKA.out hg HKA.out.size (fun q hq => (HOW.out.lt q hq).1); clear hO hg hn2))
        go_roundw
        case rel =>
          refine ⟨j + 1, by omega, by go_num, ?_, HK2.out⟩
          rw [hres.out, List.length_append, ← HM.out, flat_snoc]
          exact HO2.out
        case measure => simp [intOf]; omega
      · have hb1 : (x.kind == k) = false := by simpa using hk
        have hres := Lib.hid (show someZ k (l.take (j + 1)) = out by rw [HS.out, if_neg hk, ← HOUT.out])
        have HOW2 := Lib.hid (own_below HOW.out ((Below.refl wr.heap.size wr).alloc (Nat.le_refl _) (.cells (celCells x).toArray 49)))
        have HKA := Lib.hid (HK.out.alloc (.cells (celCells x).toArray 49))
        clear hk
        go_wp2_with fail
        go_roundw
        case rel =>
          refine ⟨j + 1, by omega, by go_num, ?_, HKA.out⟩
          rw [hres.out, ← HM.out]
          exact HOW2.out
        case measure => simp [intOf]; omega
    · have hres := Lib.hid (show someZ k l = out by rw [HOUT.out, HE.out j (by omega)])
      go_wp2_with fail
      go_ret
      rw [hres.out]
      exact ⟨_, rfl, by rw [← HM.out]; exact Row.of_own HOW.out, NewV.own HOW.out, HK.out⟩
end Go.Proofs.YteagglddgkjkmaaGreat.Words

/- Contract of package cert's Balanced. -/
namespace Go.Proofs.YteagglddgkjkmaaGreat.Words
set_option maxRecDepth 100000
open Go.RowKit
set_option linter.unusedVariables false
set_option linter.unusedSimpArgs false

set_option maxHeartbeats 4000000 in
theorem balanced_any (f t x1 x2 : Int) (A3 A5 : Option Addr) (c3 c5 : Nat) (la le : List Cel) (w : World) (ha : Row w w.heap.size 9 (.slice A3 la.length c3) la.length (flat celCells la)) (he : Row w w.heap.size 9 (.slice A5 le.length c5) le.length (flat celCells le)) (hsa : la.length ≤ 2000000) (hse : le.length ≤ 2000000) :
    Calls Tryz.prog 9 #[.agg #[.int .i64 f, .int .i64 t, .int .i64 x1, .int .i64 x2, .slice A3 la.length c3, .slice A5 le.length c5]] w fun e w' => e = .returned (.bool (balZ la le)) ∧ Below w.heap.size w w' := by
  obtain ⟨W, hW⟩ : ∃ W, W = w.alloc (.cells #[.int .i64 f, .int .i64 t, .int .i64 x1, .int .i64 x2, .slice A3 la.length c3, .slice A5 le.length c5] 24) := ⟨_, rfl⟩
  have hB0 : Below w.heap.size w W := by rw [hW]; exact (Below.refl w.heap.size w).alloc (Nat.le_refl _) _
  have XB := Lib.hid (show Box W w.heap.size [.int .i64 f, .int .i64 t, .int .i64 x1, .int .i64 x2, .slice A3 la.length c3, .slice A5 le.length c5] by rw [hW]; exact Box.new w _ _)
  have HB0 := Lib.hid hB0
  have RA0 := Lib.hid ((ha.below hB0).more hB0.size)
  have RE0 := Lib.hid ((he.below hB0).more hB0.size)
  have HLA := Lib.hid (rfl : la.length = la.length)
  have HSA := Lib.hid (Nat.le_trans (body_le la) hsa)
  have HSE := Lib.hid (Nat.le_trans (body_le le) hse)
  have HP := Lib.hid (bal_parts la le)
  have s0 : W.cell? ⟨w.heap.size, 4, none⟩ = some (.slice A3 la.length c3) := XB.out.cell (k := 4) rfl
  clear ha he hB0 hsa hse HLA
  go_enter Tryz.func9, Tryz.ntmps9
  go_upto_region 1 with (fail)
  change Code.wp _ _ _ _ (w.alloc (.cells #[.int .i64 f, .int .i64 t, .int .i64 x1, .int .i64 x2, .slice A3 la.length c3, .slice A5 le.length c5] 24))
  rw [← hW]
  clear hW
  go_wp2_with fail
  refine (apart_any A3 c3 la.length la W rfl RA0.out).mono ?_; rintro e w1 ⟨rfl, q1, rfl⟩
  have s1 : (W.drewN q1).cell? ⟨w.heap.size, 5, none⟩ = some (.slice A5 le.length c5) := XB.out.cell (k := 5) rfl
  have RA1 := Lib.hid ((RA0.out.body rfl).drewN q1)
  have RE1 := Lib.hid (RE0.out.drewN q1)
  have HB1 : Hid (Below w.heap.size w (W.drewN q1)) := Below.drewN_ HB0.out q1
  clear s0 XB HB0 RA0 RE0
  obtain ⟨BA, hBA⟩ : ∃ BA, BA = bodyL la := ⟨_, rfl⟩
  obtain ⟨p, hp⟩ : ∃ p, p = lastK la := ⟨_, rfl⟩
  rw [← hBA] at RA1 HP HSA ⊢
  rw [← hp] at HP ⊢
  clear hBA hp
  try dsimp only
  go_wp2_with fail
  refine (apart_any A5 c5 le.length le _ rfl RE1.out).mono ?_; rintro e w2 ⟨rfl, q2, rfl⟩
  obtain ⟨Y2, hY2⟩ : ∃ Y2, Y2 = (W.drewN q1).drewN q2 := ⟨_, rfl⟩
  have RA2 : Hid (Row Y2 Y2.heap.size 9 (.slice A3 BA.length c3) BA.length (flat celCells BA)) := by rw [hY2]; exact RA1.out.drewN q2
  have RE2 : Hid (Row Y2 Y2.heap.size 9 (.slice A5 (bodyL le).length c5) (bodyL le).length (flat celCells (bodyL le))) := by rw [hY2]; exact (RE1.out.body rfl).drewN q2
  have HB2 : Hid (Below w.heap.size w Y2) := by rw [hY2]; exact Below.drewN_ HB1.out q2
  clear s1 RA1 RE1 HB1
  obtain ⟨BE, hBE⟩ : ∃ BE, BE = bodyL le := ⟨_, rfl⟩
  obtain ⟨q, hq⟩ : ∃ q, q = lastK le := ⟨_, rfl⟩
  rw [← hBE] at RE2 HP HSE ⊢
  rw [← hq] at HP ⊢
  clear hBE hq
  rw [← hY2]
  clear hY2
  try dsimp only
  go_wp2_with fail
  refine (allA_any A3 c3 BA.length BA _ rfl RA2.out).mono ?_; rintro e Y3 ⟨rfl, hb⟩
  have RA3 := Lib.hid ((RA2.out.below hb).more hb.size)
  have RE3 := Lib.hid ((RE2.out.below hb).more hb.size)
  have HB3 := Lib.hid (HB2.out.trans (hb.mono HB2.out.size))
  clear hb RA2 RE2 HB2
  cases g1 : allK kindsA BA
  · have hres := Lib.hid (show balZ la le = false by rw [HP.out, g1]; simp)
    try dsimp only
    go_wp2_with fail
    go_ret
    exact ⟨ret_bool hres.out.symm, HB3.out⟩
  try dsimp only
  go_wp2_with fail
  refine (allE_any A5 c5 BE.length BE _ rfl RE3.out).mono ?_; rintro e Y4 ⟨rfl, hb⟩
  have RA4 := Lib.hid ((RA3.out.below hb).more hb.size)
  have RE4 := Lib.hid ((RE3.out.below hb).more hb.size)
  have HB4 := Lib.hid (HB3.out.trans (hb.mono HB3.out.size))
  clear hb RA3 RE3 HB3
  cases g2 : allK kindsE BE
  · have hres := Lib.hid (show balZ la le = false by rw [HP.out, g1, g2]; simp)
    try dsimp only
    go_wp2_with fail
    go_ret
    exact ⟨ret_bool hres.out.symm, HB4.out⟩
  try dsimp only
  go_wp2_with fail
  refine (endsMeet_any p q _).mono ?_; rintro e Y5 ⟨rfl, rfl⟩
  cases g3 : joinB p q
  · have hres := Lib.hid (show balZ la le = false by rw [HP.out, g1, g2, g3]; simp)
    try dsimp only
    go_wp2_with fail
    go_ret
    exact ⟨ret_bool hres.out.symm, HB4.out⟩
  try dsimp only
  go_wp2_with fail
  refine (ofKind_any A3 c3 BA.length BA 5 _ rfl RA4.out HSA.out).mono ?_; rintro e Z5 ⟨v5, rfl, hr5, hn5, hb⟩
  have RA5 := Lib.hid ((RA4.out.below hb).more hb.size)
  have RE5 := Lib.hid ((RE4.out.below hb).more hb.size)
  have HB5 := Lib.hid (HB4.out.trans (hb.mono HB4.out.size))
  clear hb RA4 RE4 HB4
  obtain ⟨P5, d5, rfl⟩ := hr5.form
  have RV5 := Lib.hid hr5
  clear hr5 hn5
  try dsimp only
  go_wp2_with fail
  refine (ofKind_any A5 c5 BE.length BE 6 _ rfl RE5.out HSE.out).mono ?_; rintro e Z6 ⟨v6, rfl, hr6, hn6, hb⟩
  have RW6 := Lib.hid ((RV5.out.below hb).more hb.size)
  have RA6 := Lib.hid ((RA5.out.below hb).more hb.size)
  have RE6 := Lib.hid ((RE5.out.below hb).more hb.size)
  have HB6 := Lib.hid (HB5.out.trans (hb.mono HB5.out.size))
  clear hb RA5 RE5 HB5
  obtain ⟨P6, d6, rfl⟩ := hr6.form
  have RV6 := Lib.hid hr6
  clear hr6 hn6 RV5
  try dsimp only
  go_wp2_with fail
  refine (eqByReg_any P5 P6 d5 d6 (someZ 5 BA) (someZ 6 BE) _ RW6.out RV6.out).mono ?_; rintro e Z7 ⟨rfl, hb⟩
  have RA7 := Lib.hid ((RA6.out.below hb).more hb.size)
  have RE7 := Lib.hid ((RE6.out.below hb).more hb.size)
  have HB7 := Lib.hid (HB6.out.trans (hb.mono HB6.out.size))
  clear hb RA6 RE6 HB6
  clear RW6 RV6
  cases g4 : decide ((someZ 5 BA).map Cel.reg = (someZ 6 BE).map Cel.reg)
  · have hres := Lib.hid (show balZ la le = false by rw [HP.out, g1, g2, g3, g4]; simp)
    try dsimp only
    go_wp2_with fail
    go_ret
    exact ⟨ret_bool hres.out.symm, HB7.out⟩
  try dsimp only
  go_wp2_with fail
  refine (ofKind_any A3 c3 BA.length BA 3 _ rfl RA7.out HSA.out).mono ?_; rintro e Z8 ⟨v8, rfl, hr8, hn8, hb⟩
  have RA8 := Lib.hid ((RA7.out.below hb).more hb.size)
  have RE8 := Lib.hid ((RE7.out.below hb).more hb.size)
  have HB8 := Lib.hid (HB7.out.trans (hb.mono HB7.out.size))
  clear hb RA7 RE7 HB7
  obtain ⟨P8, d8, rfl⟩ := hr8.form
  have RV8 := Lib.hid hr8
  clear hr8 hn8
  try dsimp only
  go_wp2_with fail
  refine (ofKind_any A5 c5 BE.length BE 7 _ rfl RE8.out HSE.out).mono ?_; rintro e Z9 ⟨v9, rfl, hr9, hn9, hb⟩
  have RW9 := Lib.hid ((RV8.out.below hb).more hb.size)
  have RA9 := Lib.hid ((RA8.out.below hb).more hb.size)
  have RE9 := Lib.hid ((RE8.out.below hb).more hb.size)
  have HB9 := Lib.hid (HB8.out.trans (hb.mono HB8.out.size))
  clear hb RA8 RE8 HB8
  obtain ⟨P9, d9, rfl⟩ := hr9.form
  have RV9 := Lib.hid hr9
  clear hr9 hn9 RV8
  try dsimp only
  go_wp2_with fail
  refine (eqByIns_any P8 P9 d8 d9 (someZ 3 BA) (someZ 7 BE) _ RW9.out RV9.out).mono ?_; rintro e Z10 ⟨rfl, hb⟩
  have RA10 := Lib.hid ((RA9.out.below hb).more hb.size)
  have RE10 := Lib.hid ((RE9.out.below hb).more hb.size)
  have HB10 := Lib.hid (HB9.out.trans (hb.mono HB9.out.size))
  clear hb RA9 RE9 HB9
  clear RW9 RV9
  cases g5 : decide ((someZ 3 BA).map Cel.ins = (someZ 7 BE).map Cel.ins)
  · have hres := Lib.hid (show balZ la le = false by rw [HP.out, g1, g2, g3, g4, g5]; simp)
    try dsimp only
    go_wp2_with fail
    go_ret
    exact ⟨ret_bool hres.out.symm, HB10.out⟩
  try dsimp only
  go_wp2_with fail
  refine (ofKind_any A3 c3 BA.length BA 4 _ rfl RA10.out HSA.out).mono ?_; rintro e Z11 ⟨v11, rfl, hr11, hn11, hb⟩
  have RA11 := Lib.hid ((RA10.out.below hb).more hb.size)
  have RE11 := Lib.hid ((RE10.out.below hb).more hb.size)
  have HB11 := Lib.hid (HB10.out.trans (hb.mono HB10.out.size))
  clear hb RA10 RE10 HB10
  obtain ⟨P11, d11, rfl⟩ := hr11.form
  have hu11 := hr11.cap
  clear hr11 hn11
  try dsimp only
  go_wp2_with fail
  refine (ofKind_any A5 c5 BE.length BE 8 _ rfl RE11.out HSE.out).mono ?_; rintro e Z12 ⟨v12, rfl, hr12, hn12, hb⟩
  have RA12 := Lib.hid ((RA11.out.below hb).more hb.size)
  have RE12 := Lib.hid ((RE11.out.below hb).more hb.size)
  have HB12 := Lib.hid (HB11.out.trans (hb.mono HB11.out.size))
  clear hb RA11 RE11 HB11
  obtain ⟨P12, d12, rfl⟩ := hr12.form
  have hu12 := hr12.cap
  clear hr12 hn12
  by_cases g6 : (someZ 4 BA).length = (someZ 8 BE).length
  · have hres := Lib.hid (show balZ la le = true by rw [HP.out, g1, g2, g3, g4, g5, decide_eq_true g6]; rfl)
    have hb1 : (((someZ 4 BA).length : Int) == ((someZ 8 BE).length : Int)) = true := by simp [g6]
    clear g6
    try dsimp only
    go_wp2_with fail
    go_ret
    exact ⟨ret_bool hres.out.symm, HB12.out⟩
  · have hres := Lib.hid (show balZ la le = false by rw [HP.out, g1, g2, g3, g4, g5, decide_eq_false g6]; rfl)
    have hb1 : (((someZ 4 BA).length : Int) == ((someZ 8 BE).length : Int)) = false := by simp; omega
    clear g6
    try dsimp only
    go_wp2_with fail
    go_ret
    exact ⟨ret_bool hres.out.symm, HB12.out⟩
end Go.Proofs.YteagglddgkjkmaaGreat.Words

/- Contract of the document's own Counts of chapter 14. -/
namespace Go.Proofs.YteagglddgkjkmaaGreat.Words
set_option maxRecDepth 100000
open Go.RowKit
set_option linter.unusedVariables false
set_option linter.unusedSimpArgs false

def zero12 : List Int := List.replicate 12 0
/-- The twenty-four cells: A's counts, and E's. -/
def c24 (a e : List Int) : List Value := (a ++ e).map (Value.int .i64)
theorem c24_len {a e : List Int} (ha : a.length = 12) (he : e.length = 12) : (c24 a e).length = 24 := by simp [c24, ha, he]
theorem c24_one (a e : List Int) : ∀ u ∈ c24 a e, u.oneCell' = true := by
  intro u hu
  obtain ⟨x, _, rfl⟩ := List.mem_map.1 hu; rfl
theorem c24_a {a e : List Int} {q : Nat} {k : Int} (h : a[q]? = some k) : (c24 a e)[q]? = some (.int .i64 k) := by
  unfold c24
  rw [List.getElem?_map, List.getElem?_append_left (List.getElem?_eq_some_iff.1 h).1, h]; rfl
theorem c24_e {a e : List Int} (ha : a.length = 12) {q : Nat} {k : Int} (h : e[q]? = some k) : (c24 a e)[12 + q]? = some (.int .i64 k) := by
  unfold c24
  rw [List.getElem?_map, List.getElem?_append_right (by omega), ha, Nat.add_sub_cancel_left, h]; rfl
theorem c24_setA {a e : List Int} {q : Nat} (k : Int) (h : q < a.length) : (c24 a e).set q (.int .i64 k) = c24 (a.set q k) e := by
  unfold c24
  rw [← List.map_set, List.set_append_left _ _ h]
theorem c24_setE {a e : List Int} {q : Nat} (k : Int) (ha : a.length = 12) : (c24 a e).set (12 + q) (.int .i64 k) = c24 a (e.set q k) := by
  unfold c24
  rw [← List.map_set, List.set_append_right _ _ (by omega), ha, Nat.add_sub_cancel_left]
theorem kindN_snoc (l : List Cel) (x : Cel) (k : Nat) : kindN (l ++ [x]) k = kindN l k + (if x.kind = ((k + 1 : Nat) : Int) then 1 else 0) := by
  have h1 : kindN (l ++ [x]) k = kindN l k + kindN [x] k := List.countP_append ..
  rw [h1, kindN_cons]; rfl
theorem kindN_le (l : List Cel) (k : Nat) : kindN l k ≤ l.length := List.countP_le_length
theorem counts_in {l : List Cel} {j q : Nat} {x : Cel} (hx : l[j]? = some x) (hq : x.kind = (q : Int) + 1) (h12 : q < 12) : (countsZ (l.take j)).set q ((kindN (l.take j) q : Int) + 1) = countsZ (l.take (j + 1)) := by
  rw [take_snoc hx]
  apply List.ext_getElem?
  intro k
  rcases Nat.lt_or_ge k 12 with h | h
  · rw [countsZ_at _ h, kindN_snoc]
    by_cases e : q = k
    · subst e
      rw [List.getElem?_set_self (by rw [countsZ_len]; exact h), if_pos (by omega)]; rfl
    · rw [List.getElem?_set_ne e, countsZ_at _ h, if_neg (by omega)]; rfl
  · rw [List.getElem?_eq_none (by simpa [countsZ_len] using h), List.getElem?_eq_none (by rw [countsZ_len]; exact h)]
theorem counts_out {l : List Cel} {j : Nat} {x : Cel} (hx : l[j]? = some x) (hk : ¬ (1 ≤ x.kind ∧ x.kind ≤ 12)) : countsZ (l.take (j + 1)) = countsZ (l.take j) := by
  rw [take_snoc hx]
  apply List.ext_getElem?
  intro k
  rcases Nat.lt_or_ge k 12 with h | h
  · rw [countsZ_at _ h, countsZ_at _ h, kindN_snoc, if_neg (by omega)]; rfl
  · rw [List.getElem?_eq_none (by rw [countsZ_len]; exact h), List.getElem?_eq_none (by rw [countsZ_len]; exact h)]
theorem counts_nil : countsZ [] = zero12 := by decide +kernel
theorem load_24 {w : World} {b : Nat} {l : List Value} (hl : l.length = 24) (h : Box w b l) : (loadVar 37 ⟨b, 0, none⟩).run Tryz.prog w = .ok (.agg l.toArray) w :=
  run_loadVar_mid w b 0 37 _ _ h.whole Tryz.underlying37 rfl (by rw [hl]; kernel_rfl)

set_option maxHeartbeats 4000000 in
theorem refCounts_any (f t x1 x2 : Int) (A3 A5 : Option Addr) (c3 c5 : Nat) (la le : List Cel) (w : World) (ha : Row w w.heap.size 9 (.slice A3 la.length c3) la.length (flat celCells la)) (he : Row w w.heap.size 9 (.slice A5 le.length c5) le.length (flat celCells le)) :
    Calls Tryz.prog 8 #[.agg #[.int .i64 f, .int .i64 t, .int .i64 x1, .int .i64 x2, .slice A3 la.length c3, .slice A5 le.length c5]] w fun e w' => e = .returned (.agg (c24 (countsZ la) (countsZ le)).toArray) ∧ Below w.heap.size w w' := by
  obtain ⟨W1, hW1⟩ : ∃ W1, W1 = w.alloc (.cells #[.int .i64 f, .int .i64 t, .int .i64 x1, .int .i64 x2, .slice A3 la.length c3, .slice A5 le.length c5] 24) := ⟨_, rfl⟩
  obtain ⟨W2, hW2⟩ : ∃ W2, W2 = W1.alloc (.cells (c24 zero12 zero12).toArray 37) := ⟨_, rfl⟩
  obtain ⟨W, hW⟩ : ∃ W, W = W2.alloc (.cells (c24 zero12 zero12).toArray 37) := ⟨_, rfl⟩
  have hz1 : W1.heap.size = w.heap.size + 1 := by rw [hW1]; simp
  have hz2 : W2.heap.size = w.heap.size + 2 := by rw [hW2]; simp [hz1]
  have hz3 : W.heap.size = w.heap.size + 3 := by rw [hW]; simp [hz2]
  have HK : Hid (Below w.heap.size w W) := by rw [hW, hW2, hW1]; exact (((Below.refl w.heap.size w).alloc (Nat.le_refl _) _).alloc (by simp) _).alloc (by simp; omega) _
  have XB : Hid (Box W w.heap.size [.int .i64 f, .int .i64 t, .int .i64 x1, .int .i64 x2, .slice A3 la.length c3, .slice A5 le.length c5]) := by rw [hW, hW2, hW1]; exact ((Box.new w _ _).alloc _).alloc _
  have XR : Hid (Box W (w.heap.size + 1) (c24 zero12 zero12)) := by rw [hW, hW2, ← hz1]; exact (Box.new W1 _ _).alloc _
  have XN : Hid (Box W (w.heap.size + 2) (c24 zero12 zero12)) := by rw [hW, ← hz2]; exact Box.new W2 _ _
  have u1 := ha.cap
  have u2 := he.cap
  have RA := Lib.hid (ha.below HK.out)
  have RE := Lib.hid (he.below HK.out)
  have HZ := Lib.hid hz3
  have HDN := Lib.hid (fun (y : World) (h : KeepS (fun j => j = w.heap.size + 2) W y) => (h.below (B := w.heap.size) (by omega) (fun j e => by omega) : Below w.heap.size W y))
  have HAA := Lib.hid (fun j (h : j < la.length) => at_someG (l := la) (j := j) h)
  have HAE := Lib.hid (fun j (h : j < le.length) => at_someG (l := le) (j := j) h)
  have HLA := Lib.hid (fun (j k : Nat) => (show kindN (la.take j) k ≤ j from Nat.le_trans (kindN_le _ _) (by rw [List.length_take]; omega)))
  have HLE := Lib.hid (fun (j k : Nat) => (show kindN (le.take j) k ≤ j from Nat.le_trans (kindN_le _ _) (by rw [List.length_take]; omega)))
  have HIA := Lib.hid (fun (j q : Nat) (x : Cel) (hx : la[j]? = some x) (hq : x.kind = (q : Int) + 1) (h12 : q < 12) => counts_in hx hq h12)
  have HIE := Lib.hid (fun (j q : Nat) (x : Cel) (hx : le[j]? = some x) (hq : x.kind = (q : Int) + 1) (h12 : q < 12) => counts_in hx hq h12)
  have HOA := Lib.hid (fun (j : Nat) (x : Cel) (hx : la[j]? = some x) hk => counts_out hx hk)
  have HOE := Lib.hid (fun (j : Nat) (x : Cel) (hx : le[j]? = some x) hk => counts_out hx hk)
  have HEA := Lib.hid (fun (j : Nat) (h : la.length ≤ j) => (show countsZ (la.take j) = countsZ la by rw [List.take_of_length_le h]))
  have HEE := Lib.hid (fun (j : Nat) (h : le.length ≤ j) => (show countsZ (le.take j) = countsZ le by rw [List.take_of_length_le h]))
  have z0 : c24 (countsZ (la.take 0)) zero12 = c24 zero12 zero12 := by rw [List.take_zero, counts_nil]
  have HZ0 := Lib.hid z0
  have z1 : c24 (countsZ la) (countsZ (le.take 0)) = c24 (countsZ la) zero12 := by rw [List.take_zero, counts_nil]
  have HZ1 := Lib.hid z1
  clear ha he hz1 hz2 hz3 z0 z1
  go_enter Tryz.func8, Tryz.ntmps8
  go_upto_region 2 with (fail)
  change Code.wp _ _ _ _ (((w.alloc (.cells #[.int .i64 f, .int .i64 t, .int .i64 x1, .int .i64 x2, .slice A3 la.length c3, .slice A5 le.length c5] 24)).alloc (.cells (c24 zero12 zero12).toArray 37)).alloc (.cells (c24 zero12 zero12).toArray 37))
  rw [← hW1, ← hW2, ← hW]
  clear hW1 hW2 hW
  generalize hna : la.length = na at *
  generalize hne : le.length = ne at *
  have HNA := Lib.hid hna
  have HNE := Lib.hid hne
  clear hna hne
  go_wp2_with fail
  go_loopw [4] (fun i wr => ∃ j : Nat, j ≤ na ∧ i = .int .i64 j ∧ Box wr (w.heap.size + 2) (c24 (countsZ (la.take j)) zero12) ∧ KeepS (fun j => j = w.heap.size + 2) W wr) (fun i _ => na - (intOf i).toNat)
  case atStart => exact ⟨0, Nat.zero_le _, rfl, by rw [HZ0.out]; exact XN.out, KeepS.refl _ _⟩
  case round =>
    obtain ⟨j, hj, rfl, hBx, hKs⟩ := hrel
    have HBx := Lib.hid hBx
    have HKs := Lib.hid hKs
    have s0 : wr.cell? ⟨w.heap.size, 4, none⟩ = some (.slice A3 na c3) := (XB.out.keepS hKs (by omega)).cell (k := 4) rfl
    by_cases hlt : j < na
    · obtain ⟨x, hx⟩ := HAA.out j hlt
      have hrow := RA.out.below (HDN.out _ hKs)
      obtain ⟨b, off, rfl, hb, _⟩ := hrow.at_ (by omega)
      have d0 := (hrow.cel hx).1
      have k0 : (0 : Int) ≤ j := by omega
      have k1 : (j : Int) < na := by omega
      by_cases hkk : 1 ≤ x.kind ∧ x.kind ≤ 12
      · obtain ⟨q, hq⟩ : ∃ q : Nat, x.kind = (q : Int) + 1 := ⟨(x.kind - 1).toNat, by omega⟩
        have h12 : q < 12 := by omega
        have HS := Lib.hid (HIA.out j q x hx hq h12)
        have hle := HLA.out j q
        obtain ⟨cn, hcn⟩ : ∃ cn, cn = kindN (la.take j) q := ⟨_, rfl⟩
        rw [← hcn] at hle HS
        have c0 : wr.cell? ⟨w.heap.size + 2, q, none⟩ = some (.int .i64 (cn : Int)) := by rw [hcn]; exact hBx.cell (c24_a (countsZ_at _ h12))
        have c1 := hBx.frozen (q)
        have HB2 : Hid (Box (wr.setCell ⟨w.heap.size + 2, q, none⟩ (.int .i64 ((cn : Int) + 1))) (w.heap.size + 2) (c24 (countsZ (la.take (j + 1))) zero12)) := by
          have h5 := hBx.setCell (q) (.int .i64 ((cn : Int) + 1))
          rw [c24_setA _ (by rw [countsZ_len]; exact h12), HS.out] at h5
          exact h5
        have HK2 : Hid (KeepS (fun j => j = w.heap.size + 2) W (wr.setCell ⟨w.heap.size + 2, q, none⟩ (.int .i64 ((cn : Int) + 1)))) := hKs.setCell rfl _ _
        have e1 : x.kind - 1 = (q : Int) := by omega
        have e2 : IntKind.i64.wrap (q : Int) = q := IntWalk.i64_in _ ⟨by omega, by omega⟩
        have e3 : (0 : Int) ≤ q := by omega
        have e4 : (q : Int) < 12 := by omega
        have e5 : (cn : Int) ≤ j := by omega
        have f1 : (1 : Int) ≤ x.kind := hkk.1
        have f2 : x.kind ≤ 12 := hkk.2
        clear hx hrow hq hcn hBx hKs hkk
        go_wp2_with fail
        go_roundw
        case rel => exact ⟨j + 1, by omega, by go_num, HB2.out, HK2.out⟩
        case measure => simp [intOf]; omega
      · have HS := Lib.hid (HOA.out j x hx hkk)
        have HB2 : Hid (Box wr (w.heap.size + 2) (c24 (countsZ (la.take (j + 1))) zero12)) := by rw [HS.out]; exact hBx
        clear hx hrow hBx hKs
        by_cases f1 : (1 : Int) ≤ x.kind
        · have f2 : ¬ x.kind ≤ 12 := fun h => hkk ⟨f1, h⟩
          clear hkk
          go_wp2_with fail
          go_roundw
          case rel => exact ⟨j + 1, by omega, by go_num, HB2.out, HKs.out⟩
          case measure => simp [intOf]; omega
        · clear hkk
          go_wp2_with fail
          go_roundw
          case rel => exact ⟨j + 1, by omega, by go_num, HB2.out, HKs.out⟩
          case measure => simp [intOf]; omega
    · have hB : Box wr (w.heap.size + 2) (c24 (countsZ la) zero12) := by rw [← HEA.out j (by omega)]; exact hBx
      have HB9 := Lib.hid hB
      have HK9 := HKs
      clear hB hBx hKs HKs HBx
      go_wp2_with fail
      clear s0 hlt hj
      go_loopw [5] (fun i wr => ∃ j : Nat, j ≤ ne ∧ i = .int .i64 j ∧ Box wr (w.heap.size + 2) (c24 (countsZ la) (countsZ (le.take j))) ∧ KeepS (fun j => j = w.heap.size + 2) W wr) (fun i _ => ne - (intOf i).toNat)
      case atStart => exact ⟨0, Nat.zero_le _, rfl, by rw [HZ1.out]; exact HB9.out, HK9.out⟩
      case round =>
        obtain ⟨j, hj, rfl, hBx, hKs⟩ := hrel
        have HBx := Lib.hid hBx
        have HKs := Lib.hid hKs
        have s0 : wr.cell? ⟨w.heap.size, 5, none⟩ = some (.slice A5 ne c5) := (XB.out.keepS hKs (by omega)).cell (k := 5) rfl
        by_cases hlt : j < ne
        · obtain ⟨x, hx⟩ := HAE.out j hlt
          have hrow := RE.out.below (HDN.out _ hKs)
          obtain ⟨b, off, rfl, hb, _⟩ := hrow.at_ (by omega)
          have d0 := (hrow.cel hx).1
          have k0 : (0 : Int) ≤ j := by omega
          have k1 : (j : Int) < ne := by omega
          by_cases hkk : 1 ≤ x.kind ∧ x.kind ≤ 12
          · obtain ⟨q, hq⟩ : ∃ q : Nat, x.kind = (q : Int) + 1 := ⟨(x.kind - 1).toNat, by omega⟩
            have h12 : q < 12 := by omega
            have HS := Lib.hid (HIE.out j q x hx hq h12)
            have hle := HLE.out j q
            obtain ⟨cn, hcn⟩ : ∃ cn, cn = kindN (le.take j) q := ⟨_, rfl⟩
            rw [← hcn] at hle HS
            have c0 : wr.cell? ⟨w.heap.size + 2, 12 + q, none⟩ = some (.int .i64 (cn : Int)) := by rw [hcn]; exact hBx.cell (c24_e (countsZ_len _) (countsZ_at _ h12))
            have c1 := hBx.frozen (12 + q)
            have HB2 : Hid (Box (wr.setCell ⟨w.heap.size + 2, 12 + q, none⟩ (.int .i64 ((cn : Int) + 1))) (w.heap.size + 2) (c24 (countsZ la) (countsZ (le.take (j + 1))))) := by
              have h5 := hBx.setCell (12 + q) (.int .i64 ((cn : Int) + 1))
              rw [c24_setE _ (countsZ_len _), HS.out] at h5
              exact h5
            have HK2 : Hid (KeepS (fun j => j = w.heap.size + 2) W (wr.setCell ⟨w.heap.size + 2, 12 + q, none⟩ (.int .i64 ((cn : Int) + 1)))) := hKs.setCell rfl _ _
            have e1 : x.kind - 1 = (q : Int) := by omega
            have e2 : IntKind.i64.wrap (q : Int) = q := IntWalk.i64_in _ ⟨by omega, by omega⟩
            have e3 : (0 : Int) ≤ q := by omega
            have e4 : (q : Int) < 12 := by omega
            have e5 : (cn : Int) ≤ j := by omega
            have f1 : (1 : Int) ≤ x.kind := hkk.1
            have f2 : x.kind ≤ 12 := hkk.2
            clear hx hrow hq hcn hBx hKs hkk
            go_wp2_with fail
            go_roundw
            case rel => exact ⟨j + 1, by omega, by go_num, HB2.out, HK2.out⟩
            case measure => simp [intOf]; omega
          · have HS := Lib.hid (HOE.out j x hx hkk)
            have HB2 : Hid (Box wr (w.heap.size + 2) (c24 (countsZ la) (countsZ (le.take (j + 1))))) := by rw [HS.out]; exact hBx
            clear hx hrow hBx hKs
            by_cases f1 : (1 : Int) ≤ x.kind
            · have f2 : ¬ x.kind ≤ 12 := fun h => hkk ⟨f1, h⟩
              clear hkk
              go_wp2_with fail
              go_roundw
              case rel => exact ⟨j + 1, by omega, by go_num, HB2.out, HKs.out⟩
              case measure => simp [intOf]; omega
            · clear hkk
              go_wp2_with fail
              go_roundw
              case rel => exact ⟨j + 1, by omega, by go_num, HB2.out, HKs.out⟩
              case measure => simp [intOf]; omega
        · have hB : Box wr (w.heap.size + 2) (c24 (countsZ la) (countsZ le)) := by rw [← HEE.out j (by omega)]; exact hBx
          have HB3 := Lib.hid hB
          have HR3 := Lib.hid (XR.out.keepS hKs (by omega))
          have HN24 := Lib.hid (c24_len (countsZ_len la) (countsZ_len le))
          clear hB hBx hKs
          go_wp2_with (first
            | (refine wpList_load_box rfl 37 (.tmp 3) rfl (w.heap.size + 2) 0 rfl (c24 (countsZ la) (countsZ le)) (c24 (countsZ la) (countsZ le)) HB3.out whole_at _ Tryz.underlying37 rfl 24 (by kernel_rfl) HN24.out ?_)
            | (refine wpList_store_box rfl 37 (.tmp 2) (.tmp 78) rfl (w.heap.size + 1) 0 (c24 (countsZ la) (countsZ le)) rfl rfl (c24 zero12 zero12) HR3.out (by rw [HN24.out]; decide) 24 (by kernel_rfl) HN24.out (c24_one _ _) ?_; intro w9 B9 hg9; rw [splice_whole (c24 zero12 zero12) (c24 (countsZ la) (countsZ le)) (by rw [HN24.out]; rfl)] at B9))
          refine bodyPost_ret (v := .agg (c24 (countsZ la) (countsZ le)).toArray) ?_ rfl ⟨rfl, ?_⟩
          · exact results_cell Tryz.results8 _ _ _ ⟨w.heap.size + 1, 0, none⟩ _ rfl (load_24 HN24.out B9)
          · exact Below.grown (HK.out.trans (HDN.out _ HKs.out)) hg9 (by have := HKs.out.size; have := HZ.out; omega) (fun q hq => by injection hq with hq; omega)

end Go.Proofs.YteagglddgkjkmaaGreat.Words

/- Contracts of package cert's countKinds and Counts. -/
namespace Go.Proofs.YteagglddgkjkmaaGreat.Words
set_option maxRecDepth 100000
open Go.RowKit
set_option linter.unusedVariables false
set_option linter.unusedSimpArgs false

theorem o12_at {l : List Int} {q : Nat} {k : Int} (h : l[q]? = some k) : (oV l)[q]? = some (.int .i64 k) := by unfold oV; rw [List.getElem?_map, h]; rfl
theorem o12_set {l : List Int} {q : Nat} (k : Int) : (oV l).set q (.int .i64 k) = oV (l.set q k) := by unfold oV; rw [← List.map_set]
theorem o12_one (l : List Int) : ∀ u ∈ oV l, u.oneCell' = true := by
  intro u hu
  obtain ⟨x, _, rfl⟩ := List.mem_map.1 hu; rfl
theorem load_12 {w : World} {b : Nat} {l : List Value} (hl : l.length = 12) (h : Box w b l) : (loadVar 36 ⟨b, 0, none⟩).run Tryz.prog w = .ok (.agg l.toArray) w :=
  run_loadVar_mid w b 0 36 _ _ h.whole Tryz.underlying36 rfl (by rw [hl]; kernel_rfl)

set_option maxHeartbeats 4000000 in
theorem countKinds_any (A : Option Addr) (c n : Nat) (l : List Cel) (w : World) (e1 : l.length = n) (h1 : Row w w.heap.size 9 (.slice A n c) n (flat celCells l)) :
    Calls Tryz.prog 16 #[.slice A n c] w fun e w' => e = .returned (.agg (oV (countsZ l)).toArray) ∧ Below w.heap.size w w' := by
  obtain ⟨W1, hW1⟩ : ∃ W1, W1 = w.alloc (.cells (oV zero12).toArray 36) := ⟨_, rfl⟩
  obtain ⟨W, hW⟩ : ∃ W, W = W1.alloc (.cells (oV zero12).toArray 36) := ⟨_, rfl⟩
  have hz1 : W1.heap.size = w.heap.size + 1 := by rw [hW1]; simp
  have hz2 : W.heap.size = w.heap.size + 2 := by rw [hW]; simp [hz1]
  have HK : Hid (Below w.heap.size w W) := by rw [hW, hW1]; exact ((Below.refl w.heap.size w).alloc (Nat.le_refl _) _).alloc (by simp) _
  have XR : Hid (Box W (w.heap.size) (oV zero12)) := by rw [hW, hW1]; exact (Box.new w _ _).alloc _
  have XN : Hid (Box W (w.heap.size + 1) (oV zero12)) := by rw [hW, ← hz1]; exact Box.new W1 _ _
  have u1 := h1.cap
  have RA := Lib.hid (h1.below HK.out)
  have HZ := Lib.hid hz2
  have HDN := Lib.hid (fun (y : World) (h : KeepS (fun j => j = w.heap.size + 1) W y) => (h.below (B := w.heap.size) (by omega) (fun j e => by omega) : Below w.heap.size W y))
  have HAA := Lib.hid (fun j (h : j < n) => at_someG (l := l) (j := j) (by omega))
  have HLA := Lib.hid (fun (j k : Nat) => (show kindN (l.take j) k ≤ j from Nat.le_trans (kindN_le _ _) (by rw [List.length_take]; omega)))
  have HIA := Lib.hid (fun (j q : Nat) (x : Cel) (hx : l[j]? = some x) (hq : x.kind = (q : Int) + 1) (h12 : q < 12) => counts_in hx hq h12)
  have HOA := Lib.hid (fun (j : Nat) (x : Cel) (hx : l[j]? = some x) hk => counts_out hx hk)
  have HEA := Lib.hid (fun (j : Nat) (h : n ≤ j) => (show countsZ (l.take j) = countsZ l by rw [List.take_of_length_le (by omega)]))
  have z0 : countsZ (l.take 0) = zero12 := by rw [List.take_zero, counts_nil]
  have HZ0 := Lib.hid z0
  clear h1 hz1 hz2 z0 e1
  go_enter Tryz.func16, Tryz.ntmps16
  go_upto_region 2 with (fail)
  change Code.wp _ _ _ _ ((w.alloc (.cells (oV zero12).toArray 36)).alloc (.cells (oV zero12).toArray 36))
  rw [← hW1, ← hW]
  clear hW1 hW
  go_wp2_with fail
  go_loopw [8] (fun i wr => ∃ j : Nat, j ≤ n ∧ i = .int .i64 j ∧ Box wr (w.heap.size + 1) (oV (countsZ (l.take j))) ∧ KeepS (fun j => j = w.heap.size + 1) W wr) (fun i _ => n - (intOf i).toNat)
  case atStart => exact ⟨0, Nat.zero_le _, rfl, by rw [HZ0.out]; exact XN.out, KeepS.refl _ _⟩
  case round =>
    obtain ⟨j, hj, rfl, hBx, hKs⟩ := hrel
    have HBx := Lib.hid hBx
    have HKs := Lib.hid hKs
    by_cases hlt : j < n
    · obtain ⟨x, hx⟩ := HAA.out j hlt
      have hrow := RA.out.below (HDN.out _ hKs)
      obtain ⟨b, off, rfl, hb, _⟩ := hrow.at_ (by omega)
      obtain ⟨d0, d1, d2, d3, d4, d5, d6, d7, d8⟩ := hrow.cel hx
      have k0 : (0 : Int) ≤ j := by omega
      have k1 : (j : Int) < n := by omega
      have z1 : b < wr.heap.size := by have := hBx.lt; omega
      have z2 : w.heap.size + 1 < wr.heap.size := hBx.lt
      by_cases hkk : 1 ≤ x.kind ∧ x.kind ≤ 12
      · obtain ⟨q, hq⟩ : ∃ q : Nat, x.kind = (q : Int) + 1 := ⟨(x.kind - 1).toNat, by omega⟩
        have h12 : q < 12 := by omega
        have HS := Lib.hid (HIA.out j q x hx hq h12)
        have hle := HLA.out j q
        obtain ⟨cn, hcn⟩ : ∃ cn, cn = kindN (l.take j) q := ⟨_, rfl⟩
        rw [← hcn] at hle HS
        have c0 : wr.cell? ⟨w.heap.size + 1, q, none⟩ = some (.int .i64 (cn : Int)) := by rw [hcn]; exact hBx.cell (o12_at (countsZ_at _ h12))
        have c1 := hBx.frozen (q)
        have HB2 : Hid (Box ((wr.setCell ⟨w.heap.size + 1, q, none⟩ (.int .i64 ((cn : Int) + 1))).alloc (.cells (celCells x).toArray 49)) (w.heap.size + 1) (oV (countsZ (l.take (j + 1))))) := by
          have h5 := hBx.setCell (q) (.int .i64 ((cn : Int) + 1))
          rw [o12_set, HS.out] at h5
          exact h5.alloc _
        have HK2 : Hid (KeepS (fun j => j = w.heap.size + 1) W ((wr.setCell ⟨w.heap.size + 1, q, none⟩ (.int .i64 ((cn : Int) + 1))).alloc (.cells (celCells x).toArray 49))) := (hKs.setCell rfl _ _).alloc _
        have e1 : x.kind - 1 = (q : Int) := by omega
        have e2 : IntKind.i64.wrap (q : Int) = q := IntWalk.i64_in _ ⟨by omega, by omega⟩
        have e3 : (0 : Int) ≤ q := by omega
        have e4 : (q : Int) < 12 := by omega
        have e5 : (cn : Int) ≤ j := by omega
        have f1 : (1 : Int) ≤ x.kind := hkk.1
        have f2 : x.kind ≤ 12 := hkk.2
        clear hx hrow hq hcn hBx hKs hkk
        go_wp2_with fail
        go_roundw
        case rel => exact ⟨j + 1, by omega, by go_num, HB2.out, HK2.out⟩
        case measure => simp [intOf]; omega
      · have HS := Lib.hid (HOA.out j x hx hkk)
        have HB2 : Hid (Box (wr.alloc (.cells (celCells x).toArray 49)) (w.heap.size + 1) (oV (countsZ (l.take (j + 1))))) := by rw [HS.out]; exact hBx.alloc _
        have HK2 : Hid (KeepS (fun j => j = w.heap.size + 1) W (wr.alloc (.cells (celCells x).toArray 49))) := hKs.alloc _
        clear hx hrow hBx hKs
        by_cases f1 : (1 : Int) ≤ x.kind
        · have f2 : ¬ x.kind ≤ 12 := fun h => hkk ⟨f1, h⟩
          clear hkk
          go_wp2_with fail
          go_roundw
          case rel => exact ⟨j + 1, by omega, by go_num, HB2.out, HK2.out⟩
          case measure => simp [intOf]; omega
        · clear hkk
          go_wp2_with fail
          go_roundw
          case rel => exact ⟨j + 1, by omega, by go_num, HB2.out, HK2.out⟩
          case measure => simp [intOf]; omega
    · have hB : Box wr (w.heap.size + 1) (oV (countsZ l)) := by rw [← HEA.out j (by omega)]; exact hBx
      have HB3 := Lib.hid hB
      have HR3 := Lib.hid (XR.out.keepS hKs (by omega))
      have HN12 := Lib.hid ((oV_len _).trans (countsZ_len l))
      clear hB hBx hKs
      go_wp2_with (first
        | (refine wpList_load_box rfl 36 (.tmp 3) rfl (w.heap.size + 1) 0 rfl (oV (countsZ l)) (oV (countsZ l)) HB3.out whole_at _ Tryz.underlying36 rfl 12 (by kernel_rfl) HN12.out ?_)
        | (refine wpList_store_box rfl 36 (.tmp 2) (.tmp 28) rfl (w.heap.size) 0 (oV (countsZ l)) rfl rfl (oV zero12) HR3.out (by rw [HN12.out]; decide) 12 (by kernel_rfl) HN12.out (o12_one _) ?_; intro w9 B9 hg9; rw [splice_whole (oV zero12) (oV (countsZ l)) (by rw [HN12.out]; rfl)] at B9))
      refine bodyPost_ret (v := .agg (oV (countsZ l)).toArray) ?_ rfl ⟨rfl, ?_⟩
      · exact results_cell Tryz.results16 _ _ _ ⟨w.heap.size, 0, none⟩ _ rfl (load_12 HN12.out B9)
      · exact Below.grown (HK.out.trans (HDN.out _ HKs.out)) hg9 (by have := HKs.out.size; have := HZ.out; omega) (fun q hq => by injection hq with hq; omega)

section
variable {P : Program} {o : Oper} {a : Act}
theorem exec_buildC (t : TypeId) (parts : Array (Nat × Operand)) (ho : o.op = .build t parts) (cells : Array Value) (hb : P.built t (parts.map fun (i, x) => (i, a.eval x)).toList = some cells) (x : World) :
    (execOp a.eval o).run P x = .ok (.value (.agg cells)) x := by
  unfold execOp
  simp only [ho]
  have := run_build x t (parts.map fun (i, y) => (i, a.eval y)) cells hb
  simp only [Sem.run_bind, this, Result.andThen_ok, Sem.run_pure]
end
theorem c24_built_aux (a0 a1 a2 a3 a4 a5 a6 a7 a8 a9 a10 a11 e0 e1 e2 e3 e4 e5 e6 e7 e8 e9 e10 e11 : Int) :
    Tryz.prog.built 37 [(0, .agg (oV [a0, a1, a2, a3, a4, a5, a6, a7, a8, a9, a10, a11]).toArray), (1, .agg (oV [e0, e1, e2, e3, e4, e5, e6, e7, e8, e9, e10, e11]).toArray)] = some (c24 [a0, a1, a2, a3, a4, a5, a6, a7, a8, a9, a10, a11] [e0, e1, e2, e3, e4, e5, e6, e7, e8, e9, e10, e11]).toArray := by kernel_rfl
theorem c24_built (a e : List Int) (ha : a.length = 12) (he : e.length = 12) : Tryz.prog.built 37 [(0, .agg (oV a).toArray), (1, .agg (oV e).toArray)] = some (c24 a e).toArray := by
  match a, e, ha, he with
  | [a0, a1, a2, a3, a4, a5, a6, a7, a8, a9, a10, a11], [e0, e1, e2, e3, e4, e5, e6, e7, e8, e9, e10, e11], _, _ => exact c24_built_aux ..

set_option maxHeartbeats 4000000 in
theorem counts_any (f t x1 x2 : Int) (A3 A5 : Option Addr) (c3 c5 : Nat) (la le : List Cel) (w : World) (ha : Row w w.heap.size 9 (.slice A3 la.length c3) la.length (flat celCells la)) (he : Row w w.heap.size 9 (.slice A5 le.length c5) le.length (flat celCells le)) :
    Calls Tryz.prog 7 #[.agg #[.int .i64 f, .int .i64 t, .int .i64 x1, .int .i64 x2, .slice A3 la.length c3, .slice A5 le.length c5]] w fun e w' => e = .returned (.agg (c24 (countsZ la) (countsZ le)).toArray) ∧ Below w.heap.size w w' := by
  obtain ⟨W1, hW1⟩ : ∃ W1, W1 = w.alloc (.cells #[.int .i64 f, .int .i64 t, .int .i64 x1, .int .i64 x2, .slice A3 la.length c3, .slice A5 le.length c5] 24) := ⟨_, rfl⟩
  obtain ⟨W, hW⟩ : ∃ W, W = W1.alloc (.cells (c24 zero12 zero12).toArray 37) := ⟨_, rfl⟩
  have hz1 : W1.heap.size = w.heap.size + 1 := by rw [hW1]; simp
  have hz2 : W.heap.size = w.heap.size + 2 := by rw [hW]; simp [hz1]
  have HK : Hid (Below w.heap.size w W) := by rw [hW, hW1]; exact ((Below.refl w.heap.size w).alloc (Nat.le_refl _) _).alloc (by simp) _
  have XB : Hid (Box W w.heap.size [.int .i64 f, .int .i64 t, .int .i64 x1, .int .i64 x2, .slice A3 la.length c3, .slice A5 le.length c5]) := by rw [hW, hW1]; exact (Box.new w _ _).alloc _
  have XR : Hid (Box W (w.heap.size + 1) (c24 zero12 zero12)) := by rw [hW, ← hz1]; exact Box.new W1 _ _
  have RA := Lib.hid (ha.below HK.out)
  have RE := Lib.hid (he.below HK.out)
  have HZ := Lib.hid hz2
  have HDN := Lib.hid (fun (y : World) (h : KeepS (fun j => j = w.heap.size + 1) W y) => (h.below (B := w.heap.size) (by omega) (fun j e => by omega) : Below w.heap.size W y))
  have HSZ := Lib.hid (fun (y : World) (h : KeepS (fun j => j = w.heap.size + 1) W y) => (Nat.le_trans (by omega) h.size : w.heap.size ≤ y.heap.size))
  have NA := Lib.hid (countsZ_len la)
  have NE := Lib.hid (countsZ_len le)
  clear ha he hz1 hz2
  go_enter Tryz.func7, Tryz.ntmps7
  go_upto_region 1 with (fail)
  change Code.wp _ _ _ _ ((w.alloc (.cells #[.int .i64 f, .int .i64 t, .int .i64 x1, .int .i64 x2, .slice A3 la.length c3, .slice A5 le.length c5] 24)).alloc (.cells (c24 zero12 zero12).toArray 37))
  rw [← hW1, ← hW]
  clear hW1 hW
  refine wp_region_lin [(0, true), (1, true), (3, true), (4, true), (2, false), (5, false), (6, true), (7, false)]
    (by kernel_rfl) (by kernel_rfl) rfl (by kernel_rfl) (KeepS (fun j => j = w.heap.size + 1) W) ?_
  simp only [List.map_cons, List.map_nil, List.getElem?_toArray, List.getElem?_cons_succ, List.getElem?_cons_zero]
  generalize hWD : W.drew = WD
  have k0 : KeepS (fun j => j = w.heap.size + 1) W WD := by rw [← hWD]; exact (KeepS.refl _ W).drew
  have XR0 : Hid (Box WD (w.heap.size + 1) (c24 zero12 zero12)) := by rw [← hWD]; exact XR.out.drew
  clear hWD
  have ca := fun (y : World) (hy : KeepS (fun j => j = w.heap.size + 1) W y) => (XB.out.keepS hy (by omega)).cell (k := 4) rfl
  have ce := fun (y : World) (hy : KeepS (fun j => j = w.heap.size + 1) W y) => (XB.out.keepS hy (by omega)).cell (k := 5) rfl
  iterate 4 (refine lin_take (v := ?_) k0 (by rfl) ?_ ?_; rotate_left; (intro y hy; have ca1 := ca y hy; have ce1 := ce y hy; go_simp; try (with_reducible rfl)); (try simp only [Act.put, List.setIfInBounds_toArray, List.set_cons_zero, List.set_cons_succ]))
  clear ca ce
  refine lin_call k0 (by rfl) (fun K hK => ?_)
  go_simp
  refine (countKinds_any A3 c3 la.length la WD rfl ((RA.out.below (HDN.out _ k0)).more (HSZ.out _ k0))).mono ?_; rintro e w2 ⟨rfl, hb2⟩
  go_wp2_with fail
  have k2 := k0.go hb2
  have XR2 := Lib.hid (XR0.out.below hb2 XR0.out.lt)
  refine hK.out _ _ k2 (fun _ => ?_)
  clear hK K k0 hb2
  refine lin_call k2 (by rfl) (fun K hK => ?_)
  go_simp
  refine (countKinds_any A5 c5 le.length le w2 rfl ((RE.out.below (HDN.out _ k2)).more (HSZ.out _ k2))).mono ?_; rintro e w3 ⟨rfl, hb3⟩
  go_wp2_with fail
  have k3 := k2.go hb3
  have XR3 := Lib.hid (XR2.out.below hb3 XR2.out.lt)
  refine hK.out _ _ k3 (fun _ => ?_)
  clear hK K k2 hb3
  obtain ⟨za, hza⟩ : ∃ za, za = countsZ la := ⟨_, rfl⟩
  obtain ⟨ze, hze⟩ : ∃ ze, ze = countsZ le := ⟨_, rfl⟩
  rw [← hza, ← hze]
  rw [← hza] at NA
  rw [← hze] at NE
  have HZA := Lib.hid hza
  have HZE := Lib.hid hze
  clear hza hze
  refine lin_take (v := .agg (c24 za ze).toArray) k3 (by rfl) (fun y hy => exec_buildC 37 _ rfl _ (by simp only [List.map_toArray, List.map_cons, List.map_nil]; exact c24_built za ze NA.out NE.out) y) ?_
  (try simp only [Act.put, List.setIfInBounds_toArray, List.set_cons_zero, List.set_cons_succ])
  have HN24 := Lib.hid (c24_len NA.out NE.out)
  refine lin_put_cells k3 (by rfl) 37 (.tmp 2) (.tmp 9) rfl (w.heap.size + 1) 0 (c24 za ze) rfl rfl (c24 zero12 zero12) XR3.out (by rw [HN24.out]; decide) 24 (by kernel_rfl) HN24.out (c24_one _ _) ?_ ?_
  · intro w9 B9 hg9
    exact k3.trans (KeepS.of_grown hg9 (fun q hq => by injection hq with hq; exact hq.symm))
  intro w9 B9 hg9
  rw [splice_whole (c24 zero12 zero12) (c24 za ze) (by rw [HN24.out]; rfl)] at B9
  refine lin_done ?_
  go_wp2_with fail
  refine bodyPost_ret (v := .agg (c24 za ze).toArray) ?_ rfl ⟨by rw [HZA.out, HZE.out], ?_⟩
  · exact results_cell Tryz.results7 _ _ _ ⟨w.heap.size + 1, 0, none⟩ _ rfl (load_24 HN24.out B9)
  · exact Below.grown (HK.out.trans (HDN.out _ k3)) hg9 (HSZ.out _ k3) (fun q hq => by injection hq with hq; omega)
end Go.Proofs.YteagglddgkjkmaaGreat.Words

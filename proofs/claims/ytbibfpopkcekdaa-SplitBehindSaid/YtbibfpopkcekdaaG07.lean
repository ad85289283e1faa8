/- Several texts in one: OnrRefClosed, WithBase, EmtSmall, EmtLoad, EmtFind. -/
import Derived.Test.YtbibfpopkcekdaaG05
import Derived.Test.YtbibfpopkcekdaaG02
import Derived.Test.YtbibfpopkcekdaaG04
import Derived.Test.YtbibfpopkcekdaaG06
import Derived.LoopN
import Derived.Deep.Cut

/- Contract of the document's own Closed. -/
namespace Go.Proofs.Ytbibfpopkcekdaa.Words
set_option maxRecDepth 100000
open Go.RowKit
set_option linter.unusedVariables false
set_option linter.unusedSimpArgs false

section
variable {P : Program} {ops : Array Oper} {Q : Exit → Act → World → Prop}
theorem lin_skipF {op : Oper} {rest : List (Option Oper × Bool)} {S : World → Prop} {a : Act} {w : World} (hS : S w)
    (hw : Region.wanted op (yielded ops a.tmps) = false) (h : wpLin P ops Q rest S (a.put op.dst undef) w) : wpLin P ops Q ((some op, false) :: rest) S a w :=
  ⟨S, fun _ h => h, hS, by unfold linStep; rw [if_neg (by rw [hw]; decide)]; exact ⟨hS, h⟩⟩
end
theorem free_mem {o : List Int} {i : Ins} (ho : atO o 0 = 0) (hi : rightB i = true) (hm : formZ i.op = 4 ∨ formZ i.op = 5) : freeB o i = !onEB o i.a := by
  have hr := right_range hi
  unfold freeB needZ
  rw [if_pos (show memB i.op = true from decide_eq_true hm)]
  unfold anyEB onEB
  simp only [List.any_cons, List.any_nil, Bool.or_false]
  by_cases h : 0 < i.a
  · rw [decide_eq_true h, Bool.true_and]
  · rw [show i.a = 0 from by omega, ho]; rfl
theorem free_rec {o : List Int} {i : Ins} (ho : atO o 0 = 0) (h1 : 1 ≤ formZ i.op) (h3 : formZ i.op ≤ 3) : freeB o i = if 0 < i.d ∧ atO o i.d = 1 then !anyEB (readsZ i) o else true := by
  unfold freeB needZ
  rw [if_neg (by unfold memB; rw [decide_eq_true_eq]; omega)]
  have hr : recB i.op = true := decide_eq_true ⟨h1, h3⟩
  by_cases hd : atO o i.d = 1
  · rw [if_pos ⟨hr, hd⟩]
    by_cases h0 : 0 < i.d
    · rw [if_pos ⟨h0, hd⟩]
    · exfalso
      have : i.d.toNat = (0 : Int).toNat := by omega
      unfold atO at ho hd
      rw [this, ho] at hd; omega
  · rw [if_neg (fun c => hd c.2), if_neg (fun c => hd c.2)]; rfl
theorem free_no {o : List Int} {i : Ins} (h : 6 ≤ formZ i.op) : freeB o i = true := by
  unfold freeB needZ
  rw [if_neg (by unfold memB; rw [decide_eq_true_eq]; omega), if_neg (by unfold recB; rw [decide_eq_true_eq]; omega)]; rfl

set_option maxHeartbeats 16000000 in
theorem refClosed_any (A : Option Addr) (c : Nat) (sz : Int) (A' : Option Addr) (m c' : Nat) (l : List Ins) (o : List Int) (w : World) (hr : Row w w.heap.size 5 (.slice A l.length c) l.length (codeCells l)) (hm : m ≤ c') (hc' : c' ≤ 9223372036854775807) (ho : o.length = 16) :
    Calls Try.prog 19 #[.agg #[.slice A l.length c, .int .i64 sz, .slice A' m c'], .agg (oV o).toArray] w fun e w' => e = .returned (.bool (closedZ l sz m o)) ∧ Below w.heap.size w w' := by
  obtain ⟨W1, hW1⟩ : ∃ W1, W1 = w.alloc (.cells #[.slice A l.length c, .int .i64 sz, .slice A' m c'] 25) := ⟨_, rfl⟩
  obtain ⟨W2, hW2⟩ : ∃ W2, W2 = W1.alloc (.cells (oV o).toArray 26) := ⟨_, rfl⟩
  have hz1 : W1.heap.size = w.heap.size + 1 := by rw [hW1]; simp
  have hz2 : W2.heap.size = w.heap.size + 2 := by rw [hW2]; simp [hz1]
  have hK : Below w.heap.size w W2 := by rw [hW2, hW1]; exact ((Below.refl w.heap.size w).alloc (Nat.le_refl _) _).alloc (by simp) _
  have HB0 : Box W2 (w.heap.size + 1) (oV o) := by rw [hW2, ← hz1]; exact Box.new W1 (oV o) _
  have HI : Box W2 w.heap.size [.slice A l.length c, .int .i64 sz, .slice A' m c'] := by
    rw [hW2]; refine Box.alloc ?_ _; rw [hW1]; exact Box.new w [.slice A l.length c, .int .i64 sz, .slice A' m c'] _
  have HRR := Lib.hid (show Row W2 W2.heap.size 5 (.slice A l.length c) l.length (codeCells l) from (hr.below hK).more (by omega))
  have HB := Lib.hid HB0
  have HIB := Lib.hid HI
  have HKK := Lib.hid hK
  have HO := Lib.hid ho
  have HCL := Lib.hid (show closedZ l sz m o = (ownersB o && rightZ l sz m && l.all (freeB o)) from rfl)
  have HOB := Lib.hid (show ownersB o = (decide (atO o 0 = 0) && (List.range 15).all fun k => decide (atO o ((k : Int) + 1) = 1 ∨ atO o ((k : Int) + 1) = 2)) from rfl)
  have c0 := HI.cell (k := 0) rfl
  have c1 := HI.cell (k := 1) rfl
  have c2 := HI.cell (k := 2) rfl
  obtain ⟨hcl, hcm⟩ := hr.cap
  clear HI HB0 hK hr ho
  go_enter Try.func19, Try.ntmps19
  go_wp2_with fail
  rw [← hW1, ← hW2]
  clear hW1 hW2
  have k0 := Kept.refl W2
  refine (refRight_any A c sz A' m c' l _ HRR.out hm hc').mono ?_; rintro e w1 ⟨rfl, hb1⟩
  have k1 := k0.to hb1
  have HK1 := Lib.hid (HKK.out.trans (Below.mono k1 (by omega)))
  clear hb1 c0 c1 c2
  cases hri : rightZ l sz m
  · have HL := Lib.hid (show closedZ l sz m o = false by rw [HCL.out, hri, Bool.and_false]; rfl)
    go_wp2_with fail
    go_ret
    exact ⟨ret_bool HL.out.symm, HK1.out⟩
  have HB1 := Lib.hid (HB.out.kept k1)
  have HI1 := Lib.hid (HIB.out.kept k1)
  have HR1 := Lib.hid (k1.row HRR.out)
  have o0 := HB1.out.cell (oV_at HO.out (n := 0) (by omega))
  rw [show (((0 : Nat) : Int)) = 0 from rfl] at o0
  have HRI := Lib.hid hri
  have hz3 : w.heap.size + 2 ≤ w1.heap.size := by have := k1.size; omega
  clear hri k0 k1 HB HIB HRR HKK
  by_cases hq0 : atO o 0 = 0
  rotate_left
  · have HL := Lib.hid (show closedZ l sz m o = false by rw [HCL.out, HOB.out, decide_eq_false hq0]; rfl)
    have q0 : (atO o 0 != 0) = true := by simpa using hq0
    clear hq0
    go_wp2_with fail
    go_ret
    exact ⟨ret_bool HL.out.symm, HK1.out⟩
  have HQ0 := Lib.hid hq0
  have HOS := Lib.hid (show ownersB o = ((List.range 15).drop 0).all fun k => decide (atO o ((k : Int) + 1) = 1 ∨ atO o ((k : Int) + 1) = 2) by rw [HOB.out, decide_eq_true hq0, List.drop_zero, Bool.true_and])
  rw [hq0] at o0
  clear hq0
  go_wp2_with fail
  go_loopw [5] (fun ii wr => ∃ k : Nat, 1 ≤ k ∧ k ≤ 16 ∧ ii = .int .i64 k ∧ wr = w1 ∧ ownersB o = ((List.range 15).drop (k - 1)).all fun k => decide (atO o ((k : Int) + 1) = 1 ∨ atO o ((k : Int) + 1) = 2)) (fun ii _ => 16 - (intOf ii).toNat)
  case atStart => exact ⟨1, Nat.le_refl _, by omega, rfl, rfl, HOS.out⟩
  case round =>
    obtain ⟨j, hj1, hj, rfl, rfl, hT⟩ := hrel
    have HT := Lib.hid hT
    clear hT
    by_cases hlt : j < 16
    · have hst := owners_step HO.out (j - 1) (by omega) (fun k => decide (atO o ((k : Int) + 1) = 1 ∨ atO o ((k : Int) + 1) = 2))
      rw [show ((j - 1 : Nat) : Int) + 1 = j from by omega, show j - 1 + 1 = j + 1 - 1 from by omega] at hst
      have HST := Lib.hid hst
      clear hst
      have d1 := HB1.out.cell (oV_at HO.out (n := j) (by omega))
      have k0 : (0 : Int) ≤ j := by omega
      have k1 : (j : Int) < 16 := by omega
      by_cases h1 : atO o j = 1
      · have HG := Lib.hid (show decide (atO o j = 1 ∨ atO o j = 2) = true from decide_eq_true (.inl h1))
        rw [h1] at d1
        clear h1
        go_wp2_with fail
        go_roundw
        case rel => exact ⟨j + 1, by omega, by omega, by go_num, by first | rfl | trivial, by rw [HT.out, HST.out, HG.out]; rfl⟩
        case measure => simp only [intOf]; omega
      by_cases h2 : atO o j = 2
      · have HG := Lib.hid (show decide (atO o j = 1 ∨ atO o j = 2) = true from decide_eq_true (.inr h2))
        rw [h2] at d1
        clear h1 h2
        go_wp2_with fail
        go_roundw
        case rel => exact ⟨j + 1, by omega, by omega, by go_num, by first | rfl | trivial, by rw [HT.out, HST.out, HG.out]; rfl⟩
        case measure => simp only [intOf]; omega
      · have HG := Lib.hid (show decide (atO o j = 1 ∨ atO o j = 2) = false from decide_eq_false (fun h => h.elim h1 h2))
        have q1 : (atO o j != 1) = true := by simpa using h1
        have q2 : (atO o j != 2) = true := by simpa using h2
        have HL := Lib.hid (show closedZ l sz m o = false by rw [HCL.out, HT.out, HST.out, HG.out]; rfl)
        clear h1 h2
        go_wp2_with fail
        go_ret
        exact ⟨ret_bool HL.out.symm, HK1.out⟩
    · have g1 : ¬ ((j : Int) < 16) := by omega
      have HCA := Lib.hid (show closedZ l sz m o = (l.drop 0).all (freeB o) by rw [HCL.out, HT.out, HRI.out, List.drop_eq_nil_of_le (show (List.range 15).length ≤ j - 1 from by simp; omega), List.drop_zero]; rfl)
      obtain ⟨hl2, hall⟩ := rightZ_ins HRI.out
      have HC := Lib.hid hall
      have HAT := Lib.hid (fun (j : Nat) (i : Ins) (h : l[j]? = some i) => all_at (f := freeB o) h)
      have HAE := Lib.hid (fun (j : Nat) (h : l.length ≤ j) => (show (l.drop j).all (freeB o) = true by rw [List.drop_eq_nil_of_le h]; rfl))
      clear hall HCL HT HRI HOB HOS o0
      generalize hn : l.length = n at HI1 hl2 hcl ⊢
      have Hn := Lib.hid hn
      clear hn
      go_wp2_with fail
      go_loopw [6] (fun ii wx => ∃ j : Nat, j ≤ n ∧ ii = .int .i64 j ∧ Kept wr wx ∧ closedZ l sz m o = (l.drop j).all (freeB o)) (fun ii _ => n - (intOf ii).toNat)
      case atStart => exact ⟨0, Nat.zero_le _, rfl, Kept.refl _, HCA.out⟩
      case round =>
        obtain ⟨j, hj, rfl, hkw, hF⟩ := hrel
        have HKW := Lib.hid hkw
        have HF := Lib.hid hF
        clear hkw hF
        have c0 := (HI1.out.kept HKW.out).cell (k := 0) rfl
        by_cases hlj : j < n
        · have hl : j < l.length := by rw [Hn.out]; exact hlj
          obtain ⟨i, hi⟩ : ∃ i, l[j]? = some i := ⟨_, List.getElem?_eq_getElem hl⟩
          have HRI := Lib.hid (HC.out i (List.mem_of_getElem? hi))
          have hrow := HKW.out.row HR1.out
          obtain ⟨g, off, rfl, hg, _⟩ := hrow.at_ (by omega)
          obtain ⟨d0, d1, d2, d3, d4⟩ := hrow.ins hi
          have HST := Lib.hid (HF.out.trans (HAT.out j i hi))
          have k0 : (0 : Int) ≤ j := by omega
          have k1 : (j : Int) < n := by omega
          have HXI := Lib.hid (Box.new wr (insV i) 51)
          have HBW := Lib.hid ((HB1.out.kept HKW.out).alloc (.cells (insV i).toArray 51))
          have hkz := HKW.out.size
          have HKA0 := HKW.out.alloc (.cells (insV i).toArray 51)
          have HKA := Lib.hid HKA0
          clear hi hl hrow HKA0
          go_wp2_with fail
          change Calls _ _ _ (wr.alloc (.cells (insV i).toArray 51)) _
          obtain ⟨xb, hxb⟩ : ∃ xb, xb = wr.heap.size := ⟨_, rfl⟩
          rw [← hxb] at HXI hkz ⊢
          clear hxb d0 d1 d2 d3 d4 c0
          generalize wr.alloc (.cells (insV i).toArray 51) = Y at *
          refine (refForm_any _ _).mono ?_; rintro e w5 ⟨rfl, rfl⟩
          try dsimp only
          have HF8 := Lib.hid (formZ_range i.op)
          have HRG := Lib.hid (right_range HRI.out)
          have hbz := HXI.out.lt
          have e0 := HXI.out.cell (k := 0) rfl
          have HF1 := Lib.hid (show formZ i.op ≠ 0 from by
            have h := HRI.out
            unfold rightB at h
            simp only [Bool.and_eq_true, decide_eq_true_eq] at h
            exact h.1.1.1.1)
          have HM := Lib.hid (fun h => free_mem (o := o) (i := i) HQ0.out HRI.out h)
          have HRC := Lib.hid (fun h1 h3 => free_rec (o := o) (i := i) HQ0.out h1 h3)
          have HNO := Lib.hid (fun h => free_no (o := o) (i := i) h)
          have HKE := Lib.hid (HK1.out.trans (Below.mono HKA.out (by omega)))
          generalize hf : formZ i.op = f at *
          clear hf
          by_cases hf4 : f = 4
          · subst hf4
            have e2 := HXI.out.cell (k := 2) rfl
            have HFM := Lib.hid (HM.out (by decide))
            clear HM HRC HNO
            go_wp2_with (first
              | (refine wpList_load_box rfl 26 (.tmp 3) rfl (w.heap.size + 1) 0 rfl (oV o) (oV o) HBW.out whole_at _ Try.underlying26 rfl 16 (by kernel_rfl) ((oV_len o).trans HO.out) ?_))
            refine (refOnE_any o i.a _ HO.out (HRG.out.2.2.1.2)).mono ?_; rintro e w6 ⟨rfl, hb6⟩
            have HK6 := Lib.hid (HKA.out.to hb6)
            have HKE6 := Lib.hid (HKE.out.trans (hb6.mono (by have := HKE.out.size; omega)))
            clear hb6
            cases hq : onEB o i.a
            · have HE := Lib.hid (show freeB o i = true by rw [HFM.out, hq]; rfl)
              clear hq e2 e0
              go_wp2_with fail
              refine wp_region_lin [(0, true), (1, true), (2, true), (3, true), (4, true), (5, true), (6, true), (7, true), (8, true), (9, true), (10, true), (11, true), (12, true), (13, true), (14, true), (15, true), (16, true), (17, true), (18, true), (19, true), (20, true), (21, false), (22, false), (23, true)]
                (by kernel_rfl) (by kernel_rfl) rfl (by kernel_rfl) (Kept w6) ?_
              have k9 : Kept w6 w6.drew := (Kept.refl w6).drew
              simp only [List.map_cons, List.map_nil, List.getElem?_toArray, List.getElem?_cons_succ, List.getElem?_cons_zero]
              iterate 7 (refine lin_take (v := ?_) (by assumption) (by rfl) ?_ ?_; rotate_left; (intro x hx; (try dsimp only at hx); (try have d1 := D1.out x hx); (try have f1 := F1.out x hx); go_simp; try (with_reducible rfl)); (try simp only [Act.put, List.setIfInBounds_toArray, List.set_cons_zero, List.set_cons_succ]))
              iterate 3 (refine lin_skip (by assumption) (by rfl) ?_; (try simp only [Act.put, List.setIfInBounds_toArray, List.set_cons_zero, List.set_cons_succ]))
              iterate 2 (refine lin_take (v := ?_) (by assumption) (by rfl) ?_ ?_; rotate_left; (intro x hx; (try dsimp only at hx); (try have d1 := D1.out x hx); (try have f1 := F1.out x hx); go_simp; try (with_reducible rfl)); (try simp only [Act.put, List.setIfInBounds_toArray, List.set_cons_zero, List.set_cons_succ]))
              iterate 5 (refine lin_skip (by assumption) (by rfl) ?_; (try simp only [Act.put, List.setIfInBounds_toArray, List.set_cons_zero, List.set_cons_succ]))
              iterate 2 (refine lin_take (v := ?_) (by assumption) (by rfl) ?_ ?_; rotate_left; (intro x hx; (try dsimp only at hx); (try have d1 := D1.out x hx); (try have f1 := F1.out x hx); go_simp; try (with_reducible rfl)); (try simp only [Act.put, List.setIfInBounds_toArray, List.set_cons_zero, List.set_cons_succ]))
              iterate 2 (refine lin_skip (by assumption) (by rfl) ?_; (try simp only [Act.put, List.setIfInBounds_toArray, List.set_cons_zero, List.set_cons_succ]))
              iterate 2 (refine lin_skipF (by assumption) (by rfl) ?_; (try simp only [Act.put, List.setIfInBounds_toArray, List.set_cons_zero, List.set_cons_succ]))
              iterate 1 (refine lin_take (v := ?_) (by assumption) (by rfl) ?_ ?_; rotate_left; (intro x hx; (try dsimp only at hx); (try have d1 := D1.out x hx); (try have f1 := F1.out x hx); go_simp; try (with_reducible rfl)); (try simp only [Act.put, List.setIfInBounds_toArray, List.set_cons_zero, List.set_cons_succ]))
              refine lin_done ?_
              go_wp2_with fail
              go_roundw
              case rel => exact ⟨j + 1, by omega, by go_num, HK6.out.drew, by rw [HST.out, HE.out, Bool.true_and]⟩
              case measure => simp only [intOf]; omega
            · have HE := Lib.hid (show freeB o i = false by rw [HFM.out, hq]; rfl)
              clear hq e2 e0
              go_wp2_with fail
              go_ret
              exact ⟨ret_bool (by rw [HST.out, HE.out]; rfl), HKE6.out⟩
          by_cases hf5 : f = 5
          · subst hf5
            have e2 := HXI.out.cell (k := 2) rfl
            have HFM := Lib.hid (HM.out (by decide))
            clear HM HRC HNO
            go_wp2_with (first
              | (refine wpList_load_box rfl 26 (.tmp 3) rfl (w.heap.size + 1) 0 rfl (oV o) (oV o) HBW.out whole_at _ Try.underlying26 rfl 16 (by kernel_rfl) ((oV_len o).trans HO.out) ?_))
            refine (refOnE_any o i.a _ HO.out (HRG.out.2.2.1.2)).mono ?_; rintro e w6 ⟨rfl, hb6⟩
            have HK6 := Lib.hid (HKA.out.to hb6)
            have HKE6 := Lib.hid (HKE.out.trans (hb6.mono (by have := HKE.out.size; omega)))
            clear hb6
            cases hq : onEB o i.a
            · have HE := Lib.hid (show freeB o i = true by rw [HFM.out, hq]; rfl)
              clear hq e2 e0
              go_wp2_with fail
              refine wp_region_lin [(0, true), (1, true), (2, true), (3, true), (4, true), (5, true), (6, true), (7, true), (8, true), (9, true), (10, true), (11, true), (12, true), (13, true), (14, true), (15, true), (16, true), (17, true), (18, true), (19, true), (20, true), (21, false), (22, false), (23, true)]
                (by kernel_rfl) (by kernel_rfl) rfl (by kernel_rfl) (Kept w6) ?_
              have k9 : Kept w6 w6.drew := (Kept.refl w6).drew
              simp only [List.map_cons, List.map_nil, List.getElem?_toArray, List.getElem?_cons_succ, List.getElem?_cons_zero]
              iterate 7 (refine lin_take (v := ?_) (by assumption) (by rfl) ?_ ?_; rotate_left; (intro x hx; (try dsimp only at hx); (try have d1 := D1.out x hx); (try have f1 := F1.out x hx); go_simp; try (with_reducible rfl)); (try simp only [Act.put, List.setIfInBounds_toArray, List.set_cons_zero, List.set_cons_succ]))
              iterate 3 (refine lin_skip (by assumption) (by rfl) ?_; (try simp only [Act.put, List.setIfInBounds_toArray, List.set_cons_zero, List.set_cons_succ]))
              iterate 2 (refine lin_take (v := ?_) (by assumption) (by rfl) ?_ ?_; rotate_left; (intro x hx; (try dsimp only at hx); (try have d1 := D1.out x hx); (try have f1 := F1.out x hx); go_simp; try (with_reducible rfl)); (try simp only [Act.put, List.setIfInBounds_toArray, List.set_cons_zero, List.set_cons_succ]))
              iterate 5 (refine lin_skip (by assumption) (by rfl) ?_; (try simp only [Act.put, List.setIfInBounds_toArray, List.set_cons_zero, List.set_cons_succ]))
              iterate 2 (refine lin_take (v := ?_) (by assumption) (by rfl) ?_ ?_; rotate_left; (intro x hx; (try dsimp only at hx); (try have d1 := D1.out x hx); (try have f1 := F1.out x hx); go_simp; try (with_reducible rfl)); (try simp only [Act.put, List.setIfInBounds_toArray, List.set_cons_zero, List.set_cons_succ]))
              iterate 2 (refine lin_skip (by assumption) (by rfl) ?_; (try simp only [Act.put, List.setIfInBounds_toArray, List.set_cons_zero, List.set_cons_succ]))
              iterate 2 (refine lin_skipF (by assumption) (by rfl) ?_; (try simp only [Act.put, List.setIfInBounds_toArray, List.set_cons_zero, List.set_cons_succ]))
              iterate 1 (refine lin_take (v := ?_) (by assumption) (by rfl) ?_ ?_; rotate_left; (intro x hx; (try dsimp only at hx); (try have d1 := D1.out x hx); (try have f1 := F1.out x hx); go_simp; try (with_reducible rfl)); (try simp only [Act.put, List.setIfInBounds_toArray, List.set_cons_zero, List.set_cons_succ]))
              refine lin_done ?_
              go_wp2_with fail
              go_roundw
              case rel => exact ⟨j + 1, by omega, by go_num, HK6.out.drew, by rw [HST.out, HE.out, Bool.true_and]⟩
              case measure => simp only [intOf]; omega
            · have HE := Lib.hid (show freeB o i = false by rw [HFM.out, hq]; rfl)
              clear hq e2 e0
              go_wp2_with fail
              go_ret
              exact ⟨ret_bool (by rw [HST.out, HE.out]; rfl), HKE6.out⟩
          have q4 : (f == 4) = false := by simpa using hf4
          have q5 : (f == 5) = false := by simpa using hf5
          have HF8 := HF8.out
          have HF1 := HF1.out
          have D1 := Lib.hid (fun (x : World) (h : Kept Y x) => h.cell hbz (HXI.out.cell (k := 1) rfl))
          have G5 : decide ((1 : Int) ≤ f) = true := decide_eq_true (by omega)
          by_cases h3 : f ≤ 3
          rotate_left
          · have HE := Lib.hid (HNO.out (by omega))
            have G3 : decide (f ≤ 3) = false := decide_eq_false h3
            clear hf4 hf5 HF8 HF1 h3
            go_wp2_with fail
            refine wp_region_lin [(0, true), (1, true), (2, true), (3, true), (4, true), (5, true), (6, true), (7, true), (8, true), (9, true), (10, true), (11, true), (12, true), (13, true), (14, true), (15, true), (16, true), (17, true), (18, true), (19, true), (20, true), (21, false), (22, false), (23, true)]
              (by kernel_rfl) (by kernel_rfl) rfl (by kernel_rfl) (Kept Y) ?_
            have k9 : Kept Y Y.drew := (Kept.refl Y).drew
            simp only [List.map_cons, List.map_nil, List.getElem?_toArray, List.getElem?_cons_succ, List.getElem?_cons_zero]
            iterate 7 (refine lin_take (v := ?_) (by assumption) (by rfl) ?_ ?_; rotate_left; (intro x hx; (try dsimp only at hx); (try have d1 := D1.out x hx); (try have f1 := F1.out x hx); go_simp; try (with_reducible rfl)); (try simp only [Act.put, List.setIfInBounds_toArray, List.set_cons_zero, List.set_cons_succ]))
            iterate 3 (refine lin_skip (by assumption) (by rfl) ?_; (try simp only [Act.put, List.setIfInBounds_toArray, List.set_cons_zero, List.set_cons_succ]))
            iterate 2 (refine lin_take (v := ?_) (by assumption) (by rfl) ?_ ?_; rotate_left; (intro x hx; (try dsimp only at hx); (try have d1 := D1.out x hx); (try have f1 := F1.out x hx); go_simp; try (with_reducible rfl)); (try simp only [Act.put, List.setIfInBounds_toArray, List.set_cons_zero, List.set_cons_succ]))
            iterate 5 (refine lin_skip (by assumption) (by rfl) ?_; (try simp only [Act.put, List.setIfInBounds_toArray, List.set_cons_zero, List.set_cons_succ]))
            iterate 2 (refine lin_take (v := ?_) (by assumption) (by rfl) ?_ ?_; rotate_left; (intro x hx; (try dsimp only at hx); (try have d1 := D1.out x hx); (try have f1 := F1.out x hx); go_simp; try (with_reducible rfl)); (try simp only [Act.put, List.setIfInBounds_toArray, List.set_cons_zero, List.set_cons_succ]))
            iterate 2 (refine lin_skip (by assumption) (by rfl) ?_; (try simp only [Act.put, List.setIfInBounds_toArray, List.set_cons_zero, List.set_cons_succ]))
            iterate 2 (refine lin_skipF (by assumption) (by rfl) ?_; (try simp only [Act.put, List.setIfInBounds_toArray, List.set_cons_zero, List.set_cons_succ]))
            iterate 1 (refine lin_take (v := ?_) (by assumption) (by rfl) ?_ ?_; rotate_left; (intro x hx; (try dsimp only at hx); (try have d1 := D1.out x hx); (try have f1 := F1.out x hx); go_simp; try (with_reducible rfl)); (try simp only [Act.put, List.setIfInBounds_toArray, List.set_cons_zero, List.set_cons_succ]))
            refine lin_done ?_
            go_wp2_with fail
            go_roundw
            case rel => exact ⟨j + 1, by omega, by go_num, HKA.out.drew, by rw [HST.out, HE.out, Bool.true_and]⟩
            case measure => simp only [intOf]; omega
          have HRC2 := Lib.hid (HRC.out (by omega) h3)
          have G3 : decide (f ≤ 3) = true := decide_eq_true h3
          clear hf4 hf5 HF8 HF1 h3
          by_cases hd : 0 < i.d
          rotate_left
          · have HE := Lib.hid (HRC2.out.trans (if_neg (fun h => hd h.1)))
            have G4 : decide (0 < i.d) = false := decide_eq_false hd
            clear hd
            go_wp2_with fail
            refine wp_region_lin [(0, true), (1, true), (2, true), (3, true), (4, true), (5, true), (6, true), (7, true), (8, true), (9, true), (10, true), (11, true), (12, true), (13, true), (14, true), (15, true), (16, true), (17, true), (18, true), (19, true), (20, true), (21, false), (22, false), (23, true)]
              (by kernel_rfl) (by kernel_rfl) rfl (by kernel_rfl) (Kept Y) ?_
            have k9 : Kept Y Y.drew := (Kept.refl Y).drew
            simp only [List.map_cons, List.map_nil, List.getElem?_toArray, List.getElem?_cons_succ, List.getElem?_cons_zero]
            iterate 12 (refine lin_take (v := ?_) (by assumption) (by rfl) ?_ ?_; rotate_left; (intro x hx; (try dsimp only at hx); (try have d1 := D1.out x hx); (try have f1 := F1.out x hx); go_simp; try (with_reducible rfl)); (try simp only [Act.put, List.setIfInBounds_toArray, List.set_cons_zero, List.set_cons_succ]))
            iterate 5 (refine lin_skip (by assumption) (by rfl) ?_; (try simp only [Act.put, List.setIfInBounds_toArray, List.set_cons_zero, List.set_cons_succ]))
            iterate 2 (refine lin_take (v := ?_) (by assumption) (by rfl) ?_ ?_; rotate_left; (intro x hx; (try dsimp only at hx); (try have d1 := D1.out x hx); (try have f1 := F1.out x hx); go_simp; try (with_reducible rfl)); (try simp only [Act.put, List.setIfInBounds_toArray, List.set_cons_zero, List.set_cons_succ]))
            iterate 2 (refine lin_skip (by assumption) (by rfl) ?_; (try simp only [Act.put, List.setIfInBounds_toArray, List.set_cons_zero, List.set_cons_succ]))
            iterate 2 (refine lin_skipF (by assumption) (by rfl) ?_; (try simp only [Act.put, List.setIfInBounds_toArray, List.set_cons_zero, List.set_cons_succ]))
            iterate 1 (refine lin_take (v := ?_) (by assumption) (by rfl) ?_ ?_; rotate_left; (intro x hx; (try dsimp only at hx); (try have d1 := D1.out x hx); (try have f1 := F1.out x hx); go_simp; try (with_reducible rfl)); (try simp only [Act.put, List.setIfInBounds_toArray, List.set_cons_zero, List.set_cons_succ]))
            refine lin_done ?_
            go_wp2_with fail
            go_roundw
            case rel => exact ⟨j + 1, by omega, by go_num, HKA.out.drew, by rw [HST.out, HE.out, Bool.true_and]⟩
            case measure => simp only [intOf]; omega
          have G4 : decide (0 < i.d) = true := decide_eq_true hd
          have b0 : 0 ≤ i.d := HRG.out.2.1.1
          have b15 : i.d < 16 := by have := HRG.out.2.1.2; omega
          have f1 := HBW.out.cell (oV_at HO.out (n := i.d.toNat) (by omega))
          rw [show ((i.d.toNat : Nat) : Int) = i.d from by omega] at f1
          have hbw := HBW.out.lt
          have F1 := Lib.hid (fun (x : World) (h : Kept Y x) => h.cell hbw f1)
          clear f1
          cases hq : (atO o i.d == 1)
          · have HE := Lib.hid (HRC2.out.trans (if_neg (fun h => by rw [h.2] at hq; exact absurd hq (by decide))))
            clear hd
            go_wp2_with fail
            refine wp_region_lin [(0, true), (1, true), (2, true), (3, true), (4, true), (5, true), (6, true), (7, true), (8, true), (9, true), (10, true), (11, true), (12, true), (13, true), (14, true), (15, true), (16, true), (17, true), (18, true), (19, true), (20, true), (21, false), (22, false), (23, true)]
              (by kernel_rfl) (by kernel_rfl) rfl (by kernel_rfl) (Kept Y) ?_
            have k9 : Kept Y Y.drew := (Kept.refl Y).drew
            simp only [List.map_cons, List.map_nil, List.getElem?_toArray, List.getElem?_cons_succ, List.getElem?_cons_zero]
            iterate 19 (refine lin_take (v := ?_) (by assumption) (by rfl) ?_ ?_; rotate_left; (intro x hx; (try dsimp only at hx); (try have d1 := D1.out x hx); (try have f1 := F1.out x hx); go_simp; try (with_reducible rfl)); (try simp only [Act.put, List.setIfInBounds_toArray, List.set_cons_zero, List.set_cons_succ]))
            iterate 2 (refine lin_skip (by assumption) (by rfl) ?_; (try simp only [Act.put, List.setIfInBounds_toArray, List.set_cons_zero, List.set_cons_succ]))
            iterate 2 (refine lin_skipF (by assumption) (by rfl) ?_; (try simp only [Act.put, List.setIfInBounds_toArray, List.set_cons_zero, List.set_cons_succ]))
            iterate 1 (refine lin_take (v := ?_) (by assumption) (by rfl) ?_ ?_; rotate_left; (intro x hx; (try dsimp only at hx); (try have d1 := D1.out x hx); (try have f1 := F1.out x hx); go_simp; try (with_reducible rfl)); (try simp only [Act.put, List.setIfInBounds_toArray, List.set_cons_zero, List.set_cons_succ]))
            refine lin_done ?_
            go_wp2_with fail
            go_roundw
            case rel => exact ⟨j + 1, by omega, by go_num, HKA.out.drew, by rw [HST.out, HE.out, Bool.true_and]⟩
            case measure => simp only [intOf]; omega
          have HE := Lib.hid (HRC2.out.trans (if_pos ⟨hd, by simpa using hq⟩))
          have HRL := Lib.hid (reads_len i)
          clear hd
          go_wp2_with fail
          refine wp_region_lin [(0, true), (1, true), (2, true), (3, true), (4, true), (5, true), (6, true), (7, true), (8, true), (9, true), (10, true), (11, true), (12, true), (13, true), (14, true), (15, true), (16, true), (17, true), (18, true), (19, true), (20, true), (21, false), (22, false), (23, true)]
            (by kernel_rfl) (by kernel_rfl) rfl (by kernel_rfl) (Kept Y) ?_
          have k9 : Kept Y Y.drew := (Kept.refl Y).drew
          simp only [List.map_cons, List.map_nil, List.getElem?_toArray, List.getElem?_cons_succ, List.getElem?_cons_zero]
          iterate 19 (refine lin_take (v := ?_) (by assumption) (by rfl) ?_ ?_; rotate_left; (intro x hx; (try dsimp only at hx); (try have d1 := D1.out x hx); (try have f1 := F1.out x hx); go_simp; try (with_reducible rfl)); (try simp only [Act.put, List.setIfInBounds_toArray, List.set_cons_zero, List.set_cons_succ]))
          refine lin_take_box k9 rfl 26 (.tmp 3) rfl (w.heap.size + 1) 0 rfl (oV o) (oV o) (fun y hy => HBW.out.kept hy) whole_at _ Try.underlying26 rfl 16 (by kernel_rfl) ((oV_len o).trans HO.out) ?_
          (try simp only [Act.put, List.setIfInBounds_toArray, List.set_cons_zero, List.set_cons_succ])
          refine lin_take_box k9 rfl 51 (.tmp 7) rfl xb 0 rfl (insV i) (insV i) (fun y hy => HXI.out.kept hy) whole_at _ Try.underlying51 rfl 5 (by kernel_rfl) rfl ?_
          (try simp only [Act.put, List.setIfInBounds_toArray, List.set_cons_zero, List.set_cons_succ])
          refine lin_call k9 (by rfl) (fun K hK => ?_)
          go_simp
          refine (refReadsN_any i _).mono ?_; rintro e w6 ⟨v, rfl, hrow6, hnew, hb6⟩
          go_wp2_with fail
          have k10 := k9.to hb6
          refine hK.out _ _ k10 (fun _ => ?_)
          clear hK K hb6 hnew
          obtain ⟨A6, c6, rfl⟩ := hrow6.form
          (try simp only [Act.put, List.setIfInBounds_toArray, List.set_cons_zero, List.set_cons_succ])
          refine lin_call k10 (by rfl) (fun K hK => ?_)
          go_simp
          refine (refAnyE_any A6 c6 (readsZ i) o _ HO.out hrow6 (fun r hr => by have := reads_mem hr; omega) (by have := HRL.out; omega)).mono ?_; rintro e w7 ⟨rfl, hb7⟩
          go_wp2_with fail
          have k11 := k10.to hb7
          refine hK.out _ _ k11 (fun _ => ?_)
          clear hK K hb7
          (try simp only [Act.put, List.setIfInBounds_toArray, List.set_cons_zero, List.set_cons_succ])
          have HK7 := Lib.hid (HKA.out.trans k11)
          have HKE7 := Lib.hid (HK1.out.trans (Below.mono HK7.out (by omega)))
          cases hr : anyEB (readsZ i) o
          · have HE2 := Lib.hid (show freeB o i = true by rw [HE.out, hr]; rfl)
            iterate 1 (refine lin_take (v := ?_) (by assumption) (by rfl) ?_ ?_; rotate_left; (intro x hx; (try dsimp only at hx); (try have d1 := D1.out x hx); (try have f1 := F1.out x hx); go_simp; try (with_reducible rfl)); (try simp only [Act.put, List.setIfInBounds_toArray, List.set_cons_zero, List.set_cons_succ]))
            refine lin_done ?_
            go_wp2_with fail
            go_roundw
            case rel => exact ⟨j + 1, by omega, by go_num, HK7.out, by rw [HST.out, HE2.out, Bool.true_and]⟩
            case measure => simp only [intOf]; omega
          · have HE2 := Lib.hid (show freeB o i = false by rw [HE.out, hr]; rfl)
            iterate 1 (refine lin_take (v := ?_) (by assumption) (by rfl) ?_ ?_; rotate_left; (intro x hx; (try dsimp only at hx); (try have d1 := D1.out x hx); (try have f1 := F1.out x hx); go_simp; try (with_reducible rfl)); (try simp only [Act.put, List.setIfInBounds_toArray, List.set_cons_zero, List.set_cons_succ]))
            refine lin_done ?_
            go_wp2_with fail
            go_ret
            exact ⟨ret_bool (by rw [HST.out, HE2.out]; rfl), HKE7.out⟩
        · have HKE := Lib.hid (HK1.out.trans (Below.mono HKW.out (by omega)))
          have HE := Lib.hid (HF.out.trans (HAE.out j (by rw [Hn.out]; omega)))
          go_wp2_with fail
          go_ret
          exact ⟨ret_bool HE.out.symm, HKE.out⟩
end Go.Proofs.Ytbibfpopkcekdaa.Words

/- What both Withs share: a split's box, what With answers, and what stands while the blocks are filled. -/
namespace Go.Proofs.Ytbibfpopkcekdaa.Words
set_option maxRecDepth 100000
open Go.RowKit
set_option linter.unusedVariables false
set_option linter.unusedSimpArgs false

theorem size_spl : (Try.prog.info? 29).map (·.size) = some 17 := by kernel_rfl
theorem size_prg : (Try.prog.info? 25).map (·.size) = some 3 := by kernel_rfl
theorem splV_one {v : Value} {o : List Int} (hv : v.oneCell' = true) : ∀ u ∈ splV v o, u.oneCell' = true := by
  intro u hu
  rcases List.mem_cons.1 hu with rfl | h
  · exact hv
  · obtain ⟨x, _, rfl⟩ := List.mem_map.1 h; rfl
def zeroSpl : List Value := splV (.slice none 0 0) zeroO
theorem spl_built_aux (v : Value) (a0 a1 a2 a3 a4 a5 a6 a7 a8 a9 a10 a11 a12 a13 a14 a15 : Int) (A : Option Addr) (n c : Nat) :
    Try.prog.built 29 [(0, .slice A n c), (1, .agg (oV [a0, a1, a2, a3, a4, a5, a6, a7, a8, a9, a10, a11, a12, a13, a14, a15]).toArray)] = some (splV (.slice A n c) [a0, a1, a2, a3, a4, a5, a6, a7, a8, a9, a10, a11, a12, a13, a14, a15]).toArray := by kernel_rfl
theorem spl_built (A : Option Addr) (n c : Nat) (o : List Int) (h : o.length = 16) : Try.prog.built 29 [(0, .slice A n c), (1, .agg (oV o).toArray)] = some (splV (.slice A n c) o).toArray := by
  match o, h with
  | [a0, a1, a2, a3, a4, a5, a6, a7, a8, a9, a10, a11, a12, a13, a14, a15], _ => exact spl_built_aux (.int .i64 0) a0 a1 a2 a3 a4 a5 a6 a7 a8 a9 a10 a11 a12 a13 a14 a15 A n c
theorem load_spl {w : World} {b : Nat} {v : Value} {o : List Int} (ho : o.length = 16) (h : Box w b (splV v o)) : (loadVar 29 ⟨b, 0, none⟩).run Try.prog w = .ok (.agg (splV v o).toArray) w :=
  run_loadVar_mid w b 0 29 _ _ h.whole Try.underlying29 rfl (by rw [splV_len ho]; exact size_spl)
/-- Blocks with their cells in memory at or behind lo. -/
def BlksN (w : World) (lo : Nat) (v : Value) (cs : List BlkC) : Prop :=
  ∃ rs : List BlkR, Row w w.heap.size 6 v cs.length (flat blkRL rs) ∧ NewV lo v ∧ rs.length = cs.length ∧ ∀ (k : Nat) (r : BlkR) (c : BlkC), rs[k]? = some r → cs[k]? = some c → BlkF w lo w.heap.size r c
theorem BlksN.blks {w : World} {lo : Nat} {v : Value} {cs : List BlkC} (h : BlksN w lo v cs) : BlksV w w.heap.size v cs := by
  obtain ⟨rs, h1, h2, h3, h4⟩ := h
  exact ⟨rs, h1, h3, fun k r c a b => (h4 k r c a b).v⟩
theorem BlksN.keepS {S : Nat → Prop} {w w' : World} {lo : Nat} {v : Value} {cs : List BlkC} (h : BlksN w lo v cs) (hk : KeepS S w w') (hS : ∀ k, S k → k < lo) : BlksN w' lo v cs := by
  obtain ⟨rs, h1, h2, h3, h4⟩ := h
  exact ⟨rs, (row_keepN h1 h2 (Nat.le_refl _) hk (fun k a _ e => by have := hS k e; omega)).more hk.size, h2, h3, fun k r c a b => ((h4 k r c a b).keepS (Nat.le_refl _) hk (fun j a _ e => by have := hS j e; omega)).more hk.size⟩
theorem BlksN.below {w w' : World} {lo : Nat} {v : Value} {cs : List BlkC} (h : BlksN w lo v cs) (hb : Below w.heap.size w w') : BlksN w' lo v cs := h.keepS (S := fun _ => False) (KeepS.of_below hb) (fun _ e => e.elim)
theorem NewV.less {a b : Nat} {v : Value} (h : NewV b v) (hab : a ≤ b) : NewV a v := fun x n c hv => Nat.le_trans hab (h x n c hv)
theorem BlksN.less {w : World} {lo lo' : Nat} {v : Value} {cs : List BlkC} (h : BlksN w lo v cs) (hl : lo' ≤ lo) : BlksN w lo' v cs := by
  obtain ⟨rs, h1, h2, h3, h4⟩ := h
  exact ⟨rs, h1, h2.less hl, h3, fun k r c a b => ⟨(h4 k r c a b).v, (h4 k r c a b).na.less hl, (h4 k r c a b).ne.less hl⟩⟩
/-- What With answers. -/
def WithOut (w : World) (cs : List BlkC) (o : List Int) (k : Int) (e : Ending) (w' : World) : Prop :=
  ∃ v, e = .returned (.tuple #[.agg (splV v o).toArray, .int .i64 k]) ∧ BlksN w' w.heap.size v cs ∧ Below w.heap.size w w'
def ownW (l : List Ins) (sz : Int) (m : Nat) (o : List Int) : List Int := if closedZ l sz m o = true then o else zeroO
def errW (l : List Ins) (sz : Int) (m : Nat) (o : List Int) : Int := if closedZ l sz m o = true then 0 else 1
theorem with_no {l : List Ins} {sz : Int} {m : Nat} {o : List Int} (h : closedZ l sz m o = false) : withZ l sz m o = [] ∧ ownW l sz m o = zeroO ∧ errW l sz m o = 1 := by
  unfold withZ ownW errW; simp [h]
theorem with_yes {l : List Ins} {sz : Int} {m : Nat} {o : List Int} (h : closedZ l sz m o = true) : withZ l sz m o = (cutR l sz m).map (fillB (zeroed o) l) ∧ ownW l sz m o = o ∧ errW l sz m o = 0 := by
  unfold withZ ownW errW; simp [h]
theorem cut_some {l : List Ins} {sz : Int} {m : Nat} {o : List Int} (h : closedZ l sz m o = true) : 0 < (cutR l sz m).length ∧ l.length ≤ 2000 := by
  unfold closedZ at h
  simp only [Bool.and_eq_true] at h
  have hr := h.1.2
  have h2 := rightZ_parts hr
  refine ⟨?_, h2.1.2⟩
  unfold cutR
  rw [if_pos hr, cutZ_len]
  exact List.length_pos_of_mem (leads_zero (by omega))
theorem exec_built {P : Program} {a : Act} {op : Oper} (t : TypeId) (parts : Array (Nat × Operand)) (ho : op.op = .build t parts) (cells : Array Value) (hb : P.built t (parts.map fun (i, x) => (i, a.eval x)).toList = some cells) (x : World) :
    (execOp a.eval op).run P x = .ok (.value (.agg cells)) x := by
  have h1 := run_build x t (parts.map fun (i, y) => (i, a.eval y)) cells hb
  unfold execOp
  rw [ho]
  simp only [Sem.run_bind]
  have h2 : (Instr.build t (parts.map fun (i, y) => (i, a.eval y))).run P x = .ok (.agg cells) x := h1
  simp only [h2]
  rfl

/-- The boxes and the code while the blocks are filled. -/
structure WithC (B BS : Nat) (A : Option Addr) (c : Nat) (sz : Int) (A' : Option Addr) (m c' : Nat) (l : List Ins) (o : List Int) (v : Value) (y : World) : Prop where
  fp : Box y B [.slice A l.length c, .int .i64 sz, .slice A' m c']
  fo : Box y (B + 1) (oV o)
  fs : Box y (B + 2) zeroSpl
  ft : Box y BS (splV v o)
  fr : Row y B 5 (.slice A l.length c) l.length (codeCells l)
theorem WithC.keepS {B BS bv : Nat} {A : Option Addr} {c : Nat} {sz : Int} {A' : Option Addr} {m c' : Nat} {l : List Ins} {o : List Int} {v : Value} {y y' : World} (h : WithC B BS A c sz A' m c' l o v y) (hk : KeepS (fun j => j = bv) y y') (hb : B + 2 < bv) (hn : BS ≠ bv) : WithC B BS A c sz A' m c' l o v y' :=
  ⟨h.fp.keepS hk (by omega), h.fo.keepS hk (by omega), h.fs.keepS hk (by omega), h.ft.keepS hk hn, h.fr.below (hk.below (Nat.le_of_lt h.fp.lt) (fun j e => by omega))⟩
theorem FsR.all_keep {base bv cap lo : Nat} {z : List Int} {l : List Ins} {bs : List Blk} {W w w' : World} {S : Nat → Prop} (h : FsR base bv cap z l bs bs.length W w) (hk : KeepS S w w') (hS : ∀ k, S k → k < bv) (hlo : lo ≤ bv) : BlksN w' lo (.slice (some ⟨bv, 0, none⟩) bs.length cap) (bs.map (fillB z l)) := by
  obtain ⟨rs, h1, _⟩ := h.f
  rw [fillTo_all] at h1
  have h2 : FilR base bv cap bs.length w' rs (bs.map (fillB z l)) := ⟨own_keepS h1.own hk (fun g hg e => by have := hS _ e; simp [Value.ownBlock] at hg; omega), h1.len, fun k r c a b => ((h1.all k r c a b).keepS (Nat.le_refl _) hk (fun j h1 _ e => by have := hS _ e; omega)).more hk.size⟩
  refine ⟨rs, ?_, ?_, h2.len, fun k r c a b => ⟨(h2.all k r c a b).v, (h2.all k r c a b).na.less (by omega), (h2.all k r c a b).ne.less (by omega)⟩⟩
  · have := Row.of_own h2.own
    rwa [List.length_map]
  · intro a n c e
    injection e with e1 _ _
    injection e1 with e1
    rw [← e1]; exact hlo
theorem splV_0 (v : Value) (o : List Int) : (splV v o)[0]? = some v := rfl
theorem bs_at {α : Type} {l : List α} {k : Nat} (h : k < l.length) : ∃ b, l[k]? = some b := ⟨_, List.getElem?_eq_getElem h⟩
end Go.Proofs.Ytbibfpopkcekdaa.Words

/- Contracts of package emit's makers of one cell: bare, with the instruction, with a register. -/
namespace Go.Proofs.Ytbibfpopkcekdaa.Words
set_option maxRecDepth 100000
open Go.RowKit
set_option linter.unusedVariables false
set_option linter.unusedSimpArgs false

theorem load_cel {w : World} {b : Nat} {c : Cel} (h : Box w b (celCells c)) : (loadVar 53 ⟨b, 0, none⟩).run Try.prog w = .ok (.agg (celCells c).toArray) w :=
  run_loadVar_mid w b 0 53 (celCells c) _ h.whole Try.underlying53 rfl (by rw [celCells_len]; exact size_cel)
theorem size_ins5 : (Try.prog.info? 51).map (·.size) = some 5 := by kernel_rfl
theorem insV_one (i : Ins) : ∀ u ∈ insV i, u.oneCell' = true := by
  intro u hu
  simp only [insV, List.mem_cons, List.not_mem_nil, or_false] at hu
  rcases hu with rfl | rfl | rfl | rfl | rfl <;> rfl
/-- A cell as the one element of a new row. -/
theorem fold_cel (c : Cel) : List.foldl (fun (cs : Array Value) (x : Value × Nat) => cs.setIfInBounds x.snd x.fst) #[.int .i64 0, .int .i64 0, .int .i64 0, .int .i64 0, .int .i64 0, .int .i64 0, .int .i64 0, .int .i64 0, .int .i64 0] (celCells c).zipIdx = (celCells c).toArray := by
  simp [celCells, List.zipIdx]
def zeroCel : Cel := ⟨0, noI, 0, 0, 0⟩

set_option maxHeartbeats 2000000 in
theorem bare_any {b : Nat} {i : Ins} {z : List Int} {pc off : Int} {S : Nat → Prop} {w0 : World} {va ve : Value} {la le : List Cel} (k : Int) (w : World) (h : Em b i z pc off S w0 w va ve la le) :
    Calls Try.prog 79 #[.pointer (some ⟨b, 0, none⟩), .int .i64 k] w fun e w' => e = .returned (.agg (celCells (bareC k pc off)).toArray) ∧ Below w.heap.size w w' := by
  have hlt := h.lt
  have D0 := Lib.hid (fun (y : World) (hy : Below w.heap.size w y) => below_cell hy hlt h.cellPc)
  have D1 := Lib.hid (fun (y : World) (hy : Below w.heap.size w y) => below_cell hy hlt h.cellOff)
  obtain ⟨W, hW⟩ : ∃ W, W = w.alloc (.cells (celCells zeroCel).toArray 53) := ⟨_, rfl⟩
  have HB : Hid (Box W w.heap.size (celCells zeroCel)) := by rw [hW]; exact Box.new w _ _
  have HK : Hid (Below w.heap.size w W) := by rw [hW]; exact (Below.refl _ w).alloc (Nat.le_refl _) _
  have hzW : w.heap.size < W.heap.size := by rw [hW]; simp
  clear h
  go_enter Try.func79, Try.ntmps79
  go_wp2_with fail
  change Code.wp _ _ _ _ (w.alloc (.cells (celCells zeroCel).toArray 53))
  rw [← hW]
  clear hW
  refine wp_region_lin [(0, true), (1, true), (2, true), (3, true), (4, true), (5, true), (6, true), (7, true), (8, true), (9, true), (10, false)] (by kernel_rfl) (by kernel_rfl) rfl (by kernel_rfl) (Below w.heap.size w) ?_
  have hkd : Below w.heap.size w W.drew := HK.out.drew
  simp only [List.map_cons, List.map_nil, List.getElem?_toArray, List.getElem?_cons_succ, List.getElem?_cons_zero]
  iterate 10 (refine lin_take (v := ?_) hkd (by rfl) ?_ ?_; rotate_left; (intro x hx; (try dsimp only at hx); (try have d0 := D0.out x hx); (try have d1 := D1.out x hx); go_simp; try (with_reducible rfl)); (try simp only [Act.put, List.setIfInBounds_toArray, List.set_cons_zero, List.set_cons_succ]))
  refine lin_put_cells hkd (by rfl) 53 (.tmp 4) (.tmp 14) rfl w.heap.size 0 (celCells (bareC k pc off)) rfl rfl (celCells zeroCel) HB.out.drew (by simp [celCells_len]) 9 size_cel rfl (celCells_one _) (fun y hy hg => Below.grown hkd hg (Nat.le_of_lt hzW) (fun i hi => by injection hi with hi; omega)) ?_
  intro w3 B3 hg3
  rw [splice_whole (celCells zeroCel) (celCells (bareC k pc off)) rfl] at B3
  refine lin_done ?_
  go_wp2_with fail
  refine bodyPost_ret (v := .agg (celCells (bareC k pc off)).toArray) ?_ rfl ⟨rfl, ?_⟩
  · exact results_cell Try.results79 _ _ _ ⟨w.heap.size, 0, none⟩ _ rfl (load_cel B3)
  · exact Below.grown hkd hg3 (Nat.le_of_lt hzW) (fun i hi => by injection hi with hi; omega)

set_option maxHeartbeats 2000000 in
theorem withIns_any {b : Nat} {i : Ins} {z : List Int} {pc off : Int} {S : Nat → Prop} {w0 : World} {va ve : Value} {la le : List Cel} (k : Int) (w : World) (h : Em b i z pc off S w0 w va ve la le) :
    Calls Try.prog 85 #[.pointer (some ⟨b, 0, none⟩), .int .i64 k] w fun e w' => e = .returned (.agg (celCells (insC k i pc off)).toArray) ∧ Below w.heap.size w w' := by
  have hlt := h.lt
  obtain ⟨W, hW⟩ : ∃ W, W = w.alloc (.cells (celCells zeroCel).toArray 53) := ⟨_, rfl⟩
  have HB : Hid (Box W w.heap.size (celCells zeroCel)) := by rw [hW]; exact Box.new w _ _
  have HK : Hid (Below w.heap.size w W) := by rw [hW]; exact (Below.refl _ w).alloc (Nat.le_refl _) _
  have HE : Hid (Em b i z pc off S w0 W va ve la le) := by rw [hW]; exact h.alloc _
  have hzW : w.heap.size < W.heap.size := by rw [hW]; simp
  clear h
  go_enter Try.func85, Try.ntmps85
  go_wp2_with fail
  change Calls _ _ _ (w.alloc (.cells (celCells zeroCel).toArray 53)) _
  rw [← hW]
  clear hW
  refine (bare_any k _ HE.out).mono ?_; rintro e w2 ⟨rfl, hb2⟩
  have HE2 := Lib.hid (HE.out.below hb2)
  have HB2 := Lib.hid (HB.out.below hb2 hzW)
  have HK2 := Lib.hid (HK.out.trans (hb2.mono (Nat.le_of_lt hzW)))
  have hz2 : w.heap.size < w2.heap.size := Nat.lt_of_lt_of_le hzW hb2.size
  have hbl2 : b < w2.heap.size := HE2.out.lt
  have HB3 := Lib.hid (HB2.out.alloc (.cells (celCells zeroCel).toArray 53))
  have HC3 := Lib.hid (Box.new w2 (celCells zeroCel) 53)
  have HE3 := Lib.hid (HE2.out.alloc (.cells (celCells zeroCel).toArray 53))
  have HK3 := Lib.hid (HK2.out.alloc (Nat.le_of_lt hz2) (.cells (celCells zeroCel).toArray 53))
  clear hb2
  go_wp2_with (first
    | (refine wpList_store_box rfl 53 (.tmp 5) (.tmp 8) rfl w2.heap.size 0 (celCells (bareC k pc off)) rfl rfl (celCells zeroCel) HC3.out (by simp [celCells_len]) 9 size_cel rfl (celCells_one _) ?_; intro w4 B4 hg4; rw [splice_whole (celCells zeroCel) (celCells (bareC k pc off)) rfl] at B4; have HC4 := Lib.hid B4; have HB4 := Lib.hid (HB3.out.grown hg4 (fun e => by injection e with e; omega)); have HE4 := Lib.hid (HE2.out.keepS (((KeepS.refl (fun j => w2.heap.size ≤ j) w2).alloc _).trans (KeepS.of_grown hg4 (fun g e => by injection e with e; omega))) (fun j e => e)); have HK4 := Lib.hid (Below.grown HK3.out hg4 (by simp; omega) (fun q hq => by injection hq with hq; omega)); clear B4 hg4)
    | (refine wpList_load_box rfl 51 (.tmp 11) rfl b 0 rfl (cellsL i z pc off va ve) (insV i) HE4.out.bx (fun j v h => cellsL_ins h) _ Try.underlying51 rfl 5 size_ins5 rfl ?_)
    | (refine wpList_store_box rfl 51 (.tmp 13) (.tmp 12) rfl w2.heap.size 1 (insV i) rfl rfl (celCells (bareC k pc off)) HC4.out (by simp [celCells_len, insV]) 5 size_ins5 rfl (insV_one _) ?_; intro w5 B5 hg5; have HC5 : Hid (Box w5 w2.heap.size (celCells (insC k i pc off))) := B5; have HB5 := Lib.hid (HB4.out.grown hg5 (fun e => by injection e with e; omega)); have HK5 := Lib.hid (Below.grown HK4.out hg5 (by have := HB4.out.lt; omega) (fun q hq => by injection hq with hq; omega)); clear B5 hg5)
    | (refine wpList_load_box rfl 53 (.tmp 5) rfl w2.heap.size 0 rfl (celCells (insC k i pc off)) (celCells (insC k i pc off)) HC5.out whole_at _ Try.underlying53 rfl 9 size_cel rfl ?_)
    | (refine wpList_store_box rfl 53 (.tmp 4) (.tmp 14) rfl w.heap.size 0 (celCells (insC k i pc off)) rfl rfl (celCells zeroCel) HB5.out (by simp [celCells_len]) 9 size_cel rfl (celCells_one _) ?_; intro w6 B6 hg6; rw [splice_whole (celCells zeroCel) (celCells (insC k i pc off)) rfl] at B6))
  refine bodyPost_ret (v := .agg (celCells (insC k i pc off)).toArray) ?_ rfl ⟨rfl, ?_⟩
  · exact results_cell Try.results85 _ _ _ ⟨w.heap.size, 0, none⟩ _ rfl (load_cel B6)
  · exact Below.grown HK5.out hg6 (Nat.le_of_lt HB5.out.lt) (fun i hi => by injection hi with hi; omega)

set_option maxHeartbeats 2000000 in
theorem withReg_any {b : Nat} {i : Ins} {z : List Int} {pc off : Int} {S : Nat → Prop} {w0 : World} {va ve : Value} {la le : List Cel} (k r : Int) (w : World) (h : Em b i z pc off S w0 w va ve la le) :
    Calls Try.prog 87 #[.pointer (some ⟨b, 0, none⟩), .int .i64 k, .int .i64 r] w fun e w' => e = .returned (.agg (celCells (regC k r pc off)).toArray) ∧ Below w.heap.size w w' := by
  have hlt := h.lt
  obtain ⟨W, hW⟩ : ∃ W, W = w.alloc (.cells (celCells zeroCel).toArray 53) := ⟨_, rfl⟩
  have HB : Hid (Box W w.heap.size (celCells zeroCel)) := by rw [hW]; exact Box.new w _ _
  have HK : Hid (Below w.heap.size w W) := by rw [hW]; exact (Below.refl _ w).alloc (Nat.le_refl _) _
  have HE : Hid (Em b i z pc off S w0 W va ve la le) := by rw [hW]; exact h.alloc _
  have hzW : w.heap.size < W.heap.size := by rw [hW]; simp
  clear h
  go_enter Try.func87, Try.ntmps87
  go_wp2_with fail
  change Calls _ _ _ (w.alloc (.cells (celCells zeroCel).toArray 53)) _
  rw [← hW]
  clear hW
  refine (bare_any k _ HE.out).mono ?_; rintro e w2 ⟨rfl, hb2⟩
  have HE2 := Lib.hid (HE.out.below hb2)
  have HB2 := Lib.hid (HB.out.below hb2 hzW)
  have HK2 := Lib.hid (HK.out.trans (hb2.mono (Nat.le_of_lt hzW)))
  have hz2 : w.heap.size < w2.heap.size := Nat.lt_of_lt_of_le hzW hb2.size
  have hbl2 : b < w2.heap.size := HE2.out.lt
  have HB3 := Lib.hid (HB2.out.alloc (.cells (celCells zeroCel).toArray 53))
  have HC3 := Lib.hid (Box.new w2 (celCells zeroCel) 53)
  have HE3 := Lib.hid (HE2.out.alloc (.cells (celCells zeroCel).toArray 53))
  have HK3 := Lib.hid (HK2.out.alloc (Nat.le_of_lt hz2) (.cells (celCells zeroCel).toArray 53))
  clear hb2
  go_wp2_with (first
    | (refine wpList_store_box rfl 53 (.tmp 7) (.tmp 10) rfl w2.heap.size 0 (celCells (bareC k pc off)) rfl rfl (celCells zeroCel) HC3.out (by simp [celCells_len]) 9 size_cel rfl (celCells_one _) ?_; intro w4 B4 hg4; rw [splice_whole (celCells zeroCel) (celCells (bareC k pc off)) rfl] at B4; have HC4 := Lib.hid B4; have HB4 := Lib.hid (HB3.out.grown hg4 (fun e => by injection e with e; omega)); have HE4 := Lib.hid (HE2.out.keepS (((KeepS.refl (fun j => w2.heap.size ≤ j) w2).alloc _).trans (KeepS.of_grown hg4 (fun g e => by injection e with e; omega))) (fun j e => e)); have HK4 := Lib.hid (Below.grown HK3.out hg4 (by simp; omega) (fun q hq => by injection hq with hq; omega)); have c6 : w4.cell? ⟨w2.heap.size, 6, none⟩ = some (.int .i64 0) := B4.cell (k := 6) rfl; have f6 := B4.frozen 6; have HZ4 : Hid (w2.heap.size < w4.heap.size) := B4.lt; clear B4 hg4)
    | (refine wpList_load_box rfl 53 (.tmp 7) rfl w2.heap.size 0 rfl (celCells (regC k r pc off)) (celCells (regC k r pc off)) (show Box _ w2.heap.size (celCells (regC k r pc off)) from HC4.out.setCell 6 (.int .i64 r)) whole_at _ Try.underlying53 rfl 9 size_cel rfl ?_)
    | (refine wpList_store_box rfl 53 (.tmp 6) (.tmp 13) rfl w.heap.size 0 (celCells (regC k r pc off)) rfl rfl (celCells zeroCel) (HB4.out.setCell_other (b' := w2.heap.size) (Nat.ne_of_lt hz2) 6 (.int .i64 r)) (by simp [celCells_len]) 9 size_cel rfl (celCells_one _) ?_; intro w6 B6 hg6; rw [splice_whole (celCells zeroCel) (celCells (regC k r pc off)) rfl] at B6))
  refine bodyPost_ret (v := .agg (celCells (regC k r pc off)).toArray) ?_ rfl ⟨rfl, ?_⟩
  · exact results_cell Try.results87 _ _ _ ⟨w.heap.size, 0, none⟩ _ rfl (load_cel B6)
  · exact Below.grown (HK4.out.setCell (p := ⟨w2.heap.size, 6, none⟩) (Nat.le_of_lt hz2) _) hg6 (by simp [World.setCell]; have := HB4.out.lt; omega) (fun i hi => by injection hi with hi; omega)
end Go.Proofs.Ytbibfpopkcekdaa.Words

/- Contract of package emit's load: the cells of a load. -/
namespace Go.Proofs.Ytbibfpopkcekdaa.Words
set_option maxRecDepth 100000
open Go.RowKit
set_option linter.unusedVariables false
set_option linter.unusedSimpArgs false

set_option maxHeartbeats 4000000 in
theorem load_e {b : Nat} {i : Ins} {z : List Int} {pc off : Int} {S : Nat → Prop} {w0 : World} {va ve : Value} {la le : List Cel} (w : World) (h : Em b i z pc off S w0 w va ve la le) (hr : rightB i = true) (hla : la.length ≤ 100) (hle : le.length ≤ 100) (hd : atO z i.d = 2) :
    Calls Try.prog 76 #[.pointer (some ⟨b, 0, none⟩)] w fun e w' => e = .returned (.tuple #[]) ∧ ∃ va' ve', Em b i z pc off S w0 w' va' ve' (la ++ [insC 3 i pc off]) (le ++ [insC 7 i pc off]) := by
  have HEw := Lib.hid h
  have HLA := Lib.hid hla
  have HLE := Lib.hid hle
  have hrr := right_range hr
  obtain ⟨nd, hdn, hd15⟩ := nat_of hrr.2.1
  have c1 := h.cellI (k := 1) rfl
  have d1 := h.cellR hd15
  have hq : (atO z nd == 2) = true := by rw [← hdn]; simpa using hd
  rw [hdn] at c1
  have e1 : (nd : Int) ≤ 15 := by omega
  clear h hr hla hle hd hdn hrr
  obtain ⟨i0, hi, hz0, hz1, hz2⟩ := info_parts info_cel
  have HI := Lib.hid hi
  have HZ0 := Lib.hid hz0
  have HZ1 := Lib.hid hz1
  have HZ2 := Lib.hid hz2
  clear hi hz0 hz1 hz2
  go_enter Try.func76, Try.ntmps76
  go_wp2_with fail
  go_quiet (fail)
  go_wp2_with fail
  obtain ⟨wD, hwD⟩ : ∃ wD, wD = w.drewN nq := ⟨_, rfl⟩
  have HEwD : Hid (Em b i z pc off S w0 wD va ve la le) := by rw [hwD]; exact HEw.out.drewN _
  rw [← hwD]
  clear c1 d1 hwD
  refine region_tree_ex (fun (act : Act) (B : Nat × Value) => (((((((((((act.put (some 13) (.pointer (some ⟨b, 0, none⟩))).put (some 14) (.pointer (some ⟨b, 0, none⟩))).put (some 15) (.pointer (some ⟨b, 0, none⟩))).put (some 16) (.pointer (some ⟨b, 23, none⟩))).put (some 17) va).put (some 18) (.pointer (some ⟨b, 0, none⟩))).put (some 19) (.agg (celCells (insC 3 i pc off)).toArray)).put (some 20) (.slice (some ⟨B.1, 0, none⟩) 1 1)).put (some 21) B.2).put (some 22) (.pointer (some ⟨b, 0, none⟩))).put (some 23) (.pointer (some ⟨b, 23, none⟩))))
    (fun B y => Em b i z pc off S w0 y B.2 ve (la ++ [insC 3 i pc off]) (le))
    (LinT.of [(0, true), (1, true), (2, true), (3, true), (5, true)] (.two 4 6 (LinT.of [(6, false), (7, false), (8, false), (9, true), (10, true), (11, false)] .nil) (LinT.of [] (.two 4 7 (LinT.of [(7, false), (8, false), (9, true), (10, true), (11, false)] .nil) (LinT.of [(4, false), (8, false), (9, true), (10, true), (11, false)] .nil)))))
    (by kernel_rfl) (by kernel_rfl) rfl (by kernel_rfl) (fun _ => True) ?_ ?_
  · simp only [LinT.of, LinT.look, List.getElem?_toArray, List.getElem?_cons_succ, List.getElem?_cons_zero]
    have cL : wD.drew.cell? ⟨b, 23, none⟩ = some va := HEwD.out.cellA
    have cL2 : wD.cell? ⟨b, 23, none⟩ = some va := HEwD.out.cellA
    iterate 5 (refine tree_take (v := ?_) trivial (by rfl) ?_ ?_; rotate_left; (intro x hx; (try dsimp only at hx); go_simp; try (with_reducible rfl)); (simp only [Act.put, List.setIfInBounds_toArray, List.set_cons_zero, List.set_cons_succ]))
    refine tree_two trivial (by rfl) (by rfl) (fun K hK => ?_) (fun K hK => ?_)
    · go_simp
      refine hK.out _ _ trivial (fun _ => ?_)
      clear hK K
      try (simp only [Act.put, List.setIfInBounds_toArray, List.set_cons_zero, List.set_cons_succ])
      refine tree_call trivial (by rfl) (fun K hK => ?_)
      go_simp
      refine (withIns_any 3 _ HEwD.out.drew).mono ?_; rintro e y0 ⟨rfl, hb0⟩
      go_wp2_with fail
      have HE0 := Lib.hid ((HEwD.out.drew).below hb0)
      have cL0 := HE0.out.cellA
      refine hK.out _ _ trivial (fun _ => ?_)
      clear hK K hb0
      try (simp only [Act.put, List.setIfInBounds_toArray, List.set_cons_zero, List.set_cons_succ])
      refine tree_call trivial (by rfl) (fun K hK => ?_)
      go_simp
      try rw [fold_cel]
      refine hK.out _ _ trivial (fun _ => ?_)
      clear hK K
      change wpT _ _ _ _ _ _ _ (y0.alloc (.cells (celCells (insC 3 i pc off)).toArray 53))
      try (simp only [Act.put, List.setIfInBounds_toArray, List.set_cons_zero, List.set_cons_succ])
      refine tree_call trivial (by rfl) (fun K hK => ?_)
      refine wp_append_new _ (.tmp 17) (.tmp 20) 45 rfl (b + 1) 53 i0 _ 9 72 Try.underlying45 HI.out HZ0.out HZ1.out HZ2.out rfl (by omega) va (la).length (flat celCells (la)) rfl (HE0.out.alloc _).oa _ (.slice (some ⟨y0.heap.size, 0, none⟩) 1 1) 1 (celCells (insC 3 i pc off)) rfl (row_new y0 (celCells (insC 3 i pc off)) 9 rfl (by omega) _) (celCells_one _) (by unfold maxLen; have := HLA.out; omega) (by have := HLA.out; omega) (by have := HE0.out.lt; simp; omega) ?_
      intro v1 y1 hO hg hn
      obtain ⟨hE1, q1, q2, q3, A1, k1, rfl⟩ := HE0.out.appA (c := insC 3 i pc off) hO hg hn
      have HE1 := Lib.hid hE1
      clear hO hg hn hE1
      refine hK.out _ _ trivial (fun _ => ?_)
      clear hK K
      try (simp only [Act.put, List.setIfInBounds_toArray, List.set_cons_zero, List.set_cons_succ])
      iterate 2 (refine tree_take (v := ?_) trivial (by rfl) ?_ ?_; rotate_left; (intro x hx; (try dsimp only at hx); go_simp; try (with_reducible rfl)); (simp only [Act.put, List.setIfInBounds_toArray, List.set_cons_zero, List.set_cons_succ]))
      refine tree_call trivial (by rfl) (fun K hK => ?_)
      go_simp
      refine hK.out _ _ trivial (fun _ => ?_)
      clear hK K
      exact tree_done ⟨(y0.heap.size, .slice A1 ((la).length + 1) k1), rfl, HE1.out⟩
    · go_simp
      refine (withIns_any 3 _ HEwD.out.drew).mono ?_; rintro e y0 ⟨rfl, hb0⟩
      go_wp2_with fail
      have HE0 := Lib.hid ((HEwD.out.drew).below hb0)
      have cL0 := HE0.out.cellA
      refine hK.out _ _ trivial (fun _ => ?_)
      clear hK K hb0
      try (simp only [Act.put, List.setIfInBounds_toArray, List.set_cons_zero, List.set_cons_succ])
      refine tree_two trivial (by rfl) (by rfl) (fun K hK => ?_) (fun K hK => ?_)
      · go_simp
        refine hK.out _ _ trivial (fun _ => ?_)
        clear hK K
        try (simp only [Act.put, List.setIfInBounds_toArray, List.set_cons_zero, List.set_cons_succ])
        refine tree_call trivial (by rfl) (fun K hK => ?_)
        go_simp
        try rw [fold_cel]
        refine hK.out _ _ trivial (fun _ => ?_)
        clear hK K
        change wpT _ _ _ _ _ _ _ (y0.alloc (.cells (celCells (insC 3 i pc off)).toArray 53))
        try (simp only [Act.put, List.setIfInBounds_toArray, List.set_cons_zero, List.set_cons_succ])
        refine tree_call trivial (by rfl) (fun K hK => ?_)
        refine wp_append_new _ (.tmp 17) (.tmp 20) 45 rfl (b + 1) 53 i0 _ 9 72 Try.underlying45 HI.out HZ0.out HZ1.out HZ2.out rfl (by omega) va (la).length (flat celCells (la)) rfl (HE0.out.alloc _).oa _ (.slice (some ⟨y0.heap.size, 0, none⟩) 1 1) 1 (celCells (insC 3 i pc off)) rfl (row_new y0 (celCells (insC 3 i pc off)) 9 rfl (by omega) _) (celCells_one _) (by unfold maxLen; have := HLA.out; omega) (by have := HLA.out; omega) (by have := HE0.out.lt; simp; omega) ?_
        intro v1 y1 hO hg hn
        obtain ⟨hE1, q1, q2, q3, A1, k1, rfl⟩ := HE0.out.appA (c := insC 3 i pc off) hO hg hn
        have HE1 := Lib.hid hE1
        clear hO hg hn hE1
        refine hK.out _ _ trivial (fun _ => ?_)
        clear hK K
        try (simp only [Act.put, List.setIfInBounds_toArray, List.set_cons_zero, List.set_cons_succ])
        iterate 2 (refine tree_take (v := ?_) trivial (by rfl) ?_ ?_; rotate_left; (intro x hx; (try dsimp only at hx); go_simp; try (with_reducible rfl)); (simp only [Act.put, List.setIfInBounds_toArray, List.set_cons_zero, List.set_cons_succ]))
        refine tree_call trivial (by rfl) (fun K hK => ?_)
        go_simp
        refine hK.out _ _ trivial (fun _ => ?_)
        clear hK K
        exact tree_done ⟨(y0.heap.size, .slice A1 ((la).length + 1) k1), rfl, HE1.out⟩
      · go_simp
        try rw [fold_cel]
        have cLa := (HE0.out.alloc (.cells (celCells (insC 3 i pc off)).toArray 53)).cellA
        refine hK.out _ _ trivial (fun _ => ?_)
        clear hK K
        change wpT _ _ _ _ _ _ _ (y0.alloc (.cells (celCells (insC 3 i pc off)).toArray 53))
        try (simp only [Act.put, List.setIfInBounds_toArray, List.set_cons_zero, List.set_cons_succ])
        refine tree_call trivial (by rfl) (fun K hK => ?_)
        go_simp
        refine hK.out _ _ trivial (fun _ => ?_)
        clear hK K
        try (simp only [Act.put, List.setIfInBounds_toArray, List.set_cons_zero, List.set_cons_succ])
        refine tree_call trivial (by rfl) (fun K hK => ?_)
        refine wp_append_new _ (.tmp 17) (.tmp 20) 45 rfl (b + 1) 53 i0 _ 9 72 Try.underlying45 HI.out HZ0.out HZ1.out HZ2.out rfl (by omega) va (la).length (flat celCells (la)) rfl (HE0.out.alloc _).oa _ (.slice (some ⟨y0.heap.size, 0, none⟩) 1 1) 1 (celCells (insC 3 i pc off)) rfl (row_new y0 (celCells (insC 3 i pc off)) 9 rfl (by omega) _) (celCells_one _) (by unfold maxLen; have := HLA.out; omega) (by have := HLA.out; omega) (by have := HE0.out.lt; simp; omega) ?_
        intro v1 y1 hO hg hn
        obtain ⟨hE1, q1, q2, q3, A1, k1, rfl⟩ := HE0.out.appA (c := insC 3 i pc off) hO hg hn
        have HE1 := Lib.hid hE1
        clear hO hg hn hE1
        refine hK.out _ _ trivial (fun _ => ?_)
        clear hK K
        try (simp only [Act.put, List.setIfInBounds_toArray, List.set_cons_zero, List.set_cons_succ])
        iterate 2 (refine tree_take (v := ?_) trivial (by rfl) ?_ ?_; rotate_left; (intro x hx; (try dsimp only at hx); go_simp; try (with_reducible rfl)); (simp only [Act.put, List.setIfInBounds_toArray, List.set_cons_zero, List.set_cons_succ]))
        refine tree_call trivial (by rfl) (fun K hK => ?_)
        go_simp
        refine hK.out _ _ trivial (fun _ => ?_)
        clear hK K
        exact tree_done ⟨(y0.heap.size, .slice A1 ((la).length + 1) k1), rfl, HE1.out⟩
  rintro ⟨B1, v1⟩ w1 hE1
  dsimp only at hE1
  have HEw1 := Lib.hid hE1
  clear hE1
  simp only [Act.put, List.setIfInBounds_toArray, List.set_cons_zero, List.set_cons_succ]
  go_wp2_with fail
  refine region_tree_ex (fun (act : Act) (B : Nat × Value) => (((((((((((act.put (some 24) (.pointer (some ⟨b, 0, none⟩))).put (some 25) (.pointer (some ⟨b, 0, none⟩))).put (some 26) (.pointer (some ⟨b, 0, none⟩))).put (some 27) (.pointer (some ⟨b, 24, none⟩))).put (some 28) ve).put (some 29) (.pointer (some ⟨b, 0, none⟩))).put (some 30) (.agg (celCells (insC 7 i pc off)).toArray)).put (some 31) (.slice (some ⟨B.1, 0, none⟩) 1 1)).put (some 32) B.2).put (some 33) (.pointer (some ⟨b, 0, none⟩))).put (some 34) (.pointer (some ⟨b, 24, none⟩))))
    (fun B y => Em b i z pc off S w0 y v1 B.2 (la ++ [insC 3 i pc off]) (le ++ [insC 7 i pc off]))
    (LinT.of [(0, true), (1, true), (2, true), (3, true), (5, true)] (.two 4 6 (LinT.of [(6, false), (7, false), (8, false), (9, true), (10, true), (11, false)] .nil) (LinT.of [] (.two 4 7 (LinT.of [(7, false), (8, false), (9, true), (10, true), (11, false)] .nil) (LinT.of [(4, false), (8, false), (9, true), (10, true), (11, false)] .nil)))))
    (by kernel_rfl) (by kernel_rfl) rfl (by kernel_rfl) (fun _ => True) ?_ ?_
  · simp only [LinT.of, LinT.look, List.getElem?_toArray, List.getElem?_cons_succ, List.getElem?_cons_zero]
    have cL : w1.drew.cell? ⟨b, 24, none⟩ = some ve := HEw1.out.cellE
    have cL2 : w1.cell? ⟨b, 24, none⟩ = some ve := HEw1.out.cellE
    iterate 5 (refine tree_take (v := ?_) trivial (by rfl) ?_ ?_; rotate_left; (intro x hx; (try dsimp only at hx); go_simp; try (with_reducible rfl)); (simp only [Act.put, List.setIfInBounds_toArray, List.set_cons_zero, List.set_cons_succ]))
    refine tree_two trivial (by rfl) (by rfl) (fun K hK => ?_) (fun K hK => ?_)
    · go_simp
      refine hK.out _ _ trivial (fun _ => ?_)
      clear hK K
      try (simp only [Act.put, List.setIfInBounds_toArray, List.set_cons_zero, List.set_cons_succ])
      refine tree_call trivial (by rfl) (fun K hK => ?_)
      go_simp
      refine (withIns_any 7 _ HEw1.out.drew).mono ?_; rintro e y0 ⟨rfl, hb0⟩
      go_wp2_with fail
      have HE0 := Lib.hid ((HEw1.out.drew).below hb0)
      have cL0 := HE0.out.cellE
      refine hK.out _ _ trivial (fun _ => ?_)
      clear hK K hb0
      try (simp only [Act.put, List.setIfInBounds_toArray, List.set_cons_zero, List.set_cons_succ])
      refine tree_call trivial (by rfl) (fun K hK => ?_)
      go_simp
      try rw [fold_cel]
      refine hK.out _ _ trivial (fun _ => ?_)
      clear hK K
      change wpT _ _ _ _ _ _ _ (y0.alloc (.cells (celCells (insC 7 i pc off)).toArray 53))
      try (simp only [Act.put, List.setIfInBounds_toArray, List.set_cons_zero, List.set_cons_succ])
      refine tree_call trivial (by rfl) (fun K hK => ?_)
      refine wp_append_new _ (.tmp 28) (.tmp 31) 45 rfl (b + 1) 53 i0 _ 9 72 Try.underlying45 HI.out HZ0.out HZ1.out HZ2.out rfl (by omega) ve (le).length (flat celCells (le)) rfl (HE0.out.alloc _).oe _ (.slice (some ⟨y0.heap.size, 0, none⟩) 1 1) 1 (celCells (insC 7 i pc off)) rfl (row_new y0 (celCells (insC 7 i pc off)) 9 rfl (by omega) _) (celCells_one _) (by unfold maxLen; have := HLE.out; omega) (by have := HLE.out; omega) (by have := HE0.out.lt; simp; omega) ?_
      intro v1 y1 hO hg hn
      obtain ⟨hE1, q1, q2, q3, A1, k1, rfl⟩ := HE0.out.appE (c := insC 7 i pc off) hO hg hn
      have HE1 := Lib.hid hE1
      clear hO hg hn hE1
      refine hK.out _ _ trivial (fun _ => ?_)
      clear hK K
      try (simp only [Act.put, List.setIfInBounds_toArray, List.set_cons_zero, List.set_cons_succ])
      iterate 2 (refine tree_take (v := ?_) trivial (by rfl) ?_ ?_; rotate_left; (intro x hx; (try dsimp only at hx); go_simp; try (with_reducible rfl)); (simp only [Act.put, List.setIfInBounds_toArray, List.set_cons_zero, List.set_cons_succ]))
      refine tree_call trivial (by rfl) (fun K hK => ?_)
      go_simp
      refine hK.out _ _ trivial (fun _ => ?_)
      clear hK K
      exact tree_done ⟨(y0.heap.size, .slice A1 ((le).length + 1) k1), rfl, HE1.out⟩
    · go_simp
      refine (withIns_any 7 _ HEw1.out.drew).mono ?_; rintro e y0 ⟨rfl, hb0⟩
      go_wp2_with fail
      have HE0 := Lib.hid ((HEw1.out.drew).below hb0)
      have cL0 := HE0.out.cellE
      refine hK.out _ _ trivial (fun _ => ?_)
      clear hK K hb0
      try (simp only [Act.put, List.setIfInBounds_toArray, List.set_cons_zero, List.set_cons_succ])
      refine tree_two trivial (by rfl) (by rfl) (fun K hK => ?_) (fun K hK => ?_)
      · go_simp
        refine hK.out _ _ trivial (fun _ => ?_)
        clear hK K
        try (simp only [Act.put, List.setIfInBounds_toArray, List.set_cons_zero, List.set_cons_succ])
        refine tree_call trivial (by rfl) (fun K hK => ?_)
        go_simp
        try rw [fold_cel]
        refine hK.out _ _ trivial (fun _ => ?_)
        clear hK K
        change wpT _ _ _ _ _ _ _ (y0.alloc (.cells (celCells (insC 7 i pc off)).toArray 53))
        try (simp only [Act.put, List.setIfInBounds_toArray, List.set_cons_zero, List.set_cons_succ])
        refine tree_call trivial (by rfl) (fun K hK => ?_)
        refine wp_append_new _ (.tmp 28) (.tmp 31) 45 rfl (b + 1) 53 i0 _ 9 72 Try.underlying45 HI.out HZ0.out HZ1.out HZ2.out rfl (by omega) ve (le).length (flat celCells (le)) rfl (HE0.out.alloc _).oe _ (.slice (some ⟨y0.heap.size, 0, none⟩) 1 1) 1 (celCells (insC 7 i pc off)) rfl (row_new y0 (celCells (insC 7 i pc off)) 9 rfl (by omega) _) (celCells_one _) (by unfold maxLen; have := HLE.out; omega) (by have := HLE.out; omega) (by have := HE0.out.lt; simp; omega) ?_
        intro v1 y1 hO hg hn
        obtain ⟨hE1, q1, q2, q3, A1, k1, rfl⟩ := HE0.out.appE (c := insC 7 i pc off) hO hg hn
        have HE1 := Lib.hid hE1
        clear hO hg hn hE1
        refine hK.out _ _ trivial (fun _ => ?_)
        clear hK K
        try (simp only [Act.put, List.setIfInBounds_toArray, List.set_cons_zero, List.set_cons_succ])
        iterate 2 (refine tree_take (v := ?_) trivial (by rfl) ?_ ?_; rotate_left; (intro x hx; (try dsimp only at hx); go_simp; try (with_reducible rfl)); (simp only [Act.put, List.setIfInBounds_toArray, List.set_cons_zero, List.set_cons_succ]))
        refine tree_call trivial (by rfl) (fun K hK => ?_)
        go_simp
        refine hK.out _ _ trivial (fun _ => ?_)
        clear hK K
        exact tree_done ⟨(y0.heap.size, .slice A1 ((le).length + 1) k1), rfl, HE1.out⟩
      · go_simp
        try rw [fold_cel]
        have cLa := (HE0.out.alloc (.cells (celCells (insC 7 i pc off)).toArray 53)).cellE
        refine hK.out _ _ trivial (fun _ => ?_)
        clear hK K
        change wpT _ _ _ _ _ _ _ (y0.alloc (.cells (celCells (insC 7 i pc off)).toArray 53))
        try (simp only [Act.put, List.setIfInBounds_toArray, List.set_cons_zero, List.set_cons_succ])
        refine tree_call trivial (by rfl) (fun K hK => ?_)
        go_simp
        refine hK.out _ _ trivial (fun _ => ?_)
        clear hK K
        try (simp only [Act.put, List.setIfInBounds_toArray, List.set_cons_zero, List.set_cons_succ])
        refine tree_call trivial (by rfl) (fun K hK => ?_)
        refine wp_append_new _ (.tmp 28) (.tmp 31) 45 rfl (b + 1) 53 i0 _ 9 72 Try.underlying45 HI.out HZ0.out HZ1.out HZ2.out rfl (by omega) ve (le).length (flat celCells (le)) rfl (HE0.out.alloc _).oe _ (.slice (some ⟨y0.heap.size, 0, none⟩) 1 1) 1 (celCells (insC 7 i pc off)) rfl (row_new y0 (celCells (insC 7 i pc off)) 9 rfl (by omega) _) (celCells_one _) (by unfold maxLen; have := HLE.out; omega) (by have := HLE.out; omega) (by have := HE0.out.lt; simp; omega) ?_
        intro v1 y1 hO hg hn
        obtain ⟨hE1, q1, q2, q3, A1, k1, rfl⟩ := HE0.out.appE (c := insC 7 i pc off) hO hg hn
        have HE1 := Lib.hid hE1
        clear hO hg hn hE1
        refine hK.out _ _ trivial (fun _ => ?_)
        clear hK K
        try (simp only [Act.put, List.setIfInBounds_toArray, List.set_cons_zero, List.set_cons_succ])
        iterate 2 (refine tree_take (v := ?_) trivial (by rfl) ?_ ?_; rotate_left; (intro x hx; (try dsimp only at hx); go_simp; try (with_reducible rfl)); (simp only [Act.put, List.setIfInBounds_toArray, List.set_cons_zero, List.set_cons_succ]))
        refine tree_call trivial (by rfl) (fun K hK => ?_)
        go_simp
        refine hK.out _ _ trivial (fun _ => ?_)
        clear hK K
        exact tree_done ⟨(y0.heap.size, .slice A1 ((le).length + 1) k1), rfl, HE1.out⟩
  rintro ⟨B2, v2⟩ w2 hE2
  dsimp only at hE2
  have HEw2 := Lib.hid hE2
  clear hE2
  simp only [Act.put, List.setIfInBounds_toArray, List.set_cons_zero, List.set_cons_succ]
  go_wp2_with fail
  first | exact bodyPost_ret (v := .tuple #[]) (by simp [results, Try.results76, go_sem]) rfl ⟨rfl, _, _, HEw2.out⟩ | exact bodyPost_end (v := .tuple #[]) (by simp [results, Try.results76, go_sem]) rfl ⟨rfl, _, _, HEw2.out⟩

set_option maxHeartbeats 4000000 in
theorem load_a {b : Nat} {i : Ins} {z : List Int} {pc off : Int} {S : Nat → Prop} {w0 : World} {va ve : Value} {la le : List Cel} (w : World) (h : Em b i z pc off S w0 w va ve la le) (hr : rightB i = true) (hla : la.length ≤ 100) (hle : le.length ≤ 100) (hd : ¬ atO z i.d = 2) :
    Calls Try.prog 76 #[.pointer (some ⟨b, 0, none⟩)] w fun e w' => e = .returned (.tuple #[]) ∧ ∃ va' ve', Em b i z pc off S w0 w' va' ve' (la ++ [insC 2 i pc off]) (le) := by
  have HEw := Lib.hid h
  have HLA := Lib.hid hla
  have HLE := Lib.hid hle
  have hrr := right_range hr
  obtain ⟨nd, hdn, hd15⟩ := nat_of hrr.2.1
  have c1 := h.cellI (k := 1) rfl
  have d1 := h.cellR hd15
  have hq : (atO z nd == 2) = false := by rw [← hdn]; simpa using hd
  rw [hdn] at c1
  have e1 : (nd : Int) ≤ 15 := by omega
  clear h hr hla hle hd hdn hrr
  obtain ⟨i0, hi, hz0, hz1, hz2⟩ := info_parts info_cel
  have HI := Lib.hid hi
  have HZ0 := Lib.hid hz0
  have HZ1 := Lib.hid hz1
  have HZ2 := Lib.hid hz2
  clear hi hz0 hz1 hz2
  go_enter Try.func76, Try.ntmps76
  go_wp2_with fail
  go_quiet (fail)
  go_wp2_with fail
  obtain ⟨wD, hwD⟩ : ∃ wD, wD = w.drewN nq := ⟨_, rfl⟩
  have HEwD : Hid (Em b i z pc off S w0 wD va ve la le) := by rw [hwD]; exact HEw.out.drewN _
  rw [← hwD]
  clear c1 d1 hwD
  refine region_tree_ex (fun (act : Act) (B : Nat × Value) => (((((((((((act.put (some 35) (.pointer (some ⟨b, 0, none⟩))).put (some 36) (.pointer (some ⟨b, 0, none⟩))).put (some 37) (.pointer (some ⟨b, 0, none⟩))).put (some 38) (.pointer (some ⟨b, 23, none⟩))).put (some 39) va).put (some 40) (.pointer (some ⟨b, 0, none⟩))).put (some 41) (.agg (celCells (insC 2 i pc off)).toArray)).put (some 42) (.slice (some ⟨B.1, 0, none⟩) 1 1)).put (some 43) B.2).put (some 44) (.pointer (some ⟨b, 0, none⟩))).put (some 45) (.pointer (some ⟨b, 23, none⟩))))
    (fun B y => Em b i z pc off S w0 y B.2 ve (la ++ [insC 2 i pc off]) (le))
    (LinT.of [(0, true), (1, true), (2, true), (3, true), (5, true)] (.two 4 6 (LinT.of [(6, false), (7, false), (8, false), (9, true), (10, true), (11, false)] .nil) (LinT.of [] (.two 4 7 (LinT.of [(7, false), (8, false), (9, true), (10, true), (11, false)] .nil) (LinT.of [(4, false), (8, false), (9, true), (10, true), (11, false)] .nil)))))
    (by kernel_rfl) (by kernel_rfl) rfl (by kernel_rfl) (fun _ => True) ?_ ?_
  · simp only [LinT.of, LinT.look, List.getElem?_toArray, List.getElem?_cons_succ, List.getElem?_cons_zero]
    have cL : wD.drew.cell? ⟨b, 23, none⟩ = some va := HEwD.out.cellA
    have cL2 : wD.cell? ⟨b, 23, none⟩ = some va := HEwD.out.cellA
    iterate 5 (refine tree_take (v := ?_) trivial (by rfl) ?_ ?_; rotate_left; (intro x hx; (try dsimp only at hx); go_simp; try (with_reducible rfl)); (simp only [Act.put, List.setIfInBounds_toArray, List.set_cons_zero, List.set_cons_succ]))
    refine tree_two trivial (by rfl) (by rfl) (fun K hK => ?_) (fun K hK => ?_)
    · go_simp
      refine hK.out _ _ trivial (fun _ => ?_)
      clear hK K
      try (simp only [Act.put, List.setIfInBounds_toArray, List.set_cons_zero, List.set_cons_succ])
      refine tree_call trivial (by rfl) (fun K hK => ?_)
      go_simp
      refine (withIns_any 2 _ HEwD.out.drew).mono ?_; rintro e y0 ⟨rfl, hb0⟩
      go_wp2_with fail
      have HE0 := Lib.hid ((HEwD.out.drew).below hb0)
      have cL0 := HE0.out.cellA
      refine hK.out _ _ trivial (fun _ => ?_)
      clear hK K hb0
      try (simp only [Act.put, List.setIfInBounds_toArray, List.set_cons_zero, List.set_cons_succ])
      refine tree_call trivial (by rfl) (fun K hK => ?_)
      go_simp
      try rw [fold_cel]
      refine hK.out _ _ trivial (fun _ => ?_)
      clear hK K
      change wpT _ _ _ _ _ _ _ (y0.alloc (.cells (celCells (insC 2 i pc off)).toArray 53))
      try (simp only [Act.put, List.setIfInBounds_toArray, List.set_cons_zero, List.set_cons_succ])
      refine tree_call trivial (by rfl) (fun K hK => ?_)
      refine wp_append_new _ (.tmp 39) (.tmp 42) 45 rfl (b + 1) 53 i0 _ 9 72 Try.underlying45 HI.out HZ0.out HZ1.out HZ2.out rfl (by omega) va (la).length (flat celCells (la)) rfl (HE0.out.alloc _).oa _ (.slice (some ⟨y0.heap.size, 0, none⟩) 1 1) 1 (celCells (insC 2 i pc off)) rfl (row_new y0 (celCells (insC 2 i pc off)) 9 rfl (by omega) _) (celCells_one _) (by unfold maxLen; have := HLA.out; omega) (by have := HLA.out; omega) (by have := HE0.out.lt; simp; omega) ?_
      intro v1 y1 hO hg hn
      obtain ⟨hE1, q1, q2, q3, A1, k1, rfl⟩ := HE0.out.appA (c := insC 2 i pc off) hO hg hn
      have HE1 := Lib.hid hE1
      clear hO hg hn hE1
      refine hK.out _ _ trivial (fun _ => ?_)
      clear hK K
      try (simp only [Act.put, List.setIfInBounds_toArray, List.set_cons_zero, List.set_cons_succ])
      iterate 2 (refine tree_take (v := ?_) trivial (by rfl) ?_ ?_; rotate_left; (intro x hx; (try dsimp only at hx); go_simp; try (with_reducible rfl)); (simp only [Act.put, List.setIfInBounds_toArray, List.set_cons_zero, List.set_cons_succ]))
      refine tree_call trivial (by rfl) (fun K hK => ?_)
      go_simp
      refine hK.out _ _ trivial (fun _ => ?_)
      clear hK K
      exact tree_done ⟨(y0.heap.size, .slice A1 ((la).length + 1) k1), rfl, HE1.out⟩
    · go_simp
      refine (withIns_any 2 _ HEwD.out.drew).mono ?_; rintro e y0 ⟨rfl, hb0⟩
      go_wp2_with fail
      have HE0 := Lib.hid ((HEwD.out.drew).below hb0)
      have cL0 := HE0.out.cellA
      refine hK.out _ _ trivial (fun _ => ?_)
      clear hK K hb0
      try (simp only [Act.put, List.setIfInBounds_toArray, List.set_cons_zero, List.set_cons_succ])
      refine tree_two trivial (by rfl) (by rfl) (fun K hK => ?_) (fun K hK => ?_)
      · go_simp
        refine hK.out _ _ trivial (fun _ => ?_)
        clear hK K
        try (simp only [Act.put, List.setIfInBounds_toArray, List.set_cons_zero, List.set_cons_succ])
        refine tree_call trivial (by rfl) (fun K hK => ?_)
        go_simp
        try rw [fold_cel]
        refine hK.out _ _ trivial (fun _ => ?_)
        clear hK K
        change wpT _ _ _ _ _ _ _ (y0.alloc (.cells (celCells (insC 2 i pc off)).toArray 53))
        try (simp only [Act.put, List.setIfInBounds_toArray, List.set_cons_zero, List.set_cons_succ])
        refine tree_call trivial (by rfl) (fun K hK => ?_)
        refine wp_append_new _ (.tmp 39) (.tmp 42) 45 rfl (b + 1) 53 i0 _ 9 72 Try.underlying45 HI.out HZ0.out HZ1.out HZ2.out rfl (by omega) va (la).length (flat celCells (la)) rfl (HE0.out.alloc _).oa _ (.slice (some ⟨y0.heap.size, 0, none⟩) 1 1) 1 (celCells (insC 2 i pc off)) rfl (row_new y0 (celCells (insC 2 i pc off)) 9 rfl (by omega) _) (celCells_one _) (by unfold maxLen; have := HLA.out; omega) (by have := HLA.out; omega) (by have := HE0.out.lt; simp; omega) ?_
        intro v1 y1 hO hg hn
        obtain ⟨hE1, q1, q2, q3, A1, k1, rfl⟩ := HE0.out.appA (c := insC 2 i pc off) hO hg hn
        have HE1 := Lib.hid hE1
        clear hO hg hn hE1
        refine hK.out _ _ trivial (fun _ => ?_)
        clear hK K
        try (simp only [Act.put, List.setIfInBounds_toArray, List.set_cons_zero, List.set_cons_succ])
        iterate 2 (refine tree_take (v := ?_) trivial (by rfl) ?_ ?_; rotate_left; (intro x hx; (try dsimp only at hx); go_simp; try (with_reducible rfl)); (simp only [Act.put, List.setIfInBounds_toArray, List.set_cons_zero, List.set_cons_succ]))
        refine tree_call trivial (by rfl) (fun K hK => ?_)
        go_simp
        refine hK.out _ _ trivial (fun _ => ?_)
        clear hK K
        exact tree_done ⟨(y0.heap.size, .slice A1 ((la).length + 1) k1), rfl, HE1.out⟩
      · go_simp
        try rw [fold_cel]
        have cLa := (HE0.out.alloc (.cells (celCells (insC 2 i pc off)).toArray 53)).cellA
        refine hK.out _ _ trivial (fun _ => ?_)
        clear hK K
        change wpT _ _ _ _ _ _ _ (y0.alloc (.cells (celCells (insC 2 i pc off)).toArray 53))
        try (simp only [Act.put, List.setIfInBounds_toArray, List.set_cons_zero, List.set_cons_succ])
        refine tree_call trivial (by rfl) (fun K hK => ?_)
        go_simp
        refine hK.out _ _ trivial (fun _ => ?_)
        clear hK K
        try (simp only [Act.put, List.setIfInBounds_toArray, List.set_cons_zero, List.set_cons_succ])
        refine tree_call trivial (by rfl) (fun K hK => ?_)
        refine wp_append_new _ (.tmp 39) (.tmp 42) 45 rfl (b + 1) 53 i0 _ 9 72 Try.underlying45 HI.out HZ0.out HZ1.out HZ2.out rfl (by omega) va (la).length (flat celCells (la)) rfl (HE0.out.alloc _).oa _ (.slice (some ⟨y0.heap.size, 0, none⟩) 1 1) 1 (celCells (insC 2 i pc off)) rfl (row_new y0 (celCells (insC 2 i pc off)) 9 rfl (by omega) _) (celCells_one _) (by unfold maxLen; have := HLA.out; omega) (by have := HLA.out; omega) (by have := HE0.out.lt; simp; omega) ?_
        intro v1 y1 hO hg hn
        obtain ⟨hE1, q1, q2, q3, A1, k1, rfl⟩ := HE0.out.appA (c := insC 2 i pc off) hO hg hn
        have HE1 := Lib.hid hE1
        clear hO hg hn hE1
        refine hK.out _ _ trivial (fun _ => ?_)
        clear hK K
        try (simp only [Act.put, List.setIfInBounds_toArray, List.set_cons_zero, List.set_cons_succ])
        iterate 2 (refine tree_take (v := ?_) trivial (by rfl) ?_ ?_; rotate_left; (intro x hx; (try dsimp only at hx); go_simp; try (with_reducible rfl)); (simp only [Act.put, List.setIfInBounds_toArray, List.set_cons_zero, List.set_cons_succ]))
        refine tree_call trivial (by rfl) (fun K hK => ?_)
        go_simp
        refine hK.out _ _ trivial (fun _ => ?_)
        clear hK K
        exact tree_done ⟨(y0.heap.size, .slice A1 ((la).length + 1) k1), rfl, HE1.out⟩
  rintro ⟨B1, v1⟩ w1 hE1
  dsimp only at hE1
  have HEw1 := Lib.hid hE1
  clear hE1
  simp only [Act.put, List.setIfInBounds_toArray, List.set_cons_zero, List.set_cons_succ]
  go_wp2_with fail
  first | exact bodyPost_ret (v := .tuple #[]) (by simp [results, Try.results76, go_sem]) rfl ⟨rfl, _, _, HEw1.out⟩ | exact bodyPost_end (v := .tuple #[]) (by simp [results, Try.results76, go_sem]) rfl ⟨rfl, _, _, HEw1.out⟩

end Go.Proofs.Ytbibfpopkcekdaa.Words

/- Contracts of slices.Index, Contains, IndexFunc, ContainsFunc as package emit calls them, and of what they ask: is a register on E? -/
namespace Go.Proofs.Ytbibfpopkcekdaa.Words
set_option maxRecDepth 100000
open Go.RowKit
set_option linter.unusedVariables false
set_option linter.unusedSimpArgs false

theorem mem_step {zs : List Int} {x : Int} {j : Nat} (h : j < zs.length) : (x ∈ zs.drop j) ↔ (x = zs.getD j 0 ∨ x ∈ zs.drop (j + 1)) := by
  rw [List.drop_eq_getElem_cons h, List.getD_eq_getElem?_getD, List.getElem?_eq_getElem h, List.mem_cons]; rfl

set_option maxHeartbeats 1000000 in
theorem index_any (A : Option Addr) (c n : Nat) (zs : List Int) (x : Int) (w : World) (hn : zs.length = n) (hr : Row w w.heap.size 1 (.slice A n c) n (zs.map (Value.int .i64))) (hs : n ≤ 100) :
    Calls Try.prog 93 #[.slice A n c, .int .i64 x] w fun e w' => (∃ k : Int, e = .returned (.int .i64 k) ∧ (0 ≤ k ↔ x ∈ zs)) ∧ w' = w := by
  have HN := Lib.hid hn
  have HR := Lib.hid hr
  have H0 := Lib.hid (show x ∈ zs ↔ x ∈ zs.drop 0 by rw [List.drop_zero])
  clear hr hn
  go_enter Try.func93, Try.ntmps93
  go_wp2_with fail
  go_loopw [8] (fun i wr => ∃ j : Nat, j ≤ n ∧ i = .int .i64 j ∧ wr = w ∧ (x ∈ zs ↔ x ∈ zs.drop j)) (fun i _ => n - (intOf i).toNat)
  case atStart => exact ⟨0, Nat.zero_le _, rfl, rfl, H0.out⟩
  case round =>
    obtain ⟨j, hj, rfl, rfl, hT⟩ := hrel
    have HT := Lib.hid hT
    clear hT
    by_cases hlt : j < n
    · have hl : j < zs.length := by rw [HN.out]; exact hlt
      obtain ⟨b, off, rfl, hb, hcells⟩ := HR.out.at_ (by omega)
      have d0 := hcells j _ (ints_get hl)
      have HS := Lib.hid (mem_step (x := x) hl)
      obtain ⟨r, hre⟩ : ∃ r, r = zs.getD j 0 := ⟨_, rfl⟩
      rw [← hre] at d0 HS
      clear hcells hre hl
      have k0 : (0 : Int) ≤ j := by omega
      have k1 : (j : Int) < n := by omega
      cases hq : (x == r)
      · have hne : ¬ x = r := by simpa using hq
        have HX := Lib.hid hne
        clear hne
        go_wp2_with fail
        go_roundw
        case rel => exact ⟨j + 1, by omega, by go_num, by first | rfl | trivial, by rw [HT.out, HS.out]; exact ⟨fun h => h.resolve_left HX.out, .inr⟩⟩
        case measure => simp only [intOf]; omega
      · have heq : x = r := by simpa using hq
        have HX := Lib.hid heq
        clear heq
        go_wp2_with fail
        go_ret
        exact ⟨⟨_, rfl, ⟨fun _ => by rw [HT.out, HS.out]; exact .inl HX.out, fun _ => by omega⟩⟩, by first | rfl | trivial⟩
    · have HE := Lib.hid (show zs.drop j = [] from List.drop_eq_nil_of_le (by rw [HN.out]; omega))
      go_wp2_with fail
      go_ret
      exact ⟨⟨_, rfl, ⟨fun h => by omega, fun h => by rw [HT.out, HE.out] at h; cases h⟩⟩, by first | rfl | trivial⟩

set_option maxHeartbeats 1000000 in
theorem contains_any (A : Option Addr) (c n : Nat) (zs : List Int) (x : Int) (w : World) (hn : zs.length = n) (hr : Row w w.heap.size 1 (.slice A n c) n (zs.map (Value.int .i64))) (hs : n ≤ 100) :
    Calls Try.prog 91 #[.slice A n c, .int .i64 x] w fun e w' => e = .returned (.bool (decide (x ∈ zs))) ∧ w' = w := by
  have HN := Lib.hid hn
  have HR := Lib.hid hr
  clear hr hn
  go_enter Try.func91, Try.ntmps91
  go_wp2_with fail
  refine (index_any A c n zs x w HN.out HR.out hs).mono ?_; rintro e w1 ⟨⟨k, rfl, hk⟩, rfl⟩
  have HK := Lib.hid hk
  clear hk
  by_cases h : 0 ≤ k
  · have HD := Lib.hid (decide_eq_true (HK.out.1 h))
    have g : decide (0 ≤ k) = true := decide_eq_true h
    go_wp2_with fail
    go_ret
    exact ⟨ret_bool HD.out.symm, by first | rfl | trivial⟩
  · have HD := Lib.hid (decide_eq_false (fun c => h (HK.out.2 c)))
    have g : decide (0 ≤ k) = false := decide_eq_false h
    go_wp2_with fail
    go_ret
    exact ⟨ret_bool HD.out.symm, by first | rfl | trivial⟩

set_option maxHeartbeats 1000000 in
theorem onE_any {b : Nat} {i : Ins} {z : List Int} {pc off : Int} {S : Nat → Prop} {w0 : World} {va ve : Value} {la le : List Cel} (r : Int) (w : World) (h : Em b i z pc off S w0 w va ve la le) (h0 : 0 ≤ r) (h1 : r ≤ 15) :
    Calls Try.prog 89 #[.pointer (some ⟨b, 0, none⟩), .int .i64 r] w fun e w' => e = .returned (.bool (decide (atO z r = 2))) ∧ w' = w := by
  obtain ⟨n, rfl, hn⟩ := nat_of ⟨h0, h1⟩
  have d0 := h.cellR hn
  have e1 : (n : Int) ≤ 15 := by omega
  clear h h0 h1 hn
  go_enter Try.func89, Try.ntmps89
  cases hq : (atO z n == 2)
  · have HD := Lib.hid (show decide (atO z n = 2) = false from decide_eq_false (by simpa using hq))
    go_wp2_with fail
    go_ret
    exact ⟨ret_bool HD.out.symm, by first | rfl | trivial⟩
  · have HD := Lib.hid (show decide (atO z n = 2) = true from decide_eq_true (by simpa using hq))
    go_wp2_with fail
    go_ret
    exact ⟨ret_bool HD.out.symm, by first | rfl | trivial⟩

theorem any_stepE {zs : List Int} {o : List Int} {j : Nat} (h : j < zs.length) : anyEB (zs.drop j) o = (decide (atO o (zs.getD j 0) = 2) || anyEB (zs.drop (j + 1)) o) := any_step h
set_option maxHeartbeats 1000000 in
theorem indexFunc_any {b : Nat} {i : Ins} {z : List Int} {pc off : Int} {S : Nat → Prop} {w0 : World} {va ve : Value} {la le : List Cel} (A : Option Addr) (c n : Nat) (zs : List Int) (w : World) (h : Em b i z pc off S w0 w va ve la le)
    (hn : zs.length = n) (hr : Row w w.heap.size 1 (.slice A n c) n (zs.map (Value.int .i64))) (hs : n ≤ 100) (hz : ∀ r ∈ zs, 0 ≤ r ∧ r ≤ 15) :
    Calls Try.prog 92 #[.slice A n c, .func (.func 89) #[.pointer (some ⟨b, 0, none⟩)] #[]] w fun e w' => (∃ k : Int, e = .returned (.int .i64 k) ∧ decide (0 ≤ k) = anyEB zs z) ∧ w' = w := by
  have HN := Lib.hid hn
  have HR := Lib.hid hr
  have HE := Lib.hid h
  have HZ := Lib.hid hz
  have H0 := Lib.hid (show anyEB zs z = anyEB (zs.drop 0) z by rw [List.drop_zero])
  clear hr hn h hz
  go_enter Try.func92, Try.ntmps92
  go_wp2_with fail
  go_loopw [8] (fun i wr => ∃ j : Nat, j ≤ n ∧ i = .int .i64 j ∧ wr = w ∧ anyEB zs z = anyEB (zs.drop j) z) (fun i _ => n - (intOf i).toNat)
  case atStart => exact ⟨0, Nat.zero_le _, rfl, rfl, H0.out⟩
  case round =>
    obtain ⟨j, hj, rfl, rfl, hT⟩ := hrel
    have HT := Lib.hid hT
    clear hT
    by_cases hlt : j < n
    · have hl : j < zs.length := by rw [HN.out]; exact hlt
      obtain ⟨g, o, rfl, hb, hcells⟩ := HR.out.at_ (by omega)
      have d0 := hcells j _ (ints_get hl)
      have HS := Lib.hid (any_step (o := z) hl)
      have HM := Lib.hid (HZ.out _ (getD_mem hl))
      obtain ⟨r, hre⟩ : ∃ r, r = zs.getD j 0 := ⟨_, rfl⟩
      rw [← hre] at d0 HS HM
      clear hcells hre hl
      have k0 : (0 : Int) ≤ j := by omega
      have k1 : (j : Int) < n := by omega
      go_wp2_with fail
      refine (onE_any r _ HE.out HM.out.1 HM.out.2).mono ?_; rintro e w1 ⟨rfl, rfl⟩
      try dsimp only
      cases hq : decide (atO z r = 2)
      · rw [hq] at HS
        go_wp2_with fail
        go_roundw
        case rel => exact ⟨j + 1, by omega, by go_num, by first | rfl | trivial, by rw [HT.out, HS.out]; rfl⟩
        case measure => simp only [intOf]; omega
      · rw [hq] at HS
        go_wp2_with fail
        go_ret
        exact ⟨⟨_, rfl, by rw [HT.out, HS.out]; simp⟩, by first | rfl | trivial⟩
    · have HE := Lib.hid (show zs.drop j = [] from List.drop_eq_nil_of_le (by rw [HN.out]; omega))
      go_wp2_with fail
      go_ret
      exact ⟨⟨_, rfl, by rw [HT.out, HE.out]; rfl⟩, by first | rfl | trivial⟩

set_option maxHeartbeats 1000000 in
theorem containsFunc_any {b : Nat} {i : Ins} {z : List Int} {pc off : Int} {S : Nat → Prop} {w0 : World} {va ve : Value} {la le : List Cel} (A : Option Addr) (c n : Nat) (zs : List Int) (w : World) (h : Em b i z pc off S w0 w va ve la le)
    (hn : zs.length = n) (hr : Row w w.heap.size 1 (.slice A n c) n (zs.map (Value.int .i64))) (hs : n ≤ 100) (hz : ∀ r ∈ zs, 0 ≤ r ∧ r ≤ 15) :
    Calls Try.prog 88 #[.slice A n c, .func (.func 89) #[.pointer (some ⟨b, 0, none⟩)] #[]] w fun e w' => e = .returned (.bool (anyEB zs z)) ∧ w' = w := by
  have HN := Lib.hid hn
  have HR := Lib.hid hr
  have HE := Lib.hid h
  have HZ := Lib.hid hz
  clear hr hn h hz
  go_enter Try.func88, Try.ntmps88
  go_wp2_with fail
  refine (indexFunc_any A c n zs w HE.out HN.out HR.out hs HZ.out).mono ?_; rintro e w1 ⟨⟨k, rfl, hk⟩, rfl⟩
  have HK := Lib.hid hk
  clear hk
  cases g : decide (0 ≤ k)
  · have HD := Lib.hid (show anyEB zs z = false by rw [← HK.out, g])
    go_wp2_with fail
    go_ret
    exact ⟨ret_bool HD.out.symm, by first | rfl | trivial⟩
  · have HD := Lib.hid (show anyEB zs z = true by rw [← HK.out, g])
    go_wp2_with fail
    go_ret
    exact ⟨ret_bool HD.out.symm, by first | rfl | trivial⟩
end Go.Proofs.Ytbibfpopkcekdaa.Words

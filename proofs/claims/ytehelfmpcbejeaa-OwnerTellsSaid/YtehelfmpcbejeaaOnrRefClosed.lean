/- Contract of the document's own Closed. -/
import Derived.Test.YtehelfmpcbejeaaOnrClosed
import Derived.Test.YtehelfmpcbejeaaOnrSideR
import Derived.Test.YtehelfmpcbejeaaRefRight
namespace Go.Proofs.Ytehelfmpcbejeaa.Words
set_option maxRecDepth 100000
open Go.RowKit
set_option linter.unusedVariables false
set_option linter.unusedSimpArgs false

section
variable {P : Program} {ops : Array Oper} {Q : Exit → Act → World → Prop}
theorem lin_skipF {op : Oper} {rest : List (Option Oper × Bool)} {S : World → Prop} {a : Act} {w : World} (hS : S w)
    (hw : Region.wanted op (yielded ops a.tmps) = false) (h : wpLin P ops Q rest S (a.put op.dst undef) w) : wpLin P ops Q ((some op, false) :: rest) S a w :=
  ⟨S, fun _ h => h, hS, by unfold linStep; rw [if_neg (by rw [hw]; decide)]; exact ⟨hS, h⟩⟩
end
theorem free_mem {o : List Int} {i : Ins} (ho : atO o 0 = 0) (hi : rightB i = true) (hm : formZ i.op = 4 ∨ formZ i.op = 5) : freeB o i = !onEB o i.a := by
  have hr := right_range hi
  unfold freeB needZ
  rw [if_pos (show memB i.op = true from decide_eq_true hm)]
  unfold anyEB onEB
  simp only [List.any_cons, List.any_nil, Bool.or_false]
  by_cases h : 0 < i.a
  · rw [decide_eq_true h, Bool.true_and]
  · rw [show i.a = 0 from by omega, ho]; rfl
theorem free_rec {o : List Int} {i : Ins} (ho : atO o 0 = 0) (h1 : 1 ≤ formZ i.op) (h3 : formZ i.op ≤ 3) : freeB o i = if 0 < i.d ∧ atO o i.d = 1 then !anyEB (readsZ i) o else true := by
  unfold freeB needZ
  rw [if_neg (by unfold memB; rw [decide_eq_true_eq]; omega)]
  have hr : recB i.op = true := decide_eq_true ⟨h1, h3⟩
  by_cases hd : atO o i.d = 1
  · rw [if_pos ⟨hr, hd⟩]
    by_cases h0 : 0 < i.d
    · rw [if_pos ⟨h0, hd⟩]
    · exfalso
      have : i.d.toNat = (0 : Int).toNat := by omega
      unfold atO at ho hd
      rw [this, ho] at hd; omega
  · rw [if_neg (fun c => hd c.2), if_neg (fun c => hd c.2)]; rfl
theorem free_no {o : List Int} {i : Ins} (h : 6 ≤ formZ i.op) : freeB o i = true := by
  unfold freeB needZ
  rw [if_neg (by unfold memB; rw [decide_eq_true_eq]; omega), if_neg (by unfold recB; rw [decide_eq_true_eq]; omega)]; rfl

set_option maxHeartbeats 16000000 in
theorem refClosed_any (A : Option Addr) (c : Nat) (sz : Int) (A' : Option Addr) (m c' : Nat) (l : List Ins) (o : List Int) (w : World) (hr : Row w w.heap.size 5 (.slice A l.length c) l.length (codeCells l)) (hm : m ≤ c') (hc' : c' ≤ 9223372036854775807) (ho : o.length = 16) :
    Calls Try.prog 13 #[.agg #[.slice A l.length c, .int .i64 sz, .slice A' m c'], .agg (oV o).toArray] w fun e w' => e = .returned (.bool (closedZ l sz m o)) ∧ Below w.heap.size w w' := by
  obtain ⟨W1, hW1⟩ : ∃ W1, W1 = w.alloc (.cells #[.slice A l.length c, .int .i64 sz, .slice A' m c'] 25) := ⟨_, rfl⟩
  obtain ⟨W2, hW2⟩ : ∃ W2, W2 = W1.alloc (.cells (oV o).toArray 26) := ⟨_, rfl⟩
  have hz1 : W1.heap.size = w.heap.size + 1 := by rw [hW1]; simp
  have hz2 : W2.heap.size = w.heap.size + 2 := by rw [hW2]; simp [hz1]
  have hK : Below w.heap.size w W2 := by rw [hW2, hW1]; exact ((Below.refl w.heap.size w).alloc (Nat.le_refl _) _).alloc (by simp) _
  have HB0 : Box W2 (w.heap.size + 1) (oV o) := by rw [hW2, ← hz1]; exact Box.new W1 (oV o) _
  have HI : Box W2 w.heap.size [.slice A l.length c, .int .i64 sz, .slice A' m c'] := by
    rw [hW2]; refine Box.alloc ?_ _; rw [hW1]; exact Box.new w [.slice A l.length c, .int .i64 sz, .slice A' m c'] _
  have HRR := Lib.hid (show Row W2 W2.heap.size 5 (.slice A l.length c) l.length (codeCells l) from (hr.below hK).more (by omega))
  have HB := Lib.hid HB0
  have HIB := Lib.hid HI
  have HKK := Lib.hid hK
  have HO := Lib.hid ho
  have HCL := Lib.hid (show closedZ l sz m o = (ownersB o && rightZ l sz m && l.all (freeB o)) from rfl)
  have HOB := Lib.hid (show ownersB o = (decide (atO o 0 = 0) && (List.range 15).all fun k => decide (atO o ((k : Int) + 1) = 1 ∨ atO o ((k : Int) + 1) = 2)) from rfl)
  have c0 := HI.cell (k := 0) rfl
  have c1 := HI.cell (k := 1) rfl
  have c2 := HI.cell (k := 2) rfl
  obtain ⟨hcl, hcm⟩ := hr.cap
  clear HI HB0 hK hr ho
  go_enter Try.func13, Try.ntmps13
  go_wp2_with fail
  rw [← hW1, ← hW2]
  clear hW1 hW2
  have k0 := Kept.refl W2
  refine (refRight_any A c sz A' m c' l _ HRR.out hm hc').mono ?_; rintro e w1 ⟨rfl, hb1⟩
  have k1 := k0.to hb1
  have HK1 := Lib.hid (HKK.out.trans (Below.mono k1 (by omega)))
  clear hb1 c0 c1 c2
  cases hri : rightZ l sz m
  · have HL := Lib.hid (show closedZ l sz m o = false by rw [HCL.out, hri, Bool.and_false]; rfl)
    go_wp2_with fail
    go_ret
    exact ⟨ret_bool HL.out.symm, HK1.out⟩
  have HB1 := Lib.hid (HB.out.kept k1)
  have HI1 := Lib.hid (HIB.out.kept k1)
  have HR1 := Lib.hid (k1.row HRR.out)
  have o0 := HB1.out.cell (oV_at HO.out (n := 0) (by omega))
  rw [show (((0 : Nat) : Int)) = 0 from rfl] at o0
  have HRI := Lib.hid hri
  have hz3 : w.heap.size + 2 ≤ w1.heap.size := by have := k1.size; omega
  clear hri k0 k1 HB HIB HRR HKK
  by_cases hq0 : atO o 0 = 0
  rotate_left
  · have HL := Lib.hid (show closedZ l sz m o = false by rw [HCL.out, HOB.out, decide_eq_false hq0]; rfl)
    have q0 : (atO o 0 != 0) = true := by simpa using hq0
    clear hq0
    go_wp2_with fail
    go_ret
    exact ⟨ret_bool HL.out.symm, HK1.out⟩
  have HQ0 := Lib.hid hq0
  have HOS := Lib.hid (show ownersB o = ((List.range 15).drop 0).all fun k => decide (atO o ((k : Int) + 1) = 1 ∨ atO o ((k : Int) + 1) = 2) by rw [HOB.out, decide_eq_true hq0, List.drop_zero, Bool.true_and])
  rw [hq0] at o0
  clear hq0
  go_wp2_with fail
  go_loopw [5] (fun ii wr => ∃ k : Nat, 1 ≤ k ∧ k ≤ 16 ∧ ii = .int .i64 k ∧ wr = w1 ∧ ownersB o = ((List.range 15).drop (k - 1)).all fun k => decide (atO o ((k : Int) + 1) = 1 ∨ atO o ((k : Int) + 1) = 2)) (fun ii _ => 16 - (intOf ii).toNat)
  case atStart => exact ⟨1, Nat.le_refl _, by omega, rfl, rfl, HOS.out⟩
  case round =>
    obtain ⟨j, hj1, hj, rfl, rfl, hT⟩ := hrel
    have HT := Lib.hid hT
    clear hT
    by_cases hlt : j < 16
    · have hst := owners_step HO.out (j - 1) (by omega) (fun k => decide (atO o ((k : Int) + 1) = 1 ∨ atO o ((k : Int) + 1) = 2))
      rw [show ((j - 1 : Nat) : Int) + 1 = j from by omega, show j - 1 + 1 = j + 1 - 1 from by omega] at hst
      have HST := Lib.hid hst
      clear hst
      have d1 := HB1.out.cell (oV_at HO.out (n := j) (by omega))
      have k0 : (0 : Int) ≤ j := by omega
      have k1 : (j : Int) < 16 := by omega
      by_cases h1 : atO o j = 1
      · have HG := Lib.hid (show decide (atO o j = 1 ∨ atO o j = 2) = true from decide_eq_true (.inl h1))
        rw [h1] at d1
        clear h1
        go_wp2_with fail
        go_roundw
        case rel => exact ⟨j + 1, by omega, by omega, by go_num, by first | rfl | trivial, by rw [HT.out, HST.out, HG.out]; rfl⟩
        case measure => simp only [intOf]; omega
      by_cases h2 : atO o j = 2
      · have HG := Lib.hid (show decide (atO o j = 1 ∨ atO o j = 2) = true from decide_eq_true (.inr h2))
        rw [h2] at d1
        clear h1 h2
        go_wp2_with fail
        go_roundw
        case rel => exact ⟨j + 1, by omega, by omega, by go_num, by first | rfl | trivial, by rw [HT.out, HST.out, HG.out]; rfl⟩
        case measure => simp only [intOf]; omega
      · have HG := Lib.hid (show decide (atO o j = 1 ∨ atO o j = 2) = false from decide_eq_false (fun h => h.elim h1 h2))
        have q1 : (atO o j != 1) = true := by simpa using h1
        have q2 : (atO o j != 2) = true := by simpa using h2
        have HL := Lib.hid (show closedZ l sz m o = false by rw [HCL.out, HT.out, HST.out, HG.out]; rfl)
        clear h1 h2
        go_wp2_with fail
        go_ret
        exact ⟨ret_bool HL.out.symm, HK1.out⟩
    · have g1 : ¬ ((j : Int) < 16) := by omega
      have HCA := Lib.hid (show closedZ l sz m o = (l.drop 0).all (freeB o) by rw [HCL.out, HT.out, HRI.out, List.drop_eq_nil_of_le (show (List.range 15).length ≤ j - 1 from by simp; omega), List.drop_zero]; rfl)
      obtain ⟨hl2, hall⟩ := rightZ_ins HRI.out
      have HC := Lib.hid hall
      have HAT := Lib.hid (fun (j : Nat) (i : Ins) (h : l[j]? = some i) => all_at (f := freeB o) h)
      have HAE := Lib.hid (fun (j : Nat) (h : l.length ≤ j) => (show (l.drop j).all (freeB o) = true by rw [List.drop_eq_nil_of_le h]; rfl))
      clear hall HCL HT HRI HOB HOS o0
      generalize hn : l.length = n at HI1 hl2 hcl ⊢
      have Hn := Lib.hid hn
      clear hn
      go_wp2_with fail
      go_loopw [6] (fun ii wx => ∃ j : Nat, j ≤ n ∧ ii = .int .i64 j ∧ Kept wr wx ∧ closedZ l sz m o = (l.drop j).all (freeB o)) (fun ii _ => n - (intOf ii).toNat)
      case atStart => exact ⟨0, Nat.zero_le _, rfl, Kept.refl _, HCA.out⟩
      case round =>
        obtain ⟨j, hj, rfl, hkw, hF⟩ := hrel
        have HKW := Lib.hid hkw
        have HF := Lib.hid hF
        clear hkw hF
        have c0 := (HI1.out.kept HKW.out).cell (k := 0) rfl
        by_cases hlj : j < n
        · have hl : j < l.length := by rw [Hn.out]; exact hlj
          obtain ⟨i, hi⟩ : ∃ i, l[j]? = some i := ⟨_, List.getElem?_eq_getElem hl⟩
          have HRI := Lib.hid (HC.out i (List.mem_of_getElem? hi))
          have hrow := HKW.out.row HR1.out
          obtain ⟨g, off, rfl, hg, _⟩ := hrow.at_ (by omega)
          obtain ⟨d0, d1, d2, d3, d4⟩ := hrow.ins hi
          have HST := Lib.hid (HF.out.trans (HAT.out j i hi))
          have k0 : (0 : Int) ≤ j := by omega
          have k1 : (j : Int) < n := by omega
          have HXI := Lib.hid (Box.new wr (insV i) 28)
          have HBW := Lib.hid ((HB1.out.kept HKW.out).alloc (.cells (insV i).toArray 28))
          have hkz := HKW.out.size
          have HKA0 := HKW.out.alloc (.cells (insV i).toArray 28)
          have HKA := Lib.hid HKA0
          clear hi hl hrow HKA0
          go_wp2_with fail
          change Calls _ _ _ (wr.alloc (.cells (insV i).toArray 28)) _
          obtain ⟨xb, hxb⟩ : ∃ xb, xb = wr.heap.size := ⟨_, rfl⟩
          rw [← hxb] at HXI hkz ⊢
          clear hxb d0 d1 d2 d3 d4 c0
          generalize wr.alloc (.cells (insV i).toArray 28) = Y at *
          refine (refForm_any _ _).mono ?_; rintro e w5 ⟨rfl, rfl⟩
          try dsimp only
          have HF8 := Lib.hid (formZ_range i.op)
          have HRG := Lib.hid (right_range HRI.out)
          have hbz := HXI.out.lt
          have e0 := HXI.out.cell (k := 0) rfl
          have HF1 := Lib.hid (show formZ i.op ≠ 0 from by
            have h := HRI.out
            unfold rightB at h
            simp only [Bool.and_eq_true, decide_eq_true_eq] at h
            exact h.1.1.1.1)
          have HM := Lib.hid (fun h => free_mem (o := o) (i := i) HQ0.out HRI.out h)
          have HRC := Lib.hid (fun h1 h3 => free_rec (o := o) (i := i) HQ0.out h1 h3)
          have HNO := Lib.hid (fun h => free_no (o := o) (i := i) h)
          have HKE := Lib.hid (HK1.out.trans (Below.mono HKA.out (by omega)))
          generalize hf : formZ i.op = f at *
          clear hf
          by_cases hf4 : f = 4
          · subst hf4
            have e2 := HXI.out.cell (k := 2) rfl
            have HFM := Lib.hid (HM.out (by decide))
            clear HM HRC HNO
            go_wp2_with (first
              | (refine wpList_load_box rfl 26 (.tmp 3) rfl (w.heap.size + 1) 0 rfl (oV o) (oV o) HBW.out whole_at _ Try.underlying26 rfl 16 (by kernel_rfl) ((oV_len o).trans HO.out) ?_))
            refine (refOnE_any o i.a _ HO.out (HRG.out.2.2.1.2)).mono ?_; rintro e w6 ⟨rfl, hb6⟩
            have HK6 := Lib.hid (HKA.out.to hb6)
            have HKE6 := Lib.hid (HKE.out.trans (hb6.mono (by have := HKE.out.size; omega)))
            clear hb6
            cases hq : onEB o i.a
            · have HE := Lib.hid (show freeB o i = true by rw [HFM.out, hq]; rfl)
              clear hq e2 e0
              go_wp2_with fail
              refine wp_region_lin [(0, true), (1, true), (2, true), (3, true), (4, true), (5, true), (6, true), (7, true), (8, true), (9, true), (10, true), (11, true), (12, true), (13, true), (14, true), (15, true), (16, true), (17, true), (18, true), (19, true), (20, true), (21, false), (22, false), (23, true)]
                (by kernel_rfl) (by kernel_rfl) rfl (by kernel_rfl) (Kept w6) ?_
              have k9 : Kept w6 w6.drew := (Kept.refl w6).drew
              simp only [List.map_cons, List.map_nil, List.getElem?_toArray, List.getElem?_cons_succ, List.getElem?_cons_zero]
              iterate 7 (refine lin_take (v := ?_) (by assumption) (by rfl) ?_ ?_; rotate_left; (intro x hx; (try dsimp only at hx); (try have d1 := D1.out x hx); (try have f1 := F1.out x hx); go_simp; try (with_reducible rfl)); (try simp only [Act.put, List.setIfInBounds_toArray, List.set_cons_zero, List.set_cons_succ]))
              iterate 3 (refine lin_skip (by assumption) (by rfl) ?_; (try simp only [Act.put, List.setIfInBounds_toArray, List.set_cons_zero, List.set_cons_succ]))
              iterate 2 (refine lin_take (v := ?_) (by assumption) (by rfl) ?_ ?_; rotate_left; (intro x hx; (try dsimp only at hx); (try have d1 := D1.out x hx); (try have f1 := F1.out x hx); go_simp; try (with_reducible rfl)); (try simp only [Act.put, List.setIfInBounds_toArray, List.set_cons_zero, List.set_cons_succ]))
              iterate 5 (refine lin_skip (by assumption) (by rfl) ?_; (try simp only [Act.put, List.setIfInBounds_toArray, List.set_cons_zero, List.set_cons_succ]))
              iterate 2 (refine lin_take (v := ?_) (by assumption) (by rfl) ?_ ?_; rotate_left; (intro x hx; (try dsimp only at hx); (try have d1 := D1.out x hx); (try have f1 := F1.out x hx); go_simp; try (with_reducible rfl)); (try simp only [Act.put, List.setIfInBounds_toArray, List.set_cons_zero, List.set_cons_succ]))
              iterate 2 (refine lin_skip (by assumption) (by rfl) ?_; (try simp only [Act.put, List.setIfInBounds_toArray, List.set_cons_zero, List.set_cons_succ]))
              iterate 2 (refine lin_skipF (by assumption) (by rfl) ?_; (try simp only [Act.put, List.setIfInBounds_toArray, List.set_cons_zero, List.set_cons_succ]))
              iterate 1 (refine lin_take (v := ?_) (by assumption) (by rfl) ?_ ?_; rotate_left; (intro x hx; (try dsimp only at hx); (try have d1 := D1.out x hx); (try have f1 := F1.out x hx); go_simp; try (with_reducible rfl)); (try simp only [Act.put, List.setIfInBounds_toArray, List.set_cons_zero, List.set_cons_succ]))
              refine lin_done ?_
              go_wp2_with fail
              go_roundw
              case rel => exact ⟨j + 1, by omega, by go_num, HK6.out.drew, by rw [HST.out, HE.out, Bool.true_and]⟩
              case measure => simp only [intOf]; omega
            · have HE := Lib.hid (show freeB o i = false by rw [HFM.out, hq]; rfl)
              clear hq e2 e0
              go_wp2_with fail
              go_ret
              exact ⟨ret_bool (by rw [HST.out, HE.out]; rfl), HKE6.out⟩
          by_cases hf5 : f = 5
          · subst hf5
            have e2 := HXI.out.cell (k := 2) rfl
            have HFM := Lib.hid (HM.out (by decide))
            clear HM HRC HNO
            go_wp2_with (first
              | (refine wpList_load_box rfl 26 (.tmp 3) rfl (w.heap.size + 1) 0 rfl (oV o) (oV o) HBW.out whole_at _ Try.underlying26 rfl 16 (by kernel_rfl) ((oV_len o).trans HO.out) ?_))
            refine (refOnE_any o i.a _ HO.out (HRG.out.2.2.1.2)).mono ?_; rintro e w6 ⟨rfl, hb6⟩
            have HK6 := Lib.hid (HKA.out.to hb6)
            have HKE6 := Lib.hid (HKE.out.trans (hb6.mono (by have := HKE.out.size; omega)))
            clear hb6
            cases hq : onEB o i.a
            · have HE := Lib.hid (show freeB o i = true by rw [HFM.out, hq]; rfl)
              clear hq e2 e0
              go_wp2_with fail
              refine wp_region_lin [(0, true), (1, true), (2, true), (3, true), (4, true), (5, true), (6, true), (7, true), (8, true), (9, true), (10, true), (11, true), (12, true), (13, true), (14, true), (15, true), (16, true), (17, true), (18, true), (19, true), (20, true), (21, false), (22, false), (23, true)]
                (by kernel_rfl) (by kernel_rfl) rfl (by kernel_rfl) (Kept w6) ?_
              have k9 : Kept w6 w6.drew := (Kept.refl w6).drew
              simp only [List.map_cons, List.map_nil, List.getElem?_toArray, List.getElem?_cons_succ, List.getElem?_cons_zero]
              iterate 7 (refine lin_take (v := ?_) (by assumption) (by rfl) ?_ ?_; rotate_left; (intro x hx; (try dsimp only at hx); (try have d1 := D1.out x hx); (try have f1 := F1.out x hx); go_simp; try (with_reducible rfl)); (try simp only [Act.put, List.setIfInBounds_toArray, List.set_cons_zero, List.set_cons_succ]))
              iterate 3 (refine lin_skip (by assumption) (by rfl) ?_; (try simp only [Act.put, List.setIfInBounds_toArray, List.set_cons_zero, List.set_cons_succ]))
              iterate 2 (refine lin_take (v := ?_) (by assumption) (by rfl) ?_ ?_; rotate_left; (intro x hx; (try dsimp only at hx); (try have d1 := D1.out x hx); (try have f1 := F1.out x hx); go_simp; try (with_reducible rfl)); (try simp only [Act.put, List.setIfInBounds_toArray, List.set_cons_zero, List.set_cons_succ]))
              iterate 5 (refine lin_skip (by assumption) (by rfl) ?_; (try simp only [Act.put, List.setIfInBounds_toArray, List.set_cons_zero, List.set_cons_succ]))
              iterate 2 (refine lin_take (v := ?_) (by assumption) (by rfl) ?_ ?_; rotate_left; (intro x hx; (try dsimp only at hx); (try have d1 := D1.out x hx); (try have f1 := F1.out x hx); go_simp; try (with_reducible rfl)); (try simp only [Act.put, List.setIfInBounds_toArray, List.set_cons_zero, List.set_cons_succ]))
              iterate 2 (refine lin_skip (by assumption) (by rfl) ?_; (try simp only [Act.put, List.setIfInBounds_toArray, List.set_cons_zero, List.set_cons_succ]))
              iterate 2 (refine lin_skipF (by assumption) (by rfl) ?_; (try simp only [Act.put, List.setIfInBounds_toArray, List.set_cons_zero, List.set_cons_succ]))
              iterate 1 (refine lin_take (v := ?_) (by assumption) (by rfl) ?_ ?_; rotate_left; (intro x hx; (try dsimp only at hx); (try have d1 := D1.out x hx); (try have f1 := F1.out x hx); go_simp; try (with_reducible rfl)); (try simp only [Act.put, List.setIfInBounds_toArray, List.set_cons_zero, List.set_cons_succ]))
              refine lin_done ?_
              go_wp2_with fail
              go_roundw
              case rel => exact ⟨j + 1, by omega, by go_num, HK6.out.drew, by rw [HST.out, HE.out, Bool.true_and]⟩
              case measure => simp only [intOf]; omega
            · have HE := Lib.hid (show freeB o i = false by rw [HFM.out, hq]; rfl)
              clear hq e2 e0
              go_wp2_with fail
              go_ret
              exact ⟨ret_bool (by rw [HST.out, HE.out]; rfl), HKE6.out⟩
          have q4 : (f == 4) = false := by simpa using hf4
          have q5 : (f == 5) = false := by simpa using hf5
          have HF8 := HF8.out
          have HF1 := HF1.out
          have D1 := Lib.hid (fun (x : World) (h : Kept Y x) => h.cell hbz (HXI.out.cell (k := 1) rfl))
          have G5 : decide ((1 : Int) ≤ f) = true := decide_eq_true (by omega)
          by_cases h3 : f ≤ 3
          rotate_left
          · have HE := Lib.hid (HNO.out (by omega))
            have G3 : decide (f ≤ 3) = false := decide_eq_false h3
            clear hf4 hf5 HF8 HF1 h3
            go_wp2_with fail
            refine wp_region_lin [(0, true), (1, true), (2, true), (3, true), (4, true), (5, true), (6, true), (7, true), (8, true), (9, true), (10, true), (11, true), (12, true), (13, true), (14, true), (15, true), (16, true), (17, true), (18, true), (19, true), (20, true), (21, false), (22, false), (23, true)]
              (by kernel_rfl) (by kernel_rfl) rfl (by kernel_rfl) (Kept Y) ?_
            have k9 : Kept Y Y.drew := (Kept.refl Y).drew
            simp only [List.map_cons, List.map_nil, List.getElem?_toArray, List.getElem?_cons_succ, List.getElem?_cons_zero]
            iterate 7 (refine lin_take (v := ?_) (by assumption) (by rfl) ?_ ?_; rotate_left; (intro x hx; (try dsimp only at hx); (try have d1 := D1.out x hx); (try have f1 := F1.out x hx); go_simp; try (with_reducible rfl)); (try simp only [Act.put, List.setIfInBounds_toArray, List.set_cons_zero, List.set_cons_succ]))
            iterate 3 (refine lin_skip (by assumption) (by rfl) ?_; (try simp only [Act.put, List.setIfInBounds_toArray, List.set_cons_zero, List.set_cons_succ]))
            iterate 2 (refine lin_take (v := ?_) (by assumption) (by rfl) ?_ ?_; rotate_left; (intro x hx; (try dsimp only at hx); (try have d1 := D1.out x hx); (try have f1 := F1.out x hx); go_simp; try (with_reducible rfl)); (try simp only [Act.put, List.setIfInBounds_toArray, List.set_cons_zero, List.set_cons_succ]))
            iterate 5 (refine lin_skip (by assumption) (by rfl) ?_; (try simp only [Act.put, List.setIfInBounds_toArray, List.set_cons_zero, List.set_cons_succ]))
            iterate 2 (refine lin_take (v := ?_) (by assumption) (by rfl) ?_ ?_; rotate_left; (intro x hx; (try dsimp only at hx); (try have d1 := D1.out x hx); (try have f1 := F1.out x hx); go_simp; try (with_reducible rfl)); (try simp only [Act.put, List.setIfInBounds_toArray, List.set_cons_zero, List.set_cons_succ]))
            iterate 2 (refine lin_skip (by assumption) (by rfl) ?_; (try simp only [Act.put, List.setIfInBounds_toArray, List.set_cons_zero, List.set_cons_succ]))
            iterate 2 (refine lin_skipF (by assumption) (by rfl) ?_; (try simp only [Act.put, List.setIfInBounds_toArray, List.set_cons_zero, List.set_cons_succ]))
            iterate 1 (refine lin_take (v := ?_) (by assumption) (by rfl) ?_ ?_; rotate_left; (intro x hx; (try dsimp only at hx); (try have d1 := D1.out x hx); (try have f1 := F1.out x hx); go_simp; try (with_reducible rfl)); (try simp only [Act.put, List.setIfInBounds_toArray, List.set_cons_zero, List.set_cons_succ]))
            refine lin_done ?_
            go_wp2_with fail
            go_roundw
            case rel => exact ⟨j + 1, by omega, by go_num, HKA.out.drew, by rw [HST.out, HE.out, Bool.true_and]⟩
            case measure => simp only [intOf]; omega
          have HRC2 := Lib.hid (HRC.out (by omega) h3)
          have G3 : decide (f ≤ 3) = true := decide_eq_true h3
          clear hf4 hf5 HF8 HF1 h3
          by_cases hd : 0 < i.d
          rotate_left
          · have HE := Lib.hid (HRC2.out.trans (if_neg (fun h => hd h.1)))
            have G4 : decide (0 < i.d) = false := decide_eq_false hd
            clear hd
            go_wp2_with fail
            refine wp_region_lin [(0, true), (1, true), (2, true), (3, true), (4, true), (5, true), (6, true), (7, true), (8, true), (9, true), (10, true), (11, true), (12, true), (13, true), (14, true), (15, true), (16, true), (17, true), (18, true), (19, true), (20, true), (21, false), (22, false), (23, true)]
              (by kernel_rfl) (by kernel_rfl) rfl (by kernel_rfl) (Kept Y) ?_
            have k9 : Kept Y Y.drew := (Kept.refl Y).drew
            simp only [List.map_cons, List.map_nil, List.getElem?_toArray, List.getElem?_cons_succ, List.getElem?_cons_zero]
            iterate 12 (refine lin_take (v := ?_) (by assumption) (by rfl) ?_ ?_; rotate_left; (intro x hx; (try dsimp only at hx); (try have d1 := D1.out x hx); (try have f1 := F1.out x hx); go_simp; try (with_reducible rfl)); (try simp only [Act.put, List.setIfInBounds_toArray, List.set_cons_zero, List.set_cons_succ]))
            iterate 5 (refine lin_skip (by assumption) (by rfl) ?_; (try simp only [Act.put, List.setIfInBounds_toArray, List.set_cons_zero, List.set_cons_succ]))
            iterate 2 (refine lin_take (v := ?_) (by assumption) (by rfl) ?_ ?_; rotate_left; (intro x hx; (try dsimp only at hx); (try have d1 := D1.out x hx); (try have f1 := F1.out x hx); go_simp; try (with_reducible rfl)); (try simp only [Act.put, List.setIfInBounds_toArray, List.set_cons_zero, List.set_cons_succ]))
            iterate 2 (refine lin_skip (by assumption) (by rfl) ?_; (try simp only [Act.put, List.setIfInBounds_toArray, List.set_cons_zero, List.set_cons_succ]))
            iterate 2 (refine lin_skipF (by assumption) (by rfl) ?_; (try simp only [Act.put, List.setIfInBounds_toArray, List.set_cons_zero, List.set_cons_succ]))
            iterate 1 (refine lin_take (v := ?_) (by assumption) (by rfl) ?_ ?_; rotate_left; (intro x hx; (try dsimp only at hx); (try have d1 := D1.out x hx); (try have f1 := F1.out x hx); go_simp; try (with_reducible rfl)); (try simp only [Act.put, List.setIfInBounds_toArray, List.set_cons_zero, List.set_cons_succ]))
            refine lin_done ?_
            go_wp2_with fail
            go_roundw
            case rel => exact ⟨j + 1, by omega, by go_num, HKA.out.drew, by rw [HST.out, HE.out, Bool.true_and]⟩
            case measure => simp only [intOf]; omega
          have G4 : decide (0 < i.d) = true := decide_eq_true hd
          have b0 : 0 ≤ i.d := HRG.out.2.1.1
          have b15 : i.d < 16 := by have := HRG.out.2.1.2; omega
          have f1 := HBW.out.cell (oV_at HO.out (n := i.d.toNat) (by omega))
          rw [show ((i.d.toNat : Nat) : Int) = i.d from by omega] at f1
          have hbw := HBW.out.lt
          have F1 := Lib.hid (fun (x : World) (h : Kept Y x) => h.cell hbw f1)
          clear f1
          cases hq : (atO o i.d == 1)
          · have HE := Lib.hid (HRC2.out.trans (if_neg (fun h => by rw [h.2] at hq; exact absurd hq (by decide))))
            clear hd
            go_wp2_with fail
            refine wp_region_lin [(0, true), (1, true), (2, true), (3, true), (4, true), (5, true), (6, true), (7, true), (8, true), (9, true), (10, true), (11, true), (12, true), (13, true), (14, true), (15, true), (16, true), (17, true), (18, true), (19, true), (20, true), (21, false), (22, false), (23, true)]
              (by kernel_rfl) (by kernel_rfl) rfl (by kernel_rfl) (Kept Y) ?_
            have k9 : Kept Y Y.drew := (Kept.refl Y).drew
            simp only [List.map_cons, List.map_nil, List.getElem?_toArray, List.getElem?_cons_succ, List.getElem?_cons_zero]
            iterate 19 (refine lin_take (v := ?_) (by assumption) (by rfl) ?_ ?_; rotate_left; (intro x hx; (try dsimp only at hx); (try have d1 := D1.out x hx); (try have f1 := F1.out x hx); go_simp; try (with_reducible rfl)); (try simp only [Act.put, List.setIfInBounds_toArray, List.set_cons_zero, List.set_cons_succ]))
            iterate 2 (refine lin_skip (by assumption) (by rfl) ?_; (try simp only [Act.put, List.setIfInBounds_toArray, List.set_cons_zero, List.set_cons_succ]))
            iterate 2 (refine lin_skipF (by assumption) (by rfl) ?_; (try simp only [Act.put, List.setIfInBounds_toArray, List.set_cons_zero, List.set_cons_succ]))
            iterate 1 (refine lin_take (v := ?_) (by assumption) (by rfl) ?_ ?_; rotate_left; (intro x hx; (try dsimp only at hx); (try have d1 := D1.out x hx); (try have f1 := F1.out x hx); go_simp; try (with_reducible rfl)); (try simp only [Act.put, List.setIfInBounds_toArray, List.set_cons_zero, List.set_cons_succ]))
            refine lin_done ?_
            go_wp2_with fail
            go_roundw
            case rel => exact ⟨j + 1, by omega, by go_num, HKA.out.drew, by rw [HST.out, HE.out, Bool.true_and]⟩
            case measure => simp only [intOf]; omega
          have HE := Lib.hid (HRC2.out.trans (if_pos ⟨hd, by simpa using hq⟩))
          have HRL := Lib.hid (reads_len i)
          clear hd
          go_wp2_with fail
          refine wp_region_lin [(0, true), (1, true), (2, true), (3, true), (4, true), (5, true), (6, true), (7, true), (8, true), (9, true), (10, true), (11, true), (12, true), (13, true), (14, true), (15, true), (16, true), (17, true), (18, true), (19, true), (20, true), (21, false), (22, false), (23, true)]
            (by kernel_rfl) (by kernel_rfl) rfl (by kernel_rfl) (Kept Y) ?_
          have k9 : Kept Y Y.drew := (Kept.refl Y).drew
          simp only [List.map_cons, List.map_nil, List.getElem?_toArray, List.getElem?_cons_succ, List.getElem?_cons_zero]
          iterate 19 (refine lin_take (v := ?_) (by assumption) (by rfl) ?_ ?_; rotate_left; (intro x hx; (try dsimp only at hx); (try have d1 := D1.out x hx); (try have f1 := F1.out x hx); go_simp; try (with_reducible rfl)); (try simp only [Act.put, List.setIfInBounds_toArray, List.set_cons_zero, List.set_cons_succ]))
          refine lin_take_box k9 rfl 26 (.tmp 3) rfl (w.heap.size + 1) 0 rfl (oV o) (oV o) (fun y hy => HBW.out.kept hy) whole_at _ Try.underlying26 rfl 16 (by kernel_rfl) ((oV_len o).trans HO.out) ?_
          (try simp only [Act.put, List.setIfInBounds_toArray, List.set_cons_zero, List.set_cons_succ])
          refine lin_take_box k9 rfl 28 (.tmp 7) rfl xb 0 rfl (insV i) (insV i) (fun y hy => HXI.out.kept hy) whole_at _ Try.underlying28 rfl 5 (by kernel_rfl) rfl ?_
          (try simp only [Act.put, List.setIfInBounds_toArray, List.set_cons_zero, List.set_cons_succ])
          refine lin_call k9 (by rfl) (fun K hK => ?_)
          go_simp
          refine (refReadsN_any i _).mono ?_; rintro e w6 ⟨v, rfl, hrow6, hnew, hb6⟩
          go_wp2_with fail
          have k10 := k9.to hb6
          refine hK.out _ _ k10 (fun _ => ?_)
          clear hK K hb6 hnew
          obtain ⟨A6, c6, rfl⟩ := hrow6.form
          (try simp only [Act.put, List.setIfInBounds_toArray, List.set_cons_zero, List.set_cons_succ])
          refine lin_call k10 (by rfl) (fun K hK => ?_)
          go_simp
          refine (refAnyE_any A6 c6 (readsZ i) o _ HO.out hrow6 (fun r hr => by have := reads_mem hr; omega) (by have := HRL.out; omega)).mono ?_; rintro e w7 ⟨rfl, hb7⟩
          go_wp2_with fail
          have k11 := k10.to hb7
          refine hK.out _ _ k11 (fun _ => ?_)
          clear hK K hb7
          (try simp only [Act.put, List.setIfInBounds_toArray, List.set_cons_zero, List.set_cons_succ])
          have HK7 := Lib.hid (HKA.out.trans k11)
          have HKE7 := Lib.hid (HK1.out.trans (Below.mono HK7.out (by omega)))
          cases hr : anyEB (readsZ i) o
          · have HE2 := Lib.hid (show freeB o i = true by rw [HE.out, hr]; rfl)
            iterate 1 (refine lin_take (v := ?_) (by assumption) (by rfl) ?_ ?_; rotate_left; (intro x hx; (try dsimp only at hx); (try have d1 := D1.out x hx); (try have f1 := F1.out x hx); go_simp; try (with_reducible rfl)); (try simp only [Act.put, List.setIfInBounds_toArray, List.set_cons_zero, List.set_cons_succ]))
            refine lin_done ?_
            go_wp2_with fail
            go_roundw
            case rel => exact ⟨j + 1, by omega, by go_num, HK7.out, by rw [HST.out, HE2.out, Bool.true_and]⟩
            case measure => simp only [intOf]; omega
          · have HE2 := Lib.hid (show freeB o i = false by rw [HE.out, hr]; rfl)
            iterate 1 (refine lin_take (v := ?_) (by assumption) (by rfl) ?_ ?_; rotate_left; (intro x hx; (try dsimp only at hx); (try have d1 := D1.out x hx); (try have f1 := F1.out x hx); go_simp; try (with_reducible rfl)); (try simp only [Act.put, List.setIfInBounds_toArray, List.set_cons_zero, List.set_cons_succ]))
            refine lin_done ?_
            go_wp2_with fail
            go_ret
            exact ⟨ret_bool (by rw [HST.out, HE2.out]; rfl), HKE7.out⟩
        · have HKE := Lib.hid (HK1.out.trans (Below.mono HKW.out (by omega)))
          have HE := Lib.hid (HF.out.trans (HAE.out j (by rw [Hn.out]; omega)))
          go_wp2_with fail
          go_ret
          exact ⟨ret_bool HE.out.symm, HKE.out⟩
end Go.Proofs.Ytehelfmpcbejeaa.Words

/- Contract of package owner's Closed. -/
import Derived.Test.YtehelfmpcbejeaaOnrMove
namespace Go.Proofs.Ytehelfmpcbejeaa.Words
set_option maxRecDepth 100000
open Go.RowKit
set_option linter.unusedVariables false
set_option linter.unusedSimpArgs false

/-- What Closed answers. -/
def closedZ (l : List Ins) (sz : Int) (m : Nat) (o : List Int) : Bool := ownersB o && rightZ l sz m && l.all (freeB o)
theorem rightZ_ins {l : List Ins} {sz : Int} {m : Nat} (h : rightZ l sz m = true) : l.length ≤ 2000 ∧ ∀ i ∈ l, rightB i = true := by
  rw [rightZ_fit, Bool.and_eq_true, Bool.and_eq_true] at h
  obtain ⟨⟨h1, h2⟩, _⟩ := h
  have := of_decide_eq_true h1
  exact ⟨by omega, List.all_eq_true.1 h2⟩
theorem all_at {α : Type} {f : α → Bool} {l : List α} {j : Nat} {x : α} (h : l[j]? = some x) : (l.drop j).all f = (f x && (l.drop (j + 1)).all f) := by
  obtain ⟨hlt, he⟩ := List.getElem?_eq_some_iff.1 h
  rw [List.drop_eq_getElem_cons hlt, he]; rfl

set_option maxHeartbeats 8000000 in
theorem closed_any (A : Option Addr) (c : Nat) (sz : Int) (A' : Option Addr) (m c' : Nat) (l : List Ins) (o : List Int) (w : World) (hr : Row w w.heap.size 5 (.slice A l.length c) l.length (codeCells l)) (hm : m ≤ c') (hc' : c' ≤ 9223372036854775807) (ho : o.length = 16) :
    Calls Try.prog 12 #[.agg #[.slice A l.length c, .int .i64 sz, .slice A' m c'], .agg (oV o).toArray] w fun e w' => e = .returned (.bool (closedZ l sz m o)) ∧ Below w.heap.size w w' := by
  obtain ⟨W1, hW1⟩ : ∃ W1, W1 = w.alloc (.cells #[.slice A l.length c, .int .i64 sz, .slice A' m c'] 25) := ⟨_, rfl⟩
  obtain ⟨W2, hW2⟩ : ∃ W2, W2 = W1.alloc (.cells (oV o).toArray 26) := ⟨_, rfl⟩
  have hz1 : W1.heap.size = w.heap.size + 1 := by rw [hW1]; simp
  have hz2 : W2.heap.size = w.heap.size + 2 := by rw [hW2]; simp [hz1]
  have hK : Below w.heap.size w W2 := by rw [hW2, hW1]; exact ((Below.refl w.heap.size w).alloc (Nat.le_refl _) _).alloc (by simp) _
  have HB0 : Box W2 (w.heap.size + 1) (oV o) := by rw [hW2, ← hz1]; exact Box.new W1 (oV o) _
  have HI : Box W2 w.heap.size [.slice A l.length c, .int .i64 sz, .slice A' m c'] := by
    rw [hW2]; refine Box.alloc ?_ _; rw [hW1]; exact Box.new w [.slice A l.length c, .int .i64 sz, .slice A' m c'] _
  have HRR := Lib.hid (show Row W2 W2.heap.size 5 (.slice A l.length c) l.length (codeCells l) from (hr.below hK).more (by omega))
  have HB := Lib.hid HB0
  have HIB := Lib.hid HI
  have HKK := Lib.hid hK
  have HO := Lib.hid ho
  have HCL := Lib.hid (show closedZ l sz m o = (ownersB o && rightZ l sz m && l.all (freeB o)) from rfl)
  obtain ⟨hcl, hcm⟩ := hr.cap
  clear HI HB0 hK hr ho
  go_enter Try.func12, Try.ntmps12
  go_wp2_with (first
    | (refine wpList_load_box rfl 26 (.tmp 3) rfl (w.heap.size + 1) 0 rfl (oV o) (oV o) (hW1 ▸ hW2 ▸ HB.out) whole_at _ Try.underlying26 rfl 16 (by kernel_rfl) ((oV_len o).trans HO.out) ?_))
  rw [← hW1, ← hW2]
  clear hW1 hW2
  have k0 := Kept.refl W2
  refine (owners_any o _ HO.out).mono ?_; rintro e w1 ⟨rfl, hb1⟩
  have k1 := k0.to hb1
  clear hb1
  cases hob : ownersB o
  · have HL := Lib.hid (show closedZ l sz m o = false by rw [HCL.out, hob]; rfl)
    have HK1 := Lib.hid (HKK.out.trans (Below.mono k1 (by omega)))
    go_wp2_with fail
    go_ret
    exact ⟨ret_bool HL.out.symm, HK1.out⟩
  have HI1 := Lib.hid (HIB.out.kept k1)
  have c0 := HI1.out.cell (k := 0) rfl
  have c1 := HI1.out.cell (k := 1) rfl
  have c2 := HI1.out.cell (k := 2) rfl
  go_wp2_with fail
  refine (imgRight_any A c sz A' m c' l _ (k1.row HRR.out) hm hc').mono ?_; rintro e w2 ⟨rfl, hb2⟩
  have k2 := k1.to hb2
  clear hb2 c0 c1 c2
  have HK2 := Lib.hid (HKK.out.trans (Below.mono k2 (by omega)))
  cases hri : rightZ l sz m
  · have HL := Lib.hid (show closedZ l sz m o = false by rw [HCL.out, hri, Bool.and_false]; rfl)
    go_wp2_with fail
    go_ret
    exact ⟨ret_bool HL.out.symm, HK2.out⟩
  have HI2 := Lib.hid (HIB.out.kept k2)
  have c0 := HI2.out.cell (k := 0) rfl
  have HCA := Lib.hid (show closedZ l sz m o = (l.drop 0).all (freeB o) by rw [HCL.out, hob, hri, List.drop_zero]; rfl)
  obtain ⟨hl2, hall⟩ := rightZ_ins hri
  have HC := Lib.hid hall
  have HAT := Lib.hid (fun (j : Nat) (i : Ins) (h : l[j]? = some i) => all_at (f := freeB o) h)
  have HAE := Lib.hid (fun (j : Nat) (h : l.length ≤ j) => (show (l.drop j).all (freeB o) = true by rw [List.drop_eq_nil_of_le h]; rfl))
  have KK2 := Lib.hid k2
  clear hall hri hob k2 k1 k0 HI1 HCL HKK
  go_wp2_with fail
  generalize hn : l.length = n at hl2 hcl ⊢
  have Hn := Lib.hid hn
  clear hn
  go_loopw [18] (fun ii wr => ∃ j : Nat, j ≤ n ∧ ii = .int .i64 j ∧ Kept w2 wr ∧ closedZ l sz m o = (l.drop j).all (freeB o)) (fun ii _ => n - (intOf ii).toNat)
  case atStart => exact ⟨0, Nat.zero_le _, rfl, Kept.refl _, HCA.out⟩
  case round =>
    obtain ⟨j, hj, rfl, hkw, hF⟩ := hrel
    have HKW := Lib.hid hkw
    have HF := Lib.hid hF
    clear hkw hF
    by_cases hlt : j < n
    · have hl : j < l.length := by rw [Hn.out]; exact hlt
      obtain ⟨i, hi⟩ : ∃ i, l[j]? = some i := ⟨_, List.getElem?_eq_getElem hl⟩
      have HRI := Lib.hid (HC.out i (List.mem_of_getElem? hi))
      have hrow := (KK2.out.trans HKW.out).row HRR.out
      obtain ⟨g, off, rfl, hg, _⟩ := hrow.at_ (by omega)
      obtain ⟨d0, d1, d2, d3, d4⟩ := hrow.ins hi
      have HST := Lib.hid (HF.out.trans (HAT.out j i hi))
      have HFB := Lib.hid (show freeB o i = !anyEB (needZ i o) o from rfl)
      have HNR := Lib.hid (fun r (h : r ∈ needZ i o) => need_range HRI.out h)
      have HNL := Lib.hid (needs_len i o)
      have k0 : (0 : Int) ≤ j := by omega
      have k1 : (j : Int) < n := by omega
      have HXI := Lib.hid (Box.new wr (insV i) 28)
      have HBW := Lib.hid ((HB.out.kept (KK2.out.trans HKW.out)).alloc (.cells (insV i).toArray 28))
      have HKA : Hid (Kept w2 (wr.alloc (.cells (insV i).toArray 28))) := HKW.out.alloc _
      clear hi hl hrow
      go_wp2_with fail
      refine wp_region_lin [(0, true), (1, true), (3, true), (2, false), (4, false)]
        (by kernel_rfl) (by kernel_rfl) rfl (by kernel_rfl) (Kept (wr.alloc (.cells (insV i).toArray 28))) ?_
      change wpLin _ _ _ _ _ _ (wr.alloc (.cells (insV i).toArray 28)).drew
      generalize wr.alloc (.cells (insV i).toArray 28) = Y at *
      have k9 : Kept Y Y.drew := (Kept.refl Y).drew
      simp only [List.map_cons, List.map_nil, List.getElem?_toArray, List.getElem?_cons_succ, List.getElem?_cons_zero]
      refine lin_take_box k9 rfl 28 (.tmp 6) rfl wr.heap.size 0 rfl (insV i) (insV i) (fun y hy => HXI.out.kept hy) whole_at _ Try.underlying28 rfl 5 (by kernel_rfl) rfl ?_
      simp only [Act.put, List.setIfInBounds_toArray, List.set_cons_zero, List.set_cons_succ]
      refine lin_take_box k9 rfl 26 (.tmp 3) rfl (w.heap.size + 1) 0 rfl (oV o) (oV o) (fun y hy => HBW.out.kept hy) whole_at _ Try.underlying26 rfl 16 (by kernel_rfl) ((oV_len o).trans HO.out) ?_
      simp only [Act.put, List.setIfInBounds_toArray, List.set_cons_zero, List.set_cons_succ]
      refine lin_take_box k9 rfl 26 (.tmp 3) rfl (w.heap.size + 1) 0 rfl (oV o) (oV o) (fun y hy => HBW.out.kept hy) whole_at _ Try.underlying26 rfl 16 (by kernel_rfl) ((oV_len o).trans HO.out) ?_
      simp only [Act.put, List.setIfInBounds_toArray, List.set_cons_zero, List.set_cons_succ]
      refine lin_call k9 (by rfl) (fun K hK => ?_)
      go_simp
      refine (needs_any i o _ HO.out HRI.out).mono ?_; rintro e w3 ⟨v, rfl, hrow3, hnew, hb3⟩
      go_wp2_with fail
      have k10 := k9.to hb3
      refine hK.out _ _ k10 (fun _ => ?_)
      clear hK K hb3
      obtain ⟨A3, c3, rfl⟩ := hrow3.form
      try simp only [Act.put, List.setIfInBounds_toArray, List.set_cons_zero, List.set_cons_succ]
      refine lin_call k10 (by rfl) (fun K hK => ?_)
      go_simp
      refine (anyOnE_any A3 c3 (needZ i o) o _ HO.out hrow3 HNR.out (by have := HNL.out; omega)).mono ?_; rintro e w4 ⟨rfl, hb4⟩
      go_wp2_with fail
      have k11 := k10.to hb4
      refine hK.out _ _ k11 (fun _ => ?_)
      clear hK K hb4
      try simp only [Act.put, List.setIfInBounds_toArray, List.set_cons_zero, List.set_cons_succ]
      refine lin_done ?_
      have HK4 := Lib.hid (HKA.out.trans k11)
      have HKE := Lib.hid (HK2.out.trans (Below.mono HK4.out (by have := HK2.out.size; omega)))
      clear k9 k10 k11 hrow3 hnew
      cases hq : anyEB (needZ i o) o
      · have HE := Lib.hid (show freeB o i = true by rw [HFB.out, hq]; rfl)
        go_wp2_with fail
        go_roundw
        case rel => exact ⟨j + 1, by omega, by go_num, HK4.out, by rw [HST.out, HE.out, Bool.true_and]⟩
        case measure => simp only [intOf]; omega
      · have HE := Lib.hid (show freeB o i = false by rw [HFB.out, hq]; rfl)
        go_wp2_with fail
        go_ret
        exact ⟨ret_bool (by rw [HST.out, HE.out]; rfl), HKE.out⟩
    · have HKE := Lib.hid (HK2.out.trans (Below.mono HKW.out (by have := HK2.out.size; omega)))
      go_wp2_with fail
      go_ret
      exact ⟨ret_bool (by rw [HF.out, HAE.out j (by rw [Hn.out]; omega)]), HKE.out⟩
end Go.Proofs.Ytehelfmpcbejeaa.Words

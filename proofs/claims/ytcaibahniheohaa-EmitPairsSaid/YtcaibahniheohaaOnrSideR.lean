/- Contracts of the document's own small functions of chapter 11: is a register on E, is any, whose is it, which side. -/
import Derived.Test.YtcaibahniheohaaOnrSide
namespace Go.Proofs.Ytcaibahniheohaa.Words
set_option maxRecDepth 100000
open Go.RowKit
set_option linter.unusedVariables false
set_option linter.unusedSimpArgs false

/-- Raw: is a register on E? -/
def onEB (o : List Int) (r : Int) : Bool := decide (0 < r) && decide (atO o r = 2)
set_option maxHeartbeats 1000000 in
theorem refOnE_any (o : List Int) (r : Int) (w : World) (ho : o.length = 16) (hr : r ≤ 15) :
    Calls Try.prog 20 #[.agg (oV o).toArray, .int .i64 r] w fun e w' => e = .returned (.bool (onEB o r)) ∧ Below w.heap.size w w' := by
  have HB := Lib.hid (Box.new w (oV o) 24)
  have HK := Lib.hid ((Below.refl w.heap.size w).alloc (Nat.le_refl _) (.cells (oV o).toArray 24))
  have HL := Lib.hid (show onEB o r = (decide (0 < r) && decide (atO o r = 2)) from rfl)
  by_cases h0 : 0 < r
  · have d1 := HB.out.cell (oV_at ho (n := r.toNat) (by omega))
    have e5 : ((r.toNat : Nat) : Int) = r := by omega
    rw [e5] at d1
    have H0 := Lib.hid h0
    clear e5 ho
    have e8 : 0 ≤ r := by omega
    go_enter Try.func20, Try.ntmps20
    cases hq : (atO o r == 2)
    · have HE := Lib.hid (show onEB o r = false by rw [HL.out, decide_eq_false (p := atO o r = 2) (by simpa using hq)]; simp)
      go_wp2_with fail
      go_ret
      exact ⟨ret_bool HE.out.symm, HK.out⟩
    · have HE := Lib.hid (show onEB o r = true by rw [HL.out, decide_eq_true (p := atO o r = 2) (by simpa using hq), decide_eq_true h0]; rfl)
      go_wp2_with fail
      go_ret
      exact ⟨ret_bool HE.out.symm, HK.out⟩
  · have HE := Lib.hid (show onEB o r = false by rw [HL.out, decide_eq_false h0]; rfl)
    go_enter Try.func20, Try.ntmps20
    go_wp2_with fail
    go_ret
    exact ⟨ret_bool HE.out.symm, HK.out⟩

theorem anyR_eq {zs : List Int} (o : List Int) (hz : ∀ r ∈ zs, 1 ≤ r ∧ r ≤ 15) : zs.any (onEB o) = anyEB zs o := by
  induction zs with
  | nil => rfl
  | cons z zs ih =>
    have := hz z (by simp)
    unfold anyEB at *
    rw [List.any_cons, List.any_cons, ih (fun r hr => hz r (by simp [hr]))]
    unfold onEB
    rw [decide_eq_true (p := 0 < z) (by omega)]; rfl

set_option maxHeartbeats 2000000 in
theorem refAnyE_any (A : Option Addr) (c : Nat) (zs : List Int) (o : List Int) (w : World) (ho : o.length = 16) (hr : Row w w.heap.size 1 (.slice A zs.length c) zs.length (zs.map (Value.int .i64))) (hz : ∀ r ∈ zs, 1 ≤ r ∧ r ≤ 15) (hs : zs.length ≤ 8) :
    Calls Try.prog 23 #[.agg (oV o).toArray, .slice A zs.length c] w fun e w' => e = .returned (.bool (anyEB zs o)) ∧ Below w.heap.size w w' := by
  have HB := Lib.hid (Box.new w (oV o) 24)
  have HK := Lib.hid ((Below.refl w.heap.size w).alloc (Nat.le_refl _) (.cells (oV o).toArray 24))
  have hW : w.heap.size < (w.alloc (.cells (oV o).toArray 24)).heap.size := by simp
  have HR := Lib.hid ((hr.alloc (Nat.le_refl _) (.cells (oV o).toArray 24)).more (Nat.le_of_lt hW))
  have HZ := Lib.hid hz
  have HO := Lib.hid ho
  have H0 := Lib.hid (show anyEB zs o = anyEB (zs.drop 0) o by rw [List.drop_zero])
  clear hr hz ho
  go_enter Try.func23, Try.ntmps23
  go_wp2_with fail
  generalize w.alloc (.cells (oV o).toArray 24) = W at *
  generalize hn : zs.length = n at HR hs ⊢
  have Hn := Lib.hid hn
  clear hn
  go_loopw [5] (fun i wr => ∃ j : Nat, j ≤ n ∧ i = .int .i64 j ∧ Kept W wr ∧ anyEB zs o = anyEB (zs.drop j) o) (fun i _ => n - (intOf i).toNat)
  case atStart => exact ⟨0, Nat.zero_le _, rfl, Kept.refl _, H0.out⟩
  case round =>
    obtain ⟨j, hj, rfl, hk, hT⟩ := hrel
    have HT := Lib.hid hT
    have HKW := Lib.hid hk
    clear hT hk
    by_cases hlt : j < n
    · have hl : j < zs.length := by rw [Hn.out]; exact hlt
      have HRr := HKW.out.row HR.out
      obtain ⟨b, off, rfl, hb, hcells⟩ := HRr.at_ (by omega)
      have d0 := hcells j _ (ints_get hl)
      have HS := Lib.hid (any_step (o := o) hl)
      obtain ⟨r, hre⟩ : ∃ r, r = zs.getD j 0 := ⟨_, rfl⟩
      rw [← hre] at d0 HS
      have h115 := HZ.out r (by rw [hre]; exact getD_mem hl)
      have HBX := Lib.hid (HB.out.kept HKW.out)
      have D0 := Lib.hid (fun (y : World) (h : Kept wr y) => h.cell hb d0)
      have HOE := Lib.hid (show onEB o r = decide (atO o r = 2) by unfold onEB; rw [decide_eq_true (p := 0 < r) (by omega)]; rfl)
      clear hcells hre hl HRr d0
      have k0 : (0 : Int) ≤ j := by omega
      have k1 : (j : Int) < n := by omega
      go_wp2_with fail
      refine wp_region_lin [(0, true), (1, true), (2, true), (3, true), (4, true), (5, false)]
        (by kernel_rfl) (by kernel_rfl) rfl (by kernel_rfl) (Kept wr) ?_
      have k9 : Kept wr wr.drew := (Kept.refl wr).drew
      simp only [List.map_cons, List.map_nil, List.getElem?_toArray, List.getElem?_cons_succ, List.getElem?_cons_zero]
      refine lin_take_box k9 rfl 24 (.tmp 2) rfl w.heap.size 0 rfl (oV o) (oV o) (fun y hy => HBX.out.kept hy) whole_at _ Try.underlying24 rfl 16 (by kernel_rfl) ((oV_len o).trans HO.out) ?_
      simp only [Act.put, List.setIfInBounds_toArray, List.set_cons_zero, List.set_cons_succ]
      iterate 4 (refine lin_take (v := ?_) (by assumption) (by rfl) ?_ ?_; rotate_left; (intro x hx; (try dsimp only at hx); (try have d0 := D0.out x hx); go_simp; try (with_reducible rfl)); (try simp only [Act.put, List.setIfInBounds_toArray, List.set_cons_zero, List.set_cons_succ]))
      refine lin_call k9 (by rfl) (fun K hK => ?_)
      go_simp
      refine (refOnE_any o r _ HO.out h115.2).mono ?_; rintro e w2 ⟨rfl, hb2⟩
      go_wp2_with fail
      have k10 := k9.to hb2
      refine hK.out _ _ k10 (fun _ => ?_)
      clear hK K hb2
      try simp only [Act.put, List.setIfInBounds_toArray, List.set_cons_zero, List.set_cons_succ]
      refine lin_done ?_
      have HK10 := Lib.hid (HKW.out.trans k10)
      have HKE := Lib.hid (HK.out.trans (Below.mono HK10.out (Nat.le_of_lt hW)))
      rw [HOE.out]
      cases hq : decide (atO o r = 2)
      · rw [hq] at HS
        go_wp2_with fail
        go_roundw
        case rel => exact ⟨j + 1, by omega, by go_num, HK10.out, by rw [HT.out, HS.out]; rfl⟩
        case measure => simp only [intOf]; omega
      · rw [hq] at HS
        go_wp2_with fail
        go_ret
        exact ⟨ret_bool (by rw [HT.out, HS.out]; rfl), HKE.out⟩
    · have HKE := Lib.hid (HK.out.trans (Below.mono HKW.out (Nat.le_of_lt hW)))
      go_wp2_with fail
      go_ret
      exact ⟨ret_bool (by rw [HT.out, List.drop_eq_nil_of_le (by rw [Hn.out]; omega)]; rfl), HKE.out⟩
def ownedZ (o : List Int) (r : Int) : Int := if r < 1 ∨ 15 < r then 0 else atO o r
set_option maxHeartbeats 1000000 in
theorem refOwned_any (o : List Int) (r : Int) (w : World) (ho : o.length = 16) :
    Calls Try.prog 21 #[.agg (oV o).toArray, .int .i64 r] w fun e w' => e = .returned (.int .i64 (ownedZ o r)) ∧ Below w.heap.size w w' := by
  have HB := Lib.hid (Box.new w (oV o) 24)
  have HK := Lib.hid ((Below.refl w.heap.size w).alloc (Nat.le_refl _) (.cells (oV o).toArray 24))
  have HL := Lib.hid (show ownedZ o r = if r < 1 ∨ 15 < r then 0 else atO o r from rfl)
  by_cases h0 : r < 1
  · have HE := Lib.hid (HL.out.trans (if_pos (.inl h0)))
    go_enter Try.func21, Try.ntmps21
    go_wp2_with fail
    go_ret
    exact ⟨ret_int HE.out.symm, HK.out⟩
  by_cases h1 : 15 < r
  · have HE := Lib.hid (HL.out.trans (if_pos (.inr h1)))
    go_enter Try.func21, Try.ntmps21
    go_wp2_with fail
    go_ret
    exact ⟨ret_int HE.out.symm, HK.out⟩
  · have HE := Lib.hid (HL.out.trans (if_neg (fun h => h.elim h0 h1)))
    have d1 := HB.out.cell (oV_at ho (n := r.toNat) (by omega))
    have e5 : ((r.toNat : Nat) : Int) = r := by omega
    rw [e5] at d1
    clear e5 ho
    have e8 : 0 ≤ r := by omega
    have e9 : r < 16 := by omega
    go_enter Try.func21, Try.ntmps21
    go_wp2_with fail
    go_ret
    exact ⟨ret_int HE.out.symm, HK.out⟩
/-- The document's words for the side. -/
theorem side_doc (i : Ins) (o : List Int) : sideZ i o = if formZ i.op < 1 ∨ 3 < formZ i.op then 0 else if ownedZ o i.d = 1 ∨ (i.d = 0 ∧ anyEB (readsZ i) o = false) then 1 else 2 := by
  unfold sideZ
  have hF := formZ_range i.op
  by_cases h : formZ i.op < 1 ∨ 3 < formZ i.op
  · rw [if_pos h, if_pos (by unfold recB; rw [decide_eq_false_iff_not]; omega)]
  · rw [if_neg h, if_neg (by unfold recB; rw [decide_eq_false_iff_not]; omega)]
    by_cases hd : i.d = 0
    · simp only [hd, if_true, true_and]
      have : ownedZ o 0 ≠ 1 := by unfold ownedZ; rw [if_pos (.inl (by decide))]; decide
      simp only [this, false_or]
    · simp only [hd, if_false, false_and, or_false]
      unfold ownedZ
      by_cases hh : i.d < 1 ∨ 15 < i.d
      · rw [if_pos hh]
        rw [if_neg (by omega), if_neg (by decide)]
      · rw [if_neg hh]
        by_cases ha : atO o i.d = 1
        · rw [if_pos ⟨by omega, by omega, ha⟩, if_pos ha]
        · rw [if_neg (fun c => ha c.2.2), if_neg ha]

set_option maxHeartbeats 2000000 in
theorem refSide_any (i : Ins) (o : List Int) (w : World) (ho : o.length = 16) :
    Calls Try.prog 16 #[.agg #[.int .i64 i.op, .int .i64 i.d, .int .i64 i.a, .int .i64 i.b, .int .i64 i.imm], .agg (oV o).toArray] w fun e w' => e = .returned (.int .i64 (sideZ i o)) ∧ Below w.heap.size w w' := by
  obtain ⟨W1, hW1⟩ : ∃ W1, W1 = w.alloc (.cells #[.int .i64 i.op, .int .i64 i.d, .int .i64 i.a, .int .i64 i.b, .int .i64 i.imm] 23) := ⟨_, rfl⟩
  obtain ⟨W2, hW2⟩ : ∃ W2, W2 = W1.alloc (.cells (oV o).toArray 24) := ⟨_, rfl⟩
  have hz1 : W1.heap.size = w.heap.size + 1 := by rw [hW1]; simp
  have hz2 : W2.heap.size = w.heap.size + 2 := by rw [hW2]; simp [hz1]
  have hK : Below w.heap.size w W2 := by rw [hW2, hW1]; exact ((Below.refl w.heap.size w).alloc (Nat.le_refl _) _).alloc (by simp) _
  have HB0 : Box W2 (w.heap.size + 1) (oV o) := by rw [hW2, ← hz1]; exact Box.new W1 (oV o) _
  have HI : Box W2 w.heap.size (insV i) := by
    rw [hW2]; refine Box.alloc ?_ _; rw [hW1]; exact Box.new w (insV i) _
  have c0 := HI.cell (k := 0) rfl
  have HB := Lib.hid HB0
  have HIB := Lib.hid HI
  have HO := Lib.hid ho
  have HKK := Lib.hid hK
  have HL := Lib.hid (side_doc i o)
  have HRL := Lib.hid (reads_len i)
  have hF := formZ_range i.op
  clear HI HB0 hK ho
  go_enter Try.func16, Try.ntmps16
  go_wp2_with fail
  rw [← hW1, ← hW2]
  clear hW1 hW2
  refine (refForm_any _ _).mono ?_; rintro e w1 ⟨rfl, rfl⟩
  try dsimp only
  generalize formZ i.op = f at *
  by_cases h1 : f < 1
  · have HE := Lib.hid (HL.out.trans (if_pos (.inl h1)))
    go_wp2_with fail
    go_ret
    exact ⟨ret_int HE.out.symm, HKK.out⟩
  by_cases h3 : 3 < f
  · have HE := Lib.hid (HL.out.trans (if_pos (.inr h3)))
    go_wp2_with fail
    go_ret
    exact ⟨ret_int HE.out.symm, HKK.out⟩
  have HS := Lib.hid (HL.out.trans (if_neg (fun h => h.elim h1 h3)))
  have k0 := Kept.refl W2
  go_wp2_with (first
    | (refine wpList_load_box rfl 23 (.tmp 2) rfl w.heap.size 0 rfl (insV i) (insV i) HIB.out whole_at _ Try.underlying23 rfl 5 (by kernel_rfl) rfl ?_)
    | (refine wpList_load_box rfl 24 (.tmp 3) rfl (w.heap.size + 1) 0 rfl (oV o) (oV o) HB.out whole_at _ Try.underlying24 rfl 16 (by kernel_rfl) ((oV_len o).trans HO.out) ?_))
  refine (refReadsN_any i _).mono ?_; rintro e w2 ⟨v, rfl, hrow, hnew, hb2⟩
  have k2 := k0.to hb2
  have HB2 := Lib.hid (HB.out.kept k2)
  have HI2 := Lib.hid (HIB.out.kept k2)
  have c1 := HI2.out.cell (k := 1) rfl
  have HR2 := Lib.hid hrow
  obtain ⟨A1, c1', rfl⟩ := hrow.form
  have hz : w.heap.size + 2 ≤ w2.heap.size := by have := hb2.size; omega
  have HK2 := Lib.hid (HKK.out.trans (hb2.mono (by omega)))
  clear hrow hb2 c0 k0 k2
  go_wp2_with (first
    | (refine wpList_load_box rfl 24 (.tmp 3) rfl (w.heap.size + 1) 0 rfl (oV o) (oV o) HB2.out whole_at _ Try.underlying24 rfl 16 (by kernel_rfl) ((oV_len o).trans HO.out) ?_))
  refine (refOwned_any o i.d _ HO.out).mono ?_; rintro e w3 ⟨rfl, hb3⟩
  have HB3 := Lib.hid (HB2.out.below hb3 (by omega))
  have HI3 := Lib.hid (HI2.out.below hb3 (by omega))
  have c1 := HI3.out.cell (k := 1) rfl
  have HR3 := Lib.hid ((HR2.out.below hb3).more hb3.size)
  have hz3 : w.heap.size + 2 ≤ w3.heap.size := by have := hb3.size; omega
  have HK3 := Lib.hid (HK2.out.trans (hb3.mono (by omega)))
  clear hb3
  cases hq : (ownedZ o i.d == 1)
  rotate_left
  · have HE := Lib.hid (HS.out.trans (if_pos (.inl (by simpa using hq))))
    try dsimp only
    go_wp2_with fail
    go_ret
    exact ⟨ret_int HE.out.symm, HK3.out⟩
  have hq1 : ¬ ownedZ o i.d = 1 := by simpa using hq
  have HQ1 := Lib.hid hq1
  clear hq1
  by_cases hd : i.d = 0
  · have HD := Lib.hid hd
    have q0 : (i.d == 0) = true := by simpa using hd
    clear hd
    try dsimp only
    go_wp2_with (first
      | (refine wpList_load_box rfl 24 (.tmp 3) rfl (w.heap.size + 1) 0 rfl (oV o) (oV o) HB3.out whole_at _ Try.underlying24 rfl 16 (by kernel_rfl) ((oV_len o).trans HO.out) ?_))
    refine (refAnyE_any A1 c1' (readsZ i) o _ HO.out HR3.out (fun r hr => by have := reads_mem hr; omega) (by have := HRL.out; omega)).mono ?_; rintro e w4 ⟨rfl, hb4⟩
    have HK4 := Lib.hid (HK3.out.trans (hb4.mono (by omega)))
    clear hb4
    cases hr : anyEB (readsZ i) o
    · have HE := Lib.hid (HS.out.trans (if_pos (.inr ⟨HD.out, hr⟩)))
      go_wp2_with fail
      go_ret
      exact ⟨ret_int HE.out.symm, HK4.out⟩
    · have HE := Lib.hid (HS.out.trans (if_neg (fun h => h.elim HQ1.out (fun h => by rw [hr] at h; exact absurd h.2 (by decide)))))
      go_wp2_with fail
      go_ret
      exact ⟨ret_int HE.out.symm, HK4.out⟩
  · have q0 : (i.d == 0) = false := by simpa using hd
    have HE := Lib.hid (HS.out.trans (if_neg (fun h => h.elim HQ1.out (fun h => hd h.1))))
    clear hd
    try dsimp only
    go_wp2_with fail
    go_ret
    exact ⟨ret_int HE.out.symm, HK3.out⟩
end Go.Proofs.Ytcaibahniheohaa.Words

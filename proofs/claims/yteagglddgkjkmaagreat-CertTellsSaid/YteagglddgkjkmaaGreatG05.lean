/- Several texts in one: OnrMove, OnrClosed, WithMath, SplEachMath, EmtPairMath, BlkCovMath, CertMath. -/
import Derived.Test.YteagglddgkjkmaaGreatG02
import Derived.Test.YteagglddgkjkmaaGreatG04
import Derived.Test.YteagglddgkjkmaaGreatG03

/- Contracts of package owner's move (a round over the code) and of Of. -/
namespace Go.Proofs.YteagglddgkjkmaaGreat.Words
set_option maxRecDepth 100000
open Go.RowKit
set_option linter.unusedVariables false
set_option linter.unusedSimpArgs false

/-- What a part of a round has moved. -/
structure MovedS (s o : List Int) (m : Bool) : Prop where
  ok : OkO o
  le : cntE o ≤ cntE s
  yes : m = true → cntE o < cntE s
  no : m = false → o = s
theorem MovedS.start {s : List Int} (h : OkO s) : MovedS s s false := ⟨h, Nat.le_refl _, (fun h => by cases h), fun _ => rfl⟩
theorem MovedS.put {s o : List Int} {m : Bool} (h : MovedS s o m) {r : Int} (hr : 0 ≤ r ∧ r ≤ 15) (h2 : atO o r = 2) : MovedS s (o.set r.toNat 1) true := by
  have e : putA o r = o.set r.toNat 1 := by unfold putA; rw [if_pos h2]
  have := cnt_put h.ok.1 hr h2
  have hl := h.le
  exact ⟨e ▸ putA_ok h.ok hr, by omega, fun _ => by omega, fun c => by cases c⟩
theorem put_yes {o : List Int} {r : Int} (h2 : atO o r = 2) : putA o r = o.set r.toNat 1 := by unfold putA; rw [if_pos h2]
theorem fold_at {α β : Type} {f : β → α → β} {l : List α} {j : Nat} {x : α} (h : l[j]? = some x) (o : β) : (l.drop j).foldl f o = (l.drop (j + 1)).foldl f (f o x) := by
  obtain ⟨hlt, he⟩ := List.getElem?_eq_some_iff.1 h
  rw [List.drop_eq_getElem_cons hlt, he]; rfl

theorem needs_len (i : Ins) (o : List Int) : (needZ i o).length ≤ 2 := by
  have := reads_len i
  unfold needZ
  split
  · simp
  · split
    · exact this
    · simp
theorem row_other {w : World} {bb off n c s : Nat} {xs : List Value} (h : Row w w.heap.size s (.slice (some ⟨bb, off, none⟩) n c) n xs) {b : Nat} (hne : bb ≠ b) (k : Nat) (v : Value) : Row (w.setCell ⟨b, k, none⟩ v) (w.setCell ⟨b, k, none⟩ v).heap.size s (.slice (some ⟨bb, off, none⟩) n c) n xs := by
  obtain ⟨h0, A, c', h1, h2, h3, h4, h5⟩ := h
  refine ⟨h0, A, c', h1, h2, h3, h4, fun hn => ?_⟩
  obtain ⟨b', off', e, hb, hc⟩ := h5 hn
  subst e
  injection h1 with e1 _ _
  injection e1 with e1
  injection e1 with e1 _
  subst e1
  refine ⟨_, _, rfl, by simpa [World.setCell] using hb, fun j u hu => ?_⟩
  rw [World.cell?_of_block (a := ⟨bb, off' + j, none⟩) (w := w) (by unfold World.setCell; simp only [Array.getElem?_modify, if_neg (show ¬ b = bb from fun e => hne e.symm)])]
  exact hc j u hu
/-- What stands while the code is gone through: the registers' block b lies behind all that was there. -/
structure MvS (w0 wr : World) (B b : Nat) (s o : List Int) (m : Bool) : Prop where
  below : Below B w0 wr
  box : Box wr b (oV o)
  mv : MovedS s o m
  hB : B ≤ b
theorem MvS.to {w0 wr x : World} {B b : Nat} {s o : List Int} {m : Bool} (h : MvS w0 wr B b s o m) (hb : Below wr.heap.size wr x) : MvS w0 x B b s o m :=
  ⟨h.below.trans (hb.mono (by have := h.box.lt; have := h.hB; omega)), h.box.below hb h.box.lt, h.mv, h.hB⟩
theorem MvS.put {w0 wr : World} {B b : Nat} {s o : List Int} {m : Bool} (h : MvS w0 wr B b s o m) {r : Int} (hr : 0 ≤ r ∧ r ≤ 15) (h2 : atO o r = 2) : MvS w0 (wr.setCell ⟨b, r.toNat, none⟩ (.int .i64 1)) B b s (o.set r.toNat 1) true :=
  ⟨h.below.setCell (p := ⟨b, r.toNat, none⟩) h.hB _, by have := h.box.setCell r.toNat (.int .i64 1); rwa [oV_set] at this, h.mv.put hr h2, h.hB⟩

end Go.Proofs.YteagglddgkjkmaaGreat.Words

/- Contract of package owner's Closed. -/
namespace Go.Proofs.YteagglddgkjkmaaGreat.Words
set_option maxRecDepth 100000
open Go.RowKit
set_option linter.unusedVariables false
set_option linter.unusedSimpArgs false

/-- What Closed answers. -/
def closedZ (l : List Ins) (sz : Int) (m : Nat) (o : List Int) : Bool := ownersB o && rightZ l sz m && l.all (freeB o)
theorem rightZ_ins {l : List Ins} {sz : Int} {m : Nat} (h : rightZ l sz m = true) : l.length ≤ 2000 ∧ ∀ i ∈ l, rightB i = true := by
  rw [rightZ_fit, Bool.and_eq_true, Bool.and_eq_true] at h
  obtain ⟨⟨h1, h2⟩, _⟩ := h
  have := of_decide_eq_true h1
  exact ⟨by omega, List.all_eq_true.1 h2⟩
theorem all_at {α : Type} {f : α → Bool} {l : List α} {j : Nat} {x : α} (h : l[j]? = some x) : (l.drop j).all f = (f x && (l.drop (j + 1)).all f) := by
  obtain ⟨hlt, he⟩ := List.getElem?_eq_some_iff.1 h
  rw [List.drop_eq_getElem_cons hlt, he]; rfl

set_option maxHeartbeats 8000000 in
theorem closed_any (A : Option Addr) (c : Nat) (sz : Int) (A' : Option Addr) (m c' : Nat) (l : List Ins) (o : List Int) (w : World) (hr : Row w w.heap.size 5 (.slice A l.length c) l.length (codeCells l)) (hm : m ≤ c') (hc' : c' ≤ 9223372036854775807) (ho : o.length = 16) :
    Calls Tryz.prog 41 #[.agg #[.slice A l.length c, .int .i64 sz, .slice A' m c'], .agg (oV o).toArray] w fun e w' => e = .returned (.bool (closedZ l sz m o)) ∧ Below w.heap.size w w' := by
  obtain ⟨W1, hW1⟩ : ∃ W1, W1 = w.alloc (.cells #[.slice A l.length c, .int .i64 sz, .slice A' m c'] 28) := ⟨_, rfl⟩
  obtain ⟨W2, hW2⟩ : ∃ W2, W2 = W1.alloc (.cells (oV o).toArray 30) := ⟨_, rfl⟩
  have hz1 : W1.heap.size = w.heap.size + 1 := by rw [hW1]; simp
  have hz2 : W2.heap.size = w.heap.size + 2 := by rw [hW2]; simp [hz1]
  have hK : Below w.heap.size w W2 := by rw [hW2, hW1]; exact ((Below.refl w.heap.size w).alloc (Nat.le_refl _) _).alloc (by simp) _
  have HB0 : Box W2 (w.heap.size + 1) (oV o) := by rw [hW2, ← hz1]; exact Box.new W1 (oV o) _
  have HI : Box W2 w.heap.size [.slice A l.length c, .int .i64 sz, .slice A' m c'] := by
    rw [hW2]; refine Box.alloc ?_ _; rw [hW1]; exact Box.new w [.slice A l.length c, .int .i64 sz, .slice A' m c'] _
  have HRR := Lib.hid (show Row W2 W2.heap.size 5 (.slice A l.length c) l.length (codeCells l) from (hr.below hK).more (by omega))
  have HB := Lib.hid HB0
  have HIB := Lib.hid HI
  have HKK := Lib.hid hK
  have HO := Lib.hid ho
  have HCL := Lib.hid (show closedZ l sz m o = (ownersB o && rightZ l sz m && l.all (freeB o)) from rfl)
  obtain ⟨hcl, hcm⟩ := hr.cap
  clear HI HB0 hK hr ho
  go_enter Tryz.func41, Tryz.ntmps41
  go_wp2_with (first
    | (refine wpList_load_box rfl 30 (.tmp 3) rfl (w.heap.size + 1) 0 rfl (oV o) (oV o) (hW1 ▸ hW2 ▸ HB.out) whole_at _ Tryz.underlying30 rfl 16 (by kernel_rfl) ((oV_len o).trans HO.out) ?_))
  rw [← hW1, ← hW2]
  clear hW1 hW2
  have k0 := Kept.refl W2
  refine (owners_any o _ HO.out).mono ?_; rintro e w1 ⟨rfl, hb1⟩
  have k1 := k0.to hb1
  clear hb1
  cases hob : ownersB o
  · have HL := Lib.hid (show closedZ l sz m o = false by rw [HCL.out, hob]; rfl)
    have HK1 := Lib.hid (HKK.out.trans (Below.mono k1 (by omega)))
    go_wp2_with fail
    go_ret
    exact ⟨ret_bool HL.out.symm, HK1.out⟩
  have HI1 := Lib.hid (HIB.out.kept k1)
  have c0 := HI1.out.cell (k := 0) rfl
  have c1 := HI1.out.cell (k := 1) rfl
  have c2 := HI1.out.cell (k := 2) rfl
  go_wp2_with fail
  refine (imgRight_any A c sz A' m c' l _ (k1.row HRR.out) hm hc').mono ?_; rintro e w2 ⟨rfl, hb2⟩
  have k2 := k1.to hb2
  clear hb2 c0 c1 c2
  have HK2 := Lib.hid (HKK.out.trans (Below.mono k2 (by omega)))
  cases hri : rightZ l sz m
  · have HL := Lib.hid (show closedZ l sz m o = false by rw [HCL.out, hri, Bool.and_false]; rfl)
    go_wp2_with fail
    go_ret
    exact ⟨ret_bool HL.out.symm, HK2.out⟩
  have HI2 := Lib.hid (HIB.out.kept k2)
  have c0 := HI2.out.cell (k := 0) rfl
  have HCA := Lib.hid (show closedZ l sz m o = (l.drop 0).all (freeB o) by rw [HCL.out, hob, hri, List.drop_zero]; rfl)
  obtain ⟨hl2, hall⟩ := rightZ_ins hri
  have HC := Lib.hid hall
  have HAT := Lib.hid (fun (j : Nat) (i : Ins) (h : l[j]? = some i) => all_at (f := freeB o) h)
  have HAE := Lib.hid (fun (j : Nat) (h : l.length ≤ j) => (show (l.drop j).all (freeB o) = true by rw [List.drop_eq_nil_of_le h]; rfl))
  have KK2 := Lib.hid k2
  clear hall hri hob k2 k1 k0 HI1 HCL HKK
  go_wp2_with fail
  generalize hn : l.length = n at hl2 hcl ⊢
  have Hn := Lib.hid hn
  clear hn
  go_loopw [18] (fun ii wr => ∃ j : Nat, j ≤ n ∧ ii = .int .i64 j ∧ Kept w2 wr ∧ closedZ l sz m o = (l.drop j).all (freeB o)) (fun ii _ => n - (intOf ii).toNat)
  case atStart => exact ⟨0, Nat.zero_le _, rfl, Kept.refl _, HCA.out⟩
  case round =>
    obtain ⟨j, hj, rfl, hkw, hF⟩ := hrel
    have HKW := Lib.hid hkw
    have HF := Lib.hid hF
    clear hkw hF
    by_cases hlt : j < n
    · have hl : j < l.length := by rw [Hn.out]; exact hlt
      obtain ⟨i, hi⟩ : ∃ i, l[j]? = some i := ⟨_, List.getElem?_eq_getElem hl⟩
      have HRI := Lib.hid (HC.out i (List.mem_of_getElem? hi))
      have hrow := (KK2.out.trans HKW.out).row HRR.out
      obtain ⟨g, off, rfl, hg, _⟩ := hrow.at_ (by omega)
      obtain ⟨d0, d1, d2, d3, d4⟩ := hrow.ins hi
      have HST := Lib.hid (HF.out.trans (HAT.out j i hi))
      have HFB := Lib.hid (show freeB o i = !anyEB (needZ i o) o from rfl)
      have HNR := Lib.hid (fun r (h : r ∈ needZ i o) => need_range HRI.out h)
      have HNL := Lib.hid (needs_len i o)
      have k0 : (0 : Int) ≤ j := by omega
      have k1 : (j : Int) < n := by omega
      have HXI := Lib.hid (Box.new wr (insV i) 44)
      have HBW := Lib.hid ((HB.out.kept (KK2.out.trans HKW.out)).alloc (.cells (insV i).toArray 44))
      have HKA : Hid (Kept w2 (wr.alloc (.cells (insV i).toArray 44))) := HKW.out.alloc _
      clear hi hl hrow
      go_wp2_with fail
      refine wp_region_lin [(0, true), (1, true), (3, true), (2, false), (4, false)]
        (by kernel_rfl) (by kernel_rfl) rfl (by kernel_rfl) (Kept (wr.alloc (.cells (insV i).toArray 44))) ?_
      change wpLin _ _ _ _ _ _ (wr.alloc (.cells (insV i).toArray 44)).drew
      generalize wr.alloc (.cells (insV i).toArray 44) = Y at *
      have k9 : Kept Y Y.drew := (Kept.refl Y).drew
      simp only [List.map_cons, List.map_nil, List.getElem?_toArray, List.getElem?_cons_succ, List.getElem?_cons_zero]
      refine lin_take_box k9 rfl 44 (.tmp 6) rfl wr.heap.size 0 rfl (insV i) (insV i) (fun y hy => HXI.out.kept hy) whole_at _ Tryz.underlying44 rfl 5 (by kernel_rfl) rfl ?_
      simp only [Act.put, List.setIfInBounds_toArray, List.set_cons_zero, List.set_cons_succ]
      refine lin_take_box k9 rfl 30 (.tmp 3) rfl (w.heap.size + 1) 0 rfl (oV o) (oV o) (fun y hy => HBW.out.kept hy) whole_at _ Tryz.underlying30 rfl 16 (by kernel_rfl) ((oV_len o).trans HO.out) ?_
      simp only [Act.put, List.setIfInBounds_toArray, List.set_cons_zero, List.set_cons_succ]
      refine lin_take_box k9 rfl 30 (.tmp 3) rfl (w.heap.size + 1) 0 rfl (oV o) (oV o) (fun y hy => HBW.out.kept hy) whole_at _ Tryz.underlying30 rfl 16 (by kernel_rfl) ((oV_len o).trans HO.out) ?_
      simp only [Act.put, List.setIfInBounds_toArray, List.set_cons_zero, List.set_cons_succ]
      refine lin_call k9 (by rfl) (fun K hK => ?_)
      go_simp
      refine (needs_any i o _ HO.out HRI.out).mono ?_; rintro e w3 ⟨v, rfl, hrow3, hnew, hb3⟩
      go_wp2_with fail
      have k10 := k9.to hb3
      refine hK.out _ _ k10 (fun _ => ?_)
      clear hK K hb3
      obtain ⟨A3, c3, rfl⟩ := hrow3.form
      try simp only [Act.put, List.setIfInBounds_toArray, List.set_cons_zero, List.set_cons_succ]
      refine lin_call k10 (by rfl) (fun K hK => ?_)
      go_simp
      refine (anyOnE_any A3 c3 (needZ i o) o _ HO.out hrow3 HNR.out (by have := HNL.out; omega)).mono ?_; rintro e w4 ⟨rfl, hb4⟩
      go_wp2_with fail
      have k11 := k10.to hb4
      refine hK.out _ _ k11 (fun _ => ?_)
      clear hK K hb4
      try simp only [Act.put, List.setIfInBounds_toArray, List.set_cons_zero, List.set_cons_succ]
      refine lin_done ?_
      have HK4 := Lib.hid (HKA.out.trans k11)
      have HKE := Lib.hid (HK2.out.trans (Below.mono HK4.out (by have := HK2.out.size; omega)))
      clear k9 k10 k11 hrow3 hnew
      cases hq : anyEB (needZ i o) o
      · have HE := Lib.hid (show freeB o i = true by rw [HFB.out, hq]; rfl)
        go_wp2_with fail
        go_roundw
        case rel => exact ⟨j + 1, by omega, by go_num, HK4.out, by rw [HST.out, HE.out, Bool.true_and]⟩
        case measure => simp only [intOf]; omega
      · have HE := Lib.hid (show freeB o i = false by rw [HFB.out, hq]; rfl)
        go_wp2_with fail
        go_ret
        exact ⟨ret_bool (by rw [HST.out, HE.out]; rfl), HKE.out⟩
    · have HKE := Lib.hid (HK2.out.trans (Below.mono HKW.out (by have := HK2.out.size; omega)))
      go_wp2_with fail
      go_ret
      exact ⟨ret_bool (by rw [HF.out, HAE.out j (by rw [Hn.out]; omega)]), HKE.out⟩
end Go.Proofs.YteagglddgkjkmaaGreat.Words

/- Plain mathematics of chapter 13: the cells of a program's blocks. Nothing here speaks of one program text. -/
namespace Go.Proofs.YteagglddgkjkmaaGreat.Words
set_option maxRecDepth 100000
open Go.RowKit
set_option linter.unusedVariables false

/-- The cells of k instructions from f on. -/
def fillA (z : List Int) (l : List Ins) (f : Nat) : Nat → List Cel
  | 0 => []
  | k + 1 => fillA z l f k ++ emitA z (insAtZ l (f + k)) ((f + k : Nat) : Int) (k : Int)
def fillE (z : List Int) (l : List Ins) (f : Nat) : Nat → List Cel
  | 0 => []
  | k + 1 => fillE z l f k ++ emitE z (insAtZ l (f + k)) ((f + k : Nat) : Int) (k : Int)
def fillB (z : List Int) (l : List Ins) (b : Blk) : BlkC := ⟨b.from_, b.to, b.next, b.taken, fillA z l b.from_.toNat (b.to - b.from_).toNat, fillE z l b.from_.toNat (b.to - b.from_).toNat⟩
/-- A block with the cells of its first k instructions. -/
def partB (z : List Int) (l : List Ins) (b : Blk) (k : Nat) : BlkC := ⟨b.from_, b.to, b.next, b.taken, fillA z l b.from_.toNat k, fillE z l b.from_.toNat k⟩
def withZ (l : List Ins) (sz : Int) (m : Nat) (o : List Int) : List BlkC := if closedZ l sz m o = true then (cutR l sz m).map (fillB (zeroed o) l) else []
theorem regsC_le3 {k pc off : Int} {z l : List Int} {n : Nat} (h : l.length ≤ n) : (regsC k pc off (sentL z l)).length ≤ n := by
  have : (regsC k pc off (sentL z l)).length = (sentL z l).length := by simp [regsC]
  rw [this]; exact Nat.le_trans (sent_len _ _) h
theorem emitA_le3 (z : List Int) (i : Ins) (pc off : Int) : (emitA z i pc off).length ≤ 3 := by
  have h1 := regsC_le3 (k := 5) (pc := pc) (off := off) (z := z) (reads_len i)
  have h2 := regsC_le3 (k := 5) (pc := pc) (off := off) (z := z) (l := [i.b]) (n := 1) (by simp)
  unfold emitA
  repeat' split
  all_goals (try simp only [List.length_append, List.length_cons, List.length_nil]); omega
theorem emitE_le3 (z : List Int) (i : Ins) (pc off : Int) : (emitE z i pc off).length ≤ 3 := by
  have h1 := regsC_le3 (k := 6) (pc := pc) (off := off) (z := z) (reads_len i)
  have h2 := regsC_le3 (k := 6) (pc := pc) (off := off) (z := z) (l := [i.b]) (n := 1) (by simp)
  unfold emitE
  repeat' split
  all_goals (try simp only [List.length_append, List.length_cons, List.length_nil]); omega
theorem fillA_len (z : List Int) (l : List Ins) (f k : Nat) : (fillA z l f k).length ≤ 3 * k := by
  induction k with
  | zero => simp [fillA]
  | succ k ih =>
    rw [fillA, List.length_append]
    have := emitA_le3 z (insAtZ l (f + k)) ((f + k : Nat) : Int) (k : Int)
    omega
theorem fillE_len (z : List Int) (l : List Ins) (f k : Nat) : (fillE z l f k).length ≤ 3 * k := by
  induction k with
  | zero => simp [fillE]
  | succ k ih =>
    rw [fillE, List.length_append]
    have := emitE_le3 z (insAtZ l (f + k)) ((f + k : Nat) : Int) (k : Int)
    omega
/-- A block's ends. -/
theorem blk_ends {l : List Ins} {sz : Int} {m : Nat} {k : Nat} {b : Blk} (h : (cutR l sz m)[k]? = some b) : ∃ f t : Nat, b.from_ = f ∧ b.to = t ∧ f < t ∧ t ≤ l.length := by
  unfold cutR at h
  split at h
  · unfold cutZ cutTo at h
    rw [List.getElem?_map] at h
    have hk : k < (leadsZ l).length := by
      rcases Nat.lt_or_ge k (leadsZ l).length with h1 | h1
      · exact h1
      · rw [List.getElem?_eq_none (by simpa using h1)] at h; cases h
    rw [List.getElem?_range hk] at h
    simp at h
    subst h
    refine ⟨(leadsZ l).getD k 0, blkToZ (leadsZ l) l.length k, rfl, rfl, ?_, ?_⟩
    · have hf : (leadsZ l).getD k 0 < l.length := by
        rw [List.getD_eq_getElem?_getD, List.getElem?_eq_getElem hk]
        exact (mem_leads.1 (List.getElem_mem hk)).1
      unfold blkToZ
      split
      · rename_i h2
        have hs := leads_sorted l
        rw [List.getD_eq_getElem?_getD, List.getElem?_eq_getElem hk, List.getD_eq_getElem?_getD, List.getElem?_eq_getElem h2]
        exact List.pairwise_iff_getElem.1 hs k (k + 1) hk h2 (by omega)
      · exact hf
    · unfold blkToZ
      split
      · rename_i h2
        rw [List.getD_eq_getElem?_getD, List.getElem?_eq_getElem h2]
        exact Nat.le_of_lt (mem_leads.1 (List.getElem_mem h2)).1
      · exact Nat.le_refl _
  · simp at h
theorem fillB_part (z : List Int) (l : List Ins) {b : Blk} {f t : Nat} (h1 : b.from_ = f) (h2 : b.to = t) : fillB z l b = partB z l b (t - f) := by
  unfold fillB partB
  rw [h1, h2, show ((t : Int) - (f : Int)).toNat = t - f by omega]
theorem part_zero (z : List Int) (l : List Ins) (b : Blk) : partB z l b 0 = bareB b := rfl
theorem cut_len (l : List Ins) (sz : Int) (m : Nat) : (cutR l sz m).length ≤ l.length := by
  unfold cutR
  split
  · rw [cutZ_len]; unfold leadsZ; exact Nat.le_trans (List.length_filter_le _ _) (by simp)
  · simp
/-- The blocks while they are filled: i of them are. -/
def fillTo (z : List Int) (l : List Ins) (bs : List Blk) (i : Nat) : List BlkC := (bs.take i).map (fillB z l) ++ (bs.drop i).map bareB
theorem fillTo_0 (z : List Int) (l : List Ins) (bs : List Blk) : fillTo z l bs 0 = bs.map bareB := by simp [fillTo]
theorem fillTo_all (z : List Int) (l : List Ins) (bs : List Blk) : fillTo z l bs bs.length = bs.map (fillB z l) := by simp [fillTo]
theorem fillTo_len (z : List Int) (l : List Ins) (bs : List Blk) {i : Nat} (h : i ≤ bs.length) : (fillTo z l bs i).length = bs.length := by simp [fillTo]; omega
theorem fillTo_at (z : List Int) (l : List Ins) {bs : List Blk} {i : Nat} {b : Blk} (h : bs[i]? = some b) : (fillTo z l bs i)[i]? = some (bareB b) := by
  have hl := (List.getElem?_eq_some_iff.1 h).1
  unfold fillTo
  rw [List.getElem?_append_right (by simp; omega)]
  simp only [List.length_map, List.length_take]
  rw [show i - min i bs.length = 0 by omega, List.getElem?_map, List.getElem?_drop, Nat.add_zero, h]; rfl
theorem fillTo_step (z : List Int) (l : List Ins) {bs : List Blk} {i : Nat} {b : Blk} (h : bs[i]? = some b) : (fillTo z l bs i).set i (fillB z l b) = fillTo z l bs (i + 1) := by
  have hl := (List.getElem?_eq_some_iff.1 h).1
  unfold fillTo
  rw [List.set_append_right _ _ (by simp; omega)]
  simp only [List.length_map, List.length_take]
  rw [show i - min i bs.length = 0 by omega, List.take_add_one, h, List.map_append, List.append_assoc]
  congr 1
  rw [List.drop_eq_getElem_cons hl, List.map_cons, List.set_cons_zero]
  have : bs[i] = b := by have := List.getElem?_eq_getElem hl; rw [h] at this; injection this with this; exact this.symm
  rfl
end Go.Proofs.YteagglddgkjkmaaGreat.Words

/- Plain mathematics of chapter 13: which cells a block has, where they stand, and how many each instruction has. -/
namespace Go.Proofs.YteagglddgkjkmaaGreat.Words
set_option maxRecDepth 100000
open Go.RowKit
set_option linter.unusedVariables false

theorem regsC_pc {k pc off : Int} {l : List Int} : ∀ c ∈ regsC k pc off l, c.pc = pc ∧ c.off = off := by
  intro c hc
  unfold regsC at hc
  obtain ⟨r, _, rfl⟩ := List.mem_map.1 hc
  exact ⟨rfl, rfl⟩
theorem one_pc {P : Cel → Prop} {a : Cel} (h : P a) : ∀ c ∈ [a], P c := by
  intro c hc; rw [List.mem_singleton] at hc; subst hc; exact h
theorem app_pc {P : Cel → Prop} {l m : List Cel} (h : ∀ c ∈ l, P c) (g : ∀ c ∈ m, P c) : ∀ c ∈ l ++ m, P c := by
  intro c hc
  rcases List.mem_append.1 hc with h1 | h1
  · exact h c h1
  · exact g c h1
theorem emitA_pc (z : List Int) (i : Ins) (pc off : Int) : ∀ c ∈ emitA z i pc off, c.pc = pc ∧ c.off = off := by
  unfold emitA
  repeat' split
  all_goals first
    | exact fun c hc => absurd hc List.not_mem_nil
    | exact one_pc ⟨rfl, rfl⟩
    | exact regsC_pc
    | exact app_pc regsC_pc (one_pc ⟨rfl, rfl⟩)
theorem emitE_pc (z : List Int) (i : Ins) (pc off : Int) : ∀ c ∈ emitE z i pc off, c.pc = pc ∧ c.off = off := by
  unfold emitE
  repeat' split
  all_goals first
    | exact fun c hc => absurd hc List.not_mem_nil
    | exact one_pc ⟨rfl, rfl⟩
    | exact regsC_pc
    | exact app_pc regsC_pc (one_pc ⟨rfl, rfl⟩)
theorem emit_some {z : List Int} {i : Ins} {pc off : Int} (h : rightB i = true) : 1 ≤ (emitA z i pc off).length + (emitE z i pc off).length := by
  have hF := formZ_range i.op
  by_cases h4 : formZ i.op = 4
  · by_cases hd : atO z i.d = 2
    · have e := emit_4e (z := z) (pc := pc) (off := off) h h4 hd; rw [e.1, e.2]; simp
    · have e := emit_4a (z := z) (pc := pc) (off := off) h h4 hd; rw [e.1, e.2]; simp
  by_cases h5 : formZ i.op = 5
  · have e := emit_5 (z := z) (pc := pc) (off := off) h h5; rw [e.1, e.2]; simp only [List.length_append, List.length_cons, List.length_nil]; omega
  by_cases h6 : formZ i.op = 6
  · cases ha : anyEB (readsZ i) z
    · have e := emit_6a (z := z) (pc := pc) (off := off) h h6 ha; rw [e.1, e.2]; simp
    · have e := emit_6e (z := z) (pc := pc) (off := off) h h6 ha; rw [e.1, e.2]; simp only [List.length_append, List.length_cons, List.length_nil]; omega
  by_cases h7 : formZ i.op = 7
  · have e := emit_7 (z := z) (pc := pc) (off := off) h h7; rw [e.1, e.2]; simp
  by_cases h8 : formZ i.op = 8
  · have e := emit_8 (z := z) (pc := pc) (off := off) h h8; rw [e.1, e.2]; simp
  by_cases hs : sideZ i z = 1
  · have e := emit_1a (z := z) (pc := pc) (off := off) h (by omega) hs; rw [e.1, e.2]; simp
  · have e := emit_1e (z := z) (pc := pc) (off := off) h (by omega) hs; rw [e.1, e.2]; simp only [List.length_append, List.length_cons, List.length_nil]; omega
/-- The cells of k instructions from f on: where they stand. -/
theorem fillA_pc (z : List Int) (l : List Ins) (f k : Nat) : ∀ c ∈ fillA z l f k, ∃ j : Nat, j < k ∧ c.pc = ((f + j : Nat) : Int) ∧ c.off = (j : Int) := by
  induction k with
  | zero => intro c hc; cases hc
  | succ k ih =>
    intro c hc
    rcases List.mem_append.1 hc with h | h
    · obtain ⟨j, h1, h2⟩ := ih c h; exact ⟨j, by omega, h2⟩
    · exact ⟨k, by omega, emitA_pc _ _ _ _ c h⟩
theorem fillE_pc (z : List Int) (l : List Ins) (f k : Nat) : ∀ c ∈ fillE z l f k, ∃ j : Nat, j < k ∧ c.pc = ((f + j : Nat) : Int) ∧ c.off = (j : Int) := by
  induction k with
  | zero => intro c hc; cases hc
  | succ k ih =>
    intro c hc
    rcases List.mem_append.1 hc with h | h
    · obtain ⟨j, h1, h2⟩ := ih c h; exact ⟨j, by omega, h2⟩
    · exact ⟨k, by omega, emitE_pc _ _ _ _ c h⟩
theorem pair_same {l : List Cel} {pc : Int} (h : ∀ c ∈ l, c.pc = pc) : l.Pairwise (fun c d => c.pc ≤ d.pc) := by
  induction l with
  | nil => exact List.Pairwise.nil
  | cons a l ih =>
    refine List.Pairwise.cons (fun d hd => ?_) (ih (fun c hc => h c (by simp [hc])))
    rw [h a (by simp), h d (by simp [hd])]; exact Int.le_refl _
theorem fillA_sorted (z : List Int) (l : List Ins) (f k : Nat) : (fillA z l f k).Pairwise (fun c d => c.pc ≤ d.pc) := by
  induction k with
  | zero => exact List.Pairwise.nil
  | succ k ih =>
    refine List.pairwise_append.2 ⟨ih, pair_same (fun c hc => (emitA_pc _ _ _ _ c hc).1), fun c hc d hd => ?_⟩
    obtain ⟨j, h1, h2, _⟩ := fillA_pc z l f k c hc
    rw [h2, (emitA_pc _ _ _ _ d hd).1]; omega
theorem fillE_sorted (z : List Int) (l : List Ins) (f k : Nat) : (fillE z l f k).Pairwise (fun c d => c.pc ≤ d.pc) := by
  induction k with
  | zero => exact List.Pairwise.nil
  | succ k ih =>
    refine List.pairwise_append.2 ⟨ih, pair_same (fun c hc => (emitE_pc _ _ _ _ c hc).1), fun c hc d hd => ?_⟩
    obtain ⟨j, h1, h2, _⟩ := fillE_pc z l f k c hc
    rw [h2, (emitE_pc _ _ _ _ d hd).1]; omega
/-- How many cells stand at a place. -/
def cntZ (cs : List Cel) (j : Nat) : Nat := cs.countP fun c => decide (c.pc = (j : Int))
theorem cntZ_nil (j : Nat) : cntZ [] j = 0 := rfl
theorem cntZ_append (l m : List Cel) (j : Nat) : cntZ (l ++ m) j = cntZ l j + cntZ m j := List.countP_append ..
theorem cntZ_le (l : List Cel) (j : Nat) : cntZ l j ≤ l.length := List.countP_le_length
theorem cntZ_all {l : List Cel} {j : Nat} (h : ∀ c ∈ l, c.pc = (j : Int)) : cntZ l j = l.length := List.countP_eq_length.2 fun c hc => by simp [h c hc]
theorem cntZ_none {l : List Cel} {j : Nat} (h : ∀ c ∈ l, c.pc ≠ (j : Int)) : cntZ l j = 0 := List.countP_eq_zero.2 fun c hc => by simp [h c hc]
theorem fillA_cnt (z : List Int) (l : List Ins) (f k j : Nat) : cntZ (fillA z l f k) j = if f ≤ j ∧ j < f + k then (emitA z (insAtZ l j) (j : Int) ((j - f : Nat) : Int)).length else 0 := by
  induction k with
  | zero => rw [if_neg (by omega)]; rfl
  | succ k ih =>
    rw [fillA, cntZ_append, ih]
    by_cases e : j = f + k
    · subst e
      rw [if_neg (by omega), if_pos (by omega), cntZ_all (fun c hc => (emitA_pc _ _ _ _ c hc).1), show f + k - f = k by omega, Nat.zero_add]
    · rw [cntZ_none (l := emitA z (insAtZ l (f + k)) ((f + k : Nat) : Int) (k : Int)) (fun c hc h => e (by have := (emitA_pc _ _ _ _ c hc).1; omega)), Nat.add_zero]
      by_cases c : f ≤ j ∧ j < f + k
      · rw [if_pos c, if_pos (by omega)]
      · rw [if_neg c, if_neg (by omega)]
theorem fillE_cnt (z : List Int) (l : List Ins) (f k j : Nat) : cntZ (fillE z l f k) j = if f ≤ j ∧ j < f + k then (emitE z (insAtZ l j) (j : Int) ((j - f : Nat) : Int)).length else 0 := by
  induction k with
  | zero => rw [if_neg (by omega)]; rfl
  | succ k ih =>
    rw [fillE, cntZ_append, ih]
    by_cases e : j = f + k
    · subst e
      rw [if_neg (by omega), if_pos (by omega), cntZ_all (fun c hc => (emitE_pc _ _ _ _ c hc).1), show f + k - f = k by omega, Nat.zero_add]
    · rw [cntZ_none (l := emitE z (insAtZ l (f + k)) ((f + k : Nat) : Int) (k : Int)) (fun c hc h => e (by have := (emitE_pc _ _ _ _ c hc).1; omega)), Nat.add_zero]
      by_cases c : f ≤ j ∧ j < f + k
      · rw [if_pos c, if_pos (by omega)]
      · rw [if_neg c, if_neg (by omega)]
def blkCs (b : BlkC) : List Cel := b.a ++ b.e
def allCs (bs : List BlkC) : List Cel := bs.flatMap blkCs
theorem allCs_take {bs : List BlkC} {k : Nat} {b : BlkC} (h : bs[k]? = some b) : allCs (bs.take (k + 1)) = allCs (bs.take k) ++ blkCs b := by
  unfold allCs
  rw [List.take_add_one, h, List.flatMap_append]; simp
/-- Where the k-th block begins; behind the last one: where the code ends. -/
def startZ (l : List Ins) (k : Nat) : Nat := if k < (leadsZ l).length then (leadsZ l).getD k 0 else l.length
theorem startZ_succ (l : List Ins) (k : Nat) : blkToZ (leadsZ l) l.length k = startZ l (k + 1) := rfl
theorem startZ_0 {l : List Ins} (h : 0 < l.length) : startZ l 0 = 0 := by
  have hm := leads_zero h
  have hp := List.length_pos_of_mem hm
  unfold startZ
  rw [if_pos hp]
  obtain ⟨i, hi, he⟩ := List.getElem_of_mem hm
  rw [List.getD_eq_getElem?_getD, List.getElem?_eq_getElem hp]
  rcases Nat.eq_zero_or_pos i with rfl | hi0
  · exact he
  · have := List.pairwise_iff_getElem.1 (leads_sorted l) 0 i hp hi hi0
    rw [he] at this; omega
theorem startZ_all (l : List Ins) : startZ l (leadsZ l).length = l.length := by unfold startZ; rw [if_neg (by omega)]
/-- The k-th block's cells. -/
theorem blk_cnt (z : List Int) {l : List Ins} {k : Nat} (hk : k < (leadsZ l).length) (j : Nat) : cntZ (blkCs (fillB z l (blkZ l (leadsZ l) k))) j = if startZ l k ≤ j ∧ j < startZ l (k + 1) then (emitA z (insAtZ l j) (j : Int) ((j - startZ l k : Nat) : Int)).length + (emitE z (insAtZ l j) (j : Int) ((j - startZ l k : Nat) : Int)).length else 0 := by
  have h1 : (blkZ l (leadsZ l) k).from_ = (startZ l k : Int) := by unfold startZ; rw [if_pos hk]; rfl
  have h2 : (blkZ l (leadsZ l) k).to = (startZ l (k + 1) : Int) := rfl
  have hle : startZ l k ≤ startZ l (k + 1) := by
    have := (blkTo_range (n := l.length) (leads_sorted l) (fun x hx => (mem_leads.1 hx).1) hk).1
    rw [startZ_succ] at this
    have e : startZ l k = (leadsZ l).getD k 0 := by unfold startZ; rw [if_pos hk]
    omega
  rw [fillB_part z l h1 h2]
  unfold blkCs partB
  rw [cntZ_append, fillA_cnt, fillE_cnt, h1]
  simp only [Int.toNat_natCast]
  rw [show startZ l k + (startZ l (k + 1) - startZ l k) = startZ l (k + 1) by omega]
  by_cases c : startZ l k ≤ j ∧ j < startZ l (k + 1)
  · rw [if_pos c, if_pos c, if_pos c]
  · rw [if_neg c, if_neg c, if_neg c]
theorem take_cnt (z : List Int) {l : List Ins} (hi : ∀ i ∈ l, rightB i = true) (h0 : 0 < l.length) (k : Nat) (hk : k ≤ (leadsZ l).length) : ∀ j, j < l.length →
    if j < startZ l k then 1 ≤ cntZ (allCs (((cutZ l).map (fillB z l)).take k)) j ∧ cntZ (allCs (((cutZ l).map (fillB z l)).take k)) j ≤ 6 else cntZ (allCs (((cutZ l).map (fillB z l)).take k)) j = 0 := by
  induction k with
  | zero =>
    intro j hj
    rw [startZ_0 h0, if_neg (by omega), List.take_zero]; rfl
  | succ k ih =>
    intro j hj
    have hk' : k < (leadsZ l).length := by omega
    have hb : ((cutZ l).map (fillB z l))[k]? = some (fillB z l (blkZ l (leadsZ l) k)) := by rw [List.getElem?_map, cutZ_get hk']; rfl
    rw [allCs_take hb, cntZ_append, blk_cnt z hk']
    have h1 := ih (by omega) j hj
    have hle : startZ l k < startZ l (k + 1) := by
      have := (blkTo_range (n := l.length) (leads_sorted l) (fun x hx => (mem_leads.1 hx).1) hk').1
      rw [startZ_succ] at this
      have e : startZ l k = (leadsZ l).getD k 0 := by unfold startZ; rw [if_pos hk']
      omega
    by_cases c1 : j < startZ l k
    · rw [if_pos c1] at h1
      rw [if_pos (by omega), if_neg (by omega)]
      omega
    · rw [if_neg c1] at h1
      rw [h1]
      by_cases c2 : j < startZ l (k + 1)
      · rw [if_pos c2, if_pos ⟨by omega, c2⟩]
        have hr : rightB (insAtZ l j) = true := hi _ (by unfold insAtZ; rw [List.getD_eq_getElem?_getD, List.getElem?_eq_getElem hj]; exact List.getElem_mem hj)
        have := emit_some (z := z) (pc := (j : Int)) (off := ((j - startZ l k : Nat) : Int)) hr
        have := emitA_le3 z (insAtZ l j) (j : Int) ((j - startZ l k : Nat) : Int)
        have := emitE_le3 z (insAtZ l j) (j : Int) ((j - startZ l k : Nat) : Int)
        omega
      · rw [if_neg c2, if_neg (by omega)]
theorem all_cnt (z : List Int) {l : List Ins} {sz : Int} {m : Nat} (h : rightZ l sz m = true) : ∀ j, j < l.length → 1 ≤ cntZ (allCs ((cutR l sz m).map (fillB z l))) j ∧ cntZ (allCs ((cutR l sz m).map (fillB z l))) j ≤ 6 := by
  intro j hj
  have hi := (rightZ_ins h).2
  have := take_cnt z hi (by omega) (leadsZ l).length (Nat.le_refl _) j hj
  rw [startZ_all, if_pos hj, List.take_of_length_le (by rw [List.length_map, cutZ_len]; exact Nat.le_refl _)] at this
  unfold cutR
  rw [if_pos h]; exact this
/-- The counts of all places. -/
def cntV (n : Nat) (cs : List Cel) : List Int := (List.range n).map fun j => (cntZ cs j : Int)
theorem cntV_len (n : Nat) (cs : List Cel) : (cntV n cs).length = n := by simp [cntV]
theorem cntV_at {n : Nat} (cs : List Cel) {j : Nat} (h : j < n) : (cntV n cs)[j]? = some (cntZ cs j : Int) := by unfold cntV; rw [List.getElem?_map, List.getElem?_range h]; rfl
theorem cntV_nil (n : Nat) : cntV n [] = List.replicate n 0 := by
  apply List.ext_getElem?
  intro j
  rcases Nat.lt_or_ge j n with h | h
  · rw [cntV_at _ h, List.getElem?_replicate, if_pos h]; rfl
  · rw [List.getElem?_eq_none (by rw [cntV_len]; exact h), List.getElem?_eq_none (by simpa using h)]
theorem cntV_set {n q : Nat} {cs : List Cel} {x : Cel} (hq : q < n) (hx : x.pc = (q : Int)) : (cntV n cs).set q ((cntZ cs q : Int) + 1) = cntV n (cs ++ [x]) := by
  apply List.ext_getElem?
  intro j
  rcases Nat.lt_or_ge j n with h | h
  · rw [cntV_at _ h, cntZ_append]
    by_cases e : q = j
    · subst e
      rw [List.getElem?_set_self (by rw [cntV_len]; exact h), cntZ_all (l := [x]) (one_pc (P := fun c => c.pc = (q : Int)) hx)]
      simp
    · rw [List.getElem?_set_ne e, cntV_at _ h, cntZ_none (l := [x]) (one_pc (P := fun c => c.pc ≠ (j : Int)) (by rw [hx]; omega))]
      simp
  · rw [List.getElem?_eq_none (by simpa [cntV_len] using h), List.getElem?_eq_none (by rw [cntV_len]; exact h)]
/-- A cell of a block. -/
theorem blk_cell (z : List Int) {l : List Ins} {b : Blk} {f t : Nat} (h1 : b.from_ = f) (h2 : b.to = t) (hft : f < t) {k : Nat} {x : Cel} (hx : (blkCs (fillB z l b))[k]? = some x) : ∃ q : Nat, f ≤ q ∧ q < t ∧ x.pc = (q : Int) ∧ x.off = (q : Int) - (f : Int) := by
  rw [fillB_part z l h1 h2] at hx
  have hm := List.mem_of_getElem? hx
  unfold blkCs partB at hm
  rw [h1] at hm
  simp only [Int.toNat_natCast] at hm
  have key : ∃ j : Nat, j < t - f ∧ x.pc = ((f + j : Nat) : Int) ∧ x.off = (j : Int) := by
    rcases List.mem_append.1 hm with h | h
    · exact fillA_pc _ _ _ _ x h
    · exact fillE_pc _ _ _ _ x h
  obtain ⟨j, j1, j2, j3⟩ := key
  exact ⟨f + j, by omega, by omega, j2, by omega⟩
theorem blk_order (z : List Int) {l : List Ins} {b : Blk} {f t : Nat} (h1 : b.from_ = f) (h2 : b.to = t) {k : Nat} {x y : Cel} (hk : 0 < k) (hn : k ≠ (fillB z l b).a.length) (hx : (blkCs (fillB z l b))[k]? = some x) (hy : (blkCs (fillB z l b))[k - 1]? = some y) : y.pc ≤ x.pc := by
  rw [fillB_part z l h1 h2] at hx hy hn
  unfold blkCs partB at hx hy
  unfold partB at hn
  simp only at hx hy hn
  rcases Nat.lt_or_ge k (fillA z l b.from_.toNat (t - f)).length with h | h
  · rw [List.getElem?_append_left h] at hx
    rw [List.getElem?_append_left (by omega)] at hy
    obtain ⟨a1, rfl⟩ := List.getElem?_eq_some_iff.1 hx
    obtain ⟨a2, rfl⟩ := List.getElem?_eq_some_iff.1 hy
    exact List.pairwise_iff_getElem.1 (fillA_sorted z l b.from_.toNat (t - f)) (k - 1) k a2 a1 (by omega)
  · rw [List.getElem?_append_right h] at hx
    rw [List.getElem?_append_right (by omega)] at hy
    obtain ⟨a1, rfl⟩ := List.getElem?_eq_some_iff.1 hx
    obtain ⟨a2, rfl⟩ := List.getElem?_eq_some_iff.1 hy
    exact List.pairwise_iff_getElem.1 (fillE_sorted z l b.from_.toNat (t - f)) _ _ a2 a1 (by omega)
theorem allCs_append (l m : List BlkC) : allCs (l ++ m) = allCs l ++ allCs m := by unfold allCs; exact List.flatMap_append
theorem each_le {bs : List BlkC} {k k2 : Nat} {b : BlkC} (h : bs[k]? = some b) (j : Nat) : cntZ (allCs (bs.take k) ++ (blkCs b).take k2) j ≤ cntZ (allCs bs) j := by
  have e : allCs bs = allCs (bs.take k) ++ ((blkCs b).take k2 ++ ((blkCs b).drop k2 ++ allCs (bs.drop (k + 1)))) := by
    rw [← List.append_assoc ((blkCs b).take k2), List.take_append_drop, ← List.append_assoc, ← allCs_take h, ← allCs_append, List.take_append_drop]
  rw [e, cntZ_append, cntZ_append, cntZ_append]
  omega
theorem allCs_end {bs : List BlkC} {k k2 : Nat} {b : BlkC} (h : bs[k]? = some b) (hk : (blkCs b).length ≤ k2) : allCs (bs.take k) ++ (blkCs b).take k2 = allCs (bs.take (k + 1)) := by
  rw [allCs_take h, List.take_of_length_le hk]
theorem take_snoc {α : Type} {l : List α} {k : Nat} {x : α} (h : l[k]? = some x) : l.take (k + 1) = l.take k ++ [x] := by rw [List.take_add_one, h]; rfl
end Go.Proofs.YteagglddgkjkmaaGreat.Words

/- Plain mathematics of the law EmitPairs: how many cells of each kind, which registers are sent and received. Nothing here speaks of one program text. -/
namespace Go.Proofs.YteagglddgkjkmaaGreat.Words
set_option maxRecDepth 100000
open Go.RowKit
set_option linter.unusedVariables false
set_option linter.unusedSimpArgs false

def cntK (k : Int) (l : List Cel) : Int := ((l.filter fun c => decide (c.kind = k)).length : Int)
def pickR (k : Int) (l : List Cel) : List Int := (l.filter fun c => decide (c.kind = k)).map Cel.reg
theorem cnt_nil (k : Int) : cntK k [] = 0 := rfl
theorem cnt_append (k : Int) (l m : List Cel) : cntK k (l ++ m) = cntK k l + cntK k m := by simp [cntK]
theorem cnt_cons (k : Int) (c : Cel) (l : List Cel) : cntK k (c :: l) = (if c.kind = k then 1 else 0) + cntK k l := by
  unfold cntK
  rw [List.filter_cons]
  by_cases h : c.kind = k
  · simp [h]; omega
  · simp [h]
theorem cnt_regs (k q pc off : Int) (s : List Int) (h : ¬ q = k) : cntK k (regsC q pc off s) = 0 := by
  induction s with
  | nil => rfl
  | cons r s ih => rw [show regsC q pc off (r :: s) = regC q r pc off :: regsC q pc off s from rfl, cnt_cons, ih, if_neg (by exact h)]; rfl
theorem pick_nil (k : Int) : pickR k [] = [] := rfl
theorem pick_append (k : Int) (l m : List Cel) : pickR k (l ++ m) = pickR k l ++ pickR k m := by simp [pickR]
theorem pick_cons (k : Int) (c : Cel) (l : List Cel) : pickR k (c :: l) = (if c.kind = k then [c.reg] else []) ++ pickR k l := by
  unfold pickR
  rw [List.filter_cons]
  by_cases h : c.kind = k <;> simp [h]
theorem pick_regs (k pc off : Int) (s : List Int) : pickR k (regsC k pc off s) = s := by
  induction s with
  | nil => rfl
  | cons r s ih => rw [show regsC k pc off (r :: s) = regC k r pc off :: regsC k pc off s from rfl, pick_cons, ih, if_pos (by rfl)]; rfl
def cntL (l : List Cel) : List Int := (List.range 13).map fun (k : Nat) => cntK (k : Int) l
theorem cntL_len (l : List Cel) : (cntL l).length = 13 := by simp [cntL]
theorem cntL_nil : cntL [] = [0, 0, 0, 0, 0, 0, 0, 0, 0, 0, 0, 0, 0] := by decide +kernel
theorem cntL_at (l : List Cel) {k : Nat} (h : k < 13) : (cntL l)[k]? = some (cntK k l) := by
  unfold cntL; rw [List.getElem?_map, List.getElem?_range h]; rfl
theorem take_snocC {l : List Cel} {j : Nat} {x : Cel} (h : l[j]? = some x) : l.take (j + 1) = l.take j ++ [x] := by rw [List.take_add_one, h]; rfl
theorem cntL_step {l : List Cel} {j m : Nat} {x : Cel} (h : l[j]? = some x) (hm : x.kind = m) (h13 : m < 13) : cntL (l.take (j + 1)) = (cntL (l.take j)).set m (cntK m (l.take j) + 1) := by
  rw [take_snocC h]
  refine List.ext_getElem? fun k => ?_
  rw [List.getElem?_set]
  by_cases hk : k < 13
  · rw [cntL_at _ hk, cntL_at _ hk, cnt_append, cnt_cons, cnt_nil]
    by_cases e : m = k
    · subst e; rw [if_pos hm, if_pos rfl, if_pos (by rw [cntL_len]; exact hk)]; rfl
    · rw [if_neg (by rw [hm]; omega), if_neg e]; simp
  · rw [List.getElem?_eq_none (by rw [cntL_len]; omega)]
    by_cases e : m = k
    · omega
    · rw [if_neg e, List.getElem?_eq_none (by rw [cntL_len]; omega)]
theorem pick_step {l : List Cel} {j : Nat} {x : Cel} (k : Int) (h : l[j]? = some x) : pickR k (l.take (j + 1)) = pickR k (l.take j) ++ (if x.kind = k then [x.reg] else []) := by
  rw [take_snocC h, pick_append, pick_cons, pick_nil, List.append_nil]
theorem pick_len (k : Int) (l : List Cel) : (pickR k l).length ≤ l.length := by
  unfold pickR; rw [List.length_map]; exact List.length_filter_le _ _
theorem regsC_in {k pc off : Int} {s : List Int} {x : Cel} (hx : x ∈ regsC k pc off s) : x.kind = k ∧ x.pc = pc ∧ x.off = off := by
  unfold regsC at hx
  obtain ⟨r, _, rfl⟩ := List.mem_map.1 hx
  exact ⟨rfl, rfl, rfl⟩
/-- All that is asked of one case. -/
structure PairsOK (z : List Int) (i : Ins) (pc off : Int) (la le : List Cel) (a e : Int → Int) : Prop where
  inA : ∀ x ∈ la, (1 ≤ x.kind ∧ x.kind ≤ 12) ∧ x.pc = pc ∧ x.off = off
  inE : ∀ x ∈ le, (1 ≤ x.kind ∧ x.kind ≤ 12) ∧ x.pc = pc ∧ x.off = off
  lenA : la.length ≤ 3
  lenE : le.length ≤ 3
  same : pickR 5 la = pickR 6 le
  onA : ∀ r ∈ pickR 5 la, atO z r = 1 ∧ 0 ≤ r ∧ r ≤ 15
  cA : ∀ k, k = 1 ∨ k = 2 ∨ k = 3 ∨ k = 4 ∨ k = 9 ∨ k = 10 ∨ k = 11 ∨ k = 12 → cntK k la = a k
  cE : ∀ k, k = 1 ∨ k = 7 ∨ k = 8 ∨ k = 9 ∨ k = 10 ∨ k = 11 ∨ k = 12 → cntK k le = e k
def one (q : Int) : Int → Int := fun k => if q = k then 1 else 0
theorem pairs_of {z : List Int} {i : Ins} {pc off : Int} {ta te : List Cel} {s : List Int} {a e : Int → Int} (hs : s.length ≤ 2)
    (hm : ∀ r ∈ s, atO z r = 1 ∧ 0 ≤ r ∧ r ≤ 15)
    (hta : ∀ x ∈ ta, (1 ≤ x.kind ∧ x.kind ≤ 12) ∧ x.pc = pc ∧ x.off = off) (hte : ∀ x ∈ te, (1 ≤ x.kind ∧ x.kind ≤ 12) ∧ x.pc = pc ∧ x.off = off)
    (la : ta.length ≤ 1) (le : te.length ≤ 1) (pa : pickR 5 ta = []) (pe : pickR 6 te = [])
    (ca : ∀ k, cntK k ta = a k) (ce : ∀ k, cntK k te = e k) : PairsOK z i pc off (regsC 5 pc off s ++ ta) (regsC 6 pc off s ++ te) a e := by
  refine ⟨?_, ?_, ?_, ?_, ?_, ?_, ?_, ?_⟩
  · intro x hx
    rcases List.mem_append.1 hx with h | h
    · have := regsC_in h; refine ⟨?_, this.2⟩; rw [this.1]; omega
    · exact hta x h
  · intro x hx
    rcases List.mem_append.1 hx with h | h
    · have := regsC_in h; refine ⟨?_, this.2⟩; rw [this.1]; omega
    · exact hte x h
  · simp [regsC]; omega
  · simp [regsC]; omega
  · rw [pick_append, pick_append, pick_regs, pick_regs, pa, pe]
  · rw [pick_append, pick_regs, pa, List.append_nil]; exact hm
  · intro k hk
    rw [cnt_append, cnt_regs k 5 pc off s (by omega), ca]; omega
  · intro k hk
    rw [cnt_append, cnt_regs k 6 pc off s (by omega), ce]; omega
theorem cnt_one (k : Int) (c : Cel) : cntK k [c] = one c.kind k := by rw [cnt_cons, cnt_nil]; unfold one; omega
theorem in_one {pc off : Int} {c : Cel} (h : (1 ≤ c.kind ∧ c.kind ≤ 12) ∧ c.pc = pc ∧ c.off = off) : ∀ x ∈ [c], (1 ≤ x.kind ∧ x.kind ≤ 12) ∧ x.pc = pc ∧ x.off = off := by
  intro x hx; simp at hx; subst hx; exact h
theorem in_none {pc off : Int} : ∀ x ∈ ([] : List Cel), (1 ≤ x.kind ∧ x.kind ≤ 12) ∧ x.pc = pc ∧ x.off = off := fun x h => by cases h
def nought : Int → Int := fun _ => 0
/-- Which case it is, with its numbers. -/
inductive PairCase : Int → (Int → Int) → (Int → Int) → Prop
  | c4e : PairCase 4 (one 3) (one 7)
  | c4a : PairCase 4 (one 2) nought
  | c5 : PairCase 5 (one 4) (one 8)
  | c6e : PairCase 6 (one 10) (one 9)
  | c6a : PairCase 6 (one 9) (one 10)
  | c7 : PairCase 7 (one 11) (one 11)
  | c8 : PairCase 8 (one 12) (one 12)
  | c1a (f : Int) (h : f = 1 ∨ f = 2 ∨ f = 3) : PairCase f (one 1) nought
  | c1e (f : Int) (h : f = 1 ∨ f = 2 ∨ f = 3) : PairCase f nought (one 1)
theorem sent_on {o : List Int} (ho : o.length = 16) {l : List Int} (hl : ∀ r ∈ l, 0 ≤ r ∧ r ≤ 15) : ∀ r ∈ sentL (zeroed o) l, atO (zeroed o) r = 1 ∧ 0 ≤ r ∧ r ≤ 15 := by
  intro r hr
  have := (sent_mem _ _ _).1 hr
  exact ⟨this.2, hl r this.1⟩
theorem pairs_all {o : List Int} (ho : o.length = 16) {i : Ins} (hi : rightB i = true) (pc off : Int) :
    ∃ a e, PairCase (formZ i.op) a e ∧ PairsOK (zeroed o) i pc off (emitA (zeroed o) i pc off) (emitE (zeroed o) i pc off) a e := by
  have hrr := right_range hi
  have hrd : ∀ r ∈ readsZ i, 0 ≤ r ∧ r ≤ 15 := fun r hr => by have := reads_mem hr; omega
  have hln : (sentL (zeroed o) (readsZ i)).length ≤ 2 := Nat.le_trans (sent_len _ _) (reads_len i)
  have hb1 : (sentL (zeroed o) [i.b]).length ≤ 2 := Nat.le_trans (sent_len _ _) (by simp)
  have hbd : ∀ r ∈ ([i.b] : List Int), 0 ≤ r ∧ r ≤ 15 := fun r hr => by simp at hr; subst hr; exact hrr.2.2.2.1
  have none : ∀ r ∈ ([] : List Int), atO (zeroed o) r = 1 ∧ 0 ≤ r ∧ r ≤ 15 := fun r h => by cases h
  have hF := formZ_range i.op
  have hC := formZ_cases i.op
  have ok : ∀ {c : Cel}, (1 ≤ c.kind ∧ c.kind ≤ 12) → c.pc = pc → c.off = off → ∀ x ∈ [c], (1 ≤ x.kind ∧ x.kind ≤ 12) ∧ x.pc = pc ∧ x.off = off := fun h1 h2 h3 => in_one ⟨h1, h2, h3⟩
  by_cases h4 : formZ i.op = 4
  · by_cases hd : atO (zeroed o) i.d = 2
    · have e := emit_4e (pc := pc) (off := off) hi h4 hd
      rw [e.1, e.2, h4]
      exact ⟨_, _, .c4e, pairs_of (s := []) (by simp) none (ok (by simp [insC, regC, bareC]) rfl rfl) (ok (by simp [insC, regC, bareC]) rfl rfl) (by simp) (by simp) rfl rfl (fun k => cnt_one k _) (fun k => cnt_one k _)⟩
    · have e := emit_4a (pc := pc) (off := off) hi h4 hd
      rw [e.1, e.2, h4]
      exact ⟨_, _, .c4a, pairs_of (s := []) (by simp) none (ok (by simp [insC, regC, bareC]) rfl rfl) in_none (by simp) (by simp) rfl rfl (fun k => cnt_one k _) (fun k => rfl)⟩
  by_cases h5 : formZ i.op = 5
  · have e := emit_5 (z := zeroed o) (pc := pc) (off := off) hi h5
    rw [e.1, e.2, h5]
    exact ⟨_, _, .c5, pairs_of hb1 (sent_on ho hbd) (ok (by simp [insC, regC, bareC]) rfl rfl) (ok (by simp [insC, regC, bareC]) rfl rfl) (by simp) (by simp) rfl rfl (fun k => cnt_one k _) (fun k => cnt_one k _)⟩
  by_cases h6 : formZ i.op = 6
  · cases ha : anyEB (readsZ i) (zeroed o)
    · have e := emit_6a (pc := pc) (off := off) hi h6 ha
      rw [e.1, e.2, h6]
      exact ⟨_, _, .c6a, pairs_of (s := []) (by simp) none (ok (by simp [insC, regC, bareC]) rfl rfl) (ok (by simp [insC, regC, bareC]) rfl rfl) (by simp) (by simp) rfl rfl (fun k => cnt_one k _) (fun k => cnt_one k _)⟩
    · have e := emit_6e (pc := pc) (off := off) hi h6 ha
      rw [e.1, e.2, h6]
      exact ⟨_, _, .c6e, pairs_of hln (sent_on ho hrd) (ok (by simp [insC, regC, bareC]) rfl rfl) (ok (by simp [insC, regC, bareC]) rfl rfl) (by simp) (by simp) rfl rfl (fun k => cnt_one k _) (fun k => cnt_one k _)⟩
  by_cases h7 : formZ i.op = 7
  · have e := emit_7 (z := zeroed o) (pc := pc) (off := off) hi h7
    rw [e.1, e.2, h7]
    exact ⟨_, _, .c7, pairs_of (s := []) (by simp) none (ok (by simp [insC, regC, bareC]) rfl rfl) (ok (by simp [insC, regC, bareC]) rfl rfl) (by simp) (by simp) rfl rfl (fun k => cnt_one k _) (fun k => cnt_one k _)⟩
  by_cases h8 : formZ i.op = 8
  · have e := emit_8 (z := zeroed o) (pc := pc) (off := off) hi h8
    rw [e.1, e.2, h8]
    exact ⟨_, _, .c8, pairs_of (s := []) (by simp) none (ok (by simp [insC, regC, bareC]) rfl rfl) (ok (by simp [insC, regC, bareC]) rfl rfl) (by simp) (by simp) rfl rfl (fun k => cnt_one k _) (fun k => cnt_one k _)⟩
  have h3 : formZ i.op = 1 ∨ formZ i.op = 2 ∨ formZ i.op = 3 := by omega
  by_cases hs : sideZ i (zeroed o) = 1
  · have e := emit_1a (pc := pc) (off := off) hi (by omega) hs
    rw [e.1, e.2]
    exact ⟨_, _, .c1a _ h3, pairs_of (s := []) (by simp) none (ok (by simp [insC, regC, bareC]) rfl rfl) in_none (by simp) (by simp) rfl rfl (fun k => cnt_one k _) (fun k => rfl)⟩
  · have e := emit_1e (pc := pc) (off := off) hi (by omega) hs
    rw [e.1, e.2]
    have := pairs_of (i := i) (pc := pc) (off := off) (ta := []) (te := [insC 1 i pc off]) (a := nought) (e := one 1) hln (sent_on ho hrd) in_none (ok (by simp [insC, regC, bareC]) rfl rfl) (by simp) (by simp) rfl rfl (fun k => rfl) (fun k => cnt_one k _)
    rw [List.append_nil] at this
    exact ⟨_, _, .c1e _ h3, this⟩
end Go.Proofs.YteagglddgkjkmaaGreat.Words

/- Plain mathematics of chapter 10: blocks cover the code. Nothing here speaks of one program text. -/
namespace Go.Proofs.YteagglddgkjkmaaGreat.Words
set_option maxRecDepth 100000
set_option linter.unusedVariables false
open Go.RowKit

theorem mem_getD {L : List Nat} {x : Nat} (h : x ∈ L) : ∃ q, q < L.length ∧ L.getD q 0 = x := by
  obtain ⟨q, hq, he⟩ := List.getElem_of_mem h
  exact ⟨q, hq, by rw [List.getD_eq_getElem?_getD, List.getElem?_eq_getElem hq]; exact he⟩
theorem lead_next {L : List Nat} {n k x : Nat} (hs : L.Pairwise (· < ·)) (hk : k < L.length) (hx : x ∈ L) (h : L.getD k 0 < x) : blkToZ L n k ≤ x := by
  obtain ⟨q, hq, rfl⟩ := mem_getD hx
  have hkq : k < q := by
    by_cases hh : q < k
    · have := sorted_at hs hh hk; omega
    · by_cases he : q = k
      · subst he; omega
      · omega
  unfold blkToZ
  rw [if_pos (by omega)]
  by_cases he : q = k + 1
  · subst he; exact Nat.le_refl _
  · exact Nat.le_of_lt (sorted_at hs (by omega) hq)
section
variable {l : List Ins} {k : Nat}
theorem end_inside (hk : k < (leadsZ l).length) {j : Nat} {i : Ins} (h1 : (leadsZ l).getD k 0 ≤ j) (h2 : j + 1 < blkToZ (leadsZ l) l.length k) (hi : l[j]? = some i) : isEnd i = false := by
  cases he : isEnd i
  · rfl
  · have hr := blkTo_range (n := l.length) (leads_sorted l) (fun x hx => (mem_leads.1 hx).1) hk
    have hm : j + 1 ∈ leadsZ l := mem_leads.2 ⟨by omega, .inr (.inr ⟨j, i, hi, he, rfl⟩)⟩
    have := lead_next (n := l.length) (leads_sorted l) hk hm (by omega)
    omega
theorem jump_end {i : Ins} (h : isEnd i = false) : isJump i = false := by
  unfold isEnd at h; rw [Bool.or_eq_false_iff] at h; exact h.1
theorem end_form {i : Ins} (h : isEnd i = false) : formZ i.op < 6 := by
  have h0 := formZ_range i.op
  have h1 : ¬ formZ i.op = 6 := fun e => by
    have := (isJump_form i).2 (.inl e); rw [jump_end h] at this; cases this
  have h2 : ¬ formZ i.op = 7 := fun e => by
    have := (isJump_form i).2 (.inr e); rw [jump_end h] at this; cases this
  have h3 : ¬ formZ i.op = 8 := fun e => by
    rw [isEnd_eq, e] at h; simp at h
  omega
theorem taken_at {j T : Nat} {i : Ins} (hi : l[j]? = some i) (hj : isJump i = true) (hT : (j : Int) + i.imm = T) (hn : T < l.length) :
    ∃ q, q < (leadsZ l).length ∧ (leadsZ l).getD q 0 = T ∧ numZ (leadsZ l) (T : Int) = q := by
  have hm : T ∈ leadsZ l := mem_leads.2 ⟨hn, .inr (.inl ⟨j, i, hi, hj, by rw [hT]; rfl⟩)⟩
  obtain ⟨q, hq, he⟩ := mem_getD hm
  exact ⟨q, hq, he, numZ_idx (leads_sorted l) hq (by rw [he])⟩
theorem num_to (hk : k < (leadsZ l).length) : numZ (leadsZ l) (blkToZ (leadsZ l) l.length k : Nat) = if k + 1 < (leadsZ l).length then ((k + 1 : Nat) : Int) else -1 := by
  unfold blkToZ
  split
  · rename_i h; exact numZ_idx (leads_sorted l) h rfl
  · refine numZ_none fun j hj => ?_
    have := (mem_leads.1 (leadD_mem hj)).1
    omega
theorem blk_next (hk : k < (leadsZ l).length) : (blkZ l (leadsZ l) k).next = -1 ∨ ((blkZ l (leadsZ l) k).next = ((k + 1 : Nat) : Int) ∧ k + 1 < (leadsZ l).length) := by
  show (if _ then numZ _ _ else _) = _ ∨ (if _ then numZ _ _ else _) = _ ∧ _
  split
  · rw [num_to hk]
    split
    · exact .inr ⟨rfl, by assumption⟩
    · exact .inl rfl
  · exact .inl rfl
theorem leads_first (h : 0 < l.length) : 0 < (leadsZ l).length ∧ (leadsZ l).getD 0 0 = 0 := by
  obtain ⟨q, hq, he⟩ := mem_getD (leads_zero h)
  refine ⟨by omega, ?_⟩
  by_cases h0 : q = 0
  · subst h0; exact he
  · have := sorted_at (leads_sorted l) (a := 0) (b := q) (by omega) hq; omega
/-- Where the k-th block begins, or where the code ends. -/
def atBC (L : List Nat) (n k : Nat) : Nat := if k < L.length then L.getD k 0 else n
theorem atBC_to (L : List Nat) (n k : Nat) : blkToZ L n k = atBC L n (k + 1) := rfl
theorem atBC_lt {L : List Nat} {n k : Nat} (h : k < L.length) : atBC L n k = L.getD k 0 := by unfold atBC; rw [if_pos h]
theorem atBC_end {L : List Nat} {n : Nat} : atBC L n L.length = n := by unfold atBC; rw [if_neg (by omega)]
end
end Go.Proofs.YteagglddgkjkmaaGreat.Words

/- Plain mathematics of chapter 14: which blocks are balanced, how many cells there are of each kind, and that a split's blocks are so. -/
namespace Go.Proofs.YteagglddgkjkmaaGreat.Words
set_option maxRecDepth 100000
open Go.RowKit
set_option linter.unusedVariables false
set_option linter.unusedSimpArgs false

/-- Does a kind of cell end a block? -/
def ctlB (k : Int) : Bool := decide (9 ≤ k) && decide (k ≤ 12)
def onlyZ (ks : List Int) : List Cel → Bool
  | [] => true
  | c :: l => if ctlB c.kind = true then l.isEmpty else ks.contains c.kind && onlyZ ks l
def someZ (k : Int) (l : List Cel) : List Cel := l.filter fun c => decide (c.kind = k)
/-- The control cell's kind; 0: there is none. -/
def lastK (l : List Cel) : Int := match l.getLast? with
  | some c => if ctlB c.kind = true then c.kind else 0
  | none => 0
def joinB (p q : Int) : Bool := if p = 9 then decide (q = 10) else if p = 10 then decide (q = 9) else decide (p = q)
def kindsA : List Int := [1, 2, 3, 4, 5]
def kindsE : List Int := [1, 6, 7, 8]
def balZ (a e : List Cel) : Bool :=
  onlyZ kindsA a && onlyZ kindsE e && decide ((someZ 5 a).map Cel.reg = (someZ 6 e).map Cel.reg) && decide ((someZ 3 a).map Cel.ins = (someZ 7 e).map Cel.ins) && decide ((someZ 4 a).length = (someZ 8 e).length) && joinB (lastK a) (lastK e)
/-- How many cells one Off has at the most. -/
def offs (l : List Cel) (o : Int) : Nat := l.countP fun c => decide (c.off = o)
def mostZ (l : List Cel) : Nat := (l.map fun c => offs l c.off).foldl max 0
def mostB (b : BlkC) : Nat := max (mostZ b.a) (mostZ b.e)
def mostS (bs : List BlkC) : Nat := (bs.map mostB).foldl max 0
theorem someZ_append (k : Int) (l m : List Cel) : someZ k (l ++ m) = someZ k l ++ someZ k m := List.filter_append ..
/-- Cells of which none ends a block, with what the two sides have in common. -/
structure Plain (a e : List Cel) : Prop where
  ka : ∀ c ∈ a, c.kind ∈ kindsA
  ke : ∀ c ∈ e, c.kind ∈ kindsE
  reg : (someZ 5 a).map Cel.reg = (someZ 6 e).map Cel.reg
  ins : (someZ 3 a).map Cel.ins = (someZ 7 e).map Cel.ins
  put : (someZ 4 a).length = (someZ 8 e).length
theorem Plain.nil : Plain [] [] := ⟨by simp, by simp, rfl, rfl, rfl⟩
theorem Plain.append {a e a' e' : List Cel} (h : Plain a e) (g : Plain a' e') : Plain (a ++ a') (e ++ e') := by
  refine ⟨?_, ?_, ?_, ?_, ?_⟩
  · intro c hc; rcases List.mem_append.1 hc with x | x; exact h.ka c x; exact g.ka c x
  · intro c hc; rcases List.mem_append.1 hc with x | x; exact h.ke c x; exact g.ke c x
  · rw [someZ_append, someZ_append, List.map_append, List.map_append, h.reg, g.reg]
  · rw [someZ_append, someZ_append, List.map_append, List.map_append, h.ins, g.ins]
  · rw [someZ_append, someZ_append, List.length_append, List.length_append, h.put, g.put]
/-- The end of a block: no control cell, or one on each side, that fit. -/
inductive Ends : List Cel → List Cel → Prop
  | no : Ends [] []
  | c (c d : Cel) (h : (c.kind = 9 ∧ d.kind = 10) ∨ (c.kind = 10 ∧ d.kind = 9) ∨ (c.kind = 11 ∧ d.kind = 11) ∨ (c.kind = 12 ∧ d.kind = 12)) : Ends [c] [d]
theorem kindsA_no {k : Int} (h : k ∈ kindsA) : ctlB k = false := by
  simp only [kindsA, List.mem_cons, List.not_mem_nil, or_false] at h
  unfold ctlB; rcases h with rfl | rfl | rfl | rfl | rfl <;> rfl
theorem kindsE_no {k : Int} (h : k ∈ kindsE) : ctlB k = false := by
  simp only [kindsE, List.mem_cons, List.not_mem_nil, or_false] at h
  unfold ctlB; rcases h with rfl | rfl | rfl | rfl <;> rfl
theorem only_plain {ks : List Int} (hk : ∀ k ∈ ks, ctlB k = false) {l : List Cel} (h : ∀ c ∈ l, c.kind ∈ ks) {t : List Cel} (ht : onlyZ ks t = true) : onlyZ ks (l ++ t) = true := by
  induction l with
  | nil => exact ht
  | cons c l ih =>
    have hc := h c (by simp)
    rw [List.cons_append, onlyZ, if_neg (by rw [hk _ hc]; decide), ih (fun d hd => h d (by simp [hd]))]
    simpa using hc
theorem last_plain {ks : List Int} (hk : ∀ k ∈ ks, ctlB k = false) {l : List Cel} (h : ∀ c ∈ l, c.kind ∈ ks) : lastK l = 0 := by
  unfold lastK
  cases hl : l.getLast? with
  | none => rfl
  | some c =>
    have := hk _ (h c (List.mem_of_getLast? hl))
    simp [this]
theorem last_one (l : List Cel) (c : Cel) (h : ctlB c.kind = true) : lastK (l ++ [c]) = c.kind := by
  unfold lastK
  rw [List.getLast?_append]
  simp [h]
theorem some_one (k : Int) (c : Cel) : someZ k [c] = if c.kind = k then [c] else [] := by
  unfold someZ; rw [List.filter_cons]; by_cases h : c.kind = k <;> simp [h]
/-- A block of plain cells and an end is balanced. -/
theorem bal_of {a e ta te : List Cel} (h : Plain a e) (g : Ends ta te) : balZ (a ++ ta) (e ++ te) = true := by
  have hA : ∀ k ∈ kindsA, ctlB k = false := fun k hk => kindsA_no hk
  have hE : ∀ k ∈ kindsE, ctlB k = false := fun k hk => kindsE_no hk
  cases g with
  | no =>
    rw [List.append_nil, List.append_nil]
    unfold balZ
    have h1 := only_plain hA h.ka (t := []) rfl
    have h2 := only_plain hE h.ke (t := []) rfl
    rw [List.append_nil] at h1 h2
    rw [h1, h2, h.reg, h.ins, h.put, last_plain hA h.ka, last_plain hE h.ke]
    simp [joinB]
  | c c d hk =>
    have kc : ctlB c.kind = true := by unfold ctlB; rcases hk with ⟨h1, _⟩ | ⟨h1, _⟩ | ⟨h1, _⟩ | ⟨h1, _⟩ <;> rw [h1] <;> rfl
    have kd : ctlB d.kind = true := by unfold ctlB; rcases hk with ⟨_, h1⟩ | ⟨_, h1⟩ | ⟨_, h1⟩ | ⟨_, h1⟩ <;> rw [h1] <;> rfl
    unfold balZ
    rw [only_plain hA h.ka (t := [c]) (by rw [onlyZ, if_pos kc]; rfl), only_plain hE h.ke (t := [d]) (by rw [onlyZ, if_pos kd]; rfl), last_one _ _ kc, last_one _ _ kd]
    simp only [someZ_append, some_one]
    have n5 : ¬ c.kind = 5 := by rcases hk with ⟨h1, _⟩ | ⟨h1, _⟩ | ⟨h1, _⟩ | ⟨h1, _⟩ <;> omega
    have n3 : ¬ c.kind = 3 := by rcases hk with ⟨h1, _⟩ | ⟨h1, _⟩ | ⟨h1, _⟩ | ⟨h1, _⟩ <;> omega
    have n4 : ¬ c.kind = 4 := by rcases hk with ⟨h1, _⟩ | ⟨h1, _⟩ | ⟨h1, _⟩ | ⟨h1, _⟩ <;> omega
    have m6 : ¬ d.kind = 6 := by rcases hk with ⟨_, h1⟩ | ⟨_, h1⟩ | ⟨_, h1⟩ | ⟨_, h1⟩ <;> omega
    have m7 : ¬ d.kind = 7 := by rcases hk with ⟨_, h1⟩ | ⟨_, h1⟩ | ⟨_, h1⟩ | ⟨_, h1⟩ <;> omega
    have m8 : ¬ d.kind = 8 := by rcases hk with ⟨_, h1⟩ | ⟨_, h1⟩ | ⟨_, h1⟩ | ⟨_, h1⟩ <;> omega
    rw [if_neg n5, if_neg n3, if_neg n4, if_neg m6, if_neg m7, if_neg m8, List.append_nil, List.append_nil, List.append_nil, List.append_nil, List.append_nil, List.append_nil, h.reg, h.ins, h.put]
    rcases hk with ⟨h1, h2⟩ | ⟨h1, h2⟩ | ⟨h1, h2⟩ | ⟨h1, h2⟩ <;> rw [h1, h2] <;> simp [joinB]
theorem some_regs (k q pc off : Int) (s : List Int) : someZ k (regsC q pc off s) = if q = k then regsC q pc off s else [] := by
  unfold someZ
  split
  · rename_i h; rw [List.filter_eq_self]; intro c hc; rw [(regsC_in hc).1, h]; simp
  · rename_i h; rw [List.filter_eq_nil_iff]; intro c hc; rw [(regsC_in hc).1]; simpa using h
theorem regs_reg (q pc off : Int) (s : List Int) : (regsC q pc off s).map Cel.reg = s := by unfold regsC; rw [List.map_map]; exact List.map_id' s
theorem plain_regs (pc off : Int) (s : List Int) : Plain (regsC 5 pc off s) (regsC 6 pc off s) := by
  refine ⟨fun c hc => by rw [(regsC_in hc).1]; decide, fun c hc => by rw [(regsC_in hc).1]; decide, ?_, ?_, ?_⟩
  · rw [some_regs, some_regs, if_pos rfl, if_pos rfl, regs_reg, regs_reg]
  · rw [some_regs, some_regs, if_neg (by decide), if_neg (by decide)]
  · rw [some_regs, some_regs, if_neg (by decide), if_neg (by decide)]
theorem plain_a {c : Cel} (h : c.kind = 1 ∨ c.kind = 2) : Plain [c] [] := by
  refine ⟨one_pc (P := fun c => c.kind ∈ kindsA) (by rcases h with h | h <;> rw [h] <;> decide), (fun d hd => absurd hd List.not_mem_nil), ?_, ?_, ?_⟩ <;> rw [some_one, if_neg (by omega)] <;> rfl
theorem plain_e {c : Cel} (h : c.kind = 1) : Plain [] [c] := by
  refine ⟨(fun d hd => absurd hd List.not_mem_nil), one_pc (P := fun c => c.kind ∈ kindsE) (by rw [h]; decide), ?_, ?_, ?_⟩ <;> rw [some_one, if_neg (by omega)] <;> rfl
/-- One instruction's cells: plain ones, and an end where it ends a block. -/
theorem emit_parts {z : List Int} {i : Ins} {pc off : Int} (h : rightB i = true) : ∃ a e ta te, emitA z i pc off = a ++ ta ∧ emitE z i pc off = e ++ te ∧ Plain a e ∧ Ends ta te ∧ (formZ i.op < 6 → ta = [] ∧ te = []) := by
  have hF := formZ_range i.op
  by_cases h4 : formZ i.op = 4
  · by_cases hd : atO z i.d = 2
    · have q := emit_4e (z := z) (pc := pc) (off := off) h h4 hd; rw [q.1, q.2]
      refine ⟨[insC 3 i pc off], [insC 7 i pc off], [], [], rfl, rfl, ⟨one_pc (P := fun c => c.kind ∈ kindsA) (by simp [insC, kindsA]), one_pc (P := fun c => c.kind ∈ kindsE) (by simp [insC, regC, kindsE]), rfl, rfl, rfl⟩, .no, fun _ => ⟨rfl, rfl⟩⟩
    · have q := emit_4a (z := z) (pc := pc) (off := off) h h4 hd; rw [q.1, q.2]
      exact ⟨_, [], [], [], (List.append_nil _).symm, rfl, plain_a (.inr rfl), .no, fun _ => ⟨rfl, rfl⟩⟩
  by_cases h5 : formZ i.op = 5
  · have q := emit_5 (z := z) (pc := pc) (off := off) h h5; rw [q.1, q.2]
    refine ⟨_, _, [], [], (List.append_nil _).symm, (List.append_nil _).symm, (plain_regs pc off _).append ⟨one_pc (P := fun c => c.kind ∈ kindsA) (by simp [insC, kindsA]), one_pc (P := fun c => c.kind ∈ kindsE) (by simp [insC, regC, kindsE]), rfl, rfl, rfl⟩, .no, fun _ => ⟨rfl, rfl⟩⟩
  by_cases h6 : formZ i.op = 6
  · cases ha : anyEB (readsZ i) z
    · have q := emit_6a (z := z) (pc := pc) (off := off) h h6 ha; rw [q.1, q.2]
      exact ⟨[], [], _, _, rfl, rfl, Plain.nil, .c _ _ (.inl ⟨rfl, rfl⟩), fun h => by omega⟩
    · have q := emit_6e (z := z) (pc := pc) (off := off) h h6 ha; rw [q.1, q.2]
      exact ⟨_, _, _, _, rfl, rfl, plain_regs pc off _, .c _ _ (.inr (.inl ⟨rfl, rfl⟩)), fun h => by omega⟩
  by_cases h7 : formZ i.op = 7
  · have q := emit_7 (z := z) (pc := pc) (off := off) h h7; rw [q.1, q.2]
    exact ⟨[], [], _, _, rfl, rfl, Plain.nil, .c _ _ (.inr (.inr (.inl ⟨rfl, rfl⟩))), fun h => by omega⟩
  by_cases h8 : formZ i.op = 8
  · have q := emit_8 (z := z) (pc := pc) (off := off) h h8; rw [q.1, q.2]
    exact ⟨[], [], _, _, rfl, rfl, Plain.nil, .c _ _ (.inr (.inr (.inr ⟨rfl, rfl⟩))), fun h => by omega⟩
  by_cases hs : sideZ i z = 1
  · have q := emit_1a (z := z) (pc := pc) (off := off) h (by omega) hs; rw [q.1, q.2]
    exact ⟨_, [], [], [], (List.append_nil _).symm, rfl, plain_a (.inl rfl), .no, fun _ => ⟨rfl, rfl⟩⟩
  · have q := emit_1e (z := z) (pc := pc) (off := off) h (by omega) hs; rw [q.1, q.2]
    have := (plain_regs pc off (sentL z (readsZ i))).append (plain_e (c := insC 1 i pc off) rfl)
    rw [List.append_nil] at this
    exact ⟨_, _, [], [], (List.append_nil _).symm, (List.append_nil _).symm, this, .no, fun _ => ⟨rfl, rfl⟩⟩
theorem fill_plain (z : List Int) (l : List Ins) (f : Nat) : ∀ k, (∀ j, j < k → rightB (insAtZ l (f + j)) = true ∧ formZ (insAtZ l (f + j)).op < 6) → Plain (fillA z l f k) (fillE z l f k)
  | 0, _ => Plain.nil
  | k + 1, h => by
    obtain ⟨a, e, ta, te, h1, h2, h3, _, h5⟩ := emit_parts (z := z) (pc := ((f + k : Nat) : Int)) (off := (k : Int)) (h k (Nat.lt_succ_self k)).1
    obtain ⟨rfl, rfl⟩ := h5 (h k (Nat.lt_succ_self k)).2
    rw [fillA, fillE, h1, h2, List.append_nil, List.append_nil]
    exact (fill_plain z l f k (fun j hj => h j (by omega))).append h3
/-- A block of a split: plain cells and an end. -/
theorem fill_parts (z : List Int) (l : List Ins) (f k : Nat) (hr : ∀ j, j < k + 1 → rightB (insAtZ l (f + j)) = true) (hf : ∀ j, j < k → formZ (insAtZ l (f + j)).op < 6) :
    ∃ a e ta te, fillA z l f (k + 1) = a ++ ta ∧ fillE z l f (k + 1) = e ++ te ∧ Plain a e ∧ Ends ta te := by
  obtain ⟨a, e, ta, te, h1, h2, h3, h4, _⟩ := emit_parts (z := z) (pc := ((f + k : Nat) : Int)) (off := (k : Int)) (hr k (Nat.lt_succ_self k))
  refine ⟨fillA z l f k ++ a, fillE z l f k ++ e, ta, te, ?_, ?_, (fill_plain z l f k (fun j hj => ⟨hr j (by omega), hf j hj⟩)).append h3, h4⟩
  · rw [fillA, h1, List.append_assoc]
  · rw [fillE, h2, List.append_assoc]
theorem blk_parts (z : List Int) {l : List Ins} (hi : ∀ i ∈ l, rightB i = true) {k : Nat} (hk : k < (leadsZ l).length) :
    ∃ a e ta te, (fillB z l (blkZ l (leadsZ l) k)).a = a ++ ta ∧ (fillB z l (blkZ l (leadsZ l) k)).e = e ++ te ∧ Plain a e ∧ Ends ta te := by
  have hr := blkTo_range (n := l.length) (leads_sorted l) (fun x hx => (mem_leads.1 hx).1) hk
  obtain ⟨q, hq⟩ : ∃ q, blkToZ (leadsZ l) l.length k - (leadsZ l).getD k 0 = q + 1 := ⟨_, (Nat.succ_pred_eq_of_pos (by omega)).symm⟩
  have e := fillB_part z l (b := blkZ l (leadsZ l) k) (f := (leadsZ l).getD k 0) (t := blkToZ (leadsZ l) l.length k) rfl rfl
  rw [e, hq]
  unfold partB
  have e2 : (blkZ l (leadsZ l) k).from_.toNat = (leadsZ l).getD k 0 := rfl
  rw [e2]
  have at_ : ∀ j, j < l.length → l[j]? = some (insAtZ l j) := fun j hj => by unfold insAtZ; rw [List.getD_eq_getElem?_getD, List.getElem?_eq_getElem hj]; rfl
  exact fill_parts z l ((leadsZ l).getD k 0) q (fun j hj => hi _ (List.mem_of_getElem? (at_ _ (by omega)))) (fun j hj => end_form (end_inside hk (by omega) (by omega) (at_ _ (by omega))))
/-- P1402: each block of a split is balanced. -/
theorem blk_bal (z : List Int) {l : List Ins} (hi : ∀ i ∈ l, rightB i = true) {k : Nat} (hk : k < (leadsZ l).length) : balZ (fillB z l (blkZ l (leadsZ l) k)).a (fillB z l (blkZ l (leadsZ l) k)).e = true := by
  obtain ⟨a, e, ta, te, h1, h2, h3, h4⟩ := blk_parts z hi hk
  rw [h1, h2]; exact bal_of h3 h4
/-- The cells of one Off are those of one instruction. -/
theorem offs_append (l m : List Cel) (o : Int) : offs (l ++ m) o = offs l o + offs m o := List.countP_append ..
theorem offs_all {l : List Cel} {o : Int} (h : ∀ c ∈ l, c.off = o) : offs l o = l.length := List.countP_eq_length.2 fun c hc => by simp [h c hc]
theorem offs_none {l : List Cel} {o : Int} (h : ∀ c ∈ l, c.off ≠ o) : offs l o = 0 := List.countP_eq_zero.2 fun c hc => by simp [h c hc]
theorem fillA_offs (z : List Int) (l : List Ins) (f k : Nat) (o : Int) : offs (fillA z l f k) o ≤ 3 ∧ ((k : Int) ≤ o → offs (fillA z l f k) o = 0) := by
  induction k with
  | zero => exact ⟨by simp [fillA, offs], fun _ => rfl⟩
  | succ k ih =>
    rw [fillA, offs_append]
    by_cases e : o = (k : Int)
    · subst e
      have := emitA_le3 z (insAtZ l (f + k)) ((f + k : Nat) : Int) (k : Int)
      rw [ih.2 (Int.le_refl _), offs_all (fun c hc => (emitA_pc _ _ _ _ c hc).2)]
      exact ⟨by omega, fun h => by omega⟩
    · rw [offs_none (l := emitA z (insAtZ l (f + k)) ((f + k : Nat) : Int) (k : Int)) (fun c hc h => e (by rw [← h, (emitA_pc _ _ _ _ c hc).2]))]
      exact ⟨ih.1, fun h => by rw [ih.2 (by omega)]⟩
theorem fillE_offs (z : List Int) (l : List Ins) (f k : Nat) (o : Int) : offs (fillE z l f k) o ≤ 3 ∧ ((k : Int) ≤ o → offs (fillE z l f k) o = 0) := by
  induction k with
  | zero => exact ⟨by simp [fillE, offs], fun _ => rfl⟩
  | succ k ih =>
    rw [fillE, offs_append]
    by_cases e : o = (k : Int)
    · subst e
      have := emitE_le3 z (insAtZ l (f + k)) ((f + k : Nat) : Int) (k : Int)
      rw [ih.2 (Int.le_refl _), offs_all (fun c hc => (emitE_pc _ _ _ _ c hc).2)]
      exact ⟨by omega, fun h => by omega⟩
    · rw [offs_none (l := emitE z (insAtZ l (f + k)) ((f + k : Nat) : Int) (k : Int)) (fun c hc h => e (by rw [← h, (emitE_pc _ _ _ _ c hc).2]))]
      exact ⟨ih.1, fun h => by rw [ih.2 (by omega)]⟩
theorem foldl_max_le {l : List Nat} {m b : Nat} (hb : b ≤ m) (h : ∀ x ∈ l, x ≤ m) : l.foldl max b ≤ m := by
  induction l generalizing b with
  | nil => exact hb
  | cons x l ih => exact ih (Nat.max_le.2 ⟨hb, h x (by simp)⟩) (fun y hy => h y (by simp [hy]))
theorem most_le {l : List Cel} {m : Nat} (h : ∀ o, offs l o ≤ m) : mostZ l ≤ m := foldl_max_le (Nat.zero_le _) fun x hx => by
  obtain ⟨c, _, rfl⟩ := List.mem_map.1 hx
  exact h _
theorem fill_most (z : List Int) (l : List Ins) (bs : List Blk) : mostS (bs.map (fillB z l)) ≤ 3 := foldl_max_le (Nat.zero_le _) fun x hx => by
  obtain ⟨b, hb, rfl⟩ := List.mem_map.1 hx
  obtain ⟨c, _, rfl⟩ := List.mem_map.1 hb
  exact Nat.max_le.2 ⟨most_le fun o => (fillA_offs z l _ _ o).1, most_le fun o => (fillE_offs z l _ _ o).1⟩
/-- How many cells there are of each kind from 1 to 12. -/
def kindN (l : List Cel) (k : Nat) : Nat := l.countP fun c => decide (c.kind = ((k + 1 : Nat) : Int))
def countsZ (l : List Cel) : List Int := (List.range 12).map fun k => (kindN l k : Int)
theorem countsZ_len (l : List Cel) : (countsZ l).length = 12 := by simp [countsZ]
theorem countsZ_at (l : List Cel) {k : Nat} (h : k < 12) : (countsZ l)[k]? = some (kindN l k : Int) := by unfold countsZ; rw [List.getElem?_map, List.getElem?_range h]; rfl
theorem kindN_some (l : List Cel) (k : Nat) : kindN l k = (someZ ((k + 1 : Nat) : Int) l).length := List.countP_eq_length_filter ..
theorem kindN_cons (c : Cel) (l : List Cel) (k : Nat) : kindN (c :: l) k = (if c.kind = ((k + 1 : Nat) : Int) then 1 else 0) + kindN l k := by
  unfold kindN
  have e : (if decide (c.kind = ((k + 1 : Nat) : Int)) = true then 1 else 0) = (if c.kind = ((k + 1 : Nat) : Int) then 1 else 0) := by
    by_cases h : c.kind = ((k + 1 : Nat) : Int)
    · rw [if_pos h, if_pos (decide_eq_true h)]
    · rw [if_neg h, if_neg (by rw [decide_eq_false h]; decide)]
  rw [List.countP_cons, e, Nat.add_comm]
def sumN (l : List Cel) : Nat := kindN l 0 + kindN l 1 + kindN l 2 + kindN l 3 + kindN l 4 + kindN l 5 + kindN l 6 + kindN l 7 + kindN l 8 + kindN l 9 + kindN l 10 + kindN l 11
theorem sum_all {l : List Cel} (h : ∀ c ∈ l, 1 ≤ c.kind ∧ c.kind ≤ 12) : sumN l = l.length := by
  induction l with
  | nil => rfl
  | cons c l ih =>
    have h1 := h c (by simp)
    have h2 := ih (fun d hd => h d (by simp [hd]))
    unfold sumN at h2 ⊢
    simp only [kindN_cons, List.length_cons]
    have hc : c.kind = 1 ∨ c.kind = 2 ∨ c.kind = 3 ∨ c.kind = 4 ∨ c.kind = 5 ∨ c.kind = 6 ∨ c.kind = 7 ∨ c.kind = 8 ∨ c.kind = 9 ∨ c.kind = 10 ∨ c.kind = 11 ∨ c.kind = 12 := by omega
    rcases hc with e | e | e | e | e | e | e | e | e | e | e | e <;> rw [e] <;> simp <;> omega
end Go.Proofs.YteagglddgkjkmaaGreat.Words

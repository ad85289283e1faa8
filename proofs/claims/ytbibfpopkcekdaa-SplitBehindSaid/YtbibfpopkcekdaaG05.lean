/- Several texts in one: OnrMove, OnrClosed, WithMath, KeepS, LinT, OwnNew, RegEx. -/
import Derived.Test.YtbibfpopkcekdaaG02
import Derived.Test.YtbibfpopkcekdaaG04
import Derived.Test.YtbibfpopkcekdaaG03
import Derived.Test.YtbibfpopkcekdaaG01
import Derived.Deep.Upon

/- Contracts of package owner's move (a round over the code) and of Of. -/
namespace Go.Proofs.Ytbibfpopkcekdaa.Words
set_option maxRecDepth 100000
open Go.RowKit
set_option linter.unusedVariables false
set_option linter.unusedSimpArgs false

/-- What a part of a round has moved. -/
structure MovedS (s o : List Int) (m : Bool) : Prop where
  ok : OkO o
  le : cntE o ≤ cntE s
  yes : m = true → cntE o < cntE s
  no : m = false → o = s
theorem MovedS.start {s : List Int} (h : OkO s) : MovedS s s false := ⟨h, Nat.le_refl _, (fun h => by cases h), fun _ => rfl⟩
theorem MovedS.put {s o : List Int} {m : Bool} (h : MovedS s o m) {r : Int} (hr : 0 ≤ r ∧ r ≤ 15) (h2 : atO o r = 2) : MovedS s (o.set r.toNat 1) true := by
  have e : putA o r = o.set r.toNat 1 := by unfold putA; rw [if_pos h2]
  have := cnt_put h.ok.1 hr h2
  have hl := h.le
  exact ⟨e ▸ putA_ok h.ok hr, by omega, fun _ => by omega, fun c => by cases c⟩
theorem put_yes {o : List Int} {r : Int} (h2 : atO o r = 2) : putA o r = o.set r.toNat 1 := by unfold putA; rw [if_pos h2]
theorem fold_at {α β : Type} {f : β → α → β} {l : List α} {j : Nat} {x : α} (h : l[j]? = some x) (o : β) : (l.drop j).foldl f o = (l.drop (j + 1)).foldl f (f o x) := by
  obtain ⟨hlt, he⟩ := List.getElem?_eq_some_iff.1 h
  rw [List.drop_eq_getElem_cons hlt, he]; rfl

theorem needs_len (i : Ins) (o : List Int) : (needZ i o).length ≤ 2 := by
  have := reads_len i
  unfold needZ
  split
  · simp
  · split
    · exact this
    · simp
theorem row_other {w : World} {bb off n c s : Nat} {xs : List Value} (h : Row w w.heap.size s (.slice (some ⟨bb, off, none⟩) n c) n xs) {b : Nat} (hne : bb ≠ b) (k : Nat) (v : Value) : Row (w.setCell ⟨b, k, none⟩ v) (w.setCell ⟨b, k, none⟩ v).heap.size s (.slice (some ⟨bb, off, none⟩) n c) n xs := by
  obtain ⟨h0, A, c', h1, h2, h3, h4, h5⟩ := h
  refine ⟨h0, A, c', h1, h2, h3, h4, fun hn => ?_⟩
  obtain ⟨b', off', e, hb, hc⟩ := h5 hn
  subst e
  injection h1 with e1 _ _
  injection e1 with e1
  injection e1 with e1 _
  subst e1
  refine ⟨_, _, rfl, by simpa [World.setCell] using hb, fun j u hu => ?_⟩
  rw [World.cell?_of_block (a := ⟨bb, off' + j, none⟩) (w := w) (by unfold World.setCell; simp only [Array.getElem?_modify, if_neg (show ¬ b = bb from fun e => hne e.symm)])]
  exact hc j u hu
/-- What stands while the code is gone through: the registers' block b lies behind all that was there. -/
structure MvS (w0 wr : World) (B b : Nat) (s o : List Int) (m : Bool) : Prop where
  below : Below B w0 wr
  box : Box wr b (oV o)
  mv : MovedS s o m
  hB : B ≤ b
theorem MvS.to {w0 wr x : World} {B b : Nat} {s o : List Int} {m : Bool} (h : MvS w0 wr B b s o m) (hb : Below wr.heap.size wr x) : MvS w0 x B b s o m :=
  ⟨h.below.trans (hb.mono (by have := h.box.lt; have := h.hB; omega)), h.box.below hb h.box.lt, h.mv, h.hB⟩
theorem MvS.put {w0 wr : World} {B b : Nat} {s o : List Int} {m : Bool} (h : MvS w0 wr B b s o m) {r : Int} (hr : 0 ≤ r ∧ r ≤ 15) (h2 : atO o r = 2) : MvS w0 (wr.setCell ⟨b, r.toNat, none⟩ (.int .i64 1)) B b s (o.set r.toNat 1) true :=
  ⟨h.below.setCell (p := ⟨b, r.toNat, none⟩) h.hB _, by have := h.box.setCell r.toNat (.int .i64 1); rwa [oV_set] at this, h.mv.put hr h2, h.hB⟩

set_option maxHeartbeats 8000000 in
theorem move_any (A : Option Addr) (c : Nat) (l : List Ins) (b : Nat) (o : List Int) (w : World) (hr : Row w b 5 (.slice A l.length c) l.length (codeCells l)) (hsmall : l.length ≤ 8192) (hc : ∀ i ∈ l, rightB i = true) (ho : OkO o) (hb : Box w b (oV o)) :
    Calls Try.prog 38 #[.slice A l.length c, .pointer (some ⟨b, 0, none⟩)] w fun e w' => ∃ m, e = .returned (.bool m) ∧ MvS w w' b b o (roundO l o) m := by
  have H0 : Hid (MvS w w b b o o false) := ⟨Below.refl _ _, hb, MovedS.start ho, Nat.le_refl _⟩
  have HC := Lib.hid hc
  have HR := Lib.hid hr
  have HF0 := Lib.hid (show roundO l o = (l.drop 0).foldl stepO o by rw [List.drop_zero]; rfl)
  have HFA := Lib.hid (fun (j : Nat) (i : Ins) (p : List Int) (h : l[j]? = some i) => fold_at (f := stepO) h p)
  have HFE := Lib.hid (fun (j : Nat) (p : List Int) (h : l.length ≤ j) => (show (l.drop j).foldl stepO p = p by rw [List.drop_eq_nil_of_le h]; rfl))
  have hcap := hr.cap
  clear hc hr ho hb
  go_enter Try.func38, Try.ntmps38
  go_wp2_with fail
  generalize hn : l.length = n at hsmall hcap ⊢
  have Hn := Lib.hid hn
  clear hn
  go_loopw [5, 12] (fun mm ii wr => ∃ (j : Nat) (p : List Int) (m : Bool), j ≤ n ∧ mm = .bool m ∧ ii = .int .i64 j ∧ MvS w wr b b o p m ∧ roundO l o = (l.drop j).foldl stepO p) (fun _ ii _ => n - (intOf ii).toNat)
  case atStart => exact ⟨0, o, false, Nat.zero_le _, rfl, rfl, H0.out, HF0.out⟩
  case round =>
    obtain ⟨j, p, m, hj, rfl, rfl, hS, hF⟩ := hrel
    have HS := Lib.hid hS
    have HF := Lib.hid hF
    clear hS hF
    by_cases hlt : j < n
    · have hl : j < l.length := by rw [Hn.out]; exact hlt
      obtain ⟨i, hi⟩ : ∃ i, l[j]? = some i := ⟨_, List.getElem?_eq_getElem hl⟩
      have hri := HC.out i (List.mem_of_getElem? hi)
      have HRI := Lib.hid hri
      have hrow : Row wr b 5 (.slice A l.length c) l.length (codeCells l) := HR.out.below HS.out.below
      obtain ⟨g, off, rfl, hg, _⟩ := hrow.at_ (by omega)
      obtain ⟨d0, d1, d2, d3, d4⟩ := hrow.ins hi
      have HSTEP := Lib.hid (HF.out.trans (HFA.out j i p hi))
      have k0 : (0 : Int) ≤ j := by omega
      have k1 : (j : Int) < n := by omega
      have HNR := Lib.hid (fun r (h : r ∈ needZ i p) => need_range hri h)
      have HNL : Hid ((needZ i p).length ≤ 2) := needs_len i p
      have HSA := Lib.hid (HS.out.to ((Below.refl wr.heap.size wr).alloc (Nat.le_refl _) (.cells #[.int .i64 i.op, .int .i64 i.d, .int .i64 i.a, .int .i64 i.b, .int .i64 i.imm] 51)))
      have HXI := Lib.hid (Box.new wr (insV i) 51)
      have hwz : wr.heap.size < (wr.alloc (.cells (insV i).toArray 51)).heap.size := by simp
      have hpl : p.length = 16 := HS.out.mv.ok.1
      have HPL := Lib.hid hpl
      clear hi hl hri hpl
      go_wp2_with fail
      change Hid (MvS w (wr.alloc (.cells (insV i).toArray 51)) b b o p m) at HSA
      refine wp_region_lin [(0, true), (1, true), (2, true), (3, true), (6, true), (4, false), (5, true)]
        (by kernel_rfl) (by kernel_rfl) rfl (by kernel_rfl) (Kept (wr.alloc (.cells (insV i).toArray 51))) ?_
      change wpLin _ _ _ _ _ _ (wr.alloc (.cells (insV i).toArray 51)).drew
      generalize wr.alloc (.cells (insV i).toArray 51) = W1 at *
      have k9 : Kept W1 W1.drew := (Kept.refl W1).drew
      simp only [List.map_cons, List.map_nil, List.getElem?_toArray, List.getElem?_cons_succ, List.getElem?_cons_zero]
      refine lin_take_box k9 rfl 51 (.tmp 7) rfl wr.heap.size 0 rfl (insV i) (insV i) (fun y hy => HXI.out.kept hy) whole_at _ Try.underlying51 rfl 5 (by kernel_rfl) rfl ?_
      simp only [Act.put, List.setIfInBounds_toArray, List.set_cons_zero, List.set_cons_succ]
      iterate 2 (refine lin_take (v := ?_) (by assumption) (by rfl) ?_ ?_; rotate_left; (intro x hx; (try dsimp only at hx); go_simp; try (with_reducible rfl)); (try simp only [Act.put, List.setIfInBounds_toArray, List.set_cons_zero, List.set_cons_succ]))
      refine lin_take_box k9 rfl 26 (.tmp 18) rfl b 0 rfl (oV p) (oV p) (fun y hy => HSA.out.box.kept hy) whole_at _ Try.underlying26 rfl 16 (by kernel_rfl) ((oV_len p).trans HPL.out) ?_
      simp only [Act.put, List.setIfInBounds_toArray, List.set_cons_zero, List.set_cons_succ]
      (refine lin_take (v := ?_) (by assumption) (by rfl) ?_ ?_; rotate_left; (intro x hx; (try dsimp only at hx); go_simp; try (with_reducible rfl)); (try simp only [Act.put, List.setIfInBounds_toArray, List.set_cons_zero, List.set_cons_succ]))
      refine lin_call k9 (by rfl) (fun K hK => ?_)
      go_simp
      refine (needs_any i p _ HPL.out HRI.out).mono ?_; rintro e w2 ⟨v, rfl, hrow2, hnew, hb2⟩
      go_wp2_with fail
      have k10 := k9.to hb2
      refine hK.out _ _ k10 (fun _ => ?_)
      obtain ⟨A2, c2, rfl⟩ := hrow2.form
      try simp only [Act.put, List.setIfInBounds_toArray, List.set_cons_zero, List.set_cons_succ]
      (refine lin_take (v := ?_) (by assumption) (by rfl) ?_ ?_; rotate_left; (intro x hx; (try dsimp only at hx); go_simp; try (with_reducible rfl)); (try simp only [Act.put, List.setIfInBounds_toArray, List.set_cons_zero, List.set_cons_succ]))
      refine lin_done ?_
      have HS2 := Lib.hid (HSA.out.to k10)
      have HB2 : Hid (b < w2.heap.size) := HS2.out.box.lt
      have HN2 : Hid (NewV (b + 1) (.slice A2 (needZ i p).length c2)) := fun a n c h => by
        have h1 := hnew a n c h
        have h2 := HSA.out.box.lt
        have h3 : (W1.drew).heap.size = W1.heap.size := rfl
        omega
      have HR2 := Lib.hid hrow2
      clear hK K hb2 k10 k9 hrow2 hnew HSA HXI hwz
      have HP0 := Lib.hid (show stepO p i = ((needZ i p).drop 0).foldl putA p by rw [List.drop_zero]; rfl)
      have HZE := Lib.hid (fun (k : Nat) (q : List Int) (h : (needZ i p).length ≤ k) => (show ((needZ i p).drop k).foldl putA q = q by rw [List.drop_eq_nil_of_le h]; rfl))
      have HZA := Lib.hid (fun (k : Nat) (r : Int) (q : List Int) (h : (needZ i p)[k]? = some r) => fold_at (f := putA) h q)
      generalize hzs : needZ i p = zs at HNR HNL HR2 HN2 HP0 HZE HZA ⊢
      clear hzs
      generalize hnz : zs.length = N at HR2 HN2 ⊢
      have HNZ := Lib.hid hnz
      clear hnz
      go_wp2_with fail
      go_loopw [5, 22] (fun mm ii wx => ∃ (k : Nat) (q : List Int) (m2 : Bool), k ≤ N ∧ mm = .bool m2 ∧ ii = .int .i64 k ∧ MvS w wx b b o q m2 ∧ Row wx wx.heap.size 1 (.slice A2 N c2) N (zs.map (Value.int .i64)) ∧ stepO p i = (zs.drop k).foldl putA q) (fun _ ii _ => N - (intOf ii).toNat)
      case atStart => exact ⟨0, p, m, Nat.zero_le _, rfl, rfl, HS2.out, HR2.out, HP0.out⟩
      case round =>
        obtain ⟨k, q, m2, hk, rfl, rfl, hS3, hrow3, hF3⟩ := hrel
        have HS3 := Lib.hid hS3
        have HR3 := Lib.hid hrow3
        have HF3 := Lib.hid hF3
        clear hS3 hF3
        have hN2 : N ≤ 2 := by have := HNL.out; have := HNZ.out; omega
        by_cases hlk : k < N
        · have hl : k < zs.length := by rw [HNZ.out]; exact hlk
          obtain ⟨bb, off2, rfl, hbb, hcells⟩ := hrow3.at_ (by omega)
          have f0 := hcells k _ (ints_get hl)
          obtain ⟨r, hre⟩ : ∃ r, r = zs.getD k 0 := ⟨_, rfl⟩
          have hzr : zs[k]? = some r := by rw [hre, List.getD_eq_getElem?_getD, List.getElem?_eq_getElem hl]; rfl
          rw [← hre] at f0
          have hr15 := HNR.out r (by rw [hre]; exact getD_mem hl)
          have HST := Lib.hid (HF3.out.trans (HZA.out k r q hzr))
          obtain ⟨x, rfl, hx15⟩ := nat_of hr15
          have f1 := HS3.out.box.cell (oV_at HS3.out.mv.ok.1 hx15)
          have f2 := HS3.out.box.frozen x
          have hne : bb ≠ b := by have := HN2.out _ _ _ rfl; simp only at this; omega
          have g0 : (0 : Int) ≤ k := by omega
          have g1 : (k : Int) < N := by omega
          have g2 : (x : Int) ≤ 15 := by omega
          have g3 : (0 : Int) ≤ x := by omega
          have hbz := HS3.out.box.lt
          cases hq : (atO q x == 2)
          · have HPN := Lib.hid (putA_no (o := q) (r := (x : Int)) (by simpa using hq))
            clear hcells hre hzr hl
            go_wp2_with fail
            go_roundw
            case rel => exact ⟨k + 1, q, m2, by omega, rfl, by go_num, HS3.out, HR3.out, by rw [HST.out, HPN.out]⟩
            case measure => simp only [intOf]; omega
          · have hq2 : atO q x = 2 := by simpa using hq
            have HPY := Lib.hid (put_yes hq2)
            have HSP := Lib.hid (HS3.out.put (r := (x : Int)) ⟨g3, g2⟩ hq2)
            have HRP := Lib.hid (row_other HR3.out hne (x : Int).toNat (.int .i64 1))
            have e5 : (x : Int).toNat = x := by omega
            rw [e5] at HSP HRP HPY
            clear hcells hre hzr hl e5
            go_wp2_with fail
            go_roundw
            case rel => exact ⟨k + 1, q.set x 1, true, by omega, rfl, by go_num, HSP.out, HRP.out, by rw [HST.out, HPY.out]⟩
            case measure => simp only [intOf]; omega
        · have HFE := Lib.hid (HF3.out.trans (HZE.out k q (by rw [HNZ.out]; omega)))
          go_wp2_with fail
          go_roundw
          case rel => exact ⟨j + 1, q, m2, by omega, rfl, by go_num, HS3.out, by rw [HSTEP.out, HFE.out]⟩
          case measure => simp only [intOf]; omega
    · go_wp2_with fail
      go_ret
      exact ⟨m, rfl, by rw [HF.out, HFE.out j p (by rw [Hn.out]; omega)]; exact HS.out⟩
end Go.Proofs.Ytbibfpopkcekdaa.Words

/- Contract of package owner's Closed. -/
namespace Go.Proofs.Ytbibfpopkcekdaa.Words
set_option maxRecDepth 100000
open Go.RowKit
set_option linter.unusedVariables false
set_option linter.unusedSimpArgs false

/-- What Closed answers. -/
def closedZ (l : List Ins) (sz : Int) (m : Nat) (o : List Int) : Bool := ownersB o && rightZ l sz m && l.all (freeB o)
theorem rightZ_ins {l : List Ins} {sz : Int} {m : Nat} (h : rightZ l sz m = true) : l.length ≤ 2000 ∧ ∀ i ∈ l, rightB i = true := by
  rw [rightZ_fit, Bool.and_eq_true, Bool.and_eq_true] at h
  obtain ⟨⟨h1, h2⟩, _⟩ := h
  have := of_decide_eq_true h1
  exact ⟨by omega, List.all_eq_true.1 h2⟩
theorem all_at {α : Type} {f : α → Bool} {l : List α} {j : Nat} {x : α} (h : l[j]? = some x) : (l.drop j).all f = (f x && (l.drop (j + 1)).all f) := by
  obtain ⟨hlt, he⟩ := List.getElem?_eq_some_iff.1 h
  rw [List.drop_eq_getElem_cons hlt, he]; rfl

set_option maxHeartbeats 8000000 in
theorem closed_any (A : Option Addr) (c : Nat) (sz : Int) (A' : Option Addr) (m c' : Nat) (l : List Ins) (o : List Int) (w : World) (hr : Row w w.heap.size 5 (.slice A l.length c) l.length (codeCells l)) (hm : m ≤ c') (hc' : c' ≤ 9223372036854775807) (ho : o.length = 16) :
    Calls Try.prog 23 #[.agg #[.slice A l.length c, .int .i64 sz, .slice A' m c'], .agg (oV o).toArray] w fun e w' => e = .returned (.bool (closedZ l sz m o)) ∧ Below w.heap.size w w' := by
  obtain ⟨W1, hW1⟩ : ∃ W1, W1 = w.alloc (.cells #[.slice A l.length c, .int .i64 sz, .slice A' m c'] 25) := ⟨_, rfl⟩
  obtain ⟨W2, hW2⟩ : ∃ W2, W2 = W1.alloc (.cells (oV o).toArray 26) := ⟨_, rfl⟩
  have hz1 : W1.heap.size = w.heap.size + 1 := by rw [hW1]; simp
  have hz2 : W2.heap.size = w.heap.size + 2 := by rw [hW2]; simp [hz1]
  have hK : Below w.heap.size w W2 := by rw [hW2, hW1]; exact ((Below.refl w.heap.size w).alloc (Nat.le_refl _) _).alloc (by simp) _
  have HB0 : Box W2 (w.heap.size + 1) (oV o) := by rw [hW2, ← hz1]; exact Box.new W1 (oV o) _
  have HI : Box W2 w.heap.size [.slice A l.length c, .int .i64 sz, .slice A' m c'] := by
    rw [hW2]; refine Box.alloc ?_ _; rw [hW1]; exact Box.new w [.slice A l.length c, .int .i64 sz, .slice A' m c'] _
  have HRR := Lib.hid (show Row W2 W2.heap.size 5 (.slice A l.length c) l.length (codeCells l) from (hr.below hK).more (by omega))
  have HB := Lib.hid HB0
  have HIB := Lib.hid HI
  have HKK := Lib.hid hK
  have HO := Lib.hid ho
  have HCL := Lib.hid (show closedZ l sz m o = (ownersB o && rightZ l sz m && l.all (freeB o)) from rfl)
  obtain ⟨hcl, hcm⟩ := hr.cap
  clear HI HB0 hK hr ho
  go_enter Try.func23, Try.ntmps23
  go_wp2_with (first
    | (refine wpList_load_box rfl 26 (.tmp 3) rfl (w.heap.size + 1) 0 rfl (oV o) (oV o) (hW1 ▸ hW2 ▸ HB.out) whole_at _ Try.underlying26 rfl 16 (by kernel_rfl) ((oV_len o).trans HO.out) ?_))
  rw [← hW1, ← hW2]
  clear hW1 hW2
  have k0 := Kept.refl W2
  refine (owners_any o _ HO.out).mono ?_; rintro e w1 ⟨rfl, hb1⟩
  have k1 := k0.to hb1
  clear hb1
  cases hob : ownersB o
  · have HL := Lib.hid (show closedZ l sz m o = false by rw [HCL.out, hob]; rfl)
    have HK1 := Lib.hid (HKK.out.trans (Below.mono k1 (by omega)))
    go_wp2_with fail
    go_ret
    exact ⟨ret_bool HL.out.symm, HK1.out⟩
  have HI1 := Lib.hid (HIB.out.kept k1)
  have c0 := HI1.out.cell (k := 0) rfl
  have c1 := HI1.out.cell (k := 1) rfl
  have c2 := HI1.out.cell (k := 2) rfl
  go_wp2_with fail
  refine (imgRight_any A c sz A' m c' l _ (k1.row HRR.out) hm hc').mono ?_; rintro e w2 ⟨rfl, hb2⟩
  have k2 := k1.to hb2
  clear hb2 c0 c1 c2
  have HK2 := Lib.hid (HKK.out.trans (Below.mono k2 (by omega)))
  cases hri : rightZ l sz m
  · have HL := Lib.hid (show closedZ l sz m o = false by rw [HCL.out, hri, Bool.and_false]; rfl)
    go_wp2_with fail
    go_ret
    exact ⟨ret_bool HL.out.symm, HK2.out⟩
  have HI2 := Lib.hid (HIB.out.kept k2)
  have c0 := HI2.out.cell (k := 0) rfl
  have HCA := Lib.hid (show closedZ l sz m o = (l.drop 0).all (freeB o) by rw [HCL.out, hob, hri, List.drop_zero]; rfl)
  obtain ⟨hl2, hall⟩ := rightZ_ins hri
  have HC := Lib.hid hall
  have HAT := Lib.hid (fun (j : Nat) (i : Ins) (h : l[j]? = some i) => all_at (f := freeB o) h)
  have HAE := Lib.hid (fun (j : Nat) (h : l.length ≤ j) => (show (l.drop j).all (freeB o) = true by rw [List.drop_eq_nil_of_le h]; rfl))
  have KK2 := Lib.hid k2
  clear hall hri hob k2 k1 k0 HI1 HCL HKK
  go_wp2_with fail
  generalize hn : l.length = n at hl2 hcl ⊢
  have Hn := Lib.hid hn
  clear hn
  go_loopw [18] (fun ii wr => ∃ j : Nat, j ≤ n ∧ ii = .int .i64 j ∧ Kept w2 wr ∧ closedZ l sz m o = (l.drop j).all (freeB o)) (fun ii _ => n - (intOf ii).toNat)
  case atStart => exact ⟨0, Nat.zero_le _, rfl, Kept.refl _, HCA.out⟩
  case round =>
    obtain ⟨j, hj, rfl, hkw, hF⟩ := hrel
    have HKW := Lib.hid hkw
    have HF := Lib.hid hF
    clear hkw hF
    by_cases hlt : j < n
    · have hl : j < l.length := by rw [Hn.out]; exact hlt
      obtain ⟨i, hi⟩ : ∃ i, l[j]? = some i := ⟨_, List.getElem?_eq_getElem hl⟩
      have HRI := Lib.hid (HC.out i (List.mem_of_getElem? hi))
      have hrow := (KK2.out.trans HKW.out).row HRR.out
      obtain ⟨g, off, rfl, hg, _⟩ := hrow.at_ (by omega)
      obtain ⟨d0, d1, d2, d3, d4⟩ := hrow.ins hi
      have HST := Lib.hid (HF.out.trans (HAT.out j i hi))
      have HFB := Lib.hid (show freeB o i = !anyEB (needZ i o) o from rfl)
      have HNR := Lib.hid (fun r (h : r ∈ needZ i o) => need_range HRI.out h)
      have HNL := Lib.hid (needs_len i o)
      have k0 : (0 : Int) ≤ j := by omega
      have k1 : (j : Int) < n := by omega
      have HXI := Lib.hid (Box.new wr (insV i) 51)
      have HBW := Lib.hid ((HB.out.kept (KK2.out.trans HKW.out)).alloc (.cells (insV i).toArray 51))
      have HKA : Hid (Kept w2 (wr.alloc (.cells (insV i).toArray 51))) := HKW.out.alloc _
      clear hi hl hrow
      go_wp2_with fail
      refine wp_region_lin [(0, true), (1, true), (3, true), (2, false), (4, false)]
        (by kernel_rfl) (by kernel_rfl) rfl (by kernel_rfl) (Kept (wr.alloc (.cells (insV i).toArray 51))) ?_
      change wpLin _ _ _ _ _ _ (wr.alloc (.cells (insV i).toArray 51)).drew
      generalize wr.alloc (.cells (insV i).toArray 51) = Y at *
      have k9 : Kept Y Y.drew := (Kept.refl Y).drew
      simp only [List.map_cons, List.map_nil, List.getElem?_toArray, List.getElem?_cons_succ, List.getElem?_cons_zero]
      refine lin_take_box k9 rfl 51 (.tmp 6) rfl wr.heap.size 0 rfl (insV i) (insV i) (fun y hy => HXI.out.kept hy) whole_at _ Try.underlying51 rfl 5 (by kernel_rfl) rfl ?_
      simp only [Act.put, List.setIfInBounds_toArray, List.set_cons_zero, List.set_cons_succ]
      refine lin_take_box k9 rfl 26 (.tmp 3) rfl (w.heap.size + 1) 0 rfl (oV o) (oV o) (fun y hy => HBW.out.kept hy) whole_at _ Try.underlying26 rfl 16 (by kernel_rfl) ((oV_len o).trans HO.out) ?_
      simp only [Act.put, List.setIfInBounds_toArray, List.set_cons_zero, List.set_cons_succ]
      refine lin_take_box k9 rfl 26 (.tmp 3) rfl (w.heap.size + 1) 0 rfl (oV o) (oV o) (fun y hy => HBW.out.kept hy) whole_at _ Try.underlying26 rfl 16 (by kernel_rfl) ((oV_len o).trans HO.out) ?_
      simp only [Act.put, List.setIfInBounds_toArray, List.set_cons_zero, List.set_cons_succ]
      refine lin_call k9 (by rfl) (fun K hK => ?_)
      go_simp
      refine (needs_any i o _ HO.out HRI.out).mono ?_; rintro e w3 ⟨v, rfl, hrow3, hnew, hb3⟩
      go_wp2_with fail
      have k10 := k9.to hb3
      refine hK.out _ _ k10 (fun _ => ?_)
      clear hK K hb3
      obtain ⟨A3, c3, rfl⟩ := hrow3.form
      try simp only [Act.put, List.setIfInBounds_toArray, List.set_cons_zero, List.set_cons_succ]
      refine lin_call k10 (by rfl) (fun K hK => ?_)
      go_simp
      refine (anyOnE_any A3 c3 (needZ i o) o _ HO.out hrow3 HNR.out (by have := HNL.out; omega)).mono ?_; rintro e w4 ⟨rfl, hb4⟩
      go_wp2_with fail
      have k11 := k10.to hb4
      refine hK.out _ _ k11 (fun _ => ?_)
      clear hK K hb4
      try simp only [Act.put, List.setIfInBounds_toArray, List.set_cons_zero, List.set_cons_succ]
      refine lin_done ?_
      have HK4 := Lib.hid (HKA.out.trans k11)
      have HKE := Lib.hid (HK2.out.trans (Below.mono HK4.out (by have := HK2.out.size; omega)))
      clear k9 k10 k11 hrow3 hnew
      cases hq : anyEB (needZ i o) o
      · have HE := Lib.hid (show freeB o i = true by rw [HFB.out, hq]; rfl)
        go_wp2_with fail
        go_roundw
        case rel => exact ⟨j + 1, by omega, by go_num, HK4.out, by rw [HST.out, HE.out, Bool.true_and]⟩
        case measure => simp only [intOf]; omega
      · have HE := Lib.hid (show freeB o i = false by rw [HFB.out, hq]; rfl)
        go_wp2_with fail
        go_ret
        exact ⟨ret_bool (by rw [HST.out, HE.out]; rfl), HKE.out⟩
    · have HKE := Lib.hid (HK2.out.trans (Below.mono HKW.out (by have := HK2.out.size; omega)))
      go_wp2_with fail
      go_ret
      exact ⟨ret_bool (by rw [HF.out, HAE.out j (by rw [Hn.out]; omega)]), HKE.out⟩
end Go.Proofs.Ytbibfpopkcekdaa.Words

/- Plain mathematics of chapter 13: the cells of a program's blocks. Nothing here speaks of one program text. -/
namespace Go.Proofs.Ytbibfpopkcekdaa.Words
set_option maxRecDepth 100000
open Go.RowKit
set_option linter.unusedVariables false

/-- The cells of k instructions from f on. -/
def fillA (z : List Int) (l : List Ins) (f : Nat) : Nat → List Cel
  | 0 => []
  | k + 1 => fillA z l f k ++ emitA z (insAtZ l (f + k)) ((f + k : Nat) : Int) (k : Int)
def fillE (z : List Int) (l : List Ins) (f : Nat) : Nat → List Cel
  | 0 => []
  | k + 1 => fillE z l f k ++ emitE z (insAtZ l (f + k)) ((f + k : Nat) : Int) (k : Int)
def fillB (z : List Int) (l : List Ins) (b : Blk) : BlkC := ⟨b.from_, b.to, b.next, b.taken, fillA z l b.from_.toNat (b.to - b.from_).toNat, fillE z l b.from_.toNat (b.to - b.from_).toNat⟩
/-- A block with the cells of its first k instructions. -/
def partB (z : List Int) (l : List Ins) (b : Blk) (k : Nat) : BlkC := ⟨b.from_, b.to, b.next, b.taken, fillA z l b.from_.toNat k, fillE z l b.from_.toNat k⟩
def withZ (l : List Ins) (sz : Int) (m : Nat) (o : List Int) : List BlkC := if closedZ l sz m o = true then (cutR l sz m).map (fillB (zeroed o) l) else []
theorem regsC_le3 {k pc off : Int} {z l : List Int} {n : Nat} (h : l.length ≤ n) : (regsC k pc off (sentL z l)).length ≤ n := by
  have : (regsC k pc off (sentL z l)).length = (sentL z l).length := by simp [regsC]
  rw [this]; exact Nat.le_trans (sent_len _ _) h
theorem emitA_le3 (z : List Int) (i : Ins) (pc off : Int) : (emitA z i pc off).length ≤ 3 := by
  have h1 := regsC_le3 (k := 5) (pc := pc) (off := off) (z := z) (reads_len i)
  have h2 := regsC_le3 (k := 5) (pc := pc) (off := off) (z := z) (l := [i.b]) (n := 1) (by simp)
  unfold emitA
  repeat' split
  all_goals (try simp only [List.length_append, List.length_cons, List.length_nil]); omega
theorem emitE_le3 (z : List Int) (i : Ins) (pc off : Int) : (emitE z i pc off).length ≤ 3 := by
  have h1 := regsC_le3 (k := 6) (pc := pc) (off := off) (z := z) (reads_len i)
  have h2 := regsC_le3 (k := 6) (pc := pc) (off := off) (z := z) (l := [i.b]) (n := 1) (by simp)
  unfold emitE
  repeat' split
  all_goals (try simp only [List.length_append, List.length_cons, List.length_nil]); omega
theorem fillA_len (z : List Int) (l : List Ins) (f k : Nat) : (fillA z l f k).length ≤ 3 * k := by
  induction k with
  | zero => simp [fillA]
  | succ k ih =>
    rw [fillA, List.length_append]
    have := emitA_le3 z (insAtZ l (f + k)) ((f + k : Nat) : Int) (k : Int)
    omega
theorem fillE_len (z : List Int) (l : List Ins) (f k : Nat) : (fillE z l f k).length ≤ 3 * k := by
  induction k with
  | zero => simp [fillE]
  | succ k ih =>
    rw [fillE, List.length_append]
    have := emitE_le3 z (insAtZ l (f + k)) ((f + k : Nat) : Int) (k : Int)
    omega
/-- A block's ends. -/
theorem blk_ends {l : List Ins} {sz : Int} {m : Nat} {k : Nat} {b : Blk} (h : (cutR l sz m)[k]? = some b) : ∃ f t : Nat, b.from_ = f ∧ b.to = t ∧ f < t ∧ t ≤ l.length := by
  unfold cutR at h
  split at h
  · unfold cutZ cutTo at h
    rw [List.getElem?_map] at h
    have hk : k < (leadsZ l).length := by
      rcases Nat.lt_or_ge k (leadsZ l).length with h1 | h1
      · exact h1
      · rw [List.getElem?_eq_none (by simpa using h1)] at h; cases h
    rw [List.getElem?_range hk] at h
    simp at h
    subst h
    refine ⟨(leadsZ l).getD k 0, blkToZ (leadsZ l) l.length k, rfl, rfl, ?_, ?_⟩
    · have hf : (leadsZ l).getD k 0 < l.length := by
        rw [List.getD_eq_getElem?_getD, List.getElem?_eq_getElem hk]
        exact (mem_leads.1 (List.getElem_mem hk)).1
      unfold blkToZ
      split
      · rename_i h2
        have hs := leads_sorted l
        rw [List.getD_eq_getElem?_getD, List.getElem?_eq_getElem hk, List.getD_eq_getElem?_getD, List.getElem?_eq_getElem h2]
        exact List.pairwise_iff_getElem.1 hs k (k + 1) hk h2 (by omega)
      · exact hf
    · unfold blkToZ
      split
      · rename_i h2
        rw [List.getD_eq_getElem?_getD, List.getElem?_eq_getElem h2]
        exact Nat.le_of_lt (mem_leads.1 (List.getElem_mem h2)).1
      · exact Nat.le_refl _
  · simp at h
theorem fillB_part (z : List Int) (l : List Ins) {b : Blk} {f t : Nat} (h1 : b.from_ = f) (h2 : b.to = t) : fillB z l b = partB z l b (t - f) := by
  unfold fillB partB
  rw [h1, h2, show ((t : Int) - (f : Int)).toNat = t - f by omega]
theorem part_zero (z : List Int) (l : List Ins) (b : Blk) : partB z l b 0 = bareB b := rfl
theorem cut_len (l : List Ins) (sz : Int) (m : Nat) : (cutR l sz m).length ≤ l.length := by
  unfold cutR
  split
  · rw [cutZ_len]; unfold leadsZ; exact Nat.le_trans (List.length_filter_le _ _) (by simp)
  · simp
/-- The blocks while they are filled: i of them are. -/
def fillTo (z : List Int) (l : List Ins) (bs : List Blk) (i : Nat) : List BlkC := (bs.take i).map (fillB z l) ++ (bs.drop i).map bareB
theorem fillTo_0 (z : List Int) (l : List Ins) (bs : List Blk) : fillTo z l bs 0 = bs.map bareB := by simp [fillTo]
theorem fillTo_all (z : List Int) (l : List Ins) (bs : List Blk) : fillTo z l bs bs.length = bs.map (fillB z l) := by simp [fillTo]
theorem fillTo_len (z : List Int) (l : List Ins) (bs : List Blk) {i : Nat} (h : i ≤ bs.length) : (fillTo z l bs i).length = bs.length := by simp [fillTo]; omega
theorem fillTo_at (z : List Int) (l : List Ins) {bs : List Blk} {i : Nat} {b : Blk} (h : bs[i]? = some b) : (fillTo z l bs i)[i]? = some (bareB b) := by
  have hl := (List.getElem?_eq_some_iff.1 h).1
  unfold fillTo
  rw [List.getElem?_append_right (by simp; omega)]
  simp only [List.length_map, List.length_take]
  rw [show i - min i bs.length = 0 by omega, List.getElem?_map, List.getElem?_drop, Nat.add_zero, h]; rfl
theorem fillTo_step (z : List Int) (l : List Ins) {bs : List Blk} {i : Nat} {b : Blk} (h : bs[i]? = some b) : (fillTo z l bs i).set i (fillB z l b) = fillTo z l bs (i + 1) := by
  have hl := (List.getElem?_eq_some_iff.1 h).1
  unfold fillTo
  rw [List.set_append_right _ _ (by simp; omega)]
  simp only [List.length_map, List.length_take]
  rw [show i - min i bs.length = 0 by omega, List.take_add_one, h, List.map_append, List.append_assoc]
  congr 1
  rw [List.drop_eq_getElem_cons hl, List.map_cons, List.set_cons_zero]
  have : bs[i] = b := by have := List.getElem?_eq_getElem hl; rw [h] at this; injection this with this; exact this.symm
  rfl
end Go.Proofs.Ytbibfpopkcekdaa.Words

/- Which blocks a call leaves as they were. Nothing here speaks of one program text. -/
namespace Go.Proofs.Ytbibfpopkcekdaa.Words
set_option maxRecDepth 100000
open Go.RowKit
set_option linter.unusedVariables false

/-- All blocks but those of S stand. -/
structure KeepS (S : Nat → Prop) (w w' : World) : Prop where
  os : w'.os = w.os
  tape : w'.tape = w.tape
  output : w'.output = w.output
  size : w.heap.size ≤ w'.heap.size
  block : ∀ k, k < w.heap.size → ¬ S k → w'.heap[k]? = w.heap[k]?
section
variable {S S' : Nat → Prop} {w w' w'' : World}
theorem KeepS.refl (S : Nat → Prop) (w : World) : KeepS S w w := ⟨rfl, rfl, rfl, Nat.le_refl _, fun _ _ _ => rfl⟩
theorem KeepS.trans (h : KeepS S w w') (g : KeepS S w' w'') : KeepS S w w'' :=
  ⟨g.os.trans h.os, g.tape.trans h.tape, g.output.trans h.output, Nat.le_trans h.size g.size, fun k hk hs => (g.block k (Nat.lt_of_lt_of_le hk h.size) hs).trans (h.block k hk hs)⟩
theorem KeepS.mono (h : KeepS S w w') (hs : ∀ k, S k → S' k) : KeepS S' w w' := ⟨h.os, h.tape, h.output, h.size, fun k hk hn => h.block k hk (fun e => hn (hs k e))⟩
theorem KeepS.of_below (h : Below w.heap.size w w') : KeepS S w w' := ⟨h.os, h.tape, h.output, h.size, fun k hk _ => h.block k hk⟩
theorem KeepS.of_grown {row : Option Nat} (h : w.grownBy w' row) (hr : ∀ k, row = some k → S k) : KeepS S w w' := ⟨h.os, h.tape, h.output, h.size, fun k hk hn => h.block k hk (fun e => hn (hr k e.symm))⟩
theorem KeepS.alloc (h : KeepS S w w') (o : Obj) : KeepS S w (w'.alloc o) := h.trans (KeepS.of_below ((Below.refl _ _).alloc (Nat.le_refl _) o))
theorem KeepS.drew (h : KeepS S w w') : KeepS S w w'.drew := ⟨h.os, h.tape, h.output, h.size, h.block⟩
theorem KeepS.drewN (h : KeepS S w w') (k : Nat) : KeepS S w (w'.drewN k) := h.trans (KeepS.of_below (Below.drewN_ (Below.refl _ _) k))
theorem KeepS.setCell (h : KeepS S w w') {b : Nat} (hb : S b) (k : Nat) (v : Value) : KeepS S w (w'.setCell ⟨b, k, none⟩ v) :=
  h.trans ⟨rfl, rfl, rfl, by simp [World.setCell], fun j _ hn => Below.heap_setCell w' ⟨b, k, none⟩ v j (fun e => hn (by rw [e]; exact hb))⟩
theorem KeepS.go (h : KeepS S w w') (hb : Below w'.heap.size w' w'') : KeepS S w w'' := h.trans (KeepS.of_below hb)
/-- What lies below all of S stands. -/
theorem KeepS.below (h : KeepS S w w') {B : Nat} (hB : B ≤ w.heap.size) (hs : ∀ k, S k → B ≤ k) : Below B w w' :=
  ⟨h.os, h.tape, h.output, h.size, fun k hk => h.block k (Nat.lt_of_lt_of_le hk hB) (fun e => by have := hs k e; omega)⟩
theorem KeepS.cell (h : KeepS S w w') {b k : Nat} {v : Value} (hb : b < w.heap.size) (hn : ¬ S b) (hv : w.cell? ⟨b, k, none⟩ = some v) : w'.cell? ⟨b, k, none⟩ = some v :=
  (World.cell?_of_block (w := w) (a := ⟨b, k, none⟩) (h.block b hb hn)).trans hv
theorem Box.keepS {b : Nat} {l : List Value} (h : Box w b l) (hk : KeepS S w w') (hn : ¬ S b) : Box w' b l := by
  have hb := h.lt
  obtain ⟨t, h⟩ := h
  exact ⟨t, (hk.block b hb hn).trans h⟩
theorem own_keepS {base : Nat} {e : TypeId} {size : Nat} {v : Value} {n : Nat} {xs : List Value} (h : w.ownsRow base e size v n xs) (hk : KeepS S w w') (hn : ∀ g, v.ownBlock = some g → ¬ S g) : w'.ownsRow base e size v n xs := by
  obtain ⟨h0, h1⟩ := h
  refine ⟨h0, ?_⟩
  rcases h1 with ⟨rfl, h2⟩ | ⟨g, c, cur, rfl, h3, h4, h5⟩
  · exact .inl ⟨rfl, h2⟩
  · have hlt : g < w.heap.size := (Array.getElem?_eq_some_iff.1 h4).1
    exact .inr ⟨g, c, cur, rfl, h3, (hk.block g hlt (hn g rfl)).trans h4, h5⟩
theorem Row.keepS {B size n : Nat} {v : Value} {xs : List Value} (h : Row w B size v n xs) (hk : KeepS S w w') (hB : B ≤ w.heap.size) (hs : ∀ k, S k → B ≤ k) : Row w' B size v n xs := h.below (hk.below hB hs)
end
/-- What was new may turn. -/
theorem KeepS.newer {S : Nat → Prop} {w w' z : World} (h : KeepS S w w') (g : KeepS (fun j => w.heap.size ≤ j) w' z) : KeepS S w z :=
  ⟨g.os.trans h.os, g.tape.trans h.tape, g.output.trans h.output, Nat.le_trans h.size g.size, fun k hk hs => (g.block k (Nat.lt_of_lt_of_le hk h.size) (Nat.not_le.2 hk)).trans (h.block k hk hs)⟩
end Go.Proofs.Ytbibfpopkcekdaa.Words

/- A law of no one program: A REGION THAT DRAWS ITS ORDER, WALKED ALONG A TREE OF ORDERS ('Lin' with forks): where two operations that turn the world may come up in either order, the tree parts. What holds behind the region (R) is named ahead: the rest is walked once. -/
namespace Go.Proofs.Ytbibfpopkcekdaa.Words
set_option maxRecDepth 100000
open Go.RowKit

inductive LinT | nil | one (i : Nat) (b : Bool) (r : LinT) | two (i j : Nat) (r s : LinT)
inductive LinO | nil | one (o : Option Oper) (b : Bool) (r : LinO) | two (o o' : Option Oper) (r s : LinO)
def LinT.look (ops : Array Oper) : LinT → LinO
  | .nil => .nil
  | .one i b r => .one ops[i]? b (r.look ops)
  | .two i j r s => .two ops[i]? ops[j]? (r.look ops) (s.look ops)
def LinT.size : LinT → Nat
  | .nil => 0
  | .one _ _ r => r.size + 1
  | .two _ _ r _ => r.size + 1
def LinT.ok (md : Region.Mode) (ops : Array Oper) : LinT → Array Bool → Bool
  | .nil, listed => (Region.ready md ops listed).isEmpty
  | .one i true r, listed => (Region.ready md ops listed).contains i && Region.free md ops listed i && r.ok md ops (listed.setIfInBounds i true)
  | .one i false r, listed => (Region.ready md ops listed == [i]) && r.ok md ops (listed.setIfInBounds i true)
  | .two i j r s, listed => (Region.ready md ops listed == [i, j]) && r.size == s.size && r.ok md ops (listed.setIfInBounds i true) && s.ok md ops (listed.setIfInBounds j true)
/-- A list of orders as a tree. -/
def LinT.of : List (Nat × Bool) → LinT → LinT
  | [], t => t
  | (i, b) :: l, t => .one i b (LinT.of l t)

section
variable {P : Program} {ops : Array Oper} {Q : Exit → Act → World → Prop} {R : Act → World → Prop} {md : Region.Mode}

def wpT (P : Program) (ops : Array Oper) (Q : Exit → Act → World → Prop) (R : Act → World → Prop) : LinO → (World → Prop) → Act → World → Prop
  | .nil, _, a, w => R a w
  | .one (some o) true rest, S, a, w => ∃ S' : World → Prop, (∀ x, S' x → S x) ∧ S' w ∧ ∃ v, YieldsIf P ops S' o v a ∧ wpT P ops Q R rest S' (a.put o.dst v) w
  | .one (some o) false rest, S, a, w => ∃ S' : World → Prop, (∀ x, S' x → S x) ∧ S' w ∧ linStep P ops Q o (fun a' w' => S' w' ∧ wpT P ops Q R rest S' a' w') a w
  | .two (some o) (some o') r s, S, a, w => ∃ S' : World → Prop, (∀ x, S' x → S x) ∧ S' w ∧ linStep P ops Q o (fun a' w' => S' w' ∧ wpT P ops Q R r S' a' w') a w ∧ linStep P ops Q o' (fun a' w' => S' w' ∧ wpT P ops Q R s S' a' w') a w
  | .one none _ _, _, _, _ => False
  | .two none _ _ _, _, _, _ => False
  | .two (some _) none _ _, _, _, _ => False

theorem step_any {i : Nat} {o : Oper} {fuel : Nat} {listed : Array Bool} {S' : World → Prop} {K : Act → World → Prop} {a : Act} {w : World} (ho : ops[i]? = some o)
    (hK : ∀ a w, K a w → wpAnyH P md ops Q S' fuel (listed.setIfInBounds i true) a w)
    (h : linStep P ops Q o (fun a' w' => S' w' ∧ K a' w') a w) : wpOp P ops Q i (fun a' w' => S' w' ∧ wpAnyH P md ops Q S' fuel (listed.setIfInBounds i true) a' w') a w := by
  unfold wpOp
  simp only [ho]
  unfold linStep at h
  split at h
  · rename_i hw
    rw [if_pos hw]
    exact .inl (Oper.wp_mono (fun a' w' hk => ⟨hk.1, hK a' w' hk.2⟩) h)
  · rename_i hw
    rw [if_neg hw]
    exact ⟨h.1, hK _ _ h.2⟩

theorem held_tree (hs : Region.noSelect ops = true) (hQ : ∀ d v c a w, Q (.panic c) (a.put d v) w → Q (.panic c) a w) (hR : ∀ a w, R a w → Q .normal a w) :
    ∀ (t : LinT) (listed : Array Bool) (S : World → Prop) (a : Act) (w : World), t.ok md ops listed = true → wpT P ops Q R (t.look ops) S a w → wpAnyH P md ops Q S t.size listed a w
  | .nil, listed, S, a, w, hok, h => ⟨by simpa [LinT.ok] using hok, hR _ _ h⟩
  | .one i true rest, listed, S, a, w, hok, h => by
    simp only [LinT.ok, Bool.and_eq_true] at hok
    obtain ⟨⟨h1, h2⟩, h3⟩ := hok
    rcases ho : ops[i]? with _ | o
    · simp only [LinT.look, ho, wpT] at h
    · simp only [LinT.look, ho, wpT] at h
      obtain ⟨S', k1, k2, v, k3, k4⟩ := h
      exact held_weaken k1 _ _ _ _ (wpAnyH_take ho hs h2 h1 (hQ _ _) k3 k2 (held_tree hs hQ hR rest _ S' _ w h3 k4))
  | .one i false rest, listed, S, a, w, hok, h => by
    simp only [LinT.ok, Bool.and_eq_true, beq_iff_eq] at hok
    obtain ⟨h1, h3⟩ := hok
    rcases ho : ops[i]? with _ | o
    · simp only [LinT.look, ho, wpT] at h
    · simp only [LinT.look, ho, wpT] at h
      obtain ⟨S', k1, k2, k3⟩ := h
      refine held_weaken k1 _ _ _ _ (wpAnyH_all h1 (by simp) fun j hj => ?_)
      have hji : j = i := by simpa using hj
      subst hji
      exact step_any ho (fun a w hk => held_tree hs hQ hR rest _ S' a w h3 hk) k3
  | .two i j r s, listed, S, a, w, hok, h => by
    simp only [LinT.ok, Bool.and_eq_true, beq_iff_eq] at hok
    obtain ⟨⟨⟨h1, h2⟩, h3⟩, h4⟩ := hok
    rcases ho : ops[i]? with _ | o
    · simp only [LinT.look, ho, wpT] at h
    · rcases ho' : ops[j]? with _ | o'
      · simp only [LinT.look, ho, ho', wpT] at h
      · simp only [LinT.look, ho, ho', wpT] at h
        obtain ⟨S', k1, k2, k3, k4⟩ := h
        refine held_weaken k1 _ _ _ _ (wpAnyH_all h1 (by simp) fun k hk => ?_)
        have hki : k = i ∨ k = j := by simpa using hk
        rcases hki with rfl | rfl
        · exact step_any ho (fun a w hk => held_tree hs hQ hR r _ S' a w h3 hk) k3
        · exact step_any ho' (fun a w hk => (show wpAnyH P md ops Q S' r.size _ a w by rw [h2]; exact held_tree hs hQ hR s _ S' a w h4 hk)) k4

/-- THE REGION. -/
theorem wp_region_tree {id : Nat} {a : Act} {w : World} (R : Act → World → Prop) (t : LinT) (hm : P.follows .mixedOrders = true) (hs : Region.noSelect ops = true) (hl : t.size = ops.size)
    (hok : t.ok .any ops (Array.replicate ops.size false) = true) (S : World → Prop) (hR : ∀ a w, R a w → Q .normal a w)
    (h : wpT P ops (NoPanic Q) R (t.look ops) S a w.drew) : (Code.region id ops true).wp P Q a w := by
  refine wp_region_noPanic (wp_region_held hm (S := S) ?_)
  have hh := held_tree (Q := NoPanic Q) hs (fun _ _ _ _ _ h => h) hR t _ S a w.drew hok h
  rw [hl] at hh
  exact hh

theorem tree_take {o : Oper} {rest : LinO} {S : World → Prop} {a : Act} {w : World} {v : Value} (hS : S w)
    (hw : Region.wanted o (yielded ops a.tmps) = true) (hy : ∀ x, S x → (execOp a.eval o).run P x = .ok (.value v) x)
    (h : wpT P ops Q R rest S (a.put o.dst v) w) : wpT P ops Q R (.one (some o) true rest) S a w := ⟨S, fun _ h => h, hS, v, .inl ⟨hw, hy⟩, h⟩
theorem tree_skip {o : Oper} {rest : LinO} {S : World → Prop} {a : Act} {w : World} (hS : S w)
    (hw : Region.wanted o (yielded ops a.tmps) = false) (h : wpT P ops Q R rest S (a.put o.dst undef) w) : wpT P ops Q R (.one (some o) true rest) S a w := ⟨S, fun _ h => h, hS, undef, .inr ⟨hw, rfl⟩, h⟩
theorem tree_call {o : Oper} {rest : LinO} {S : World → Prop} {a : Act} {w : World} (hS : S w) (hw : Region.wanted o (yielded ops a.tmps) = true)
    (h : ∀ K : Act → World → Prop, Shut (∀ a w, S w → (S w → wpT P ops Q R rest S a w) → K a w) → Oper.wp P o a w K Q) : wpT P ops Q R (.one (some o) false rest) S a w :=
  ⟨S, fun _ h => h, hS, by unfold linStep; rw [if_pos hw]; exact h _ (fun _ _ h1 h2 => ⟨h1, h2 h1⟩)⟩
theorem tree_two {o o' : Oper} {r s : LinO} {S : World → Prop} {a : Act} {w : World} (hS : S w) (hw : Region.wanted o (yielded ops a.tmps) = true) (hw' : Region.wanted o' (yielded ops a.tmps) = true)
    (h : ∀ K : Act → World → Prop, Shut (∀ a w, S w → (S w → wpT P ops Q R r S a w) → K a w) → Oper.wp P o a w K Q)
    (h' : ∀ K : Act → World → Prop, Shut (∀ a w, S w → (S w → wpT P ops Q R s S a w) → K a w) → Oper.wp P o' a w K Q) : wpT P ops Q R (.two (some o) (some o') r s) S a w :=
  ⟨S, fun _ h => h, hS, by unfold linStep; rw [if_pos hw]; exact h _ (fun _ _ h1 h2 => ⟨h1, h2 h1⟩), by unfold linStep; rw [if_pos hw']; exact h' _ (fun _ _ h1 h2 => ⟨h1, h2 h1⟩)⟩
theorem tree_more {l : LinO} {S S' : World → Prop} {a : Act} {w : World} (h1 : ∀ x, S' x → S x) (h : wpT P ops Q R l S' a w) : wpT P ops Q R l S a w := by
  rcases l with _ | ⟨o, b, r⟩ | ⟨o, o', r, s⟩
  · exact h
  · rcases o with _ | o
    · cases b <;> exact h
    · cases b
      · obtain ⟨S2, k1, k2⟩ := h
        exact ⟨S2, fun x hx => h1 x (k1 x hx), k2⟩
      · obtain ⟨S2, k1, k2⟩ := h
        exact ⟨S2, fun x hx => h1 x (k1 x hx), k2⟩
  · rcases o with _ | o
    · exact h
    · rcases o' with _ | o'
      · exact h
      · obtain ⟨S2, k1, k2⟩ := h
        exact ⟨S2, fun x hx => h1 x (k1 x hx), k2⟩
theorem tree_done {S : World → Prop} {a : Act} {w : World} (h : R a w) : wpT P ops Q R .nil S a w := h
end
end Go.Proofs.Ytbibfpopkcekdaa.Words

/- append onto a row of the call's own: its block is the row's, or a new one. A law of no one program. -/
namespace Go.Proofs.Ytbibfpopkcekdaa.Words
set_option maxRecDepth 100000
open Go.RowKit
section
variable {P : Program} (w : World)
theorem run_append_new (base : Nat) (t ty e : TypeId) (i : TypeInfo) (z : Value) (size bytes : Nat) (ht : P.underlying t = some (.slice e)) (hi : P.info? e = some i) (hz : i.zero = some z)
    (hsize : i.size = size) (hby : i.bytes = bytes) (hzs : z.cells.size = size) (hsz : 0 < size)
    (v : Value) (n : Nat) (xs : List Value) (hown : w.ownsRow base e size v n xs) (B : Nat) (x : Value) (m : Nat) (news : List Value) (hr : Row w B size x m news) (h1 : ∀ u ∈ news, u.oneCell' = true)
    (h63 : n + m ≤ maxLen) (hbytes : (n + m) * bytes ≤ 140737488355328) (hbase : base ≤ w.heap.size) :
    ∃ v' w', (Builtin.append_ #[t, t] ty #[v, x]).run P w = .ok v' w' ∧ w'.ownsRow base e size v' (n + m) (xs ++ news) ∧ w.grownBy w' v.ownBlock ∧ (∀ g, v'.ownBlock = some g → v.ownBlock = some g ∨ w.heap.size ≤ g) := by
  obtain ⟨v', w', r1, r2, r3⟩ := run_append_row (P := P) w base t ty e i z size bytes ht hi hz hsize hby hzs hsz v n xs hown B x m news hr h1 h63 hbytes hbase
  refine ⟨v', w', r1, r2, r3, fun g hg => ?_⟩
  rcases hown.2 with ⟨rfl, rfl⟩ | ⟨g0, cap, cur, rfl, hbg, hh, hnc, hcm, hcs, htake⟩
  · have hx : xs = [] := List.eq_nil_of_length_eq_zero (by simpa using hown.1)
    subst hx
    obtain ⟨v2, w2, k1, k2, _⟩ := run_append_row (P := P) w w.heap.size t ty e i z size bytes ht hi hz hsize hby hzs hsz _ 0 [] (World.ownsRow_nil _ _ _ _) B x m news hr h1 h63 hbytes (Nat.le_refl _)
    have := r1.symm.trans k1
    injection this with e1 e2
    subst e1
    exact .inr (k2.lt g hg).1
  · obtain ⟨A, c, rfl⟩ := hr.form
    cases A with
    | none =>
      obtain ⟨rfl, rfl⟩ := hr.bare rfl
      have k1 := run_append_owned_none (P := P) w base t ty e i size ht hi _ n xs hown
      have := r1.symm.trans k1
      injection this with e1 e2
      subst e1
      exact .inl hg
    | some ad =>
      by_cases hroom : n + m ≤ cap
      · have k1 := run_append_room (P := P) w t ty e i ht hi g0 n cap cur hh ad m c news (by rw [hsize]; exact hr.len) (hr.cells ad rfl) h1 hroom (by
          have := hr.len
          rw [hsize, this, ← Nat.add_mul]
          have h2 : cur.size = cap * size := by simpa using hcs
          rw [h2]
          exact Nat.mul_le_mul_right _ hroom)
        have := r1.symm.trans k1
        injection this with e1 e2
        rw [e1] at hg
        exact .inl hg
      · have k1 := run_append_grow (P := P) w t ty e i z ht hi hz ⟨g0, 0, none⟩ n cap xs (by rw [hsize]; exact hown.1) (hown.cells (g := g0) rfl) ad m c news (by rw [hsize]; exact hr.len) (hr.cells ad rfl) (by omega) (by unfold maxLen at h63; omega)
          (by rw [hby]; exact growslice_fits (by omega) (by omega))
        have := r1.symm.trans k1
        injection this with e1 e2
        rw [e1] at hg
        simp only [Value.ownBlock, Option.some.injEq] at hg
        exact .inr (Nat.le_of_eq hg)
theorem wpList_append_new {ops : Array Oper} {rest : List Oper} {o : Oper} {a : Act} {Q : Exit → Act → World → Prop} (hgd : o.guard = none) (s y : Operand) (t : TypeId)
    (ho : o.op = .call { callee := .builtin .append, args := #[s, y], argTypes := #[t, t] })
    (base : Nat) (e : TypeId) (i : TypeInfo) (z : Value) (size bytes : Nat) (ht : P.underlying t = some (.slice e)) (hi : P.info? e = some i) (hz : i.zero = some z)
    (hsize : i.size = size) (hby : i.bytes = bytes) (hzs : z.cells.size = size) (hsz : 0 < size)
    (v : Value) (n : Nat) (xs : List Value) (hs : a.eval s = v) (hown : w.ownsRow base e size v n xs) (B : Nat) (x : Value) (m : Nat) (news : List Value) (hx : a.eval y = x) (hr : Row w B size x m news) (h1 : ∀ u ∈ news, u.oneCell' = true)
    (h63 : n + m ≤ maxLen) (hbytes : (n + m) * bytes ≤ 140737488355328) (hbase : base ≤ w.heap.size)
    (h : ∀ v' w', w'.ownsRow base e size v' (n + m) (xs ++ news) → w.grownBy w' v.ownBlock → (∀ g, v'.ownBlock = some g → v.ownBlock = some g ∨ w.heap.size ≤ g) → wpList P ops Q rest (a.put o.dst v') w') : wpList P ops Q (o :: rest) a w := by
  refine wpList_plain hgd fun K hK => ?_
  obtain ⟨v', w', hrun, h2, h3, h4⟩ := run_append_new (P := P) w base t o.type e i z size bytes ht hi hz hsize hby hzs hsz v n xs hown B x m news hr h1 h63 hbytes hbase
  unfold Oper.wp execOp
  simp only [ho, resolve, invoke, builtin, Sem.run_bind, Sem.run_pure, Result.andThen_ok, List.map_toArray, List.map_cons, List.map_nil, hs, hx, hrun]
  exact hK _ _ (h v' w' h2 h3 h4)
end
end Go.Proofs.Ytbibfpopkcekdaa.Words

/- Laws of no one program: a region that draws its order, walked along a tree, with ONE continuation that knows what the region has made; append onto an own row as a step of such a tree. -/
namespace Go.Proofs.Ytbibfpopkcekdaa.Words
set_option maxRecDepth 100000
open Go.RowKit
set_option linter.unusedVariables false
section
variable {P : Program} {ops : Array Oper} {Q : Exit → Act → World → Prop} {R : Act → World → Prop} {α : Type}
theorem region_tree_ex {id : Nat} {a : Act} {w : World} (F : Act → α → Act) (G : α → World → Prop) (t : LinT) (hm : P.follows .mixedOrders = true) (hs : Region.noSelect ops = true) (hl : t.size = ops.size)
    (hok : t.ok .any ops (Array.replicate ops.size false) = true) (S : World → Prop)
    (h : wpT P ops (NoPanic Q) (fun a' w' => ∃ B, a' = F a B ∧ G B w') (t.look ops) S a w.drew) (hR : ∀ B w', G B w' → Q .normal (F a B) w') : (Code.region id ops true).wp P Q a w :=
  wp_region_tree _ t hm hs hl hok S (fun a' w' hh => by obtain ⟨B, rfl, hg⟩ := hh; exact hR B w' hg) h
theorem tree_load_ex {op : Oper} {rest : LinO} {S : World → Prop} {a : Act} {w : World} (hS : S w) (hw : Region.wanted op (yielded ops a.tmps) = true) (ty : TypeId) (x : Operand) (ho : op.op = .load ty x)
    (b k : Nat) (hx : a.eval x = .pointer (some ⟨b, k, none⟩)) (l cs : List Value) (hb : ∀ y, S y → Box y b l) (hc : ∀ j v, cs[j]? = some v → l[k + j]? = some v) (d : TypeDesc)
    (hu : P.underlying ty = some d) (hd : d.isRow = true) (n : Nat) (hi : (P.info? ty).map (·.size) = some n) (hn : cs.length = n)
    (h : wpT P ops Q R rest S (a.put op.dst (.agg cs.toArray)) w) : wpT P ops Q R (.one (some op) true rest) S a w :=
  ⟨S, fun _ h => h, hS, _, yieldsIf_load_mid hw ty x ho b k hx cs d (fun y hy => (hb y hy).range hc) hu hd (by rw [hn]; exact hi), h⟩
end
section
variable {P : Program} {ops : Array Oper} {Q : Exit → Act → World → Prop} {R : Act → World → Prop}
theorem tree_put_cells {op : Oper} {rest : LinO} {S : World → Prop} {a : Act} {w : World} (hS : S w) (hw : Region.wanted op (yielded ops a.tmps) = true) (ty : TypeId) (x y : Operand) (ho : op.op = .store ty x y)
    (b k : Nat) (cs : List Value) (hx : a.eval x = .pointer (some ⟨b, k, none⟩)) (hy : a.eval y = .agg cs.toArray) (l : List Value) (hb : Box w b l) (hl : k + cs.length ≤ l.length)
    (n : Nat) (hi : (P.info? ty).map (·.size) = some n) (hn : cs.length = n) (h1 : ∀ v ∈ cs, v.oneCell' = true)
    (hT : ∀ w', Box w' b (splice l k cs) → w.grownBy w' (some b) → S w')
    (h : ∀ w', Box w' b (splice l k cs) → w.grownBy w' (some b) → wpT P ops Q R rest S (a.put op.dst undef) w') : wpT P ops Q R (.one (some op) false rest) S a w :=
  tree_call hS hw fun K hK => wp_store_mid ty x y ho b k cs.toArray hx hy (hb.there (by simpa using hl)) (by rw [hi]; simp [hn]) (all_oneCell_toArray h1) (hK.out _ _
    (hT _ (by simpa using hb.setCells hl) (by simpa using grown_setCells w b cs k hb.lt)) fun _ => h _ (by simpa using hb.setCells hl) (by simpa using grown_setCells w b cs k hb.lt))
theorem own_less {w : World} {base base' : Nat} {e : TypeId} {size : Nat} {v : Value} {n : Nat} {xs : List Value} (h : w.ownsRow base e size v n xs) (hb : base' ≤ base) : w.ownsRow base' e size v n xs := by
  obtain ⟨h0, h1⟩ := h
  refine ⟨h0, ?_⟩
  rcases h1 with h1 | ⟨g, c, cur, e1, h3, h4⟩
  · exact .inl h1
  · exact .inr ⟨g, c, cur, e1, Nat.le_trans hb h3, h4⟩
end
section
variable {P : Program} {ops : Array Oper} {rest : List (Option Oper × Bool)} {op : Oper} {a : Act} {Q : Exit → Act → World → Prop} {S : World → Prop} {w : World}
theorem lin_put_cells (hS : S w) (hw : Region.wanted op (yielded ops a.tmps) = true) (ty : TypeId) (x y : Operand) (ho : op.op = .store ty x y)
    (b k : Nat) (cs : List Value) (hx : a.eval x = .pointer (some ⟨b, k, none⟩)) (hy : a.eval y = .agg cs.toArray) (l : List Value) (hb : Box w b l) (hl : k + cs.length ≤ l.length)
    (n : Nat) (hi : (P.info? ty).map (·.size) = some n) (hn : cs.length = n) (h1 : ∀ v ∈ cs, v.oneCell' = true)
    (hT : ∀ w', Box w' b (splice l k cs) → w.grownBy w' (some b) → S w')
    (h : ∀ w', Box w' b (splice l k cs) → w.grownBy w' (some b) → wpLin P ops Q rest S (a.put op.dst undef) w') : wpLin P ops Q ((some op, false) :: rest) S a w :=
  lin_call hS hw fun K hK => wp_store_mid ty x y ho b k cs.toArray hx hy (hb.there (by simpa using hl)) (by rw [hi]; simp [hn]) (all_oneCell_toArray h1) (hK.out _ _
    (hT _ (by simpa using hb.setCells hl) (by simpa using grown_setCells w b cs k hb.lt)) fun _ => h _ (by simpa using hb.setCells hl) (by simpa using grown_setCells w b cs k hb.lt))
end
section
variable {P : Program} (w : World)
theorem wp_append_new {o : Oper} {a : Act} {K : Act → World → Prop} {Q : Exit → Act → World → Prop} (s y : Operand) (t : TypeId)
    (ho : o.op = .call { callee := .builtin .append, args := #[s, y], argTypes := #[t, t] })
    (base : Nat) (e : TypeId) (i : TypeInfo) (z : Value) (size bytes : Nat) (ht : P.underlying t = some (.slice e)) (hi : P.info? e = some i) (hz : i.zero = some z)
    (hsize : i.size = size) (hby : i.bytes = bytes) (hzs : z.cells.size = size) (hsz : 0 < size)
    (v : Value) (n : Nat) (xs : List Value) (hs : a.eval s = v) (hown : w.ownsRow base e size v n xs) (B : Nat) (x : Value) (m : Nat) (news : List Value) (hx : a.eval y = x) (hr : Row w B size x m news) (h1 : ∀ u ∈ news, u.oneCell' = true)
    (h63 : n + m ≤ maxLen) (hbytes : (n + m) * bytes ≤ 140737488355328) (hbase : base ≤ w.heap.size)
    (h : ∀ v' w', w'.ownsRow base e size v' (n + m) (xs ++ news) → w.grownBy w' v.ownBlock → (∀ g, v'.ownBlock = some g → v.ownBlock = some g ∨ w.heap.size ≤ g) → K (a.put o.dst v') w') : o.wp P a w K Q := by
  obtain ⟨v', w', hrun, h2, h3, h4⟩ := run_append_new (P := P) w base t o.type e i z size bytes ht hi hz hsize hby hzs hsz v n xs hown B x m news hr h1 h63 hbytes hbase
  unfold Oper.wp execOp
  simp only [ho, resolve, invoke, builtin, Sem.run_bind, Sem.run_pure, Result.andThen_ok, List.map_toArray, List.map_cons, List.map_nil, hs, hx, hrun]
  exact h v' w' h2 h3 h4
theorem wpList_built_at {ops : Array Oper} {rest : List Oper} {o : Oper} {a : Act} {Q : Exit → Act → World → Prop} (hg : o.guard = none) (t : TypeId) (parts : Array (Nat × Operand)) (ho : o.op = .build t parts)
    (cells : Array Value) (hb : P.built t (parts.map fun (i, x) => (i, a.eval x)).toList = some cells) (h : wpList P ops Q rest (a.put o.dst (.agg cells)) w) : wpList P ops Q (o :: rest) a w :=
  wpList_plain hg fun K hK => wp_build t parts ho (by rw [hb]; rfl) (by rw [hb]; exact hK _ _ h)
/-- A row of one record that has just been made. -/
theorem row_new (l : List Value) (s : Nat) (hl : l.length = s) (hs : 0 < s) (t : TypeId) : Row (w.alloc (.cells l.toArray t)) (w.heap.size + 1) s (.slice (some ⟨w.heap.size, 0, none⟩) 1 1) 1 l := by
  refine ⟨by omega, _, _, rfl, Nat.le_refl _, by omega, (fun h => by cases h), fun _ => ⟨w.heap.size, 0, rfl, Nat.lt_succ_self _, fun j u hu => ?_⟩⟩
  have := new_cells w l.toArray t l rfl j u hu
  rwa [add_spot] at this
end
end Go.Proofs.Ytbibfpopkcekdaa.Words

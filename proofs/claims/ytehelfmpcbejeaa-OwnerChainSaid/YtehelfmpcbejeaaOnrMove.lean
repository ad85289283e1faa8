/- Contracts of package owner's move (a round over the code) and of Of. -/
import Derived.Test.YtehelfmpcbejeaaOnrSide
import Derived.Test.YtehelfmpcbejeaaImgRight2
namespace Go.Proofs.Ytehelfmpcbejeaa.Words
set_option maxRecDepth 100000
open Go.RowKit
set_option linter.unusedVariables false
set_option linter.unusedSimpArgs false

/-- What a part of a round has moved. -/
structure MovedS (s o : List Int) (m : Bool) : Prop where
  ok : OkO o
  le : cntE o ≤ cntE s
  yes : m = true → cntE o < cntE s
  no : m = false → o = s
theorem MovedS.start {s : List Int} (h : OkO s) : MovedS s s false := ⟨h, Nat.le_refl _, (fun h => by cases h), fun _ => rfl⟩
theorem MovedS.put {s o : List Int} {m : Bool} (h : MovedS s o m) {r : Int} (hr : 0 ≤ r ∧ r ≤ 15) (h2 : atO o r = 2) : MovedS s (o.set r.toNat 1) true := by
  have e : putA o r = o.set r.toNat 1 := by unfold putA; rw [if_pos h2]
  have := cnt_put h.ok.1 hr h2
  have hl := h.le
  exact ⟨e ▸ putA_ok h.ok hr, by omega, fun _ => by omega, fun c => by cases c⟩
theorem put_yes {o : List Int} {r : Int} (h2 : atO o r = 2) : putA o r = o.set r.toNat 1 := by unfold putA; rw [if_pos h2]
theorem fold_at {α β : Type} {f : β → α → β} {l : List α} {j : Nat} {x : α} (h : l[j]? = some x) (o : β) : (l.drop j).foldl f o = (l.drop (j + 1)).foldl f (f o x) := by
  obtain ⟨hlt, he⟩ := List.getElem?_eq_some_iff.1 h
  rw [List.drop_eq_getElem_cons hlt, he]; rfl

theorem needs_len (i : Ins) (o : List Int) : (needZ i o).length ≤ 2 := by
  have := reads_len i
  unfold needZ
  split
  · simp
  · split
    · exact this
    · simp
theorem row_other {w : World} {bb off n c s : Nat} {xs : List Value} (h : Row w w.heap.size s (.slice (some ⟨bb, off, none⟩) n c) n xs) {b : Nat} (hne : bb ≠ b) (k : Nat) (v : Value) : Row (w.setCell ⟨b, k, none⟩ v) (w.setCell ⟨b, k, none⟩ v).heap.size s (.slice (some ⟨bb, off, none⟩) n c) n xs := by
  obtain ⟨h0, A, c', h1, h2, h3, h4, h5⟩ := h
  refine ⟨h0, A, c', h1, h2, h3, h4, fun hn => ?_⟩
  obtain ⟨b', off', e, hb, hc⟩ := h5 hn
  subst e
  injection h1 with e1 _ _
  injection e1 with e1
  injection e1 with e1 _
  subst e1
  refine ⟨_, _, rfl, by simpa [World.setCell] using hb, fun j u hu => ?_⟩
  rw [World.cell?_of_block (a := ⟨bb, off' + j, none⟩) (w := w) (by unfold World.setCell; simp only [Array.getElem?_modify, if_neg (show ¬ b = bb from fun e => hne e.symm)])]
  exact hc j u hu
/-- What stands while the code is gone through: the registers' block b lies behind all that was there. -/
structure MvS (w0 wr : World) (B b : Nat) (s o : List Int) (m : Bool) : Prop where
  below : Below B w0 wr
  box : Box wr b (oV o)
  mv : MovedS s o m
  hB : B ≤ b
theorem MvS.to {w0 wr x : World} {B b : Nat} {s o : List Int} {m : Bool} (h : MvS w0 wr B b s o m) (hb : Below wr.heap.size wr x) : MvS w0 x B b s o m :=
  ⟨h.below.trans (hb.mono (by have := h.box.lt; have := h.hB; omega)), h.box.below hb h.box.lt, h.mv, h.hB⟩
theorem MvS.put {w0 wr : World} {B b : Nat} {s o : List Int} {m : Bool} (h : MvS w0 wr B b s o m) {r : Int} (hr : 0 ≤ r ∧ r ≤ 15) (h2 : atO o r = 2) : MvS w0 (wr.setCell ⟨b, r.toNat, none⟩ (.int .i64 1)) B b s (o.set r.toNat 1) true :=
  ⟨h.below.setCell (p := ⟨b, r.toNat, none⟩) h.hB _, by have := h.box.setCell r.toNat (.int .i64 1); rwa [oV_set] at this, h.mv.put hr h2, h.hB⟩

set_option maxHeartbeats 8000000 in
theorem move_any (A : Option Addr) (c : Nat) (l : List Ins) (b : Nat) (o : List Int) (w : World) (hr : Row w b 5 (.slice A l.length c) l.length (codeCells l)) (hsmall : l.length ≤ 8192) (hc : ∀ i ∈ l, rightB i = true) (ho : OkO o) (hb : Box w b (oV o)) :
    Calls Try.prog 20 #[.slice A l.length c, .pointer (some ⟨b, 0, none⟩)] w fun e w' => ∃ m, e = .returned (.bool m) ∧ MvS w w' b b o (roundO l o) m := by
  have H0 : Hid (MvS w w b b o o false) := ⟨Below.refl _ _, hb, MovedS.start ho, Nat.le_refl _⟩
  have HC := Lib.hid hc
  have HR := Lib.hid hr
  have HF0 := Lib.hid (show roundO l o = (l.drop 0).foldl stepO o by rw [List.drop_zero]; rfl)
  have HFA := Lib.hid (fun (j : Nat) (i : Ins) (p : List Int) (h : l[j]? = some i) => fold_at (f := stepO) h p)
  have HFE := Lib.hid (fun (j : Nat) (p : List Int) (h : l.length ≤ j) => (show (l.drop j).foldl stepO p = p by rw [List.drop_eq_nil_of_le h]; rfl))
  have hcap := hr.cap
  clear hc hr ho hb
  go_enter Try.func20, Try.ntmps20
  go_wp2_with fail
  generalize hn : l.length = n at hsmall hcap ⊢
  have Hn := Lib.hid hn
  clear hn
  go_loopw [5, 12] (fun mm ii wr => ∃ (j : Nat) (p : List Int) (m : Bool), j ≤ n ∧ mm = .bool m ∧ ii = .int .i64 j ∧ MvS w wr b b o p m ∧ roundO l o = (l.drop j).foldl stepO p) (fun _ ii _ => n - (intOf ii).toNat)
  case atStart => exact ⟨0, o, false, Nat.zero_le _, rfl, rfl, H0.out, HF0.out⟩
  case round =>
    obtain ⟨j, p, m, hj, rfl, rfl, hS, hF⟩ := hrel
    have HS := Lib.hid hS
    have HF := Lib.hid hF
    clear hS hF
    by_cases hlt : j < n
    · have hl : j < l.length := by rw [Hn.out]; exact hlt
      obtain ⟨i, hi⟩ : ∃ i, l[j]? = some i := ⟨_, List.getElem?_eq_getElem hl⟩
      have hri := HC.out i (List.mem_of_getElem? hi)
      have HRI := Lib.hid hri
      have hrow : Row wr b 5 (.slice A l.length c) l.length (codeCells l) := HR.out.below HS.out.below
      obtain ⟨g, off, rfl, hg, _⟩ := hrow.at_ (by omega)
      obtain ⟨d0, d1, d2, d3, d4⟩ := hrow.ins hi
      have HSTEP := Lib.hid (HF.out.trans (HFA.out j i p hi))
      have k0 : (0 : Int) ≤ j := by omega
      have k1 : (j : Int) < n := by omega
      have HNR := Lib.hid (fun r (h : r ∈ needZ i p) => need_range hri h)
      have HNL : Hid ((needZ i p).length ≤ 2) := needs_len i p
      have HSA := Lib.hid (HS.out.to ((Below.refl wr.heap.size wr).alloc (Nat.le_refl _) (.cells #[.int .i64 i.op, .int .i64 i.d, .int .i64 i.a, .int .i64 i.b, .int .i64 i.imm] 28)))
      have HXI := Lib.hid (Box.new wr (insV i) 28)
      have hwz : wr.heap.size < (wr.alloc (.cells (insV i).toArray 28)).heap.size := by simp
      have hpl : p.length = 16 := HS.out.mv.ok.1
      have HPL := Lib.hid hpl
      clear hi hl hri hpl
      go_wp2_with fail
      change Hid (MvS w (wr.alloc (.cells (insV i).toArray 28)) b b o p m) at HSA
      refine wp_region_lin [(0, true), (1, true), (2, true), (3, true), (6, true), (4, false), (5, true)]
        (by kernel_rfl) (by kernel_rfl) rfl (by kernel_rfl) (Kept (wr.alloc (.cells (insV i).toArray 28))) ?_
      change wpLin _ _ _ _ _ _ (wr.alloc (.cells (insV i).toArray 28)).drew
      generalize wr.alloc (.cells (insV i).toArray 28) = W1 at *
      have k9 : Kept W1 W1.drew := (Kept.refl W1).drew
      simp only [List.map_cons, List.map_nil, List.getElem?_toArray, List.getElem?_cons_succ, List.getElem?_cons_zero]
      refine lin_take_box k9 rfl 28 (.tmp 7) rfl wr.heap.size 0 rfl (insV i) (insV i) (fun y hy => HXI.out.kept hy) whole_at _ Try.underlying28 rfl 5 (by kernel_rfl) rfl ?_
      simp only [Act.put, List.setIfInBounds_toArray, List.set_cons_zero, List.set_cons_succ]
      iterate 2 (refine lin_take (v := ?_) (by assumption) (by rfl) ?_ ?_; rotate_left; (intro x hx; (try dsimp only at hx); go_simp; try (with_reducible rfl)); (try simp only [Act.put, List.setIfInBounds_toArray, List.set_cons_zero, List.set_cons_succ]))
      refine lin_take_box k9 rfl 26 (.tmp 18) rfl b 0 rfl (oV p) (oV p) (fun y hy => HSA.out.box.kept hy) whole_at _ Try.underlying26 rfl 16 (by kernel_rfl) ((oV_len p).trans HPL.out) ?_
      simp only [Act.put, List.setIfInBounds_toArray, List.set_cons_zero, List.set_cons_succ]
      (refine lin_take (v := ?_) (by assumption) (by rfl) ?_ ?_; rotate_left; (intro x hx; (try dsimp only at hx); go_simp; try (with_reducible rfl)); (try simp only [Act.put, List.setIfInBounds_toArray, List.set_cons_zero, List.set_cons_succ]))
      refine lin_call k9 (by rfl) (fun K hK => ?_)
      go_simp
      refine (needs_any i p _ HPL.out HRI.out).mono ?_; rintro e w2 ⟨v, rfl, hrow2, hnew, hb2⟩
      go_wp2_with fail
      have k10 := k9.to hb2
      refine hK.out _ _ k10 (fun _ => ?_)
      obtain ⟨A2, c2, rfl⟩ := hrow2.form
      try simp only [Act.put, List.setIfInBounds_toArray, List.set_cons_zero, List.set_cons_succ]
      (refine lin_take (v := ?_) (by assumption) (by rfl) ?_ ?_; rotate_left; (intro x hx; (try dsimp only at hx); go_simp; try (with_reducible rfl)); (try simp only [Act.put, List.setIfInBounds_toArray, List.set_cons_zero, List.set_cons_succ]))
      refine lin_done ?_
      have HS2 := Lib.hid (HSA.out.to k10)
      have HB2 : Hid (b < w2.heap.size) := HS2.out.box.lt
      have HN2 : Hid (NewV (b + 1) (.slice A2 (needZ i p).length c2)) := fun a n c h => by
        have h1 := hnew a n c h
        have h2 := HSA.out.box.lt
        have h3 : (W1.drew).heap.size = W1.heap.size := rfl
        omega
      have HR2 := Lib.hid hrow2
      clear hK K hb2 k10 k9 hrow2 hnew HSA HXI hwz
      have HP0 := Lib.hid (show stepO p i = ((needZ i p).drop 0).foldl putA p by rw [List.drop_zero]; rfl)
      have HZE := Lib.hid (fun (k : Nat) (q : List Int) (h : (needZ i p).length ≤ k) => (show ((needZ i p).drop k).foldl putA q = q by rw [List.drop_eq_nil_of_le h]; rfl))
      have HZA := Lib.hid (fun (k : Nat) (r : Int) (q : List Int) (h : (needZ i p)[k]? = some r) => fold_at (f := putA) h q)
      generalize hzs : needZ i p = zs at HNR HNL HR2 HN2 HP0 HZE HZA ⊢
      clear hzs
      generalize hnz : zs.length = N at HR2 HN2 ⊢
      have HNZ := Lib.hid hnz
      clear hnz
      go_wp2_with fail
      go_loopw [5, 22] (fun mm ii wx => ∃ (k : Nat) (q : List Int) (m2 : Bool), k ≤ N ∧ mm = .bool m2 ∧ ii = .int .i64 k ∧ MvS w wx b b o q m2 ∧ Row wx wx.heap.size 1 (.slice A2 N c2) N (zs.map (Value.int .i64)) ∧ stepO p i = (zs.drop k).foldl putA q) (fun _ ii _ => N - (intOf ii).toNat)
      case atStart => exact ⟨0, p, m, Nat.zero_le _, rfl, rfl, HS2.out, HR2.out, HP0.out⟩
      case round =>
        obtain ⟨k, q, m2, hk, rfl, rfl, hS3, hrow3, hF3⟩ := hrel
        have HS3 := Lib.hid hS3
        have HR3 := Lib.hid hrow3
        have HF3 := Lib.hid hF3
        clear hS3 hF3
        have hN2 : N ≤ 2 := by have := HNL.out; have := HNZ.out; omega
        by_cases hlk : k < N
        · have hl : k < zs.length := by rw [HNZ.out]; exact hlk
          obtain ⟨bb, off2, rfl, hbb, hcells⟩ := hrow3.at_ (by omega)
          have f0 := hcells k _ (ints_get hl)
          obtain ⟨r, hre⟩ : ∃ r, r = zs.getD k 0 := ⟨_, rfl⟩
          have hzr : zs[k]? = some r := by rw [hre, List.getD_eq_getElem?_getD, List.getElem?_eq_getElem hl]; rfl
          rw [← hre] at f0
          have hr15 := HNR.out r (by rw [hre]; exact getD_mem hl)
          have HST := Lib.hid (HF3.out.trans (HZA.out k r q hzr))
          obtain ⟨x, rfl, hx15⟩ := nat_of hr15
          have f1 := HS3.out.box.cell (oV_at HS3.out.mv.ok.1 hx15)
          have f2 := HS3.out.box.frozen x
          have hne : bb ≠ b := by have := HN2.out _ _ _ rfl; simp only at this; omega
          have g0 : (0 : Int) ≤ k := by omega
          have g1 : (k : Int) < N := by omega
          have g2 : (x : Int) ≤ 15 := by omega
          have g3 : (0 : Int) ≤ x := by omega
          have hbz := HS3.out.box.lt
          cases hq : (atO q x == 2)
          · have HPN := Lib.hid (putA_no (o := q) (r := (x : Int)) (by simpa using hq))
            clear hcells hre hzr hl
            go_wp2_with fail
            go_roundw
            case rel => exact ⟨k + 1, q, m2, by omega, rfl, by go_num, HS3.out, HR3.out, by rw [HST.out, HPN.out]⟩
            case measure => simp only [intOf]; omega
          · have hq2 : atO q x = 2 := by simpa using hq
            have HPY := Lib.hid (put_yes hq2)
            have HSP := Lib.hid (HS3.out.put (r := (x : Int)) ⟨g3, g2⟩ hq2)
            have HRP := Lib.hid (row_other HR3.out hne (x : Int).toNat (.int .i64 1))
            have e5 : (x : Int).toNat = x := by omega
            rw [e5] at HSP HRP HPY
            clear hcells hre hzr hl e5
            go_wp2_with fail
            go_roundw
            case rel => exact ⟨k + 1, q.set x 1, true, by omega, rfl, by go_num, HSP.out, HRP.out, by rw [HST.out, HPY.out]⟩
            case measure => simp only [intOf]; omega
        · have HFE := Lib.hid (HF3.out.trans (HZE.out k q (by rw [HNZ.out]; omega)))
          go_wp2_with fail
          go_roundw
          case rel => exact ⟨j + 1, q, m2, by omega, rfl, by go_num, HS3.out, by rw [HSTEP.out, HFE.out]⟩
          case measure => simp only [intOf]; omega
    · go_wp2_with fail
      go_ret
      exact ⟨m, rfl, by rw [HF.out, HFE.out j p (by rw [Hn.out]; omega)]; exact HS.out⟩
end Go.Proofs.Ytehelfmpcbejeaa.Words

/- Contract of package image's Read: which program bytes are, or why none. -/
import Derived.Test.YthnimeibjannpaaImgRead2
import Derived.Test.YthnimeibjannpaaLinT
namespace Go.Proofs.Ythnimeibjannpaa.Words
open Go.RowKit
set_option linter.unusedVariables false

theorem readNumbers_any (A : Option Addr) (c : Nat) (zs : List Int) (w : World) (h : Row w w.heap.size 1 (.slice A zs.length c) zs.length (zs.map (Value.int .u8))) (hz : ∀ x ∈ zs, 0 ≤ x ∧ x ≤ 255) (n m d : Nat)
    (hno : (headOk zs && numsOk zs) = true → n = numAt zs 4 ∧ m = numAt zs 8 ∧ d = numAt zs 12) (hoff : (headOk zs && numsOk zs) = false → n = 0 ∧ m = 0 ∧ d = 0) :
    Calls Try.prog 22 #[.slice A zs.length c] w fun e w' => e = .returned (.tuple #[.agg #[.int .i64 n, .int .i64 m, .int .i64 d], .bool (headOk zs && numsOk zs)]) ∧ Below w.heap.size w w' := by
  cases hh : headOk zs
  · obtain ⟨rfl, rfl, rfl⟩ := hoff (by rw [hh]; rfl)
    exact readNumbers_head A c zs w h hz hh
  · rw [hh] at hno hoff
    exact readNumbers_nums A c zs w h hz hh n m d hno hoff

set_option maxHeartbeats 1000000 in
theorem imgRead_nums (A : Option Addr) (c : Nat) (zs : List Int) (w : World) (h : Row w w.heap.size 1 (.slice A zs.length c) zs.length (zs.map (Value.int .u8))) (hz : ∀ x ∈ zs, 0 ≤ x ∧ x ≤ 255) (hh : (headOk zs && numsOk zs) = false) :
    Calls Try.prog 11 #[.slice A zs.length c] w fun e w' => e = .returned (.tuple #[.agg #[.slice none 0 0, .int .i64 0, .slice none 0 0], .int .i64 2]) ∧ Below w.heap.size w w' := by
  have hR := (h.alloc (Nat.le_refl _) (.cells #[.slice none 0 0, .int .i64 0, .slice none 0 0] 25)).more (B' := (w.alloc (.cells #[.slice none 0 0, .int .i64 0, .slice none 0 0] 25)).heap.size) (by simp)
  go_enter Try.func11, Try.ntmps11
  go_wp2_with fail
  refine (readNumbers_any A c zs _ hR hz 0 0 0 (by rw [hh]; intro h; cases h) (fun _ => ⟨rfl, rfl, rfl⟩)).mono ?_; rintro e w1 ⟨rfl, hb1⟩
  rw [hh]
  have kk : Kept (w.alloc (.cells #[.slice none 0 0, .int .i64 0, .slice none 0 0] 25)) w1 := hb1
  have hs : w.heap.size < (w.alloc (.cells #[.slice none 0 0, .int .i64 0, .slice none 0 0] 25)).heap.size := by simp
  have z0 : w1.cell? ⟨w.heap.size, 0, none⟩ = some (.slice none 0 0) := kk.cell hs (by go_simp)
  have z1 : w1.cell? ⟨w.heap.size, 1, none⟩ = some (.int .i64 0) := kk.cell hs (by go_simp)
  have z2 : w1.cell? ⟨w.heap.size, 2, none⟩ = some (.slice none 0 0) := kk.cell hs (by go_simp)
  have f0 : w1.frozen? ⟨w.heap.size, 0, none⟩ = false := below_frozen hb1 hs (by go_simp)
  have f1 : w1.frozen? ⟨w.heap.size, 1, none⟩ = false := below_frozen hb1 hs (by go_simp)
  have f2 : w1.frozen? ⟨w.heap.size, 2, none⟩ = false := below_frozen hb1 hs (by go_simp)
  have hW : Below w.heap.size w w1 := ((Below.refl w.heap.size w).alloc (Nat.le_refl _) _).trans (kk.mono (Nat.le_of_lt hs))
  have hs1 : w.heap.size < w1.heap.size := by have := kk.size; omega
  clear hb1 kk hs hR
  go_wp2_with fail
  refine bodyPost_ret (v := .tuple #[.agg #[.slice none 0 0, .int .i64 0, .slice none 0 0], .int .i64 2]) (by simp [results, Try.results11, go_sem, z0, z1, z2, hs1]; done) rfl ⟨rfl, ?_⟩
  exact Below.alloc (((hW.setCell (by simp) _).setCell (by simp) _).setCell (by simp) _) (by simp; omega) _

/-- A program in memory of the call's own. -/
structure OwnP (w : World) (base : Nat) (vc vd : Value) (p : Prog) : Prop where
  code : w.ownsRow base 41 5 vc p.code.length (codeCells p.code)
  data : w.ownsRow base 5 1 vd p.data.length (p.data.map (Value.int .u8))
theorem OwnP.prog {w : World} {base : Nat} {vc vd : Value} {p : Prog} (h : OwnP w base vc vd p) : ProgV w w.heap.size vc vd p := ⟨Row.of_own h.code, Row.of_own h.data⟩

set_option maxHeartbeats 2000000 in
theorem imgRead_code (b off c : Nat) (zs : List Int) (w : World) (h : Row w w.heap.size 1 (.slice (some ⟨b, off, none⟩) zs.length c) zs.length (zs.map (Value.int .u8))) (hz : ∀ x ∈ zs, 0 ≤ x ∧ x ≤ 255) (hh : (headOk zs && numsOk zs) = true) :
    Calls Try.prog 11 #[.slice (some ⟨b, off, none⟩) zs.length c] w fun e w' => ∃ vc vd, e = .returned (.tuple #[.agg #[vc, .int .i64 (readP zs).size, vd], .int .i64 (readE zs)]) ∧ OwnP w' w.heap.size vc vd (readP zs) ∧ Below w.heap.size w w' := by
  obtain ⟨i0, hi, hz0, hz1, hz2⟩ := info_parts info_u8
  have HZ2 := Lib.hid hz2
  clear hz2
  obtain ⟨hh1, hh2⟩ := Bool.and_eq_true_iff.1 hh
  obtain ⟨n1, n2, n3, n4, n5⟩ := nums_parts hh2
  obtain ⟨u1, u2⟩ := h.cap
  have hR := (h.alloc (Nat.le_refl _) (.cells #[.slice none 0 0, .int .i64 0, .slice none 0 0] 25)).more (B' := (w.alloc (.cells #[.slice none 0 0, .int .i64 0, .slice none 0 0] 25)).heap.size) (by simp)
  have HB1 := Lib.hid hh1
  have HB2 := Lib.hid hh2
  have HH := Lib.hid hh
  have HZ := Lib.hid hz
  clear h hh1 hh2
  generalize hN : numAt zs 4 = n at *
  generalize hM : numAt zs 8 = m at *
  generalize hD : numAt zs 12 = d at *
  have HN := Lib.hid hN
  have HM := Lib.hid hM
  have HD := Lib.hid hD
  have hoff := Lib.hid (fun (h : (headOk zs && numsOk zs) = false) => (show n = 0 ∧ m = 0 ∧ d = 0 by rw [hh] at h; cases h))
  have HL := Lib.hid n5
  have hl16 := Lib.hid (show 16 + 4 * n ≤ zs.length by omega)
  clear hN hM hD n5
  go_enter Try.func11, Try.ntmps11
  go_wp2_with fail
  refine (readNumbers_any (some ⟨b, off, none⟩) c zs _ hR hz n m d (fun _ => ⟨HN.out.symm, HM.out.symm, HD.out.symm⟩) hoff.out).mono ?_; rintro e w1 ⟨rfl, hb1⟩
  rw [HH.out]
  clear hz hh
  have kk : Kept (w.alloc (.cells #[.slice none 0 0, .int .i64 0, .slice none 0 0] 25)) w1 := hb1
  have hs : w.heap.size < (w.alloc (.cells #[.slice none 0 0, .int .i64 0, .slice none 0 0] 25)).heap.size := by simp
  have z0 : w1.cell? ⟨w.heap.size, 0, none⟩ = some (.slice none 0 0) := kk.cell hs (by go_simp)
  have z1 : w1.cell? ⟨w.heap.size, 1, none⟩ = some (.int .i64 0) := kk.cell hs (by go_simp)
  have z2 : w1.cell? ⟨w.heap.size, 2, none⟩ = some (.slice none 0 0) := kk.cell hs (by go_simp)
  have zf : ∀ k, w1.frozen? ⟨w.heap.size, k, none⟩ = false := fun k => below_frozen hb1 hs (by go_simp)
  have hW : Below w.heap.size w w1 := ((Below.refl w.heap.size w).alloc (Nat.le_refl _) _).trans (kk.mono (Nat.le_of_lt hs))
  have hs1 : w.heap.size < w1.heap.size := by have := kk.size; omega
  have hR1 := kk.row hR
  clear hb1 kk hs hR
  have k2 : Kept w1 (w1.alloc (.cells #[.int .i64 n, .int .i64 m, .int .i64 d] 49)) := (Kept.refl w1).alloc _
  have e0 : (w1.alloc (.cells #[.int .i64 n, .int .i64 m, .int .i64 d] 49)).cell? ⟨w1.heap.size, 0, none⟩ = some (.int .i64 n) := by go_simp
  have e1 : (w1.alloc (.cells #[.int .i64 n, .int .i64 m, .int .i64 d] 49)).cell? ⟨w1.heap.size, 1, none⟩ = some (.int .i64 m) := by go_simp
  have e2 : (w1.alloc (.cells #[.int .i64 n, .int .i64 m, .int .i64 d] 49)).cell? ⟨w1.heap.size, 2, none⟩ = some (.int .i64 d) := by go_simp
  have hB2 : w1.heap.size < (w1.alloc (.cells #[.int .i64 n, .int .i64 m, .int .i64 d] 49)).heap.size := by simp
  go_wp2_with fail
  generalize w1.alloc (.cells #[.int .i64 n, .int .i64 m, .int .i64 d] 49) = W2 at *
  have E1 := Lib.hid (fun (x : World) (h : Kept W2 x) => h.cell hB2 e1)
  have E2 := Lib.hid (fun (x : World) (h : Kept W2 x) => h.cell hB2 e2)
  have Z0 := Lib.hid (fun (x : World) (h : Kept W2 x) => (k2.trans h).cell hs1 z0)
  have Z1 := Lib.hid (fun (x : World) (h : Kept W2 x) => (k2.trans h).cell hs1 z1)
  have Z2 := Lib.hid (fun (x : World) (h : Kept W2 x) => (k2.trans h).cell hs1 z2)
  have ZF := Lib.hid (fun (x : World) (h : Kept W2 x) (k : Nat) => below_frozen (k2.trans h) hs1 (zf k))
  have HWB := Lib.hid (fun (x : World) (h : Kept W2 x) => hW.trans ((k2.trans h).mono (Nat.le_of_lt hs1)))
  have hWs : w.heap.size < W2.heap.size := by omega
  have hR2 := k2.row hR1
  clear z0 z1 z2 zf e0 e1 e2 hW hR1
  refine (readCode_any (some ⟨b, off, none⟩) c n zs _ hR2 HZ.out hl16.out (by omega)).mono ?_; rintro e w3 ⟨v, rfl, own3, hb3⟩
  have k3 : Kept W2 w3 := hb3
  have z0 := Z0.out _ k3
  have z1 := Z1.out _ k3
  have z2 := Z2.out _ k3
  have f0 := ZF.out _ k3 0
  have f1 := ZF.out _ k3 1
  have f2 := ZF.out _ k3 2
  have e1 := E1.out _ k3
  have e2 := E2.out _ k3
  have hs3 : w.heap.size < w3.heap.size := by have := k3.size; omega
  clear hb3
  cases hdn : decodedTo zs n
  · have hcode := Lib.hid (read_code HB1.out HB2.out (by rw [HN.out]; exact hdn))
    clear hdn
    go_wp2_with fail
    obtain ⟨q1, q2⟩ := hcode.out
    rw [q1, q2]
    refine bodyPost_ret (v := .tuple #[.agg #[.slice none 0 0, .int .i64 0, .slice none 0 0], .int .i64 3]) (by simp [results, Try.results11, go_sem, z0, z1, z2]; done) rfl ⟨.slice none 0 0, .slice none 0 0, rfl, ⟨World.ownsRow_nil _ _ _ _, World.ownsRow_nil _ _ _ _⟩, ?_⟩
    exact (((HWB.out _ k3).setCell (by simp) _).setCell (by simp) _).setCell (by simp) _
  have hdn' := Lib.hid hdn
  have hcr : codeR zs n = codeTo zs n := by unfold codeR; rw [if_pos hdn]
  rw [hcr, codeTo_len] at own3
  clear hdn hcr
  obtain ⟨A2, cv2, rfl⟩ := (Row.of_own own3).form
  have n5 := HL.out
  generalize hLL : zs.length = L at *
  have HLL := Lib.hid hLL
  clear hLL
  subst n5
  clear HL hl16
  have hd1 : Row W2 W2.heap.size 1 (.slice (some ⟨b, off + (16 + 4 * n), none⟩) d (c - (16 + 4 * n))) d ((zs.drop (16 + 4 * n)).map (Value.int .u8)) := by
    have := Row.back (k := 16 + 4 * n) hR2 (by omega)
    rwa [Nat.add_sub_cancel_left] at this
  have hd2 : c = 16 + 4 * n → Row W2 W2.heap.size 1 (.slice (some ⟨b, off, none⟩) d 0) d ((zs.drop (16 + 4 * n)).map (Value.int .u8)) := by
    intro hc
    have hd0 : d = 0 := by omega
    subst hd0
    refine ⟨?_, _, _, rfl, Nat.le_refl _, by omega, (fun h => by cases h), fun h => absurd rfl h⟩
    have := HLL.out
    simp; omega
  have HD1 := Lib.hid hd1
  have HD2 := Lib.hid hd2
  clear hd1 hd2
  have C1 : ∀ x, Kept w3 x → x.cell? ⟨w1.heap.size, 1, none⟩ = some (.int .i64 m) := fun x h => E1.out x (k3.trans h)
  have HO3 := Lib.hid own3
  clear own3
  by_cases hcc : c = 16 + 4 * n
  rotate_left
  · have hd := HD1.out
    clear HD1 HD2
    go_wp2_with fail
    rw [Nat.add_sub_cancel_left]
    generalize Value.slice (some ⟨b, off + (16 + 4 * n), none⟩) d (c - (16 + 4 * n)) = V7 at *
    replace hd := k3.row hd
    have k6 : Kept w3 w3.drew := (Kept.refl w3).drew
    clear e1 e2
    refine wp_region_tree _ (LinT.of [(0, true), (1, true), (2, true), (3, true)] (.two 4 6 (LinT.of [(5, true), (6, false), (7, false)] .nil) (LinT.of [(4, false), (5, true), (7, false)] .nil))) (by kernel_rfl) (by kernel_rfl) rfl (by kernel_rfl) (Kept w3) (fun _ _ h => h) ?_
    simp only [LinT.of, LinT.look, List.getElem?_toArray, List.getElem?_cons_succ, List.getElem?_cons_zero]
    iterate 4 (refine tree_take (v := ?_) (by assumption) (by rfl) ?_ ?_; rotate_left; (intro x hx; (try dsimp only at hx); go_simp; try (with_reducible rfl)); (simp only [Act.put, List.setIfInBounds_toArray, List.set_cons_zero, List.set_cons_succ]))
    refine tree_two (by assumption) (by rfl) (by rfl) (fun K hK => ?_) (fun K hK => ?_)
    · refine wp_append_row _ (.const (.slice none 0 0)) (.tmp 38) 23 rfl w3.heap.size 5 i0 (.int .u8 0) 1 1 Try.underlying23 hi hz0 hz1 HZ2.out rfl (by omega) (.slice none 0 0) 0 [] rfl (World.ownsRow_nil _ _ _ _) _ V7 d _ rfl (k6.row hd) (u8_one _) (by unfold maxLen; omega) (by omega) k6.size ?_
      intro v' y1 hown1 hg1
      simp only [Nat.zero_add, List.nil_append] at hown1
      obtain ⟨Av, cw, rfl⟩ := (Row.of_own hown1).form
      have k7 : Kept w3 y1 := Below.grown k6 hg1 k6.size (fun k hk => (by cases hk))
      refine hK.out _ _ k7 (fun _ => ?_)
      clear hK K
      simp only [Act.put, List.setIfInBounds_toArray, List.set_cons_zero, List.set_cons_succ]
      (refine tree_take (v := ?_) (by assumption) (by rfl) ?_ ?_; rotate_left; (intro x hx; (try dsimp only at hx); go_simp; try (with_reducible rfl)); (simp only [Act.put, List.setIfInBounds_toArray, List.set_cons_zero, List.set_cons_succ]))
      refine tree_call (by assumption) (by rfl) (fun K hK => ?_)
      go_simp
      refine hK.out _ _ (k7.alloc _) (fun _ => ?_)
      clear hK K
      try simp only [Act.put, List.setIfInBounds_toArray, List.set_cons_zero, List.set_cons_succ]
      refine tree_call (by assumption) (by rfl) (fun K hK => ?_)
      go_simp
      have kY : Kept w3 (y1.alloc (.cells #[.slice A2 n cv2, .int .i64 m, .slice Av d cw] 25)) := k7.alloc _
      refine hK.out _ _ kY (fun _ => ?_)
      clear hK K
      refine tree_done ?_
      have b0 : (y1.alloc (.cells #[.slice A2 n cv2, .int .i64 m, .slice Av d cw] 25)).cell? ⟨y1.heap.size, 0, none⟩ = some (.slice A2 n cv2) := by go_simp
      have b1 : (y1.alloc (.cells #[.slice A2 n cv2, .int .i64 m, .slice Av d cw] 25)).cell? ⟨y1.heap.size, 1, none⟩ = some (.int .i64 m) := by go_simp
      have b2 : (y1.alloc (.cells #[.slice A2 n cv2, .int .i64 m, .slice Av d cw] 25)).cell? ⟨y1.heap.size, 2, none⟩ = some (.slice Av d cw) := by go_simp
      have hPB : y1.heap.size < (y1.alloc (.cells #[.slice A2 n cv2, .int .i64 m, .slice Av d cw] 25)).heap.size := by simp
      have ownD : (y1.alloc (.cells #[.slice A2 n cv2, .int .i64 m, .slice Av d cw] 25)).ownsRow w3.heap.size 5 1 (.slice Av d cw) d _ := hown1.alloc _
      have ownC := own_below HO3.out kY
      generalize (y1.alloc (.cells #[.slice A2 n cv2, .int .i64 m, .slice Av d cw] 25)) = Y at *
      clear hown1 hg1 k7 k6
      generalize y1.heap.size = PB at *
      have kY2 : Kept W2 Y := k3.trans kY
      have z0 := Z0.out _ kY2
      have z1 := Z1.out _ kY2
      have z2 := Z2.out _ kY2
      have f0 := ZF.out _ kY2 0
      have f1 := ZF.out _ kY2 1
      have f2 := ZF.out _ kY2 2
      have hsY : w.heap.size < Y.heap.size := by have := kY2.size; omega
      have hT := targets_any A2 cv2 m (.slice Av d cw) (codeTo zs n) Y (by rw [codeTo_len]; exact Row.of_own ownC) (by rw [codeTo_len]; omega)
      rw [codeTo_len] at hT
      have HT := Lib.hid hT
      have OD := Lib.hid ownD
      have OC := Lib.hid ownC
      clear hT ownD ownC C1 HO3
      go_wp2_with fail
      refine HT.out.mono ?_; rintro e x2 ⟨rfl, hb2⟩
      have kx : Kept W2 x2 := kY2.to hb2
      have b0 := below_cell hb2 hPB b0
      have b1 := below_cell hb2 hPB b1
      have b2 := below_cell hb2 hPB b2
      have z0 := below_cell hb2 hsY z0
      have z1 := below_cell hb2 hsY z1
      have z2 := below_cell hb2 hsY z2
      have f0 := below_frozen hb2 hsY f0
      have f1 := below_frozen hb2 hsY f1
      have f2 := below_frozen hb2 hsY f2
      have oc := own_below OC.out hb2
      have od := own_below OD.out hb2
      clear hb2
      cases ht : targetsOk n 0 (codeTo zs n)
      · have hcode := Lib.hid (read_targets HB1.out HB2.out (by rw [HN.out]; exact hdn'.out) (by rw [HN.out]; exact ht))
        have e4 : errT false = 4 := rfl
        rw [e4]
        clear ht
        go_wp2_with fail
        obtain ⟨q1, q2⟩ := hcode.out
        rw [q1, q2]
        refine bodyPost_ret (v := .tuple #[.agg #[.slice none 0 0, .int .i64 0, .slice none 0 0], .int .i64 4]) (by simp [results, Try.results11, go_sem, z0, z1, z2]; done) rfl ⟨.slice none 0 0, .slice none 0 0, rfl, ⟨World.ownsRow_nil _ _ _ _, World.ownsRow_nil _ _ _ _⟩, ?_⟩
        exact (((HWB.out _ kx).setCell (by simp) _).setCell (by simp) _).setCell (by simp) _
      · have hcode := Lib.hid (read_yes HB1.out HB2.out (by rw [HN.out]; exact hdn'.out) (by rw [HN.out]; exact ht))
        have e4 : errT true = 0 := rfl
        rw [e4]
        clear ht
        go_wp2_with fail
        obtain ⟨q1, q2⟩ := hcode.out
        rw [q1, q2]
        have hc : (readG zs).code = codeTo zs n := by show codeTo zs (numAt zs 4) = _; rw [HN.out]
        have hsz : (readG zs).size = (m : Int) := by show ((numAt zs 8 : Nat) : Int) = m; rw [HM.out]
        have hda : (readG zs).data = zs.drop (16 + 4 * n) := by show zs.drop (16 + 4 * numAt zs 4) = _; rw [HN.out]
        have hdl : (zs.drop (16 + 4 * n)).length = d := by rw [List.length_drop, HLL.out]; omega
        have hne1 : (Value.slice A2 n cv2).ownBlock ≠ some w.heap.size := fun h => by have := (oc.lt _ h).1; omega
        have hne2 : (Value.slice Av d cw).ownBlock ≠ some w.heap.size := fun h => by have := (od.lt _ h).1; omega
        rw [hsz]
        refine bodyPost_ret (v := .tuple #[.agg #[.slice A2 n cv2, .int .i64 m, .slice Av d cw], .int .i64 0]) (by simp [results, Try.results11, go_sem, z0, z1, z2]; done) rfl ⟨.slice A2 n cv2, .slice Av d cw, rfl, ⟨?_, ?_⟩, ?_⟩
        · rw [hc, codeTo_len]
          exact own_base (ownsRow_setCell_other (ownsRow_setCell_other (ownsRow_setCell_other oc hne1 _) hne1 _) hne1 _) (by omega)
        · rw [hda, hdl]
          exact own_base (ownsRow_setCell_other (ownsRow_setCell_other (ownsRow_setCell_other od hne2 _) hne2 _) hne2 _) (by omega)
        · exact (((HWB.out _ kx).setCell (by simp) _).setCell (by simp) _).setCell (by simp) _
    · go_simp
      have k7 : Kept w3 ((w3.alloc (.cells #[.slice none 0 0, .int .i64 0, .slice none 0 0] 25)).drew) := ((Kept.refl w3).alloc _).drew
      refine hK.out _ _ k7 (fun _ => ?_)
      clear hK K
      try simp only [Act.put, List.setIfInBounds_toArray, List.set_cons_zero, List.set_cons_succ]
      refine tree_call (by assumption) (by rfl) (fun K hK => ?_)
      have p0 : ((w3.alloc (.cells #[.slice none 0 0, .int .i64 0, .slice none 0 0] 25)).drew).cell? ⟨w3.heap.size, 0, none⟩ = some (.slice none 0 0) := by go_simp
      have p1 : ((w3.alloc (.cells #[.slice none 0 0, .int .i64 0, .slice none 0 0] 25)).drew).cell? ⟨w3.heap.size, 1, none⟩ = some (.int .i64 0) := by go_simp
      have p2 : ((w3.alloc (.cells #[.slice none 0 0, .int .i64 0, .slice none 0 0] 25)).drew).cell? ⟨w3.heap.size, 2, none⟩ = some (.slice none 0 0) := by go_simp
      have pf : ∀ k, ((w3.alloc (.cells #[.slice none 0 0, .int .i64 0, .slice none 0 0] 25)).drew).frozen? ⟨w3.heap.size, k, none⟩ = false := fun k => by go_simp
      have ps : ((w3.alloc (.cells #[.slice none 0 0, .int .i64 0, .slice none 0 0] 25)).drew).heap.size = w3.heap.size + 1 := by simp
      generalize (w3.alloc (.cells #[.slice none 0 0, .int .i64 0, .slice none 0 0] 25)).drew = W4 at *
      have p3 : w3.heap.size < W4.heap.size := by omega
      refine wp_append_row _ (.const (.slice none 0 0)) (.tmp 38) 23 rfl (w3.heap.size + 1) 5 i0 (.int .u8 0) 1 1 Try.underlying23 hi hz0 hz1 HZ2.out rfl (by omega) (.slice none 0 0) 0 [] rfl (World.ownsRow_nil _ _ _ _) _ V7 d _ rfl (k7.row hd) (u8_one _) (by unfold maxLen; omega) (by omega) (by omega) ?_
      intro v' y1 hown1 hg1
      simp only [Nat.zero_add, List.nil_append] at hown1
      obtain ⟨Av, cw, rfl⟩ := (Row.of_own hown1).form
      have k8 : Kept W4 y1 := Below.grown (Kept.refl W4) hg1 (Nat.le_refl _) (fun k hk => (by cases hk))
      have p0 := k8.cell p3 p0
      have p1 := k8.cell p3 p1
      have p2 := k8.cell p3 p2
      have pf0 := below_frozen k8 p3 (pf 0)
      have pf1 := below_frozen k8 p3 (pf 1)
      have pf2 := below_frozen k8 p3 (pf 2)
      have k9 : Kept w3 y1 := k7.trans k8
      have hs9 : w3.heap.size < y1.heap.size := by have := k8.size; omega
      refine hK.out _ _ k9 (fun _ => ?_)
      clear hK K pf hg1
      simp only [Act.put, List.setIfInBounds_toArray, List.set_cons_zero, List.set_cons_succ]
      (refine tree_take (v := ?_) (by assumption) (by rfl) ?_ ?_; rotate_left; (intro x hx; (try dsimp only at hx); go_simp; try (with_reducible rfl)); (simp only [Act.put, List.setIfInBounds_toArray, List.set_cons_zero, List.set_cons_succ]))
      refine tree_call (by assumption) (by rfl) (fun K hK => ?_)
      go_simp
      have kY : Kept w3 (((y1.setCell ⟨w3.heap.size, 0, none⟩ (.slice A2 n cv2)).setCell ⟨w3.heap.size, 1, none⟩ (.int .i64 m)).setCell ⟨w3.heap.size, 2, none⟩ (.slice Av d cw)) := ((Below.setCell k9 (by simp) _).setCell (by simp) _).setCell (by simp) _
      refine hK.out _ _ kY (fun _ => ?_)
      clear hK K
      refine tree_done ?_
      have b0 : (((y1.setCell ⟨w3.heap.size, 0, none⟩ (.slice A2 n cv2)).setCell ⟨w3.heap.size, 1, none⟩ (.int .i64 m)).setCell ⟨w3.heap.size, 2, none⟩ (.slice Av d cw)).cell? ⟨w3.heap.size, 0, none⟩ = some (.slice A2 n cv2) := by go_simp
      have b1 : (((y1.setCell ⟨w3.heap.size, 0, none⟩ (.slice A2 n cv2)).setCell ⟨w3.heap.size, 1, none⟩ (.int .i64 m)).setCell ⟨w3.heap.size, 2, none⟩ (.slice Av d cw)).cell? ⟨w3.heap.size, 1, none⟩ = some (.int .i64 m) := by go_simp
      have b2 : (((y1.setCell ⟨w3.heap.size, 0, none⟩ (.slice A2 n cv2)).setCell ⟨w3.heap.size, 1, none⟩ (.int .i64 m)).setCell ⟨w3.heap.size, 2, none⟩ (.slice Av d cw)).cell? ⟨w3.heap.size, 2, none⟩ = some (.slice Av d cw) := by go_simp
      have hPB : w3.heap.size < (((y1.setCell ⟨w3.heap.size, 0, none⟩ (.slice A2 n cv2)).setCell ⟨w3.heap.size, 1, none⟩ (.int .i64 m)).setCell ⟨w3.heap.size, 2, none⟩ (.slice Av d cw)).heap.size := by simpa using hs9
      have ownD : (((y1.setCell ⟨w3.heap.size, 0, none⟩ (.slice A2 n cv2)).setCell ⟨w3.heap.size, 1, none⟩ (.int .i64 m)).setCell ⟨w3.heap.size, 2, none⟩ (.slice Av d cw)).ownsRow w3.heap.size 5 1 (.slice Av d cw) d _ := own_base (ownsRow_setCell_below (ownsRow_setCell_below (ownsRow_setCell_below hown1 (Nat.lt_succ_self _) _) (Nat.lt_succ_self _) _) (Nat.lt_succ_self _) _) (Nat.le_succ _)
      have ownC := own_below HO3.out kY
      generalize (((y1.setCell ⟨w3.heap.size, 0, none⟩ (.slice A2 n cv2)).setCell ⟨w3.heap.size, 1, none⟩ (.int .i64 m)).setCell ⟨w3.heap.size, 2, none⟩ (.slice Av d cw)) = Y at *
      clear hown1 k7 k6 k8 k9 p0 p1 p2 pf0 pf1 pf2 p3 ps hs9
      have kY2 : Kept W2 Y := k3.trans kY
      have z0 := Z0.out _ kY2
      have z1 := Z1.out _ kY2
      have z2 := Z2.out _ kY2
      have f0 := ZF.out _ kY2 0
      have f1 := ZF.out _ kY2 1
      have f2 := ZF.out _ kY2 2
      have hsY : w.heap.size < Y.heap.size := by have := kY2.size; omega
      have hT := targets_any A2 cv2 m (.slice Av d cw) (codeTo zs n) Y (by rw [codeTo_len]; exact Row.of_own ownC) (by rw [codeTo_len]; omega)
      rw [codeTo_len] at hT
      have HT := Lib.hid hT
      have OD := Lib.hid ownD
      have OC := Lib.hid ownC
      clear hT ownD ownC C1 HO3
      go_wp2_with fail
      refine HT.out.mono ?_; rintro e x2 ⟨rfl, hb2⟩
      have kx : Kept W2 x2 := kY2.to hb2
      have b0 := below_cell hb2 hPB b0
      have b1 := below_cell hb2 hPB b1
      have b2 := below_cell hb2 hPB b2
      have z0 := below_cell hb2 hsY z0
      have z1 := below_cell hb2 hsY z1
      have z2 := below_cell hb2 hsY z2
      have f0 := below_frozen hb2 hsY f0
      have f1 := below_frozen hb2 hsY f1
      have f2 := below_frozen hb2 hsY f2
      have oc := own_below OC.out hb2
      have od := own_below OD.out hb2
      clear hb2
      cases ht : targetsOk n 0 (codeTo zs n)
      · have hcode := Lib.hid (read_targets HB1.out HB2.out (by rw [HN.out]; exact hdn'.out) (by rw [HN.out]; exact ht))
        have e4 : errT false = 4 := rfl
        rw [e4]
        clear ht
        go_wp2_with fail
        obtain ⟨q1, q2⟩ := hcode.out
        rw [q1, q2]
        refine bodyPost_ret (v := .tuple #[.agg #[.slice none 0 0, .int .i64 0, .slice none 0 0], .int .i64 4]) (by simp [results, Try.results11, go_sem, z0, z1, z2]; done) rfl ⟨.slice none 0 0, .slice none 0 0, rfl, ⟨World.ownsRow_nil _ _ _ _, World.ownsRow_nil _ _ _ _⟩, ?_⟩
        exact (((HWB.out _ kx).setCell (by simp) _).setCell (by simp) _).setCell (by simp) _
      · have hcode := Lib.hid (read_yes HB1.out HB2.out (by rw [HN.out]; exact hdn'.out) (by rw [HN.out]; exact ht))
        have e4 : errT true = 0 := rfl
        rw [e4]
        clear ht
        go_wp2_with fail
        obtain ⟨q1, q2⟩ := hcode.out
        rw [q1, q2]
        have hc : (readG zs).code = codeTo zs n := by show codeTo zs (numAt zs 4) = _; rw [HN.out]
        have hsz : (readG zs).size = (m : Int) := by show ((numAt zs 8 : Nat) : Int) = m; rw [HM.out]
        have hda : (readG zs).data = zs.drop (16 + 4 * n) := by show zs.drop (16 + 4 * numAt zs 4) = _; rw [HN.out]
        have hdl : (zs.drop (16 + 4 * n)).length = d := by rw [List.length_drop, HLL.out]; omega
        have hne1 : (Value.slice A2 n cv2).ownBlock ≠ some w.heap.size := fun h => by have := (oc.lt _ h).1; omega
        have hne2 : (Value.slice Av d cw).ownBlock ≠ some w.heap.size := fun h => by have := (od.lt _ h).1; omega
        rw [hsz]
        refine bodyPost_ret (v := .tuple #[.agg #[.slice A2 n cv2, .int .i64 m, .slice Av d cw], .int .i64 0]) (by simp [results, Try.results11, go_sem, z0, z1, z2]; done) rfl ⟨.slice A2 n cv2, .slice Av d cw, rfl, ⟨?_, ?_⟩, ?_⟩
        · rw [hc, codeTo_len]
          exact own_base (ownsRow_setCell_other (ownsRow_setCell_other (ownsRow_setCell_other oc hne1 _) hne1 _) hne1 _) (by omega)
        · rw [hda, hdl]
          exact own_base (ownsRow_setCell_other (ownsRow_setCell_other (ownsRow_setCell_other od hne2 _) hne2 _) hne2 _) (by omega)
        · exact (((HWB.out _ kx).setCell (by simp) _).setCell (by simp) _).setCell (by simp) _
  · have hd := HD2.out hcc
    subst hcc
    clear HD1 HD2
    go_wp2_with fail
    rw [Nat.add_sub_cancel_left, Nat.sub_self]
    generalize Value.slice (some ⟨b, off, none⟩) d 0 = V7 at *
    replace hd := k3.row hd
    have k6 : Kept w3 w3.drew := (Kept.refl w3).drew
    clear e1 e2
    refine wp_region_tree _ (LinT.of [(0, true), (1, true), (2, true), (3, true)] (.two 4 6 (LinT.of [(5, true), (6, false), (7, false)] .nil) (LinT.of [(4, false), (5, true), (7, false)] .nil))) (by kernel_rfl) (by kernel_rfl) rfl (by kernel_rfl) (Kept w3) (fun _ _ h => h) ?_
    simp only [LinT.of, LinT.look, List.getElem?_toArray, List.getElem?_cons_succ, List.getElem?_cons_zero]
    iterate 4 (refine tree_take (v := ?_) (by assumption) (by rfl) ?_ ?_; rotate_left; (intro x hx; (try dsimp only at hx); go_simp; try (with_reducible rfl)); (simp only [Act.put, List.setIfInBounds_toArray, List.set_cons_zero, List.set_cons_succ]))
    refine tree_two (by assumption) (by rfl) (by rfl) (fun K hK => ?_) (fun K hK => ?_)
    · refine wp_append_row _ (.const (.slice none 0 0)) (.tmp 38) 23 rfl w3.heap.size 5 i0 (.int .u8 0) 1 1 Try.underlying23 hi hz0 hz1 HZ2.out rfl (by omega) (.slice none 0 0) 0 [] rfl (World.ownsRow_nil _ _ _ _) _ V7 d _ rfl (k6.row hd) (u8_one _) (by unfold maxLen; omega) (by omega) k6.size ?_
      intro v' y1 hown1 hg1
      simp only [Nat.zero_add, List.nil_append] at hown1
      obtain ⟨Av, cw, rfl⟩ := (Row.of_own hown1).form
      have k7 : Kept w3 y1 := Below.grown k6 hg1 k6.size (fun k hk => (by cases hk))
      refine hK.out _ _ k7 (fun _ => ?_)
      clear hK K
      simp only [Act.put, List.setIfInBounds_toArray, List.set_cons_zero, List.set_cons_succ]
      (refine tree_take (v := ?_) (by assumption) (by rfl) ?_ ?_; rotate_left; (intro x hx; (try dsimp only at hx); go_simp; try (with_reducible rfl)); (simp only [Act.put, List.setIfInBounds_toArray, List.set_cons_zero, List.set_cons_succ]))
      refine tree_call (by assumption) (by rfl) (fun K hK => ?_)
      go_simp
      refine hK.out _ _ (k7.alloc _) (fun _ => ?_)
      clear hK K
      try simp only [Act.put, List.setIfInBounds_toArray, List.set_cons_zero, List.set_cons_succ]
      refine tree_call (by assumption) (by rfl) (fun K hK => ?_)
      go_simp
      have kY : Kept w3 (y1.alloc (.cells #[.slice A2 n cv2, .int .i64 m, .slice Av d cw] 25)) := k7.alloc _
      refine hK.out _ _ kY (fun _ => ?_)
      clear hK K
      refine tree_done ?_
      have b0 : (y1.alloc (.cells #[.slice A2 n cv2, .int .i64 m, .slice Av d cw] 25)).cell? ⟨y1.heap.size, 0, none⟩ = some (.slice A2 n cv2) := by go_simp
      have b1 : (y1.alloc (.cells #[.slice A2 n cv2, .int .i64 m, .slice Av d cw] 25)).cell? ⟨y1.heap.size, 1, none⟩ = some (.int .i64 m) := by go_simp
      have b2 : (y1.alloc (.cells #[.slice A2 n cv2, .int .i64 m, .slice Av d cw] 25)).cell? ⟨y1.heap.size, 2, none⟩ = some (.slice Av d cw) := by go_simp
      have hPB : y1.heap.size < (y1.alloc (.cells #[.slice A2 n cv2, .int .i64 m, .slice Av d cw] 25)).heap.size := by simp
      have ownD : (y1.alloc (.cells #[.slice A2 n cv2, .int .i64 m, .slice Av d cw] 25)).ownsRow w3.heap.size 5 1 (.slice Av d cw) d _ := hown1.alloc _
      have ownC := own_below HO3.out kY
      generalize (y1.alloc (.cells #[.slice A2 n cv2, .int .i64 m, .slice Av d cw] 25)) = Y at *
      clear hown1 hg1 k7 k6
      generalize y1.heap.size = PB at *
      have kY2 : Kept W2 Y := k3.trans kY
      have z0 := Z0.out _ kY2
      have z1 := Z1.out _ kY2
      have z2 := Z2.out _ kY2
      have f0 := ZF.out _ kY2 0
      have f1 := ZF.out _ kY2 1
      have f2 := ZF.out _ kY2 2
      have hsY : w.heap.size < Y.heap.size := by have := kY2.size; omega
      have hT := targets_any A2 cv2 m (.slice Av d cw) (codeTo zs n) Y (by rw [codeTo_len]; exact Row.of_own ownC) (by rw [codeTo_len]; omega)
      rw [codeTo_len] at hT
      have HT := Lib.hid hT
      have OD := Lib.hid ownD
      have OC := Lib.hid ownC
      clear hT ownD ownC C1 HO3
      go_wp2_with fail
      refine HT.out.mono ?_; rintro e x2 ⟨rfl, hb2⟩
      have kx : Kept W2 x2 := kY2.to hb2
      have b0 := below_cell hb2 hPB b0
      have b1 := below_cell hb2 hPB b1
      have b2 := below_cell hb2 hPB b2
      have z0 := below_cell hb2 hsY z0
      have z1 := below_cell hb2 hsY z1
      have z2 := below_cell hb2 hsY z2
      have f0 := below_frozen hb2 hsY f0
      have f1 := below_frozen hb2 hsY f1
      have f2 := below_frozen hb2 hsY f2
      have oc := own_below OC.out hb2
      have od := own_below OD.out hb2
      clear hb2
      cases ht : targetsOk n 0 (codeTo zs n)
      · have hcode := Lib.hid (read_targets HB1.out HB2.out (by rw [HN.out]; exact hdn'.out) (by rw [HN.out]; exact ht))
        have e4 : errT false = 4 := rfl
        rw [e4]
        clear ht
        go_wp2_with fail
        obtain ⟨q1, q2⟩ := hcode.out
        rw [q1, q2]
        refine bodyPost_ret (v := .tuple #[.agg #[.slice none 0 0, .int .i64 0, .slice none 0 0], .int .i64 4]) (by simp [results, Try.results11, go_sem, z0, z1, z2]; done) rfl ⟨.slice none 0 0, .slice none 0 0, rfl, ⟨World.ownsRow_nil _ _ _ _, World.ownsRow_nil _ _ _ _⟩, ?_⟩
        exact (((HWB.out _ kx).setCell (by simp) _).setCell (by simp) _).setCell (by simp) _
      · have hcode := Lib.hid (read_yes HB1.out HB2.out (by rw [HN.out]; exact hdn'.out) (by rw [HN.out]; exact ht))
        have e4 : errT true = 0 := rfl
        rw [e4]
        clear ht
        go_wp2_with fail
        obtain ⟨q1, q2⟩ := hcode.out
        rw [q1, q2]
        have hc : (readG zs).code = codeTo zs n := by show codeTo zs (numAt zs 4) = _; rw [HN.out]
        have hsz : (readG zs).size = (m : Int) := by show ((numAt zs 8 : Nat) : Int) = m; rw [HM.out]
        have hda : (readG zs).data = zs.drop (16 + 4 * n) := by show zs.drop (16 + 4 * numAt zs 4) = _; rw [HN.out]
        have hdl : (zs.drop (16 + 4 * n)).length = d := by rw [List.length_drop, HLL.out]; omega
        have hne1 : (Value.slice A2 n cv2).ownBlock ≠ some w.heap.size := fun h => by have := (oc.lt _ h).1; omega
        have hne2 : (Value.slice Av d cw).ownBlock ≠ some w.heap.size := fun h => by have := (od.lt _ h).1; omega
        rw [hsz]
        refine bodyPost_ret (v := .tuple #[.agg #[.slice A2 n cv2, .int .i64 m, .slice Av d cw], .int .i64 0]) (by simp [results, Try.results11, go_sem, z0, z1, z2]; done) rfl ⟨.slice A2 n cv2, .slice Av d cw, rfl, ⟨?_, ?_⟩, ?_⟩
        · rw [hc, codeTo_len]
          exact own_base (ownsRow_setCell_other (ownsRow_setCell_other (ownsRow_setCell_other oc hne1 _) hne1 _) hne1 _) (by omega)
        · rw [hda, hdl]
          exact own_base (ownsRow_setCell_other (ownsRow_setCell_other (ownsRow_setCell_other od hne2 _) hne2 _) hne2 _) (by omega)
        · exact (((HWB.out _ kx).setCell (by simp) _).setCell (by simp) _).setCell (by simp) _
    · go_simp
      have k7 : Kept w3 ((w3.alloc (.cells #[.slice none 0 0, .int .i64 0, .slice none 0 0] 25)).drew) := ((Kept.refl w3).alloc _).drew
      refine hK.out _ _ k7 (fun _ => ?_)
      clear hK K
      try simp only [Act.put, List.setIfInBounds_toArray, List.set_cons_zero, List.set_cons_succ]
      refine tree_call (by assumption) (by rfl) (fun K hK => ?_)
      have p0 : ((w3.alloc (.cells #[.slice none 0 0, .int .i64 0, .slice none 0 0] 25)).drew).cell? ⟨w3.heap.size, 0, none⟩ = some (.slice none 0 0) := by go_simp
      have p1 : ((w3.alloc (.cells #[.slice none 0 0, .int .i64 0, .slice none 0 0] 25)).drew).cell? ⟨w3.heap.size, 1, none⟩ = some (.int .i64 0) := by go_simp
      have p2 : ((w3.alloc (.cells #[.slice none 0 0, .int .i64 0, .slice none 0 0] 25)).drew).cell? ⟨w3.heap.size, 2, none⟩ = some (.slice none 0 0) := by go_simp
      have pf : ∀ k, ((w3.alloc (.cells #[.slice none 0 0, .int .i64 0, .slice none 0 0] 25)).drew).frozen? ⟨w3.heap.size, k, none⟩ = false := fun k => by go_simp
      have ps : ((w3.alloc (.cells #[.slice none 0 0, .int .i64 0, .slice none 0 0] 25)).drew).heap.size = w3.heap.size + 1 := by simp
      generalize (w3.alloc (.cells #[.slice none 0 0, .int .i64 0, .slice none 0 0] 25)).drew = W4 at *
      have p3 : w3.heap.size < W4.heap.size := by omega
      refine wp_append_row _ (.const (.slice none 0 0)) (.tmp 38) 23 rfl (w3.heap.size + 1) 5 i0 (.int .u8 0) 1 1 Try.underlying23 hi hz0 hz1 HZ2.out rfl (by omega) (.slice none 0 0) 0 [] rfl (World.ownsRow_nil _ _ _ _) _ V7 d _ rfl (k7.row hd) (u8_one _) (by unfold maxLen; omega) (by omega) (by omega) ?_
      intro v' y1 hown1 hg1
      simp only [Nat.zero_add, List.nil_append] at hown1
      obtain ⟨Av, cw, rfl⟩ := (Row.of_own hown1).form
      have k8 : Kept W4 y1 := Below.grown (Kept.refl W4) hg1 (Nat.le_refl _) (fun k hk => (by cases hk))
      have p0 := k8.cell p3 p0
      have p1 := k8.cell p3 p1
      have p2 := k8.cell p3 p2
      have pf0 := below_frozen k8 p3 (pf 0)
      have pf1 := below_frozen k8 p3 (pf 1)
      have pf2 := below_frozen k8 p3 (pf 2)
      have k9 : Kept w3 y1 := k7.trans k8
      have hs9 : w3.heap.size < y1.heap.size := by have := k8.size; omega
      refine hK.out _ _ k9 (fun _ => ?_)
      clear hK K pf hg1
      simp only [Act.put, List.setIfInBounds_toArray, List.set_cons_zero, List.set_cons_succ]
      (refine tree_take (v := ?_) (by assumption) (by rfl) ?_ ?_; rotate_left; (intro x hx; (try dsimp only at hx); go_simp; try (with_reducible rfl)); (simp only [Act.put, List.setIfInBounds_toArray, List.set_cons_zero, List.set_cons_succ]))
      refine tree_call (by assumption) (by rfl) (fun K hK => ?_)
      go_simp
      have kY : Kept w3 (((y1.setCell ⟨w3.heap.size, 0, none⟩ (.slice A2 n cv2)).setCell ⟨w3.heap.size, 1, none⟩ (.int .i64 m)).setCell ⟨w3.heap.size, 2, none⟩ (.slice Av d cw)) := ((Below.setCell k9 (by simp) _).setCell (by simp) _).setCell (by simp) _
      refine hK.out _ _ kY (fun _ => ?_)
      clear hK K
      refine tree_done ?_
      have b0 : (((y1.setCell ⟨w3.heap.size, 0, none⟩ (.slice A2 n cv2)).setCell ⟨w3.heap.size, 1, none⟩ (.int .i64 m)).setCell ⟨w3.heap.size, 2, none⟩ (.slice Av d cw)).cell? ⟨w3.heap.size, 0, none⟩ = some (.slice A2 n cv2) := by go_simp
      have b1 : (((y1.setCell ⟨w3.heap.size, 0, none⟩ (.slice A2 n cv2)).setCell ⟨w3.heap.size, 1, none⟩ (.int .i64 m)).setCell ⟨w3.heap.size, 2, none⟩ (.slice Av d cw)).cell? ⟨w3.heap.size, 1, none⟩ = some (.int .i64 m) := by go_simp
      have b2 : (((y1.setCell ⟨w3.heap.size, 0, none⟩ (.slice A2 n cv2)).setCell ⟨w3.heap.size, 1, none⟩ (.int .i64 m)).setCell ⟨w3.heap.size, 2, none⟩ (.slice Av d cw)).cell? ⟨w3.heap.size, 2, none⟩ = some (.slice Av d cw) := by go_simp
      have hPB : w3.heap.size < (((y1.setCell ⟨w3.heap.size, 0, none⟩ (.slice A2 n cv2)).setCell ⟨w3.heap.size, 1, none⟩ (.int .i64 m)).setCell ⟨w3.heap.size, 2, none⟩ (.slice Av d cw)).heap.size := by simpa using hs9
      have ownD : (((y1.setCell ⟨w3.heap.size, 0, none⟩ (.slice A2 n cv2)).setCell ⟨w3.heap.size, 1, none⟩ (.int .i64 m)).setCell ⟨w3.heap.size, 2, none⟩ (.slice Av d cw)).ownsRow w3.heap.size 5 1 (.slice Av d cw) d _ := own_base (ownsRow_setCell_below (ownsRow_setCell_below (ownsRow_setCell_below hown1 (Nat.lt_succ_self _) _) (Nat.lt_succ_self _) _) (Nat.lt_succ_self _) _) (Nat.le_succ _)
      have ownC := own_below HO3.out kY
      generalize (((y1.setCell ⟨w3.heap.size, 0, none⟩ (.slice A2 n cv2)).setCell ⟨w3.heap.size, 1, none⟩ (.int .i64 m)).setCell ⟨w3.heap.size, 2, none⟩ (.slice Av d cw)) = Y at *
      clear hown1 k7 k6 k8 k9 p0 p1 p2 pf0 pf1 pf2 p3 ps hs9
      have kY2 : Kept W2 Y := k3.trans kY
      have z0 := Z0.out _ kY2
      have z1 := Z1.out _ kY2
      have z2 := Z2.out _ kY2
      have f0 := ZF.out _ kY2 0
      have f1 := ZF.out _ kY2 1
      have f2 := ZF.out _ kY2 2
      have hsY : w.heap.size < Y.heap.size := by have := kY2.size; omega
      have hT := targets_any A2 cv2 m (.slice Av d cw) (codeTo zs n) Y (by rw [codeTo_len]; exact Row.of_own ownC) (by rw [codeTo_len]; omega)
      rw [codeTo_len] at hT
      have HT := Lib.hid hT
      have OD := Lib.hid ownD
      have OC := Lib.hid ownC
      clear hT ownD ownC C1 HO3
      go_wp2_with fail
      refine HT.out.mono ?_; rintro e x2 ⟨rfl, hb2⟩
      have kx : Kept W2 x2 := kY2.to hb2
      have b0 := below_cell hb2 hPB b0
      have b1 := below_cell hb2 hPB b1
      have b2 := below_cell hb2 hPB b2
      have z0 := below_cell hb2 hsY z0
      have z1 := below_cell hb2 hsY z1
      have z2 := below_cell hb2 hsY z2
      have f0 := below_frozen hb2 hsY f0
      have f1 := below_frozen hb2 hsY f1
      have f2 := below_frozen hb2 hsY f2
      have oc := own_below OC.out hb2
      have od := own_below OD.out hb2
      clear hb2
      cases ht : targetsOk n 0 (codeTo zs n)
      · have hcode := Lib.hid (read_targets HB1.out HB2.out (by rw [HN.out]; exact hdn'.out) (by rw [HN.out]; exact ht))
        have e4 : errT false = 4 := rfl
        rw [e4]
        clear ht
        go_wp2_with fail
        obtain ⟨q1, q2⟩ := hcode.out
        rw [q1, q2]
        refine bodyPost_ret (v := .tuple #[.agg #[.slice none 0 0, .int .i64 0, .slice none 0 0], .int .i64 4]) (by simp [results, Try.results11, go_sem, z0, z1, z2]; done) rfl ⟨.slice none 0 0, .slice none 0 0, rfl, ⟨World.ownsRow_nil _ _ _ _, World.ownsRow_nil _ _ _ _⟩, ?_⟩
        exact (((HWB.out _ kx).setCell (by simp) _).setCell (by simp) _).setCell (by simp) _
      · have hcode := Lib.hid (read_yes HB1.out HB2.out (by rw [HN.out]; exact hdn'.out) (by rw [HN.out]; exact ht))
        have e4 : errT true = 0 := rfl
        rw [e4]
        clear ht
        go_wp2_with fail
        obtain ⟨q1, q2⟩ := hcode.out
        rw [q1, q2]
        have hc : (readG zs).code = codeTo zs n := by show codeTo zs (numAt zs 4) = _; rw [HN.out]
        have hsz : (readG zs).size = (m : Int) := by show ((numAt zs 8 : Nat) : Int) = m; rw [HM.out]
        have hda : (readG zs).data = zs.drop (16 + 4 * n) := by show zs.drop (16 + 4 * numAt zs 4) = _; rw [HN.out]
        have hdl : (zs.drop (16 + 4 * n)).length = d := by rw [List.length_drop, HLL.out]; omega
        have hne1 : (Value.slice A2 n cv2).ownBlock ≠ some w.heap.size := fun h => by have := (oc.lt _ h).1; omega
        have hne2 : (Value.slice Av d cw).ownBlock ≠ some w.heap.size := fun h => by have := (od.lt _ h).1; omega
        rw [hsz]
        refine bodyPost_ret (v := .tuple #[.agg #[.slice A2 n cv2, .int .i64 m, .slice Av d cw], .int .i64 0]) (by simp [results, Try.results11, go_sem, z0, z1, z2]; done) rfl ⟨.slice A2 n cv2, .slice Av d cw, rfl, ⟨?_, ?_⟩, ?_⟩
        · rw [hc, codeTo_len]
          exact own_base (ownsRow_setCell_other (ownsRow_setCell_other (ownsRow_setCell_other oc hne1 _) hne1 _) hne1 _) (by omega)
        · rw [hda, hdl]
          exact own_base (ownsRow_setCell_other (ownsRow_setCell_other (ownsRow_setCell_other od hne2 _) hne2 _) hne2 _) (by omega)
        · exact (((HWB.out _ kx).setCell (by simp) _).setCell (by simp) _).setCell (by simp) _
end Go.Proofs.Ythnimeibjannpaa.Words

/- One side of the walk of law 14's CertTurned. -/
import Derived.Test.YteagglddgkjkmaaG15
import Derived.Test.YteagglddgkjkmaaSCertTuData
import Derived.Test.YteagglddgkjkmaaG16
namespace Go.Proofs.Yteagglddgkjkmaa.Words
set_option maxRecDepth 100000
open Go.RowKit
set_option linter.unusedVariables false
set_option linter.unusedSimpArgs false

set_option maxHeartbeats 8000000 in
theorem certTurned_a (A : Option Addr) (c : Nat) (D : Option Addr) (d : Nat) (p : Prog) (a1 a2 : Int) (w : World)
    (hp : ProgV w w.heap.size (.slice A p.code.length c) (.slice D p.data.length d) p) (hr1 : -9223372036854775808 ≤ a1 ∧ a1 ≤ 9223372036854775807) (hr2 : -9223372036854775808 ≤ a2 ∧ a2 ≤ 9223372036854775807) :
    Calls Try.prog 4 #[.agg #[.slice A p.code.length c, .int .i64 p.size, .slice D p.data.length d], .int .i64 a1, .int .i64 a2, .bool false] w fun e w' => e = .returned (.bool true) ∧ Below w.heap.size w w' := by
  obtain ⟨u1, u2⟩ := hp.code.cap
  obtain ⟨u3, u4⟩ := hp.data.cap
  obtain ⟨W, hW⟩ : ∃ W, W = w.alloc (.cells #[.slice A p.code.length c, .int .i64 p.size, .slice D p.data.length d] 25) := ⟨_, rfl⟩
  have HK0 : Hid (Below w.heap.size w W) := by rw [hW]; exact (Below.refl w.heap.size w).alloc (Nat.le_refl _) _
  have XP0 : Hid (Box W w.heap.size [.slice A p.code.length c, .int .i64 p.size, .slice D p.data.length d]) := by rw [hW]; exact Box.new w _ _
  have RC0 := Lib.hid ((hp.code.below HK0.out).more HK0.out.size)
  have HPC := Lib.hid hp.code
  have HR1 := Lib.hid hr1
  have HR2 := Lib.hid hr2
  clear hp hr1 hr2
  go_enter Try.func4, Try.ntmps4
  go_upto_region 1 with (fail)
  change Code.wp _ _ _ _ (w.alloc (.cells #[.slice A p.code.length c, .int .i64 p.size, .slice D p.data.length d] 25))
  rw [← hW]
  clear hW
  go_wp2_with fail
  refine (alive14_any _).mono ?_; rintro e w1 ⟨rfl, hb⟩
  have HK1 := Lib.hid (HK0.out.trans ((hb).mono HK0.out.size))
  have XP1 := Lib.hid (XP0.out.below (hb) XP0.out.lt)
  have RC1 := Lib.hid ((RC0.out.below (hb)).more (hb).size)
  clear XP0 RC0 HK0
  clear hb
  go_wp2_with (first
    | (refine wpList_load_box rfl 25 (.tmp 4) rfl w.heap.size 0 rfl [.slice A p.code.length c, .int .i64 p.size, .slice D p.data.length d] [.slice A p.code.length c, .int .i64 p.size, .slice D p.data.length d] XP1.out whole_at _ Try.underlying25 rfl 3 size_prg rfl ?_))
  refine (refSplitP_any A c p.size D p.data.length d p.code _ RC1.out (by omega) (by omega)).mono ?_; rintro e w4 ⟨v4, rfl, hv4, hb⟩
  obtain ⟨L, hL⟩ : ∃ L, L = withZ p.code p.size p.data.length (ofZ p.code p.size p.data.length) := ⟨_, rfl⟩
  obtain ⟨O, hO⟩ : ∃ O, O = ownW p.code p.size p.data.length (ofZ p.code p.size p.data.length) := ⟨_, rfl⟩
  obtain ⟨E, hE⟩ : ∃ E, E = errW p.code p.size p.data.length (ofZ p.code p.size p.data.length) := ⟨_, rfl⟩
  have NO : Hid (O.length = 16) := by rw [hO]; exact ownW_len ofZ_len
  rw [← hL] at hv4
  rw [← hO, ← hE]
  have HL := Lib.hid hL
  have HO := Lib.hid hO
  have HE := Lib.hid hE
  clear hL hO hE
  obtain ⟨A4, c4, rfl⟩ := hv4.blks.form
  have HV4 := Lib.hid hv4.blks
  have HK2 := Lib.hid (HK1.out.trans ((hb).mono HK1.out.size))
  have XP2 := Lib.hid (XP1.out.below (hb) XP1.out.lt)
  have RC2 := Lib.hid ((RC1.out.below (hb)).more (hb).size)
  clear XP1 RC1 HK1
  have XPB := Lib.hid (XP2.out.lt)
  clear hv4 hb
  try dsimp only
  go_upto_region 3 with (first
    | (refine wpList_store_box rfl 30 (.tmp 10) (.tmp 22) rfl w4.heap.size 0 (splV (.slice A4 L.length c4) O) rfl rfl zeroSpl (Box.new w4 zeroSpl 30) (by rw [splV_len NO.out]; decide) 17 size_spl (splV_len NO.out) (splV_one rfl) ?_; intro w5 B5 hg5; rw [splice_whole zeroSpl (splV (.slice A4 L.length c4) O) (by rw [splV_len NO.out]; rfl)] at B5; have HX5 : Hid (Box w5 w4.heap.size (splV (.slice A4 L.length c4) O)) := B5; have HS5 := Lib.hid (box_stored hg5); clear B5 hg5))
  have HK3 := Lib.hid (HK2.out.trans ((HS5.out).mono HK2.out.size))
  have XP3 := Lib.hid (XP2.out.below (HS5.out) XP2.out.lt)
  have RC3 := Lib.hid ((RC2.out.below (HS5.out)).more (HS5.out).size)
  clear XP2 RC2 HK2
  have XS3 := HX5
  have VS3 := Lib.hid ((HV4.out.below HS5.out).more HS5.out.size)
  obtain ⟨bS, hbS⟩ : ∃ bS, bS = w4.heap.size := ⟨_, rfl⟩
  rw [← hbS] at XS3 ⊢
  have HGE : Hid (w.heap.size < bS) := by have h1 := XP3.out.lt; have h2 := XPB.out; show _ < _; omega
  clear HX5 HV4 HS5 hbS
  cases hcl : closedZ p.code p.size p.data.length (ofZ p.code p.size p.data.length)
  · obtain ⟨q1, q2, q3⟩ := with_no hcl
    have hE : E = 1 := HE.out.trans q3
    subst hE
    clear q1 q2 q3 hcl
    go_wp2_with (first
      | (refine wpList_load_box rfl 25 (.tmp 4) rfl w.heap.size 0 rfl [.slice A p.code.length c, .int .i64 p.size, .slice D p.data.length d] [.slice A p.code.length c, .int .i64 p.size, .slice D p.data.length d] XP3.out whole_at _ Try.underlying25 rfl 3 size_prg rfl ?_))
    refine (few_any A D p.code.length c p.data.length d p.size _ (by omega) (by omega)).mono ?_; rintro e w6 ⟨rfl, hb⟩
    have HK4 := Lib.hid (HK3.out.trans ((hb).mono HK3.out.size))
    have XP4 := Lib.hid (XP3.out.below (hb) XP3.out.lt)
    have RC4 := Lib.hid ((RC3.out.below (hb)).more (hb).size)
    have XS4 := Lib.hid (XS3.out.below (hb) XS3.out.lt)
    have VS4 := Lib.hid ((VS3.out.below (hb)).more (hb).size)
    clear XP3 RC3 XS3 VS3 HK3
    clear hb
    cases hfew : fewB p.code.length p.data.length
    all_goals
      try dsimp only
      go_wp2_with fail
      go_ret
      exact ⟨by first | rfl | trivial, HK4.out⟩
  obtain ⟨q1, q2, q3⟩ := with_yes hcl
  have hE : E = 0 := HE.out.trans q3
  have hO : O = ofZ p.code p.size p.data.length := HO.out.trans q2
  subst hE
  have HN0 : Hid (0 < L.length ∧ L.length ≤ 2000) := by
    have h1 := cut_some hcl
    have h2 := cut_len p.code p.size p.data.length
    have h3 := HL.out.trans q1
    show _ ∧ _
    rw [h3, List.length_map]
    omega
  clear q1 q2 q3
  have HCL := Lib.hid hcl
  rw [← hO] at HCL HL
  clear hcl HO HE hO
  go_wp2_with (first
    | (refine wpList_load_box rfl 25 (.tmp 4) rfl w.heap.size 0 rfl [.slice A p.code.length c, .int .i64 p.size, .slice D p.data.length d] [.slice A p.code.length c, .int .i64 p.size, .slice D p.data.length d] XP3.out whole_at _ Try.underlying25 rfl 3 size_prg rfl ?_))
  refine (few_any A D p.code.length c p.data.length d p.size _ (by omega) (by omega)).mono ?_; rintro e w6 ⟨rfl, hb⟩
  have HK4 := Lib.hid (HK3.out.trans ((hb).mono HK3.out.size))
  have XP4 := Lib.hid (XP3.out.below (hb) XP3.out.lt)
  have RC4 := Lib.hid ((RC3.out.below (hb)).more (hb).size)
  have XS4 := Lib.hid (XS3.out.below (hb) XS3.out.lt)
  have VS4 := Lib.hid ((VS3.out.below (hb)).more (hb).size)
  clear XP3 RC3 XS3 VS3 HK3
  clear hb
  cases hfew : fewB p.code.length p.data.length
  · try dsimp only
    go_wp2_with fail
    go_ret
    exact ⟨by first | rfl | trivial, HK4.out⟩
  clear hfew
  by_cases hn1 : a1 < 0
  · try dsimp only
    go_wp2_with fail
    go_ret
    exact ⟨by first | rfl | trivial, HK4.out⟩
  obtain ⟨n, hn⟩ : ∃ n, n = L.length := ⟨_, rfl⟩
  have hn0 : 0 < n := by rw [hn]; exact HN0.out.1
  have hn2k : n ≤ 2000 := by rw [hn]; exact HN0.out.2
  have HN := Lib.hid hn
  rw [← hn] at XS4 VS4 ⊢
  have g1 : 0 ≤ a1 := by omega
  have g1u := HR1.out.2
  obtain ⟨k, hk⟩ := Int.eq_ofNat_of_zero_le (show 0 ≤ a1 % (n : Int) from Int.emod_nonneg _ (by omega))
  have hkn : k < n := by have := Int.emod_lt_of_pos a1 (show (0 : Int) < n by omega); omega
  have hnz : ¬ (n : Int) = 0 := by omega
  have s0 : w6.cell? ⟨bS, 0, none⟩ = some (.slice A4 n c4) := XS4.out.cell (k := 0) rfl
  have HHK := Lib.hid hk
  clear hn HN0
  try dsimp only
  go_upto_region 6 with (fail)
  rw [HHK.out]
  clear hk
  obtain ⟨rs, hrow, hlen, hall⟩ := VS4.out
  have HROW := Lib.hid hrow
  have HLEN := Lib.hid hlen
  have HALL := Lib.hid hall
  have HONE := Lib.hid (flatB_one hlen hall)
  rw [← HN.out] at HROW
  obtain ⟨i1, hi', hz0', hz1', hz2'⟩ := info_parts info_blkC
  have HI := Lib.hid hi'
  have HZ0 := Lib.hid hz0'
  have HZ1 := Lib.hid hz1'
  have HZ2 := Lib.hid hz2'
  clear hrow hlen hall hi' hz0' hz1' hz2'
  refine region_tree_ex (fun (act : Act) (B : Nat × Value) => (((((((act.put (some 45) (.pointer (some ⟨bS, 1, none⟩))).put (some 46) (.agg (oV O).toArray)).put (some 47) (.pointer (some ⟨bS, 0, none⟩))).put (some 48) (.slice A4 n c4)).put (some 49) B.2).put (some 50) (.agg (splV B.2 O).toArray)).put (some 13) (.pointer (some ⟨B.1, 0, none⟩))))
    (fun B y => Box y B.1 (splV B.2 O) ∧ y.ownsRow w6.heap.size 39 6 B.2 n (flat blkRL rs) ∧ Kept w6 y ∧ w6.heap.size ≤ B.1 ∧ (∀ g, B.2.ownBlock = some g → g ≠ B.1) ∧ (∃ AT cT, B.2 = .slice AT n cT))
    (LinT.of [(0, true), (1, true), (2, true), (3, true)] (.two 4 6 (LinT.of [(5, true), (6, false), (7, false)] .nil) (LinT.of [(4, false), (5, true), (7, false)] .nil)))
    (by kernel_rfl) (by kernel_rfl) rfl (by kernel_rfl) (Kept w6) ?_ ?_
  · simp only [LinT.of, LinT.look, List.getElem?_toArray, List.getElem?_cons_succ, List.getElem?_cons_zero]
    have k0 : Kept w6 w6.drew := (Kept.refl w6).drew
    refine tree_take (v := ?_) k0 (by rfl) ?_ ?_; rotate_left; (intro y hy; go_simp; try (with_reducible rfl)); (try simp only [Act.put, List.setIfInBounds_toArray, List.set_cons_zero, List.set_cons_succ])
    refine tree_load_ex k0 (by rfl) 28 (.tmp 45) rfl bS 1 rfl (splV (.slice A4 n c4) O) (oV O) (fun y hy => XS4.out.kept hy) (fun j u h => spl_own j u h) _ Try.underlying28 rfl 16 (by kernel_rfl) ((oV_len O).trans NO.out) ?_
    (try simp only [Act.put, List.setIfInBounds_toArray, List.set_cons_zero, List.set_cons_succ])
    refine tree_take (v := ?_) k0 (by rfl) ?_ ?_; rotate_left; (intro y hy; go_simp; try (with_reducible rfl)); (try simp only [Act.put, List.setIfInBounds_toArray, List.set_cons_zero, List.set_cons_succ])
    refine tree_take (v := ?_) k0 (by rfl) ?_ ?_; rotate_left; (intro y hy; have q0 := (XS4.out.kept hy).cell (k := 0) rfl; go_simp; try (with_reducible rfl)); (try simp only [Act.put, List.setIfInBounds_toArray, List.set_cons_zero, List.set_cons_succ])
    refine tree_two k0 (by rfl) (by rfl) (fun K hK => ?_) (fun K hK => ?_)
    · refine wp_append_new _ (.const (.slice none 0 0)) (.tmp 48) 27 rfl w6.heap.size 39 i1 _ 6 80 Try.underlying27 HI.out HZ0.out HZ1.out HZ2.out rfl (by omega) (.slice none 0 0) 0 [] rfl (World.ownsRow_nil _ _ _ _) _ (.slice A4 n c4) n (flat blkRL rs) rfl (HROW.out.below k0) HONE.out (by unfold maxLen; omega) (by omega) (by first | exact Nat.le_refl _ | exact k0.size) ?_
      intro vT z1 hO1 hg1 hn1
      rw [List.nil_append, Nat.zero_add] at hO1
      obtain ⟨AT, cT, rfl⟩ := (Row.of_own hO1).form
      have k1 : Kept w6 z1 := Below.grown k0 hg1 k0.size (fun q hq => by cases hq)
      have hgb : Below w6.drew.heap.size w6.drew z1 := Below.grown (Below.refl _ _) hg1 (Nat.le_refl _) (fun q hq => by cases hq)
      refine hK.out _ _ k1 (fun _ => ?_)
      clear hK K
      (try simp only [Act.put, List.setIfInBounds_toArray, List.set_cons_zero, List.set_cons_succ])
      refine tree_take (v := .agg (splV (.slice AT n cT) O).toArray) k1 (by rfl) (fun y hy => exec_buildC 30 _ rfl _ (by simp only [List.map_toArray, List.map_cons, List.map_nil]; exact spl_built2 AT n cT O NO.out) y) ?_
      (try simp only [Act.put, List.setIfInBounds_toArray, List.set_cons_zero, List.set_cons_succ])
      refine tree_call k1 (by rfl) (fun K hK => ?_)
      go_simp
      obtain ⟨z2, hz2⟩ : ∃ z2, z2 = z1.alloc (.cells zeroSpl.toArray 30) := ⟨_, rfl⟩
      have k2 : Kept w6 z2 := by rw [hz2]; exact k1.alloc _
      have HZz2 : Hid (Box z2 z1.heap.size zeroSpl) := by rw [hz2]; exact Box.new _ _ _
      have HQz2 : Hid (z2.heap.size = z1.heap.size + 1) := by show _ = _; rw [hz2]; simp
      have HBz2 : Hid (Below z1.heap.size z1 z2) := by rw [hz2]; exact (Below.refl _ _).alloc (Nat.le_refl _) _
      refine hK.out _ _ (k1.alloc _) (fun _ => ?_)
      clear hK K
      change wpT _ _ _ _ _ _ _ (z1.alloc (.cells zeroSpl.toArray 30))
      rw [← hz2]
      clear hz2
      (try simp only [Act.put, List.setIfInBounds_toArray, List.set_cons_zero, List.set_cons_succ])
      have hO2 := own_below hO1 HBz2.out
      refine tree_put_cells k2 (by rfl) 30 (.tmp 13) (.tmp 50) rfl z1.heap.size 0 (splV (.slice AT n cT) O) rfl rfl zeroSpl HZz2.out (by rw [splV_len NO.out]; decide) 17 size_spl (splV_len NO.out) (splV_one rfl) (fun y hy hg => Below.grown k2 hg k2.size (fun q hq => by injection hq with hq; have := k1.size; omega)) ?_
      intro yz hbz hgz
      rw [splice_whole zeroSpl (splV (.slice AT n cT) O) (by rw [splV_len NO.out]; rfl)] at hbz
      have kz : Kept w6 yz := Below.grown k2 hgz k2.size (fun q hq => by injection hq with hq; have := k1.size; omega)
      (try simp only [Act.put, List.setIfInBounds_toArray, List.set_cons_zero, List.set_cons_succ])
      exact tree_done ⟨(z1.heap.size, .slice AT n cT), rfl, hbz, own_grown hO2 hgz (fun g e1 e2 => by have h1 := (hO1.lt g e1).2; injection e2 with e2; omega), kz, k1.size, (fun g e => by have h1 := (hO1.lt g e).2; omega), AT, cT, rfl⟩
    · go_simp
      obtain ⟨z1, hz1⟩ : ∃ z1, z1 = w6.drew.alloc (.cells zeroSpl.toArray 30) := ⟨_, rfl⟩
      have k1 : Kept w6 z1 := by rw [hz1]; exact k0.alloc _
      have HZz1 : Hid (Box z1 w6.drew.heap.size zeroSpl) := by rw [hz1]; exact Box.new _ _ _
      have HQz1 : Hid (z1.heap.size = w6.drew.heap.size + 1) := by show _ = _; rw [hz1]; simp
      have HBz1 : Hid (Below w6.drew.heap.size w6.drew z1) := by rw [hz1]; exact (Below.refl _ _).alloc (Nat.le_refl _) _
      refine hK.out _ _ (k0.alloc _) (fun _ => ?_)
      clear hK K
      change wpT _ _ _ _ _ _ _ (w6.drew.alloc (.cells zeroSpl.toArray 30))
      rw [← hz1]
      clear hz1
      (try simp only [Act.put, List.setIfInBounds_toArray, List.set_cons_zero, List.set_cons_succ])
      refine tree_call k1 (by rfl) (fun K hK => ?_)
      refine wp_append_new _ (.const (.slice none 0 0)) (.tmp 48) 27 rfl z1.heap.size 39 i1 _ 6 80 Try.underlying27 HI.out HZ0.out HZ1.out HZ2.out rfl (by omega) (.slice none 0 0) 0 [] rfl (World.ownsRow_nil _ _ _ _) _ (.slice A4 n c4) n (flat blkRL rs) rfl (HROW.out.below k1) HONE.out (by unfold maxLen; omega) (by omega) (by first | exact Nat.le_refl _ | exact k1.size) ?_
      intro vT z2 hO1 hg1 hn1
      rw [List.nil_append, Nat.zero_add] at hO1
      obtain ⟨AT, cT, rfl⟩ := (Row.of_own hO1).form
      have k2 : Kept w6 z2 := Below.grown k1 hg1 k1.size (fun q hq => by cases hq)
      have hgb : Below z1.heap.size z1 z2 := Below.grown (Below.refl _ _) hg1 (Nat.le_refl _) (fun q hq => by cases hq)
      have HZ2 := Lib.hid (HZz1.out.below hgb HZz1.out.lt)
      refine hK.out _ _ k2 (fun _ => ?_)
      clear hK K
      (try simp only [Act.put, List.setIfInBounds_toArray, List.set_cons_zero, List.set_cons_succ])
      refine tree_take (v := .agg (splV (.slice AT n cT) O).toArray) k2 (by rfl) (fun y hy => exec_buildC 30 _ rfl _ (by simp only [List.map_toArray, List.map_cons, List.map_nil]; exact spl_built2 AT n cT O NO.out) y) ?_
      (try simp only [Act.put, List.setIfInBounds_toArray, List.set_cons_zero, List.set_cons_succ])
      refine tree_put_cells k2 (by rfl) 30 (.tmp 13) (.tmp 50) rfl w6.drew.heap.size 0 (splV (.slice AT n cT) O) rfl rfl zeroSpl HZ2.out (by rw [splV_len NO.out]; decide) 17 size_spl (splV_len NO.out) (splV_one rfl) (fun y hy hg => Below.grown k2 hg k2.size (fun q hq => by injection hq with hq; have h9 : w6.drew.heap.size = w6.heap.size := rfl; omega)) ?_
      intro yz hbz hgz
      rw [splice_whole zeroSpl (splV (.slice AT n cT) O) (by rw [splV_len NO.out]; rfl)] at hbz
      have kz : Kept w6 yz := Below.grown k2 hgz k2.size (fun q hq => by injection hq with hq; have h9 : w6.drew.heap.size = w6.heap.size := rfl; omega)
      (try simp only [Act.put, List.setIfInBounds_toArray, List.set_cons_zero, List.set_cons_succ])
      exact tree_done ⟨(w6.drew.heap.size, .slice AT n cT), rfl, hbz, own_less (own_grown hO1 hgz (fun g e1 e2 => by have h1 := (hO1.lt g e1).1; have h2 := HQz1.out; injection e2 with e2; omega)) k1.size, kz, Nat.le_refl _, (fun g e => by have h1 := (hO1.lt g e).1; have h2 := HQz1.out; dsimp only; omega), AT, cT, rfl⟩

  rintro ⟨bT, vT⟩ w7 ⟨hBT, hOT, hk7, hgeT, hneT, AT, cT, hvT⟩
  dsimp only at hBT hOT hk7 hgeT hneT hvT
  subst hvT
  clear s0
  obtain ⟨bt, ct, hbt, hbt1, hbt2⟩ := own_form hOT (by omega)
  simp only [Value.slice.injEq, true_and] at hbt
  obtain ⟨rfl, rfl⟩ := hbt
  have hneT := hneT bt rfl
  obtain ⟨zs, hBX, _, hct1, hct2, _⟩ := own_box hOT
  have HGT : Hid (w.heap.size < bT ∧ w.heap.size < bt ∧ bS < bT ∧ bS < bt ∧ bt ≠ bT) := by have h1 := XS4.out.lt; have h2 := HGE.out; show _ ∧ _ ∧ _ ∧ _ ∧ _; exact ⟨by omega, by omega, by omega, by omega, hneT⟩
  have HK5 := Lib.hid (HK4.out.trans ((hk7).mono HK4.out.size))
  have XP5 := Lib.hid (XP4.out.below (hk7) XP4.out.lt)
  have RC5 := Lib.hid ((RC4.out.below (hk7)).more (hk7).size)
  have XS5 := Lib.hid (XS4.out.below (hk7) XS4.out.lt)
  have VS5 := Lib.hid ((VS4.out.below (hk7)).more (hk7).size)
  clear XP4 RC4 XS4 VS4 HK4
  have HQ5 : Hid (Below w6.heap.size w6 w7) := hk7
  have XT5 := Lib.hid hBT
  have XB5 := Lib.hid hBX
  have HCT : Hid (n ≤ cT ∧ cT ≤ 9223372036854775807) := ⟨hct1, hct2⟩
  have HL7 : Hid (bT < w7.heap.size ∧ bt < w7.heap.size ∧ w6.heap.size ≤ w7.heap.size ∧ w6.heap.size ≤ bT ∧ w6.heap.size ≤ bt) := ⟨hBT.lt, hBX.lt, hk7.size, hgeT, hbt1⟩
  clear hBT hBX hct1 hct2 hk7 hgeT hneT hOT hbt1 hbt2
  simp only [Act.put, List.setIfInBounds_toArray, List.set_cons_zero, List.set_cons_succ]
  obtain ⟨b4, o4, rfl⟩ := VS5.out.spot (by rw [← HN.out]; omega)
  obtain ⟨x, hx⟩ := at_someG (l := L) (j := k) (by rw [← HN.out]; exact hkn)
  obtain ⟨r, hr⟩ := at_someG (l := rs) (j := k) (by rw [HLEN.out, ← HN.out]; exact hkn)
  have HX := Lib.hid hx
  have HR := Lib.hid hr
  have HXM := Lib.hid (show x ∈ withZ p.code p.size p.data.length O by have h := List.mem_of_getElem? hx; rw [HL.out] at h; exact h)
  have HOFF := Lib.hid (with_offs HXM.out).1
  have HGD := Lib.hid (show BlkGood x by have h := List.mem_of_getElem? hx; rw [HL.out] at h; exact with_good x h)
  obtain ⟨A3, c3, A5, c5, x0, x1, x2, x3, x4, x5, ra, re⟩ := VS5.out.at_ hx
  have HRA := Lib.hid ra
  have HRE := Lib.hid re
  have z4 : b4 < w7.heap.size := cell_ltC x4
  have z5 : bS < w7.heap.size := XS5.out.lt
  have HZ4 := Lib.hid z4
  have HZ5 := Lib.hid z5
  have s0 : w7.cell? ⟨bS, 0, none⟩ = some (.slice (some ⟨b4, o4, none⟩) n c4) := XS5.out.cell (k := 0) rfl
  have hS0 := Lib.hid s0
  have hX5 := Lib.hid x5
  have k0 : (0 : Int) ≤ k := by omega
  have k1 : (k : Int) < n := by omega
  have la := HGD.out.la
  have le := HGD.out.le
  obtain ⟨i0, hi', hz0', hz1', hz2'⟩ := info_parts info_cel
  have HJ := Lib.hid hi'
  have HJ0 := Lib.hid hz0'
  have HJ1 := Lib.hid hz1'
  have HJ2 := Lib.hid hz2'
  clear hx hr ra re x0 x1 x2 x3 x5 z4 z5 hi' hz0' hz1' hz2'
  obtain ⟨na, hna⟩ : ∃ na, na = x.a.length := ⟨_, rfl⟩
  rw [← hna] at x4 HRA la
  have HNA := Lib.hid hna
  clear hna
  try dsimp only
  go_upto_region 8 with (first
    | (refine wpList_append_new _ rfl (.const (.slice none 0 0)) (.tmp 56) 37 rfl w7.heap.size 49 i0 _ 9 72 Try.underlying37 HJ.out HJ0.out HJ1.out HJ2.out rfl (by omega) (.slice none 0 0) 0 [] rfl (World.ownsRow_nil _ _ _ _) _ (.slice A3 na c3) na (flat celCells x.a) rfl HRA.out (flatC_one _) (by unfold maxLen; omega) (by omega) (Nat.le_refl _) ?_; intro vl w8 hO8 hg8 hn8; have HY8 : Hid (Below w7.heap.size w7 w8) := Below.grown (Below.refl _ _) hg8 (Nat.le_refl _) (fun q hq => by cases hq); have HO8 := Lib.hid hO8; clear hO8 hg8 hn8))
  clear x4 s0
  have HK6 := Lib.hid (HK5.out.trans ((HY8.out).mono HK5.out.size))
  have XP6 := Lib.hid (XP5.out.below (HY8.out) XP5.out.lt)
  have RC6 := Lib.hid ((RC5.out.below (HY8.out)).more (HY8.out).size)
  have XS6 := Lib.hid (XS5.out.below (HY8.out) XS5.out.lt)
  have VS6 := Lib.hid ((VS5.out.below (HY8.out)).more (HY8.out).size)
  have XT6 := Lib.hid (XT5.out.below (HY8.out) XT5.out.lt)
  have XB6 := Lib.hid (XB5.out.below (HY8.out) XB5.out.lt)
  have HQ6 := Lib.hid (HQ5.out.trans ((HY8.out).mono HQ5.out.size))
  clear XP5 RC5 XS5 VS5 XT5 XB5 HK5 HQ5
  clear HRE
  have HBASE : Hid (w7.heap.size ≤ w7.heap.size) := Nat.le_refl _
  have HLN : Hid (x.a.length = na) := HNA.out.symm
  obtain ⟨l0, hl0⟩ : ∃ l0, l0 = x.a := ⟨_, rfl⟩
  have HOL : Hid (w8.ownsRow w7.heap.size 49 9 vl na (flat celCells l0)) := by have h := HO8.out; rw [List.nil_append, Nat.zero_add, ← hl0] at h; exact h
  have HL0 := Lib.hid hl0
  have HLEN0 : Hid (l0.length = na) := by rw [hl0]; exact HLN.out
  have nle : na ≤ 6000 := by omega
  clear HO8 HLN hl0
  obtain ⟨Al, cl, rfl⟩ := (Row.of_own HOL.out).form
  obtain ⟨wz, hwz⟩ : ∃ wz, wz = w8 := ⟨_, rfl⟩
  rw [← hwz] at XP6 RC6 HK6 XS6 VS6 XT6 XB6 HQ6 HOL ⊢
  clear hwz
  have s0 : wz.cell? ⟨bS, 0, none⟩ = some (.slice (some ⟨b4, o4, none⟩) n c4) := XS6.out.cell (k := 0) rfl
  obtain ⟨nl, hnl⟩ : ∃ nl, nl = na := ⟨_, rfl⟩
  rw [← hnl] at HOL HLEN0 nle ⊢
  have HNL := Lib.hid hnl
  clear hnl
  have HBB : Hid (w7.heap.size ≤ w7.heap.size) := HBASE.out
  clear HBASE
  by_cases hs2 : nl = 0
  · have hb0 : ((nl : Int) == 0) = true := by simp [hs2]
    clear hs2
    try dsimp only
    go_wp2_with fail
    go_ret
    exact ⟨by first | rfl | trivial, HK6.out⟩
  have hnl0 : 0 < nl := by omega
  have hb0 : ((nl : Int) == 0) = false := by simp; omega
  obtain ⟨bl, cl', hbl, hbl1, hbl2⟩ := own_form HOL.out (by omega)
  simp only [Value.slice.injEq, true_and] at hbl
  obtain ⟨rfl, rfl⟩ := hbl
  obtain ⟨ys, hBL, _, hcl1, hcl2, _⟩ := own_box HOL.out
  have HBL := Lib.hid hBL
  have HCLb : Hid (nl ≤ cl ∧ cl ≤ 9223372036854775807) := ⟨hcl1, hcl2⟩
  have HGL : Hid (w7.heap.size ≤ bl) := Nat.le_trans HBB.out hbl1
  clear HOL hBL hbl1 hcl1 hcl2 HBB
  obtain ⟨q, hq⟩ := Int.eq_ofNat_of_zero_le (show 0 ≤ a1 / (n : Int) from Int.ediv_nonneg g1 (by omega))
  obtain ⟨i, hi⟩ : ∃ i, i = q % nl := ⟨_, rfl⟩
  have hil : i < nl := by rw [hi]; exact Nat.mod_lt _ hnl0
  have hi2 : (q : Int) % (nl : Int) = (i : Int) := by rw [hi]; simp
  have hqb : (q : Int) ≤ 9223372036854775807 := by have h := Int.ediv_le_self (n : Int) g1; have h2 := HR1.out.2; omega
  have i0' : (0 : Int) ≤ i := by omega
  have i1' : (i : Int) < nl := by omega
  have nlz : ¬ (nl : Int) = 0 := by omega
  have q0 : (0 : Int) ≤ q := by omega
  clear hi
  have HGZ : Hid (w7.heap.size ≤ wz.heap.size) := by have h1 := HBL.out.lt; have h2 := HGL.out; show _ ≤ _; omega
  obtain ⟨cx, hcx⟩ := at_someG (l := l0) (j := i) (by rw [HLEN0.out]; exact hil)
  have HCX := Lib.hid hcx
  have sk : wz.cell? ⟨bl, i * 9, none⟩ = some (.int .i64 cx.kind) := HBL.out.cell (flat_at9 (j := 0) hcx rfl)
  have HWM := Lib.hid (and3_i64 a2)
  have hoff : 0 ≤ cx.off ∧ cx.off ≤ 100000 := by
    have h1 := List.mem_of_getElem? hcx
    rw [HL0.out] at h1
    exact HOFF.out cx h1
  have HOF := Lib.hid hoff
  clear hcx hoff HOFF
  go_upto_region 13 with (fail)
  rw [hi2]
  go_upto_region 14 with (fail)
  clear hi2 hq hqb q0 sk s0
  have hm : a2 % 4 = 0 ∨ a2 % 4 = 1 ∨ a2 % 4 = 2 ∨ a2 % 4 = 3 := by omega
  rcases hm with hm | hm | hm | hm
  · have hbit : bits .and .i64 a2 3 = 0 := by rw [HWM.out, hm]
    have hi1 : IntKind.i64.wrap ((i : Int) + 1) = (i : Int) + 1 := IntWalk.i64_in _ ⟨by omega, by omega⟩
    go_upto_region 18 with (fail)
    have HCl := HCLb.out
    obtain ⟨hcl1, hcl2⟩ := HCl
    have hicl : i ≤ cl := by omega
    have hicl1 : i + 1 ≤ cl := by omega
    have hic2 : (i : Int) ≤ cl := by omega
    have hic3 : (i : Int) + 1 ≤ nl := by omega
    have hic4 : (i : Int) + 1 ≤ cl := by omega
    refine wp_region_lin [(0, true), (1, true), (2, true), (4, true), (5, true), (6, true), (7, true), (3, false), (8, false), (9, true)]
      (by kernel_rfl) (by kernel_rfl) rfl (by kernel_rfl) (Kept wz) ?_
    simp only [List.map_cons, List.map_nil, List.getElem?_toArray, List.getElem?_cons_succ, List.getElem?_cons_zero]
    have kk : Kept wz wz.drew := (Kept.refl wz).drew
    iterate 6 (refine lin_take (v := ?_) kk (by rfl) ?_ ?_; rotate_left; (intro y hy; go_simp; try (with_reducible rfl)); (try simp only [Act.put, List.setIfInBounds_toArray, List.set_cons_zero, List.set_cons_succ]))
    obtain ⟨AS, hAS⟩ : ∃ AS, AS = (if cl = i + 1 then some (⟨bl, 0, none⟩ : Addr) else some ⟨bl, (i + 1) * 9, none⟩) := ⟨_, rfl⟩
    refine lin_take (v := .slice AS (nl - (i + 1)) (cl - (i + 1))) kk (by rfl) (fun y hy => ?_) ?_
    · go_simp
      first | (intro hh; omega) | (rw [if_pos (show (0 : Int) ≤ (i : Int) + 1 by omega), hAS])
    (try simp only [Act.put, List.setIfInBounds_toArray, List.set_cons_zero, List.set_cons_succ])
    have HBD := Lib.hid (HBL.out.kept kk)
    have HB1 := Lib.hid (box_cutC (lo := 0) (hi := i) (B := wz.drew.heap.size) HBD.out HLEN0.out HCLb.out.1 HCLb.out.2 HBD.out.lt (Nat.zero_le _) (by omega))
    refine lin_call kk (by rfl) (fun K hK => ?_)
    refine wp_append_new _ (.const (.slice none 0 0)) (.tmp 99) 37 rfl wz.heap.size 49 i0 _ 9 72 Try.underlying37 HJ.out HJ0.out HJ1.out HJ2.out rfl (by omega) (.slice none 0 0) 0 [] rfl (World.ownsRow_nil _ _ _ _) _ (.slice (some ⟨bl, 0, none⟩) i cl) i (flat celCells (l0.take i)) rfl (by have h := HB1.out; rw [Nat.zero_mul, Nat.sub_zero, Nat.sub_zero, List.drop_zero] at h; exact h) (flatC_one _) (by unfold maxLen; omega) (by omega) (Nat.le_refl _) ?_
    intro v1 y1 hO1 hg1 hn1
    rw [List.nil_append, Nat.zero_add] at hO1
    obtain ⟨Ag, cg, rfl⟩ := (Row.of_own hO1).form
    have k1 : Kept wz y1 := Below.grown kk hg1 kk.size (fun q hq => by cases hq)
    have HO1 := Lib.hid hO1
    refine hK.out _ _ k1 (fun _ => ?_)
    clear hK K hO1 hg1 hn1 kk HBD HB1
    (try simp only [Act.put, List.setIfInBounds_toArray, List.set_cons_zero, List.set_cons_succ])
    refine lin_call k1 (by rfl) (fun K hK => ?_)
    have HBE := Lib.hid (HBL.out.kept k1)
    have HB2 := Lib.hid (row_fromC (lo := i + 1) (B := y1.heap.size) HBE.out HLEN0.out HCLb.out.1 HCLb.out.2 HBE.out.lt (by omega))
    refine wp_append_new _ (.tmp 100) (.tmp 104) 37 rfl wz.heap.size 49 i0 _ 9 72 Try.underlying37 HJ.out HJ0.out HJ1.out HJ2.out rfl (by omega) (.slice Ag i cg) i (flat celCells (l0.take i)) rfl HO1.out _ (.slice AS (nl - (i + 1)) (cl - (i + 1))) (nl - (i + 1)) (flat celCells (l0.drop (i + 1))) rfl (by rw [hAS]; exact HB2.out) (flatC_one _) (by unfold maxLen; omega) (by omega) k1.size ?_
    intro v2 y2 hO2 hg2 hn2'
    obtain ⟨Af, cf, rfl⟩ := (Row.of_own hO2).form
    have k2 : Kept wz y2 := Below.grown k1 hg2 k1.size (fun q hq => (HO1.out.lt q hq).1)
    rw [gone_flat] at hO2
    obtain ⟨lf, hlf⟩ : ∃ lf, lf = gone l0 i := ⟨_, rfl⟩
    have hN : i + (nl - (i + 1)) = lf.length := by rw [hlf, gone_len (by rw [HLEN0.out]; exact hil), HLEN0.out]; omega
    rw [← hlf, hN] at hO2
    rw [hN]
    have HO2 := Lib.hid hO2
    have HLF := Lib.hid hlf
    have HLFN : Hid (lf.length ≤ 20000) := by show _ ≤ _; omega
    refine hK.out _ _ k2 (fun _ => ?_)
    clear hK K hO2 hg2 hn2' k1 HO1 HBE HB2 hAS hN hlf
    (try simp only [Act.put, List.setIfInBounds_toArray, List.set_cons_zero, List.set_cons_succ])
    refine lin_take (v := ?_) k2 (by rfl) ?_ ?_; rotate_left; (intro y hy; go_simp; try (with_reducible rfl)); (try simp only [Act.put, List.setIfInBounds_toArray, List.set_cons_zero, List.set_cons_succ])
    refine lin_done ?_
    have HNEQ : Hid (decide (lf = l0) = false) := by show _ = _; rw [HLF.out, decide_eq_false_iff_not]; exact gone_ne (by rw [HLEN0.out]; exact hil)
    have HRF := Lib.hid (fun (y : World) (hk : KeepS (fun j => j = bt) y2 y) => Row.of_own (own_keepS HO2.out hk (fun g e => by have h1 := (HO2.out.lt g e).1; have h2 := HL7.out; have h3 := HGZ.out; omega)))
    have XPF := Lib.hid (XP6.out.kept k2)
    have XTF := Lib.hid (XT6.out.kept k2)
    have XBF := Lib.hid (XB6.out.kept k2)
    have HKF := Lib.hid (HK6.out.trans (k2.mono HK6.out.size))
    have HQF := Lib.hid (HQ6.out.trans (k2.mono HQ6.out.size))
    clear k2 HO2 XP6 XT6 XB6 HK6 HQ6 XS6 VS6 RC6 HBL hicl hicl1 hic2 hic3 hic4 hi1
    obtain ⟨wf, hwf⟩ : ∃ wf, wf = y2 := ⟨_, rfl⟩
    rw [← hwf] at HRF XPF XTF XBF HKF HQF ⊢
    clear hwf
    have s7 : wf.cell? ⟨bT, 0, none⟩ = some (.slice (some ⟨bt, 0, none⟩) n cT) := XTF.out.cell (k := 0) rfl
    have t1 : wf.cell? ⟨bt, k * 6 + 4, none⟩ = some r.va := XBF.out.cell (flat_at6 HR.out rfl)
    have t2 : wf.frozen? ⟨bt, k * 6 + 4, none⟩ = false := XBF.out.frozen (k * 6 + 4)
    obtain ⟨wy, hwy⟩ : ∃ wy, wy = wf.setCell ⟨bt, k * 6 + 4, none⟩ (.slice Af lf.length cf) := ⟨_, rfl⟩
    have XPY : Hid (Box wy w.heap.size [.slice A p.code.length c, .int .i64 p.size, .slice D p.data.length d]) := by rw [hwy]; exact XPF.out.setCell_other (by have h := HGT.out; omega) _ _
    have XTY : Hid (Box wy bT (splV (.slice (some ⟨bt, 0, none⟩) n cT) O)) := by rw [hwy]; exact XTF.out.setCell_other (by have h := HGT.out; omega) _ _
    have XBY : Hid (Box wy bt (flat blkRL (rs.set k { r with va := (.slice Af lf.length cf) }) ++ zs)) := by
      have h := XBF.out.setCell (k * 6 + 4) (.slice Af lf.length cf)
      rw [set_flatB (s := { r with va := (.slice Af lf.length cf) }) HR.out rfl (by omega)] at h
      rw [hwy]; exact h
    have ky : KeepS (fun j => j = bt) wf wy := by rw [hwy]; exact (KeepS.refl (fun j => j = bt) wf).setCell rfl _ _
    have HRY := Lib.hid (HRF.out wy ky)
    have HKY := Lib.hid (HKF.out.trans (ky.below HKF.out.size (fun j e => by have h := HGT.out; omega)))
    have HQY := Lib.hid (HQF.out.trans (ky.below HQF.out.size (fun j e => by have h := HL7.out; omega)))
    have HRW := Lib.hid hwy
    clear ky XPF XTF XBF HKF HQF HRF hwy
    go_upto_region 24 with (fail)
    change Code.wp _ _ _ _ (wf.setCell ⟨bt, k * 6 + 4, none⟩ (.slice Af lf.length cf))
    rw [← HRW.out]
    clear s7 t1 t2 HRW
    have HV : Hid (BlksV wy wy.heap.size (.slice (some ⟨bt, 0, none⟩) n cT) (L.set k { x with a := lf })) :=
      blks_setA HN.out.symm HLEN.out HR.out HX.out (fun j r' x' h1 h2 => ((HALL.out j r' x' h1 h2).keep (fun a ha => HQY.out.cell ha)).more HQY.out.size) XBY.out HCT.out.1 HCT.out.2 XBY.out.lt HRY.out
    have BLn : (L.set k { x with a := lf }).length = n := by rw [List.length_set]; exact HN.out.symm
    have hR := rightS_any A c p.size D p.data.length d p.code (some ⟨bt, 0, none⟩) cT (L.set k { x with a := lf }) O wy ((HPC.out.below HKY.out).more HKY.out.size) (by omega) (by omega) (by rw [BLn]; exact HV.out) NO.out
    rw [BLn, right_setA HCL.out HL.out HX.out lf] at hR
    rw [← HL0.out, HNEQ.out] at hR
    have HRC := Lib.hid hR
    clear hR BLn HV
    go_wp2_with (first
      | (refine wpList_load_box rfl 25 (.tmp 4) rfl w.heap.size 0 rfl [.slice A p.code.length c, .int .i64 p.size, .slice D p.data.length d] [.slice A p.code.length c, .int .i64 p.size, .slice D p.data.length d] XPY.out whole_at _ Try.underlying25 rfl 3 size_prg rfl ?_)
      | (refine wpList_load_box rfl 30 (.tmp 13) rfl bT 0 rfl (splV (.slice (some ⟨bt, 0, none⟩) n cT) O) (splV (.slice (some ⟨bt, 0, none⟩) n cT) O) XTY.out whole_at _ Try.underlying30 rfl 17 size_spl (splV_len NO.out) ?_))
    refine HRC.out.mono ?_; rintro e wr ⟨rfl, hb⟩
    have HE := Lib.hid (HKY.out.trans (hb.mono HKY.out.size))
    have XTR := Lib.hid (XTY.out.below hb XTY.out.lt)
    have XBR := Lib.hid (XBY.out.below hb XBY.out.lt)
    have HRR := Lib.hid ((HRY.out.below hb).more hb.size)
    have HQR := Lib.hid (HQY.out.trans (hb.mono HQY.out.size))
    clear hb HRC XPY XTY XBY HRY HQY HKY
    try dsimp only
    by_cases hk1 : cx.kind = 1
    · have b1 : (cx.kind != 1) = false := by simp [hk1]
      clear hk1
      go_wp2_with fail
      go_ret
      exact ⟨by first | rfl | trivial, HE.out⟩
    by_cases hk2 : cx.kind = 2
    · have b1 : (cx.kind != 1) = true := by simpa using hk1
      have b2 : (cx.kind != 2) = false := by simp [hk2]
      clear hk1 hk2
      go_wp2_with fail
      go_ret
      exact ⟨by first | rfl | trivial, HE.out⟩
    have b1 : (cx.kind != 1) = true := by simpa using hk1
    have b2 : (cx.kind != 2) = true := by simpa using hk2
    have HBAL : Hid (balZ lf x.e = false) := by show _ = _; rw [HLF.out, HL0.out]; exact unbal_A HXM.out (by have h := HCX.out; rw [HL0.out] at h; exact h) hk1 hk2
    have hblk := HALL.out k r x HR.out HX.out
    obtain ⟨Ao, co, hvo⟩ := hblk.e.form
    have HRO : Hid (Row wr wr.heap.size 9 (.slice Ao x.e.length co) x.e.length (flat celCells x.e)) := by rw [← hvo]; exact (hblk.e.below HQR.out).more HQR.out.size
    have hself : (rs.set k { r with va := (.slice Af lf.length cf) })[k]? = some { r with va := (.slice Af lf.length cf) } := List.getElem?_set_self (List.getElem?_eq_some_iff.1 HR.out).1
    have s7 : wr.cell? ⟨bT, 0, none⟩ = some (.slice (some ⟨bt, 0, none⟩) n cT) := XTR.out.cell (k := 0) rfl
    have e0 : wr.cell? ⟨bt, k * 6, none⟩ = some (.int .i64 r.from_) := XBR.out.cell (flat_at6 (j := 0) hself rfl)
    have e1 : wr.cell? ⟨bt, k * 6 + 1, none⟩ = some (.int .i64 r.to) := XBR.out.cell (flat_at6 hself rfl)
    have e2 : wr.cell? ⟨bt, k * 6 + 2, none⟩ = some (.int .i64 r.next) := XBR.out.cell (flat_at6 hself rfl)
    have e3 : wr.cell? ⟨bt, k * 6 + 3, none⟩ = some (.int .i64 r.taken) := XBR.out.cell (flat_at6 hself rfl)
    have eF : wr.cell? ⟨bt, k * 6 + 4, none⟩ = some (.slice Af lf.length cf) := XBR.out.cell (flat_at6 hself rfl)
    have eO : wr.cell? ⟨bt, k * 6 + 5, none⟩ = some (.slice Ao x.e.length co) := by rw [← hvo]; exact XBR.out.cell (flat_at6 hself rfl)
    have la2 := HGD.out.la
    have le2 := HGD.out.le
    have lf2 := HLFN.out
    clear hk1 hk2 hblk hvo hself XBR XTR
    go_wp2_with fail
    refine (balanced_any r.from_ r.to r.next r.taken Af Ao cf co lf x.e wr HRR.out HRO.out (by omega) (by omega)).mono ?_; rintro e wq ⟨rfl, hb⟩
    rw [HBAL.out]
    have HE2 := Lib.hid (HE.out.trans (hb.mono HE.out.size))
    clear hb e0 e1 e2 e3 eF eO s7
    try dsimp only
    go_wp2_with fail
    go_ret
    exact ⟨by first | rfl | trivial, HE2.out⟩
  · have hbit : bits .and .i64 a2 3 = 1 := by rw [HWM.out, hm]
    have hi1 : IntKind.i64.wrap ((i : Int) + 1) = (i : Int) + 1 := IntWalk.i64_in _ ⟨by omega, by omega⟩
    go_upto_region 18 with (fail)
    have HCl := HCLb.out
    obtain ⟨hcl1, hcl2⟩ := HCl
    have hicl : i ≤ cl := by omega
    have hicl1 : i + 1 ≤ cl := by omega
    have hic2 : (i : Int) ≤ cl := by omega
    have hic3 : (i : Int) + 1 ≤ nl := by omega
    have hic4 : (i : Int) + 1 ≤ cl := by omega
    refine wp_region_lin [(0, true), (1, true), (2, true), (4, true), (5, true), (6, true), (7, true), (3, false), (8, false), (9, true)]
      (by kernel_rfl) (by kernel_rfl) rfl (by kernel_rfl) (Kept wz) ?_
    simp only [List.map_cons, List.map_nil, List.getElem?_toArray, List.getElem?_cons_succ, List.getElem?_cons_zero]
    have kk : Kept wz wz.drew := (Kept.refl wz).drew
    iterate 6 (refine lin_take (v := ?_) kk (by rfl) ?_ ?_; rotate_left; (intro y hy; go_simp; try (with_reducible rfl)); (try simp only [Act.put, List.setIfInBounds_toArray, List.set_cons_zero, List.set_cons_succ]))
    obtain ⟨AS, hAS⟩ : ∃ AS, AS = (if cl = i + 1 then some (⟨bl, 0, none⟩ : Addr) else some ⟨bl, (i + 1) * 9, none⟩) := ⟨_, rfl⟩
    refine lin_take (v := .slice AS (nl - (i + 1)) (cl - (i + 1))) kk (by rfl) (fun y hy => ?_) ?_
    · go_simp
      first | (intro hh; omega) | (rw [if_pos (show (0 : Int) ≤ (i : Int) + 1 by omega), hAS])
    (try simp only [Act.put, List.setIfInBounds_toArray, List.set_cons_zero, List.set_cons_succ])
    have HBD := Lib.hid (HBL.out.kept kk)
    have HB1 := Lib.hid (box_cutC (lo := 0) (hi := i) (B := wz.drew.heap.size) HBD.out HLEN0.out HCLb.out.1 HCLb.out.2 HBD.out.lt (Nat.zero_le _) (by omega))
    refine lin_call kk (by rfl) (fun K hK => ?_)
    refine wp_append_new _ (.const (.slice none 0 0)) (.tmp 99) 37 rfl wz.heap.size 49 i0 _ 9 72 Try.underlying37 HJ.out HJ0.out HJ1.out HJ2.out rfl (by omega) (.slice none 0 0) 0 [] rfl (World.ownsRow_nil _ _ _ _) _ (.slice (some ⟨bl, 0, none⟩) i cl) i (flat celCells (l0.take i)) rfl (by have h := HB1.out; rw [Nat.zero_mul, Nat.sub_zero, Nat.sub_zero, List.drop_zero] at h; exact h) (flatC_one _) (by unfold maxLen; omega) (by omega) (Nat.le_refl _) ?_
    intro v1 y1 hO1 hg1 hn1
    rw [List.nil_append, Nat.zero_add] at hO1
    obtain ⟨Ag, cg, rfl⟩ := (Row.of_own hO1).form
    have k1 : Kept wz y1 := Below.grown kk hg1 kk.size (fun q hq => by cases hq)
    have HO1 := Lib.hid hO1
    refine hK.out _ _ k1 (fun _ => ?_)
    clear hK K hO1 hg1 hn1 kk HBD HB1
    (try simp only [Act.put, List.setIfInBounds_toArray, List.set_cons_zero, List.set_cons_succ])
    refine lin_call k1 (by rfl) (fun K hK => ?_)
    have HBE := Lib.hid (HBL.out.kept k1)
    have HB2 := Lib.hid (row_fromC (lo := i + 1) (B := y1.heap.size) HBE.out HLEN0.out HCLb.out.1 HCLb.out.2 HBE.out.lt (by omega))
    refine wp_append_new _ (.tmp 100) (.tmp 104) 37 rfl wz.heap.size 49 i0 _ 9 72 Try.underlying37 HJ.out HJ0.out HJ1.out HJ2.out rfl (by omega) (.slice Ag i cg) i (flat celCells (l0.take i)) rfl HO1.out _ (.slice AS (nl - (i + 1)) (cl - (i + 1))) (nl - (i + 1)) (flat celCells (l0.drop (i + 1))) rfl (by rw [hAS]; exact HB2.out) (flatC_one _) (by unfold maxLen; omega) (by omega) k1.size ?_
    intro v2 y2 hO2 hg2 hn2'
    obtain ⟨Af, cf, rfl⟩ := (Row.of_own hO2).form
    have k2 : Kept wz y2 := Below.grown k1 hg2 k1.size (fun q hq => (HO1.out.lt q hq).1)
    rw [gone_flat] at hO2
    obtain ⟨lf, hlf⟩ : ∃ lf, lf = gone l0 i := ⟨_, rfl⟩
    have hN : i + (nl - (i + 1)) = lf.length := by rw [hlf, gone_len (by rw [HLEN0.out]; exact hil), HLEN0.out]; omega
    rw [← hlf, hN] at hO2
    rw [hN]
    have HO2 := Lib.hid hO2
    have HLF := Lib.hid hlf
    have HLFN : Hid (lf.length ≤ 20000) := by show _ ≤ _; omega
    refine hK.out _ _ k2 (fun _ => ?_)
    clear hK K hO2 hg2 hn2' k1 HO1 HBE HB2 hAS hN hlf
    (try simp only [Act.put, List.setIfInBounds_toArray, List.set_cons_zero, List.set_cons_succ])
    refine lin_take (v := ?_) k2 (by rfl) ?_ ?_; rotate_left; (intro y hy; go_simp; try (with_reducible rfl)); (try simp only [Act.put, List.setIfInBounds_toArray, List.set_cons_zero, List.set_cons_succ])
    refine lin_done ?_
    have HNEQ : Hid (decide (lf = l0) = false) := by show _ = _; rw [HLF.out, decide_eq_false_iff_not]; exact gone_ne (by rw [HLEN0.out]; exact hil)
    have HRF := Lib.hid (fun (y : World) (hk : KeepS (fun j => j = bt) y2 y) => Row.of_own (own_keepS HO2.out hk (fun g e => by have h1 := (HO2.out.lt g e).1; have h2 := HL7.out; have h3 := HGZ.out; omega)))
    have XPF := Lib.hid (XP6.out.kept k2)
    have XTF := Lib.hid (XT6.out.kept k2)
    have XBF := Lib.hid (XB6.out.kept k2)
    have HKF := Lib.hid (HK6.out.trans (k2.mono HK6.out.size))
    have HQF := Lib.hid (HQ6.out.trans (k2.mono HQ6.out.size))
    clear k2 HO2 XP6 XT6 XB6 HK6 HQ6 XS6 VS6 RC6 HBL hicl hicl1 hic2 hic3 hic4 hi1
    obtain ⟨wf, hwf⟩ : ∃ wf, wf = y2 := ⟨_, rfl⟩
    rw [← hwf] at HRF XPF XTF XBF HKF HQF ⊢
    clear hwf
    have s7 : wf.cell? ⟨bT, 0, none⟩ = some (.slice (some ⟨bt, 0, none⟩) n cT) := XTF.out.cell (k := 0) rfl
    have t1 : wf.cell? ⟨bt, k * 6 + 4, none⟩ = some r.va := XBF.out.cell (flat_at6 HR.out rfl)
    have t2 : wf.frozen? ⟨bt, k * 6 + 4, none⟩ = false := XBF.out.frozen (k * 6 + 4)
    obtain ⟨wy, hwy⟩ : ∃ wy, wy = wf.setCell ⟨bt, k * 6 + 4, none⟩ (.slice Af lf.length cf) := ⟨_, rfl⟩
    have XPY : Hid (Box wy w.heap.size [.slice A p.code.length c, .int .i64 p.size, .slice D p.data.length d]) := by rw [hwy]; exact XPF.out.setCell_other (by have h := HGT.out; omega) _ _
    have XTY : Hid (Box wy bT (splV (.slice (some ⟨bt, 0, none⟩) n cT) O)) := by rw [hwy]; exact XTF.out.setCell_other (by have h := HGT.out; omega) _ _
    have XBY : Hid (Box wy bt (flat blkRL (rs.set k { r with va := (.slice Af lf.length cf) }) ++ zs)) := by
      have h := XBF.out.setCell (k * 6 + 4) (.slice Af lf.length cf)
      rw [set_flatB (s := { r with va := (.slice Af lf.length cf) }) HR.out rfl (by omega)] at h
      rw [hwy]; exact h
    have ky : KeepS (fun j => j = bt) wf wy := by rw [hwy]; exact (KeepS.refl (fun j => j = bt) wf).setCell rfl _ _
    have HRY := Lib.hid (HRF.out wy ky)
    have HKY := Lib.hid (HKF.out.trans (ky.below HKF.out.size (fun j e => by have h := HGT.out; omega)))
    have HQY := Lib.hid (HQF.out.trans (ky.below HQF.out.size (fun j e => by have h := HL7.out; omega)))
    have HRW := Lib.hid hwy
    clear ky XPF XTF XBF HKF HQF HRF hwy
    go_upto_region 24 with (fail)
    change Code.wp _ _ _ _ (wf.setCell ⟨bt, k * 6 + 4, none⟩ (.slice Af lf.length cf))
    rw [← HRW.out]
    clear s7 t1 t2 HRW
    have HV : Hid (BlksV wy wy.heap.size (.slice (some ⟨bt, 0, none⟩) n cT) (L.set k { x with a := lf })) :=
      blks_setA HN.out.symm HLEN.out HR.out HX.out (fun j r' x' h1 h2 => ((HALL.out j r' x' h1 h2).keep (fun a ha => HQY.out.cell ha)).more HQY.out.size) XBY.out HCT.out.1 HCT.out.2 XBY.out.lt HRY.out
    have BLn : (L.set k { x with a := lf }).length = n := by rw [List.length_set]; exact HN.out.symm
    have hR := rightS_any A c p.size D p.data.length d p.code (some ⟨bt, 0, none⟩) cT (L.set k { x with a := lf }) O wy ((HPC.out.below HKY.out).more HKY.out.size) (by omega) (by omega) (by rw [BLn]; exact HV.out) NO.out
    rw [BLn, right_setA HCL.out HL.out HX.out lf] at hR
    rw [← HL0.out, HNEQ.out] at hR
    have HRC := Lib.hid hR
    clear hR BLn HV
    go_wp2_with (first
      | (refine wpList_load_box rfl 25 (.tmp 4) rfl w.heap.size 0 rfl [.slice A p.code.length c, .int .i64 p.size, .slice D p.data.length d] [.slice A p.code.length c, .int .i64 p.size, .slice D p.data.length d] XPY.out whole_at _ Try.underlying25 rfl 3 size_prg rfl ?_)
      | (refine wpList_load_box rfl 30 (.tmp 13) rfl bT 0 rfl (splV (.slice (some ⟨bt, 0, none⟩) n cT) O) (splV (.slice (some ⟨bt, 0, none⟩) n cT) O) XTY.out whole_at _ Try.underlying30 rfl 17 size_spl (splV_len NO.out) ?_))
    refine HRC.out.mono ?_; rintro e wr ⟨rfl, hb⟩
    have HE := Lib.hid (HKY.out.trans (hb.mono HKY.out.size))
    have XTR := Lib.hid (XTY.out.below hb XTY.out.lt)
    have XBR := Lib.hid (XBY.out.below hb XBY.out.lt)
    have HRR := Lib.hid ((HRY.out.below hb).more hb.size)
    have HQR := Lib.hid (HQY.out.trans (hb.mono HQY.out.size))
    clear hb HRC XPY XTY XBY HRY HQY HKY
    try dsimp only
    by_cases hk1 : cx.kind = 1
    · have b1 : (cx.kind != 1) = false := by simp [hk1]
      clear hk1
      go_wp2_with fail
      go_ret
      exact ⟨by first | rfl | trivial, HE.out⟩
    by_cases hk2 : cx.kind = 2
    · have b1 : (cx.kind != 1) = true := by simpa using hk1
      have b2 : (cx.kind != 2) = false := by simp [hk2]
      clear hk1 hk2
      go_wp2_with fail
      go_ret
      exact ⟨by first | rfl | trivial, HE.out⟩
    have b1 : (cx.kind != 1) = true := by simpa using hk1
    have b2 : (cx.kind != 2) = true := by simpa using hk2
    have HBAL : Hid (balZ lf x.e = false) := by show _ = _; rw [HLF.out, HL0.out]; exact unbal_A HXM.out (by have h := HCX.out; rw [HL0.out] at h; exact h) hk1 hk2
    have hblk := HALL.out k r x HR.out HX.out
    obtain ⟨Ao, co, hvo⟩ := hblk.e.form
    have HRO : Hid (Row wr wr.heap.size 9 (.slice Ao x.e.length co) x.e.length (flat celCells x.e)) := by rw [← hvo]; exact (hblk.e.below HQR.out).more HQR.out.size
    have hself : (rs.set k { r with va := (.slice Af lf.length cf) })[k]? = some { r with va := (.slice Af lf.length cf) } := List.getElem?_set_self (List.getElem?_eq_some_iff.1 HR.out).1
    have s7 : wr.cell? ⟨bT, 0, none⟩ = some (.slice (some ⟨bt, 0, none⟩) n cT) := XTR.out.cell (k := 0) rfl
    have e0 : wr.cell? ⟨bt, k * 6, none⟩ = some (.int .i64 r.from_) := XBR.out.cell (flat_at6 (j := 0) hself rfl)
    have e1 : wr.cell? ⟨bt, k * 6 + 1, none⟩ = some (.int .i64 r.to) := XBR.out.cell (flat_at6 hself rfl)
    have e2 : wr.cell? ⟨bt, k * 6 + 2, none⟩ = some (.int .i64 r.next) := XBR.out.cell (flat_at6 hself rfl)
    have e3 : wr.cell? ⟨bt, k * 6 + 3, none⟩ = some (.int .i64 r.taken) := XBR.out.cell (flat_at6 hself rfl)
    have eF : wr.cell? ⟨bt, k * 6 + 4, none⟩ = some (.slice Af lf.length cf) := XBR.out.cell (flat_at6 hself rfl)
    have eO : wr.cell? ⟨bt, k * 6 + 5, none⟩ = some (.slice Ao x.e.length co) := by rw [← hvo]; exact XBR.out.cell (flat_at6 hself rfl)
    have la2 := HGD.out.la
    have le2 := HGD.out.le
    have lf2 := HLFN.out
    clear hk1 hk2 hblk hvo hself XBR XTR
    go_wp2_with fail
    refine (balanced_any r.from_ r.to r.next r.taken Af Ao cf co lf x.e wr HRR.out HRO.out (by omega) (by omega)).mono ?_; rintro e wq ⟨rfl, hb⟩
    rw [HBAL.out]
    have HE2 := Lib.hid (HE.out.trans (hb.mono HE.out.size))
    clear hb e0 e1 e2 e3 eF eO s7
    try dsimp only
    go_wp2_with fail
    go_ret
    exact ⟨by first | rfl | trivial, HE2.out⟩
  · have hbit : bits .and .i64 a2 3 = 2 := by rw [HWM.out, hm]
    go_upto_region 20 with (fail)
    have HCl := HCLb.out
    obtain ⟨hcl1, hcl2⟩ := HCl
    have hicl : i ≤ cl := by omega
    have hic2 : (i : Int) ≤ cl := by omega
    have hic3 : (i : Int) ≤ nl := by omega
    obtain ⟨AS, hAS⟩ : ∃ AS, AS = (if cl = i then some (⟨bl, 0, none⟩ : Addr) else some ⟨bl, i * 9, none⟩) := ⟨_, rfl⟩
    refine region_tree_ex (fun (act : Act) (B : Value × Value × Value × Value) => (((((((((((((((act.put (some 108) (.slice (some ⟨bl, 0, none⟩) nl cl)).put (some 109) (.int .i64 i)).put (some 110) (.slice (some ⟨bl, 0, none⟩) i cl)).put (some 112) (.slice (some ⟨bl, 0, none⟩) nl cl)).put (some 113) (.int .i64 i)).put (some 114) (.pointer (some ⟨bl, i * 9, none⟩))).put (some 115) (.agg (celCells cx).toArray)).put (some 118) (.slice (some ⟨bl, 0, none⟩) nl cl)).put (some 119) (.int .i64 i)).put (some 120) (.slice AS (nl - i) (cl - i))).put (some 111) B.1).put (some 116) B.2.1).put (some 117) B.2.2.1).put (some 121) B.2.2.2).put (some 14) B.2.2.2))
      (fun B y => y.ownsRow wz.heap.size 49 9 B.2.2.2 (i + 1 + (nl - i)) (flat celCells (twice l0 i cx)) ∧ Kept wz y ∧ ∃ Af cf, B.2.2.2 = .slice Af (i + 1 + (nl - i)) cf)
      (LinT.of [(0, true), (1, true), (2, true), (4, true), (5, true), (6, true), (7, true), (10, true), (11, true), (12, true)] (.two 3 8 (LinT.of [(8, false), (9, false), (13, false), (14, true)] .nil) (LinT.of [(3, false), (9, false), (13, false), (14, true)] .nil)))
      (by kernel_rfl) (by kernel_rfl) rfl (by kernel_rfl) (Kept wz) ?_ ?_
    · simp only [LinT.of, LinT.look, List.getElem?_toArray, List.getElem?_cons_succ, List.getElem?_cons_zero]
      have k0 : Kept wz wz.drew := (Kept.refl wz).drew
      iterate 6 (refine tree_take (v := ?_) k0 (by rfl) ?_ ?_; rotate_left; (intro y hy; go_simp; try (with_reducible rfl)); (try simp only [Act.put, List.setIfInBounds_toArray, List.set_cons_zero, List.set_cons_succ]))
      refine tree_load_ex k0 (by rfl) 49 (.tmp 114) rfl bl (i * 9) rfl (flat celCells l0 ++ ys) (celCells cx) (fun y hy => HBL.out.kept hy) (fun jj v h => flat_at9 HCX.out h) _ Try.underlying49 rfl 9 (by kernel_rfl) rfl ?_
      (try simp only [Act.put, List.setIfInBounds_toArray, List.set_cons_zero, List.set_cons_succ])
      iterate 2 (refine tree_take (v := ?_) k0 (by rfl) ?_ ?_; rotate_left; (intro y hy; go_simp; try (with_reducible rfl)); (try simp only [Act.put, List.setIfInBounds_toArray, List.set_cons_zero, List.set_cons_succ]))
      refine tree_take (v := .slice AS (nl - i) (cl - i)) k0 (by rfl) (fun y hy => ?_) ?_
      · go_simp
        first | done | (intro hh; omega) | (rw [if_pos (show (0 : Int) ≤ (i : Int) by omega), hAS]) | rw [hAS]
      (try simp only [Act.put, List.setIfInBounds_toArray, List.set_cons_zero, List.set_cons_succ])
      have HAS := Lib.hid hAS
      clear hAS
      refine tree_two k0 (by rfl) (by rfl) (fun K hK => ?_) (fun K hK => ?_)
      · refine wp_append_new _ (.const (.slice none 0 0)) (.tmp 110) 37 rfl wz.heap.size 49 i0 _ 9 72 Try.underlying37 HJ.out HJ0.out HJ1.out HJ2.out rfl (by omega) (.slice none 0 0) 0 ([]) rfl (World.ownsRow_nil _ _ _ _) _ (.slice (some ⟨bl, 0, none⟩) i cl) i (flat celCells (l0.take i)) rfl (by have h := box_cutC (lo := 0) (hi := i) (B := wz.drew.heap.size) (HBL.out.kept k0) HLEN0.out HCLb.out.1 HCLb.out.2 (HBL.out.kept k0).lt (Nat.zero_le _) (by omega); rw [Nat.zero_mul, Nat.sub_zero, Nat.sub_zero, List.drop_zero] at h; exact h) (flatC_one _) (by unfold maxLen; omega) (by omega) (by first | exact Nat.le_refl _ | exact k0.size) ?_
        intro v1 y1 hO1 hg1 hn1
        rw [List.nil_append, Nat.zero_add] at hO1
        obtain ⟨A1, d1, rfl⟩ := (Row.of_own hO1).form
        have k1 : Kept wz y1 := Below.grown k0 hg1 k0.size (fun q hq => by cases hq)
        have hgb : Below wz.drew.heap.size wz.drew y1 := Below.grown (Below.refl _ _) hg1 (Nat.le_refl _) (fun q hq => by cases hq)
        have HO1 := Lib.hid hO1
        refine hK.out _ _ k1 (fun _ => ?_)
        clear hK K hO1 hg1 hn1
        (try simp only [Act.put, List.setIfInBounds_toArray, List.set_cons_zero, List.set_cons_succ])
        refine tree_call k1 (by rfl) (fun K hK => ?_)
        go_simp
        try rw [fold_cel]
        obtain ⟨y2, hy2⟩ : ∃ y2, y2 = y1.alloc (.cells (celCells cx).toArray 49) := ⟨_, rfl⟩
        have k2 : Kept wz y2 := by rw [hy2]; exact k1.alloc _
        have HRN : Hid (Row y2 (y1.heap.size + 1) 9 (.slice (some ⟨y1.heap.size, 0, none⟩) 1 1) 1 (celCells cx)) := by rw [hy2]; exact row_new y1 (celCells cx) 9 rfl (by omega) _
        have hbn : Below y1.heap.size y1 y2 := by rw [hy2]; exact (Below.refl _ _).alloc (Nat.le_refl _) _
        have hsz : y2.heap.size = y1.heap.size + 1 := by rw [hy2]; simp
        refine hK.out _ _ (k1.alloc _) (fun _ => ?_)
        clear hK K
        change wpT _ _ _ _ _ _ _ (y1.alloc (.cells (celCells cx).toArray 49))
        rw [← hy2]
        clear hy2
        (try simp only [Act.put, List.setIfInBounds_toArray, List.set_cons_zero, List.set_cons_succ])
        refine tree_call k2 (by rfl) (fun K hK => ?_)
        refine wp_append_new _ (.tmp 111) (.tmp 116) 37 rfl wz.heap.size 49 i0 _ 9 72 Try.underlying37 HJ.out HJ0.out HJ1.out HJ2.out rfl (by omega) (.slice A1 i d1) i (flat celCells (l0.take i)) rfl (own_below HO1.out hbn) _ (.slice (some ⟨y1.heap.size, 0, none⟩) 1 1) 1 (celCells cx) rfl HRN.out (celCells_one cx) (by unfold maxLen; omega) (by omega) k2.size ?_
        intro v2 y3 hO2 hg2 hn2'
        obtain ⟨A2, d2, rfl⟩ := (Row.of_own hO2).form
        have k3 : Kept wz y3 := Below.grown k2 hg2 k2.size (fun q hq => (HO1.out.lt q hq).1)
        have HO2 := Lib.hid hO2
        refine hK.out _ _ k3 (fun _ => ?_)
        clear hK K hO2 hg2 hn2'
        (try simp only [Act.put, List.setIfInBounds_toArray, List.set_cons_zero, List.set_cons_succ])
        refine tree_call k3 (by rfl) (fun K hK => ?_)
        refine wp_append_new _ (.tmp 117) (.tmp 120) 37 rfl wz.heap.size 49 i0 _ 9 72 Try.underlying37 HJ.out HJ0.out HJ1.out HJ2.out rfl (by omega) (.slice A2 (i + 1) d2) (i + 1) (flat celCells (l0.take i) ++ celCells cx) rfl HO2.out _ (.slice AS (nl - i) (cl - i)) (nl - i) (flat celCells (l0.drop i)) rfl (by rw [HAS.out]; exact row_fromC (lo := i) (B := y3.heap.size) (HBL.out.kept k3) HLEN0.out HCLb.out.1 HCLb.out.2 (HBL.out.kept k3).lt (by omega)) (flatC_one _) (by unfold maxLen; omega) (by omega) k3.size ?_
        intro v3 y4 hO3 hg3 hn3
        obtain ⟨A9, d9, rfl⟩ := (Row.of_own hO3).form
        have k4 : Kept wz y4 := Below.grown k3 hg3 k3.size (fun q hq => (HO2.out.lt q hq).1)
        rw [twice_flat] at hO3
        refine hK.out _ _ k4 (fun _ => ?_)
        clear hK K hg3 hn3
        (try simp only [Act.put, List.setIfInBounds_toArray, List.set_cons_zero, List.set_cons_succ])
        refine tree_take (v := ?_) k4 (by rfl) ?_ ?_; rotate_left; (intro y hy; go_simp; try (with_reducible rfl)); (try simp only [Act.put, List.setIfInBounds_toArray, List.set_cons_zero, List.set_cons_succ])
        exact tree_done ⟨(.slice A1 i d1, .slice (some ⟨y1.heap.size, 0, none⟩) 1 1, .slice A2 (i + 1) d2, .slice A9 (i + 1 + (nl - i)) d9), rfl, hO3, k4, A9, d9, rfl⟩
      · go_simp
        try rw [fold_cel]
        obtain ⟨y1, hy1⟩ : ∃ y1, y1 = wz.drew.alloc (.cells (celCells cx).toArray 49) := ⟨_, rfl⟩
        have k1 : Kept wz y1 := by rw [hy1]; exact k0.alloc _
        have HRN : Hid (Row y1 (wz.drew.heap.size + 1) 9 (.slice (some ⟨wz.drew.heap.size, 0, none⟩) 1 1) 1 (celCells cx)) := by rw [hy1]; exact row_new wz.drew (celCells cx) 9 rfl (by omega) _
        have hbn : Below wz.drew.heap.size wz.drew y1 := by rw [hy1]; exact (Below.refl _ _).alloc (Nat.le_refl _) _
        have hsz : y1.heap.size = wz.drew.heap.size + 1 := by rw [hy1]; simp
        refine hK.out _ _ (k0.alloc _) (fun _ => ?_)
        clear hK K
        change wpT _ _ _ _ _ _ _ (wz.drew.alloc (.cells (celCells cx).toArray 49))
        rw [← hy1]
        clear hy1
        (try simp only [Act.put, List.setIfInBounds_toArray, List.set_cons_zero, List.set_cons_succ])
        refine tree_call k1 (by rfl) (fun K hK => ?_)
        refine wp_append_new _ (.const (.slice none 0 0)) (.tmp 110) 37 rfl wz.heap.size 49 i0 _ 9 72 Try.underlying37 HJ.out HJ0.out HJ1.out HJ2.out rfl (by omega) (.slice none 0 0) 0 ([]) rfl (World.ownsRow_nil _ _ _ _) _ (.slice (some ⟨bl, 0, none⟩) i cl) i (flat celCells (l0.take i)) rfl (by have h := box_cutC (lo := 0) (hi := i) (B := y1.heap.size) (HBL.out.kept k1) HLEN0.out HCLb.out.1 HCLb.out.2 (HBL.out.kept k1).lt (Nat.zero_le _) (by omega); rw [Nat.zero_mul, Nat.sub_zero, Nat.sub_zero, List.drop_zero] at h; exact h) (flatC_one _) (by unfold maxLen; omega) (by omega) (by first | exact Nat.le_refl _ | exact k1.size) ?_
        intro v1 y2 hO1 hg1 hn1
        rw [List.nil_append, Nat.zero_add] at hO1
        obtain ⟨A1, d1, rfl⟩ := (Row.of_own hO1).form
        have k2 : Kept wz y2 := Below.grown k1 hg1 k1.size (fun q hq => by cases hq)
        have hgb : Below y1.heap.size y1 y2 := Below.grown (Below.refl _ _) hg1 (Nat.le_refl _) (fun q hq => by cases hq)
        have HO1 := Lib.hid hO1
        refine hK.out _ _ k2 (fun _ => ?_)
        clear hK K hO1 hg1 hn1
        (try simp only [Act.put, List.setIfInBounds_toArray, List.set_cons_zero, List.set_cons_succ])
        have HRN2 := Lib.hid (HRN.out.below (hgb.mono (by omega)))
        refine tree_call k2 (by rfl) (fun K hK => ?_)
        refine wp_append_new _ (.tmp 111) (.tmp 116) 37 rfl wz.heap.size 49 i0 _ 9 72 Try.underlying37 HJ.out HJ0.out HJ1.out HJ2.out rfl (by omega) (.slice A1 i d1) i (flat celCells (l0.take i)) rfl HO1.out _ (.slice (some ⟨wz.drew.heap.size, 0, none⟩) 1 1) 1 (celCells cx) rfl HRN2.out (celCells_one cx) (by unfold maxLen; omega) (by omega) k2.size ?_
        intro v2 y3 hO2 hg2 hn2'
        obtain ⟨A2, d2, rfl⟩ := (Row.of_own hO2).form
        have k3 : Kept wz y3 := Below.grown k2 hg2 k2.size (fun q hq => (HO1.out.lt q hq).1)
        have HO2 := Lib.hid hO2
        refine hK.out _ _ k3 (fun _ => ?_)
        clear hK K hO2 hg2 hn2'
        (try simp only [Act.put, List.setIfInBounds_toArray, List.set_cons_zero, List.set_cons_succ])
        refine tree_call k3 (by rfl) (fun K hK => ?_)
        refine wp_append_new _ (.tmp 117) (.tmp 120) 37 rfl wz.heap.size 49 i0 _ 9 72 Try.underlying37 HJ.out HJ0.out HJ1.out HJ2.out rfl (by omega) (.slice A2 (i + 1) d2) (i + 1) (flat celCells (l0.take i) ++ celCells cx) rfl HO2.out _ (.slice AS (nl - i) (cl - i)) (nl - i) (flat celCells (l0.drop i)) rfl (by rw [HAS.out]; exact row_fromC (lo := i) (B := y3.heap.size) (HBL.out.kept k3) HLEN0.out HCLb.out.1 HCLb.out.2 (HBL.out.kept k3).lt (by omega)) (flatC_one _) (by unfold maxLen; omega) (by omega) k3.size ?_
        intro v3 y4 hO3 hg3 hn3
        obtain ⟨A9, d9, rfl⟩ := (Row.of_own hO3).form
        have k4 : Kept wz y4 := Below.grown k3 hg3 k3.size (fun q hq => (HO2.out.lt q hq).1)
        rw [twice_flat] at hO3
        refine hK.out _ _ k4 (fun _ => ?_)
        clear hK K hg3 hn3
        (try simp only [Act.put, List.setIfInBounds_toArray, List.set_cons_zero, List.set_cons_succ])
        refine tree_take (v := ?_) k4 (by rfl) ?_ ?_; rotate_left; (intro y hy; go_simp; try (with_reducible rfl)); (try simp only [Act.put, List.setIfInBounds_toArray, List.set_cons_zero, List.set_cons_succ])
        exact tree_done ⟨(.slice A1 i d1, .slice (some ⟨wz.drew.heap.size, 0, none⟩) 1 1, .slice A2 (i + 1) d2, .slice A9 (i + 1 + (nl - i)) d9), rfl, hO3, k4, A9, d9, rfl⟩
    rintro ⟨v1, v2, v3, v4⟩ y2 ⟨hO2, k2, Af, cf, hv4⟩
    dsimp only at hO2 k2 hv4
    subst hv4
    simp only [Act.put, List.setIfInBounds_toArray, List.set_cons_zero, List.set_cons_succ]
    obtain ⟨lf, hlf⟩ : ∃ lf, lf = twice l0 i cx := ⟨_, rfl⟩
    have hN : i + 1 + (nl - i) = lf.length := by rw [hlf, twice_len (by rw [HLEN0.out]; exact hil), HLEN0.out]; omega
    rw [← hlf, hN] at hO2
    rw [hN]
    have HO2 := Lib.hid hO2
    have HLF := Lib.hid hlf
    clear hO2 hN hlf hAS
    have HNEQ : Hid (decide (lf = l0) = false) := by show _ = _; rw [HLF.out, decide_eq_false_iff_not]; exact twice_ne
    have HRF := Lib.hid (fun (y : World) (hk : KeepS (fun j => j = bt) y2 y) => Row.of_own (own_keepS HO2.out hk (fun g e => by have h1 := (HO2.out.lt g e).1; have h2 := HL7.out; have h3 := HGZ.out; omega)))
    have XPF := Lib.hid (XP6.out.kept k2)
    have XTF := Lib.hid (XT6.out.kept k2)
    have XBF := Lib.hid (XB6.out.kept k2)
    have HKF := Lib.hid (HK6.out.trans (k2.mono HK6.out.size))
    have HQF := Lib.hid (HQ6.out.trans (k2.mono HQ6.out.size))
    clear k2 HO2 XP6 XT6 XB6 HK6 HQ6 XS6 VS6 RC6 HBL hicl hic2 hic3
    obtain ⟨wf, hwf⟩ : ∃ wf, wf = y2 := ⟨_, rfl⟩
    rw [← hwf] at HRF XPF XTF XBF HKF HQF ⊢
    clear hwf
    have s7 : wf.cell? ⟨bT, 0, none⟩ = some (.slice (some ⟨bt, 0, none⟩) n cT) := XTF.out.cell (k := 0) rfl
    have t1 : wf.cell? ⟨bt, k * 6 + 4, none⟩ = some r.va := XBF.out.cell (flat_at6 HR.out rfl)
    have t2 : wf.frozen? ⟨bt, k * 6 + 4, none⟩ = false := XBF.out.frozen (k * 6 + 4)
    obtain ⟨wy, hwy⟩ : ∃ wy, wy = wf.setCell ⟨bt, k * 6 + 4, none⟩ (.slice Af lf.length cf) := ⟨_, rfl⟩
    have XPY : Hid (Box wy w.heap.size [.slice A p.code.length c, .int .i64 p.size, .slice D p.data.length d]) := by rw [hwy]; exact XPF.out.setCell_other (by have h := HGT.out; omega) _ _
    have XTY : Hid (Box wy bT (splV (.slice (some ⟨bt, 0, none⟩) n cT) O)) := by rw [hwy]; exact XTF.out.setCell_other (by have h := HGT.out; omega) _ _
    have XBY : Hid (Box wy bt (flat blkRL (rs.set k { r with va := (.slice Af lf.length cf) }) ++ zs)) := by
      have h := XBF.out.setCell (k * 6 + 4) (.slice Af lf.length cf)
      rw [set_flatB (s := { r with va := (.slice Af lf.length cf) }) HR.out rfl (by omega)] at h
      rw [hwy]; exact h
    have ky : KeepS (fun j => j = bt) wf wy := by rw [hwy]; exact (KeepS.refl (fun j => j = bt) wf).setCell rfl _ _
    have HRY := Lib.hid (HRF.out wy ky)
    have HKY := Lib.hid (HKF.out.trans (ky.below HKF.out.size (fun j e => by have h := HGT.out; omega)))
    have HQY := Lib.hid (HQF.out.trans (ky.below HQF.out.size (fun j e => by have h := HL7.out; omega)))
    have HRW := Lib.hid hwy
    clear ky XPF XTF XBF HKF HQF HRF hwy
    go_upto_region 24 with (fail)
    change Code.wp _ _ _ _ (wf.setCell ⟨bt, k * 6 + 4, none⟩ (.slice Af lf.length cf))
    rw [← HRW.out]
    clear s7 t1 t2 HRW
    have HV : Hid (BlksV wy wy.heap.size (.slice (some ⟨bt, 0, none⟩) n cT) (L.set k { x with a := lf })) :=
      blks_setA HN.out.symm HLEN.out HR.out HX.out (fun j r' x' h1 h2 => ((HALL.out j r' x' h1 h2).keep (fun a ha => HQY.out.cell ha)).more HQY.out.size) XBY.out HCT.out.1 HCT.out.2 XBY.out.lt HRY.out
    have BLn : (L.set k { x with a := lf }).length = n := by rw [List.length_set]; exact HN.out.symm
    have hR := rightS_any A c p.size D p.data.length d p.code (some ⟨bt, 0, none⟩) cT (L.set k { x with a := lf }) O wy ((HPC.out.below HKY.out).more HKY.out.size) (by omega) (by omega) (by rw [BLn]; exact HV.out) NO.out
    rw [BLn, right_setA HCL.out HL.out HX.out lf] at hR
    rw [← HL0.out, HNEQ.out] at hR
    have HRC := Lib.hid hR
    clear hR BLn HV
    go_wp2_with (first
      | (refine wpList_load_box rfl 25 (.tmp 4) rfl w.heap.size 0 rfl [.slice A p.code.length c, .int .i64 p.size, .slice D p.data.length d] [.slice A p.code.length c, .int .i64 p.size, .slice D p.data.length d] XPY.out whole_at _ Try.underlying25 rfl 3 size_prg rfl ?_)
      | (refine wpList_load_box rfl 30 (.tmp 13) rfl bT 0 rfl (splV (.slice (some ⟨bt, 0, none⟩) n cT) O) (splV (.slice (some ⟨bt, 0, none⟩) n cT) O) XTY.out whole_at _ Try.underlying30 rfl 17 size_spl (splV_len NO.out) ?_))
    refine HRC.out.mono ?_; rintro e wr ⟨rfl, hb⟩
    have HE := Lib.hid (HKY.out.trans (hb.mono HKY.out.size))
    have XTR := Lib.hid (XTY.out.below hb XTY.out.lt)
    have XBR := Lib.hid (XBY.out.below hb XBY.out.lt)
    have HRR := Lib.hid ((HRY.out.below hb).more hb.size)
    have HQR := Lib.hid (HQY.out.trans (hb.mono HQY.out.size))
    clear hb HRC XPY XTY XBY HRY HQY HKY
    try dsimp only
    by_cases hk1 : cx.kind = 1
    · have b1 : (cx.kind != 1) = false := by simp [hk1]
      clear hk1
      go_wp2_with fail
      go_ret
      exact ⟨by first | rfl | trivial, HE.out⟩
    by_cases hk2 : cx.kind = 2
    · have b1 : (cx.kind != 1) = true := by simpa using hk1
      have b2 : (cx.kind != 2) = false := by simp [hk2]
      clear hk1 hk2
      go_wp2_with fail
      go_ret
      exact ⟨by first | rfl | trivial, HE.out⟩
    have b1 : (cx.kind != 1) = true := by simpa using hk1
    have b2 : (cx.kind != 2) = true := by simpa using hk2
    clear hk1 hk2
    go_wp2_with fail
    go_ret
    exact ⟨by first | rfl | trivial, HE.out⟩
  · have hbit : bits .and .i64 a2 3 = 3 := by rw [HWM.out, hm]
    have sf : wz.cell? ⟨bl, i * 9 + 8, none⟩ = some (.int .i64 cx.off) := HBL.out.cell (flat_at9 HCX.out rfl)
    have sf2 : wz.frozen? ⟨bl, i * 9 + 8, none⟩ = false := HBL.out.frozen (i * 9 + 8)
    have ho1 := HOF.out.1
    have ho2 := HOF.out.2
    obtain ⟨wf, hwf⟩ : ∃ wf, wf = wz.setCell ⟨bl, i * 9 + 8, none⟩ (.int .i64 (cx.off + 1)) := ⟨_, rfl⟩
    obtain ⟨lf, hlf⟩ : ∃ lf, lf = l0.set i { cx with off := cx.off + 1 } := ⟨_, rfl⟩
    have hBW : Box wf bl (flat celCells lf ++ ys) := by
      have h := HBL.out.setCell (i * 9 + 8) (.int .i64 (cx.off + 1))
      rw [set_flat9 HCX.out celOff_set (by omega)] at h
      rw [hwf, hlf]; exact h
    have HBW := Lib.hid hBW
    have HLFL : Hid (lf.length = nl) := by rw [hlf, List.length_set]; exact HLEN0.out
    have HNEQ : Hid (decide (lf = l0) = false) := by
      show _ = _
      rw [hlf, decide_eq_false_iff_not]
      exact set_ne HCX.out (fun e => by have h := congrArg Cel.off e; have h2 : cx.off + 1 = cx.off := h; omega)
    have kf : KeepS (fun j => j = bl) wz wf := by rw [hwf]; exact (KeepS.refl (fun j => j = bl) wz).setCell rfl _ _
    have XPF := Lib.hid (XP6.out.keepS kf (by have h1 := HL7.out; have h2 := HGL.out; have h3 := HGT.out; omega))
    have XTF := Lib.hid (XT6.out.keepS kf (by have h1 := HL7.out; have h2 := HGL.out; omega))
    have XBF := Lib.hid (XB6.out.keepS kf (by have h1 := HL7.out; have h2 := HGL.out; omega))
    have HKF := Lib.hid (HK6.out.trans (kf.below HK6.out.size (fun j e => by have h1 := HL7.out; have h2 := HGL.out; have h3 := HGT.out; omega)))
    have HQF := Lib.hid (HQ6.out.trans (kf.below HQ6.out.size (fun j e => by have h1 := HL7.out; have h2 := HGL.out; omega)))
    have HRW3 := Lib.hid hwf
    clear kf hBW hwf hlf
    go_upto_region 21 with (fail)
    change Code.wp _ _ _ _ (wz.setCell ⟨bl, i * 9 + 8, none⟩ (.int .i64 (cx.off + 1)))
    rw [← HRW3.out]
    clear sf sf2 HRW3 XP6 XT6 XB6 HK6 HQ6 XS6 VS6 RC6 HBL
    have Af9 : Hid (nl = lf.length) := HLFL.out.symm
    obtain ⟨Af, hAf⟩ : ∃ Af, Af = some (⟨bl, 0, none⟩ : Addr) := ⟨_, rfl⟩
    obtain ⟨cf, hcf⟩ : ∃ cf, cf = cl := ⟨_, rfl⟩
    have HRF := Lib.hid (fun (y : World) (hk : KeepS (fun j => j = bt) wf y) => (by rw [hAf, hcf, HLFL.out]; exact box_rowC (HBW.out.keepS hk (by have h1 := HL7.out; have h2 := HGL.out; omega)) (by rw [flat_len celCells_len, HLFL.out]) HCLb.out.1 HCLb.out.2 (HBW.out.keepS hk (by have h1 := HL7.out; have h2 := HGL.out; omega)).lt : Row y y.heap.size 9 (.slice Af lf.length cf) lf.length (flat celCells lf)))
    rw [← hAf, ← hcf, Af9.out]
    clear hAf hcf Af9
    have s7 : wf.cell? ⟨bT, 0, none⟩ = some (.slice (some ⟨bt, 0, none⟩) n cT) := XTF.out.cell (k := 0) rfl
    have t1 : wf.cell? ⟨bt, k * 6 + 4, none⟩ = some r.va := XBF.out.cell (flat_at6 HR.out rfl)
    have t2 : wf.frozen? ⟨bt, k * 6 + 4, none⟩ = false := XBF.out.frozen (k * 6 + 4)
    obtain ⟨wy, hwy⟩ : ∃ wy, wy = wf.setCell ⟨bt, k * 6 + 4, none⟩ (.slice Af lf.length cf) := ⟨_, rfl⟩
    have XPY : Hid (Box wy w.heap.size [.slice A p.code.length c, .int .i64 p.size, .slice D p.data.length d]) := by rw [hwy]; exact XPF.out.setCell_other (by have h := HGT.out; omega) _ _
    have XTY : Hid (Box wy bT (splV (.slice (some ⟨bt, 0, none⟩) n cT) O)) := by rw [hwy]; exact XTF.out.setCell_other (by have h := HGT.out; omega) _ _
    have XBY : Hid (Box wy bt (flat blkRL (rs.set k { r with va := (.slice Af lf.length cf) }) ++ zs)) := by
      have h := XBF.out.setCell (k * 6 + 4) (.slice Af lf.length cf)
      rw [set_flatB (s := { r with va := (.slice Af lf.length cf) }) HR.out rfl (by omega)] at h
      rw [hwy]; exact h
    have ky : KeepS (fun j => j = bt) wf wy := by rw [hwy]; exact (KeepS.refl (fun j => j = bt) wf).setCell rfl _ _
    have HRY := Lib.hid (HRF.out wy ky)
    have HKY := Lib.hid (HKF.out.trans (ky.below HKF.out.size (fun j e => by have h := HGT.out; omega)))
    have HQY := Lib.hid (HQF.out.trans (ky.below HQF.out.size (fun j e => by have h := HL7.out; omega)))
    have HRW := Lib.hid hwy
    clear ky XPF XTF XBF HKF HQF HRF hwy
    go_upto_region 24 with (fail)
    change Code.wp _ _ _ _ (wf.setCell ⟨bt, k * 6 + 4, none⟩ (.slice Af lf.length cf))
    rw [← HRW.out]
    clear s7 t1 t2 HRW
    have HV : Hid (BlksV wy wy.heap.size (.slice (some ⟨bt, 0, none⟩) n cT) (L.set k { x with a := lf })) :=
      blks_setA HN.out.symm HLEN.out HR.out HX.out (fun j r' x' h1 h2 => ((HALL.out j r' x' h1 h2).keep (fun a ha => HQY.out.cell ha)).more HQY.out.size) XBY.out HCT.out.1 HCT.out.2 XBY.out.lt HRY.out
    have BLn : (L.set k { x with a := lf }).length = n := by rw [List.length_set]; exact HN.out.symm
    have hR := rightS_any A c p.size D p.data.length d p.code (some ⟨bt, 0, none⟩) cT (L.set k { x with a := lf }) O wy ((HPC.out.below HKY.out).more HKY.out.size) (by omega) (by omega) (by rw [BLn]; exact HV.out) NO.out
    rw [BLn, right_setA HCL.out HL.out HX.out lf] at hR
    rw [← HL0.out, HNEQ.out] at hR
    have HRC := Lib.hid hR
    clear hR BLn HV
    go_wp2_with (first
      | (refine wpList_load_box rfl 25 (.tmp 4) rfl w.heap.size 0 rfl [.slice A p.code.length c, .int .i64 p.size, .slice D p.data.length d] [.slice A p.code.length c, .int .i64 p.size, .slice D p.data.length d] XPY.out whole_at _ Try.underlying25 rfl 3 size_prg rfl ?_)
      | (refine wpList_load_box rfl 30 (.tmp 13) rfl bT 0 rfl (splV (.slice (some ⟨bt, 0, none⟩) n cT) O) (splV (.slice (some ⟨bt, 0, none⟩) n cT) O) XTY.out whole_at _ Try.underlying30 rfl 17 size_spl (splV_len NO.out) ?_))
    refine HRC.out.mono ?_; rintro e wr ⟨rfl, hb⟩
    have HE := Lib.hid (HKY.out.trans (hb.mono HKY.out.size))
    have XTR := Lib.hid (XTY.out.below hb XTY.out.lt)
    have XBR := Lib.hid (XBY.out.below hb XBY.out.lt)
    have HRR := Lib.hid ((HRY.out.below hb).more hb.size)
    have HQR := Lib.hid (HQY.out.trans (hb.mono HQY.out.size))
    clear hb HRC XPY XTY XBY HRY HQY HKY
    try dsimp only
    by_cases hk1 : cx.kind = 1
    · have b1 : (cx.kind != 1) = false := by simp [hk1]
      clear hk1
      go_wp2_with fail
      go_ret
      exact ⟨by first | rfl | trivial, HE.out⟩
    by_cases hk2 : cx.kind = 2
    · have b1 : (cx.kind != 1) = true := by simpa using hk1
      have b2 : (cx.kind != 2) = false := by simp [hk2]
      clear hk1 hk2
      go_wp2_with fail
      go_ret
      exact ⟨by first | rfl | trivial, HE.out⟩
    have b1 : (cx.kind != 1) = true := by simpa using hk1
    have b2 : (cx.kind != 2) = true := by simpa using hk2
    clear hk1 hk2
    go_wp2_with fail
    go_ret
    exact ⟨by first | rfl | trivial, HE.out⟩
end Go.Proofs.Yteagglddgkjkmaa.Words

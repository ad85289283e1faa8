/- The walk of law 14's CertHolds. -/
import Derived.Test.YteagglddgkjkmaaG15
import Derived.Test.YteagglddgkjkmaaG16
import Derived.Test.YteagglddgkjkmaaG13
namespace Go.Proofs.Yteagglddgkjkmaa.Words
set_option maxRecDepth 100000
open Go.RowKit
set_option linter.unusedVariables false
set_option linter.unusedSimpArgs false

theorem cell_ltH {w : World} {b off : Nat} {v : Value} (h : w.cell? ⟨b, off, none⟩ = some v) : b < w.heap.size := by
  rcases Nat.lt_or_ge b w.heap.size with h1 | h1
  · exact h1
  · simp only [World.cell?] at h; rw [Array.getElem?_eq_none h1] at h; simp at h

set_option maxHeartbeats 8000000 in
theorem certHolds_yes (A : Option Addr) (c : Nat) (D : Option Addr) (d : Nat) (p : Prog) (pick : Int) (w : World)
    (hp : ProgV w w.heap.size (.slice A p.code.length c) (.slice D p.data.length d) p) (hpk : -9223372036854775808 ≤ pick ∧ pick ≤ 9223372036854775807)
    (hcl : closedZ p.code p.size p.data.length (ownO pick) = true) :
    Calls Try.prog 3 #[.agg #[.slice A p.code.length c, .int .i64 p.size, .slice D p.data.length d], .int .i64 pick] w fun e w' => e = .returned (.bool true) ∧ Below w.heap.size w w' := by
  obtain ⟨u1, u2⟩ := hp.code.cap
  obtain ⟨u3, u4⟩ := hp.data.cap
  obtain ⟨W, hW⟩ : ∃ W, W = w.alloc (.cells #[.slice A p.code.length c, .int .i64 p.size, .slice D p.data.length d] 25) := ⟨_, rfl⟩
  have HK0 : Hid (Below w.heap.size w W) := by rw [hW]; exact (Below.refl w.heap.size w).alloc (Nat.le_refl _) _
  have XP0 : Hid (Box W w.heap.size [.slice A p.code.length c, .int .i64 p.size, .slice D p.data.length d]) := by rw [hW]; exact Box.new w _ _
  have RC0 := Lib.hid ((hp.code.below HK0.out).more HK0.out.size)
  have HPC := Lib.hid hp.code
  have HPK := Lib.hid hpk
  have HCL := Lib.hid hcl
  clear hp hpk hcl
  go_enter Try.func3, Try.ntmps3
  go_upto_region 1 with (fail)
  change Code.wp _ _ _ _ (w.alloc (.cells #[.slice A p.code.length c, .int .i64 p.size, .slice D p.data.length d] 25))
  rw [← hW]
  clear hW
  go_wp2_with fail
  refine (alive14_any _).mono ?_; rintro e y4 ⟨rfl, hb1⟩
  have HK1 := Lib.hid (HK0.out.trans ((hb1).mono HK0.out.size))
  have XP1 := Lib.hid (XP0.out.below (hb1) XP0.out.lt)
  have RC1 := Lib.hid ((RC0.out.below (hb1)).more (hb1).size)
  clear XP0 RC0 HK0
  clear hb1
  go_upto_region 2 with (fail)
  obtain ⟨L2, hL2⟩ : ∃ L2, L2 = withZ p.code p.size p.data.length (ownO pick) := ⟨_, rfl⟩
  obtain ⟨O2, hO2⟩ : ∃ O2, O2 = ownW p.code p.size p.data.length (ownO pick) := ⟨_, rfl⟩
  obtain ⟨E2, hE2⟩ : ∃ E2, E2 = errW p.code p.size p.data.length (ownO pick) := ⟨_, rfl⟩
  have N2 : Hid (O2.length = 16) := by rw [hO2]; exact ownW_len (ownO_len pick)
  have HL2 := Lib.hid hL2
  have HO2 := Lib.hid hO2
  have HE2 := Lib.hid hE2
  clear hL2 hO2 hE2
  refine region_tree_ex (fun (act : Act) (B : Nat × Value) => (((((((((act.put (some 14) (.agg #[.slice A p.code.length c, .int .i64 p.size, .slice D p.data.length d])).put (some 15) (.int .i64 pick)).put (some 16) (.agg (oV (ownO pick)).toArray)).put (some 17) (.tuple #[.agg (splV B.2 O2).toArray, .int .i64 E2])).put (some 13) (.tuple #[.agg (splV B.2 O2).toArray, .int .i64 E2])).put (some 18) (.agg (splV B.2 O2).toArray)).put (some 19) (.int .i64 E2)).put (some 6) (.pointer (some ⟨B.1, 0, none⟩))).put (some 7) (.int .i64 E2)))
    (fun B y => Box y B.1 (splV B.2 O2) ∧ BlksV y y.heap.size B.2 L2 ∧ Kept y4 y ∧ (∃ A c, B.2 = .slice A L2.length c) ∧ y4.heap.size ≤ B.1)
    (LinT.of [(0, true), (1, true)] (.two 2 7 (LinT.of [] (.two 3 7 (LinT.of [(4, true), (5, true), (6, true), (7, false), (8, false), (9, true)] .nil) (LinT.of [(3, false), (4, true), (5, true), (6, true), (8, false), (9, true)] .nil))) (LinT.of [(2, false), (3, false), (4, true), (5, true), (6, true), (8, false), (9, true)] .nil)))
    (by kernel_rfl) (by kernel_rfl) rfl (by kernel_rfl) (Kept y4) ?_ ?_
  · simp only [LinT.of, LinT.look, List.getElem?_toArray, List.getElem?_cons_succ, List.getElem?_cons_zero]
    have k0 : Kept y4 y4.drew := (Kept.refl y4).drew
    refine tree_load_ex k0 (by rfl) 25 (.tmp 2) rfl w.heap.size 0 rfl [.slice A p.code.length c, .int .i64 p.size, .slice D p.data.length d] [.slice A p.code.length c, .int .i64 p.size, .slice D p.data.length d] (fun y hy => XP1.out.kept hy) whole_at _ Try.underlying25 rfl 3 size_prg rfl ?_
    (try simp only [Act.put, List.setIfInBounds_toArray, List.set_cons_zero, List.set_cons_succ])
    refine tree_take (v := .int .i64 pick) k0 (by rfl) (fun y hy => by rfl) ?_
    (try simp only [Act.put, List.setIfInBounds_toArray, List.set_cons_zero, List.set_cons_succ])
    refine tree_two k0 (by rfl) (by rfl) (fun K hK => ?_) (fun K hK => ?_)
    · go_simp
      refine (owners_make pick _ HPK.out).mono ?_; rintro e z1w ⟨rfl, hb0⟩
      go_wp2_with fail
      have k1 := k0.to hb0
      refine hK.out _ _ k1 (fun _ => ?_)
      clear hK K
      (try simp only [Act.put, List.setIfInBounds_toArray, List.set_cons_zero, List.set_cons_succ])
      refine tree_two k1 (by rfl) (by rfl) (fun K hK => ?_) (fun K hK => ?_)
      · go_simp
        refine (refWith_any A c p.size D p.data.length d p.code (ownO pick) _ ((RC1.out.below k1).more k1.size) (by omega) (by omega) (ownO_len pick)).mono ?_; rintro e z2w ⟨v5, rfl, hv5, hb5⟩
        rw [← HL2.out] at hv5
        rw [← HO2.out, ← HE2.out]
        obtain ⟨A5, c5, rfl⟩ := hv5.blks.form
        go_wp2_with fail
        have k2 := k1.to hb5
        refine hK.out _ _ k2 (fun _ => ?_)
        clear hK K
        (try simp only [Act.put, List.setIfInBounds_toArray, List.set_cons_zero, List.set_cons_succ])
        refine tree_take (v := (.tuple #[.agg (splV (.slice A5 L2.length c5) O2).toArray, .int .i64 E2])) k2 (by rfl) (fun y hy => by rfl) ?_
        (try simp only [Act.put, List.setIfInBounds_toArray, List.set_cons_zero, List.set_cons_succ])
        refine tree_take (v := (.agg (splV (.slice A5 L2.length c5) O2).toArray)) k2 (by rfl) (fun y hy => by rfl) ?_
        (try simp only [Act.put, List.setIfInBounds_toArray, List.set_cons_zero, List.set_cons_succ])
        refine tree_take (v := (.int .i64 E2)) k2 (by rfl) (fun y hy => by rfl) ?_
        (try simp only [Act.put, List.setIfInBounds_toArray, List.set_cons_zero, List.set_cons_succ])
        refine tree_call k2 (by rfl) (fun K hK => ?_)
        go_simp
        obtain ⟨z3w, hz3w⟩ : ∃ z3w, z3w = z2w.alloc (.cells zeroSpl.toArray 30) := ⟨_, rfl⟩
        have k3 : Kept y4 z3w := by rw [hz3w]; exact k2.alloc _
        have HBz3w : Hid (Below z2w.heap.size z2w z3w) := by rw [hz3w]; exact (Below.refl _ _).alloc (Nat.le_refl _) _
        have HZz3w : Hid (Box z3w z2w.heap.size zeroSpl) := by rw [hz3w]; exact Box.new _ _ _
        have HQz3w : Hid (z3w.heap.size = z2w.heap.size + 1) := by show _ = _; rw [hz3w]; simp
        refine hK.out _ _ (k2.alloc _) (fun _ => ?_)
        clear hK K
        change wpT _ _ _ _ _ _ _ (z2w.alloc (.cells zeroSpl.toArray 30))
        rw [← hz3w]
        clear hz3w
        (try simp only [Act.put, List.setIfInBounds_toArray, List.set_cons_zero, List.set_cons_succ])
        refine tree_put_cells k3 (by rfl) 30 (.tmp 6) (.tmp 18) rfl z2w.heap.size 0 (splV (.slice A5 L2.length c5) O2) rfl rfl zeroSpl HZz3w.out (by rw [splV_len N2.out]; decide) 17 size_spl (splV_len N2.out) (splV_one rfl) (fun y hy hg => Below.grown k3 hg k3.size (fun q hq => by injection hq with hq; have := k2.size; omega)) ?_
        intro yz hbz hgz
        rw [splice_whole zeroSpl (splV (.slice A5 L2.length c5) O2) (by rw [splV_len N2.out]; rfl)] at hbz
        have kz : Kept y4 yz := Below.grown k3 hgz k3.size (fun q hq => by injection hq with hq; have := k2.size; omega)
        (try simp only [Act.put, List.setIfInBounds_toArray, List.set_cons_zero, List.set_cons_succ])
        refine tree_take (v := .int .i64 E2) kz (by rfl) (fun y hy => by rfl) ?_
        (try simp only [Act.put, List.setIfInBounds_toArray, List.set_cons_zero, List.set_cons_succ])
        have HB5 := Lib.hid hv5.blks
        have hzz : Below z2w.heap.size z2w yz := Below.grown HBz3w.out hgz (by have := HQz3w.out; omega) (fun q hq => by injection hq with hq; omega)
        exact tree_done ⟨(z2w.heap.size, .slice A5 L2.length c5), rfl, hbz, ((HB5.out.below hzz).more hzz.size), kz, ⟨A5, c5, rfl⟩, by exact k2.size⟩
      · go_simp
        obtain ⟨z2w, hz2w⟩ : ∃ z2w, z2w = z1w.alloc (.cells zeroSpl.toArray 30) := ⟨_, rfl⟩
        have k2 : Kept y4 z2w := by rw [hz2w]; exact k1.alloc _
        have HZz2w : Hid (Box z2w z1w.heap.size zeroSpl) := by rw [hz2w]; exact Box.new _ _ _
        have HQz2w : Hid (z2w.heap.size = z1w.heap.size + 1) := by show _ = _; rw [hz2w]; simp
        refine hK.out _ _ (k1.alloc _) (fun _ => ?_)
        clear hK K
        change wpT _ _ _ _ _ _ _ (z1w.alloc (.cells zeroSpl.toArray 30))
        rw [← hz2w]
        clear hz2w
        (try simp only [Act.put, List.setIfInBounds_toArray, List.set_cons_zero, List.set_cons_succ])
        refine tree_call k2 (by rfl) (fun K hK => ?_)
        go_simp
        refine (refWith_any A c p.size D p.data.length d p.code (ownO pick) _ ((RC1.out.below k2).more k2.size) (by omega) (by omega) (ownO_len pick)).mono ?_; rintro e z3w ⟨v5, rfl, hv5, hb5⟩
        rw [← HL2.out] at hv5
        rw [← HO2.out, ← HE2.out]
        obtain ⟨A5, c5, rfl⟩ := hv5.blks.form
        go_wp2_with fail
        have k3 := k2.to hb5
        have HZ3 := Lib.hid (HZz2w.out.below hb5 HZz2w.out.lt)
        have hb5s := hb5.size
        refine hK.out _ _ k3 (fun _ => ?_)
        clear hK K
        (try simp only [Act.put, List.setIfInBounds_toArray, List.set_cons_zero, List.set_cons_succ])
        refine tree_take (v := (.tuple #[.agg (splV (.slice A5 L2.length c5) O2).toArray, .int .i64 E2])) k3 (by rfl) (fun y hy => by rfl) ?_
        (try simp only [Act.put, List.setIfInBounds_toArray, List.set_cons_zero, List.set_cons_succ])
        refine tree_take (v := (.agg (splV (.slice A5 L2.length c5) O2).toArray)) k3 (by rfl) (fun y hy => by rfl) ?_
        (try simp only [Act.put, List.setIfInBounds_toArray, List.set_cons_zero, List.set_cons_succ])
        refine tree_take (v := (.int .i64 E2)) k3 (by rfl) (fun y hy => by rfl) ?_
        (try simp only [Act.put, List.setIfInBounds_toArray, List.set_cons_zero, List.set_cons_succ])
        refine tree_put_cells k3 (by rfl) 30 (.tmp 6) (.tmp 18) rfl z1w.heap.size 0 (splV (.slice A5 L2.length c5) O2) rfl rfl zeroSpl HZ3.out (by rw [splV_len N2.out]; decide) 17 size_spl (splV_len N2.out) (splV_one rfl) (fun y hy hg => Below.grown k3 hg k3.size (fun q hq => by injection hq with hq; have := k1.size; omega)) ?_
        intro yz hbz hgz
        rw [splice_whole zeroSpl (splV (.slice A5 L2.length c5) O2) (by rw [splV_len N2.out]; rfl)] at hbz
        have kz : Kept y4 yz := Below.grown k3 hgz k3.size (fun q hq => by injection hq with hq; have := k1.size; omega)
        (try simp only [Act.put, List.setIfInBounds_toArray, List.set_cons_zero, List.set_cons_succ])
        refine tree_take (v := .int .i64 E2) kz (by rfl) (fun y hy => by rfl) ?_
        (try simp only [Act.put, List.setIfInBounds_toArray, List.set_cons_zero, List.set_cons_succ])
        exact tree_done ⟨(z1w.heap.size, .slice A5 L2.length c5), rfl, hbz, (hv5.keepS (KeepS.of_grown (S := fun j => j = z1w.heap.size) hgz (fun q hq => by injection hq with hq; exact hq.symm)) (fun j e => by have := HQz2w.out; omega)).blks, kz, ⟨A5, c5, rfl⟩, by exact k1.size⟩
    · go_simp
      obtain ⟨z1w, hz1w⟩ : ∃ z1w, z1w = y4.drew.alloc (.cells zeroSpl.toArray 30) := ⟨_, rfl⟩
      have k1 : Kept y4 z1w := by rw [hz1w]; exact k0.alloc _
      have HZz1w : Hid (Box z1w y4.drew.heap.size zeroSpl) := by rw [hz1w]; exact Box.new _ _ _
      have HQz1w : Hid (z1w.heap.size = y4.drew.heap.size + 1) := by show _ = _; rw [hz1w]; simp
      refine hK.out _ _ (k0.alloc _) (fun _ => ?_)
      clear hK K
      change wpT _ _ _ _ _ _ _ (y4.drew.alloc (.cells zeroSpl.toArray 30))
      rw [← hz1w]
      clear hz1w
      (try simp only [Act.put, List.setIfInBounds_toArray, List.set_cons_zero, List.set_cons_succ])
      refine tree_call k1 (by rfl) (fun K hK => ?_)
      go_simp
      refine (owners_make pick _ HPK.out).mono ?_; rintro e z2w ⟨rfl, hb0⟩
      go_wp2_with fail
      have k2 := k1.to hb0
      have HZ2 := Lib.hid (HZz1w.out.below hb0 HZz1w.out.lt)
      have hb0s := hb0.size
      refine hK.out _ _ k2 (fun _ => ?_)
      clear hK K
      (try simp only [Act.put, List.setIfInBounds_toArray, List.set_cons_zero, List.set_cons_succ])
      refine tree_call k2 (by rfl) (fun K hK => ?_)
      go_simp
      refine (refWith_any A c p.size D p.data.length d p.code (ownO pick) _ ((RC1.out.below k2).more k2.size) (by omega) (by omega) (ownO_len pick)).mono ?_; rintro e z3w ⟨v5, rfl, hv5, hb5⟩
      rw [← HL2.out] at hv5
      rw [← HO2.out, ← HE2.out]
      obtain ⟨A5, c5, rfl⟩ := hv5.blks.form
      go_wp2_with fail
      have k3 := k2.to hb5
      have HZ3 := Lib.hid (HZ2.out.below hb5 HZ2.out.lt)
      refine hK.out _ _ k3 (fun _ => ?_)
      clear hK K
      (try simp only [Act.put, List.setIfInBounds_toArray, List.set_cons_zero, List.set_cons_succ])
      refine tree_take (v := (.tuple #[.agg (splV (.slice A5 L2.length c5) O2).toArray, .int .i64 E2])) k3 (by rfl) (fun y hy => by rfl) ?_
      (try simp only [Act.put, List.setIfInBounds_toArray, List.set_cons_zero, List.set_cons_succ])
      refine tree_take (v := (.agg (splV (.slice A5 L2.length c5) O2).toArray)) k3 (by rfl) (fun y hy => by rfl) ?_
      (try simp only [Act.put, List.setIfInBounds_toArray, List.set_cons_zero, List.set_cons_succ])
      refine tree_take (v := (.int .i64 E2)) k3 (by rfl) (fun y hy => by rfl) ?_
      (try simp only [Act.put, List.setIfInBounds_toArray, List.set_cons_zero, List.set_cons_succ])
      refine tree_put_cells k3 (by rfl) 30 (.tmp 6) (.tmp 18) rfl y4.drew.heap.size 0 (splV (.slice A5 L2.length c5) O2) rfl rfl zeroSpl HZ3.out (by rw [splV_len N2.out]; decide) 17 size_spl (splV_len N2.out) (splV_one rfl) (fun y hy hg => Below.grown k3 hg k3.size (fun q hq => by injection hq with hq; have h9 : y4.drew.heap.size = y4.heap.size := rfl; omega)) ?_
      intro yz hbz hgz
      rw [splice_whole zeroSpl (splV (.slice A5 L2.length c5) O2) (by rw [splV_len N2.out]; rfl)] at hbz
      have kz : Kept y4 yz := Below.grown k3 hgz k3.size (fun q hq => by injection hq with hq; have h9 : y4.drew.heap.size = y4.heap.size := rfl; omega)
      (try simp only [Act.put, List.setIfInBounds_toArray, List.set_cons_zero, List.set_cons_succ])
      refine tree_take (v := .int .i64 E2) kz (by rfl) (fun y hy => by rfl) ?_
      (try simp only [Act.put, List.setIfInBounds_toArray, List.set_cons_zero, List.set_cons_succ])
      exact tree_done ⟨(y4.drew.heap.size, .slice A5 L2.length c5), rfl, hbz, (hv5.keepS (KeepS.of_grown (S := fun j => j = y4.drew.heap.size) hgz (fun q hq => by injection hq with hq; exact hq.symm)) (fun j e => by have := HQz1w.out; omega)).blks, kz, ⟨A5, c5, rfl⟩, by exact Nat.le_refl _⟩

  rintro ⟨blk, v5⟩ y5 ⟨hB5, hV5, hk5, ⟨A5, c5, hv5⟩, hge⟩
  dsimp only at hB5 hV5 hk5 hv5 hge
  subst hv5
  have HGE : Hid (w.heap.size < blk) := Nat.lt_of_lt_of_le XP1.out.lt hge
  clear hge
  have HK2 := Lib.hid (HK1.out.trans ((hk5).mono HK1.out.size))
  have XP2 := Lib.hid (XP1.out.below (hk5) XP1.out.lt)
  have RC2 := Lib.hid ((RC1.out.below (hk5)).more (hk5).size)
  clear XP1 RC1 HK1
  have XT2 := Lib.hid hB5
  have VT2 := Lib.hid hV5
  clear hB5 hV5 hk5
  simp only [Act.put, List.setIfInBounds_toArray, List.set_cons_zero, List.set_cons_succ]
  obtain ⟨q1, q2, q3⟩ := with_yes HCL.out
  have hE : E2 = 0 := HE2.out.trans q3
  have hO : O2 = ownO pick := HO2.out.trans q2
  subst hE
  clear q1 q2 q3
  have NO := N2
  obtain ⟨o, ho⟩ : ∃ o, o = ownO pick := ⟨_, rfl⟩
  rw [← ho] at HCL HL2 hO
  subst hO
  clear ho HO2 HE2 N2
  obtain ⟨L, hL⟩ : ∃ L, L = L2 := ⟨_, rfl⟩
  have HL : Hid (L = withZ p.code p.size p.data.length O2) := hL.trans HL2.out
  rw [← hL] at XT2 VT2 ⊢
  clear hL HL2
  go_upto_region 5 with (fail)
  go_wp2_with (first
    | (refine wpList_load_box rfl 25 (.tmp 2) rfl w.heap.size 0 rfl [.slice A p.code.length c, .int .i64 p.size, .slice D p.data.length d] [.slice A p.code.length c, .int .i64 p.size, .slice D p.data.length d] XP2.out whole_at _ Try.underlying25 rfl 3 size_prg rfl ?_))
  refine (few_any A D p.code.length c p.data.length d p.size _ (by omega) (by omega)).mono ?_; rintro e y9 ⟨rfl, hb9⟩
  have HK3 := Lib.hid (HK2.out.trans ((hb9).mono HK2.out.size))
  have XP3 := Lib.hid (XP2.out.below (hb9) XP2.out.lt)
  have RC3 := Lib.hid ((RC2.out.below (hb9)).more (hb9).size)
  have XT3 := Lib.hid (XT2.out.below (hb9) XT2.out.lt)
  have VT3 := Lib.hid ((VT2.out.below (hb9)).more (hb9).size)
  clear XP2 RC2 XT2 VT2 HK2
  clear hb9
  cases hfew : fewB p.code.length p.data.length
  · try dsimp only
    go_wp2_with fail
    go_ret
    exact ⟨by first | rfl | trivial, HK3.out⟩
  clear hfew
  try dsimp only
  have HG := Lib.hid (fun (x : BlkC) (hx : x ∈ L) => (by rw [HL.out] at hx; exact with_good x hx : BlkGood x))
  have HRT : Hid (rightS p.code p.size p.data.length L O2 = true) := by show _ = _; rw [HL.out]; exact with_right HCL.out
  have HMS : Hid (mostS L ≤ 3) := by show _ ≤ _; rw [HL.out]; exact with_most _ _ _ _
  have HSP := Lib.hid (fun (h : L.length ≠ 0) => VT3.out.spot h)
  have HA := Lib.hid (fun j (h : j < L.length) => at_someG (l := L) (j := j) h)
  have u5 := VT3.out.cap
  clear HL HCL
  go_wp2_with fail
  go_loopw [8] (fun ii wr => ∃ k : Nat, k ≤ L.length ∧ ii = .int .i64 k ∧ Kept y9 wr) (fun ii _ => L.length - (intOf ii).toNat)
  case atStart => exact ⟨0, Nat.zero_le _, rfl, Kept.refl _⟩
  case round =>
    obtain ⟨k, hk, rfl, hkp⟩ := hrel
    have HKP := Lib.hid hkp
    have s0 : wr.cell? ⟨blk, 0, none⟩ = some (.slice A5 L.length c5) := (XT3.out.kept hkp).cell (k := 0) rfl
    have g0 : (0 : Int) ≤ k := by omega
    by_cases hlt : k < L.length
    · have g1 : (k : Int) < L.length := by omega
      obtain ⟨b5, o5, rfl⟩ := HSP.out (by omega)
      obtain ⟨x, hx⟩ := HA.out k hlt
      obtain ⟨A3, c3, A4, c4, a0, a1, a2, a3, a4, a5, ra, re⟩ := ((VT3.out.below hkp).more hkp.size).at_ hx
      have HRA := Lib.hid ra
      have HRE := Lib.hid re
      have HGD := Lib.hid (HG.out x (List.mem_of_getElem? hx))
      have z0 : blk < wr.heap.size := (XT3.out.kept hkp).lt
      have z1 : b5 < wr.heap.size := cell_ltH a0
      clear hx ra re hkp
      go_wp2_with fail
      refine (balanced_any x.from_ x.to x.next x.taken A3 A4 c3 c4 x.a x.e wr HRA.out HRE.out (by have := HGD.out.la; omega) (by have := HGD.out.le; omega)).mono ?_; rintro e w1 ⟨rfl, hb1⟩
      rw [HGD.out.bal]
      have s1 := below_cell hb1 z0 s0
      have d0 := below_cell hb1 z1 a0
      have d1 := below_cell hb1 z1 a1
      have d2 := below_cell hb1 z1 a2
      have d3 := below_cell hb1 z1 a3
      have d4 := below_cell hb1 z1 a4
      have d5 := below_cell hb1 z1 a5
      have y0 : blk < w1.heap.size := Nat.lt_of_lt_of_le z0 hb1.size
      have y1 : b5 < w1.heap.size := Nat.lt_of_lt_of_le z1 hb1.size
      have HRA1 := Lib.hid ((HRA.out.below hb1).more hb1.size)
      have HRE1 := Lib.hid ((HRE.out.below hb1).more hb1.size)
      have HK1 := Lib.hid (HKP.out.to hb1)
      clear hb1 s0 a0 a1 a2 a3 a4 a5 z0 z1 HRA HRE HKP
      try dsimp only
      go_wp2_with fail
      refine (counts_any x.from_ x.to x.next x.taken A3 A4 c3 c4 x.a x.e w1 HRA1.out HRE1.out).mono ?_; rintro e w2 ⟨rfl, hb2⟩
      have HK2 := Lib.hid (HK1.out.to hb2)
      have S2 := Lib.hid (below_cell hb2 y0 s1)
      have D4 := Lib.hid (below_cell hb2 y1 d4)
      have D5 := Lib.hid (below_cell hb2 y1 d5)
      have Y0 := Lib.hid (Nat.lt_of_lt_of_le y0 hb2.size)
      have Y1 := Lib.hid (Nat.lt_of_lt_of_le y1 hb2.size)
      clear hb2 s1 d0 d1 d2 d3 d4 d5 y0 y1 HRA1 HRE1 HK1
      obtain ⟨za, hza⟩ : ∃ za, za = countsZ x.a := ⟨_, rfl⟩
      obtain ⟨ze, hze⟩ : ∃ ze, ze = countsZ x.e := ⟨_, rfl⟩
      have NA : Hid (za.length = 12) := by rw [hza]; exact countsZ_len _
      have NE : Hid (ze.length = 12) := by rw [hze]; exact countsZ_len _
      have HN24 := Lib.hid (c24_len NA.out NE.out)
      have HAT := Lib.hid (fun (j : Nat) (h : j < 12) => (by rw [hza, hze]; exact ⟨countsZ_at x.a h, countsZ_at x.e h⟩ : za[j]? = some (kindN x.a j : Int) ∧ ze[j]? = some (kindN x.e j : Int)))
      have HSB := Lib.hid (fun (j : Nat) (h : j ≤ 12) => (by rw [hza, hze]; exact sumK_bound x.a x.e HGD.out.la HGD.out.le j h : 0 ≤ sumK za ze j ∧ sumK za ze j ≤ 12000 * j))
      have HA59 : Hid (sumK za ze 12 = (x.a.length : Int) + (x.e.length : Int)) := by show _ = _; rw [hza, hze]; exact sumK_all HGD.out.bal
      have HST := Lib.hid (fun (j : Nat) (h : j < 12) => (by rw [hza, hze, sumK, cnt_getD _ h, cnt_getD _ h] : sumK za ze (j + 1) = sumK za ze j + (kindN x.a j : Int) + (kindN x.e j : Int)))
      have HNB := Lib.hid (fun (j : Nat) => (⟨Nat.le_trans (kindN_len x.a j) HGD.out.la, Nat.le_trans (kindN_len x.e j) HGD.out.le⟩ : kindN x.a j ≤ 6000 ∧ kindN x.e j ≤ 6000))
      have HJ := Lib.hid (joins_same HGD.out.bal)
      rw [← hza, ← hze]
      clear hza hze
      try dsimp only
      go_wp2_with (first
        | (refine wpList_store_box rfl 41 (.tmp 9) (.tmp 58) rfl w2.heap.size 0 (c24 za ze) rfl rfl (c24 zero12 zero12) (Box.new w2 (c24 zero12 zero12) 41) (by rw [HN24.out]; decide) 24 (by kernel_rfl) HN24.out (c24_one _ _) ?_; intro w3 B3 hg3; rw [splice_whole (c24 zero12 zero12) (c24 za ze) (by rw [HN24.out]; rfl)] at B3; have HN3 : Hid (Box w3 w2.heap.size (c24 za ze)) := B3; have HS3 := Lib.hid (box_stored hg3); clear B3 hg3))
      have HK3 := Lib.hid (HK2.out.to HS3.out)
      have S3 := Lib.hid (below_cell HS3.out Y0.out S2.out)
      have E4 := Lib.hid (below_cell HS3.out Y1.out D4.out)
      have E5 := Lib.hid (below_cell HS3.out Y1.out D5.out)
      clear S2 D4 D5 Y0 Y1 HS3
      go_loopw [10, 11] (fun al kk wz => ∃ (j : Nat), j ≤ 12 ∧ al = .int .i64 (sumK za ze j) ∧ kk = .int .i64 j ∧ Kept w3 wz) (fun _ kk _ => 12 - (intOf kk).toNat)
      case atStart => exact ⟨0, by omega, rfl, rfl, Kept.refl _⟩
      case round =>
        obtain ⟨j, hj, rfl, rfl, hkz⟩ := hrel
        have HKZ := Lib.hid hkz
        clear hkz
        obtain ⟨S, hS⟩ : ∃ S, S = sumK za ze j := ⟨_, rfl⟩
        have hsb := HSB.out j hj
        rw [← hS] at hsb ⊢
        obtain ⟨hs1, hs2⟩ := hsb
        have HS := Lib.hid hS
        clear hS
        have j0 : (0 : Int) ≤ j := by omega
        by_cases hjl : j < 12
        · obtain ⟨q1, q2⟩ := HAT.out j hjl
          obtain ⟨b1, b2⟩ := HNB.out j
          have hst := HST.out j hjl
          rw [← HS.out] at hst
          obtain ⟨va, hva⟩ : ∃ va, va = kindN x.a j := ⟨_, rfl⟩
          obtain ⟨ve, hve⟩ : ∃ ve, ve = kindN x.e j := ⟨_, rfl⟩
          rw [← hva] at q1 b1 hst
          rw [← hve] at q2 b2 hst
          have HST2 := Lib.hid hst
          have j1 : (j : Int) < 12 := by omega
          have b1' : (va : Int) ≤ 6000 := by omega
          have b2' : (ve : Int) ≤ 6000 := by omega
          have HNZ := Lib.hid (HN3.out.kept HKZ.out)
          have c0 := fun (y : World) (hy : Kept wr y) => (HNZ.out.kept hy).cell (c24_a (e := ze) q1)
          have c1 := fun (y : World) (hy : Kept wr y) => (HNZ.out.kept hy).cell (c24_e NA.out q2)
          have e1 : IntKind.i64.wrap (S + (va : Int)) = S + (va : Int) := IntWalk.i64_in _ ⟨by omega, by omega⟩
          have e2 : IntKind.i64.wrap (S + (va : Int) + (ve : Int)) = S + (va : Int) + (ve : Int) := IntWalk.i64_in _ ⟨by omega, by omega⟩
          clear q1 q2 hva hve hst
          go_upto_region 17 with (fail)
          refine wp_region_lin [(0, true), (1, true), (2, true), (3, true), (4, true), (5, true), (6, true), (7, true), (8, true), (9, true), (10, true), (11, true)]
            (by kernel_rfl) (by kernel_rfl) rfl (by kernel_rfl) (Kept wr) ?_
          simp only [List.map_cons, List.map_nil, List.getElem?_toArray, List.getElem?_cons_succ, List.getElem?_cons_zero]
          have k0 : Kept wr wr.drew := (Kept.refl wr).drew
          iterate 12 (refine lin_take (v := ?_) k0 (by rfl) ?_ ?_; rotate_left; (intro y hy; have c0y := c0 y hy; have c1y := c1 y hy; go_simp; try (with_reducible rfl)); (try simp only [Act.put, List.setIfInBounds_toArray, List.set_cons_zero, List.set_cons_succ]))
          refine lin_done ?_
          clear c0 c1
          go_wp2_with fail
          go_roundw
          case rel => exact ⟨j + 1, by omega, by rw [HST2.out], by go_num, HKZ.out.to k0⟩
          case measure => simp only [intOf]; omega
        · have hj12 : j = 12 := by omega
          have hSv : S = (x.a.length : Int) + (x.e.length : Int) := by rw [HS.out, hj12]; exact HA59.out
          have j1 : ¬ (j : Int) < 12 := by omega
          clear hj12
          subst hSv
          obtain ⟨J1, J2, J3⟩ := HJ.out
          have b1 := HGD.out.la
          have b2 := HGD.out.le
          have HXN := Lib.hid (HN3.out.kept HKZ.out)
          have HXS := Lib.hid (fun (y : World) (hy : Kept wr y) => ((HKZ.out.to hy).cell (o := 0) (cell_ltH S3.out) S3.out))
          have HX4 := Lib.hid (fun (y : World) (hy : Kept wr y) => ((HKZ.out.to hy).cell (cell_ltH E4.out) E4.out))
          have HX5 := Lib.hid (fun (y : World) (hy : Kept wr y) => ((HKZ.out.to hy).cell (cell_ltH E5.out) E5.out))
          obtain ⟨v1, hv1⟩ : ∃ v1, v1 = kindN x.a 4 := ⟨_, rfl⟩
          obtain ⟨v2, hv2⟩ : ∃ v2, v2 = kindN x.a 2 := ⟨_, rfl⟩
          obtain ⟨v3, hv3⟩ : ∃ v3, v3 = kindN x.a 3 := ⟨_, rfl⟩
          have HC1 := Lib.hid (fun (y : World) (hy : Kept wr y) => (by rw [hv1]; exact (HXN.out.kept hy).cell (c24_a (HAT.out 4 (by omega)).1) : y.cell? ⟨w2.heap.size, 4, none⟩ = some (.int .i64 (v1 : Int))))
          have HC2 := Lib.hid (fun (y : World) (hy : Kept wr y) => (by rw [hv1, J1]; exact (HXN.out.kept hy).cell (c24_e NA.out (HAT.out 5 (by omega)).2) : y.cell? ⟨w2.heap.size, 17, none⟩ = some (.int .i64 (v1 : Int))))
          have HC3 := Lib.hid (fun (y : World) (hy : Kept wr y) => (by rw [hv2]; exact (HXN.out.kept hy).cell (c24_a (HAT.out 2 (by omega)).1) : y.cell? ⟨w2.heap.size, 2, none⟩ = some (.int .i64 (v2 : Int))))
          have HC4 := Lib.hid (fun (y : World) (hy : Kept wr y) => (by rw [hv2, J2]; exact (HXN.out.kept hy).cell (c24_e NA.out (HAT.out 6 (by omega)).2) : y.cell? ⟨w2.heap.size, 18, none⟩ = some (.int .i64 (v2 : Int))))
          have HC5 := Lib.hid (fun (y : World) (hy : Kept wr y) => (by rw [hv3]; exact (HXN.out.kept hy).cell (c24_a (HAT.out 3 (by omega)).1) : y.cell? ⟨w2.heap.size, 3, none⟩ = some (.int .i64 (v3 : Int))))
          have HC6 := Lib.hid (fun (y : World) (hy : Kept wr y) => (by rw [hv3, J3]; exact (HXN.out.kept hy).cell (c24_e NA.out (HAT.out 7 (by omega)).2) : y.cell? ⟨w2.heap.size, 19, none⟩ = some (.int .i64 (v3 : Int))))
          obtain ⟨n6, hn6⟩ : ∃ n6, n6 = x.a.length := ⟨_, rfl⟩
          obtain ⟨n7, hn7⟩ : ∃ n7, n7 = x.e.length := ⟨_, rfl⟩
          rw [← hn6] at HX4 b1 ⊢
          rw [← hn7] at HX5 b2 ⊢
          have eW : IntKind.i64.wrap ((n6 : Int) + (n7 : Int)) = (n6 : Int) + (n7 : Int) := IntWalk.i64_in _ ⟨by omega, by omega⟩
          clear hv1 hv2 hv3 J1 J2 J3 hn6 hn7 hs1 hs2 HS
          go_upto_region 18 with (fail)
          refine wp_region_lin [(0, true), (1, true), (2, true), (3, true), (4, true), (5, true), (6, true), (7, true), (8, true), (9, true), (10, true), (11, true), (12, true), (13, true), (14, true), (15, true), (16, true), (17, true), (18, true), (19, true), (20, true), (21, true), (22, true), (23, true), (24, true), (25, true), (26, true), (27, true), (28, true), (29, true), (30, true), (31, true), (32, true), (33, true), (34, true), (35, true), (36, true), (37, true), (38, true), (39, true), (40, true), (41, true), (42, true), (43, true)]
            (by kernel_rfl) (by kernel_rfl) rfl (by kernel_rfl) (Kept wr) ?_
          simp only [List.map_cons, List.map_nil, List.getElem?_toArray, List.getElem?_cons_succ, List.getElem?_cons_zero]
          have k0 : Kept wr wr.drew := (Kept.refl wr).drew
          iterate 16 (refine lin_take (v := ?_) k0 (by rfl) ?_ ?_; rotate_left; (intro y hy; have t0 := HXS.out y hy; have t4 := HX4.out y hy; have t5 := HX5.out y hy; go_simp; try (with_reducible rfl)); (try simp only [Act.put, List.setIfInBounds_toArray, List.set_cons_zero, List.set_cons_succ]))
          refine lin_take (v := .bool false) k0 (by rfl) (fun y hy => by go_simp) ?_
          (try simp only [Act.put, List.setIfInBounds_toArray, List.set_cons_zero, List.set_cons_succ])
          iterate 9 (refine lin_take (v := ?_) k0 (by rfl) ?_ ?_; rotate_left; (intro y hy; have t0 := HC1.out y hy; have t4 := HC2.out y hy; go_simp; try (with_reducible rfl)); (try simp only [Act.put, List.setIfInBounds_toArray, List.set_cons_zero, List.set_cons_succ]))
          iterate 9 (refine lin_take (v := ?_) k0 (by rfl) ?_ ?_; rotate_left; (intro y hy; have t0 := HC3.out y hy; have t4 := HC4.out y hy; go_simp; try (with_reducible rfl)); (try simp only [Act.put, List.setIfInBounds_toArray, List.set_cons_zero, List.set_cons_succ]))
          iterate 9 (refine lin_take (v := ?_) k0 (by rfl) ?_ ?_; rotate_left; (intro y hy; have t0 := HC5.out y hy; have t4 := HC6.out y hy; go_simp; try (with_reducible rfl)); (try simp only [Act.put, List.setIfInBounds_toArray, List.set_cons_zero, List.set_cons_succ]))
          refine lin_done ?_
          have HKE := Lib.hid ((HK3.out.trans HKZ.out).trans k0)
          clear k0 eW
          go_wp2_with fail
          go_roundw
          case rel => exact ⟨k + 1, by omega, by go_num, HKE.out⟩
          case measure => simp only [intOf]; omega
    · have hge : ¬ (k : Int) < L.length := by omega
      have HK4 := Lib.hid (HK3.out.trans ((hkp).mono HK3.out.size))
      have XP4 := Lib.hid (XP3.out.below (hkp) XP3.out.lt)
      have RC4 := Lib.hid ((RC3.out.below (hkp)).more (hkp).size)
      have XT4 := Lib.hid (XT3.out.below (hkp) XT3.out.lt)
      have VT4 := Lib.hid ((VT3.out.below (hkp)).more (hkp).size)
      clear XP3 RC3 XT3 VT3 HK3
      clear hkp
      go_wp2_with (first
        | (refine wpList_load_box rfl 25 (.tmp 2) rfl w.heap.size 0 rfl [.slice A p.code.length c, .int .i64 p.size, .slice D p.data.length d] [.slice A p.code.length c, .int .i64 p.size, .slice D p.data.length d] XP4.out whole_at _ Try.underlying25 rfl 3 size_prg rfl ?_)
        | (refine wpList_load_box rfl 30 (.tmp 6) rfl blk 0 rfl (splV (.slice A5 L.length c5) O2) (splV (.slice A5 L.length c5) O2) XT4.out whole_at _ Try.underlying30 rfl 17 size_spl (splV_len NO.out) ?_))
      refine (rightS_any A c p.size D p.data.length d p.code A5 c5 L O2 _ RC4.out (by omega) (by omega) VT4.out NO.out).mono ?_; rintro e w6 ⟨rfl, hb6⟩
      rw [HRT.out]
      have HK5 := Lib.hid (HK4.out.trans ((hb6).mono HK4.out.size))
      have XP5 := Lib.hid (XP4.out.below (hb6) XP4.out.lt)
      have RC5 := Lib.hid ((RC4.out.below (hb6)).more (hb6).size)
      have XT5 := Lib.hid (XT4.out.below (hb6) XT4.out.lt)
      have VT5 := Lib.hid ((VT4.out.below (hb6)).more (hb6).size)
      clear XP4 RC4 XT4 VT4 HK4
      clear hb6
      try dsimp only
      go_wp2_with (first
        | (refine wpList_load_box rfl 25 (.tmp 2) rfl w.heap.size 0 rfl [.slice A p.code.length c, .int .i64 p.size, .slice D p.data.length d] [.slice A p.code.length c, .int .i64 p.size, .slice D p.data.length d] XP5.out whole_at _ Try.underlying25 rfl 3 size_prg rfl ?_)
        | (refine wpList_load_box rfl 30 (.tmp 6) rfl blk 0 rfl (splV (.slice A5 L.length c5) O2) (splV (.slice A5 L.length c5) O2) XT5.out whole_at _ Try.underlying30 rfl 17 size_spl (splV_len NO.out) ?_))
      refine (mostS_any A5 c5 L O2 _ VT5.out (fun x hx => ⟨(HG.out x hx).oa, (HG.out x hx).oe⟩)).mono ?_; rintro e w7 ⟨rfl, hb7⟩
      have HK6 := Lib.hid (HK5.out.trans ((hb7).mono HK5.out.size))
      have XP6 := Lib.hid (XP5.out.below (hb7) XP5.out.lt)
      have RC6 := Lib.hid ((RC5.out.below (hb7)).more (hb7).size)
      have XT6 := Lib.hid (XT5.out.below (hb7) XT5.out.lt)
      have VT6 := Lib.hid ((VT5.out.below (hb7)).more (hb7).size)
      clear XP5 RC5 XT5 VT5 HK5
      clear hb7
      obtain ⟨ms, hms⟩ : ∃ ms, ms = mostS L := ⟨_, rfl⟩
      have h3 : (ms : Int) ≤ 3 := by have := HMS.out; omega
      rw [← hms]
      clear hms
      try dsimp only
      go_wp2_with fail
      go_ret
      exact ⟨by first | rfl | trivial, HK6.out⟩
end Go.Proofs.Yteagglddgkjkmaa.Words

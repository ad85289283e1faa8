/- The walk of law 13's SplitAll. -/
import Derived.Test.YtbibfpopkcekdaaG12
import Derived.Test.YtbibfpopkcekdaaSSplClosed
import Derived.Test.YtbibfpopkcekdaaG13
import Derived.Test.YtbibfpopkcekdaaG04
namespace Go.Proofs.Ytbibfpopkcekdaa.Words
set_option maxRecDepth 100000
open Go.RowKit
set_option linter.unusedVariables false
set_option linter.unusedSimpArgs false

theorem cell_lt {w : World} {b off : Nat} {v : Value} (h : w.cell? ⟨b, off, none⟩ = some v) : b < w.heap.size := by
  rcases Nat.lt_or_ge b w.heap.size with h1 | h1
  · exact h1
  · simp only [World.cell?] at h; rw [Array.getElem?_eq_none h1] at h; simp at h
set_option maxHeartbeats 4000000 in
theorem splitAll_walk (A : Option Addr) (c : Nat) (D : Option Addr) (d : Nat) (p : Prog) (pick : Int) (w : World)
    (hf : p.Fits) (hp : ProgV w w.heap.size (.slice A p.code.length c) (.slice D p.data.length d) p) (hpk : -9223372036854775808 ≤ pick ∧ pick ≤ 9223372036854775807) :
    Calls Try.prog 4 #[.agg #[.slice A p.code.length c, .int .i64 p.size, .slice D p.data.length d], .int .i64 pick] w fun e w' => e = .returned (.bool true) ∧ Below w.heap.size w w' := by
  obtain ⟨u1, u2⟩ := hp.code.cap
  obtain ⟨u3, u4⟩ := hp.data.cap
  obtain ⟨W, hW⟩ : ∃ W, W = w.alloc (.cells #[.slice A p.code.length c, .int .i64 p.size, .slice D p.data.length d] 25) := ⟨_, rfl⟩
  have HK0 : Hid (Below w.heap.size w W) := by rw [hW]; exact (Below.refl w.heap.size w).alloc (Nat.le_refl _) _
  have XP0 : Hid (Box W w.heap.size [.slice A p.code.length c, .int .i64 p.size, .slice D p.data.length d]) := by rw [hW]; exact Box.new w _ _
  have RC0 := Lib.hid ((hp.code.below HK0.out).more HK0.out.size)
  have HPK := Lib.hid hpk
  clear hp hpk hf
  go_enter Try.func4, Try.ntmps4
  go_upto_region 1 with (fail)
  change Code.wp _ _ _ _ (w.alloc (.cells #[.slice A p.code.length c, .int .i64 p.size, .slice D p.data.length d] 25))
  rw [← hW]
  clear hW
  go_wp2_with fail
  refine (alive13_any _).mono ?_; rintro e w1 ⟨rfl, hb1⟩
  have HK1 := Lib.hid (HK0.out.trans ((hb1).mono HK0.out.size))
  have XP1 := Lib.hid (XP0.out.below (hb1) XP0.out.lt)
  have RC1 := Lib.hid ((RC0.out.below (hb1)).more (hb1).size)
  clear XP0 RC0 HK0
  clear hb1
  go_wp2_with (first
    | (refine wpList_load_box rfl 25 (.tmp 2) rfl w.heap.size 0 rfl [.slice A p.code.length c, .int .i64 p.size, .slice D p.data.length d] [.slice A p.code.length c, .int .i64 p.size, .slice D p.data.length d] XP1.out whole_at _ Try.underlying25 rfl 3 size_prg rfl ?_))
  refine (few_any A D p.code.length c p.data.length d p.size _ (by omega) (by omega)).mono ?_; rintro e w2 ⟨rfl, hb2⟩
  have HK2 := Lib.hid (HK1.out.trans ((hb2).mono HK1.out.size))
  have XP2 := Lib.hid (XP1.out.below (hb2) XP1.out.lt)
  have RC2 := Lib.hid ((RC1.out.below (hb2)).more (hb2).size)
  clear XP1 RC1 HK1
  clear hb2
  cases hfew : fewB p.code.length p.data.length
  · try dsimp only
    go_wp2_with (first
      | (refine wpList_load_box rfl 25 (.tmp 2) rfl w.heap.size 0 rfl [.slice A p.code.length c, .int .i64 p.size, .slice D p.data.length d] [.slice A p.code.length c, .int .i64 p.size, .slice D p.data.length d] XP2.out whole_at _ Try.underlying25 rfl 3 size_prg rfl ?_))
    go_ret
    exact ⟨by first | rfl | trivial, HK2.out⟩

  clear hfew
  try dsimp only
  go_wp2_with (first
    | (refine wpList_load_box rfl 25 (.tmp 2) rfl w.heap.size 0 rfl [.slice A p.code.length c, .int .i64 p.size, .slice D p.data.length d] [.slice A p.code.length c, .int .i64 p.size, .slice D p.data.length d] XP2.out whole_at _ Try.underlying25 rfl 3 size_prg rfl ?_))
  refine (refRight_any A c p.size D p.data.length d p.code _ RC2.out (by omega) (by omega)).mono ?_; rintro e w3 ⟨rfl, hb3⟩
  have HK3 := Lib.hid (HK2.out.trans ((hb3).mono HK2.out.size))
  have XP3 := Lib.hid (XP2.out.below (hb3) XP2.out.lt)
  have RC3 := Lib.hid ((RC2.out.below (hb3)).more (hb3).size)
  clear XP2 RC2 HK2
  clear hb3
  cases hri : rightZ p.code p.size p.data.length
  · try dsimp only
    go_wp2_with (first
      | (refine wpList_load_box rfl 25 (.tmp 2) rfl w.heap.size 0 rfl [.slice A p.code.length c, .int .i64 p.size, .slice D p.data.length d] [.slice A p.code.length c, .int .i64 p.size, .slice D p.data.length d] XP3.out whole_at _ Try.underlying25 rfl 3 size_prg rfl ?_))
    go_ret
    exact ⟨by first | rfl | trivial, HK3.out⟩

  have HRI := Lib.hid hri
  clear hri
  try dsimp only
  go_wp2_with (first
    | (refine wpList_load_box rfl 25 (.tmp 2) rfl w.heap.size 0 rfl [.slice A p.code.length c, .int .i64 p.size, .slice D p.data.length d] [.slice A p.code.length c, .int .i64 p.size, .slice D p.data.length d] XP3.out whole_at _ Try.underlying25 rfl 3 size_prg rfl ?_))
  refine (splOf_any A c p.size D p.data.length d p.code _ RC3.out (by omega) (by omega)).mono ?_; rintro e w4 ⟨v4, rfl, hv4, hb4⟩
  obtain ⟨q1, q2, q3⟩ := with_yes (closedS_least HRI.out)
  rw [q1] at hv4
  rw [q2, q3]
  clear q1 q2 q3
  obtain ⟨z1, hz1⟩ : ∃ z1, z1 = zeroed (ofZ p.code p.size p.data.length) := ⟨_, rfl⟩
  obtain ⟨O1, hO1⟩ : ∃ O1, O1 = ofZ p.code p.size p.data.length := ⟨_, rfl⟩
  have N1 : Hid (O1.length = 16) := by rw [hO1]; exact ofZ_len
  rw [← hz1] at hv4
  rw [← hO1]
  clear hz1 hO1
  have hc := cut_some (closedS_least HRI.out)
  obtain ⟨bs, hbs⟩ : ∃ bs, bs = cutR p.code p.size p.data.length := ⟨_, rfl⟩
  rw [← hbs] at hv4 hc
  have HBS := Lib.hid hbs
  clear hbs
  obtain ⟨n, hn⟩ : ∃ n, n = bs.length := ⟨_, rfl⟩
  rw [← hn] at hc
  have hn0 : 0 < n := hc.1
  have HN := Lib.hid hn
  obtain ⟨A4, c4, rfl⟩ := hv4.blks.form
  have hn2 : (n : Int) ≤ 2000 := by have h1 := cut_len p.code p.size p.data.length; rw [← HBS.out, ← hn] at h1; have := hc.2; omega
  rw [List.length_map, ← hn] at hv4 ⊢
  have HV4 : Hid (BlksV w4 w4.heap.size (.slice A4 n c4) (bs.map (fillB z1 p.code))) := hv4.blks
  clear hn hv4 hc
  have HK4 := Lib.hid (HK3.out.trans ((hb4).mono HK3.out.size))
  have XP4 := Lib.hid (XP3.out.below (hb4) XP3.out.lt)
  have RC4 := Lib.hid ((RC3.out.below (hb4)).more (hb4).size)
  clear XP3 RC3 HK3
  clear hb4
  try dsimp only
  go_upto_region 5 with (first
    | (refine wpList_store_box rfl 29 (.tmp 6) (.tmp 30) rfl w4.heap.size 0 (splV (.slice A4 n c4) O1) rfl rfl zeroSpl (Box.new w4 zeroSpl 29) (by rw [splV_len N1.out]; decide) 17 size_spl (splV_len N1.out) (splV_one rfl) ?_; intro y4 B4 hg4; rw [splice_whole zeroSpl (splV (.slice A4 n c4) O1) (by rw [splV_len N1.out]; rfl)] at B4; have HX4 : Hid (Box y4 w4.heap.size (splV (.slice A4 n c4) O1)) := B4; have HS4 := Lib.hid (box_stored hg4); clear B4 hg4))
  have HK5 := Lib.hid (HK4.out.trans ((HS4.out).mono HK4.out.size))
  have XP5 := Lib.hid (XP4.out.below (HS4.out) XP4.out.lt)
  have RC5 := Lib.hid ((RC4.out.below (HS4.out)).more (HS4.out).size)
  clear XP4 RC4 HK4
  have XS5 := HX4
  have VS5 := Lib.hid ((HV4.out.below HS4.out).more HS4.out.size)
  clear HX4 HV4 HS4
  obtain ⟨L2, hL2⟩ : ∃ L2, L2 = withZ p.code p.size p.data.length (ownO pick) := ⟨_, rfl⟩
  obtain ⟨O2, hO2⟩ : ∃ O2, O2 = ownW p.code p.size p.data.length (ownO pick) := ⟨_, rfl⟩
  obtain ⟨E2, hE2⟩ : ∃ E2, E2 = errW p.code p.size p.data.length (ownO pick) := ⟨_, rfl⟩
  have N2 : Hid (O2.length = 16) := by rw [hO2]; exact ownW_len (ownO_len pick)
  have HL2 := Lib.hid hL2
  have HO2 := Lib.hid hO2
  have HE2 := Lib.hid hE2
  clear hL2 hO2 hE2
  refine region_tree_ex (fun (act : Act) (B : Nat × Value) => (((((((((act.put (some 33) (.agg #[.slice A p.code.length c, .int .i64 p.size, .slice D p.data.length d])).put (some 34) (.int .i64 pick)).put (some 35) (.agg (oV (ownO pick)).toArray)).put (some 36) (.tuple #[.agg (splV B.2 O2).toArray, .int .i64 E2])).put (some 32) (.tuple #[.agg (splV B.2 O2).toArray, .int .i64 E2])).put (some 37) (.agg (splV B.2 O2).toArray)).put (some 38) (.int .i64 E2)).put (some 8) (.pointer (some ⟨B.1, 0, none⟩))).put (some 9) (.int .i64 E2)))
    (fun B y => Box y B.1 (splV B.2 O2) ∧ BlksV y y.heap.size B.2 L2 ∧ Kept y4 y ∧ (∃ A c, B.2 = .slice A L2.length c))
    (LinT.of [(0, true), (1, true)] (.two 2 7 (LinT.of [] (.two 3 7 (LinT.of [(4, true), (5, true), (6, true), (7, false), (8, false), (9, true)] .nil) (LinT.of [(3, false), (4, true), (5, true), (6, true), (8, false), (9, true)] .nil))) (LinT.of [(2, false), (3, false), (4, true), (5, true), (6, true), (8, false), (9, true)] .nil)))
    (by kernel_rfl) (by kernel_rfl) rfl (by kernel_rfl) (Kept y4) ?_ ?_
  · simp only [LinT.of, LinT.look, List.getElem?_toArray, List.getElem?_cons_succ, List.getElem?_cons_zero]
    have k0 : Kept y4 y4.drew := (Kept.refl y4).drew
    refine tree_load_ex k0 (by rfl) 25 (.tmp 2) rfl w.heap.size 0 rfl [.slice A p.code.length c, .int .i64 p.size, .slice D p.data.length d] [.slice A p.code.length c, .int .i64 p.size, .slice D p.data.length d] (fun y hy => XP5.out.kept hy) whole_at _ Try.underlying25 rfl 3 size_prg rfl ?_
    (try simp only [Act.put, List.setIfInBounds_toArray, List.set_cons_zero, List.set_cons_succ])
    refine tree_take (v := .int .i64 pick) k0 (by rfl) (fun y hy => by rfl) ?_
    (try simp only [Act.put, List.setIfInBounds_toArray, List.set_cons_zero, List.set_cons_succ])
    refine tree_two k0 (by rfl) (by rfl) (fun K hK => ?_) (fun K hK => ?_)
    · go_simp
      refine (owners_make pick _ HPK.out).mono ?_; rintro e z1w ⟨rfl, hb0⟩
      go_wp2_with fail
      have k1 := k0.to hb0
      refine hK.out _ _ k1 (fun _ => ?_)
      clear hK K
      (try simp only [Act.put, List.setIfInBounds_toArray, List.set_cons_zero, List.set_cons_succ])
      refine tree_two k1 (by rfl) (by rfl) (fun K hK => ?_) (fun K hK => ?_)
      · go_simp
        refine (with_any A c p.size D p.data.length d p.code (ownO pick) _ ((RC5.out.below k1).more k1.size) (by omega) (by omega) (ownO_len pick)).mono ?_; rintro e z2w ⟨v5, rfl, hv5, hb5⟩
        rw [← HL2.out] at hv5
        rw [← HO2.out, ← HE2.out]
        obtain ⟨A5, c5, rfl⟩ := hv5.blks.form
        go_wp2_with fail
        have k2 := k1.to hb5
        refine hK.out _ _ k2 (fun _ => ?_)
        clear hK K
        (try simp only [Act.put, List.setIfInBounds_toArray, List.set_cons_zero, List.set_cons_succ])
        refine tree_take (v := (.tuple #[.agg (splV (.slice A5 L2.length c5) O2).toArray, .int .i64 E2])) k2 (by rfl) (fun y hy => by rfl) ?_
        (try simp only [Act.put, List.setIfInBounds_toArray, List.set_cons_zero, List.set_cons_succ])
        refine tree_take (v := (.agg (splV (.slice A5 L2.length c5) O2).toArray)) k2 (by rfl) (fun y hy => by rfl) ?_
        (try simp only [Act.put, List.setIfInBounds_toArray, List.set_cons_zero, List.set_cons_succ])
        refine tree_take (v := (.int .i64 E2)) k2 (by rfl) (fun y hy => by rfl) ?_
        (try simp only [Act.put, List.setIfInBounds_toArray, List.set_cons_zero, List.set_cons_succ])
        refine tree_call k2 (by rfl) (fun K hK => ?_)
        go_simp
        obtain ⟨z3w, hz3w⟩ : ∃ z3w, z3w = z2w.alloc (.cells zeroSpl.toArray 29) := ⟨_, rfl⟩
        have k3 : Kept y4 z3w := by rw [hz3w]; exact k2.alloc _
        have HBz3w : Hid (Below z2w.heap.size z2w z3w) := by rw [hz3w]; exact (Below.refl _ _).alloc (Nat.le_refl _) _
        have HZz3w : Hid (Box z3w z2w.heap.size zeroSpl) := by rw [hz3w]; exact Box.new _ _ _
        have HQz3w : Hid (z3w.heap.size = z2w.heap.size + 1) := by show _ = _; rw [hz3w]; simp
        refine hK.out _ _ (k2.alloc _) (fun _ => ?_)
        clear hK K
        change wpT _ _ _ _ _ _ _ (z2w.alloc (.cells zeroSpl.toArray 29))
        rw [← hz3w]
        clear hz3w
        (try simp only [Act.put, List.setIfInBounds_toArray, List.set_cons_zero, List.set_cons_succ])
        refine tree_put_cells k3 (by rfl) 29 (.tmp 8) (.tmp 37) rfl z2w.heap.size 0 (splV (.slice A5 L2.length c5) O2) rfl rfl zeroSpl HZz3w.out (by rw [splV_len N2.out]; decide) 17 size_spl (splV_len N2.out) (splV_one rfl) (fun y hy hg => Below.grown k3 hg k3.size (fun q hq => by injection hq with hq; have := k2.size; omega)) ?_
        intro yz hbz hgz
        rw [splice_whole zeroSpl (splV (.slice A5 L2.length c5) O2) (by rw [splV_len N2.out]; rfl)] at hbz
        have kz : Kept y4 yz := Below.grown k3 hgz k3.size (fun q hq => by injection hq with hq; have := k2.size; omega)
        (try simp only [Act.put, List.setIfInBounds_toArray, List.set_cons_zero, List.set_cons_succ])
        refine tree_take (v := .int .i64 E2) kz (by rfl) (fun y hy => by rfl) ?_
        (try simp only [Act.put, List.setIfInBounds_toArray, List.set_cons_zero, List.set_cons_succ])
        have HB5 := Lib.hid hv5.blks
        have hzz : Below z2w.heap.size z2w yz := Below.grown HBz3w.out hgz (by have := HQz3w.out; omega) (fun q hq => by injection hq with hq; omega)
        exact tree_done ⟨(z2w.heap.size, .slice A5 L2.length c5), rfl, hbz, ((HB5.out.below hzz).more hzz.size), kz, ⟨A5, c5, rfl⟩⟩
      · go_simp
        obtain ⟨z2w, hz2w⟩ : ∃ z2w, z2w = z1w.alloc (.cells zeroSpl.toArray 29) := ⟨_, rfl⟩
        have k2 : Kept y4 z2w := by rw [hz2w]; exact k1.alloc _
        have HZz2w : Hid (Box z2w z1w.heap.size zeroSpl) := by rw [hz2w]; exact Box.new _ _ _
        have HQz2w : Hid (z2w.heap.size = z1w.heap.size + 1) := by show _ = _; rw [hz2w]; simp
        refine hK.out _ _ (k1.alloc _) (fun _ => ?_)
        clear hK K
        change wpT _ _ _ _ _ _ _ (z1w.alloc (.cells zeroSpl.toArray 29))
        rw [← hz2w]
        clear hz2w
        (try simp only [Act.put, List.setIfInBounds_toArray, List.set_cons_zero, List.set_cons_succ])
        refine tree_call k2 (by rfl) (fun K hK => ?_)
        go_simp
        refine (with_any A c p.size D p.data.length d p.code (ownO pick) _ ((RC5.out.below k2).more k2.size) (by omega) (by omega) (ownO_len pick)).mono ?_; rintro e z3w ⟨v5, rfl, hv5, hb5⟩
        rw [← HL2.out] at hv5
        rw [← HO2.out, ← HE2.out]
        obtain ⟨A5, c5, rfl⟩ := hv5.blks.form
        go_wp2_with fail
        have k3 := k2.to hb5
        have HZ3 := Lib.hid (HZz2w.out.below hb5 HZz2w.out.lt)
        have hb5s := hb5.size
        refine hK.out _ _ k3 (fun _ => ?_)
        clear hK K
        (try simp only [Act.put, List.setIfInBounds_toArray, List.set_cons_zero, List.set_cons_succ])
        refine tree_take (v := (.tuple #[.agg (splV (.slice A5 L2.length c5) O2).toArray, .int .i64 E2])) k3 (by rfl) (fun y hy => by rfl) ?_
        (try simp only [Act.put, List.setIfInBounds_toArray, List.set_cons_zero, List.set_cons_succ])
        refine tree_take (v := (.agg (splV (.slice A5 L2.length c5) O2).toArray)) k3 (by rfl) (fun y hy => by rfl) ?_
        (try simp only [Act.put, List.setIfInBounds_toArray, List.set_cons_zero, List.set_cons_succ])
        refine tree_take (v := (.int .i64 E2)) k3 (by rfl) (fun y hy => by rfl) ?_
        (try simp only [Act.put, List.setIfInBounds_toArray, List.set_cons_zero, List.set_cons_succ])
        refine tree_put_cells k3 (by rfl) 29 (.tmp 8) (.tmp 37) rfl z1w.heap.size 0 (splV (.slice A5 L2.length c5) O2) rfl rfl zeroSpl HZ3.out (by rw [splV_len N2.out]; decide) 17 size_spl (splV_len N2.out) (splV_one rfl) (fun y hy hg => Below.grown k3 hg k3.size (fun q hq => by injection hq with hq; have := k1.size; omega)) ?_
        intro yz hbz hgz
        rw [splice_whole zeroSpl (splV (.slice A5 L2.length c5) O2) (by rw [splV_len N2.out]; rfl)] at hbz
        have kz : Kept y4 yz := Below.grown k3 hgz k3.size (fun q hq => by injection hq with hq; have := k1.size; omega)
        (try simp only [Act.put, List.setIfInBounds_toArray, List.set_cons_zero, List.set_cons_succ])
        refine tree_take (v := .int .i64 E2) kz (by rfl) (fun y hy => by rfl) ?_
        (try simp only [Act.put, List.setIfInBounds_toArray, List.set_cons_zero, List.set_cons_succ])
        exact tree_done ⟨(z1w.heap.size, .slice A5 L2.length c5), rfl, hbz, (hv5.keepS (KeepS.of_grown (S := fun j => j = z1w.heap.size) hgz (fun q hq => by injection hq with hq; exact hq.symm)) (fun j e => by have := HQz2w.out; omega)).blks, kz, ⟨A5, c5, rfl⟩⟩
    · go_simp
      obtain ⟨z1w, hz1w⟩ : ∃ z1w, z1w = y4.drew.alloc (.cells zeroSpl.toArray 29) := ⟨_, rfl⟩
      have k1 : Kept y4 z1w := by rw [hz1w]; exact k0.alloc _
      have HZz1w : Hid (Box z1w y4.drew.heap.size zeroSpl) := by rw [hz1w]; exact Box.new _ _ _
      have HQz1w : Hid (z1w.heap.size = y4.drew.heap.size + 1) := by show _ = _; rw [hz1w]; simp
      refine hK.out _ _ (k0.alloc _) (fun _ => ?_)
      clear hK K
      change wpT _ _ _ _ _ _ _ (y4.drew.alloc (.cells zeroSpl.toArray 29))
      rw [← hz1w]
      clear hz1w
      (try simp only [Act.put, List.setIfInBounds_toArray, List.set_cons_zero, List.set_cons_succ])
      refine tree_call k1 (by rfl) (fun K hK => ?_)
      go_simp
      refine (owners_make pick _ HPK.out).mono ?_; rintro e z2w ⟨rfl, hb0⟩
      go_wp2_with fail
      have k2 := k1.to hb0
      have HZ2 := Lib.hid (HZz1w.out.below hb0 HZz1w.out.lt)
      have hb0s := hb0.size
      refine hK.out _ _ k2 (fun _ => ?_)
      clear hK K
      (try simp only [Act.put, List.setIfInBounds_toArray, List.set_cons_zero, List.set_cons_succ])
      refine tree_call k2 (by rfl) (fun K hK => ?_)
      go_simp
      refine (with_any A c p.size D p.data.length d p.code (ownO pick) _ ((RC5.out.below k2).more k2.size) (by omega) (by omega) (ownO_len pick)).mono ?_; rintro e z3w ⟨v5, rfl, hv5, hb5⟩
      rw [← HL2.out] at hv5
      rw [← HO2.out, ← HE2.out]
      obtain ⟨A5, c5, rfl⟩ := hv5.blks.form
      go_wp2_with fail
      have k3 := k2.to hb5
      have HZ3 := Lib.hid (HZ2.out.below hb5 HZ2.out.lt)
      refine hK.out _ _ k3 (fun _ => ?_)
      clear hK K
      (try simp only [Act.put, List.setIfInBounds_toArray, List.set_cons_zero, List.set_cons_succ])
      refine tree_take (v := (.tuple #[.agg (splV (.slice A5 L2.length c5) O2).toArray, .int .i64 E2])) k3 (by rfl) (fun y hy => by rfl) ?_
      (try simp only [Act.put, List.setIfInBounds_toArray, List.set_cons_zero, List.set_cons_succ])
      refine tree_take (v := (.agg (splV (.slice A5 L2.length c5) O2).toArray)) k3 (by rfl) (fun y hy => by rfl) ?_
      (try simp only [Act.put, List.setIfInBounds_toArray, List.set_cons_zero, List.set_cons_succ])
      refine tree_take (v := (.int .i64 E2)) k3 (by rfl) (fun y hy => by rfl) ?_
      (try simp only [Act.put, List.setIfInBounds_toArray, List.set_cons_zero, List.set_cons_succ])
      refine tree_put_cells k3 (by rfl) 29 (.tmp 8) (.tmp 37) rfl y4.drew.heap.size 0 (splV (.slice A5 L2.length c5) O2) rfl rfl zeroSpl HZ3.out (by rw [splV_len N2.out]; decide) 17 size_spl (splV_len N2.out) (splV_one rfl) (fun y hy hg => Below.grown k3 hg k3.size (fun q hq => by injection hq with hq; have h9 : y4.drew.heap.size = y4.heap.size := rfl; omega)) ?_
      intro yz hbz hgz
      rw [splice_whole zeroSpl (splV (.slice A5 L2.length c5) O2) (by rw [splV_len N2.out]; rfl)] at hbz
      have kz : Kept y4 yz := Below.grown k3 hgz k3.size (fun q hq => by injection hq with hq; have h9 : y4.drew.heap.size = y4.heap.size := rfl; omega)
      (try simp only [Act.put, List.setIfInBounds_toArray, List.set_cons_zero, List.set_cons_succ])
      refine tree_take (v := .int .i64 E2) kz (by rfl) (fun y hy => by rfl) ?_
      (try simp only [Act.put, List.setIfInBounds_toArray, List.set_cons_zero, List.set_cons_succ])
      exact tree_done ⟨(y4.drew.heap.size, .slice A5 L2.length c5), rfl, hbz, (hv5.keepS (KeepS.of_grown (S := fun j => j = y4.drew.heap.size) hgz (fun q hq => by injection hq with hq; exact hq.symm)) (fun j e => by have := HQz1w.out; omega)).blks, kz, ⟨A5, c5, rfl⟩⟩

  rintro ⟨blk, v5⟩ y5 ⟨hB5, hV5, hk5, A5, c5, hv5⟩
  dsimp only at hB5 hV5 hk5 hv5
  subst hv5
  have HK6 := Lib.hid (HK5.out.trans ((hk5).mono HK5.out.size))
  have XP6 := Lib.hid (XP5.out.below (hk5) XP5.out.lt)
  have RC6 := Lib.hid ((RC5.out.below (hk5)).more (hk5).size)
  have XS6 := Lib.hid (XS5.out.below (hk5) XS5.out.lt)
  have VS6 := Lib.hid ((VS5.out.below (hk5)).more (hk5).size)
  clear XP5 RC5 XS5 VS5 HK5
  have XT6 := Lib.hid hB5
  have VT6 := Lib.hid hV5
  clear hB5 hV5 hk5
  simp only [Act.put, List.setIfInBounds_toArray, List.set_cons_zero, List.set_cons_succ]
  have s0 : y5.cell? ⟨w4.heap.size, 0, none⟩ = some (.slice A4 n c4) := XS6.out.cell (k := 0) rfl
  have hne : ((n : Int) == 0) = false := by simp; omega
  go_wp2_with fail
  refine (num13_any 0 _).mono ?_; rintro e _ ⟨rfl, rfl⟩
  try dsimp only
  go_wp2_with fail
  refine (num13_any E2 _).mono ?_; rintro e _ ⟨rfl, rfl⟩
  clear hne
  cases hcl : closedZ p.code p.size p.data.length (ownO pick)
  · obtain ⟨q1, q2, q3⟩ := with_no hcl
    have hE : E2 = 1 := HE2.out.trans q3
    have hL : L2 = [] := HL2.out.trans q1
    subst hE hL
    have HCL := Lib.hid hcl
    clear hcl q1 q2 q3 s0
    have s1 : y5.drew.cell? ⟨blk, 0, none⟩ = some (.slice A5 0 c5) := XT6.out.cell (k := 0) rfl
    try dsimp only
    go_wp2_with fail
    refine wp_region_lin [(0, true), (1, true), (2, false), (3, false), (4, true), (5, true), (6, true), (7, true), (8, true), (9, true), (10, true), (11, true)]
      (by kernel_rfl) (by kernel_rfl) rfl (by kernel_rfl) (Kept y5) ?_
    have k0 : Kept y5 y5.drew := (Kept.refl y5).drew
    simp only [List.map_cons, List.map_nil, List.getElem?_toArray, List.getElem?_cons_succ, List.getElem?_cons_zero]
    refine lin_take_box k0 (by rfl) 25 (.tmp 2) rfl w.heap.size 0 rfl [.slice A p.code.length c, .int .i64 p.size, .slice D p.data.length d] [.slice A p.code.length c, .int .i64 p.size, .slice D p.data.length d] (fun y hy => XP6.out.kept hy) whole_at _ Try.underlying25 rfl 3 size_prg rfl ?_
    (try simp only [Act.put, List.setIfInBounds_toArray, List.set_cons_zero, List.set_cons_succ])
    refine lin_take (v := .int .i64 pick) k0 (by rfl) (fun y hy => by rfl) ?_
    (try simp only [Act.put, List.setIfInBounds_toArray, List.set_cons_zero, List.set_cons_succ])
    refine lin_call k0 (by rfl) (fun K hK => ?_)
    go_simp
    refine (owners_make pick _ HPK.out).mono ?_; rintro e z1w ⟨rfl, hb0⟩
    go_wp2_with fail
    have k1 := k0.to hb0
    refine hK.out _ _ k1 (fun _ => ?_)
    clear hK K hb0 k0
    (try simp only [Act.put, List.setIfInBounds_toArray, List.set_cons_zero, List.set_cons_succ])
    refine lin_call k1 (by rfl) (fun K hK => ?_)
    go_simp
    refine (refClosed_any A c p.size D p.data.length d p.code (ownO pick) _ ((RC6.out.below k1).more k1.size) (by omega) (by omega) (ownO_len pick)).mono ?_; rintro e z2w ⟨rfl, hb1⟩
    rw [HCL.out]
    go_wp2_with fail
    have k2 := k1.to hb1
    refine hK.out _ _ k2 (fun _ => ?_)
    clear hK K hb1 k1
    (try simp only [Act.put, List.setIfInBounds_toArray, List.set_cons_zero, List.set_cons_succ])
    have ct := fun (y : World) (hy : Kept y5 y) => (XT6.out.kept hy).cell (splV_0 _ _)
    iterate 8 (refine lin_take (v := ?_) k2 (by rfl) ?_ ?_; rotate_left; (intro x hx; have ct1 := ct x hx; (try dsimp only at hx); go_simp; try (with_reducible rfl)); (try simp only [Act.put, List.setIfInBounds_toArray, List.set_cons_zero, List.set_cons_succ]))
    refine lin_done ?_
    have HE := Lib.hid (HK6.out.trans ((show Below y5.heap.size y5 _ from k2).mono HK6.out.size))
    clear k2 ct s1
    go_wp2_with fail
    go_ret
    exact ⟨by first | rfl | trivial, HE.out⟩
  obtain ⟨q1, q2, q3⟩ := with_yes hcl
  have hE : E2 = 0 := HE2.out.trans q3
  have hL : L2 = bs.map (fillB (zeroed (ownO pick)) p.code) := by rw [HL2.out, HBS.out]; exact q1
  obtain ⟨z2, hz2⟩ : ∃ z2, z2 = zeroed (ownO pick) := ⟨_, rfl⟩
  rw [← hz2] at hL
  subst hE hL
  clear hcl q1 q2 q3 hz2
  have hlen : (bs.map (fillB z2 p.code)).length = n := by rw [List.length_map]; exact HN.out.symm
  rw [hlen] at XT6 VT6 ⊢
  clear hlen
  have s1 : y5.cell? ⟨blk, 0, none⟩ = some (.slice A5 n c5) := XT6.out.cell (k := 0) rfl
  try dsimp only
  go_wp2_with fail
  clear s0 s1
  have HA := Lib.hid (fun j (h : j < n) => bs_at (l := bs) (k := j) (by have := HN.out; omega))
  have HSP4 : Hid (∃ b off, A4 = some ⟨b, off, none⟩) := VS6.out.spot (by rw [List.length_map, ← HN.out]; omega)
  have HSP5 : Hid (∃ b off, A5 = some ⟨b, off, none⟩) := VT6.out.spot (by rw [List.length_map, ← HN.out]; omega)
  obtain ⟨b4, o4, rfl⟩ := HSP4.out
  obtain ⟨b5, o5, rfl⟩ := HSP5.out
  go_loopw [10] (fun ii wr => ∃ k : Nat, k ≤ n ∧ ii = .int .i64 k ∧ Kept y5 wr) (fun ii _ => n - (intOf ii).toNat)
  case atStart => exact ⟨0, Nat.zero_le _, rfl, Kept.refl _⟩
  case round =>
    obtain ⟨k, hk, rfl, hkp⟩ := hrel
    have HKP := Lib.hid hkp
    have s0 : wr.cell? ⟨w4.heap.size, 0, none⟩ = some (.slice (some ⟨b4, o4, none⟩) n c4) := (XS6.out.kept hkp).cell (k := 0) rfl
    have s1 : wr.cell? ⟨blk, 0, none⟩ = some (.slice (some ⟨b5, o5, none⟩) n c5) := (XT6.out.kept hkp).cell (k := 0) rfl
    by_cases hlt : k < n
    · obtain ⟨b, hb⟩ := HA.out k hlt
      obtain ⟨A6, c6, A7, c7, a0, a1, a2, a3, a4, a5, _, _⟩ := (VS6.out.below hkp).at_ (fill_at (z := z1) (l := p.code) hb)
      obtain ⟨A8, c8, A9, c9, d0, d1, d2, d3, d4, d5, _, _⟩ := (VT6.out.below hkp).at_ (fill_at (z := z2) (l := p.code) hb)
      obtain ⟨n6, hn6⟩ : ∃ n6, n6 = (fillB z1 p.code b).a.length := ⟨_, rfl⟩
      obtain ⟨n7, hn7⟩ : ∃ n7, n7 = (fillB z1 p.code b).e.length := ⟨_, rfl⟩
      obtain ⟨n8, hn8⟩ : ∃ n8, n8 = (fillB z2 p.code b).a.length := ⟨_, rfl⟩
      obtain ⟨n9, hn9⟩ : ∃ n9, n9 = (fillB z2 p.code b).e.length := ⟨_, rfl⟩
      rw [← hn6] at a4
      rw [← hn7] at a5
      rw [← hn8] at d4
      rw [← hn9] at d5
      change _ = some (Value.int .i64 b.from_) at a0 d0
      change _ = some (Value.int .i64 b.to) at a1 d1
      change _ = some (Value.int .i64 b.next) at a2 d2
      change _ = some (Value.int .i64 b.taken) at a3 d3
      have x4 : blk < wr.heap.size := (XT6.out.kept hkp).lt
      have x5 : w4.heap.size < wr.heap.size := (XS6.out.kept hkp).lt
      have x6 : b4 < wr.heap.size := cell_lt a0
      have x7 : b5 < wr.heap.size := cell_lt d0
      have g0 : (0 : Int) ≤ k := by omega
      have g1 : (k : Int) < n := by omega
      clear hb hkp hn6 hn7 hn8 hn9
      go_wp2_with fail
      go_roundw
      case rel => exact ⟨k + 1, by omega, by go_num, (HKP.out.alloc _).alloc _⟩
      case measure => simp [intOf]; omega
    · go_wp2_with fail
      go_ret
      exact ⟨by first | rfl | trivial, HK6.out.trans (HKP.out.mono HK6.out.size)⟩
end Go.Proofs.Ytbibfpopkcekdaa.Words

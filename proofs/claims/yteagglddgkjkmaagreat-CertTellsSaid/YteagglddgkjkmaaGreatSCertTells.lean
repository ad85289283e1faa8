/- The walk of law 14's CertTells. -/
import Derived.Test.YteagglddgkjkmaaGreatG16
import Derived.Test.YteagglddgkjkmaaGreatG17
namespace Go.Proofs.YteagglddgkjkmaaGreat.Words
set_option maxRecDepth 100000
open Go.RowKit
set_option linter.unusedVariables false
set_option linter.unusedSimpArgs false

theorem fits_off {l : List Cel} (h : ∀ c ∈ l, c.Fits) : ∀ c ∈ l, offOk c.off := fun c hc => (h c hc).2.2.2.2
set_option maxHeartbeats 8000000 in
theorem certTells_walk (rr : BlkR) (b : BlkC) (A : Option Addr) (c : Nat) (D : Option Addr) (d : Nat) (p : Prog) (us : Value) (ls : List BlkC) (o : List Int) (w : World)
    (hb : BlkV w w.heap.size rr b) (hbf : b.Fits) (hbs : b.Short) (hf : p.Fits) (hp : ProgV w w.heap.size (.slice A p.code.length c) (.slice D p.data.length d) p) (ho : o.length = 16) (hs : BlksV w w.heap.size us ls) (hsf : ∀ c ∈ ls, c.Fits ∧ c.Short) :
    Calls Tryz.prog 3 #[.agg (blkRL rr).toArray, .agg #[.slice A p.code.length c, .int .i64 p.size, .slice D p.data.length d], .agg (splV us o).toArray] w fun e w' => e = .returned (.bool true) ∧ Below w.heap.size w w' := by
  obtain ⟨u1, u2⟩ := hp.code.cap
  obtain ⟨u3, u4⟩ := hp.data.cap
  obtain ⟨As, cs, rfl⟩ := hs.form
  obtain ⟨f, t, x1, x2, va, ve⟩ := rr
  obtain ⟨A3, c3, hva⟩ := hb.a.form
  obtain ⟨A5, c5, hve⟩ := hb.e.form
  dsimp only at hva hve
  subst hva hve
  have hba := hb.a
  have hbe := hb.e
  dsimp only at hba hbe
  obtain ⟨la, hla⟩ : ∃ la, la = b.a := ⟨_, rfl⟩
  obtain ⟨le, hle⟩ : ∃ le, le = b.e := ⟨_, rfl⟩
  have HFA : Hid (∀ c ∈ la, c.Fits) := by rw [hla]; exact hbf.2.2.2.2.1
  have HFE : Hid (∀ c ∈ le, c.Fits) := by rw [hle]; exact hbf.2.2.2.2.2
  have HSH : Hid (la.length ≤ 2000000000000 ∧ le.length ≤ 2000000000000) := by rw [hla, hle]; exact hbs
  have HBK : Hid (∀ y : World, ∀ B, Row y B 9 (.slice A3 la.length c3) la.length (flat celCells la) → Row y B 9 (.slice A5 le.length c5) le.length (flat celCells le) → BlkV y B ⟨f, t, x1, x2, .slice A3 la.length c3, .slice A5 le.length c5⟩ ⟨f, t, x1, x2, la, le⟩) := fun y B h1 h2 => ⟨rfl, rfl, rfl, rfl, h1, h2⟩
  rw [← hla] at hba ⊢
  rw [← hle] at hbe ⊢
  show Calls Tryz.prog 3 #[.agg #[.int .i64 f, .int .i64 t, .int .i64 x1, .int .i64 x2, .slice A3 la.length c3, .slice A5 le.length c5], .agg #[.slice A p.code.length c, .int .i64 p.size, .slice D p.data.length d], .agg (splV (.slice As ls.length cs) o).toArray] w _
  clear hla hle hb hbf hbs hf
  obtain ⟨W1, hW1⟩ : ∃ W1, W1 = w.alloc (.cells #[.int .i64 f, .int .i64 t, .int .i64 x1, .int .i64 x2, .slice A3 la.length c3, .slice A5 le.length c5] 24) := ⟨_, rfl⟩
  obtain ⟨W2, hW2⟩ : ∃ W2, W2 = W1.alloc (.cells #[.slice A p.code.length c, .int .i64 p.size, .slice D p.data.length d] 28) := ⟨_, rfl⟩
  obtain ⟨W, hW⟩ : ∃ W, W = W2.alloc (.cells (splV (.slice As ls.length cs) o).toArray 32) := ⟨_, rfl⟩
  have hz1 : W1.heap.size = w.heap.size + 1 := by rw [hW1]; simp
  have hz2 : W2.heap.size = w.heap.size + 2 := by rw [hW2]; simp [hz1]
  have HK0 : Hid (Below w.heap.size w W) := by rw [hW, hW2, hW1]; exact (((Below.refl w.heap.size w).alloc (Nat.le_refl _) _).alloc (by simp) _).alloc (by simp; omega) _
  have XB0 : Hid (Box W w.heap.size [.int .i64 f, .int .i64 t, .int .i64 x1, .int .i64 x2, .slice A3 la.length c3, .slice A5 le.length c5]) := by rw [hW, hW2, hW1]; exact ((Box.new w _ _).alloc _).alloc _
  have XP0 : Hid (Box W (w.heap.size + 1) [.slice A p.code.length c, .int .i64 p.size, .slice D p.data.length d]) := by rw [hW, hW2, ← hz1]; exact (Box.new W1 _ _).alloc _
  have XS0 : Hid (Box W (w.heap.size + 2) (splV (.slice As ls.length cs) o)) := by rw [hW, ← hz2]; exact Box.new W2 _ _
  have RA0 := Lib.hid ((hba.below HK0.out).more HK0.out.size)
  have RE0 := Lib.hid ((hbe.below HK0.out).more HK0.out.size)
  have RC0 := Lib.hid ((hp.code.below HK0.out).more HK0.out.size)
  have VS0 := Lib.hid ((hs.below HK0.out).more HK0.out.size)
  have NO := Lib.hid ho
  have HSF := Lib.hid hsf
  clear hp hs ho hsf hba hbe hz1 hz2
  go_enter Tryz.func3, Tryz.ntmps3
  go_upto_region 1 with (fail)
  change Code.wp _ _ _ _ (((w.alloc (.cells #[.int .i64 f, .int .i64 t, .int .i64 x1, .int .i64 x2, .slice A3 la.length c3, .slice A5 le.length c5] 24)).alloc (.cells #[.slice A p.code.length c, .int .i64 p.size, .slice D p.data.length d] 28)).alloc (.cells (splV (.slice As ls.length cs) o).toArray 32))
  rw [← hW1, ← hW2, ← hW]
  clear hW1 hW2 hW
  go_wp2_with fail
  refine (alive14_any _).mono ?_; rintro e w1 ⟨rfl, hb⟩
  have HK1 := Lib.hid (HK0.out.trans ((hb).mono HK0.out.size))
  have XB1 := Lib.hid (XB0.out.below (hb) XB0.out.lt)
  have XP1 := Lib.hid (XP0.out.below (hb) XP0.out.lt)
  have XS1 := Lib.hid (XS0.out.below (hb) XS0.out.lt)
  have RA1 := Lib.hid ((RA0.out.below (hb)).more (hb).size)
  have RE1 := Lib.hid ((RE0.out.below (hb)).more (hb).size)
  have RC1 := Lib.hid ((RC0.out.below (hb)).more (hb).size)
  have VS1 := Lib.hid ((VS0.out.below (hb)).more (hb).size)
  clear XB0 XP0 XS0 RA0 RE0 RC0 VS0 HK0
  clear hb
  go_wp2_with (first
    | (refine wpList_load_box rfl 28 (.tmp 4) rfl (w.heap.size + 1) 0 rfl [.slice A p.code.length c, .int .i64 p.size, .slice D p.data.length d] [.slice A p.code.length c, .int .i64 p.size, .slice D p.data.length d] XP1.out whole_at _ Tryz.underlying28 rfl 3 size_prg rfl ?_)
    | (refine wpList_load_box rfl 32 (.tmp 5) rfl (w.heap.size + 2) 0 rfl (splV (.slice As ls.length cs) o) (splV (.slice As ls.length cs) o) XS1.out whole_at _ Tryz.underlying32 rfl 17 size_spl (splV_len NO.out) ?_)
    | (refine wpList_load_box rfl 24 (.tmp 3) rfl w.heap.size 0 rfl [.int .i64 f, .int .i64 t, .int .i64 x1, .int .i64 x2, .slice A3 la.length c3, .slice A5 le.length c5] [.int .i64 f, .int .i64 t, .int .i64 x1, .int .i64 x2, .slice A3 la.length c3, .slice A5 le.length c5] XB1.out whole_at _ Tryz.underlying24 rfl 6 (by kernel_rfl) rfl ?_))
  refine (few_any A D p.code.length c p.data.length d p.size _ (by omega) (by omega)).mono ?_; rintro e w2 ⟨rfl, hb⟩
  have HK2 := Lib.hid (HK1.out.trans ((hb).mono HK1.out.size))
  have XB2 := Lib.hid (XB1.out.below (hb) XB1.out.lt)
  have XP2 := Lib.hid (XP1.out.below (hb) XP1.out.lt)
  have XS2 := Lib.hid (XS1.out.below (hb) XS1.out.lt)
  have RA2 := Lib.hid ((RA1.out.below (hb)).more (hb).size)
  have RE2 := Lib.hid ((RE1.out.below (hb)).more (hb).size)
  have RC2 := Lib.hid ((RC1.out.below (hb)).more (hb).size)
  have VS2 := Lib.hid ((VS1.out.below (hb)).more (hb).size)
  clear XB1 XP1 XS1 RA1 RE1 RC1 VS1 HK1
  clear hb
  cases hfew : fewB p.code.length p.data.length
  · try dsimp only
    go_wp2_with fail
    go_ret
    exact ⟨by first | rfl | trivial, HK2.out⟩
  clear hfew
  try dsimp only
  go_wp2_with (first
    | (refine wpList_load_box rfl 32 (.tmp 5) rfl (w.heap.size + 2) 0 rfl (splV (.slice As ls.length cs) o) (splV (.slice As ls.length cs) o) XS2.out whole_at _ Tryz.underlying32 rfl 17 size_spl (splV_len NO.out) ?_)
    | (refine wpList_load_box rfl 24 (.tmp 3) rfl w.heap.size 0 rfl [.int .i64 f, .int .i64 t, .int .i64 x1, .int .i64 x2, .slice A3 la.length c3, .slice A5 le.length c5] [.int .i64 f, .int .i64 t, .int .i64 x1, .int .i64 x2, .slice A3 la.length c3, .slice A5 le.length c5] XB2.out whole_at _ Tryz.underlying24 rfl 6 (by kernel_rfl) rfl ?_))
  refine (few13_len As cs ls o _ VS2.out (fun x hx => (HSF.out x hx).2)).mono ?_; rintro e w3 ⟨⟨fb, rfl, hfb⟩, hb⟩
  have HFB := Lib.hid hfb
  have HK3 := Lib.hid (HK2.out.trans ((hb).mono HK2.out.size))
  have XB3 := Lib.hid (XB2.out.below (hb) XB2.out.lt)
  have XP3 := Lib.hid (XP2.out.below (hb) XP2.out.lt)
  have XS3 := Lib.hid (XS2.out.below (hb) XS2.out.lt)
  have RA3 := Lib.hid ((RA2.out.below (hb)).more (hb).size)
  have RE3 := Lib.hid ((RE2.out.below (hb)).more (hb).size)
  have RC3 := Lib.hid ((RC2.out.below (hb)).more (hb).size)
  have VS3 := Lib.hid ((VS2.out.below (hb)).more (hb).size)
  clear XB2 XP2 XS2 RA2 RE2 RC2 VS2 HK2
  clear hb hfb
  cases fb
  · try dsimp only
    go_wp2_with fail
    go_ret
    exact ⟨by first | rfl | trivial, HK3.out⟩
  have HL1 := Lib.hid (HFB.out rfl)
  clear HFB
  try dsimp only
  go_wp2_with (first
    | (refine wpList_load_box rfl 24 (.tmp 3) rfl w.heap.size 0 rfl [.int .i64 f, .int .i64 t, .int .i64 x1, .int .i64 x2, .slice A3 la.length c3, .slice A5 le.length c5] [.int .i64 f, .int .i64 t, .int .i64 x1, .int .i64 x2, .slice A3 la.length c3, .slice A5 le.length c5] XB3.out whole_at _ Tryz.underlying24 rfl 6 (by kernel_rfl) rfl ?_))
  obtain ⟨w4, hw4⟩ : ∃ w4, w4 = w3.alloc (.cells #[.int .i64 f, .int .i64 t, .int .i64 x1, .int .i64 x2, .slice A3 la.length c3, .slice A5 le.length c5] 24) := ⟨_, rfl⟩
  have hb : Below w3.heap.size w3 w4 := by rw [hw4]; exact (Below.refl _ _).alloc (Nat.le_refl _) _
  have HV1 : Hid (BlksV w4 w4.heap.size (.slice (some ⟨w3.heap.size, 0, none⟩) 1 1) [⟨f, t, x1, x2, la, le⟩]) := by
    have h := blks_one (Nat.le_refl _) (HBK.out w3 w3.heap.size RA3.out RE3.out)
    rw [hw4]
    exact h.more (by simp)
  change Calls _ _ _ (w3.alloc (.cells #[.int .i64 f, .int .i64 t, .int .i64 x1, .int .i64 x2, .slice A3 la.length c3, .slice A5 le.length c5] 24)) _
  rw [← hw4]
  clear hw4
  have HK4 := Lib.hid (HK3.out.trans ((hb).mono HK3.out.size))
  have XB4 := Lib.hid (XB3.out.below (hb) XB3.out.lt)
  have XP4 := Lib.hid (XP3.out.below (hb) XP3.out.lt)
  have XS4 := Lib.hid (XS3.out.below (hb) XS3.out.lt)
  have RA4 := Lib.hid ((RA3.out.below (hb)).more (hb).size)
  have RE4 := Lib.hid ((RE3.out.below (hb)).more (hb).size)
  have RC4 := Lib.hid ((RC3.out.below (hb)).more (hb).size)
  have VS4 := Lib.hid ((VS3.out.below (hb)).more (hb).size)
  clear XB3 XP3 XS3 RA3 RE3 RC3 VS3 HK3
  clear hb
  refine (few13_len (some ⟨w3.heap.size, 0, none⟩) 1 [⟨f, t, x1, x2, la, le⟩] zeroO w4 HV1.out (fun x hx => by rw [List.mem_singleton] at hx; subst hx; exact HSH.out)).mono ?_; rintro e w5 ⟨⟨fb, rfl, hfb⟩, hb⟩
  have HFB := Lib.hid hfb
  clear HV1
  have HK5 := Lib.hid (HK4.out.trans ((hb).mono HK4.out.size))
  have XB5 := Lib.hid (XB4.out.below (hb) XB4.out.lt)
  have XP5 := Lib.hid (XP4.out.below (hb) XP4.out.lt)
  have XS5 := Lib.hid (XS4.out.below (hb) XS4.out.lt)
  have RA5 := Lib.hid ((RA4.out.below (hb)).more (hb).size)
  have RE5 := Lib.hid ((RE4.out.below (hb)).more (hb).size)
  have RC5 := Lib.hid ((RC4.out.below (hb)).more (hb).size)
  have VS5 := Lib.hid ((VS4.out.below (hb)).more (hb).size)
  clear XB4 XP4 XS4 RA4 RE4 RC4 VS4 HK4
  clear hb hfb
  cases fb
  · try dsimp only
    go_wp2_with fail
    go_ret
    exact ⟨by first | rfl | trivial, HK5.out⟩
  have HL2 : Hid (la.length ≤ 1500 ∧ le.length ≤ 1500) := by have h := HFB.out rfl; simp only [lensB] at h; show _ ∧ _; omega
  clear HFB
  try dsimp only
  go_upto_region 4 with (fail)
  refine wp_region_lin [(0, true), (2, true), (1, false), (3, false), (4, true), (5, true), (6, true), (8, true), (7, false), (9, false), (10, true), (11, true), (12, true), (13, true), (14, true), (16, true), (17, true), (15, false), (18, false), (19, true), (20, true), (21, true), (22, true), (24, true), (23, false), (25, false), (26, true), (27, true), (28, true)]
    (by kernel_rfl) (by kernel_rfl) rfl (by kernel_rfl) (Kept w5) ?_
  simp only [List.map_cons, List.map_nil, List.getElem?_toArray, List.getElem?_cons_succ, List.getElem?_cons_zero]
  generalize hWD : w5.drew = WD
  have k0 : Kept w5 WD := by rw [← hWD]; exact (Kept.refl w5).drew
  clear hWD
  refine lin_take_box k0 (by rfl) 24 (.tmp 3) rfl w.heap.size 0 rfl [.int .i64 f, .int .i64 t, .int .i64 x1, .int .i64 x2, .slice A3 la.length c3, .slice A5 le.length c5] [.int .i64 f, .int .i64 t, .int .i64 x1, .int .i64 x2, .slice A3 la.length c3, .slice A5 le.length c5] (fun y hy => XB5.out.kept hy) whole_at _ Tryz.underlying24 rfl 6 (by kernel_rfl) rfl ?_
  (try simp only [Act.put, List.setIfInBounds_toArray, List.set_cons_zero, List.set_cons_succ])
  refine lin_take_box k0 (by rfl) 24 (.tmp 3) rfl w.heap.size 0 rfl [.int .i64 f, .int .i64 t, .int .i64 x1, .int .i64 x2, .slice A3 la.length c3, .slice A5 le.length c5] [.int .i64 f, .int .i64 t, .int .i64 x1, .int .i64 x2, .slice A3 la.length c3, .slice A5 le.length c5] (fun y hy => XB5.out.kept hy) whole_at _ Tryz.underlying24 rfl 6 (by kernel_rfl) rfl ?_
  (try simp only [Act.put, List.setIfInBounds_toArray, List.set_cons_zero, List.set_cons_succ])
  refine lin_call k0 (by rfl) (fun K hK => ?_)
  go_simp
  refine (counts_any f t x1 x2 A3 A5 c3 c5 la le WD ((RA5.out.below k0).more k0.size) ((RE5.out.below k0).more k0.size)).mono ?_; rintro e y1 ⟨rfl, hb⟩
  go_wp2_with fail
  have k1 := k0.to hb
  refine hK.out _ _ k1 (fun _ => ?_)
  clear hK K hb
  (try simp only [Act.put, List.setIfInBounds_toArray, List.set_cons_zero, List.set_cons_succ])
  refine lin_call k1 (by rfl) (fun K hK => ?_)
  go_simp
  refine (refCounts_any f t x1 x2 A3 A5 c3 c5 la le y1 ((RA5.out.below k1).more k1.size) ((RE5.out.below k1).more k1.size)).mono ?_; rintro e y2 ⟨rfl, hb⟩
  go_wp2_with fail
  have k2 := k1.to hb
  refine hK.out _ _ k2 (fun _ => ?_)
  clear hK K hb
  (try simp only [Act.put, List.setIfInBounds_toArray, List.set_cons_zero, List.set_cons_succ])
  obtain ⟨za, hza⟩ : ∃ za, za = countsZ la := ⟨_, rfl⟩
  obtain ⟨ze, hze⟩ : ∃ ze, ze = countsZ le := ⟨_, rfl⟩
  have NA : Hid (za.length = 12) := by rw [hza]; exact countsZ_len _
  have NE : Hid (ze.length = 12) := by rw [hze]; exact countsZ_len _
  rw [← hza, ← hze]
  clear hza hze
  refine lin_take (v := .bool true) k2 (by rfl) (fun y hy => exec_eqT rfl rfl rfl (by kernel_rfl) (eql_c24 za ze NA.out NE.out y)) ?_
  (try simp only [Act.put, List.setIfInBounds_toArray, List.set_cons_zero, List.set_cons_succ])
  refine lin_take (v := ?_) k2 (by rfl) ?_ ?_; rotate_left; (intro y hy; go_simp; try (with_reducible rfl)); (try simp only [Act.put, List.setIfInBounds_toArray, List.set_cons_zero, List.set_cons_succ])
  refine lin_take_box k2 (by rfl) 24 (.tmp 3) rfl w.heap.size 0 rfl [.int .i64 f, .int .i64 t, .int .i64 x1, .int .i64 x2, .slice A3 la.length c3, .slice A5 le.length c5] [.int .i64 f, .int .i64 t, .int .i64 x1, .int .i64 x2, .slice A3 la.length c3, .slice A5 le.length c5] (fun y hy => XB5.out.kept hy) whole_at _ Tryz.underlying24 rfl 6 (by kernel_rfl) rfl ?_
  (try simp only [Act.put, List.setIfInBounds_toArray, List.set_cons_zero, List.set_cons_succ])
  refine lin_take_box k2 (by rfl) 24 (.tmp 3) rfl w.heap.size 0 rfl [.int .i64 f, .int .i64 t, .int .i64 x1, .int .i64 x2, .slice A3 la.length c3, .slice A5 le.length c5] [.int .i64 f, .int .i64 t, .int .i64 x1, .int .i64 x2, .slice A3 la.length c3, .slice A5 le.length c5] (fun y hy => XB5.out.kept hy) whole_at _ Tryz.underlying24 rfl 6 (by kernel_rfl) rfl ?_
  (try simp only [Act.put, List.setIfInBounds_toArray, List.set_cons_zero, List.set_cons_succ])
  refine lin_call k2 (by rfl) (fun K hK => ?_)
  go_simp
  refine (balanced_any f t x1 x2 A3 A5 c3 c5 la le y2 ((RA5.out.below k2).more k2.size) ((RE5.out.below k2).more k2.size) (by have h := HL2.out; omega) (by have h := HL2.out; omega)).mono ?_; rintro e y3 ⟨rfl, hb⟩
  go_wp2_with fail
  have k3 := k2.to hb
  refine hK.out _ _ k3 (fun _ => ?_)
  clear hK K hb
  (try simp only [Act.put, List.setIfInBounds_toArray, List.set_cons_zero, List.set_cons_succ])
  refine lin_call k3 (by rfl) (fun K hK => ?_)
  go_simp
  refine (refBal_any f t x1 x2 A3 A5 la.length c3 le.length c5 la le y3 rfl rfl ((RA5.out.below k3).more k3.size) ((RE5.out.below k3).more k3.size) (by have h := HL2.out; omega) (by have h := HL2.out; omega)).mono ?_; rintro e y4 ⟨rfl, hb⟩
  go_wp2_with fail
  have k4 := k3.to hb
  refine hK.out _ _ k4 (fun _ => ?_)
  clear hK K hb
  (try simp only [Act.put, List.setIfInBounds_toArray, List.set_cons_zero, List.set_cons_succ])
  obtain ⟨bb, hbb⟩ : ∃ bb, bb = balZ la le := ⟨_, rfl⟩
  rw [← hbb]
  clear hbb
  refine lin_take (v := .bool true) k4 (by rfl) (fun y hy => by cases bb <;> go_simp) ?_
  (try simp only [Act.put, List.setIfInBounds_toArray, List.set_cons_zero, List.set_cons_succ])
  refine lin_take (v := ?_) k4 (by rfl) ?_ ?_; rotate_left; (intro y hy; go_simp; try (with_reducible rfl)); (try simp only [Act.put, List.setIfInBounds_toArray, List.set_cons_zero, List.set_cons_succ])
  refine lin_take (v := ?_) k4 (by rfl) ?_ ?_; rotate_left; (intro y hy; go_simp; try (with_reducible rfl)); (try simp only [Act.put, List.setIfInBounds_toArray, List.set_cons_zero, List.set_cons_succ])
  refine lin_take_box k4 (by rfl) 28 (.tmp 4) rfl (w.heap.size + 1) 0 rfl [.slice A p.code.length c, .int .i64 p.size, .slice D p.data.length d] [.slice A p.code.length c, .int .i64 p.size, .slice D p.data.length d] (fun y hy => XP5.out.kept hy) whole_at _ Tryz.underlying28 rfl 3 size_prg rfl ?_
  (try simp only [Act.put, List.setIfInBounds_toArray, List.set_cons_zero, List.set_cons_succ])
  refine lin_take_box k4 (by rfl) 32 (.tmp 5) rfl (w.heap.size + 2) 0 rfl (splV (.slice As ls.length cs) o) (splV (.slice As ls.length cs) o) (fun y hy => XS5.out.kept hy) whole_at _ Tryz.underlying32 rfl 17 size_spl (splV_len NO.out) ?_
  (try simp only [Act.put, List.setIfInBounds_toArray, List.set_cons_zero, List.set_cons_succ])
  refine lin_take_box k4 (by rfl) 28 (.tmp 4) rfl (w.heap.size + 1) 0 rfl [.slice A p.code.length c, .int .i64 p.size, .slice D p.data.length d] [.slice A p.code.length c, .int .i64 p.size, .slice D p.data.length d] (fun y hy => XP5.out.kept hy) whole_at _ Tryz.underlying28 rfl 3 size_prg rfl ?_
  (try simp only [Act.put, List.setIfInBounds_toArray, List.set_cons_zero, List.set_cons_succ])
  refine lin_take_box k4 (by rfl) 32 (.tmp 5) rfl (w.heap.size + 2) 0 rfl (splV (.slice As ls.length cs) o) (splV (.slice As ls.length cs) o) (fun y hy => XS5.out.kept hy) whole_at _ Tryz.underlying32 rfl 17 size_spl (splV_len NO.out) ?_
  (try simp only [Act.put, List.setIfInBounds_toArray, List.set_cons_zero, List.set_cons_succ])
  refine lin_call k4 (by rfl) (fun K hK => ?_)
  go_simp
  refine (rightS_any A c p.size D p.data.length d p.code As cs ls o y4 ((RC5.out.below k4).more k4.size) (by omega) (by omega) ((VS5.out.below k4).more k4.size) NO.out).mono ?_; rintro e y5 ⟨rfl, hb⟩
  go_wp2_with fail
  have k5 := k4.to hb
  refine hK.out _ _ k5 (fun _ => ?_)
  clear hK K hb
  (try simp only [Act.put, List.setIfInBounds_toArray, List.set_cons_zero, List.set_cons_succ])
  refine lin_call k5 (by rfl) (fun K hK => ?_)
  go_simp
  refine (refRightS_any A c p.size D p.data.length d p.code As cs ls o y5 ((RC5.out.below k5).more k5.size) (by omega) (by omega) ((VS5.out.below k5).more k5.size) NO.out).mono ?_; rintro e y6 ⟨rfl, hb⟩
  go_wp2_with fail
  have k6 := k5.to hb
  refine hK.out _ _ k6 (fun _ => ?_)
  clear hK K hb
  (try simp only [Act.put, List.setIfInBounds_toArray, List.set_cons_zero, List.set_cons_succ])
  obtain ⟨br, hbr⟩ : ∃ br, br = rightS p.code p.size p.data.length ls o := ⟨_, rfl⟩
  rw [← hbr]
  clear hbr
  refine lin_take (v := .bool true) k6 (by rfl) (fun y hy => by cases br <;> go_simp) ?_
  (try simp only [Act.put, List.setIfInBounds_toArray, List.set_cons_zero, List.set_cons_succ])
  refine lin_take (v := ?_) k6 (by rfl) ?_ ?_; rotate_left; (intro y hy; go_simp; try (with_reducible rfl)); (try simp only [Act.put, List.setIfInBounds_toArray, List.set_cons_zero, List.set_cons_succ])
  refine lin_take (v := ?_) k6 (by rfl) ?_ ?_; rotate_left; (intro y hy; go_simp; try (with_reducible rfl)); (try simp only [Act.put, List.setIfInBounds_toArray, List.set_cons_zero, List.set_cons_succ])
  refine lin_take_box k6 (by rfl) 32 (.tmp 5) rfl (w.heap.size + 2) 0 rfl (splV (.slice As ls.length cs) o) (splV (.slice As ls.length cs) o) (fun y hy => XS5.out.kept hy) whole_at _ Tryz.underlying32 rfl 17 size_spl (splV_len NO.out) ?_
  (try simp only [Act.put, List.setIfInBounds_toArray, List.set_cons_zero, List.set_cons_succ])
  refine lin_take_box k6 (by rfl) 32 (.tmp 5) rfl (w.heap.size + 2) 0 rfl (splV (.slice As ls.length cs) o) (splV (.slice As ls.length cs) o) (fun y hy => XS5.out.kept hy) whole_at _ Tryz.underlying32 rfl 17 size_spl (splV_len NO.out) ?_
  (try simp only [Act.put, List.setIfInBounds_toArray, List.set_cons_zero, List.set_cons_succ])
  refine lin_call k6 (by rfl) (fun K hK => ?_)
  go_simp
  refine (mostS_any As cs ls o y6 ((VS5.out.below k6).more k6.size) (fun x hx => ⟨fits_off (HSF.out x hx).1.2.2.2.2.1, fits_off (HSF.out x hx).1.2.2.2.2.2⟩)).mono ?_; rintro e y7 ⟨rfl, hb⟩
  go_wp2_with fail
  have k7 := k6.to hb
  refine hK.out _ _ k7 (fun _ => ?_)
  clear hK K hb
  (try simp only [Act.put, List.setIfInBounds_toArray, List.set_cons_zero, List.set_cons_succ])
  refine lin_call k7 (by rfl) (fun K hK => ?_)
  go_simp
  refine (refMostS_any As cs ls o y7 ((VS5.out.below k7).more k7.size)).mono ?_; rintro e y8 ⟨rfl, hb⟩
  go_wp2_with fail
  have k8 := k7.to hb
  refine hK.out _ _ k8 (fun _ => ?_)
  clear hK K hb
  (try simp only [Act.put, List.setIfInBounds_toArray, List.set_cons_zero, List.set_cons_succ])
  obtain ⟨ms, hms⟩ : ∃ ms, ms = mostS ls := ⟨_, rfl⟩
  rw [← hms]
  clear hms
  refine lin_take (v := .bool true) k8 (by rfl) (fun y hy => by go_simp) ?_
  (try simp only [Act.put, List.setIfInBounds_toArray, List.set_cons_zero, List.set_cons_succ])
  refine lin_take (v := ?_) k8 (by rfl) ?_ ?_; rotate_left; (intro y hy; go_simp; try (with_reducible rfl)); (try simp only [Act.put, List.setIfInBounds_toArray, List.set_cons_zero, List.set_cons_succ])
  refine lin_take (v := ?_) k8 (by rfl) ?_ ?_; rotate_left; (intro y hy; go_simp; try (with_reducible rfl)); (try simp only [Act.put, List.setIfInBounds_toArray, List.set_cons_zero, List.set_cons_succ])
  refine lin_done ?_
  have HE := Lib.hid (HK5.out.trans (k8.mono HK5.out.size))
  clear k8
  go_wp2_with fail
  go_ret
  exact ⟨by first | rfl | trivial, HE.out⟩
end Go.Proofs.YteagglddgkjkmaaGreat.Words

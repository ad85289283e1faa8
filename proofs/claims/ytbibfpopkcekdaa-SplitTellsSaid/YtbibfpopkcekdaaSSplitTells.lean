/- The walk of law 13's SplitTells. -/
import Derived.Test.YtbibfpopkcekdaaG12
import Derived.Test.YtbibfpopkcekdaaSSplFew
import Derived.Test.YtbibfpopkcekdaaG13
import Derived.Test.YtbibfpopkcekdaaSOpenSpl
namespace Go.Proofs.Ytbibfpopkcekdaa.Words
set_option maxRecDepth 100000
open Go.RowKit
set_option linter.unusedVariables false
set_option linter.unusedSimpArgs false

theorem Below.on {x y z : World} (h : Below x.heap.size x y) (g : Below y.heap.size y z) : Below x.heap.size x z := h.trans (g.mono h.size)

set_option maxHeartbeats 4000000 in
theorem splitTells_walk (A : Option Addr) (c : Nat) (D : Option Addr) (d : Nat) (p : Prog) (o : List Int) (ua : Value) (la : List BlkC) (oa : List Int) (ub : Value) (lb : List BlkC) (ob : List Int) (w : World)
    (hf : p.Fits) (hp : ProgV w w.heap.size (.slice A p.code.length c) (.slice D p.data.length d) p) (ho : o.length = 16) (ha : oa.length = 16) (hva : BlksV w w.heap.size ua la) (fa : ∀ c ∈ la, c.Fits) (hb : ob.length = 16) (hvb : BlksV w w.heap.size ub lb) (fb : ∀ c ∈ lb, c.Fits) :
    Calls Try.prog 3 #[.agg #[.slice A p.code.length c, .int .i64 p.size, .slice D p.data.length d], .agg (oV o).toArray, .agg (splV ua oa).toArray, .agg (splV ub ob).toArray] w fun e w' => e = .returned (.bool true) ∧ Below w.heap.size w w' := by
  obtain ⟨u1, u2⟩ := hp.code.cap
  obtain ⟨u3, u4⟩ := hp.data.cap
  obtain ⟨Aa, ca, rfl⟩ := hva.form
  obtain ⟨Ab, cb, rfl⟩ := hvb.form
  obtain ⟨W1, hW1⟩ : ∃ W1, W1 = w.alloc (.cells #[.slice A p.code.length c, .int .i64 p.size, .slice D p.data.length d] 25) := ⟨_, rfl⟩
  obtain ⟨W2, hW2⟩ : ∃ W2, W2 = W1.alloc (.cells (oV o).toArray 26) := ⟨_, rfl⟩
  obtain ⟨W3, hW3⟩ : ∃ W3, W3 = W2.alloc (.cells (splV (.slice Aa la.length ca) oa).toArray 29) := ⟨_, rfl⟩
  obtain ⟨W, hW⟩ : ∃ W, W = W3.alloc (.cells (splV (.slice Ab lb.length cb) ob).toArray 29) := ⟨_, rfl⟩
  have hz1 : W1.heap.size = w.heap.size + 1 := by rw [hW1]; simp
  have hz2 : W2.heap.size = w.heap.size + 2 := by rw [hW2]; simp [hz1]
  have hz3 : W3.heap.size = w.heap.size + 3 := by rw [hW3]; simp [hz2]
  have HZ : Hid (W.heap.size = w.heap.size + 4) := by show _ = _; rw [hW]; simp [hz3]
  have HK0 : Hid (Below w.heap.size w W) := by rw [hW, hW3, hW2, hW1]; exact ((((Below.refl w.heap.size w).alloc (Nat.le_refl _) _).alloc (by simp) _).alloc (by simp; omega) _).alloc (by simp; omega) _
  have XP0 : Hid (Box W w.heap.size [.slice A p.code.length c, .int .i64 p.size, .slice D p.data.length d]) := by rw [hW, hW3, hW2, hW1]; exact (((Box.new w _ _).alloc _).alloc _).alloc _
  have XO0 : Hid (Box W (w.heap.size + 1) (oV o)) := by rw [hW, hW3, hW2, ← hz1]; exact ((Box.new W1 _ _).alloc _).alloc _
  have XA0 : Hid (Box W (w.heap.size + 2) (splV (.slice Aa la.length ca) oa)) := by rw [hW, hW3, ← hz2]; exact (Box.new W2 _ _).alloc _
  have XB0 : Hid (Box W (w.heap.size + 3) (splV (.slice Ab lb.length cb) ob)) := by rw [hW, ← hz3]; exact Box.new W3 _ _
  have RC0 := Lib.hid ((hp.code.below HK0.out).more HK0.out.size)
  have VA0 := Lib.hid ((hva.below HK0.out).more HK0.out.size)
  have VB0 := Lib.hid ((hvb.below HK0.out).more HK0.out.size)
  have HOL := Lib.hid ho
  have HAL := Lib.hid ha
  have HBL := Lib.hid hb
  clear hp hva hvb ho ha hb fa fb hz1 hz2 hz3
  go_enter Try.func3, Try.ntmps3
  go_upto_region 1 with (fail)
  change Code.wp _ _ _ _ ((((w.alloc (.cells #[.slice A p.code.length c, .int .i64 p.size, .slice D p.data.length d] 25)).alloc (.cells (oV o).toArray 26)).alloc (.cells (splV (.slice Aa la.length ca) oa).toArray 29)).alloc (.cells (splV (.slice Ab lb.length cb) ob).toArray 29))
  rw [← hW1, ← hW2, ← hW3, ← hW]
  clear hW1 hW2 hW3 hW
  go_wp2_with fail
  refine (alive13_any _).mono ?_; rintro e w1 ⟨rfl, hb1⟩
  have HK1 := Lib.hid (HK0.out.trans ((hb1).mono HK0.out.size))
  have XP1 := Lib.hid (XP0.out.below (hb1) XP0.out.lt)
  have XO1 := Lib.hid (XO0.out.below (hb1) XO0.out.lt)
  have XA1 := Lib.hid (XA0.out.below (hb1) XA0.out.lt)
  have XB1 := Lib.hid (XB0.out.below (hb1) XB0.out.lt)
  have RC1 := Lib.hid ((RC0.out.below (hb1)).more (hb1).size)
  have VA1 := Lib.hid ((VA0.out.below (hb1)).more (hb1).size)
  have VB1 := Lib.hid ((VB0.out.below (hb1)).more (hb1).size)
  clear XP0 XO0 XA0 XB0 RC0 VA0 VB0 HK0
  clear hb1
  go_wp2_with (first
    | (refine wpList_load_box rfl 25 (.tmp 4) rfl w.heap.size 0 rfl ([.slice A p.code.length c, .int .i64 p.size, .slice D p.data.length d]) ([.slice A p.code.length c, .int .i64 p.size, .slice D p.data.length d]) XP1.out whole_at _ Try.underlying25 rfl 3 size_prg rfl ?_)
    | (refine wpList_load_box rfl 26 (.tmp 5) rfl (w.heap.size + 1) 0 rfl (oV o) (oV o) XO1.out whole_at _ Try.underlying26 rfl 16 (by kernel_rfl) ((oV_len o).trans HOL.out) ?_)
    | (refine wpList_load_box rfl 29 (.tmp 6) rfl (w.heap.size + 2) 0 rfl (splV (.slice Aa la.length ca) oa) (splV (.slice Aa la.length ca) oa) XA1.out whole_at _ Try.underlying29 rfl 17 size_spl (splV_len HAL.out) ?_)
    | (refine wpList_load_box rfl 29 (.tmp 7) rfl (w.heap.size + 3) 0 rfl (splV (.slice Ab lb.length cb) ob) (splV (.slice Ab lb.length cb) ob) XB1.out whole_at _ Try.underlying29 rfl 17 size_spl (splV_len HBL.out) ?_))
  refine (few_any A D p.code.length c p.data.length d p.size _ (by omega) (by omega)).mono ?_; rintro e w2 ⟨rfl, hb2⟩
  have HK2 := Lib.hid (HK1.out.trans ((hb2).mono HK1.out.size))
  have XP2 := Lib.hid (XP1.out.below (hb2) XP1.out.lt)
  have XO2 := Lib.hid (XO1.out.below (hb2) XO1.out.lt)
  have XA2 := Lib.hid (XA1.out.below (hb2) XA1.out.lt)
  have XB2 := Lib.hid (XB1.out.below (hb2) XB1.out.lt)
  have RC2 := Lib.hid ((RC1.out.below (hb2)).more (hb2).size)
  have VA2 := Lib.hid ((VA1.out.below (hb2)).more (hb2).size)
  have VB2 := Lib.hid ((VB1.out.below (hb2)).more (hb2).size)
  clear XP1 XO1 XA1 XB1 RC1 VA1 VB1 HK1
  clear hb2
  cases hfew : fewB p.code.length p.data.length
  · try dsimp only
    go_wp2_with (first
      | (refine wpList_load_box rfl 25 (.tmp 4) rfl w.heap.size 0 rfl ([.slice A p.code.length c, .int .i64 p.size, .slice D p.data.length d]) ([.slice A p.code.length c, .int .i64 p.size, .slice D p.data.length d]) XP2.out whole_at _ Try.underlying25 rfl 3 size_prg rfl ?_)
      | (refine wpList_load_box rfl 26 (.tmp 5) rfl (w.heap.size + 1) 0 rfl (oV o) (oV o) XO2.out whole_at _ Try.underlying26 rfl 16 (by kernel_rfl) ((oV_len o).trans HOL.out) ?_)
      | (refine wpList_load_box rfl 29 (.tmp 6) rfl (w.heap.size + 2) 0 rfl (splV (.slice Aa la.length ca) oa) (splV (.slice Aa la.length ca) oa) XA2.out whole_at _ Try.underlying29 rfl 17 size_spl (splV_len HAL.out) ?_)
      | (refine wpList_load_box rfl 29 (.tmp 7) rfl (w.heap.size + 3) 0 rfl (splV (.slice Ab lb.length cb) ob) (splV (.slice Ab lb.length cb) ob) XB2.out whole_at _ Try.underlying29 rfl 17 size_spl (splV_len HBL.out) ?_))
    go_ret
    exact ⟨by first | rfl | trivial, HK2.out⟩

  clear hfew
  try dsimp only
  go_wp2_with (first
    | (refine wpList_load_box rfl 25 (.tmp 4) rfl w.heap.size 0 rfl ([.slice A p.code.length c, .int .i64 p.size, .slice D p.data.length d]) ([.slice A p.code.length c, .int .i64 p.size, .slice D p.data.length d]) XP2.out whole_at _ Try.underlying25 rfl 3 size_prg rfl ?_)
    | (refine wpList_load_box rfl 26 (.tmp 5) rfl (w.heap.size + 1) 0 rfl (oV o) (oV o) XO2.out whole_at _ Try.underlying26 rfl 16 (by kernel_rfl) ((oV_len o).trans HOL.out) ?_)
    | (refine wpList_load_box rfl 29 (.tmp 6) rfl (w.heap.size + 2) 0 rfl (splV (.slice Aa la.length ca) oa) (splV (.slice Aa la.length ca) oa) XA2.out whole_at _ Try.underlying29 rfl 17 size_spl (splV_len HAL.out) ?_)
    | (refine wpList_load_box rfl 29 (.tmp 7) rfl (w.heap.size + 3) 0 rfl (splV (.slice Ab lb.length cb) ob) (splV (.slice Ab lb.length cb) ob) XB2.out whole_at _ Try.underlying29 rfl 17 size_spl (splV_len HBL.out) ?_))
  refine (few13_any Aa ca la oa _ VA2.out).mono ?_; rintro e w3 ⟨⟨fb, rfl⟩, hb3⟩
  have HK3 := Lib.hid (HK2.out.trans ((hb3).mono HK2.out.size))
  have XP3 := Lib.hid (XP2.out.below (hb3) XP2.out.lt)
  have XO3 := Lib.hid (XO2.out.below (hb3) XO2.out.lt)
  have XA3 := Lib.hid (XA2.out.below (hb3) XA2.out.lt)
  have XB3 := Lib.hid (XB2.out.below (hb3) XB2.out.lt)
  have RC3 := Lib.hid ((RC2.out.below (hb3)).more (hb3).size)
  have VA3 := Lib.hid ((VA2.out.below (hb3)).more (hb3).size)
  have VB3 := Lib.hid ((VB2.out.below (hb3)).more (hb3).size)
  clear XP2 XO2 XA2 XB2 RC2 VA2 VB2 HK2
  clear hb3
  cases fb
  · try dsimp only
    go_wp2_with (first
      | (refine wpList_load_box rfl 25 (.tmp 4) rfl w.heap.size 0 rfl ([.slice A p.code.length c, .int .i64 p.size, .slice D p.data.length d]) ([.slice A p.code.length c, .int .i64 p.size, .slice D p.data.length d]) XP3.out whole_at _ Try.underlying25 rfl 3 size_prg rfl ?_)
      | (refine wpList_load_box rfl 26 (.tmp 5) rfl (w.heap.size + 1) 0 rfl (oV o) (oV o) XO3.out whole_at _ Try.underlying26 rfl 16 (by kernel_rfl) ((oV_len o).trans HOL.out) ?_)
      | (refine wpList_load_box rfl 29 (.tmp 6) rfl (w.heap.size + 2) 0 rfl (splV (.slice Aa la.length ca) oa) (splV (.slice Aa la.length ca) oa) XA3.out whole_at _ Try.underlying29 rfl 17 size_spl (splV_len HAL.out) ?_)
      | (refine wpList_load_box rfl 29 (.tmp 7) rfl (w.heap.size + 3) 0 rfl (splV (.slice Ab lb.length cb) ob) (splV (.slice Ab lb.length cb) ob) XB3.out whole_at _ Try.underlying29 rfl 17 size_spl (splV_len HBL.out) ?_))
    go_ret
    exact ⟨by first | rfl | trivial, HK3.out⟩

  try dsimp only
  go_wp2_with (first
    | (refine wpList_load_box rfl 25 (.tmp 4) rfl w.heap.size 0 rfl ([.slice A p.code.length c, .int .i64 p.size, .slice D p.data.length d]) ([.slice A p.code.length c, .int .i64 p.size, .slice D p.data.length d]) XP3.out whole_at _ Try.underlying25 rfl 3 size_prg rfl ?_)
    | (refine wpList_load_box rfl 26 (.tmp 5) rfl (w.heap.size + 1) 0 rfl (oV o) (oV o) XO3.out whole_at _ Try.underlying26 rfl 16 (by kernel_rfl) ((oV_len o).trans HOL.out) ?_)
    | (refine wpList_load_box rfl 29 (.tmp 6) rfl (w.heap.size + 2) 0 rfl (splV (.slice Aa la.length ca) oa) (splV (.slice Aa la.length ca) oa) XA3.out whole_at _ Try.underlying29 rfl 17 size_spl (splV_len HAL.out) ?_)
    | (refine wpList_load_box rfl 29 (.tmp 7) rfl (w.heap.size + 3) 0 rfl (splV (.slice Ab lb.length cb) ob) (splV (.slice Ab lb.length cb) ob) XB3.out whole_at _ Try.underlying29 rfl 17 size_spl (splV_len HBL.out) ?_))
  refine (few13_any Ab cb lb ob _ VB3.out).mono ?_; rintro e w4 ⟨⟨fb, rfl⟩, hb4⟩
  have HK4 := Lib.hid (HK3.out.trans ((hb4).mono HK3.out.size))
  have XP4 := Lib.hid (XP3.out.below (hb4) XP3.out.lt)
  have XO4 := Lib.hid (XO3.out.below (hb4) XO3.out.lt)
  have XA4 := Lib.hid (XA3.out.below (hb4) XA3.out.lt)
  have XB4 := Lib.hid (XB3.out.below (hb4) XB3.out.lt)
  have RC4 := Lib.hid ((RC3.out.below (hb4)).more (hb4).size)
  have VA4 := Lib.hid ((VA3.out.below (hb4)).more (hb4).size)
  have VB4 := Lib.hid ((VB3.out.below (hb4)).more (hb4).size)
  clear XP3 XO3 XA3 XB3 RC3 VA3 VB3 HK3
  clear hb4
  cases fb
  · try dsimp only
    go_wp2_with (first
      | (refine wpList_load_box rfl 25 (.tmp 4) rfl w.heap.size 0 rfl ([.slice A p.code.length c, .int .i64 p.size, .slice D p.data.length d]) ([.slice A p.code.length c, .int .i64 p.size, .slice D p.data.length d]) XP4.out whole_at _ Try.underlying25 rfl 3 size_prg rfl ?_)
      | (refine wpList_load_box rfl 26 (.tmp 5) rfl (w.heap.size + 1) 0 rfl (oV o) (oV o) XO4.out whole_at _ Try.underlying26 rfl 16 (by kernel_rfl) ((oV_len o).trans HOL.out) ?_)
      | (refine wpList_load_box rfl 29 (.tmp 6) rfl (w.heap.size + 2) 0 rfl (splV (.slice Aa la.length ca) oa) (splV (.slice Aa la.length ca) oa) XA4.out whole_at _ Try.underlying29 rfl 17 size_spl (splV_len HAL.out) ?_)
      | (refine wpList_load_box rfl 29 (.tmp 7) rfl (w.heap.size + 3) 0 rfl (splV (.slice Ab lb.length cb) ob) (splV (.slice Ab lb.length cb) ob) XB4.out whole_at _ Try.underlying29 rfl 17 size_spl (splV_len HBL.out) ?_))
    go_ret
    exact ⟨by first | rfl | trivial, HK4.out⟩

  try dsimp only
  obtain ⟨L1, hL1⟩ : ∃ L1, L1 = (withZ p.code p.size p.data.length (ofZ p.code p.size p.data.length)) := ⟨_, rfl⟩
  obtain ⟨O1, hO1⟩ : ∃ O1, O1 = (ownW p.code p.size p.data.length (ofZ p.code p.size p.data.length)) := ⟨_, rfl⟩
  obtain ⟨E1, hE1⟩ : ∃ E1, E1 = (errW p.code p.size p.data.length (ofZ p.code p.size p.data.length)) := ⟨_, rfl⟩
  obtain ⟨L2, hL2⟩ : ∃ L2, L2 = (withZ p.code p.size p.data.length o) := ⟨_, rfl⟩
  obtain ⟨O2, hO2⟩ : ∃ O2, O2 = (ownW p.code p.size p.data.length o) := ⟨_, rfl⟩
  obtain ⟨E2, hE2⟩ : ∃ E2, E2 = (errW p.code p.size p.data.length o) := ⟨_, rfl⟩
  have N1 : Hid (O1.length = 16) := by rw [hO1]; exact ownW_len ofZ_len
  have N2 : Hid (O2.length = 16) := by rw [hO2]; exact ownW_len HOL.out
  have HL1 := Lib.hid hL1
  clear hL1
  have HL2 := Lib.hid hL2
  clear hL2
  have HO1 := Lib.hid hO1
  clear hO1
  have HO2 := Lib.hid hO2
  clear hO2
  have HE1 := Lib.hid hE1
  clear hE1
  have HE2 := Lib.hid hE2
  clear hE2
  go_wp2_with (first
    | (refine wpList_load_box rfl 25 (.tmp 4) rfl w.heap.size 0 rfl ([.slice A p.code.length c, .int .i64 p.size, .slice D p.data.length d]) ([.slice A p.code.length c, .int .i64 p.size, .slice D p.data.length d]) XP4.out whole_at _ Try.underlying25 rfl 3 size_prg rfl ?_)
    | (refine wpList_load_box rfl 26 (.tmp 5) rfl (w.heap.size + 1) 0 rfl (oV o) (oV o) XO4.out whole_at _ Try.underlying26 rfl 16 (by kernel_rfl) ((oV_len o).trans HOL.out) ?_)
    | (refine wpList_load_box rfl 29 (.tmp 6) rfl (w.heap.size + 2) 0 rfl (splV (.slice Aa la.length ca) oa) (splV (.slice Aa la.length ca) oa) XA4.out whole_at _ Try.underlying29 rfl 17 size_spl (splV_len HAL.out) ?_)
    | (refine wpList_load_box rfl 29 (.tmp 7) rfl (w.heap.size + 3) 0 rfl (splV (.slice Ab lb.length cb) ob) (splV (.slice Ab lb.length cb) ob) XB4.out whole_at _ Try.underlying29 rfl 17 size_spl (splV_len HBL.out) ?_))
  refine (splOf_any A c p.size D p.data.length d p.code _ RC4.out (by omega) (by omega)).mono ?_; rintro e w5 ⟨v5, rfl, hv5, hb5⟩
  rw [← HL1.out] at hv5
  rw [← HO1.out, ← HE1.out]
  obtain ⟨A5, c5, rfl⟩ := hv5.blks.form
  have HV5 := Lib.hid hv5.blks
  have HK5 := Lib.hid (HK4.out.trans ((hb5).mono HK4.out.size))
  have XP5 := Lib.hid (XP4.out.below (hb5) XP4.out.lt)
  have XO5 := Lib.hid (XO4.out.below (hb5) XO4.out.lt)
  have XA5 := Lib.hid (XA4.out.below (hb5) XA4.out.lt)
  have XB5 := Lib.hid (XB4.out.below (hb5) XB4.out.lt)
  have RC5 := Lib.hid ((RC4.out.below (hb5)).more (hb5).size)
  have VA5 := Lib.hid ((VA4.out.below (hb5)).more (hb5).size)
  have VB5 := Lib.hid ((VB4.out.below (hb5)).more (hb5).size)
  clear XP4 XO4 XA4 XB4 RC4 VA4 VB4 HK4
  clear hb5 hv5
  try dsimp only
  go_upto_region 5 with (first
    | (refine wpList_store_box rfl 29 (.tmp 10) (.tmp 40) rfl w5.heap.size 0 (splV (.slice A5 L1.length c5) O1) rfl rfl zeroSpl (Box.new w5 zeroSpl 29) (by rw [splV_len N1.out]; decide) 17 size_spl (splV_len N1.out) (splV_one rfl) ?_; intro y5 B5 hg5; rw [splice_whole zeroSpl (splV (.slice A5 L1.length c5) O1) (by rw [splV_len N1.out]; rfl)] at B5; have HX5 : Hid (Box y5 w5.heap.size (splV (.slice A5 L1.length c5) O1)) := B5; have HS5 := Lib.hid (box_stored hg5); clear B5 hg5))
  have HK6 := Lib.hid (HK5.out.trans ((HS5.out).mono HK5.out.size))
  have XP6 := Lib.hid (XP5.out.below (HS5.out) XP5.out.lt)
  have XO6 := Lib.hid (XO5.out.below (HS5.out) XO5.out.lt)
  have XA6 := Lib.hid (XA5.out.below (HS5.out) XA5.out.lt)
  have XB6 := Lib.hid (XB5.out.below (HS5.out) XB5.out.lt)
  have RC6 := Lib.hid ((RC5.out.below (HS5.out)).more (HS5.out).size)
  have VA6 := Lib.hid ((VA5.out.below (HS5.out)).more (HS5.out).size)
  have VB6 := Lib.hid ((VB5.out.below (HS5.out)).more (HS5.out).size)
  clear XP5 XO5 XA5 XB5 RC5 VA5 VB5 HK5
  have X5_6 := HX5
  have V5_6 := Lib.hid ((HV5.out.below HS5.out).more HS5.out.size)
  clear HX5 HV5 HS5
  go_wp2_with (first
    | (refine wpList_load_box rfl 25 (.tmp 4) rfl w.heap.size 0 rfl ([.slice A p.code.length c, .int .i64 p.size, .slice D p.data.length d]) ([.slice A p.code.length c, .int .i64 p.size, .slice D p.data.length d]) XP6.out whole_at _ Try.underlying25 rfl 3 size_prg rfl ?_)
    | (refine wpList_load_box rfl 26 (.tmp 5) rfl (w.heap.size + 1) 0 rfl (oV o) (oV o) XO6.out whole_at _ Try.underlying26 rfl 16 (by kernel_rfl) ((oV_len o).trans HOL.out) ?_)
    | (refine wpList_load_box rfl 29 (.tmp 6) rfl (w.heap.size + 2) 0 rfl (splV (.slice Aa la.length ca) oa) (splV (.slice Aa la.length ca) oa) XA6.out whole_at _ Try.underlying29 rfl 17 size_spl (splV_len HAL.out) ?_)
    | (refine wpList_load_box rfl 29 (.tmp 7) rfl (w.heap.size + 3) 0 rfl (splV (.slice Ab lb.length cb) ob) (splV (.slice Ab lb.length cb) ob) XB6.out whole_at _ Try.underlying29 rfl 17 size_spl (splV_len HBL.out) ?_))
  refine (refSplitP_any A c p.size D p.data.length d p.code _ RC6.out (by omega) (by omega)).mono ?_; rintro e w6 ⟨v6, rfl, hv6, hb6⟩
  rw [← HL1.out] at hv6
  rw [← HO1.out, ← HE1.out]
  obtain ⟨A6, c6, rfl⟩ := hv6.blks.form
  have HV6 := Lib.hid hv6.blks
  have HK7 := Lib.hid (HK6.out.trans ((hb6).mono HK6.out.size))
  have XP7 := Lib.hid (XP6.out.below (hb6) XP6.out.lt)
  have XO7 := Lib.hid (XO6.out.below (hb6) XO6.out.lt)
  have XA7 := Lib.hid (XA6.out.below (hb6) XA6.out.lt)
  have XB7 := Lib.hid (XB6.out.below (hb6) XB6.out.lt)
  have RC7 := Lib.hid ((RC6.out.below (hb6)).more (hb6).size)
  have VA7 := Lib.hid ((VA6.out.below (hb6)).more (hb6).size)
  have VB7 := Lib.hid ((VB6.out.below (hb6)).more (hb6).size)
  have X5_7 := Lib.hid (X5_6.out.below (hb6) X5_6.out.lt)
  have V5_7 := Lib.hid ((V5_6.out.below (hb6)).more (hb6).size)
  clear XP6 XO6 XA6 XB6 RC6 VA6 VB6 X5_6 V5_6 HK6
  clear hb6 hv6
  try dsimp only
  go_upto_region 6 with (first
    | (refine wpList_store_box rfl 29 (.tmp 12) (.tmp 45) rfl w6.heap.size 0 (splV (.slice A6 L1.length c6) O1) rfl rfl zeroSpl (Box.new w6 zeroSpl 29) (by rw [splV_len N1.out]; decide) 17 size_spl (splV_len N1.out) (splV_one rfl) ?_; intro y6 B6 hg6; rw [splice_whole zeroSpl (splV (.slice A6 L1.length c6) O1) (by rw [splV_len N1.out]; rfl)] at B6; have HX6 : Hid (Box y6 w6.heap.size (splV (.slice A6 L1.length c6) O1)) := B6; have HS6 := Lib.hid (box_stored hg6); clear B6 hg6))
  have HK8 := Lib.hid (HK7.out.trans ((HS6.out).mono HK7.out.size))
  have XP8 := Lib.hid (XP7.out.below (HS6.out) XP7.out.lt)
  have XO8 := Lib.hid (XO7.out.below (HS6.out) XO7.out.lt)
  have XA8 := Lib.hid (XA7.out.below (HS6.out) XA7.out.lt)
  have XB8 := Lib.hid (XB7.out.below (HS6.out) XB7.out.lt)
  have RC8 := Lib.hid ((RC7.out.below (HS6.out)).more (HS6.out).size)
  have VA8 := Lib.hid ((VA7.out.below (HS6.out)).more (HS6.out).size)
  have VB8 := Lib.hid ((VB7.out.below (HS6.out)).more (HS6.out).size)
  have X5_8 := Lib.hid (X5_7.out.below (HS6.out) X5_7.out.lt)
  have V5_8 := Lib.hid ((V5_7.out.below (HS6.out)).more (HS6.out).size)
  clear XP7 XO7 XA7 XB7 RC7 VA7 VB7 X5_7 V5_7 HK7
  have X6_8 := HX6
  have V6_8 := Lib.hid ((HV6.out.below HS6.out).more HS6.out.size)
  clear HX6 HV6 HS6
  go_wp2_with (first
    | (refine wpList_load_box rfl 25 (.tmp 4) rfl w.heap.size 0 rfl ([.slice A p.code.length c, .int .i64 p.size, .slice D p.data.length d]) ([.slice A p.code.length c, .int .i64 p.size, .slice D p.data.length d]) XP8.out whole_at _ Try.underlying25 rfl 3 size_prg rfl ?_)
    | (refine wpList_load_box rfl 26 (.tmp 5) rfl (w.heap.size + 1) 0 rfl (oV o) (oV o) XO8.out whole_at _ Try.underlying26 rfl 16 (by kernel_rfl) ((oV_len o).trans HOL.out) ?_)
    | (refine wpList_load_box rfl 29 (.tmp 6) rfl (w.heap.size + 2) 0 rfl (splV (.slice Aa la.length ca) oa) (splV (.slice Aa la.length ca) oa) XA8.out whole_at _ Try.underlying29 rfl 17 size_spl (splV_len HAL.out) ?_)
    | (refine wpList_load_box rfl 29 (.tmp 7) rfl (w.heap.size + 3) 0 rfl (splV (.slice Ab lb.length cb) ob) (splV (.slice Ab lb.length cb) ob) XB8.out whole_at _ Try.underlying29 rfl 17 size_spl (splV_len HBL.out) ?_))
  refine (with_any A c p.size D p.data.length d p.code o _ RC8.out (by omega) (by omega) HOL.out).mono ?_; rintro e w7 ⟨v7, rfl, hv7, hb7⟩
  rw [← HL2.out] at hv7
  rw [← HO2.out, ← HE2.out]
  obtain ⟨A7, c7, rfl⟩ := hv7.blks.form
  have HV7 := Lib.hid hv7.blks
  have HK9 := Lib.hid (HK8.out.trans ((hb7).mono HK8.out.size))
  have XP9 := Lib.hid (XP8.out.below (hb7) XP8.out.lt)
  have XO9 := Lib.hid (XO8.out.below (hb7) XO8.out.lt)
  have XA9 := Lib.hid (XA8.out.below (hb7) XA8.out.lt)
  have XB9 := Lib.hid (XB8.out.below (hb7) XB8.out.lt)
  have RC9 := Lib.hid ((RC8.out.below (hb7)).more (hb7).size)
  have VA9 := Lib.hid ((VA8.out.below (hb7)).more (hb7).size)
  have VB9 := Lib.hid ((VB8.out.below (hb7)).more (hb7).size)
  have X5_9 := Lib.hid (X5_8.out.below (hb7) X5_8.out.lt)
  have V5_9 := Lib.hid ((V5_8.out.below (hb7)).more (hb7).size)
  have X6_9 := Lib.hid (X6_8.out.below (hb7) X6_8.out.lt)
  have V6_9 := Lib.hid ((V6_8.out.below (hb7)).more (hb7).size)
  clear XP8 XO8 XA8 XB8 RC8 VA8 VB8 X5_8 V5_8 X6_8 V6_8 HK8
  clear hb7 hv7
  try dsimp only
  go_upto_region 7 with (first
    | (refine wpList_store_box rfl 29 (.tmp 14) (.tmp 51) rfl w7.heap.size 0 (splV (.slice A7 L2.length c7) O2) rfl rfl zeroSpl (Box.new w7 zeroSpl 29) (by rw [splV_len N2.out]; decide) 17 size_spl (splV_len N2.out) (splV_one rfl) ?_; intro y7 B7 hg7; rw [splice_whole zeroSpl (splV (.slice A7 L2.length c7) O2) (by rw [splV_len N2.out]; rfl)] at B7; have HX7 : Hid (Box y7 w7.heap.size (splV (.slice A7 L2.length c7) O2)) := B7; have HS7 := Lib.hid (box_stored hg7); clear B7 hg7))
  have HK10 := Lib.hid (HK9.out.trans ((HS7.out).mono HK9.out.size))
  have XP10 := Lib.hid (XP9.out.below (HS7.out) XP9.out.lt)
  have XO10 := Lib.hid (XO9.out.below (HS7.out) XO9.out.lt)
  have XA10 := Lib.hid (XA9.out.below (HS7.out) XA9.out.lt)
  have XB10 := Lib.hid (XB9.out.below (HS7.out) XB9.out.lt)
  have RC10 := Lib.hid ((RC9.out.below (HS7.out)).more (HS7.out).size)
  have VA10 := Lib.hid ((VA9.out.below (HS7.out)).more (HS7.out).size)
  have VB10 := Lib.hid ((VB9.out.below (HS7.out)).more (HS7.out).size)
  have X5_10 := Lib.hid (X5_9.out.below (HS7.out) X5_9.out.lt)
  have V5_10 := Lib.hid ((V5_9.out.below (HS7.out)).more (HS7.out).size)
  have X6_10 := Lib.hid (X6_9.out.below (HS7.out) X6_9.out.lt)
  have V6_10 := Lib.hid ((V6_9.out.below (HS7.out)).more (HS7.out).size)
  clear XP9 XO9 XA9 XB9 RC9 VA9 VB9 X5_9 V5_9 X6_9 V6_9 HK9
  have X7_10 := HX7
  have V7_10 := Lib.hid ((HV7.out.below HS7.out).more HS7.out.size)
  clear HX7 HV7 HS7
  go_wp2_with (first
    | (refine wpList_load_box rfl 25 (.tmp 4) rfl w.heap.size 0 rfl ([.slice A p.code.length c, .int .i64 p.size, .slice D p.data.length d]) ([.slice A p.code.length c, .int .i64 p.size, .slice D p.data.length d]) XP10.out whole_at _ Try.underlying25 rfl 3 size_prg rfl ?_)
    | (refine wpList_load_box rfl 26 (.tmp 5) rfl (w.heap.size + 1) 0 rfl (oV o) (oV o) XO10.out whole_at _ Try.underlying26 rfl 16 (by kernel_rfl) ((oV_len o).trans HOL.out) ?_)
    | (refine wpList_load_box rfl 29 (.tmp 6) rfl (w.heap.size + 2) 0 rfl (splV (.slice Aa la.length ca) oa) (splV (.slice Aa la.length ca) oa) XA10.out whole_at _ Try.underlying29 rfl 17 size_spl (splV_len HAL.out) ?_)
    | (refine wpList_load_box rfl 29 (.tmp 7) rfl (w.heap.size + 3) 0 rfl (splV (.slice Ab lb.length cb) ob) (splV (.slice Ab lb.length cb) ob) XB10.out whole_at _ Try.underlying29 rfl 17 size_spl (splV_len HBL.out) ?_))
  refine (refWith_any A c p.size D p.data.length d p.code o _ RC10.out (by omega) (by omega) HOL.out).mono ?_; rintro e w8 ⟨v8, rfl, hv8, hb8⟩
  rw [← HL2.out] at hv8
  rw [← HO2.out, ← HE2.out]
  obtain ⟨A8, c8, rfl⟩ := hv8.blks.form
  have HV8 := Lib.hid hv8.blks
  have HK11 := Lib.hid (HK10.out.trans ((hb8).mono HK10.out.size))
  have XP11 := Lib.hid (XP10.out.below (hb8) XP10.out.lt)
  have XO11 := Lib.hid (XO10.out.below (hb8) XO10.out.lt)
  have XA11 := Lib.hid (XA10.out.below (hb8) XA10.out.lt)
  have XB11 := Lib.hid (XB10.out.below (hb8) XB10.out.lt)
  have RC11 := Lib.hid ((RC10.out.below (hb8)).more (hb8).size)
  have VA11 := Lib.hid ((VA10.out.below (hb8)).more (hb8).size)
  have VB11 := Lib.hid ((VB10.out.below (hb8)).more (hb8).size)
  have X5_11 := Lib.hid (X5_10.out.below (hb8) X5_10.out.lt)
  have V5_11 := Lib.hid ((V5_10.out.below (hb8)).more (hb8).size)
  have X6_11 := Lib.hid (X6_10.out.below (hb8) X6_10.out.lt)
  have V6_11 := Lib.hid ((V6_10.out.below (hb8)).more (hb8).size)
  have X7_11 := Lib.hid (X7_10.out.below (hb8) X7_10.out.lt)
  have V7_11 := Lib.hid ((V7_10.out.below (hb8)).more (hb8).size)
  clear XP10 XO10 XA10 XB10 RC10 VA10 VB10 X5_10 V5_10 X6_10 V6_10 X7_10 V7_10 HK10
  clear hb8 hv8
  try dsimp only
  go_upto_region 8 with (first
    | (refine wpList_store_box rfl 29 (.tmp 16) (.tmp 57) rfl w8.heap.size 0 (splV (.slice A8 L2.length c8) O2) rfl rfl zeroSpl (Box.new w8 zeroSpl 29) (by rw [splV_len N2.out]; decide) 17 size_spl (splV_len N2.out) (splV_one rfl) ?_; intro y8 B8 hg8; rw [splice_whole zeroSpl (splV (.slice A8 L2.length c8) O2) (by rw [splV_len N2.out]; rfl)] at B8; have HX8 : Hid (Box y8 w8.heap.size (splV (.slice A8 L2.length c8) O2)) := B8; have HS8 := Lib.hid (box_stored hg8); clear B8 hg8))
  have HK12 := Lib.hid (HK11.out.trans ((HS8.out).mono HK11.out.size))
  have XP12 := Lib.hid (XP11.out.below (HS8.out) XP11.out.lt)
  have XO12 := Lib.hid (XO11.out.below (HS8.out) XO11.out.lt)
  have XA12 := Lib.hid (XA11.out.below (HS8.out) XA11.out.lt)
  have XB12 := Lib.hid (XB11.out.below (HS8.out) XB11.out.lt)
  have RC12 := Lib.hid ((RC11.out.below (HS8.out)).more (HS8.out).size)
  have VA12 := Lib.hid ((VA11.out.below (HS8.out)).more (HS8.out).size)
  have VB12 := Lib.hid ((VB11.out.below (HS8.out)).more (HS8.out).size)
  have X5_12 := Lib.hid (X5_11.out.below (HS8.out) X5_11.out.lt)
  have V5_12 := Lib.hid ((V5_11.out.below (HS8.out)).more (HS8.out).size)
  have X6_12 := Lib.hid (X6_11.out.below (HS8.out) X6_11.out.lt)
  have V6_12 := Lib.hid ((V6_11.out.below (HS8.out)).more (HS8.out).size)
  have X7_12 := Lib.hid (X7_11.out.below (HS8.out) X7_11.out.lt)
  have V7_12 := Lib.hid ((V7_11.out.below (HS8.out)).more (HS8.out).size)
  clear XP11 XO11 XA11 XB11 RC11 VA11 VB11 X5_11 V5_11 X6_11 V6_11 X7_11 V7_11 HK11
  have X8_12 := HX8
  have V8_12 := Lib.hid ((HV8.out.below HS8.out).more HS8.out.size)
  clear HX8 HV8 HS8
  refine wp_region_lin [(0, true), (1, true), (2, false), (3, true), (4, true), (6, true), (5, false), (7, true), (8, true), (9, true), (10, true), (11, true), (12, false), (13, true), (14, true), (15, true), (17, true), (16, false), (18, true), (19, true), (20, true), (21, true), (22, true), (24, true), (25, true), (23, false), (26, false), (27, true), (28, true), (29, true), (30, true), (31, true), (32, false), (33, true), (34, true)]
    (by kernel_rfl) (by kernel_rfl) rfl (by kernel_rfl) (Kept y8) ?_
  have k0 : Kept y8 y8.drew := (Kept.refl y8).drew
  simp only [List.map_cons, List.map_nil, List.getElem?_toArray, List.getElem?_cons_succ, List.getElem?_cons_zero]
  obtain ⟨Db, hDb⟩ : ∃ Db, Db = decide (la = lb ∧ oa = ob) := ⟨_, rfl⟩
  have HD := Lib.hid hDb
  clear hDb
  refine lin_take_box k0 (by rfl) 29 (.tmp 10) rfl w5.heap.size 0 rfl (splV (.slice A5 L1.length c5) O1) (splV (.slice A5 L1.length c5) O1) (fun y hy => X5_12.out.kept hy) whole_at _ Try.underlying29 rfl 17 size_spl (splV_len N1.out) ?_
  (try simp only [Act.put, List.setIfInBounds_toArray, List.set_cons_zero, List.set_cons_succ])
  refine lin_take_box k0 (by rfl) 29 (.tmp 12) rfl w6.heap.size 0 rfl (splV (.slice A6 L1.length c6) O1) (splV (.slice A6 L1.length c6) O1) (fun y hy => X6_12.out.kept hy) whole_at _ Try.underlying29 rfl 17 size_spl (splV_len N1.out) ?_
  (try simp only [Act.put, List.setIfInBounds_toArray, List.set_cons_zero, List.set_cons_succ])
  refine lin_call k0 (by rfl) (fun K hK => ?_)
  go_simp
  refine (refSameSpl_any A5 A6 c5 c6 L1 L1 O1 O1 _ N1.out N1.out ((V5_12.out.below (w' := _) k0).more k0.size) ((V6_12.out.below (w' := _) k0).more k0.size)).mono ?_; rintro e z1 ⟨rfl, hb1⟩
  rw [decide_eq_true ⟨rfl, rfl⟩]
  go_wp2_with fail
  have k1 := k0.to hb1
  refine hK.out _ _ k1 (fun _ => ?_)
  clear hK K k0 hb1
  (try simp only [Act.put, List.setIfInBounds_toArray, List.set_cons_zero, List.set_cons_succ])
  refine lin_take (v := ?_) k1 (by rfl) ?_ ?_; rotate_left; (intro x hx; (try dsimp only at hx); go_simp; try (with_reducible rfl)); (try simp only [Act.put, List.setIfInBounds_toArray, List.set_cons_zero, List.set_cons_succ])
  refine lin_take (v := ?_) k1 (by rfl) ?_ ?_; rotate_left; (intro x hx; (try dsimp only at hx); go_simp; try (with_reducible rfl)); (try simp only [Act.put, List.setIfInBounds_toArray, List.set_cons_zero, List.set_cons_succ])
  refine lin_take (v := ?_) k1 (by rfl) ?_ ?_; rotate_left; (intro x hx; (try dsimp only at hx); go_simp; try (with_reducible rfl)); (try simp only [Act.put, List.setIfInBounds_toArray, List.set_cons_zero, List.set_cons_succ])
  refine lin_call k1 (by rfl) (fun K hK => ?_)
  go_simp
  refine (num13_any E1 _).mono ?_; rintro e _ ⟨rfl, rfl⟩
  go_wp2_with fail
  refine hK.out _ _ k1 (fun _ => ?_)
  clear hK K
  (try simp only [Act.put, List.setIfInBounds_toArray, List.set_cons_zero, List.set_cons_succ])
  refine lin_take (v := .bool true) k1 (by rfl) (fun x hx => by go_simp) ?_
  (try simp only [Act.put, List.setIfInBounds_toArray, List.set_cons_zero, List.set_cons_succ])
  refine lin_take (v := ?_) k1 (by rfl) ?_ ?_; rotate_left; (intro x hx; (try dsimp only at hx); go_simp; try (with_reducible rfl)); (try simp only [Act.put, List.setIfInBounds_toArray, List.set_cons_zero, List.set_cons_succ])
  refine lin_take (v := ?_) k1 (by rfl) ?_ ?_; rotate_left; (intro x hx; (try dsimp only at hx); go_simp; try (with_reducible rfl)); (try simp only [Act.put, List.setIfInBounds_toArray, List.set_cons_zero, List.set_cons_succ])
  refine lin_take_box k1 (by rfl) 29 (.tmp 14) rfl w7.heap.size 0 rfl (splV (.slice A7 L2.length c7) O2) (splV (.slice A7 L2.length c7) O2) (fun y hy => X7_12.out.kept hy) whole_at _ Try.underlying29 rfl 17 size_spl (splV_len N2.out) ?_
  (try simp only [Act.put, List.setIfInBounds_toArray, List.set_cons_zero, List.set_cons_succ])
  refine lin_take_box k1 (by rfl) 29 (.tmp 16) rfl w8.heap.size 0 rfl (splV (.slice A8 L2.length c8) O2) (splV (.slice A8 L2.length c8) O2) (fun y hy => X8_12.out.kept hy) whole_at _ Try.underlying29 rfl 17 size_spl (splV_len N2.out) ?_
  (try simp only [Act.put, List.setIfInBounds_toArray, List.set_cons_zero, List.set_cons_succ])
  refine lin_call k1 (by rfl) (fun K hK => ?_)
  go_simp
  refine (refSameSpl_any A7 A8 c7 c8 L2 L2 O2 O2 _ N2.out N2.out ((V7_12.out.below (w' := _) k1).more k1.size) ((V8_12.out.below (w' := _) k1).more k1.size)).mono ?_; rintro e z2 ⟨rfl, hb2⟩
  rw [decide_eq_true ⟨rfl, rfl⟩]
  go_wp2_with fail
  have k2 := k1.to hb2
  refine hK.out _ _ k2 (fun _ => ?_)
  clear hK K k1 hb2
  (try simp only [Act.put, List.setIfInBounds_toArray, List.set_cons_zero, List.set_cons_succ])
  refine lin_take (v := ?_) k2 (by rfl) ?_ ?_; rotate_left; (intro x hx; (try dsimp only at hx); go_simp; try (with_reducible rfl)); (try simp only [Act.put, List.setIfInBounds_toArray, List.set_cons_zero, List.set_cons_succ])
  refine lin_take (v := ?_) k2 (by rfl) ?_ ?_; rotate_left; (intro x hx; (try dsimp only at hx); go_simp; try (with_reducible rfl)); (try simp only [Act.put, List.setIfInBounds_toArray, List.set_cons_zero, List.set_cons_succ])
  refine lin_take (v := ?_) k2 (by rfl) ?_ ?_; rotate_left; (intro x hx; (try dsimp only at hx); go_simp; try (with_reducible rfl)); (try simp only [Act.put, List.setIfInBounds_toArray, List.set_cons_zero, List.set_cons_succ])
  refine lin_take (v := ?_) k2 (by rfl) ?_ ?_; rotate_left; (intro x hx; (try dsimp only at hx); go_simp; try (with_reducible rfl)); (try simp only [Act.put, List.setIfInBounds_toArray, List.set_cons_zero, List.set_cons_succ])
  refine lin_call k2 (by rfl) (fun K hK => ?_)
  go_simp
  refine (num13_any E2 _).mono ?_; rintro e _ ⟨rfl, rfl⟩
  go_wp2_with fail
  refine hK.out _ _ k2 (fun _ => ?_)
  clear hK K
  (try simp only [Act.put, List.setIfInBounds_toArray, List.set_cons_zero, List.set_cons_succ])
  refine lin_take (v := .bool true) k2 (by rfl) (fun x hx => by go_simp) ?_
  (try simp only [Act.put, List.setIfInBounds_toArray, List.set_cons_zero, List.set_cons_succ])
  refine lin_take (v := ?_) k2 (by rfl) ?_ ?_; rotate_left; (intro x hx; (try dsimp only at hx); go_simp; try (with_reducible rfl)); (try simp only [Act.put, List.setIfInBounds_toArray, List.set_cons_zero, List.set_cons_succ])
  refine lin_take (v := ?_) k2 (by rfl) ?_ ?_; rotate_left; (intro x hx; (try dsimp only at hx); go_simp; try (with_reducible rfl)); (try simp only [Act.put, List.setIfInBounds_toArray, List.set_cons_zero, List.set_cons_succ])
  refine lin_take_box k2 (by rfl) 29 (.tmp 6) rfl (w.heap.size + 2) 0 rfl (splV (.slice Aa la.length ca) oa) (splV (.slice Aa la.length ca) oa) (fun y hy => XA12.out.kept hy) whole_at _ Try.underlying29 rfl 17 size_spl (splV_len HAL.out) ?_
  (try simp only [Act.put, List.setIfInBounds_toArray, List.set_cons_zero, List.set_cons_succ])
  refine lin_take_box k2 (by rfl) 29 (.tmp 7) rfl (w.heap.size + 3) 0 rfl (splV (.slice Ab lb.length cb) ob) (splV (.slice Ab lb.length cb) ob) (fun y hy => XB12.out.kept hy) whole_at _ Try.underlying29 rfl 17 size_spl (splV_len HBL.out) ?_
  (try simp only [Act.put, List.setIfInBounds_toArray, List.set_cons_zero, List.set_cons_succ])
  refine lin_take_box k2 (by rfl) 29 (.tmp 6) rfl (w.heap.size + 2) 0 rfl (splV (.slice Aa la.length ca) oa) (splV (.slice Aa la.length ca) oa) (fun y hy => XA12.out.kept hy) whole_at _ Try.underlying29 rfl 17 size_spl (splV_len HAL.out) ?_
  (try simp only [Act.put, List.setIfInBounds_toArray, List.set_cons_zero, List.set_cons_succ])
  refine lin_take_box k2 (by rfl) 29 (.tmp 7) rfl (w.heap.size + 3) 0 rfl (splV (.slice Ab lb.length cb) ob) (splV (.slice Ab lb.length cb) ob) (fun y hy => XB12.out.kept hy) whole_at _ Try.underlying29 rfl 17 size_spl (splV_len HBL.out) ?_
  (try simp only [Act.put, List.setIfInBounds_toArray, List.set_cons_zero, List.set_cons_succ])
  refine lin_call k2 (by rfl) (fun K hK => ?_)
  go_simp
  refine (splSame_any Aa Ab ca cb la lb oa ob _ HAL.out HBL.out ((VA12.out.below (w' := _) k2).more k2.size) ((VB12.out.below (w' := _) k2).more k2.size)).mono ?_; rintro e z3 ⟨rfl, hb3⟩
  rw [← HD.out]
  go_wp2_with fail
  have k3 := k2.to hb3
  refine hK.out _ _ k3 (fun _ => ?_)
  clear hK K k2 hb3
  (try simp only [Act.put, List.setIfInBounds_toArray, List.set_cons_zero, List.set_cons_succ])
  refine lin_call k3 (by rfl) (fun K hK => ?_)
  go_simp
  refine (refSameSpl_any Aa Ab ca cb la lb oa ob _ HAL.out HBL.out ((VA12.out.below (w' := _) k3).more k3.size) ((VB12.out.below (w' := _) k3).more k3.size)).mono ?_; rintro e z4 ⟨rfl, hb4⟩
  rw [← HD.out]
  go_wp2_with fail
  have k4 := k3.to hb4
  refine hK.out _ _ k4 (fun _ => ?_)
  clear hK K k3 hb4
  (try simp only [Act.put, List.setIfInBounds_toArray, List.set_cons_zero, List.set_cons_succ])
  refine lin_take (v := .bool true) k4 (by rfl) (fun x hx => by cases Db <;> rfl) ?_
  (try simp only [Act.put, List.setIfInBounds_toArray, List.set_cons_zero, List.set_cons_succ])
  refine lin_take (v := ?_) k4 (by rfl) ?_ ?_; rotate_left; (intro x hx; (try dsimp only at hx); go_simp; try (with_reducible rfl)); (try simp only [Act.put, List.setIfInBounds_toArray, List.set_cons_zero, List.set_cons_succ])
  refine lin_take (v := ?_) k4 (by rfl) ?_ ?_; rotate_left; (intro x hx; (try dsimp only at hx); go_simp; try (with_reducible rfl)); (try simp only [Act.put, List.setIfInBounds_toArray, List.set_cons_zero, List.set_cons_succ])
  refine lin_take_box k4 (by rfl) 29 (.tmp 6) rfl (w.heap.size + 2) 0 rfl (splV (.slice Aa la.length ca) oa) (splV (.slice Aa la.length ca) oa) (fun y hy => XA12.out.kept hy) whole_at _ Try.underlying29 rfl 17 size_spl (splV_len HAL.out) ?_
  (try simp only [Act.put, List.setIfInBounds_toArray, List.set_cons_zero, List.set_cons_succ])
  refine lin_take_box k4 (by rfl) 29 (.tmp 6) rfl (w.heap.size + 2) 0 rfl (splV (.slice Aa la.length ca) oa) (splV (.slice Aa la.length ca) oa) (fun y hy => XA12.out.kept hy) whole_at _ Try.underlying29 rfl 17 size_spl (splV_len HAL.out) ?_
  (try simp only [Act.put, List.setIfInBounds_toArray, List.set_cons_zero, List.set_cons_succ])
  refine lin_call k4 (by rfl) (fun K hK => ?_)
  go_simp
  refine (splSame_any Aa Aa ca ca la la oa oa _ HAL.out HAL.out ((VA12.out.below (w' := _) k4).more k4.size) ((VA12.out.below (w' := _) k4).more k4.size)).mono ?_; rintro e z5 ⟨rfl, hb5⟩
  rw [decide_eq_true ⟨rfl, rfl⟩]
  go_wp2_with fail
  have k5 := k4.to hb5
  refine hK.out _ _ k5 (fun _ => ?_)
  clear hK K k4 hb5
  (try simp only [Act.put, List.setIfInBounds_toArray, List.set_cons_zero, List.set_cons_succ])
  refine lin_take (v := ?_) k5 (by rfl) ?_ ?_; rotate_left; (intro x hx; (try dsimp only at hx); go_simp; try (with_reducible rfl)); (try simp only [Act.put, List.setIfInBounds_toArray, List.set_cons_zero, List.set_cons_succ])
  refine lin_take (v := ?_) k5 (by rfl) ?_ ?_; rotate_left; (intro x hx; (try dsimp only at hx); go_simp; try (with_reducible rfl)); (try simp only [Act.put, List.setIfInBounds_toArray, List.set_cons_zero, List.set_cons_succ])
  refine lin_done ?_
  have HE := Lib.hid (HK12.out.trans ((show Below y8.heap.size y8 _ from k5).mono HK12.out.size))
  clear k5
  go_wp2_with fail
  go_ret
  exact ⟨by first | rfl | trivial, HE.out⟩
end Go.Proofs.Ytbibfpopkcekdaa.Words

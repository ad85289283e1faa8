/- The law BanksScript walked. -/
import Derived.Test.YthhoigkmmlkfcaaG11
import Derived.Test.YthhoigkmmlkfcaaG07
namespace Go.Proofs.Ythhoigkmmlkfcaa.Words
set_option maxRecDepth 100000
open Go.RowKit
set_option linter.unusedVariables false
set_option linter.unusedSimpArgs false

theorem ith_again (l : List Int) (i : Int) (h : 0 ≤ i) : ithZ l (i + l.length) = ithZ l i := by
  unfold ithZ
  by_cases h0 : l.length = 0
  · rw [if_pos (.inl h0), if_pos (.inl h0)]
  · rw [if_neg (by omega), if_neg (by omega), Int.add_emod_right]
theorem lats_again (l : List Int) (i most : Int) (h : 0 ≤ i) : latsZ l (i + l.length) most = latsZ l i most := by unfold latsZ; rw [ith_again l i h]
theorem picks_again (l : List Int) (i n : Int) (h : 0 ≤ i) : pickZ l (i + l.length) n = pickZ l i n := by unfold pickZ; rw [ith_again l i h]
theorem lats_upto (l : List Int) (i most : Int) (h : 1 ≤ most) : 1 ≤ latsZ l i most ∧ latsZ l i most ≤ most := by
  unfold latsZ
  rw [if_neg (by omega)]
  have h1 := Int.emod_nonneg (ithZ l i) (show most ≠ 0 by omega)
  have h2 := Int.emod_lt_of_pos (ithZ l i) (show 0 < most by omega)
  omega
theorem lats_one (l : List Int) (i : Int) : latsZ l i 1 = 1 := by have := lats_upto l i 1 (by omega); omega
theorem picks_one (l : List Int) (i : Int) : pickZ l i 1 = 0 := by have := pickZ_range l i 1 (by omega); omega
set_option maxHeartbeats 4000000 in
theorem banksScript_walk (A B : Option Addr) (ca cb : Nat) (lats picks : List Int) (i most k : Int) (w : World) (hl : Row w w.heap.size 1 (.slice A lats.length ca) lats.length (lats.map (Value.int .i64))) (hp : Row w w.heap.size 1 (.slice B picks.length cb) picks.length (picks.map (Value.int .i64))) (hfl : ∀ x ∈ lats, -9223372036854775808 ≤ x ∧ x ≤ 9223372036854775807) (hfp : ∀ x ∈ picks, -9223372036854775808 ≤ x ∧ x ≤ 9223372036854775807) (hi : -9223372036854775808 ≤ i ∧ i ≤ 9223372036854775807) (hm : -9223372036854775808 ≤ most ∧ most ≤ 9223372036854775807) (hk : -9223372036854775808 ≤ k ∧ k ≤ 9223372036854775807) :
    Calls Try.prog 6 #[.agg #[.slice A lats.length ca, .slice B picks.length cb], .int .i64 i, .int .i64 most, .int .i64 k] w fun e w' => e = .returned (.bool true) ∧ Below w.heap.size w w' := by
  clear hfl hfp
  have hAL := fun h => lats_again lats i most h
  have hAP := fun h => picks_again picks i k h
  generalize hn : lats.length = n at *
  generalize hmm : picks.length = m at *
  have HN := Lib.hid hn
  have HM := Lib.hid hmm
  have HAL := Lib.hid hAL
  have HAP := Lib.hid hAP
  obtain ⟨W, hW⟩ : ∃ W, W = w.alloc (.cells #[.slice A n ca, .slice B m cb] 26) := ⟨_, rfl⟩
  have HBW : Hid (Below w.heap.size w W) := by rw [hW]; exact (Below.refl _ _).alloc (Nat.le_refl _) _
  have HXW : Hid (Box W w.heap.size [.slice A n ca, .slice B m cb]) := by rw [hW]; exact Box.new w _ _
  have HLW := Lib.hid ((hl.below HBW.out).more HBW.out.size)
  have HPW := Lib.hid ((hp.below HBW.out).more HBW.out.size)
  have hn1 := hl.cap
  have hm1 := hp.cap
  clear hn hmm hAL hAP hl hp
  by_cases g1 : (60 : Int) < n
  · go_enter Try.func6, Try.ntmps6
    go_wp2_with (first | (rw [← hW]; clear hW))
    refine (alive18_any _).mono ?_
    rintro e w1 ⟨rfl, hb⟩
    have B1 := Lib.hid (HBW.out.trans (hb.mono HBW.out.size))
    have HX1 := Lib.hid (HXW.out.below hb HXW.out.lt)
    have HL1 := Lib.hid ((HLW.out.below hb).more hb.size)
    have HP1 := Lib.hid ((HPW.out.below hb).more hb.size)
    have c0 : w1.cell? ⟨w.heap.size, 0, none⟩ = some (.slice A n ca) := HX1.out.cell rfl
    have c1 : w1.cell? ⟨w.heap.size, 1, none⟩ = some (.slice B m cb) := HX1.out.cell rfl
    clear hb
    go_wp2_with fail
    go_ret
    exact ⟨rfl, B1.out⟩
  by_cases g2 : (60 : Int) < m
  · go_enter Try.func6, Try.ntmps6
    go_wp2_with (first | (rw [← hW]; clear hW))
    refine (alive18_any _).mono ?_
    rintro e w1 ⟨rfl, hb⟩
    have B1 := Lib.hid (HBW.out.trans (hb.mono HBW.out.size))
    have HX1 := Lib.hid (HXW.out.below hb HXW.out.lt)
    have HL1 := Lib.hid ((HLW.out.below hb).more hb.size)
    have HP1 := Lib.hid ((HPW.out.below hb).more hb.size)
    have c0 : w1.cell? ⟨w.heap.size, 0, none⟩ = some (.slice A n ca) := HX1.out.cell rfl
    have c1 : w1.cell? ⟨w.heap.size, 1, none⟩ = some (.slice B m cb) := HX1.out.cell rfl
    clear hb
    go_wp2_with fail
    go_ret
    exact ⟨rfl, B1.out⟩
  by_cases g3 : i < 0
  · go_enter Try.func6, Try.ntmps6
    go_wp2_with (first | (rw [← hW]; clear hW))
    refine (alive18_any _).mono ?_
    rintro e w1 ⟨rfl, hb⟩
    have B1 := Lib.hid (HBW.out.trans (hb.mono HBW.out.size))
    have HX1 := Lib.hid (HXW.out.below hb HXW.out.lt)
    have HL1 := Lib.hid ((HLW.out.below hb).more hb.size)
    have HP1 := Lib.hid ((HPW.out.below hb).more hb.size)
    have c0 : w1.cell? ⟨w.heap.size, 0, none⟩ = some (.slice A n ca) := HX1.out.cell rfl
    have c1 : w1.cell? ⟨w.heap.size, 1, none⟩ = some (.slice B m cb) := HX1.out.cell rfl
    clear hb
    go_wp2_with fail
    go_ret
    exact ⟨rfl, B1.out⟩
  by_cases g4 : 1099511627776 < i
  · go_enter Try.func6, Try.ntmps6
    go_wp2_with (first | (rw [← hW]; clear hW))
    refine (alive18_any _).mono ?_
    rintro e w1 ⟨rfl, hb⟩
    have B1 := Lib.hid (HBW.out.trans (hb.mono HBW.out.size))
    have HX1 := Lib.hid (HXW.out.below hb HXW.out.lt)
    have HL1 := Lib.hid ((HLW.out.below hb).more hb.size)
    have HP1 := Lib.hid ((HPW.out.below hb).more hb.size)
    have c0 : w1.cell? ⟨w.heap.size, 0, none⟩ = some (.slice A n ca) := HX1.out.cell rfl
    have c1 : w1.cell? ⟨w.heap.size, 1, none⟩ = some (.slice B m cb) := HX1.out.cell rfl
    clear hb
    go_wp2_with fail
    go_ret
    exact ⟨rfl, B1.out⟩
  by_cases g5 : most < 1
  · go_enter Try.func6, Try.ntmps6
    go_wp2_with (first | (rw [← hW]; clear hW))
    refine (alive18_any _).mono ?_
    rintro e w1 ⟨rfl, hb⟩
    have B1 := Lib.hid (HBW.out.trans (hb.mono HBW.out.size))
    have HX1 := Lib.hid (HXW.out.below hb HXW.out.lt)
    have HL1 := Lib.hid ((HLW.out.below hb).more hb.size)
    have HP1 := Lib.hid ((HPW.out.below hb).more hb.size)
    have c0 : w1.cell? ⟨w.heap.size, 0, none⟩ = some (.slice A n ca) := HX1.out.cell rfl
    have c1 : w1.cell? ⟨w.heap.size, 1, none⟩ = some (.slice B m cb) := HX1.out.cell rfl
    clear hb
    go_wp2_with fail
    go_ret
    exact ⟨rfl, B1.out⟩
  by_cases g6 : k < 1
  · go_enter Try.func6, Try.ntmps6
    go_wp2_with (first | (rw [← hW]; clear hW))
    refine (alive18_any _).mono ?_
    rintro e w1 ⟨rfl, hb⟩
    have B1 := Lib.hid (HBW.out.trans (hb.mono HBW.out.size))
    have HX1 := Lib.hid (HXW.out.below hb HXW.out.lt)
    have HL1 := Lib.hid ((HLW.out.below hb).more hb.size)
    have HP1 := Lib.hid ((HPW.out.below hb).more hb.size)
    have c0 : w1.cell? ⟨w.heap.size, 0, none⟩ = some (.slice A n ca) := HX1.out.cell rfl
    have c1 : w1.cell? ⟨w.heap.size, 1, none⟩ = some (.slice B m cb) := HX1.out.cell rfl
    clear hb
    go_wp2_with fail
    go_ret
    exact ⟨rfl, B1.out⟩
  have hw1 : wrap64 (i + n) = i + n := by unfold wrap64; omega
  have hw2 : wrap64 (i + m) = i + m := by unfold wrap64; omega
  have ha := lats_upto lats i most (by omega)
  have hb := pickZ_range picks i k (by omega)
  have HR := Lib.hid (HAL.out (by omega))
  have HS := Lib.hid (HAP.out (by omega))
  generalize hae : latsZ lats i most = a at *
  generalize hbe : pickZ picks i k = b at *
  have HAE := Lib.hid hae
  have HBE := Lib.hid hbe
  clear hae hbe
  obtain ⟨ha0, ha1⟩ := ha
  obtain ⟨hb0, hb1⟩ := hb
  go_enter Try.func6, Try.ntmps6
  go_wp2_with (first | (rw [← hW]; clear hW))
  refine (alive18_any _).mono ?_
  rintro e w1 ⟨rfl, hb⟩
  have B1 := Lib.hid (HBW.out.trans (hb.mono HBW.out.size))
  have HX1 := Lib.hid (HXW.out.below hb HXW.out.lt)
  have HL1 := Lib.hid ((HLW.out.below hb).more hb.size)
  have HP1 := Lib.hid ((HPW.out.below hb).more hb.size)
  have c0 : w1.cell? ⟨w.heap.size, 0, none⟩ = some (.slice A n ca) := HX1.out.cell rfl
  have c1 : w1.cell? ⟨w.heap.size, 1, none⟩ = some (.slice B m cb) := HX1.out.cell rfl
  clear hb
  go_wp2_with (first
    | (refine wpList_load_box rfl 26 (.tmp 4) rfl w.heap.size 0 rfl [.slice A n ca, .slice B m cb] [.slice A n ca, .slice B m cb] HX1.out wholeB _ Try.underlying26 rfl 2 (by kernel_rfl) rfl ?_))
  refine (lat_any A B ca cb n m lats picks i most _ HN.out HL1.out (by omega) (by omega)).mono ?_
  rintro e w2 ⟨rfl, hb⟩
  rw [HAE.out]
  have B2 := Lib.hid (B1.out.trans (hb.mono B1.out.size))
  have HX2 := Lib.hid (HX1.out.below hb HX1.out.lt)
  have HL2 := Lib.hid ((HL1.out.below hb).more hb.size)
  have HP2 := Lib.hid ((HP1.out.below hb).more hb.size)
  clear hb HX1 HL1 HP1 c0 c1
  have c0 : w2.cell? ⟨w.heap.size, 0, none⟩ = some (.slice A n ca) := HX2.out.cell rfl
  have c1 : w2.cell? ⟨w.heap.size, 1, none⟩ = some (.slice B m cb) := HX2.out.cell rfl
  try dsimp only
  go_wp2_with (first
    | (refine wpList_load_box rfl 26 (.tmp 4) rfl w.heap.size 0 rfl [.slice A n ca, .slice B m cb] [.slice A n ca, .slice B m cb] HX2.out wholeB _ Try.underlying26 rfl 2 (by kernel_rfl) rfl ?_))
  refine (pick_any A B ca cb n m lats picks i k _ HM.out HP2.out (by omega) (by omega)).mono ?_
  rintro e w3 ⟨rfl, hb⟩
  rw [HBE.out]
  have B3 := Lib.hid (B2.out.trans (hb.mono B2.out.size))
  have HX3 := Lib.hid (HX2.out.below hb HX2.out.lt)
  have HL3 := Lib.hid ((HL2.out.below hb).more hb.size)
  have HP3 := Lib.hid ((HP2.out.below hb).more hb.size)
  clear hb HX2 HL2 HP2 c0 c1
  have c0 : w3.cell? ⟨w.heap.size, 0, none⟩ = some (.slice A n ca) := HX3.out.cell rfl
  have c1 : w3.cell? ⟨w.heap.size, 1, none⟩ = some (.slice B m cb) := HX3.out.cell rfl
  try dsimp only
  go_wp2_with (first
    | (refine wpList_load_box rfl 26 (.tmp 4) rfl w.heap.size 0 rfl [.slice A n ca, .slice B m cb] [.slice A n ca, .slice B m cb] HX3.out wholeB _ Try.underlying26 rfl 2 (by kernel_rfl) rfl ?_))
  refine (lat_any A B ca cb n m lats picks (i + n) most _ HN.out HL3.out (by omega) (by omega)).mono ?_
  rintro e w4 ⟨rfl, hb⟩
  rw [HR.out]
  have B4 := Lib.hid (B3.out.trans (hb.mono B3.out.size))
  have HX4 := Lib.hid (HX3.out.below hb HX3.out.lt)
  have HL4 := Lib.hid ((HL3.out.below hb).more hb.size)
  have HP4 := Lib.hid ((HP3.out.below hb).more hb.size)
  clear hb HX3 HL3 HP3 c0 c1
  have c0 : w4.cell? ⟨w.heap.size, 0, none⟩ = some (.slice A n ca) := HX4.out.cell rfl
  have c1 : w4.cell? ⟨w.heap.size, 1, none⟩ = some (.slice B m cb) := HX4.out.cell rfl
  try dsimp only
  go_wp2_with (first
    | (refine wpList_load_box rfl 26 (.tmp 4) rfl w.heap.size 0 rfl [.slice A n ca, .slice B m cb] [.slice A n ca, .slice B m cb] HX4.out wholeB _ Try.underlying26 rfl 2 (by kernel_rfl) rfl ?_))
  refine (pick_any A B ca cb n m lats picks (i + m) k _ HM.out HP4.out (by omega) (by omega)).mono ?_
  rintro e w5 ⟨rfl, hb⟩
  rw [HS.out]
  have B5 := Lib.hid (B4.out.trans (hb.mono B4.out.size))
  have HX5 := Lib.hid (HX4.out.below hb HX4.out.lt)
  have HL5 := Lib.hid ((HL4.out.below hb).more hb.size)
  have HP5 := Lib.hid ((HP4.out.below hb).more hb.size)
  clear hb HX4 HL4 HP4 c0 c1
  have c0 : w5.cell? ⟨w.heap.size, 0, none⟩ = some (.slice A n ca) := HX5.out.cell rfl
  have c1 : w5.cell? ⟨w.heap.size, 1, none⟩ = some (.slice B m cb) := HX5.out.cell rfl
  try dsimp only
  go_wp2_with (first
    | (refine wpList_load_box rfl 26 (.tmp 4) rfl w.heap.size 0 rfl [.slice A n ca, .slice B m cb] [.slice A n ca, .slice B m cb] HX5.out wholeB _ Try.underlying26 rfl 2 (by kernel_rfl) rfl ?_))
  refine (lat_any A B ca cb n m lats picks i 1 _ HN.out HL5.out (by omega) (by omega)).mono ?_
  rintro e w6 ⟨rfl, hb⟩
  rw [lats_one]
  have B6 := Lib.hid (B5.out.trans (hb.mono B5.out.size))
  have HX6 := Lib.hid (HX5.out.below hb HX5.out.lt)
  have HL6 := Lib.hid ((HL5.out.below hb).more hb.size)
  have HP6 := Lib.hid ((HP5.out.below hb).more hb.size)
  clear hb HX5 HL5 HP5 c0 c1
  have c0 : w6.cell? ⟨w.heap.size, 0, none⟩ = some (.slice A n ca) := HX6.out.cell rfl
  have c1 : w6.cell? ⟨w.heap.size, 1, none⟩ = some (.slice B m cb) := HX6.out.cell rfl
  try dsimp only
  go_wp2_with (first
    | (refine wpList_load_box rfl 26 (.tmp 4) rfl w.heap.size 0 rfl [.slice A n ca, .slice B m cb] [.slice A n ca, .slice B m cb] HX6.out wholeB _ Try.underlying26 rfl 2 (by kernel_rfl) rfl ?_))
  refine (pick_any A B ca cb n m lats picks i 1 _ HM.out HP6.out (by omega) (by omega)).mono ?_
  rintro e w7 ⟨rfl, hb⟩
  rw [picks_one]
  have B7 := Lib.hid (B6.out.trans (hb.mono B6.out.size))
  have HX7 := Lib.hid (HX6.out.below hb HX6.out.lt)
  have HL7 := Lib.hid ((HL6.out.below hb).more hb.size)
  have HP7 := Lib.hid ((HP6.out.below hb).more hb.size)
  clear hb HX6 HL6 HP6 c0 c1
  have c0 : w7.cell? ⟨w.heap.size, 0, none⟩ = some (.slice A n ca) := HX7.out.cell rfl
  have c1 : w7.cell? ⟨w.heap.size, 1, none⟩ = some (.slice B m cb) := HX7.out.cell rfl
  try dsimp only
  go_wp2_with fail
  go_ret
  exact ⟨by first | rfl | simp, B7.out⟩
end Go.Proofs.Ythhoigkmmlkfcaa.Words

/- The law BanksTell walked. -/
import Derived.Test.YthhoigkmmlkfcaaG11
import Derived.Test.YthhoigkmmlkfcaaSFewSta
import Derived.Test.YthhoigkmmlkfcaaSAdvLim
import Derived.Test.YthhoigkmmlkfcaaG12
import Derived.Test.YthhoigkmmlkfcaaG07
import Derived.Test.YthhoigkmmlkfcaaSRefSameSta
namespace Go.Proofs.Ythhoigkmmlkfcaa.Words
set_option maxRecDepth 100000
open Go.RowKit
set_option linter.unusedVariables false
set_option linter.unusedSimpArgs false

theorem Sta.Fits.lim {x : Sta} (h : x.Fits) (ho : x.Ok) (hf : Few18 x) : StaLim 0 x := by
  unfold Few18 at hf
  exact ⟨by omega, by omega, by omega, by omega, by omega, by omega, by omega, by omega, by omega, h.mem, ho⟩
theorem row_kept {W y : World} {s n : Nat} {v : Value} {xs : List Value} (hr : Row W W.heap.size s v n xs) (h : Kept W y) : Row y y.heap.size s v n xs := h.row hr
set_option maxHeartbeats 4000000 in
theorem banksTell_walk (c : Cfg) (A B : Option Addr) (ca cb : Nat) (lats picks : List Int) (v : Vs) (x : Sta) (addr i n : Int) (w : World) (hc : c.Fits) (hl : Row w w.heap.size 1 (.slice A lats.length ca) lats.length (lats.map (Value.int .i64))) (hp : Row w w.heap.size 1 (.slice B picks.length cb) picks.length (picks.map (Value.int .i64))) (hfl : ∀ x ∈ lats, -9223372036854775808 ≤ x ∧ x ≤ 9223372036854775807) (hfp : ∀ x ∈ picks, -9223372036854775808 ≤ x ∧ x ≤ 9223372036854775807) (hx : x.Fits) (ho : x.Ok) (hv : StaV w w.heap.size v x) (ha : -9223372036854775808 ≤ addr ∧ addr ≤ 9223372036854775807) (hi : -9223372036854775808 ≤ i ∧ i ≤ 9223372036854775807) (hn : -9223372036854775808 ≤ n ∧ n ≤ 9223372036854775807) :
    Calls Try.prog 3 #[.agg #[.int .i64 c.ldq, .int .i64 c.sdq, .int .i64 c.aeq, .int .i64 c.abq, .int .i64 c.ebq, .int .i64 c.saq, .int .i64 c.banks, .int .i64 c.flight, .int .i64 c.slip, .int .i64 c.lat, .int .i64 c.mul, .int .i64 c.div], .agg #[.slice A lats.length ca, .slice B picks.length cb], .agg (staL x v).toArray, .int .i64 addr, .int .i64 i, .int .i64 n] w fun e w' => e = .returned (.bool true) ∧ Below w.heap.size w w' := by
  obtain ⟨W, hW⟩ : ∃ W, W = ((w.alloc (.cells #[.int .i64 c.ldq, .int .i64 c.sdq, .int .i64 c.aeq, .int .i64 c.abq, .int .i64 c.ebq, .int .i64 c.saq, .int .i64 c.banks, .int .i64 c.flight, .int .i64 c.slip, .int .i64 c.lat, .int .i64 c.mul, .int .i64 c.div] 23)).alloc (.cells #[.slice A lats.length ca, .slice B picks.length cb] 26)).alloc (.cells (staL x v).toArray 44) := ⟨_, rfl⟩
  have HBW : Hid (Below w.heap.size w W) := Lib.hid (by rw [hW]; exact (((Below.refl _ _).alloc (Nat.le_refl _) _).alloc (by simp) _).alloc (by simp; omega) _)
  have HCW : Hid (Box W w.heap.size (cfgCells c)) := Lib.hid (by rw [hW]; exact ((Box.new w (cfgCells c) _).alloc _).alloc _)
  have HSW : Hid (Box W (w.heap.size + 1) [.slice A lats.length ca, .slice B picks.length cb]) := Lib.hid (by rw [hW]; have := (Box.new (w.alloc (.cells #[.int .i64 c.ldq, .int .i64 c.sdq, .int .i64 c.aeq, .int .i64 c.abq, .int .i64 c.ebq, .int .i64 c.saq, .int .i64 c.banks, .int .i64 c.flight, .int .i64 c.slip, .int .i64 c.lat, .int .i64 c.mul, .int .i64 c.div] 23)) [.slice A lats.length ca, .slice B picks.length cb] 26).alloc (.cells (staL x v).toArray 44); simpa using this)
  have HXW : Hid (Box W (w.heap.size + 2) (staL x v)) := Lib.hid (by rw [hW]; have := Box.new ((w.alloc (.cells #[.int .i64 c.ldq, .int .i64 c.sdq, .int .i64 c.aeq, .int .i64 c.abq, .int .i64 c.ebq, .int .i64 c.saq, .int .i64 c.banks, .int .i64 c.flight, .int .i64 c.slip, .int .i64 c.lat, .int .i64 c.mul, .int .i64 c.div] 23)).alloc (.cells #[.slice A lats.length ca, .slice B picks.length cb] 26)) (staL x v) 44; simpa using this)
  have HLW := Lib.hid ((hl.below HBW.out).more HBW.out.size)
  have HPW := Lib.hid ((hp.below HBW.out).more HBW.out.size)
  have HVW := Lib.hid (hv.kept HBW.out)
  have HOK := Lib.hid ho
  have HF := Lib.hid hx
  have HCF := Lib.hid hc
  have HA := Lib.hid ha
  have HI := Lib.hid hi
  have HN := Lib.hid hn
  clear hl hp hv ho hx hc hfl hfp ha hi hn
  by_cases hfew : Few18 x
  case neg =>
    have HD := Lib.hid (decide_eq_false hfew)
    go_enter Try.func3, Try.ntmps3
    go_wp2_with (first | (rw [← hW]; clear hW))
    refine (alive18_any _).mono ?_
    rintro e w1 ⟨rfl, hb⟩
    have B1 := Lib.hid (HBW.out.trans (hb.mono HBW.out.size))
    have HC1 := Lib.hid (HCW.out.below hb HCW.out.lt)
    have HS1 := Lib.hid (HSW.out.below hb HSW.out.lt)
    have HX1 := Lib.hid (HXW.out.below hb HXW.out.lt)
    have HV1 := Lib.hid (HVW.out.kept hb)
    have HL1 := Lib.hid ((HLW.out.below hb).more hb.size)
    have HP1 := Lib.hid ((HPW.out.below hb).more hb.size)
    clear hb
    try dsimp only
    go_wp2_with (first
      | (refine wpList_load_box rfl 44 (.tmp 8) rfl (w.heap.size + 2) 0 rfl (staL x v) (staL x v) HX1.out wholeB _ Try.underlying44 rfl 92 (by kernel_rfl) (sta_len' HOK.out) ?_))
    refine (few18_any x v _ HOK.out HV1.out).mono ?_
    rintro e w3 ⟨rfl, hb⟩
    have B3 := Lib.hid (B1.out.trans (hb.mono B1.out.size))
    have HC3 := Lib.hid (HC1.out.below hb HC1.out.lt)
    have HS3 := Lib.hid (HS1.out.below hb HS1.out.lt)
    have HX3 := Lib.hid (HX1.out.below hb HX1.out.lt)
    have HV3 := Lib.hid (HV1.out.kept hb)
    have HL3 := Lib.hid ((HL1.out.below hb).more hb.size)
    have HP3 := Lib.hid ((HP1.out.below hb).more hb.size)
    have c0 : w3.cell? ⟨w.heap.size + 1, 0, none⟩ = some (.slice A lats.length ca) := HS3.out.cell rfl
    have c1 : w3.cell? ⟨w.heap.size + 1, 1, none⟩ = some (.slice B picks.length cb) := HS3.out.cell rfl
    clear hb HC1 HS1 HX1 HV1 HL1 HP1 B1
    rw [HD.out]
    try dsimp only
    go_wp2_with fail
    go_ret
    exact ⟨rfl, B3.out⟩
  have HD := Lib.hid (decide_eq_true hfew)
  by_cases g1 : (60 : Int) < lats.length
  case pos =>
    go_enter Try.func3, Try.ntmps3
    go_wp2_with (first | (rw [← hW]; clear hW))
    refine (alive18_any _).mono ?_
    rintro e w1 ⟨rfl, hb⟩
    have B1 := Lib.hid (HBW.out.trans (hb.mono HBW.out.size))
    have HC1 := Lib.hid (HCW.out.below hb HCW.out.lt)
    have HS1 := Lib.hid (HSW.out.below hb HSW.out.lt)
    have HX1 := Lib.hid (HXW.out.below hb HXW.out.lt)
    have HV1 := Lib.hid (HVW.out.kept hb)
    have HL1 := Lib.hid ((HLW.out.below hb).more hb.size)
    have HP1 := Lib.hid ((HPW.out.below hb).more hb.size)
    clear hb
    try dsimp only
    go_wp2_with (first
      | (refine wpList_load_box rfl 44 (.tmp 8) rfl (w.heap.size + 2) 0 rfl (staL x v) (staL x v) HX1.out wholeB _ Try.underlying44 rfl 92 (by kernel_rfl) (sta_len' HOK.out) ?_))
    refine (few18_any x v _ HOK.out HV1.out).mono ?_
    rintro e w3 ⟨rfl, hb⟩
    have B3 := Lib.hid (B1.out.trans (hb.mono B1.out.size))
    have HC3 := Lib.hid (HC1.out.below hb HC1.out.lt)
    have HS3 := Lib.hid (HS1.out.below hb HS1.out.lt)
    have HX3 := Lib.hid (HX1.out.below hb HX1.out.lt)
    have HV3 := Lib.hid (HV1.out.kept hb)
    have HL3 := Lib.hid ((HL1.out.below hb).more hb.size)
    have HP3 := Lib.hid ((HP1.out.below hb).more hb.size)
    have c0 : w3.cell? ⟨w.heap.size + 1, 0, none⟩ = some (.slice A lats.length ca) := HS3.out.cell rfl
    have c1 : w3.cell? ⟨w.heap.size + 1, 1, none⟩ = some (.slice B picks.length cb) := HS3.out.cell rfl
    clear hb HC1 HS1 HX1 HV1 HL1 HP1 B1
    rw [HD.out]
    try dsimp only
    go_wp2_with fail
    go_ret
    exact ⟨rfl, B3.out⟩
  by_cases g2 : (60 : Int) < picks.length
  case pos =>
    go_enter Try.func3, Try.ntmps3
    go_wp2_with (first | (rw [← hW]; clear hW))
    refine (alive18_any _).mono ?_
    rintro e w1 ⟨rfl, hb⟩
    have B1 := Lib.hid (HBW.out.trans (hb.mono HBW.out.size))
    have HC1 := Lib.hid (HCW.out.below hb HCW.out.lt)
    have HS1 := Lib.hid (HSW.out.below hb HSW.out.lt)
    have HX1 := Lib.hid (HXW.out.below hb HXW.out.lt)
    have HV1 := Lib.hid (HVW.out.kept hb)
    have HL1 := Lib.hid ((HLW.out.below hb).more hb.size)
    have HP1 := Lib.hid ((HPW.out.below hb).more hb.size)
    clear hb
    try dsimp only
    go_wp2_with (first
      | (refine wpList_load_box rfl 44 (.tmp 8) rfl (w.heap.size + 2) 0 rfl (staL x v) (staL x v) HX1.out wholeB _ Try.underlying44 rfl 92 (by kernel_rfl) (sta_len' HOK.out) ?_))
    refine (few18_any x v _ HOK.out HV1.out).mono ?_
    rintro e w3 ⟨rfl, hb⟩
    have B3 := Lib.hid (B1.out.trans (hb.mono B1.out.size))
    have HC3 := Lib.hid (HC1.out.below hb HC1.out.lt)
    have HS3 := Lib.hid (HS1.out.below hb HS1.out.lt)
    have HX3 := Lib.hid (HX1.out.below hb HX1.out.lt)
    have HV3 := Lib.hid (HV1.out.kept hb)
    have HL3 := Lib.hid ((HL1.out.below hb).more hb.size)
    have HP3 := Lib.hid ((HP1.out.below hb).more hb.size)
    have c0 : w3.cell? ⟨w.heap.size + 1, 0, none⟩ = some (.slice A lats.length ca) := HS3.out.cell rfl
    have c1 : w3.cell? ⟨w.heap.size + 1, 1, none⟩ = some (.slice B picks.length cb) := HS3.out.cell rfl
    clear hb HC1 HS1 HX1 HV1 HL1 HP1 B1
    rw [HD.out]
    try dsimp only
    go_wp2_with fail
    go_ret
    exact ⟨rfl, B3.out⟩
  have HLIM := Lib.hid (HF.out.lim HOK.out hfew)
  clear hfew
  go_enter Try.func3, Try.ntmps3
  go_wp2_with (first | (rw [← hW]; clear hW))
  refine (alive18_any _).mono ?_
  rintro e w1 ⟨rfl, hb⟩
  have B1 := Lib.hid (HBW.out.trans (hb.mono HBW.out.size))
  have HC1 := Lib.hid (HCW.out.below hb HCW.out.lt)
  have HS1 := Lib.hid (HSW.out.below hb HSW.out.lt)
  have HX1 := Lib.hid (HXW.out.below hb HXW.out.lt)
  have HV1 := Lib.hid (HVW.out.kept hb)
  have HL1 := Lib.hid ((HLW.out.below hb).more hb.size)
  have HP1 := Lib.hid ((HPW.out.below hb).more hb.size)
  clear hb
  try dsimp only
  go_wp2_with (first
    | (refine wpList_load_box rfl 44 (.tmp 8) rfl (w.heap.size + 2) 0 rfl (staL x v) (staL x v) HX1.out wholeB _ Try.underlying44 rfl 92 (by kernel_rfl) (sta_len' HOK.out) ?_))
  refine (few18_any x v _ HOK.out HV1.out).mono ?_
  rintro e w3 ⟨rfl, hb⟩
  have B3 := Lib.hid (B1.out.trans (hb.mono B1.out.size))
  have HC3 := Lib.hid (HC1.out.below hb HC1.out.lt)
  have HS3 := Lib.hid (HS1.out.below hb HS1.out.lt)
  have HX3 := Lib.hid (HX1.out.below hb HX1.out.lt)
  have HV3 := Lib.hid (HV1.out.kept hb)
  have HL3 := Lib.hid ((HL1.out.below hb).more hb.size)
  have HP3 := Lib.hid ((HP1.out.below hb).more hb.size)
  have c0 : w3.cell? ⟨w.heap.size + 1, 0, none⟩ = some (.slice A lats.length ca) := HS3.out.cell rfl
  have c1 : w3.cell? ⟨w.heap.size + 1, 1, none⟩ = some (.slice B picks.length cb) := HS3.out.cell rfl
  clear hb HC1 HS1 HX1 HV1 HL1 HP1 B1
  rw [HD.out]
  try dsimp only
  go_wp2_with fail
  refine wp_region_lin [(0, true), (1, true), (3, true), (4, true), (2, false), (5, false), (6, true), (7, true), (8, true), (9, true), (10, true), (12, true), (13, true), (14, true), (11, false), (15, false), (16, true), (17, true), (18, true), (19, true), (20, true), (21, true), (23, true), (24, true), (25, true), (22, false), (26, false), (27, true), (28, true), (29, true), (30, true), (31, true), (32, true), (35, true), (36, true), (37, true), (33, false), (34, false), (38, false), (39, false), (40, true), (41, true)]
    (by kernel_rfl) (by kernel_rfl) rfl (by kernel_rfl) (Kept w3) ?_
  have k0 : Kept w3 w3.drew := (Kept.refl w3).drew
  simp only [List.map_cons, List.map_nil, List.getElem?_toArray, List.getElem?_cons_succ, List.getElem?_cons_zero]
  iterate 4 (refine lin_take (v := ?_) k0 (by rfl) ?_ ?_; rotate_left; (intro x hx; (try dsimp only at hx); go_simp; try (with_reducible rfl)); (try simp only [Act.put, List.setIfInBounds_toArray, List.set_cons_zero, List.set_cons_succ]))
  refine lin_call k0 (by rfl) (fun K hK => ?_)
  go_simp
  refine (bank_any addr n _ HA.out HN.out).mono ?_
  rintro e _ ⟨rfl, rfl⟩
  go_wp2_with fail
  refine hK.out _ _ k0 (fun _ => ?_)
  clear hK K
  (try simp only [Act.put, List.setIfInBounds_toArray, List.set_cons_zero, List.set_cons_succ])
  refine lin_call k0 (by rfl) (fun K hK => ?_)
  go_simp
  refine (refBank_any addr n _ HA.out HN.out).mono ?_
  rintro e _ ⟨rfl, rfl⟩
  go_wp2_with fail
  refine hK.out _ _ k0 (fun _ => ?_)
  clear hK K
  (try simp only [Act.put, List.setIfInBounds_toArray, List.set_cons_zero, List.set_cons_succ])
  iterate 2 (refine lin_take (v := ?_) k0 (by rfl) ?_ ?_; rotate_left; (intro x hx; (try dsimp only at hx); go_simp; try (with_reducible rfl)); (try simp only [Act.put, List.setIfInBounds_toArray, List.set_cons_zero, List.set_cons_succ]))
  refine lin_takeB k0 (by rfl) 26 (.tmp 7) rfl (w.heap.size + 1) 0 rfl [.slice A lats.length ca, .slice B picks.length cb] [.slice A lats.length ca, .slice B picks.length cb] (fun y hy => HS3.out.keptB hy) wholeB _ Try.underlying26 rfl 2 (by kernel_rfl) rfl ?_
  (try simp only [Act.put, List.setIfInBounds_toArray, List.set_cons_zero, List.set_cons_succ])
  iterate 2 (refine lin_take (v := ?_) k0 (by rfl) ?_ ?_; rotate_left; (intro x hx; (try dsimp only at hx); go_simp; try (with_reducible rfl)); (try simp only [Act.put, List.setIfInBounds_toArray, List.set_cons_zero, List.set_cons_succ]))
  refine lin_takeB k0 (by rfl) 26 (.tmp 7) rfl (w.heap.size + 1) 0 rfl [.slice A lats.length ca, .slice B picks.length cb] [.slice A lats.length ca, .slice B picks.length cb] (fun y hy => HS3.out.keptB hy) wholeB _ Try.underlying26 rfl 2 (by kernel_rfl) rfl ?_
  (try simp only [Act.put, List.setIfInBounds_toArray, List.set_cons_zero, List.set_cons_succ])
  iterate 2 (refine lin_take (v := ?_) k0 (by rfl) ?_ ?_; rotate_left; (intro x hx; (try dsimp only at hx); go_simp; try (with_reducible rfl)); (try simp only [Act.put, List.setIfInBounds_toArray, List.set_cons_zero, List.set_cons_succ]))
  refine lin_call k0 (by rfl) (fun K hK => ?_)
  go_simp
  refine (lat_any A B ca cb lats.length picks.length lats picks i n _ rfl (k0.row HL3.out) HI.out HN.out).mono ?_
  rintro e z1 ⟨rfl, hb⟩
  go_wp2_with fail
  have k1 := k0.to hb
  refine hK.out _ _ k1 (fun _ => ?_)
  clear hK K hb k0
  (try simp only [Act.put, List.setIfInBounds_toArray, List.set_cons_zero, List.set_cons_succ])
  refine lin_call k1 (by rfl) (fun K hK => ?_)
  go_simp
  refine (refLat_any A B ca cb lats.length picks.length lats picks i n _ rfl (k1.row HL3.out) HI.out HN.out.2).mono ?_
  rintro e z2 ⟨rfl, hb⟩
  go_wp2_with fail
  have k2 := k1.to hb
  refine hK.out _ _ k2 (fun _ => ?_)
  clear hK K hb k1
  (try simp only [Act.put, List.setIfInBounds_toArray, List.set_cons_zero, List.set_cons_succ])
  iterate 3 (refine lin_take (v := ?_) k2 (by rfl) ?_ ?_; rotate_left; (intro x hx; (try dsimp only at hx); go_simp; try (with_reducible rfl)); (try simp only [Act.put, List.setIfInBounds_toArray, List.set_cons_zero, List.set_cons_succ]))
  refine lin_takeB k2 (by rfl) 26 (.tmp 7) rfl (w.heap.size + 1) 0 rfl [.slice A lats.length ca, .slice B picks.length cb] [.slice A lats.length ca, .slice B picks.length cb] (fun y hy => HS3.out.keptB hy) wholeB _ Try.underlying26 rfl 2 (by kernel_rfl) rfl ?_
  (try simp only [Act.put, List.setIfInBounds_toArray, List.set_cons_zero, List.set_cons_succ])
  iterate 2 (refine lin_take (v := ?_) k2 (by rfl) ?_ ?_; rotate_left; (intro x hx; (try dsimp only at hx); go_simp; try (with_reducible rfl)); (try simp only [Act.put, List.setIfInBounds_toArray, List.set_cons_zero, List.set_cons_succ]))
  refine lin_takeB k2 (by rfl) 26 (.tmp 7) rfl (w.heap.size + 1) 0 rfl [.slice A lats.length ca, .slice B picks.length cb] [.slice A lats.length ca, .slice B picks.length cb] (fun y hy => HS3.out.keptB hy) wholeB _ Try.underlying26 rfl 2 (by kernel_rfl) rfl ?_
  (try simp only [Act.put, List.setIfInBounds_toArray, List.set_cons_zero, List.set_cons_succ])
  iterate 2 (refine lin_take (v := ?_) k2 (by rfl) ?_ ?_; rotate_left; (intro x hx; (try dsimp only at hx); go_simp; try (with_reducible rfl)); (try simp only [Act.put, List.setIfInBounds_toArray, List.set_cons_zero, List.set_cons_succ]))
  refine lin_call k2 (by rfl) (fun K hK => ?_)
  go_simp
  refine (pick_any A B ca cb lats.length picks.length lats picks i n _ rfl (k2.row HP3.out) HI.out HN.out).mono ?_
  rintro e z3 ⟨rfl, hb⟩
  go_wp2_with fail
  have k3 := k2.to hb
  refine hK.out _ _ k3 (fun _ => ?_)
  clear hK K hb k2
  (try simp only [Act.put, List.setIfInBounds_toArray, List.set_cons_zero, List.set_cons_succ])
  refine lin_call k3 (by rfl) (fun K hK => ?_)
  go_simp
  refine (refPick_any A B ca cb lats.length picks.length lats picks i n _ rfl (k3.row HP3.out) HI.out HN.out.2).mono ?_
  rintro e z4 ⟨rfl, hb⟩
  go_wp2_with fail
  have k4 := k3.to hb
  refine hK.out _ _ k4 (fun _ => ?_)
  clear hK K hb k3
  (try simp only [Act.put, List.setIfInBounds_toArray, List.set_cons_zero, List.set_cons_succ])
  iterate 3 (refine lin_take (v := ?_) k4 (by rfl) ?_ ?_; rotate_left; (intro x hx; (try dsimp only at hx); go_simp; try (with_reducible rfl)); (try simp only [Act.put, List.setIfInBounds_toArray, List.set_cons_zero, List.set_cons_succ]))
  refine lin_takeB k4 (by rfl) 23 (.tmp 6) rfl w.heap.size 0 rfl (cfgCells c) (cfgCells c) (fun y hy => HC3.out.keptB hy) wholeB _ Try.underlying23 rfl 12 (by kernel_rfl) rfl ?_
  (try simp only [Act.put, List.setIfInBounds_toArray, List.set_cons_zero, List.set_cons_succ])
  refine lin_takeB k4 (by rfl) 26 (.tmp 7) rfl (w.heap.size + 1) 0 rfl [.slice A lats.length ca, .slice B picks.length cb] [.slice A lats.length ca, .slice B picks.length cb] (fun y hy => HS3.out.keptB hy) wholeB _ Try.underlying26 rfl 2 (by kernel_rfl) rfl ?_
  (try simp only [Act.put, List.setIfInBounds_toArray, List.set_cons_zero, List.set_cons_succ])
  refine lin_takeB k4 (by rfl) 44 (.tmp 8) rfl (w.heap.size + 2) 0 rfl (staL x v) (staL x v) (fun y hy => HX3.out.keptB hy) wholeB _ Try.underlying44 rfl 92 (by kernel_rfl) (sta_len' HOK.out) ?_
  (try simp only [Act.put, List.setIfInBounds_toArray, List.set_cons_zero, List.set_cons_succ])
  refine lin_takeB k4 (by rfl) 23 (.tmp 6) rfl w.heap.size 0 rfl (cfgCells c) (cfgCells c) (fun y hy => HC3.out.keptB hy) wholeB _ Try.underlying23 rfl 12 (by kernel_rfl) rfl ?_
  (try simp only [Act.put, List.setIfInBounds_toArray, List.set_cons_zero, List.set_cons_succ])
  refine lin_takeB k4 (by rfl) 26 (.tmp 7) rfl (w.heap.size + 1) 0 rfl [.slice A lats.length ca, .slice B picks.length cb] [.slice A lats.length ca, .slice B picks.length cb] (fun y hy => HS3.out.keptB hy) wholeB _ Try.underlying26 rfl 2 (by kernel_rfl) rfl ?_
  (try simp only [Act.put, List.setIfInBounds_toArray, List.set_cons_zero, List.set_cons_succ])
  refine lin_takeB k4 (by rfl) 44 (.tmp 8) rfl (w.heap.size + 2) 0 rfl (staL x v) (staL x v) (fun y hy => HX3.out.keptB hy) wholeB _ Try.underlying44 rfl 92 (by kernel_rfl) (sta_len' HOK.out) ?_
  (try simp only [Act.put, List.setIfInBounds_toArray, List.set_cons_zero, List.set_cons_succ])
  refine lin_call k4 (by rfl) (fun K hK => ?_)
  go_simp
  refine (refCopy_any x v _ HOK.out (HV3.out.kept k4) (HLIM.out.few (by omega))).mono ?_
  rintro e z5 ⟨v5, rfl, ho5, hb⟩
  go_wp2_with fail
  have k5 := k4.to hb
  refine hK.out _ _ k5 (fun _ => ?_)
  clear hK K hb k4
  (try simp only [Act.put, List.setIfInBounds_toArray, List.set_cons_zero, List.set_cons_succ])
  have HV5 := Lib.hid ho5.row
  clear ho5
  refine lin_call k5 (by rfl) (fun K hK => ?_)
  go_simp
  refine (advance_any c HCF.out A B ca cb lats picks x v5 _ (k5.row HL3.out) (k5.row HP3.out) HLIM.out HV5.out HF.out.table ⟨HF.out.lats, HF.out.picks⟩).mono ?_
  rintro e z6 ⟨v6, rfl, ho6, hb⟩
  go_wp2_with fail
  have k6 := k5.to hb
  refine hK.out _ _ k6 (fun _ => ?_)
  clear hK K hb k5
  (try simp only [Act.put, List.setIfInBounds_toArray, List.set_cons_zero, List.set_cons_succ])
  have HV6 := Lib.hid ho6.row
  clear ho6
  refine lin_call k6 (by rfl) (fun K hK => ?_)
  go_simp
  refine (refAdvance_any c A B ca cb lats picks x v _ (k6.row HL3.out) (k6.row HP3.out) HLIM.out (HV3.out.kept k6) HF.out.table ⟨HF.out.lats, HF.out.picks⟩).mono ?_
  rintro e z7 ⟨v7, rfl, ho7, hb⟩
  go_wp2_with fail
  have k7 := k6.to hb
  have HV6b := Lib.hid (HV6.out.kept hb)
  refine hK.out _ _ k7 (fun _ => ?_)
  clear hK K hb k6
  (try simp only [Act.put, List.setIfInBounds_toArray, List.set_cons_zero, List.set_cons_succ])
  have HV7 := Lib.hid ho7.row
  clear ho7
  have HL7 := Lib.hid (advance_lim (c := c) (lats := lats) (picks := picks) HLIM.out).1
  refine lin_call k7 (by rfl) (fun K hK => ?_)
  go_simp
  refine (refSameState_yes (advanceZ c lats picks x) v6 v7 _ HL7.out.ok HV6b.out HV7.out HL7.out.bytes).mono ?_
  rintro e z8 ⟨rfl, hb⟩
  go_wp2_with fail
  have k8 := k7.to hb
  refine hK.out _ _ k8 (fun _ => ?_)
  clear hK K hb k7
  (try simp only [Act.put, List.setIfInBounds_toArray, List.set_cons_zero, List.set_cons_succ])
  iterate 2 (refine lin_take (v := ?_) k8 (by rfl) ?_ ?_; rotate_left; (intro x hx; (try dsimp only at hx); go_simp; try (with_reducible rfl)); (try simp only [Act.put, List.setIfInBounds_toArray, List.set_cons_zero, List.set_cons_succ]))
  refine lin_done ?_
  have HE := Lib.hid (B3.out.trans ((show Below w3.heap.size w3 z8 from k8).mono B3.out.size))
  clear k8
  go_wp2_with fail
  go_ret
  exact ⟨rfl, HE.out⟩
end Go.Proofs.Ythhoigkmmlkfcaa.Words

/- The law SaqTells walked. -/
import Derived.Test.YtjkijjbakocilaaSaqSame
import Derived.Test.YtjkijjbakocilaaOpenEnt
import Derived.Test.YtjkijjbakocilaaLinBox
import Derived.Test.YtjkijjbakocilaaRegEx
namespace Go.Proofs.Ytjkijjbakocilaa.Words
set_option maxRecDepth 100000
open Go.RowKit
set_option linter.unusedVariables false
set_option linter.unusedSimpArgs false

theorem Row.stepE {w w' : World} {B s n : Nat} {v : Value} {xs : List Value} (h : Row w B s v n xs) (hB : B ≤ w.heap.size) (hb : Below w.heap.size w w') : Row w' w'.heap.size s v n xs := (h.below (hb.mono hB)).more (Nat.le_trans hB hb.size)
set_option maxHeartbeats 4000000 in
theorem saqTells_walk (A : Option Addr) (c : Nat) (l : List Ent) (n : Int) (x : Ent) (addr size op u : Int) (w : World) (hr : Row w w.heap.size 5 (.slice A l.length c) l.length (flat entL l)) (hf : ∀ v ∈ l, v.Fits) (hn : -9223372036854775808 ≤ n ∧ n ≤ 9223372036854775807) (hx : x.Fits) (ha : -9223372036854775808 ≤ addr ∧ addr ≤ 9223372036854775807) (hs : -9223372036854775808 ≤ size ∧ size ≤ 9223372036854775807) (ho : -9223372036854775808 ≤ op ∧ op ≤ 9223372036854775807) (hu : 0 ≤ u ∧ u ≤ 4294967295) :
    Calls Try.prog 3 #[.slice A l.length c, .int .i64 n, .agg #[.int .i64 x.addr, .int .i64 x.size, .int .i64 x.step, .bool x.known, .int .u32 x.val], .int .i64 addr, .int .i64 size, .int .i64 op, .int .u32 u] w fun e w' => e = .returned (.bool true) ∧ Below w.heap.size w w' := by
  obtain ⟨i0, hi, hq0, hq1, hq2⟩ := parts_ent
  have HI := Lib.hid hi
  have HZ0 := Lib.hid hq0
  have HZ1 := Lib.hid hq1
  have HZ2 := Lib.hid hq2
  have HR := Lib.hid hr
  have HF := Lib.hid hf
  have HFX := Lib.hid hx
  have HA := Lib.hid ha
  have HS := Lib.hid hs
  have HU := Lib.hid hu
  clear hi hq0 hq1 hq2 hf hn hx ha hs ho hu hr
  obtain ⟨W, hW⟩ : ∃ W, W = w.alloc (.cells #[.int .i64 x.addr, .int .i64 x.size, .int .i64 x.step, .bool x.known, .int .u32 x.val] 25) := ⟨_, rfl⟩
  have HXW : Hid (Box W w.heap.size (entL x)) := by rw [hW]; exact Box.new w (entL x) _
  have HBW : Hid (Below w.heap.size w W) := by rw [hW]; exact (Below.refl _ _).alloc (Nat.le_refl _) _
  by_cases hbig : (100 : Int) < l.length
  · go_enter Try.func3, Try.ntmps3
    go_wp2_with (first | (rw [← hW]; clear hW))
    refine (alive17_any _).mono ?_
    rintro e w1 ⟨rfl, hb⟩
    have B1 := Lib.hid (HBW.out.trans (hb.mono HBW.out.size))
    clear hb
    go_wp2_with fail
    go_ret
    exact ⟨rfl, B1.out⟩
  have hsm : l.length ≤ 100 := by omega
  have HSM := Lib.hid hsm
  have hbig' : ¬ (l.length : Int) > 100 := by omega
  clear hsm
  go_enter Try.func3, Try.ntmps3
  go_wp2_with (first | (rw [← hW]; clear hW))
  refine (alive17_any _).mono ?_
  rintro e w1 ⟨rfl, hb⟩
  have HX1 := Lib.hid (HXW.out.below hb HXW.out.lt)
  have B1 := Lib.hid (HBW.out.trans (hb.mono HBW.out.size))
  have R1 := Lib.hid (HR.out.stepE (Nat.le_refl _) B1.out)
  clear hb
  go_wp2_with fail
  refine wp_region_lin [(0, true), (2, true), (3, true), (1, false), (4, false), (5, true), (6, true), (7, true), (8, true), (9, true)]
    (by kernel_rfl) (by kernel_rfl) rfl (by kernel_rfl) (Kept w1) ?_
  have k0 : Kept w1 w1.drew := (Kept.refl w1).drew
  simp only [List.map_cons, List.map_nil, List.getElem?_toArray, List.getElem?_cons_succ, List.getElem?_cons_zero]
  iterate 2 (refine lin_take (v := ?_) k0 (by rfl) ?_ ?_; rotate_left; (intro x hx; (try dsimp only at hx); go_simp; try (with_reducible rfl)); (try simp only [Act.put, List.setIfInBounds_toArray, List.set_cons_zero, List.set_cons_succ]))
  refine lin_takeB k0 (by rfl) 25 (.tmp 9) rfl w.heap.size 0 rfl (entL x) [.int .i64 x.addr, .int .i64 x.size, .int .i64 x.step, .bool x.known, .int .u32 x.val] (fun y hy => HX1.out.keptB hy) wholeB _ Try.underlying25 rfl 5 (by kernel_rfl) rfl ?_
  (try simp only [Act.put, List.setIfInBounds_toArray, List.set_cons_zero, List.set_cons_succ])
  refine lin_call k0 (by rfl) (fun K hK => ?_)
  refine wp_append_new _ (.const (.slice none 0 0)) (.tmp 38) 22 rfl w1.drew.heap.size 25 i0 _ 5 32 Try.underlying22 HI.out HZ0.out HZ1.out HZ2.out rfl (by omega) (.slice none 0 0) 0 [] rfl (World.ownsRow_nil _ _ _ _) _ (.slice A l.length c) l.length (flat entL l) rfl (R1.out.below (show Below w1.heap.size w1 w1.drew from k0)) (flat_oneC entL_one l) (by have := HSM.out; unfold maxLen; omega) (by have := HSM.out; omega) (Nat.le_refl _) ?_
  intro v1 w2 hO hg hn2
  have k1 : Kept w1 w2 := k0.to (Below.grown (Below.refl _ _) hg (Nat.le_refl _) (fun q hq => by cases hq))
  refine hK.out _ _ k1 (fun _ => ?_)
  clear hK K hg hn2 k0
  (try simp only [Act.put, List.setIfInBounds_toArray, List.set_cons_zero, List.set_cons_succ])
  rw [Nat.zero_add, List.nil_append] at hO
  obtain ⟨D1, e1, hv1⟩ := (Row.of_own hO).form
  subst hv1
  refine lin_call k1 (by rfl) (fun K hK => ?_)
  go_simp
  refine (push_any17 D1 e1 l n x _ (Row.of_own hO) (by have := HSM.out; omega)).mono ?_
  rintro e w3 hout
  obtain ⟨A3, c3, rfl, hr3, _, hb3⟩ := hout.row
  go_wp2_with fail
  have k2 : Kept w1 w3 := k1.to hb3
  refine hK.out _ _ k2 (fun _ => ?_)
  clear hK K hout hb3 hO k1
  have Ra3 := Lib.hid hr3
  clear hr3
  (try simp only [Act.put, List.setIfInBounds_toArray, List.set_cons_zero, List.set_cons_succ])
  iterate 5 (refine lin_take (v := ?_) k2 (by rfl) ?_ ?_; rotate_left; (intro x hx; (try dsimp only at hx); go_simp; try (with_reducible rfl)); (try simp only [Act.put, List.setIfInBounds_toArray, List.set_cons_zero, List.set_cons_succ]))
  refine lin_done ?_
  have HX3 := Lib.hid (HX1.out.keptB k2)
  have B3 := Lib.hid (B1.out.trans ((show Below w1.heap.size w1 w3 from k2).mono B1.out.size))
  have R3 := Lib.hid (R1.out.stepE (Nat.le_refl _) k2)
  clear k2 HX1 R1
  go_wp2_with (first
    | (refine wpList_load_box rfl 25 (.tmp 9) rfl w.heap.size 0 rfl (entL x) [.int .i64 x.addr, .int .i64 x.size, .int .i64 x.step, .bool x.known, .int .u32 x.val] HX3.out wholeB _ Try.underlying25 rfl 5 (by kernel_rfl) rfl ?_))
  refine (refPushEntry_any A c l n x _ R3.out (by have := HSM.out; omega)).mono ?_
  rintro e w4 hout
  obtain ⟨A4, c4, rfl, hr4, _, hb4⟩ := hout.row
  have HX4 := Lib.hid (HX3.out.below hb4 HX3.out.lt)
  have B4 := Lib.hid (B3.out.trans (hb4.mono B3.out.size))
  have R4 := Lib.hid (R3.out.stepE (Nat.le_refl _) hb4)
  have Ra4 := Lib.hid (Ra3.out.stepE (Nat.le_refl _) hb4)
  have Rb4 := Lib.hid hr4
  clear hout hr4 hb4 HX3 R3 Ra3
  try dsimp only
  go_wp2_with fail
  refine (search_any17 A c l addr size _ R4.out HF.out (by have := HSM.out; omega) HA.out HS.out).mono ?_
  rintro e w5 ⟨rfl, hb5⟩
  rw [found_eq]
  obtain ⟨F, hF⟩ : ∃ F, F = searchL addr size l := ⟨_, rfl⟩
  obtain ⟨th, hth⟩ : ∃ th, th = thereE addr size l := ⟨_, rfl⟩
  rw [← hF, ← hth]
  have HFE := Lib.hid hF
  have HTH := Lib.hid hth
  clear hF hth
  have HX5 := Lib.hid (HX4.out.below hb5 HX4.out.lt)
  have B5 := Lib.hid (B4.out.trans (hb5.mono B4.out.size))
  have R5 := Lib.hid (R4.out.stepE (Nat.le_refl _) hb5)
  have Ra5 := Lib.hid (Ra4.out.stepE (Nat.le_refl _) hb5)
  have Rb5 := Lib.hid (Rb4.out.stepE (Nat.le_refl _) hb5)
  clear hb5 HX4 R4 Ra4 Rb4
  try dsimp only
  go_wp2_with (first
    | (refine wpList_store_box rfl 25 (.tmp 20) (.tmp 57) rfl w5.heap.size 0 [.int .i64 F.addr, .int .i64 F.size, .int .i64 F.step, .bool F.known, .int .u32 F.val] rfl rfl _ (Box.new w5 (entL noE) 25) (Nat.le_refl 5) 5 (by kernel_rfl) rfl (ent_one F) ?_; intro w6 hX2 hg2; have hb6 := box_storedE hg2; have HX6 := Lib.hid (HX5.out.below hb6 HX5.out.lt); have B6 := Lib.hid (B5.out.trans (hb6.mono B5.out.size)); have R6 := Lib.hid (R5.out.stepE (Nat.le_refl _) hb6); have Ra6 := Lib.hid (Ra5.out.stepE (Nat.le_refl _) hb6); have Rb6 := Lib.hid (Rb5.out.stepE (Nat.le_refl _) hb6); have HP6 : Hid (Box w6 w5.heap.size (entL F)) := Lib.hid hX2; clear hX2 hg2 hb6 HX5 R5 Ra5 Rb5))
  refine (refSearch_any A c l addr size _ R6.out HF.out (by have := HSM.out; omega) HA.out HS.out).mono ?_
  rintro e w7 ⟨rfl, hb7⟩
  rw [found_eq, ← HFE.out, ← HTH.out]
  have HX7 := Lib.hid (HX6.out.below hb7 HX6.out.lt)
  have B7 := Lib.hid (B6.out.trans (hb7.mono B6.out.size))
  have Ra7 := Lib.hid (Ra6.out.stepE (Nat.le_refl _) hb7)
  have Rb7 := Lib.hid (Rb6.out.stepE (Nat.le_refl _) hb7)
  have HP7 := Lib.hid (HP6.out.below hb7 HP6.out.lt)
  clear hb7 HX6 R6 Ra6 Rb6 HP6
  try dsimp only
  go_wp2_with (first
    | (refine wpList_store_box rfl 25 (.tmp 22) (.tmp 64) rfl w7.heap.size 0 [.int .i64 F.addr, .int .i64 F.size, .int .i64 F.step, .bool F.known, .int .u32 F.val] rfl rfl _ (Box.new w7 (entL noE) 25) (Nat.le_refl 5) 5 (by kernel_rfl) rfl (ent_one F) ?_; intro w8 hX2 hg2; have hb8 := box_storedE hg2; have HX8 := Lib.hid (HX7.out.below hb8 HX7.out.lt); have B8 := Lib.hid (B7.out.trans (hb8.mono B7.out.size)); have Ra8 := Lib.hid (Ra7.out.stepE (Nat.le_refl _) hb8); have Rb8 := Lib.hid (Rb7.out.stepE (Nat.le_refl _) hb8); have HP8 := Lib.hid (HP7.out.below hb8 HP7.out.lt); have HS8 : Hid (Box w8 w7.heap.size (entL F)) := Lib.hid hX2; clear hX2 hg2 hb8 HX7 Ra7 Rb7 HP7)
    | (refine wpList_load_box rfl 25 (.tmp 9) rfl w.heap.size 0 rfl (entL x) [.int .i64 x.addr, .int .i64 x.size, .int .i64 x.step, .bool x.known, .int .u32 x.val] HX8.out wholeB _ Try.underlying25 rfl 5 (by kernel_rfl) rfl ?_))
  refine (bypass_any17 x op addr _ HFX.out).mono ?_
  rintro e w9 ⟨rfl, hb9⟩
  have HX9 := Lib.hid (HX8.out.below hb9 HX8.out.lt)
  have B9 := Lib.hid (B8.out.trans (hb9.mono B8.out.size))
  have Ra9 := Lib.hid (Ra8.out.stepE (Nat.le_refl _) hb9)
  have Rb9 := Lib.hid (Rb8.out.stepE (Nat.le_refl _) hb9)
  have HP9 := Lib.hid (HP8.out.below hb9 HP8.out.lt)
  have HS9 := Lib.hid (HS8.out.below hb9 HS8.out.lt)
  clear hb9 HX8 Ra8 Rb8 HP8 HS8
  try dsimp only
  go_wp2_with (first
    | (refine wpList_load_box rfl 25 (.tmp 9) rfl w.heap.size 0 rfl (entL x) [.int .i64 x.addr, .int .i64 x.size, .int .i64 x.step, .bool x.known, .int .u32 x.val] HX9.out wholeB _ Try.underlying25 rfl 5 (by kernel_rfl) rfl ?_))
  refine (refBypass_any x op addr _ HFX.out).mono ?_
  rintro e w10 ⟨rfl, hb10⟩
  have B10 := Lib.hid (B9.out.trans (hb10.mono B9.out.size))
  have Ra10 := Lib.hid (Ra9.out.stepE (Nat.le_refl _) hb10)
  have Rb10 := Lib.hid (Rb9.out.stepE (Nat.le_refl _) hb10)
  have HP10 := Lib.hid (HP9.out.below hb10 HP9.out.lt)
  have HS10 := Lib.hid (HS9.out.below hb10 HS9.out.lt)
  clear hb10 HX9 Ra9 Rb9 HP9 HS9
  try dsimp only
  go_wp2_with fail
  refine (same_yes17 _ _ _ _ _ rfl Ra10.out Rb10.out).mono ?_
  rintro e w11 ⟨rfl, hb11⟩
  have B11 := Lib.hid (B10.out.trans (hb11.mono B10.out.size))
  have HP11 := Lib.hid (HP10.out.below hb11 HP10.out.lt)
  have HS11 := Lib.hid (HS10.out.below hb11 HS10.out.lt)
  clear hb11 Ra10 Rb10 HP10 HS10
  try dsimp only
  go_wp2_with (first
    | (refine wpList_load_box rfl 25 (.tmp 20) rfl w5.heap.size 0 rfl (entL F) [.int .i64 F.addr, .int .i64 F.size, .int .i64 F.step, .bool F.known, .int .u32 F.val] HP11.out wholeB _ Try.underlying25 rfl 5 (by kernel_rfl) rfl ?_)
    | (refine wpList_load_box rfl 25 (.tmp 22) rfl w7.heap.size 0 rfl (entL F) [.int .i64 F.addr, .int .i64 F.size, .int .i64 F.step, .bool F.known, .int .u32 F.val] HS11.out wholeB _ Try.underlying25 rfl 5 (by kernel_rfl) rfl ?_))
  refine (mask_any17 u size _ HU.out.1 (by have := HU.out.2; omega)).mono ?_
  rintro e _ ⟨rfl, rfl⟩
  try dsimp only
  go_wp2_with fail
  refine (refMask_any u size _ HU.out.1 (by have := HU.out.2; omega)).mono ?_
  rintro e _ ⟨rfl, rfl⟩
  try dsimp only
  go_wp2_with fail
  go_ret
  exact ⟨rfl, B11.out⟩
end Go.Proofs.Ytjkijjbakocilaa.Words

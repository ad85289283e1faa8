/- The law SlotsTell walked. -/
import Derived.Test.YtpoigbgdaiopmaaSltSame
import Derived.Test.YtpoigbgdaiopmaaOpenSlt
namespace Go.Proofs.Ytpoigbgdaiopmaa.Words
set_option maxRecDepth 100000
open Go.RowKit
set_option linter.unusedVariables false
set_option linter.unusedSimpArgs false

theorem Row.step {w w' : World} {B s n : Nat} {v : Value} {xs : List Value} (h : Row w B s v n xs) (hB : B ≤ w.heap.size) (hb : Below w.heap.size w w') : Row w' w'.heap.size s v n xs := (h.below (hb.mono hB)).more (Nat.le_trans hB hb.size)
set_option maxHeartbeats 4000000 in
theorem slotsTell_walk (A : Option Addr) (c : Nat) (l : List Slt) (n tag u : Int) (w : World) (hr : Row w w.heap.size 3 (.slice A l.length c) l.length (flat sltL l)) (hf : ∀ v ∈ l, v.Fits) (hn : -9223372036854775808 ≤ n ∧ n ≤ 9223372036854775807) (ht : -9223372036854775808 ≤ tag ∧ tag ≤ 9223372036854775807) (hu : 0 ≤ u ∧ u ≤ 4294967295) :
    Calls Try.prog 3 #[.slice A l.length c, .int .i64 n, .int .i64 tag, .int .u32 u] w fun e w' => e = .returned (.bool true) ∧ Below w.heap.size w w' := by
  obtain ⟨i0, hi, hq0, hq1, hq2⟩ := parts_slt
  have HI := Lib.hid hi
  have HZ0 := Lib.hid hq0
  have HZ1 := Lib.hid hq1
  have HZ2 := Lib.hid hq2
  have HR := Lib.hid hr
  clear hi hq0 hq1 hq2 hf hn ht hu hr
  by_cases hbig : (100 : Int) < l.length
  · go_enter Try.func3, Try.ntmps3
    go_wp2_with fail
    refine (alive16_any _).mono ?_
    rintro e w1 ⟨rfl, hb⟩
    have B1 := Lib.hid hb
    clear hb
    go_wp2_with fail
    go_ret
    exact ⟨rfl, B1.out⟩
  have hsm : l.length ≤ 100 := by omega
  have HSM := Lib.hid hsm
  have hbig' : ¬ (l.length : Int) > 100 := by omega
  clear hsm
  go_enter Try.func3, Try.ntmps3
  go_wp2_with fail
  refine (alive16_any _).mono ?_
  rintro e w1 ⟨rfl, hb⟩
  have B1 := Lib.hid hb
  have R1 := Lib.hid (HR.out.step (Nat.le_refl _) hb)
  clear hb
  go_wp2_with (first
    | (refine wpList_append_new _ rfl (.const (.slice none 0 0)) (.tmp 34) 22 rfl w1.heap.size 37 i0 _ 3 16 Try.underlying22 HI.out HZ0.out HZ1.out HZ2.out rfl (by omega) (.slice none 0 0) 0 [] rfl (World.ownsRow_nil _ _ _ _) _ (.slice A l.length c) l.length (flat sltL l) rfl R1.out (flat_oneC sltL_one l) (by have := HSM.out; unfold maxLen; omega) (by have := HSM.out; omega) (Nat.le_refl _) ?_; intro v1 w2 hO hg hn2; have HO := Lib.hid hO; have HK : Hid (Below w1.heap.size w1 w2) := Below.grown (Below.refl _ _) hg (Nat.le_refl _) (fun q hq => by cases hq); clear hO hg hn2; have HF := Lib.hid (Row.of_own HO.out).form; obtain ⟨D1, e1, hv1⟩ := HF.out; subst hv1; clear HF; go_wp2_with fail))
  have HR0 := Lib.hid (Row.of_own HO.out)
  rw [Nat.zero_add, List.nil_append] at HR0
  clear HO
  have R2 := Lib.hid (R1.out.step (Nat.le_refl _) HK.out)
  have B2 := Lib.hid (on_belowS B1.out HK.out)
  clear HK B1 R1
  refine (reserve_any D1 e1 l n tag _ HR0.out (by have := HSM.out; omega)).mono ?_
  rintro e w3 ho
  obtain ⟨ARa, cRa, rfl, hr2, _, hb2⟩ := ho.row
  have Ra3 := Lib.hid hr2
  have HK := Lib.hid hb2
  clear ho hr2 hb2 HR0
  have R3 := Lib.hid (R2.out.step (Nat.le_refl _) HK.out)
  have B3 := Lib.hid (on_belowS B2.out HK.out)
  clear HK B2 R2
  go_wp2_with fail
  refine (refReserve_any A c l n tag _ R3.out (by have := HSM.out; omega)).mono ?_
  rintro e w4 ho
  obtain ⟨ARb, cRb, rfl, hr2, _, hb2⟩ := ho.row
  have Rb4 := Lib.hid hr2
  have HK := Lib.hid hb2
  clear ho hr2 hb2
  have R4 := Lib.hid (R3.out.step (Nat.le_refl _) HK.out)
  have Ra4 := Lib.hid (Ra3.out.step (Nat.le_refl _) HK.out)
  have B4 := Lib.hid (on_belowS B3.out HK.out)
  clear HK B3 R3 Ra3
  go_wp2_with (first
    | (refine wpList_append_new _ rfl (.const (.slice none 0 0)) (.tmp 49) 22 rfl w4.heap.size 37 i0 _ 3 16 Try.underlying22 HI.out HZ0.out HZ1.out HZ2.out rfl (by omega) (.slice none 0 0) 0 [] rfl (World.ownsRow_nil _ _ _ _) _ (.slice A l.length c) l.length (flat sltL l) rfl R4.out (flat_oneC sltL_one l) (by have := HSM.out; unfold maxLen; omega) (by have := HSM.out; omega) (Nat.le_refl _) ?_; intro v4 w5 hO hg hn2; have HO := Lib.hid hO; have HK : Hid (Below w4.heap.size w4 w5) := Below.grown (Below.refl _ _) hg (Nat.le_refl _) (fun q hq => by cases hq); clear hO hg hn2; have HF := Lib.hid (Row.of_own HO.out).form; obtain ⟨D4, e4, hv4⟩ := HF.out; subst hv4; clear HF; go_wp2_with fail))
  have HR0 := Lib.hid (Row.of_own HO.out)
  rw [Nat.zero_add, List.nil_append] at HR0
  clear HO
  have R5 := Lib.hid (R4.out.step (Nat.le_refl _) HK.out)
  have Ra5 := Lib.hid (Ra4.out.step (Nat.le_refl _) HK.out)
  have Rb5 := Lib.hid (Rb4.out.step (Nat.le_refl _) HK.out)
  have B5 := Lib.hid (on_belowS B4.out HK.out)
  clear HK B4 R4 Ra4 Rb4
  refine (fillS_any D4 e4 l tag u _ HR0.out (by have := HSM.out; omega)).mono ?_
  rintro e w6 ho
  obtain ⟨ARx, cRx, rfl, hr2, _, hb2⟩ := ho.row
  have Rx6 := Lib.hid hr2
  have HK := Lib.hid hb2
  clear ho hr2 hb2 HR0
  have R6 := Lib.hid (R5.out.step (Nat.le_refl _) HK.out)
  have Ra6 := Lib.hid (Ra5.out.step (Nat.le_refl _) HK.out)
  have Rb6 := Lib.hid (Rb5.out.step (Nat.le_refl _) HK.out)
  have B6 := Lib.hid (on_belowS B5.out HK.out)
  clear HK B5 R5 Ra5 Rb5
  go_wp2_with fail
  refine (refFill_any A c l tag u _ R6.out (by have := HSM.out; omega)).mono ?_
  rintro e w7 ho
  obtain ⟨ARy, cRy, rfl, hr2, _, hb2⟩ := ho.row
  have Ry7 := Lib.hid hr2
  have HK := Lib.hid hb2
  clear ho hr2 hb2
  have R7 := Lib.hid (R6.out.step (Nat.le_refl _) HK.out)
  have Ra7 := Lib.hid (Ra6.out.step (Nat.le_refl _) HK.out)
  have Rb7 := Lib.hid (Rb6.out.step (Nat.le_refl _) HK.out)
  have Rx7 := Lib.hid (Rx6.out.step (Nat.le_refl _) HK.out)
  have B7 := Lib.hid (on_belowS B6.out HK.out)
  clear HK B6 R6 Ra6 Rb6 Rx6
  go_wp2_with (first
    | (refine wpList_append_new _ rfl (.const (.slice none 0 0)) (.tmp 64) 22 rfl w7.heap.size 37 i0 _ 3 16 Try.underlying22 HI.out HZ0.out HZ1.out HZ2.out rfl (by omega) (.slice none 0 0) 0 [] rfl (World.ownsRow_nil _ _ _ _) _ (.slice A l.length c) l.length (flat sltL l) rfl R7.out (flat_oneC sltL_one l) (by have := HSM.out; unfold maxLen; omega) (by have := HSM.out; omega) (Nat.le_refl _) ?_; intro v7 w8 hO hg hn2; have HO := Lib.hid hO; have HK : Hid (Below w7.heap.size w7 w8) := Below.grown (Below.refl _ _) hg (Nat.le_refl _) (fun q hq => by cases hq); clear hO hg hn2; have HF := Lib.hid (Row.of_own HO.out).form; obtain ⟨D7, e7, hv7⟩ := HF.out; subst hv7; clear HF; go_wp2_with fail))
  have HR0 := Lib.hid (Row.of_own HO.out)
  rw [Nat.zero_add, List.nil_append] at HR0
  clear HO
  have R8 := Lib.hid (R7.out.step (Nat.le_refl _) HK.out)
  have Ra8 := Lib.hid (Ra7.out.step (Nat.le_refl _) HK.out)
  have Rb8 := Lib.hid (Rb7.out.step (Nat.le_refl _) HK.out)
  have Rx8 := Lib.hid (Rx7.out.step (Nat.le_refl _) HK.out)
  have Ry8 := Lib.hid (Ry7.out.step (Nat.le_refl _) HK.out)
  have B8 := Lib.hid (on_belowS B7.out HK.out)
  clear HK B7 R7 Ra7 Rb7 Rx7 Ry7
  refine (popSlot_any D7 e7 l  _ HR0.out (by have := HSM.out; omega)).mono ?_
  rintro e w9 ho
  obtain ⟨ARp, cRp, rfl, hr2, _, hb2⟩ := ho.row
  have Rp9 := Lib.hid hr2
  have HK := Lib.hid hb2
  clear ho hr2 hb2 HR0
  have R9 := Lib.hid (R8.out.step (Nat.le_refl _) HK.out)
  have Ra9 := Lib.hid (Ra8.out.step (Nat.le_refl _) HK.out)
  have Rb9 := Lib.hid (Rb8.out.step (Nat.le_refl _) HK.out)
  have Rx9 := Lib.hid (Rx8.out.step (Nat.le_refl _) HK.out)
  have Ry9 := Lib.hid (Ry8.out.step (Nat.le_refl _) HK.out)
  have B9 := Lib.hid (on_belowS B8.out HK.out)
  clear HK B8 R8 Ra8 Rb8 Rx8 Ry8
  go_wp2_with fail
  refine (refPopSlot_any A c l  _ R9.out (by have := HSM.out; omega)).mono ?_
  rintro e w10 ho
  obtain ⟨ARq, cRq, rfl, hr2, _, hb2⟩ := ho.row
  have Rq10 := Lib.hid hr2
  have HK := Lib.hid hb2
  clear ho hr2 hb2
  have R10 := Lib.hid (R9.out.step (Nat.le_refl _) HK.out)
  have Ra10 := Lib.hid (Ra9.out.step (Nat.le_refl _) HK.out)
  have Rb10 := Lib.hid (Rb9.out.step (Nat.le_refl _) HK.out)
  have Rx10 := Lib.hid (Rx9.out.step (Nat.le_refl _) HK.out)
  have Ry10 := Lib.hid (Ry9.out.step (Nat.le_refl _) HK.out)
  have Rp10 := Lib.hid (Rp9.out.step (Nat.le_refl _) HK.out)
  have B10 := Lib.hid (on_belowS B9.out HK.out)
  clear HK B9 R9 Ra9 Rb9 Rx9 Ry9 Rp9
  go_wp2_with fail
  refine (same_yes16 _ _ _ _ _ rfl Ra10.out Rb10.out).mono ?_
  rintro e w11 ⟨rfl, hb2⟩
  have HK := Lib.hid hb2
  clear hb2
  have R11 := Lib.hid (R10.out.step (Nat.le_refl _) HK.out)
  have Ra11 := Lib.hid (Ra10.out.step (Nat.le_refl _) HK.out)
  have Rb11 := Lib.hid (Rb10.out.step (Nat.le_refl _) HK.out)
  have Rx11 := Lib.hid (Rx10.out.step (Nat.le_refl _) HK.out)
  have Ry11 := Lib.hid (Ry10.out.step (Nat.le_refl _) HK.out)
  have Rp11 := Lib.hid (Rp10.out.step (Nat.le_refl _) HK.out)
  have Rq11 := Lib.hid (Rq10.out.step (Nat.le_refl _) HK.out)
  have B11 := Lib.hid (on_belowS B10.out HK.out)
  clear HK B10 R10 Ra10 Rb10 Rx10 Ry10 Rp10 Rq10
  try dsimp only
  go_wp2_with fail
  refine (same_yes16 _ _ _ _ _ rfl Rx11.out Ry11.out).mono ?_
  rintro e w12 ⟨rfl, hb2⟩
  have HK := Lib.hid hb2
  clear hb2
  have R12 := Lib.hid (R11.out.step (Nat.le_refl _) HK.out)
  have Ra12 := Lib.hid (Ra11.out.step (Nat.le_refl _) HK.out)
  have Rb12 := Lib.hid (Rb11.out.step (Nat.le_refl _) HK.out)
  have Rx12 := Lib.hid (Rx11.out.step (Nat.le_refl _) HK.out)
  have Ry12 := Lib.hid (Ry11.out.step (Nat.le_refl _) HK.out)
  have Rp12 := Lib.hid (Rp11.out.step (Nat.le_refl _) HK.out)
  have Rq12 := Lib.hid (Rq11.out.step (Nat.le_refl _) HK.out)
  have B12 := Lib.hid (on_belowS B11.out HK.out)
  clear HK B11 R11 Ra11 Rb11 Rx11 Ry11 Rp11 Rq11
  try dsimp only
  go_wp2_with fail
  refine (same_yes16 _ _ _ _ _ rfl Rp12.out Rq12.out).mono ?_
  rintro e w13 ⟨rfl, hb2⟩
  have HK := Lib.hid hb2
  clear hb2
  have R13 := Lib.hid (R12.out.step (Nat.le_refl _) HK.out)
  have Ra13 := Lib.hid (Ra12.out.step (Nat.le_refl _) HK.out)
  have Rb13 := Lib.hid (Rb12.out.step (Nat.le_refl _) HK.out)
  have Rx13 := Lib.hid (Rx12.out.step (Nat.le_refl _) HK.out)
  have Ry13 := Lib.hid (Ry12.out.step (Nat.le_refl _) HK.out)
  have Rp13 := Lib.hid (Rp12.out.step (Nat.le_refl _) HK.out)
  have Rq13 := Lib.hid (Rq12.out.step (Nat.le_refl _) HK.out)
  have B13 := Lib.hid (on_belowS B12.out HK.out)
  clear HK B12 R12 Ra12 Rb12 Rx12 Ry12 Rp12 Rq12
  try dsimp only
  go_wp2_with fail
  go_ret
  exact ⟨rfl, B13.out⟩
end Go.Proofs.Ytpoigbgdaiopmaa.Words

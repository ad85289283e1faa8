/- The walks of the laws of chapter 3 (but AluTells, AluShifts, AluNumbers). -/
import Derived.Test.YtfohecmghhpagaaAluHelp
import Derived.Test.YtfohecmghhpagaaAluMath2
namespace Go.Proofs.Ytfohecmghhpagaa.Words
open Go.RowKit
set_option linter.unusedVariables false

/-- Nothing that was there has turned. -/
def Kept (W x : World) : Prop := Below W.heap.size W x
theorem Kept.refl (W : World) : Kept W W := Below.refl _ _
theorem Kept.to {W x y : World} (h : Kept W x) (hb : Below x.heap.size x y) : Kept W y := Below.trans h (hb.mono (Below.size h))
theorem Kept.drewN {W x : World} (h : Kept W x) (k : Nat) : Kept W (x.drewN k) := Below.drewN_ h k
theorem Kept.cell {W x : World} (h : Kept W x) {b o : Nat} {v : Value} (hb : b < W.heap.size) (hv : W.cell? ⟨b, o, none⟩ = some v) : x.cell? ⟨b, o, none⟩ = some v := by
  rw [Below.cell (p := ⟨b, o, none⟩) h hb]; exact hv
theorem Kept.alloc {W x : World} (h : Kept W x) (o : Obj) : Kept W (x.alloc o) := Below.alloc h (Below.size h) o

set_option maxHeartbeats 2000000 in
theorem aluLaws_walk (a b : Int) (w : World) (ha : 0 ≤ a ∧ a ≤ 4294967295) (hb : 0 ≤ b ∧ b ≤ 4294967295) :
    Calls Try.prog 4 #[.int .u32 a, .int .u32 b] w fun e w' => e = .returned (.bool true) ∧ Below w.heap.size w w' := by
  have k0 := Kept.refl w
  replace ha : 0 ≤ a ∧ a < 4294967296 := by omega
  replace hb : 0 ≤ b ∧ b < 4294967296 := by omega
  have r1 : 0 ≤ (a + b) % 4294967296 ∧ (a + b) % 4294967296 < 4294967296 := by omega
  have rx := bits_u32 (op := .xor) ha hb (.inr (.inr rfl))
  have ro := bits_u32 (op := .or) ha hb (.inr (.inl rfl))
  have rn := bits_u32 (op := .and) ha hb (.inl rfl)
  have m1 := Lib.hid (show ((a + b) % 4294967296 - b) % 4294967296 = a by omega)
  have m2 := Lib.hid (show (b + a) % 4294967296 = (a + b) % 4294967296 by omega)
  have m3 := Lib.hid (mul_comm_w b a)
  have m4 := Lib.hid (xor_xor ha hb)
  have m5 := Lib.hid (and_plus_or ha hb)
  have m6 := Lib.hid (or_minus_and ha hb)
  go_enter Try.func4, Try.ntmps4
  go_wp2_with fail
  refine (alive_any _).mono ?_; rintro e w1 ⟨rfl, hb1⟩
  have k1 := k0.to hb1
  clear hb1
  go_wp2_with fail
  refine (lawDo_any 1 _ _ _ (by omega) ha hb).mono ?_; rintro e w2 ⟨rfl, hb2⟩
  have k2 := k1.to hb2
  clear hb2
  rw [threeZ_1]
  go_wp2_with fail
  refine (lawDo_any 2 _ _ _ (by omega) r1 hb).mono ?_; rintro e w3 ⟨rfl, hb3⟩
  have k3 := k2.to hb3
  clear hb3
  rw [threeZ_2, m1.out]
  go_wp2_with fail
  refine (lawDo_any 1 _ _ _ (by omega) hb ha).mono ?_; rintro e w4 ⟨rfl, hb4⟩
  have k4 := k3.to hb4
  clear hb4
  rw [threeZ_1, m2.out]
  go_wp2_with fail
  refine (lawDo_any 11 _ _ _ (by omega) ha hb).mono ?_; rintro e w5 ⟨rfl, hb5⟩
  have k5 := k4.to hb5
  clear hb5
  rw [threeZ_11]
  go_wp2_with fail
  refine (lawDo_any 11 _ _ _ (by omega) hb ha).mono ?_; rintro e w6 ⟨rfl, hb6⟩
  have k6 := k5.to hb6
  clear hb6
  rw [threeZ_11, m3.out]
  go_wp2_with fail
  refine (lawDo_any 5 _ _ _ (by omega) ha hb).mono ?_; rintro e w7 ⟨rfl, hb7⟩
  have k7 := k6.to hb7
  clear hb7
  rw [threeZ_5]
  go_wp2_with fail
  refine (lawDo_any 5 _ _ _ (by omega) rx hb).mono ?_; rintro e w8 ⟨rfl, hb8⟩
  have k8 := k7.to hb8
  clear hb8
  rw [threeZ_5, m4.out]
  go_wp2_with fail
  refine (lawDo_any 3 _ _ _ (by omega) ha hb).mono ?_; rintro e w9 ⟨rfl, hb9⟩
  have k9 := k8.to hb9
  clear hb9
  rw [threeZ_3]
  go_wp2_with fail
  refine (lawDo_any 4 _ _ _ (by omega) ha hb).mono ?_; rintro e w10 ⟨rfl, hb10⟩
  have k10 := k9.to hb10
  clear hb10
  rw [threeZ_4]
  go_wp2_with fail
  refine (lawDo_any 1 _ _ _ (by omega) rn ro).mono ?_; rintro e w11 ⟨rfl, hb11⟩
  have k11 := k10.to hb11
  clear hb11
  rw [threeZ_1, m5.out]
  go_wp2_with fail
  refine (lawDo_any 4 _ _ _ (by omega) ha hb).mono ?_; rintro e w12 ⟨rfl, hb12⟩
  have k12 := k11.to hb12
  clear hb12
  rw [threeZ_4]
  go_wp2_with fail
  refine (lawDo_any 3 _ _ _ (by omega) ha hb).mono ?_; rintro e w13 ⟨rfl, hb13⟩
  have k13 := k12.to hb13
  clear hb13
  rw [threeZ_3]
  go_wp2_with fail
  refine (lawDo_any 2 _ _ _ (by omega) ro rn).mono ?_; rintro e w14 ⟨rfl, hb14⟩
  have k14 := k13.to hb14
  clear hb14
  rw [threeZ_2, m6.out]
  go_wp2_with fail
  refine (lawDo_any 5 _ _ _ (by omega) ha hb).mono ?_; rintro e w15 ⟨rfl, hb15⟩
  have k15 := k14.to hb15
  clear hb15
  rw [threeZ_5]
  go_wp2_with fail
  go_ret
  exact ⟨rfl, k15⟩

theorem threeB_0 {op : Int} (h : 13 ≤ op) : threeB op 0 = false := by simp [threeB]; omega
theorem threeB_n {op b : Int} (h : b ≠ 0) : threeB op b = true := by simp [threeB, h]

set_option maxHeartbeats 2000000 in
theorem aluDivides_0 (a : Int) (w : World) (ha : 0 ≤ a ∧ a ≤ 4294967295) :
    Calls Try.prog 5 #[.int .u32 a, .int .u32 0] w fun e w' => e = .returned (.bool true) ∧ Below w.heap.size w w' := by
  have k0 := Kept.refl w
  replace ha : 0 ≤ a ∧ a < 4294967296 := by omega
  have hb : (0 : Int) ≤ 0 ∧ (0 : Int) < 4294967296 := by omega
  go_enter Try.func5, Try.ntmps5
  go_wp2_with fail
  refine (alive_any _).mono ?_; rintro e w1 ⟨rfl, hb1⟩
  have k1 := k0.to hb1
  clear hb1
  go_wp2_with fail
  refine (ins_1 13 _ _ (by omega)).mono ?_; rintro e w2 ⟨rfl, hb2⟩
  have k2 := k1.to hb2
  clear hb2
  go_wp2_with fail
  refine (do_any ⟨13, 1, 2, 3, 0⟩ _ _ _ ha hb).mono ?_; rintro e w3 ⟨rfl, hb3⟩
  have k3 := k2.to hb3
  clear hb3
  rw [doZ_three (by omega), doB_three (by omega), threeZ_0 _ _ (by omega), threeB_0 (by omega)]
  go_wp2_with fail
  refine (ins_1 15 _ _ (by omega)).mono ?_; rintro e w4 ⟨rfl, hb4⟩
  have k4 := k3.to hb4
  clear hb4
  go_wp2_with fail
  refine (do_any ⟨15, 1, 2, 3, 0⟩ _ _ _ ha hb).mono ?_; rintro e w5 ⟨rfl, hb5⟩
  have k5 := k4.to hb5
  clear hb5
  rw [doZ_three (by omega), doB_three (by omega), threeZ_0 _ _ (by omega), threeB_0 (by omega)]
  go_wp2_with fail
  refine (ins_1 14 _ _ (by omega)).mono ?_; rintro e w6 ⟨rfl, hb6⟩
  have k6 := k5.to hb6
  clear hb6
  go_wp2_with fail
  refine (do_any ⟨14, 1, 2, 3, 0⟩ _ _ _ ha hb).mono ?_; rintro e w7 ⟨rfl, hb7⟩
  have k7 := k6.to hb7
  clear hb7
  rw [doZ_three (by omega), doB_three (by omega), threeZ_0 _ _ (by omega), threeB_0 (by omega)]
  go_wp2_with fail
  refine (ins_1 16 _ _ (by omega)).mono ?_; rintro e w8 ⟨rfl, hb8⟩
  have k8 := k7.to hb8
  clear hb8
  go_wp2_with fail
  refine (do_any ⟨16, 1, 2, 3, 0⟩ _ _ _ ha hb).mono ?_; rintro e w9 ⟨rfl, hb9⟩
  have k9 := k8.to hb9
  clear hb9
  rw [doZ_three (by omega), doB_three (by omega), threeZ_0 _ _ (by omega), threeB_0 (by omega)]
  go_wp2_with fail
  go_ret
  exact ⟨rfl, k9⟩

/-- What the walk reads of the two rests. -/
theorem rest_facts {a b : Int} (ha : 0 ≤ a ∧ a < 4294967296) (hb : 0 ≤ b ∧ b < 4294967296) (h : b ≠ 0) :
    -2147483648 ≤ (sgn a).tmod (sgn b) ∧ (sgn a).tmod (sgn b) ≤ 2147483647 ∧ ((sgn a).tmod (sgn b) < 0 → sgn a < 0) ∧ (0 < (sgn a).tmod (sgn b) → 0 < sgn a) := by
  obtain ⟨h1, h2, h3, h4⟩ := tmod_lt ha hb h
  have h5 := sgn_range' hb
  refine ⟨?_, ?_, fun h => ?_, fun h => ?_⟩
  · split at h2 <;> omega
  · split at h1 <;> omega
  · by_cases g : 0 ≤ sgn a
    · have := h3 g; omega
    · omega
  · by_cases g : sgn a ≤ 0
    · have := h4 g; omega
    · omega
theorem sgn_up {a : Int} (ha : 0 ≤ a ∧ a < 4294967296) : (sgn a < 0 → a / 2147483648 = 1) ∧ (0 ≤ sgn a → a / 2147483648 = 0) := by
  unfold sgn; constructor <;> intro h <;> split at h <;> omega

set_option maxHeartbeats 2000000 in
theorem aluDivides_nn (a b : Int) (w : World) (ha : 0 ≤ a ∧ a ≤ 4294967295) (hb : 0 ≤ b ∧ b ≤ 4294967295) (h0 : b ≠ 0) (hT : (sgn a).tmod (sgn b) < 0) (hS : sgn b < 0) :
    Calls Try.prog 5 #[.int .u32 a, .int .u32 b] w fun e w' => e = .returned (.bool true) ∧ Below w.heap.size w w' := by
  have k0 := Kept.refl w
  replace ha : 0 ≤ a ∧ a < 4294967296 := by omega
  replace hb : 0 ≤ b ∧ b < 4294967296 := by omega
  have hs := sgn_range' hb
  have hsa := sgn_range' ha
  obtain ⟨t1, t2, t3, t4⟩ := tmod_lt ha hb h0
  obtain ⟨t5, t6, t7, t8⟩ := rest_facts ha hb h0
  obtain ⟨g1, g2⟩ := sgn_up ha
  rw [if_pos (by omega)] at t1 t2
  have m1 := Lib.hid (quo_rem a b ha)
  have m2 := Lib.hid (quo_rem_u a b ha)
  have m3 := Lib.hid (sgn_mod_of ⟨t5, t6⟩)
  have r1 : 0 ≤ (sgn a).tdiv (sgn b) % 4294967296 ∧ (sgn a).tdiv (sgn b) % 4294967296 < 4294967296 := by omega
  have r2 : 0 ≤ (sgn a).tmod (sgn b) % 4294967296 ∧ (sgn a).tmod (sgn b) % 4294967296 < 4294967296 := by omega
  have r3 := ediv_small (d := b) ha.1 ha.2 (by omega)
  have r4 : 0 ≤ a % b ∧ a % b < 4294967296 := ⟨Int.emod_nonneg _ (by omega), by have := Int.emod_lt_of_pos a (show 0 < b by omega); omega⟩
  have r5 : a % b < b := Int.emod_lt_of_pos a (by omega)
  have r6 : 0 ≤ (sgn a).tdiv (sgn b) % 4294967296 * b % 4294967296 ∧ (sgn a).tdiv (sgn b) % 4294967296 * b % 4294967296 < 4294967296 := by omega
  have r7 : 0 ≤ a / b * b % 4294967296 ∧ a / b * b % 4294967296 < 4294967296 := by omega
  have h5 : (b == 0) = false := by simpa using h0
  have e1 : (sgn a).tmod (sgn b) % 4294967296 = (sgn a).tmod (sgn b) + 4294967296 := by omega
  have e2 : ((sgn a).tmod (sgn b) + 4294967296) / 2147483648 = 1 := by omega
  have e3 : a / 2147483648 = 1 := g1 (t7 hT)
  have E1 := Lib.hid e1
  have e4 : ((sgn a).tmod (sgn b) + 4294967296 == 0) = false := by simp; omega
  rw [E1.out] at r2 m1 m3
  clear e1 g1 g2 t3 t4 t7 t8
  go_enter Try.func5, Try.ntmps5
  go_wp2_with fail
  refine (alive_any _).mono ?_; rintro e w1 ⟨rfl, hb1⟩
  have k1 := k0.to hb1
  clear hb1
  go_wp2_with fail
  refine (ins_1 13 _ _ (by omega)).mono ?_; rintro e w2 ⟨rfl, hb2⟩
  have k2 := k1.to hb2
  clear hb2
  go_wp2_with fail
  refine (do_any ⟨13, 1, 2, 3, 0⟩ _ _ _ ha hb).mono ?_; rintro e w3 ⟨rfl, hb3⟩
  have k3 := k2.to hb3
  clear hb3
  rw [doZ_three (by omega), doB_three (by omega), threeZ_13 _ _ h0, threeB_n h0]
  go_wp2_with fail
  refine (ins_1 15 _ _ (by omega)).mono ?_; rintro e w4 ⟨rfl, hb4⟩
  have k4 := k3.to hb4
  clear hb4
  go_wp2_with fail
  refine (do_any ⟨15, 1, 2, 3, 0⟩ _ _ _ ha hb).mono ?_; rintro e w5 ⟨rfl, hb5⟩
  have k5 := k4.to hb5
  clear hb5
  rw [doZ_three (by omega), doB_three (by omega), threeZ_15 _ _ h0, threeB_n h0, E1.out]
  go_wp2_with fail
  refine (ins_1 14 _ _ (by omega)).mono ?_; rintro e w6 ⟨rfl, hb6⟩
  have k6 := k5.to hb6
  clear hb6
  go_wp2_with fail
  refine (do_any ⟨14, 1, 2, 3, 0⟩ _ _ _ ha hb).mono ?_; rintro e w7 ⟨rfl, hb7⟩
  have k7 := k6.to hb7
  clear hb7
  rw [doZ_three (by omega), doB_three (by omega), threeZ_14 _ _ h0, threeB_n h0]
  go_wp2_with fail
  refine (ins_1 16 _ _ (by omega)).mono ?_; rintro e w8 ⟨rfl, hb8⟩
  have k8 := k7.to hb8
  clear hb8
  go_wp2_with fail
  refine (do_any ⟨16, 1, 2, 3, 0⟩ _ _ _ ha hb).mono ?_; rintro e w9 ⟨rfl, hb9⟩
  have k9 := k8.to hb9
  clear hb9
  rw [doZ_three (by omega), doB_three (by omega), threeZ_16 _ _ h0, threeB_n h0]
  go_wp2_with fail
  refine (lawDo_any 11 _ _ _ (by omega) r1 hb).mono ?_; rintro e w10 ⟨rfl, hb10⟩
  have k10 := k9.to hb10
  clear hb10
  rw [threeZ_11]
  go_wp2_with fail
  refine (lawDo_any 1 _ _ _ (by omega) r6 r2).mono ?_; rintro e w11 ⟨rfl, hb11⟩
  have k11 := k10.to hb11
  clear hb11
  rw [threeZ_1, m1.out]
  go_wp2_with fail
  refine (lawDo_any 11 _ _ _ (by omega) r3 hb).mono ?_; rintro e w12 ⟨rfl, hb12⟩
  have k12 := k11.to hb12
  clear hb12
  rw [threeZ_11]
  go_wp2_with fail
  refine (lawDo_any 1 _ _ _ (by omega) r7 r4).mono ?_; rintro e w13 ⟨rfl, hb13⟩
  have k13 := k12.to hb13
  clear hb13
  rw [threeZ_1, m2.out]
  go_wp2_with fail
  refine (refInt_any _ _ r2.1 r2.2).mono ?_; rintro e w' ⟨rfl, rfl⟩
  rw [m3.out]
  go_wp2_with fail
  refine (refInt_any _ _ hb.1 hb.2).mono ?_; rintro e w' ⟨rfl, rfl⟩
  go_wp2_with fail
  go_ret
  exact ⟨rfl, k13⟩

set_option maxHeartbeats 2000000 in
theorem aluDivides_np (a b : Int) (w : World) (ha : 0 ≤ a ∧ a ≤ 4294967295) (hb : 0 ≤ b ∧ b ≤ 4294967295) (h0 : b ≠ 0) (hT : (sgn a).tmod (sgn b) < 0) (hS : 0 < sgn b) :
    Calls Try.prog 5 #[.int .u32 a, .int .u32 b] w fun e w' => e = .returned (.bool true) ∧ Below w.heap.size w w' := by
  have k0 := Kept.refl w
  replace ha : 0 ≤ a ∧ a < 4294967296 := by omega
  replace hb : 0 ≤ b ∧ b < 4294967296 := by omega
  have hs := sgn_range' hb
  have hsa := sgn_range' ha
  obtain ⟨t1, t2, t3, t4⟩ := tmod_lt ha hb h0
  obtain ⟨t5, t6, t7, t8⟩ := rest_facts ha hb h0
  obtain ⟨g1, g2⟩ := sgn_up ha
  rw [if_neg (by omega)] at t1 t2
  have m1 := Lib.hid (quo_rem a b ha)
  have m2 := Lib.hid (quo_rem_u a b ha)
  have m3 := Lib.hid (sgn_mod_of ⟨t5, t6⟩)
  have r1 : 0 ≤ (sgn a).tdiv (sgn b) % 4294967296 ∧ (sgn a).tdiv (sgn b) % 4294967296 < 4294967296 := by omega
  have r2 : 0 ≤ (sgn a).tmod (sgn b) % 4294967296 ∧ (sgn a).tmod (sgn b) % 4294967296 < 4294967296 := by omega
  have r3 := ediv_small (d := b) ha.1 ha.2 (by omega)
  have r4 : 0 ≤ a % b ∧ a % b < 4294967296 := ⟨Int.emod_nonneg _ (by omega), by have := Int.emod_lt_of_pos a (show 0 < b by omega); omega⟩
  have r5 : a % b < b := Int.emod_lt_of_pos a (by omega)
  have r6 : 0 ≤ (sgn a).tdiv (sgn b) % 4294967296 * b % 4294967296 ∧ (sgn a).tdiv (sgn b) % 4294967296 * b % 4294967296 < 4294967296 := by omega
  have r7 : 0 ≤ a / b * b % 4294967296 ∧ a / b * b % 4294967296 < 4294967296 := by omega
  have h5 : (b == 0) = false := by simpa using h0
  have e1 : (sgn a).tmod (sgn b) % 4294967296 = (sgn a).tmod (sgn b) + 4294967296 := by omega
  have e2 : ((sgn a).tmod (sgn b) + 4294967296) / 2147483648 = 1 := by omega
  have e3 : a / 2147483648 = 1 := g1 (t7 hT)
  have E1 := Lib.hid e1
  have e4 : ((sgn a).tmod (sgn b) + 4294967296 == 0) = false := by simp; omega
  rw [E1.out] at r2 m1 m3
  clear e1 g1 g2 t3 t4 t7 t8
  go_enter Try.func5, Try.ntmps5
  go_wp2_with fail
  refine (alive_any _).mono ?_; rintro e w1 ⟨rfl, hb1⟩
  have k1 := k0.to hb1
  clear hb1
  go_wp2_with fail
  refine (ins_1 13 _ _ (by omega)).mono ?_; rintro e w2 ⟨rfl, hb2⟩
  have k2 := k1.to hb2
  clear hb2
  go_wp2_with fail
  refine (do_any ⟨13, 1, 2, 3, 0⟩ _ _ _ ha hb).mono ?_; rintro e w3 ⟨rfl, hb3⟩
  have k3 := k2.to hb3
  clear hb3
  rw [doZ_three (by omega), doB_three (by omega), threeZ_13 _ _ h0, threeB_n h0]
  go_wp2_with fail
  refine (ins_1 15 _ _ (by omega)).mono ?_; rintro e w4 ⟨rfl, hb4⟩
  have k4 := k3.to hb4
  clear hb4
  go_wp2_with fail
  refine (do_any ⟨15, 1, 2, 3, 0⟩ _ _ _ ha hb).mono ?_; rintro e w5 ⟨rfl, hb5⟩
  have k5 := k4.to hb5
  clear hb5
  rw [doZ_three (by omega), doB_three (by omega), threeZ_15 _ _ h0, threeB_n h0, E1.out]
  go_wp2_with fail
  refine (ins_1 14 _ _ (by omega)).mono ?_; rintro e w6 ⟨rfl, hb6⟩
  have k6 := k5.to hb6
  clear hb6
  go_wp2_with fail
  refine (do_any ⟨14, 1, 2, 3, 0⟩ _ _ _ ha hb).mono ?_; rintro e w7 ⟨rfl, hb7⟩
  have k7 := k6.to hb7
  clear hb7
  rw [doZ_three (by omega), doB_three (by omega), threeZ_14 _ _ h0, threeB_n h0]
  go_wp2_with fail
  refine (ins_1 16 _ _ (by omega)).mono ?_; rintro e w8 ⟨rfl, hb8⟩
  have k8 := k7.to hb8
  clear hb8
  go_wp2_with fail
  refine (do_any ⟨16, 1, 2, 3, 0⟩ _ _ _ ha hb).mono ?_; rintro e w9 ⟨rfl, hb9⟩
  have k9 := k8.to hb9
  clear hb9
  rw [doZ_three (by omega), doB_three (by omega), threeZ_16 _ _ h0, threeB_n h0]
  go_wp2_with fail
  refine (lawDo_any 11 _ _ _ (by omega) r1 hb).mono ?_; rintro e w10 ⟨rfl, hb10⟩
  have k10 := k9.to hb10
  clear hb10
  rw [threeZ_11]
  go_wp2_with fail
  refine (lawDo_any 1 _ _ _ (by omega) r6 r2).mono ?_; rintro e w11 ⟨rfl, hb11⟩
  have k11 := k10.to hb11
  clear hb11
  rw [threeZ_1, m1.out]
  go_wp2_with fail
  refine (lawDo_any 11 _ _ _ (by omega) r3 hb).mono ?_; rintro e w12 ⟨rfl, hb12⟩
  have k12 := k11.to hb12
  clear hb12
  rw [threeZ_11]
  go_wp2_with fail
  refine (lawDo_any 1 _ _ _ (by omega) r7 r4).mono ?_; rintro e w13 ⟨rfl, hb13⟩
  have k13 := k12.to hb13
  clear hb13
  rw [threeZ_1, m2.out]
  go_wp2_with fail
  refine (refInt_any _ _ r2.1 r2.2).mono ?_; rintro e w' ⟨rfl, rfl⟩
  rw [m3.out]
  go_wp2_with fail
  refine (refInt_any _ _ hb.1 hb.2).mono ?_; rintro e w' ⟨rfl, rfl⟩
  go_wp2_with fail
  go_ret
  exact ⟨rfl, k13⟩

set_option maxHeartbeats 2000000 in
theorem aluDivides_zn (a b : Int) (w : World) (ha : 0 ≤ a ∧ a ≤ 4294967295) (hb : 0 ≤ b ∧ b ≤ 4294967295) (h0 : b ≠ 0) (hT : (sgn a).tmod (sgn b) = 0) (hS : sgn b < 0) :
    Calls Try.prog 5 #[.int .u32 a, .int .u32 b] w fun e w' => e = .returned (.bool true) ∧ Below w.heap.size w w' := by
  have k0 := Kept.refl w
  replace ha : 0 ≤ a ∧ a < 4294967296 := by omega
  replace hb : 0 ≤ b ∧ b < 4294967296 := by omega
  have hs := sgn_range' hb
  have hsa := sgn_range' ha
  obtain ⟨t1, t2, t3, t4⟩ := tmod_lt ha hb h0
  obtain ⟨t5, t6, t7, t8⟩ := rest_facts ha hb h0
  obtain ⟨g1, g2⟩ := sgn_up ha
  rw [if_pos (by omega)] at t1 t2
  have m1 := Lib.hid (quo_rem a b ha)
  have m2 := Lib.hid (quo_rem_u a b ha)
  have m3 := Lib.hid (sgn_mod_of ⟨t5, t6⟩)
  have r1 : 0 ≤ (sgn a).tdiv (sgn b) % 4294967296 ∧ (sgn a).tdiv (sgn b) % 4294967296 < 4294967296 := by omega
  have r2 : 0 ≤ (sgn a).tmod (sgn b) % 4294967296 ∧ (sgn a).tmod (sgn b) % 4294967296 < 4294967296 := by omega
  have r3 := ediv_small (d := b) ha.1 ha.2 (by omega)
  have r4 : 0 ≤ a % b ∧ a % b < 4294967296 := ⟨Int.emod_nonneg _ (by omega), by have := Int.emod_lt_of_pos a (show 0 < b by omega); omega⟩
  have r5 : a % b < b := Int.emod_lt_of_pos a (by omega)
  have r6 : 0 ≤ (sgn a).tdiv (sgn b) % 4294967296 * b % 4294967296 ∧ (sgn a).tdiv (sgn b) % 4294967296 * b % 4294967296 < 4294967296 := by omega
  have r7 : 0 ≤ a / b * b % 4294967296 ∧ a / b * b % 4294967296 < 4294967296 := by omega
  have h5 : (b == 0) = false := by simpa using h0
  have e1 : (sgn a).tmod (sgn b) % 4294967296 = 0 := by omega
  have E1 := Lib.hid e1
  rw [hT] at t1 t2
  rw [E1.out] at r2 m1
  clear m3 e1 g1 g2 t3 t4 t7 t8
  have m3 := Lib.hid (show sgn 0 = 0 from rfl)
  go_enter Try.func5, Try.ntmps5
  go_wp2_with fail
  refine (alive_any _).mono ?_; rintro e w1 ⟨rfl, hb1⟩
  have k1 := k0.to hb1
  clear hb1
  go_wp2_with fail
  refine (ins_1 13 _ _ (by omega)).mono ?_; rintro e w2 ⟨rfl, hb2⟩
  have k2 := k1.to hb2
  clear hb2
  go_wp2_with fail
  refine (do_any ⟨13, 1, 2, 3, 0⟩ _ _ _ ha hb).mono ?_; rintro e w3 ⟨rfl, hb3⟩
  have k3 := k2.to hb3
  clear hb3
  rw [doZ_three (by omega), doB_three (by omega), threeZ_13 _ _ h0, threeB_n h0]
  go_wp2_with fail
  refine (ins_1 15 _ _ (by omega)).mono ?_; rintro e w4 ⟨rfl, hb4⟩
  have k4 := k3.to hb4
  clear hb4
  go_wp2_with fail
  refine (do_any ⟨15, 1, 2, 3, 0⟩ _ _ _ ha hb).mono ?_; rintro e w5 ⟨rfl, hb5⟩
  have k5 := k4.to hb5
  clear hb5
  rw [doZ_three (by omega), doB_three (by omega), threeZ_15 _ _ h0, threeB_n h0, E1.out]
  go_wp2_with fail
  refine (ins_1 14 _ _ (by omega)).mono ?_; rintro e w6 ⟨rfl, hb6⟩
  have k6 := k5.to hb6
  clear hb6
  go_wp2_with fail
  refine (do_any ⟨14, 1, 2, 3, 0⟩ _ _ _ ha hb).mono ?_; rintro e w7 ⟨rfl, hb7⟩
  have k7 := k6.to hb7
  clear hb7
  rw [doZ_three (by omega), doB_three (by omega), threeZ_14 _ _ h0, threeB_n h0]
  go_wp2_with fail
  refine (ins_1 16 _ _ (by omega)).mono ?_; rintro e w8 ⟨rfl, hb8⟩
  have k8 := k7.to hb8
  clear hb8
  go_wp2_with fail
  refine (do_any ⟨16, 1, 2, 3, 0⟩ _ _ _ ha hb).mono ?_; rintro e w9 ⟨rfl, hb9⟩
  have k9 := k8.to hb9
  clear hb9
  rw [doZ_three (by omega), doB_three (by omega), threeZ_16 _ _ h0, threeB_n h0]
  go_wp2_with fail
  refine (lawDo_any 11 _ _ _ (by omega) r1 hb).mono ?_; rintro e w10 ⟨rfl, hb10⟩
  have k10 := k9.to hb10
  clear hb10
  rw [threeZ_11]
  go_wp2_with fail
  refine (lawDo_any 1 _ _ _ (by omega) r6 r2).mono ?_; rintro e w11 ⟨rfl, hb11⟩
  have k11 := k10.to hb11
  clear hb11
  rw [threeZ_1, m1.out]
  go_wp2_with fail
  refine (lawDo_any 11 _ _ _ (by omega) r3 hb).mono ?_; rintro e w12 ⟨rfl, hb12⟩
  have k12 := k11.to hb12
  clear hb12
  rw [threeZ_11]
  go_wp2_with fail
  refine (lawDo_any 1 _ _ _ (by omega) r7 r4).mono ?_; rintro e w13 ⟨rfl, hb13⟩
  have k13 := k12.to hb13
  clear hb13
  rw [threeZ_1, m2.out]
  go_wp2_with fail
  refine (refInt_any _ _ r2.1 r2.2).mono ?_; rintro e w' ⟨rfl, rfl⟩
  rw [m3.out]
  go_wp2_with fail
  refine (refInt_any _ _ hb.1 hb.2).mono ?_; rintro e w' ⟨rfl, rfl⟩
  go_wp2_with fail
  go_ret
  exact ⟨rfl, k13⟩

set_option maxHeartbeats 2000000 in
theorem aluDivides_zp (a b : Int) (w : World) (ha : 0 ≤ a ∧ a ≤ 4294967295) (hb : 0 ≤ b ∧ b ≤ 4294967295) (h0 : b ≠ 0) (hT : (sgn a).tmod (sgn b) = 0) (hS : 0 < sgn b) :
    Calls Try.prog 5 #[.int .u32 a, .int .u32 b] w fun e w' => e = .returned (.bool true) ∧ Below w.heap.size w w' := by
  have k0 := Kept.refl w
  replace ha : 0 ≤ a ∧ a < 4294967296 := by omega
  replace hb : 0 ≤ b ∧ b < 4294967296 := by omega
  have hs := sgn_range' hb
  have hsa := sgn_range' ha
  obtain ⟨t1, t2, t3, t4⟩ := tmod_lt ha hb h0
  obtain ⟨t5, t6, t7, t8⟩ := rest_facts ha hb h0
  obtain ⟨g1, g2⟩ := sgn_up ha
  rw [if_neg (by omega)] at t1 t2
  have m1 := Lib.hid (quo_rem a b ha)
  have m2 := Lib.hid (quo_rem_u a b ha)
  have m3 := Lib.hid (sgn_mod_of ⟨t5, t6⟩)
  have r1 : 0 ≤ (sgn a).tdiv (sgn b) % 4294967296 ∧ (sgn a).tdiv (sgn b) % 4294967296 < 4294967296 := by omega
  have r2 : 0 ≤ (sgn a).tmod (sgn b) % 4294967296 ∧ (sgn a).tmod (sgn b) % 4294967296 < 4294967296 := by omega
  have r3 := ediv_small (d := b) ha.1 ha.2 (by omega)
  have r4 : 0 ≤ a % b ∧ a % b < 4294967296 := ⟨Int.emod_nonneg _ (by omega), by have := Int.emod_lt_of_pos a (show 0 < b by omega); omega⟩
  have r5 : a % b < b := Int.emod_lt_of_pos a (by omega)
  have r6 : 0 ≤ (sgn a).tdiv (sgn b) % 4294967296 * b % 4294967296 ∧ (sgn a).tdiv (sgn b) % 4294967296 * b % 4294967296 < 4294967296 := by omega
  have r7 : 0 ≤ a / b * b % 4294967296 ∧ a / b * b % 4294967296 < 4294967296 := by omega
  have h5 : (b == 0) = false := by simpa using h0
  have e1 : (sgn a).tmod (sgn b) % 4294967296 = 0 := by omega
  have E1 := Lib.hid e1
  rw [hT] at t1 t2
  rw [E1.out] at r2 m1
  clear m3 e1 g1 g2 t3 t4 t7 t8
  have m3 := Lib.hid (show sgn 0 = 0 from rfl)
  go_enter Try.func5, Try.ntmps5
  go_wp2_with fail
  refine (alive_any _).mono ?_; rintro e w1 ⟨rfl, hb1⟩
  have k1 := k0.to hb1
  clear hb1
  go_wp2_with fail
  refine (ins_1 13 _ _ (by omega)).mono ?_; rintro e w2 ⟨rfl, hb2⟩
  have k2 := k1.to hb2
  clear hb2
  go_wp2_with fail
  refine (do_any ⟨13, 1, 2, 3, 0⟩ _ _ _ ha hb).mono ?_; rintro e w3 ⟨rfl, hb3⟩
  have k3 := k2.to hb3
  clear hb3
  rw [doZ_three (by omega), doB_three (by omega), threeZ_13 _ _ h0, threeB_n h0]
  go_wp2_with fail
  refine (ins_1 15 _ _ (by omega)).mono ?_; rintro e w4 ⟨rfl, hb4⟩
  have k4 := k3.to hb4
  clear hb4
  go_wp2_with fail
  refine (do_any ⟨15, 1, 2, 3, 0⟩ _ _ _ ha hb).mono ?_; rintro e w5 ⟨rfl, hb5⟩
  have k5 := k4.to hb5
  clear hb5
  rw [doZ_three (by omega), doB_three (by omega), threeZ_15 _ _ h0, threeB_n h0, E1.out]
  go_wp2_with fail
  refine (ins_1 14 _ _ (by omega)).mono ?_; rintro e w6 ⟨rfl, hb6⟩
  have k6 := k5.to hb6
  clear hb6
  go_wp2_with fail
  refine (do_any ⟨14, 1, 2, 3, 0⟩ _ _ _ ha hb).mono ?_; rintro e w7 ⟨rfl, hb7⟩
  have k7 := k6.to hb7
  clear hb7
  rw [doZ_three (by omega), doB_three (by omega), threeZ_14 _ _ h0, threeB_n h0]
  go_wp2_with fail
  refine (ins_1 16 _ _ (by omega)).mono ?_; rintro e w8 ⟨rfl, hb8⟩
  have k8 := k7.to hb8
  clear hb8
  go_wp2_with fail
  refine (do_any ⟨16, 1, 2, 3, 0⟩ _ _ _ ha hb).mono ?_; rintro e w9 ⟨rfl, hb9⟩
  have k9 := k8.to hb9
  clear hb9
  rw [doZ_three (by omega), doB_three (by omega), threeZ_16 _ _ h0, threeB_n h0]
  go_wp2_with fail
  refine (lawDo_any 11 _ _ _ (by omega) r1 hb).mono ?_; rintro e w10 ⟨rfl, hb10⟩
  have k10 := k9.to hb10
  clear hb10
  rw [threeZ_11]
  go_wp2_with fail
  refine (lawDo_any 1 _ _ _ (by omega) r6 r2).mono ?_; rintro e w11 ⟨rfl, hb11⟩
  have k11 := k10.to hb11
  clear hb11
  rw [threeZ_1, m1.out]
  go_wp2_with fail
  refine (lawDo_any 11 _ _ _ (by omega) r3 hb).mono ?_; rintro e w12 ⟨rfl, hb12⟩
  have k12 := k11.to hb12
  clear hb12
  rw [threeZ_11]
  go_wp2_with fail
  refine (lawDo_any 1 _ _ _ (by omega) r7 r4).mono ?_; rintro e w13 ⟨rfl, hb13⟩
  have k13 := k12.to hb13
  clear hb13
  rw [threeZ_1, m2.out]
  go_wp2_with fail
  refine (refInt_any _ _ r2.1 r2.2).mono ?_; rintro e w' ⟨rfl, rfl⟩
  rw [m3.out]
  go_wp2_with fail
  refine (refInt_any _ _ hb.1 hb.2).mono ?_; rintro e w' ⟨rfl, rfl⟩
  go_wp2_with fail
  go_ret
  exact ⟨rfl, k13⟩

set_option maxHeartbeats 2000000 in
theorem aluDivides_pn (a b : Int) (w : World) (ha : 0 ≤ a ∧ a ≤ 4294967295) (hb : 0 ≤ b ∧ b ≤ 4294967295) (h0 : b ≠ 0) (hT : 0 < (sgn a).tmod (sgn b)) (hS : sgn b < 0) :
    Calls Try.prog 5 #[.int .u32 a, .int .u32 b] w fun e w' => e = .returned (.bool true) ∧ Below w.heap.size w w' := by
  have k0 := Kept.refl w
  replace ha : 0 ≤ a ∧ a < 4294967296 := by omega
  replace hb : 0 ≤ b ∧ b < 4294967296 := by omega
  have hs := sgn_range' hb
  have hsa := sgn_range' ha
  obtain ⟨t1, t2, t3, t4⟩ := tmod_lt ha hb h0
  obtain ⟨t5, t6, t7, t8⟩ := rest_facts ha hb h0
  obtain ⟨g1, g2⟩ := sgn_up ha
  rw [if_pos (by omega)] at t1 t2
  have m1 := Lib.hid (quo_rem a b ha)
  have m2 := Lib.hid (quo_rem_u a b ha)
  have m3 := Lib.hid (sgn_mod_of ⟨t5, t6⟩)
  have r1 : 0 ≤ (sgn a).tdiv (sgn b) % 4294967296 ∧ (sgn a).tdiv (sgn b) % 4294967296 < 4294967296 := by omega
  have r2 : 0 ≤ (sgn a).tmod (sgn b) % 4294967296 ∧ (sgn a).tmod (sgn b) % 4294967296 < 4294967296 := by omega
  have r3 := ediv_small (d := b) ha.1 ha.2 (by omega)
  have r4 : 0 ≤ a % b ∧ a % b < 4294967296 := ⟨Int.emod_nonneg _ (by omega), by have := Int.emod_lt_of_pos a (show 0 < b by omega); omega⟩
  have r5 : a % b < b := Int.emod_lt_of_pos a (by omega)
  have r6 : 0 ≤ (sgn a).tdiv (sgn b) % 4294967296 * b % 4294967296 ∧ (sgn a).tdiv (sgn b) % 4294967296 * b % 4294967296 < 4294967296 := by omega
  have r7 : 0 ≤ a / b * b % 4294967296 ∧ a / b * b % 4294967296 < 4294967296 := by omega
  have h5 : (b == 0) = false := by simpa using h0
  have e1 : (sgn a).tmod (sgn b) % 4294967296 = (sgn a).tmod (sgn b) := by omega
  have e2 : (sgn a).tmod (sgn b) / 2147483648 = 0 := by omega
  have e3 : a / 2147483648 = 0 := g2 (Int.le_of_lt (t8 hT))
  have E1 := Lib.hid e1
  have e4 : ((sgn a).tmod (sgn b) == 0) = false := by simp; omega
  rw [E1.out] at r2 m1 m3
  clear e1 g1 g2 t3 t4 t7 t8
  go_enter Try.func5, Try.ntmps5
  go_wp2_with fail
  refine (alive_any _).mono ?_; rintro e w1 ⟨rfl, hb1⟩
  have k1 := k0.to hb1
  clear hb1
  go_wp2_with fail
  refine (ins_1 13 _ _ (by omega)).mono ?_; rintro e w2 ⟨rfl, hb2⟩
  have k2 := k1.to hb2
  clear hb2
  go_wp2_with fail
  refine (do_any ⟨13, 1, 2, 3, 0⟩ _ _ _ ha hb).mono ?_; rintro e w3 ⟨rfl, hb3⟩
  have k3 := k2.to hb3
  clear hb3
  rw [doZ_three (by omega), doB_three (by omega), threeZ_13 _ _ h0, threeB_n h0]
  go_wp2_with fail
  refine (ins_1 15 _ _ (by omega)).mono ?_; rintro e w4 ⟨rfl, hb4⟩
  have k4 := k3.to hb4
  clear hb4
  go_wp2_with fail
  refine (do_any ⟨15, 1, 2, 3, 0⟩ _ _ _ ha hb).mono ?_; rintro e w5 ⟨rfl, hb5⟩
  have k5 := k4.to hb5
  clear hb5
  rw [doZ_three (by omega), doB_three (by omega), threeZ_15 _ _ h0, threeB_n h0, E1.out]
  go_wp2_with fail
  refine (ins_1 14 _ _ (by omega)).mono ?_; rintro e w6 ⟨rfl, hb6⟩
  have k6 := k5.to hb6
  clear hb6
  go_wp2_with fail
  refine (do_any ⟨14, 1, 2, 3, 0⟩ _ _ _ ha hb).mono ?_; rintro e w7 ⟨rfl, hb7⟩
  have k7 := k6.to hb7
  clear hb7
  rw [doZ_three (by omega), doB_three (by omega), threeZ_14 _ _ h0, threeB_n h0]
  go_wp2_with fail
  refine (ins_1 16 _ _ (by omega)).mono ?_; rintro e w8 ⟨rfl, hb8⟩
  have k8 := k7.to hb8
  clear hb8
  go_wp2_with fail
  refine (do_any ⟨16, 1, 2, 3, 0⟩ _ _ _ ha hb).mono ?_; rintro e w9 ⟨rfl, hb9⟩
  have k9 := k8.to hb9
  clear hb9
  rw [doZ_three (by omega), doB_three (by omega), threeZ_16 _ _ h0, threeB_n h0]
  go_wp2_with fail
  refine (lawDo_any 11 _ _ _ (by omega) r1 hb).mono ?_; rintro e w10 ⟨rfl, hb10⟩
  have k10 := k9.to hb10
  clear hb10
  rw [threeZ_11]
  go_wp2_with fail
  refine (lawDo_any 1 _ _ _ (by omega) r6 r2).mono ?_; rintro e w11 ⟨rfl, hb11⟩
  have k11 := k10.to hb11
  clear hb11
  rw [threeZ_1, m1.out]
  go_wp2_with fail
  refine (lawDo_any 11 _ _ _ (by omega) r3 hb).mono ?_; rintro e w12 ⟨rfl, hb12⟩
  have k12 := k11.to hb12
  clear hb12
  rw [threeZ_11]
  go_wp2_with fail
  refine (lawDo_any 1 _ _ _ (by omega) r7 r4).mono ?_; rintro e w13 ⟨rfl, hb13⟩
  have k13 := k12.to hb13
  clear hb13
  rw [threeZ_1, m2.out]
  go_wp2_with fail
  refine (refInt_any _ _ r2.1 r2.2).mono ?_; rintro e w' ⟨rfl, rfl⟩
  rw [m3.out]
  go_wp2_with fail
  refine (refInt_any _ _ hb.1 hb.2).mono ?_; rintro e w' ⟨rfl, rfl⟩
  go_wp2_with fail
  go_ret
  exact ⟨rfl, k13⟩

set_option maxHeartbeats 2000000 in
theorem aluDivides_pp (a b : Int) (w : World) (ha : 0 ≤ a ∧ a ≤ 4294967295) (hb : 0 ≤ b ∧ b ≤ 4294967295) (h0 : b ≠ 0) (hT : 0 < (sgn a).tmod (sgn b)) (hS : 0 < sgn b) :
    Calls Try.prog 5 #[.int .u32 a, .int .u32 b] w fun e w' => e = .returned (.bool true) ∧ Below w.heap.size w w' := by
  have k0 := Kept.refl w
  replace ha : 0 ≤ a ∧ a < 4294967296 := by omega
  replace hb : 0 ≤ b ∧ b < 4294967296 := by omega
  have hs := sgn_range' hb
  have hsa := sgn_range' ha
  obtain ⟨t1, t2, t3, t4⟩ := tmod_lt ha hb h0
  obtain ⟨t5, t6, t7, t8⟩ := rest_facts ha hb h0
  obtain ⟨g1, g2⟩ := sgn_up ha
  rw [if_neg (by omega)] at t1 t2
  have m1 := Lib.hid (quo_rem a b ha)
  have m2 := Lib.hid (quo_rem_u a b ha)
  have m3 := Lib.hid (sgn_mod_of ⟨t5, t6⟩)
  have r1 : 0 ≤ (sgn a).tdiv (sgn b) % 4294967296 ∧ (sgn a).tdiv (sgn b) % 4294967296 < 4294967296 := by omega
  have r2 : 0 ≤ (sgn a).tmod (sgn b) % 4294967296 ∧ (sgn a).tmod (sgn b) % 4294967296 < 4294967296 := by omega
  have r3 := ediv_small (d := b) ha.1 ha.2 (by omega)
  have r4 : 0 ≤ a % b ∧ a % b < 4294967296 := ⟨Int.emod_nonneg _ (by omega), by have := Int.emod_lt_of_pos a (show 0 < b by omega); omega⟩
  have r5 : a % b < b := Int.emod_lt_of_pos a (by omega)
  have r6 : 0 ≤ (sgn a).tdiv (sgn b) % 4294967296 * b % 4294967296 ∧ (sgn a).tdiv (sgn b) % 4294967296 * b % 4294967296 < 4294967296 := by omega
  have r7 : 0 ≤ a / b * b % 4294967296 ∧ a / b * b % 4294967296 < 4294967296 := by omega
  have h5 : (b == 0) = false := by simpa using h0
  have e1 : (sgn a).tmod (sgn b) % 4294967296 = (sgn a).tmod (sgn b) := by omega
  have e2 : (sgn a).tmod (sgn b) / 2147483648 = 0 := by omega
  have e3 : a / 2147483648 = 0 := g2 (Int.le_of_lt (t8 hT))
  have E1 := Lib.hid e1
  have e4 : ((sgn a).tmod (sgn b) == 0) = false := by simp; omega
  rw [E1.out] at r2 m1 m3
  clear e1 g1 g2 t3 t4 t7 t8
  go_enter Try.func5, Try.ntmps5
  go_wp2_with fail
  refine (alive_any _).mono ?_; rintro e w1 ⟨rfl, hb1⟩
  have k1 := k0.to hb1
  clear hb1
  go_wp2_with fail
  refine (ins_1 13 _ _ (by omega)).mono ?_; rintro e w2 ⟨rfl, hb2⟩
  have k2 := k1.to hb2
  clear hb2
  go_wp2_with fail
  refine (do_any ⟨13, 1, 2, 3, 0⟩ _ _ _ ha hb).mono ?_; rintro e w3 ⟨rfl, hb3⟩
  have k3 := k2.to hb3
  clear hb3
  rw [doZ_three (by omega), doB_three (by omega), threeZ_13 _ _ h0, threeB_n h0]
  go_wp2_with fail
  refine (ins_1 15 _ _ (by omega)).mono ?_; rintro e w4 ⟨rfl, hb4⟩
  have k4 := k3.to hb4
  clear hb4
  go_wp2_with fail
  refine (do_any ⟨15, 1, 2, 3, 0⟩ _ _ _ ha hb).mono ?_; rintro e w5 ⟨rfl, hb5⟩
  have k5 := k4.to hb5
  clear hb5
  rw [doZ_three (by omega), doB_three (by omega), threeZ_15 _ _ h0, threeB_n h0, E1.out]
  go_wp2_with fail
  refine (ins_1 14 _ _ (by omega)).mono ?_; rintro e w6 ⟨rfl, hb6⟩
  have k6 := k5.to hb6
  clear hb6
  go_wp2_with fail
  refine (do_any ⟨14, 1, 2, 3, 0⟩ _ _ _ ha hb).mono ?_; rintro e w7 ⟨rfl, hb7⟩
  have k7 := k6.to hb7
  clear hb7
  rw [doZ_three (by omega), doB_three (by omega), threeZ_14 _ _ h0, threeB_n h0]
  go_wp2_with fail
  refine (ins_1 16 _ _ (by omega)).mono ?_; rintro e w8 ⟨rfl, hb8⟩
  have k8 := k7.to hb8
  clear hb8
  go_wp2_with fail
  refine (do_any ⟨16, 1, 2, 3, 0⟩ _ _ _ ha hb).mono ?_; rintro e w9 ⟨rfl, hb9⟩
  have k9 := k8.to hb9
  clear hb9
  rw [doZ_three (by omega), doB_three (by omega), threeZ_16 _ _ h0, threeB_n h0]
  go_wp2_with fail
  refine (lawDo_any 11 _ _ _ (by omega) r1 hb).mono ?_; rintro e w10 ⟨rfl, hb10⟩
  have k10 := k9.to hb10
  clear hb10
  rw [threeZ_11]
  go_wp2_with fail
  refine (lawDo_any 1 _ _ _ (by omega) r6 r2).mono ?_; rintro e w11 ⟨rfl, hb11⟩
  have k11 := k10.to hb11
  clear hb11
  rw [threeZ_1, m1.out]
  go_wp2_with fail
  refine (lawDo_any 11 _ _ _ (by omega) r3 hb).mono ?_; rintro e w12 ⟨rfl, hb12⟩
  have k12 := k11.to hb12
  clear hb12
  rw [threeZ_11]
  go_wp2_with fail
  refine (lawDo_any 1 _ _ _ (by omega) r7 r4).mono ?_; rintro e w13 ⟨rfl, hb13⟩
  have k13 := k12.to hb13
  clear hb13
  rw [threeZ_1, m2.out]
  go_wp2_with fail
  refine (refInt_any _ _ r2.1 r2.2).mono ?_; rintro e w' ⟨rfl, rfl⟩
  rw [m3.out]
  go_wp2_with fail
  refine (refInt_any _ _ hb.1 hb.2).mono ?_; rintro e w' ⟨rfl, rfl⟩
  go_wp2_with fail
  go_ret
  exact ⟨rfl, k13⟩

theorem aluDivides_walk (a b : Int) (w : World) (ha : 0 ≤ a ∧ a ≤ 4294967295) (hb : 0 ≤ b ∧ b ≤ 4294967295) :
    Calls Try.prog 5 #[.int .u32 a, .int .u32 b] w fun e w' => e = .returned (.bool true) ∧ Below w.heap.size w w' := by
  by_cases h0 : b = 0
  · subst h0; exact aluDivides_0 a w ha
  have hs := sgn_zero (b := b) (by omega) h0
  by_cases hS : sgn b < 0
  · by_cases hT : (sgn a).tmod (sgn b) < 0
    · exact aluDivides_nn a b w ha hb h0 hT hS
    by_cases hZ : (sgn a).tmod (sgn b) = 0
    · exact aluDivides_zn a b w ha hb h0 hZ hS
    · exact aluDivides_pn a b w ha hb h0 (by omega) hS
  · have hS' : 0 < sgn b := by omega
    by_cases hT : (sgn a).tmod (sgn b) < 0
    · exact aluDivides_np a b w ha hb h0 hT hS'
    by_cases hZ : (sgn a).tmod (sgn b) = 0
    · exact aluDivides_zp a b w ha hb h0 hZ hS'
    · exact aluDivides_pp a b w ha hb h0 (by omega) hS'
end Go.Proofs.Ytfohecmghhpagaa.Words

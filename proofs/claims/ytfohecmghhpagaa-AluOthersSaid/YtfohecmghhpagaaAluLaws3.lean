/- The walks of the laws of chapter 3 (AluWide, AluLatencies, AluOthers). -/
import Derived.Test.YtfohecmghhpagaaAluLaws
namespace Go.Proofs.Ytfohecmghhpagaa.Words
open Go.RowKit
set_option linter.unusedVariables false


set_option maxHeartbeats 2000000 in
theorem aluWide_walk (a b : Int) (w : World) (ha : 0 ≤ a ∧ a ≤ 4294967295) (hb : 0 ≤ b ∧ b ≤ 4294967295) :
    Calls Try.prog 9 #[.int .u32 a, .int .u32 b] w fun e w' => e = .returned (.bool true) ∧ Below w.heap.size w w' := by
  have k0 := Kept.refl w
  replace ha : 0 ≤ a ∧ a < 4294967296 := by omega
  replace hb : 0 ≤ b ∧ b < 4294967296 := by omega
  have h1 := sgn_range' ha
  have h2 := sgn_range' hb
  have h3 := prod_range h1 h2
  have r1 := threeZ_range 12 a b ha hb
  have m1 := Lib.hid (show sgn (threeZ 12 a b) = sgn a * sgn b / 4294967296 by rw [threeZ_12]; exact sgn_mod_of (by omega))
  have m2 := Lib.hid (show threeZ 11 a b = sgn a * sgn b % 4294967296 by rw [threeZ_11, sgn_mul])
  have m3 := Lib.hid (show threeZ 11 a 1 = a by rw [threeZ_11]; omega)
  have m4 := Lib.hid (show threeZ 11 a 0 = 0 by rw [threeZ_11]; omega)
  have m0 := Lib.hid (show threeZ 2 0 a = -a % 4294967296 by rw [threeZ_2]; omega)
  have m5 := Lib.hid (show threeZ 11 a 4294967295 = -a % 4294967296 by rw [threeZ_11]; omega)
  have m6 := Lib.hid (show threeZ 1 a (-a % 4294967296) = 0 by rw [threeZ_1]; omega)
  have r2 : 0 ≤ -a % 4294967296 ∧ -a % 4294967296 < 4294967296 := by omega
  go_enter Try.func9, Try.ntmps9
  try dsimp only
  go_wp2_with fail
  refine (alive_any _).mono ?_; rintro e w1 ⟨rfl, hb1⟩
  have k1 := k0.to hb1
  clear hb1
  try dsimp only
  go_wp2_with fail
  refine (lawDo_any 12 _ _ _ (by omega) ha hb).mono ?_; rintro e w2 ⟨rfl, hb2⟩
  have k2 := k1.to hb2
  clear hb2
  try dsimp only
  go_wp2_with fail
  refine (refInt_any _ _ r1.1 r1.2).mono ?_; rintro e w' ⟨rfl, rfl⟩
  rw [m1.out]
  try dsimp only
  go_wp2_with fail
  refine (lawDo_any 11 _ _ _ (by omega) ha hb).mono ?_; rintro e w3 ⟨rfl, hb3⟩
  have k3 := k2.to hb3
  clear hb3
  rw [m2.out]
  try dsimp only
  go_wp2_with fail
  refine (lawDo_any 2 _ _ _ (by omega) (by omega) ha).mono ?_; rintro e w4 ⟨rfl, hb4⟩
  have k4 := k3.to hb4
  clear hb4
  rw [m0.out]
  try dsimp only
  go_wp2_with fail
  refine (refInt_any _ _ ha.1 ha.2).mono ?_; rintro e w' ⟨rfl, rfl⟩
  try dsimp only
  go_wp2_with fail
  refine (refInt_any _ _ hb.1 hb.2).mono ?_; rintro e w' ⟨rfl, rfl⟩
  try dsimp only
  go_wp2_with fail
  refine (lawDo_any 11 _ _ _ (by omega) ha (by omega)).mono ?_; rintro e w5 ⟨rfl, hb5⟩
  have k5 := k4.to hb5
  clear hb5
  rw [m3.out]
  try dsimp only
  go_wp2_with fail
  refine (lawDo_any 11 _ _ _ (by omega) ha (by omega)).mono ?_; rintro e w6 ⟨rfl, hb6⟩
  have k6 := k5.to hb6
  clear hb6
  rw [m4.out]
  try dsimp only
  go_wp2_with fail
  refine (lawDo_any 11 _ _ _ (by omega) ha (by omega)).mono ?_; rintro e w7 ⟨rfl, hb7⟩
  have k7 := k6.to hb7
  clear hb7
  rw [m5.out]
  try dsimp only
  go_wp2_with fail
  refine (lawDo_any 1 _ _ _ (by omega) ha r2).mono ?_; rintro e w8 ⟨rfl, hb8⟩
  have k8 := k7.to hb8
  clear hb8
  rw [m6.out]
  try dsimp only
  go_wp2_with fail
  go_ret
  exact ⟨rfl, k8⟩

set_option maxHeartbeats 2000000 in
theorem aluLat_lo (op mul div : Int) (w : World) (h : op < 1) :
    Calls Try.prog 10 #[.int .i64 op, .int .i64 mul, .int .i64 div] w fun e w' => e = .returned (.bool true) ∧ Below w.heap.size w w' := by
  have k0 := Kept.refl w
  go_enter Try.func10, Try.ntmps10
  go_wp2_with fail
  refine (alive_any _).mono ?_; rintro e w1 ⟨rfl, hb1⟩
  have k1 := k0.to hb1
  clear hb1
  go_wp2_with fail
  go_ret
  exact ⟨rfl, k1⟩

set_option maxHeartbeats 2000000 in
theorem aluLat_hi (op mul div : Int) (w : World) (h : 41 < op) :
    Calls Try.prog 10 #[.int .i64 op, .int .i64 mul, .int .i64 div] w fun e w' => e = .returned (.bool true) ∧ Below w.heap.size w w' := by
  have k0 := Kept.refl w
  go_enter Try.func10, Try.ntmps10
  go_wp2_with fail
  refine (alive_any _).mono ?_; rintro e w1 ⟨rfl, hb1⟩
  have k1 := k0.to hb1
  clear hb1
  go_wp2_with fail
  go_ret
  exact ⟨rfl, k1⟩

set_option maxHeartbeats 2000000 in
theorem aluLat_no (op mul div : Int) (w : World) (h : 1 ≤ op) (h1 : op ≤ 41) (h2 : op < 11 ∨ 16 < op) :
    Calls Try.prog 10 #[.int .i64 op, .int .i64 mul, .int .i64 div] w fun e w' => e = .returned (.bool true) ∧ Below w.heap.size w w' := by
  have k0 := Kept.refl w
  have k11 : (op == 11) = false := by simp; omega
  have k12 : (op == 12) = false := by simp; omega
  have k13 : (op == 13) = false := by simp; omega
  have k14 : (op == 14) = false := by simp; omega
  have k15 : (op == 15) = false := by simp; omega
  have k16 : (op == 16) = false := by simp; omega
  have m := Lib.hid (latZ_no (mul := mul) (div := div) h2)
  clear h2
  go_enter Try.func10, Try.ntmps10
  go_wp2_with fail
  refine (alive_any _).mono ?_; rintro e w1 ⟨rfl, hb1⟩
  have k1 := k0.to hb1
  clear hb1
  go_wp2_with fail
  refine (latency_any _ _ _ _ _ _ _ _ _ _ _ _ _ _).mono ?_; rintro e w2 ⟨rfl, hb2⟩
  have k2 := k1.to hb2
  clear hb2
  rw [(show latZ mul div op = 1 from m.out)]
  go_wp2_with fail
  go_ret
  exact ⟨rfl, k2⟩

set_option maxHeartbeats 2000000 in
theorem aluLat_11l (mul div : Int) (w : World) (h : mul < 1) :
    Calls Try.prog 10 #[.int .i64 11, .int .i64 mul, .int .i64 div] w fun e w' => e = .returned (.bool true) ∧ Below w.heap.size w w' := by
  have k0 := Kept.refl w
  have m := Lib.hid (show latZ mul div 11 = 1 by rw [latZ_mul (by omega), unitZ_no (.inl h)])
  go_enter Try.func10, Try.ntmps10
  go_wp2_with fail
  refine (alive_any _).mono ?_; rintro e w1 ⟨rfl, hb1⟩
  have k1 := k0.to hb1
  clear hb1
  go_wp2_with fail
  refine (latency_any _ _ _ _ _ _ _ _ _ _ _ _ _ _).mono ?_; rintro e w2 ⟨rfl, hb2⟩
  have k2 := k1.to hb2
  clear hb2
  rw [(show latZ mul div 11 = 1 from m.out)]
  go_wp2_with fail
  go_ret
  exact ⟨rfl, k2⟩

set_option maxHeartbeats 2000000 in
theorem aluLat_11g (mul div : Int) (w : World) (h : 50 < mul) :
    Calls Try.prog 10 #[.int .i64 11, .int .i64 mul, .int .i64 div] w fun e w' => e = .returned (.bool true) ∧ Below w.heap.size w w' := by
  have k0 := Kept.refl w
  have m := Lib.hid (show latZ mul div 11 = 1 by rw [latZ_mul (by omega), unitZ_no (.inr h)])
  go_enter Try.func10, Try.ntmps10
  go_wp2_with fail
  refine (alive_any _).mono ?_; rintro e w1 ⟨rfl, hb1⟩
  have k1 := k0.to hb1
  clear hb1
  go_wp2_with fail
  refine (latency_any _ _ _ _ _ _ _ _ _ _ _ _ _ _).mono ?_; rintro e w2 ⟨rfl, hb2⟩
  have k2 := k1.to hb2
  clear hb2
  rw [(show latZ mul div 11 = 1 from m.out)]
  go_wp2_with fail
  go_ret
  exact ⟨rfl, k2⟩

set_option maxHeartbeats 2000000 in
theorem aluLat_11m (mul div : Int) (w : World) (h : 1 ≤ mul) (h1 : mul ≤ 50) :
    Calls Try.prog 10 #[.int .i64 11, .int .i64 mul, .int .i64 div] w fun e w' => e = .returned (.bool true) ∧ Below w.heap.size w w' := by
  have k0 := Kept.refl w
  have m := Lib.hid (show latZ mul div 11 = mul by rw [latZ_mul (by omega), unitZ_yes h h1])
  go_enter Try.func10, Try.ntmps10
  go_wp2_with fail
  refine (alive_any _).mono ?_; rintro e w1 ⟨rfl, hb1⟩
  have k1 := k0.to hb1
  clear hb1
  go_wp2_with fail
  refine (latency_any _ _ _ _ _ _ _ _ _ _ _ _ _ _).mono ?_; rintro e w2 ⟨rfl, hb2⟩
  have k2 := k1.to hb2
  clear hb2
  rw [(show latZ mul div 11 = mul from m.out)]
  go_wp2_with fail
  go_ret
  exact ⟨rfl, k2⟩

set_option maxHeartbeats 2000000 in
theorem aluLat_12l (mul div : Int) (w : World) (h : mul < 1) :
    Calls Try.prog 10 #[.int .i64 12, .int .i64 mul, .int .i64 div] w fun e w' => e = .returned (.bool true) ∧ Below w.heap.size w w' := by
  have k0 := Kept.refl w
  have m := Lib.hid (show latZ mul div 12 = 1 by rw [latZ_mul (by omega), unitZ_no (.inl h)])
  go_enter Try.func10, Try.ntmps10
  go_wp2_with fail
  refine (alive_any _).mono ?_; rintro e w1 ⟨rfl, hb1⟩
  have k1 := k0.to hb1
  clear hb1
  go_wp2_with fail
  refine (latency_any _ _ _ _ _ _ _ _ _ _ _ _ _ _).mono ?_; rintro e w2 ⟨rfl, hb2⟩
  have k2 := k1.to hb2
  clear hb2
  rw [(show latZ mul div 12 = 1 from m.out)]
  go_wp2_with fail
  go_ret
  exact ⟨rfl, k2⟩

set_option maxHeartbeats 2000000 in
theorem aluLat_12g (mul div : Int) (w : World) (h : 50 < mul) :
    Calls Try.prog 10 #[.int .i64 12, .int .i64 mul, .int .i64 div] w fun e w' => e = .returned (.bool true) ∧ Below w.heap.size w w' := by
  have k0 := Kept.refl w
  have m := Lib.hid (show latZ mul div 12 = 1 by rw [latZ_mul (by omega), unitZ_no (.inr h)])
  go_enter Try.func10, Try.ntmps10
  go_wp2_with fail
  refine (alive_any _).mono ?_; rintro e w1 ⟨rfl, hb1⟩
  have k1 := k0.to hb1
  clear hb1
  go_wp2_with fail
  refine (latency_any _ _ _ _ _ _ _ _ _ _ _ _ _ _).mono ?_; rintro e w2 ⟨rfl, hb2⟩
  have k2 := k1.to hb2
  clear hb2
  rw [(show latZ mul div 12 = 1 from m.out)]
  go_wp2_with fail
  go_ret
  exact ⟨rfl, k2⟩

set_option maxHeartbeats 2000000 in
theorem aluLat_12m (mul div : Int) (w : World) (h : 1 ≤ mul) (h1 : mul ≤ 50) :
    Calls Try.prog 10 #[.int .i64 12, .int .i64 mul, .int .i64 div] w fun e w' => e = .returned (.bool true) ∧ Below w.heap.size w w' := by
  have k0 := Kept.refl w
  have m := Lib.hid (show latZ mul div 12 = mul by rw [latZ_mul (by omega), unitZ_yes h h1])
  go_enter Try.func10, Try.ntmps10
  go_wp2_with fail
  refine (alive_any _).mono ?_; rintro e w1 ⟨rfl, hb1⟩
  have k1 := k0.to hb1
  clear hb1
  go_wp2_with fail
  refine (latency_any _ _ _ _ _ _ _ _ _ _ _ _ _ _).mono ?_; rintro e w2 ⟨rfl, hb2⟩
  have k2 := k1.to hb2
  clear hb2
  rw [(show latZ mul div 12 = mul from m.out)]
  go_wp2_with fail
  go_ret
  exact ⟨rfl, k2⟩

set_option maxHeartbeats 2000000 in
theorem aluLat_13l (mul div : Int) (w : World) (h : div < 1) :
    Calls Try.prog 10 #[.int .i64 13, .int .i64 mul, .int .i64 div] w fun e w' => e = .returned (.bool true) ∧ Below w.heap.size w w' := by
  have k0 := Kept.refl w
  have m := Lib.hid (show latZ mul div 13 = 1 by rw [latZ_div (by omega), unitZ_no (.inl h)])
  go_enter Try.func10, Try.ntmps10
  go_wp2_with fail
  refine (alive_any _).mono ?_; rintro e w1 ⟨rfl, hb1⟩
  have k1 := k0.to hb1
  clear hb1
  go_wp2_with fail
  refine (latency_any _ _ _ _ _ _ _ _ _ _ _ _ _ _).mono ?_; rintro e w2 ⟨rfl, hb2⟩
  have k2 := k1.to hb2
  clear hb2
  rw [(show latZ mul div 13 = 1 from m.out)]
  go_wp2_with fail
  go_ret
  exact ⟨rfl, k2⟩

set_option maxHeartbeats 2000000 in
theorem aluLat_13g (mul div : Int) (w : World) (h : 50 < div) :
    Calls Try.prog 10 #[.int .i64 13, .int .i64 mul, .int .i64 div] w fun e w' => e = .returned (.bool true) ∧ Below w.heap.size w w' := by
  have k0 := Kept.refl w
  have m := Lib.hid (show latZ mul div 13 = 1 by rw [latZ_div (by omega), unitZ_no (.inr h)])
  go_enter Try.func10, Try.ntmps10
  go_wp2_with fail
  refine (alive_any _).mono ?_; rintro e w1 ⟨rfl, hb1⟩
  have k1 := k0.to hb1
  clear hb1
  go_wp2_with fail
  refine (latency_any _ _ _ _ _ _ _ _ _ _ _ _ _ _).mono ?_; rintro e w2 ⟨rfl, hb2⟩
  have k2 := k1.to hb2
  clear hb2
  rw [(show latZ mul div 13 = 1 from m.out)]
  go_wp2_with fail
  go_ret
  exact ⟨rfl, k2⟩

set_option maxHeartbeats 2000000 in
theorem aluLat_13m (mul div : Int) (w : World) (h : 1 ≤ div) (h1 : div ≤ 50) :
    Calls Try.prog 10 #[.int .i64 13, .int .i64 mul, .int .i64 div] w fun e w' => e = .returned (.bool true) ∧ Below w.heap.size w w' := by
  have k0 := Kept.refl w
  have m := Lib.hid (show latZ mul div 13 = div by rw [latZ_div (by omega), unitZ_yes h h1])
  go_enter Try.func10, Try.ntmps10
  go_wp2_with fail
  refine (alive_any _).mono ?_; rintro e w1 ⟨rfl, hb1⟩
  have k1 := k0.to hb1
  clear hb1
  go_wp2_with fail
  refine (latency_any _ _ _ _ _ _ _ _ _ _ _ _ _ _).mono ?_; rintro e w2 ⟨rfl, hb2⟩
  have k2 := k1.to hb2
  clear hb2
  rw [(show latZ mul div 13 = div from m.out)]
  go_wp2_with fail
  go_ret
  exact ⟨rfl, k2⟩

set_option maxHeartbeats 2000000 in
theorem aluLat_14l (mul div : Int) (w : World) (h : div < 1) :
    Calls Try.prog 10 #[.int .i64 14, .int .i64 mul, .int .i64 div] w fun e w' => e = .returned (.bool true) ∧ Below w.heap.size w w' := by
  have k0 := Kept.refl w
  have m := Lib.hid (show latZ mul div 14 = 1 by rw [latZ_div (by omega), unitZ_no (.inl h)])
  go_enter Try.func10, Try.ntmps10
  go_wp2_with fail
  refine (alive_any _).mono ?_; rintro e w1 ⟨rfl, hb1⟩
  have k1 := k0.to hb1
  clear hb1
  go_wp2_with fail
  refine (latency_any _ _ _ _ _ _ _ _ _ _ _ _ _ _).mono ?_; rintro e w2 ⟨rfl, hb2⟩
  have k2 := k1.to hb2
  clear hb2
  rw [(show latZ mul div 14 = 1 from m.out)]
  go_wp2_with fail
  go_ret
  exact ⟨rfl, k2⟩

set_option maxHeartbeats 2000000 in
theorem aluLat_14g (mul div : Int) (w : World) (h : 50 < div) :
    Calls Try.prog 10 #[.int .i64 14, .int .i64 mul, .int .i64 div] w fun e w' => e = .returned (.bool true) ∧ Below w.heap.size w w' := by
  have k0 := Kept.refl w
  have m := Lib.hid (show latZ mul div 14 = 1 by rw [latZ_div (by omega), unitZ_no (.inr h)])
  go_enter Try.func10, Try.ntmps10
  go_wp2_with fail
  refine (alive_any _).mono ?_; rintro e w1 ⟨rfl, hb1⟩
  have k1 := k0.to hb1
  clear hb1
  go_wp2_with fail
  refine (latency_any _ _ _ _ _ _ _ _ _ _ _ _ _ _).mono ?_; rintro e w2 ⟨rfl, hb2⟩
  have k2 := k1.to hb2
  clear hb2
  rw [(show latZ mul div 14 = 1 from m.out)]
  go_wp2_with fail
  go_ret
  exact ⟨rfl, k2⟩

set_option maxHeartbeats 2000000 in
theorem aluLat_14m (mul div : Int) (w : World) (h : 1 ≤ div) (h1 : div ≤ 50) :
    Calls Try.prog 10 #[.int .i64 14, .int .i64 mul, .int .i64 div] w fun e w' => e = .returned (.bool true) ∧ Below w.heap.size w w' := by
  have k0 := Kept.refl w
  have m := Lib.hid (show latZ mul div 14 = div by rw [latZ_div (by omega), unitZ_yes h h1])
  go_enter Try.func10, Try.ntmps10
  go_wp2_with fail
  refine (alive_any _).mono ?_; rintro e w1 ⟨rfl, hb1⟩
  have k1 := k0.to hb1
  clear hb1
  go_wp2_with fail
  refine (latency_any _ _ _ _ _ _ _ _ _ _ _ _ _ _).mono ?_; rintro e w2 ⟨rfl, hb2⟩
  have k2 := k1.to hb2
  clear hb2
  rw [(show latZ mul div 14 = div from m.out)]
  go_wp2_with fail
  go_ret
  exact ⟨rfl, k2⟩

set_option maxHeartbeats 2000000 in
theorem aluLat_15l (mul div : Int) (w : World) (h : div < 1) :
    Calls Try.prog 10 #[.int .i64 15, .int .i64 mul, .int .i64 div] w fun e w' => e = .returned (.bool true) ∧ Below w.heap.size w w' := by
  have k0 := Kept.refl w
  have m := Lib.hid (show latZ mul div 15 = 1 by rw [latZ_div (by omega), unitZ_no (.inl h)])
  go_enter Try.func10, Try.ntmps10
  go_wp2_with fail
  refine (alive_any _).mono ?_; rintro e w1 ⟨rfl, hb1⟩
  have k1 := k0.to hb1
  clear hb1
  go_wp2_with fail
  refine (latency_any _ _ _ _ _ _ _ _ _ _ _ _ _ _).mono ?_; rintro e w2 ⟨rfl, hb2⟩
  have k2 := k1.to hb2
  clear hb2
  rw [(show latZ mul div 15 = 1 from m.out)]
  go_wp2_with fail
  go_ret
  exact ⟨rfl, k2⟩

set_option maxHeartbeats 2000000 in
theorem aluLat_15g (mul div : Int) (w : World) (h : 50 < div) :
    Calls Try.prog 10 #[.int .i64 15, .int .i64 mul, .int .i64 div] w fun e w' => e = .returned (.bool true) ∧ Below w.heap.size w w' := by
  have k0 := Kept.refl w
  have m := Lib.hid (show latZ mul div 15 = 1 by rw [latZ_div (by omega), unitZ_no (.inr h)])
  go_enter Try.func10, Try.ntmps10
  go_wp2_with fail
  refine (alive_any _).mono ?_; rintro e w1 ⟨rfl, hb1⟩
  have k1 := k0.to hb1
  clear hb1
  go_wp2_with fail
  refine (latency_any _ _ _ _ _ _ _ _ _ _ _ _ _ _).mono ?_; rintro e w2 ⟨rfl, hb2⟩
  have k2 := k1.to hb2
  clear hb2
  rw [(show latZ mul div 15 = 1 from m.out)]
  go_wp2_with fail
  go_ret
  exact ⟨rfl, k2⟩

set_option maxHeartbeats 2000000 in
theorem aluLat_15m (mul div : Int) (w : World) (h : 1 ≤ div) (h1 : div ≤ 50) :
    Calls Try.prog 10 #[.int .i64 15, .int .i64 mul, .int .i64 div] w fun e w' => e = .returned (.bool true) ∧ Below w.heap.size w w' := by
  have k0 := Kept.refl w
  have m := Lib.hid (show latZ mul div 15 = div by rw [latZ_div (by omega), unitZ_yes h h1])
  go_enter Try.func10, Try.ntmps10
  go_wp2_with fail
  refine (alive_any _).mono ?_; rintro e w1 ⟨rfl, hb1⟩
  have k1 := k0.to hb1
  clear hb1
  go_wp2_with fail
  refine (latency_any _ _ _ _ _ _ _ _ _ _ _ _ _ _).mono ?_; rintro e w2 ⟨rfl, hb2⟩
  have k2 := k1.to hb2
  clear hb2
  rw [(show latZ mul div 15 = div from m.out)]
  go_wp2_with fail
  go_ret
  exact ⟨rfl, k2⟩

set_option maxHeartbeats 2000000 in
theorem aluLat_16l (mul div : Int) (w : World) (h : div < 1) :
    Calls Try.prog 10 #[.int .i64 16, .int .i64 mul, .int .i64 div] w fun e w' => e = .returned (.bool true) ∧ Below w.heap.size w w' := by
  have k0 := Kept.refl w
  have m := Lib.hid (show latZ mul div 16 = 1 by rw [latZ_div (by omega), unitZ_no (.inl h)])
  go_enter Try.func10, Try.ntmps10
  go_wp2_with fail
  refine (alive_any _).mono ?_; rintro e w1 ⟨rfl, hb1⟩
  have k1 := k0.to hb1
  clear hb1
  go_wp2_with fail
  refine (latency_any _ _ _ _ _ _ _ _ _ _ _ _ _ _).mono ?_; rintro e w2 ⟨rfl, hb2⟩
  have k2 := k1.to hb2
  clear hb2
  rw [(show latZ mul div 16 = 1 from m.out)]
  go_wp2_with fail
  go_ret
  exact ⟨rfl, k2⟩

set_option maxHeartbeats 2000000 in
theorem aluLat_16g (mul div : Int) (w : World) (h : 50 < div) :
    Calls Try.prog 10 #[.int .i64 16, .int .i64 mul, .int .i64 div] w fun e w' => e = .returned (.bool true) ∧ Below w.heap.size w w' := by
  have k0 := Kept.refl w
  have m := Lib.hid (show latZ mul div 16 = 1 by rw [latZ_div (by omega), unitZ_no (.inr h)])
  go_enter Try.func10, Try.ntmps10
  go_wp2_with fail
  refine (alive_any _).mono ?_; rintro e w1 ⟨rfl, hb1⟩
  have k1 := k0.to hb1
  clear hb1
  go_wp2_with fail
  refine (latency_any _ _ _ _ _ _ _ _ _ _ _ _ _ _).mono ?_; rintro e w2 ⟨rfl, hb2⟩
  have k2 := k1.to hb2
  clear hb2
  rw [(show latZ mul div 16 = 1 from m.out)]
  go_wp2_with fail
  go_ret
  exact ⟨rfl, k2⟩

set_option maxHeartbeats 2000000 in
theorem aluLat_16m (mul div : Int) (w : World) (h : 1 ≤ div) (h1 : div ≤ 50) :
    Calls Try.prog 10 #[.int .i64 16, .int .i64 mul, .int .i64 div] w fun e w' => e = .returned (.bool true) ∧ Below w.heap.size w w' := by
  have k0 := Kept.refl w
  have m := Lib.hid (show latZ mul div 16 = div by rw [latZ_div (by omega), unitZ_yes h h1])
  go_enter Try.func10, Try.ntmps10
  go_wp2_with fail
  refine (alive_any _).mono ?_; rintro e w1 ⟨rfl, hb1⟩
  have k1 := k0.to hb1
  clear hb1
  go_wp2_with fail
  refine (latency_any _ _ _ _ _ _ _ _ _ _ _ _ _ _).mono ?_; rintro e w2 ⟨rfl, hb2⟩
  have k2 := k1.to hb2
  clear hb2
  rw [(show latZ mul div 16 = div from m.out)]
  go_wp2_with fail
  go_ret
  exact ⟨rfl, k2⟩

theorem aluLatencies_walk (op mul div : Int) (w : World) (_ho : -9223372036854775808 ≤ op ∧ op ≤ 9223372036854775807) (_hm : -9223372036854775808 ≤ mul ∧ mul ≤ 9223372036854775807) (_hd : -9223372036854775808 ≤ div ∧ div ≤ 9223372036854775807) :
    Calls Try.prog 10 #[.int .i64 op, .int .i64 mul, .int .i64 div] w fun e w' => e = .returned (.bool true) ∧ Below w.heap.size w w' := by
  by_cases h1 : op < 1
  · exact aluLat_lo op mul div w h1
  by_cases h2 : 41 < op
  · exact aluLat_hi op mul div w h2
  by_cases h3 : op < 11 ∨ 16 < op
  · exact aluLat_no op mul div w (by omega) (by omega) h3
  have h4 : op = 11 ∨ op = 12 ∨ op = 13 ∨ op = 14 ∨ op = 15 ∨ op = 16 := by omega
  rcases h4 with rfl | rfl | rfl | rfl | rfl | rfl
  · by_cases g1 : mul < 1
    · exact aluLat_11l mul div w g1
    by_cases g2 : 50 < mul
    · exact aluLat_11g mul div w g2
    · exact aluLat_11m mul div w (by omega) (by omega)
  · by_cases g1 : mul < 1
    · exact aluLat_12l mul div w g1
    by_cases g2 : 50 < mul
    · exact aluLat_12g mul div w g2
    · exact aluLat_12m mul div w (by omega) (by omega)
  · by_cases g1 : div < 1
    · exact aluLat_13l mul div w g1
    by_cases g2 : 50 < div
    · exact aluLat_13g mul div w g2
    · exact aluLat_13m mul div w (by omega) (by omega)
  · by_cases g1 : div < 1
    · exact aluLat_14l mul div w g1
    by_cases g2 : 50 < div
    · exact aluLat_14g mul div w g2
    · exact aluLat_14m mul div w (by omega) (by omega)
  · by_cases g1 : div < 1
    · exact aluLat_15l mul div w g1
    by_cases g2 : 50 < div
    · exact aluLat_15g mul div w g2
    · exact aluLat_15m mul div w (by omega) (by omega)
  · by_cases g1 : div < 1
    · exact aluLat_16l mul div w g1
    by_cases g2 : 50 < div
    · exact aluLat_16g mul div w g2
    · exact aluLat_16m mul div w (by omega) (by omega)

theorem doZ_others {i : Ins} {a b : Int} (h : formZ i.op < 1 ∨ 3 < formZ i.op ∨ rightB i = false) : doZ i a b = 0 ∧ doB i b = true := by
  rcases h with h | h | h
  · exact ⟨doZ_n (by omega) (by omega) (by omega), doB_n (by omega)⟩
  · exact ⟨doZ_n (by omega) (by omega) (by omega), doB_n (by omega)⟩
  · exact ⟨doZ_no h, doB_no h⟩

set_option maxHeartbeats 2000000 in
theorem aluOthers_lo_f0 (i : Ins) (op a b : Int) (w : World) (ha : 0 ≤ a ∧ a ≤ 4294967295) (hb : 0 ≤ b ∧ b ≤ 4294967295) (ho : op < 34) (hf : formZ i.op < 1) :
    Calls Try.prog 11 #[.agg #[.int .i64 i.op, .int .i64 i.d, .int .i64 i.a, .int .i64 i.b, .int .i64 i.imm], .int .i64 op, .int .u32 a, .int .u32 b] w fun e w' => e = .returned (.bool true) ∧ Below w.heap.size w w' := by
  have k0 := Kept.refl w
  replace ha : 0 ≤ a ∧ a < 4294967296 := by omega
  replace hb : 0 ≤ b ∧ b < 4294967296 := by omega
  obtain ⟨m1, m2⟩ := doZ_others (i := i) (a := a) (b := b) (by omega)
  have M1 := Lib.hid m1
  have M2 := Lib.hid m2
  clear m1 m2
  have M3 := Lib.hid (takenB_no (op := op) (a := a) (b := b) (by omega))
  go_enter Try.func11, Try.ntmps11
  go_wp2_with fail
  refine (alive_any _).mono ?_; rintro e w1 ⟨rfl, hb1⟩
  obtain ⟨hc1, hf1⟩ := bcell hb1
  have hz1 : w.heap.size < w1.heap.size := by have := hb1.size; simp at this; omega
  have k1 := (k0.alloc _).to hb1
  clear hb1
  go_wp2_with fail
  refine (do_any i _ _ _ ha hb).mono ?_; rintro e w2 ⟨rfl, hb2⟩
  obtain ⟨hc2, hf2⟩ := bcell hb2
  have hz2 : w.heap.size < w2.heap.size := by have := hb2.size; omega
  have k2 := k1.to hb2
  clear hb2
  rw [M1.out, M2.out]
  go_wp2_with fail
  refine (refForm_any _ _).mono ?_; rintro e w' ⟨rfl, rfl⟩
  go_wp2_with fail
  refine (taken_any _ _ _ _ ha hb).mono ?_; rintro e w' ⟨rfl, rfl⟩
  rw [M3.out]
  go_wp2_with fail
  go_ret
  exact ⟨rfl, k2⟩

set_option maxHeartbeats 2000000 in
theorem aluOthers_lo_f9 (i : Ins) (op a b : Int) (w : World) (ha : 0 ≤ a ∧ a ≤ 4294967295) (hb : 0 ≤ b ∧ b ≤ 4294967295) (ho : op < 34) (hf : 3 < formZ i.op) :
    Calls Try.prog 11 #[.agg #[.int .i64 i.op, .int .i64 i.d, .int .i64 i.a, .int .i64 i.b, .int .i64 i.imm], .int .i64 op, .int .u32 a, .int .u32 b] w fun e w' => e = .returned (.bool true) ∧ Below w.heap.size w w' := by
  have k0 := Kept.refl w
  replace ha : 0 ≤ a ∧ a < 4294967296 := by omega
  replace hb : 0 ≤ b ∧ b < 4294967296 := by omega
  obtain ⟨m1, m2⟩ := doZ_others (i := i) (a := a) (b := b) (by omega)
  have M1 := Lib.hid m1
  have M2 := Lib.hid m2
  clear m1 m2
  have M3 := Lib.hid (takenB_no (op := op) (a := a) (b := b) (by omega))
  go_enter Try.func11, Try.ntmps11
  go_wp2_with fail
  refine (alive_any _).mono ?_; rintro e w1 ⟨rfl, hb1⟩
  obtain ⟨hc1, hf1⟩ := bcell hb1
  have hz1 : w.heap.size < w1.heap.size := by have := hb1.size; simp at this; omega
  have k1 := (k0.alloc _).to hb1
  clear hb1
  go_wp2_with fail
  refine (do_any i _ _ _ ha hb).mono ?_; rintro e w2 ⟨rfl, hb2⟩
  obtain ⟨hc2, hf2⟩ := bcell hb2
  have hz2 : w.heap.size < w2.heap.size := by have := hb2.size; omega
  have k2 := k1.to hb2
  clear hb2
  rw [M1.out, M2.out]
  go_wp2_with fail
  refine (refForm_any _ _).mono ?_; rintro e w' ⟨rfl, rfl⟩
  go_wp2_with fail
  refine (taken_any _ _ _ _ ha hb).mono ?_; rintro e w' ⟨rfl, rfl⟩
  rw [M3.out]
  go_wp2_with fail
  go_ret
  exact ⟨rfl, k2⟩

set_option maxHeartbeats 2000000 in
theorem aluOthers_lo_no (i : Ins) (op a b : Int) (w : World) (ha : 0 ≤ a ∧ a ≤ 4294967295) (hb : 0 ≤ b ∧ b ≤ 4294967295) (ho : op < 34) (hf : 1 ≤ formZ i.op ∧ formZ i.op ≤ 3 ∧ rightB i = false) :
    Calls Try.prog 11 #[.agg #[.int .i64 i.op, .int .i64 i.d, .int .i64 i.a, .int .i64 i.b, .int .i64 i.imm], .int .i64 op, .int .u32 a, .int .u32 b] w fun e w' => e = .returned (.bool true) ∧ Below w.heap.size w w' := by
  have k0 := Kept.refl w
  replace ha : 0 ≤ a ∧ a < 4294967296 := by omega
  replace hb : 0 ≤ b ∧ b < 4294967296 := by omega
  obtain ⟨m1, m2⟩ := doZ_others (i := i) (a := a) (b := b) (by exact .inr (.inr hf.2.2))
  have M1 := Lib.hid m1
  have M2 := Lib.hid m2
  clear m1 m2
  have M3 := Lib.hid (takenB_no (op := op) (a := a) (b := b) (by omega))
  obtain ⟨hf1, hf2, hf3⟩ := hf
  have HF := Lib.hid hf3
  clear hf3
  go_enter Try.func11, Try.ntmps11
  go_wp2_with fail
  refine (alive_any _).mono ?_; rintro e w1 ⟨rfl, hb1⟩
  obtain ⟨hc1, hf1⟩ := bcell hb1
  have hz1 : w.heap.size < w1.heap.size := by have := hb1.size; simp at this; omega
  have k1 := (k0.alloc _).to hb1
  clear hb1
  go_wp2_with fail
  refine (do_any i _ _ _ ha hb).mono ?_; rintro e w2 ⟨rfl, hb2⟩
  obtain ⟨hc2, hf2⟩ := bcell hb2
  have hz2 : w.heap.size < w2.heap.size := by have := hb2.size; omega
  have k2 := k1.to hb2
  clear hb2
  rw [M1.out, M2.out]
  go_wp2_with fail
  refine (refForm_any _ _).mono ?_; rintro e w' ⟨rfl, rfl⟩
  go_wp2_with fail
  refine (rightIns_any i _).mono ?_; rintro e w3 ⟨rfl, hb3⟩
  obtain ⟨hc3, hf3⟩ := bcell hb3
  have hz3 : w.heap.size < w3.heap.size := by have := hb3.size; omega
  have k3 := k2.to hb3
  clear hb3
  rw [HF.out]
  go_wp2_with fail
  refine (taken_any _ _ _ _ ha hb).mono ?_; rintro e w' ⟨rfl, rfl⟩
  rw [M3.out]
  go_wp2_with fail
  go_ret
  exact ⟨rfl, k3⟩

set_option maxHeartbeats 2000000 in
theorem aluOthers_lo_ya (i : Ins) (op a b : Int) (w : World) (ha : 0 ≤ a ∧ a ≤ 4294967295) (hb : 0 ≤ b ∧ b ≤ 4294967295) (ho : op < 34) (hf : 1 ≤ formZ i.op ∧ formZ i.op ≤ 3 ∧ rightB i = true) :
    Calls Try.prog 11 #[.agg #[.int .i64 i.op, .int .i64 i.d, .int .i64 i.a, .int .i64 i.b, .int .i64 i.imm], .int .i64 op, .int .u32 a, .int .u32 b] w fun e w' => e = .returned (.bool true) ∧ Below w.heap.size w w' := by
  have k0 := Kept.refl w
  replace ha : 0 ≤ a ∧ a < 4294967296 := by omega
  replace hb : 0 ≤ b ∧ b < 4294967296 := by omega
  have M3 := Lib.hid (takenB_no (op := op) (a := a) (b := b) (by omega))
  obtain ⟨hf1, hf2, hf3⟩ := hf
  have HF := Lib.hid hf3
  clear hf3
  go_enter Try.func11, Try.ntmps11
  go_wp2_with fail
  refine (alive_any _).mono ?_; rintro e w1 ⟨rfl, hb1⟩
  obtain ⟨hc1, hf1⟩ := bcell hb1
  have hz1 : w.heap.size < w1.heap.size := by have := hb1.size; simp at this; omega
  have k1 := (k0.alloc _).to hb1
  clear hb1
  go_wp2_with fail
  refine (do_any i _ _ _ ha hb).mono ?_; rintro e w2 ⟨rfl, hb2⟩
  obtain ⟨hc2, hf2⟩ := bcell hb2
  have hz2 : w.heap.size < w2.heap.size := by have := hb2.size; omega
  have k2 := k1.to hb2
  clear hb2
  go_wp2_with fail
  refine (refForm_any _ _).mono ?_; rintro e w' ⟨rfl, rfl⟩
  go_wp2_with fail
  refine (rightIns_any i _).mono ?_; rintro e w3 ⟨rfl, hb3⟩
  obtain ⟨hc3, hf3⟩ := bcell hb3
  have hz3 : w.heap.size < w3.heap.size := by have := hb3.size; omega
  have k3 := k2.to hb3
  clear hb3
  rw [HF.out]
  go_wp2_with fail
  refine (taken_any _ _ _ _ ha hb).mono ?_; rintro e w' ⟨rfl, rfl⟩
  rw [M3.out]
  go_wp2_with fail
  go_ret
  exact ⟨rfl, k3⟩

set_option maxHeartbeats 2000000 in
theorem aluOthers_hi_f0 (i : Ins) (op a b : Int) (w : World) (ha : 0 ≤ a ∧ a ≤ 4294967295) (hb : 0 ≤ b ∧ b ≤ 4294967295) (ho : 39 < op) (hf : formZ i.op < 1) :
    Calls Try.prog 11 #[.agg #[.int .i64 i.op, .int .i64 i.d, .int .i64 i.a, .int .i64 i.b, .int .i64 i.imm], .int .i64 op, .int .u32 a, .int .u32 b] w fun e w' => e = .returned (.bool true) ∧ Below w.heap.size w w' := by
  have k0 := Kept.refl w
  replace ha : 0 ≤ a ∧ a < 4294967296 := by omega
  replace hb : 0 ≤ b ∧ b < 4294967296 := by omega
  obtain ⟨m1, m2⟩ := doZ_others (i := i) (a := a) (b := b) (by omega)
  have M1 := Lib.hid m1
  have M2 := Lib.hid m2
  clear m1 m2
  have M3 := Lib.hid (takenB_no (op := op) (a := a) (b := b) (by omega))
  go_enter Try.func11, Try.ntmps11
  go_wp2_with fail
  refine (alive_any _).mono ?_; rintro e w1 ⟨rfl, hb1⟩
  obtain ⟨hc1, hf1⟩ := bcell hb1
  have hz1 : w.heap.size < w1.heap.size := by have := hb1.size; simp at this; omega
  have k1 := (k0.alloc _).to hb1
  clear hb1
  go_wp2_with fail
  refine (do_any i _ _ _ ha hb).mono ?_; rintro e w2 ⟨rfl, hb2⟩
  obtain ⟨hc2, hf2⟩ := bcell hb2
  have hz2 : w.heap.size < w2.heap.size := by have := hb2.size; omega
  have k2 := k1.to hb2
  clear hb2
  rw [M1.out, M2.out]
  go_wp2_with fail
  refine (refForm_any _ _).mono ?_; rintro e w' ⟨rfl, rfl⟩
  go_wp2_with fail
  refine (taken_any _ _ _ _ ha hb).mono ?_; rintro e w' ⟨rfl, rfl⟩
  rw [M3.out]
  go_wp2_with fail
  go_ret
  exact ⟨rfl, k2⟩

set_option maxHeartbeats 2000000 in
theorem aluOthers_hi_f9 (i : Ins) (op a b : Int) (w : World) (ha : 0 ≤ a ∧ a ≤ 4294967295) (hb : 0 ≤ b ∧ b ≤ 4294967295) (ho : 39 < op) (hf : 3 < formZ i.op) :
    Calls Try.prog 11 #[.agg #[.int .i64 i.op, .int .i64 i.d, .int .i64 i.a, .int .i64 i.b, .int .i64 i.imm], .int .i64 op, .int .u32 a, .int .u32 b] w fun e w' => e = .returned (.bool true) ∧ Below w.heap.size w w' := by
  have k0 := Kept.refl w
  replace ha : 0 ≤ a ∧ a < 4294967296 := by omega
  replace hb : 0 ≤ b ∧ b < 4294967296 := by omega
  obtain ⟨m1, m2⟩ := doZ_others (i := i) (a := a) (b := b) (by omega)
  have M1 := Lib.hid m1
  have M2 := Lib.hid m2
  clear m1 m2
  have M3 := Lib.hid (takenB_no (op := op) (a := a) (b := b) (by omega))
  go_enter Try.func11, Try.ntmps11
  go_wp2_with fail
  refine (alive_any _).mono ?_; rintro e w1 ⟨rfl, hb1⟩
  obtain ⟨hc1, hf1⟩ := bcell hb1
  have hz1 : w.heap.size < w1.heap.size := by have := hb1.size; simp at this; omega
  have k1 := (k0.alloc _).to hb1
  clear hb1
  go_wp2_with fail
  refine (do_any i _ _ _ ha hb).mono ?_; rintro e w2 ⟨rfl, hb2⟩
  obtain ⟨hc2, hf2⟩ := bcell hb2
  have hz2 : w.heap.size < w2.heap.size := by have := hb2.size; omega
  have k2 := k1.to hb2
  clear hb2
  rw [M1.out, M2.out]
  go_wp2_with fail
  refine (refForm_any _ _).mono ?_; rintro e w' ⟨rfl, rfl⟩
  go_wp2_with fail
  refine (taken_any _ _ _ _ ha hb).mono ?_; rintro e w' ⟨rfl, rfl⟩
  rw [M3.out]
  go_wp2_with fail
  go_ret
  exact ⟨rfl, k2⟩

set_option maxHeartbeats 2000000 in
theorem aluOthers_hi_no (i : Ins) (op a b : Int) (w : World) (ha : 0 ≤ a ∧ a ≤ 4294967295) (hb : 0 ≤ b ∧ b ≤ 4294967295) (ho : 39 < op) (hf : 1 ≤ formZ i.op ∧ formZ i.op ≤ 3 ∧ rightB i = false) :
    Calls Try.prog 11 #[.agg #[.int .i64 i.op, .int .i64 i.d, .int .i64 i.a, .int .i64 i.b, .int .i64 i.imm], .int .i64 op, .int .u32 a, .int .u32 b] w fun e w' => e = .returned (.bool true) ∧ Below w.heap.size w w' := by
  have k0 := Kept.refl w
  replace ha : 0 ≤ a ∧ a < 4294967296 := by omega
  replace hb : 0 ≤ b ∧ b < 4294967296 := by omega
  obtain ⟨m1, m2⟩ := doZ_others (i := i) (a := a) (b := b) (by exact .inr (.inr hf.2.2))
  have M1 := Lib.hid m1
  have M2 := Lib.hid m2
  clear m1 m2
  have M3 := Lib.hid (takenB_no (op := op) (a := a) (b := b) (by omega))
  obtain ⟨hf1, hf2, hf3⟩ := hf
  have HF := Lib.hid hf3
  clear hf3
  go_enter Try.func11, Try.ntmps11
  go_wp2_with fail
  refine (alive_any _).mono ?_; rintro e w1 ⟨rfl, hb1⟩
  obtain ⟨hc1, hf1⟩ := bcell hb1
  have hz1 : w.heap.size < w1.heap.size := by have := hb1.size; simp at this; omega
  have k1 := (k0.alloc _).to hb1
  clear hb1
  go_wp2_with fail
  refine (do_any i _ _ _ ha hb).mono ?_; rintro e w2 ⟨rfl, hb2⟩
  obtain ⟨hc2, hf2⟩ := bcell hb2
  have hz2 : w.heap.size < w2.heap.size := by have := hb2.size; omega
  have k2 := k1.to hb2
  clear hb2
  rw [M1.out, M2.out]
  go_wp2_with fail
  refine (refForm_any _ _).mono ?_; rintro e w' ⟨rfl, rfl⟩
  go_wp2_with fail
  refine (rightIns_any i _).mono ?_; rintro e w3 ⟨rfl, hb3⟩
  obtain ⟨hc3, hf3⟩ := bcell hb3
  have hz3 : w.heap.size < w3.heap.size := by have := hb3.size; omega
  have k3 := k2.to hb3
  clear hb3
  rw [HF.out]
  go_wp2_with fail
  refine (taken_any _ _ _ _ ha hb).mono ?_; rintro e w' ⟨rfl, rfl⟩
  rw [M3.out]
  go_wp2_with fail
  go_ret
  exact ⟨rfl, k3⟩

set_option maxHeartbeats 2000000 in
theorem aluOthers_hi_ya (i : Ins) (op a b : Int) (w : World) (ha : 0 ≤ a ∧ a ≤ 4294967295) (hb : 0 ≤ b ∧ b ≤ 4294967295) (ho : 39 < op) (hf : 1 ≤ formZ i.op ∧ formZ i.op ≤ 3 ∧ rightB i = true) :
    Calls Try.prog 11 #[.agg #[.int .i64 i.op, .int .i64 i.d, .int .i64 i.a, .int .i64 i.b, .int .i64 i.imm], .int .i64 op, .int .u32 a, .int .u32 b] w fun e w' => e = .returned (.bool true) ∧ Below w.heap.size w w' := by
  have k0 := Kept.refl w
  replace ha : 0 ≤ a ∧ a < 4294967296 := by omega
  replace hb : 0 ≤ b ∧ b < 4294967296 := by omega
  have M3 := Lib.hid (takenB_no (op := op) (a := a) (b := b) (by omega))
  obtain ⟨hf1, hf2, hf3⟩ := hf
  have HF := Lib.hid hf3
  clear hf3
  go_enter Try.func11, Try.ntmps11
  go_wp2_with fail
  refine (alive_any _).mono ?_; rintro e w1 ⟨rfl, hb1⟩
  obtain ⟨hc1, hf1⟩ := bcell hb1
  have hz1 : w.heap.size < w1.heap.size := by have := hb1.size; simp at this; omega
  have k1 := (k0.alloc _).to hb1
  clear hb1
  go_wp2_with fail
  refine (do_any i _ _ _ ha hb).mono ?_; rintro e w2 ⟨rfl, hb2⟩
  obtain ⟨hc2, hf2⟩ := bcell hb2
  have hz2 : w.heap.size < w2.heap.size := by have := hb2.size; omega
  have k2 := k1.to hb2
  clear hb2
  go_wp2_with fail
  refine (refForm_any _ _).mono ?_; rintro e w' ⟨rfl, rfl⟩
  go_wp2_with fail
  refine (rightIns_any i _).mono ?_; rintro e w3 ⟨rfl, hb3⟩
  obtain ⟨hc3, hf3⟩ := bcell hb3
  have hz3 : w.heap.size < w3.heap.size := by have := hb3.size; omega
  have k3 := k2.to hb3
  clear hb3
  rw [HF.out]
  go_wp2_with fail
  refine (taken_any _ _ _ _ ha hb).mono ?_; rintro e w' ⟨rfl, rfl⟩
  rw [M3.out]
  go_wp2_with fail
  go_ret
  exact ⟨rfl, k3⟩

set_option maxHeartbeats 2000000 in
theorem aluOthers_mi_f0 (i : Ins) (op a b : Int) (w : World) (ha : 0 ≤ a ∧ a ≤ 4294967295) (hb : 0 ≤ b ∧ b ≤ 4294967295) (ho : 34 ≤ op ∧ op ≤ 39) (hf : formZ i.op < 1) :
    Calls Try.prog 11 #[.agg #[.int .i64 i.op, .int .i64 i.d, .int .i64 i.a, .int .i64 i.b, .int .i64 i.imm], .int .i64 op, .int .u32 a, .int .u32 b] w fun e w' => e = .returned (.bool true) ∧ Below w.heap.size w w' := by
  have k0 := Kept.refl w
  replace ha : 0 ≤ a ∧ a < 4294967296 := by omega
  replace hb : 0 ≤ b ∧ b < 4294967296 := by omega
  obtain ⟨m1, m2⟩ := doZ_others (i := i) (a := a) (b := b) (by omega)
  have M1 := Lib.hid m1
  have M2 := Lib.hid m2
  clear m1 m2
  obtain ⟨ho1, ho2⟩ := ho
  go_enter Try.func11, Try.ntmps11
  go_wp2_with fail
  refine (alive_any _).mono ?_; rintro e w1 ⟨rfl, hb1⟩
  obtain ⟨hc1, hf1⟩ := bcell hb1
  have hz1 : w.heap.size < w1.heap.size := by have := hb1.size; simp at this; omega
  have k1 := (k0.alloc _).to hb1
  clear hb1
  go_wp2_with fail
  refine (do_any i _ _ _ ha hb).mono ?_; rintro e w2 ⟨rfl, hb2⟩
  obtain ⟨hc2, hf2⟩ := bcell hb2
  have hz2 : w.heap.size < w2.heap.size := by have := hb2.size; omega
  have k2 := k1.to hb2
  clear hb2
  rw [M1.out, M2.out]
  go_wp2_with fail
  refine (refForm_any _ _).mono ?_; rintro e w' ⟨rfl, rfl⟩
  go_wp2_with fail
  go_wp2_with fail
  go_ret
  exact ⟨rfl, k2⟩

set_option maxHeartbeats 2000000 in
theorem aluOthers_mi_f9 (i : Ins) (op a b : Int) (w : World) (ha : 0 ≤ a ∧ a ≤ 4294967295) (hb : 0 ≤ b ∧ b ≤ 4294967295) (ho : 34 ≤ op ∧ op ≤ 39) (hf : 3 < formZ i.op) :
    Calls Try.prog 11 #[.agg #[.int .i64 i.op, .int .i64 i.d, .int .i64 i.a, .int .i64 i.b, .int .i64 i.imm], .int .i64 op, .int .u32 a, .int .u32 b] w fun e w' => e = .returned (.bool true) ∧ Below w.heap.size w w' := by
  have k0 := Kept.refl w
  replace ha : 0 ≤ a ∧ a < 4294967296 := by omega
  replace hb : 0 ≤ b ∧ b < 4294967296 := by omega
  obtain ⟨m1, m2⟩ := doZ_others (i := i) (a := a) (b := b) (by omega)
  have M1 := Lib.hid m1
  have M2 := Lib.hid m2
  clear m1 m2
  obtain ⟨ho1, ho2⟩ := ho
  go_enter Try.func11, Try.ntmps11
  go_wp2_with fail
  refine (alive_any _).mono ?_; rintro e w1 ⟨rfl, hb1⟩
  obtain ⟨hc1, hf1⟩ := bcell hb1
  have hz1 : w.heap.size < w1.heap.size := by have := hb1.size; simp at this; omega
  have k1 := (k0.alloc _).to hb1
  clear hb1
  go_wp2_with fail
  refine (do_any i _ _ _ ha hb).mono ?_; rintro e w2 ⟨rfl, hb2⟩
  obtain ⟨hc2, hf2⟩ := bcell hb2
  have hz2 : w.heap.size < w2.heap.size := by have := hb2.size; omega
  have k2 := k1.to hb2
  clear hb2
  rw [M1.out, M2.out]
  go_wp2_with fail
  refine (refForm_any _ _).mono ?_; rintro e w' ⟨rfl, rfl⟩
  go_wp2_with fail
  go_wp2_with fail
  go_ret
  exact ⟨rfl, k2⟩

set_option maxHeartbeats 2000000 in
theorem aluOthers_mi_no (i : Ins) (op a b : Int) (w : World) (ha : 0 ≤ a ∧ a ≤ 4294967295) (hb : 0 ≤ b ∧ b ≤ 4294967295) (ho : 34 ≤ op ∧ op ≤ 39) (hf : 1 ≤ formZ i.op ∧ formZ i.op ≤ 3 ∧ rightB i = false) :
    Calls Try.prog 11 #[.agg #[.int .i64 i.op, .int .i64 i.d, .int .i64 i.a, .int .i64 i.b, .int .i64 i.imm], .int .i64 op, .int .u32 a, .int .u32 b] w fun e w' => e = .returned (.bool true) ∧ Below w.heap.size w w' := by
  have k0 := Kept.refl w
  replace ha : 0 ≤ a ∧ a < 4294967296 := by omega
  replace hb : 0 ≤ b ∧ b < 4294967296 := by omega
  obtain ⟨m1, m2⟩ := doZ_others (i := i) (a := a) (b := b) (by exact .inr (.inr hf.2.2))
  have M1 := Lib.hid m1
  have M2 := Lib.hid m2
  clear m1 m2
  obtain ⟨ho1, ho2⟩ := ho
  obtain ⟨hf1, hf2, hf3⟩ := hf
  have HF := Lib.hid hf3
  clear hf3
  go_enter Try.func11, Try.ntmps11
  go_wp2_with fail
  refine (alive_any _).mono ?_; rintro e w1 ⟨rfl, hb1⟩
  obtain ⟨hc1, hf1⟩ := bcell hb1
  have hz1 : w.heap.size < w1.heap.size := by have := hb1.size; simp at this; omega
  have k1 := (k0.alloc _).to hb1
  clear hb1
  go_wp2_with fail
  refine (do_any i _ _ _ ha hb).mono ?_; rintro e w2 ⟨rfl, hb2⟩
  obtain ⟨hc2, hf2⟩ := bcell hb2
  have hz2 : w.heap.size < w2.heap.size := by have := hb2.size; omega
  have k2 := k1.to hb2
  clear hb2
  rw [M1.out, M2.out]
  go_wp2_with fail
  refine (refForm_any _ _).mono ?_; rintro e w' ⟨rfl, rfl⟩
  go_wp2_with fail
  refine (rightIns_any i _).mono ?_; rintro e w3 ⟨rfl, hb3⟩
  obtain ⟨hc3, hf3⟩ := bcell hb3
  have hz3 : w.heap.size < w3.heap.size := by have := hb3.size; omega
  have k3 := k2.to hb3
  clear hb3
  rw [HF.out]
  go_wp2_with fail
  go_wp2_with fail
  go_ret
  exact ⟨rfl, k3⟩

set_option maxHeartbeats 2000000 in
theorem aluOthers_mi_ya (i : Ins) (op a b : Int) (w : World) (ha : 0 ≤ a ∧ a ≤ 4294967295) (hb : 0 ≤ b ∧ b ≤ 4294967295) (ho : 34 ≤ op ∧ op ≤ 39) (hf : 1 ≤ formZ i.op ∧ formZ i.op ≤ 3 ∧ rightB i = true) :
    Calls Try.prog 11 #[.agg #[.int .i64 i.op, .int .i64 i.d, .int .i64 i.a, .int .i64 i.b, .int .i64 i.imm], .int .i64 op, .int .u32 a, .int .u32 b] w fun e w' => e = .returned (.bool true) ∧ Below w.heap.size w w' := by
  have k0 := Kept.refl w
  replace ha : 0 ≤ a ∧ a < 4294967296 := by omega
  replace hb : 0 ≤ b ∧ b < 4294967296 := by omega
  obtain ⟨ho1, ho2⟩ := ho
  obtain ⟨hf1, hf2, hf3⟩ := hf
  have HF := Lib.hid hf3
  clear hf3
  go_enter Try.func11, Try.ntmps11
  go_wp2_with fail
  refine (alive_any _).mono ?_; rintro e w1 ⟨rfl, hb1⟩
  obtain ⟨hc1, hf1⟩ := bcell hb1
  have hz1 : w.heap.size < w1.heap.size := by have := hb1.size; simp at this; omega
  have k1 := (k0.alloc _).to hb1
  clear hb1
  go_wp2_with fail
  refine (do_any i _ _ _ ha hb).mono ?_; rintro e w2 ⟨rfl, hb2⟩
  obtain ⟨hc2, hf2⟩ := bcell hb2
  have hz2 : w.heap.size < w2.heap.size := by have := hb2.size; omega
  have k2 := k1.to hb2
  clear hb2
  go_wp2_with fail
  refine (refForm_any _ _).mono ?_; rintro e w' ⟨rfl, rfl⟩
  go_wp2_with fail
  refine (rightIns_any i _).mono ?_; rintro e w3 ⟨rfl, hb3⟩
  obtain ⟨hc3, hf3⟩ := bcell hb3
  have hz3 : w.heap.size < w3.heap.size := by have := hb3.size; omega
  have k3 := k2.to hb3
  clear hb3
  rw [HF.out]
  go_wp2_with fail
  go_wp2_with fail
  go_ret
  exact ⟨rfl, k3⟩

theorem aluOthers_walk (i : Ins) (op a b : Int) (w : World) (_hi : i.Fits) (_ho : -9223372036854775808 ≤ op ∧ op ≤ 9223372036854775807) (ha : 0 ≤ a ∧ a ≤ 4294967295) (hb : 0 ≤ b ∧ b ≤ 4294967295) :
    Calls Try.prog 11 #[.agg #[.int .i64 i.op, .int .i64 i.d, .int .i64 i.a, .int .i64 i.b, .int .i64 i.imm], .int .i64 op, .int .u32 a, .int .u32 b] w fun e w' => e = .returned (.bool true) ∧ Below w.heap.size w w' := by
  by_cases ho : op < 34
  · skip
    by_cases h0 : formZ i.op < 1
    · exact aluOthers_lo_f0 i op a b w ha hb ho h0
    by_cases h9 : 3 < formZ i.op
    · exact aluOthers_lo_f9 i op a b w ha hb ho h9
    cases hr : rightB i
    · exact aluOthers_lo_no i op a b w ha hb ho ⟨by omega, by omega, hr⟩
    · exact aluOthers_lo_ya i op a b w ha hb ho ⟨by omega, by omega, hr⟩
  by_cases ho : 39 < op
  · skip
    by_cases h0 : formZ i.op < 1
    · exact aluOthers_hi_f0 i op a b w ha hb ho h0
    by_cases h9 : 3 < formZ i.op
    · exact aluOthers_hi_f9 i op a b w ha hb ho h9
    cases hr : rightB i
    · exact aluOthers_hi_no i op a b w ha hb ho ⟨by omega, by omega, hr⟩
    · exact aluOthers_hi_ya i op a b w ha hb ho ⟨by omega, by omega, hr⟩
  have ho : 34 ≤ op ∧ op ≤ 39 := by omega
  by_cases h0 : formZ i.op < 1
  · exact aluOthers_mi_f0 i op a b w ha hb ho h0
  by_cases h9 : 3 < formZ i.op
  · exact aluOthers_mi_f9 i op a b w ha hb ho h9
  cases hr : rightB i
  · exact aluOthers_mi_no i op a b w ha hb ho ⟨by omega, by omega, hr⟩
  · exact aluOthers_mi_ya i op a b w ha hb ho ⟨by omega, by omega, hr⟩
end Go.Proofs.Ytfohecmghhpagaa.Words

/- The walk of the law AluNumbers: an operation with a number is that of a register that has it, and two make any word. -/
import Derived.Test.YtfohecmghhpagaaAluLaws
import Derived.LoopTactic
import Derived.LoopN
namespace Go.Proofs.Ytfohecmghhpagaa.Words
open Go.RowKit
set_option linter.unusedVariables false

theorem right_number {op imm : Int} (h : 17 ≤ op ∧ op ≤ 21) (h1 : -8192 ≤ imm) (h2 : imm ≤ 8191) : rightB ⟨op, 1, 2, 0, imm⟩ = true := by
  have ho : op = 17 ∨ op = 18 ∨ op = 19 ∨ op = 20 ∨ op = 21 := by omega
  rcases ho with rfl | rfl | rfl | rfl | rfl
  all_goals simp [rightB, formZ, hasD, hasA, hasB, hasI, fitsB, lowI, highI, h1, h2]
theorem doZ_number {op imm a b : Int} (h : 17 ≤ op ∧ op ≤ 21) (h1 : -8192 ≤ imm) (h2 : imm ≤ 8191) : doZ ⟨op, 1, 2, 0, imm⟩ a b = threeZ (likeZ op) a (imm % 4294967296) :=
  doZ_2 (right_number h h1 h2) (by have := formZ_cases op; simp only; omega)
theorem doB_number {op imm b : Int} (h : 17 ≤ op ∧ op ≤ 24) : doB ⟨op, 1, 2, 0, imm⟩ b = true := doB_n (by have := formZ_cases op; simp only; omega)
theorem right_upper {imm : Int} (h1 : -8192 ≤ imm) (h2 : imm ≤ 8191) : rightB ⟨25, 1, 0, 0, imm⟩ = true := by
  simp [rightB, formZ, hasD, hasA, hasB, hasI, fitsB, lowI, highI, h1, h2]
/-- The highest 14 bits. -/
theorem doZ_high {x : Int} (hx : 0 ≤ x ∧ x < 4294967296) : doZ ⟨25, 1, 0, 0, sgn x / 262144⟩ 0 0 = x / 262144 * 262144 := by
  have hs := sgn_range' hx
  rw [doZ_3 (right_upper (by omega) (by omega)) rfl]
  simp only
  unfold sgn; split <;> omega
theorem doB_high {m b : Int} : doB ⟨25, 1, 0, 0, m⟩ b = true := doB_n (by show formZ 25 ≠ 1; decide)
theorem or_0 {y : Int} (h : 0 ≤ y ∧ y < 512) : bits .or .u32 0 y = y := by
  have := or_low 9 0 y (by omega) (by omega) (by omega) h.1 (by omega) (by omega)
  omega
theorem doZ_mid {y : Int} (h : 0 ≤ y ∧ y < 512) : doZ ⟨19, 1, 2, 0, y⟩ 0 0 = y := by
  rw [doZ_number (by omega) (by omega) (by omega), show likeZ 19 = 4 from rfl, threeZ_4, show y % 4294967296 = y by omega, or_0 h]
theorem doZ_up {m : Int} (h : 0 ≤ m ∧ m < 512) : doZ ⟨22, 1, 2, 0, 9⟩ m 0 = m * 512 := by
  rw [doZ_2 (by decide) (by decide)]
  show threeZ 6 m (9 % 4294967296) = _
  rw [threeZ_6]
  have : (2 : Int) ^ (9 % 4294967296 % 32 : Int).toNat = 512 := rfl
  rw [this]; omega
theorem doZ_low {m y : Int} (hm : 0 ≤ m ∧ m < 512) (h : 0 ≤ y ∧ y < 512) : doZ ⟨19, 1, 2, 0, y⟩ (m * 512) 0 = m * 512 + y := by
  rw [doZ_number (by omega) (by omega) (by omega), show likeZ 19 = 4 from rfl, threeZ_4, show y % 4294967296 = y by omega]
  exact or_low 9 (m * 512) y (by omega) (by omega) (by omega) h.1 (by omega) (by omega)
theorem or_all {x : Int} (hx : 0 ≤ x ∧ x < 4294967296) : threeZ 4 (x / 262144 * 262144) (x / 512 % 512 * 512 + x % 512) = x := by
  rw [threeZ_4, or_low 18 _ _ (by omega) (by omega) (by omega) (by omega) (by omega) (by omega)]
  omega
theorem and_511 (x : Int) (h0 : 0 ≤ x) (h1 : x < 4294967296) : bits .and .u32 x 511 = x % 512 := by
  obtain ⟨a, rfl⟩ := Int.eq_ofNat_of_zero_le h0
  rw [show (511 : Int) = ((511 : Nat) : Int) from rfl, u32_and_nat a 511 (by omega) (by omega), show a &&& 511 = a % 512 from Nat.and_two_pow_sub_one_eq_mod a 9]
  omega

set_option maxHeartbeats 1000000 in
theorem aluNumbers_lo (a x imm : Int) (w : World) (ha : 0 ≤ a ∧ a ≤ 4294967295) (hx : 0 ≤ x ∧ x ≤ 4294967295) (h : imm < -8192) :
    Calls Try.prog 8 #[.int .u32 a, .int .u32 x, .int .i64 imm] w fun e w' => e = .returned (.bool true) ∧ Below w.heap.size w w' := by
  have k0 := Kept.refl w
  go_enter Try.func8, Try.ntmps8
  go_wp2_with fail
  refine (alive_any _).mono ?_; rintro e w1 ⟨rfl, hb1⟩
  have k1 := k0.to hb1
  clear hb1
  go_wp2_with fail
  go_ret
  exact ⟨rfl, k1⟩
set_option maxHeartbeats 1000000 in
theorem aluNumbers_hi (a x imm : Int) (w : World) (ha : 0 ≤ a ∧ a ≤ 4294967295) (hx : 0 ≤ x ∧ x ≤ 4294967295) (h : 8191 < imm) :
    Calls Try.prog 8 #[.int .u32 a, .int .u32 x, .int .i64 imm] w fun e w' => e = .returned (.bool true) ∧ Below w.heap.size w w' := by
  have k0 := Kept.refl w
  go_enter Try.func8, Try.ntmps8
  go_wp2_with fail
  refine (alive_any _).mono ?_; rintro e w1 ⟨rfl, hb1⟩
  have k1 := k0.to hb1
  clear hb1
  go_wp2_with fail
  go_ret
  exact ⟨rfl, k1⟩

set_option maxRecDepth 20000 in
set_option maxHeartbeats 8000000 in
theorem aluNumbers_in (a x imm : Int) (w : World) (ha : 0 ≤ a ∧ a ≤ 4294967295) (hx : 0 ≤ x ∧ x ≤ 4294967295) (h1 : -8192 ≤ imm) (h2 : imm ≤ 8191) :
    Calls Try.prog 8 #[.int .u32 a, .int .u32 x, .int .i64 imm] w fun e w' => e = .returned (.bool true) ∧ Below w.heap.size w w' := by
  replace ha : 0 ≤ a ∧ a < 4294967296 := by omega
  replace hx : 0 ≤ x ∧ x < 4294967296 := by omega
  have k0 := Kept.refl w
  have hm : 0 ≤ imm % 4294967296 ∧ imm % 4294967296 < 4294967296 := by omega
  have hs := sgn_range' hx
  have p1 := and_511 (x / 512) (by omega) (by omega)
  have p2 := and_511 x hx.1 hx.2
  have p3 : 0 ≤ x / 512 % 512 ∧ x / 512 % 512 < 512 := by omega
  have p4 : 0 ≤ x % 512 ∧ x % 512 < 512 := by omega
  go_enter Try.func8, Try.ntmps8
  go_wp2_with fail
  refine (alive_any _).mono ?_; rintro e w1 ⟨rfl, hb1⟩
  have k1 := k0.to hb1
  clear hb1
  go_wp2_with fail
  have kW := (k1.alloc (.cells #[.int .i64 17, .int .i64 18, .int .i64 19, .int .i64 20, .int .i64 21] 3)).alloc (.cells #[.int .i64 1, .int .i64 3, .int .i64 4, .int .i64 5, .int .i64 9] 3)
  have o0 : ((w1.alloc (.cells #[.int .i64 17, .int .i64 18, .int .i64 19, .int .i64 20, .int .i64 21] 3)).alloc (.cells #[.int .i64 1, .int .i64 3, .int .i64 4, .int .i64 5, .int .i64 9] 3)).cell? ⟨w1.heap.size, 0, none⟩ = some (.int .i64 17) := by go_simp
  have r0 : ((w1.alloc (.cells #[.int .i64 17, .int .i64 18, .int .i64 19, .int .i64 20, .int .i64 21] 3)).alloc (.cells #[.int .i64 1, .int .i64 3, .int .i64 4, .int .i64 5, .int .i64 9] 3)).cell? ⟨w1.heap.size + 1, 0, none⟩ = some (.int .i64 1) := by go_simp
  have o1 : ((w1.alloc (.cells #[.int .i64 17, .int .i64 18, .int .i64 19, .int .i64 20, .int .i64 21] 3)).alloc (.cells #[.int .i64 1, .int .i64 3, .int .i64 4, .int .i64 5, .int .i64 9] 3)).cell? ⟨w1.heap.size, 1, none⟩ = some (.int .i64 18) := by go_simp
  have r1 : ((w1.alloc (.cells #[.int .i64 17, .int .i64 18, .int .i64 19, .int .i64 20, .int .i64 21] 3)).alloc (.cells #[.int .i64 1, .int .i64 3, .int .i64 4, .int .i64 5, .int .i64 9] 3)).cell? ⟨w1.heap.size + 1, 1, none⟩ = some (.int .i64 3) := by go_simp
  have o2 : ((w1.alloc (.cells #[.int .i64 17, .int .i64 18, .int .i64 19, .int .i64 20, .int .i64 21] 3)).alloc (.cells #[.int .i64 1, .int .i64 3, .int .i64 4, .int .i64 5, .int .i64 9] 3)).cell? ⟨w1.heap.size, 2, none⟩ = some (.int .i64 19) := by go_simp
  have r2 : ((w1.alloc (.cells #[.int .i64 17, .int .i64 18, .int .i64 19, .int .i64 20, .int .i64 21] 3)).alloc (.cells #[.int .i64 1, .int .i64 3, .int .i64 4, .int .i64 5, .int .i64 9] 3)).cell? ⟨w1.heap.size + 1, 2, none⟩ = some (.int .i64 4) := by go_simp
  have o3 : ((w1.alloc (.cells #[.int .i64 17, .int .i64 18, .int .i64 19, .int .i64 20, .int .i64 21] 3)).alloc (.cells #[.int .i64 1, .int .i64 3, .int .i64 4, .int .i64 5, .int .i64 9] 3)).cell? ⟨w1.heap.size, 3, none⟩ = some (.int .i64 20) := by go_simp
  have r3 : ((w1.alloc (.cells #[.int .i64 17, .int .i64 18, .int .i64 19, .int .i64 20, .int .i64 21] 3)).alloc (.cells #[.int .i64 1, .int .i64 3, .int .i64 4, .int .i64 5, .int .i64 9] 3)).cell? ⟨w1.heap.size + 1, 3, none⟩ = some (.int .i64 5) := by go_simp
  have o4 : ((w1.alloc (.cells #[.int .i64 17, .int .i64 18, .int .i64 19, .int .i64 20, .int .i64 21] 3)).alloc (.cells #[.int .i64 1, .int .i64 3, .int .i64 4, .int .i64 5, .int .i64 9] 3)).cell? ⟨w1.heap.size, 4, none⟩ = some (.int .i64 21) := by go_simp
  have r4 : ((w1.alloc (.cells #[.int .i64 17, .int .i64 18, .int .i64 19, .int .i64 20, .int .i64 21] 3)).alloc (.cells #[.int .i64 1, .int .i64 3, .int .i64 4, .int .i64 5, .int .i64 9] 3)).cell? ⟨w1.heap.size + 1, 4, none⟩ = some (.int .i64 9) := by go_simp
  have s0 : w1.heap.size < ((w1.alloc (.cells #[.int .i64 17, .int .i64 18, .int .i64 19, .int .i64 20, .int .i64 21] 3)).alloc (.cells #[.int .i64 1, .int .i64 3, .int .i64 4, .int .i64 5, .int .i64 9] 3)).heap.size := by simp; omega
  have s1 : w1.heap.size + 1 < ((w1.alloc (.cells #[.int .i64 17, .int .i64 18, .int .i64 19, .int .i64 20, .int .i64 21] 3)).alloc (.cells #[.int .i64 1, .int .i64 3, .int .i64 4, .int .i64 5, .int .i64 9] 3)).heap.size := by simp
  generalize ((w1.alloc (.cells #[.int .i64 17, .int .i64 18, .int .i64 19, .int .i64 20, .int .i64 21] 3)).alloc (.cells #[.int .i64 1, .int .i64 3, .int .i64 4, .int .i64 5, .int .i64 9] 3)) = W at *
  generalize w1.heap.size = B0 at *
  have O0 := Lib.hid (fun (y : World) (h : Kept W y) => h.cell s0 o0)
  have R0 := Lib.hid (fun (y : World) (h : Kept W y) => h.cell s1 r0)
  have O1 := Lib.hid (fun (y : World) (h : Kept W y) => h.cell s0 o1)
  have R1 := Lib.hid (fun (y : World) (h : Kept W y) => h.cell s1 r1)
  have O2 := Lib.hid (fun (y : World) (h : Kept W y) => h.cell s0 o2)
  have R2 := Lib.hid (fun (y : World) (h : Kept W y) => h.cell s1 r2)
  have O3 := Lib.hid (fun (y : World) (h : Kept W y) => h.cell s0 o3)
  have R3 := Lib.hid (fun (y : World) (h : Kept W y) => h.cell s1 r3)
  have O4 := Lib.hid (fun (y : World) (h : Kept W y) => h.cell s0 o4)
  have R4 := Lib.hid (fun (y : World) (h : Kept W y) => h.cell s1 r4)
  clear r0 r1 r2 r3 r4 o1 o2 o3 o4
  clear s0 s1 k1
  have q0 := Kept.refl W
  refine wp_loop_rounds 6 ?_
  rw [rounds_succ]
  go_wp2_with fail
  refine (ins_2 17 imm _ (by omega)).mono ?_; rintro e w2 ⟨rfl, hb⟩
  have q1 := q0.to hb
  clear hb o0
  go_wp2_with fail
  refine (do_any ⟨17, 1, 2, 0, imm⟩ a 7 _ ha (by omega)).mono ?_; rintro e w3 ⟨rfl, hb⟩
  have q2 := q1.to hb
  clear hb
  rw [doZ_number (by omega) h1 h2, doB_number (by omega), show likeZ 17 = 1 from rfl]
  have r0 := R0.out _ q2
  try dsimp only
  go_wp2_with fail
  refine (lawDo_any 1 _ _ _ (by omega) ha hm).mono ?_; rintro e w4 ⟨rfl, hb⟩
  have q3 := q2.to hb
  clear hb r0
  try dsimp only
  go_wp2_with fail
  have o1 := O1.out _ q3
  rw [rounds_succ]
  go_wp2_with fail
  refine (ins_2 18 imm _ (by omega)).mono ?_; rintro e w5 ⟨rfl, hb⟩
  have q4 := q3.to hb
  clear hb o1
  go_wp2_with fail
  refine (do_any ⟨18, 1, 2, 0, imm⟩ a 7 _ ha (by omega)).mono ?_; rintro e w6 ⟨rfl, hb⟩
  have q5 := q4.to hb
  clear hb
  rw [doZ_number (by omega) h1 h2, doB_number (by omega), show likeZ 18 = 3 from rfl]
  have r1 := R1.out _ q5
  try dsimp only
  go_wp2_with fail
  refine (lawDo_any 3 _ _ _ (by omega) ha hm).mono ?_; rintro e w7 ⟨rfl, hb⟩
  have q6 := q5.to hb
  clear hb r1
  try dsimp only
  go_wp2_with fail
  have o2 := O2.out _ q6
  rw [rounds_succ]
  go_wp2_with fail
  refine (ins_2 19 imm _ (by omega)).mono ?_; rintro e w8 ⟨rfl, hb⟩
  have q7 := q6.to hb
  clear hb o2
  go_wp2_with fail
  refine (do_any ⟨19, 1, 2, 0, imm⟩ a 7 _ ha (by omega)).mono ?_; rintro e w9 ⟨rfl, hb⟩
  have q8 := q7.to hb
  clear hb
  rw [doZ_number (by omega) h1 h2, doB_number (by omega), show likeZ 19 = 4 from rfl]
  have r2 := R2.out _ q8
  try dsimp only
  go_wp2_with fail
  refine (lawDo_any 4 _ _ _ (by omega) ha hm).mono ?_; rintro e w10 ⟨rfl, hb⟩
  have q9 := q8.to hb
  clear hb r2
  try dsimp only
  go_wp2_with fail
  have o3 := O3.out _ q9
  rw [rounds_succ]
  go_wp2_with fail
  refine (ins_2 20 imm _ (by omega)).mono ?_; rintro e w11 ⟨rfl, hb⟩
  have q10 := q9.to hb
  clear hb o3
  go_wp2_with fail
  refine (do_any ⟨20, 1, 2, 0, imm⟩ a 7 _ ha (by omega)).mono ?_; rintro e w12 ⟨rfl, hb⟩
  have q11 := q10.to hb
  clear hb
  rw [doZ_number (by omega) h1 h2, doB_number (by omega), show likeZ 20 = 5 from rfl]
  have r3 := R3.out _ q11
  try dsimp only
  go_wp2_with fail
  refine (lawDo_any 5 _ _ _ (by omega) ha hm).mono ?_; rintro e w13 ⟨rfl, hb⟩
  have q12 := q11.to hb
  clear hb r3
  try dsimp only
  go_wp2_with fail
  have o4 := O4.out _ q12
  rw [rounds_succ]
  go_wp2_with fail
  refine (ins_2 21 imm _ (by omega)).mono ?_; rintro e w14 ⟨rfl, hb⟩
  have q13 := q12.to hb
  clear hb o4
  go_wp2_with fail
  refine (do_any ⟨21, 1, 2, 0, imm⟩ a 7 _ ha (by omega)).mono ?_; rintro e w15 ⟨rfl, hb⟩
  have q14 := q13.to hb
  clear hb
  rw [doZ_number (by omega) h1 h2, doB_number (by omega), show likeZ 21 = 9 from rfl]
  have r4 := R4.out _ q14
  try dsimp only
  go_wp2_with fail
  refine (lawDo_any 9 _ _ _ (by omega) ha hm).mono ?_; rintro e w16 ⟨rfl, hb⟩
  have q15 := q14.to hb
  clear hb r4
  try dsimp only
  go_wp2_with fail
  rw [rounds_succ]
  go_wp2_with fail
  refine (refInt_any _ _ hx.1 hx.2).mono ?_; rintro e w' ⟨rfl, rfl⟩
  try dsimp only
  go_wp2_with fail
  refine (ins_25 _ _).mono ?_; rintro e w17 ⟨rfl, hb⟩
  have q16 := q15.to hb
  clear hb
  try dsimp only
  go_wp2_with fail
  refine (do_any ⟨25, 1, 0, 0, sgn x / 262144⟩ 0 0 _ (by omega) (by omega)).mono ?_; rintro e w18 ⟨rfl, hb⟩
  have q17 := q16.to hb
  clear hb
  rw [doZ_high hx, doB_high]
  try dsimp only
  go_wp2_with fail
  refine (ins_2 19 _ _ (by omega)).mono ?_; rintro e w19 ⟨rfl, hb⟩
  have q18 := q17.to hb
  clear hb
  try dsimp only
  go_wp2_with fail
  refine (do_any ⟨19, 1, 2, 0, x / 512 % 512⟩ 0 0 _ (by omega) (by omega)).mono ?_; rintro e w20 ⟨rfl, hb⟩
  have q19 := q18.to hb
  clear hb
  rw [doZ_mid (by omega), doB_number (by omega)]
  try dsimp only
  go_wp2_with fail
  refine (ins_2 22 _ _ (by omega)).mono ?_; rintro e w21 ⟨rfl, hb⟩
  have q20 := q19.to hb
  clear hb
  try dsimp only
  go_wp2_with fail
  refine (do_any ⟨22, 1, 2, 0, 9⟩ (x / 512 % 512) 0 _ (by omega) (by omega)).mono ?_; rintro e w22 ⟨rfl, hb⟩
  have q21 := q20.to hb
  clear hb
  rw [doZ_up (by omega), doB_number (by omega)]
  try dsimp only
  go_wp2_with fail
  refine (ins_2 19 _ _ (by omega)).mono ?_; rintro e w23 ⟨rfl, hb⟩
  have q22 := q21.to hb
  clear hb
  try dsimp only
  go_wp2_with fail
  refine (do_any ⟨19, 1, 2, 0, x % 512⟩ (x / 512 % 512 * 512) 0 _ (by omega) (by omega)).mono ?_; rintro e w24 ⟨rfl, hb⟩
  have q23 := q22.to hb
  clear hb
  rw [doZ_low (by omega) (by omega), doB_number (by omega)]
  try dsimp only
  go_wp2_with fail
  refine (lawDo_any 4 (x / 262144 * 262144) (x / 512 % 512 * 512 + x % 512) _ (by omega) (by omega) (by omega)).mono ?_; rintro e w25 ⟨rfl, hb⟩
  have q24 := q23.to hb
  clear hb
  rw [or_all hx]
  try dsimp only
  go_wp2_with fail
  go_ret
  exact ⟨rfl, Below.trans kW (Below.mono q24 (Below.size kW))⟩

theorem aluNumbers_walk (a x imm : Int) (w : World) (ha : 0 ≤ a ∧ a ≤ 4294967295) (hx : 0 ≤ x ∧ x ≤ 4294967295) (hi : -9223372036854775808 ≤ imm ∧ imm ≤ 9223372036854775807) :
    Calls Try.prog 8 #[.int .u32 a, .int .u32 x, .int .i64 imm] w fun e w' => e = .returned (.bool true) ∧ Below w.heap.size w w' := by
  by_cases h1 : imm < -8192
  · exact aluNumbers_lo a x imm w ha hx h1
  by_cases h2 : 8191 < imm
  · exact aluNumbers_hi a x imm w ha hx h2
  · exact aluNumbers_in a x imm w ha hx (by omega) (by omega)
end Go.Proofs.Ytfohecmghhpagaa.Words

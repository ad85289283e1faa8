/- The walks of the laws of chapter 3 (AluOrders, AluWide, AluLatencies, AluOthers). -/
import Derived.Test.YtfohecmghhpagaaAluLaws
namespace Go.Proofs.Ytfohecmghhpagaa.Words
open Go.RowKit
set_option linter.unusedVariables false


set_option maxHeartbeats 2000000 in
theorem aluOrders_ee (a b : Int) (w : World) (ha : 0 ≤ a ∧ a ≤ 4294967295) (hb : 0 ≤ b ∧ b ≤ 4294967295) (hu : a = b) (hs : sgn a = sgn b) :
    Calls Try.prog 7 #[.int .u32 a, .int .u32 b] w fun e w' => e = .returned (.bool true) ∧ Below w.heap.size w w' := by
  have k0 := Kept.refl w
  replace ha : 0 ≤ a ∧ a < 4294967296 := by omega
  replace hb : 0 ≤ b ∧ b < 4294967296 := by omega
  have q : (a == b) = true := by simp; omega
  have y1 := Lib.hid (show threeZ 9 a b = 0 by rw [threeZ_9]; simp; omega)
  have y2 := Lib.hid (show threeZ 9 b a = 0 by rw [threeZ_9]; simp; omega)
  have y3 := Lib.hid (show threeZ 10 a b = 0 by rw [threeZ_10]; simp; omega)
  have y4 := Lib.hid (show threeZ 10 b a = 0 by rw [threeZ_10]; simp; omega)
  have z34 := Lib.hid (show takenB 34 a b = true by rw [takenB_34]; simp; omega)
  have z35 := Lib.hid (show takenB 35 a b = false by rw [takenB_35]; simp; omega)
  have z36 := Lib.hid (show takenB 36 a b = false by rw [takenB_36]; simp; omega)
  have z37 := Lib.hid (show takenB 37 a b = true by rw [takenB_37]; simp; omega)
  have z38 := Lib.hid (show takenB 38 a b = false by rw [takenB_38]; simp; omega)
  have z39 := Lib.hid (show takenB 39 a b = true by rw [takenB_39]; simp; omega)
  subst hu
  clear hs q
  go_enter Try.func7, Try.ntmps7
  try dsimp only
  go_wp2_with fail
  refine (alive_any _).mono ?_; rintro e w1 ⟨rfl, hb1⟩
  have k1 := k0.to hb1
  clear hb1
  try dsimp only
  go_wp2_with fail
  refine (lawDo_any 9 _ _ _ (by omega) ha hb).mono ?_; rintro e w2 ⟨rfl, hb2⟩
  have k2 := k1.to hb2
  clear hb2
  rw [y1.out]
  try dsimp only
  go_wp2_with fail
  refine (lawDo_any 9 _ _ _ (by omega) hb ha).mono ?_; rintro e w3 ⟨rfl, hb3⟩
  have k3 := k2.to hb3
  clear hb3
  rw [y2.out]
  try dsimp only
  go_wp2_with fail
  refine (lawDo_any 10 _ _ _ (by omega) ha hb).mono ?_; rintro e w4 ⟨rfl, hb4⟩
  have k4 := k3.to hb4
  clear hb4
  rw [y3.out]
  try dsimp only
  go_wp2_with fail
  refine (lawDo_any 10 _ _ _ (by omega) hb ha).mono ?_; rintro e w5 ⟨rfl, hb5⟩
  have k5 := k4.to hb5
  clear hb5
  rw [y4.out]
  try dsimp only
  go_wp2_with fail
  refine (taken_any 34 _ _ _ ha hb).mono ?_; rintro e w' ⟨rfl, rfl⟩
  rw [z34.out]
  try dsimp only
  go_wp2_with fail
  refine (taken_any 35 _ _ _ ha hb).mono ?_; rintro e w' ⟨rfl, rfl⟩
  rw [z35.out]
  try dsimp only
  go_wp2_with fail
  refine (taken_any 36 _ _ _ ha hb).mono ?_; rintro e w' ⟨rfl, rfl⟩
  rw [z36.out]
  try dsimp only
  go_wp2_with fail
  refine (lawDo_any 9 _ _ _ (by omega) ha hb).mono ?_; rintro e w6 ⟨rfl, hb6⟩
  have k6 := k5.to hb6
  clear hb6
  rw [y1.out]
  try dsimp only
  go_wp2_with fail
  refine (taken_any 37 _ _ _ ha hb).mono ?_; rintro e w' ⟨rfl, rfl⟩
  rw [z37.out]
  try dsimp only
  go_wp2_with fail
  refine (taken_any 36 _ _ _ ha hb).mono ?_; rintro e w' ⟨rfl, rfl⟩
  rw [z36.out]
  try dsimp only
  go_wp2_with fail
  refine (taken_any 38 _ _ _ ha hb).mono ?_; rintro e w' ⟨rfl, rfl⟩
  rw [z38.out]
  try dsimp only
  go_wp2_with fail
  refine (lawDo_any 10 _ _ _ (by omega) ha hb).mono ?_; rintro e w7 ⟨rfl, hb7⟩
  have k7 := k6.to hb7
  clear hb7
  rw [y3.out]
  try dsimp only
  go_wp2_with fail
  refine (taken_any 39 _ _ _ ha hb).mono ?_; rintro e w' ⟨rfl, rfl⟩
  rw [z39.out]
  try dsimp only
  go_wp2_with fail
  refine (taken_any 38 _ _ _ ha hb).mono ?_; rintro e w' ⟨rfl, rfl⟩
  rw [z38.out]
  try dsimp only
  go_wp2_with fail
  go_ret
  exact ⟨rfl, k7⟩

set_option maxHeartbeats 2000000 in
theorem aluOrders_ll (a b : Int) (w : World) (ha : 0 ≤ a ∧ a ≤ 4294967295) (hb : 0 ≤ b ∧ b ≤ 4294967295) (hu : a < b) (hs : sgn a < sgn b) :
    Calls Try.prog 7 #[.int .u32 a, .int .u32 b] w fun e w' => e = .returned (.bool true) ∧ Below w.heap.size w w' := by
  have k0 := Kept.refl w
  replace ha : 0 ≤ a ∧ a < 4294967296 := by omega
  replace hb : 0 ≤ b ∧ b < 4294967296 := by omega
  have q : (a == b) = false := by simp; omega
  have y1 := Lib.hid (show threeZ 9 a b = 1 by rw [threeZ_9]; simp; omega)
  have y2 := Lib.hid (show threeZ 9 b a = 0 by rw [threeZ_9]; simp; omega)
  have y3 := Lib.hid (show threeZ 10 a b = 1 by rw [threeZ_10]; simp; omega)
  have y4 := Lib.hid (show threeZ 10 b a = 0 by rw [threeZ_10]; simp; omega)
  have z34 := Lib.hid (show takenB 34 a b = false by rw [takenB_34]; simp; omega)
  have z35 := Lib.hid (show takenB 35 a b = true by rw [takenB_35]; simp; omega)
  have z36 := Lib.hid (show takenB 36 a b = true by rw [takenB_36]; simp; omega)
  have z37 := Lib.hid (show takenB 37 a b = false by rw [takenB_37]; simp; omega)
  have z38 := Lib.hid (show takenB 38 a b = true by rw [takenB_38]; simp; omega)
  have z39 := Lib.hid (show takenB 39 a b = false by rw [takenB_39]; simp; omega)
  clear hu hs
  go_enter Try.func7, Try.ntmps7
  try dsimp only
  go_wp2_with fail
  refine (alive_any _).mono ?_; rintro e w1 ⟨rfl, hb1⟩
  have k1 := k0.to hb1
  clear hb1
  try dsimp only
  go_wp2_with fail
  refine (lawDo_any 9 _ _ _ (by omega) ha hb).mono ?_; rintro e w2 ⟨rfl, hb2⟩
  have k2 := k1.to hb2
  clear hb2
  rw [y1.out]
  try dsimp only
  go_wp2_with fail
  refine (lawDo_any 9 _ _ _ (by omega) hb ha).mono ?_; rintro e w3 ⟨rfl, hb3⟩
  have k3 := k2.to hb3
  clear hb3
  rw [y2.out]
  try dsimp only
  go_wp2_with fail
  refine (lawDo_any 10 _ _ _ (by omega) ha hb).mono ?_; rintro e w4 ⟨rfl, hb4⟩
  have k4 := k3.to hb4
  clear hb4
  rw [y3.out]
  try dsimp only
  go_wp2_with fail
  refine (lawDo_any 10 _ _ _ (by omega) hb ha).mono ?_; rintro e w5 ⟨rfl, hb5⟩
  have k5 := k4.to hb5
  clear hb5
  rw [y4.out]
  try dsimp only
  go_wp2_with fail
  refine (taken_any 34 _ _ _ ha hb).mono ?_; rintro e w' ⟨rfl, rfl⟩
  rw [z34.out]
  try dsimp only
  go_wp2_with fail
  refine (taken_any 35 _ _ _ ha hb).mono ?_; rintro e w' ⟨rfl, rfl⟩
  rw [z35.out]
  try dsimp only
  go_wp2_with fail
  refine (taken_any 36 _ _ _ ha hb).mono ?_; rintro e w' ⟨rfl, rfl⟩
  rw [z36.out]
  try dsimp only
  go_wp2_with fail
  refine (lawDo_any 9 _ _ _ (by omega) ha hb).mono ?_; rintro e w6 ⟨rfl, hb6⟩
  have k6 := k5.to hb6
  clear hb6
  rw [y1.out]
  try dsimp only
  go_wp2_with fail
  refine (taken_any 37 _ _ _ ha hb).mono ?_; rintro e w' ⟨rfl, rfl⟩
  rw [z37.out]
  try dsimp only
  go_wp2_with fail
  refine (taken_any 36 _ _ _ ha hb).mono ?_; rintro e w' ⟨rfl, rfl⟩
  rw [z36.out]
  try dsimp only
  go_wp2_with fail
  refine (taken_any 38 _ _ _ ha hb).mono ?_; rintro e w' ⟨rfl, rfl⟩
  rw [z38.out]
  try dsimp only
  go_wp2_with fail
  refine (lawDo_any 10 _ _ _ (by omega) ha hb).mono ?_; rintro e w7 ⟨rfl, hb7⟩
  have k7 := k6.to hb7
  clear hb7
  rw [y3.out]
  try dsimp only
  go_wp2_with fail
  refine (taken_any 39 _ _ _ ha hb).mono ?_; rintro e w' ⟨rfl, rfl⟩
  rw [z39.out]
  try dsimp only
  go_wp2_with fail
  refine (taken_any 38 _ _ _ ha hb).mono ?_; rintro e w' ⟨rfl, rfl⟩
  rw [z38.out]
  try dsimp only
  go_wp2_with fail
  go_ret
  exact ⟨rfl, k7⟩

set_option maxHeartbeats 2000000 in
theorem aluOrders_lg (a b : Int) (w : World) (ha : 0 ≤ a ∧ a ≤ 4294967295) (hb : 0 ≤ b ∧ b ≤ 4294967295) (hu : a < b) (hs : sgn b < sgn a) :
    Calls Try.prog 7 #[.int .u32 a, .int .u32 b] w fun e w' => e = .returned (.bool true) ∧ Below w.heap.size w w' := by
  have k0 := Kept.refl w
  replace ha : 0 ≤ a ∧ a < 4294967296 := by omega
  replace hb : 0 ≤ b ∧ b < 4294967296 := by omega
  have q : (a == b) = false := by simp; omega
  have y1 := Lib.hid (show threeZ 9 a b = 0 by rw [threeZ_9]; simp; omega)
  have y2 := Lib.hid (show threeZ 9 b a = 1 by rw [threeZ_9]; simp; omega)
  have y3 := Lib.hid (show threeZ 10 a b = 1 by rw [threeZ_10]; simp; omega)
  have y4 := Lib.hid (show threeZ 10 b a = 0 by rw [threeZ_10]; simp; omega)
  have z34 := Lib.hid (show takenB 34 a b = false by rw [takenB_34]; simp; omega)
  have z35 := Lib.hid (show takenB 35 a b = true by rw [takenB_35]; simp; omega)
  have z36 := Lib.hid (show takenB 36 a b = false by rw [takenB_36]; simp; omega)
  have z37 := Lib.hid (show takenB 37 a b = true by rw [takenB_37]; simp; omega)
  have z38 := Lib.hid (show takenB 38 a b = true by rw [takenB_38]; simp; omega)
  have z39 := Lib.hid (show takenB 39 a b = false by rw [takenB_39]; simp; omega)
  clear hu hs
  go_enter Try.func7, Try.ntmps7
  try dsimp only
  go_wp2_with fail
  refine (alive_any _).mono ?_; rintro e w1 ⟨rfl, hb1⟩
  have k1 := k0.to hb1
  clear hb1
  try dsimp only
  go_wp2_with fail
  refine (lawDo_any 9 _ _ _ (by omega) ha hb).mono ?_; rintro e w2 ⟨rfl, hb2⟩
  have k2 := k1.to hb2
  clear hb2
  rw [y1.out]
  try dsimp only
  go_wp2_with fail
  refine (lawDo_any 9 _ _ _ (by omega) hb ha).mono ?_; rintro e w3 ⟨rfl, hb3⟩
  have k3 := k2.to hb3
  clear hb3
  rw [y2.out]
  try dsimp only
  go_wp2_with fail
  refine (lawDo_any 10 _ _ _ (by omega) ha hb).mono ?_; rintro e w4 ⟨rfl, hb4⟩
  have k4 := k3.to hb4
  clear hb4
  rw [y3.out]
  try dsimp only
  go_wp2_with fail
  refine (lawDo_any 10 _ _ _ (by omega) hb ha).mono ?_; rintro e w5 ⟨rfl, hb5⟩
  have k5 := k4.to hb5
  clear hb5
  rw [y4.out]
  try dsimp only
  go_wp2_with fail
  refine (taken_any 34 _ _ _ ha hb).mono ?_; rintro e w' ⟨rfl, rfl⟩
  rw [z34.out]
  try dsimp only
  go_wp2_with fail
  refine (taken_any 35 _ _ _ ha hb).mono ?_; rintro e w' ⟨rfl, rfl⟩
  rw [z35.out]
  try dsimp only
  go_wp2_with fail
  refine (taken_any 36 _ _ _ ha hb).mono ?_; rintro e w' ⟨rfl, rfl⟩
  rw [z36.out]
  try dsimp only
  go_wp2_with fail
  refine (lawDo_any 9 _ _ _ (by omega) ha hb).mono ?_; rintro e w6 ⟨rfl, hb6⟩
  have k6 := k5.to hb6
  clear hb6
  rw [y1.out]
  try dsimp only
  go_wp2_with fail
  refine (taken_any 37 _ _ _ ha hb).mono ?_; rintro e w' ⟨rfl, rfl⟩
  rw [z37.out]
  try dsimp only
  go_wp2_with fail
  refine (taken_any 36 _ _ _ ha hb).mono ?_; rintro e w' ⟨rfl, rfl⟩
  rw [z36.out]
  try dsimp only
  go_wp2_with fail
  refine (taken_any 38 _ _ _ ha hb).mono ?_; rintro e w' ⟨rfl, rfl⟩
  rw [z38.out]
  try dsimp only
  go_wp2_with fail
  refine (lawDo_any 10 _ _ _ (by omega) ha hb).mono ?_; rintro e w7 ⟨rfl, hb7⟩
  have k7 := k6.to hb7
  clear hb7
  rw [y3.out]
  try dsimp only
  go_wp2_with fail
  refine (taken_any 39 _ _ _ ha hb).mono ?_; rintro e w' ⟨rfl, rfl⟩
  rw [z39.out]
  try dsimp only
  go_wp2_with fail
  refine (taken_any 38 _ _ _ ha hb).mono ?_; rintro e w' ⟨rfl, rfl⟩
  rw [z38.out]
  try dsimp only
  go_wp2_with fail
  go_ret
  exact ⟨rfl, k7⟩

set_option maxHeartbeats 2000000 in
theorem aluOrders_gl (a b : Int) (w : World) (ha : 0 ≤ a ∧ a ≤ 4294967295) (hb : 0 ≤ b ∧ b ≤ 4294967295) (hu : b < a) (hs : sgn a < sgn b) :
    Calls Try.prog 7 #[.int .u32 a, .int .u32 b] w fun e w' => e = .returned (.bool true) ∧ Below w.heap.size w w' := by
  have k0 := Kept.refl w
  replace ha : 0 ≤ a ∧ a < 4294967296 := by omega
  replace hb : 0 ≤ b ∧ b < 4294967296 := by omega
  have q : (a == b) = false := by simp; omega
  have y1 := Lib.hid (show threeZ 9 a b = 1 by rw [threeZ_9]; simp; omega)
  have y2 := Lib.hid (show threeZ 9 b a = 0 by rw [threeZ_9]; simp; omega)
  have y3 := Lib.hid (show threeZ 10 a b = 0 by rw [threeZ_10]; simp; omega)
  have y4 := Lib.hid (show threeZ 10 b a = 1 by rw [threeZ_10]; simp; omega)
  have z34 := Lib.hid (show takenB 34 a b = false by rw [takenB_34]; simp; omega)
  have z35 := Lib.hid (show takenB 35 a b = true by rw [takenB_35]; simp; omega)
  have z36 := Lib.hid (show takenB 36 a b = true by rw [takenB_36]; simp; omega)
  have z37 := Lib.hid (show takenB 37 a b = false by rw [takenB_37]; simp; omega)
  have z38 := Lib.hid (show takenB 38 a b = false by rw [takenB_38]; simp; omega)
  have z39 := Lib.hid (show takenB 39 a b = true by rw [takenB_39]; simp; omega)
  clear hu hs
  go_enter Try.func7, Try.ntmps7
  try dsimp only
  go_wp2_with fail
  refine (alive_any _).mono ?_; rintro e w1 ⟨rfl, hb1⟩
  have k1 := k0.to hb1
  clear hb1
  try dsimp only
  go_wp2_with fail
  refine (lawDo_any 9 _ _ _ (by omega) ha hb).mono ?_; rintro e w2 ⟨rfl, hb2⟩
  have k2 := k1.to hb2
  clear hb2
  rw [y1.out]
  try dsimp only
  go_wp2_with fail
  refine (lawDo_any 9 _ _ _ (by omega) hb ha).mono ?_; rintro e w3 ⟨rfl, hb3⟩
  have k3 := k2.to hb3
  clear hb3
  rw [y2.out]
  try dsimp only
  go_wp2_with fail
  refine (lawDo_any 10 _ _ _ (by omega) ha hb).mono ?_; rintro e w4 ⟨rfl, hb4⟩
  have k4 := k3.to hb4
  clear hb4
  rw [y3.out]
  try dsimp only
  go_wp2_with fail
  refine (lawDo_any 10 _ _ _ (by omega) hb ha).mono ?_; rintro e w5 ⟨rfl, hb5⟩
  have k5 := k4.to hb5
  clear hb5
  rw [y4.out]
  try dsimp only
  go_wp2_with fail
  refine (taken_any 34 _ _ _ ha hb).mono ?_; rintro e w' ⟨rfl, rfl⟩
  rw [z34.out]
  try dsimp only
  go_wp2_with fail
  refine (taken_any 35 _ _ _ ha hb).mono ?_; rintro e w' ⟨rfl, rfl⟩
  rw [z35.out]
  try dsimp only
  go_wp2_with fail
  refine (taken_any 36 _ _ _ ha hb).mono ?_; rintro e w' ⟨rfl, rfl⟩
  rw [z36.out]
  try dsimp only
  go_wp2_with fail
  refine (lawDo_any 9 _ _ _ (by omega) ha hb).mono ?_; rintro e w6 ⟨rfl, hb6⟩
  have k6 := k5.to hb6
  clear hb6
  rw [y1.out]
  try dsimp only
  go_wp2_with fail
  refine (taken_any 37 _ _ _ ha hb).mono ?_; rintro e w' ⟨rfl, rfl⟩
  rw [z37.out]
  try dsimp only
  go_wp2_with fail
  refine (taken_any 36 _ _ _ ha hb).mono ?_; rintro e w' ⟨rfl, rfl⟩
  rw [z36.out]
  try dsimp only
  go_wp2_with fail
  refine (taken_any 38 _ _ _ ha hb).mono ?_; rintro e w' ⟨rfl, rfl⟩
  rw [z38.out]
  try dsimp only
  go_wp2_with fail
  refine (lawDo_any 10 _ _ _ (by omega) ha hb).mono ?_; rintro e w7 ⟨rfl, hb7⟩
  have k7 := k6.to hb7
  clear hb7
  rw [y3.out]
  try dsimp only
  go_wp2_with fail
  refine (taken_any 39 _ _ _ ha hb).mono ?_; rintro e w' ⟨rfl, rfl⟩
  rw [z39.out]
  try dsimp only
  go_wp2_with fail
  refine (taken_any 38 _ _ _ ha hb).mono ?_; rintro e w' ⟨rfl, rfl⟩
  rw [z38.out]
  try dsimp only
  go_wp2_with fail
  go_ret
  exact ⟨rfl, k7⟩

set_option maxHeartbeats 2000000 in
theorem aluOrders_gg (a b : Int) (w : World) (ha : 0 ≤ a ∧ a ≤ 4294967295) (hb : 0 ≤ b ∧ b ≤ 4294967295) (hu : b < a) (hs : sgn b < sgn a) :
    Calls Try.prog 7 #[.int .u32 a, .int .u32 b] w fun e w' => e = .returned (.bool true) ∧ Below w.heap.size w w' := by
  have k0 := Kept.refl w
  replace ha : 0 ≤ a ∧ a < 4294967296 := by omega
  replace hb : 0 ≤ b ∧ b < 4294967296 := by omega
  have q : (a == b) = false := by simp; omega
  have y1 := Lib.hid (show threeZ 9 a b = 0 by rw [threeZ_9]; simp; omega)
  have y2 := Lib.hid (show threeZ 9 b a = 1 by rw [threeZ_9]; simp; omega)
  have y3 := Lib.hid (show threeZ 10 a b = 0 by rw [threeZ_10]; simp; omega)
  have y4 := Lib.hid (show threeZ 10 b a = 1 by rw [threeZ_10]; simp; omega)
  have z34 := Lib.hid (show takenB 34 a b = false by rw [takenB_34]; simp; omega)
  have z35 := Lib.hid (show takenB 35 a b = true by rw [takenB_35]; simp; omega)
  have z36 := Lib.hid (show takenB 36 a b = false by rw [takenB_36]; simp; omega)
  have z37 := Lib.hid (show takenB 37 a b = true by rw [takenB_37]; simp; omega)
  have z38 := Lib.hid (show takenB 38 a b = false by rw [takenB_38]; simp; omega)
  have z39 := Lib.hid (show takenB 39 a b = true by rw [takenB_39]; simp; omega)
  clear hu hs
  go_enter Try.func7, Try.ntmps7
  try dsimp only
  go_wp2_with fail
  refine (alive_any _).mono ?_; rintro e w1 ⟨rfl, hb1⟩
  have k1 := k0.to hb1
  clear hb1
  try dsimp only
  go_wp2_with fail
  refine (lawDo_any 9 _ _ _ (by omega) ha hb).mono ?_; rintro e w2 ⟨rfl, hb2⟩
  have k2 := k1.to hb2
  clear hb2
  rw [y1.out]
  try dsimp only
  go_wp2_with fail
  refine (lawDo_any 9 _ _ _ (by omega) hb ha).mono ?_; rintro e w3 ⟨rfl, hb3⟩
  have k3 := k2.to hb3
  clear hb3
  rw [y2.out]
  try dsimp only
  go_wp2_with fail
  refine (lawDo_any 10 _ _ _ (by omega) ha hb).mono ?_; rintro e w4 ⟨rfl, hb4⟩
  have k4 := k3.to hb4
  clear hb4
  rw [y3.out]
  try dsimp only
  go_wp2_with fail
  refine (lawDo_any 10 _ _ _ (by omega) hb ha).mono ?_; rintro e w5 ⟨rfl, hb5⟩
  have k5 := k4.to hb5
  clear hb5
  rw [y4.out]
  try dsimp only
  go_wp2_with fail
  refine (taken_any 34 _ _ _ ha hb).mono ?_; rintro e w' ⟨rfl, rfl⟩
  rw [z34.out]
  try dsimp only
  go_wp2_with fail
  refine (taken_any 35 _ _ _ ha hb).mono ?_; rintro e w' ⟨rfl, rfl⟩
  rw [z35.out]
  try dsimp only
  go_wp2_with fail
  refine (taken_any 36 _ _ _ ha hb).mono ?_; rintro e w' ⟨rfl, rfl⟩
  rw [z36.out]
  try dsimp only
  go_wp2_with fail
  refine (lawDo_any 9 _ _ _ (by omega) ha hb).mono ?_; rintro e w6 ⟨rfl, hb6⟩
  have k6 := k5.to hb6
  clear hb6
  rw [y1.out]
  try dsimp only
  go_wp2_with fail
  refine (taken_any 37 _ _ _ ha hb).mono ?_; rintro e w' ⟨rfl, rfl⟩
  rw [z37.out]
  try dsimp only
  go_wp2_with fail
  refine (taken_any 36 _ _ _ ha hb).mono ?_; rintro e w' ⟨rfl, rfl⟩
  rw [z36.out]
  try dsimp only
  go_wp2_with fail
  refine (taken_any 38 _ _ _ ha hb).mono ?_; rintro e w' ⟨rfl, rfl⟩
  rw [z38.out]
  try dsimp only
  go_wp2_with fail
  refine (lawDo_any 10 _ _ _ (by omega) ha hb).mono ?_; rintro e w7 ⟨rfl, hb7⟩
  have k7 := k6.to hb7
  clear hb7
  rw [y3.out]
  try dsimp only
  go_wp2_with fail
  refine (taken_any 39 _ _ _ ha hb).mono ?_; rintro e w' ⟨rfl, rfl⟩
  rw [z39.out]
  try dsimp only
  go_wp2_with fail
  refine (taken_any 38 _ _ _ ha hb).mono ?_; rintro e w' ⟨rfl, rfl⟩
  rw [z38.out]
  try dsimp only
  go_wp2_with fail
  go_ret
  exact ⟨rfl, k7⟩

theorem sgn_inj {a b : Int} (ha : 0 ≤ a ∧ a < 4294967296) (hb : 0 ≤ b ∧ b < 4294967296) (h : sgn a = sgn b) : a = b := by
  have h1 := sgn_of a ha.1 ha.2
  have h2 := sgn_of b hb.1 hb.2
  rw [← h1, ← h2, h]
theorem aluOrders_walk (a b : Int) (w : World) (ha : 0 ≤ a ∧ a ≤ 4294967295) (hb : 0 ≤ b ∧ b ≤ 4294967295) :
    Calls Try.prog 7 #[.int .u32 a, .int .u32 b] w fun e w' => e = .returned (.bool true) ∧ Below w.heap.size w w' := by
  by_cases he : a = b
  · exact aluOrders_ee a b w ha hb he (by rw [he])
  have hne : sgn a ≠ sgn b := fun h => he (sgn_inj (by omega) (by omega) h)
  by_cases hu : a < b
  · by_cases hs : sgn a < sgn b
    · exact aluOrders_ll a b w ha hb hu hs
    · exact aluOrders_lg a b w ha hb hu (by omega)
  · by_cases hs : sgn a < sgn b
    · exact aluOrders_gl a b w ha hb (by omega) hs
    · exact aluOrders_gg a b w ha hb (by omega) (by omega)
end Go.Proofs.Ytfohecmghhpagaa.Words

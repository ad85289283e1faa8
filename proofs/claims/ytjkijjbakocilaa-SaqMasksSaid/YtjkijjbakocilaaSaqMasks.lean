/- The law SaqMasks walked. -/
import Derived.Test.YtjkijjbakocilaaSaqSame
namespace Go.Proofs.Ytjkijjbakocilaa.Words
set_option maxRecDepth 100000
open Go.RowKit
set_option linter.unusedVariables false
set_option linter.unusedSimpArgs false

theorem mask_bound (u n : Int) (h0 : 0 ≤ u) (h1 : u < 4294967296) : 0 ≤ maskZ u n ∧ maskZ u n ≤ 4294967295 := by
  unfold maskZ; repeat' split
  all_goals omega
theorem shr_u32 (x : Int) (n : Nat) (h0 : 0 ≤ x) (h1 : x < 4294967296) : True := trivial
set_option maxHeartbeats 2000000 in
theorem saqMasks_26 (u addr : Int) (w : World) (hu : 0 ≤ u ∧ u ≤ 4294967295) (ha : 0 ≤ addr ∧ addr ≤ 9223372036854775807) :
    Calls Try.prog 6 #[.int .u32 u, .int .i64 26, .int .i64 addr] w fun e w' => e = .returned (.bool true) ∧ Below w.heap.size w w' := by
  obtain ⟨hu0, hu1⟩ := hu
  obtain ⟨ha0, ha1⟩ := ha
  have q0 : (decide (addr < 0)) = false := by simp; omega
  obtain ⟨m, hm⟩ : ∃ m, m = maskZ u 4 := ⟨_, rfl⟩
  have hm1 : 0 ≤ m ∧ m < 4294967296 := by rw [hm, show maskZ u 4 = u from rfl]; omega
  have HM := Lib.hid hm
  clear hm
  obtain ⟨m0, m1⟩ := hm1
  have EX : Hid (extendZ 26 m = m) := Lib.hid (by simp [extendZ])
  go_enter Try.func6, Try.ntmps6
  go_wp2_with fail
  refine (alive17_any w).mono ?_
  rintro e w1 ⟨rfl, hb⟩
  have B1 := Lib.hid hb
  clear hb
  try dsimp only
  go_wp2_with fail
  refine (refSize_any 26 _).mono ?_
  rintro e _ ⟨rfl, rfl⟩
  rw [show sizeZ 26 = 4 from rfl]
  try dsimp only
  go_wp2_with fail
  refine (refForm_any 26 _).mono ?_
  rintro e _ ⟨rfl, rfl⟩
  rw [show formZ 26 = 4 from rfl]
  try dsimp only
  go_wp2_with fail
  refine (mask_any17 u 4 _ hu0 (by omega)).mono ?_
  rintro e _ ⟨rfl, rfl⟩
  rw [← HM.out]
  try dsimp only
  go_wp2_with fail
  refine (bypass_any17 ⟨addr, 4, 0, true, m⟩ 26 addr _ (by unfold Ent.Fits; simp only; omega)).mono ?_
  rintro e w2 ⟨rfl, hb⟩
  have B2 := Lib.hid (B1.out.trans (hb.mono B1.out.size))
  rw [show bypB ⟨addr, 4, 0, true, m⟩ 26 addr = true by unfold bypB; simp; decide, show bypV ⟨addr, 4, 0, true, m⟩ 26 addr = m by unfold bypV; rw [show bypB ⟨addr, 4, 0, true, m⟩ 26 addr = true by unfold bypB; simp; decide, if_pos rfl]; exact EX.out]
  clear hb
  try dsimp only
  go_wp2_with fail
  refine (bypass_any17 ⟨addr, 4, 0, false, m⟩ 26 addr _ (by unfold Ent.Fits; simp only; omega)).mono ?_
  rintro e w3 ⟨rfl, hb⟩
  have B3 := Lib.hid (B2.out.trans (hb.mono B2.out.size))
  rw [show bypB ⟨addr, 4, 0, false, m⟩ 26 addr = false by unfold bypB; simp, show bypV ⟨addr, 4, 0, false, m⟩ 26 addr = 0 by unfold bypV; rw [show bypB ⟨addr, 4, 0, false, m⟩ 26 addr = false by unfold bypB; simp]; rfl]
  clear hb
  try dsimp only
  go_wp2_with fail
  refine (mask_any17 m 4 _ m0 (by omega)).mono ?_
  rintro e _ ⟨rfl, rfl⟩
  rw [show maskZ m 4 = m from rfl]
  try dsimp only
  go_wp2_with fail
  refine (mask_any17 u 3 _ hu0 (by omega)).mono ?_
  rintro e _ ⟨rfl, rfl⟩
  rw [show maskZ u 3 = 0 from rfl]
  try dsimp only
  go_wp2_with fail
  go_ret
  exact ⟨rfl, B3.out⟩
set_option maxHeartbeats 2000000 in
theorem saqMasks_27 (u addr : Int) (w : World) (hu : 0 ≤ u ∧ u ≤ 4294967295) (ha : 0 ≤ addr ∧ addr ≤ 9223372036854775807) :
    Calls Try.prog 6 #[.int .u32 u, .int .i64 27, .int .i64 addr] w fun e w' => e = .returned (.bool true) ∧ Below w.heap.size w w' := by
  obtain ⟨hu0, hu1⟩ := hu
  obtain ⟨ha0, ha1⟩ := ha
  have q0 : (decide (addr < 0)) = false := by simp; omega
  obtain ⟨m, hm⟩ : ∃ m, m = maskZ u 2 := ⟨_, rfl⟩
  have hm1 : 0 ≤ m ∧ m < 65536 := by rw [hm, show maskZ u 2 = u % 65536 from rfl]; omega
  have HM := Lib.hid hm
  clear hm
  obtain ⟨m0, m1⟩ := hm1
  have q1 : m / 65536 = 0 := by omega
  have EE : Hid (extendZ 27 m = if m % 65536 < 32768 then m % 65536 else m % 65536 + 4294901760) := Lib.hid (by simp [extendZ])
  by_cases hs : m < 32768
  · have EX : Hid (extendZ 27 m = m) := Lib.hid (by rw [EE.out]; split <;> omega)
    have q2 : (m / 32768 == 1) = false := by simp; omega
    clear EE
    go_enter Try.func6, Try.ntmps6
    go_wp2_with fail
    refine (alive17_any w).mono ?_
    rintro e w1 ⟨rfl, hb⟩
    have B1 := Lib.hid hb
    clear hb
    try dsimp only
    go_wp2_with fail
    refine (refSize_any 27 _).mono ?_
    rintro e _ ⟨rfl, rfl⟩
    rw [show sizeZ 27 = 2 from rfl]
    try dsimp only
    go_wp2_with fail
    refine (refForm_any 27 _).mono ?_
    rintro e _ ⟨rfl, rfl⟩
    rw [show formZ 27 = 4 from rfl]
    try dsimp only
    go_wp2_with fail
    refine (mask_any17 u 2 _ hu0 (by omega)).mono ?_
    rintro e _ ⟨rfl, rfl⟩
    rw [← HM.out]
    try dsimp only
    go_wp2_with fail
    refine (bypass_any17 ⟨addr, 2, 0, true, m⟩ 27 addr _ (by unfold Ent.Fits; simp only; omega)).mono ?_
    rintro e w2 ⟨rfl, hb⟩
    have B2 := Lib.hid (B1.out.trans (hb.mono B1.out.size))
    rw [show bypB ⟨addr, 2, 0, true, m⟩ 27 addr = true by unfold bypB; simp; decide, show bypV ⟨addr, 2, 0, true, m⟩ 27 addr = m by unfold bypV; rw [show bypB ⟨addr, 2, 0, true, m⟩ 27 addr = true by unfold bypB; simp; decide, if_pos rfl]; exact EX.out]
    clear hb
    try dsimp only
    go_wp2_with fail
    refine (bypass_any17 ⟨addr, 2, 0, false, m⟩ 27 addr _ (by unfold Ent.Fits; simp only; omega)).mono ?_
    rintro e w3 ⟨rfl, hb⟩
    have B3 := Lib.hid (B2.out.trans (hb.mono B2.out.size))
    rw [show bypB ⟨addr, 2, 0, false, m⟩ 27 addr = false by unfold bypB; simp, show bypV ⟨addr, 2, 0, false, m⟩ 27 addr = 0 by unfold bypV; rw [show bypB ⟨addr, 2, 0, false, m⟩ 27 addr = false by unfold bypB; simp]; rfl]
    clear hb
    try dsimp only
    go_wp2_with fail
    refine (mask_any17 m 2 _ m0 (by omega)).mono ?_
    rintro e _ ⟨rfl, rfl⟩
    rw [show maskZ m 2 = m by rw [show maskZ m 2 = m % 65536 from rfl]; omega]
    try dsimp only
    go_wp2_with fail
    refine (mask_any17 u 3 _ hu0 (by omega)).mono ?_
    rintro e _ ⟨rfl, rfl⟩
    rw [show maskZ u 3 = 0 from rfl]
    try dsimp only
    go_wp2_with fail
    go_ret
    exact ⟨rfl, B3.out⟩
  · have EX : Hid (extendZ 27 m = m + 4294901760) := Lib.hid (by rw [EE.out]; split <;> omega)
    have q2 : (m / 32768 == 1) = true := by simp; omega
    have q3 : ((m + 4294901760) / 32768 == 131071) = true := by simp; omega
    clear EE
    go_enter Try.func6, Try.ntmps6
    go_wp2_with fail
    refine (alive17_any w).mono ?_
    rintro e w1 ⟨rfl, hb⟩
    have B1 := Lib.hid hb
    clear hb
    try dsimp only
    go_wp2_with fail
    refine (refSize_any 27 _).mono ?_
    rintro e _ ⟨rfl, rfl⟩
    rw [show sizeZ 27 = 2 from rfl]
    try dsimp only
    go_wp2_with fail
    refine (refForm_any 27 _).mono ?_
    rintro e _ ⟨rfl, rfl⟩
    rw [show formZ 27 = 4 from rfl]
    try dsimp only
    go_wp2_with fail
    refine (mask_any17 u 2 _ hu0 (by omega)).mono ?_
    rintro e _ ⟨rfl, rfl⟩
    rw [← HM.out]
    try dsimp only
    go_wp2_with fail
    refine (bypass_any17 ⟨addr, 2, 0, true, m⟩ 27 addr _ (by unfold Ent.Fits; simp only; omega)).mono ?_
    rintro e w2 ⟨rfl, hb⟩
    have B2 := Lib.hid (B1.out.trans (hb.mono B1.out.size))
    rw [show bypB ⟨addr, 2, 0, true, m⟩ 27 addr = true by unfold bypB; simp; decide, show bypV ⟨addr, 2, 0, true, m⟩ 27 addr = m + 4294901760 by unfold bypV; rw [show bypB ⟨addr, 2, 0, true, m⟩ 27 addr = true by unfold bypB; simp; decide, if_pos rfl]; exact EX.out]
    clear hb
    try dsimp only
    go_wp2_with fail
    refine (bypass_any17 ⟨addr, 2, 0, false, m⟩ 27 addr _ (by unfold Ent.Fits; simp only; omega)).mono ?_
    rintro e w3 ⟨rfl, hb⟩
    have B3 := Lib.hid (B2.out.trans (hb.mono B2.out.size))
    rw [show bypB ⟨addr, 2, 0, false, m⟩ 27 addr = false by unfold bypB; simp, show bypV ⟨addr, 2, 0, false, m⟩ 27 addr = 0 by unfold bypV; rw [show bypB ⟨addr, 2, 0, false, m⟩ 27 addr = false by unfold bypB; simp]; rfl]
    clear hb
    try dsimp only
    go_wp2_with fail
    refine (mask_any17 m 2 _ m0 (by omega)).mono ?_
    rintro e _ ⟨rfl, rfl⟩
    rw [show maskZ m 2 = m by rw [show maskZ m 2 = m % 65536 from rfl]; omega]
    try dsimp only
    go_wp2_with fail
    refine (mask_any17 u 3 _ hu0 (by omega)).mono ?_
    rintro e _ ⟨rfl, rfl⟩
    rw [show maskZ u 3 = 0 from rfl]
    try dsimp only
    go_wp2_with fail
    refine (mask_any17 (m + 4294901760) 2 _ (by omega) (by omega)).mono ?_
    rintro e _ ⟨rfl, rfl⟩
    rw [show maskZ (m + 4294901760) 2 = m by rw [show maskZ (m + 4294901760) 2 = (m + 4294901760) % 65536 from rfl]; omega]
    try dsimp only
    go_wp2_with fail
    go_ret
    exact ⟨rfl, B3.out⟩
set_option maxHeartbeats 2000000 in
theorem saqMasks_28 (u addr : Int) (w : World) (hu : 0 ≤ u ∧ u ≤ 4294967295) (ha : 0 ≤ addr ∧ addr ≤ 9223372036854775807) :
    Calls Try.prog 6 #[.int .u32 u, .int .i64 28, .int .i64 addr] w fun e w' => e = .returned (.bool true) ∧ Below w.heap.size w w' := by
  obtain ⟨hu0, hu1⟩ := hu
  obtain ⟨ha0, ha1⟩ := ha
  have q0 : (decide (addr < 0)) = false := by simp; omega
  obtain ⟨m, hm⟩ : ∃ m, m = maskZ u 2 := ⟨_, rfl⟩
  have hm1 : 0 ≤ m ∧ m < 65536 := by rw [hm, show maskZ u 2 = u % 65536 from rfl]; omega
  have HM := Lib.hid hm
  clear hm
  obtain ⟨m0, m1⟩ := hm1
  have q1 : m / 65536 = 0 := by omega
  have EX : Hid (extendZ 28 m = m) := Lib.hid (by simp [extendZ])
  go_enter Try.func6, Try.ntmps6
  go_wp2_with fail
  refine (alive17_any w).mono ?_
  rintro e w1 ⟨rfl, hb⟩
  have B1 := Lib.hid hb
  clear hb
  try dsimp only
  go_wp2_with fail
  refine (refSize_any 28 _).mono ?_
  rintro e _ ⟨rfl, rfl⟩
  rw [show sizeZ 28 = 2 from rfl]
  try dsimp only
  go_wp2_with fail
  refine (refForm_any 28 _).mono ?_
  rintro e _ ⟨rfl, rfl⟩
  rw [show formZ 28 = 4 from rfl]
  try dsimp only
  go_wp2_with fail
  refine (mask_any17 u 2 _ hu0 (by omega)).mono ?_
  rintro e _ ⟨rfl, rfl⟩
  rw [← HM.out]
  try dsimp only
  go_wp2_with fail
  refine (bypass_any17 ⟨addr, 2, 0, true, m⟩ 28 addr _ (by unfold Ent.Fits; simp only; omega)).mono ?_
  rintro e w2 ⟨rfl, hb⟩
  have B2 := Lib.hid (B1.out.trans (hb.mono B1.out.size))
  rw [show bypB ⟨addr, 2, 0, true, m⟩ 28 addr = true by unfold bypB; simp; decide, show bypV ⟨addr, 2, 0, true, m⟩ 28 addr = m by unfold bypV; rw [show bypB ⟨addr, 2, 0, true, m⟩ 28 addr = true by unfold bypB; simp; decide, if_pos rfl]; exact EX.out]
  clear hb
  try dsimp only
  go_wp2_with fail
  refine (bypass_any17 ⟨addr, 2, 0, false, m⟩ 28 addr _ (by unfold Ent.Fits; simp only; omega)).mono ?_
  rintro e w3 ⟨rfl, hb⟩
  have B3 := Lib.hid (B2.out.trans (hb.mono B2.out.size))
  rw [show bypB ⟨addr, 2, 0, false, m⟩ 28 addr = false by unfold bypB; simp, show bypV ⟨addr, 2, 0, false, m⟩ 28 addr = 0 by unfold bypV; rw [show bypB ⟨addr, 2, 0, false, m⟩ 28 addr = false by unfold bypB; simp]; rfl]
  clear hb
  try dsimp only
  go_wp2_with fail
  refine (mask_any17 m 2 _ m0 (by omega)).mono ?_
  rintro e _ ⟨rfl, rfl⟩
  rw [show maskZ m 2 = m by rw [show maskZ m 2 = m % 65536 from rfl]; omega]
  try dsimp only
  go_wp2_with fail
  refine (mask_any17 u 3 _ hu0 (by omega)).mono ?_
  rintro e _ ⟨rfl, rfl⟩
  rw [show maskZ u 3 = 0 from rfl]
  try dsimp only
  go_wp2_with fail
  go_ret
  exact ⟨rfl, B3.out⟩
set_option maxHeartbeats 2000000 in
theorem saqMasks_29 (u addr : Int) (w : World) (hu : 0 ≤ u ∧ u ≤ 4294967295) (ha : 0 ≤ addr ∧ addr ≤ 9223372036854775807) :
    Calls Try.prog 6 #[.int .u32 u, .int .i64 29, .int .i64 addr] w fun e w' => e = .returned (.bool true) ∧ Below w.heap.size w w' := by
  obtain ⟨hu0, hu1⟩ := hu
  obtain ⟨ha0, ha1⟩ := ha
  have q0 : (decide (addr < 0)) = false := by simp; omega
  obtain ⟨m, hm⟩ : ∃ m, m = maskZ u 1 := ⟨_, rfl⟩
  have hm1 : 0 ≤ m ∧ m < 256 := by rw [hm, show maskZ u 1 = u % 256 from rfl]; omega
  have HM := Lib.hid hm
  clear hm
  obtain ⟨m0, m1⟩ := hm1
  have q1 : m / 256 = 0 := by omega
  have EE : Hid (extendZ 29 m = if m % 256 < 128 then m % 256 else m % 256 + 4294967040) := Lib.hid (by simp [extendZ])
  by_cases hs : m < 128
  · have EX : Hid (extendZ 29 m = m) := Lib.hid (by rw [EE.out]; split <;> omega)
    have q2 : (m / 128 == 1) = false := by simp; omega
    clear EE
    go_enter Try.func6, Try.ntmps6
    go_wp2_with fail
    refine (alive17_any w).mono ?_
    rintro e w1 ⟨rfl, hb⟩
    have B1 := Lib.hid hb
    clear hb
    try dsimp only
    go_wp2_with fail
    refine (refSize_any 29 _).mono ?_
    rintro e _ ⟨rfl, rfl⟩
    rw [show sizeZ 29 = 1 from rfl]
    try dsimp only
    go_wp2_with fail
    refine (refForm_any 29 _).mono ?_
    rintro e _ ⟨rfl, rfl⟩
    rw [show formZ 29 = 4 from rfl]
    try dsimp only
    go_wp2_with fail
    refine (mask_any17 u 1 _ hu0 (by omega)).mono ?_
    rintro e _ ⟨rfl, rfl⟩
    rw [← HM.out]
    try dsimp only
    go_wp2_with fail
    refine (bypass_any17 ⟨addr, 1, 0, true, m⟩ 29 addr _ (by unfold Ent.Fits; simp only; omega)).mono ?_
    rintro e w2 ⟨rfl, hb⟩
    have B2 := Lib.hid (B1.out.trans (hb.mono B1.out.size))
    rw [show bypB ⟨addr, 1, 0, true, m⟩ 29 addr = true by unfold bypB; simp; decide, show bypV ⟨addr, 1, 0, true, m⟩ 29 addr = m by unfold bypV; rw [show bypB ⟨addr, 1, 0, true, m⟩ 29 addr = true by unfold bypB; simp; decide, if_pos rfl]; exact EX.out]
    clear hb
    try dsimp only
    go_wp2_with fail
    refine (bypass_any17 ⟨addr, 1, 0, false, m⟩ 29 addr _ (by unfold Ent.Fits; simp only; omega)).mono ?_
    rintro e w3 ⟨rfl, hb⟩
    have B3 := Lib.hid (B2.out.trans (hb.mono B2.out.size))
    rw [show bypB ⟨addr, 1, 0, false, m⟩ 29 addr = false by unfold bypB; simp, show bypV ⟨addr, 1, 0, false, m⟩ 29 addr = 0 by unfold bypV; rw [show bypB ⟨addr, 1, 0, false, m⟩ 29 addr = false by unfold bypB; simp]; rfl]
    clear hb
    try dsimp only
    go_wp2_with fail
    refine (mask_any17 m 1 _ m0 (by omega)).mono ?_
    rintro e _ ⟨rfl, rfl⟩
    rw [show maskZ m 1 = m by rw [show maskZ m 1 = m % 256 from rfl]; omega]
    try dsimp only
    go_wp2_with fail
    refine (mask_any17 u 3 _ hu0 (by omega)).mono ?_
    rintro e _ ⟨rfl, rfl⟩
    rw [show maskZ u 3 = 0 from rfl]
    try dsimp only
    go_wp2_with fail
    go_ret
    exact ⟨rfl, B3.out⟩
  · have EX : Hid (extendZ 29 m = m + 4294967040) := Lib.hid (by rw [EE.out]; split <;> omega)
    have q2 : (m / 128 == 1) = true := by simp; omega
    have q3 : ((m + 4294967040) / 128 == 33554431) = true := by simp; omega
    clear EE
    go_enter Try.func6, Try.ntmps6
    go_wp2_with fail
    refine (alive17_any w).mono ?_
    rintro e w1 ⟨rfl, hb⟩
    have B1 := Lib.hid hb
    clear hb
    try dsimp only
    go_wp2_with fail
    refine (refSize_any 29 _).mono ?_
    rintro e _ ⟨rfl, rfl⟩
    rw [show sizeZ 29 = 1 from rfl]
    try dsimp only
    go_wp2_with fail
    refine (refForm_any 29 _).mono ?_
    rintro e _ ⟨rfl, rfl⟩
    rw [show formZ 29 = 4 from rfl]
    try dsimp only
    go_wp2_with fail
    refine (mask_any17 u 1 _ hu0 (by omega)).mono ?_
    rintro e _ ⟨rfl, rfl⟩
    rw [← HM.out]
    try dsimp only
    go_wp2_with fail
    refine (bypass_any17 ⟨addr, 1, 0, true, m⟩ 29 addr _ (by unfold Ent.Fits; simp only; omega)).mono ?_
    rintro e w2 ⟨rfl, hb⟩
    have B2 := Lib.hid (B1.out.trans (hb.mono B1.out.size))
    rw [show bypB ⟨addr, 1, 0, true, m⟩ 29 addr = true by unfold bypB; simp; decide, show bypV ⟨addr, 1, 0, true, m⟩ 29 addr = m + 4294967040 by unfold bypV; rw [show bypB ⟨addr, 1, 0, true, m⟩ 29 addr = true by unfold bypB; simp; decide, if_pos rfl]; exact EX.out]
    clear hb
    try dsimp only
    go_wp2_with fail
    refine (bypass_any17 ⟨addr, 1, 0, false, m⟩ 29 addr _ (by unfold Ent.Fits; simp only; omega)).mono ?_
    rintro e w3 ⟨rfl, hb⟩
    have B3 := Lib.hid (B2.out.trans (hb.mono B2.out.size))
    rw [show bypB ⟨addr, 1, 0, false, m⟩ 29 addr = false by unfold bypB; simp, show bypV ⟨addr, 1, 0, false, m⟩ 29 addr = 0 by unfold bypV; rw [show bypB ⟨addr, 1, 0, false, m⟩ 29 addr = false by unfold bypB; simp]; rfl]
    clear hb
    try dsimp only
    go_wp2_with fail
    refine (mask_any17 m 1 _ m0 (by omega)).mono ?_
    rintro e _ ⟨rfl, rfl⟩
    rw [show maskZ m 1 = m by rw [show maskZ m 1 = m % 256 from rfl]; omega]
    try dsimp only
    go_wp2_with fail
    refine (mask_any17 u 3 _ hu0 (by omega)).mono ?_
    rintro e _ ⟨rfl, rfl⟩
    rw [show maskZ u 3 = 0 from rfl]
    try dsimp only
    go_wp2_with fail
    refine (mask_any17 (m + 4294967040) 1 _ (by omega) (by omega)).mono ?_
    rintro e _ ⟨rfl, rfl⟩
    rw [show maskZ (m + 4294967040) 1 = m by rw [show maskZ (m + 4294967040) 1 = (m + 4294967040) % 256 from rfl]; omega]
    try dsimp only
    go_wp2_with fail
    go_ret
    exact ⟨rfl, B3.out⟩
set_option maxHeartbeats 2000000 in
theorem saqMasks_30 (u addr : Int) (w : World) (hu : 0 ≤ u ∧ u ≤ 4294967295) (ha : 0 ≤ addr ∧ addr ≤ 9223372036854775807) :
    Calls Try.prog 6 #[.int .u32 u, .int .i64 30, .int .i64 addr] w fun e w' => e = .returned (.bool true) ∧ Below w.heap.size w w' := by
  obtain ⟨hu0, hu1⟩ := hu
  obtain ⟨ha0, ha1⟩ := ha
  have q0 : (decide (addr < 0)) = false := by simp; omega
  obtain ⟨m, hm⟩ : ∃ m, m = maskZ u 1 := ⟨_, rfl⟩
  have hm1 : 0 ≤ m ∧ m < 256 := by rw [hm, show maskZ u 1 = u % 256 from rfl]; omega
  have HM := Lib.hid hm
  clear hm
  obtain ⟨m0, m1⟩ := hm1
  have q1 : m / 256 = 0 := by omega
  have EX : Hid (extendZ 30 m = m) := Lib.hid (by simp [extendZ])
  go_enter Try.func6, Try.ntmps6
  go_wp2_with fail
  refine (alive17_any w).mono ?_
  rintro e w1 ⟨rfl, hb⟩
  have B1 := Lib.hid hb
  clear hb
  try dsimp only
  go_wp2_with fail
  refine (refSize_any 30 _).mono ?_
  rintro e _ ⟨rfl, rfl⟩
  rw [show sizeZ 30 = 1 from rfl]
  try dsimp only
  go_wp2_with fail
  refine (refForm_any 30 _).mono ?_
  rintro e _ ⟨rfl, rfl⟩
  rw [show formZ 30 = 4 from rfl]
  try dsimp only
  go_wp2_with fail
  refine (mask_any17 u 1 _ hu0 (by omega)).mono ?_
  rintro e _ ⟨rfl, rfl⟩
  rw [← HM.out]
  try dsimp only
  go_wp2_with fail
  refine (bypass_any17 ⟨addr, 1, 0, true, m⟩ 30 addr _ (by unfold Ent.Fits; simp only; omega)).mono ?_
  rintro e w2 ⟨rfl, hb⟩
  have B2 := Lib.hid (B1.out.trans (hb.mono B1.out.size))
  rw [show bypB ⟨addr, 1, 0, true, m⟩ 30 addr = true by unfold bypB; simp; decide, show bypV ⟨addr, 1, 0, true, m⟩ 30 addr = m by unfold bypV; rw [show bypB ⟨addr, 1, 0, true, m⟩ 30 addr = true by unfold bypB; simp; decide, if_pos rfl]; exact EX.out]
  clear hb
  try dsimp only
  go_wp2_with fail
  refine (bypass_any17 ⟨addr, 1, 0, false, m⟩ 30 addr _ (by unfold Ent.Fits; simp only; omega)).mono ?_
  rintro e w3 ⟨rfl, hb⟩
  have B3 := Lib.hid (B2.out.trans (hb.mono B2.out.size))
  rw [show bypB ⟨addr, 1, 0, false, m⟩ 30 addr = false by unfold bypB; simp, show bypV ⟨addr, 1, 0, false, m⟩ 30 addr = 0 by unfold bypV; rw [show bypB ⟨addr, 1, 0, false, m⟩ 30 addr = false by unfold bypB; simp]; rfl]
  clear hb
  try dsimp only
  go_wp2_with fail
  refine (mask_any17 m 1 _ m0 (by omega)).mono ?_
  rintro e _ ⟨rfl, rfl⟩
  rw [show maskZ m 1 = m by rw [show maskZ m 1 = m % 256 from rfl]; omega]
  try dsimp only
  go_wp2_with fail
  refine (mask_any17 u 3 _ hu0 (by omega)).mono ?_
  rintro e _ ⟨rfl, rfl⟩
  rw [show maskZ u 3 = 0 from rfl]
  try dsimp only
  go_wp2_with fail
  go_ret
  exact ⟨rfl, B3.out⟩
set_option maxHeartbeats 2000000 in
theorem saqMasks_walk (u op addr : Int) (w : World) (hu : 0 ≤ u ∧ u ≤ 4294967295) (ho : -9223372036854775808 ≤ op ∧ op ≤ 9223372036854775807) (ha : -9223372036854775808 ≤ addr ∧ addr ≤ 9223372036854775807) :
    Calls Try.prog 6 #[.int .u32 u, .int .i64 op, .int .i64 addr] w fun e w' => e = .returned (.bool true) ∧ Below w.heap.size w w' := by
  have hfc := formZ_cases op
  by_cases h4 : formZ op = 4
  · by_cases h0 : addr < 0
    · have q0 : (decide (addr < 0)) = true := by simpa using h0
      clear hfc
      have H4 := Lib.hid h4
      clear h4
      go_enter Try.func6, Try.ntmps6
      go_wp2_with fail
      refine (alive17_any w).mono ?_
      rintro e w1 ⟨rfl, hb⟩
      have B1 := Lib.hid hb
      clear hb
      try dsimp only
      go_wp2_with fail
      refine (refSize_any op _).mono ?_
      rintro e _ ⟨rfl, rfl⟩
      try dsimp only
      go_wp2_with fail
      refine (refForm_any op _).mono ?_
      rintro e _ ⟨rfl, rfl⟩
      rw [H4.out]
      try dsimp only
      go_wp2_with fail
      go_ret
      exact ⟨rfl, B1.out⟩
    · have hop : op = 26 ∨ op = 27 ∨ op = 28 ∨ op = 29 ∨ op = 30 := by omega
      clear hfc h4
      rcases hop with rfl | rfl | rfl | rfl | rfl
      · exact saqMasks_26 u addr w hu (by omega)
      · exact saqMasks_27 u addr w hu (by omega)
      · exact saqMasks_28 u addr w hu (by omega)
      · exact saqMasks_29 u addr w hu (by omega)
      · exact saqMasks_30 u addr w hu (by omega)
  · have q0 : (formZ op == 4) = false := by simpa using h4
    clear hfc
    have H4 := Lib.hid h4
    clear h4
    go_enter Try.func6, Try.ntmps6
    go_wp2_with fail
    refine (alive17_any w).mono ?_
    rintro e w1 ⟨rfl, hb⟩
    have B1 := Lib.hid hb
    clear hb
    try dsimp only
    go_wp2_with fail
    refine (refSize_any op _).mono ?_
    rintro e _ ⟨rfl, rfl⟩
    try dsimp only
    go_wp2_with fail
    refine (refForm_any op _).mono ?_
    rintro e _ ⟨rfl, rfl⟩
    try dsimp only
    go_wp2_with fail
    go_ret
    exact ⟨rfl, B1.out⟩
end Go.Proofs.Ytjkijjbakocilaa.Words

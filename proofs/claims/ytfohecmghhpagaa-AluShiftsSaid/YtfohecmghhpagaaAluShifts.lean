/- The walk of the law AluShifts: shifts are by the lowest five bits, bit by bit. -/
import Derived.Test.YtfohecmghhpagaaAluLaws
import Derived.Test.YtfohecmghhpagaaAluBits
import Derived.LoopTactic
import Derived.LoopN
namespace Go.Proofs.Ytfohecmghhpagaa.Words
open Go.RowKit
set_option linter.unusedVariables false

set_option maxRecDepth 20000 in
set_option maxHeartbeats 8000000 in
theorem aluShifts_walk (a n : Int) (w : World) (ha : 0 ≤ a ∧ a ≤ 4294967295) (hn : 0 ≤ n ∧ n ≤ 4294967295) :
    Calls Try.prog 6 #[.int .u32 a, .int .u32 n] w fun e w' => e = .returned (.bool true) ∧ Below w.heap.size w w' := by
  have k0 := Kept.refl w
  replace ha : 0 ≤ a ∧ a < 4294967296 := by omega
  replace hn : 0 ≤ n ∧ n < 4294967296 := by omega
  have h31 := and_31 n hn.1 hn.2
  have r6 := threeZ_range 6 a n ha hn
  have r7 := threeZ_range 7 a n ha hn
  have r8 := threeZ_range 8 a n ha hn
  go_enter Try.func6, Try.ntmps6
  go_wp2_with fail
  refine (alive_any _).mono ?_; rintro e w1 ⟨rfl, hb1⟩
  have k1 := k0.to hb1
  clear hb1
  go_wp2_with fail
  refine (lawDo_any 6 _ _ _ (by omega) ha hn).mono ?_; rintro e w2 ⟨rfl, hb2⟩
  have k2 := k1.to hb2
  clear hb2
  go_wp2_with fail
  refine (lawDo_any 7 _ _ _ (by omega) ha hn).mono ?_; rintro e w3 ⟨rfl, hb3⟩
  have k3 := k2.to hb3
  clear hb3
  go_wp2_with fail
  refine (lawDo_any 8 _ _ _ (by omega) ha hn).mono ?_; rintro e w4 ⟨rfl, hb4⟩
  have k4 := k3.to hb4
  clear hb4
  go_wp2_with fail
  have hk : 0 ≤ n % 32 ∧ n % 32 < 32 := by omega
  have HF := Lib.hid (fun (j : Nat) (hj : j < 32) => shift_facts a n (n % 32) j ha rfl hj)
  have HB := Lib.hid (fun (i : Nat) => bit_cases a i ha)
  clear h31
  generalize threeZ 6 a n = X at *
  generalize threeZ 7 a n = Y at *
  generalize threeZ 8 a n = Z at *
  generalize n % 32 = κ at *
  obtain ⟨hk0, hk1⟩ := hk
  go_loop [10] (fun i => ∃ j : Nat, j ≤ 32 ∧ i = .int .u32 j) (fun i => 32 - (intOf i).toNat)
  case atStart => exact ⟨0, by omega, rfl⟩
  case round =>
    obtain ⟨j, hj, rfl⟩ := hrel
    by_cases hlt : j < 32
    · obtain ⟨f1, f2, f3, f4⟩ := HF.out j hlt
      by_cases h1 : κ ≤ j
      · have x := f1 h1
        clear f1 f2
        rcases HB.out ((j : Int) - κ).toNat with p | p
        · rw [p] at x
          by_cases h2 : (j : Int) + κ < 32
          · obtain ⟨y, z⟩ := f3 h2
            clear f3 f4
            rcases HB.out ((j : Int) + κ).toNat with q | q
            · rw [q] at y z
              go_wp2_with fail
              go_round
              case rel => exact ⟨j + 1, by omega, by go_num⟩
              case measure => simp [intOf]; omega
            · rw [q] at y z
              go_wp2_with fail
              go_round
              case rel => exact ⟨j + 1, by omega, by go_num⟩
              case measure => simp [intOf]; omega
          · obtain ⟨y, z⟩ := f4 h2
            clear f3 f4
            have hs : a / 2147483648 = 0 ∨ a / 2147483648 = 1 := by omega
            rcases hs with q | q
            · rw [q] at z
              go_wp2_with fail
              go_round
              case rel => exact ⟨j + 1, by omega, by go_num⟩
              case measure => simp [intOf]; omega
            · rw [q] at z
              go_wp2_with fail
              go_round
              case rel => exact ⟨j + 1, by omega, by go_num⟩
              case measure => simp [intOf]; omega
        · rw [p] at x
          by_cases h2 : (j : Int) + κ < 32
          · obtain ⟨y, z⟩ := f3 h2
            clear f3 f4
            rcases HB.out ((j : Int) + κ).toNat with q | q
            · rw [q] at y z
              go_wp2_with fail
              go_round
              case rel => exact ⟨j + 1, by omega, by go_num⟩
              case measure => simp [intOf]; omega
            · rw [q] at y z
              go_wp2_with fail
              go_round
              case rel => exact ⟨j + 1, by omega, by go_num⟩
              case measure => simp [intOf]; omega
          · obtain ⟨y, z⟩ := f4 h2
            clear f3 f4
            have hs : a / 2147483648 = 0 ∨ a / 2147483648 = 1 := by omega
            rcases hs with q | q
            · rw [q] at z
              go_wp2_with fail
              go_round
              case rel => exact ⟨j + 1, by omega, by go_num⟩
              case measure => simp [intOf]; omega
            · rw [q] at z
              go_wp2_with fail
              go_round
              case rel => exact ⟨j + 1, by omega, by go_num⟩
              case measure => simp [intOf]; omega
      · have x := f2 h1
        clear f1 f2
        by_cases h2 : (j : Int) + κ < 32
        · obtain ⟨y, z⟩ := f3 h2
          clear f3 f4
          rcases HB.out ((j : Int) + κ).toNat with q | q
          · rw [q] at y z
            go_wp2_with fail
            go_round
            case rel => exact ⟨j + 1, by omega, by go_num⟩
            case measure => simp [intOf]; omega
          · rw [q] at y z
            go_wp2_with fail
            go_round
            case rel => exact ⟨j + 1, by omega, by go_num⟩
            case measure => simp [intOf]; omega
        · obtain ⟨y, z⟩ := f4 h2
          clear f3 f4
          have hs : a / 2147483648 = 0 ∨ a / 2147483648 = 1 := by omega
          rcases hs with q | q
          · rw [q] at z
            go_wp2_with fail
            go_round
            case rel => exact ⟨j + 1, by omega, by go_num⟩
            case measure => simp [intOf]; omega
          · rw [q] at z
            go_wp2_with fail
            go_round
            case rel => exact ⟨j + 1, by omega, by go_num⟩
            case measure => simp [intOf]; omega
    · go_wp2_with fail
      go_ret
      exact ⟨rfl, k4⟩
end Go.Proofs.Ytfohecmghhpagaa.Words

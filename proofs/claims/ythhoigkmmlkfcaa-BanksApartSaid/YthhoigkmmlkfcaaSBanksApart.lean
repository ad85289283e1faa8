/- The law BanksApart walked. -/
import Derived.Test.YthhoigkmmlkfcaaG11
import Derived.BigQuiet
namespace Go.Proofs.Ythhoigkmmlkfcaa.Words
set_option maxRecDepth 100000
open Go.RowKit
set_option linter.unusedVariables false
set_option linter.unusedSimpArgs false

theorem bank_word (u n k : Int) (h0 : 0 ≤ u) (hn : 1 ≤ n) (hk0 : 0 ≤ k) (hk : k < 4) : bankZ (4 * u + k) n = u % n := by
  unfold bankZ
  rw [if_neg (by omega), show (4 * u + k) / 4 = u by omega]
theorem quiet_mine18 {P : Program} {f : FuncId} {args : Array Value} {w : World} {n : Nat} {v : Value} (h : Calls P f args (w.drewN n) fun e w' => e = .returned v ∧ w.drewN n = w') :
    Calls P f args (w.drewN n) fun e w'' => e = .returned v ∧ ∃ m, w'' = w.drewN m := h.mono fun _ _ ⟨he, hm⟩ => ⟨he, n, hm.symm⟩
set_option maxHeartbeats 4000000 in
theorem banksApart_walk (u n : Int) (w : World) (hu : -9223372036854775808 ≤ u ∧ u ≤ 9223372036854775807) (hn : -9223372036854775808 ≤ n ∧ n ≤ 9223372036854775807) :
    Calls Try.prog 7 #[.int .i64 u, .int .i64 n] w fun e w' => e = .returned (.bool true) ∧ Below w.heap.size w w' := by
  obtain ⟨hu0, hu1⟩ := hu
  obtain ⟨hn0, hn1⟩ := hn
  by_cases g1 : u < 0
  · go_enter Try.func7, Try.ntmps7
    go_wp2_with fail
    refine (alive18_any _).mono ?_
    rintro e w1 ⟨rfl, hb⟩
    have B1 := Lib.hid hb
    clear hb
    go_wp2_with fail
    go_ret
    exact ⟨rfl, B1.out⟩
  by_cases g2 : 100000 < u
  · go_enter Try.func7, Try.ntmps7
    go_wp2_with fail
    refine (alive18_any _).mono ?_
    rintro e w1 ⟨rfl, hb⟩
    have B1 := Lib.hid hb
    clear hb
    go_wp2_with fail
    go_ret
    exact ⟨rfl, B1.out⟩
  by_cases g3 : n < 1
  · go_enter Try.func7, Try.ntmps7
    go_wp2_with fail
    refine (alive18_any _).mono ?_
    rintro e w1 ⟨rfl, hb⟩
    have B1 := Lib.hid hb
    clear hb
    go_wp2_with fail
    go_ret
    exact ⟨rfl, B1.out⟩
  by_cases g4 : 16 < n
  · go_enter Try.func7, Try.ntmps7
    go_wp2_with fail
    refine (alive18_any _).mono ?_
    rintro e w1 ⟨rfl, hb⟩
    have B1 := Lib.hid hb
    clear hb
    go_wp2_with fail
    go_ret
    exact ⟨rfl, B1.out⟩
  have e0 : bankZ (4 * u) n = u % n := by have := bank_word u n 0 (by omega) (by omega) (by omega) (by omega); rwa [Int.add_zero] at this
  have e4 : bankZ (4 * u + 4) n = (u + 1) % n := by have := bank_word (u + 1) n 0 (by omega) (by omega) (by omega) (by omega); rw [← this]; congr 1; omega
  have en : bankZ (4 * (u + n)) n = u % n := by have := bank_word (u + n) n 0 (by omega) (by omega) (by omega) (by omega); rw [Int.add_zero] at this; rw [this, Int.add_emod_right]
  have ei : ∀ k : Int, 0 ≤ k → k < 4 → bankZ (4 * u + k) n = u % n := fun k h1 h2 => bank_word u n k (by omega) (by omega) h1 h2
  have h1 := Int.emod_nonneg u (show n ≠ 0 by omega)
  have h2 := Int.emod_lt_of_pos u (show 0 < n by omega)
  have hm : (u % n + 1) % n = (u + 1) % n := by rw [Int.emod_add_emod]
  generalize hb : u % n = b at *
  have E0 := Lib.hid e0
  have E4 := Lib.hid (e4.trans hm.symm)
  have EN := Lib.hid en
  have EI := Lib.hid ei
  clear e0 e4 en ei hb hm
  have hne : (n == 0) = false := by simp; omega
  go_enter Try.func7, Try.ntmps7
  go_wp2_with fail
  refine (alive18_any _).mono ?_
  rintro e w1 ⟨rfl, hb⟩
  have B1 := Lib.hid hb
  clear hb
  go_wp2_with fail
  refine (bank_any (4 * u) n _ (by omega) (by omega)).mono ?_
  rintro e _ ⟨rfl, rfl⟩
  rw [E0.out]
  try dsimp only
  go_wp2_with fail
  go_loopw [7] (fun iv wr => ∃ i : Nat, 1 ≤ i ∧ i ≤ 4 ∧ iv = .int .i64 i ∧ Below w1.heap.size w1 wr) (fun iv _ => 4 - (intOf iv).toNat)
  case atStart => exact ⟨1, by omega, by omega, rfl, Below.refl _ _⟩
  case round =>
    obtain ⟨i, hi1, hi4, rfl, hB⟩ := hrel
    have HB := Lib.hid hB
    clear hB
    by_cases hlt : i < 4
    · have k0 : (0 : Int) ≤ i := by omega
      have k1 : (i : Int) < 4 := by omega
      go_wp2_with fail
      refine (bank_any (4 * u + i) n _ (by omega) (by omega)).mono ?_
      rintro e _ ⟨rfl, rfl⟩
      rw [EI.out i k0 k1]
      try dsimp only
      go_wp2_with fail
      go_roundw
      case rel => exact ⟨i + 1, by omega, by omega, by go_num, HB.out⟩
      case measure => simp only [intOf]; omega
    · have hi : i = 4 := by omega
      subst hi
      clear hi1 hi4 hlt
      go_wp2_with fail
      have q4 : (bankZ (4 * u + 4) n == (b + 1) % n) = true := by rw [E4.out]; simp
      have qn : (bankZ (4 * (u + n)) n == b) = true := by rw [EN.out]; simp
      go_quiet ((go_at_call 10; refine quiet_mine18 (bank_any _ _ _ (by omega) (by omega))))
      go_wp2_with fail
      go_ret
      exact ⟨rfl, Below.drewN_ (B1.out.trans (HB.out.mono B1.out.size)) _⟩
end Go.Proofs.Ythhoigkmmlkfcaa.Words

/- The walk of SeqSums: a loop does as many turns as it is told, and adds up as it should. -/
import Derived.Test.YtjbobihiigeapaaG11
import Derived.Test.YtjbobihiigeapaaSSumsMath
namespace Go.Proofs.Ytjbobihiigeapaa.Words
set_option maxRecDepth 100000
open Go.RowKit
set_option linter.unusedVariables false

set_option maxHeartbeats 400000 in
theorem seqSums_out (n s : Int) (w : World) (h : n < 1 ∨ 60 < n ∨ s < -8192 ∨ 8191 < s) :
    Calls Try.prog 7 #[.int .i64 n, .int .i64 s] w fun e w' => e = .returned (.bool true) ∧ Below w.heap.size w w' := by
  go_enter Try.func7, Try.ntmps7
  go_wp2_with fail
  refine (seqAlive_any _).mono ?_; rintro e w1 ⟨rfl, hb1⟩
  go_wp2
  all_goals first
    | (exfalso; omega)
    | (go_ret; exact ⟨rfl, hb1⟩)

theorem mul_small {n s : Int} (hn : 1 ≤ n ∧ n ≤ 60) (hs : -8192 ≤ s ∧ s ≤ 8191) : -1000000 ≤ n * s ∧ n * s ≤ 1000000 := by
  have h1 : n * (-8192) ≤ n * s := Int.mul_le_mul_of_nonneg_left hs.1 (by omega)
  have h2 : n * s ≤ n * 8191 := Int.mul_le_mul_of_nonneg_left hs.2 (by omega)
  omega

set_option maxHeartbeats 1000000 in
theorem seqSums_in (n s : Int) (w : World) (hn : 1 ≤ n ∧ n ≤ 60) (hs : -8192 ≤ s ∧ s ≤ 8191) :
    Calls Try.prog 7 #[.int .i64 n, .int .i64 s] w fun e w' => e = .returned (.bool true) ∧ Below w.heap.size w w' := by
  obtain ⟨m1, m2⟩ := mul_small hn hs
  have hrun : Hid (runZ (sumsP n s) 1000 = sumE 0 ((n * s) % 4294967296) (2 + 3 * n)) := by
    obtain ⟨k, rfl⟩ : ∃ k : Nat, n = (k : Int) := ⟨n.toNat, by omega⟩
    exact sums_run hn hs
  obtain ⟨n1, n2⟩ := hn
  obtain ⟨s1, s2⟩ := hs
  go_enter Try.func7, Try.ntmps7
  go_wp2_with fail
  refine (seqAlive_any _).mono ?_; rintro e w1 ⟨rfl, hb1⟩
  have HB1 := Lib.hid hb1
  clear hb1
  go_wp2_with fail
  have HB2 := Lib.hid ((HB1.out.alloc HB1.out.size (.cells #[.int .i64 17, .int .i64 1, .int .i64 0, .int .i64 0, .int .i64 n, .int .i64 17, .int .i64 2, .int .i64 2, .int .i64 0, .int .i64 s, .int .i64 17, .int .i64 1, .int .i64 1, .int .i64 0, .int .i64 (-1), .int .i64 35, .int .i64 0, .int .i64 1, .int .i64 0, .int .i64 (-2), .int .i64 41, .int .i64 0, .int .i64 0, .int .i64 0, .int .i64 0] 51)).alloc (by have := HB1.out.size; simp; omega) (.cells #[.slice (some ⟨w1.heap.size, 0, none⟩) 5 5, .int .i64 0, .slice none 0 0] 25))
  have HP : Hid (ProgV ((w1.alloc (.cells #[.int .i64 17, .int .i64 1, .int .i64 0, .int .i64 0, .int .i64 n, .int .i64 17, .int .i64 2, .int .i64 2, .int .i64 0, .int .i64 s, .int .i64 17, .int .i64 1, .int .i64 1, .int .i64 0, .int .i64 (-1), .int .i64 35, .int .i64 0, .int .i64 1, .int .i64 0, .int .i64 (-2), .int .i64 41, .int .i64 0, .int .i64 0, .int .i64 0, .int .i64 0] 51)).alloc (.cells #[.slice (some ⟨w1.heap.size, 0, none⟩) 5 5, .int .i64 0, .slice none 0 0] 25)) ((w1.alloc (.cells #[.int .i64 17, .int .i64 1, .int .i64 0, .int .i64 0, .int .i64 n, .int .i64 17, .int .i64 2, .int .i64 2, .int .i64 0, .int .i64 s, .int .i64 17, .int .i64 1, .int .i64 1, .int .i64 0, .int .i64 (-1), .int .i64 35, .int .i64 0, .int .i64 1, .int .i64 0, .int .i64 (-2), .int .i64 41, .int .i64 0, .int .i64 0, .int .i64 0, .int .i64 0] 51)).alloc (.cells #[.slice (some ⟨w1.heap.size, 0, none⟩) 5 5, .int .i64 0, .slice none 0 0] 25)).heap.size (.slice (some ⟨w1.heap.size, 0, none⟩) 5 5) (.slice none 0 0) (sumsP n s)) := by
    refine ⟨⟨rfl, _, _, rfl, Nat.le_refl _, by omega, (fun h => by cases h), fun _ => ⟨w1.heap.size, 0, rfl, by simp; omega, fun j u hu => ?_⟩⟩, Row.nil _ _ _⟩
    have := new_cells w1 #[.int .i64 17, .int .i64 1, .int .i64 0, .int .i64 0, .int .i64 n, .int .i64 17, .int .i64 2, .int .i64 2, .int .i64 0, .int .i64 s, .int .i64 17, .int .i64 1, .int .i64 1, .int .i64 0, .int .i64 (-1), .int .i64 35, .int .i64 0, .int .i64 1, .int .i64 0, .int .i64 (-2), .int .i64 41, .int .i64 0, .int .i64 0, .int .i64 0, .int .i64 0] 51 (codeCells (sumsP n s).code) rfl j u hu
    rw [add_spot] at this
    exact one_cell (by simp) this
  generalize ((w1.alloc (.cells #[.int .i64 17, .int .i64 1, .int .i64 0, .int .i64 0, .int .i64 n, .int .i64 17, .int .i64 2, .int .i64 2, .int .i64 0, .int .i64 s, .int .i64 17, .int .i64 1, .int .i64 1, .int .i64 0, .int .i64 (-1), .int .i64 35, .int .i64 0, .int .i64 1, .int .i64 0, .int .i64 (-2), .int .i64 41, .int .i64 0, .int .i64 0, .int .i64 0, .int .i64 0] 51)).alloc (.cells #[.slice (some ⟨w1.heap.size, 0, none⟩) 5 5, .int .i64 0, .slice none 0 0] 25)) = w2 at *
  refine (seqRun_any (some ⟨w1.heap.size, 0, none⟩) none 5 0 (sumsP n s) w2 1000 HP.out (by intro b hb; cases hb) (by omega)).mono ?_; rintro e w3 ⟨vm, vw, rfl, hO, hb3⟩
  rw [hrun.out] at hO ⊢
  have hv1 := own_one hO.mem
  have hv2 := own_one hO.ws
  have h16 : (sumE 0 ((n * s) % 4294967296) (2 + 3 * n)).regs.length = 16 := rfl
  have HB3 := Lib.hid (HB2.out.trans (hb3.mono HB2.out.size))
  clear HP HB2 hb3 hO
  have BN := Lib.hid (Box.new w3 (resL noRes (.slice none 0 0) (.slice none 0 0)) 32)
  generalize hq : n * s = q at *
  go_wp2_with (refine wpList_store_box rfl 32 (.tmp 7) (.tmp 38) rfl w3.heap.size 0 (resL (sumE 0 (q % 4294967296) (2 + 3 * n)) vm vw) rfl rfl (resL noRes (.slice none 0 0) (.slice none 0 0)) BN.out (by rw [resL_len h16, resL_len rfl]; exact Nat.le_refl _) 23 info_res (resL_len h16) (resL_one hv1 hv2) ?_; intro w4 hB4 hg4; rw [splice_whole _ _ (by rw [resL_len h16, resL_len rfl])] at hB4; have HB4 := Lib.hid (Below.grown (HB3.out.alloc HB3.out.size (.cells #[.int .i64 0, .int .i64 0, .int .i64 0, .int .i64 0, .int .i64 0, .int .u32 0, .int .u32 0, .int .u32 0, .int .u32 0, .int .u32 0, .int .u32 0, .int .u32 0, .int .u32 0, .int .u32 0, .int .u32 0, .int .u32 0, .int .u32 0, .int .u32 0, .int .u32 0, .int .u32 0, .int .u32 0, .slice none 0 0, .slice none 0 0] 32)) hg4 (HB3.out.alloc HB3.out.size (.cells #[.int .i64 0, .int .i64 0, .int .i64 0, .int .i64 0, .int .i64 0, .int .u32 0, .int .u32 0, .int .u32 0, .int .u32 0, .int .u32 0, .int .u32 0, .int .u32 0, .int .u32 0, .int .u32 0, .int .u32 0, .int .u32 0, .int .u32 0, .int .u32 0, .int .u32 0, .int .u32 0, .int .u32 0, .slice none 0 0, .slice none 0 0] 32)).size (fun k hk => grown_ge hk HB3.out.size)); have c0 := hB4.cell resL_0; have c4 := hB4.cell resL_4; have c6 := hB4.cell (resL_reg h16 1 (by omega)); have c7 := hB4.cell (resL_reg h16 2 (by omega)); have c6' : w4.cell? ⟨w3.heap.size, 6, none⟩ = some (.int .u32 0) := c6; have c7' : w4.cell? ⟨w3.heap.size, 7, none⟩ = some (.int .u32 (q % 4294967296)) := c7; have c0' : w4.cell? ⟨w3.heap.size, 0, none⟩ = some (.int .i64 1) := c0; have c4' : w4.cell? ⟨w3.heap.size, 4, none⟩ = some (.int .i64 (2 + 3 * n)) := c4; clear c0 c4 c6 c7 hB4 hg4)
  go_ret
  exact ⟨rfl, HB4.out⟩

theorem seqSums_walk (n s : Int) (w : World) (w0 : -9223372036854775808 ≤ n ∧ n ≤ 9223372036854775807) (w1 : -9223372036854775808 ≤ s ∧ s ≤ 9223372036854775807) :
    Calls Try.prog 7 #[.int .i64 n, .int .i64 s] w fun e w' => e = .returned (.bool true) ∧ Below w.heap.size w w' := by
  by_cases h : n < 1 ∨ 60 < n ∨ s < -8192 ∨ 8191 < s
  · exact seqSums_out n s w h
  · exact seqSums_in n s w (by omega) (by omega)
end Go.Proofs.Ytjbobihiigeapaa.Words

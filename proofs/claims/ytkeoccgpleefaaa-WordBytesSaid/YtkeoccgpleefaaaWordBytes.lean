/- The walk of the law WordBytes: a word's bytes are its eight bits each, the lowest first; words added (multiplied) are their numbers added (multiplied). -/
import Derived.Test.YtkeoccgpleefaaaWordAlive
import Derived.Test.YtkeoccgpleefaaaWordPuts
import Derived.LoopN
namespace Go.Proofs.Ytkeoccgpleefaaa.Words
open Go.RowKit

theorem sgn_mod (a : Int) : sgn a % 4294967296 = a % 4294967296 := by unfold sgn; split <;> omega
theorem mul_mod (a b : Int) : wrap64 (sgn a * sgn b) % 4294967296 = a * b % 4294967296 := by
  have h : wrap64 (sgn a * sgn b) % 4294967296 = (sgn a * sgn b) % 4294967296 := by unfold wrap64; omega
  rw [h, Int.mul_emod, sgn_mod, sgn_mod, ← Int.mul_emod]
theorem add_mod (a b : Int) : (sgn a + sgn b) % 4294967296 = (a + b) % 4294967296 := by
  have := sgn_mod a
  have := sgn_mod b
  omega

set_option maxHeartbeats 400000 in
theorem wordBytes_walk (a0 a1 : Int) (w : World) (w0 : 0 ≤ a0 ∧ a0 ≤ 4294967295) (w1 : 0 ≤ a1 ∧ a1 ≤ 4294967295) :
    Calls Try.prog 6 #[.int .u32 a0, .int .u32 a1] w fun e w' => e = .returned (.bool true) ∧ Below w.heap.size w w' := by
  have e1 := add_mod a0 a1
  have e2 := mul_mod a0 a1
  have E1 := Lib.hid e1
  have E2 := Lib.hid e2
  clear e1 e2
  have s0 := sgn_range (n := a0) (by omega) (by omega)
  have s1 := sgn_range (n := a1) (by omega) (by omega)
  go_enter Try.func6, Try.ntmps6
  go_wp2_with fail
  refine (alive_any _).mono ?_; rintro e w1 ⟨rfl, hb⟩
  go_wp2_with fail
  refine (put_any a0 (by omega) (by omega) (Row.nil _ _ _) (by simp) (by omega)).mono ?_; rintro e w2 ⟨rfl, hown, hb2⟩
  simp only [Nat.zero_add, List.nil_append] at hown
  have c0 := hown.cellAt 0 (by omega)
  have c1 := hown.cellAt 1 (by omega)
  have c2 := hown.cellAt 2 (by omega)
  have c3 := hown.cellAt 3 (by omega)
  simp only [quad, List.getElem?_cons_zero, List.getElem?_cons_succ] at c0 c1 c2 c3
  have hB : Below w.heap.size w w2 := hb.trans (hb2.mono hb.size)
  clear hown
  go_wp2_with fail
  refine wp_loop_rounds 5 ?_
  iterate 5 (rw [rounds_succ]; go_wp2_with fail)
  refine (int_any _ _ (by omega) (by omega)).mono ?_; rintro e w3 ⟨rfl, rfl⟩
  go_wp2_with fail
  refine (int_any _ _ (by omega) (by omega)).mono ?_; rintro e w3 ⟨rfl, rfl⟩
  go_wp2_with fail
  refine (of_any _ _).mono ?_; rintro e w3 ⟨rfl, rfl⟩
  rw [E1.out]
  go_wp2_with fail
  refine (int_any _ _ (by omega) (by omega)).mono ?_; rintro e w3 ⟨rfl, rfl⟩
  go_wp2_with fail
  refine (int_any _ _ (by omega) (by omega)).mono ?_; rintro e w3 ⟨rfl, rfl⟩
  go_wp2_with fail
  refine (of_any _ _).mono ?_; rintro e w3 ⟨rfl, rfl⟩
  rw [E2.out]
  go_wp2_with fail
  go_ret
  exact ⟨rfl, hB⟩
end Go.Proofs.Ytkeoccgpleefaaa.Words

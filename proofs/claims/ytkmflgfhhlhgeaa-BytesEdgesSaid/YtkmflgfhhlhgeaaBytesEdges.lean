/- The walk of BytesEdges. -/
import Derived.Test.YtkmflgfhhlhgeaaBytesAlive
namespace Go.Proofs.Ytkmflgfhhlhgeaa.Words
open Go.RowKit
set_option linter.unusedVariables false

set_option maxHeartbeats 400000 in
theorem bytesEdges_out (n k : Int) (w : World) (h : n < 0 ∨ 65536 < n ∨ k < 0 ∨ 2 < k) :
    Calls Try.prog 8 #[.int .i64 n, .int .i64 k] w fun e w' => e = .returned (.bool true) ∧ Below w.heap.size w w' := by
  go_enter Try.func8, Try.ntmps8
  go_wp2_with fail
  refine (bytesAlive_any _).mono ?_; rintro e w1 ⟨rfl, hb1⟩
  go_wp2
  all_goals first
    | (exfalso; omega)
    | (go_ret; exact ⟨rfl, hb1⟩)

set_option maxHeartbeats 1000000 in
theorem bytesEdges_1 (n : Int) (w : World) (h0 : 0 ≤ n) (h1 : n ≤ 65536) :
    Calls Try.prog 8 #[.int .i64 n, .int .i64 0] w fun e w' => e = .returned (.bool true) ∧ Below w.heap.size w w' := by
  obtain ⟨q, hq⟩ : ∃ q, q = n / 1 * 1 := ⟨_, rfl⟩
  have q0 : 0 ≤ q := by omega
  have q1 : q ≤ n := by omega
  have q2 : n < q + 1 := by omega
  have q3 : q % 1 = 0 := by omega
  have t1 := Lib.hid (checkZ_range (size := 1) (addr := q) (n := n) (.inr q3) q2)
  have t3 := Lib.hid (checkZ_range (size := 1) (addr := 4294967292) (n := n) (.inr (by omega)) (by omega))
  have m1 : q % 4294967296 = q := by omega
  have hd : n.tdiv 1 * 1 = q := by rw [Int.tdiv_eq_ediv_of_nonneg h0]; exact hq.symm
  have HQ : Hid (q = n / 1 * 1) := hq
  clear hq
  have hqn : n = q := by omega
  subst hqn
  by_cases hn : 1 ≤ n
  · have t0 := Lib.hid (checkZ_ok (size := 1) (addr := n - 1) (n := n) (.inr (by omega)) (by omega))
    have m0 : (n - 1) % 4294967296 = n - 1 := by omega
    go_enter Try.func8, Try.ntmps8
    go_wp2_with fail
    refine (bytesAlive_any _).mono ?_; rintro e w1 ⟨rfl, hb1⟩
    have HB := Lib.hid hb1
    clear hb1
    go_wp2_with fail
    refine (check_any 1 (n - 1) n _ (by omega) (by omega) (by omega) (by omega)).mono ?_; rintro e w2 ⟨rfl, rfl⟩
    rw [t0.out]
    go_wp2_with fail
    refine (check_any 1 n n _ (by omega) (by omega) (by omega) (by omega)).mono ?_; rintro e w2 ⟨rfl, rfl⟩
    rw [t1.out]
    go_wp2_with fail
    refine (check_any 1 4294967292 n _ (by omega) (by omega) (by omega) (by omega)).mono ?_; rintro e w2 ⟨rfl, rfl⟩
    rw [t3.out]
    go_wp2_with fail
    go_ret
    exact ⟨rfl, HB.out.alloc HB.out.size _⟩
  · have m0 : (n - 1 < 0) := by omega
    go_enter Try.func8, Try.ntmps8
    go_wp2_with fail
    refine (bytesAlive_any _).mono ?_; rintro e w1 ⟨rfl, hb1⟩
    have HB := Lib.hid hb1
    clear hb1
    go_wp2_with fail
    refine (check_any 1 n n _ (by omega) (by omega) (by omega) (by omega)).mono ?_; rintro e w2 ⟨rfl, rfl⟩
    rw [t1.out]
    go_wp2_with fail
    refine (check_any 1 4294967292 n _ (by omega) (by omega) (by omega) (by omega)).mono ?_; rintro e w2 ⟨rfl, rfl⟩
    rw [t3.out]
    go_wp2_with fail
    go_ret
    exact ⟨rfl, HB.out.alloc HB.out.size _⟩

set_option maxHeartbeats 1000000 in
theorem bytesEdges_2 (n : Int) (w : World) (h0 : 0 ≤ n) (h1 : n ≤ 65536) :
    Calls Try.prog 8 #[.int .i64 n, .int .i64 1] w fun e w' => e = .returned (.bool true) ∧ Below w.heap.size w w' := by
  obtain ⟨q, hq⟩ : ∃ q, q = n / 2 * 2 := ⟨_, rfl⟩
  have q0 : 0 ≤ q := by omega
  have q1 : q ≤ n := by omega
  have q2 : n < q + 2 := by omega
  have q3 : q % 2 = 0 := by omega
  have t1 := Lib.hid (checkZ_range (size := 2) (addr := q) (n := n) (.inr q3) q2)
  have t2 := Lib.hid (checkZ_mis (size := 2) (addr := q + 1) (n := n) (by omega) (by omega))
  have m2 : (q + 1) % 4294967296 = q + 1 := by omega
  have t3 := Lib.hid (checkZ_range (size := 2) (addr := 4294967292) (n := n) (.inr (by omega)) (by omega))
  have m1 : q % 4294967296 = q := by omega
  have hd : n.tdiv 2 * 2 = q := by rw [Int.tdiv_eq_ediv_of_nonneg h0]; exact hq.symm
  have HQ : Hid (q = n / 2 * 2) := hq
  clear hq
  by_cases hn : 2 ≤ q
  · have t0 := Lib.hid (checkZ_ok (size := 2) (addr := q - 2) (n := n) (.inr (by omega)) (by omega))
    have m0 : (q - 2) % 4294967296 = q - 2 := by omega
    go_enter Try.func8, Try.ntmps8
    go_wp2_with fail
    refine (bytesAlive_any _).mono ?_; rintro e w1 ⟨rfl, hb1⟩
    have HB := Lib.hid hb1
    clear hb1
    go_wp2_with fail
    refine (check_any 2 (q - 2) n _ (by omega) (by omega) (by omega) (by omega)).mono ?_; rintro e w2 ⟨rfl, rfl⟩
    rw [t0.out]
    go_wp2_with fail
    refine (check_any 2 q n _ (by omega) (by omega) (by omega) (by omega)).mono ?_; rintro e w2 ⟨rfl, rfl⟩
    rw [t1.out]
    go_wp2_with fail
    refine (check_any 2 (q + 1) n _ (by omega) (by omega) (by omega) (by omega)).mono ?_; rintro e w2 ⟨rfl, rfl⟩
    rw [t2.out]
    go_wp2_with fail
    refine (check_any 2 4294967292 n _ (by omega) (by omega) (by omega) (by omega)).mono ?_; rintro e w2 ⟨rfl, rfl⟩
    rw [t3.out]
    go_wp2_with fail
    go_ret
    exact ⟨rfl, HB.out.alloc HB.out.size _⟩
  · have m0 : (q - 2 < 0) := by omega
    go_enter Try.func8, Try.ntmps8
    go_wp2_with fail
    refine (bytesAlive_any _).mono ?_; rintro e w1 ⟨rfl, hb1⟩
    have HB := Lib.hid hb1
    clear hb1
    go_wp2_with fail
    refine (check_any 2 q n _ (by omega) (by omega) (by omega) (by omega)).mono ?_; rintro e w2 ⟨rfl, rfl⟩
    rw [t1.out]
    go_wp2_with fail
    refine (check_any 2 (q + 1) n _ (by omega) (by omega) (by omega) (by omega)).mono ?_; rintro e w2 ⟨rfl, rfl⟩
    rw [t2.out]
    go_wp2_with fail
    refine (check_any 2 4294967292 n _ (by omega) (by omega) (by omega) (by omega)).mono ?_; rintro e w2 ⟨rfl, rfl⟩
    rw [t3.out]
    go_wp2_with fail
    go_ret
    exact ⟨rfl, HB.out.alloc HB.out.size _⟩

set_option maxHeartbeats 1000000 in
theorem bytesEdges_4 (n : Int) (w : World) (h0 : 0 ≤ n) (h1 : n ≤ 65536) :
    Calls Try.prog 8 #[.int .i64 n, .int .i64 2] w fun e w' => e = .returned (.bool true) ∧ Below w.heap.size w w' := by
  obtain ⟨q, hq⟩ : ∃ q, q = n / 4 * 4 := ⟨_, rfl⟩
  have q0 : 0 ≤ q := by omega
  have q1 : q ≤ n := by omega
  have q2 : n < q + 4 := by omega
  have q3 : q % 4 = 0 := by omega
  have t1 := Lib.hid (checkZ_range (size := 4) (addr := q) (n := n) (.inr q3) q2)
  have t2 := Lib.hid (checkZ_mis (size := 4) (addr := q + 1) (n := n) (by omega) (by omega))
  have m2 : (q + 1) % 4294967296 = q + 1 := by omega
  have t3 := Lib.hid (checkZ_range (size := 4) (addr := 4294967292) (n := n) (.inr (by omega)) (by omega))
  have m1 : q % 4294967296 = q := by omega
  have hd : n.tdiv 4 * 4 = q := by rw [Int.tdiv_eq_ediv_of_nonneg h0]; exact hq.symm
  have HQ : Hid (q = n / 4 * 4) := hq
  clear hq
  by_cases hn : 4 ≤ q
  · have t0 := Lib.hid (checkZ_ok (size := 4) (addr := q - 4) (n := n) (.inr (by omega)) (by omega))
    have m0 : (q - 4) % 4294967296 = q - 4 := by omega
    go_enter Try.func8, Try.ntmps8
    go_wp2_with fail
    refine (bytesAlive_any _).mono ?_; rintro e w1 ⟨rfl, hb1⟩
    have HB := Lib.hid hb1
    clear hb1
    go_wp2_with fail
    refine (check_any 4 (q - 4) n _ (by omega) (by omega) (by omega) (by omega)).mono ?_; rintro e w2 ⟨rfl, rfl⟩
    rw [t0.out]
    go_wp2_with fail
    refine (check_any 4 q n _ (by omega) (by omega) (by omega) (by omega)).mono ?_; rintro e w2 ⟨rfl, rfl⟩
    rw [t1.out]
    go_wp2_with fail
    refine (check_any 4 (q + 1) n _ (by omega) (by omega) (by omega) (by omega)).mono ?_; rintro e w2 ⟨rfl, rfl⟩
    rw [t2.out]
    go_wp2_with fail
    refine (check_any 4 4294967292 n _ (by omega) (by omega) (by omega) (by omega)).mono ?_; rintro e w2 ⟨rfl, rfl⟩
    rw [t3.out]
    go_wp2_with fail
    go_ret
    exact ⟨rfl, HB.out.alloc HB.out.size _⟩
  · have m0 : (q - 4 < 0) := by omega
    go_enter Try.func8, Try.ntmps8
    go_wp2_with fail
    refine (bytesAlive_any _).mono ?_; rintro e w1 ⟨rfl, hb1⟩
    have HB := Lib.hid hb1
    clear hb1
    go_wp2_with fail
    refine (check_any 4 q n _ (by omega) (by omega) (by omega) (by omega)).mono ?_; rintro e w2 ⟨rfl, rfl⟩
    rw [t1.out]
    go_wp2_with fail
    refine (check_any 4 (q + 1) n _ (by omega) (by omega) (by omega) (by omega)).mono ?_; rintro e w2 ⟨rfl, rfl⟩
    rw [t2.out]
    go_wp2_with fail
    refine (check_any 4 4294967292 n _ (by omega) (by omega) (by omega) (by omega)).mono ?_; rintro e w2 ⟨rfl, rfl⟩
    rw [t3.out]
    go_wp2_with fail
    go_ret
    exact ⟨rfl, HB.out.alloc HB.out.size _⟩

theorem bytesEdges_walk (a0 a1 : Int) (w : World) (w0 : -9223372036854775808 ≤ a0 ∧ a0 ≤ 9223372036854775807) (w1 : -9223372036854775808 ≤ a1 ∧ a1 ≤ 9223372036854775807) :
    Calls Try.prog 8 #[.int .i64 a0, .int .i64 a1] w fun e w' => e = .returned (.bool true) ∧ Below w.heap.size w w' := by
  by_cases h : a0 < 0 ∨ 65536 < a0 ∨ a1 < 0 ∨ 2 < a1
  · exact bytesEdges_out a0 a1 w h
  have hk : a1 = 0 ∨ a1 = 1 ∨ a1 = 2 := by omega
  rcases hk with rfl | rfl | rfl
  · exact bytesEdges_1 a0 w (by omega) (by omega)
  · exact bytesEdges_2 a0 w (by omega) (by omega)
  · exact bytesEdges_4 a0 w (by omega) (by omega)
end Go.Proofs.Ytkmflgfhhlhgeaa.Words

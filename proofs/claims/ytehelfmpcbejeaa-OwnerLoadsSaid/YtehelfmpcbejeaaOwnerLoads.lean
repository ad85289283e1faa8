/- The walk of law 11's OwnerLoads. -/
import Derived.Test.YtehelfmpcbejeaaOnrAlive
import Derived.Test.YtehelfmpcbejeaaOnrMath2
namespace Go.Proofs.Ytehelfmpcbejeaa.Words
set_option maxRecDepth 100000
open Go.RowKit
set_option linter.unusedVariables false
set_option linter.unusedSimpArgs false

theorem load_of {base d b op : Int} (h1 : 1 ≤ base ∧ base ≤ 15) (h2 : 1 ≤ d ∧ d ≤ 15) (h3 : 1 ≤ b ∧ b ≤ 15) (h4 : 26 ≤ op ∧ op ≤ 30) : ofZ (loadCode base d b op) 0 0 = leastO (loadCode base d b op) := by
  unfold ofZ
  rw [if_pos]
  rw [rightZ_fit, Bool.and_eq_true, Bool.and_eq_true]
  refine ⟨⟨(show fitN ((4 : Nat) : Int) 0 ((0 : Nat) : Int) = true from by decide), List.all_eq_true.2 (load_right h1 h2 h3 h4)⟩, ?_⟩
  have j1 : ∀ i : Ins, i.op ≤ 33 ∨ i.op = 41 → ∀ n k, badTarget n k i = false := by
    intro i hi n k
    unfold badTarget
    have : isJump i = false := by
      rw [← Bool.not_eq_true, isJump_form]
      have := formZ_cases i.op
      omega
    rw [this]; rfl
  have a1 := j1 ⟨op, d, base, 0, 0⟩ (.inl (by simp only; omega))
  have a2 := j1 ⟨1, b, d, b, 0⟩ (.inl (show (1 : Int) ≤ 33 by decide))
  have a3 := j1 ⟨31, 0, base, b, 0⟩ (.inl (show (31 : Int) ≤ 33 by decide))
  have a4 := j1 ⟨41, 0, 0, 0, 0⟩ (.inr rfl)
  simp [loadCode, targetsOk, a1, a2, a3, a4]

set_option maxHeartbeats 8000000 in
theorem ownerLoads_walk (base d b op : Int) (w : World) (f0 : -9223372036854775808 ≤ base ∧ base ≤ 9223372036854775807) (f1 : -9223372036854775808 ≤ d ∧ d ≤ 9223372036854775807) (f2 : -9223372036854775808 ≤ b ∧ b ≤ 9223372036854775807) (f3 : -9223372036854775808 ≤ op ∧ op ≤ 9223372036854775807) :
    Calls Try.prog 7 #[.int .i64 base, .int .i64 d, .int .i64 b, .int .i64 op] w fun e w' => e = .returned (.bool true) ∧ Below w.heap.size w w' := by
  go_enter Try.func7, Try.ntmps7
  go_wp2_with fail
  refine (alive11_any _).mono ?_; rintro e w1 ⟨rfl, hb1⟩
  have HK1 := Lib.hid hb1
  clear hb1 f0 f1 f2 f3
  by_cases h0 : base < 1
  · go_wp2_with fail
    go_ret
    exact ⟨rfl, HK1.out⟩
  by_cases h1 : 15 < base
  · go_wp2_with fail
    go_ret
    exact ⟨rfl, HK1.out⟩
  by_cases h2 : d < 1
  · go_wp2_with fail
    go_ret
    exact ⟨rfl, HK1.out⟩
  by_cases h3 : 15 < d
  · go_wp2_with fail
    go_ret
    exact ⟨rfl, HK1.out⟩
  by_cases h4 : b < 1
  · go_wp2_with fail
    go_ret
    exact ⟨rfl, HK1.out⟩
  by_cases h5 : 15 < b
  · go_wp2_with fail
    go_ret
    exact ⟨rfl, HK1.out⟩
  by_cases h6 : op < 26
  · go_wp2_with fail
    go_ret
    exact ⟨rfl, HK1.out⟩
  by_cases h7 : 30 < op
  · go_wp2_with fail
    go_ret
    exact ⟨rfl, HK1.out⟩
  obtain ⟨W1, hW1⟩ : ∃ W1, W1 = w1.alloc (.cells #[.int .i64 op, .int .i64 d, .int .i64 base, .int .i64 0, .int .i64 0, .int .i64 1, .int .i64 b, .int .i64 d, .int .i64 b, .int .i64 0, .int .i64 31, .int .i64 0, .int .i64 base, .int .i64 b, .int .i64 0, .int .i64 41, .int .i64 0, .int .i64 0, .int .i64 0, .int .i64 0] 28) := ⟨_, rfl⟩
  obtain ⟨W2, hW2⟩ : ∃ W2, W2 = W1.alloc (.cells #[.slice (some ⟨w1.heap.size, 0, none⟩) 4 4, .int .i64 0, .slice none 0 0] 25) := ⟨_, rfl⟩
  have hz1 : W1.heap.size = w1.heap.size + 1 := by rw [hW1]; simp
  have hz2 : W2.heap.size = w1.heap.size + 2 := by rw [hW2]; simp [hz1]
  have HP2 : Hid (Box W2 (w1.heap.size + 1) [.slice (some ⟨w1.heap.size, 0, none⟩) 4 4, .int .i64 0, .slice none 0 0]) := by rw [hW2, ← hz1]; exact Box.new W1 [.slice (some ⟨w1.heap.size, 0, none⟩) 4 4, .int .i64 0, .slice none 0 0] _
  have HR2 : Hid (Row W2 W2.heap.size 5 (.slice (some ⟨w1.heap.size, 0, none⟩) 4 4) 4 (codeCells (loadCode base d b op))) := by
    have := row_code w1 (loadCode base d b op) 28 #[.int .i64 op, .int .i64 d, .int .i64 base, .int .i64 0, .int .i64 0, .int .i64 1, .int .i64 b, .int .i64 d, .int .i64 b, .int .i64 0, .int .i64 31, .int .i64 0, .int .i64 base, .int .i64 b, .int .i64 0, .int .i64 41, .int .i64 0, .int .i64 0, .int .i64 0, .int .i64 0] 4 rfl rfl (by omega)
    rw [← hW1] at this
    rw [hW2]; exact (this.alloc (Nat.le_refl _) _).more (by simp)
  have HK2 : Hid (Below w.heap.size w W2) := by
    rw [hW2, hW1]; exact (HK1.out.alloc HK1.out.size _).alloc (by have := HK1.out.size; simp; omega) _
  have HC2 : Hid (Below w1.heap.size w1 W2) := by rw [hW2, hW1]; exact ((Below.refl _ _).alloc (Nat.le_refl _) _).alloc (by simp) _
  have h1 : 1 ≤ base ∧ base ≤ 15 := by omega
  have h2' : 1 ≤ d ∧ d ≤ 15 := by omega
  have h3' : 1 ≤ b ∧ b ≤ 15 := by omega
  have h4' : 26 ≤ op ∧ op ≤ 30 := by omega
  have HLE := Lib.hid (load_least h1 h2' h3' h4')
  have HRT := Lib.hid (load_of h1 h2' h3' h4')
  have HOK := Lib.hid (least_ok _ (load_right h1 h2' h3' h4'))
  clear hz1
  go_wp2_with fail
  rw [← hW1, ← hW2]
  clear hW1 hW2 h0 h1 h2 h3 h4 h5 h6 h7 h2' h3' h4'
  refine (of_any' (some ⟨w1.heap.size, 0, none⟩) 4 0 none 0 0 (loadCode base d b op) W2 HR2.out (by omega) (by omega)).mono ?_; rintro e w3 ⟨rfl, hb3⟩
  rw [HRT.out]
  have HK3 := Lib.hid (HK2.out.trans (hb3.mono (by have := HK1.out.size; omega)))
  have hz3 : w.heap.size ≤ w3.heap.size := HK3.out.size
  clear hb3 HP2 HR2 HK2 HC2 hz2 HRT
  generalize leastO (loadCode base d b op) = LO at *
  have k3 := Kept.refl w3
  have HNBO := Lib.hid (Box.new w3 (oV zeroO) 26)
  have HMBO : Hid (Below w3.heap.size w3 (w3.alloc (.cells (oV zeroO).toArray 26))) := (Below.refl _ _).alloc (Nat.le_refl _) _
  obtain ⟨BO, hBO⟩ : ∃ BO, BO = w3.heap.size := ⟨_, rfl⟩
  have HEBO := Lib.hid hBO
  clear hBO
  have HLBO : Hid ((oV LO).length = 16) := (oV_len _).trans HOK.out.1
  go_wp2_with (first
    | (refine wpList_store_box rfl 26 (.tmp 11) (.tmp 65) rfl w3.heap.size 0 (oV LO) rfl rfl (oV zeroO) HNBO.out (by rw [HLBO.out]; decide) 16 (by kernel_rfl) HLBO.out (oV_one _) ?_; intro w4 B4 hg4; rw [splice_whole _ _ (by rw [HLBO.out]; rfl)] at B4; have HO := Lib.hid B4; have hk4 : Below w3.heap.size w3 w4 := HMBO.out.grown hg4 (by simp) (fun i hi => by injection hi with hi; omega); have k4 := Kept.to k3 hk4; clear B4 hg4 hk4; rw [← HEBO.out] at HO ⊢))
  have HKZ := Lib.hid (HK3.out.trans (Below.mono k4 hz3))
  clear k3 k4
  go_loopw [12, 13] (fun ii on wr => ∃ k : Nat, 1 ≤ k ∧ k ≤ 16 ∧ ii = .int .i64 k ∧ wr = w4) (fun ii _ _ => 16 - (intOf ii).toNat)
  case atStart => exact ⟨1, by omega, by omega, rfl, rfl⟩
  case round =>
    obtain ⟨k, hk1, hk2, rfl, rfl⟩ := hrel
    by_cases hlt : k < 16
    · have hle := HLE.out k ⟨hk1, by omega⟩
      have f1 := HO.out.cell (oV_at HOK.out.1 (n := k) (by omega))
      have g0 : (0 : Int) ≤ k := by omega
      have g1 : (k : Int) < 16 := by omega
      unfold loadOn at hle
      rw [decide_eq_true_eq] at hle
      have HLX := Lib.hid hle
      clear hle
      by_cases e1 : (k : Int) = base
      · have hq := HLX.out.2 (by omega)
        rw [hq] at f1
        have q1 : ((k : Int) == base) = true := by simpa using e1
        clear e1
        go_wp2_with fail
        go_roundw
        case rel => exact ⟨k + 1, by omega, by omega, by go_num, by first | rfl | trivial⟩
        case measure => simp only [intOf]; omega
      by_cases e2 : b = base
      rotate_left
      · have hq : (atO LO k == 1) = false := by rw [beq_eq_false_iff_ne]; intro hc; have := HLX.out.1 hc; omega
        have q1 : ((k : Int) == base) = false := by simpa using e1
        have q2 : (b == base) = false := by simpa using e2
        clear e1 e2
        go_wp2_with fail
        go_roundw
        case rel => exact ⟨k + 1, by omega, by omega, by go_num, by first | rfl | trivial⟩
        case measure => simp only [intOf]; omega
      by_cases e3 : (k : Int) = d
      · have hq := HLX.out.2 (by omega)
        rw [hq] at f1
        have q1 : ((k : Int) == base) = false := by simpa using e1
        have q2 : (b == base) = true := by simpa using e2
        have q3 : ((k : Int) == d) = true := by simpa using e3
        clear e1 e2 e3
        go_wp2_with fail
        go_roundw
        case rel => exact ⟨k + 1, by omega, by omega, by go_num, by first | rfl | trivial⟩
        case measure => simp only [intOf]; omega
      by_cases e4 : (k : Int) = b
      · have hq := HLX.out.2 (by omega)
        rw [hq] at f1
        have q1 : ((k : Int) == base) = false := by simpa using e1
        have q2 : (b == base) = true := by simpa using e2
        have q3 : ((k : Int) == d) = false := by simpa using e3
        have q4 : ((k : Int) == b) = true := by simpa using e4
        clear e1 e2 e3 e4
        go_wp2_with fail
        go_roundw
        case rel => exact ⟨k + 1, by omega, by omega, by go_num, by first | rfl | trivial⟩
        case measure => simp only [intOf]; omega
      · have hq : (atO LO k == 1) = false := by rw [beq_eq_false_iff_ne]; intro hc; have := HLX.out.1 hc; omega
        have q1 : ((k : Int) == base) = false := by simpa using e1
        have q2 : (b == base) = true := by simpa using e2
        have q3 : ((k : Int) == d) = false := by simpa using e3
        have q4 : ((k : Int) == b) = false := by simpa using e4
        clear e1 e2 e3 e4
        go_wp2_with fail
        go_roundw
        case rel => exact ⟨k + 1, by omega, by omega, by go_num, by first | rfl | trivial⟩
        case measure => simp only [intOf]; omega
    · have g1 : ¬ (k : Int) < 16 := by omega
      have f0 := HO.out.cell (oV_at HOK.out.1 (n := 0) (by omega))
      rw [show (((0 : Nat) : Int)) = 0 from rfl, HOK.out.2.1] at f0
      go_wp2_with fail
      go_ret
      exact ⟨rfl, HKZ.out⟩
end Go.Proofs.Ytehelfmpcbejeaa.Words

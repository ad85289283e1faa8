/- The walk of BytesBack. -/
import Derived.Test.YtkmflgfhhlhgeaaBytesAlive
import Derived.Test.YtkmflgfhhlhgeaaBytesMath2
import Derived.Test.YtkmflgfhhlhgeaaRefMask
import Derived.LoopTactic
namespace Go.Proofs.Ytkmflgfhhlhgeaa.Words
open Go.RowKit
set_option linter.unusedVariables false

set_option maxRecDepth 20000 in
set_option maxHeartbeats 400000 in
theorem bytesBack_out (A : Option Addr) (c n : Nat) (k at_ val : Int) (w : World) (hn : n ≤ 9223372036854775807) (h : 200 < n ∨ k < 0 ∨ 4 < k ∨ at_ < 0) :
    Calls Try.prog 4 #[.slice A n c, .int .i64 k, .int .i64 at_, .int .u32 val] w fun e w' => e = .returned (.bool true) ∧ Below w.heap.size w w' := by
  go_enter Try.func4, Try.ntmps4
  go_wp2_with fail
  refine (bytesAlive_any _).mono ?_; rintro e w1 ⟨rfl, hb1⟩
  go_wp2
  all_goals first
    | (exfalso; omega)
    | (go_ret; exact ⟨rfl, hb1⟩)

set_option maxRecDepth 20000 in
set_option maxHeartbeats 400000 in
theorem bytesBack_short0 (A : Option Addr) (c n : Nat) (at_ val : Int) (w : World) (hn : n < 4) (h : 0 ≤ at_) :
    Calls Try.prog 4 #[.slice A n c, .int .i64 0, .int .i64 at_, .int .u32 val] w fun e w' => e = .returned (.bool true) ∧ Below w.heap.size w w' := by
  go_enter Try.func4, Try.ntmps4
  go_wp2_with fail
  refine (bytesAlive_any _).mono ?_; rintro e w1 ⟨rfl, hb1⟩
  go_wp2_with fail
  go_ret
  exact ⟨rfl, (hb1.alloc hb1.size _).alloc (by have := hb1.size; simp; omega) _⟩

set_option maxRecDepth 20000 in
set_option maxHeartbeats 1000000 in
theorem bytesBack_0 (b off c n : Nat) (zs : List Int) (at_ val : Int) (w : World) (r : Row w w.heap.size 1 (.slice (some ⟨b, off, none⟩) n c) n (zs.map (Value.int .u8))) (hz : ∀ x ∈ zs, 0 ≤ x ∧ x ≤ 255) (hn : n ≤ 200) (hs : 4 ≤ n) (h0 : 0 ≤ at_) (h1 : at_ ≤ 9223372036854775807) (v0 : 0 ≤ val) (v1 : val ≤ 4294967295) :
    Calls Try.prog 4 #[.slice (some ⟨b, off, none⟩) n c, .int .i64 0, .int .i64 at_, .int .u32 val] w fun e w' => e = .returned (.bool true) ∧ Below w.heap.size w w' := by
  have hl : zs.length = n := by have := r.len; simpa using this
  obtain ⟨u1, u2⟩ := r.cap
  have HR := Lib.hid (fun (x : World) (h : Kept w x) => h.row r)
  clear r
  obtain ⟨k, hk⟩ : ∃ k : Nat, (at_ % (((n : Int) / 4))) * 4 = (k : Int) := Int.eq_ofNat_of_zero_le (by have := Int.emod_nonneg at_ (show (((n : Int) / 4)) ≠ 0 by omega); omega)
  have hk1 : k + 4 ≤ n ∧ k % 4 = 0 := by
    have := Int.emod_lt_of_pos at_ (show 0 < (((n : Int) / 4)) by omega)
    omega
  obtain ⟨hk1, hk2⟩ := hk1
  have OK := Lib.hid (show storeOk 4 (k : Int) zs.length = true from decide_eq_true ⟨by omega, by omega, by omega, checkZ_ok (.inr (by omega)) (by omega)⟩)
  go_enter Try.func4, Try.ntmps4
  go_wp2_with fail
  refine (bytesAlive_any _).mono ?_; rintro e w1 ⟨rfl, hb1⟩
  have k1 : Kept w w1 := hb1
  clear hb1
  go_wp2_with fail
  have k2 : Kept w ((w1.alloc (.cells #[.int .i64 4, .int .i64 2, .int .i64 2, .int .i64 1, .int .i64 1] 3)).alloc (.cells #[.int .i64 26, .int .i64 27, .int .i64 28, .int .i64 29, .int .i64 30] 3)) := (k1.alloc _).alloc _
  generalize (w1.alloc (.cells #[.int .i64 4, .int .i64 2, .int .i64 2, .int .i64 1, .int .i64 1] 3)).alloc (.cells #[.int .i64 26, .int .i64 27, .int .i64 28, .int .i64 29, .int .i64 30] 3) = w2 at *
  refine (store_any _ _ n zs val _ 4 (k : Int) (HR.out _ k2) (by omega) (by omega) ⟨v0, v1⟩).mono ?_; rintro e w3 ⟨vx, rfl, own3, hb⟩
  have k3 := k2.to hb
  clear hb hk
  obtain ⟨g, cap, rfl, _, hgs⟩ := own_form own3 (by omega)
  obtain ⟨u3, u4⟩ := (Row.of_own own3).cap
  have X := Lib.hid (fun (j : Nat) (h : j < n) => own_u8 own3 j h)
  have Y := Lib.hid (fun (j : Nat) (h : j < n) => (HR.out _ k3).num j h)
  have XA := Lib.hid (fun (j : Nat) (h : j < n) (hj : j < k ∨ k + 4 ≤ j) => show w3.cell? ⟨g, j, none⟩ = some (.int .u8 (zs.getD j 0)) by rw [X.out j h, storeZ_at _ _ _ _ _ OK.out, if_neg (by omega)])
  have XB := Lib.hid (fun (d : Nat) (h : d < 4) => show w3.cell? ⟨g, k + d, none⟩ = some (.int .u8 (byteZ val d)) by rw [X.out (k + d) (by omega), storeZ_at _ _ _ _ _ OK.out, if_pos (by omega), Int.toNat_natCast, show k + d - k = d by omega])
  have hk3 : (0 : Int) ≤ k := by omega
  clear X
  go_wp2_with fail
  go_loopw [14, 15] (fun i _ wr => ∃ j : Nat, j ≤ n ∧ i = .int .i64 j ∧ wr = w3) (fun i _ _ => n - (intOf i).toNat)
  case atStart => exact ⟨0, Nat.zero_le _, rfl, rfl⟩
  case round =>
    obtain ⟨j, hj, rfl, rfl⟩ := hrel
    have j0 : (0 : Int) ≤ j := by omega
    by_cases hlt : j < n
    · have yj := Y.out j hlt
      have j1 : (j : Int) < n := by omega
      by_cases hA : j < k ∨ k + 4 ≤ j
      · have xj := XA.out j hlt hA
        by_cases hB : j < k
        · have hB' : (j : Int) < k := by omega
          go_wp2_with fail
          go_roundw
          case rel => exact ⟨j + 1, by omega, by go_num, by trivial⟩
          case measure => simp [intOf]; omega
        · have hB' : (k : Int) + 4 ≤ j := by omega
          go_wp2_with fail
          go_roundw
          case rel => exact ⟨j + 1, by omega, by go_num, by trivial⟩
          case measure => simp [intOf]; omega
      · obtain ⟨d, rfl⟩ : ∃ d, j = k + d := ⟨j - k, by omega⟩
        have hd : d = 0 ∨ d = 1 ∨ d = 2 ∨ d = 3 := by omega
        rcases hd with rfl | rfl | rfl | rfl
        · have xj : wr.cell? ⟨g, k, none⟩ = some (.int .u8 (val % 256)) := XB.out 0 (by omega)
          rw [Nat.add_zero] at yj j0 j1 hlt hj ⊢
          go_wp2_with fail
          go_roundw
          case rel => exact ⟨k + 0 + 1, by omega, by go_num, by trivial⟩
          case measure => simp [intOf]; omega
        · have xj : wr.cell? ⟨g, k + 1, none⟩ = some (.int .u8 (val / 256 % 256)) := XB.out 1 (by omega)
          
          go_wp2_with fail
          go_roundw
          case rel => exact ⟨k + 1 + 1, by omega, by go_num, by trivial⟩
          case measure => simp [intOf]; omega
        · have xj : wr.cell? ⟨g, k + 2, none⟩ = some (.int .u8 (val / 65536 % 256)) := XB.out 2 (by omega)
          
          go_wp2_with fail
          go_roundw
          case rel => exact ⟨k + 2 + 1, by omega, by go_num, by trivial⟩
          case measure => simp [intOf]; omega
        · have xj : wr.cell? ⟨g, k + 3, none⟩ = some (.int .u8 (val / 16777216 % 256)) := XB.out 3 (by omega)
          
          go_wp2_with fail
          go_roundw
          case rel => exact ⟨k + 3 + 1, by omega, by go_num, by trivial⟩
          case measure => simp [intOf]; omega
    · have hlt' : ¬ (j : Int) < n := by omega
      obtain ⟨l, hl2⟩ : ∃ l, l = val := ⟨_, rfl⟩
      have l0 : 0 ≤ l ∧ l < 4294967296 := by omega
      have ML := Lib.hid (show maskZ val 4 = l from hl2.symm)
      have LB : loadZ (storeZ zs 4 (k : Int) val) 26 (k : Int) = extendZ 26 l := by
        have sz : sizeZ 26 = 4 := rfl
        have at_i : ∀ d : Nat, d < 4 → (storeZ zs 4 (k : Int) val).getD (k + d) 0 = byteZ val d := fun d hd => by
          rw [storeZ_at _ _ _ _ _ OK.out, if_pos (by omega), Int.toNat_natCast, show k + d - k = d by omega]
        rw [loadZ_yes (by omega) (by omega) (by rw [sz, storeZ_len]; exact (storeOk_yes OK.out).2.2.2), sz, Int.toNat_natCast]
        congr 1
        have a0 := at_i 0 (by omega)
        rw [Nat.add_zero] at a0
        have a1 := at_i 1 (by omega)
        have a2 := at_i 2 (by omega)
        have a3 := at_i 3 (by omega)
        simp only [byteZ] at a0 a1 a2 a3
        simp at a1
        simp at a2 a3
        unfold wordOf
        simp only [a0]
        simp
        omega
      clear hl2
      have EX := Lib.hid (show extendZ 26 l = l by unfold extendZ; simp)
      have MG := Lib.hid (show maskZ (l) 4 = l by unfold maskZ; simp)
      go_wp2_with fail
      refine (load_any _ cap n _ (storeZ zs 4 (k : Int) val) 26 (k : Int) _ (Row.of_own own3) (Nat.le_refl _) (storeZ_bytes hz) (by omega) (by omega)).mono ?_; rintro e w4 ⟨rfl, hb4⟩
      rw [LB, EX.out]
      have k4 := k3.to hb4
      clear hb4
      go_wp2_with fail
      refine (refMask_any val 4 _ v0 (by omega)).mono ?_; rintro e w5 ⟨rfl, rfl⟩
      rw [ML.out]
      go_wp2_with fail
      refine (refMask_any (l) 4 _ (by omega) (by omega)).mono ?_; rintro e w5 ⟨rfl, rfl⟩
      rw [MG.out]
      go_wp2_with fail
      go_ret
      exact ⟨rfl, k4⟩

set_option maxRecDepth 20000 in
set_option maxHeartbeats 400000 in
theorem bytesBack_short1 (A : Option Addr) (c n : Nat) (at_ val : Int) (w : World) (hn : n < 2) (h : 0 ≤ at_) :
    Calls Try.prog 4 #[.slice A n c, .int .i64 1, .int .i64 at_, .int .u32 val] w fun e w' => e = .returned (.bool true) ∧ Below w.heap.size w w' := by
  go_enter Try.func4, Try.ntmps4
  go_wp2_with fail
  refine (bytesAlive_any _).mono ?_; rintro e w1 ⟨rfl, hb1⟩
  go_wp2_with fail
  go_ret
  exact ⟨rfl, (hb1.alloc hb1.size _).alloc (by have := hb1.size; simp; omega) _⟩

set_option maxRecDepth 20000 in
set_option maxHeartbeats 1000000 in
theorem bytesBack_1 (b off c n : Nat) (zs : List Int) (at_ val : Int) (w : World) (r : Row w w.heap.size 1 (.slice (some ⟨b, off, none⟩) n c) n (zs.map (Value.int .u8))) (hz : ∀ x ∈ zs, 0 ≤ x ∧ x ≤ 255) (hn : n ≤ 200) (hs : 2 ≤ n) (h0 : 0 ≤ at_) (h1 : at_ ≤ 9223372036854775807) (v0 : 0 ≤ val) (v1 : val ≤ 4294967295) :
    Calls Try.prog 4 #[.slice (some ⟨b, off, none⟩) n c, .int .i64 1, .int .i64 at_, .int .u32 val] w fun e w' => e = .returned (.bool true) ∧ Below w.heap.size w w' := by
  have hl : zs.length = n := by have := r.len; simpa using this
  obtain ⟨u1, u2⟩ := r.cap
  have HR := Lib.hid (fun (x : World) (h : Kept w x) => h.row r)
  clear r
  obtain ⟨k, hk⟩ : ∃ k : Nat, (at_ % (((n : Int) / 2))) * 2 = (k : Int) := Int.eq_ofNat_of_zero_le (by have := Int.emod_nonneg at_ (show (((n : Int) / 2)) ≠ 0 by omega); omega)
  have hk1 : k + 2 ≤ n ∧ k % 2 = 0 := by
    have := Int.emod_lt_of_pos at_ (show 0 < (((n : Int) / 2)) by omega)
    omega
  obtain ⟨hk1, hk2⟩ := hk1
  have OK := Lib.hid (show storeOk 2 (k : Int) zs.length = true from decide_eq_true ⟨by omega, by omega, by omega, checkZ_ok (.inr (by omega)) (by omega)⟩)
  go_enter Try.func4, Try.ntmps4
  go_wp2_with fail
  refine (bytesAlive_any _).mono ?_; rintro e w1 ⟨rfl, hb1⟩
  have k1 : Kept w w1 := hb1
  clear hb1
  go_wp2_with fail
  have k2 : Kept w ((w1.alloc (.cells #[.int .i64 4, .int .i64 2, .int .i64 2, .int .i64 1, .int .i64 1] 3)).alloc (.cells #[.int .i64 26, .int .i64 27, .int .i64 28, .int .i64 29, .int .i64 30] 3)) := (k1.alloc _).alloc _
  generalize (w1.alloc (.cells #[.int .i64 4, .int .i64 2, .int .i64 2, .int .i64 1, .int .i64 1] 3)).alloc (.cells #[.int .i64 26, .int .i64 27, .int .i64 28, .int .i64 29, .int .i64 30] 3) = w2 at *
  refine (store_any _ _ n zs val _ 2 (k : Int) (HR.out _ k2) (by omega) (by omega) ⟨v0, v1⟩).mono ?_; rintro e w3 ⟨vx, rfl, own3, hb⟩
  have k3 := k2.to hb
  clear hb hk
  obtain ⟨g, cap, rfl, _, hgs⟩ := own_form own3 (by omega)
  obtain ⟨u3, u4⟩ := (Row.of_own own3).cap
  have X := Lib.hid (fun (j : Nat) (h : j < n) => own_u8 own3 j h)
  have Y := Lib.hid (fun (j : Nat) (h : j < n) => (HR.out _ k3).num j h)
  have XA := Lib.hid (fun (j : Nat) (h : j < n) (hj : j < k ∨ k + 2 ≤ j) => show w3.cell? ⟨g, j, none⟩ = some (.int .u8 (zs.getD j 0)) by rw [X.out j h, storeZ_at _ _ _ _ _ OK.out, if_neg (by omega)])
  have XB := Lib.hid (fun (d : Nat) (h : d < 2) => show w3.cell? ⟨g, k + d, none⟩ = some (.int .u8 (byteZ val d)) by rw [X.out (k + d) (by omega), storeZ_at _ _ _ _ _ OK.out, if_pos (by omega), Int.toNat_natCast, show k + d - k = d by omega])
  have hk3 : (0 : Int) ≤ k := by omega
  clear X
  go_wp2_with fail
  go_loopw [14, 15] (fun i _ wr => ∃ j : Nat, j ≤ n ∧ i = .int .i64 j ∧ wr = w3) (fun i _ _ => n - (intOf i).toNat)
  case atStart => exact ⟨0, Nat.zero_le _, rfl, rfl⟩
  case round =>
    obtain ⟨j, hj, rfl, rfl⟩ := hrel
    have j0 : (0 : Int) ≤ j := by omega
    by_cases hlt : j < n
    · have yj := Y.out j hlt
      have j1 : (j : Int) < n := by omega
      by_cases hA : j < k ∨ k + 2 ≤ j
      · have xj := XA.out j hlt hA
        by_cases hB : j < k
        · have hB' : (j : Int) < k := by omega
          go_wp2_with fail
          go_roundw
          case rel => exact ⟨j + 1, by omega, by go_num, by trivial⟩
          case measure => simp [intOf]; omega
        · have hB' : (k : Int) + 2 ≤ j := by omega
          go_wp2_with fail
          go_roundw
          case rel => exact ⟨j + 1, by omega, by go_num, by trivial⟩
          case measure => simp [intOf]; omega
      · obtain ⟨d, rfl⟩ : ∃ d, j = k + d := ⟨j - k, by omega⟩
        have hd : d = 0 ∨ d = 1 := by omega
        rcases hd with rfl | rfl
        · have xj : wr.cell? ⟨g, k, none⟩ = some (.int .u8 (val % 256)) := XB.out 0 (by omega)
          rw [Nat.add_zero] at yj j0 j1 hlt hj ⊢
          go_wp2_with fail
          go_roundw
          case rel => exact ⟨k + 0 + 1, by omega, by go_num, by trivial⟩
          case measure => simp [intOf]; omega
        · have xj : wr.cell? ⟨g, k + 1, none⟩ = some (.int .u8 (val / 256 % 256)) := XB.out 1 (by omega)
          
          go_wp2_with fail
          go_roundw
          case rel => exact ⟨k + 1 + 1, by omega, by go_num, by trivial⟩
          case measure => simp [intOf]; omega
    · have hlt' : ¬ (j : Int) < n := by omega
      obtain ⟨l, hl2⟩ : ∃ l, l = val % 65536 := ⟨_, rfl⟩
      have l0 : 0 ≤ l ∧ l < 65536 := by omega
      have ML := Lib.hid (show maskZ val 2 = l from hl2.symm)
      have LB : loadZ (storeZ zs 2 (k : Int) val) 27 (k : Int) = extendZ 27 l := by
        have sz : sizeZ 27 = 2 := rfl
        have at_i : ∀ d : Nat, d < 2 → (storeZ zs 2 (k : Int) val).getD (k + d) 0 = byteZ val d := fun d hd => by
          rw [storeZ_at _ _ _ _ _ OK.out, if_pos (by omega), Int.toNat_natCast, show k + d - k = d by omega]
        rw [loadZ_yes (by omega) (by omega) (by rw [sz, storeZ_len]; exact (storeOk_yes OK.out).2.2.2), sz, Int.toNat_natCast]
        congr 1
        have a0 := at_i 0 (by omega)
        rw [Nat.add_zero] at a0
        have a1 := at_i 1 (by omega)
        
        
        simp only [byteZ] at a0 a1
        simp at a1
        
        unfold wordOf
        simp only [a0]
        simp
        omega
      clear hl2
      by_cases hs2 : l < 32768
      · have EX := Lib.hid (show extendZ 27 l = l by unfold extendZ; simp; omega)
        have MG := Lib.hid (show maskZ (l) 2 = l by unfold maskZ; simp; omega)
        have AN : bits .and .u32 (l / 32768) 1 = 0 := by rw [and_one _ (by omega) (by omega)]; omega
        go_wp2_with fail
        refine (load_any _ cap n _ (storeZ zs 2 (k : Int) val) 27 (k : Int) _ (Row.of_own own3) (Nat.le_refl _) (storeZ_bytes hz) (by omega) (by omega)).mono ?_; rintro e w4 ⟨rfl, hb4⟩
        rw [LB, EX.out]
        have k4 := k3.to hb4
        clear hb4
        go_wp2_with fail
        refine (refMask_any val 2 _ v0 (by omega)).mono ?_; rintro e w5 ⟨rfl, rfl⟩
        rw [ML.out]
        go_wp2_with fail
        refine (refMask_any (l) 2 _ (by omega) (by omega)).mono ?_; rintro e w5 ⟨rfl, rfl⟩
        rw [MG.out]
        go_wp2_with fail
        go_ret
        exact ⟨rfl, k4⟩
      · have EX := Lib.hid (show extendZ 27 l = l + 4294901760 by unfold extendZ; simp; omega)
        have MG := Lib.hid (show maskZ (l + 4294901760) 2 = l by unfold maskZ; simp; omega)
        have AN : bits .and .u32 (l / 32768) 1 = 1 := by rw [and_one _ (by omega) (by omega)]; omega
        go_wp2_with fail
        refine (load_any _ cap n _ (storeZ zs 2 (k : Int) val) 27 (k : Int) _ (Row.of_own own3) (Nat.le_refl _) (storeZ_bytes hz) (by omega) (by omega)).mono ?_; rintro e w4 ⟨rfl, hb4⟩
        rw [LB, EX.out]
        have k4 := k3.to hb4
        clear hb4
        go_wp2_with fail
        refine (refMask_any val 2 _ v0 (by omega)).mono ?_; rintro e w5 ⟨rfl, rfl⟩
        rw [ML.out]
        go_wp2_with fail
        refine (refMask_any (l + 4294901760) 2 _ (by omega) (by omega)).mono ?_; rintro e w5 ⟨rfl, rfl⟩
        rw [MG.out]
        go_wp2_with fail
        go_ret
        exact ⟨rfl, k4⟩

set_option maxRecDepth 20000 in
set_option maxHeartbeats 400000 in
theorem bytesBack_short2 (A : Option Addr) (c n : Nat) (at_ val : Int) (w : World) (hn : n < 2) (h : 0 ≤ at_) :
    Calls Try.prog 4 #[.slice A n c, .int .i64 2, .int .i64 at_, .int .u32 val] w fun e w' => e = .returned (.bool true) ∧ Below w.heap.size w w' := by
  go_enter Try.func4, Try.ntmps4
  go_wp2_with fail
  refine (bytesAlive_any _).mono ?_; rintro e w1 ⟨rfl, hb1⟩
  go_wp2_with fail
  go_ret
  exact ⟨rfl, (hb1.alloc hb1.size _).alloc (by have := hb1.size; simp; omega) _⟩

set_option maxRecDepth 20000 in
set_option maxHeartbeats 1000000 in
theorem bytesBack_2 (b off c n : Nat) (zs : List Int) (at_ val : Int) (w : World) (r : Row w w.heap.size 1 (.slice (some ⟨b, off, none⟩) n c) n (zs.map (Value.int .u8))) (hz : ∀ x ∈ zs, 0 ≤ x ∧ x ≤ 255) (hn : n ≤ 200) (hs : 2 ≤ n) (h0 : 0 ≤ at_) (h1 : at_ ≤ 9223372036854775807) (v0 : 0 ≤ val) (v1 : val ≤ 4294967295) :
    Calls Try.prog 4 #[.slice (some ⟨b, off, none⟩) n c, .int .i64 2, .int .i64 at_, .int .u32 val] w fun e w' => e = .returned (.bool true) ∧ Below w.heap.size w w' := by
  have hl : zs.length = n := by have := r.len; simpa using this
  obtain ⟨u1, u2⟩ := r.cap
  have HR := Lib.hid (fun (x : World) (h : Kept w x) => h.row r)
  clear r
  obtain ⟨k, hk⟩ : ∃ k : Nat, (at_ % (((n : Int) / 2))) * 2 = (k : Int) := Int.eq_ofNat_of_zero_le (by have := Int.emod_nonneg at_ (show (((n : Int) / 2)) ≠ 0 by omega); omega)
  have hk1 : k + 2 ≤ n ∧ k % 2 = 0 := by
    have := Int.emod_lt_of_pos at_ (show 0 < (((n : Int) / 2)) by omega)
    omega
  obtain ⟨hk1, hk2⟩ := hk1
  have OK := Lib.hid (show storeOk 2 (k : Int) zs.length = true from decide_eq_true ⟨by omega, by omega, by omega, checkZ_ok (.inr (by omega)) (by omega)⟩)
  go_enter Try.func4, Try.ntmps4
  go_wp2_with fail
  refine (bytesAlive_any _).mono ?_; rintro e w1 ⟨rfl, hb1⟩
  have k1 : Kept w w1 := hb1
  clear hb1
  go_wp2_with fail
  have k2 : Kept w ((w1.alloc (.cells #[.int .i64 4, .int .i64 2, .int .i64 2, .int .i64 1, .int .i64 1] 3)).alloc (.cells #[.int .i64 26, .int .i64 27, .int .i64 28, .int .i64 29, .int .i64 30] 3)) := (k1.alloc _).alloc _
  generalize (w1.alloc (.cells #[.int .i64 4, .int .i64 2, .int .i64 2, .int .i64 1, .int .i64 1] 3)).alloc (.cells #[.int .i64 26, .int .i64 27, .int .i64 28, .int .i64 29, .int .i64 30] 3) = w2 at *
  refine (store_any _ _ n zs val _ 2 (k : Int) (HR.out _ k2) (by omega) (by omega) ⟨v0, v1⟩).mono ?_; rintro e w3 ⟨vx, rfl, own3, hb⟩
  have k3 := k2.to hb
  clear hb hk
  obtain ⟨g, cap, rfl, _, hgs⟩ := own_form own3 (by omega)
  obtain ⟨u3, u4⟩ := (Row.of_own own3).cap
  have X := Lib.hid (fun (j : Nat) (h : j < n) => own_u8 own3 j h)
  have Y := Lib.hid (fun (j : Nat) (h : j < n) => (HR.out _ k3).num j h)
  have XA := Lib.hid (fun (j : Nat) (h : j < n) (hj : j < k ∨ k + 2 ≤ j) => show w3.cell? ⟨g, j, none⟩ = some (.int .u8 (zs.getD j 0)) by rw [X.out j h, storeZ_at _ _ _ _ _ OK.out, if_neg (by omega)])
  have XB := Lib.hid (fun (d : Nat) (h : d < 2) => show w3.cell? ⟨g, k + d, none⟩ = some (.int .u8 (byteZ val d)) by rw [X.out (k + d) (by omega), storeZ_at _ _ _ _ _ OK.out, if_pos (by omega), Int.toNat_natCast, show k + d - k = d by omega])
  have hk3 : (0 : Int) ≤ k := by omega
  clear X
  go_wp2_with fail
  go_loopw [14, 15] (fun i _ wr => ∃ j : Nat, j ≤ n ∧ i = .int .i64 j ∧ wr = w3) (fun i _ _ => n - (intOf i).toNat)
  case atStart => exact ⟨0, Nat.zero_le _, rfl, rfl⟩
  case round =>
    obtain ⟨j, hj, rfl, rfl⟩ := hrel
    have j0 : (0 : Int) ≤ j := by omega
    by_cases hlt : j < n
    · have yj := Y.out j hlt
      have j1 : (j : Int) < n := by omega
      by_cases hA : j < k ∨ k + 2 ≤ j
      · have xj := XA.out j hlt hA
        by_cases hB : j < k
        · have hB' : (j : Int) < k := by omega
          go_wp2_with fail
          go_roundw
          case rel => exact ⟨j + 1, by omega, by go_num, by trivial⟩
          case measure => simp [intOf]; omega
        · have hB' : (k : Int) + 2 ≤ j := by omega
          go_wp2_with fail
          go_roundw
          case rel => exact ⟨j + 1, by omega, by go_num, by trivial⟩
          case measure => simp [intOf]; omega
      · obtain ⟨d, rfl⟩ : ∃ d, j = k + d := ⟨j - k, by omega⟩
        have hd : d = 0 ∨ d = 1 := by omega
        rcases hd with rfl | rfl
        · have xj : wr.cell? ⟨g, k, none⟩ = some (.int .u8 (val % 256)) := XB.out 0 (by omega)
          rw [Nat.add_zero] at yj j0 j1 hlt hj ⊢
          go_wp2_with fail
          go_roundw
          case rel => exact ⟨k + 0 + 1, by omega, by go_num, by trivial⟩
          case measure => simp [intOf]; omega
        · have xj : wr.cell? ⟨g, k + 1, none⟩ = some (.int .u8 (val / 256 % 256)) := XB.out 1 (by omega)
          
          go_wp2_with fail
          go_roundw
          case rel => exact ⟨k + 1 + 1, by omega, by go_num, by trivial⟩
          case measure => simp [intOf]; omega
    · have hlt' : ¬ (j : Int) < n := by omega
      obtain ⟨l, hl2⟩ : ∃ l, l = val % 65536 := ⟨_, rfl⟩
      have l0 : 0 ≤ l ∧ l < 65536 := by omega
      have ML := Lib.hid (show maskZ val 2 = l from hl2.symm)
      have LB : loadZ (storeZ zs 2 (k : Int) val) 28 (k : Int) = extendZ 28 l := by
        have sz : sizeZ 28 = 2 := rfl
        have at_i : ∀ d : Nat, d < 2 → (storeZ zs 2 (k : Int) val).getD (k + d) 0 = byteZ val d := fun d hd => by
          rw [storeZ_at _ _ _ _ _ OK.out, if_pos (by omega), Int.toNat_natCast, show k + d - k = d by omega]
        rw [loadZ_yes (by omega) (by omega) (by rw [sz, storeZ_len]; exact (storeOk_yes OK.out).2.2.2), sz, Int.toNat_natCast]
        congr 1
        have a0 := at_i 0 (by omega)
        rw [Nat.add_zero] at a0
        have a1 := at_i 1 (by omega)
        
        
        simp only [byteZ] at a0 a1
        simp at a1
        
        unfold wordOf
        simp only [a0]
        simp
        omega
      clear hl2
      have EX := Lib.hid (show extendZ 28 l = l by unfold extendZ; simp)
      have MG := Lib.hid (show maskZ (l) 2 = l by unfold maskZ; simp; omega)
      go_wp2_with fail
      refine (load_any _ cap n _ (storeZ zs 2 (k : Int) val) 28 (k : Int) _ (Row.of_own own3) (Nat.le_refl _) (storeZ_bytes hz) (by omega) (by omega)).mono ?_; rintro e w4 ⟨rfl, hb4⟩
      rw [LB, EX.out]
      have k4 := k3.to hb4
      clear hb4
      go_wp2_with fail
      refine (refMask_any val 2 _ v0 (by omega)).mono ?_; rintro e w5 ⟨rfl, rfl⟩
      rw [ML.out]
      go_wp2_with fail
      refine (refMask_any (l) 2 _ (by omega) (by omega)).mono ?_; rintro e w5 ⟨rfl, rfl⟩
      rw [MG.out]
      go_wp2_with fail
      go_ret
      exact ⟨rfl, k4⟩

set_option maxRecDepth 20000 in
set_option maxHeartbeats 400000 in
theorem bytesBack_short3 (A : Option Addr) (c n : Nat) (at_ val : Int) (w : World) (hn : n < 1) (h : 0 ≤ at_) :
    Calls Try.prog 4 #[.slice A n c, .int .i64 3, .int .i64 at_, .int .u32 val] w fun e w' => e = .returned (.bool true) ∧ Below w.heap.size w w' := by
  go_enter Try.func4, Try.ntmps4
  go_wp2_with fail
  refine (bytesAlive_any _).mono ?_; rintro e w1 ⟨rfl, hb1⟩
  go_wp2_with fail
  go_ret
  exact ⟨rfl, (hb1.alloc hb1.size _).alloc (by have := hb1.size; simp; omega) _⟩

set_option maxRecDepth 20000 in
set_option maxHeartbeats 1000000 in
theorem bytesBack_3 (b off c n : Nat) (zs : List Int) (at_ val : Int) (w : World) (r : Row w w.heap.size 1 (.slice (some ⟨b, off, none⟩) n c) n (zs.map (Value.int .u8))) (hz : ∀ x ∈ zs, 0 ≤ x ∧ x ≤ 255) (hn : n ≤ 200) (hs : 1 ≤ n) (h0 : 0 ≤ at_) (h1 : at_ ≤ 9223372036854775807) (v0 : 0 ≤ val) (v1 : val ≤ 4294967295) :
    Calls Try.prog 4 #[.slice (some ⟨b, off, none⟩) n c, .int .i64 3, .int .i64 at_, .int .u32 val] w fun e w' => e = .returned (.bool true) ∧ Below w.heap.size w w' := by
  have hl : zs.length = n := by have := r.len; simpa using this
  obtain ⟨u1, u2⟩ := r.cap
  have HR := Lib.hid (fun (x : World) (h : Kept w x) => h.row r)
  clear r
  obtain ⟨k, hk⟩ : ∃ k : Nat, (at_ % ((n : Int))) = (k : Int) := Int.eq_ofNat_of_zero_le (by have := Int.emod_nonneg at_ (show ((n : Int)) ≠ 0 by omega); omega)
  have hk1 : k + 1 ≤ n ∧ k % 1 = 0 := by
    have := Int.emod_lt_of_pos at_ (show 0 < ((n : Int)) by omega)
    omega
  obtain ⟨hk1, hk2⟩ := hk1
  have OK := Lib.hid (show storeOk 1 (k : Int) zs.length = true from decide_eq_true ⟨by omega, by omega, by omega, checkZ_ok (.inr (by omega)) (by omega)⟩)
  go_enter Try.func4, Try.ntmps4
  go_wp2_with fail
  refine (bytesAlive_any _).mono ?_; rintro e w1 ⟨rfl, hb1⟩
  have k1 : Kept w w1 := hb1
  clear hb1
  go_wp2_with fail
  have k2 : Kept w ((w1.alloc (.cells #[.int .i64 4, .int .i64 2, .int .i64 2, .int .i64 1, .int .i64 1] 3)).alloc (.cells #[.int .i64 26, .int .i64 27, .int .i64 28, .int .i64 29, .int .i64 30] 3)) := (k1.alloc _).alloc _
  generalize (w1.alloc (.cells #[.int .i64 4, .int .i64 2, .int .i64 2, .int .i64 1, .int .i64 1] 3)).alloc (.cells #[.int .i64 26, .int .i64 27, .int .i64 28, .int .i64 29, .int .i64 30] 3) = w2 at *
  refine (store_any _ _ n zs val _ 1 (k : Int) (HR.out _ k2) (by omega) (by omega) ⟨v0, v1⟩).mono ?_; rintro e w3 ⟨vx, rfl, own3, hb⟩
  have k3 := k2.to hb
  clear hb hk
  obtain ⟨g, cap, rfl, _, hgs⟩ := own_form own3 (by omega)
  obtain ⟨u3, u4⟩ := (Row.of_own own3).cap
  have X := Lib.hid (fun (j : Nat) (h : j < n) => own_u8 own3 j h)
  have Y := Lib.hid (fun (j : Nat) (h : j < n) => (HR.out _ k3).num j h)
  have XA := Lib.hid (fun (j : Nat) (h : j < n) (hj : j < k ∨ k + 1 ≤ j) => show w3.cell? ⟨g, j, none⟩ = some (.int .u8 (zs.getD j 0)) by rw [X.out j h, storeZ_at _ _ _ _ _ OK.out, if_neg (by omega)])
  have XB := Lib.hid (fun (d : Nat) (h : d < 1) => show w3.cell? ⟨g, k + d, none⟩ = some (.int .u8 (byteZ val d)) by rw [X.out (k + d) (by omega), storeZ_at _ _ _ _ _ OK.out, if_pos (by omega), Int.toNat_natCast, show k + d - k = d by omega])
  have hk3 : (0 : Int) ≤ k := by omega
  clear X
  go_wp2_with fail
  go_loopw [14, 15] (fun i _ wr => ∃ j : Nat, j ≤ n ∧ i = .int .i64 j ∧ wr = w3) (fun i _ _ => n - (intOf i).toNat)
  case atStart => exact ⟨0, Nat.zero_le _, rfl, rfl⟩
  case round =>
    obtain ⟨j, hj, rfl, rfl⟩ := hrel
    have j0 : (0 : Int) ≤ j := by omega
    by_cases hlt : j < n
    · have yj := Y.out j hlt
      have j1 : (j : Int) < n := by omega
      by_cases hA : j < k ∨ k + 1 ≤ j
      · have xj := XA.out j hlt hA
        by_cases hB : j < k
        · have hB' : (j : Int) < k := by omega
          go_wp2_with fail
          go_roundw
          case rel => exact ⟨j + 1, by omega, by go_num, by trivial⟩
          case measure => simp [intOf]; omega
        · have hB' : (k : Int) + 1 ≤ j := by omega
          go_wp2_with fail
          go_roundw
          case rel => exact ⟨j + 1, by omega, by go_num, by trivial⟩
          case measure => simp [intOf]; omega
      · obtain ⟨d, rfl⟩ : ∃ d, j = k + d := ⟨j - k, by omega⟩
        have hd : d = 0 := by omega
        rcases hd with rfl
        · have xj : wr.cell? ⟨g, k, none⟩ = some (.int .u8 (val % 256)) := XB.out 0 (by omega)
          rw [Nat.add_zero] at yj j0 j1 hlt hj ⊢
          go_wp2_with fail
          go_roundw
          case rel => exact ⟨k + 0 + 1, by omega, by go_num, by trivial⟩
          case measure => simp [intOf]; omega
    · have hlt' : ¬ (j : Int) < n := by omega
      obtain ⟨l, hl2⟩ : ∃ l, l = val % 256 := ⟨_, rfl⟩
      have l0 : 0 ≤ l ∧ l < 256 := by omega
      have ML := Lib.hid (show maskZ val 1 = l from hl2.symm)
      have LB : loadZ (storeZ zs 1 (k : Int) val) 29 (k : Int) = extendZ 29 l := by
        have sz : sizeZ 29 = 1 := rfl
        have at_i : ∀ d : Nat, d < 1 → (storeZ zs 1 (k : Int) val).getD (k + d) 0 = byteZ val d := fun d hd => by
          rw [storeZ_at _ _ _ _ _ OK.out, if_pos (by omega), Int.toNat_natCast, show k + d - k = d by omega]
        rw [loadZ_yes (by omega) (by omega) (by rw [sz, storeZ_len]; exact (storeOk_yes OK.out).2.2.2), sz, Int.toNat_natCast]
        congr 1
        have a0 := at_i 0 (by omega)
        rw [Nat.add_zero] at a0
        
        
        
        simp only [byteZ] at a0
        
        
        unfold wordOf
        simp only [a0]
        simp
        omega
      clear hl2
      by_cases hs2 : l < 128
      · have EX := Lib.hid (show extendZ 29 l = l by unfold extendZ; simp; omega)
        have MG := Lib.hid (show maskZ (l) 1 = l by unfold maskZ; simp; omega)
        have AN : bits .and .u32 (l / 128) 1 = 0 := by rw [and_one _ (by omega) (by omega)]; omega
        go_wp2_with fail
        refine (load_any _ cap n _ (storeZ zs 1 (k : Int) val) 29 (k : Int) _ (Row.of_own own3) (Nat.le_refl _) (storeZ_bytes hz) (by omega) (by omega)).mono ?_; rintro e w4 ⟨rfl, hb4⟩
        rw [LB, EX.out]
        have k4 := k3.to hb4
        clear hb4
        go_wp2_with fail
        refine (refMask_any val 1 _ v0 (by omega)).mono ?_; rintro e w5 ⟨rfl, rfl⟩
        rw [ML.out]
        go_wp2_with fail
        refine (refMask_any (l) 1 _ (by omega) (by omega)).mono ?_; rintro e w5 ⟨rfl, rfl⟩
        rw [MG.out]
        go_wp2_with fail
        go_ret
        exact ⟨rfl, k4⟩
      · have EX := Lib.hid (show extendZ 29 l = l + 4294967040 by unfold extendZ; simp; omega)
        have MG := Lib.hid (show maskZ (l + 4294967040) 1 = l by unfold maskZ; simp; omega)
        have AN : bits .and .u32 (l / 128) 1 = 1 := by rw [and_one _ (by omega) (by omega)]; omega
        go_wp2_with fail
        refine (load_any _ cap n _ (storeZ zs 1 (k : Int) val) 29 (k : Int) _ (Row.of_own own3) (Nat.le_refl _) (storeZ_bytes hz) (by omega) (by omega)).mono ?_; rintro e w4 ⟨rfl, hb4⟩
        rw [LB, EX.out]
        have k4 := k3.to hb4
        clear hb4
        go_wp2_with fail
        refine (refMask_any val 1 _ v0 (by omega)).mono ?_; rintro e w5 ⟨rfl, rfl⟩
        rw [ML.out]
        go_wp2_with fail
        refine (refMask_any (l + 4294967040) 1 _ (by omega) (by omega)).mono ?_; rintro e w5 ⟨rfl, rfl⟩
        rw [MG.out]
        go_wp2_with fail
        go_ret
        exact ⟨rfl, k4⟩

set_option maxRecDepth 20000 in
set_option maxHeartbeats 400000 in
theorem bytesBack_short4 (A : Option Addr) (c n : Nat) (at_ val : Int) (w : World) (hn : n < 1) (h : 0 ≤ at_) :
    Calls Try.prog 4 #[.slice A n c, .int .i64 4, .int .i64 at_, .int .u32 val] w fun e w' => e = .returned (.bool true) ∧ Below w.heap.size w w' := by
  go_enter Try.func4, Try.ntmps4
  go_wp2_with fail
  refine (bytesAlive_any _).mono ?_; rintro e w1 ⟨rfl, hb1⟩
  go_wp2_with fail
  go_ret
  exact ⟨rfl, (hb1.alloc hb1.size _).alloc (by have := hb1.size; simp; omega) _⟩

set_option maxRecDepth 20000 in
set_option maxHeartbeats 1000000 in
theorem bytesBack_4 (b off c n : Nat) (zs : List Int) (at_ val : Int) (w : World) (r : Row w w.heap.size 1 (.slice (some ⟨b, off, none⟩) n c) n (zs.map (Value.int .u8))) (hz : ∀ x ∈ zs, 0 ≤ x ∧ x ≤ 255) (hn : n ≤ 200) (hs : 1 ≤ n) (h0 : 0 ≤ at_) (h1 : at_ ≤ 9223372036854775807) (v0 : 0 ≤ val) (v1 : val ≤ 4294967295) :
    Calls Try.prog 4 #[.slice (some ⟨b, off, none⟩) n c, .int .i64 4, .int .i64 at_, .int .u32 val] w fun e w' => e = .returned (.bool true) ∧ Below w.heap.size w w' := by
  have hl : zs.length = n := by have := r.len; simpa using this
  obtain ⟨u1, u2⟩ := r.cap
  have HR := Lib.hid (fun (x : World) (h : Kept w x) => h.row r)
  clear r
  obtain ⟨k, hk⟩ : ∃ k : Nat, (at_ % ((n : Int))) = (k : Int) := Int.eq_ofNat_of_zero_le (by have := Int.emod_nonneg at_ (show ((n : Int)) ≠ 0 by omega); omega)
  have hk1 : k + 1 ≤ n ∧ k % 1 = 0 := by
    have := Int.emod_lt_of_pos at_ (show 0 < ((n : Int)) by omega)
    omega
  obtain ⟨hk1, hk2⟩ := hk1
  have OK := Lib.hid (show storeOk 1 (k : Int) zs.length = true from decide_eq_true ⟨by omega, by omega, by omega, checkZ_ok (.inr (by omega)) (by omega)⟩)
  go_enter Try.func4, Try.ntmps4
  go_wp2_with fail
  refine (bytesAlive_any _).mono ?_; rintro e w1 ⟨rfl, hb1⟩
  have k1 : Kept w w1 := hb1
  clear hb1
  go_wp2_with fail
  have k2 : Kept w ((w1.alloc (.cells #[.int .i64 4, .int .i64 2, .int .i64 2, .int .i64 1, .int .i64 1] 3)).alloc (.cells #[.int .i64 26, .int .i64 27, .int .i64 28, .int .i64 29, .int .i64 30] 3)) := (k1.alloc _).alloc _
  generalize (w1.alloc (.cells #[.int .i64 4, .int .i64 2, .int .i64 2, .int .i64 1, .int .i64 1] 3)).alloc (.cells #[.int .i64 26, .int .i64 27, .int .i64 28, .int .i64 29, .int .i64 30] 3) = w2 at *
  refine (store_any _ _ n zs val _ 1 (k : Int) (HR.out _ k2) (by omega) (by omega) ⟨v0, v1⟩).mono ?_; rintro e w3 ⟨vx, rfl, own3, hb⟩
  have k3 := k2.to hb
  clear hb hk
  obtain ⟨g, cap, rfl, _, hgs⟩ := own_form own3 (by omega)
  obtain ⟨u3, u4⟩ := (Row.of_own own3).cap
  have X := Lib.hid (fun (j : Nat) (h : j < n) => own_u8 own3 j h)
  have Y := Lib.hid (fun (j : Nat) (h : j < n) => (HR.out _ k3).num j h)
  have XA := Lib.hid (fun (j : Nat) (h : j < n) (hj : j < k ∨ k + 1 ≤ j) => show w3.cell? ⟨g, j, none⟩ = some (.int .u8 (zs.getD j 0)) by rw [X.out j h, storeZ_at _ _ _ _ _ OK.out, if_neg (by omega)])
  have XB := Lib.hid (fun (d : Nat) (h : d < 1) => show w3.cell? ⟨g, k + d, none⟩ = some (.int .u8 (byteZ val d)) by rw [X.out (k + d) (by omega), storeZ_at _ _ _ _ _ OK.out, if_pos (by omega), Int.toNat_natCast, show k + d - k = d by omega])
  have hk3 : (0 : Int) ≤ k := by omega
  clear X
  go_wp2_with fail
  go_loopw [14, 15] (fun i _ wr => ∃ j : Nat, j ≤ n ∧ i = .int .i64 j ∧ wr = w3) (fun i _ _ => n - (intOf i).toNat)
  case atStart => exact ⟨0, Nat.zero_le _, rfl, rfl⟩
  case round =>
    obtain ⟨j, hj, rfl, rfl⟩ := hrel
    have j0 : (0 : Int) ≤ j := by omega
    by_cases hlt : j < n
    · have yj := Y.out j hlt
      have j1 : (j : Int) < n := by omega
      by_cases hA : j < k ∨ k + 1 ≤ j
      · have xj := XA.out j hlt hA
        by_cases hB : j < k
        · have hB' : (j : Int) < k := by omega
          go_wp2_with fail
          go_roundw
          case rel => exact ⟨j + 1, by omega, by go_num, by trivial⟩
          case measure => simp [intOf]; omega
        · have hB' : (k : Int) + 1 ≤ j := by omega
          go_wp2_with fail
          go_roundw
          case rel => exact ⟨j + 1, by omega, by go_num, by trivial⟩
          case measure => simp [intOf]; omega
      · obtain ⟨d, rfl⟩ : ∃ d, j = k + d := ⟨j - k, by omega⟩
        have hd : d = 0 := by omega
        rcases hd with rfl
        · have xj : wr.cell? ⟨g, k, none⟩ = some (.int .u8 (val % 256)) := XB.out 0 (by omega)
          rw [Nat.add_zero] at yj j0 j1 hlt hj ⊢
          go_wp2_with fail
          go_roundw
          case rel => exact ⟨k + 0 + 1, by omega, by go_num, by trivial⟩
          case measure => simp [intOf]; omega
    · have hlt' : ¬ (j : Int) < n := by omega
      obtain ⟨l, hl2⟩ : ∃ l, l = val % 256 := ⟨_, rfl⟩
      have l0 : 0 ≤ l ∧ l < 256 := by omega
      have ML := Lib.hid (show maskZ val 1 = l from hl2.symm)
      have LB : loadZ (storeZ zs 1 (k : Int) val) 30 (k : Int) = extendZ 30 l := by
        have sz : sizeZ 30 = 1 := rfl
        have at_i : ∀ d : Nat, d < 1 → (storeZ zs 1 (k : Int) val).getD (k + d) 0 = byteZ val d := fun d hd => by
          rw [storeZ_at _ _ _ _ _ OK.out, if_pos (by omega), Int.toNat_natCast, show k + d - k = d by omega]
        rw [loadZ_yes (by omega) (by omega) (by rw [sz, storeZ_len]; exact (storeOk_yes OK.out).2.2.2), sz, Int.toNat_natCast]
        congr 1
        have a0 := at_i 0 (by omega)
        rw [Nat.add_zero] at a0
        
        
        
        simp only [byteZ] at a0
        
        
        unfold wordOf
        simp only [a0]
        simp
        omega
      clear hl2
      have EX := Lib.hid (show extendZ 30 l = l by unfold extendZ; simp)
      have MG := Lib.hid (show maskZ (l) 1 = l by unfold maskZ; simp; omega)
      go_wp2_with fail
      refine (load_any _ cap n _ (storeZ zs 1 (k : Int) val) 30 (k : Int) _ (Row.of_own own3) (Nat.le_refl _) (storeZ_bytes hz) (by omega) (by omega)).mono ?_; rintro e w4 ⟨rfl, hb4⟩
      rw [LB, EX.out]
      have k4 := k3.to hb4
      clear hb4
      go_wp2_with fail
      refine (refMask_any val 1 _ v0 (by omega)).mono ?_; rintro e w5 ⟨rfl, rfl⟩
      rw [ML.out]
      go_wp2_with fail
      refine (refMask_any (l) 1 _ (by omega) (by omega)).mono ?_; rintro e w5 ⟨rfl, rfl⟩
      rw [MG.out]
      go_wp2_with fail
      go_ret
      exact ⟨rfl, k4⟩

theorem bytesBack_walk (v0 : Value) (n0 : Nat) (z0 : List Int) (k at_ val : Int) (w : World) (r0 : Row w w.heap.size 1 v0 n0 (z0.map (Value.int .u8))) (g0 : ∀ x ∈ z0, 0 ≤ x ∧ x ≤ 255) (fk : -9223372036854775808 ≤ k ∧ k ≤ 9223372036854775807) (fa : -9223372036854775808 ≤ at_ ∧ at_ ≤ 9223372036854775807) (fv : 0 ≤ val ∧ val ≤ 4294967295) :
    Calls Try.prog 4 #[v0, .int .i64 k, .int .i64 at_, .int .u32 val] w fun e w' => e = .returned (.bool true) ∧ Below w.heap.size w w' := by
  obtain ⟨A, c, rfl⟩ := r0.form
  have hcap := r0.cap
  by_cases h : 200 < n0 ∨ k < 0 ∨ 4 < k ∨ at_ < 0
  · exact bytesBack_out A c n0 k at_ val w (by omega) h
  have hk : k = 0 ∨ k = 1 ∨ k = 2 ∨ k = 3 ∨ k = 4 := by omega
  rcases hk with rfl | rfl | rfl | rfl | rfl
  · by_cases hs : n0 < 4
    · exact bytesBack_short0 A c n0 at_ val w hs (by omega)
    · obtain ⟨b, off, rfl, _, _⟩ := r0.at_ (by omega)
      exact bytesBack_0 b off c n0 z0 at_ val w r0 g0 (by omega) (by omega) (by omega) (by omega) fv.1 fv.2
  · by_cases hs : n0 < 2
    · exact bytesBack_short1 A c n0 at_ val w hs (by omega)
    · obtain ⟨b, off, rfl, _, _⟩ := r0.at_ (by omega)
      exact bytesBack_1 b off c n0 z0 at_ val w r0 g0 (by omega) (by omega) (by omega) (by omega) fv.1 fv.2
  · by_cases hs : n0 < 2
    · exact bytesBack_short2 A c n0 at_ val w hs (by omega)
    · obtain ⟨b, off, rfl, _, _⟩ := r0.at_ (by omega)
      exact bytesBack_2 b off c n0 z0 at_ val w r0 g0 (by omega) (by omega) (by omega) (by omega) fv.1 fv.2
  · by_cases hs : n0 < 1
    · exact bytesBack_short3 A c n0 at_ val w hs (by omega)
    · obtain ⟨b, off, rfl, _, _⟩ := r0.at_ (by omega)
      exact bytesBack_3 b off c n0 z0 at_ val w r0 g0 (by omega) (by omega) (by omega) (by omega) fv.1 fv.2
  · by_cases hs : n0 < 1
    · exact bytesBack_short4 A c n0 at_ val w hs (by omega)
    · obtain ⟨b, off, rfl, _, _⟩ := r0.at_ (by omega)
      exact bytesBack_4 b off c n0 z0 at_ val w r0 g0 (by omega) (by omega) (by omega) (by omega) fv.1 fv.2
end Go.Proofs.Ytkmflgfhhlhgeaa.Words

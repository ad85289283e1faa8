/- The walk of BytesShares. -/
import Derived.Test.YtkmflgfhhlhgeaaBytesAlive
import Derived.Test.YtkmflgfhhlhgeaaBytesMath2
import Derived.Test.YtkmflgfhhlhgeaaWordJoin
import Derived.LoopN
namespace Go.Proofs.Ytkmflgfhhlhgeaa.Words
open Go.RowKit
set_option linter.unusedVariables false

/-- Bytes that are 0. -/
def naught : List Int := List.replicate 128 0
theorem naught_len : naught.length = 128 := by simp [naught]
theorem naught_at (i : Nat) : naught.getD i 0 = 0 := by
  unfold naught
  rw [List.getD_eq_getElem?_getD, List.getElem?_replicate]
  split <;> rfl
theorem naught_row : (madeCells (Value.int .u8 0).cells (128 * 1)).toList = naught.map (Value.int .u8) := by
  rw [show ((Value.int .u8 0).cells) = #[Value.int .u8 0] from rfl, toList_madeCells_one]
  simp [naught]
/-- It holds a word's bytes from a place on, and else 0. -/
def Holds (l : List Int) (k : Nat) (v : Int) : Prop := l.length = 128 ∧ ∀ i, l.getD i 0 = if 4 * k ≤ i ∧ i < 4 * k + 4 then byteZ v (i - 4 * k) else 0
theorem Holds.same {l l' : List Int} {k : Nat} {v : Int} (h : Holds l k v) (h' : Holds l' k v) : l = l' := ext_getD (h.1.trans h'.1.symm) fun i => (h.2 i).trans (h'.2 i).symm
theorem ok_at {size addr : Int} (hs : size = 1 ∨ size = 2 ∨ size = 4) (h0 : 0 ≤ addr) (h1 : addr + size ≤ 128) (hm : addr % size = 0) : storeOk size addr 128 = true := decide_eq_true ⟨hs, h0, by omega, checkZ_ok (.inr hm) h1⟩
theorem holds4 (k : Nat) (hk : k ≤ 30) (v : Int) : Holds (storeZ naught 4 (4 * (k : Int)) v) k v := by
  refine ⟨by rw [storeZ_len, naught_len], fun i => ?_⟩
  rw [storeZ_at _ _ _ _ _ (by rw [naught_len]; exact ok_at (by omega) (by omega) (by omega) (by omega)), naught_at, show (4 * (k : Int)).toNat = 4 * k by omega]
  by_cases h : 4 * k ≤ i ∧ i < 4 * k + 4
  · rw [if_pos h, if_pos (by omega)]
  · rw [if_neg h, if_neg (by omega)]
theorem byte_up (v : Int) : byteZ (v / 65536) 0 = byteZ v 2 ∧ byteZ (v / 65536) 1 = byteZ v 3 ∧ byteZ (v / 256) 0 = byteZ v 1 ∧ byteZ (v / 65536) 0 = byteZ v 2 ∧ byteZ (v / 16777216) 0 = byteZ v 3 := by
  simp only [byteZ]; simp; omega
theorem holds2 (k : Nat) (hk : k ≤ 30) (v : Int) : Holds (storeZ (storeZ naught 2 (4 * (k : Int)) v) 2 (4 * (k : Int) + 2) (v / 65536)) k v := by
  obtain ⟨e0, e1, _⟩ := byte_up v
  refine ⟨by rw [storeZ_len, storeZ_len, naught_len], fun i => ?_⟩
  rw [storeZ_at _ _ _ _ _ (by rw [storeZ_len, naught_len]; exact ok_at (by omega) (by omega) (by omega) (by omega)), storeZ_at _ _ _ _ _ (by rw [naught_len]; exact ok_at (by omega) (by omega) (by omega) (by omega)), naught_at, show (4 * (k : Int)).toNat = 4 * k by omega, show (4 * (k : Int) + 2).toNat = 4 * k + 2 by omega]
  by_cases h : 4 * k ≤ i ∧ i < 4 * k + 4
  · rw [if_pos h]
    by_cases g : 4 * k + 2 ≤ i
    · rw [if_pos (by omega)]
      have : i = 4 * k + 2 ∨ i = 4 * k + 3 := by omega
      rcases this with rfl | rfl
      · rw [show 4 * k + 2 - (4 * k + 2) = 0 by omega, show 4 * k + 2 - 4 * k = 2 by omega]; exact e0
      · rw [show 4 * k + 3 - (4 * k + 2) = 1 by omega, show 4 * k + 3 - 4 * k = 3 by omega]; exact e1
    · rw [if_neg (by omega), if_pos (by omega)]
  · rw [if_neg h, if_neg (by omega), if_neg (by omega)]
theorem holds1 (k : Nat) (hk : k ≤ 30) (v : Int) : Holds (storeZ (storeZ (storeZ (storeZ naught 1 (4 * (k : Int)) v) 1 (4 * (k : Int) + 1) (v / 256)) 1 (4 * (k : Int) + 2) (v / 65536)) 1 (4 * (k : Int) + 3) (v / 16777216)) k v := by
  obtain ⟨_, _, e1, e2, e3⟩ := byte_up v
  refine ⟨by simp only [storeZ_len, naught_len], fun i => ?_⟩
  rw [storeZ_at _ _ _ _ _ (by simp only [storeZ_len, naught_len]; exact ok_at (by omega) (by omega) (by omega) (by omega)), storeZ_at _ _ _ _ _ (by simp only [storeZ_len, naught_len]; exact ok_at (by omega) (by omega) (by omega) (by omega)), storeZ_at _ _ _ _ _ (by simp only [storeZ_len, naught_len]; exact ok_at (by omega) (by omega) (by omega) (by omega)), storeZ_at _ _ _ _ _ (by rw [naught_len]; exact ok_at (by omega) (by omega) (by omega) (by omega)), naught_at, show (4 * (k : Int)).toNat = 4 * k by omega, show (4 * (k : Int) + 1).toNat = 4 * k + 1 by omega, show (4 * (k : Int) + 2).toNat = 4 * k + 2 by omega, show (4 * (k : Int) + 3).toNat = 4 * k + 3 by omega]
  by_cases h : 4 * k ≤ i ∧ i < 4 * k + 4
  · rw [if_pos h]
    have : i = 4 * k ∨ i = 4 * k + 1 ∨ i = 4 * k + 2 ∨ i = 4 * k + 3 := by omega
    rcases this with rfl | rfl | rfl | rfl
    · rw [if_neg (by omega), if_neg (by omega), if_neg (by omega), if_pos (by omega)]
    · rw [if_neg (by omega), if_neg (by omega), if_pos (by omega), show 4 * k + 1 - (4 * k + 1) = 0 by omega, show 4 * k + 1 - 4 * k = 1 by omega]; exact e1
    · rw [if_neg (by omega), if_pos (by omega), show 4 * k + 2 - (4 * k + 2) = 0 by omega, show 4 * k + 2 - 4 * k = 2 by omega]; exact e2
    · rw [if_pos (by omega), show 4 * k + 3 - (4 * k + 3) = 0 by omega, show 4 * k + 3 - 4 * k = 3 by omega]; exact e3
  · rw [if_neg h, if_neg (by omega), if_neg (by omega), if_neg (by omega), if_neg (by omega)]
theorem Holds.at_ {l : List Int} {k : Nat} {v : Int} (h : Holds l k v) (j : Nat) (hj : j < 4) : l.getD (4 * k + j) 0 = byteZ v j := by
  rw [h.2, if_pos (by omega), show 4 * k + j - 4 * k = j by omega]
theorem Holds.load {l : List Int} {k : Nat} {v : Int} (h : Holds l k v) (hk : k ≤ 30) (v0 : 0 ≤ v) (v1 : v ≤ 4294967295) :
    loadZ l 26 (4 * (k : Int)) = v ∧ loadZ l 28 (4 * (k : Int)) = v % 65536 ∧ loadZ l 28 (4 * (k : Int) + 2) = v / 65536 ∧
    loadZ l 30 (4 * (k : Int)) = v % 256 ∧ loadZ l 30 (4 * (k : Int) + 1) = v / 256 % 256 ∧ loadZ l 30 (4 * (k : Int) + 2) = v / 65536 % 256 ∧ loadZ l 30 (4 * (k : Int) + 3) = v / 16777216 := by
  have a0 := h.at_ 0 (by omega)
  have a1 := h.at_ 1 (by omega)
  have a2 := h.at_ 2 (by omega)
  have a3 := h.at_ 3 (by omega)
  rw [Nat.add_zero] at a0
  simp only [byteZ] at a0 a1 a2 a3
  have n0 : (4 * (k : Int)).toNat = 4 * k := by omega
  have n1 : (4 * (k : Int) + 1).toNat = 4 * k + 1 := by omega
  have n2 : (4 * (k : Int) + 2).toNat = 4 * k + 2 := by omega
  have n3 : (4 * (k : Int) + 3).toNat = 4 * k + 3 := by omega
  have s4 : sizeZ 26 = 4 := rfl
  have s2 : sizeZ 28 = 2 := rfl
  have s1 : sizeZ 30 = 1 := rfl
  refine ⟨?_, ?_, ?_, ?_, ?_, ?_, ?_⟩
  · rw [loadZ_yes (by omega) (by omega) (by rw [h.1, s4]; exact checkZ_ok (.inr (by omega)) (by omega)), s4, n0, wordOf, if_neg (by omega), if_neg (by omega), if_pos rfl, a0, a1, a2, a3]
    simp [extendZ]; omega
  · rw [loadZ_yes (by omega) (by omega) (by rw [h.1, s2]; exact checkZ_ok (.inr (by omega)) (by omega)), s2, n0, wordOf, if_neg (by omega), if_pos rfl, a0, a1]
    simp [extendZ]; omega
  · rw [loadZ_yes (by omega) (by omega) (by rw [h.1, s2]; exact checkZ_ok (.inr (by omega)) (by omega)), s2, n2, wordOf, if_neg (by omega), if_pos rfl, a2, a3]
    simp [extendZ]; omega
  · rw [loadZ_yes (by omega) (by omega) (by rw [h.1, s1]; exact checkZ_ok (.inr (by omega)) (by omega)), s1, n0, wordOf, if_pos rfl, a0]
    simp [extendZ]
  · rw [loadZ_yes (by omega) (by omega) (by rw [h.1, s1]; exact checkZ_ok (.inr (by omega)) (by omega)), s1, n1, wordOf, if_pos rfl, a1]
    simp [extendZ]
  · rw [loadZ_yes (by omega) (by omega) (by rw [h.1, s1]; exact checkZ_ok (.inr (by omega)) (by omega)), s1, n2, wordOf, if_pos rfl, a2]
    simp [extendZ]
  · rw [loadZ_yes (by omega) (by omega) (by rw [h.1, s1]; exact checkZ_ok (.inr (by omega)) (by omega)), s1, n3, wordOf, if_pos rfl, a3]
    simp [extendZ]; omega
theorem or_half (x y : Int) (x0 : 0 ≤ x) (x1 : x < 65536) (y0 : 0 ≤ y) (y1 : y < 65536) : bits .or .u32 x (y * 65536) = x + y * 65536 := by
  obtain ⟨a, rfl⟩ := Int.eq_ofNat_of_zero_le x0
  obtain ⟨c, rfl⟩ := Int.eq_ofNat_of_zero_le y0
  have e : ((c : Int) * 65536) = ((c * 65536 : Nat) : Int) := by simp
  rw [e, u32_or_nat a (c * 65536) (by omega) (by omega), Nat.or_comm, nat_join 16 (c * 65536) a (by simp) (by omega)]
  omega

set_option maxHeartbeats 1000000 in
theorem bytesShares_in (v : Int) (k : Nat) (w : World) (v0 : 0 ≤ v) (v1 : v ≤ 4294967295) (hk : k ≤ 30) :
    Calls Try.prog 7 #[.int .u32 v, .int .i64 (k : Int)] w fun e w' => e = .returned (.bool true) ∧ Below w.heap.size w w' := by
  obtain ⟨i0, hi, hz0, hz1, hz2⟩ := info_parts info_u8
  have HZ2 := Lib.hid hz2
  clear hz2
  have hk0 : (0 : Int) ≤ k := by omega
  have hk1 : (k : Int) ≤ 30 := by omega
  go_enter Try.func7, Try.ntmps7
  go_wp2_with fail
  refine (bytesAlive_any _).mono ?_; rintro e w1 ⟨rfl, hb1⟩
  have k1 : Kept w w1 := hb1
  clear hb1
  go_wp2_with (at_make; refine wpList_make_full w1 rfl _ _ 22 rfl w1.heap.size 5 i0 (.int .u8 0) 1 Try.underlying22 hi hz0 hz1 _ _ _ _ 128 rfl rfl rfl rfl (by rw [HZ2.out]; omega) (by unfold maxLen; omega) (Nat.le_refl _) ?_; intro w2 own2 hg2)
  have k2 : Kept w w2 := k1.to ((Below.refl _ _).grown hg2 (Nat.le_refl _) (fun _ h => by cases h))
  rw [naught_row] at own2
  clear hg2
  refine (store_any _ _ _ naught v _ 4 (4 * (k : Int)) (Row.of_own own2) (by omega) (by omega) ⟨v0, v1⟩).mono ?_; rintro e w3 ⟨vm, rfl, own3, hb⟩
  have k3 := k2.to hb
  clear hb own2 k2
  obtain ⟨Am, cm, rfl⟩ := (Row.of_own own3).form
  go_wp2_with (first
    | (at_make; refine wpList_make_full w3 rfl _ _ 22 rfl w3.heap.size 5 i0 (.int .u8 0) 1 Try.underlying22 hi hz0 hz1 _ _ _ _ 128 rfl rfl rfl rfl (by rw [HZ2.out]; omega) (by unfold maxLen; omega) (Nat.le_refl _) ?_; intro w4 own4 hg4)
    | (at_make; refine wpList_make_full w4 rfl _ _ 22 rfl w4.heap.size 5 i0 (.int .u8 0) 1 Try.underlying22 hi hz0 hz1 _ _ _ _ 128 rfl rfl rfl rfl (by rw [HZ2.out]; omega) (by unfold maxLen; omega) (Nat.le_refl _) ?_; intro w5 own5 hg5))
  rw [naught_row] at own4 own5
  have b45 : Below w4.heap.size w4 w5 := (Below.refl _ _).grown hg5 (Nat.le_refl _) (fun _ h => by cases h)
  have b34 : Below w3.heap.size w3 w4 := (Below.refl _ _).grown hg4 (Nat.le_refl _) (fun _ h => by cases h)
  have j5 : Kept w3 w5 := (show Kept w3 w4 from b34).to b45
  have k5 : Kept w w5 := k3.trans j5
  have n0 := own_below own4 b45
  have q5 := Kept.refl w5
  clear own4 hg4 hg5 b34 b45
  refine wp_loop_rounds 3 ?_
  rw [rounds_succ]
  go_wp2_with fail
  refine (store_any _ _ _ _ _ _ 2 _ (Row.of_own n0) (by omega) (by omega) (by omega)).mono ?_; rintro e nw1 ⟨nv1, rfl, n1, hb⟩
  have nq1 : Kept w5 nw1 := q5.to hb
  clear hb n0
  obtain ⟨nA1, nc1, rfl⟩ := (Row.of_own n1).form
  go_wp2_with fail
  rw [rounds_succ]
  go_wp2_with fail
  refine (store_any _ _ _ _ _ _ 2 _ (Row.of_own n1) (by omega) (by omega) (by omega)).mono ?_; rintro e nw2 ⟨nv2, rfl, n2, hb⟩
  have nq2 : Kept w5 nw2 := nq1.to hb
  clear hb n1
  obtain ⟨nA2, nc2, rfl⟩ := (Row.of_own n2).form
  go_wp2_with fail
  rw [rounds_succ]
  go_wp2_with fail
  have k0 := own_below own5 nq2
  have kq0 := Kept.refl nw2
  clear own5
  refine wp_loop_rounds 5 ?_
  rw [rounds_succ]
  go_wp2_with fail
  refine (store_any _ _ _ _ _ _ 1 _ (Row.of_own k0) (by omega) (by omega) (by omega)).mono ?_; rintro e kw1 ⟨kv1, rfl, k1, hb⟩
  have kq1 : Kept nw2 kw1 := kq0.to hb
  clear hb k0
  obtain ⟨kA1, kc1, rfl⟩ := (Row.of_own k1).form
  go_wp2_with fail
  rw [rounds_succ]
  go_wp2_with fail
  refine (store_any _ _ _ _ _ _ 1 _ (Row.of_own k1) (by omega) (by omega) (by omega)).mono ?_; rintro e kw2 ⟨kv2, rfl, k2, hb⟩
  have kq2 : Kept nw2 kw2 := kq1.to hb
  clear hb k1
  obtain ⟨kA2, kc2, rfl⟩ := (Row.of_own k2).form
  go_wp2_with fail
  rw [rounds_succ]
  go_wp2_with fail
  refine (store_any _ _ _ _ _ _ 1 _ (Row.of_own k2) (by omega) (by omega) (by omega)).mono ?_; rintro e kw3 ⟨kv3, rfl, k3, hb⟩
  have kq3 : Kept nw2 kw3 := kq2.to hb
  clear hb k2
  obtain ⟨kA3, kc3, rfl⟩ := (Row.of_own k3).form
  go_wp2_with fail
  rw [rounds_succ]
  go_wp2_with fail
  refine (store_any _ _ _ _ _ _ 1 _ (Row.of_own k3) (by omega) (by omega) (by omega)).mono ?_; rintro e kw4 ⟨kv4, rfl, k4, hb⟩
  have kq4 : Kept nw2 kw4 := kq3.to hb
  clear hb k3
  obtain ⟨kA4, kc4, rfl⟩ := (Row.of_own k4).form
  go_wp2_with fail
  have M := Lib.hid (holds4 k hk v)
  have N := Lib.hid (holds2 k hk v)
  have K' := Lib.hid (holds1 k hk v)
  have n9 := own_below n2 kq4
  have m9 := own_below own3 (j5.trans (nq2.trans kq4))
  have k9 : Kept w kw4 := k5.trans (nq2.trans kq4)
  clear n2 own3
  have HZB := Lib.hid (storeZ_bytes (zs := naught) (size := 4) (addr := 4 * (k : Int)) (v := v) (by intro x hx; rw [naught, List.mem_replicate] at hx; omega))
  rw [N.out.same M.out] at n9
  rw [K'.out.same M.out] at k4
  clear N K'
  generalize storeZ naught 4 (4 * (k : Int)) v = L at *
  obtain ⟨l0, l1, l2, l3, l4, l5, l6⟩ := M.out.load hk v0 v1
  have L0 := Lib.hid l0
  have L1 := Lib.hid l1
  have L2 := Lib.hid l2
  have L3 := Lib.hid l3
  have L4 := Lib.hid l4
  have L5 := Lib.hid l5
  have L6 := Lib.hid l6
  have O1 := Lib.hid ((or_half (v % 65536) (v / 65536) (by omega) (by omega) (by omega) (by omega)).trans (show _ = v by omega))
  have O2 := Lib.hid ((join4 (v % 256) (v / 256 % 256) (v / 65536 % 256) (v / 16777216) (by omega) (by omega) (by omega) (by omega)).trans (show _ = v by omega))
  clear l0 l1 l2 l3 l4 l5 l6 M
  have x0 := Kept.refl kw4
  rw [rounds_succ]
  go_wp2_with fail
  refine (load_any Am cm 128 _ L 28 (4 * (k : Int)) _ (x0.row (Row.of_own m9)) (Nat.le_refl _) HZB.out (by omega) (by omega)).mono ?_; rintro e y1 ⟨rfl, hb⟩
  have x1 : Kept kw4 y1 := x0.to hb
  clear hb
  rw [L1.out]
  go_wp2_with fail
  refine (load_any Am cm 128 _ L 28 (4 * (k : Int) + 2) _ (x1.row (Row.of_own m9)) (Nat.le_refl _) HZB.out (by omega) (by omega)).mono ?_; rintro e y2 ⟨rfl, hb⟩
  have x2 : Kept kw4 y2 := x1.to hb
  clear hb
  rw [L2.out]
  go_wp2_with fail
  refine (load_any Am cm 128 _ L 30 (4 * (k : Int)) _ (x2.row (Row.of_own m9)) (Nat.le_refl _) HZB.out (by omega) (by omega)).mono ?_; rintro e y3 ⟨rfl, hb⟩
  have x3 : Kept kw4 y3 := x2.to hb
  clear hb
  rw [L3.out]
  go_wp2_with fail
  refine (load_any Am cm 128 _ L 30 (4 * (k : Int) + 1) _ (x3.row (Row.of_own m9)) (Nat.le_refl _) HZB.out (by omega) (by omega)).mono ?_; rintro e y4 ⟨rfl, hb⟩
  have x4 : Kept kw4 y4 := x3.to hb
  clear hb
  rw [L4.out]
  go_wp2_with fail
  refine (load_any Am cm 128 _ L 30 (4 * (k : Int) + 2) _ (x4.row (Row.of_own m9)) (Nat.le_refl _) HZB.out (by omega) (by omega)).mono ?_; rintro e y5 ⟨rfl, hb⟩
  have x5 : Kept kw4 y5 := x4.to hb
  clear hb
  rw [L5.out]
  go_wp2_with fail
  refine (load_any Am cm 128 _ L 30 (4 * (k : Int) + 3) _ (x5.row (Row.of_own m9)) (Nat.le_refl _) HZB.out (by omega) (by omega)).mono ?_; rintro e y6 ⟨rfl, hb⟩
  have x6 : Kept kw4 y6 := x5.to hb
  clear hb
  rw [L6.out]
  have vm := conv_row (P := Try.prog) y6 22 5 Try.underlying22 Try.underlying5 (x6.row (Row.of_own m9)) 9 Try.underlying9
  have vn := conv_row (P := Try.prog) y6 22 5 Try.underlying22 Try.underlying5 (x6.row (Row.of_own n9)) 9 Try.underlying9
  have vk := conv_row (P := Try.prog) y6 22 5 Try.underlying22 Try.underlying5 (x6.row (Row.of_own k4)) 9 Try.underlying9
  rw [O1.out]
  go_wp2_with fail
  rw [O2.out]
  clear vm vn vk
  refine (load_any Am cm 128 _ L 26 (4 * (k : Int)) _ (x6.row (Row.of_own m9)) (Nat.le_refl _) HZB.out (by omega) (by omega)).mono ?_; rintro e y7 ⟨rfl, hb⟩
  have x7 : Kept kw4 y7 := x6.to hb
  clear hb
  rw [L0.out]
  go_wp2_with fail
  go_ret
  exact ⟨rfl, k9.trans x7⟩

set_option maxHeartbeats 400000 in
theorem bytesShares_out (v k : Int) (w : World) (h : k < 0 ∨ 30 < k) :
    Calls Try.prog 7 #[.int .u32 v, .int .i64 k] w fun e w' => e = .returned (.bool true) ∧ Below w.heap.size w w' := by
  go_enter Try.func7, Try.ntmps7
  go_wp2_with fail
  refine (bytesAlive_any _).mono ?_; rintro e w1 ⟨rfl, hb1⟩
  go_wp2
  all_goals first
    | (exfalso; omega)
    | (go_ret; exact ⟨rfl, hb1⟩)

theorem bytesShares_walk (a0 a1 : Int) (w : World) (w0 : 0 ≤ a0 ∧ a0 ≤ 4294967295) (w1 : -9223372036854775808 ≤ a1 ∧ a1 ≤ 9223372036854775807) :
    Calls Try.prog 7 #[.int .u32 a0, .int .i64 a1] w fun e w' => e = .returned (.bool true) ∧ Below w.heap.size w w' := by
  by_cases h : a1 < 0 ∨ 30 < a1
  · exact bytesShares_out a0 a1 w h
  · obtain ⟨k, rfl⟩ := Int.eq_ofNat_of_zero_le (show 0 ≤ a1 by omega)
    exact bytesShares_in a0 k w w0.1 w0.2 (by omega)
end Go.Proofs.Ytkmflgfhhlhgeaa.Words

/- Plain mathematics of chapter 5: what a write leaves, byte by byte. Nothing here speaks of one program text. -/
import Derived.Test.YtjkijjbakocilaaBytesMath
namespace Go.Proofs.Ytjkijjbakocilaa.Words
set_option maxRecDepth 100000
open Go.RowKit
set_option linter.unusedVariables false

/-- A word's bytes, the lowest first. -/
def byteZ (v : Int) (j : Nat) : Int := if j = 0 then v % 256 else if j = 1 then v / 256 % 256 else if j = 2 then v / 65536 % 256 else v / 16777216 % 256
theorem set_at (zs : List Int) (k i : Nat) (x : Int) (h : k < zs.length) : (zs.set k x).getD i 0 = if i = k then x else zs.getD i 0 := by
  rw [List.getD_eq_getElem?_getD, List.getD_eq_getElem?_getD, List.getElem?_set]
  by_cases hi : i = k
  · subst hi; simp [h]
  · rw [if_neg (fun h => hi h.symm), if_neg hi]
theorem put1_at (zs : List Int) (k i : Nat) (v : Int) (h : k + 1 ≤ zs.length) : (put1 zs k v).getD i 0 = if k ≤ i ∧ i < k + 1 then byteZ v (i - k) else zs.getD i 0 := by
  unfold put1
  rw [set_at _ _ _ _ (by omega)]
  by_cases hi : i = k
  · rw [if_pos hi, if_pos (by omega), show i - k = 0 by omega]; rfl
  · rw [if_neg hi, if_neg (by omega)]
theorem put2_at (zs : List Int) (k i : Nat) (v : Int) (h : k + 2 ≤ zs.length) : (put2 zs k v).getD i 0 = if k ≤ i ∧ i < k + 2 then byteZ v (i - k) else zs.getD i 0 := by
  unfold put2
  rw [set_at _ _ _ _ (by unfold put1; simp; omega), put1_at _ _ _ _ (by omega)]
  by_cases hi : i = k + 1
  · rw [if_pos hi, if_pos (by omega), show i - k = 1 by omega]; rfl
  · rw [if_neg hi]
    by_cases h2 : k ≤ i ∧ i < k + 1
    · rw [if_pos h2, if_pos (by omega)]
    · rw [if_neg h2, if_neg (by omega)]
theorem put4_at (zs : List Int) (k i : Nat) (v : Int) (h : k + 4 ≤ zs.length) : (put4 zs k v).getD i 0 = if k ≤ i ∧ i < k + 4 then byteZ v (i - k) else zs.getD i 0 := by
  unfold put4
  rw [set_at _ _ _ _ (by unfold put2 put1; simp; omega), set_at _ _ _ _ (by unfold put2 put1; simp; omega), put2_at _ _ _ _ (by omega)]
  by_cases hi : i = k + 3
  · rw [if_pos hi, if_pos (by omega), show i - k = 3 by omega]; rfl
  by_cases hj : i = k + 2
  · rw [if_neg hi, if_pos hj, if_pos (by omega), show i - k = 2 by omega]; rfl
  · rw [if_neg hi, if_neg hj]
    by_cases h2 : k ≤ i ∧ i < k + 2
    · rw [if_pos h2, if_pos (by omega)]
    · rw [if_neg h2, if_neg (by omega)]
theorem storeZ_at (zs : List Int) (size addr v : Int) (i : Nat) (h : storeOk size addr zs.length = true) : (storeZ zs size addr v).getD i 0 = if addr ≤ i ∧ (i : Int) < addr + size then byteZ v (i - addr.toNat) else zs.getD i 0 := by
  obtain ⟨hs, h0, h1, hc⟩ := storeOk_yes h
  have hr := (checkZ_zero hc).2
  obtain ⟨k, rfl⟩ := Int.eq_ofNat_of_zero_le h0
  unfold storeZ
  rw [if_pos h, Int.toNat_natCast]
  rcases hs with rfl | rfl | rfl
  · rw [if_pos rfl, put1_at _ _ _ _ (by omega)]
    by_cases hi : k ≤ i ∧ i < k + 1
    · rw [if_pos hi, if_pos (by omega)]
    · rw [if_neg hi, if_neg (by omega)]
  · rw [if_neg (by omega), if_pos rfl, put2_at _ _ _ _ (by omega)]
    by_cases hi : k ≤ i ∧ i < k + 2
    · rw [if_pos hi, if_pos (by omega)]
    · rw [if_neg hi, if_neg (by omega)]
  · rw [if_neg (by omega), if_neg (by omega), put4_at _ _ _ _ (by omega)]
    by_cases hi : k ≤ i ∧ i < k + 4
    · rw [if_pos hi, if_pos (by omega)]
    · rw [if_neg hi, if_neg (by omega)]
theorem ext_getD {l l' : List Int} (h : l.length = l'.length) (hi : ∀ i, l.getD i 0 = l'.getD i 0) : l = l' := by
  refine List.ext_getElem h fun i h1 h2 => ?_
  have := hi i
  rw [List.getD_eq_getElem?_getD, List.getD_eq_getElem?_getD, List.getElem?_eq_getElem h1, List.getElem?_eq_getElem h2] at this
  exact this
theorem store_swap (zs : List Int) (s a v s' a' v' : Int) (h : overlapB a s a' s' = false) : storeZ (storeZ zs s a v) s' a' v' = storeZ (storeZ zs s' a' v') s a v := by
  cases h1 : storeOk s a zs.length
  · rw [storeZ_no h1, storeZ_no (zs := storeZ zs s' a' v') (by rw [storeZ_len]; exact h1)]
  cases h2 : storeOk s' a' zs.length
  · rw [storeZ_no h2, storeZ_no (zs := storeZ zs s a v) (by rw [storeZ_len]; exact h2)]
  refine ext_getD (by simp only [storeZ_len]) fun i => ?_
  rw [storeZ_at _ _ _ _ _ (by rw [storeZ_len]; exact h2), storeZ_at _ _ _ _ _ h1, storeZ_at _ _ _ _ _ (by rw [storeZ_len]; exact h1), storeZ_at _ _ _ _ _ h2]
  have ho : ¬ (1 ≤ s ∧ 1 ≤ s' ∧ a < a' + s' ∧ a' < a + s) := of_decide_eq_false h
  by_cases x : a' ≤ i ∧ (i : Int) < a' + s'
  · rw [if_pos x, if_neg (by omega), if_pos x]
  · rw [if_neg x]
    by_cases y : a ≤ i ∧ (i : Int) < a + s
    · rw [if_pos y, if_pos y]
    · rw [if_neg y, if_neg y, if_neg x]
theorem store_over (zs : List Int) (s a u v : Int) : storeZ (storeZ zs s a u) s a v = storeZ zs s a v := by
  cases h1 : storeOk s a zs.length
  · rw [storeZ_no h1, storeZ_no h1]
  refine ext_getD (by simp only [storeZ_len]) fun i => ?_
  rw [storeZ_at _ _ _ _ _ (by rw [storeZ_len]; exact h1), storeZ_at _ _ _ _ _ h1, storeZ_at _ _ _ _ _ h1]
  by_cases y : a ≤ i ∧ (i : Int) < a + s
  · rw [if_pos y, if_pos y]
  · rw [if_neg y, if_neg y, if_neg y]
end Go.Proofs.Ytjkijjbakocilaa.Words

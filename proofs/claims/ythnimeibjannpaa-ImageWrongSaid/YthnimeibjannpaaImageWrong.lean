/- The walk of ImageWrong. -/
import Derived.Test.YthnimeibjannpaaImageTargets
import Derived.ArgAppend
import Derived.Lib.SlBytesConst
namespace Go.Proofs.Ythnimeibjannpaa.Words
open Go.RowKit
set_option linter.unusedVariables false

/-- The bytes that all begin with. -/
def wrong0 : List Int := [83, 82, 73, 1, 1, 0, 0, 0, 4, 0, 0, 0, 1, 0, 0, 0, 0, 0, 0, 164, 9]
theorem wrong0_bytes : ∀ b ∈ wrong0, 0 ≤ b ∧ b ≤ 255 := by decide
set_option maxHeartbeats 1000000 in
theorem refPut_full {w : World} {b n : Nat} {xs : List Value} (x : Int) (h0 : 0 ≤ x) (h1 : x < 4294967296) (hl : xs.length = n) (hbk : b < w.heap.size) (hc : ∀ j u, xs[j]? = some u → w.cell? ⟨b, j, none⟩ = some u) (hb : n + 4 ≤ 140737488355328) :
    Calls Try.prog 21 #[.slice (some ⟨b, 0, none⟩) n n, .int .u32 x] w fun e w' =>
      ∃ v', e = .returned v' ∧ w'.ownsRow w.heap.size 5 1 v' (n + 4) (xs ++ quad x) ∧ Below w.heap.size w w' := by
  obtain ⟨i0, hi, hz0, hz1, hz2⟩ := info_parts info_u8
  have HZ := Lib.hid hz2
  clear hz2
  have HC := Lib.hid (fun (o : Obj) (q : Addr) (hq : some (⟨b, 0, none⟩ : Addr) = some q) (j : Nat) (u : Value) (hu : xs[j]? = some u) => (show (w.alloc o).cell? (q.add j) = some u by
    injection hq with hq
    subst hq
    rw [add_spot, Nat.zero_add, World.cell?_alloc_lt _ _ _ hbk]; exact hc j u hu))
  clear hc
  go_enter Try.func21, Try.ntmps21
  go_wp2_with (at_builtin; refine wpList_append_grows _ rfl (.tmp 5) (.tmp 17) 23 rfl 5 i0 (.int .u8 0) 1 1 Try.underlying23 hi hz0 hz1 HZ.out rfl (by omega) (some ⟨b, 0, none⟩) n n xs rfl (by simp) (by omega) (HC.out _) ⟨w.heap.size, 0, none⟩ 4 4 (quad x) rfl (quad_len x) (new_cells w _ _ _ rfl) (quad_one x) (by omega) (by unfold maxLen; omega) (by omega) ?_; intro v' w1 hown1 hg1)
  go_ret
  exact ⟨_, rfl, own_base hown1 (by simp), ((Below.refl _ _).alloc (Nat.le_refl _) _).grown hg1 (by simp) (fun k hk => nomatch hk)⟩
theorem own_front {w : World} {base : Nat} {e : TypeId} {g n cap k : Nat} {xs : List Value} (h : w.ownsRow base e 1 (.slice (some ⟨g, 0, none⟩) n cap) n xs) (hk : k ≤ n) : w.ownsRow base e 1 (.slice (some ⟨g, 0, none⟩) k cap) k (xs.take k) := by
  have hl : xs.length = n := by have := h.1; simpa using this
  rcases h.2 with ⟨h', _⟩ | ⟨g', cap', cur, h', h1, h2, h3, h4, h5, h6⟩
  · simp at h'
  · simp only [Value.slice.injEq, Option.some.injEq, Addr.mk.injEq, and_true, true_and] at h'
    obtain ⟨rfl, rfl⟩ := h'
    refine ⟨by simp; omega, .inr ⟨g, cap, cur, rfl, h1, h2, by omega, h4, h5, ?_⟩⟩
    rw [← h6, List.take_take]
    congr 1; omega

set_option maxHeartbeats 1000000 in
theorem imageWrong_neg (a : Int) (w : World) (h : a < 0) :
    Calls Try.prog 6 #[.int .i64 a] w fun e w' => e = .returned (.bool true) ∧ Below w.heap.size w w' := by
  obtain ⟨i0, hi, hz0, hz1, hz2⟩ := info_parts info_u8
  have HZ2 := Lib.hid hz2
  clear hz2
  go_enter Try.func6, Try.ntmps6
  go_wp2_with fail
  refine (imgAlive_any _).mono ?_; rintro e w1 ⟨rfl, hb1⟩
  have hB1 : Below w.heap.size w w1 := hb1
  clear hb1
  have cvt : (convert 23 23 (.slice (some ⟨w1.heap.size, 0, none⟩) 16 16)).run Try.prog (w1.alloc (.cells #[.int .u8 83, .int .u8 82, .int .u8 73, .int .u8 1, .int .u8 1, .int .u8 0, .int .u8 0, .int .u8 0, .int .u8 4, .int .u8 0, .int .u8 0, .int .u8 0, .int .u8 1, .int .u8 0, .int .u8 0, .int .u8 0] 5)) = .ok (.slice (some ⟨w1.heap.size, 0, none⟩) 16 16) (w1.alloc (.cells #[.int .u8 83, .int .u8 82, .int .u8 73, .int .u8 1, .int .u8 1, .int .u8 0, .int .u8 0, .int .u8 0, .int .u8 4, .int .u8 0, .int .u8 0, .int .u8 0, .int .u8 1, .int .u8 0, .int .u8 0, .int .u8 0] 5 (16, 17))) := Lib.run_convert_bytes_const w1 23 5 #[.int .u8 83, .int .u8 82, .int .u8 73, .int .u8 1, .int .u8 1, .int .u8 0, .int .u8 0, .int .u8 0, .int .u8 4, .int .u8 0, .int .u8 0, .int .u8 0, .int .u8 1, .int .u8 0, .int .u8 0, .int .u8 0] 16 16 Try.underlying23 Try.underlying5
  have hcl : ∀ j u, ([.int .u8 83, .int .u8 82, .int .u8 73, .int .u8 1, .int .u8 1, .int .u8 0, .int .u8 0, .int .u8 0, .int .u8 4, .int .u8 0, .int .u8 0, .int .u8 0, .int .u8 1, .int .u8 0, .int .u8 0, .int .u8 0] : List Value)[j]? = some u → (w1.alloc (.cells #[.int .u8 83, .int .u8 82, .int .u8 73, .int .u8 1, .int .u8 1, .int .u8 0, .int .u8 0, .int .u8 0, .int .u8 4, .int .u8 0, .int .u8 0, .int .u8 0, .int .u8 1, .int .u8 0, .int .u8 0, .int .u8 0] 5 (16, 17))).cell? ⟨w1.heap.size, j, none⟩ = some u := fun j u hu => by
    rw [World.cell?_alloc_mark]; simpa using hu
  have hsz : w1.heap.size < (w1.alloc (.cells #[.int .u8 83, .int .u8 82, .int .u8 73, .int .u8 1, .int .u8 1, .int .u8 0, .int .u8 0, .int .u8 0, .int .u8 4, .int .u8 0, .int .u8 0, .int .u8 0, .int .u8 1, .int .u8 0, .int .u8 0, .int .u8 0] 5 (16, 17))).heap.size := by simp
  have k1 : Kept w1 (w1.alloc (.cells #[.int .u8 83, .int .u8 82, .int .u8 73, .int .u8 1, .int .u8 1, .int .u8 0, .int .u8 0, .int .u8 0, .int .u8 4, .int .u8 0, .int .u8 0, .int .u8 0, .int .u8 1, .int .u8 0, .int .u8 0, .int .u8 0] 5 (16, 17))) := (Kept.refl w1).alloc _
  go_wp2_with fail
  generalize w1.alloc (.cells #[.int .u8 83, .int .u8 82, .int .u8 73, .int .u8 1, .int .u8 1, .int .u8 0, .int .u8 0, .int .u8 0, .int .u8 4, .int .u8 0, .int .u8 0, .int .u8 0, .int .u8 1, .int .u8 0, .int .u8 0, .int .u8 0] 5 (16, 17)) = W1 at *
  refine (refPut_full (b := w1.heap.size) (n := 16) 2751463424 (by omega) (by omega) rfl hsz hcl (by omega)).mono ?_; rintro e w2 ⟨v2, rfl, own2', hb2⟩
  have own2 := own_base own2' k1.size
  have k2 : Kept w1 w2 := k1.to hb2
  have hs2 : w1.heap.size ≤ w2.heap.size := k2.size
  clear hb2 own2' k1 cvt hcl hsz
  go_wp2_with (at_builtin; refine wpList_append_own _ rfl (.tmp 14) (.tmp 15) 23 rfl w1.heap.size 5 i0 (.int .u8 0) 1 1 Try.underlying23 hi hz0 hz1 HZ2.out rfl (by omega) _ 20 _ rfl (own2.alloc _) ⟨w2.heap.size, 0, none⟩ 1 1 [.int .u8 9] rfl rfl (new_cells w2 _ _ _ rfl) (u8_one [9]) (by unfold maxLen; omega) (by omega) (by simp; omega) ?_; intro v3 w3 own3 hg3 _)
  have k3 : Kept w1 w3 := Below.grown (k2.alloc _) hg3 (by simp; omega) (fun k hk => (own2.lt k hk).1)
  go_ret
  exact ⟨rfl, hB1.trans (Below.mono k3 hB1.size)⟩

set_option maxHeartbeats 1000000 in
theorem imageWrong_big (a : Int) (w : World) (h : 9 < a) :
    Calls Try.prog 6 #[.int .i64 a] w fun e w' => e = .returned (.bool true) ∧ Below w.heap.size w w' := by
  obtain ⟨i0, hi, hz0, hz1, hz2⟩ := info_parts info_u8
  have HZ2 := Lib.hid hz2
  clear hz2
  go_enter Try.func6, Try.ntmps6
  go_wp2_with fail
  refine (imgAlive_any _).mono ?_; rintro e w1 ⟨rfl, hb1⟩
  have hB1 : Below w.heap.size w w1 := hb1
  clear hb1
  have cvt : (convert 23 23 (.slice (some ⟨w1.heap.size, 0, none⟩) 16 16)).run Try.prog (w1.alloc (.cells #[.int .u8 83, .int .u8 82, .int .u8 73, .int .u8 1, .int .u8 1, .int .u8 0, .int .u8 0, .int .u8 0, .int .u8 4, .int .u8 0, .int .u8 0, .int .u8 0, .int .u8 1, .int .u8 0, .int .u8 0, .int .u8 0] 5)) = .ok (.slice (some ⟨w1.heap.size, 0, none⟩) 16 16) (w1.alloc (.cells #[.int .u8 83, .int .u8 82, .int .u8 73, .int .u8 1, .int .u8 1, .int .u8 0, .int .u8 0, .int .u8 0, .int .u8 4, .int .u8 0, .int .u8 0, .int .u8 0, .int .u8 1, .int .u8 0, .int .u8 0, .int .u8 0] 5 (16, 17))) := Lib.run_convert_bytes_const w1 23 5 #[.int .u8 83, .int .u8 82, .int .u8 73, .int .u8 1, .int .u8 1, .int .u8 0, .int .u8 0, .int .u8 0, .int .u8 4, .int .u8 0, .int .u8 0, .int .u8 0, .int .u8 1, .int .u8 0, .int .u8 0, .int .u8 0] 16 16 Try.underlying23 Try.underlying5
  have hcl : ∀ j u, ([.int .u8 83, .int .u8 82, .int .u8 73, .int .u8 1, .int .u8 1, .int .u8 0, .int .u8 0, .int .u8 0, .int .u8 4, .int .u8 0, .int .u8 0, .int .u8 0, .int .u8 1, .int .u8 0, .int .u8 0, .int .u8 0] : List Value)[j]? = some u → (w1.alloc (.cells #[.int .u8 83, .int .u8 82, .int .u8 73, .int .u8 1, .int .u8 1, .int .u8 0, .int .u8 0, .int .u8 0, .int .u8 4, .int .u8 0, .int .u8 0, .int .u8 0, .int .u8 1, .int .u8 0, .int .u8 0, .int .u8 0] 5 (16, 17))).cell? ⟨w1.heap.size, j, none⟩ = some u := fun j u hu => by
    rw [World.cell?_alloc_mark]; simpa using hu
  have hsz : w1.heap.size < (w1.alloc (.cells #[.int .u8 83, .int .u8 82, .int .u8 73, .int .u8 1, .int .u8 1, .int .u8 0, .int .u8 0, .int .u8 0, .int .u8 4, .int .u8 0, .int .u8 0, .int .u8 0, .int .u8 1, .int .u8 0, .int .u8 0, .int .u8 0] 5 (16, 17))).heap.size := by simp
  have k1 : Kept w1 (w1.alloc (.cells #[.int .u8 83, .int .u8 82, .int .u8 73, .int .u8 1, .int .u8 1, .int .u8 0, .int .u8 0, .int .u8 0, .int .u8 4, .int .u8 0, .int .u8 0, .int .u8 0, .int .u8 1, .int .u8 0, .int .u8 0, .int .u8 0] 5 (16, 17))) := (Kept.refl w1).alloc _
  go_wp2_with fail
  generalize w1.alloc (.cells #[.int .u8 83, .int .u8 82, .int .u8 73, .int .u8 1, .int .u8 1, .int .u8 0, .int .u8 0, .int .u8 0, .int .u8 4, .int .u8 0, .int .u8 0, .int .u8 0, .int .u8 1, .int .u8 0, .int .u8 0, .int .u8 0] 5 (16, 17)) = W1 at *
  refine (refPut_full (b := w1.heap.size) (n := 16) 2751463424 (by omega) (by omega) rfl hsz hcl (by omega)).mono ?_; rintro e w2 ⟨v2, rfl, own2', hb2⟩
  have own2 := own_base own2' k1.size
  have k2 : Kept w1 w2 := k1.to hb2
  have hs2 : w1.heap.size ≤ w2.heap.size := k2.size
  clear hb2 own2' k1 cvt hcl hsz
  go_wp2_with (at_builtin; refine wpList_append_own _ rfl (.tmp 14) (.tmp 15) 23 rfl w1.heap.size 5 i0 (.int .u8 0) 1 1 Try.underlying23 hi hz0 hz1 HZ2.out rfl (by omega) _ 20 _ rfl (own2.alloc _) ⟨w2.heap.size, 0, none⟩ 1 1 [.int .u8 9] rfl rfl (new_cells w2 _ _ _ rfl) (u8_one [9]) (by unfold maxLen; omega) (by omega) (by simp; omega) ?_; intro v3 w3 own3 hg3 _)
  have k3 : Kept w1 w3 := Below.grown (k2.alloc _) hg3 (by simp; omega) (fun k hk => (own2.lt k hk).1)
  go_ret
  exact ⟨rfl, hB1.trans (Below.mono k3 hB1.size)⟩

set_option maxHeartbeats 2000000 in
theorem imageWrong_0 (w : World) :
    Calls Try.prog 6 #[.int .i64 0] w fun e w' => e = .returned (.bool true) ∧ Below w.heap.size w w' := by
  obtain ⟨i0, hi, hz0, hz1, hz2⟩ := info_parts info_u8
  have HZ2 := Lib.hid hz2
  clear hz2
  go_enter Try.func6, Try.ntmps6
  go_wp2_with fail
  refine (imgAlive_any _).mono ?_; rintro e w1 ⟨rfl, hb1⟩
  have hB1 : Below w.heap.size w w1 := hb1
  clear hb1
  have cvt : (convert 23 23 (.slice (some ⟨w1.heap.size, 0, none⟩) 16 16)).run Try.prog (w1.alloc (.cells #[.int .u8 83, .int .u8 82, .int .u8 73, .int .u8 1, .int .u8 1, .int .u8 0, .int .u8 0, .int .u8 0, .int .u8 4, .int .u8 0, .int .u8 0, .int .u8 0, .int .u8 1, .int .u8 0, .int .u8 0, .int .u8 0] 5)) = .ok (.slice (some ⟨w1.heap.size, 0, none⟩) 16 16) (w1.alloc (.cells #[.int .u8 83, .int .u8 82, .int .u8 73, .int .u8 1, .int .u8 1, .int .u8 0, .int .u8 0, .int .u8 0, .int .u8 4, .int .u8 0, .int .u8 0, .int .u8 0, .int .u8 1, .int .u8 0, .int .u8 0, .int .u8 0] 5 (16, 17))) := Lib.run_convert_bytes_const w1 23 5 #[.int .u8 83, .int .u8 82, .int .u8 73, .int .u8 1, .int .u8 1, .int .u8 0, .int .u8 0, .int .u8 0, .int .u8 4, .int .u8 0, .int .u8 0, .int .u8 0, .int .u8 1, .int .u8 0, .int .u8 0, .int .u8 0] 16 16 Try.underlying23 Try.underlying5
  have hcl : ∀ j u, ([.int .u8 83, .int .u8 82, .int .u8 73, .int .u8 1, .int .u8 1, .int .u8 0, .int .u8 0, .int .u8 0, .int .u8 4, .int .u8 0, .int .u8 0, .int .u8 0, .int .u8 1, .int .u8 0, .int .u8 0, .int .u8 0] : List Value)[j]? = some u → (w1.alloc (.cells #[.int .u8 83, .int .u8 82, .int .u8 73, .int .u8 1, .int .u8 1, .int .u8 0, .int .u8 0, .int .u8 0, .int .u8 4, .int .u8 0, .int .u8 0, .int .u8 0, .int .u8 1, .int .u8 0, .int .u8 0, .int .u8 0] 5 (16, 17))).cell? ⟨w1.heap.size, j, none⟩ = some u := fun j u hu => by
    rw [World.cell?_alloc_mark]; simpa using hu
  have hsz : w1.heap.size < (w1.alloc (.cells #[.int .u8 83, .int .u8 82, .int .u8 73, .int .u8 1, .int .u8 1, .int .u8 0, .int .u8 0, .int .u8 0, .int .u8 4, .int .u8 0, .int .u8 0, .int .u8 0, .int .u8 1, .int .u8 0, .int .u8 0, .int .u8 0] 5 (16, 17))).heap.size := by simp
  have k1 : Kept w1 (w1.alloc (.cells #[.int .u8 83, .int .u8 82, .int .u8 73, .int .u8 1, .int .u8 1, .int .u8 0, .int .u8 0, .int .u8 0, .int .u8 4, .int .u8 0, .int .u8 0, .int .u8 0, .int .u8 1, .int .u8 0, .int .u8 0, .int .u8 0] 5 (16, 17))) := (Kept.refl w1).alloc _
  go_wp2_with fail
  generalize w1.alloc (.cells #[.int .u8 83, .int .u8 82, .int .u8 73, .int .u8 1, .int .u8 1, .int .u8 0, .int .u8 0, .int .u8 0, .int .u8 4, .int .u8 0, .int .u8 0, .int .u8 0, .int .u8 1, .int .u8 0, .int .u8 0, .int .u8 0] 5 (16, 17)) = W1 at *
  refine (refPut_full (b := w1.heap.size) (n := 16) 2751463424 (by omega) (by omega) rfl hsz hcl (by omega)).mono ?_; rintro e w2 ⟨v2, rfl, own2', hb2⟩
  have own2 := own_base own2' k1.size
  have k2 : Kept w1 w2 := k1.to hb2
  have hs2 : w1.heap.size ≤ w2.heap.size := k2.size
  clear hb2 own2' k1 cvt hcl hsz
  go_wp2_with (at_builtin; refine wpList_append_own _ rfl (.tmp 14) (.tmp 15) 23 rfl w1.heap.size 5 i0 (.int .u8 0) 1 1 Try.underlying23 hi hz0 hz1 HZ2.out rfl (by omega) _ 20 _ rfl (own2.alloc _) ⟨w2.heap.size, 0, none⟩ 1 1 [.int .u8 9] rfl rfl (new_cells w2 _ _ _ rfl) (u8_one [9]) (by unfold maxLen; omega) (by omega) (by simp; omega) ?_; intro v3 w3 own3 hg3 _; obtain ⟨g, cap, rfl, hg0, hg1⟩ := own_form own3 (by omega); have k3 : Kept w1 w3 := Below.grown (k2.alloc _) hg3 (by simp; omega) (fun k hk => (own2.lt k hk).1))
  have ownZ : w3.ownsRow w1.heap.size 5 1 (.slice (some ⟨g, 0, none⟩) 21 cap) 21 (([83, 82, 73, 1, 1, 0, 0, 0, 4, 0, 0, 0, 1, 0, 0, 0, 0, 0, 0, 164, 9] : List Int).map (Value.int .u8)) := own3
  have kZ := k3
  refine (imgRead_len (zs := [83, 82, 73, 1, 1, 0, 0, 0, 4, 0, 0, 0, 1, 0, 0, 0, 0, 0, 0, 164, 9]) rfl (Row.of_own ownZ) (by decide)).mono ?_; rintro e w9 ⟨vc, vd, rfl, hP, hb9⟩
  rw [show readE [83, 82, 73, 1, 1, 0, 0, 0, 4, 0, 0, 0, 1, 0, 0, 0, 0, 0, 0, 164, 9] = 0 by decide +kernel]
  obtain ⟨A9, c9, rfl⟩ := (Row.of_own hP.code).form
  obtain ⟨D9, d9, rfl⟩ := (Row.of_own hP.data).form
  have hfin : Below w.heap.size w w9 := (hB1.trans (Below.mono kZ hB1.size)).trans (hb9.mono (Nat.le_trans hB1.size kZ.size))
  clear hP hb9 ownZ
  go_wp2_with fail
  refine (num_any _ _ (by omega)).mono ?_; rintro e w10 ⟨rfl, rfl⟩
  go_wp2_with fail
  go_ret
  exact ⟨rfl, hfin.alloc hfin.size _⟩

set_option maxHeartbeats 2000000 in
theorem imageWrong_1 (w : World) :
    Calls Try.prog 6 #[.int .i64 1] w fun e w' => e = .returned (.bool true) ∧ Below w.heap.size w w' := by
  obtain ⟨i0, hi, hz0, hz1, hz2⟩ := info_parts info_u8
  have HZ2 := Lib.hid hz2
  clear hz2
  go_enter Try.func6, Try.ntmps6
  go_wp2_with fail
  refine (imgAlive_any _).mono ?_; rintro e w1 ⟨rfl, hb1⟩
  have hB1 : Below w.heap.size w w1 := hb1
  clear hb1
  have cvt : (convert 23 23 (.slice (some ⟨w1.heap.size, 0, none⟩) 16 16)).run Try.prog (w1.alloc (.cells #[.int .u8 83, .int .u8 82, .int .u8 73, .int .u8 1, .int .u8 1, .int .u8 0, .int .u8 0, .int .u8 0, .int .u8 4, .int .u8 0, .int .u8 0, .int .u8 0, .int .u8 1, .int .u8 0, .int .u8 0, .int .u8 0] 5)) = .ok (.slice (some ⟨w1.heap.size, 0, none⟩) 16 16) (w1.alloc (.cells #[.int .u8 83, .int .u8 82, .int .u8 73, .int .u8 1, .int .u8 1, .int .u8 0, .int .u8 0, .int .u8 0, .int .u8 4, .int .u8 0, .int .u8 0, .int .u8 0, .int .u8 1, .int .u8 0, .int .u8 0, .int .u8 0] 5 (16, 17))) := Lib.run_convert_bytes_const w1 23 5 #[.int .u8 83, .int .u8 82, .int .u8 73, .int .u8 1, .int .u8 1, .int .u8 0, .int .u8 0, .int .u8 0, .int .u8 4, .int .u8 0, .int .u8 0, .int .u8 0, .int .u8 1, .int .u8 0, .int .u8 0, .int .u8 0] 16 16 Try.underlying23 Try.underlying5
  have hcl : ∀ j u, ([.int .u8 83, .int .u8 82, .int .u8 73, .int .u8 1, .int .u8 1, .int .u8 0, .int .u8 0, .int .u8 0, .int .u8 4, .int .u8 0, .int .u8 0, .int .u8 0, .int .u8 1, .int .u8 0, .int .u8 0, .int .u8 0] : List Value)[j]? = some u → (w1.alloc (.cells #[.int .u8 83, .int .u8 82, .int .u8 73, .int .u8 1, .int .u8 1, .int .u8 0, .int .u8 0, .int .u8 0, .int .u8 4, .int .u8 0, .int .u8 0, .int .u8 0, .int .u8 1, .int .u8 0, .int .u8 0, .int .u8 0] 5 (16, 17))).cell? ⟨w1.heap.size, j, none⟩ = some u := fun j u hu => by
    rw [World.cell?_alloc_mark]; simpa using hu
  have hsz : w1.heap.size < (w1.alloc (.cells #[.int .u8 83, .int .u8 82, .int .u8 73, .int .u8 1, .int .u8 1, .int .u8 0, .int .u8 0, .int .u8 0, .int .u8 4, .int .u8 0, .int .u8 0, .int .u8 0, .int .u8 1, .int .u8 0, .int .u8 0, .int .u8 0] 5 (16, 17))).heap.size := by simp
  have k1 : Kept w1 (w1.alloc (.cells #[.int .u8 83, .int .u8 82, .int .u8 73, .int .u8 1, .int .u8 1, .int .u8 0, .int .u8 0, .int .u8 0, .int .u8 4, .int .u8 0, .int .u8 0, .int .u8 0, .int .u8 1, .int .u8 0, .int .u8 0, .int .u8 0] 5 (16, 17))) := (Kept.refl w1).alloc _
  go_wp2_with fail
  generalize w1.alloc (.cells #[.int .u8 83, .int .u8 82, .int .u8 73, .int .u8 1, .int .u8 1, .int .u8 0, .int .u8 0, .int .u8 0, .int .u8 4, .int .u8 0, .int .u8 0, .int .u8 0, .int .u8 1, .int .u8 0, .int .u8 0, .int .u8 0] 5 (16, 17)) = W1 at *
  refine (refPut_full (b := w1.heap.size) (n := 16) 2751463424 (by omega) (by omega) rfl hsz hcl (by omega)).mono ?_; rintro e w2 ⟨v2, rfl, own2', hb2⟩
  have own2 := own_base own2' k1.size
  have k2 : Kept w1 w2 := k1.to hb2
  have hs2 : w1.heap.size ≤ w2.heap.size := k2.size
  clear hb2 own2' k1 cvt hcl hsz
  go_wp2_with (at_builtin; refine wpList_append_own _ rfl (.tmp 14) (.tmp 15) 23 rfl w1.heap.size 5 i0 (.int .u8 0) 1 1 Try.underlying23 hi hz0 hz1 HZ2.out rfl (by omega) _ 20 _ rfl (own2.alloc _) ⟨w2.heap.size, 0, none⟩ 1 1 [.int .u8 9] rfl rfl (new_cells w2 _ _ _ rfl) (u8_one [9]) (by unfold maxLen; omega) (by omega) (by simp; omega) ?_; intro v3 w3 own3 hg3 _; obtain ⟨g, cap, rfl, hg0, hg1⟩ := own_form own3 (by omega); have k3 : Kept w1 w3 := Below.grown (k2.alloc _) hg3 (by simp; omega) (fun k hk => (own2.lt k hk).1); have own3' : w3.ownsRow w1.heap.size 5 1 (.slice (some ⟨g, 0, none⟩) 21 cap) 21 (wrong0.map (Value.int .u8)) := own3; have q0 := own_u8 own3' 0 (by omega); have f0 := own3'.frozenAt 0)
  have ownZ : (w3.setCell ⟨g, 0, none⟩ (.int .u8 115)).ownsRow w1.heap.size 5 1 (.slice (some ⟨g, 0, none⟩) 21 cap) 21 (([115, 82, 73, 1, 1, 0, 0, 0, 4, 0, 0, 0, 1, 0, 0, 0, 0, 0, 0, 164, 9] : List Int).map (Value.int .u8)) := (own3'.stored 0 (.int .u8 115)).1
  have kZ : Kept w1 (w3.setCell ⟨g, 0, none⟩ (.int .u8 115)) := Below.setCell k3 hg0 _
  clear q0 f0 own3 own3' hg3 k3 k2 own2
  generalize w3.setCell ⟨g, 0, none⟩ (.int .u8 115) = W3 at *
  refine (imgRead_len (zs := [115, 82, 73, 1, 1, 0, 0, 0, 4, 0, 0, 0, 1, 0, 0, 0, 0, 0, 0, 164, 9]) rfl (Row.of_own ownZ) (by decide)).mono ?_; rintro e w9 ⟨vc, vd, rfl, hP, hb9⟩
  rw [show readE [115, 82, 73, 1, 1, 0, 0, 0, 4, 0, 0, 0, 1, 0, 0, 0, 0, 0, 0, 164, 9] = 2 by decide +kernel]
  obtain ⟨A9, c9, rfl⟩ := (Row.of_own hP.code).form
  obtain ⟨D9, d9, rfl⟩ := (Row.of_own hP.data).form
  have hfin : Below w.heap.size w w9 := (hB1.trans (Below.mono kZ hB1.size)).trans (hb9.mono (Nat.le_trans hB1.size kZ.size))
  clear hP hb9 ownZ
  go_wp2_with fail
  refine (num_any _ _ (by omega)).mono ?_; rintro e w10 ⟨rfl, rfl⟩
  go_wp2_with fail
  go_ret
  exact ⟨rfl, hfin.alloc hfin.size _⟩

set_option maxHeartbeats 2000000 in
theorem imageWrong_2 (w : World) :
    Calls Try.prog 6 #[.int .i64 2] w fun e w' => e = .returned (.bool true) ∧ Below w.heap.size w w' := by
  obtain ⟨i0, hi, hz0, hz1, hz2⟩ := info_parts info_u8
  have HZ2 := Lib.hid hz2
  clear hz2
  go_enter Try.func6, Try.ntmps6
  go_wp2_with fail
  refine (imgAlive_any _).mono ?_; rintro e w1 ⟨rfl, hb1⟩
  have hB1 : Below w.heap.size w w1 := hb1
  clear hb1
  have cvt : (convert 23 23 (.slice (some ⟨w1.heap.size, 0, none⟩) 16 16)).run Try.prog (w1.alloc (.cells #[.int .u8 83, .int .u8 82, .int .u8 73, .int .u8 1, .int .u8 1, .int .u8 0, .int .u8 0, .int .u8 0, .int .u8 4, .int .u8 0, .int .u8 0, .int .u8 0, .int .u8 1, .int .u8 0, .int .u8 0, .int .u8 0] 5)) = .ok (.slice (some ⟨w1.heap.size, 0, none⟩) 16 16) (w1.alloc (.cells #[.int .u8 83, .int .u8 82, .int .u8 73, .int .u8 1, .int .u8 1, .int .u8 0, .int .u8 0, .int .u8 0, .int .u8 4, .int .u8 0, .int .u8 0, .int .u8 0, .int .u8 1, .int .u8 0, .int .u8 0, .int .u8 0] 5 (16, 17))) := Lib.run_convert_bytes_const w1 23 5 #[.int .u8 83, .int .u8 82, .int .u8 73, .int .u8 1, .int .u8 1, .int .u8 0, .int .u8 0, .int .u8 0, .int .u8 4, .int .u8 0, .int .u8 0, .int .u8 0, .int .u8 1, .int .u8 0, .int .u8 0, .int .u8 0] 16 16 Try.underlying23 Try.underlying5
  have hcl : ∀ j u, ([.int .u8 83, .int .u8 82, .int .u8 73, .int .u8 1, .int .u8 1, .int .u8 0, .int .u8 0, .int .u8 0, .int .u8 4, .int .u8 0, .int .u8 0, .int .u8 0, .int .u8 1, .int .u8 0, .int .u8 0, .int .u8 0] : List Value)[j]? = some u → (w1.alloc (.cells #[.int .u8 83, .int .u8 82, .int .u8 73, .int .u8 1, .int .u8 1, .int .u8 0, .int .u8 0, .int .u8 0, .int .u8 4, .int .u8 0, .int .u8 0, .int .u8 0, .int .u8 1, .int .u8 0, .int .u8 0, .int .u8 0] 5 (16, 17))).cell? ⟨w1.heap.size, j, none⟩ = some u := fun j u hu => by
    rw [World.cell?_alloc_mark]; simpa using hu
  have hsz : w1.heap.size < (w1.alloc (.cells #[.int .u8 83, .int .u8 82, .int .u8 73, .int .u8 1, .int .u8 1, .int .u8 0, .int .u8 0, .int .u8 0, .int .u8 4, .int .u8 0, .int .u8 0, .int .u8 0, .int .u8 1, .int .u8 0, .int .u8 0, .int .u8 0] 5 (16, 17))).heap.size := by simp
  have k1 : Kept w1 (w1.alloc (.cells #[.int .u8 83, .int .u8 82, .int .u8 73, .int .u8 1, .int .u8 1, .int .u8 0, .int .u8 0, .int .u8 0, .int .u8 4, .int .u8 0, .int .u8 0, .int .u8 0, .int .u8 1, .int .u8 0, .int .u8 0, .int .u8 0] 5 (16, 17))) := (Kept.refl w1).alloc _
  go_wp2_with fail
  generalize w1.alloc (.cells #[.int .u8 83, .int .u8 82, .int .u8 73, .int .u8 1, .int .u8 1, .int .u8 0, .int .u8 0, .int .u8 0, .int .u8 4, .int .u8 0, .int .u8 0, .int .u8 0, .int .u8 1, .int .u8 0, .int .u8 0, .int .u8 0] 5 (16, 17)) = W1 at *
  refine (refPut_full (b := w1.heap.size) (n := 16) 2751463424 (by omega) (by omega) rfl hsz hcl (by omega)).mono ?_; rintro e w2 ⟨v2, rfl, own2', hb2⟩
  have own2 := own_base own2' k1.size
  have k2 : Kept w1 w2 := k1.to hb2
  have hs2 : w1.heap.size ≤ w2.heap.size := k2.size
  clear hb2 own2' k1 cvt hcl hsz
  go_wp2_with (at_builtin; refine wpList_append_own _ rfl (.tmp 14) (.tmp 15) 23 rfl w1.heap.size 5 i0 (.int .u8 0) 1 1 Try.underlying23 hi hz0 hz1 HZ2.out rfl (by omega) _ 20 _ rfl (own2.alloc _) ⟨w2.heap.size, 0, none⟩ 1 1 [.int .u8 9] rfl rfl (new_cells w2 _ _ _ rfl) (u8_one [9]) (by unfold maxLen; omega) (by omega) (by simp; omega) ?_; intro v3 w3 own3 hg3 _; obtain ⟨g, cap, rfl, hg0, hg1⟩ := own_form own3 (by omega); have k3 : Kept w1 w3 := Below.grown (k2.alloc _) hg3 (by simp; omega) (fun k hk => (own2.lt k hk).1); have own3' : w3.ownsRow w1.heap.size 5 1 (.slice (some ⟨g, 0, none⟩) 21 cap) 21 (wrong0.map (Value.int .u8)) := own3; have q0 := own_u8 own3' 3 (by omega); have f0 := own3'.frozenAt 3)
  have ownZ : (w3.setCell ⟨g, 3, none⟩ (.int .u8 2)).ownsRow w1.heap.size 5 1 (.slice (some ⟨g, 0, none⟩) 21 cap) 21 (([83, 82, 73, 2, 1, 0, 0, 0, 4, 0, 0, 0, 1, 0, 0, 0, 0, 0, 0, 164, 9] : List Int).map (Value.int .u8)) := (own3'.stored 3 (.int .u8 2)).1
  have kZ : Kept w1 (w3.setCell ⟨g, 3, none⟩ (.int .u8 2)) := Below.setCell k3 hg0 _
  clear q0 f0 own3 own3' hg3 k3 k2 own2
  generalize w3.setCell ⟨g, 3, none⟩ (.int .u8 2) = W3 at *
  refine (imgRead_len (zs := [83, 82, 73, 2, 1, 0, 0, 0, 4, 0, 0, 0, 1, 0, 0, 0, 0, 0, 0, 164, 9]) rfl (Row.of_own ownZ) (by decide)).mono ?_; rintro e w9 ⟨vc, vd, rfl, hP, hb9⟩
  rw [show readE [83, 82, 73, 2, 1, 0, 0, 0, 4, 0, 0, 0, 1, 0, 0, 0, 0, 0, 0, 164, 9] = 2 by decide +kernel]
  obtain ⟨A9, c9, rfl⟩ := (Row.of_own hP.code).form
  obtain ⟨D9, d9, rfl⟩ := (Row.of_own hP.data).form
  have hfin : Below w.heap.size w w9 := (hB1.trans (Below.mono kZ hB1.size)).trans (hb9.mono (Nat.le_trans hB1.size kZ.size))
  clear hP hb9 ownZ
  go_wp2_with fail
  refine (num_any _ _ (by omega)).mono ?_; rintro e w10 ⟨rfl, rfl⟩
  go_wp2_with fail
  go_ret
  exact ⟨rfl, hfin.alloc hfin.size _⟩

set_option maxHeartbeats 2000000 in
theorem imageWrong_3 (w : World) :
    Calls Try.prog 6 #[.int .i64 3] w fun e w' => e = .returned (.bool true) ∧ Below w.heap.size w w' := by
  obtain ⟨i0, hi, hz0, hz1, hz2⟩ := info_parts info_u8
  have HZ2 := Lib.hid hz2
  clear hz2
  go_enter Try.func6, Try.ntmps6
  go_wp2_with fail
  refine (imgAlive_any _).mono ?_; rintro e w1 ⟨rfl, hb1⟩
  have hB1 : Below w.heap.size w w1 := hb1
  clear hb1
  have cvt : (convert 23 23 (.slice (some ⟨w1.heap.size, 0, none⟩) 16 16)).run Try.prog (w1.alloc (.cells #[.int .u8 83, .int .u8 82, .int .u8 73, .int .u8 1, .int .u8 1, .int .u8 0, .int .u8 0, .int .u8 0, .int .u8 4, .int .u8 0, .int .u8 0, .int .u8 0, .int .u8 1, .int .u8 0, .int .u8 0, .int .u8 0] 5)) = .ok (.slice (some ⟨w1.heap.size, 0, none⟩) 16 16) (w1.alloc (.cells #[.int .u8 83, .int .u8 82, .int .u8 73, .int .u8 1, .int .u8 1, .int .u8 0, .int .u8 0, .int .u8 0, .int .u8 4, .int .u8 0, .int .u8 0, .int .u8 0, .int .u8 1, .int .u8 0, .int .u8 0, .int .u8 0] 5 (16, 17))) := Lib.run_convert_bytes_const w1 23 5 #[.int .u8 83, .int .u8 82, .int .u8 73, .int .u8 1, .int .u8 1, .int .u8 0, .int .u8 0, .int .u8 0, .int .u8 4, .int .u8 0, .int .u8 0, .int .u8 0, .int .u8 1, .int .u8 0, .int .u8 0, .int .u8 0] 16 16 Try.underlying23 Try.underlying5
  have hcl : ∀ j u, ([.int .u8 83, .int .u8 82, .int .u8 73, .int .u8 1, .int .u8 1, .int .u8 0, .int .u8 0, .int .u8 0, .int .u8 4, .int .u8 0, .int .u8 0, .int .u8 0, .int .u8 1, .int .u8 0, .int .u8 0, .int .u8 0] : List Value)[j]? = some u → (w1.alloc (.cells #[.int .u8 83, .int .u8 82, .int .u8 73, .int .u8 1, .int .u8 1, .int .u8 0, .int .u8 0, .int .u8 0, .int .u8 4, .int .u8 0, .int .u8 0, .int .u8 0, .int .u8 1, .int .u8 0, .int .u8 0, .int .u8 0] 5 (16, 17))).cell? ⟨w1.heap.size, j, none⟩ = some u := fun j u hu => by
    rw [World.cell?_alloc_mark]; simpa using hu
  have hsz : w1.heap.size < (w1.alloc (.cells #[.int .u8 83, .int .u8 82, .int .u8 73, .int .u8 1, .int .u8 1, .int .u8 0, .int .u8 0, .int .u8 0, .int .u8 4, .int .u8 0, .int .u8 0, .int .u8 0, .int .u8 1, .int .u8 0, .int .u8 0, .int .u8 0] 5 (16, 17))).heap.size := by simp
  have k1 : Kept w1 (w1.alloc (.cells #[.int .u8 83, .int .u8 82, .int .u8 73, .int .u8 1, .int .u8 1, .int .u8 0, .int .u8 0, .int .u8 0, .int .u8 4, .int .u8 0, .int .u8 0, .int .u8 0, .int .u8 1, .int .u8 0, .int .u8 0, .int .u8 0] 5 (16, 17))) := (Kept.refl w1).alloc _
  go_wp2_with fail
  generalize w1.alloc (.cells #[.int .u8 83, .int .u8 82, .int .u8 73, .int .u8 1, .int .u8 1, .int .u8 0, .int .u8 0, .int .u8 0, .int .u8 4, .int .u8 0, .int .u8 0, .int .u8 0, .int .u8 1, .int .u8 0, .int .u8 0, .int .u8 0] 5 (16, 17)) = W1 at *
  refine (refPut_full (b := w1.heap.size) (n := 16) 2751463424 (by omega) (by omega) rfl hsz hcl (by omega)).mono ?_; rintro e w2 ⟨v2, rfl, own2', hb2⟩
  have own2 := own_base own2' k1.size
  have k2 : Kept w1 w2 := k1.to hb2
  have hs2 : w1.heap.size ≤ w2.heap.size := k2.size
  clear hb2 own2' k1 cvt hcl hsz
  go_wp2_with (at_builtin; refine wpList_append_own _ rfl (.tmp 14) (.tmp 15) 23 rfl w1.heap.size 5 i0 (.int .u8 0) 1 1 Try.underlying23 hi hz0 hz1 HZ2.out rfl (by omega) _ 20 _ rfl (own2.alloc _) ⟨w2.heap.size, 0, none⟩ 1 1 [.int .u8 9] rfl rfl (new_cells w2 _ _ _ rfl) (u8_one [9]) (by unfold maxLen; omega) (by omega) (by simp; omega) ?_; intro v3 w3 own3 hg3 _; obtain ⟨g, cap, rfl, hg0, hg1⟩ := own_form own3 (by omega); have k3 : Kept w1 w3 := Below.grown (k2.alloc _) hg3 (by simp; omega) (fun k hk => (own2.lt k hk).1); have own3' : w3.ownsRow w1.heap.size 5 1 (.slice (some ⟨g, 0, none⟩) 21 cap) 21 (wrong0.map (Value.int .u8)) := own3; have q0 := own_u8 own3' 4 (by omega); have f0 := own3'.frozenAt 4)
  have ownZ : (w3.setCell ⟨g, 4, none⟩ (.int .u8 0)).ownsRow w1.heap.size 5 1 (.slice (some ⟨g, 0, none⟩) 21 cap) 21 (([83, 82, 73, 1, 0, 0, 0, 0, 4, 0, 0, 0, 1, 0, 0, 0, 0, 0, 0, 164, 9] : List Int).map (Value.int .u8)) := (own3'.stored 4 (.int .u8 0)).1
  have kZ : Kept w1 (w3.setCell ⟨g, 4, none⟩ (.int .u8 0)) := Below.setCell k3 hg0 _
  clear q0 f0 own3 own3' hg3 k3 k2 own2
  generalize w3.setCell ⟨g, 4, none⟩ (.int .u8 0) = W3 at *
  refine (imgRead_len (zs := [83, 82, 73, 1, 0, 0, 0, 0, 4, 0, 0, 0, 1, 0, 0, 0, 0, 0, 0, 164, 9]) rfl (Row.of_own ownZ) (by decide)).mono ?_; rintro e w9 ⟨vc, vd, rfl, hP, hb9⟩
  rw [show readE [83, 82, 73, 1, 0, 0, 0, 0, 4, 0, 0, 0, 1, 0, 0, 0, 0, 0, 0, 164, 9] = 2 by decide +kernel]
  obtain ⟨A9, c9, rfl⟩ := (Row.of_own hP.code).form
  obtain ⟨D9, d9, rfl⟩ := (Row.of_own hP.data).form
  have hfin : Below w.heap.size w w9 := (hB1.trans (Below.mono kZ hB1.size)).trans (hb9.mono (Nat.le_trans hB1.size kZ.size))
  clear hP hb9 ownZ
  go_wp2_with fail
  refine (num_any _ _ (by omega)).mono ?_; rintro e w10 ⟨rfl, rfl⟩
  go_wp2_with fail
  go_ret
  exact ⟨rfl, hfin.alloc hfin.size _⟩

set_option maxHeartbeats 2000000 in
theorem imageWrong_4 (w : World) :
    Calls Try.prog 6 #[.int .i64 4] w fun e w' => e = .returned (.bool true) ∧ Below w.heap.size w w' := by
  obtain ⟨i0, hi, hz0, hz1, hz2⟩ := info_parts info_u8
  have HZ2 := Lib.hid hz2
  clear hz2
  go_enter Try.func6, Try.ntmps6
  go_wp2_with fail
  refine (imgAlive_any _).mono ?_; rintro e w1 ⟨rfl, hb1⟩
  have hB1 : Below w.heap.size w w1 := hb1
  clear hb1
  have cvt : (convert 23 23 (.slice (some ⟨w1.heap.size, 0, none⟩) 16 16)).run Try.prog (w1.alloc (.cells #[.int .u8 83, .int .u8 82, .int .u8 73, .int .u8 1, .int .u8 1, .int .u8 0, .int .u8 0, .int .u8 0, .int .u8 4, .int .u8 0, .int .u8 0, .int .u8 0, .int .u8 1, .int .u8 0, .int .u8 0, .int .u8 0] 5)) = .ok (.slice (some ⟨w1.heap.size, 0, none⟩) 16 16) (w1.alloc (.cells #[.int .u8 83, .int .u8 82, .int .u8 73, .int .u8 1, .int .u8 1, .int .u8 0, .int .u8 0, .int .u8 0, .int .u8 4, .int .u8 0, .int .u8 0, .int .u8 0, .int .u8 1, .int .u8 0, .int .u8 0, .int .u8 0] 5 (16, 17))) := Lib.run_convert_bytes_const w1 23 5 #[.int .u8 83, .int .u8 82, .int .u8 73, .int .u8 1, .int .u8 1, .int .u8 0, .int .u8 0, .int .u8 0, .int .u8 4, .int .u8 0, .int .u8 0, .int .u8 0, .int .u8 1, .int .u8 0, .int .u8 0, .int .u8 0] 16 16 Try.underlying23 Try.underlying5
  have hcl : ∀ j u, ([.int .u8 83, .int .u8 82, .int .u8 73, .int .u8 1, .int .u8 1, .int .u8 0, .int .u8 0, .int .u8 0, .int .u8 4, .int .u8 0, .int .u8 0, .int .u8 0, .int .u8 1, .int .u8 0, .int .u8 0, .int .u8 0] : List Value)[j]? = some u → (w1.alloc (.cells #[.int .u8 83, .int .u8 82, .int .u8 73, .int .u8 1, .int .u8 1, .int .u8 0, .int .u8 0, .int .u8 0, .int .u8 4, .int .u8 0, .int .u8 0, .int .u8 0, .int .u8 1, .int .u8 0, .int .u8 0, .int .u8 0] 5 (16, 17))).cell? ⟨w1.heap.size, j, none⟩ = some u := fun j u hu => by
    rw [World.cell?_alloc_mark]; simpa using hu
  have hsz : w1.heap.size < (w1.alloc (.cells #[.int .u8 83, .int .u8 82, .int .u8 73, .int .u8 1, .int .u8 1, .int .u8 0, .int .u8 0, .int .u8 0, .int .u8 4, .int .u8 0, .int .u8 0, .int .u8 0, .int .u8 1, .int .u8 0, .int .u8 0, .int .u8 0] 5 (16, 17))).heap.size := by simp
  have k1 : Kept w1 (w1.alloc (.cells #[.int .u8 83, .int .u8 82, .int .u8 73, .int .u8 1, .int .u8 1, .int .u8 0, .int .u8 0, .int .u8 0, .int .u8 4, .int .u8 0, .int .u8 0, .int .u8 0, .int .u8 1, .int .u8 0, .int .u8 0, .int .u8 0] 5 (16, 17))) := (Kept.refl w1).alloc _
  go_wp2_with fail
  generalize w1.alloc (.cells #[.int .u8 83, .int .u8 82, .int .u8 73, .int .u8 1, .int .u8 1, .int .u8 0, .int .u8 0, .int .u8 0, .int .u8 4, .int .u8 0, .int .u8 0, .int .u8 0, .int .u8 1, .int .u8 0, .int .u8 0, .int .u8 0] 5 (16, 17)) = W1 at *
  refine (refPut_full (b := w1.heap.size) (n := 16) 2751463424 (by omega) (by omega) rfl hsz hcl (by omega)).mono ?_; rintro e w2 ⟨v2, rfl, own2', hb2⟩
  have own2 := own_base own2' k1.size
  have k2 : Kept w1 w2 := k1.to hb2
  have hs2 : w1.heap.size ≤ w2.heap.size := k2.size
  clear hb2 own2' k1 cvt hcl hsz
  go_wp2_with (at_builtin; refine wpList_append_own _ rfl (.tmp 14) (.tmp 15) 23 rfl w1.heap.size 5 i0 (.int .u8 0) 1 1 Try.underlying23 hi hz0 hz1 HZ2.out rfl (by omega) _ 20 _ rfl (own2.alloc _) ⟨w2.heap.size, 0, none⟩ 1 1 [.int .u8 9] rfl rfl (new_cells w2 _ _ _ rfl) (u8_one [9]) (by unfold maxLen; omega) (by omega) (by simp; omega) ?_; intro v3 w3 own3 hg3 _; obtain ⟨g, cap, rfl, hg0, hg1⟩ := own_form own3 (by omega); have k3 : Kept w1 w3 := Below.grown (k2.alloc _) hg3 (by simp; omega) (fun k hk => (own2.lt k hk).1); have own3' : w3.ownsRow w1.heap.size 5 1 (.slice (some ⟨g, 0, none⟩) 21 cap) 21 (wrong0.map (Value.int .u8)) := own3; have q0 := own_u8 own3' 12 (by omega); have f0 := own3'.frozenAt 12)
  have ownZ : (w3.setCell ⟨g, 12, none⟩ (.int .u8 5)).ownsRow w1.heap.size 5 1 (.slice (some ⟨g, 0, none⟩) 21 cap) 21 (([83, 82, 73, 1, 1, 0, 0, 0, 4, 0, 0, 0, 5, 0, 0, 0, 0, 0, 0, 164, 9] : List Int).map (Value.int .u8)) := (own3'.stored 12 (.int .u8 5)).1
  have kZ : Kept w1 (w3.setCell ⟨g, 12, none⟩ (.int .u8 5)) := Below.setCell k3 hg0 _
  clear q0 f0 own3 own3' hg3 k3 k2 own2
  generalize w3.setCell ⟨g, 12, none⟩ (.int .u8 5) = W3 at *
  refine (imgRead_len (zs := [83, 82, 73, 1, 1, 0, 0, 0, 4, 0, 0, 0, 5, 0, 0, 0, 0, 0, 0, 164, 9]) rfl (Row.of_own ownZ) (by decide)).mono ?_; rintro e w9 ⟨vc, vd, rfl, hP, hb9⟩
  rw [show readE [83, 82, 73, 1, 1, 0, 0, 0, 4, 0, 0, 0, 5, 0, 0, 0, 0, 0, 0, 164, 9] = 2 by decide +kernel]
  obtain ⟨A9, c9, rfl⟩ := (Row.of_own hP.code).form
  obtain ⟨D9, d9, rfl⟩ := (Row.of_own hP.data).form
  have hfin : Below w.heap.size w w9 := (hB1.trans (Below.mono kZ hB1.size)).trans (hb9.mono (Nat.le_trans hB1.size kZ.size))
  clear hP hb9 ownZ
  go_wp2_with fail
  refine (num_any _ _ (by omega)).mono ?_; rintro e w10 ⟨rfl, rfl⟩
  go_wp2_with fail
  go_ret
  exact ⟨rfl, hfin.alloc hfin.size _⟩

set_option maxHeartbeats 2000000 in
theorem imageWrong_5 (w : World) :
    Calls Try.prog 6 #[.int .i64 5] w fun e w' => e = .returned (.bool true) ∧ Below w.heap.size w w' := by
  obtain ⟨i0, hi, hz0, hz1, hz2⟩ := info_parts info_u8
  have HZ2 := Lib.hid hz2
  clear hz2
  go_enter Try.func6, Try.ntmps6
  go_wp2_with fail
  refine (imgAlive_any _).mono ?_; rintro e w1 ⟨rfl, hb1⟩
  have hB1 : Below w.heap.size w w1 := hb1
  clear hb1
  have cvt : (convert 23 23 (.slice (some ⟨w1.heap.size, 0, none⟩) 16 16)).run Try.prog (w1.alloc (.cells #[.int .u8 83, .int .u8 82, .int .u8 73, .int .u8 1, .int .u8 1, .int .u8 0, .int .u8 0, .int .u8 0, .int .u8 4, .int .u8 0, .int .u8 0, .int .u8 0, .int .u8 1, .int .u8 0, .int .u8 0, .int .u8 0] 5)) = .ok (.slice (some ⟨w1.heap.size, 0, none⟩) 16 16) (w1.alloc (.cells #[.int .u8 83, .int .u8 82, .int .u8 73, .int .u8 1, .int .u8 1, .int .u8 0, .int .u8 0, .int .u8 0, .int .u8 4, .int .u8 0, .int .u8 0, .int .u8 0, .int .u8 1, .int .u8 0, .int .u8 0, .int .u8 0] 5 (16, 17))) := Lib.run_convert_bytes_const w1 23 5 #[.int .u8 83, .int .u8 82, .int .u8 73, .int .u8 1, .int .u8 1, .int .u8 0, .int .u8 0, .int .u8 0, .int .u8 4, .int .u8 0, .int .u8 0, .int .u8 0, .int .u8 1, .int .u8 0, .int .u8 0, .int .u8 0] 16 16 Try.underlying23 Try.underlying5
  have hcl : ∀ j u, ([.int .u8 83, .int .u8 82, .int .u8 73, .int .u8 1, .int .u8 1, .int .u8 0, .int .u8 0, .int .u8 0, .int .u8 4, .int .u8 0, .int .u8 0, .int .u8 0, .int .u8 1, .int .u8 0, .int .u8 0, .int .u8 0] : List Value)[j]? = some u → (w1.alloc (.cells #[.int .u8 83, .int .u8 82, .int .u8 73, .int .u8 1, .int .u8 1, .int .u8 0, .int .u8 0, .int .u8 0, .int .u8 4, .int .u8 0, .int .u8 0, .int .u8 0, .int .u8 1, .int .u8 0, .int .u8 0, .int .u8 0] 5 (16, 17))).cell? ⟨w1.heap.size, j, none⟩ = some u := fun j u hu => by
    rw [World.cell?_alloc_mark]; simpa using hu
  have hsz : w1.heap.size < (w1.alloc (.cells #[.int .u8 83, .int .u8 82, .int .u8 73, .int .u8 1, .int .u8 1, .int .u8 0, .int .u8 0, .int .u8 0, .int .u8 4, .int .u8 0, .int .u8 0, .int .u8 0, .int .u8 1, .int .u8 0, .int .u8 0, .int .u8 0] 5 (16, 17))).heap.size := by simp
  have k1 : Kept w1 (w1.alloc (.cells #[.int .u8 83, .int .u8 82, .int .u8 73, .int .u8 1, .int .u8 1, .int .u8 0, .int .u8 0, .int .u8 0, .int .u8 4, .int .u8 0, .int .u8 0, .int .u8 0, .int .u8 1, .int .u8 0, .int .u8 0, .int .u8 0] 5 (16, 17))) := (Kept.refl w1).alloc _
  go_wp2_with fail
  generalize w1.alloc (.cells #[.int .u8 83, .int .u8 82, .int .u8 73, .int .u8 1, .int .u8 1, .int .u8 0, .int .u8 0, .int .u8 0, .int .u8 4, .int .u8 0, .int .u8 0, .int .u8 0, .int .u8 1, .int .u8 0, .int .u8 0, .int .u8 0] 5 (16, 17)) = W1 at *
  refine (refPut_full (b := w1.heap.size) (n := 16) 2751463424 (by omega) (by omega) rfl hsz hcl (by omega)).mono ?_; rintro e w2 ⟨v2, rfl, own2', hb2⟩
  have own2 := own_base own2' k1.size
  have k2 : Kept w1 w2 := k1.to hb2
  have hs2 : w1.heap.size ≤ w2.heap.size := k2.size
  clear hb2 own2' k1 cvt hcl hsz
  go_wp2_with (at_builtin; refine wpList_append_own _ rfl (.tmp 14) (.tmp 15) 23 rfl w1.heap.size 5 i0 (.int .u8 0) 1 1 Try.underlying23 hi hz0 hz1 HZ2.out rfl (by omega) _ 20 _ rfl (own2.alloc _) ⟨w2.heap.size, 0, none⟩ 1 1 [.int .u8 9] rfl rfl (new_cells w2 _ _ _ rfl) (u8_one [9]) (by unfold maxLen; omega) (by omega) (by simp; omega) ?_; intro v3 w3 own3 hg3 _; obtain ⟨g, cap, rfl, hg0, hg1⟩ := own_form own3 (by omega); have k3 : Kept w1 w3 := Below.grown (k2.alloc _) hg3 (by simp; omega) (fun k hk => (own2.lt k hk).1); have own3' : w3.ownsRow w1.heap.size 5 1 (.slice (some ⟨g, 0, none⟩) 21 cap) 21 (wrong0.map (Value.int .u8)) := own3; have q0 := own_u8 own3' 16 (by omega); have f0 := own3'.frozenAt 16)
  have ownZ : (w3.setCell ⟨g, 16, none⟩ (.int .u8 1)).ownsRow w1.heap.size 5 1 (.slice (some ⟨g, 0, none⟩) 21 cap) 21 (([83, 82, 73, 1, 1, 0, 0, 0, 4, 0, 0, 0, 1, 0, 0, 0, 1, 0, 0, 164, 9] : List Int).map (Value.int .u8)) := (own3'.stored 16 (.int .u8 1)).1
  have kZ : Kept w1 (w3.setCell ⟨g, 16, none⟩ (.int .u8 1)) := Below.setCell k3 hg0 _
  clear q0 f0 own3 own3' hg3 k3 k2 own2
  generalize w3.setCell ⟨g, 16, none⟩ (.int .u8 1) = W3 at *
  refine (imgRead_len (zs := [83, 82, 73, 1, 1, 0, 0, 0, 4, 0, 0, 0, 1, 0, 0, 0, 1, 0, 0, 164, 9]) rfl (Row.of_own ownZ) (by decide)).mono ?_; rintro e w9 ⟨vc, vd, rfl, hP, hb9⟩
  rw [show readE [83, 82, 73, 1, 1, 0, 0, 0, 4, 0, 0, 0, 1, 0, 0, 0, 1, 0, 0, 164, 9] = 3 by decide +kernel]
  obtain ⟨A9, c9, rfl⟩ := (Row.of_own hP.code).form
  obtain ⟨D9, d9, rfl⟩ := (Row.of_own hP.data).form
  have hfin : Below w.heap.size w w9 := (hB1.trans (Below.mono kZ hB1.size)).trans (hb9.mono (Nat.le_trans hB1.size kZ.size))
  clear hP hb9 ownZ
  go_wp2_with fail
  refine (num_any _ _ (by omega)).mono ?_; rintro e w10 ⟨rfl, rfl⟩
  go_wp2_with fail
  go_ret
  exact ⟨rfl, hfin.alloc hfin.size _⟩

set_option maxHeartbeats 2000000 in
theorem imageWrong_6 (w : World) :
    Calls Try.prog 6 #[.int .i64 6] w fun e w' => e = .returned (.bool true) ∧ Below w.heap.size w w' := by
  obtain ⟨i0, hi, hz0, hz1, hz2⟩ := info_parts info_u8
  have HZ2 := Lib.hid hz2
  clear hz2
  go_enter Try.func6, Try.ntmps6
  go_wp2_with fail
  refine (imgAlive_any _).mono ?_; rintro e w1 ⟨rfl, hb1⟩
  have hB1 : Below w.heap.size w w1 := hb1
  clear hb1
  have cvt : (convert 23 23 (.slice (some ⟨w1.heap.size, 0, none⟩) 16 16)).run Try.prog (w1.alloc (.cells #[.int .u8 83, .int .u8 82, .int .u8 73, .int .u8 1, .int .u8 1, .int .u8 0, .int .u8 0, .int .u8 0, .int .u8 4, .int .u8 0, .int .u8 0, .int .u8 0, .int .u8 1, .int .u8 0, .int .u8 0, .int .u8 0] 5)) = .ok (.slice (some ⟨w1.heap.size, 0, none⟩) 16 16) (w1.alloc (.cells #[.int .u8 83, .int .u8 82, .int .u8 73, .int .u8 1, .int .u8 1, .int .u8 0, .int .u8 0, .int .u8 0, .int .u8 4, .int .u8 0, .int .u8 0, .int .u8 0, .int .u8 1, .int .u8 0, .int .u8 0, .int .u8 0] 5 (16, 17))) := Lib.run_convert_bytes_const w1 23 5 #[.int .u8 83, .int .u8 82, .int .u8 73, .int .u8 1, .int .u8 1, .int .u8 0, .int .u8 0, .int .u8 0, .int .u8 4, .int .u8 0, .int .u8 0, .int .u8 0, .int .u8 1, .int .u8 0, .int .u8 0, .int .u8 0] 16 16 Try.underlying23 Try.underlying5
  have hcl : ∀ j u, ([.int .u8 83, .int .u8 82, .int .u8 73, .int .u8 1, .int .u8 1, .int .u8 0, .int .u8 0, .int .u8 0, .int .u8 4, .int .u8 0, .int .u8 0, .int .u8 0, .int .u8 1, .int .u8 0, .int .u8 0, .int .u8 0] : List Value)[j]? = some u → (w1.alloc (.cells #[.int .u8 83, .int .u8 82, .int .u8 73, .int .u8 1, .int .u8 1, .int .u8 0, .int .u8 0, .int .u8 0, .int .u8 4, .int .u8 0, .int .u8 0, .int .u8 0, .int .u8 1, .int .u8 0, .int .u8 0, .int .u8 0] 5 (16, 17))).cell? ⟨w1.heap.size, j, none⟩ = some u := fun j u hu => by
    rw [World.cell?_alloc_mark]; simpa using hu
  have hsz : w1.heap.size < (w1.alloc (.cells #[.int .u8 83, .int .u8 82, .int .u8 73, .int .u8 1, .int .u8 1, .int .u8 0, .int .u8 0, .int .u8 0, .int .u8 4, .int .u8 0, .int .u8 0, .int .u8 0, .int .u8 1, .int .u8 0, .int .u8 0, .int .u8 0] 5 (16, 17))).heap.size := by simp
  have k1 : Kept w1 (w1.alloc (.cells #[.int .u8 83, .int .u8 82, .int .u8 73, .int .u8 1, .int .u8 1, .int .u8 0, .int .u8 0, .int .u8 0, .int .u8 4, .int .u8 0, .int .u8 0, .int .u8 0, .int .u8 1, .int .u8 0, .int .u8 0, .int .u8 0] 5 (16, 17))) := (Kept.refl w1).alloc _
  go_wp2_with fail
  generalize w1.alloc (.cells #[.int .u8 83, .int .u8 82, .int .u8 73, .int .u8 1, .int .u8 1, .int .u8 0, .int .u8 0, .int .u8 0, .int .u8 4, .int .u8 0, .int .u8 0, .int .u8 0, .int .u8 1, .int .u8 0, .int .u8 0, .int .u8 0] 5 (16, 17)) = W1 at *
  refine (refPut_full (b := w1.heap.size) (n := 16) 2751463424 (by omega) (by omega) rfl hsz hcl (by omega)).mono ?_; rintro e w2 ⟨v2, rfl, own2', hb2⟩
  have own2 := own_base own2' k1.size
  have k2 : Kept w1 w2 := k1.to hb2
  have hs2 : w1.heap.size ≤ w2.heap.size := k2.size
  clear hb2 own2' k1 cvt hcl hsz
  go_wp2_with (at_builtin; refine wpList_append_own _ rfl (.tmp 14) (.tmp 15) 23 rfl w1.heap.size 5 i0 (.int .u8 0) 1 1 Try.underlying23 hi hz0 hz1 HZ2.out rfl (by omega) _ 20 _ rfl (own2.alloc _) ⟨w2.heap.size, 0, none⟩ 1 1 [.int .u8 9] rfl rfl (new_cells w2 _ _ _ rfl) (u8_one [9]) (by unfold maxLen; omega) (by omega) (by simp; omega) ?_; intro v3 w3 own3 hg3 _; obtain ⟨g, cap, rfl, hg0, hg1⟩ := own_form own3 (by omega); have k3 : Kept w1 w3 := Below.grown (k2.alloc _) hg3 (by simp; omega) (fun k hk => (own2.lt k hk).1); have own3' : w3.ownsRow w1.heap.size 5 1 (.slice (some ⟨g, 0, none⟩) 21 cap) 21 (wrong0.map (Value.int .u8)) := own3; have q0 := own_u8 own3' 19 (by omega); have f0 := own3'.frozenAt 19)
  have ownZ : (w3.setCell ⟨g, 19, none⟩ (.int .u8 0)).ownsRow w1.heap.size 5 1 (.slice (some ⟨g, 0, none⟩) 21 cap) 21 (([83, 82, 73, 1, 1, 0, 0, 0, 4, 0, 0, 0, 1, 0, 0, 0, 0, 0, 0, 0, 9] : List Int).map (Value.int .u8)) := (own3'.stored 19 (.int .u8 0)).1
  have kZ : Kept w1 (w3.setCell ⟨g, 19, none⟩ (.int .u8 0)) := Below.setCell k3 hg0 _
  clear q0 f0 own3 own3' hg3 k3 k2 own2
  generalize w3.setCell ⟨g, 19, none⟩ (.int .u8 0) = W3 at *
  refine (imgRead_len (zs := [83, 82, 73, 1, 1, 0, 0, 0, 4, 0, 0, 0, 1, 0, 0, 0, 0, 0, 0, 0, 9]) rfl (Row.of_own ownZ) (by decide)).mono ?_; rintro e w9 ⟨vc, vd, rfl, hP, hb9⟩
  rw [show readE [83, 82, 73, 1, 1, 0, 0, 0, 4, 0, 0, 0, 1, 0, 0, 0, 0, 0, 0, 0, 9] = 3 by decide +kernel]
  obtain ⟨A9, c9, rfl⟩ := (Row.of_own hP.code).form
  obtain ⟨D9, d9, rfl⟩ := (Row.of_own hP.data).form
  have hfin : Below w.heap.size w w9 := (hB1.trans (Below.mono kZ hB1.size)).trans (hb9.mono (Nat.le_trans hB1.size kZ.size))
  clear hP hb9 ownZ
  go_wp2_with fail
  refine (num_any _ _ (by omega)).mono ?_; rintro e w10 ⟨rfl, rfl⟩
  go_wp2_with fail
  go_ret
  exact ⟨rfl, hfin.alloc hfin.size _⟩

set_option maxHeartbeats 2000000 in
theorem imageWrong_8 (w : World) :
    Calls Try.prog 6 #[.int .i64 8] w fun e w' => e = .returned (.bool true) ∧ Below w.heap.size w w' := by
  obtain ⟨i0, hi, hz0, hz1, hz2⟩ := info_parts info_u8
  have HZ2 := Lib.hid hz2
  clear hz2
  go_enter Try.func6, Try.ntmps6
  go_wp2_with fail
  refine (imgAlive_any _).mono ?_; rintro e w1 ⟨rfl, hb1⟩
  have hB1 : Below w.heap.size w w1 := hb1
  clear hb1
  have cvt : (convert 23 23 (.slice (some ⟨w1.heap.size, 0, none⟩) 16 16)).run Try.prog (w1.alloc (.cells #[.int .u8 83, .int .u8 82, .int .u8 73, .int .u8 1, .int .u8 1, .int .u8 0, .int .u8 0, .int .u8 0, .int .u8 4, .int .u8 0, .int .u8 0, .int .u8 0, .int .u8 1, .int .u8 0, .int .u8 0, .int .u8 0] 5)) = .ok (.slice (some ⟨w1.heap.size, 0, none⟩) 16 16) (w1.alloc (.cells #[.int .u8 83, .int .u8 82, .int .u8 73, .int .u8 1, .int .u8 1, .int .u8 0, .int .u8 0, .int .u8 0, .int .u8 4, .int .u8 0, .int .u8 0, .int .u8 0, .int .u8 1, .int .u8 0, .int .u8 0, .int .u8 0] 5 (16, 17))) := Lib.run_convert_bytes_const w1 23 5 #[.int .u8 83, .int .u8 82, .int .u8 73, .int .u8 1, .int .u8 1, .int .u8 0, .int .u8 0, .int .u8 0, .int .u8 4, .int .u8 0, .int .u8 0, .int .u8 0, .int .u8 1, .int .u8 0, .int .u8 0, .int .u8 0] 16 16 Try.underlying23 Try.underlying5
  have hcl : ∀ j u, ([.int .u8 83, .int .u8 82, .int .u8 73, .int .u8 1, .int .u8 1, .int .u8 0, .int .u8 0, .int .u8 0, .int .u8 4, .int .u8 0, .int .u8 0, .int .u8 0, .int .u8 1, .int .u8 0, .int .u8 0, .int .u8 0] : List Value)[j]? = some u → (w1.alloc (.cells #[.int .u8 83, .int .u8 82, .int .u8 73, .int .u8 1, .int .u8 1, .int .u8 0, .int .u8 0, .int .u8 0, .int .u8 4, .int .u8 0, .int .u8 0, .int .u8 0, .int .u8 1, .int .u8 0, .int .u8 0, .int .u8 0] 5 (16, 17))).cell? ⟨w1.heap.size, j, none⟩ = some u := fun j u hu => by
    rw [World.cell?_alloc_mark]; simpa using hu
  have hsz : w1.heap.size < (w1.alloc (.cells #[.int .u8 83, .int .u8 82, .int .u8 73, .int .u8 1, .int .u8 1, .int .u8 0, .int .u8 0, .int .u8 0, .int .u8 4, .int .u8 0, .int .u8 0, .int .u8 0, .int .u8 1, .int .u8 0, .int .u8 0, .int .u8 0] 5 (16, 17))).heap.size := by simp
  have k1 : Kept w1 (w1.alloc (.cells #[.int .u8 83, .int .u8 82, .int .u8 73, .int .u8 1, .int .u8 1, .int .u8 0, .int .u8 0, .int .u8 0, .int .u8 4, .int .u8 0, .int .u8 0, .int .u8 0, .int .u8 1, .int .u8 0, .int .u8 0, .int .u8 0] 5 (16, 17))) := (Kept.refl w1).alloc _
  go_wp2_with fail
  generalize w1.alloc (.cells #[.int .u8 83, .int .u8 82, .int .u8 73, .int .u8 1, .int .u8 1, .int .u8 0, .int .u8 0, .int .u8 0, .int .u8 4, .int .u8 0, .int .u8 0, .int .u8 0, .int .u8 1, .int .u8 0, .int .u8 0, .int .u8 0] 5 (16, 17)) = W1 at *
  refine (refPut_full (b := w1.heap.size) (n := 16) 2751463424 (by omega) (by omega) rfl hsz hcl (by omega)).mono ?_; rintro e w2 ⟨v2, rfl, own2', hb2⟩
  have own2 := own_base own2' k1.size
  have k2 : Kept w1 w2 := k1.to hb2
  have hs2 : w1.heap.size ≤ w2.heap.size := k2.size
  clear hb2 own2' k1 cvt hcl hsz
  go_wp2_with (at_builtin; refine wpList_append_own _ rfl (.tmp 14) (.tmp 15) 23 rfl w1.heap.size 5 i0 (.int .u8 0) 1 1 Try.underlying23 hi hz0 hz1 HZ2.out rfl (by omega) _ 20 _ rfl (own2.alloc _) ⟨w2.heap.size, 0, none⟩ 1 1 [.int .u8 9] rfl rfl (new_cells w2 _ _ _ rfl) (u8_one [9]) (by unfold maxLen; omega) (by omega) (by simp; omega) ?_; intro v3 w3 own3 hg3 _; obtain ⟨g, cap, rfl, hg0, hg1⟩ := own_form own3 (by omega); have k3 : Kept w1 w3 := Below.grown (k2.alloc _) hg3 (by simp; omega) (fun k hk => (own2.lt k hk).1); have own3' : w3.ownsRow w1.heap.size 5 1 (.slice (some ⟨g, 0, none⟩) 21 cap) 21 (wrong0.map (Value.int .u8)) := own3; have q0 := own_u8 own3' 10 (by omega); have f0 := own3'.frozenAt 10)
  have ownZ : (w3.setCell ⟨g, 10, none⟩ (.int .u8 2)).ownsRow w1.heap.size 5 1 (.slice (some ⟨g, 0, none⟩) 21 cap) 21 (([83, 82, 73, 1, 1, 0, 0, 0, 4, 0, 2, 0, 1, 0, 0, 0, 0, 0, 0, 164, 9] : List Int).map (Value.int .u8)) := (own3'.stored 10 (.int .u8 2)).1
  have kZ : Kept w1 (w3.setCell ⟨g, 10, none⟩ (.int .u8 2)) := Below.setCell k3 hg0 _
  clear q0 f0 own3 own3' hg3 k3 k2 own2
  generalize w3.setCell ⟨g, 10, none⟩ (.int .u8 2) = W3 at *
  refine (imgRead_len (zs := [83, 82, 73, 1, 1, 0, 0, 0, 4, 0, 2, 0, 1, 0, 0, 0, 0, 0, 0, 164, 9]) rfl (Row.of_own ownZ) (by decide)).mono ?_; rintro e w9 ⟨vc, vd, rfl, hP, hb9⟩
  rw [show readE [83, 82, 73, 1, 1, 0, 0, 0, 4, 0, 2, 0, 1, 0, 0, 0, 0, 0, 0, 164, 9] = 2 by decide +kernel]
  obtain ⟨A9, c9, rfl⟩ := (Row.of_own hP.code).form
  obtain ⟨D9, d9, rfl⟩ := (Row.of_own hP.data).form
  have hfin : Below w.heap.size w w9 := (hB1.trans (Below.mono kZ hB1.size)).trans (hb9.mono (Nat.le_trans hB1.size kZ.size))
  clear hP hb9 ownZ
  go_wp2_with fail
  refine (num_any _ _ (by omega)).mono ?_; rintro e w10 ⟨rfl, rfl⟩
  go_wp2_with fail
  go_ret
  exact ⟨rfl, hfin.alloc hfin.size _⟩

set_option maxHeartbeats 2000000 in
theorem imageWrong_9 (w : World) :
    Calls Try.prog 6 #[.int .i64 9] w fun e w' => e = .returned (.bool true) ∧ Below w.heap.size w w' := by
  obtain ⟨i0, hi, hz0, hz1, hz2⟩ := info_parts info_u8
  have HZ2 := Lib.hid hz2
  clear hz2
  go_enter Try.func6, Try.ntmps6
  go_wp2_with fail
  refine (imgAlive_any _).mono ?_; rintro e w1 ⟨rfl, hb1⟩
  have hB1 : Below w.heap.size w w1 := hb1
  clear hb1
  have cvt : (convert 23 23 (.slice (some ⟨w1.heap.size, 0, none⟩) 16 16)).run Try.prog (w1.alloc (.cells #[.int .u8 83, .int .u8 82, .int .u8 73, .int .u8 1, .int .u8 1, .int .u8 0, .int .u8 0, .int .u8 0, .int .u8 4, .int .u8 0, .int .u8 0, .int .u8 0, .int .u8 1, .int .u8 0, .int .u8 0, .int .u8 0] 5)) = .ok (.slice (some ⟨w1.heap.size, 0, none⟩) 16 16) (w1.alloc (.cells #[.int .u8 83, .int .u8 82, .int .u8 73, .int .u8 1, .int .u8 1, .int .u8 0, .int .u8 0, .int .u8 0, .int .u8 4, .int .u8 0, .int .u8 0, .int .u8 0, .int .u8 1, .int .u8 0, .int .u8 0, .int .u8 0] 5 (16, 17))) := Lib.run_convert_bytes_const w1 23 5 #[.int .u8 83, .int .u8 82, .int .u8 73, .int .u8 1, .int .u8 1, .int .u8 0, .int .u8 0, .int .u8 0, .int .u8 4, .int .u8 0, .int .u8 0, .int .u8 0, .int .u8 1, .int .u8 0, .int .u8 0, .int .u8 0] 16 16 Try.underlying23 Try.underlying5
  have hcl : ∀ j u, ([.int .u8 83, .int .u8 82, .int .u8 73, .int .u8 1, .int .u8 1, .int .u8 0, .int .u8 0, .int .u8 0, .int .u8 4, .int .u8 0, .int .u8 0, .int .u8 0, .int .u8 1, .int .u8 0, .int .u8 0, .int .u8 0] : List Value)[j]? = some u → (w1.alloc (.cells #[.int .u8 83, .int .u8 82, .int .u8 73, .int .u8 1, .int .u8 1, .int .u8 0, .int .u8 0, .int .u8 0, .int .u8 4, .int .u8 0, .int .u8 0, .int .u8 0, .int .u8 1, .int .u8 0, .int .u8 0, .int .u8 0] 5 (16, 17))).cell? ⟨w1.heap.size, j, none⟩ = some u := fun j u hu => by
    rw [World.cell?_alloc_mark]; simpa using hu
  have hsz : w1.heap.size < (w1.alloc (.cells #[.int .u8 83, .int .u8 82, .int .u8 73, .int .u8 1, .int .u8 1, .int .u8 0, .int .u8 0, .int .u8 0, .int .u8 4, .int .u8 0, .int .u8 0, .int .u8 0, .int .u8 1, .int .u8 0, .int .u8 0, .int .u8 0] 5 (16, 17))).heap.size := by simp
  have k1 : Kept w1 (w1.alloc (.cells #[.int .u8 83, .int .u8 82, .int .u8 73, .int .u8 1, .int .u8 1, .int .u8 0, .int .u8 0, .int .u8 0, .int .u8 4, .int .u8 0, .int .u8 0, .int .u8 0, .int .u8 1, .int .u8 0, .int .u8 0, .int .u8 0] 5 (16, 17))) := (Kept.refl w1).alloc _
  go_wp2_with fail
  generalize w1.alloc (.cells #[.int .u8 83, .int .u8 82, .int .u8 73, .int .u8 1, .int .u8 1, .int .u8 0, .int .u8 0, .int .u8 0, .int .u8 4, .int .u8 0, .int .u8 0, .int .u8 0, .int .u8 1, .int .u8 0, .int .u8 0, .int .u8 0] 5 (16, 17)) = W1 at *
  refine (refPut_full (b := w1.heap.size) (n := 16) 2751463424 (by omega) (by omega) rfl hsz hcl (by omega)).mono ?_; rintro e w2 ⟨v2, rfl, own2', hb2⟩
  have own2 := own_base own2' k1.size
  have k2 : Kept w1 w2 := k1.to hb2
  have hs2 : w1.heap.size ≤ w2.heap.size := k2.size
  clear hb2 own2' k1 cvt hcl hsz
  go_wp2_with (at_builtin; refine wpList_append_own _ rfl (.tmp 14) (.tmp 15) 23 rfl w1.heap.size 5 i0 (.int .u8 0) 1 1 Try.underlying23 hi hz0 hz1 HZ2.out rfl (by omega) _ 20 _ rfl (own2.alloc _) ⟨w2.heap.size, 0, none⟩ 1 1 [.int .u8 9] rfl rfl (new_cells w2 _ _ _ rfl) (u8_one [9]) (by unfold maxLen; omega) (by omega) (by simp; omega) ?_; intro v3 w3 own3 hg3 _; obtain ⟨g, cap, rfl, hg0, hg1⟩ := own_form own3 (by omega); have k3 : Kept w1 w3 := Below.grown (k2.alloc _) hg3 (by simp; omega) (fun k hk => (own2.lt k hk).1); have own3' : w3.ownsRow w1.heap.size 5 1 (.slice (some ⟨g, 0, none⟩) 21 cap) 21 (wrong0.map (Value.int .u8)) := own3; have q0 := own_u8 own3' 8 (by omega); have f0 := own3'.frozenAt 8)
  have ownZ : (w3.setCell ⟨g, 8, none⟩ (.int .u8 1)).ownsRow w1.heap.size 5 1 (.slice (some ⟨g, 0, none⟩) 21 cap) 21 (([83, 82, 73, 1, 1, 0, 0, 0, 1, 0, 0, 0, 1, 0, 0, 0, 0, 0, 0, 164, 9] : List Int).map (Value.int .u8)) := (own3'.stored 8 (.int .u8 1)).1
  have kZ : Kept w1 (w3.setCell ⟨g, 8, none⟩ (.int .u8 1)) := Below.setCell k3 hg0 _
  clear q0 f0 own3 own3' hg3 k3 k2 own2
  generalize w3.setCell ⟨g, 8, none⟩ (.int .u8 1) = W3 at *
  refine (imgRead_len (zs := [83, 82, 73, 1, 1, 0, 0, 0, 1, 0, 0, 0, 1, 0, 0, 0, 0, 0, 0, 164, 9]) rfl (Row.of_own ownZ) (by decide)).mono ?_; rintro e w9 ⟨vc, vd, rfl, hP, hb9⟩
  rw [show readE [83, 82, 73, 1, 1, 0, 0, 0, 1, 0, 0, 0, 1, 0, 0, 0, 0, 0, 0, 164, 9] = 0 by decide +kernel]
  obtain ⟨A9, c9, rfl⟩ := (Row.of_own hP.code).form
  obtain ⟨D9, d9, rfl⟩ := (Row.of_own hP.data).form
  have hfin : Below w.heap.size w w9 := (hB1.trans (Below.mono kZ hB1.size)).trans (hb9.mono (Nat.le_trans hB1.size kZ.size))
  clear hP hb9 ownZ
  go_wp2_with fail
  refine (num_any _ _ (by omega)).mono ?_; rintro e w10 ⟨rfl, rfl⟩
  go_wp2_with fail
  go_ret
  exact ⟨rfl, hfin.alloc hfin.size _⟩

set_option maxHeartbeats 2000000 in
theorem imageWrong_7 (w : World) :
    Calls Try.prog 6 #[.int .i64 7] w fun e w' => e = .returned (.bool true) ∧ Below w.heap.size w w' := by
  obtain ⟨i0, hi, hz0, hz1, hz2⟩ := info_parts info_u8
  have HZ2 := Lib.hid hz2
  clear hz2
  go_enter Try.func6, Try.ntmps6
  go_wp2_with fail
  refine (imgAlive_any _).mono ?_; rintro e w1 ⟨rfl, hb1⟩
  have hB1 : Below w.heap.size w w1 := hb1
  clear hb1
  have cvt : (convert 23 23 (.slice (some ⟨w1.heap.size, 0, none⟩) 16 16)).run Try.prog (w1.alloc (.cells #[.int .u8 83, .int .u8 82, .int .u8 73, .int .u8 1, .int .u8 1, .int .u8 0, .int .u8 0, .int .u8 0, .int .u8 4, .int .u8 0, .int .u8 0, .int .u8 0, .int .u8 1, .int .u8 0, .int .u8 0, .int .u8 0] 5)) = .ok (.slice (some ⟨w1.heap.size, 0, none⟩) 16 16) (w1.alloc (.cells #[.int .u8 83, .int .u8 82, .int .u8 73, .int .u8 1, .int .u8 1, .int .u8 0, .int .u8 0, .int .u8 0, .int .u8 4, .int .u8 0, .int .u8 0, .int .u8 0, .int .u8 1, .int .u8 0, .int .u8 0, .int .u8 0] 5 (16, 17))) := Lib.run_convert_bytes_const w1 23 5 #[.int .u8 83, .int .u8 82, .int .u8 73, .int .u8 1, .int .u8 1, .int .u8 0, .int .u8 0, .int .u8 0, .int .u8 4, .int .u8 0, .int .u8 0, .int .u8 0, .int .u8 1, .int .u8 0, .int .u8 0, .int .u8 0] 16 16 Try.underlying23 Try.underlying5
  have hcl : ∀ j u, ([.int .u8 83, .int .u8 82, .int .u8 73, .int .u8 1, .int .u8 1, .int .u8 0, .int .u8 0, .int .u8 0, .int .u8 4, .int .u8 0, .int .u8 0, .int .u8 0, .int .u8 1, .int .u8 0, .int .u8 0, .int .u8 0] : List Value)[j]? = some u → (w1.alloc (.cells #[.int .u8 83, .int .u8 82, .int .u8 73, .int .u8 1, .int .u8 1, .int .u8 0, .int .u8 0, .int .u8 0, .int .u8 4, .int .u8 0, .int .u8 0, .int .u8 0, .int .u8 1, .int .u8 0, .int .u8 0, .int .u8 0] 5 (16, 17))).cell? ⟨w1.heap.size, j, none⟩ = some u := fun j u hu => by
    rw [World.cell?_alloc_mark]; simpa using hu
  have hsz : w1.heap.size < (w1.alloc (.cells #[.int .u8 83, .int .u8 82, .int .u8 73, .int .u8 1, .int .u8 1, .int .u8 0, .int .u8 0, .int .u8 0, .int .u8 4, .int .u8 0, .int .u8 0, .int .u8 0, .int .u8 1, .int .u8 0, .int .u8 0, .int .u8 0] 5 (16, 17))).heap.size := by simp
  have k1 : Kept w1 (w1.alloc (.cells #[.int .u8 83, .int .u8 82, .int .u8 73, .int .u8 1, .int .u8 1, .int .u8 0, .int .u8 0, .int .u8 0, .int .u8 4, .int .u8 0, .int .u8 0, .int .u8 0, .int .u8 1, .int .u8 0, .int .u8 0, .int .u8 0] 5 (16, 17))) := (Kept.refl w1).alloc _
  go_wp2_with fail
  generalize w1.alloc (.cells #[.int .u8 83, .int .u8 82, .int .u8 73, .int .u8 1, .int .u8 1, .int .u8 0, .int .u8 0, .int .u8 0, .int .u8 4, .int .u8 0, .int .u8 0, .int .u8 0, .int .u8 1, .int .u8 0, .int .u8 0, .int .u8 0] 5 (16, 17)) = W1 at *
  refine (refPut_full (b := w1.heap.size) (n := 16) 2751463424 (by omega) (by omega) rfl hsz hcl (by omega)).mono ?_; rintro e w2 ⟨v2, rfl, own2', hb2⟩
  have own2 := own_base own2' k1.size
  have k2 : Kept w1 w2 := k1.to hb2
  have hs2 : w1.heap.size ≤ w2.heap.size := k2.size
  clear hb2 own2' k1 cvt hcl hsz
  go_wp2_with (at_builtin; refine wpList_append_own _ rfl (.tmp 14) (.tmp 15) 23 rfl w1.heap.size 5 i0 (.int .u8 0) 1 1 Try.underlying23 hi hz0 hz1 HZ2.out rfl (by omega) _ 20 _ rfl (own2.alloc _) ⟨w2.heap.size, 0, none⟩ 1 1 [.int .u8 9] rfl rfl (new_cells w2 _ _ _ rfl) (u8_one [9]) (by unfold maxLen; omega) (by omega) (by simp; omega) ?_; intro v3 w3 own3 hg3 _; obtain ⟨g, cap, rfl, hg0, hg1⟩ := own_form own3 (by omega); have k3 : Kept w1 w3 := Below.grown (k2.alloc _) hg3 (by simp; omega) (fun k hk => (own2.lt k hk).1))
  have hc21 := (Row.of_own own3).cap
  have hc16 : 16 ≤ cap := by omega
  have own16 := own_front own3 (k := 16) (by omega)
  have k4 : Kept w1 w3.drew := k3.drew
  clear hg3 own2 k2
  refine wp_region_lin [(0, true), (1, true), (2, false), (3, false), (4, true)]
    (by kernel_rfl) (by kernel_rfl) rfl (by kernel_rfl) (Kept w1) ?_
  simp only [List.map_cons, List.map_nil, List.getElem?_toArray, List.getElem?_cons_succ, List.getElem?_cons_zero]
  (refine lin_take (v := ?_) (by assumption) (by rfl) ?_ ?_; rotate_left; (intro x hx; (try dsimp only at hx); go_simp; try (with_reducible rfl)); (simp only [Act.put, List.setIfInBounds_toArray, List.set_cons_zero, List.set_cons_succ]))
  refine lin_take (v := .slice (some ⟨g, 0, none⟩) 16 cap) (by assumption) (by rfl) (fun x hx => ?_) ?_
  · go_simp
    intro hh; omega
  simp only [Act.put, List.setIfInBounds_toArray, List.set_cons_zero, List.set_cons_succ]
  refine lin_call (by assumption) (by rfl) (fun K hK => ?_)
  go_simp
  refine (refPut_any (w := w3.drew) (base := w3.heap.size) 2684354561 (by omega) (by omega) (World.ownsRow_nil _ _ _ _) (Nat.le_refl _) (by omega)).mono ?_; rintro e w4 ⟨v4, rfl, own4, hb4⟩
  have kk4 : Kept w3 w4 := Below.trans (Below.drew (Below.refl _ _)) hb4
  have k5 : Kept w1 w4 := k3.trans kk4
  have own16 := own_below own16 kk4
  go_wp2_with fail
  refine hK.out _ _ k5 (fun _ => ?_)
  clear hK K hb4
  try simp only [Act.put, List.setIfInBounds_toArray, List.set_cons_zero, List.set_cons_succ]
  refine lin_call (by assumption) (by rfl) (fun K hK => ?_)
  refine wp_append_row _ (.tmp 56) (.tmp 57) 23 rfl w1.heap.size 5 i0 (.int .u8 0) 1 1 Try.underlying23 hi hz0 hz1 HZ2.out rfl (by omega) _ 16 _ rfl own16 _ _ 4 _ rfl (Row.of_own own4) (quad_one _) (by unfold maxLen; omega) (by omega) k5.size ?_
  intro v5 w5 own5 hg5
  have k6 : Kept w1 w5 := Below.grown k5 hg5 k5.size (fun k hk => (own16.lt k hk).1)
  refine hK.out _ _ k6 (fun _ => ?_)
  clear hK K hg5
  try simp only [Act.put, List.setIfInBounds_toArray, List.set_cons_zero, List.set_cons_succ]
  (refine lin_take (v := ?_) (by assumption) (by rfl) ?_ ?_; rotate_left; (intro x hx; (try dsimp only at hx); go_simp; try (with_reducible rfl)); (simp only [Act.put, List.setIfInBounds_toArray, List.set_cons_zero, List.set_cons_succ]))
  refine lin_done ?_
  have hs5 : w1.heap.size ≤ w5.heap.size := k6.size
  clear own4 own16 kk4 k5 k4
  go_wp2_with (at_builtin; refine wpList_append_own _ rfl (.tmp 59) (.tmp 60) 23 rfl w1.heap.size 5 i0 (.int .u8 0) 1 1 Try.underlying23 hi hz0 hz1 HZ2.out rfl (by omega) _ 20 _ rfl (own5.alloc _) ⟨w5.heap.size, 0, none⟩ 1 1 [.int .u8 9] rfl rfl (new_cells w5 _ _ _ rfl) (u8_one [9]) (by unfold maxLen; omega) (by omega) (by simp; omega) ?_; intro v9 w9 own9 hg9 _)
  have kZ : Kept w1 w9 := Below.grown (k6.alloc _) hg9 (by simp; omega) (fun k hk => (own5.lt k hk).1)
  obtain ⟨g9, cap9, rfl, hq0, hq1⟩ := own_form own9 (by omega)
  have ownZ : w9.ownsRow w1.heap.size 5 1 (.slice (some ⟨g9, 0, none⟩) 21 cap9) 21 (([83, 82, 73, 1, 1, 0, 0, 0, 4, 0, 0, 0, 1, 0, 0, 0, 1, 0, 0, 160, 9] : List Int).map (Value.int .u8)) := own9
  clear own9 hg9 own5 k6 own3 k3
  refine (imgRead_len (zs := [83, 82, 73, 1, 1, 0, 0, 0, 4, 0, 0, 0, 1, 0, 0, 0, 1, 0, 0, 160, 9]) rfl (Row.of_own ownZ) (by decide)).mono ?_; rintro e w10 ⟨vc, vd, rfl, hP, hb10⟩
  rw [show readE [83, 82, 73, 1, 1, 0, 0, 0, 4, 0, 0, 0, 1, 0, 0, 0, 1, 0, 0, 160, 9] = 4 by decide +kernel]
  obtain ⟨A9, c9, rfl⟩ := (Row.of_own hP.code).form
  obtain ⟨D9, d9, rfl⟩ := (Row.of_own hP.data).form
  have hfin : Below w.heap.size w w10 := (hB1.trans (Below.mono kZ hB1.size)).trans (hb10.mono (Nat.le_trans hB1.size kZ.size))
  clear hP hb10 ownZ
  go_wp2_with fail
  refine (num_any _ _ (by omega)).mono ?_; rintro e w11 ⟨rfl, rfl⟩
  go_wp2_with fail
  go_ret
  exact ⟨rfl, hfin.alloc hfin.size _⟩

theorem imageWrong_walk (a : Int) (w : World) (h : -9223372036854775808 ≤ a ∧ a ≤ 9223372036854775807) :
    Calls Try.prog 6 #[.int .i64 a] w fun e w' => e = .returned (.bool true) ∧ Below w.heap.size w w' := by
  by_cases h1 : a < 0
  · exact imageWrong_neg a w h1
  by_cases h2 : 9 < a
  · exact imageWrong_big a w h2
  have : a = 0 ∨ a = 1 ∨ a = 2 ∨ a = 3 ∨ a = 4 ∨ a = 5 ∨ a = 6 ∨ a = 7 ∨ a = 8 ∨ a = 9 := by omega
  rcases this with rfl | rfl | rfl | rfl | rfl | rfl | rfl | rfl | rfl | rfl
  · exact imageWrong_0 w
  · exact imageWrong_1 w
  · exact imageWrong_2 w
  · exact imageWrong_3 w
  · exact imageWrong_4 w
  · exact imageWrong_5 w
  · exact imageWrong_6 w
  · exact imageWrong_7 w
  · exact imageWrong_8 w
  · exact imageWrong_9 w
end Go.Proofs.Ythnimeibjannpaa.Words

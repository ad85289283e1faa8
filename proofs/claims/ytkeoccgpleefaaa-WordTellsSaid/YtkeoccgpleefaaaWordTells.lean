/- The walk of the law WordTells: what words are of numbers, numbers of words, bytes of words, and words of bytes. -/
import Derived.Test.YtkeoccgpleefaaaWordReads
import Derived.Test.YtkeoccgpleefaaaWordPuts
import Derived.Test.YtkeoccgpleefaaaLin
namespace Go.Proofs.Ytkeoccgpleefaaa.Words
open Go.RowKit

theorem quad_ints (x : Int) : quad x = [x % 256, x / 256 % 256, x / 65536 % 256, x / 16777216].map (Value.int .u8) := rfl

theorem map_oneCell (k : IntKind) (zs : List Int) : ∀ u ∈ zs.map (Value.int k), u.oneCell' = true := by
  intro u hu
  rw [List.mem_map] at hu
  obtain ⟨z, _, rfl⟩ := hu
  rfl

/-- Bytes, and behind them a word's. -/
def withWord (zs : List Int) (x : Int) : List Int := zs ++ [x % 256, x / 256 % 256, x / 65536 % 256, x / 16777216]
theorem withWord_map (zs : List Int) (x : Int) : zs.map (Value.int .u8) ++ quad x = (withWord zs x).map (Value.int .u8) := by
  simp [withWord, quad]

set_option maxHeartbeats 4000000 in
theorem wordTells_main (v0 : Value) (n0 : Nat) (z0 : List Int) (a1 a2 a3 : Int) (w : World) (r0 : Row w w.heap.size 1 v0 n0 (z0.map (Value.int .u8))) (g0 : ∀ x ∈ z0, 0 ≤ x ∧ x ≤ 255)
    (w1 : 0 ≤ a1 ∧ a1 ≤ 4294967295) (h200 : n0 ≤ 200) :
    Calls Try.prog 3 #[v0, .int .u32 a1, .int .i64 a2, .int .i64 a3] w fun e w' => e = .returned (.bool true) ∧ Below w.heap.size w w' := by
  obtain ⟨A, c, rfl⟩ := r0.form
  obtain ⟨i0, hi, hz0, hz1, hz2⟩ := info_parts info_u8
  have HZ2 := Lib.hid hz2
  have G0 := Lib.hid g0
  have C1 := Lib.hid (map_oneCell .u8 z0)
  clear hz2 g0
  go_enter Try.func3, Try.ntmps3
  go_wp2_with fail
  refine (alive_any _).mono ?_; rintro e w1 ⟨rfl, hb1⟩
  have r1 := r0.below hb1
  go_wp2_with (at_builtin; refine wpList_append_row _ rfl (.const (.slice none 0 0)) (.tmp 24) 22 rfl w1.heap.size 5 i0 (.int .u8 0) 1 1 Try.underlying22 hi hz0 hz1 HZ2.out rfl (by omega) (.slice none 0 0) 0 [] rfl (World.ownsRow_nil _ _ _ _) _ _ n0 _ rfl r1 C1.out (by unfold maxLen; omega) (by omega) (Nat.le_refl _) ?_; intro v2 w2 hown2 hg2; simp only [Nat.zero_add, List.nil_append] at hown2)
  have hb2 : Below w.heap.size w w2 := hb1.grown hg2 hb1.size (fun k hk => by simp [Value.ownBlock] at hk)
  have r2 := r0.below hb2
  refine (get_row (Row.of_own hown2) G0.out a3).mono ?_; rintro e w3 ⟨rfl, k3, rfl⟩
  go_wp2_with fail
  refine (refGet_row (r2.drewN k3) G0.out a3).mono ?_; rintro e w3 ⟨rfl, k4, rfl⟩
  go_wp2_with fail
  have hbW : Below w.heap.size w (w2.drewN (k3 + k4)) := Below.drewN_ hb2 _
  have rW : Row (w2.drewN (k3 + k4)) w.heap.size 1 (.slice A n0 c) n0 (z0.map (Value.int .u8)) := r2
  generalize w2.drewN (k3 + k4) = W at *
  clear hb1 hb2 r1 r2 hown2 hg2
  have hbD : Below w.heap.size w W.drew := hbW.drew
  have rD : Row W.drew w.heap.size 1 (.slice A n0 c) n0 (z0.map (Value.int .u8)) := rW
  clear hbW rW
  have hwr : IntKind.u32.wrap a2 = a2 % 4294967296 := IntKind.wrap_u32 a2
  refine wp_region_lin [(0, true), (2, true), (3, true), (1, false), (4, true), (5, true), (6, true), (8, true), (7, false), (9, false), (10, true), (11, true), (12, true), (13, true), (15, true), (18, true), (20, true), (14, false), (16, false), (17, true), (19, false), (21, false), (22, true), (23, true), (24, true), (25, true), (26, true), (27, true), (28, true), (29, true), (30, true), (31, true), (32, true), (33, true), (34, true), (35, true)]
    (by kernel_rfl) (by kernel_rfl) rfl (by kernel_rfl) (fun x => Below w.heap.size w x) ?_
  simp only [List.map_cons, List.map_nil, List.getElem?_toArray, List.getElem?_cons_succ, List.getElem?_cons_zero]
  iterate 3 (refine lin_take (v := ?_) (by assumption) (by rfl) ?_ ?_; rotate_left; (intro x hx; (try dsimp only at hx); go_simp; try (with_reducible rfl)); (simp only [Act.put, List.setIfInBounds_toArray, List.set_cons_zero, List.set_cons_succ]))
  refine lin_call (by assumption) (by rfl) (fun K hK => ?_)
  go_simp
  refine (of_any _ _).mono ?_
  rintro e w' ⟨rfl, rfl⟩
  go_wp2_with fail
  refine hK.out _ _ (by assumption) (fun _ => ?_)
  clear hK K
  try simp only [Act.put, List.setIfInBounds_toArray, List.set_cons_zero, List.set_cons_succ]
  iterate 4 (refine lin_take (v := ?_) (by assumption) (by rfl) ?_ ?_; rotate_left; (intro x hx; (try dsimp only at hx); go_simp; try (with_reducible rfl)); (simp only [Act.put, List.setIfInBounds_toArray, List.set_cons_zero, List.set_cons_succ]))
  refine lin_call (by assumption) (by rfl) (fun K hK => ?_)
  go_simp
  refine (int_any _ _ (by omega) (by omega)).mono ?_
  rintro e w' ⟨rfl, rfl⟩
  go_wp2_with fail
  refine hK.out _ _ (by assumption) (fun _ => ?_)
  clear hK K
  try simp only [Act.put, List.setIfInBounds_toArray, List.set_cons_zero, List.set_cons_succ]
  refine lin_call (by assumption) (by rfl) (fun K hK => ?_)
  go_simp
  refine (refInt_any _ _ (by omega) (by omega)).mono ?_
  rintro e w' ⟨rfl, rfl⟩
  go_wp2_with fail
  refine hK.out _ _ (by assumption) (fun _ => ?_)
  clear hK K
  try simp only [Act.put, List.setIfInBounds_toArray, List.set_cons_zero, List.set_cons_succ]
  iterate 7 (refine lin_take (v := ?_) (by assumption) (by rfl) ?_ ?_; rotate_left; (intro x hx; (try dsimp only at hx); go_simp; try (with_reducible rfl)); (simp only [Act.put, List.setIfInBounds_toArray, List.set_cons_zero, List.set_cons_succ]))
  refine lin_call (by assumption) (by rfl) (fun K hK => ?_)
  refine wp_append_row _ (.const (.slice none 0 0)) (.tmp 49) 22 rfl W.heap.size 5 i0 (.int .u8 0) 1 1 Try.underlying22 hi hz0 hz1 HZ2.out rfl (by omega) (.slice none 0 0) 0 [] rfl (World.ownsRow_nil _ _ _ _) _ (.slice A n0 c) n0 _ rfl (rD) C1.out (by unfold maxLen; omega) (by omega) (Nat.le_refl _) ?_
  intro v5 w5 hown5 hg5
  simp only [Nat.zero_add, List.nil_append] at hown5
  have hb5 : Below w.heap.size w w5 := hbD.grown hg5 hbD.size (fun k hk => by simp [Value.ownBlock] at hk)
  refine hK.out _ _ (by assumption) (fun _ => ?_)
  clear hK K
  try simp only [Act.put, List.setIfInBounds_toArray, List.set_cons_zero, List.set_cons_succ]
  refine lin_call (by assumption) (by rfl) (fun K hK => ?_)
  go_simp
  refine (put_any a1 (by omega) (by omega) (Row.of_own hown5) C1.out (by omega)).mono ?_
  rintro e w6 ⟨rfl, hown6, hb6⟩
  have hB6 : Below w.heap.size w w6 := hb5.trans (hb6.mono hb5.size)
  rw [withWord_map] at hown6
  go_wp2_with fail
  refine hK.out _ _ (by assumption) (fun _ => ?_)
  clear hK K
  try simp only [Act.put, List.setIfInBounds_toArray, List.set_cons_zero, List.set_cons_succ]
  have cv6 := conv_row (P := Try.prog) w6 22 5 Try.underlying22 Try.underlying5 (Row.of_own hown6)
  have hS6 : (fun x => Below w.heap.size w x ∧ (∀ dst, Try.prog.underlying dst = some .string → (convert 22 dst (Value.slice (some ⟨w5.heap.size, 0, none⟩) (n0 + 4) (n0 + 4))).run Try.prog x = .ok (.string (strOfNums (withWord z0 a1))) x)) w6 := ⟨hB6, cv6⟩
  clear cv6
  refine lin_more (S' := fun x => Below w.heap.size w x ∧ (∀ dst, Try.prog.underlying dst = some .string → (convert 22 dst (Value.slice (some ⟨w5.heap.size, 0, none⟩) (n0 + 4) (n0 + 4))).run Try.prog x = .ok (.string (strOfNums (withWord z0 a1))) x)) (fun _ h => h.1) ?_
  (refine lin_take (v := ?_) (by assumption) (by rfl) ?_ ?_; rotate_left; (intro x hx; (try dsimp only at hx); go_simp; try (with_reducible rfl)); (simp only [Act.put, List.setIfInBounds_toArray, List.set_cons_zero, List.set_cons_succ]))
  refine lin_call (by assumption) (by rfl) (fun K hK => ?_)
  refine wp_append_row _ (.const (.slice none 0 0)) (.tmp 54) 22 rfl w6.heap.size 5 i0 (.int .u8 0) 1 1 Try.underlying22 hi hz0 hz1 HZ2.out rfl (by omega) (.slice none 0 0) 0 [] rfl (World.ownsRow_nil _ _ _ _) _ (.slice A n0 c) n0 _ rfl (r0.below hB6) C1.out (by unfold maxLen; omega) (by omega) (Nat.le_refl _) ?_
  intro v7 w7 hown7 hg7
  simp only [Nat.zero_add, List.nil_append] at hown7
  have hb7 : Below w6.heap.size w6 w7 := (Below.refl _ _).grown hg7 (Nat.le_refl _) (fun k hk => by simp [Value.ownBlock] at hk)
  have hB7 : Below w.heap.size w w7 := hB6.trans (hb7.mono hB6.size)
  have hS7 : (fun x => Below w.heap.size w x ∧ (∀ dst, Try.prog.underlying dst = some .string → (convert 22 dst (Value.slice (some ⟨w5.heap.size, 0, none⟩) (n0 + 4) (n0 + 4))).run Try.prog x = .ok (.string (strOfNums (withWord z0 a1))) x)) w7 := ⟨hB7, conv_row (P := Try.prog) w7 22 5 Try.underlying22 Try.underlying5 ((Row.of_own hown6).below hb7)⟩
  refine hK.out _ _ (by assumption) (fun _ => ?_)
  clear hK K
  try simp only [Act.put, List.setIfInBounds_toArray, List.set_cons_zero, List.set_cons_succ]
  refine lin_call (by assumption) (by rfl) (fun K hK => ?_)
  go_simp
  refine (refPut_any a1 (by omega) (by omega) hown7 hb7.size (by omega)).mono ?_
  rintro e w8 ⟨v8, rfl, hown8, hb8⟩
  have hB8 : Below w.heap.size w w8 := hB7.trans (hb8.mono hB6.size)
  rw [withWord_map] at hown8
  have hS8 : (fun x => Below w.heap.size w x ∧ (∀ dst, Try.prog.underlying dst = some .string → (convert 22 dst (Value.slice (some ⟨w5.heap.size, 0, none⟩) (n0 + 4) (n0 + 4))).run Try.prog x = .ok (.string (strOfNums (withWord z0 a1))) x)) w8 := ⟨hB8, conv_row (P := Try.prog) w8 22 5 Try.underlying22 Try.underlying5 ((Row.of_own hown6).below (hb7.trans hb8))⟩
  go_wp2_with fail
  refine hK.out _ _ (by assumption) (fun _ => ?_)
  clear hK K
  try simp only [Act.put, List.setIfInBounds_toArray, List.set_cons_zero, List.set_cons_succ]
  have hS9 : (fun x => (Below w.heap.size w x ∧ (∀ dst, Try.prog.underlying dst = some .string → (convert 22 dst (Value.slice (some ⟨w5.heap.size, 0, none⟩) (n0 + 4) (n0 + 4))).run Try.prog x = .ok (.string (strOfNums (withWord z0 a1))) x)) ∧ (∀ dst, Try.prog.underlying dst = some .string → (convert 22 dst (v8)).run Try.prog x = .ok (.string (strOfNums (withWord z0 a1))) x)) w8 := ⟨hS8, conv_row (P := Try.prog) w8 22 5 Try.underlying22 Try.underlying5 (Row.of_own hown8)⟩
  refine lin_more (S' := fun x => (Below w.heap.size w x ∧ (∀ dst, Try.prog.underlying dst = some .string → (convert 22 dst (Value.slice (some ⟨w5.heap.size, 0, none⟩) (n0 + 4) (n0 + 4))).run Try.prog x = .ok (.string (strOfNums (withWord z0 a1))) x)) ∧ (∀ dst, Try.prog.underlying dst = some .string → (convert 22 dst (v8)).run Try.prog x = .ok (.string (strOfNums (withWord z0 a1))) x)) (fun _ h => h.1) ?_
  iterate 14 (refine lin_take (v := ?_) (by assumption) (by rfl) ?_ ?_; rotate_left; (intro x hx; (try dsimp only at hx); go_simp; try (with_reducible rfl)); (simp only [Act.put, List.setIfInBounds_toArray, List.set_cons_zero, List.set_cons_succ]))
  refine lin_done ?_
  go_wp2_with fail
  go_ret
  exact ⟨rfl, by assumption⟩

theorem wordTells_walk (v0 : Value) (n0 : Nat) (z0 : List Int) (a1 a2 a3 : Int) (w : World) (r0 : Row w w.heap.size 1 v0 n0 (z0.map (Value.int .u8))) (g0 : ∀ x ∈ z0, 0 ≤ x ∧ x ≤ 255)
    (w1 : 0 ≤ a1 ∧ a1 ≤ 4294967295) (_w2 : -9223372036854775808 ≤ a2 ∧ a2 ≤ 9223372036854775807) (_w3 : -9223372036854775808 ≤ a3 ∧ a3 ≤ 9223372036854775807) :
    Calls Try.prog 3 #[v0, .int .u32 a1, .int .i64 a2, .int .i64 a3] w fun e w' => e = .returned (.bool true) ∧ Below w.heap.size w w' := by
  by_cases h200 : n0 ≤ 200
  · exact wordTells_main v0 n0 z0 a1 a2 a3 w r0 g0 w1 h200
  · have hgt : 200 < n0 := by omega
    obtain ⟨A, c, rfl⟩ := r0.form
    have hcap := r0.cap
    go_enter Try.func3, Try.ntmps3
    go_wp2_with fail
    refine (alive_any _).mono ?_; rintro e w1 ⟨rfl, hb⟩
    go_wp2_with fail
    go_ret
    exact ⟨rfl, hb⟩
end Go.Proofs.Ytkeoccgpleefaaa.Words

/- The walk of the law IsaReads: what an instruction reads are its A and B, as far as it has them, but 0, and what it writes is its D. -/
import Derived.Test.YtdggakpjfknncaaIsaTells
namespace Go.Proofs.Ytdggakpjfknncaa.Words
open Go.RowKit

set_option maxHeartbeats 1000000 in
theorem isaReads_no (i : Ins) (w : World) (h : rightB i = false) :
    Calls Try.prog 9 #[.agg #[.int .i64 i.op, .int .i64 i.d, .int .i64 i.a, .int .i64 i.b, .int .i64 i.imm]] w fun e w' => e = .returned (.bool true) ∧ Below w.heap.size w w' := by
  go_enter Try.func9, Try.ntmps9
  go_wp2_with fail
  refine (alive_any _).mono ?_; rintro e w1 ⟨rfl, hb1⟩
  obtain ⟨hc1, hf1⟩ := bcell hb1
  have hz1 : w.heap.size < w1.heap.size := by have := hb1.size; simp at this; omega
  have hB1 : Below w.heap.size w w1 := ((Below.refl w.heap.size w).alloc (Nat.le_refl _) _).trans (hb1.mono (by simp))
  go_wp2_with fail
  refine (reads_any i _).mono ?_; rintro e w2 ⟨v2, rfl, r2, hb2⟩
  rw [readsZ_no h] at r2
  obtain ⟨A2, c2, rfl⟩ := r2.form
  obtain ⟨hc2, hf2⟩ := bcell hb2
  have hz2 : w.heap.size < w2.heap.size := by have := hb2.size; omega
  have hB2 := hB1.trans (hb2.mono (Nat.le_of_lt hz1))
  go_wp2_with fail
  refine (rightIns_any i _).mono ?_; rintro e w3 ⟨rfl, hb3⟩
  rw [h]
  obtain ⟨hc3, hf3⟩ := bcell hb3
  have hz3 : w.heap.size < w3.heap.size := by have := hb3.size; omega
  have hB3 := hB2.trans (hb3.mono (Nat.le_of_lt hz2))
  go_wp2_with fail
  refine (writes_any i _).mono ?_; rintro e w4 ⟨rfl, hb4⟩
  rw [writesZ_no h]
  go_wp2_with fail
  go_ret
  exact ⟨rfl, hB3.trans (hb4.mono (Nat.le_of_lt hz3))⟩

set_option maxHeartbeats 4000000 in
theorem isaReads_00L (i : Ins) (w : World) (h : rightB i = true) (ha : i.a = 0) (hb : i.b = 0) (hform : formZ i.op = 1 ∨ formZ i.op = 2 ∨ formZ i.op = 3 ∨ formZ i.op = 4) :
    Calls Try.prog 9 #[.agg #[.int .i64 i.op, .int .i64 i.d, .int .i64 i.a, .int .i64 i.b, .int .i64 i.imm]] w fun e w' => e = .returned (.bool true) ∧ Below w.heap.size w w' := by
  have hl := Lib.hid (show readsZ i = [] by rw [readsZ_yes h]; simp [ha, hb])
  have HR := Lib.hid h
  have ha' : ¬ 0 < i.a := by omega
  have hb' : ¬ 0 < i.b := by omega
  obtain ⟨i0, hi, hz0, hz1, hz2⟩ := info_parts info_int
  have HZ := Lib.hid hz2
  have HWR := Lib.hid (writesZ_yes h)
  clear hz2 h ha hb
  rcases hform with hform | hform | hform | hform
  all_goals
    have HF := Lib.hid hform
    clear hform
    go_enter Try.func9, Try.ntmps9
    go_wp2_with fail
    refine (alive_any _).mono ?_; rintro e w1 ⟨rfl, hb1⟩
    obtain ⟨hc1, hf1⟩ := bcell hb1
    have hz1 : w.heap.size < w1.heap.size := by have := hb1.size; simp at this; omega
    have hB1 : Below w.heap.size w w1 := ((Below.refl w.heap.size w).alloc (Nat.le_refl _) _).trans (hb1.mono (by simp))
    go_wp2_with fail
    refine (reads_any i _).mono ?_; rintro e w2 ⟨v2, rfl, r2, hb2⟩
    rw [hl.out] at r2
    obtain ⟨hc2, hf2⟩ := bcell hb2
    have hz2 : w.heap.size < w2.heap.size := by have := hb2.size; omega
    have hB2 := hB1.trans (hb2.mono (Nat.le_of_lt hz1))
    go_wp2_with fail
    refine (rightIns_any i _).mono ?_; rintro e w3 ⟨rfl, hb3⟩
    rw [HR.out]
    obtain ⟨hc3, hf3⟩ := bcell hb3
    have hz3 : w.heap.size < w3.heap.size := by have := hb3.size; omega
    have hB3 := hB2.trans (hb3.mono (Nat.le_of_lt hz2))
    have c0 : w3.cell? ⟨w.heap.size, 0, none⟩ = some (.int .i64 i.op) := by rw [hc3 _ _ hz2, hc2 _ _ hz1, hc1 _ _ (by simp)]; go_simp
    have c1 : w3.cell? ⟨w.heap.size, 1, none⟩ = some (.int .i64 i.d) := by rw [hc3 _ _ hz2, hc2 _ _ hz1, hc1 _ _ (by simp)]; go_simp
    have c2 : w3.cell? ⟨w.heap.size, 2, none⟩ = some (.int .i64 i.a) := by rw [hc3 _ _ hz2, hc2 _ _ hz1, hc1 _ _ (by simp)]; go_simp
    have c3 : w3.cell? ⟨w.heap.size, 3, none⟩ = some (.int .i64 i.b) := by rw [hc3 _ _ hz2, hc2 _ _ hz1, hc1 _ _ (by simp)]; go_simp
    have c4 : w3.cell? ⟨w.heap.size, 4, none⟩ = some (.int .i64 i.imm) := by rw [hc3 _ _ hz2, hc2 _ _ hz1, hc1 _ _ (by simp)]; go_simp
    have r3 := (r2.below hb3).more hb3.size
    have R3 := Lib.hid r3
    have B3 := Lib.hid hB3
    clear hc1 hf1 hc2 hf2 hc3 hf3 hb1 hb2 hb3 hB1 hB2 r2 r3 hz1 hz2
    go_wp2_with fail
    refine (form_any i.op _).mono ?_; rintro e w4 ⟨rfl, rfl⟩
    rw [HF.out]
    go_wp2_with fail
    have hKW := Below.refl w3.heap.size w3
    have r5 : Row w3 w3.heap.size 1 (.slice none 0 0) ([] : List Int).length (([] : List Int).map (Value.int .i64)) := Row.nil _ _ _
    have pW := hz3
    have r2 := R3.out.below hKW
    have hBD : Below w.heap.size w w3.drew := (B3.out.trans (hKW.mono (Nat.le_of_lt hz3))).drew
    have C0 : ∀ y, Kept w3.drew y → y.cell? ⟨w.heap.size, 0, none⟩ = some (.int .i64 i.op) := fun y h => h.cell pW c0
    have C1 : ∀ y, Kept w3.drew y → y.cell? ⟨w.heap.size, 1, none⟩ = some (.int .i64 i.d) := fun y h => h.cell pW c1
    have C2 : ∀ y, Kept w3.drew y → y.cell? ⟨w.heap.size, 2, none⟩ = some (.int .i64 i.a) := fun y h => h.cell pW c2
    have C3 : ∀ y, Kept w3.drew y → y.cell? ⟨w.heap.size, 3, none⟩ = some (.int .i64 i.b) := fun y h => h.cell pW c3
    have C4 : ∀ y, Kept w3.drew y → y.cell? ⟨w.heap.size, 4, none⟩ = some (.int .i64 i.imm) := fun y h => h.cell pW c4
    have k6 := Kept.refl w3.drew
    have r2 := r2.drew
    have r5 := r5.drew
    refine wp_region_lin [(0, true), (1, true), (2, false), (3, true), (4, true), (6, true), (7, true), (5, false), (8, true), (9, true), (10, true), (11, true), (12, true), (13, true), (14, true), (15, true), (16, true), (17, true), (18, true), (19, true)]
      (by kernel_rfl) (by kernel_rfl) rfl (by kernel_rfl) (Kept w3.drew) ?_
    simp only [List.map_cons, List.map_nil, List.getElem?_toArray, List.getElem?_cons_succ, List.getElem?_cons_zero]
    generalize w3.drew = WD at *
    iterate 2 (refine lin_take (v := ?_) (by assumption) (by rfl) ?_ ?_; rotate_left; (intro x hx; (try dsimp only at hx); go_simp; try (with_reducible rfl)); (simp only [Act.put, List.setIfInBounds_toArray, List.set_cons_zero, List.set_cons_succ]))
    refine lin_call (by assumption) (by rfl) (fun K hK => ?_)
    go_simp
    refine (same_yes r2 r5).mono ?_
    rintro e w11 ⟨rfl, k, rfl⟩
    have k11 := k6.drewN k
    go_wp2_with fail
    refine hK.out _ _ (by assumption) (fun _ => ?_)
    clear hK K
    try simp only [Act.put, List.setIfInBounds_toArray, List.set_cons_zero, List.set_cons_succ]
    iterate 4 (refine lin_take (v := ?_) (by assumption) (by rfl) ?_ ?_; rotate_left; (intro x hx; (try dsimp only at hx); go_simp; try (with_reducible rfl)); (simp only [Act.put, List.setIfInBounds_toArray, List.set_cons_zero, List.set_cons_succ]))
    refine lin_call (by assumption) (by rfl) (fun K hK => ?_)
    go_simp
    refine (writes_any i _).mono ?_
    rintro e w12 ⟨rfl, hb12⟩
    have k12 := k11.to hb12
    rw [HWR.out]
    go_wp2_with fail
    refine hK.out _ _ (by assumption) (fun _ => ?_)
    clear hK K
    try simp only [Act.put, List.setIfInBounds_toArray, List.set_cons_zero, List.set_cons_succ]
    iterate 6 (refine lin_take (v := ?_) (by assumption) (by rfl) ?_ ?_; rotate_left; (intro x hx; (try dsimp only at hx); go_simp; try (with_reducible rfl)); (simp only [Act.put, List.setIfInBounds_toArray, List.set_cons_zero, List.set_cons_succ]))
    iterate 3 (refine lin_skip (by assumption) (by rfl) ?_; (simp only [Act.put, List.setIfInBounds_toArray, List.set_cons_zero, List.set_cons_succ]))
    iterate 3 (refine lin_take (v := ?_) (by assumption) (by rfl) ?_ ?_; rotate_left; (intro x hx; (try dsimp only at hx); go_simp; try (with_reducible rfl)); (simp only [Act.put, List.setIfInBounds_toArray, List.set_cons_zero, List.set_cons_succ]))
    refine lin_done ?_
    go_wp2_with fail
    go_ret
    exact ⟨rfl, hBD.trans (Below.mono k12 hBD.size)⟩

set_option maxHeartbeats 4000000 in
theorem isaReads_01L (i : Ins) (w : World) (h : rightB i = true) (ha : i.a = 0) (hb : 0 < i.b) (hform : formZ i.op = 1) :
    Calls Try.prog 9 #[.agg #[.int .i64 i.op, .int .i64 i.d, .int .i64 i.a, .int .i64 i.b, .int .i64 i.imm]] w fun e w' => e = .returned (.bool true) ∧ Below w.heap.size w w' := by
  have hl := Lib.hid (show readsZ i = [i.b] by rw [readsZ_yes h]; simp [ha, show i.b ≠ 0 by omega])
  have HR := Lib.hid h
  have ha' : ¬ 0 < i.a := by omega
  have hb' : ¬ i.b ≤ 0 := by omega
  obtain ⟨i0, hi, hz0, hz1, hz2⟩ := info_parts info_int
  have HZ := Lib.hid hz2
  have HWR := Lib.hid (writesZ_yes h)
  clear hz2 h ha
  rcases hform with hform
  all_goals
    have HF := Lib.hid hform
    clear hform
    go_enter Try.func9, Try.ntmps9
    go_wp2_with fail
    refine (alive_any _).mono ?_; rintro e w1 ⟨rfl, hb1⟩
    obtain ⟨hc1, hf1⟩ := bcell hb1
    have hz1 : w.heap.size < w1.heap.size := by have := hb1.size; simp at this; omega
    have hB1 : Below w.heap.size w w1 := ((Below.refl w.heap.size w).alloc (Nat.le_refl _) _).trans (hb1.mono (by simp))
    go_wp2_with fail
    refine (reads_any i _).mono ?_; rintro e w2 ⟨v2, rfl, r2, hb2⟩
    rw [hl.out] at r2
    obtain ⟨hc2, hf2⟩ := bcell hb2
    have hz2 : w.heap.size < w2.heap.size := by have := hb2.size; omega
    have hB2 := hB1.trans (hb2.mono (Nat.le_of_lt hz1))
    go_wp2_with fail
    refine (rightIns_any i _).mono ?_; rintro e w3 ⟨rfl, hb3⟩
    rw [HR.out]
    obtain ⟨hc3, hf3⟩ := bcell hb3
    have hz3 : w.heap.size < w3.heap.size := by have := hb3.size; omega
    have hB3 := hB2.trans (hb3.mono (Nat.le_of_lt hz2))
    have c0 : w3.cell? ⟨w.heap.size, 0, none⟩ = some (.int .i64 i.op) := by rw [hc3 _ _ hz2, hc2 _ _ hz1, hc1 _ _ (by simp)]; go_simp
    have c1 : w3.cell? ⟨w.heap.size, 1, none⟩ = some (.int .i64 i.d) := by rw [hc3 _ _ hz2, hc2 _ _ hz1, hc1 _ _ (by simp)]; go_simp
    have c2 : w3.cell? ⟨w.heap.size, 2, none⟩ = some (.int .i64 i.a) := by rw [hc3 _ _ hz2, hc2 _ _ hz1, hc1 _ _ (by simp)]; go_simp
    have c3 : w3.cell? ⟨w.heap.size, 3, none⟩ = some (.int .i64 i.b) := by rw [hc3 _ _ hz2, hc2 _ _ hz1, hc1 _ _ (by simp)]; go_simp
    have c4 : w3.cell? ⟨w.heap.size, 4, none⟩ = some (.int .i64 i.imm) := by rw [hc3 _ _ hz2, hc2 _ _ hz1, hc1 _ _ (by simp)]; go_simp
    have r3 := (r2.below hb3).more hb3.size
    have R3 := Lib.hid r3
    have B3 := Lib.hid hB3
    clear hc1 hf1 hc2 hf2 hc3 hf3 hb1 hb2 hb3 hB1 hB2 r2 r3 hz1 hz2
    go_wp2_with fail
    refine (form_any i.op _).mono ?_; rintro e w4 ⟨rfl, rfl⟩
    rw [HF.out]
    go_wp2_with (at_builtin; refine wpList_append_own _ rfl (.tmp 58) (.tmp 61) 33 rfl w3.heap.size 3 i0 (.int .i64 0) 1 8 Try.underlying33 hi hz0 hz1 HZ.out rfl (by omega) (.slice none 0 0) 0 [] rfl (World.ownsRow_nil _ _ _ _) ⟨w3.heap.size, 0, none⟩ 1 1 [.int .i64 i.b] rfl rfl (new_cells w3 _ _ _ rfl) (one_int _) (by unfold maxLen; omega) (by omega) (by simp <;> omega) ?_; intro v5 w5 hown5 hg5 _; simp only [Nat.zero_add, List.nil_append] at hown5; have HK5 := Lib.hid (((Below.refl w3.heap.size w3).alloc (by omega) _).grown hg5 (by simp <;> omega) (fun k hk => (own_none k hk).elim)); have hsz5 := grown_size hg5; have c05 := (grown_cell hg5 0 hz3 own_not).trans c0; have c15 := (grown_cell hg5 1 hz3 own_not).trans c1; have c25 := (grown_cell hg5 2 hz3 own_not).trans c2; have c35 := (grown_cell hg5 3 hz3 own_not).trans c3; have c45 := (grown_cell hg5 4 hz3 own_not).trans c4)
    have hKW := HK5.out
    have r5 : Row w5 w5.heap.size 1 v5 [i.b].length ([i.b].map (Value.int .i64)) := Row.of_own hown5
    have pW : w.heap.size < w5.heap.size := by omega
    have r2 := R3.out.below hKW
    have hBD : Below w.heap.size w w5.drew := (B3.out.trans (hKW.mono (Nat.le_of_lt hz3))).drew
    have C0 : ∀ y, Kept w5.drew y → y.cell? ⟨w.heap.size, 0, none⟩ = some (.int .i64 i.op) := fun y h => h.cell pW c05
    have C1 : ∀ y, Kept w5.drew y → y.cell? ⟨w.heap.size, 1, none⟩ = some (.int .i64 i.d) := fun y h => h.cell pW c15
    have C2 : ∀ y, Kept w5.drew y → y.cell? ⟨w.heap.size, 2, none⟩ = some (.int .i64 i.a) := fun y h => h.cell pW c25
    have C3 : ∀ y, Kept w5.drew y → y.cell? ⟨w.heap.size, 3, none⟩ = some (.int .i64 i.b) := fun y h => h.cell pW c35
    have C4 : ∀ y, Kept w5.drew y → y.cell? ⟨w.heap.size, 4, none⟩ = some (.int .i64 i.imm) := fun y h => h.cell pW c45
    have k6 := Kept.refl w5.drew
    have r2 := r2.drew
    have r5 := r5.drew
    refine wp_region_lin [(0, true), (1, true), (2, false), (3, true), (4, true), (6, true), (7, true), (5, false), (8, true), (9, true), (10, true), (11, true), (12, true), (13, true), (14, true), (15, true), (16, true), (17, true), (18, true), (19, true)]
      (by kernel_rfl) (by kernel_rfl) rfl (by kernel_rfl) (Kept w5.drew) ?_
    simp only [List.map_cons, List.map_nil, List.getElem?_toArray, List.getElem?_cons_succ, List.getElem?_cons_zero]
    generalize w5.drew = WD at *
    iterate 2 (refine lin_take (v := ?_) (by assumption) (by rfl) ?_ ?_; rotate_left; (intro x hx; (try dsimp only at hx); go_simp; try (with_reducible rfl)); (simp only [Act.put, List.setIfInBounds_toArray, List.set_cons_zero, List.set_cons_succ]))
    refine lin_call (by assumption) (by rfl) (fun K hK => ?_)
    go_simp
    refine (same_yes r2 r5).mono ?_
    rintro e w11 ⟨rfl, k, rfl⟩
    have k11 := k6.drewN k
    go_wp2_with fail
    refine hK.out _ _ (by assumption) (fun _ => ?_)
    clear hK K
    try simp only [Act.put, List.setIfInBounds_toArray, List.set_cons_zero, List.set_cons_succ]
    iterate 4 (refine lin_take (v := ?_) (by assumption) (by rfl) ?_ ?_; rotate_left; (intro x hx; (try dsimp only at hx); go_simp; try (with_reducible rfl)); (simp only [Act.put, List.setIfInBounds_toArray, List.set_cons_zero, List.set_cons_succ]))
    refine lin_call (by assumption) (by rfl) (fun K hK => ?_)
    go_simp
    refine (writes_any i _).mono ?_
    rintro e w12 ⟨rfl, hb12⟩
    have k12 := k11.to hb12
    rw [HWR.out]
    go_wp2_with fail
    refine hK.out _ _ (by assumption) (fun _ => ?_)
    clear hK K
    try simp only [Act.put, List.setIfInBounds_toArray, List.set_cons_zero, List.set_cons_succ]
    iterate 6 (refine lin_take (v := ?_) (by assumption) (by rfl) ?_ ?_; rotate_left; (intro x hx; (try dsimp only at hx); go_simp; try (with_reducible rfl)); (simp only [Act.put, List.setIfInBounds_toArray, List.set_cons_zero, List.set_cons_succ]))
    iterate 3 (refine lin_skip (by assumption) (by rfl) ?_; (simp only [Act.put, List.setIfInBounds_toArray, List.set_cons_zero, List.set_cons_succ]))
    iterate 3 (refine lin_take (v := ?_) (by assumption) (by rfl) ?_ ?_; rotate_left; (intro x hx; (try dsimp only at hx); go_simp; try (with_reducible rfl)); (simp only [Act.put, List.setIfInBounds_toArray, List.set_cons_zero, List.set_cons_succ]))
    refine lin_done ?_
    go_wp2_with fail
    go_ret
    exact ⟨rfl, hBD.trans (Below.mono k12 hBD.size)⟩

set_option maxHeartbeats 4000000 in
theorem isaReads_10L (i : Ins) (w : World) (h : rightB i = true) (ha : 0 < i.a) (hb : i.b = 0) (hform : formZ i.op = 1 ∨ formZ i.op = 2 ∨ formZ i.op = 4) :
    Calls Try.prog 9 #[.agg #[.int .i64 i.op, .int .i64 i.d, .int .i64 i.a, .int .i64 i.b, .int .i64 i.imm]] w fun e w' => e = .returned (.bool true) ∧ Below w.heap.size w w' := by
  have hl := Lib.hid (show readsZ i = [i.a] by rw [readsZ_yes h]; simp [show i.a ≠ 0 by omega, hb])
  have HR := Lib.hid h
  have ha' : ¬ i.a ≤ 0 := by omega
  have hb' : ¬ 0 < i.b := by omega
  obtain ⟨i0, hi, hz0, hz1, hz2⟩ := info_parts info_int
  have HZ := Lib.hid hz2
  have HWR := Lib.hid (writesZ_yes h)
  clear hz2 h hb
  rcases hform with hform | hform | hform
  all_goals
    have HF := Lib.hid hform
    clear hform
    go_enter Try.func9, Try.ntmps9
    go_wp2_with fail
    refine (alive_any _).mono ?_; rintro e w1 ⟨rfl, hb1⟩
    obtain ⟨hc1, hf1⟩ := bcell hb1
    have hz1 : w.heap.size < w1.heap.size := by have := hb1.size; simp at this; omega
    have hB1 : Below w.heap.size w w1 := ((Below.refl w.heap.size w).alloc (Nat.le_refl _) _).trans (hb1.mono (by simp))
    go_wp2_with fail
    refine (reads_any i _).mono ?_; rintro e w2 ⟨v2, rfl, r2, hb2⟩
    rw [hl.out] at r2
    obtain ⟨hc2, hf2⟩ := bcell hb2
    have hz2 : w.heap.size < w2.heap.size := by have := hb2.size; omega
    have hB2 := hB1.trans (hb2.mono (Nat.le_of_lt hz1))
    go_wp2_with fail
    refine (rightIns_any i _).mono ?_; rintro e w3 ⟨rfl, hb3⟩
    rw [HR.out]
    obtain ⟨hc3, hf3⟩ := bcell hb3
    have hz3 : w.heap.size < w3.heap.size := by have := hb3.size; omega
    have hB3 := hB2.trans (hb3.mono (Nat.le_of_lt hz2))
    have c0 : w3.cell? ⟨w.heap.size, 0, none⟩ = some (.int .i64 i.op) := by rw [hc3 _ _ hz2, hc2 _ _ hz1, hc1 _ _ (by simp)]; go_simp
    have c1 : w3.cell? ⟨w.heap.size, 1, none⟩ = some (.int .i64 i.d) := by rw [hc3 _ _ hz2, hc2 _ _ hz1, hc1 _ _ (by simp)]; go_simp
    have c2 : w3.cell? ⟨w.heap.size, 2, none⟩ = some (.int .i64 i.a) := by rw [hc3 _ _ hz2, hc2 _ _ hz1, hc1 _ _ (by simp)]; go_simp
    have c3 : w3.cell? ⟨w.heap.size, 3, none⟩ = some (.int .i64 i.b) := by rw [hc3 _ _ hz2, hc2 _ _ hz1, hc1 _ _ (by simp)]; go_simp
    have c4 : w3.cell? ⟨w.heap.size, 4, none⟩ = some (.int .i64 i.imm) := by rw [hc3 _ _ hz2, hc2 _ _ hz1, hc1 _ _ (by simp)]; go_simp
    have r3 := (r2.below hb3).more hb3.size
    have R3 := Lib.hid r3
    have B3 := Lib.hid hB3
    clear hc1 hf1 hc2 hf2 hc3 hf3 hb1 hb2 hb3 hB1 hB2 r2 r3 hz1 hz2
    go_wp2_with fail
    refine (form_any i.op _).mono ?_; rintro e w4 ⟨rfl, rfl⟩
    rw [HF.out]
    go_wp2_with (at_builtin; refine wpList_append_own _ rfl (.tmp 38) (.tmp 41) 33 rfl w3.heap.size 3 i0 (.int .i64 0) 1 8 Try.underlying33 hi hz0 hz1 HZ.out rfl (by omega) (.slice none 0 0) 0 [] rfl (World.ownsRow_nil _ _ _ _) ⟨w3.heap.size, 0, none⟩ 1 1 [.int .i64 i.a] rfl rfl (new_cells w3 _ _ _ rfl) (one_int _) (by unfold maxLen; omega) (by omega) (by simp <;> omega) ?_; intro v5 w5 hown5 hg5 _; simp only [Nat.zero_add, List.nil_append] at hown5; have HK5 := Lib.hid (((Below.refl w3.heap.size w3).alloc (Nat.le_refl _) _).grown hg5 (by simp) (fun k hk => (own_none k hk).elim)); have hsz5 := grown_size hg5; have c05 := (grown_cell hg5 0 hz3 own_not).trans c0; have c15 := (grown_cell hg5 1 hz3 own_not).trans c1; have c25 := (grown_cell hg5 2 hz3 own_not).trans c2; have c35 := (grown_cell hg5 3 hz3 own_not).trans c3; have c45 := (grown_cell hg5 4 hz3 own_not).trans c4)
    have hKW := HK5.out
    have r5 : Row w5 w5.heap.size 1 v5 [i.a].length ([i.a].map (Value.int .i64)) := Row.of_own hown5
    have pW : w.heap.size < w5.heap.size := by omega
    have r2 := R3.out.below hKW
    have hBD : Below w.heap.size w w5.drew := (B3.out.trans (hKW.mono (Nat.le_of_lt hz3))).drew
    have C0 : ∀ y, Kept w5.drew y → y.cell? ⟨w.heap.size, 0, none⟩ = some (.int .i64 i.op) := fun y h => h.cell pW c05
    have C1 : ∀ y, Kept w5.drew y → y.cell? ⟨w.heap.size, 1, none⟩ = some (.int .i64 i.d) := fun y h => h.cell pW c15
    have C2 : ∀ y, Kept w5.drew y → y.cell? ⟨w.heap.size, 2, none⟩ = some (.int .i64 i.a) := fun y h => h.cell pW c25
    have C3 : ∀ y, Kept w5.drew y → y.cell? ⟨w.heap.size, 3, none⟩ = some (.int .i64 i.b) := fun y h => h.cell pW c35
    have C4 : ∀ y, Kept w5.drew y → y.cell? ⟨w.heap.size, 4, none⟩ = some (.int .i64 i.imm) := fun y h => h.cell pW c45
    have k6 := Kept.refl w5.drew
    have r2 := r2.drew
    have r5 := r5.drew
    refine wp_region_lin [(0, true), (1, true), (2, false), (3, true), (4, true), (6, true), (7, true), (5, false), (8, true), (9, true), (10, true), (11, true), (12, true), (13, true), (14, true), (15, true), (16, true), (17, true), (18, true), (19, true)]
      (by kernel_rfl) (by kernel_rfl) rfl (by kernel_rfl) (Kept w5.drew) ?_
    simp only [List.map_cons, List.map_nil, List.getElem?_toArray, List.getElem?_cons_succ, List.getElem?_cons_zero]
    generalize w5.drew = WD at *
    iterate 2 (refine lin_take (v := ?_) (by assumption) (by rfl) ?_ ?_; rotate_left; (intro x hx; (try dsimp only at hx); go_simp; try (with_reducible rfl)); (simp only [Act.put, List.setIfInBounds_toArray, List.set_cons_zero, List.set_cons_succ]))
    refine lin_call (by assumption) (by rfl) (fun K hK => ?_)
    go_simp
    refine (same_yes r2 r5).mono ?_
    rintro e w11 ⟨rfl, k, rfl⟩
    have k11 := k6.drewN k
    go_wp2_with fail
    refine hK.out _ _ (by assumption) (fun _ => ?_)
    clear hK K
    try simp only [Act.put, List.setIfInBounds_toArray, List.set_cons_zero, List.set_cons_succ]
    iterate 4 (refine lin_take (v := ?_) (by assumption) (by rfl) ?_ ?_; rotate_left; (intro x hx; (try dsimp only at hx); go_simp; try (with_reducible rfl)); (simp only [Act.put, List.setIfInBounds_toArray, List.set_cons_zero, List.set_cons_succ]))
    refine lin_call (by assumption) (by rfl) (fun K hK => ?_)
    go_simp
    refine (writes_any i _).mono ?_
    rintro e w12 ⟨rfl, hb12⟩
    have k12 := k11.to hb12
    rw [HWR.out]
    go_wp2_with fail
    refine hK.out _ _ (by assumption) (fun _ => ?_)
    clear hK K
    try simp only [Act.put, List.setIfInBounds_toArray, List.set_cons_zero, List.set_cons_succ]
    iterate 6 (refine lin_take (v := ?_) (by assumption) (by rfl) ?_ ?_; rotate_left; (intro x hx; (try dsimp only at hx); go_simp; try (with_reducible rfl)); (simp only [Act.put, List.setIfInBounds_toArray, List.set_cons_zero, List.set_cons_succ]))
    iterate 3 (refine lin_skip (by assumption) (by rfl) ?_; (simp only [Act.put, List.setIfInBounds_toArray, List.set_cons_zero, List.set_cons_succ]))
    iterate 3 (refine lin_take (v := ?_) (by assumption) (by rfl) ?_ ?_; rotate_left; (intro x hx; (try dsimp only at hx); go_simp; try (with_reducible rfl)); (simp only [Act.put, List.setIfInBounds_toArray, List.set_cons_zero, List.set_cons_succ]))
    refine lin_done ?_
    go_wp2_with fail
    go_ret
    exact ⟨rfl, hBD.trans (Below.mono k12 hBD.size)⟩

set_option maxHeartbeats 4000000 in
theorem isaReads_11L (i : Ins) (w : World) (h : rightB i = true) (ha : 0 < i.a) (hb : 0 < i.b) (hform : formZ i.op = 1) :
    Calls Try.prog 9 #[.agg #[.int .i64 i.op, .int .i64 i.d, .int .i64 i.a, .int .i64 i.b, .int .i64 i.imm]] w fun e w' => e = .returned (.bool true) ∧ Below w.heap.size w w' := by
  have hl := Lib.hid (show readsZ i = [i.a, i.b] by rw [readsZ_yes h]; simp [show i.a ≠ 0 by omega, show i.b ≠ 0 by omega])
  have HR := Lib.hid h
  have ha' : ¬ i.a ≤ 0 := by omega
  have hb' : ¬ i.b ≤ 0 := by omega
  obtain ⟨i0, hi, hz0, hz1, hz2⟩ := info_parts info_int
  have HZ := Lib.hid hz2
  have HWR := Lib.hid (writesZ_yes h)
  clear hz2 h
  rcases hform with hform
  all_goals
    have HF := Lib.hid hform
    clear hform
    go_enter Try.func9, Try.ntmps9
    go_wp2_with fail
    refine (alive_any _).mono ?_; rintro e w1 ⟨rfl, hb1⟩
    obtain ⟨hc1, hf1⟩ := bcell hb1
    have hz1 : w.heap.size < w1.heap.size := by have := hb1.size; simp at this; omega
    have hB1 : Below w.heap.size w w1 := ((Below.refl w.heap.size w).alloc (Nat.le_refl _) _).trans (hb1.mono (by simp))
    go_wp2_with fail
    refine (reads_any i _).mono ?_; rintro e w2 ⟨v2, rfl, r2, hb2⟩
    rw [hl.out] at r2
    obtain ⟨hc2, hf2⟩ := bcell hb2
    have hz2 : w.heap.size < w2.heap.size := by have := hb2.size; omega
    have hB2 := hB1.trans (hb2.mono (Nat.le_of_lt hz1))
    go_wp2_with fail
    refine (rightIns_any i _).mono ?_; rintro e w3 ⟨rfl, hb3⟩
    rw [HR.out]
    obtain ⟨hc3, hf3⟩ := bcell hb3
    have hz3 : w.heap.size < w3.heap.size := by have := hb3.size; omega
    have hB3 := hB2.trans (hb3.mono (Nat.le_of_lt hz2))
    have c0 : w3.cell? ⟨w.heap.size, 0, none⟩ = some (.int .i64 i.op) := by rw [hc3 _ _ hz2, hc2 _ _ hz1, hc1 _ _ (by simp)]; go_simp
    have c1 : w3.cell? ⟨w.heap.size, 1, none⟩ = some (.int .i64 i.d) := by rw [hc3 _ _ hz2, hc2 _ _ hz1, hc1 _ _ (by simp)]; go_simp
    have c2 : w3.cell? ⟨w.heap.size, 2, none⟩ = some (.int .i64 i.a) := by rw [hc3 _ _ hz2, hc2 _ _ hz1, hc1 _ _ (by simp)]; go_simp
    have c3 : w3.cell? ⟨w.heap.size, 3, none⟩ = some (.int .i64 i.b) := by rw [hc3 _ _ hz2, hc2 _ _ hz1, hc1 _ _ (by simp)]; go_simp
    have c4 : w3.cell? ⟨w.heap.size, 4, none⟩ = some (.int .i64 i.imm) := by rw [hc3 _ _ hz2, hc2 _ _ hz1, hc1 _ _ (by simp)]; go_simp
    have r3 := (r2.below hb3).more hb3.size
    have R3 := Lib.hid r3
    have B3 := Lib.hid hB3
    clear hc1 hf1 hc2 hf2 hc3 hf3 hb1 hb2 hb3 hB1 hB2 r2 r3 hz1 hz2
    go_wp2_with fail
    refine (form_any i.op _).mono ?_; rintro e w4 ⟨rfl, rfl⟩
    rw [HF.out]
    go_wp2_with (first | (at_builtin; refine wpList_append_own _ rfl (.tmp 38) (.tmp 41) 33 rfl w3.heap.size 3 i0 (.int .i64 0) 1 8 Try.underlying33 hi hz0 hz1 HZ.out rfl (by omega) (.slice none 0 0) 0 [] rfl (World.ownsRow_nil _ _ _ _) ⟨w3.heap.size, 0, none⟩ 1 1 [.int .i64 i.a] rfl rfl (new_cells w3 _ _ _ rfl) (one_int _) (by unfold maxLen; omega) (by omega) (by simp <;> omega) ?_; intro v5 w5 hown5 hg5 _; simp only [Nat.zero_add, List.nil_append] at hown5; have HK5 := Lib.hid (((Below.refl w3.heap.size w3).alloc (Nat.le_refl _) _).grown hg5 (by simp) (fun k hk => (own_none k hk).elim)); have hsz5 := grown_size hg5; have c05 := (grown_cell hg5 0 hz3 own_not).trans c0; have c15 := (grown_cell hg5 1 hz3 own_not).trans c1; have c25 := (grown_cell hg5 2 hz3 own_not).trans c2; have c35 := (grown_cell hg5 3 hz3 own_not).trans c3; have c45 := (grown_cell hg5 4 hz3 own_not).trans c4; have HG := Lib.hid (fun k hk => (hown5.lt k hk).1 : ∀ k, v5.ownBlock = some k → w3.heap.size ≤ k)) | (at_builtin; refine wpList_append_own _ rfl (.tmp 58) (.tmp 61) 33 rfl w3.heap.size 3 i0 (.int .i64 0) 1 8 Try.underlying33 hi hz0 hz1 HZ.out rfl (by omega) v5 1 [.int .i64 i.a] rfl (hown5.alloc _) ⟨w5.heap.size, 0, none⟩ 1 1 [.int .i64 i.b] rfl rfl (new_cells w5 _ _ _ rfl) (one_int _) (by unfold maxLen; omega) (by omega) (by simp <;> omega) ?_; intro v6 w6 hown6 hg6 _; simp only [List.cons_append, List.nil_append] at hown6; have HK6 := Lib.hid (((HK5.out).alloc (by omega) _).grown hg6 (by simp <;> omega) HG.out); have hsz6 := grown_size hg6; have c06 := (grown_cell hg6 0 (Nat.lt_trans hz3 hsz5) (fun hh => absurd (HG.out _ hh.symm) (by omega))).trans c05; have c16 := (grown_cell hg6 1 (Nat.lt_trans hz3 hsz5) (fun hh => absurd (HG.out _ hh.symm) (by omega))).trans c15; have c26 := (grown_cell hg6 2 (Nat.lt_trans hz3 hsz5) (fun hh => absurd (HG.out _ hh.symm) (by omega))).trans c25; have c36 := (grown_cell hg6 3 (Nat.lt_trans hz3 hsz5) (fun hh => absurd (HG.out _ hh.symm) (by omega))).trans c35; have c46 := (grown_cell hg6 4 (Nat.lt_trans hz3 hsz5) (fun hh => absurd (HG.out _ hh.symm) (by omega))).trans c45))
    have hKW := HK6.out
    have r5 : Row w6 w6.heap.size 1 v6 [i.a, i.b].length ([i.a, i.b].map (Value.int .i64)) := Row.of_own hown6
    have pW : w.heap.size < w6.heap.size := by omega
    have r2 := R3.out.below hKW
    have hBD : Below w.heap.size w w6.drew := (B3.out.trans (hKW.mono (Nat.le_of_lt hz3))).drew
    have C0 : ∀ y, Kept w6.drew y → y.cell? ⟨w.heap.size, 0, none⟩ = some (.int .i64 i.op) := fun y h => h.cell pW c06
    have C1 : ∀ y, Kept w6.drew y → y.cell? ⟨w.heap.size, 1, none⟩ = some (.int .i64 i.d) := fun y h => h.cell pW c16
    have C2 : ∀ y, Kept w6.drew y → y.cell? ⟨w.heap.size, 2, none⟩ = some (.int .i64 i.a) := fun y h => h.cell pW c26
    have C3 : ∀ y, Kept w6.drew y → y.cell? ⟨w.heap.size, 3, none⟩ = some (.int .i64 i.b) := fun y h => h.cell pW c36
    have C4 : ∀ y, Kept w6.drew y → y.cell? ⟨w.heap.size, 4, none⟩ = some (.int .i64 i.imm) := fun y h => h.cell pW c46
    have k6 := Kept.refl w6.drew
    have r2 := r2.drew
    have r5 := r5.drew
    refine wp_region_lin [(0, true), (1, true), (2, false), (3, true), (4, true), (6, true), (7, true), (5, false), (8, true), (9, true), (10, true), (11, true), (12, true), (13, true), (14, true), (15, true), (16, true), (17, true), (18, true), (19, true)]
      (by kernel_rfl) (by kernel_rfl) rfl (by kernel_rfl) (Kept w6.drew) ?_
    simp only [List.map_cons, List.map_nil, List.getElem?_toArray, List.getElem?_cons_succ, List.getElem?_cons_zero]
    generalize w6.drew = WD at *
    iterate 2 (refine lin_take (v := ?_) (by assumption) (by rfl) ?_ ?_; rotate_left; (intro x hx; (try dsimp only at hx); go_simp; try (with_reducible rfl)); (simp only [Act.put, List.setIfInBounds_toArray, List.set_cons_zero, List.set_cons_succ]))
    refine lin_call (by assumption) (by rfl) (fun K hK => ?_)
    go_simp
    refine (same_yes r2 r5).mono ?_
    rintro e w11 ⟨rfl, k, rfl⟩
    have k11 := k6.drewN k
    go_wp2_with fail
    refine hK.out _ _ (by assumption) (fun _ => ?_)
    clear hK K
    try simp only [Act.put, List.setIfInBounds_toArray, List.set_cons_zero, List.set_cons_succ]
    iterate 4 (refine lin_take (v := ?_) (by assumption) (by rfl) ?_ ?_; rotate_left; (intro x hx; (try dsimp only at hx); go_simp; try (with_reducible rfl)); (simp only [Act.put, List.setIfInBounds_toArray, List.set_cons_zero, List.set_cons_succ]))
    refine lin_call (by assumption) (by rfl) (fun K hK => ?_)
    go_simp
    refine (writes_any i _).mono ?_
    rintro e w12 ⟨rfl, hb12⟩
    have k12 := k11.to hb12
    rw [HWR.out]
    go_wp2_with fail
    refine hK.out _ _ (by assumption) (fun _ => ?_)
    clear hK K
    try simp only [Act.put, List.setIfInBounds_toArray, List.set_cons_zero, List.set_cons_succ]
    iterate 6 (refine lin_take (v := ?_) (by assumption) (by rfl) ?_ ?_; rotate_left; (intro x hx; (try dsimp only at hx); go_simp; try (with_reducible rfl)); (simp only [Act.put, List.setIfInBounds_toArray, List.set_cons_zero, List.set_cons_succ]))
    iterate 3 (refine lin_skip (by assumption) (by rfl) ?_; (simp only [Act.put, List.setIfInBounds_toArray, List.set_cons_zero, List.set_cons_succ]))
    iterate 3 (refine lin_take (v := ?_) (by assumption) (by rfl) ?_ ?_; rotate_left; (intro x hx; (try dsimp only at hx); go_simp; try (with_reducible rfl)); (simp only [Act.put, List.setIfInBounds_toArray, List.set_cons_zero, List.set_cons_succ]))
    refine lin_done ?_
    go_wp2_with fail
    go_ret
    exact ⟨rfl, hBD.trans (Below.mono k12 hBD.size)⟩

set_option maxHeartbeats 4000000 in
theorem isaReads_00H (i : Ins) (w : World) (h : rightB i = true) (ha : i.a = 0) (hb : i.b = 0) (hform : formZ i.op = 5 ∨ formZ i.op = 6 ∨ formZ i.op = 7 ∨ formZ i.op = 8) (hd0 : i.d = 0) :
    Calls Try.prog 9 #[.agg #[.int .i64 i.op, .int .i64 i.d, .int .i64 i.a, .int .i64 i.b, .int .i64 i.imm]] w fun e w' => e = .returned (.bool true) ∧ Below w.heap.size w w' := by
  have hl := Lib.hid (show readsZ i = [] by rw [readsZ_yes h]; simp [ha, hb])
  have HR := Lib.hid h
  have ha' : ¬ 0 < i.a := by omega
  have hb' : ¬ 0 < i.b := by omega
  obtain ⟨i0, hi, hz0, hz1, hz2⟩ := info_parts info_int
  have HZ := Lib.hid hz2
  have HWR := Lib.hid (writesZ_yes h)
  have hd0b : (i.d == 0) = true := by simp [hd0]
  have HD0 := Lib.hid hd0
  clear hz2 h hd0 ha hb
  rcases hform with hform | hform | hform | hform
  all_goals
    have HF := Lib.hid hform
    clear hform
    go_enter Try.func9, Try.ntmps9
    go_wp2_with fail
    refine (alive_any _).mono ?_; rintro e w1 ⟨rfl, hb1⟩
    obtain ⟨hc1, hf1⟩ := bcell hb1
    have hz1 : w.heap.size < w1.heap.size := by have := hb1.size; simp at this; omega
    have hB1 : Below w.heap.size w w1 := ((Below.refl w.heap.size w).alloc (Nat.le_refl _) _).trans (hb1.mono (by simp))
    go_wp2_with fail
    refine (reads_any i _).mono ?_; rintro e w2 ⟨v2, rfl, r2, hb2⟩
    rw [hl.out] at r2
    obtain ⟨hc2, hf2⟩ := bcell hb2
    have hz2 : w.heap.size < w2.heap.size := by have := hb2.size; omega
    have hB2 := hB1.trans (hb2.mono (Nat.le_of_lt hz1))
    go_wp2_with fail
    refine (rightIns_any i _).mono ?_; rintro e w3 ⟨rfl, hb3⟩
    rw [HR.out]
    obtain ⟨hc3, hf3⟩ := bcell hb3
    have hz3 : w.heap.size < w3.heap.size := by have := hb3.size; omega
    have hB3 := hB2.trans (hb3.mono (Nat.le_of_lt hz2))
    have c0 : w3.cell? ⟨w.heap.size, 0, none⟩ = some (.int .i64 i.op) := by rw [hc3 _ _ hz2, hc2 _ _ hz1, hc1 _ _ (by simp)]; go_simp
    have c1 : w3.cell? ⟨w.heap.size, 1, none⟩ = some (.int .i64 i.d) := by rw [hc3 _ _ hz2, hc2 _ _ hz1, hc1 _ _ (by simp)]; go_simp
    have c2 : w3.cell? ⟨w.heap.size, 2, none⟩ = some (.int .i64 i.a) := by rw [hc3 _ _ hz2, hc2 _ _ hz1, hc1 _ _ (by simp)]; go_simp
    have c3 : w3.cell? ⟨w.heap.size, 3, none⟩ = some (.int .i64 i.b) := by rw [hc3 _ _ hz2, hc2 _ _ hz1, hc1 _ _ (by simp)]; go_simp
    have c4 : w3.cell? ⟨w.heap.size, 4, none⟩ = some (.int .i64 i.imm) := by rw [hc3 _ _ hz2, hc2 _ _ hz1, hc1 _ _ (by simp)]; go_simp
    have r3 := (r2.below hb3).more hb3.size
    have R3 := Lib.hid r3
    have B3 := Lib.hid hB3
    clear hc1 hf1 hc2 hf2 hc3 hf3 hb1 hb2 hb3 hB1 hB2 r2 r3 hz1 hz2
    go_wp2_with fail
    refine (form_any i.op _).mono ?_; rintro e w4 ⟨rfl, rfl⟩
    rw [HF.out]
    go_wp2_with fail
    have hKW := Below.refl w3.heap.size w3
    have r5 : Row w3 w3.heap.size 1 (.slice none 0 0) ([] : List Int).length (([] : List Int).map (Value.int .i64)) := Row.nil _ _ _
    have pW := hz3
    have r2 := R3.out.below hKW
    have hBD : Below w.heap.size w w3.drew := (B3.out.trans (hKW.mono (Nat.le_of_lt hz3))).drew
    have C0 : ∀ y, Kept w3.drew y → y.cell? ⟨w.heap.size, 0, none⟩ = some (.int .i64 i.op) := fun y h => h.cell pW c0
    have C1 : ∀ y, Kept w3.drew y → y.cell? ⟨w.heap.size, 1, none⟩ = some (.int .i64 i.d) := fun y h => h.cell pW c1
    have C2 : ∀ y, Kept w3.drew y → y.cell? ⟨w.heap.size, 2, none⟩ = some (.int .i64 i.a) := fun y h => h.cell pW c2
    have C3 : ∀ y, Kept w3.drew y → y.cell? ⟨w.heap.size, 3, none⟩ = some (.int .i64 i.b) := fun y h => h.cell pW c3
    have C4 : ∀ y, Kept w3.drew y → y.cell? ⟨w.heap.size, 4, none⟩ = some (.int .i64 i.imm) := fun y h => h.cell pW c4
    have k6 := Kept.refl w3.drew
    have r2 := r2.drew
    have r5 := r5.drew
    refine wp_region_lin [(0, true), (1, true), (2, false), (3, true), (4, true), (6, true), (7, true), (5, false), (8, true), (9, true), (10, true), (11, true), (12, true), (13, true), (14, true), (15, true), (16, true), (17, true), (18, true), (19, true)]
      (by kernel_rfl) (by kernel_rfl) rfl (by kernel_rfl) (Kept w3.drew) ?_
    simp only [List.map_cons, List.map_nil, List.getElem?_toArray, List.getElem?_cons_succ, List.getElem?_cons_zero]
    generalize w3.drew = WD at *
    iterate 2 (refine lin_take (v := ?_) (by assumption) (by rfl) ?_ ?_; rotate_left; (intro x hx; (try dsimp only at hx); go_simp; try (with_reducible rfl)); (simp only [Act.put, List.setIfInBounds_toArray, List.set_cons_zero, List.set_cons_succ]))
    refine lin_call (by assumption) (by rfl) (fun K hK => ?_)
    go_simp
    refine (same_yes r2 r5).mono ?_
    rintro e w11 ⟨rfl, k, rfl⟩
    have k11 := k6.drewN k
    go_wp2_with fail
    refine hK.out _ _ (by assumption) (fun _ => ?_)
    clear hK K
    try simp only [Act.put, List.setIfInBounds_toArray, List.set_cons_zero, List.set_cons_succ]
    iterate 4 (refine lin_take (v := ?_) (by assumption) (by rfl) ?_ ?_; rotate_left; (intro x hx; (try dsimp only at hx); go_simp; try (with_reducible rfl)); (simp only [Act.put, List.setIfInBounds_toArray, List.set_cons_zero, List.set_cons_succ]))
    refine lin_call (by assumption) (by rfl) (fun K hK => ?_)
    go_simp
    refine (writes_any i _).mono ?_
    rintro e w12 ⟨rfl, hb12⟩
    have k12 := k11.to hb12
    rw [HWR.out]
    go_wp2_with fail
    refine hK.out _ _ (by assumption) (fun _ => ?_)
    clear hK K
    try simp only [Act.put, List.setIfInBounds_toArray, List.set_cons_zero, List.set_cons_succ]
    iterate 12 (refine lin_take (v := ?_) (by assumption) (by rfl) ?_ ?_; rotate_left; (intro x hx; (try dsimp only at hx); go_simp; try (with_reducible rfl)); (simp only [Act.put, List.setIfInBounds_toArray, List.set_cons_zero, List.set_cons_succ]))
    refine lin_done ?_
    go_wp2_with fail
    go_ret
    exact ⟨rfl, hBD.trans (Below.mono k12 hBD.size)⟩

set_option maxHeartbeats 4000000 in
theorem isaReads_01H (i : Ins) (w : World) (h : rightB i = true) (ha : i.a = 0) (hb : 0 < i.b) (hform : formZ i.op = 5 ∨ formZ i.op = 6) (hd0 : i.d = 0) :
    Calls Try.prog 9 #[.agg #[.int .i64 i.op, .int .i64 i.d, .int .i64 i.a, .int .i64 i.b, .int .i64 i.imm]] w fun e w' => e = .returned (.bool true) ∧ Below w.heap.size w w' := by
  have hl := Lib.hid (show readsZ i = [i.b] by rw [readsZ_yes h]; simp [ha, show i.b ≠ 0 by omega])
  have HR := Lib.hid h
  have ha' : ¬ 0 < i.a := by omega
  have hb' : ¬ i.b ≤ 0 := by omega
  obtain ⟨i0, hi, hz0, hz1, hz2⟩ := info_parts info_int
  have HZ := Lib.hid hz2
  have HWR := Lib.hid (writesZ_yes h)
  have hd0b : (i.d == 0) = true := by simp [hd0]
  have HD0 := Lib.hid hd0
  clear hz2 h hd0 ha
  rcases hform with hform | hform
  all_goals
    have HF := Lib.hid hform
    clear hform
    go_enter Try.func9, Try.ntmps9
    go_wp2_with fail
    refine (alive_any _).mono ?_; rintro e w1 ⟨rfl, hb1⟩
    obtain ⟨hc1, hf1⟩ := bcell hb1
    have hz1 : w.heap.size < w1.heap.size := by have := hb1.size; simp at this; omega
    have hB1 : Below w.heap.size w w1 := ((Below.refl w.heap.size w).alloc (Nat.le_refl _) _).trans (hb1.mono (by simp))
    go_wp2_with fail
    refine (reads_any i _).mono ?_; rintro e w2 ⟨v2, rfl, r2, hb2⟩
    rw [hl.out] at r2
    obtain ⟨hc2, hf2⟩ := bcell hb2
    have hz2 : w.heap.size < w2.heap.size := by have := hb2.size; omega
    have hB2 := hB1.trans (hb2.mono (Nat.le_of_lt hz1))
    go_wp2_with fail
    refine (rightIns_any i _).mono ?_; rintro e w3 ⟨rfl, hb3⟩
    rw [HR.out]
    obtain ⟨hc3, hf3⟩ := bcell hb3
    have hz3 : w.heap.size < w3.heap.size := by have := hb3.size; omega
    have hB3 := hB2.trans (hb3.mono (Nat.le_of_lt hz2))
    have c0 : w3.cell? ⟨w.heap.size, 0, none⟩ = some (.int .i64 i.op) := by rw [hc3 _ _ hz2, hc2 _ _ hz1, hc1 _ _ (by simp)]; go_simp
    have c1 : w3.cell? ⟨w.heap.size, 1, none⟩ = some (.int .i64 i.d) := by rw [hc3 _ _ hz2, hc2 _ _ hz1, hc1 _ _ (by simp)]; go_simp
    have c2 : w3.cell? ⟨w.heap.size, 2, none⟩ = some (.int .i64 i.a) := by rw [hc3 _ _ hz2, hc2 _ _ hz1, hc1 _ _ (by simp)]; go_simp
    have c3 : w3.cell? ⟨w.heap.size, 3, none⟩ = some (.int .i64 i.b) := by rw [hc3 _ _ hz2, hc2 _ _ hz1, hc1 _ _ (by simp)]; go_simp
    have c4 : w3.cell? ⟨w.heap.size, 4, none⟩ = some (.int .i64 i.imm) := by rw [hc3 _ _ hz2, hc2 _ _ hz1, hc1 _ _ (by simp)]; go_simp
    have r3 := (r2.below hb3).more hb3.size
    have R3 := Lib.hid r3
    have B3 := Lib.hid hB3
    clear hc1 hf1 hc2 hf2 hc3 hf3 hb1 hb2 hb3 hB1 hB2 r2 r3 hz1 hz2
    go_wp2_with fail
    refine (form_any i.op _).mono ?_; rintro e w4 ⟨rfl, rfl⟩
    rw [HF.out]
    go_wp2_with (at_builtin; refine wpList_append_own _ rfl (.tmp 58) (.tmp 61) 33 rfl w3.heap.size 3 i0 (.int .i64 0) 1 8 Try.underlying33 hi hz0 hz1 HZ.out rfl (by omega) (.slice none 0 0) 0 [] rfl (World.ownsRow_nil _ _ _ _) ⟨w3.heap.size, 0, none⟩ 1 1 [.int .i64 i.b] rfl rfl (new_cells w3 _ _ _ rfl) (one_int _) (by unfold maxLen; omega) (by omega) (by simp <;> omega) ?_; intro v5 w5 hown5 hg5 _; simp only [Nat.zero_add, List.nil_append] at hown5; have HK5 := Lib.hid (((Below.refl w3.heap.size w3).alloc (by omega) _).grown hg5 (by simp <;> omega) (fun k hk => (own_none k hk).elim)); have hsz5 := grown_size hg5; have c05 := (grown_cell hg5 0 hz3 own_not).trans c0; have c15 := (grown_cell hg5 1 hz3 own_not).trans c1; have c25 := (grown_cell hg5 2 hz3 own_not).trans c2; have c35 := (grown_cell hg5 3 hz3 own_not).trans c3; have c45 := (grown_cell hg5 4 hz3 own_not).trans c4)
    have hKW := HK5.out
    have r5 : Row w5 w5.heap.size 1 v5 [i.b].length ([i.b].map (Value.int .i64)) := Row.of_own hown5
    have pW : w.heap.size < w5.heap.size := by omega
    have r2 := R3.out.below hKW
    have hBD : Below w.heap.size w w5.drew := (B3.out.trans (hKW.mono (Nat.le_of_lt hz3))).drew
    have C0 : ∀ y, Kept w5.drew y → y.cell? ⟨w.heap.size, 0, none⟩ = some (.int .i64 i.op) := fun y h => h.cell pW c05
    have C1 : ∀ y, Kept w5.drew y → y.cell? ⟨w.heap.size, 1, none⟩ = some (.int .i64 i.d) := fun y h => h.cell pW c15
    have C2 : ∀ y, Kept w5.drew y → y.cell? ⟨w.heap.size, 2, none⟩ = some (.int .i64 i.a) := fun y h => h.cell pW c25
    have C3 : ∀ y, Kept w5.drew y → y.cell? ⟨w.heap.size, 3, none⟩ = some (.int .i64 i.b) := fun y h => h.cell pW c35
    have C4 : ∀ y, Kept w5.drew y → y.cell? ⟨w.heap.size, 4, none⟩ = some (.int .i64 i.imm) := fun y h => h.cell pW c45
    have k6 := Kept.refl w5.drew
    have r2 := r2.drew
    have r5 := r5.drew
    refine wp_region_lin [(0, true), (1, true), (2, false), (3, true), (4, true), (6, true), (7, true), (5, false), (8, true), (9, true), (10, true), (11, true), (12, true), (13, true), (14, true), (15, true), (16, true), (17, true), (18, true), (19, true)]
      (by kernel_rfl) (by kernel_rfl) rfl (by kernel_rfl) (Kept w5.drew) ?_
    simp only [List.map_cons, List.map_nil, List.getElem?_toArray, List.getElem?_cons_succ, List.getElem?_cons_zero]
    generalize w5.drew = WD at *
    iterate 2 (refine lin_take (v := ?_) (by assumption) (by rfl) ?_ ?_; rotate_left; (intro x hx; (try dsimp only at hx); go_simp; try (with_reducible rfl)); (simp only [Act.put, List.setIfInBounds_toArray, List.set_cons_zero, List.set_cons_succ]))
    refine lin_call (by assumption) (by rfl) (fun K hK => ?_)
    go_simp
    refine (same_yes r2 r5).mono ?_
    rintro e w11 ⟨rfl, k, rfl⟩
    have k11 := k6.drewN k
    go_wp2_with fail
    refine hK.out _ _ (by assumption) (fun _ => ?_)
    clear hK K
    try simp only [Act.put, List.setIfInBounds_toArray, List.set_cons_zero, List.set_cons_succ]
    iterate 4 (refine lin_take (v := ?_) (by assumption) (by rfl) ?_ ?_; rotate_left; (intro x hx; (try dsimp only at hx); go_simp; try (with_reducible rfl)); (simp only [Act.put, List.setIfInBounds_toArray, List.set_cons_zero, List.set_cons_succ]))
    refine lin_call (by assumption) (by rfl) (fun K hK => ?_)
    go_simp
    refine (writes_any i _).mono ?_
    rintro e w12 ⟨rfl, hb12⟩
    have k12 := k11.to hb12
    rw [HWR.out]
    go_wp2_with fail
    refine hK.out _ _ (by assumption) (fun _ => ?_)
    clear hK K
    try simp only [Act.put, List.setIfInBounds_toArray, List.set_cons_zero, List.set_cons_succ]
    iterate 12 (refine lin_take (v := ?_) (by assumption) (by rfl) ?_ ?_; rotate_left; (intro x hx; (try dsimp only at hx); go_simp; try (with_reducible rfl)); (simp only [Act.put, List.setIfInBounds_toArray, List.set_cons_zero, List.set_cons_succ]))
    refine lin_done ?_
    go_wp2_with fail
    go_ret
    exact ⟨rfl, hBD.trans (Below.mono k12 hBD.size)⟩

set_option maxHeartbeats 4000000 in
theorem isaReads_10H (i : Ins) (w : World) (h : rightB i = true) (ha : 0 < i.a) (hb : i.b = 0) (hform : formZ i.op = 5 ∨ formZ i.op = 6) (hd0 : i.d = 0) :
    Calls Try.prog 9 #[.agg #[.int .i64 i.op, .int .i64 i.d, .int .i64 i.a, .int .i64 i.b, .int .i64 i.imm]] w fun e w' => e = .returned (.bool true) ∧ Below w.heap.size w w' := by
  have hl := Lib.hid (show readsZ i = [i.a] by rw [readsZ_yes h]; simp [show i.a ≠ 0 by omega, hb])
  have HR := Lib.hid h
  have ha' : ¬ i.a ≤ 0 := by omega
  have hb' : ¬ 0 < i.b := by omega
  obtain ⟨i0, hi, hz0, hz1, hz2⟩ := info_parts info_int
  have HZ := Lib.hid hz2
  have HWR := Lib.hid (writesZ_yes h)
  have hd0b : (i.d == 0) = true := by simp [hd0]
  have HD0 := Lib.hid hd0
  clear hz2 h hd0 hb
  rcases hform with hform | hform
  all_goals
    have HF := Lib.hid hform
    clear hform
    go_enter Try.func9, Try.ntmps9
    go_wp2_with fail
    refine (alive_any _).mono ?_; rintro e w1 ⟨rfl, hb1⟩
    obtain ⟨hc1, hf1⟩ := bcell hb1
    have hz1 : w.heap.size < w1.heap.size := by have := hb1.size; simp at this; omega
    have hB1 : Below w.heap.size w w1 := ((Below.refl w.heap.size w).alloc (Nat.le_refl _) _).trans (hb1.mono (by simp))
    go_wp2_with fail
    refine (reads_any i _).mono ?_; rintro e w2 ⟨v2, rfl, r2, hb2⟩
    rw [hl.out] at r2
    obtain ⟨hc2, hf2⟩ := bcell hb2
    have hz2 : w.heap.size < w2.heap.size := by have := hb2.size; omega
    have hB2 := hB1.trans (hb2.mono (Nat.le_of_lt hz1))
    go_wp2_with fail
    refine (rightIns_any i _).mono ?_; rintro e w3 ⟨rfl, hb3⟩
    rw [HR.out]
    obtain ⟨hc3, hf3⟩ := bcell hb3
    have hz3 : w.heap.size < w3.heap.size := by have := hb3.size; omega
    have hB3 := hB2.trans (hb3.mono (Nat.le_of_lt hz2))
    have c0 : w3.cell? ⟨w.heap.size, 0, none⟩ = some (.int .i64 i.op) := by rw [hc3 _ _ hz2, hc2 _ _ hz1, hc1 _ _ (by simp)]; go_simp
    have c1 : w3.cell? ⟨w.heap.size, 1, none⟩ = some (.int .i64 i.d) := by rw [hc3 _ _ hz2, hc2 _ _ hz1, hc1 _ _ (by simp)]; go_simp
    have c2 : w3.cell? ⟨w.heap.size, 2, none⟩ = some (.int .i64 i.a) := by rw [hc3 _ _ hz2, hc2 _ _ hz1, hc1 _ _ (by simp)]; go_simp
    have c3 : w3.cell? ⟨w.heap.size, 3, none⟩ = some (.int .i64 i.b) := by rw [hc3 _ _ hz2, hc2 _ _ hz1, hc1 _ _ (by simp)]; go_simp
    have c4 : w3.cell? ⟨w.heap.size, 4, none⟩ = some (.int .i64 i.imm) := by rw [hc3 _ _ hz2, hc2 _ _ hz1, hc1 _ _ (by simp)]; go_simp
    have r3 := (r2.below hb3).more hb3.size
    have R3 := Lib.hid r3
    have B3 := Lib.hid hB3
    clear hc1 hf1 hc2 hf2 hc3 hf3 hb1 hb2 hb3 hB1 hB2 r2 r3 hz1 hz2
    go_wp2_with fail
    refine (form_any i.op _).mono ?_; rintro e w4 ⟨rfl, rfl⟩
    rw [HF.out]
    go_wp2_with (at_builtin; refine wpList_append_own _ rfl (.tmp 38) (.tmp 41) 33 rfl w3.heap.size 3 i0 (.int .i64 0) 1 8 Try.underlying33 hi hz0 hz1 HZ.out rfl (by omega) (.slice none 0 0) 0 [] rfl (World.ownsRow_nil _ _ _ _) ⟨w3.heap.size, 0, none⟩ 1 1 [.int .i64 i.a] rfl rfl (new_cells w3 _ _ _ rfl) (one_int _) (by unfold maxLen; omega) (by omega) (by simp <;> omega) ?_; intro v5 w5 hown5 hg5 _; simp only [Nat.zero_add, List.nil_append] at hown5; have HK5 := Lib.hid (((Below.refl w3.heap.size w3).alloc (Nat.le_refl _) _).grown hg5 (by simp) (fun k hk => (own_none k hk).elim)); have hsz5 := grown_size hg5; have c05 := (grown_cell hg5 0 hz3 own_not).trans c0; have c15 := (grown_cell hg5 1 hz3 own_not).trans c1; have c25 := (grown_cell hg5 2 hz3 own_not).trans c2; have c35 := (grown_cell hg5 3 hz3 own_not).trans c3; have c45 := (grown_cell hg5 4 hz3 own_not).trans c4)
    have hKW := HK5.out
    have r5 : Row w5 w5.heap.size 1 v5 [i.a].length ([i.a].map (Value.int .i64)) := Row.of_own hown5
    have pW : w.heap.size < w5.heap.size := by omega
    have r2 := R3.out.below hKW
    have hBD : Below w.heap.size w w5.drew := (B3.out.trans (hKW.mono (Nat.le_of_lt hz3))).drew
    have C0 : ∀ y, Kept w5.drew y → y.cell? ⟨w.heap.size, 0, none⟩ = some (.int .i64 i.op) := fun y h => h.cell pW c05
    have C1 : ∀ y, Kept w5.drew y → y.cell? ⟨w.heap.size, 1, none⟩ = some (.int .i64 i.d) := fun y h => h.cell pW c15
    have C2 : ∀ y, Kept w5.drew y → y.cell? ⟨w.heap.size, 2, none⟩ = some (.int .i64 i.a) := fun y h => h.cell pW c25
    have C3 : ∀ y, Kept w5.drew y → y.cell? ⟨w.heap.size, 3, none⟩ = some (.int .i64 i.b) := fun y h => h.cell pW c35
    have C4 : ∀ y, Kept w5.drew y → y.cell? ⟨w.heap.size, 4, none⟩ = some (.int .i64 i.imm) := fun y h => h.cell pW c45
    have k6 := Kept.refl w5.drew
    have r2 := r2.drew
    have r5 := r5.drew
    refine wp_region_lin [(0, true), (1, true), (2, false), (3, true), (4, true), (6, true), (7, true), (5, false), (8, true), (9, true), (10, true), (11, true), (12, true), (13, true), (14, true), (15, true), (16, true), (17, true), (18, true), (19, true)]
      (by kernel_rfl) (by kernel_rfl) rfl (by kernel_rfl) (Kept w5.drew) ?_
    simp only [List.map_cons, List.map_nil, List.getElem?_toArray, List.getElem?_cons_succ, List.getElem?_cons_zero]
    generalize w5.drew = WD at *
    iterate 2 (refine lin_take (v := ?_) (by assumption) (by rfl) ?_ ?_; rotate_left; (intro x hx; (try dsimp only at hx); go_simp; try (with_reducible rfl)); (simp only [Act.put, List.setIfInBounds_toArray, List.set_cons_zero, List.set_cons_succ]))
    refine lin_call (by assumption) (by rfl) (fun K hK => ?_)
    go_simp
    refine (same_yes r2 r5).mono ?_
    rintro e w11 ⟨rfl, k, rfl⟩
    have k11 := k6.drewN k
    go_wp2_with fail
    refine hK.out _ _ (by assumption) (fun _ => ?_)
    clear hK K
    try simp only [Act.put, List.setIfInBounds_toArray, List.set_cons_zero, List.set_cons_succ]
    iterate 4 (refine lin_take (v := ?_) (by assumption) (by rfl) ?_ ?_; rotate_left; (intro x hx; (try dsimp only at hx); go_simp; try (with_reducible rfl)); (simp only [Act.put, List.setIfInBounds_toArray, List.set_cons_zero, List.set_cons_succ]))
    refine lin_call (by assumption) (by rfl) (fun K hK => ?_)
    go_simp
    refine (writes_any i _).mono ?_
    rintro e w12 ⟨rfl, hb12⟩
    have k12 := k11.to hb12
    rw [HWR.out]
    go_wp2_with fail
    refine hK.out _ _ (by assumption) (fun _ => ?_)
    clear hK K
    try simp only [Act.put, List.setIfInBounds_toArray, List.set_cons_zero, List.set_cons_succ]
    iterate 12 (refine lin_take (v := ?_) (by assumption) (by rfl) ?_ ?_; rotate_left; (intro x hx; (try dsimp only at hx); go_simp; try (with_reducible rfl)); (simp only [Act.put, List.setIfInBounds_toArray, List.set_cons_zero, List.set_cons_succ]))
    refine lin_done ?_
    go_wp2_with fail
    go_ret
    exact ⟨rfl, hBD.trans (Below.mono k12 hBD.size)⟩

set_option maxHeartbeats 4000000 in
theorem isaReads_11H (i : Ins) (w : World) (h : rightB i = true) (ha : 0 < i.a) (hb : 0 < i.b) (hform : formZ i.op = 5 ∨ formZ i.op = 6) (hd0 : i.d = 0) :
    Calls Try.prog 9 #[.agg #[.int .i64 i.op, .int .i64 i.d, .int .i64 i.a, .int .i64 i.b, .int .i64 i.imm]] w fun e w' => e = .returned (.bool true) ∧ Below w.heap.size w w' := by
  have hl := Lib.hid (show readsZ i = [i.a, i.b] by rw [readsZ_yes h]; simp [show i.a ≠ 0 by omega, show i.b ≠ 0 by omega])
  have HR := Lib.hid h
  have ha' : ¬ i.a ≤ 0 := by omega
  have hb' : ¬ i.b ≤ 0 := by omega
  obtain ⟨i0, hi, hz0, hz1, hz2⟩ := info_parts info_int
  have HZ := Lib.hid hz2
  have HWR := Lib.hid (writesZ_yes h)
  have hd0b : (i.d == 0) = true := by simp [hd0]
  have HD0 := Lib.hid hd0
  clear hz2 h hd0
  rcases hform with hform | hform
  all_goals
    have HF := Lib.hid hform
    clear hform
    go_enter Try.func9, Try.ntmps9
    go_wp2_with fail
    refine (alive_any _).mono ?_; rintro e w1 ⟨rfl, hb1⟩
    obtain ⟨hc1, hf1⟩ := bcell hb1
    have hz1 : w.heap.size < w1.heap.size := by have := hb1.size; simp at this; omega
    have hB1 : Below w.heap.size w w1 := ((Below.refl w.heap.size w).alloc (Nat.le_refl _) _).trans (hb1.mono (by simp))
    go_wp2_with fail
    refine (reads_any i _).mono ?_; rintro e w2 ⟨v2, rfl, r2, hb2⟩
    rw [hl.out] at r2
    obtain ⟨hc2, hf2⟩ := bcell hb2
    have hz2 : w.heap.size < w2.heap.size := by have := hb2.size; omega
    have hB2 := hB1.trans (hb2.mono (Nat.le_of_lt hz1))
    go_wp2_with fail
    refine (rightIns_any i _).mono ?_; rintro e w3 ⟨rfl, hb3⟩
    rw [HR.out]
    obtain ⟨hc3, hf3⟩ := bcell hb3
    have hz3 : w.heap.size < w3.heap.size := by have := hb3.size; omega
    have hB3 := hB2.trans (hb3.mono (Nat.le_of_lt hz2))
    have c0 : w3.cell? ⟨w.heap.size, 0, none⟩ = some (.int .i64 i.op) := by rw [hc3 _ _ hz2, hc2 _ _ hz1, hc1 _ _ (by simp)]; go_simp
    have c1 : w3.cell? ⟨w.heap.size, 1, none⟩ = some (.int .i64 i.d) := by rw [hc3 _ _ hz2, hc2 _ _ hz1, hc1 _ _ (by simp)]; go_simp
    have c2 : w3.cell? ⟨w.heap.size, 2, none⟩ = some (.int .i64 i.a) := by rw [hc3 _ _ hz2, hc2 _ _ hz1, hc1 _ _ (by simp)]; go_simp
    have c3 : w3.cell? ⟨w.heap.size, 3, none⟩ = some (.int .i64 i.b) := by rw [hc3 _ _ hz2, hc2 _ _ hz1, hc1 _ _ (by simp)]; go_simp
    have c4 : w3.cell? ⟨w.heap.size, 4, none⟩ = some (.int .i64 i.imm) := by rw [hc3 _ _ hz2, hc2 _ _ hz1, hc1 _ _ (by simp)]; go_simp
    have r3 := (r2.below hb3).more hb3.size
    have R3 := Lib.hid r3
    have B3 := Lib.hid hB3
    clear hc1 hf1 hc2 hf2 hc3 hf3 hb1 hb2 hb3 hB1 hB2 r2 r3 hz1 hz2
    go_wp2_with fail
    refine (form_any i.op _).mono ?_; rintro e w4 ⟨rfl, rfl⟩
    rw [HF.out]
    go_wp2_with (first | (at_builtin; refine wpList_append_own _ rfl (.tmp 38) (.tmp 41) 33 rfl w3.heap.size 3 i0 (.int .i64 0) 1 8 Try.underlying33 hi hz0 hz1 HZ.out rfl (by omega) (.slice none 0 0) 0 [] rfl (World.ownsRow_nil _ _ _ _) ⟨w3.heap.size, 0, none⟩ 1 1 [.int .i64 i.a] rfl rfl (new_cells w3 _ _ _ rfl) (one_int _) (by unfold maxLen; omega) (by omega) (by simp <;> omega) ?_; intro v5 w5 hown5 hg5 _; simp only [Nat.zero_add, List.nil_append] at hown5; have HK5 := Lib.hid (((Below.refl w3.heap.size w3).alloc (Nat.le_refl _) _).grown hg5 (by simp) (fun k hk => (own_none k hk).elim)); have hsz5 := grown_size hg5; have c05 := (grown_cell hg5 0 hz3 own_not).trans c0; have c15 := (grown_cell hg5 1 hz3 own_not).trans c1; have c25 := (grown_cell hg5 2 hz3 own_not).trans c2; have c35 := (grown_cell hg5 3 hz3 own_not).trans c3; have c45 := (grown_cell hg5 4 hz3 own_not).trans c4; have HG := Lib.hid (fun k hk => (hown5.lt k hk).1 : ∀ k, v5.ownBlock = some k → w3.heap.size ≤ k)) | (at_builtin; refine wpList_append_own _ rfl (.tmp 58) (.tmp 61) 33 rfl w3.heap.size 3 i0 (.int .i64 0) 1 8 Try.underlying33 hi hz0 hz1 HZ.out rfl (by omega) v5 1 [.int .i64 i.a] rfl (hown5.alloc _) ⟨w5.heap.size, 0, none⟩ 1 1 [.int .i64 i.b] rfl rfl (new_cells w5 _ _ _ rfl) (one_int _) (by unfold maxLen; omega) (by omega) (by simp <;> omega) ?_; intro v6 w6 hown6 hg6 _; simp only [List.cons_append, List.nil_append] at hown6; have HK6 := Lib.hid (((HK5.out).alloc (by omega) _).grown hg6 (by simp <;> omega) HG.out); have hsz6 := grown_size hg6; have c06 := (grown_cell hg6 0 (Nat.lt_trans hz3 hsz5) (fun hh => absurd (HG.out _ hh.symm) (by omega))).trans c05; have c16 := (grown_cell hg6 1 (Nat.lt_trans hz3 hsz5) (fun hh => absurd (HG.out _ hh.symm) (by omega))).trans c15; have c26 := (grown_cell hg6 2 (Nat.lt_trans hz3 hsz5) (fun hh => absurd (HG.out _ hh.symm) (by omega))).trans c25; have c36 := (grown_cell hg6 3 (Nat.lt_trans hz3 hsz5) (fun hh => absurd (HG.out _ hh.symm) (by omega))).trans c35; have c46 := (grown_cell hg6 4 (Nat.lt_trans hz3 hsz5) (fun hh => absurd (HG.out _ hh.symm) (by omega))).trans c45))
    have hKW := HK6.out
    have r5 : Row w6 w6.heap.size 1 v6 [i.a, i.b].length ([i.a, i.b].map (Value.int .i64)) := Row.of_own hown6
    have pW : w.heap.size < w6.heap.size := by omega
    have r2 := R3.out.below hKW
    have hBD : Below w.heap.size w w6.drew := (B3.out.trans (hKW.mono (Nat.le_of_lt hz3))).drew
    have C0 : ∀ y, Kept w6.drew y → y.cell? ⟨w.heap.size, 0, none⟩ = some (.int .i64 i.op) := fun y h => h.cell pW c06
    have C1 : ∀ y, Kept w6.drew y → y.cell? ⟨w.heap.size, 1, none⟩ = some (.int .i64 i.d) := fun y h => h.cell pW c16
    have C2 : ∀ y, Kept w6.drew y → y.cell? ⟨w.heap.size, 2, none⟩ = some (.int .i64 i.a) := fun y h => h.cell pW c26
    have C3 : ∀ y, Kept w6.drew y → y.cell? ⟨w.heap.size, 3, none⟩ = some (.int .i64 i.b) := fun y h => h.cell pW c36
    have C4 : ∀ y, Kept w6.drew y → y.cell? ⟨w.heap.size, 4, none⟩ = some (.int .i64 i.imm) := fun y h => h.cell pW c46
    have k6 := Kept.refl w6.drew
    have r2 := r2.drew
    have r5 := r5.drew
    refine wp_region_lin [(0, true), (1, true), (2, false), (3, true), (4, true), (6, true), (7, true), (5, false), (8, true), (9, true), (10, true), (11, true), (12, true), (13, true), (14, true), (15, true), (16, true), (17, true), (18, true), (19, true)]
      (by kernel_rfl) (by kernel_rfl) rfl (by kernel_rfl) (Kept w6.drew) ?_
    simp only [List.map_cons, List.map_nil, List.getElem?_toArray, List.getElem?_cons_succ, List.getElem?_cons_zero]
    generalize w6.drew = WD at *
    iterate 2 (refine lin_take (v := ?_) (by assumption) (by rfl) ?_ ?_; rotate_left; (intro x hx; (try dsimp only at hx); go_simp; try (with_reducible rfl)); (simp only [Act.put, List.setIfInBounds_toArray, List.set_cons_zero, List.set_cons_succ]))
    refine lin_call (by assumption) (by rfl) (fun K hK => ?_)
    go_simp
    refine (same_yes r2 r5).mono ?_
    rintro e w11 ⟨rfl, k, rfl⟩
    have k11 := k6.drewN k
    go_wp2_with fail
    refine hK.out _ _ (by assumption) (fun _ => ?_)
    clear hK K
    try simp only [Act.put, List.setIfInBounds_toArray, List.set_cons_zero, List.set_cons_succ]
    iterate 4 (refine lin_take (v := ?_) (by assumption) (by rfl) ?_ ?_; rotate_left; (intro x hx; (try dsimp only at hx); go_simp; try (with_reducible rfl)); (simp only [Act.put, List.setIfInBounds_toArray, List.set_cons_zero, List.set_cons_succ]))
    refine lin_call (by assumption) (by rfl) (fun K hK => ?_)
    go_simp
    refine (writes_any i _).mono ?_
    rintro e w12 ⟨rfl, hb12⟩
    have k12 := k11.to hb12
    rw [HWR.out]
    go_wp2_with fail
    refine hK.out _ _ (by assumption) (fun _ => ?_)
    clear hK K
    try simp only [Act.put, List.setIfInBounds_toArray, List.set_cons_zero, List.set_cons_succ]
    iterate 12 (refine lin_take (v := ?_) (by assumption) (by rfl) ?_ ?_; rotate_left; (intro x hx; (try dsimp only at hx); go_simp; try (with_reducible rfl)); (simp only [Act.put, List.setIfInBounds_toArray, List.set_cons_zero, List.set_cons_succ]))
    refine lin_done ?_
    go_wp2_with fail
    go_ret
    exact ⟨rfl, hBD.trans (Below.mono k12 hBD.size)⟩

theorem isaReads_walk (i : Ins) (w : World) (_hi : i.Fits) :
    Calls Try.prog 9 #[.agg #[.int .i64 i.op, .int .i64 i.d, .int .i64 i.a, .int .i64 i.b, .int .i64 i.imm]] w fun e w' => e = .returned (.bool true) ∧ Below w.heap.size w w' := by
  cases h : rightB i
  · exact isaReads_no i w h
  · have hr := (rightB_iff i).1 h
    have hc := formZ_cases i.op
    have hR := right_range h
    obtain ⟨q0, q1, q2, q3, _⟩ := hr
    by_cases hh : 31 ≤ i.op
    · have hd0 : i.d = 0 := by rw [if_neg (by omega)] at q1; exact q1
      by_cases ha : i.a = 0 <;> by_cases hb : i.b = 0
      · exact isaReads_00H i w h ha hb (by omega) hd0
      · exact isaReads_01H i w h ha (by omega) (by split at q3 <;> omega) hd0
      · exact isaReads_10H i w h (by omega) hb (by split at q2 <;> omega) hd0
      · exact isaReads_11H i w h (by omega) (by omega) (by split at q2 <;> omega) hd0
    · by_cases ha : i.a = 0 <;> by_cases hb : i.b = 0
      · exact isaReads_00L i w h ha hb (by omega)
      · exact isaReads_01L i w h ha (by omega) (by split at q3 <;> omega)
      · exact isaReads_10L i w h (by omega) hb (by split at q2 <;> omega)
      · exact isaReads_11L i w h (by omega) (by omega) (by split at q3 <;> omega)
end Go.Proofs.Ytdggakpjfknncaa.Words

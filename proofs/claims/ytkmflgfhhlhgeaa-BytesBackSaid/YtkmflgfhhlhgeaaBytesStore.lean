/- Contract of bytes.Store. -/
import Derived.Test.YtkmflgfhhlhgeaaBytesFits
import Derived.Test.YtkmflgfhhlhgeaaRowCopy
import Derived.Test.YtkmflgfhhlhgeaaByteRow
import Derived.Test.YtkmflgfhhlhgeaaInfo8
import Derived.Test.YtkmflgfhhlhgeaaWordPut
import Derived.Test.YtkmflgfhhlhgeaaLin
namespace Go.Proofs.Ytkmflgfhhlhgeaa.Words
open Go.RowKit
set_option linter.unusedVariables false

theorem splice_nil {α : Type} (L : List α) (k : Nat) : splice L k [] = L := by simp [splice]
theorem splice_cons {α : Type} (L : List α) (k : Nat) (x : α) (cs : List α) (h : k < L.length) : splice L k (x :: cs) = splice (L.set k x) (k + 1) cs := by
  unfold splice
  rw [List.take_add_one, List.getElem?_set_self h, List.take_set_of_le (Nat.le_refl _), List.drop_set_of_lt (by omega)]
  simp only [Option.toList_some, List.append_assoc, List.cons_append, List.nil_append, List.length_cons]
  rw [show k + (cs.length + 1) = k + 1 + cs.length by omega]
theorem splice_quad1 (zs : List Int) (k n : Nat) (v : Int) (hl : zs.length = n) (h : k + 1 ≤ n) : splice (zs.map (Value.int .u8)) k (((quad v).take 1).take (n - k)) = (put1 zs k v).map (Value.int .u8) := by
  rw [List.take_of_length_le (l := (quad v).take 1) (by simp [quad]; omega)]
  show splice _ _ [_] = _
  rw [splice_cons _ _ _ _ (by simp; omega), splice_nil, put1, List.map_set]
theorem splice_quad2 (zs : List Int) (k n : Nat) (v : Int) (hl : zs.length = n) (h : k + 2 ≤ n) : splice (zs.map (Value.int .u8)) k (((quad v).take 2).take (n - k)) = (put2 zs k v).map (Value.int .u8) := by
  rw [List.take_of_length_le (l := (quad v).take 2) (by simp [quad]; omega)]
  show splice _ _ [_, _] = _
  rw [splice_cons _ _ _ _ (by simp; omega), splice_cons _ _ _ _ (by simp; omega), splice_nil, put2, put1, List.map_set, List.map_set]
theorem splice_quad4 (zs : List Int) (k n : Nat) (v : Int) (hv : 0 ≤ v ∧ v ≤ 4294967295) (hl : zs.length = n) (h : k + 4 ≤ n) : splice (zs.map (Value.int .u8)) k (((quad v).take 4).take (n - k)) = (put4 zs k v).map (Value.int .u8) := by
  rw [List.take_of_length_le (l := (quad v).take 4) (by simp [quad]; omega)]
  show splice _ _ [_, _, _, _] = _
  rw [splice_cons _ _ _ _ (by simp; omega), splice_cons _ _ _ _ (by simp; omega), splice_cons _ _ _ _ (by simp; omega), splice_cons _ _ _ _ (by simp; omega), splice_nil, put4, put2, put1, List.map_set, List.map_set, List.map_set, List.map_set, show v / 16777216 % 256 = v / 16777216 by omega]

section
variable (A : Option Addr) (c n : Nat) (zs : List Int) (v : Int) (w : World)

set_option maxHeartbeats 1000000 in
theorem store_no (size addr : Int) (h : Row w w.heap.size 1 (.slice A n c) n (zs.map (Value.int .u8))) (hn : n ≤ 140737488355328) (hs : -9223372036854775808 ≤ size ∧ size ≤ 9223372036854775807) (hq : storeOk size addr n = false) :
    Calls Try.prog 16 #[.slice A n c, .agg #[.int .i64 addr, .int .i64 size, .int .u32 v]] w fun e w' => ∃ v', e = .returned v' ∧ w'.ownsRow w.heap.size 5 1 v' n ((zs).map (Value.int .u8)) ∧ Below w.heap.size w w' := by
  obtain ⟨i0, hi, hz0, hz1, hz2⟩ := info_parts info_u8
  have HZ2 := Lib.hid hz2
  clear hz2
  have hl : zs.length = n := by have := h.len; simpa using this
  obtain ⟨u1, u2⟩ := h.cap
  have hR := h.alloc (Nat.le_refl _) (.cells #[.int .i64 addr, .int .i64 size, .int .u32 v] 25)
  have hbase : w.heap.size + 1 ≤ (w.alloc (.cells #[.int .i64 addr, .int .i64 size, .int .u32 v] 25)).heap.size := by simp
  have HW := Lib.hid ((Below.refl w.heap.size w).alloc (Nat.le_refl _) (.cells #[.int .i64 addr, .int .i64 size, .int .u32 v] 25))
  have c0 : (w.alloc (.cells #[.int .i64 addr, .int .i64 size, .int .u32 v] 25)).cell? ⟨w.heap.size, 0, none⟩ = some (.int .i64 addr) := by go_simp
  have c1 : (w.alloc (.cells #[.int .i64 addr, .int .i64 size, .int .u32 v] 25)).cell? ⟨w.heap.size, 1, none⟩ = some (.int .i64 size) := by go_simp
  have c2 : (w.alloc (.cells #[.int .i64 addr, .int .i64 size, .int .u32 v] 25)).cell? ⟨w.heap.size, 2, none⟩ = some (.int .u32 v) := by go_simp
  have HQ := Lib.hid hq
  clear hq
  go_enter Try.func16, Try.ntmps16
  go_wp2_with (at_builtin; refine wpList_append_row _ rfl (.const (.slice none 0 0)) (.tmp 6) 22 rfl (w.heap.size + 1) 5 i0 (.int .u8 0) 1 1 Try.underlying22 hi hz0 hz1 HZ2.out rfl (by omega) (.slice none 0 0) 0 [] rfl (World.ownsRow_nil _ _ _ _) _ _ n _ rfl hR (u8_one _) (by unfold maxLen; omega) (by omega) hbase ?_; intro v1 w1 hown1 hg1; simp only [Nat.zero_add, List.nil_append] at hown1; have k1 : Below (w.heap.size + 1) (w.alloc (.cells #[.int .i64 addr, .int .i64 size, .int .u32 v] 25)) w1 := Below.grown (Below.refl _ _) hg1 hbase (fun k hk => by cases hk); have d0 := below_cell k1 (Nat.lt_succ_self _) c0; have d1 := below_cell k1 (Nat.lt_succ_self _) c1; have d2 := below_cell k1 (Nat.lt_succ_self _) c2)
  refine (fits_any addr size v n _ hs (by omega)).mono ?_; rintro e w2 ⟨rfl, hb2⟩
  rw [HQ.out]
  go_wp2_with fail
  go_ret
  exact ⟨_, rfl, own_base (own_below hown1 hb2) (Nat.le_succ _), (HW.out.trans (k1.mono (Nat.le_succ _))).trans (hb2.mono (by have := k1.size; simp at this; omega))⟩

set_option maxHeartbeats 1000000 in
theorem store_yes1 (k : Nat) (h : Row w w.heap.size 1 (.slice A n c) n (zs.map (Value.int .u8))) (hn : n ≤ 140737488355328) (hk : (k : Int) ≤ 4294967295) (hv : 0 ≤ v ∧ v ≤ 4294967295) (hck : checkZ 1 k n = 0) :
    Calls Try.prog 16 #[.slice A n c, .agg #[.int .i64 (k : Int), .int .i64 1, .int .u32 v]] w fun e w' => ∃ v', e = .returned v' ∧ w'.ownsRow w.heap.size 5 1 v' n ((put1 zs k v).map (Value.int .u8)) ∧ Below w.heap.size w w' := by
  obtain ⟨_, hr⟩ := checkZ_zero hck
  have HQ := Lib.hid (show storeOk 1 k n = true from decide_eq_true ⟨by omega, by omega, hk, hck⟩)
  have hkn : k + 1 ≤ n := by omega
  have hk0 : (0 : Int) ≤ k := by omega
  obtain ⟨v0, v9⟩ := hv
  clear hck
  obtain ⟨i0, hi, hz0, hz1, hz2⟩ := info_parts info_u8
  have HZ2 := Lib.hid hz2
  clear hz2
  have hl : zs.length = n := by have := h.len; simpa using this
  obtain ⟨u1, u2⟩ := h.cap
  have hR := h.alloc (Nat.le_refl _) (.cells #[.int .i64 (k : Int), .int .i64 1, .int .u32 v] 25)
  have hbase : w.heap.size + 1 ≤ (w.alloc (.cells #[.int .i64 (k : Int), .int .i64 1, .int .u32 v] 25)).heap.size := by simp
  have HW := Lib.hid ((Below.refl w.heap.size w).alloc (Nat.le_refl _) (.cells #[.int .i64 (k : Int), .int .i64 1, .int .u32 v] 25))
  have c0 : (w.alloc (.cells #[.int .i64 (k : Int), .int .i64 1, .int .u32 v] 25)).cell? ⟨w.heap.size, 0, none⟩ = some (.int .i64 (k : Int)) := by go_simp
  have c1 : (w.alloc (.cells #[.int .i64 (k : Int), .int .i64 1, .int .u32 v] 25)).cell? ⟨w.heap.size, 1, none⟩ = some (.int .i64 1) := by go_simp
  have c2 : (w.alloc (.cells #[.int .i64 (k : Int), .int .i64 1, .int .u32 v] 25)).cell? ⟨w.heap.size, 2, none⟩ = some (.int .u32 v) := by go_simp
  go_enter Try.func16, Try.ntmps16
  go_wp2_with (at_builtin; refine wpList_append_row _ rfl (.const (.slice none 0 0)) (.tmp 6) 22 rfl (w.heap.size + 1) 5 i0 (.int .u8 0) 1 1 Try.underlying22 hi hz0 hz1 HZ2.out rfl (by omega) (.slice none 0 0) 0 [] rfl (World.ownsRow_nil _ _ _ _) _ _ n _ rfl hR (u8_one _) (by unfold maxLen; omega) (by omega) hbase ?_; intro v1 w1 hown1 hg1; simp only [Nat.zero_add, List.nil_append] at hown1; have k1 : Below (w.heap.size + 1) (w.alloc (.cells #[.int .i64 (k : Int), .int .i64 1, .int .u32 v] 25)) w1 := Below.grown (Below.refl _ _) hg1 hbase (fun k hk => by cases hk); have d0 := below_cell k1 (Nat.lt_succ_self _) c0; have d1 := below_cell k1 (Nat.lt_succ_self _) c1; have d2 := below_cell k1 (Nat.lt_succ_self _) c2)
  refine (fits_any k 1 v n _ (by omega) (by omega)).mono ?_; rintro e w2 ⟨rfl, hb2⟩
  rw [HQ.out]
  obtain ⟨g, cap, rfl, hg, hgs⟩ := own_form hown1 (by omega)
  have hz1 : w.heap.size + 1 ≤ w1.heap.size := by have := k1.size; simp at this; omega
  have e0 := below_cell hb2 (by omega) d0
  have e1 := below_cell hb2 (by omega) d1
  have e2 := below_cell hb2 (by omega) d2
  have hown2 := own_below hown1 hb2
  obtain ⟨cur, hgcur, _, hcap1, hcap2, _⟩ := own_block hown2
  have hcap3 : cap ≤ 9223372036854775807 := by unfold maxLen at hcap2; omega
  have HB := Lib.hid ((HW.out.trans (k1.mono (Nat.le_succ _))).trans (hb2.mono (by have := k1.size; simp at this; omega)))
  have hz2 : w.heap.size < w2.heap.size := by have := hb2.size; omega
  clear hb2 d0 d1 d2 c0 c1 c2 k1 hR hown1
  go_wp2_with fail
  have f0 : ∀ x, Below (w.heap.size + 1) w2 x → _ := fun x hx => below_cell hx (Nat.lt_succ_self _) e0
  have f1 : ∀ x, Below (w.heap.size + 1) w2 x → _ := fun x hx => below_cell hx (Nat.lt_succ_self _) e1
  have f2 : ∀ x, Below (w.heap.size + 1) w2 x → _ := fun x hx => below_cell hx (Nat.lt_succ_self _) e2
  have i0' : Kept w2 w2.drew := (Kept.refl w2).drew
  have j0 : Below (w.heap.size + 1) w2 w2.drew := Below.drew (Below.refl _ _)
  clear e0 e1 e2
  refine wp_region_lin [(0, true), (1, true), (2, true), (3, true), (4, true), (5, true), (7, true), (8, true), (6, false), (9, true), (10, false)]
    (by kernel_rfl) (by kernel_rfl) rfl (by kernel_rfl) (Below (w.heap.size + 1) w2) ?_
  simp only [List.map_cons, List.map_nil, List.getElem?_toArray, List.getElem?_cons_succ, List.getElem?_cons_zero]
  iterate 3 (refine lin_take (v := ?_) (by assumption) (by rfl) ?_ ?_; rotate_left; (intro x hx; (try dsimp only at hx); go_simp; try (with_reducible rfl)); (simp only [Act.put, List.setIfInBounds_toArray, List.set_cons_zero, List.set_cons_succ]))
  refine lin_take (v := .slice (some ⟨g, k, none⟩) (n - k) (cap - k)) (by assumption) (by rfl) (fun x hx => ?_) ?_
  · go_simp
    rw [if_pos (show k ≤ n by omega), if_neg (show ¬ cap = k by omega)]
  simp only [Act.put, List.setIfInBounds_toArray, List.set_cons_zero, List.set_cons_succ]
  iterate 4 (refine lin_take (v := ?_) (by assumption) (by rfl) ?_ ?_; rotate_left; (intro x hx; (try dsimp only at hx); go_simp; try (with_reducible rfl)); (simp only [Act.put, List.setIfInBounds_toArray, List.set_cons_zero, List.set_cons_succ]))
  refine lin_call (by assumption) (by rfl) (fun K hK => ?_)
  go_simp
  refine (put_any v v0 (by omega) (Row.nil _ _ _) (by simp) (by omega)).mono ?_; rintro e x3 ⟨rfl, own3, hb3⟩
  have i3 := i0'.to hb3
  have j3 : Below (w.heap.size + 1) w2 x3 := Below.mono i3 hz2
  go_wp2_with fail
  refine hK.out _ _ j3 (fun _ => ?_)
  clear hK K
  try simp only [Act.put, List.setIfInBounds_toArray, List.set_cons_zero, List.set_cons_succ]
  have hg2 : g < w2.heap.size := by have := (Array.getElem?_eq_some_iff.1 hgcur).1; exact this
  have own4 := own_below hown2 i3
  have row4 := (Row.of_own own3)
  clear hb3 own3
  refine lin_take (v := .slice (some ⟨w2.heap.size, 0, none⟩) 1 4) (by assumption) (by rfl) (fun x hx => ?_) ?_
  · go_simp
  simp only [Act.put, List.setIfInBounds_toArray, List.set_cons_zero, List.set_cons_succ]
  refine lin_call (by assumption) (by rfl) (fun K hK => ?_)
  refine wp_copy_rows (.tmp 17) (.tmp 23) 22 22 rfl 5 Try.underlying22 (by kernel_rfl) (w.heap.size + 1) g n cap k (n - k) (cap - k) _ own4 (by go_simp) _ 1 4 _ _ (by go_simp) (row4.cut (k := 0) (m := 1) (by omega) (by omega)) (fun u hu => quad_one v u (List.mem_of_mem_take (by simpa using hu))) (by omega) ?_
  intro x5 own5 hb5
  refine hK.out _ _ (j3.trans (hb5.mono hg)) (fun _ => ?_)
  clear hK K
  try simp only [Act.put, List.setIfInBounds_toArray, List.set_cons_zero, List.set_cons_succ]
  refine lin_done ?_
  go_wp2_with fail
  go_ret
  rw [List.nil_append, List.drop_zero, splice_quad1 zs k n v hl (by omega)] at own5
  exact ⟨_, rfl, own_base own5 (Nat.le_succ _), HB.out.trans ((j3.trans (hb5.mono hg)).mono (Nat.le_succ _))⟩

set_option maxHeartbeats 1000000 in
theorem store_yes2 (k : Nat) (h : Row w w.heap.size 1 (.slice A n c) n (zs.map (Value.int .u8))) (hn : n ≤ 140737488355328) (hk : (k : Int) ≤ 4294967295) (hv : 0 ≤ v ∧ v ≤ 4294967295) (hck : checkZ 2 k n = 0) :
    Calls Try.prog 16 #[.slice A n c, .agg #[.int .i64 (k : Int), .int .i64 2, .int .u32 v]] w fun e w' => ∃ v', e = .returned v' ∧ w'.ownsRow w.heap.size 5 1 v' n ((put2 zs k v).map (Value.int .u8)) ∧ Below w.heap.size w w' := by
  obtain ⟨_, hr⟩ := checkZ_zero hck
  have HQ := Lib.hid (show storeOk 2 k n = true from decide_eq_true ⟨by omega, by omega, hk, hck⟩)
  have hkn : k + 2 ≤ n := by omega
  have hk0 : (0 : Int) ≤ k := by omega
  obtain ⟨v0, v9⟩ := hv
  clear hck
  obtain ⟨i0, hi, hz0, hz1, hz2⟩ := info_parts info_u8
  have HZ2 := Lib.hid hz2
  clear hz2
  have hl : zs.length = n := by have := h.len; simpa using this
  obtain ⟨u1, u2⟩ := h.cap
  have hR := h.alloc (Nat.le_refl _) (.cells #[.int .i64 (k : Int), .int .i64 2, .int .u32 v] 25)
  have hbase : w.heap.size + 1 ≤ (w.alloc (.cells #[.int .i64 (k : Int), .int .i64 2, .int .u32 v] 25)).heap.size := by simp
  have HW := Lib.hid ((Below.refl w.heap.size w).alloc (Nat.le_refl _) (.cells #[.int .i64 (k : Int), .int .i64 2, .int .u32 v] 25))
  have c0 : (w.alloc (.cells #[.int .i64 (k : Int), .int .i64 2, .int .u32 v] 25)).cell? ⟨w.heap.size, 0, none⟩ = some (.int .i64 (k : Int)) := by go_simp
  have c1 : (w.alloc (.cells #[.int .i64 (k : Int), .int .i64 2, .int .u32 v] 25)).cell? ⟨w.heap.size, 1, none⟩ = some (.int .i64 2) := by go_simp
  have c2 : (w.alloc (.cells #[.int .i64 (k : Int), .int .i64 2, .int .u32 v] 25)).cell? ⟨w.heap.size, 2, none⟩ = some (.int .u32 v) := by go_simp
  go_enter Try.func16, Try.ntmps16
  go_wp2_with (at_builtin; refine wpList_append_row _ rfl (.const (.slice none 0 0)) (.tmp 6) 22 rfl (w.heap.size + 1) 5 i0 (.int .u8 0) 1 1 Try.underlying22 hi hz0 hz1 HZ2.out rfl (by omega) (.slice none 0 0) 0 [] rfl (World.ownsRow_nil _ _ _ _) _ _ n _ rfl hR (u8_one _) (by unfold maxLen; omega) (by omega) hbase ?_; intro v1 w1 hown1 hg1; simp only [Nat.zero_add, List.nil_append] at hown1; have k1 : Below (w.heap.size + 1) (w.alloc (.cells #[.int .i64 (k : Int), .int .i64 2, .int .u32 v] 25)) w1 := Below.grown (Below.refl _ _) hg1 hbase (fun k hk => by cases hk); have d0 := below_cell k1 (Nat.lt_succ_self _) c0; have d1 := below_cell k1 (Nat.lt_succ_self _) c1; have d2 := below_cell k1 (Nat.lt_succ_self _) c2)
  refine (fits_any k 2 v n _ (by omega) (by omega)).mono ?_; rintro e w2 ⟨rfl, hb2⟩
  rw [HQ.out]
  obtain ⟨g, cap, rfl, hg, hgs⟩ := own_form hown1 (by omega)
  have hz1 : w.heap.size + 1 ≤ w1.heap.size := by have := k1.size; simp at this; omega
  have e0 := below_cell hb2 (by omega) d0
  have e1 := below_cell hb2 (by omega) d1
  have e2 := below_cell hb2 (by omega) d2
  have hown2 := own_below hown1 hb2
  obtain ⟨cur, hgcur, _, hcap1, hcap2, _⟩ := own_block hown2
  have hcap3 : cap ≤ 9223372036854775807 := by unfold maxLen at hcap2; omega
  have HB := Lib.hid ((HW.out.trans (k1.mono (Nat.le_succ _))).trans (hb2.mono (by have := k1.size; simp at this; omega)))
  have hz2 : w.heap.size < w2.heap.size := by have := hb2.size; omega
  clear hb2 d0 d1 d2 c0 c1 c2 k1 hR hown1
  go_wp2_with fail
  have f0 : ∀ x, Below (w.heap.size + 1) w2 x → _ := fun x hx => below_cell hx (Nat.lt_succ_self _) e0
  have f1 : ∀ x, Below (w.heap.size + 1) w2 x → _ := fun x hx => below_cell hx (Nat.lt_succ_self _) e1
  have f2 : ∀ x, Below (w.heap.size + 1) w2 x → _ := fun x hx => below_cell hx (Nat.lt_succ_self _) e2
  have i0' : Kept w2 w2.drew := (Kept.refl w2).drew
  have j0 : Below (w.heap.size + 1) w2 w2.drew := Below.drew (Below.refl _ _)
  clear e0 e1 e2
  refine wp_region_lin [(0, true), (1, true), (2, true), (3, true), (4, true), (5, true), (7, true), (8, true), (6, false), (9, true), (10, false)]
    (by kernel_rfl) (by kernel_rfl) rfl (by kernel_rfl) (Below (w.heap.size + 1) w2) ?_
  simp only [List.map_cons, List.map_nil, List.getElem?_toArray, List.getElem?_cons_succ, List.getElem?_cons_zero]
  iterate 3 (refine lin_take (v := ?_) (by assumption) (by rfl) ?_ ?_; rotate_left; (intro x hx; (try dsimp only at hx); go_simp; try (with_reducible rfl)); (simp only [Act.put, List.setIfInBounds_toArray, List.set_cons_zero, List.set_cons_succ]))
  refine lin_take (v := .slice (some ⟨g, k, none⟩) (n - k) (cap - k)) (by assumption) (by rfl) (fun x hx => ?_) ?_
  · go_simp
    rw [if_pos (show k ≤ n by omega), if_neg (show ¬ cap = k by omega)]
  simp only [Act.put, List.setIfInBounds_toArray, List.set_cons_zero, List.set_cons_succ]
  iterate 4 (refine lin_take (v := ?_) (by assumption) (by rfl) ?_ ?_; rotate_left; (intro x hx; (try dsimp only at hx); go_simp; try (with_reducible rfl)); (simp only [Act.put, List.setIfInBounds_toArray, List.set_cons_zero, List.set_cons_succ]))
  refine lin_call (by assumption) (by rfl) (fun K hK => ?_)
  go_simp
  refine (put_any v v0 (by omega) (Row.nil _ _ _) (by simp) (by omega)).mono ?_; rintro e x3 ⟨rfl, own3, hb3⟩
  have i3 := i0'.to hb3
  have j3 : Below (w.heap.size + 1) w2 x3 := Below.mono i3 hz2
  go_wp2_with fail
  refine hK.out _ _ j3 (fun _ => ?_)
  clear hK K
  try simp only [Act.put, List.setIfInBounds_toArray, List.set_cons_zero, List.set_cons_succ]
  have hg2 : g < w2.heap.size := by have := (Array.getElem?_eq_some_iff.1 hgcur).1; exact this
  have own4 := own_below hown2 i3
  have row4 := (Row.of_own own3)
  clear hb3 own3
  refine lin_take (v := .slice (some ⟨w2.heap.size, 0, none⟩) 2 4) (by assumption) (by rfl) (fun x hx => ?_) ?_
  · go_simp
  simp only [Act.put, List.setIfInBounds_toArray, List.set_cons_zero, List.set_cons_succ]
  refine lin_call (by assumption) (by rfl) (fun K hK => ?_)
  refine wp_copy_rows (.tmp 17) (.tmp 23) 22 22 rfl 5 Try.underlying22 (by kernel_rfl) (w.heap.size + 1) g n cap k (n - k) (cap - k) _ own4 (by go_simp) _ 2 4 _ _ (by go_simp) (row4.cut (k := 0) (m := 2) (by omega) (by omega)) (fun u hu => quad_one v u (List.mem_of_mem_take (by simpa using hu))) (by omega) ?_
  intro x5 own5 hb5
  refine hK.out _ _ (j3.trans (hb5.mono hg)) (fun _ => ?_)
  clear hK K
  try simp only [Act.put, List.setIfInBounds_toArray, List.set_cons_zero, List.set_cons_succ]
  refine lin_done ?_
  go_wp2_with fail
  go_ret
  rw [List.nil_append, List.drop_zero, splice_quad2 zs k n v hl (by omega)] at own5
  exact ⟨_, rfl, own_base own5 (Nat.le_succ _), HB.out.trans ((j3.trans (hb5.mono hg)).mono (Nat.le_succ _))⟩

set_option maxHeartbeats 1000000 in
theorem store_yes4 (k : Nat) (h : Row w w.heap.size 1 (.slice A n c) n (zs.map (Value.int .u8))) (hn : n ≤ 140737488355328) (hk : (k : Int) ≤ 4294967295) (hv : 0 ≤ v ∧ v ≤ 4294967295) (hck : checkZ 4 k n = 0) :
    Calls Try.prog 16 #[.slice A n c, .agg #[.int .i64 (k : Int), .int .i64 4, .int .u32 v]] w fun e w' => ∃ v', e = .returned v' ∧ w'.ownsRow w.heap.size 5 1 v' n ((put4 zs k v).map (Value.int .u8)) ∧ Below w.heap.size w w' := by
  obtain ⟨_, hr⟩ := checkZ_zero hck
  have HQ := Lib.hid (show storeOk 4 k n = true from decide_eq_true ⟨by omega, by omega, hk, hck⟩)
  have hkn : k + 4 ≤ n := by omega
  have hk0 : (0 : Int) ≤ k := by omega
  obtain ⟨v0, v9⟩ := hv
  clear hck
  obtain ⟨i0, hi, hz0, hz1, hz2⟩ := info_parts info_u8
  have HZ2 := Lib.hid hz2
  clear hz2
  have hl : zs.length = n := by have := h.len; simpa using this
  obtain ⟨u1, u2⟩ := h.cap
  have hR := h.alloc (Nat.le_refl _) (.cells #[.int .i64 (k : Int), .int .i64 4, .int .u32 v] 25)
  have hbase : w.heap.size + 1 ≤ (w.alloc (.cells #[.int .i64 (k : Int), .int .i64 4, .int .u32 v] 25)).heap.size := by simp
  have HW := Lib.hid ((Below.refl w.heap.size w).alloc (Nat.le_refl _) (.cells #[.int .i64 (k : Int), .int .i64 4, .int .u32 v] 25))
  have c0 : (w.alloc (.cells #[.int .i64 (k : Int), .int .i64 4, .int .u32 v] 25)).cell? ⟨w.heap.size, 0, none⟩ = some (.int .i64 (k : Int)) := by go_simp
  have c1 : (w.alloc (.cells #[.int .i64 (k : Int), .int .i64 4, .int .u32 v] 25)).cell? ⟨w.heap.size, 1, none⟩ = some (.int .i64 4) := by go_simp
  have c2 : (w.alloc (.cells #[.int .i64 (k : Int), .int .i64 4, .int .u32 v] 25)).cell? ⟨w.heap.size, 2, none⟩ = some (.int .u32 v) := by go_simp
  go_enter Try.func16, Try.ntmps16
  go_wp2_with (at_builtin; refine wpList_append_row _ rfl (.const (.slice none 0 0)) (.tmp 6) 22 rfl (w.heap.size + 1) 5 i0 (.int .u8 0) 1 1 Try.underlying22 hi hz0 hz1 HZ2.out rfl (by omega) (.slice none 0 0) 0 [] rfl (World.ownsRow_nil _ _ _ _) _ _ n _ rfl hR (u8_one _) (by unfold maxLen; omega) (by omega) hbase ?_; intro v1 w1 hown1 hg1; simp only [Nat.zero_add, List.nil_append] at hown1; have k1 : Below (w.heap.size + 1) (w.alloc (.cells #[.int .i64 (k : Int), .int .i64 4, .int .u32 v] 25)) w1 := Below.grown (Below.refl _ _) hg1 hbase (fun k hk => by cases hk); have d0 := below_cell k1 (Nat.lt_succ_self _) c0; have d1 := below_cell k1 (Nat.lt_succ_self _) c1; have d2 := below_cell k1 (Nat.lt_succ_self _) c2)
  refine (fits_any k 4 v n _ (by omega) (by omega)).mono ?_; rintro e w2 ⟨rfl, hb2⟩
  rw [HQ.out]
  obtain ⟨g, cap, rfl, hg, hgs⟩ := own_form hown1 (by omega)
  have hz1 : w.heap.size + 1 ≤ w1.heap.size := by have := k1.size; simp at this; omega
  have e0 := below_cell hb2 (by omega) d0
  have e1 := below_cell hb2 (by omega) d1
  have e2 := below_cell hb2 (by omega) d2
  have hown2 := own_below hown1 hb2
  obtain ⟨cur, hgcur, _, hcap1, hcap2, _⟩ := own_block hown2
  have hcap3 : cap ≤ 9223372036854775807 := by unfold maxLen at hcap2; omega
  have HB := Lib.hid ((HW.out.trans (k1.mono (Nat.le_succ _))).trans (hb2.mono (by have := k1.size; simp at this; omega)))
  have hz2 : w.heap.size < w2.heap.size := by have := hb2.size; omega
  clear hb2 d0 d1 d2 c0 c1 c2 k1 hR hown1
  go_wp2_with fail
  have f0 : ∀ x, Below (w.heap.size + 1) w2 x → _ := fun x hx => below_cell hx (Nat.lt_succ_self _) e0
  have f1 : ∀ x, Below (w.heap.size + 1) w2 x → _ := fun x hx => below_cell hx (Nat.lt_succ_self _) e1
  have f2 : ∀ x, Below (w.heap.size + 1) w2 x → _ := fun x hx => below_cell hx (Nat.lt_succ_self _) e2
  have i0' : Kept w2 w2.drew := (Kept.refl w2).drew
  have j0 : Below (w.heap.size + 1) w2 w2.drew := Below.drew (Below.refl _ _)
  clear e0 e1 e2
  refine wp_region_lin [(0, true), (1, true), (2, true), (3, true), (4, true), (5, true), (7, true), (8, true), (6, false), (9, true), (10, false)]
    (by kernel_rfl) (by kernel_rfl) rfl (by kernel_rfl) (Below (w.heap.size + 1) w2) ?_
  simp only [List.map_cons, List.map_nil, List.getElem?_toArray, List.getElem?_cons_succ, List.getElem?_cons_zero]
  iterate 3 (refine lin_take (v := ?_) (by assumption) (by rfl) ?_ ?_; rotate_left; (intro x hx; (try dsimp only at hx); go_simp; try (with_reducible rfl)); (simp only [Act.put, List.setIfInBounds_toArray, List.set_cons_zero, List.set_cons_succ]))
  refine lin_take (v := .slice (some ⟨g, k, none⟩) (n - k) (cap - k)) (by assumption) (by rfl) (fun x hx => ?_) ?_
  · go_simp
    rw [if_pos (show k ≤ n by omega), if_neg (show ¬ cap = k by omega)]
  simp only [Act.put, List.setIfInBounds_toArray, List.set_cons_zero, List.set_cons_succ]
  iterate 4 (refine lin_take (v := ?_) (by assumption) (by rfl) ?_ ?_; rotate_left; (intro x hx; (try dsimp only at hx); go_simp; try (with_reducible rfl)); (simp only [Act.put, List.setIfInBounds_toArray, List.set_cons_zero, List.set_cons_succ]))
  refine lin_call (by assumption) (by rfl) (fun K hK => ?_)
  go_simp
  refine (put_any v v0 (by omega) (Row.nil _ _ _) (by simp) (by omega)).mono ?_; rintro e x3 ⟨rfl, own3, hb3⟩
  have i3 := i0'.to hb3
  have j3 : Below (w.heap.size + 1) w2 x3 := Below.mono i3 hz2
  go_wp2_with fail
  refine hK.out _ _ j3 (fun _ => ?_)
  clear hK K
  try simp only [Act.put, List.setIfInBounds_toArray, List.set_cons_zero, List.set_cons_succ]
  have hg2 : g < w2.heap.size := by have := (Array.getElem?_eq_some_iff.1 hgcur).1; exact this
  have own4 := own_below hown2 i3
  have row4 := (Row.of_own own3)
  clear hb3 own3
  refine lin_take (v := .slice (some ⟨w2.heap.size, 0, none⟩) 4 4) (by assumption) (by rfl) (fun x hx => ?_) ?_
  · go_simp
  simp only [Act.put, List.setIfInBounds_toArray, List.set_cons_zero, List.set_cons_succ]
  refine lin_call (by assumption) (by rfl) (fun K hK => ?_)
  refine wp_copy_rows (.tmp 17) (.tmp 23) 22 22 rfl 5 Try.underlying22 (by kernel_rfl) (w.heap.size + 1) g n cap k (n - k) (cap - k) _ own4 (by go_simp) _ 4 4 _ _ (by go_simp) (row4.cut (k := 0) (m := 4) (by omega) (by omega)) (fun u hu => quad_one v u (List.mem_of_mem_take (by simpa using hu))) (by omega) ?_
  intro x5 own5 hb5
  refine hK.out _ _ (j3.trans (hb5.mono hg)) (fun _ => ?_)
  clear hK K
  try simp only [Act.put, List.setIfInBounds_toArray, List.set_cons_zero, List.set_cons_succ]
  refine lin_done ?_
  go_wp2_with fail
  go_ret
  rw [List.nil_append, List.drop_zero, splice_quad4 zs k n v ⟨v0, v9⟩ hl (by omega)] at own5
  exact ⟨_, rfl, own_base own5 (Nat.le_succ _), HB.out.trans ((j3.trans (hb5.mono hg)).mono (Nat.le_succ _))⟩

theorem store_any (size addr : Int) (h : Row w w.heap.size 1 (.slice A n c) n (zs.map (Value.int .u8))) (hn : n ≤ 140737488355328) (hs : -9223372036854775808 ≤ size ∧ size ≤ 9223372036854775807) (hv : 0 ≤ v ∧ v ≤ 4294967295) :
    Calls Try.prog 16 #[.slice A n c, .agg #[.int .i64 addr, .int .i64 size, .int .u32 v]] w fun e w' => ∃ v', e = .returned v' ∧ w'.ownsRow w.heap.size 5 1 v' n ((storeZ zs size addr v).map (Value.int .u8)) ∧ Below w.heap.size w w' := by
  have hl : zs.length = n := by have := h.len; simpa using this
  cases hq : storeOk size addr n
  · rw [storeZ_no (by rw [hl]; exact hq)]
    exact store_no A c n zs v w size addr h hn hs hq
  · obtain ⟨hsz, h0, h1, hck⟩ := storeOk_yes hq
    obtain ⟨k, rfl⟩ := Int.eq_ofNat_of_zero_le h0
    unfold storeZ
    rw [if_pos (by rw [hl]; exact hq)]
    rcases hsz with rfl | rfl | rfl
    · exact store_yes1 A c n zs v w k h hn h1 hv hck
    · exact store_yes2 A c n zs v w k h hn h1 hv hck
    · exact store_yes4 A c n zs v w k h hn h1 hv hck
end
end Go.Proofs.Ytkmflgfhhlhgeaa.Words

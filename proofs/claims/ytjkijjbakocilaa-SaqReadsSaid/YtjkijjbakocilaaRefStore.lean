/- Contract of the document's own Store: a memory of the call's own. -/
import Derived.Test.YtjkijjbakocilaaRefSizes
import Derived.Test.YtjkijjbakocilaaByteRow
import Derived.Test.YtjkijjbakocilaaRowLaws
import Derived.Test.YtjkijjbakocilaaOwn
import Derived.Test.YtjkijjbakocilaaInfo8
import Derived.LoopTactic
import Derived.LoopN
namespace Go.Proofs.Ytjkijjbakocilaa.Words
set_option maxRecDepth 100000
open Go.RowKit
set_option linter.unusedVariables false

section
variable (A : Option Addr) (c n : Nat) (zs : List Int) (v : Int) (w : World)

set_option maxHeartbeats 2000000 in
theorem refStore_size (size addr : Int) (h : Row w w.heap.size 1 (.slice A n c) n (zs.map (Value.int .u8))) (hn : n ≤ 140737488355328) (hs : -9223372036854775808 ≤ size ∧ size ≤ 9223372036854775807) (hq : size ≠ 1 ∧ size ≠ 2 ∧ size ≠ 4) :
    Calls Try.prog 18 #[.slice A n c, .agg #[.int .i64 addr, .int .i64 size, .int .u32 v]] w fun e w' => ∃ v', e = .returned v' ∧ w'.ownsRow w.heap.size 5 1 v' n ((zs).map (Value.int .u8)) ∧ Below w.heap.size w w' := by
  obtain ⟨i0, hi, hz0, hz1, hz2⟩ := info_parts info_u8
  have HZ2 := Lib.hid hz2
  clear hz2
  have hl : zs.length = n := by have := h.len; simpa using this
  obtain ⟨u1, u2⟩ := h.cap
  have hR := h.alloc (Nat.le_refl _) (.cells #[.int .i64 addr, .int .i64 size, .int .u32 v] 41)
  have hbase : w.heap.size + 1 ≤ (w.alloc (.cells #[.int .i64 addr, .int .i64 size, .int .u32 v] 41)).heap.size := by simp
  have HW := Lib.hid ((Below.refl w.heap.size w).alloc (Nat.le_refl _) (.cells #[.int .i64 addr, .int .i64 size, .int .u32 v] 41))
  have c0 : (w.alloc (.cells #[.int .i64 addr, .int .i64 size, .int .u32 v] 41)).cell? ⟨w.heap.size, 0, none⟩ = some (.int .i64 addr) := by go_simp
  have c1 : (w.alloc (.cells #[.int .i64 addr, .int .i64 size, .int .u32 v] 41)).cell? ⟨w.heap.size, 1, none⟩ = some (.int .i64 size) := by go_simp
  have c2 : (w.alloc (.cells #[.int .i64 addr, .int .i64 size, .int .u32 v] 41)).cell? ⟨w.heap.size, 2, none⟩ = some (.int .u32 v) := by go_simp
  obtain ⟨q1, q2, q3⟩ := hq
  have e1 : (size != 1) = true := by simp; exact q1
  have e2 : (size != 2) = true := by simp; exact q2
  have e3 : (size != 4) = true := by simp; exact q3
  go_enter Try.func18, Try.ntmps18
  go_wp2_with (at_builtin; refine wpList_append_row _ rfl (.const (.slice none 0 0)) (.tmp 7) 37 rfl (w.heap.size + 1) 5 i0 (.int .u8 0) 1 1 Try.underlying37 hi hz0 hz1 HZ2.out rfl (by omega) (.slice none 0 0) 0 [] rfl (World.ownsRow_nil _ _ _ _) _ _ n _ rfl hR (u8_one _) (by unfold maxLen; omega) (by omega) hbase ?_; intro v1 w1 hown1 hg1; simp only [Nat.zero_add, List.nil_append] at hown1; have k1 : Below (w.heap.size + 1) (w.alloc (.cells #[.int .i64 addr, .int .i64 size, .int .u32 v] 41)) w1 := Below.grown (Below.refl _ _) hg1 hbase (fun k hk => by cases hk); have d0 := below_cell k1 (Nat.lt_succ_self _) c0; have d1 := below_cell k1 (Nat.lt_succ_self _) c1; have d2 := below_cell k1 (Nat.lt_succ_self _) c2)
  go_ret
  exact ⟨_, rfl, own_base hown1 (Nat.le_succ _), HW.out.trans (k1.mono (Nat.le_succ _))⟩

set_option maxHeartbeats 2000000 in
theorem refStore_low1 (addr : Int) (h : Row w w.heap.size 1 (.slice A n c) n (zs.map (Value.int .u8))) (hn : n ≤ 140737488355328) (ha : addr < 0) :
    Calls Try.prog 18 #[.slice A n c, .agg #[.int .i64 addr, .int .i64 1, .int .u32 v]] w fun e w' => ∃ v', e = .returned v' ∧ w'.ownsRow w.heap.size 5 1 v' n ((zs).map (Value.int .u8)) ∧ Below w.heap.size w w' := by
  obtain ⟨i0, hi, hz0, hz1, hz2⟩ := info_parts info_u8
  have HZ2 := Lib.hid hz2
  clear hz2
  have hl : zs.length = n := by have := h.len; simpa using this
  obtain ⟨u1, u2⟩ := h.cap
  have hR := h.alloc (Nat.le_refl _) (.cells #[.int .i64 addr, .int .i64 1, .int .u32 v] 41)
  have hbase : w.heap.size + 1 ≤ (w.alloc (.cells #[.int .i64 addr, .int .i64 1, .int .u32 v] 41)).heap.size := by simp
  have HW := Lib.hid ((Below.refl w.heap.size w).alloc (Nat.le_refl _) (.cells #[.int .i64 addr, .int .i64 1, .int .u32 v] 41))
  have c0 : (w.alloc (.cells #[.int .i64 addr, .int .i64 1, .int .u32 v] 41)).cell? ⟨w.heap.size, 0, none⟩ = some (.int .i64 addr) := by go_simp
  have c1 : (w.alloc (.cells #[.int .i64 addr, .int .i64 1, .int .u32 v] 41)).cell? ⟨w.heap.size, 1, none⟩ = some (.int .i64 1) := by go_simp
  have c2 : (w.alloc (.cells #[.int .i64 addr, .int .i64 1, .int .u32 v] 41)).cell? ⟨w.heap.size, 2, none⟩ = some (.int .u32 v) := by go_simp
  go_enter Try.func18, Try.ntmps18
  go_wp2_with (at_builtin; refine wpList_append_row _ rfl (.const (.slice none 0 0)) (.tmp 7) 37 rfl (w.heap.size + 1) 5 i0 (.int .u8 0) 1 1 Try.underlying37 hi hz0 hz1 HZ2.out rfl (by omega) (.slice none 0 0) 0 [] rfl (World.ownsRow_nil _ _ _ _) _ _ n _ rfl hR (u8_one _) (by unfold maxLen; omega) (by omega) hbase ?_; intro v1 w1 hown1 hg1; simp only [Nat.zero_add, List.nil_append] at hown1; have k1 : Below (w.heap.size + 1) (w.alloc (.cells #[.int .i64 addr, .int .i64 1, .int .u32 v] 41)) w1 := Below.grown (Below.refl _ _) hg1 hbase (fun k hk => by cases hk); have d0 := below_cell k1 (Nat.lt_succ_self _) c0; have d1 := below_cell k1 (Nat.lt_succ_self _) c1; have d2 := below_cell k1 (Nat.lt_succ_self _) c2)
  go_ret
  exact ⟨_, rfl, own_base hown1 (Nat.le_succ _), HW.out.trans (k1.mono (Nat.le_succ _))⟩

set_option maxHeartbeats 2000000 in
theorem refStore_high1 (addr : Int) (h : Row w w.heap.size 1 (.slice A n c) n (zs.map (Value.int .u8))) (hn : n ≤ 140737488355328) (ha : 4294967295 < addr) :
    Calls Try.prog 18 #[.slice A n c, .agg #[.int .i64 addr, .int .i64 1, .int .u32 v]] w fun e w' => ∃ v', e = .returned v' ∧ w'.ownsRow w.heap.size 5 1 v' n ((zs).map (Value.int .u8)) ∧ Below w.heap.size w w' := by
  obtain ⟨i0, hi, hz0, hz1, hz2⟩ := info_parts info_u8
  have HZ2 := Lib.hid hz2
  clear hz2
  have hl : zs.length = n := by have := h.len; simpa using this
  obtain ⟨u1, u2⟩ := h.cap
  have hR := h.alloc (Nat.le_refl _) (.cells #[.int .i64 addr, .int .i64 1, .int .u32 v] 41)
  have hbase : w.heap.size + 1 ≤ (w.alloc (.cells #[.int .i64 addr, .int .i64 1, .int .u32 v] 41)).heap.size := by simp
  have HW := Lib.hid ((Below.refl w.heap.size w).alloc (Nat.le_refl _) (.cells #[.int .i64 addr, .int .i64 1, .int .u32 v] 41))
  have c0 : (w.alloc (.cells #[.int .i64 addr, .int .i64 1, .int .u32 v] 41)).cell? ⟨w.heap.size, 0, none⟩ = some (.int .i64 addr) := by go_simp
  have c1 : (w.alloc (.cells #[.int .i64 addr, .int .i64 1, .int .u32 v] 41)).cell? ⟨w.heap.size, 1, none⟩ = some (.int .i64 1) := by go_simp
  have c2 : (w.alloc (.cells #[.int .i64 addr, .int .i64 1, .int .u32 v] 41)).cell? ⟨w.heap.size, 2, none⟩ = some (.int .u32 v) := by go_simp
  go_enter Try.func18, Try.ntmps18
  go_wp2_with (at_builtin; refine wpList_append_row _ rfl (.const (.slice none 0 0)) (.tmp 7) 37 rfl (w.heap.size + 1) 5 i0 (.int .u8 0) 1 1 Try.underlying37 hi hz0 hz1 HZ2.out rfl (by omega) (.slice none 0 0) 0 [] rfl (World.ownsRow_nil _ _ _ _) _ _ n _ rfl hR (u8_one _) (by unfold maxLen; omega) (by omega) hbase ?_; intro v1 w1 hown1 hg1; simp only [Nat.zero_add, List.nil_append] at hown1; have k1 : Below (w.heap.size + 1) (w.alloc (.cells #[.int .i64 addr, .int .i64 1, .int .u32 v] 41)) w1 := Below.grown (Below.refl _ _) hg1 hbase (fun k hk => by cases hk); have d0 := below_cell k1 (Nat.lt_succ_self _) c0; have d1 := below_cell k1 (Nat.lt_succ_self _) c1; have d2 := below_cell k1 (Nat.lt_succ_self _) c2)
  go_ret
  exact ⟨_, rfl, own_base hown1 (Nat.le_succ _), HW.out.trans (k1.mono (Nat.le_succ _))⟩

set_option maxHeartbeats 2000000 in
theorem refStore_bad1 (addr : Int) (h : Row w w.heap.size 1 (.slice A n c) n (zs.map (Value.int .u8))) (hn : n ≤ 140737488355328) (h0 : 0 ≤ addr) (h1 : addr ≤ 4294967295) (hck : checkZ 1 addr n ≠ 0) :
    Calls Try.prog 18 #[.slice A n c, .agg #[.int .i64 addr, .int .i64 1, .int .u32 v]] w fun e w' => ∃ v', e = .returned v' ∧ w'.ownsRow w.heap.size 5 1 v' n ((zs).map (Value.int .u8)) ∧ Below w.heap.size w w' := by
  obtain ⟨i0, hi, hz0, hz1, hz2⟩ := info_parts info_u8
  have HZ2 := Lib.hid hz2
  clear hz2
  have hl : zs.length = n := by have := h.len; simpa using this
  obtain ⟨u1, u2⟩ := h.cap
  have hR := h.alloc (Nat.le_refl _) (.cells #[.int .i64 addr, .int .i64 1, .int .u32 v] 41)
  have hbase : w.heap.size + 1 ≤ (w.alloc (.cells #[.int .i64 addr, .int .i64 1, .int .u32 v] 41)).heap.size := by simp
  have HW := Lib.hid ((Below.refl w.heap.size w).alloc (Nat.le_refl _) (.cells #[.int .i64 addr, .int .i64 1, .int .u32 v] 41))
  have c0 : (w.alloc (.cells #[.int .i64 addr, .int .i64 1, .int .u32 v] 41)).cell? ⟨w.heap.size, 0, none⟩ = some (.int .i64 addr) := by go_simp
  have c1 : (w.alloc (.cells #[.int .i64 addr, .int .i64 1, .int .u32 v] 41)).cell? ⟨w.heap.size, 1, none⟩ = some (.int .i64 1) := by go_simp
  have c2 : (w.alloc (.cells #[.int .i64 addr, .int .i64 1, .int .u32 v] 41)).cell? ⟨w.heap.size, 2, none⟩ = some (.int .u32 v) := by go_simp
  have e1 : (checkZ 1 addr n != 0) = true := by simp; exact hck
  have e2 : addr % 4294967296 = addr := by omega
  clear hck
  go_enter Try.func18, Try.ntmps18
  go_wp2_with (at_builtin; refine wpList_append_row _ rfl (.const (.slice none 0 0)) (.tmp 7) 37 rfl (w.heap.size + 1) 5 i0 (.int .u8 0) 1 1 Try.underlying37 hi hz0 hz1 HZ2.out rfl (by omega) (.slice none 0 0) 0 [] rfl (World.ownsRow_nil _ _ _ _) _ _ n _ rfl hR (u8_one _) (by unfold maxLen; omega) (by omega) hbase ?_; intro v1 w1 hown1 hg1; simp only [Nat.zero_add, List.nil_append] at hown1; have k1 : Below (w.heap.size + 1) (w.alloc (.cells #[.int .i64 addr, .int .i64 1, .int .u32 v] 41)) w1 := Below.grown (Below.refl _ _) hg1 hbase (fun k hk => by cases hk); have d0 := below_cell k1 (Nat.lt_succ_self _) c0; have d1 := below_cell k1 (Nat.lt_succ_self _) c1; have d2 := below_cell k1 (Nat.lt_succ_self _) c2)
  refine (refCheck_any 1 addr n _ h0 h1 (by omega) (by omega)).mono ?_; rintro e w2 ⟨rfl, rfl⟩
  go_wp2_with fail
  go_ret
  exact ⟨_, rfl, own_base hown1 (Nat.le_succ _), HW.out.trans (k1.mono (Nat.le_succ _))⟩

set_option maxHeartbeats 4000000 in
theorem refStore_yes1 (k : Nat) (h : Row w w.heap.size 1 (.slice A n c) n (zs.map (Value.int .u8))) (hn : n ≤ 140737488355328) (hk : (k : Int) ≤ 4294967295) (hv : 0 ≤ v ∧ v ≤ 4294967295) (hck : checkZ 1 k n = 0) :
    Calls Try.prog 18 #[.slice A n c, .agg #[.int .i64 (k : Int), .int .i64 1, .int .u32 v]] w fun e w' => ∃ v', e = .returned v' ∧ w'.ownsRow w.heap.size 5 1 v' n ((put1 zs k v).map (Value.int .u8)) ∧ Below w.heap.size w w' := by
  obtain ⟨_, hr⟩ := checkZ_zero hck
  have HCK := Lib.hid hck
  have hkn : k + 0 < n := by omega
  have hk0 : (0 : Int) ≤ k := by omega
  obtain ⟨v0, v9⟩ := hv
  clear hck
  obtain ⟨i0, hi, hz0, hz1, hz2⟩ := info_parts info_u8
  have HZ2 := Lib.hid hz2
  clear hz2
  have hl : zs.length = n := by have := h.len; simpa using this
  obtain ⟨u1, u2⟩ := h.cap
  have hR := h.alloc (Nat.le_refl _) (.cells #[.int .i64 (k : Int), .int .i64 1, .int .u32 v] 41)
  have hbase : w.heap.size + 1 ≤ (w.alloc (.cells #[.int .i64 (k : Int), .int .i64 1, .int .u32 v] 41)).heap.size := by simp
  have HW := Lib.hid ((Below.refl w.heap.size w).alloc (Nat.le_refl _) (.cells #[.int .i64 (k : Int), .int .i64 1, .int .u32 v] 41))
  have c0 : (w.alloc (.cells #[.int .i64 (k : Int), .int .i64 1, .int .u32 v] 41)).cell? ⟨w.heap.size, 0, none⟩ = some (.int .i64 (k : Int)) := by go_simp
  have c1 : (w.alloc (.cells #[.int .i64 (k : Int), .int .i64 1, .int .u32 v] 41)).cell? ⟨w.heap.size, 1, none⟩ = some (.int .i64 1) := by go_simp
  have c2 : (w.alloc (.cells #[.int .i64 (k : Int), .int .i64 1, .int .u32 v] 41)).cell? ⟨w.heap.size, 2, none⟩ = some (.int .u32 v) := by go_simp
  have e2 : (k : Int) % 4294967296 = k := by omega
  go_enter Try.func18, Try.ntmps18
  go_wp2_with (at_builtin; refine wpList_append_row _ rfl (.const (.slice none 0 0)) (.tmp 7) 37 rfl (w.heap.size + 1) 5 i0 (.int .u8 0) 1 1 Try.underlying37 hi hz0 hz1 HZ2.out rfl (by omega) (.slice none 0 0) 0 [] rfl (World.ownsRow_nil _ _ _ _) _ _ n _ rfl hR (u8_one _) (by unfold maxLen; omega) (by omega) hbase ?_; intro v1 w1 hown1 hg1; simp only [Nat.zero_add, List.nil_append] at hown1; have k1 : Below (w.heap.size + 1) (w.alloc (.cells #[.int .i64 (k : Int), .int .i64 1, .int .u32 v] 41)) w1 := Below.grown (Below.refl _ _) hg1 hbase (fun k hk => by cases hk); have d0 := below_cell k1 (Nat.lt_succ_self _) c0; have d1 := below_cell k1 (Nat.lt_succ_self _) c1; have d2 := below_cell k1 (Nat.lt_succ_self _) c2; obtain ⟨g, cap, rfl, hg0, hgs⟩ := own_form hown1 (by omega); have q0 := own_u8 hown1 k (by omega); have f0 := hown1.frozenAt k)
  refine (refCheck_any 1 k n _ (by omega) hk (by omega) (by omega)).mono ?_; rintro e w2 ⟨rfl, rfl⟩
  rw [HCK.out]
  go_wp2_with fail
  refine wp_loop_rounds 2 ?_
  iterate 2 (rw [rounds_succ]; go_wp2_with fail)
  go_ret
  have o0 := (hown1.stored k (.int .u8 (v % 256))).1
  rw [← List.map_set] at o0
  refine ⟨_, rfl, own_base o0 (Nat.le_succ _), ?_⟩
  exact HW.out.trans (Below.setCell (k1.mono (Nat.le_succ _)) (by simp; omega) _)

set_option maxHeartbeats 2000000 in
theorem refStore_low2 (addr : Int) (h : Row w w.heap.size 1 (.slice A n c) n (zs.map (Value.int .u8))) (hn : n ≤ 140737488355328) (ha : addr < 0) :
    Calls Try.prog 18 #[.slice A n c, .agg #[.int .i64 addr, .int .i64 2, .int .u32 v]] w fun e w' => ∃ v', e = .returned v' ∧ w'.ownsRow w.heap.size 5 1 v' n ((zs).map (Value.int .u8)) ∧ Below w.heap.size w w' := by
  obtain ⟨i0, hi, hz0, hz1, hz2⟩ := info_parts info_u8
  have HZ2 := Lib.hid hz2
  clear hz2
  have hl : zs.length = n := by have := h.len; simpa using this
  obtain ⟨u1, u2⟩ := h.cap
  have hR := h.alloc (Nat.le_refl _) (.cells #[.int .i64 addr, .int .i64 2, .int .u32 v] 41)
  have hbase : w.heap.size + 1 ≤ (w.alloc (.cells #[.int .i64 addr, .int .i64 2, .int .u32 v] 41)).heap.size := by simp
  have HW := Lib.hid ((Below.refl w.heap.size w).alloc (Nat.le_refl _) (.cells #[.int .i64 addr, .int .i64 2, .int .u32 v] 41))
  have c0 : (w.alloc (.cells #[.int .i64 addr, .int .i64 2, .int .u32 v] 41)).cell? ⟨w.heap.size, 0, none⟩ = some (.int .i64 addr) := by go_simp
  have c1 : (w.alloc (.cells #[.int .i64 addr, .int .i64 2, .int .u32 v] 41)).cell? ⟨w.heap.size, 1, none⟩ = some (.int .i64 2) := by go_simp
  have c2 : (w.alloc (.cells #[.int .i64 addr, .int .i64 2, .int .u32 v] 41)).cell? ⟨w.heap.size, 2, none⟩ = some (.int .u32 v) := by go_simp
  go_enter Try.func18, Try.ntmps18
  go_wp2_with (at_builtin; refine wpList_append_row _ rfl (.const (.slice none 0 0)) (.tmp 7) 37 rfl (w.heap.size + 1) 5 i0 (.int .u8 0) 1 1 Try.underlying37 hi hz0 hz1 HZ2.out rfl (by omega) (.slice none 0 0) 0 [] rfl (World.ownsRow_nil _ _ _ _) _ _ n _ rfl hR (u8_one _) (by unfold maxLen; omega) (by omega) hbase ?_; intro v1 w1 hown1 hg1; simp only [Nat.zero_add, List.nil_append] at hown1; have k1 : Below (w.heap.size + 1) (w.alloc (.cells #[.int .i64 addr, .int .i64 2, .int .u32 v] 41)) w1 := Below.grown (Below.refl _ _) hg1 hbase (fun k hk => by cases hk); have d0 := below_cell k1 (Nat.lt_succ_self _) c0; have d1 := below_cell k1 (Nat.lt_succ_self _) c1; have d2 := below_cell k1 (Nat.lt_succ_self _) c2)
  go_ret
  exact ⟨_, rfl, own_base hown1 (Nat.le_succ _), HW.out.trans (k1.mono (Nat.le_succ _))⟩

set_option maxHeartbeats 2000000 in
theorem refStore_high2 (addr : Int) (h : Row w w.heap.size 1 (.slice A n c) n (zs.map (Value.int .u8))) (hn : n ≤ 140737488355328) (ha : 4294967295 < addr) :
    Calls Try.prog 18 #[.slice A n c, .agg #[.int .i64 addr, .int .i64 2, .int .u32 v]] w fun e w' => ∃ v', e = .returned v' ∧ w'.ownsRow w.heap.size 5 1 v' n ((zs).map (Value.int .u8)) ∧ Below w.heap.size w w' := by
  obtain ⟨i0, hi, hz0, hz1, hz2⟩ := info_parts info_u8
  have HZ2 := Lib.hid hz2
  clear hz2
  have hl : zs.length = n := by have := h.len; simpa using this
  obtain ⟨u1, u2⟩ := h.cap
  have hR := h.alloc (Nat.le_refl _) (.cells #[.int .i64 addr, .int .i64 2, .int .u32 v] 41)
  have hbase : w.heap.size + 1 ≤ (w.alloc (.cells #[.int .i64 addr, .int .i64 2, .int .u32 v] 41)).heap.size := by simp
  have HW := Lib.hid ((Below.refl w.heap.size w).alloc (Nat.le_refl _) (.cells #[.int .i64 addr, .int .i64 2, .int .u32 v] 41))
  have c0 : (w.alloc (.cells #[.int .i64 addr, .int .i64 2, .int .u32 v] 41)).cell? ⟨w.heap.size, 0, none⟩ = some (.int .i64 addr) := by go_simp
  have c1 : (w.alloc (.cells #[.int .i64 addr, .int .i64 2, .int .u32 v] 41)).cell? ⟨w.heap.size, 1, none⟩ = some (.int .i64 2) := by go_simp
  have c2 : (w.alloc (.cells #[.int .i64 addr, .int .i64 2, .int .u32 v] 41)).cell? ⟨w.heap.size, 2, none⟩ = some (.int .u32 v) := by go_simp
  go_enter Try.func18, Try.ntmps18
  go_wp2_with (at_builtin; refine wpList_append_row _ rfl (.const (.slice none 0 0)) (.tmp 7) 37 rfl (w.heap.size + 1) 5 i0 (.int .u8 0) 1 1 Try.underlying37 hi hz0 hz1 HZ2.out rfl (by omega) (.slice none 0 0) 0 [] rfl (World.ownsRow_nil _ _ _ _) _ _ n _ rfl hR (u8_one _) (by unfold maxLen; omega) (by omega) hbase ?_; intro v1 w1 hown1 hg1; simp only [Nat.zero_add, List.nil_append] at hown1; have k1 : Below (w.heap.size + 1) (w.alloc (.cells #[.int .i64 addr, .int .i64 2, .int .u32 v] 41)) w1 := Below.grown (Below.refl _ _) hg1 hbase (fun k hk => by cases hk); have d0 := below_cell k1 (Nat.lt_succ_self _) c0; have d1 := below_cell k1 (Nat.lt_succ_self _) c1; have d2 := below_cell k1 (Nat.lt_succ_self _) c2)
  go_ret
  exact ⟨_, rfl, own_base hown1 (Nat.le_succ _), HW.out.trans (k1.mono (Nat.le_succ _))⟩

set_option maxHeartbeats 2000000 in
theorem refStore_bad2 (addr : Int) (h : Row w w.heap.size 1 (.slice A n c) n (zs.map (Value.int .u8))) (hn : n ≤ 140737488355328) (h0 : 0 ≤ addr) (h1 : addr ≤ 4294967295) (hck : checkZ 2 addr n ≠ 0) :
    Calls Try.prog 18 #[.slice A n c, .agg #[.int .i64 addr, .int .i64 2, .int .u32 v]] w fun e w' => ∃ v', e = .returned v' ∧ w'.ownsRow w.heap.size 5 1 v' n ((zs).map (Value.int .u8)) ∧ Below w.heap.size w w' := by
  obtain ⟨i0, hi, hz0, hz1, hz2⟩ := info_parts info_u8
  have HZ2 := Lib.hid hz2
  clear hz2
  have hl : zs.length = n := by have := h.len; simpa using this
  obtain ⟨u1, u2⟩ := h.cap
  have hR := h.alloc (Nat.le_refl _) (.cells #[.int .i64 addr, .int .i64 2, .int .u32 v] 41)
  have hbase : w.heap.size + 1 ≤ (w.alloc (.cells #[.int .i64 addr, .int .i64 2, .int .u32 v] 41)).heap.size := by simp
  have HW := Lib.hid ((Below.refl w.heap.size w).alloc (Nat.le_refl _) (.cells #[.int .i64 addr, .int .i64 2, .int .u32 v] 41))
  have c0 : (w.alloc (.cells #[.int .i64 addr, .int .i64 2, .int .u32 v] 41)).cell? ⟨w.heap.size, 0, none⟩ = some (.int .i64 addr) := by go_simp
  have c1 : (w.alloc (.cells #[.int .i64 addr, .int .i64 2, .int .u32 v] 41)).cell? ⟨w.heap.size, 1, none⟩ = some (.int .i64 2) := by go_simp
  have c2 : (w.alloc (.cells #[.int .i64 addr, .int .i64 2, .int .u32 v] 41)).cell? ⟨w.heap.size, 2, none⟩ = some (.int .u32 v) := by go_simp
  have e1 : (checkZ 2 addr n != 0) = true := by simp; exact hck
  have e2 : addr % 4294967296 = addr := by omega
  clear hck
  go_enter Try.func18, Try.ntmps18
  go_wp2_with (at_builtin; refine wpList_append_row _ rfl (.const (.slice none 0 0)) (.tmp 7) 37 rfl (w.heap.size + 1) 5 i0 (.int .u8 0) 1 1 Try.underlying37 hi hz0 hz1 HZ2.out rfl (by omega) (.slice none 0 0) 0 [] rfl (World.ownsRow_nil _ _ _ _) _ _ n _ rfl hR (u8_one _) (by unfold maxLen; omega) (by omega) hbase ?_; intro v1 w1 hown1 hg1; simp only [Nat.zero_add, List.nil_append] at hown1; have k1 : Below (w.heap.size + 1) (w.alloc (.cells #[.int .i64 addr, .int .i64 2, .int .u32 v] 41)) w1 := Below.grown (Below.refl _ _) hg1 hbase (fun k hk => by cases hk); have d0 := below_cell k1 (Nat.lt_succ_self _) c0; have d1 := below_cell k1 (Nat.lt_succ_self _) c1; have d2 := below_cell k1 (Nat.lt_succ_self _) c2)
  refine (refCheck_any 2 addr n _ h0 h1 (by omega) (by omega)).mono ?_; rintro e w2 ⟨rfl, rfl⟩
  go_wp2_with fail
  go_ret
  exact ⟨_, rfl, own_base hown1 (Nat.le_succ _), HW.out.trans (k1.mono (Nat.le_succ _))⟩

set_option maxHeartbeats 4000000 in
theorem refStore_yes2 (k : Nat) (h : Row w w.heap.size 1 (.slice A n c) n (zs.map (Value.int .u8))) (hn : n ≤ 140737488355328) (hk : (k : Int) ≤ 4294967295) (hv : 0 ≤ v ∧ v ≤ 4294967295) (hck : checkZ 2 k n = 0) :
    Calls Try.prog 18 #[.slice A n c, .agg #[.int .i64 (k : Int), .int .i64 2, .int .u32 v]] w fun e w' => ∃ v', e = .returned v' ∧ w'.ownsRow w.heap.size 5 1 v' n ((put2 zs k v).map (Value.int .u8)) ∧ Below w.heap.size w w' := by
  obtain ⟨_, hr⟩ := checkZ_zero hck
  have HCK := Lib.hid hck
  have hkn : k + 1 < n := by omega
  have hk0 : (0 : Int) ≤ k := by omega
  obtain ⟨v0, v9⟩ := hv
  clear hck
  obtain ⟨i0, hi, hz0, hz1, hz2⟩ := info_parts info_u8
  have HZ2 := Lib.hid hz2
  clear hz2
  have hl : zs.length = n := by have := h.len; simpa using this
  obtain ⟨u1, u2⟩ := h.cap
  have hR := h.alloc (Nat.le_refl _) (.cells #[.int .i64 (k : Int), .int .i64 2, .int .u32 v] 41)
  have hbase : w.heap.size + 1 ≤ (w.alloc (.cells #[.int .i64 (k : Int), .int .i64 2, .int .u32 v] 41)).heap.size := by simp
  have HW := Lib.hid ((Below.refl w.heap.size w).alloc (Nat.le_refl _) (.cells #[.int .i64 (k : Int), .int .i64 2, .int .u32 v] 41))
  have c0 : (w.alloc (.cells #[.int .i64 (k : Int), .int .i64 2, .int .u32 v] 41)).cell? ⟨w.heap.size, 0, none⟩ = some (.int .i64 (k : Int)) := by go_simp
  have c1 : (w.alloc (.cells #[.int .i64 (k : Int), .int .i64 2, .int .u32 v] 41)).cell? ⟨w.heap.size, 1, none⟩ = some (.int .i64 2) := by go_simp
  have c2 : (w.alloc (.cells #[.int .i64 (k : Int), .int .i64 2, .int .u32 v] 41)).cell? ⟨w.heap.size, 2, none⟩ = some (.int .u32 v) := by go_simp
  have e2 : (k : Int) % 4294967296 = k := by omega
  go_enter Try.func18, Try.ntmps18
  go_wp2_with (at_builtin; refine wpList_append_row _ rfl (.const (.slice none 0 0)) (.tmp 7) 37 rfl (w.heap.size + 1) 5 i0 (.int .u8 0) 1 1 Try.underlying37 hi hz0 hz1 HZ2.out rfl (by omega) (.slice none 0 0) 0 [] rfl (World.ownsRow_nil _ _ _ _) _ _ n _ rfl hR (u8_one _) (by unfold maxLen; omega) (by omega) hbase ?_; intro v1 w1 hown1 hg1; simp only [Nat.zero_add, List.nil_append] at hown1; have k1 : Below (w.heap.size + 1) (w.alloc (.cells #[.int .i64 (k : Int), .int .i64 2, .int .u32 v] 41)) w1 := Below.grown (Below.refl _ _) hg1 hbase (fun k hk => by cases hk); have d0 := below_cell k1 (Nat.lt_succ_self _) c0; have d1 := below_cell k1 (Nat.lt_succ_self _) c1; have d2 := below_cell k1 (Nat.lt_succ_self _) c2; obtain ⟨g, cap, rfl, hg0, hgs⟩ := own_form hown1 (by omega); have q0 := own_u8 hown1 k (by omega); have f0 := hown1.frozenAt k; have q1 := own_u8 hown1 (k + 1) (by omega); have f1 := hown1.frozenAt (k + 1))
  refine (refCheck_any 2 k n _ (by omega) hk (by omega) (by omega)).mono ?_; rintro e w2 ⟨rfl, rfl⟩
  rw [HCK.out]
  go_wp2_with fail
  refine wp_loop_rounds 3 ?_
  iterate 3 (rw [rounds_succ]; go_wp2_with fail)
  go_ret
  have o0 := (hown1.stored k (.int .u8 (v % 256))).1
  rw [← List.map_set] at o0
  have o1 := (o0.stored (k + 1) (.int .u8 (v / 256 % 256))).1
  rw [← List.map_set] at o1
  refine ⟨_, rfl, own_base o1 (Nat.le_succ _), ?_⟩
  exact HW.out.trans (Below.setCell (Below.setCell (k1.mono (Nat.le_succ _)) (by simp; omega) _) (by simp; omega) _)

set_option maxHeartbeats 2000000 in
theorem refStore_low4 (addr : Int) (h : Row w w.heap.size 1 (.slice A n c) n (zs.map (Value.int .u8))) (hn : n ≤ 140737488355328) (ha : addr < 0) :
    Calls Try.prog 18 #[.slice A n c, .agg #[.int .i64 addr, .int .i64 4, .int .u32 v]] w fun e w' => ∃ v', e = .returned v' ∧ w'.ownsRow w.heap.size 5 1 v' n ((zs).map (Value.int .u8)) ∧ Below w.heap.size w w' := by
  obtain ⟨i0, hi, hz0, hz1, hz2⟩ := info_parts info_u8
  have HZ2 := Lib.hid hz2
  clear hz2
  have hl : zs.length = n := by have := h.len; simpa using this
  obtain ⟨u1, u2⟩ := h.cap
  have hR := h.alloc (Nat.le_refl _) (.cells #[.int .i64 addr, .int .i64 4, .int .u32 v] 41)
  have hbase : w.heap.size + 1 ≤ (w.alloc (.cells #[.int .i64 addr, .int .i64 4, .int .u32 v] 41)).heap.size := by simp
  have HW := Lib.hid ((Below.refl w.heap.size w).alloc (Nat.le_refl _) (.cells #[.int .i64 addr, .int .i64 4, .int .u32 v] 41))
  have c0 : (w.alloc (.cells #[.int .i64 addr, .int .i64 4, .int .u32 v] 41)).cell? ⟨w.heap.size, 0, none⟩ = some (.int .i64 addr) := by go_simp
  have c1 : (w.alloc (.cells #[.int .i64 addr, .int .i64 4, .int .u32 v] 41)).cell? ⟨w.heap.size, 1, none⟩ = some (.int .i64 4) := by go_simp
  have c2 : (w.alloc (.cells #[.int .i64 addr, .int .i64 4, .int .u32 v] 41)).cell? ⟨w.heap.size, 2, none⟩ = some (.int .u32 v) := by go_simp
  go_enter Try.func18, Try.ntmps18
  go_wp2_with (at_builtin; refine wpList_append_row _ rfl (.const (.slice none 0 0)) (.tmp 7) 37 rfl (w.heap.size + 1) 5 i0 (.int .u8 0) 1 1 Try.underlying37 hi hz0 hz1 HZ2.out rfl (by omega) (.slice none 0 0) 0 [] rfl (World.ownsRow_nil _ _ _ _) _ _ n _ rfl hR (u8_one _) (by unfold maxLen; omega) (by omega) hbase ?_; intro v1 w1 hown1 hg1; simp only [Nat.zero_add, List.nil_append] at hown1; have k1 : Below (w.heap.size + 1) (w.alloc (.cells #[.int .i64 addr, .int .i64 4, .int .u32 v] 41)) w1 := Below.grown (Below.refl _ _) hg1 hbase (fun k hk => by cases hk); have d0 := below_cell k1 (Nat.lt_succ_self _) c0; have d1 := below_cell k1 (Nat.lt_succ_self _) c1; have d2 := below_cell k1 (Nat.lt_succ_self _) c2)
  go_ret
  exact ⟨_, rfl, own_base hown1 (Nat.le_succ _), HW.out.trans (k1.mono (Nat.le_succ _))⟩

set_option maxHeartbeats 2000000 in
theorem refStore_high4 (addr : Int) (h : Row w w.heap.size 1 (.slice A n c) n (zs.map (Value.int .u8))) (hn : n ≤ 140737488355328) (ha : 4294967295 < addr) :
    Calls Try.prog 18 #[.slice A n c, .agg #[.int .i64 addr, .int .i64 4, .int .u32 v]] w fun e w' => ∃ v', e = .returned v' ∧ w'.ownsRow w.heap.size 5 1 v' n ((zs).map (Value.int .u8)) ∧ Below w.heap.size w w' := by
  obtain ⟨i0, hi, hz0, hz1, hz2⟩ := info_parts info_u8
  have HZ2 := Lib.hid hz2
  clear hz2
  have hl : zs.length = n := by have := h.len; simpa using this
  obtain ⟨u1, u2⟩ := h.cap
  have hR := h.alloc (Nat.le_refl _) (.cells #[.int .i64 addr, .int .i64 4, .int .u32 v] 41)
  have hbase : w.heap.size + 1 ≤ (w.alloc (.cells #[.int .i64 addr, .int .i64 4, .int .u32 v] 41)).heap.size := by simp
  have HW := Lib.hid ((Below.refl w.heap.size w).alloc (Nat.le_refl _) (.cells #[.int .i64 addr, .int .i64 4, .int .u32 v] 41))
  have c0 : (w.alloc (.cells #[.int .i64 addr, .int .i64 4, .int .u32 v] 41)).cell? ⟨w.heap.size, 0, none⟩ = some (.int .i64 addr) := by go_simp
  have c1 : (w.alloc (.cells #[.int .i64 addr, .int .i64 4, .int .u32 v] 41)).cell? ⟨w.heap.size, 1, none⟩ = some (.int .i64 4) := by go_simp
  have c2 : (w.alloc (.cells #[.int .i64 addr, .int .i64 4, .int .u32 v] 41)).cell? ⟨w.heap.size, 2, none⟩ = some (.int .u32 v) := by go_simp
  go_enter Try.func18, Try.ntmps18
  go_wp2_with (at_builtin; refine wpList_append_row _ rfl (.const (.slice none 0 0)) (.tmp 7) 37 rfl (w.heap.size + 1) 5 i0 (.int .u8 0) 1 1 Try.underlying37 hi hz0 hz1 HZ2.out rfl (by omega) (.slice none 0 0) 0 [] rfl (World.ownsRow_nil _ _ _ _) _ _ n _ rfl hR (u8_one _) (by unfold maxLen; omega) (by omega) hbase ?_; intro v1 w1 hown1 hg1; simp only [Nat.zero_add, List.nil_append] at hown1; have k1 : Below (w.heap.size + 1) (w.alloc (.cells #[.int .i64 addr, .int .i64 4, .int .u32 v] 41)) w1 := Below.grown (Below.refl _ _) hg1 hbase (fun k hk => by cases hk); have d0 := below_cell k1 (Nat.lt_succ_self _) c0; have d1 := below_cell k1 (Nat.lt_succ_self _) c1; have d2 := below_cell k1 (Nat.lt_succ_self _) c2)
  go_ret
  exact ⟨_, rfl, own_base hown1 (Nat.le_succ _), HW.out.trans (k1.mono (Nat.le_succ _))⟩

set_option maxHeartbeats 2000000 in
theorem refStore_bad4 (addr : Int) (h : Row w w.heap.size 1 (.slice A n c) n (zs.map (Value.int .u8))) (hn : n ≤ 140737488355328) (h0 : 0 ≤ addr) (h1 : addr ≤ 4294967295) (hck : checkZ 4 addr n ≠ 0) :
    Calls Try.prog 18 #[.slice A n c, .agg #[.int .i64 addr, .int .i64 4, .int .u32 v]] w fun e w' => ∃ v', e = .returned v' ∧ w'.ownsRow w.heap.size 5 1 v' n ((zs).map (Value.int .u8)) ∧ Below w.heap.size w w' := by
  obtain ⟨i0, hi, hz0, hz1, hz2⟩ := info_parts info_u8
  have HZ2 := Lib.hid hz2
  clear hz2
  have hl : zs.length = n := by have := h.len; simpa using this
  obtain ⟨u1, u2⟩ := h.cap
  have hR := h.alloc (Nat.le_refl _) (.cells #[.int .i64 addr, .int .i64 4, .int .u32 v] 41)
  have hbase : w.heap.size + 1 ≤ (w.alloc (.cells #[.int .i64 addr, .int .i64 4, .int .u32 v] 41)).heap.size := by simp
  have HW := Lib.hid ((Below.refl w.heap.size w).alloc (Nat.le_refl _) (.cells #[.int .i64 addr, .int .i64 4, .int .u32 v] 41))
  have c0 : (w.alloc (.cells #[.int .i64 addr, .int .i64 4, .int .u32 v] 41)).cell? ⟨w.heap.size, 0, none⟩ = some (.int .i64 addr) := by go_simp
  have c1 : (w.alloc (.cells #[.int .i64 addr, .int .i64 4, .int .u32 v] 41)).cell? ⟨w.heap.size, 1, none⟩ = some (.int .i64 4) := by go_simp
  have c2 : (w.alloc (.cells #[.int .i64 addr, .int .i64 4, .int .u32 v] 41)).cell? ⟨w.heap.size, 2, none⟩ = some (.int .u32 v) := by go_simp
  have e1 : (checkZ 4 addr n != 0) = true := by simp; exact hck
  have e2 : addr % 4294967296 = addr := by omega
  clear hck
  go_enter Try.func18, Try.ntmps18
  go_wp2_with (at_builtin; refine wpList_append_row _ rfl (.const (.slice none 0 0)) (.tmp 7) 37 rfl (w.heap.size + 1) 5 i0 (.int .u8 0) 1 1 Try.underlying37 hi hz0 hz1 HZ2.out rfl (by omega) (.slice none 0 0) 0 [] rfl (World.ownsRow_nil _ _ _ _) _ _ n _ rfl hR (u8_one _) (by unfold maxLen; omega) (by omega) hbase ?_; intro v1 w1 hown1 hg1; simp only [Nat.zero_add, List.nil_append] at hown1; have k1 : Below (w.heap.size + 1) (w.alloc (.cells #[.int .i64 addr, .int .i64 4, .int .u32 v] 41)) w1 := Below.grown (Below.refl _ _) hg1 hbase (fun k hk => by cases hk); have d0 := below_cell k1 (Nat.lt_succ_self _) c0; have d1 := below_cell k1 (Nat.lt_succ_self _) c1; have d2 := below_cell k1 (Nat.lt_succ_self _) c2)
  refine (refCheck_any 4 addr n _ h0 h1 (by omega) (by omega)).mono ?_; rintro e w2 ⟨rfl, rfl⟩
  go_wp2_with fail
  go_ret
  exact ⟨_, rfl, own_base hown1 (Nat.le_succ _), HW.out.trans (k1.mono (Nat.le_succ _))⟩

set_option maxHeartbeats 4000000 in
theorem refStore_yes4 (k : Nat) (h : Row w w.heap.size 1 (.slice A n c) n (zs.map (Value.int .u8))) (hn : n ≤ 140737488355328) (hk : (k : Int) ≤ 4294967295) (hv : 0 ≤ v ∧ v ≤ 4294967295) (hck : checkZ 4 k n = 0) :
    Calls Try.prog 18 #[.slice A n c, .agg #[.int .i64 (k : Int), .int .i64 4, .int .u32 v]] w fun e w' => ∃ v', e = .returned v' ∧ w'.ownsRow w.heap.size 5 1 v' n ((put4 zs k v).map (Value.int .u8)) ∧ Below w.heap.size w w' := by
  obtain ⟨_, hr⟩ := checkZ_zero hck
  have HCK := Lib.hid hck
  have hkn : k + 3 < n := by omega
  have hk0 : (0 : Int) ≤ k := by omega
  obtain ⟨v0, v9⟩ := hv
  clear hck
  obtain ⟨i0, hi, hz0, hz1, hz2⟩ := info_parts info_u8
  have HZ2 := Lib.hid hz2
  clear hz2
  have hl : zs.length = n := by have := h.len; simpa using this
  obtain ⟨u1, u2⟩ := h.cap
  have hR := h.alloc (Nat.le_refl _) (.cells #[.int .i64 (k : Int), .int .i64 4, .int .u32 v] 41)
  have hbase : w.heap.size + 1 ≤ (w.alloc (.cells #[.int .i64 (k : Int), .int .i64 4, .int .u32 v] 41)).heap.size := by simp
  have HW := Lib.hid ((Below.refl w.heap.size w).alloc (Nat.le_refl _) (.cells #[.int .i64 (k : Int), .int .i64 4, .int .u32 v] 41))
  have c0 : (w.alloc (.cells #[.int .i64 (k : Int), .int .i64 4, .int .u32 v] 41)).cell? ⟨w.heap.size, 0, none⟩ = some (.int .i64 (k : Int)) := by go_simp
  have c1 : (w.alloc (.cells #[.int .i64 (k : Int), .int .i64 4, .int .u32 v] 41)).cell? ⟨w.heap.size, 1, none⟩ = some (.int .i64 4) := by go_simp
  have c2 : (w.alloc (.cells #[.int .i64 (k : Int), .int .i64 4, .int .u32 v] 41)).cell? ⟨w.heap.size, 2, none⟩ = some (.int .u32 v) := by go_simp
  have e2 : (k : Int) % 4294967296 = k := by omega
  go_enter Try.func18, Try.ntmps18
  go_wp2_with (at_builtin; refine wpList_append_row _ rfl (.const (.slice none 0 0)) (.tmp 7) 37 rfl (w.heap.size + 1) 5 i0 (.int .u8 0) 1 1 Try.underlying37 hi hz0 hz1 HZ2.out rfl (by omega) (.slice none 0 0) 0 [] rfl (World.ownsRow_nil _ _ _ _) _ _ n _ rfl hR (u8_one _) (by unfold maxLen; omega) (by omega) hbase ?_; intro v1 w1 hown1 hg1; simp only [Nat.zero_add, List.nil_append] at hown1; have k1 : Below (w.heap.size + 1) (w.alloc (.cells #[.int .i64 (k : Int), .int .i64 4, .int .u32 v] 41)) w1 := Below.grown (Below.refl _ _) hg1 hbase (fun k hk => by cases hk); have d0 := below_cell k1 (Nat.lt_succ_self _) c0; have d1 := below_cell k1 (Nat.lt_succ_self _) c1; have d2 := below_cell k1 (Nat.lt_succ_self _) c2; obtain ⟨g, cap, rfl, hg0, hgs⟩ := own_form hown1 (by omega); have q0 := own_u8 hown1 k (by omega); have f0 := hown1.frozenAt k; have q1 := own_u8 hown1 (k + 1) (by omega); have f1 := hown1.frozenAt (k + 1); have q2 := own_u8 hown1 (k + 2) (by omega); have f2 := hown1.frozenAt (k + 2); have q3 := own_u8 hown1 (k + 3) (by omega); have f3 := hown1.frozenAt (k + 3))
  refine (refCheck_any 4 k n _ (by omega) hk (by omega) (by omega)).mono ?_; rintro e w2 ⟨rfl, rfl⟩
  rw [HCK.out]
  go_wp2_with fail
  refine wp_loop_rounds 5 ?_
  iterate 5 (rw [rounds_succ]; go_wp2_with fail)
  go_ret
  have o0 := (hown1.stored k (.int .u8 (v % 256))).1
  rw [← List.map_set] at o0
  have o1 := (o0.stored (k + 1) (.int .u8 (v / 256 % 256))).1
  rw [← List.map_set] at o1
  have o2 := (o1.stored (k + 2) (.int .u8 (v / 65536 % 256))).1
  rw [← List.map_set] at o2
  have o3 := (o2.stored (k + 3) (.int .u8 (v / 16777216))).1
  rw [← List.map_set] at o3
  rw [show put4 zs k v = ((put2 zs k v).set (k + 2) (v / 65536 % 256)).set (k + 3) (v / 16777216) by unfold put4; rw [show v / 16777216 % 256 = v / 16777216 by omega]]
  refine ⟨_, rfl, own_base o3 (Nat.le_succ _), ?_⟩
  exact HW.out.trans (Below.setCell (Below.setCell (Below.setCell (Below.setCell (k1.mono (Nat.le_succ _)) (by simp; omega) _) (by simp; omega) _) (by simp; omega) _) (by simp; omega) _)

theorem refStore_any (size addr : Int) (h : Row w w.heap.size 1 (.slice A n c) n (zs.map (Value.int .u8))) (hn : n ≤ 140737488355328) (hs : -9223372036854775808 ≤ size ∧ size ≤ 9223372036854775807) (ha : -9223372036854775808 ≤ addr ∧ addr ≤ 9223372036854775807) (hv : 0 ≤ v ∧ v ≤ 4294967295) :
    Calls Try.prog 18 #[.slice A n c, .agg #[.int .i64 addr, .int .i64 size, .int .u32 v]] w fun e w' => ∃ v', e = .returned v' ∧ w'.ownsRow w.heap.size 5 1 v' n ((storeZ zs size addr v).map (Value.int .u8)) ∧ Below w.heap.size w w' := by
  have hl : zs.length = n := by have := h.len; simpa using this
  by_cases hq : size ≠ 1 ∧ size ≠ 2 ∧ size ≠ 4
  · rw [storeZ_no (storeOk_no (by omega))]
    exact refStore_size A c n zs v w size addr h hn hs hq
  have hsz : size = 1 ∨ size = 2 ∨ size = 4 := by omega
  by_cases hlow : addr < 0
  · rw [storeZ_no (storeOk_no (by omega))]
    rcases hsz with rfl | rfl | rfl
    · exact refStore_low1 A c n zs v w addr h hn hlow
    · exact refStore_low2 A c n zs v w addr h hn hlow
    · exact refStore_low4 A c n zs v w addr h hn hlow
  by_cases hhigh : 4294967295 < addr
  · rw [storeZ_no (storeOk_no (by omega))]
    rcases hsz with rfl | rfl | rfl
    · exact refStore_high1 A c n zs v w addr h hn hhigh
    · exact refStore_high2 A c n zs v w addr h hn hhigh
    · exact refStore_high4 A c n zs v w addr h hn hhigh
  by_cases hck : checkZ size addr n = 0
  · have hok : storeOk size addr zs.length = true := decide_eq_true ⟨hsz, by omega, by omega, by rw [hl]; exact hck⟩
    obtain ⟨k, rfl⟩ := Int.eq_ofNat_of_zero_le (show 0 ≤ addr by omega)
    unfold storeZ
    rw [if_pos hok]
    rcases hsz with rfl | rfl | rfl
    · exact refStore_yes1 A c n zs v w k h hn (by omega) hv hck
    · exact refStore_yes2 A c n zs v w k h hn (by omega) hv hck
    · exact refStore_yes4 A c n zs v w k h hn (by omega) hv hck
  · rw [storeZ_no (storeOk_no (by rw [hl]; exact fun g => hck g.2.2.2))]
    rcases hsz with rfl | rfl | rfl
    · exact refStore_bad1 A c n zs v w addr h hn (by omega) (by omega) hck
    · exact refStore_bad2 A c n zs v w addr h hn (by omega) (by omega) hck
    · exact refStore_bad4 A c n zs v w addr h hn (by omega) (by omega) hck
end
end Go.Proofs.Ytjkijjbakocilaa.Words

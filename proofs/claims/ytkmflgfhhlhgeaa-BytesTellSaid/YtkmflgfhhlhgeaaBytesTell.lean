/- The walk of BytesTell. -/
import Derived.Test.YtkmflgfhhlhgeaaBytesAlive
import Derived.Test.YtkmflgfhhlhgeaaOpenWrite
import Derived.Test.YtkmflgfhhlhgeaaRefLoad2
import Derived.Test.YtkmflgfhhlhgeaaRefStore
namespace Go.Proofs.Ytkmflgfhhlhgeaa.Words
open Go.RowKit
set_option linter.unusedVariables false

set_option maxHeartbeats 2000000 in
theorem bytesTell_in (A : Option Addr) (c n : Nat) (zs : List Int) (op size m addr : Int) (p : Wr) (o0 o1 o2 o3 : Int) (w : World) (h : Row w w.heap.size 1 (.slice A n c) n (zs.map (Value.int .u8))) (hz : ∀ x ∈ zs, 0 ≤ x ∧ x ≤ 255)
    (fs : -9223372036854775808 ≤ size ∧ size ≤ 9223372036854775807) (fm : -9223372036854775808 ≤ m ∧ m ≤ 9223372036854775807) (fa : 0 ≤ addr ∧ addr ≤ 4294967295) (fp : p.Fits) (f0 : -9223372036854775808 ≤ o0 ∧ o0 ≤ 9223372036854775807) (f1 : -9223372036854775808 ≤ o1 ∧ o1 ≤ 9223372036854775807) (f2 : -9223372036854775808 ≤ o2 ∧ o2 ≤ 9223372036854775807) (f3 : -9223372036854775808 ≤ o3 ∧ o3 ≤ 9223372036854775807) :
    Calls Try.prog 3 #[.slice A n c, .int .i64 op, .int .i64 size, .int .i64 m, .int .u32 addr, .agg #[.int .i64 p.addr, .int .i64 p.size, .int .u32 p.val], .int .i64 o0, .int .i64 o1, .int .i64 o2, .int .i64 o3] w fun e w' => e = .returned (.bool true) ∧ Below w.heap.size w w' := by
  obtain ⟨i0, hi, hz0, hz1, hz2⟩ := info_parts info_u8
  have HZ2 := Lib.hid hz2
  clear hz2
  obtain ⟨fp0, fp1, fp2⟩ := fp
  obtain ⟨fa0, fa1⟩ := fa
  have hl : zs.length = n := by have := h.len; simpa using this
  have HZB := Lib.hid hz
  obtain ⟨u1, u2⟩ := h.cap
  have hB : w.heap.size < (w.alloc (.cells #[.int .i64 p.addr, .int .i64 p.size, .int .u32 p.val] 25)).heap.size := by simp
  have hR := Lib.hid ((h.alloc (Nat.le_refl _) (.cells #[.int .i64 p.addr, .int .i64 p.size, .int .u32 p.val] 25)).more (Nat.le_of_lt hB))
  have HW := Lib.hid ((Below.refl w.heap.size w).alloc (Nat.le_refl _) (.cells #[.int .i64 p.addr, .int .i64 p.size, .int .u32 p.val] 25))
  have cp0 : (w.alloc (.cells #[.int .i64 p.addr, .int .i64 p.size, .int .u32 p.val] 25)).cell? ⟨w.heap.size, 0, none⟩ = some (.int .i64 p.addr) := by go_simp
  have cp1 : (w.alloc (.cells #[.int .i64 p.addr, .int .i64 p.size, .int .u32 p.val] 25)).cell? ⟨w.heap.size, 1, none⟩ = some (.int .i64 p.size) := by go_simp
  have cp2 : (w.alloc (.cells #[.int .i64 p.addr, .int .i64 p.size, .int .u32 p.val] 25)).cell? ⟨w.heap.size, 2, none⟩ = some (.int .u32 p.val) := by go_simp
  clear h hz
  go_enter Try.func3, Try.ntmps3
  go_wp2_with fail
  generalize (w.alloc (.cells #[.int .i64 p.addr, .int .i64 p.size, .int .u32 p.val] 25)) = W at *
  have Cp0 := Lib.hid (fun (x : World) (h : Kept W x) => h.cell hB cp0)
  have Cp1 := Lib.hid (fun (x : World) (h : Kept W x) => h.cell hB cp1)
  have Cp2 := Lib.hid (fun (x : World) (h : Kept W x) => h.cell hB cp2)
  have HR := Lib.hid (fun (x : World) (h : Kept W x) => h.row hR.out)
  have HWB := Lib.hid (fun (x : World) (h : Kept W x) => HW.out.trans (h.mono (Nat.le_of_lt hB)))
  clear cp0 cp1 cp2 hR HW
  refine (bytesAlive_any _).mono ?_; rintro e w1 ⟨rfl, hb1⟩
  have k1 : Kept W w1 := hb1
  clear hb1
  by_cases hn : 300 < n
  · go_wp2_with fail
    go_ret
    exact ⟨rfl, HWB.out _ k1⟩
  go_wp2_with fail
  have cp0 : ∀ x, Kept W x → _ := Cp0.out
  have cp1 : ∀ x, Kept W x → _ := Cp1.out
  have cp2 : ∀ x, Kept W x → _ := Cp2.out
  have j0 : Kept W w1.drew := k1.drew
  refine wp_region_lin [(0, true), (2, true), (1, false), (3, false), (4, true), (5, true), (6, true), (7, true), (8, true), (10, true), (11, true), (12, true), (9, false), (13, false), (14, true), (15, true), (16, true), (17, true), (19, true), (20, true), (22, true), (23, true), (24, true), (18, false), (21, false), (25, false), (26, true), (27, true), (28, true), (29, true), (31, true), (34, true), (35, true), (30, false), (32, false), (33, true), (36, false), (37, true), (38, true), (39, true), (40, true), (41, true), (42, true), (43, true), (44, true), (46, true), (47, true), (48, true), (49, true), (45, false), (50, false), (51, true), (52, true), (53, true)]
    (by kernel_rfl) (by kernel_rfl) rfl (by kernel_rfl) (Kept W) ?_
  simp only [List.map_cons, List.map_nil, List.getElem?_toArray, List.getElem?_cons_succ, List.getElem?_cons_zero]
  iterate 2 (refine lin_take (v := ?_) (by assumption) (by rfl) ?_ ?_; rotate_left; (intro x hx; (try dsimp only at hx); go_simp; try (with_reducible rfl)); (simp only [Act.put, List.setIfInBounds_toArray, List.set_cons_zero, List.set_cons_succ]))
  refine lin_call (by assumption) (by rfl) (fun K hK => ?_)
  go_simp
  refine (size_any op _).mono ?_
  rintro e x1 ⟨rfl, rfl⟩
  go_wp2_with fail
  refine hK.out _ _ j0 (fun _ => ?_)
  clear hK K
  try simp only [Act.put, List.setIfInBounds_toArray, List.set_cons_zero, List.set_cons_succ]
  refine lin_call (by assumption) (by rfl) (fun K hK => ?_)
  go_simp
  refine (refSize_any op _).mono ?_
  rintro e x1 ⟨rfl, rfl⟩
  go_wp2_with fail
  refine hK.out _ _ j0 (fun _ => ?_)
  clear hK K
  try simp only [Act.put, List.setIfInBounds_toArray, List.set_cons_zero, List.set_cons_succ]
  iterate 8 (refine lin_take (v := ?_) (by assumption) (by rfl) ?_ ?_; rotate_left; (intro x hx; (try dsimp only at hx); go_simp; try (with_reducible rfl)); (simp only [Act.put, List.setIfInBounds_toArray, List.set_cons_zero, List.set_cons_succ]))
  refine lin_call (by assumption) (by rfl) (fun K hK => ?_)
  go_simp
  refine (check_any size addr m _ fa0 fa1 fs fm).mono ?_
  rintro e x1 ⟨rfl, rfl⟩
  go_wp2_with fail
  refine hK.out _ _ j0 (fun _ => ?_)
  clear hK K
  try simp only [Act.put, List.setIfInBounds_toArray, List.set_cons_zero, List.set_cons_succ]
  refine lin_call (by assumption) (by rfl) (fun K hK => ?_)
  go_simp
  refine (refCheck_any size addr m _ fa0 fa1 fs fm).mono ?_
  rintro e x1 ⟨rfl, rfl⟩
  go_wp2_with fail
  refine hK.out _ _ j0 (fun _ => ?_)
  clear hK K
  try simp only [Act.put, List.setIfInBounds_toArray, List.set_cons_zero, List.set_cons_succ]
  iterate 9 (refine lin_take (v := ?_) (by assumption) (by rfl) ?_ ?_; rotate_left; (intro x hx; (try dsimp only at hx); go_simp; try (with_reducible rfl)); (simp only [Act.put, List.setIfInBounds_toArray, List.set_cons_zero, List.set_cons_succ]))
  refine lin_call (by assumption) (by rfl) (fun K hK => ?_)
  refine wp_append_row _ (.const (.slice none 0 0)) (.tmp 48) 22 rfl w1.drew.heap.size 5 i0 (.int .u8 0) 1 1 Try.underlying22 hi hz0 hz1 HZ2.out rfl (by omega) (.slice none 0 0) 0 [] rfl (World.ownsRow_nil _ _ _ _) _ _ n _ rfl (HR.out _ j0) (u8_one _) (by unfold maxLen; omega) (by omega) (Nat.le_refl _) ?_
  intro v2 w2 own2 hg
  have j2 : Kept W w2 := j0.trans (Below.grown (Below.refl _ _) hg (Nat.le_refl _) (fun k hk => by cases hk))
  simp only [Nat.zero_add, List.nil_append] at own2
  obtain ⟨Aown2, cown2, rfl⟩ := (Row.of_own own2).form
  clear hg
  refine hK.out _ _ j2 (fun _ => ?_)
  clear hK K
  try simp only [Act.put, List.setIfInBounds_toArray, List.set_cons_zero, List.set_cons_succ]
  refine lin_call (by assumption) (by rfl) (fun K hK => ?_)
  go_simp
  refine (load_any Aown2 cown2 n _ zs op addr _ (Row.of_own own2) (Nat.le_refl _) HZB.out fa0 fa1).mono ?_
  rintro e w3 ⟨rfl, hb⟩
  have j3 := j2.to hb
  clear hb
  go_wp2_with fail
  refine hK.out _ _ j3 (fun _ => ?_)
  clear hK K
  try simp only [Act.put, List.setIfInBounds_toArray, List.set_cons_zero, List.set_cons_succ]
  refine lin_call (by assumption) (by rfl) (fun K hK => ?_)
  go_simp
  refine (refLoad_any A c n _ zs op addr _ (HR.out _ j3) HZB.out fa0 fa1).mono ?_
  rintro e x1 ⟨rfl, rfl⟩
  go_wp2_with fail
  refine hK.out _ _ j3 (fun _ => ?_)
  clear hK K
  try simp only [Act.put, List.setIfInBounds_toArray, List.set_cons_zero, List.set_cons_succ]
  iterate 7 (refine lin_take (v := ?_) (by assumption) (by rfl) ?_ ?_; rotate_left; (intro x hx; (try dsimp only at hx); go_simp; try (with_reducible rfl)); (simp only [Act.put, List.setIfInBounds_toArray, List.set_cons_zero, List.set_cons_succ]))
  refine lin_call (by assumption) (by rfl) (fun K hK => ?_)
  refine wp_append_row _ (.const (.slice none 0 0)) (.tmp 60) 22 rfl w3.heap.size 5 i0 (.int .u8 0) 1 1 Try.underlying22 hi hz0 hz1 HZ2.out rfl (by omega) (.slice none 0 0) 0 [] rfl (World.ownsRow_nil _ _ _ _) _ _ n _ rfl (HR.out _ j3) (u8_one _) (by unfold maxLen; omega) (by omega) (Nat.le_refl _) ?_
  intro v4 w4 own4 hg
  have j4 : Kept W w4 := j3.trans (Below.grown (Below.refl _ _) hg (Nat.le_refl _) (fun k hk => by cases hk))
  simp only [Nat.zero_add, List.nil_append] at own4
  obtain ⟨Aown4, cown4, rfl⟩ := (Row.of_own own4).form
  clear hg
  refine hK.out _ _ j4 (fun _ => ?_)
  clear hK K
  try simp only [Act.put, List.setIfInBounds_toArray, List.set_cons_zero, List.set_cons_succ]
  refine lin_call (by assumption) (by rfl) (fun K hK => ?_)
  go_simp
  refine (store_any Aown4 cown4 n zs p.val _ p.size p.addr (Row.of_own own4) (by omega) fp1 fp2).mono ?_
  rintro e w5 ⟨v5, rfl, own5, hb⟩
  have j5 := j4.to hb
  clear hb
  obtain ⟨A5, c5, rfl⟩ := (Row.of_own own5).form
  go_wp2_with fail
  refine hK.out _ _ j5 (fun _ => ?_)
  clear hK K
  try simp only [Act.put, List.setIfInBounds_toArray, List.set_cons_zero, List.set_cons_succ]
  have cv5 : ∀ x, Kept w5 x → (convert 22 9 (.slice A5 n c5)).run Try.prog x = .ok (.string (strOfNums (storeZ zs p.size p.addr p.val))) x := fun x h => conv_row x 22 5 Try.underlying22 Try.underlying5 (h.row (Row.of_own own5)) 9 Try.underlying9
  refine lin_more (S' := Kept w5) (fun x h => j5.trans h) ?_
  have oo5 := Kept.refl w5
  (refine lin_take (v := ?_) (by assumption) (by rfl) ?_ ?_; rotate_left; (intro x hx; (try dsimp only at hx); go_simp; try (with_reducible rfl)); (simp only [Act.put, List.setIfInBounds_toArray, List.set_cons_zero, List.set_cons_succ]))
  refine lin_call (by assumption) (by rfl) (fun K hK => ?_)
  go_simp
  refine (refStore_any A c n zs p.val _ p.size p.addr (HR.out _ j5) (by omega) fp1 fp0 fp2).mono ?_
  rintro e w6 ⟨v6, rfl, own6, hb⟩
  have j6 := oo5.to hb
  have i6 := j5.to hb
  clear hb
  obtain ⟨A6, c6, rfl⟩ := (Row.of_own own6).form
  go_wp2_with fail
  refine hK.out _ _ j6 (fun _ => ?_)
  clear hK K
  try simp only [Act.put, List.setIfInBounds_toArray, List.set_cons_zero, List.set_cons_succ]
  clear cv5
  have cv6 : ∀ x, Kept w6 x → (convert 22 9 (.slice A6 n c6)).run Try.prog x = .ok (.string (strOfNums (storeZ zs p.size p.addr p.val))) x := fun x h => conv_row x 22 5 Try.underlying22 Try.underlying5 (h.row (Row.of_own own6)) 9 Try.underlying9
  refine lin_more (S' := Kept w6) (fun x h => j6.trans h) ?_
  have oo6 := Kept.refl w6
  (refine lin_take (v := ?_) (by assumption) (by rfl) ?_ ?_; rotate_left; (intro x hx; (try dsimp only at hx); go_simp; try (with_reducible rfl)); (simp only [Act.put, List.setIfInBounds_toArray, List.set_cons_zero, List.set_cons_succ]))
  iterate 11 (refine lin_take (v := ?_) (by assumption) (by rfl) ?_ ?_; rotate_left; (intro x hx; (try dsimp only at hx); go_simp; try (with_reducible rfl)); (simp only [Act.put, List.setIfInBounds_toArray, List.set_cons_zero, List.set_cons_succ]))
  refine lin_call (by assumption) (by rfl) (fun K hK => ?_)
  go_simp
  refine (overlap_any o0 o1 o2 o3 _ f0 f1 f2 f3).mono ?_
  rintro e x1 ⟨rfl, rfl⟩
  go_wp2_with fail
  refine hK.out _ _ oo6 (fun _ => ?_)
  clear hK K
  try simp only [Act.put, List.setIfInBounds_toArray, List.set_cons_zero, List.set_cons_succ]
  refine lin_call (by assumption) (by rfl) (fun K hK => ?_)
  go_simp
  refine (refOverlap_any o0 o1 o2 o3 _ f0 f1 f2 f3).mono ?_
  rintro e x1 ⟨rfl, rfl⟩
  go_wp2_with fail
  refine hK.out _ _ oo6 (fun _ => ?_)
  clear hK K
  try simp only [Act.put, List.setIfInBounds_toArray, List.set_cons_zero, List.set_cons_succ]
  iterate 3 (refine lin_take (v := ?_) (by assumption) (by rfl) ?_ ?_; rotate_left; (intro x hx; (try dsimp only at hx); go_simp; try (with_reducible rfl)); (simp only [Act.put, List.setIfInBounds_toArray, List.set_cons_zero, List.set_cons_succ]))
  refine lin_done ?_
  go_wp2_with fail
  go_ret
  exact ⟨rfl, HWB.out _ i6⟩

theorem bytesTell_walk (v0 : Value) (n0 : Nat) (z0 : List Int) (op size m addr : Int) (p : Wr) (o0 o1 o2 o3 : Int) (w : World) (r0 : Row w w.heap.size 1 v0 n0 (z0.map (Value.int .u8))) (g0 : ∀ x ∈ z0, 0 ≤ x ∧ x ≤ 255)
    (fo : -9223372036854775808 ≤ op ∧ op ≤ 9223372036854775807) (fs : -9223372036854775808 ≤ size ∧ size ≤ 9223372036854775807) (fm : -9223372036854775808 ≤ m ∧ m ≤ 9223372036854775807) (fa : 0 ≤ addr ∧ addr ≤ 4294967295) (fp : p.Fits) (f0 : -9223372036854775808 ≤ o0 ∧ o0 ≤ 9223372036854775807) (f1 : -9223372036854775808 ≤ o1 ∧ o1 ≤ 9223372036854775807) (f2 : -9223372036854775808 ≤ o2 ∧ o2 ≤ 9223372036854775807) (f3 : -9223372036854775808 ≤ o3 ∧ o3 ≤ 9223372036854775807) :
    Calls Try.prog 3 #[v0, .int .i64 op, .int .i64 size, .int .i64 m, .int .u32 addr, .agg #[.int .i64 p.addr, .int .i64 p.size, .int .u32 p.val], .int .i64 o0, .int .i64 o1, .int .i64 o2, .int .i64 o3] w fun e w' => e = .returned (.bool true) ∧ Below w.heap.size w w' := by
  obtain ⟨A, c, rfl⟩ := r0.form
  exact bytesTell_in A c n0 z0 op size m addr p o0 o1 o2 o3 w r0 g0 fs fm fa fp f0 f1 f2 f3
end Go.Proofs.Ytkmflgfhhlhgeaa.Words

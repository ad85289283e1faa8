/- The walk of BytesApart. -/
import Derived.Test.YtkmflgfhhlhgeaaBytesAlive
import Derived.Test.YtkmflgfhhlhgeaaBytesMath2
import Derived.Test.YtkmflgfhhlhgeaaOpenWrite
import Derived.Test.YtkmflgfhhlhgeaaRefBytes
namespace Go.Proofs.Ytkmflgfhhlhgeaa.Words
open Go.RowKit
set_option linter.unusedVariables false

section
variable (A : Option Addr) (c n : Nat) (zs : List Int) (p q : Wr) (r : Int) (w : World)

set_option maxHeartbeats 1000000 in
theorem bytesApart_in (fp : p.Fits) (fq : q.Fits) (hr0 : 0 ≤ r ∧ r ≤ 4294967295) (h : Row w w.heap.size 1 (.slice A n c) n (zs.map (Value.int .u8))) (hz : ∀ x ∈ zs, 0 ≤ x ∧ x ≤ 255) :
    Calls Try.prog 6 #[.slice A n c, .agg #[.int .i64 p.addr, .int .i64 p.size, .int .u32 p.val], .agg #[.int .i64 q.addr, .int .i64 q.size, .int .u32 q.val], .int .u32 r] w fun e w' => e = .returned (.bool true) ∧ Below w.heap.size w w' := by
  obtain ⟨fp0, fp1, fp2⟩ := fp
  obtain ⟨fq0, fq1, fq2⟩ := fq
  have hl : zs.length = n := by have := h.len; simpa using this
  obtain ⟨u1, u2⟩ := h.cap
  have hB : w.heap.size < ((w.alloc (.cells #[.int .i64 p.addr, .int .i64 p.size, .int .u32 p.val] 25)).alloc (.cells #[.int .i64 q.addr, .int .i64 q.size, .int .u32 q.val] 25)).heap.size := by simp; omega
  have hB1 : w.heap.size + 1 < ((w.alloc (.cells #[.int .i64 p.addr, .int .i64 p.size, .int .u32 p.val] 25)).alloc (.cells #[.int .i64 q.addr, .int .i64 q.size, .int .u32 q.val] 25)).heap.size := by simp
  have hR := Lib.hid (((h.alloc (Nat.le_refl _) (.cells #[.int .i64 p.addr, .int .i64 p.size, .int .u32 p.val] 25)).alloc (by simp) (.cells #[.int .i64 q.addr, .int .i64 q.size, .int .u32 q.val] 25)).more (Nat.le_of_lt hB))
  have HW := Lib.hid (((Below.refl w.heap.size w).alloc (Nat.le_refl _) (.cells #[.int .i64 p.addr, .int .i64 p.size, .int .u32 p.val] 25)).alloc (by simp) (.cells #[.int .i64 q.addr, .int .i64 q.size, .int .u32 q.val] 25))
  have cp0 : ((w.alloc (.cells #[.int .i64 p.addr, .int .i64 p.size, .int .u32 p.val] 25)).alloc (.cells #[.int .i64 q.addr, .int .i64 q.size, .int .u32 q.val] 25)).cell? ⟨w.heap.size, 0, none⟩ = some (.int .i64 p.addr) := by go_simp
  have cp1 : ((w.alloc (.cells #[.int .i64 p.addr, .int .i64 p.size, .int .u32 p.val] 25)).alloc (.cells #[.int .i64 q.addr, .int .i64 q.size, .int .u32 q.val] 25)).cell? ⟨w.heap.size, 1, none⟩ = some (.int .i64 p.size) := by go_simp
  have cp2 : ((w.alloc (.cells #[.int .i64 p.addr, .int .i64 p.size, .int .u32 p.val] 25)).alloc (.cells #[.int .i64 q.addr, .int .i64 q.size, .int .u32 q.val] 25)).cell? ⟨w.heap.size, 2, none⟩ = some (.int .u32 p.val) := by go_simp
  have cq0 : ((w.alloc (.cells #[.int .i64 p.addr, .int .i64 p.size, .int .u32 p.val] 25)).alloc (.cells #[.int .i64 q.addr, .int .i64 q.size, .int .u32 q.val] 25)).cell? ⟨w.heap.size + 1, 0, none⟩ = some (.int .i64 q.addr) := by go_simp
  have cq1 : ((w.alloc (.cells #[.int .i64 p.addr, .int .i64 p.size, .int .u32 p.val] 25)).alloc (.cells #[.int .i64 q.addr, .int .i64 q.size, .int .u32 q.val] 25)).cell? ⟨w.heap.size + 1, 1, none⟩ = some (.int .i64 q.size) := by go_simp
  have cq2 : ((w.alloc (.cells #[.int .i64 p.addr, .int .i64 p.size, .int .u32 p.val] 25)).alloc (.cells #[.int .i64 q.addr, .int .i64 q.size, .int .u32 q.val] 25)).cell? ⟨w.heap.size + 1, 2, none⟩ = some (.int .u32 q.val) := by go_simp
  clear h
  go_enter Try.func6, Try.ntmps6
  go_wp2_with fail
  generalize ((w.alloc (.cells #[.int .i64 p.addr, .int .i64 p.size, .int .u32 p.val] 25)).alloc (.cells #[.int .i64 q.addr, .int .i64 q.size, .int .u32 q.val] 25)) = W at *
  have Cp0 := Lib.hid (fun (x : World) (h : Kept W x) => h.cell hB cp0)
  have Cp1 := Lib.hid (fun (x : World) (h : Kept W x) => h.cell hB cp1)
  have Cp2 := Lib.hid (fun (x : World) (h : Kept W x) => h.cell hB cp2)
  have Cq0 := Lib.hid (fun (x : World) (h : Kept W x) => h.cell hB1 cq0)
  have Cq1 := Lib.hid (fun (x : World) (h : Kept W x) => h.cell hB1 cq1)
  have Cq2 := Lib.hid (fun (x : World) (h : Kept W x) => h.cell hB1 cq2)
  have HR := Lib.hid (fun (x : World) (h : Kept W x) => h.row hR.out)
  have HWB := Lib.hid (fun (x : World) (h : Kept W x) => HW.out.trans (h.mono (Nat.le_of_lt hB)))
  clear cp0 cp1 cp2 cq0 cq1 cq2 hR HW
  refine (bytesAlive_any _).mono ?_; rintro e w1 ⟨rfl, hb1⟩
  have k1 : Kept W w1 := hb1
  clear hb1
  by_cases hn : 200 < n
  · go_wp2_with fail
    go_ret
    exact ⟨rfl, HWB.out _ k1⟩
  go_wp2_with fail
  have cp0 : ∀ x, Kept W x → _ := Cp0.out
  have cp1 : ∀ x, Kept W x → _ := Cp1.out
  have cp2 : ∀ x, Kept W x → _ := Cp2.out
  have cq0 : ∀ x, Kept W x → _ := Cq0.out
  have cq1 : ∀ x, Kept W x → _ := Cq1.out
  have cq2 : ∀ x, Kept W x → _ := Cq2.out
  have j0 : Kept W w1.drew := k1.drew
  refine wp_region_lin [(0, true), (1, true), (3, true), (2, false), (4, false), (5, true)]
    (by kernel_rfl) (by kernel_rfl) rfl (by kernel_rfl) (Kept W) ?_
  simp only [List.map_cons, List.map_nil, List.getElem?_toArray, List.getElem?_cons_succ, List.getElem?_cons_zero]
  iterate 3 (refine lin_take (v := ?_) (by assumption) (by rfl) ?_ ?_; rotate_left; (intro x hx; (try dsimp only at hx); go_simp; try (with_reducible rfl)); (simp only [Act.put, List.setIfInBounds_toArray, List.set_cons_zero, List.set_cons_succ]))
  refine lin_call (by assumption) (by rfl) (fun K hK => ?_)
  go_simp
  refine (store_any A c n zs p.val _ p.size p.addr (HR.out _ j0) (by omega) (by omega) (by omega)).mono ?_
  rintro e x1 ⟨v1, rfl, own1, hb⟩
  have j1 := j0.to hb
  clear hb
  obtain ⟨A1, c1, rfl⟩ := (Row.of_own own1).form
  go_wp2_with fail
  refine hK.out _ _ j1 (fun _ => ?_)
  clear hK K
  try simp only [Act.put, List.setIfInBounds_toArray, List.set_cons_zero, List.set_cons_succ]
  refine lin_call (by assumption) (by rfl) (fun K hK => ?_)
  go_simp
  refine (store_any A1 c1 n _ q.val _ q.size q.addr (Row.of_own own1) (by omega) (by omega) (by omega)).mono ?_
  rintro e w2 ⟨v2, rfl, ox, hb⟩
  have k2 := j1.to hb
  clear hb
  obtain ⟨Aox, cox, rfl⟩ := (Row.of_own ox).form
  go_wp2_with fail
  refine hK.out _ _ k2 (fun _ => ?_)
  clear hK K
  try simp only [Act.put, List.setIfInBounds_toArray, List.set_cons_zero, List.set_cons_succ]
  (refine lin_take (v := ?_) (by assumption) (by rfl) ?_ ?_; rotate_left; (intro x hx; (try dsimp only at hx); go_simp; try (with_reducible rfl)); (simp only [Act.put, List.setIfInBounds_toArray, List.set_cons_zero, List.set_cons_succ]))
  refine lin_done ?_
  clear own1 j0 j1 cp0 cp1 cp2 cq0 cq1 cq2
  go_wp2_with fail
  have k22 := Kept.refl w2
  have cp0 : ∀ x, Kept w2 x → _ := fun x h => Cp0.out x (k2.trans h)
  have cp1 : ∀ x, Kept w2 x → _ := fun x h => Cp1.out x (k2.trans h)
  have cp2 : ∀ x, Kept w2 x → _ := fun x h => Cp2.out x (k2.trans h)
  have cq0 : ∀ x, Kept w2 x → _ := fun x h => Cq0.out x (k2.trans h)
  have cq1 : ∀ x, Kept w2 x → _ := fun x h => Cq1.out x (k2.trans h)
  have cq2 : ∀ x, Kept w2 x → _ := fun x h => Cq2.out x (k2.trans h)
  have j0 : Kept w2 w2.drew := (Kept.refl w2).drew
  refine wp_region_lin [(0, true), (1, true), (3, true), (2, false), (4, false), (5, true)]
    (by kernel_rfl) (by kernel_rfl) rfl (by kernel_rfl) (Kept w2) ?_
  simp only [List.map_cons, List.map_nil, List.getElem?_toArray, List.getElem?_cons_succ, List.getElem?_cons_zero]
  iterate 3 (refine lin_take (v := ?_) (by assumption) (by rfl) ?_ ?_; rotate_left; (intro x hx; (try dsimp only at hx); go_simp; try (with_reducible rfl)); (simp only [Act.put, List.setIfInBounds_toArray, List.set_cons_zero, List.set_cons_succ]))
  refine lin_call (by assumption) (by rfl) (fun K hK => ?_)
  go_simp
  refine (store_any A c n zs q.val _ q.size q.addr (HR.out _ (k2.trans j0)) (by omega) (by omega) (by omega)).mono ?_
  rintro e x1 ⟨v1, rfl, own1, hb⟩
  have j1 := j0.to hb
  clear hb
  obtain ⟨A1, c1, rfl⟩ := (Row.of_own own1).form
  go_wp2_with fail
  refine hK.out _ _ j1 (fun _ => ?_)
  clear hK K
  try simp only [Act.put, List.setIfInBounds_toArray, List.set_cons_zero, List.set_cons_succ]
  refine lin_call (by assumption) (by rfl) (fun K hK => ?_)
  go_simp
  refine (store_any A1 c1 n _ p.val _ p.size p.addr (Row.of_own own1) (by omega) (by omega) (by omega)).mono ?_
  rintro e w3 ⟨v2, rfl, oy, hb⟩
  have k3 := j1.to hb
  clear hb
  obtain ⟨Aoy, coy, rfl⟩ := (Row.of_own oy).form
  go_wp2_with fail
  refine hK.out _ _ k3 (fun _ => ?_)
  clear hK K
  try simp only [Act.put, List.setIfInBounds_toArray, List.set_cons_zero, List.set_cons_succ]
  (refine lin_take (v := ?_) (by assumption) (by rfl) ?_ ?_; rotate_left; (intro x hx; (try dsimp only at hx); go_simp; try (with_reducible rfl)); (simp only [Act.put, List.setIfInBounds_toArray, List.set_cons_zero, List.set_cons_succ]))
  refine lin_done ?_
  clear own1 j0 j1 cp0 cp1 cp2 cq0 cq1 cq2
  have cp0 := Cp0.out _ (k2.trans k3)
  have cp1 := Cp1.out _ (k2.trans k3)
  have cp2 := Cp2.out _ (k2.trans k3)
  go_wp2_with fail
  clear cp0 cp1 cp2
  have du0 : (w3.alloc (.cells #[.int .i64 p.addr, .int .i64 p.size, .int .u32 r] 25)).cell? ⟨w3.heap.size, 0, none⟩ = some (.int .i64 p.addr) := by go_simp
  have du1 : (w3.alloc (.cells #[.int .i64 p.addr, .int .i64 p.size, .int .u32 r] 25)).cell? ⟨w3.heap.size, 1, none⟩ = some (.int .i64 p.size) := by go_simp
  have du2 : (w3.alloc (.cells #[.int .i64 p.addr, .int .i64 p.size, .int .u32 r] 25)).cell? ⟨w3.heap.size, 2, none⟩ = some (.int .u32 r) := by go_simp
  have hu : w3.heap.size < (w3.alloc (.cells #[.int .i64 p.addr, .int .i64 p.size, .int .u32 r] 25)).heap.size := by simp
  have k4 : Kept w3 (w3.alloc (.cells #[.int .i64 p.addr, .int .i64 p.size, .int .u32 r] 25)) := (Kept.refl w3).alloc _
  generalize (w3.alloc (.cells #[.int .i64 p.addr, .int .i64 p.size, .int .u32 r] 25)) = W4 at *
  have kW4 : Kept W W4 := (k2.trans k3).trans k4
  have cp0 : ∀ x, Kept W4 x → _ := fun x h => Cp0.out x (kW4.trans h)
  have cp1 : ∀ x, Kept W4 x → _ := fun x h => Cp1.out x (kW4.trans h)
  have cp2 : ∀ x, Kept W4 x → _ := fun x h => Cp2.out x (kW4.trans h)
  have cq0 : ∀ x, Kept W4 x → _ := fun x h => Cq0.out x (kW4.trans h)
  have cq1 : ∀ x, Kept W4 x → _ := fun x h => Cq1.out x (kW4.trans h)
  have cq2 : ∀ x, Kept W4 x → _ := fun x h => Cq2.out x (kW4.trans h)
  have cu0 : ∀ x, Kept W4 x → _ := fun x h => Kept.cell h hu du0
  have cu1 : ∀ x, Kept W4 x → _ := fun x h => Kept.cell h hu du1
  have cu2 : ∀ x, Kept W4 x → _ := fun x h => Kept.cell h hu du2
  have j0 : Kept W4 W4.drew := (Kept.refl W4).drew
  refine wp_region_lin [(0, true), (1, true), (3, true), (2, false), (4, false), (5, true)]
    (by kernel_rfl) (by kernel_rfl) rfl (by kernel_rfl) (Kept W4) ?_
  simp only [List.map_cons, List.map_nil, List.getElem?_toArray, List.getElem?_cons_succ, List.getElem?_cons_zero]
  iterate 3 (refine lin_take (v := ?_) (by assumption) (by rfl) ?_ ?_; rotate_left; (intro x hx; (try dsimp only at hx); go_simp; try (with_reducible rfl)); (simp only [Act.put, List.setIfInBounds_toArray, List.set_cons_zero, List.set_cons_succ]))
  refine lin_call (by assumption) (by rfl) (fun K hK => ?_)
  go_simp
  refine (store_any A c n zs r _ p.size p.addr (HR.out _ (kW4.trans j0)) (by omega) (by omega) (by omega)).mono ?_
  rintro e x1 ⟨v1, rfl, own1, hb⟩
  have j1 := j0.to hb
  clear hb
  obtain ⟨A1, c1, rfl⟩ := (Row.of_own own1).form
  go_wp2_with fail
  refine hK.out _ _ j1 (fun _ => ?_)
  clear hK K
  try simp only [Act.put, List.setIfInBounds_toArray, List.set_cons_zero, List.set_cons_succ]
  refine lin_call (by assumption) (by rfl) (fun K hK => ?_)
  go_simp
  refine (store_any A1 c1 n _ p.val _ p.size p.addr (Row.of_own own1) (by omega) (by omega) (by omega)).mono ?_
  rintro e w5 ⟨v2, rfl, oz, hb⟩
  have k5 := j1.to hb
  clear hb
  obtain ⟨Aoz, coz, rfl⟩ := (Row.of_own oz).form
  go_wp2_with fail
  refine hK.out _ _ k5 (fun _ => ?_)
  clear hK K
  try simp only [Act.put, List.setIfInBounds_toArray, List.set_cons_zero, List.set_cons_succ]
  (refine lin_take (v := ?_) (by assumption) (by rfl) ?_ ?_; rotate_left; (intro x hx; (try dsimp only at hx); go_simp; try (with_reducible rfl)); (simp only [Act.put, List.setIfInBounds_toArray, List.set_cons_zero, List.set_cons_succ]))
  refine lin_done ?_
  clear own1 j0 j1 cp0 cp1 cp2 cq0 cq1 cq2 cu0 cu1 cu2
  rw [store_over] at oz
  have kW5 := kW4.trans k5
  clear du0 du1 du2
  go_wp2_with fail
  have cp0 : ∀ x, Kept w5 x → _ := fun x h => Cp0.out x (kW5.trans h)
  have cp1 : ∀ x, Kept w5 x → _ := fun x h => Cp1.out x (kW5.trans h)
  have cp2 : ∀ x, Kept w5 x → _ := fun x h => Cp2.out x (kW5.trans h)
  have cq0 : ∀ x, Kept w5 x → _ := fun x h => Cq0.out x (kW5.trans h)
  have cq1 : ∀ x, Kept w5 x → _ := fun x h => Cq1.out x (kW5.trans h)
  have cq2 : ∀ x, Kept w5 x → _ := fun x h => Cq2.out x (kW5.trans h)
  have vx : ∀ x, Kept w5 x → (convert 22 9 (.slice Aox n cox)).run Try.prog x = .ok (.string (strOfNums (storeZ (storeZ zs p.size p.addr p.val) q.size q.addr q.val))) x := fun x h => conv_row x 22 5 Try.underlying22 Try.underlying5 ((((k3.trans k4).trans k5).trans h).row (Row.of_own ox)) 9 Try.underlying9
  have vy : ∀ x, Kept w5 x → (convert 22 9 (.slice Aoy n coy)).run Try.prog x = .ok (.string (strOfNums (storeZ (storeZ zs q.size q.addr q.val) p.size p.addr p.val))) x := fun x h => conv_row x 22 5 Try.underlying22 Try.underlying5 (((k4.trans k5).trans h).row (Row.of_own oy)) 9 Try.underlying9
  have vz : ∀ x, Kept w5 x → (convert 22 9 (.slice Aoz n coz)).run Try.prog x = .ok (.string (strOfNums (storeZ zs p.size p.addr p.val))) x := fun x h => conv_row x 22 5 Try.underlying22 Try.underlying5 (((Kept.refl w5).trans h).row (Row.of_own oz)) 9 Try.underlying9
  have j0 : Kept w5 w5.drew := (Kept.refl w5).drew
  cases hov : overlapB p.addr p.size q.addr q.size
  · rw [store_swap _ _ _ _ _ _ _ hov] at vx
    have HOV := Lib.hid hov
    clear hov ox oy oz k22
    refine wp_region_lin [(0, true), (1, true), (2, true), (3, true), (4, true), (5, true), (6, true), (7, true), (8, false), (9, true), (10, true), (11, true), (12, true), (13, true), (14, true), (15, true), (16, true), (17, true), (18, true), (19, true), (20, true), (21, false), (22, true), (23, true), (24, true), (25, true)]
      (by kernel_rfl) (by kernel_rfl) rfl (by kernel_rfl) (Kept w5) ?_
    simp only [List.map_cons, List.map_nil, List.getElem?_toArray, List.getElem?_cons_succ, List.getElem?_cons_zero]
    iterate 8 (refine lin_take (v := ?_) (by assumption) (by rfl) ?_ ?_; rotate_left; (intro x hx; (try dsimp only at hx); go_simp; try (with_reducible rfl)); (simp only [Act.put, List.setIfInBounds_toArray, List.set_cons_zero, List.set_cons_succ]))
    refine lin_call (by assumption) (by rfl) (fun K hK => ?_)
    go_simp
    refine (refOverlap_any p.addr p.size q.addr q.size _ (by omega) (by omega) (by omega) (by omega)).mono ?_
    rintro e x1 ⟨rfl, rfl⟩
    rw [HOV.out]
    go_wp2_with fail
    refine hK.out _ _ j0 (fun _ => ?_)
    clear hK K
    try simp only [Act.put, List.setIfInBounds_toArray, List.set_cons_zero, List.set_cons_succ]
    iterate 12 (refine lin_take (v := ?_) (by assumption) (by rfl) ?_ ?_; rotate_left; (intro x hx; (try dsimp only at hx); go_simp; try (with_reducible rfl)); (simp only [Act.put, List.setIfInBounds_toArray, List.set_cons_zero, List.set_cons_succ]))
    refine lin_call (by assumption) (by rfl) (fun K hK => ?_)
    go_simp
    refine (store_any A c n zs p.val _ p.size p.addr (HR.out _ (kW5.trans j0)) (by omega) (by omega) (by omega)).mono ?_
    rintro e x6 ⟨v6, rfl, own6, hb⟩
    have j6 := j0.to hb
    clear hb
    obtain ⟨A6, c6, rfl⟩ := (Row.of_own own6).form
    go_wp2_with fail
    refine hK.out _ _ j6 (fun _ => ?_)
    clear hK K
    try simp only [Act.put, List.setIfInBounds_toArray, List.set_cons_zero, List.set_cons_succ]
    have v6 : ∀ x, Kept x6 x → (convert 22 9 (.slice A6 n c6)).run Try.prog x = .ok (.string (strOfNums (storeZ zs p.size p.addr p.val))) x := fun x h => conv_row x 22 5 Try.underlying22 Try.underlying5 (h.row (Row.of_own own6)) 9 Try.underlying9
    refine lin_more (S' := Kept x6) (fun x h => j6.trans h) ?_
    have oo6 := Kept.refl x6
    clear vx vy vz cp0 cp1 cp2 cq0 cq1 cq2
    iterate 4 (refine lin_take (v := ?_) (by assumption) (by rfl) ?_ ?_; rotate_left; (intro x hx; (try dsimp only at hx); go_simp; try (with_reducible rfl)); (simp only [Act.put, List.setIfInBounds_toArray, List.set_cons_zero, List.set_cons_succ]))
    refine lin_done ?_
    go_wp2_with fail
    go_ret
    exact ⟨rfl, HWB.out _ (kW5.trans j6)⟩
  · have HOV := Lib.hid hov
    clear hov ox oy oz k22
    refine wp_region_lin [(0, true), (1, true), (2, true), (3, true), (4, true), (5, true), (6, true), (7, true), (8, false), (9, true), (10, true), (11, true), (12, true), (13, true), (14, true), (15, true), (16, true), (17, true), (18, true), (19, true), (20, true), (21, false), (22, true), (23, true), (24, true), (25, true)]
      (by kernel_rfl) (by kernel_rfl) rfl (by kernel_rfl) (Kept w5) ?_
    simp only [List.map_cons, List.map_nil, List.getElem?_toArray, List.getElem?_cons_succ, List.getElem?_cons_zero]
    iterate 8 (refine lin_take (v := ?_) (by assumption) (by rfl) ?_ ?_; rotate_left; (intro x hx; (try dsimp only at hx); go_simp; try (with_reducible rfl)); (simp only [Act.put, List.setIfInBounds_toArray, List.set_cons_zero, List.set_cons_succ]))
    refine lin_call (by assumption) (by rfl) (fun K hK => ?_)
    go_simp
    refine (refOverlap_any p.addr p.size q.addr q.size _ (by omega) (by omega) (by omega) (by omega)).mono ?_
    rintro e x1 ⟨rfl, rfl⟩
    rw [HOV.out]
    go_wp2_with fail
    refine hK.out _ _ j0 (fun _ => ?_)
    clear hK K
    try simp only [Act.put, List.setIfInBounds_toArray, List.set_cons_zero, List.set_cons_succ]
    (refine lin_take (v := ?_) (by assumption) (by rfl) ?_ ?_; rotate_left; (intro x hx; (try dsimp only at hx); go_simp; try (with_reducible rfl)); (simp only [Act.put, List.setIfInBounds_toArray, List.set_cons_zero, List.set_cons_succ]))
    iterate 5 (refine lin_skip (by assumption) (by rfl) ?_; (simp only [Act.put, List.setIfInBounds_toArray, List.set_cons_zero, List.set_cons_succ]))
    iterate 6 (refine lin_take (v := ?_) (by assumption) (by rfl) ?_ ?_; rotate_left; (intro x hx; (try dsimp only at hx); go_simp; try (with_reducible rfl)); (simp only [Act.put, List.setIfInBounds_toArray, List.set_cons_zero, List.set_cons_succ]))
    refine lin_call (by assumption) (by rfl) (fun K hK => ?_)
    go_simp
    refine (store_any A c n zs p.val _ p.size p.addr (HR.out _ (kW5.trans j0)) (by omega) (by omega) (by omega)).mono ?_
    rintro e x6 ⟨v6, rfl, own6, hb⟩
    have j6 := j0.to hb
    clear hb
    obtain ⟨A6, c6, rfl⟩ := (Row.of_own own6).form
    go_wp2_with fail
    refine hK.out _ _ j6 (fun _ => ?_)
    clear hK K
    try simp only [Act.put, List.setIfInBounds_toArray, List.set_cons_zero, List.set_cons_succ]
    have v6 : ∀ x, Kept x6 x → (convert 22 9 (.slice A6 n c6)).run Try.prog x = .ok (.string (strOfNums (storeZ zs p.size p.addr p.val))) x := fun x h => conv_row x 22 5 Try.underlying22 Try.underlying5 (h.row (Row.of_own own6)) 9 Try.underlying9
    refine lin_more (S' := Kept x6) (fun x h => j6.trans h) ?_
    have oo6 := Kept.refl x6
    clear vx vy vz cp0 cp1 cp2 cq0 cq1 cq2
    iterate 4 (refine lin_take (v := ?_) (by assumption) (by rfl) ?_ ?_; rotate_left; (intro x hx; (try dsimp only at hx); go_simp; try (with_reducible rfl)); (simp only [Act.put, List.setIfInBounds_toArray, List.set_cons_zero, List.set_cons_succ]))
    refine lin_done ?_
    go_wp2_with fail
    go_ret
    exact ⟨rfl, HWB.out _ (kW5.trans j6)⟩

theorem bytesApart_walk (v0 : Value) (n0 : Nat) (z0 : List Int) (z1 z2 : Wr) (a3 : Int) (w : World) (r0 : Row w w.heap.size 1 v0 n0 (z0.map (Value.int .u8))) (g0 : ∀ x ∈ z0, 0 ≤ x ∧ x ≤ 255) (f1 : z1.Fits) (f2 : z2.Fits) (w3 : 0 ≤ a3 ∧ a3 ≤ 4294967295) :
    Calls Try.prog 6 #[v0, .agg #[.int .i64 z1.addr, .int .i64 z1.size, .int .u32 z1.val], .agg #[.int .i64 z2.addr, .int .i64 z2.size, .int .u32 z2.val], .int .u32 a3] w fun e w' => e = .returned (.bool true) ∧ Below w.heap.size w w' := by
  obtain ⟨A, c, rfl⟩ := r0.form
  exact bytesApart_in A c n0 z0 z1 z2 a3 w f1 f2 w3 r0 g0
end
end Go.Proofs.Ytkmflgfhhlhgeaa.Words

/- The walk of the law IsaTells: which instructions may be, how each is written as a word, and read, and which registers it reads and writes. -/
import Derived.Test.YtdggakpjfknncaaIsaAlive
import Derived.Test.YtdggakpjfknncaaLin
namespace Go.Proofs.Ytdggakpjfknncaa.Words
open Go.RowKit

/-- The condition on the world while the last region runs: nothing that was there has turned. -/
def Kept (W x : World) : Prop := Below W.heap.size W x
theorem Kept.cell {W x : World} (h : Kept W x) {b o : Nat} {v : Value} (hb : b < W.heap.size) (hv : W.cell? ⟨b, o, none⟩ = some v) : x.cell? ⟨b, o, none⟩ = some v := by
  rw [Below.cell (p := ⟨b, o, none⟩) h hb]; exact hv
theorem Kept.refl (W : World) : Kept W W := Below.refl _ _
theorem Kept.to {W x y : World} (h : Kept W x) (hb : Below x.heap.size x y) : Kept W y := Below.trans h (hb.mono (Below.size h))
theorem Kept.drewN {W x : World} (h : Kept W x) (k : Nat) : Kept W (x.drewN k) := Below.drewN_ h k

set_option maxHeartbeats 4000000 in
theorem isaTells_walk (i : Ins) (x op : Int) (w : World) (_hi : i.Fits) (hx : 0 ≤ x ∧ x ≤ 4294967295) (_ho : -9223372036854775808 ≤ op ∧ op ≤ 9223372036854775807) :
    Calls Try.prog 3 #[.agg #[.int .i64 i.op, .int .i64 i.d, .int .i64 i.a, .int .i64 i.b, .int .i64 i.imm], .int .u32 x, .int .i64 op] w fun e w' => e = .returned (.bool true) ∧ Below w.heap.size w w' := by
  go_enter Try.func3, Try.ntmps3
  go_wp2_with fail
  refine (alive_any _).mono ?_; rintro e w1 ⟨rfl, hb1⟩
  obtain ⟨hc1, hf1⟩ := bcell hb1
  have hz1 : w.heap.size < w1.heap.size := by have := hb1.size; simp at this; omega
  have hB1 : Below w.heap.size w w1 := ((Below.refl w.heap.size w).alloc (Nat.le_refl _) _).trans (hb1.mono (by simp))
  go_wp2_with fail
  refine (encode_any i _).mono ?_; rintro e w2 ⟨rfl, hb2⟩
  obtain ⟨hc2, hf2⟩ := bcell hb2
  have hz2 : w.heap.size < w2.heap.size := by have := hb2.size; omega
  have hB2 := hB1.trans (hb2.mono (Nat.le_of_lt hz1))
  go_wp2_with fail
  refine (refEncode_any i _).mono ?_; rintro e w3 ⟨rfl, hb3⟩
  obtain ⟨hc3, hf3⟩ := bcell hb3
  have hz3 : w.heap.size < w3.heap.size := by have := hb3.size; omega
  have hB3 := hB2.trans (hb3.mono (Nat.le_of_lt hz2))
  go_wp2_with fail
  refine (decode_any x _ hx.1 hx.2).mono ?_; rintro e w4 ⟨rfl, hb4⟩
  have hz4 : w.heap.size < w4.heap.size := by have := hb4.size; omega
  have hB4 := hB3.trans (hb4.mono (Nat.le_of_lt hz3))
  go_wp2_with fail
  refine (refDecode_any x _ hx.1 hx.2).mono ?_; rintro e w5 ⟨rfl, hb5⟩
  have hz5 : w4.heap.size < w5.heap.size := by have := hb5.size; simp at this; omega
  have hB5 := (hB4.alloc (Nat.le_of_lt hz4) _).trans (hb5.mono (by simp; omega))
  have c0 : w1.cell? ⟨w.heap.size, 0, none⟩ = some (.int .i64 i.op) := by rw [hc1 _ _ (by simp)]; go_simp
  have c0 : w5.cell? ⟨w.heap.size, 0, none⟩ = some (.int .i64 i.op) := by
    rw [Below.cell (p := ⟨w.heap.size, 0, none⟩) hb5 (by simp; omega), World.cell?_alloc_lt _ _ _ (by simp; omega), Below.cell (p := ⟨w.heap.size, 0, none⟩) hb4 hz3, hc3 _ _ hz2, hc2 _ _ hz1]; exact c0
  have d0 : w5.cell? ⟨w4.heap.size, 0, none⟩ = some (.int .i64 (decZ x).op) := by
    rw [Below.cell (p := ⟨w4.heap.size, 0, none⟩) hb5 (by simp)]; go_simp
  have c1 : w1.cell? ⟨w.heap.size, 1, none⟩ = some (.int .i64 i.d) := by rw [hc1 _ _ (by simp)]; go_simp
  have c1 : w5.cell? ⟨w.heap.size, 1, none⟩ = some (.int .i64 i.d) := by
    rw [Below.cell (p := ⟨w.heap.size, 1, none⟩) hb5 (by simp; omega), World.cell?_alloc_lt _ _ _ (by simp; omega), Below.cell (p := ⟨w.heap.size, 1, none⟩) hb4 hz3, hc3 _ _ hz2, hc2 _ _ hz1]; exact c1
  have d1 : w5.cell? ⟨w4.heap.size, 1, none⟩ = some (.int .i64 (decZ x).d) := by
    rw [Below.cell (p := ⟨w4.heap.size, 1, none⟩) hb5 (by simp)]; go_simp
  have c2 : w1.cell? ⟨w.heap.size, 2, none⟩ = some (.int .i64 i.a) := by rw [hc1 _ _ (by simp)]; go_simp
  have c2 : w5.cell? ⟨w.heap.size, 2, none⟩ = some (.int .i64 i.a) := by
    rw [Below.cell (p := ⟨w.heap.size, 2, none⟩) hb5 (by simp; omega), World.cell?_alloc_lt _ _ _ (by simp; omega), Below.cell (p := ⟨w.heap.size, 2, none⟩) hb4 hz3, hc3 _ _ hz2, hc2 _ _ hz1]; exact c2
  have d2 : w5.cell? ⟨w4.heap.size, 2, none⟩ = some (.int .i64 (decZ x).a) := by
    rw [Below.cell (p := ⟨w4.heap.size, 2, none⟩) hb5 (by simp)]; go_simp
  have c3 : w1.cell? ⟨w.heap.size, 3, none⟩ = some (.int .i64 i.b) := by rw [hc1 _ _ (by simp)]; go_simp
  have c3 : w5.cell? ⟨w.heap.size, 3, none⟩ = some (.int .i64 i.b) := by
    rw [Below.cell (p := ⟨w.heap.size, 3, none⟩) hb5 (by simp; omega), World.cell?_alloc_lt _ _ _ (by simp; omega), Below.cell (p := ⟨w.heap.size, 3, none⟩) hb4 hz3, hc3 _ _ hz2, hc2 _ _ hz1]; exact c3
  have d3 : w5.cell? ⟨w4.heap.size, 3, none⟩ = some (.int .i64 (decZ x).b) := by
    rw [Below.cell (p := ⟨w4.heap.size, 3, none⟩) hb5 (by simp)]; go_simp
  have c4 : w1.cell? ⟨w.heap.size, 4, none⟩ = some (.int .i64 i.imm) := by rw [hc1 _ _ (by simp)]; go_simp
  have c4 : w5.cell? ⟨w.heap.size, 4, none⟩ = some (.int .i64 i.imm) := by
    rw [Below.cell (p := ⟨w.heap.size, 4, none⟩) hb5 (by simp; omega), World.cell?_alloc_lt _ _ _ (by simp; omega), Below.cell (p := ⟨w.heap.size, 4, none⟩) hb4 hz3, hc3 _ _ hz2, hc2 _ _ hz1]; exact c4
  have d4 : w5.cell? ⟨w4.heap.size, 4, none⟩ = some (.int .i64 (decZ x).imm) := by
    rw [Below.cell (p := ⟨w4.heap.size, 4, none⟩) hb5 (by simp)]; go_simp
  clear hc1 hf1 hc2 hf2 hc3 hf3
  go_wp2_with fail
  have hz6 : w5.heap.size < (w5.alloc (.cells #[.int .i64 (decZ x).op, .int .i64 (decZ x).d, .int .i64 (decZ x).a, .int .i64 (decZ x).b, .int .i64 (decZ x).imm] 23)).heap.size := by simp
  have hB6 := hB5.alloc (by omega) (.cells #[.int .i64 (decZ x).op, .int .i64 (decZ x).d, .int .i64 (decZ x).a, .int .i64 (decZ x).b, .int .i64 (decZ x).imm] 23)
  have g0 : (w5.alloc (.cells #[.int .i64 (decZ x).op, .int .i64 (decZ x).d, .int .i64 (decZ x).a, .int .i64 (decZ x).b, .int .i64 (decZ x).imm] 23)).cell? ⟨w5.heap.size, 0, none⟩ = some (.int .i64 (decZ x).op) := by go_simp
  have c0 := (World.cell?_alloc_lt w5 (.cells #[.int .i64 (decZ x).op, .int .i64 (decZ x).d, .int .i64 (decZ x).a, .int .i64 (decZ x).b, .int .i64 (decZ x).imm] 23) ⟨w.heap.size, 0, none⟩ (by show w.heap.size < _; omega)).trans c0
  have d0 := (World.cell?_alloc_lt w5 (.cells #[.int .i64 (decZ x).op, .int .i64 (decZ x).d, .int .i64 (decZ x).a, .int .i64 (decZ x).b, .int .i64 (decZ x).imm] 23) ⟨w4.heap.size, 0, none⟩ hz5).trans d0
  have g1 : (w5.alloc (.cells #[.int .i64 (decZ x).op, .int .i64 (decZ x).d, .int .i64 (decZ x).a, .int .i64 (decZ x).b, .int .i64 (decZ x).imm] 23)).cell? ⟨w5.heap.size, 1, none⟩ = some (.int .i64 (decZ x).d) := by go_simp
  have c1 := (World.cell?_alloc_lt w5 (.cells #[.int .i64 (decZ x).op, .int .i64 (decZ x).d, .int .i64 (decZ x).a, .int .i64 (decZ x).b, .int .i64 (decZ x).imm] 23) ⟨w.heap.size, 1, none⟩ (by show w.heap.size < _; omega)).trans c1
  have d1 := (World.cell?_alloc_lt w5 (.cells #[.int .i64 (decZ x).op, .int .i64 (decZ x).d, .int .i64 (decZ x).a, .int .i64 (decZ x).b, .int .i64 (decZ x).imm] 23) ⟨w4.heap.size, 1, none⟩ hz5).trans d1
  have g2 : (w5.alloc (.cells #[.int .i64 (decZ x).op, .int .i64 (decZ x).d, .int .i64 (decZ x).a, .int .i64 (decZ x).b, .int .i64 (decZ x).imm] 23)).cell? ⟨w5.heap.size, 2, none⟩ = some (.int .i64 (decZ x).a) := by go_simp
  have c2 := (World.cell?_alloc_lt w5 (.cells #[.int .i64 (decZ x).op, .int .i64 (decZ x).d, .int .i64 (decZ x).a, .int .i64 (decZ x).b, .int .i64 (decZ x).imm] 23) ⟨w.heap.size, 2, none⟩ (by show w.heap.size < _; omega)).trans c2
  have d2 := (World.cell?_alloc_lt w5 (.cells #[.int .i64 (decZ x).op, .int .i64 (decZ x).d, .int .i64 (decZ x).a, .int .i64 (decZ x).b, .int .i64 (decZ x).imm] 23) ⟨w4.heap.size, 2, none⟩ hz5).trans d2
  have g3 : (w5.alloc (.cells #[.int .i64 (decZ x).op, .int .i64 (decZ x).d, .int .i64 (decZ x).a, .int .i64 (decZ x).b, .int .i64 (decZ x).imm] 23)).cell? ⟨w5.heap.size, 3, none⟩ = some (.int .i64 (decZ x).b) := by go_simp
  have c3 := (World.cell?_alloc_lt w5 (.cells #[.int .i64 (decZ x).op, .int .i64 (decZ x).d, .int .i64 (decZ x).a, .int .i64 (decZ x).b, .int .i64 (decZ x).imm] 23) ⟨w.heap.size, 3, none⟩ (by show w.heap.size < _; omega)).trans c3
  have d3 := (World.cell?_alloc_lt w5 (.cells #[.int .i64 (decZ x).op, .int .i64 (decZ x).d, .int .i64 (decZ x).a, .int .i64 (decZ x).b, .int .i64 (decZ x).imm] 23) ⟨w4.heap.size, 3, none⟩ hz5).trans d3
  have g4 : (w5.alloc (.cells #[.int .i64 (decZ x).op, .int .i64 (decZ x).d, .int .i64 (decZ x).a, .int .i64 (decZ x).b, .int .i64 (decZ x).imm] 23)).cell? ⟨w5.heap.size, 4, none⟩ = some (.int .i64 (decZ x).imm) := by go_simp
  have c4 := (World.cell?_alloc_lt w5 (.cells #[.int .i64 (decZ x).op, .int .i64 (decZ x).d, .int .i64 (decZ x).a, .int .i64 (decZ x).b, .int .i64 (decZ x).imm] 23) ⟨w.heap.size, 4, none⟩ (by show w.heap.size < _; omega)).trans c4
  have d4 := (World.cell?_alloc_lt w5 (.cells #[.int .i64 (decZ x).op, .int .i64 (decZ x).d, .int .i64 (decZ x).a, .int .i64 (decZ x).b, .int .i64 (decZ x).imm] 23) ⟨w4.heap.size, 4, none⟩ hz5).trans d4
  generalize w5.alloc (.cells #[.int .i64 (decZ x).op, .int .i64 (decZ x).d, .int .i64 (decZ x).a, .int .i64 (decZ x).b, .int .i64 (decZ x).imm] 23) = w6 at *
  have p6 : w.heap.size < w6.heap.size := by omega
  have q6 : w4.heap.size < w6.heap.size := by omega
  have hBD : Below w.heap.size w w6.drew := hB6.drew
  have C0 : ∀ y, Kept w6.drew y → y.cell? ⟨w.heap.size, 0, none⟩ = some (.int .i64 i.op) := fun y h => h.cell p6 c0
  have D0 : ∀ y, Kept w6.drew y → y.cell? ⟨w4.heap.size, 0, none⟩ = some (.int .i64 (decZ x).op) := fun y h => h.cell q6 d0
  have G0 : ∀ y, Kept w6.drew y → y.cell? ⟨w5.heap.size, 0, none⟩ = some (.int .i64 (decZ x).op) := fun y h => h.cell hz6 g0
  have C1 : ∀ y, Kept w6.drew y → y.cell? ⟨w.heap.size, 1, none⟩ = some (.int .i64 i.d) := fun y h => h.cell p6 c1
  have D1 : ∀ y, Kept w6.drew y → y.cell? ⟨w4.heap.size, 1, none⟩ = some (.int .i64 (decZ x).d) := fun y h => h.cell q6 d1
  have G1 : ∀ y, Kept w6.drew y → y.cell? ⟨w5.heap.size, 1, none⟩ = some (.int .i64 (decZ x).d) := fun y h => h.cell hz6 g1
  have C2 : ∀ y, Kept w6.drew y → y.cell? ⟨w.heap.size, 2, none⟩ = some (.int .i64 i.a) := fun y h => h.cell p6 c2
  have D2 : ∀ y, Kept w6.drew y → y.cell? ⟨w4.heap.size, 2, none⟩ = some (.int .i64 (decZ x).a) := fun y h => h.cell q6 d2
  have G2 : ∀ y, Kept w6.drew y → y.cell? ⟨w5.heap.size, 2, none⟩ = some (.int .i64 (decZ x).a) := fun y h => h.cell hz6 g2
  have C3 : ∀ y, Kept w6.drew y → y.cell? ⟨w.heap.size, 3, none⟩ = some (.int .i64 i.b) := fun y h => h.cell p6 c3
  have D3 : ∀ y, Kept w6.drew y → y.cell? ⟨w4.heap.size, 3, none⟩ = some (.int .i64 (decZ x).b) := fun y h => h.cell q6 d3
  have G3 : ∀ y, Kept w6.drew y → y.cell? ⟨w5.heap.size, 3, none⟩ = some (.int .i64 (decZ x).b) := fun y h => h.cell hz6 g3
  have C4 : ∀ y, Kept w6.drew y → y.cell? ⟨w.heap.size, 4, none⟩ = some (.int .i64 i.imm) := fun y h => h.cell p6 c4
  have D4 : ∀ y, Kept w6.drew y → y.cell? ⟨w4.heap.size, 4, none⟩ = some (.int .i64 (decZ x).imm) := fun y h => h.cell q6 d4
  have G4 : ∀ y, Kept w6.drew y → y.cell? ⟨w5.heap.size, 4, none⟩ = some (.int .i64 (decZ x).imm) := fun y h => h.cell hz6 g4
  clear c0 d0 g0 c1 d1 g1 c2 d2 g2 c3 d3 g3 c4 d4 g4 hb1 hb2 hb3 hb4 hb5 hB1 hB2 hB3 hB4 hB5 hB6
  have k6 := Kept.refl w6.drew
  have e1 := eql_ins (decZ x) (decZ x)
  have e3 : decide (decZ x = decZ x) = true := by simp
  rw [e3] at e1
  clear e3
  refine wp_region_lin [(0, true), (1, true), (2, true), (4, true), (3, false), (5, false), (6, true), (7, true), (8, true), (9, true), (11, true), (10, false), (12, false), (13, true), (14, true), (15, true), (16, true), (17, true), (18, true), (19, true), (20, true), (21, true), (22, true), (23, true), (24, true), (25, true), (26, true), (27, true), (28, true), (29, true), (30, true), (31, true), (32, true), (33, true), (34, true), (35, true), (36, true), (38, true), (37, false), (39, false), (40, false), (41, true), (42, true), (43, true), (45, true), (44, false), (46, false), (47, true), (48, true), (49, true)]
    (by kernel_rfl) (by kernel_rfl) rfl (by kernel_rfl) (Kept w6.drew) ?_
  simp only [List.map_cons, List.map_nil, List.getElem?_toArray, List.getElem?_cons_succ, List.getElem?_cons_zero]
  iterate 4 (refine lin_take (v := ?_) (by assumption) (by rfl) ?_ ?_; rotate_left; (intro x hx; (try dsimp only at hx); go_simp; try (with_reducible rfl)); (simp only [Act.put, List.setIfInBounds_toArray, List.set_cons_zero, List.set_cons_succ]))
  refine lin_call (by assumption) (by rfl) (fun K hK => ?_)
  go_simp
  refine (form_any op _).mono ?_
  rintro e w' ⟨rfl, rfl⟩
  go_wp2_with fail
  refine hK.out _ _ (by assumption) (fun _ => ?_)
  clear hK K
  try simp only [Act.put, List.setIfInBounds_toArray, List.set_cons_zero, List.set_cons_succ]
  refine lin_call (by assumption) (by rfl) (fun K hK => ?_)
  go_simp
  refine (refForm_any op _).mono ?_
  rintro e w' ⟨rfl, rfl⟩
  go_wp2_with fail
  refine hK.out _ _ (by assumption) (fun _ => ?_)
  clear hK K
  try simp only [Act.put, List.setIfInBounds_toArray, List.set_cons_zero, List.set_cons_succ]
  iterate 5 (refine lin_take (v := ?_) (by assumption) (by rfl) ?_ ?_; rotate_left; (intro x hx; (try dsimp only at hx); go_simp; try (with_reducible rfl)); (simp only [Act.put, List.setIfInBounds_toArray, List.set_cons_zero, List.set_cons_succ]))
  refine lin_call (by assumption) (by rfl) (fun K hK => ?_)
  go_simp
  refine (right_any i _).mono ?_
  rintro e w7 ⟨rfl, hb7⟩
  have k7 := k6.to hb7
  go_wp2_with fail
  refine hK.out _ _ (by assumption) (fun _ => ?_)
  clear hK K
  try simp only [Act.put, List.setIfInBounds_toArray, List.set_cons_zero, List.set_cons_succ]
  refine lin_call (by assumption) (by rfl) (fun K hK => ?_)
  go_simp
  refine (rightIns_any i _).mono ?_
  rintro e w8 ⟨rfl, hb8⟩
  have k8 := k7.to hb8
  go_wp2_with fail
  refine hK.out _ _ (by assumption) (fun _ => ?_)
  clear hK K
  try simp only [Act.put, List.setIfInBounds_toArray, List.set_cons_zero, List.set_cons_succ]
  iterate 25 (refine lin_take (v := ?_) (by assumption) (by rfl) ?_ ?_; rotate_left; (intro x hx; (try dsimp only at hx); go_simp; try (with_reducible rfl)); (simp only [Act.put, List.setIfInBounds_toArray, List.set_cons_zero, List.set_cons_succ]))
  refine lin_call (by assumption) (by rfl) (fun K hK => ?_)
  go_simp
  refine (reads_any i _).mono ?_
  rintro e w9 ⟨v9, rfl, r9, hb9⟩
  have k9 := k8.to hb9
  go_wp2_with fail
  refine hK.out _ _ (by assumption) (fun _ => ?_)
  clear hK K
  try simp only [Act.put, List.setIfInBounds_toArray, List.set_cons_zero, List.set_cons_succ]
  refine lin_call (by assumption) (by rfl) (fun K hK => ?_)
  go_simp
  refine (refReads_any i _).mono ?_
  rintro e w10 ⟨v10, rfl, r10, hb10⟩
  have k10 := k9.to hb10
  have r9 := r9.below hb10
  go_wp2_with fail
  refine hK.out _ _ (by assumption) (fun _ => ?_)
  clear hK K
  try simp only [Act.put, List.setIfInBounds_toArray, List.set_cons_zero, List.set_cons_succ]
  refine lin_call (by assumption) (by rfl) (fun K hK => ?_)
  go_simp
  refine (same_yes r9 r10).mono ?_
  rintro e w11 ⟨rfl, k, rfl⟩
  have k11 := k10.drewN k
  go_wp2_with fail
  refine hK.out _ _ (by assumption) (fun _ => ?_)
  clear hK K
  try simp only [Act.put, List.setIfInBounds_toArray, List.set_cons_zero, List.set_cons_succ]
  iterate 4 (refine lin_take (v := ?_) (by assumption) (by rfl) ?_ ?_; rotate_left; (intro x hx; (try dsimp only at hx); go_simp; try (with_reducible rfl)); (simp only [Act.put, List.setIfInBounds_toArray, List.set_cons_zero, List.set_cons_succ]))
  refine lin_call (by assumption) (by rfl) (fun K hK => ?_)
  go_simp
  refine (writes_any i _).mono ?_
  rintro e w12 ⟨rfl, hb12⟩
  have k12 := k11.to hb12
  go_wp2_with fail
  refine hK.out _ _ (by assumption) (fun _ => ?_)
  clear hK K
  try simp only [Act.put, List.setIfInBounds_toArray, List.set_cons_zero, List.set_cons_succ]
  refine lin_call (by assumption) (by rfl) (fun K hK => ?_)
  go_simp
  refine (refWrites_any i _).mono ?_
  rintro e w13 ⟨rfl, hb13⟩
  have k13 := k12.to hb13
  go_wp2_with fail
  refine hK.out _ _ (by assumption) (fun _ => ?_)
  clear hK K
  try simp only [Act.put, List.setIfInBounds_toArray, List.set_cons_zero, List.set_cons_succ]
  iterate 3 (refine lin_take (v := ?_) (by assumption) (by rfl) ?_ ?_; rotate_left; (intro x hx; (try dsimp only at hx); go_simp; try (with_reducible rfl)); (simp only [Act.put, List.setIfInBounds_toArray, List.set_cons_zero, List.set_cons_succ]))
  refine lin_done ?_
  go_wp2_with fail
  go_ret
  exact ⟨rfl, hBD.trans (Below.mono k13 hBD.size)⟩
end Go.Proofs.Ytdggakpjfknncaa.Words

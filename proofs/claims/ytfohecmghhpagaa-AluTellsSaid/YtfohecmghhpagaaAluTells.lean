/- The walk of the law AluTells: what any instruction reckons, which branch is taken, and how long it takes. -/
import Derived.Test.YtfohecmghhpagaaAluLaws
import Derived.Test.YtfohecmghhpagaaAluRefDo
import Derived.Test.YtfohecmghhpagaaOpenCfg
import Derived.Test.YtfohecmghhpagaaLin
namespace Go.Proofs.Ytfohecmghhpagaa.Words
open Go.RowKit
set_option linter.unusedVariables false

set_option maxHeartbeats 4000000 in
theorem aluTells_walk (i : Ins) (a b op : Int) (c : Cfg) (w : World) (_hi : i.Fits) (ha : 0 ≤ a ∧ a ≤ 4294967295) (hb : 0 ≤ b ∧ b ≤ 4294967295) (_ho : -9223372036854775808 ≤ op ∧ op ≤ 9223372036854775807) (_hc : c.Fits) :
    Calls Try.prog 3 #[.agg #[.int .i64 i.op, .int .i64 i.d, .int .i64 i.a, .int .i64 i.b, .int .i64 i.imm], .int .u32 a, .int .u32 b, .int .i64 op, .agg #[.int .i64 c.ldq, .int .i64 c.sdq, .int .i64 c.aeq, .int .i64 c.abq, .int .i64 c.ebq, .int .i64 c.saq, .int .i64 c.banks, .int .i64 c.flight, .int .i64 c.slip, .int .i64 c.lat, .int .i64 c.mul, .int .i64 c.div]] w fun e w' => e = .returned (.bool true) ∧ Below w.heap.size w w' := by
  replace ha : 0 ≤ a ∧ a < 4294967296 := by omega
  replace hb : 0 ≤ b ∧ b < 4294967296 := by omega
  have hB0 : Below w.heap.size w w := Below.refl _ _
  go_enter Try.func3, Try.ntmps3
  go_wp2_with fail
  refine (alive_any _).mono ?_; rintro e w1 ⟨rfl, hb1⟩
  obtain ⟨hc1, hf1⟩ := bcell hb1
  have hz1 : w.heap.size < w1.heap.size ∧ w.heap.size + 1 < w1.heap.size := by have := hb1.size; simp at this; omega
  obtain ⟨hz1, hz1'⟩ := hz1
  have hB1 : Below w.heap.size w w1 := ((hB0.alloc (Nat.le_refl _) _).alloc (by simp) _).trans (hb1.mono (by simp; omega))
  go_wp2_with fail
  refine (do_any i _ _ _ ha hb).mono ?_; rintro e w2 ⟨rfl, hb2⟩
  obtain ⟨hc2, hf2⟩ := bcell hb2
  have hz2 : w.heap.size < w2.heap.size ∧ w.heap.size + 1 < w2.heap.size := by have := hb2.size; omega
  obtain ⟨hz2, hz2'⟩ := hz2
  have hB2 := hB1.trans (hb2.mono (Nat.le_of_lt hz1))
  go_wp2_with fail
  refine (refDo_any i _ _ _ ha hb).mono ?_; rintro e w3 ⟨rfl, hb3⟩
  have hz3 : w.heap.size < w3.heap.size ∧ w.heap.size + 1 < w3.heap.size := by have := hb3.size; omega
  obtain ⟨hz3, hz3'⟩ := hz3
  have hB3 := hB2.trans (hb3.mono (Nat.le_of_lt hz2))
  have c0 : w1.cell? ⟨w.heap.size + 1, 0, none⟩ = some (.int .i64 c.ldq) := by rw [hc1 _ _ (by simp)]; go_simp
  have c0 : w3.cell? ⟨w.heap.size + 1, 0, none⟩ = some (.int .i64 c.ldq) := by
    rw [Below.cell (p := ⟨w.heap.size + 1, 0, none⟩) hb3 hz2', hc2 _ _ hz1']; exact c0
  have c1 : w1.cell? ⟨w.heap.size + 1, 1, none⟩ = some (.int .i64 c.sdq) := by rw [hc1 _ _ (by simp)]; go_simp
  have c1 : w3.cell? ⟨w.heap.size + 1, 1, none⟩ = some (.int .i64 c.sdq) := by
    rw [Below.cell (p := ⟨w.heap.size + 1, 1, none⟩) hb3 hz2', hc2 _ _ hz1']; exact c1
  have c2 : w1.cell? ⟨w.heap.size + 1, 2, none⟩ = some (.int .i64 c.aeq) := by rw [hc1 _ _ (by simp)]; go_simp
  have c2 : w3.cell? ⟨w.heap.size + 1, 2, none⟩ = some (.int .i64 c.aeq) := by
    rw [Below.cell (p := ⟨w.heap.size + 1, 2, none⟩) hb3 hz2', hc2 _ _ hz1']; exact c2
  have c3 : w1.cell? ⟨w.heap.size + 1, 3, none⟩ = some (.int .i64 c.abq) := by rw [hc1 _ _ (by simp)]; go_simp
  have c3 : w3.cell? ⟨w.heap.size + 1, 3, none⟩ = some (.int .i64 c.abq) := by
    rw [Below.cell (p := ⟨w.heap.size + 1, 3, none⟩) hb3 hz2', hc2 _ _ hz1']; exact c3
  have c4 : w1.cell? ⟨w.heap.size + 1, 4, none⟩ = some (.int .i64 c.ebq) := by rw [hc1 _ _ (by simp)]; go_simp
  have c4 : w3.cell? ⟨w.heap.size + 1, 4, none⟩ = some (.int .i64 c.ebq) := by
    rw [Below.cell (p := ⟨w.heap.size + 1, 4, none⟩) hb3 hz2', hc2 _ _ hz1']; exact c4
  have c5 : w1.cell? ⟨w.heap.size + 1, 5, none⟩ = some (.int .i64 c.saq) := by rw [hc1 _ _ (by simp)]; go_simp
  have c5 : w3.cell? ⟨w.heap.size + 1, 5, none⟩ = some (.int .i64 c.saq) := by
    rw [Below.cell (p := ⟨w.heap.size + 1, 5, none⟩) hb3 hz2', hc2 _ _ hz1']; exact c5
  have c6 : w1.cell? ⟨w.heap.size + 1, 6, none⟩ = some (.int .i64 c.banks) := by rw [hc1 _ _ (by simp)]; go_simp
  have c6 : w3.cell? ⟨w.heap.size + 1, 6, none⟩ = some (.int .i64 c.banks) := by
    rw [Below.cell (p := ⟨w.heap.size + 1, 6, none⟩) hb3 hz2', hc2 _ _ hz1']; exact c6
  have c7 : w1.cell? ⟨w.heap.size + 1, 7, none⟩ = some (.int .i64 c.flight) := by rw [hc1 _ _ (by simp)]; go_simp
  have c7 : w3.cell? ⟨w.heap.size + 1, 7, none⟩ = some (.int .i64 c.flight) := by
    rw [Below.cell (p := ⟨w.heap.size + 1, 7, none⟩) hb3 hz2', hc2 _ _ hz1']; exact c7
  have c8 : w1.cell? ⟨w.heap.size + 1, 8, none⟩ = some (.int .i64 c.slip) := by rw [hc1 _ _ (by simp)]; go_simp
  have c8 : w3.cell? ⟨w.heap.size + 1, 8, none⟩ = some (.int .i64 c.slip) := by
    rw [Below.cell (p := ⟨w.heap.size + 1, 8, none⟩) hb3 hz2', hc2 _ _ hz1']; exact c8
  have c9 : w1.cell? ⟨w.heap.size + 1, 9, none⟩ = some (.int .i64 c.lat) := by rw [hc1 _ _ (by simp)]; go_simp
  have c9 : w3.cell? ⟨w.heap.size + 1, 9, none⟩ = some (.int .i64 c.lat) := by
    rw [Below.cell (p := ⟨w.heap.size + 1, 9, none⟩) hb3 hz2', hc2 _ _ hz1']; exact c9
  have c10 : w1.cell? ⟨w.heap.size + 1, 10, none⟩ = some (.int .i64 c.mul) := by rw [hc1 _ _ (by simp)]; go_simp
  have c10 : w3.cell? ⟨w.heap.size + 1, 10, none⟩ = some (.int .i64 c.mul) := by
    rw [Below.cell (p := ⟨w.heap.size + 1, 10, none⟩) hb3 hz2', hc2 _ _ hz1']; exact c10
  have c11 : w1.cell? ⟨w.heap.size + 1, 11, none⟩ = some (.int .i64 c.div) := by rw [hc1 _ _ (by simp)]; go_simp
  have c11 : w3.cell? ⟨w.heap.size + 1, 11, none⟩ = some (.int .i64 c.div) := by
    rw [Below.cell (p := ⟨w.heap.size + 1, 11, none⟩) hb3 hz2', hc2 _ _ hz1']; exact c11
  clear hc1 hf1 hc2 hf2
  go_wp2_with fail
  have hBD : Below w.heap.size w w3.drew := hB3.drew
  have C0 : ∀ y, Kept w3.drew y → y.cell? ⟨w.heap.size + 1, 0, none⟩ = some (.int .i64 c.ldq) := fun y h => h.cell hz3' c0
  have C1 : ∀ y, Kept w3.drew y → y.cell? ⟨w.heap.size + 1, 1, none⟩ = some (.int .i64 c.sdq) := fun y h => h.cell hz3' c1
  have C2 : ∀ y, Kept w3.drew y → y.cell? ⟨w.heap.size + 1, 2, none⟩ = some (.int .i64 c.aeq) := fun y h => h.cell hz3' c2
  have C3 : ∀ y, Kept w3.drew y → y.cell? ⟨w.heap.size + 1, 3, none⟩ = some (.int .i64 c.abq) := fun y h => h.cell hz3' c3
  have C4 : ∀ y, Kept w3.drew y → y.cell? ⟨w.heap.size + 1, 4, none⟩ = some (.int .i64 c.ebq) := fun y h => h.cell hz3' c4
  have C5 : ∀ y, Kept w3.drew y → y.cell? ⟨w.heap.size + 1, 5, none⟩ = some (.int .i64 c.saq) := fun y h => h.cell hz3' c5
  have C6 : ∀ y, Kept w3.drew y → y.cell? ⟨w.heap.size + 1, 6, none⟩ = some (.int .i64 c.banks) := fun y h => h.cell hz3' c6
  have C7 : ∀ y, Kept w3.drew y → y.cell? ⟨w.heap.size + 1, 7, none⟩ = some (.int .i64 c.flight) := fun y h => h.cell hz3' c7
  have C8 : ∀ y, Kept w3.drew y → y.cell? ⟨w.heap.size + 1, 8, none⟩ = some (.int .i64 c.slip) := fun y h => h.cell hz3' c8
  have C9 : ∀ y, Kept w3.drew y → y.cell? ⟨w.heap.size + 1, 9, none⟩ = some (.int .i64 c.lat) := fun y h => h.cell hz3' c9
  have C10 : ∀ y, Kept w3.drew y → y.cell? ⟨w.heap.size + 1, 10, none⟩ = some (.int .i64 c.mul) := fun y h => h.cell hz3' c10
  have C11 : ∀ y, Kept w3.drew y → y.cell? ⟨w.heap.size + 1, 11, none⟩ = some (.int .i64 c.div) := fun y h => h.cell hz3' c11
  clear c0 c1 c2 c3 c4 c5 c6 c7 c8 c9 c10 c11 hb1 hb2 hb3 hB1 hB2 hB3
  have k6 := Kept.refl w3.drew
  refine wp_region_lin [(0, true), (1, true), (2, true), (3, true), (4, true), (5, true), (6, true), (7, true), (8, true), (9, true), (10, true), (11, true), (12, true), (13, true), (14, true), (16, true), (17, true), (18, true), (15, false), (19, false), (20, true), (21, true), (22, true), (23, true), (24, true), (26, true), (27, true), (25, false), (28, false), (29, true), (30, true), (31, true)]
    (by kernel_rfl) (by kernel_rfl) rfl (by kernel_rfl) (Kept w3.drew) ?_
  simp only [List.map_cons, List.map_nil, List.getElem?_toArray, List.getElem?_cons_succ, List.getElem?_cons_zero]
  iterate 18 (refine lin_take (v := ?_) (by assumption) (by rfl) ?_ ?_; rotate_left; (intro x hx; (try dsimp only at hx); go_simp; try (with_reducible rfl)); (simp only [Act.put, List.setIfInBounds_toArray, List.set_cons_zero, List.set_cons_succ]))
  refine lin_call (by assumption) (by rfl) (fun K hK => ?_)
  go_simp
  refine (taken_any op _ _ _ ha hb).mono ?_
  rintro e w' ⟨rfl, rfl⟩
  go_wp2_with fail
  refine hK.out _ _ (by assumption) (fun _ => ?_)
  clear hK K
  try simp only [Act.put, List.setIfInBounds_toArray, List.set_cons_zero, List.set_cons_succ]
  refine lin_call (by assumption) (by rfl) (fun K hK => ?_)
  go_simp
  refine (refTaken_any op _ _ _ ha hb).mono ?_
  rintro e w' ⟨rfl, rfl⟩
  go_wp2_with fail
  refine hK.out _ _ (by assumption) (fun _ => ?_)
  clear hK K
  try simp only [Act.put, List.setIfInBounds_toArray, List.set_cons_zero, List.set_cons_succ]
  iterate 7 (refine lin_take (v := ?_) (by assumption) (by rfl) ?_ ?_; rotate_left; (intro x hx; (try dsimp only at hx); go_simp; try (with_reducible rfl)); (simp only [Act.put, List.setIfInBounds_toArray, List.set_cons_zero, List.set_cons_succ]))
  refine lin_call (by assumption) (by rfl) (fun K hK => ?_)
  go_simp
  refine (latency_any c.ldq c.sdq c.aeq c.abq c.ebq c.saq c.banks c.flight c.slip c.lat c.mul c.div op _).mono ?_
  rintro e w7 ⟨rfl, hb7⟩
  have k7 := k6.to hb7
  go_wp2_with fail
  refine hK.out _ _ (by assumption) (fun _ => ?_)
  clear hK K
  try simp only [Act.put, List.setIfInBounds_toArray, List.set_cons_zero, List.set_cons_succ]
  refine lin_call (by assumption) (by rfl) (fun K hK => ?_)
  go_simp
  refine (refLatency_any c.ldq c.sdq c.aeq c.abq c.ebq c.saq c.banks c.flight c.slip c.lat c.mul c.div op _).mono ?_
  rintro e w8 ⟨rfl, hb8⟩
  have k8 := k7.to hb8
  go_wp2_with fail
  refine hK.out _ _ (by assumption) (fun _ => ?_)
  clear hK K
  try simp only [Act.put, List.setIfInBounds_toArray, List.set_cons_zero, List.set_cons_succ]
  iterate 3 (refine lin_take (v := ?_) (by assumption) (by rfl) ?_ ?_; rotate_left; (intro x hx; (try dsimp only at hx); go_simp; try (with_reducible rfl)); (simp only [Act.put, List.setIfInBounds_toArray, List.set_cons_zero, List.set_cons_succ]))
  refine lin_done ?_
  go_wp2_with fail
  go_ret
  exact ⟨rfl, hBD.trans (Below.mono k8 hBD.size)⟩
end Go.Proofs.Ytfohecmghhpagaa.Words

/- The walk of the law EmitPlaces. -/
import Derived.Test.YtcaibahniheohaaEmtMoved
namespace Go.Proofs.Ytcaibahniheohaa.Words
set_option maxRecDepth 100000
open Go.RowKit
set_option linter.unusedVariables false
set_option linter.unusedSimpArgs false

set_option maxHeartbeats 8000000 in
theorem emitPlaces_walk (i : Ins) (o : List Int) (pc off p f : Int) (w : World) (hi : i.Fits) (ho : o.length = 16) (h1 : -9223372036854775808 ≤ pc ∧ pc ≤ 9223372036854775807) (h2 : -9223372036854775808 ≤ off ∧ off ≤ 9223372036854775807) (h3 : -9223372036854775808 ≤ p ∧ p ≤ 9223372036854775807) (h4 : -9223372036854775808 ≤ f ∧ f ≤ 9223372036854775807) :
    Calls Try.prog 5 #[.agg #[.int .i64 i.op, .int .i64 i.d, .int .i64 i.a, .int .i64 i.b, .int .i64 i.imm], .agg (oV o).toArray, .int .i64 pc, .int .i64 off, .int .i64 p, .int .i64 f] w fun e w' => e = .returned (.bool true) ∧ Below w.heap.size w w' := by
  obtain ⟨W1, hW1⟩ : ∃ W1, W1 = w.alloc (.cells (insV i).toArray 23) := ⟨_, rfl⟩
  obtain ⟨W2, hW2⟩ : ∃ W2, W2 = W1.alloc (.cells (oV o).toArray 24) := ⟨_, rfl⟩
  have hz1 : W1.heap.size = w.heap.size + 1 := by rw [hW1]; simp
  have HK0 : Hid (Below w.heap.size w W2) := by rw [hW2, hW1]; exact ((Below.refl w.heap.size w).alloc (Nat.le_refl _) _).alloc (by simp) _
  have HX0 : Hid (Box W2 w.heap.size (insV i)) := by rw [hW2, hW1]; exact (Box.new w (insV i) _).alloc _
  have HY0 : Hid (Box W2 (w.heap.size + 1) (oV o)) := by rw [hW2, ← hz1]; exact Box.new W1 (oV o) _
  have HOL := Lib.hid ho
  have HLA : Hid ((emitA (zeroed o) i pc off).length ≤ 100) := emitA_len _ _ _ _
  have HLE : Hid ((emitE (zeroed o) i pc off).length ≤ 100) := emitE_len _ _ _ _
  have HQA : Hid ((emitA (zeroed o) i p f).length = (emitA (zeroed o) i pc off).length) := by show _ = _; rw [← emitA_at _ _ pc off p f, List.length_map]
  have HQE : Hid ((emitE (zeroed o) i p f).length = (emitE (zeroed o) i pc off).length) := by show _ = _; rw [← emitE_at _ _ pc off p f, List.length_map]
  clear hi ho h1 h2 h3 h4 hz1
  go_enter Try.func5, Try.ntmps5
  go_wp2_with fail
  change Calls _ _ _ ((w.alloc (.cells (insV i).toArray 23)).alloc (.cells (oV o).toArray 24)) _
  rw [← hW1, ← hW2]
  clear hW1 hW2
  refine (alive12_any _).mono ?_; rintro e w1 ⟨rfl, hb⟩
  have HK1 := Lib.hid (HK0.out.trans (hb.mono HK0.out.size))
  have HX1 := Lib.hid (HX0.out.below hb HX0.out.lt)
  have HY1 := Lib.hid (HY0.out.below hb HY0.out.lt)
  clear hb
  go_wp2_with fail
  refine wp_region_lin [(0, true), (1, true), (2, true), (3, true), (5, true), (6, true), (7, true), (8, true), (10, true), (11, true), (4, false), (9, false), (12, false), (13, true), (14, true), (15, true), (16, true), (17, true), (19, true), (20, true), (21, true), (22, true), (24, true), (25, true), (18, false), (23, false), (26, false), (27, true), (28, true)]
    (by kernel_rfl) (by kernel_rfl) rfl (by kernel_rfl) (Kept w1) ?_
  have k0 : Kept w1 w1.drew := (Kept.refl w1).drew
  simp only [List.map_cons, List.map_nil, List.getElem?_toArray, List.getElem?_cons_succ, List.getElem?_cons_zero]
  refine lin_take_box k0 rfl 23 (.tmp 6) rfl w.heap.size 0 rfl (insV i) (insV i) (fun y hy => HX1.out.kept hy) whole_at _ Try.underlying23 rfl 5 size_ins5 rfl ?_
  simp only [Act.put, List.setIfInBounds_toArray, List.set_cons_zero, List.set_cons_succ]
  refine lin_take_box k0 rfl 24 (.tmp 7) rfl (w.heap.size + 1) 0 rfl (oV o) (oV o) (fun y hy => HY1.out.kept hy) whole_at _ Try.underlying24 rfl 16 (by kernel_rfl) ((oV_len o).trans HOL.out) ?_
  simp only [Act.put, List.setIfInBounds_toArray, List.set_cons_zero, List.set_cons_succ]
  iterate 2 (refine lin_take (v := ?_) k0 (by rfl) ?_ ?_; rotate_left; (intro x hx; (try dsimp only at hx); go_simp; try (with_reducible rfl)); (try simp only [Act.put, List.setIfInBounds_toArray, List.set_cons_zero, List.set_cons_succ]))
  refine lin_take_box k0 rfl 23 (.tmp 6) rfl w.heap.size 0 rfl (insV i) (insV i) (fun y hy => HX1.out.kept hy) whole_at _ Try.underlying23 rfl 5 size_ins5 rfl ?_
  simp only [Act.put, List.setIfInBounds_toArray, List.set_cons_zero, List.set_cons_succ]
  refine lin_take_box k0 rfl 24 (.tmp 7) rfl (w.heap.size + 1) 0 rfl (oV o) (oV o) (fun y hy => HY1.out.kept hy) whole_at _ Try.underlying24 rfl 16 (by kernel_rfl) ((oV_len o).trans HOL.out) ?_
  simp only [Act.put, List.setIfInBounds_toArray, List.set_cons_zero, List.set_cons_succ]
  iterate 2 (refine lin_take (v := ?_) k0 (by rfl) ?_ ?_; rotate_left; (intro x hx; (try dsimp only at hx); go_simp; try (with_reducible rfl)); (try simp only [Act.put, List.setIfInBounds_toArray, List.set_cons_zero, List.set_cons_succ]))
  iterate 2 (refine lin_take (v := ?_) k0 (by rfl) ?_ ?_; rotate_left; (intro x hx; (try dsimp only at hx); go_simp; try (with_reducible rfl)); (try simp only [Act.put, List.setIfInBounds_toArray, List.set_cons_zero, List.set_cons_succ]))
  refine lin_call k0 (by rfl) (fun K hK => ?_)
  go_simp
  refine (emitA_any i o pc off _ HOL.out).mono ?_; rintro e waa ⟨v, rfl, hr, hn, hb⟩
  go_wp2_with fail
  have kaa := k0.to hb
  obtain ⟨Aa1, ca1, rfl⟩ := hr.form
  have HRa1 := Lib.hid hr
  clear hr hn
  refine hK.out _ _ kaa (fun _ => ?_)
  clear hK K hb
  try simp only [Act.put, List.setIfInBounds_toArray, List.set_cons_zero, List.set_cons_succ]
  refine lin_call kaa (by rfl) (fun K hK => ?_)
  go_simp
  refine (emitA_any i o p f _ HOL.out).mono ?_; rintro e wab ⟨v, rfl, hr, hn, hb⟩
  go_wp2_with fail
  have kab := kaa.to hb
  obtain ⟨Aa2, ca2, rfl⟩ := hr.form
  have HRa2 := Lib.hid hr
  clear hr hn
  have HRa1 := Lib.hid ((HRa1.out.below hb).more hb.size)
  have HRa2 : Hid (Row wab wab.heap.size 9 (.slice Aa2 (emitA (zeroed o) i p f).length ca2) (emitA (zeroed o) i p f).length (flat celCells ((emitA (zeroed o) i pc off).map (atC p f)))) := by rw [emitA_at]; exact HRa2.out
  refine hK.out _ _ kab (fun _ => ?_)
  clear hK K hb
  try simp only [Act.put, List.setIfInBounds_toArray, List.set_cons_zero, List.set_cons_succ]
  refine lin_call kab (by rfl) (fun K hK => ?_)
  go_simp
  refine (moved_any Aa1 Aa2 _ _ ca1 ca2 (emitA (zeroed o) i pc off) p f _ rfl HQA.out HLA.out HRa1.out HRa2.out).mono ?_; rintro e wac ⟨rfl, hb⟩
  go_wp2_with fail
  have kac := kab.to hb
  refine hK.out _ _ kac (fun _ => ?_)
  clear hK K hb
  try simp only [Act.put, List.setIfInBounds_toArray, List.set_cons_zero, List.set_cons_succ]
  iterate 1 (refine lin_take (v := ?_) kac (by rfl) ?_ ?_; rotate_left; (intro x hx; (try dsimp only at hx); go_simp; try (with_reducible rfl)); (try simp only [Act.put, List.setIfInBounds_toArray, List.set_cons_zero, List.set_cons_succ]))
  refine lin_take_box kac rfl 23 (.tmp 6) rfl w.heap.size 0 rfl (insV i) (insV i) (fun y hy => HX1.out.kept hy) whole_at _ Try.underlying23 rfl 5 size_ins5 rfl ?_
  simp only [Act.put, List.setIfInBounds_toArray, List.set_cons_zero, List.set_cons_succ]
  refine lin_take_box kac rfl 24 (.tmp 7) rfl (w.heap.size + 1) 0 rfl (oV o) (oV o) (fun y hy => HY1.out.kept hy) whole_at _ Try.underlying24 rfl 16 (by kernel_rfl) ((oV_len o).trans HOL.out) ?_
  simp only [Act.put, List.setIfInBounds_toArray, List.set_cons_zero, List.set_cons_succ]
  iterate 2 (refine lin_take (v := ?_) kac (by rfl) ?_ ?_; rotate_left; (intro x hx; (try dsimp only at hx); go_simp; try (with_reducible rfl)); (try simp only [Act.put, List.setIfInBounds_toArray, List.set_cons_zero, List.set_cons_succ]))
  refine lin_take_box kac rfl 23 (.tmp 6) rfl w.heap.size 0 rfl (insV i) (insV i) (fun y hy => HX1.out.kept hy) whole_at _ Try.underlying23 rfl 5 size_ins5 rfl ?_
  simp only [Act.put, List.setIfInBounds_toArray, List.set_cons_zero, List.set_cons_succ]
  refine lin_take_box kac rfl 24 (.tmp 7) rfl (w.heap.size + 1) 0 rfl (oV o) (oV o) (fun y hy => HY1.out.kept hy) whole_at _ Try.underlying24 rfl 16 (by kernel_rfl) ((oV_len o).trans HOL.out) ?_
  simp only [Act.put, List.setIfInBounds_toArray, List.set_cons_zero, List.set_cons_succ]
  iterate 2 (refine lin_take (v := ?_) kac (by rfl) ?_ ?_; rotate_left; (intro x hx; (try dsimp only at hx); go_simp; try (with_reducible rfl)); (try simp only [Act.put, List.setIfInBounds_toArray, List.set_cons_zero, List.set_cons_succ]))
  iterate 2 (refine lin_take (v := ?_) kac (by rfl) ?_ ?_; rotate_left; (intro x hx; (try dsimp only at hx); go_simp; try (with_reducible rfl)); (try simp only [Act.put, List.setIfInBounds_toArray, List.set_cons_zero, List.set_cons_succ]))
  refine lin_call kac (by rfl) (fun K hK => ?_)
  go_simp
  refine (emitE_any i o pc off _ HOL.out).mono ?_; rintro e wea ⟨v, rfl, hr, hn, hb⟩
  go_wp2_with fail
  have kea := kac.to hb
  obtain ⟨Ae1, ce1, rfl⟩ := hr.form
  have HRe1 := Lib.hid hr
  clear hr hn
  refine hK.out _ _ kea (fun _ => ?_)
  clear hK K hb
  try simp only [Act.put, List.setIfInBounds_toArray, List.set_cons_zero, List.set_cons_succ]
  refine lin_call kea (by rfl) (fun K hK => ?_)
  go_simp
  refine (emitE_any i o p f _ HOL.out).mono ?_; rintro e web ⟨v, rfl, hr, hn, hb⟩
  go_wp2_with fail
  have keb := kea.to hb
  obtain ⟨Ae2, ce2, rfl⟩ := hr.form
  have HRe2 := Lib.hid hr
  clear hr hn
  have HRe1 := Lib.hid ((HRe1.out.below hb).more hb.size)
  have HRe2 : Hid (Row web web.heap.size 9 (.slice Ae2 (emitE (zeroed o) i p f).length ce2) (emitE (zeroed o) i p f).length (flat celCells ((emitE (zeroed o) i pc off).map (atC p f)))) := by rw [emitE_at]; exact HRe2.out
  refine hK.out _ _ keb (fun _ => ?_)
  clear hK K hb
  try simp only [Act.put, List.setIfInBounds_toArray, List.set_cons_zero, List.set_cons_succ]
  refine lin_call keb (by rfl) (fun K hK => ?_)
  go_simp
  refine (moved_any Ae1 Ae2 _ _ ce1 ce2 (emitE (zeroed o) i pc off) p f _ rfl HQE.out HLE.out HRe1.out HRe2.out).mono ?_; rintro e wec ⟨rfl, hb⟩
  go_wp2_with fail
  have kec := keb.to hb
  refine hK.out _ _ kec (fun _ => ?_)
  clear hK K hb
  try simp only [Act.put, List.setIfInBounds_toArray, List.set_cons_zero, List.set_cons_succ]
  iterate 2 (refine lin_take (v := ?_) kec (by rfl) ?_ ?_; rotate_left; (intro x hx; (try dsimp only at hx); go_simp; try (with_reducible rfl)); (try simp only [Act.put, List.setIfInBounds_toArray, List.set_cons_zero, List.set_cons_succ]))
  refine lin_done ?_
  have HKE := Lib.hid (HK1.out.trans (Below.mono kec HK1.out.size))
  go_wp2_with fail
  go_ret
  exact ⟨by first | rfl | trivial, HKE.out⟩
end Go.Proofs.Ytcaibahniheohaa.Words

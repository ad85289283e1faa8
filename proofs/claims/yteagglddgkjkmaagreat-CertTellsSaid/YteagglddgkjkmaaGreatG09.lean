/- Several texts in one: EmtCells, EmtCall, RefMaker. -/
import Derived.Test.YteagglddgkjkmaaGreatG07
import Derived.Test.YteagglddgkjkmaaGreatG08
import Derived.Deep.Cut

/- Contract of package emit's cellsOf: an instruction's cells on both sides. -/
namespace Go.Proofs.YteagglddgkjkmaaGreat.Words
set_option maxRecDepth 100000
open Go.RowKit
set_option linter.unusedVariables false
set_option linter.unusedSimpArgs false

theorem size_cells : (Tryz.prog.info? 113).map (·.size) = some 25 := by kernel_rfl
theorem cells_built_aux (i : Ins) (pc off : Int) (a0 a1 a2 a3 a4 a5 a6 a7 a8 a9 a10 a11 a12 a13 a14 a15 : Int) :
    Tryz.prog.built 113 [(0, .agg (insV i).toArray), (1, .agg (oV [a0, a1, a2, a3, a4, a5, a6, a7, a8, a9, a10, a11, a12, a13, a14, a15]).toArray), (2, .int .i64 pc), (3, .int .i64 off)] = some (cellsL i [a0, a1, a2, a3, a4, a5, a6, a7, a8, a9, a10, a11, a12, a13, a14, a15] pc off (.slice none 0 0) (.slice none 0 0)).toArray := by kernel_rfl
theorem cells_built (i : Ins) (z : List Int) (pc off : Int) (h : z.length = 16) :
    Tryz.prog.built 113 [(0, .agg (insV i).toArray), (1, .agg (oV z).toArray), (2, .int .i64 pc), (3, .int .i64 off)] = some (cellsL i z pc off (.slice none 0 0) (.slice none 0 0)).toArray := by
  match z, h with
  | [a0, a1, a2, a3, a4, a5, a6, a7, a8, a9, a10, a11, a12, a13, a14, a15], _ => exact cells_built_aux i pc off a0 a1 a2 a3 a4 a5 a6 a7 a8 a9 a10 a11 a12 a13 a14 a15
theorem cellsL_one {i : Ins} {z : List Int} {pc off : Int} {va ve : Value} (ha : va.oneCell' = true) (he : ve.oneCell' = true) : ∀ u ∈ cellsL i z pc off va ve, u.oneCell' = true := by
  intro u hu
  unfold cellsL at hu
  rcases List.mem_append.1 hu with h | h
  · exact insV_one i u h
  · rcases List.mem_append.1 h with h | h
    · exact oV_one z u h
    · simp only [List.mem_cons, List.not_mem_nil, or_false] at h
      rcases h with rfl | rfl | rfl | rfl
      · rfl
      · rfl
      · exact ha
      · exact he
theorem own_cell {w : World} {B s n : Nat} {e : TypeId} {v : Value} {xs : List Value} (h : w.ownsRow B e s v n xs) : v.oneCell' = true := by
  obtain ⟨A, c, rfl⟩ := (Row.of_own h).form
  rfl
def zeroCells : List Value := [.int .i64 0, .int .i64 0, .int .i64 0, .int .i64 0, .int .i64 0, .int .i64 0, .int .i64 0, .int .i64 0, .int .i64 0, .int .i64 0, .int .i64 0, .int .i64 0, .int .i64 0, .int .i64 0, .int .i64 0, .int .i64 0, .int .i64 0, .int .i64 0, .int .i64 0, .int .i64 0, .int .i64 0, .int .i64 0, .int .i64 0, .slice none 0 0, .slice none 0 0]
theorem load_cells {w : World} {b : Nat} {i : Ins} {z : List Int} {pc off : Int} {va ve : Value} (hz : z.length = 16) (h : Box w b (cellsL i z pc off va ve)) : (loadVar 113 ⟨b, 0, none⟩).run Tryz.prog w = .ok (.agg (cellsL i z pc off va ve).toArray) w :=
  run_loadVar_mid w b 0 113 _ _ h.whole Tryz.underlying113 rfl (by rw [cellsL_len hz]; exact size_cells)
/-- What cellsOf leaves. -/
def CellsOut (w : World) (i : Ins) (z : List Int) (pc off : Int) (e : Ending) (w' : World) : Prop :=
  ∃ va ve, e = .returned (.agg (cellsL i z pc off va ve).toArray) ∧ Row w' w'.heap.size 9 va (emitA z i pc off).length (flat celCells (emitA z i pc off)) ∧ Row w' w'.heap.size 9 ve (emitE z i pc off).length (flat celCells (emitE z i pc off)) ∧ NewV w.heap.size va ∧ NewV w.heap.size ve ∧ Below w.heap.size w w'
/-- The result's block written: what is answered. -/
theorem cells_out {w w4 Z Y : World} {i : Ins} {z : List Int} {pc off : Int} {va ve : Value} {la le : List Cel} {b : Nat} (hb : w.heap.size < b) (hK : Below w.heap.size w w4) (h : Em b i z pc off (fun j => j = b) w4 Z va ve la le)
    (ha : emitA z i pc off = la) (he : emitE z i pc off = le) (hg : Z.grownBy Y (some (w.heap.size + 2))) (hlt : w.heap.size + 2 < b) : CellsOut w i z pc off (.returned (.agg (cellsL i z pc off va ve).toArray)) Y := by
  have hbz := h.lt
  have oa : Y.ownsRow (b + 1) 49 9 va la.length (flat celCells la) := own_grown h.oa hg (fun g e hg2 => by have := (h.oa.lt g e).1; injection hg2 with hg2; omega)
  have oe : Y.ownsRow (b + 1) 49 9 ve le.length (flat celCells le) := own_grown h.oe hg (fun g e hg2 => by have := (h.oe.lt g e).1; injection hg2 with hg2; omega)
  refine ⟨va, ve, rfl, by rw [ha]; exact Row.of_own oa, by rw [he]; exact Row.of_own oe, ?_, ?_, ?_⟩
  · intro a n c hv
    have := NewV.own oa a n c hv; omega
  · intro a n c hv
    have := NewV.own oe a n c hv; omega
  · exact (hK.trans (h.keep.below (hK.size) (fun j e => by omega))).grown hg (by omega) (fun q hq => by injection hq with hq; omega)
set_option maxHeartbeats 4000000 in
theorem cellsOf_any (i : Ins) (o : List Int) (pc off : Int) (w : World) (ho : o.length = 16) :
    Calls Tryz.prog 88 #[.agg #[.int .i64 i.op, .int .i64 i.d, .int .i64 i.a, .int .i64 i.b, .int .i64 i.imm], .agg (oV o).toArray, .int .i64 pc, .int .i64 off] w (CellsOut w i (zeroed o) pc off) := by
  obtain ⟨W1, hW1⟩ : ∃ W1, W1 = w.alloc (.cells (insV i).toArray 44) := ⟨_, rfl⟩
  obtain ⟨W2, hW2⟩ : ∃ W2, W2 = W1.alloc (.cells (oV o).toArray 30) := ⟨_, rfl⟩
  obtain ⟨W3, hW3⟩ : ∃ W3, W3 = W2.alloc (.cells zeroCells.toArray 113) := ⟨_, rfl⟩
  have hz1 : W1.heap.size = w.heap.size + 1 := by rw [hW1]; simp
  have hz2 : W2.heap.size = w.heap.size + 2 := by rw [hW2]; simp [hz1]
  have hz3 : W3.heap.size = w.heap.size + 3 := by rw [hW3]; simp [hz2]
  have HK0 : Hid (Below w.heap.size w W3) := by rw [hW3, hW2, hW1]; exact (((Below.refl w.heap.size w).alloc (Nat.le_refl _) _).alloc (by simp) _).alloc (by simp; omega) _
  have HX0 : Hid (Box W3 w.heap.size (insV i)) := by rw [hW3, hW2, hW1]; exact ((Box.new w (insV i) _).alloc _).alloc _
  have HY0 : Hid (Box W3 (w.heap.size + 1) (oV o)) := by rw [hW3, hW2, ← hz1]; exact (Box.new W1 (oV o) _).alloc _
  have HZ0 : Hid (Box W3 (w.heap.size + 2) zeroCells) := by rw [hW3, ← hz2]; exact Box.new W2 zeroCells _
  have HZL := Lib.hid (zeroed_len ho)
  have HOL := Lib.hid ho
  clear ho
  go_enter Tryz.func88, Tryz.ntmps88
  go_upto_region 1 with (fail)
  change Code.wp _ _ _ _ (((w.alloc (.cells (insV i).toArray 44)).alloc (.cells (oV o).toArray 30)).alloc (.cells zeroCells.toArray 113))
  rw [← hW1, ← hW2, ← hW3]
  clear hW1 hW2 hW3 hz1 hz2
  have c10 : W3.cell? ⟨w.heap.size + 1, 0, none⟩ = some (.int .i64 (atO o 0)) := HY0.out.cell (k := 0) (oV_at HOL.out (n := 0) (by omega))
  have f10 : W3.frozen? ⟨w.heap.size + 1, 0, none⟩ = false := HY0.out.frozen 0
  go_upto_region 2 with (fail)
  obtain ⟨WS, hWS⟩ : ∃ WS, WS = W3.setCell ⟨w.heap.size + 1, 0, none⟩ (.int .i64 0) := ⟨_, rfl⟩
  have hzS : WS.heap.size = w.heap.size + 3 := by rw [hWS]; simp [World.setCell, hz3]
  have HKS : Hid (Below w.heap.size w WS) := by rw [hWS]; exact HK0.out.setCell (p := ⟨w.heap.size + 1, 0, none⟩) (by simp) _
  have HXS : Hid (Box WS w.heap.size (insV i)) := by rw [hWS]; exact HX0.out.setCell_other (by omega) _ _
  have HYS : Hid (Box WS (w.heap.size + 1) (oV (zeroed o))) := by rw [hWS]; have := HY0.out.setCell 0 (.int .i64 0); rwa [oV_set] at this
  have HZS : Hid (Box WS (w.heap.size + 2) zeroCells) := by rw [hWS]; exact HZ0.out.setCell_other (by omega) _ _
  rw [← hWS]
  clear hWS hz3 c10 f10 HK0 HX0 HY0 HZ0
  generalize hzz : zeroed o = z at *
  clear hzz HOL
  have HB0 : Hid (Box (WS.alloc (.cells zeroCells.toArray 113)) (w.heap.size + 3) zeroCells) := by rw [← hzS]; exact Box.new WS zeroCells 113
  have HKA : Hid (Below w.heap.size w (WS.alloc (.cells zeroCells.toArray 113))) := HKS.out.alloc (by omega) _
  have HXA := Lib.hid (HXS.out.alloc (.cells zeroCells.toArray 113))
  have HZA := Lib.hid (HZS.out.alloc (.cells zeroCells.toArray 113))
  have HZS1 : Hid (WS.heap.size = w.heap.size + 3) := hzS
  go_wp2_with (first
    | (refine wpList_load_box rfl 44 (.tmp 4) rfl w.heap.size 0 rfl (insV i) (insV i) HXS.out whole_at _ Tryz.underlying44 rfl 5 size_ins5 rfl ?_)
    | (refine wpList_load_box rfl 30 (.tmp 5) rfl (w.heap.size + 1) 0 rfl (oV z) (oV z) HYS.out whole_at _ Tryz.underlying30 rfl 16 (by kernel_rfl) ((oV_len z).trans HZL.out) ?_)
    | (refine wpList_built_at _ rfl 113 _ rfl _ (by simp only [List.map_toArray, List.map_cons, List.map_nil]; exact cells_built i z pc off HZL.out) ?_)
    | (refine wpList_store_box rfl 113 (.tmp 9) (.tmp 15) rfl (w.heap.size + 3) 0 (cellsL i z pc off (.slice none 0 0) (.slice none 0 0)) rfl rfl zeroCells HB0.out (by rw [cellsL_len HZL.out]; decide) 25 size_cells (cellsL_len HZL.out) (cellsL_one rfl rfl) ?_; intro w4 B4 hg4; rw [splice_whole zeroCells (cellsL i z pc off (.slice none 0 0) (.slice none 0 0)) (cellsL_len HZL.out)] at B4; have HB4 := Lib.hid B4; have HX4 := Lib.hid (HXA.out.grown hg4 (fun e => by injection e with e; omega)); have HZ4 := Lib.hid (HZA.out.grown hg4 (fun e => by injection e with e; omega)); have HK4 : Hid (Below w.heap.size w w4) := HKA.out.grown hg4 (by simp; omega) (fun q hq => by injection hq with hq; omega); clear B4 hg4)
    | (refine wpList_load_box rfl 44 (.tmp 4) rfl w.heap.size 0 rfl (insV i) (insV i) HX4.out whole_at _ Tryz.underlying44 rfl 5 size_ins5 rfl ?_))
  obtain ⟨b, hbq⟩ : ∃ b, b = w.heap.size + 3 := ⟨_, rfl⟩
  rw [← hbq] at HB4 ⊢
  have HBQ := Lib.hid hbq
  clear hbq hzS HB0 HKA HXA HZA HKS HXS HYS HZS HZS1
  refine (right_any i _).mono ?_; rintro e w5 ⟨rfl, hb5⟩
  have HEw4 : Hid (Em b i z pc off (fun j => j = b) w4 w4 (.slice none 0 0) (.slice none 0 0) [] []) := ⟨HB4.out, World.ownsRow_nil _ _ _ _, World.ownsRow_nil _ _ _ _, (fun g h => by cases h), KeepS.refl _ _, .inl rfl, (fun g h => by cases h), (fun g h => by cases h), HZL.out⟩
  have HEw5 := Lib.hid (HEw4.out.below hb5)
  clear hb5
  have HLA : Hid (([] : List Cel).length ≤ 100) := by show _ ≤ _; simp
  have HLE : Hid (([] : List Cel).length ≤ 100) := by show _ ≤ _; simp
  have HZN : Hid (w.heap.size + 2 ≠ b) := by show _ ≠ _; have := HBQ.out; omega
  have HXN : Hid (w.heap.size ≠ b) := by show _ ≠ _; have := HBQ.out; omega
  have co : w5.cell? ⟨w.heap.size, 0, none⟩ = some (.int .i64 i.op) := (HX4.out.keepS HEw5.out.keep HXN.out).cell (k := 0) rfl
  cases hr : rightB i
  · try dsimp only
    have HRQ := Lib.hid hr
    have HZe := Lib.hid (HZ4.out.keepS HEw5.out.keep HZN.out)
    go_wp2_with (first
      | (refine wpList_load_box rfl 113 (.tmp 9) rfl b 0 rfl (cellsL i z pc off ((Value.slice none 0 0)) ((Value.slice none 0 0))) (cellsL i z pc off ((Value.slice none 0 0)) ((Value.slice none 0 0))) HEw5.out.bx whole_at _ Tryz.underlying113 rfl 25 size_cells (cellsL_len HZL.out) ?_)
      | (refine wpList_store_box rfl 113 (.tmp 8) (.tmp 19) rfl (w.heap.size + 2) 0 (cellsL i z pc off ((Value.slice none 0 0)) ((Value.slice none 0 0))) rfl rfl zeroCells HZe.out (by rw [cellsL_len HZL.out]; decide) 25 size_cells (cellsL_len HZL.out) (cellsL_one (own_cell HEw5.out.oa) (own_cell HEw5.out.oe)) ?_; intro w9 B9 hg9; rw [splice_whole zeroCells (cellsL i z pc off ((Value.slice none 0 0)) ((Value.slice none 0 0))) (cellsL_len HZL.out)] at B9))
    first
      | exact bodyPost_ret (v := .agg (cellsL i z pc off ((Value.slice none 0 0)) ((Value.slice none 0 0))).toArray) (results_cell Tryz.results88 _ _ _ ⟨w.heap.size + 2, 0, none⟩ _ rfl (load_cells HZL.out B9)) rfl (cells_out (by have := HBQ.out; omega) HK4.out HEw5.out (emit_no (z := z) (pc := pc) (off := off) hr).1 (emit_no (z := z) (pc := pc) (off := off) hr).2 hg9 (by have := HBQ.out; omega))
  have HR := Lib.hid hr
  clear hr
  try dsimp only
  go_wp2_with fail
  refine (form_any _ _).mono ?_; rintro e w6 ⟨rfl, rfl⟩
  have hF := formZ_range i.op
  try dsimp only
  by_cases h4 : formZ i.op = 4
  · have HF := Lib.hid h4
    rw [h4]
    clear h4 hF
    by_cases hd : atO z i.d = 2
    · go_wp2_with fail
      refine (load_e _ HEw5.out HR.out HLA.out HLE.out hd).mono ?_; rintro e w7 ⟨rfl, va, ve, hE7⟩
      have HEw7 := Lib.hid hE7
      clear hE7
      have HZe := Lib.hid (HZ4.out.keepS HEw7.out.keep HZN.out)
      go_wp2_with (first
        | (refine wpList_load_box rfl 113 (.tmp 9) rfl b 0 rfl (cellsL i z pc off (va) (ve)) (cellsL i z pc off (va) (ve)) HEw7.out.bx whole_at _ Tryz.underlying113 rfl 25 size_cells (cellsL_len HZL.out) ?_)
        | (refine wpList_store_box rfl 113 (.tmp 8) (.tmp 61) rfl (w.heap.size + 2) 0 (cellsL i z pc off (va) (ve)) rfl rfl zeroCells HZe.out (by rw [cellsL_len HZL.out]; decide) 25 size_cells (cellsL_len HZL.out) (cellsL_one (own_cell HEw7.out.oa) (own_cell HEw7.out.oe)) ?_; intro w9 B9 hg9; rw [splice_whole zeroCells (cellsL i z pc off (va) (ve)) (cellsL_len HZL.out)] at B9))
      first
        | exact bodyPost_ret (v := .agg (cellsL i z pc off (va) (ve)).toArray) (results_cell Tryz.results88 _ _ _ ⟨w.heap.size + 2, 0, none⟩ _ rfl (load_cells HZL.out B9)) rfl (cells_out (by have := HBQ.out; omega) HK4.out HEw7.out (emit_4e (z := z) (pc := pc) (off := off) HR.out HF.out hd).1 (emit_4e (z := z) (pc := pc) (off := off) HR.out HF.out hd).2 hg9 (by have := HBQ.out; omega))
    · go_wp2_with fail
      refine (load_a _ HEw5.out HR.out HLA.out HLE.out hd).mono ?_; rintro e w7 ⟨rfl, va, ve, hE7⟩
      have HEw7 := Lib.hid hE7
      clear hE7
      have HZe := Lib.hid (HZ4.out.keepS HEw7.out.keep HZN.out)
      go_wp2_with (first
        | (refine wpList_load_box rfl 113 (.tmp 9) rfl b 0 rfl (cellsL i z pc off (va) (ve)) (cellsL i z pc off (va) (ve)) HEw7.out.bx whole_at _ Tryz.underlying113 rfl 25 size_cells (cellsL_len HZL.out) ?_)
        | (refine wpList_store_box rfl 113 (.tmp 8) (.tmp 61) rfl (w.heap.size + 2) 0 (cellsL i z pc off (va) (ve)) rfl rfl zeroCells HZe.out (by rw [cellsL_len HZL.out]; decide) 25 size_cells (cellsL_len HZL.out) (cellsL_one (own_cell HEw7.out.oa) (own_cell HEw7.out.oe)) ?_; intro w9 B9 hg9; rw [splice_whole zeroCells (cellsL i z pc off (va) (ve)) (cellsL_len HZL.out)] at B9))
      first
        | exact bodyPost_ret (v := .agg (cellsL i z pc off (va) (ve)).toArray) (results_cell Tryz.results88 _ _ _ ⟨w.heap.size + 2, 0, none⟩ _ rfl (load_cells HZL.out B9)) rfl (cells_out (by have := HBQ.out; omega) HK4.out HEw7.out (emit_4a (z := z) (pc := pc) (off := off) HR.out HF.out hd).1 (emit_4a (z := z) (pc := pc) (off := off) HR.out HF.out hd).2 hg9 (by have := HBQ.out; omega))
  by_cases h5 : formZ i.op = 5
  · have HF := Lib.hid h5
    rw [h5]
    clear h4 h5 hF
    go_wp2_with fail
    refine (store_any _ HEw5.out HR.out (by simp) (by simp)).mono ?_; rintro e w7 ⟨rfl, va, ve, hE7⟩
    have HEw7 := Lib.hid hE7
    clear hE7
    have HZe := Lib.hid (HZ4.out.keepS HEw7.out.keep HZN.out)
    go_wp2_with (first
      | (refine wpList_load_box rfl 113 (.tmp 9) rfl b 0 rfl (cellsL i z pc off (va) (ve)) (cellsL i z pc off (va) (ve)) HEw7.out.bx whole_at _ Tryz.underlying113 rfl 25 size_cells (cellsL_len HZL.out) ?_)
      | (refine wpList_store_box rfl 113 (.tmp 8) (.tmp 61) rfl (w.heap.size + 2) 0 (cellsL i z pc off (va) (ve)) rfl rfl zeroCells HZe.out (by rw [cellsL_len HZL.out]; decide) 25 size_cells (cellsL_len HZL.out) (cellsL_one (own_cell HEw7.out.oa) (own_cell HEw7.out.oe)) ?_; intro w9 B9 hg9; rw [splice_whole zeroCells (cellsL i z pc off (va) (ve)) (cellsL_len HZL.out)] at B9))
    first
      | exact bodyPost_ret (v := .agg (cellsL i z pc off (va) (ve)).toArray) (results_cell Tryz.results88 _ _ _ ⟨w.heap.size + 2, 0, none⟩ _ rfl (load_cells HZL.out B9)) rfl (cells_out (by have := HBQ.out; omega) HK4.out HEw7.out (emit_5 (z := z) (pc := pc) (off := off) HR.out HF.out).1 (emit_5 (z := z) (pc := pc) (off := off) HR.out HF.out).2 hg9 (by have := HBQ.out; omega))
  by_cases h6 : formZ i.op = 6
  · have HF := Lib.hid h6
    rw [h6]
    clear h4 h5 h6 hF
    cases ha : anyEB (readsZ i) z
    · go_wp2_with fail
      refine (branch_a _ HEw5.out HR.out (by simp) (by simp) ha).mono ?_; rintro e w7 ⟨rfl, va, ve, hE7⟩
      have HEw7 := Lib.hid hE7
      clear hE7
      have HZe := Lib.hid (HZ4.out.keepS HEw7.out.keep HZN.out)
      go_wp2_with (first
        | (refine wpList_load_box rfl 113 (.tmp 9) rfl b 0 rfl (cellsL i z pc off (va) (ve)) (cellsL i z pc off (va) (ve)) HEw7.out.bx whole_at _ Tryz.underlying113 rfl 25 size_cells (cellsL_len HZL.out) ?_)
        | (refine wpList_store_box rfl 113 (.tmp 8) (.tmp 61) rfl (w.heap.size + 2) 0 (cellsL i z pc off (va) (ve)) rfl rfl zeroCells HZe.out (by rw [cellsL_len HZL.out]; decide) 25 size_cells (cellsL_len HZL.out) (cellsL_one (own_cell HEw7.out.oa) (own_cell HEw7.out.oe)) ?_; intro w9 B9 hg9; rw [splice_whole zeroCells (cellsL i z pc off (va) (ve)) (cellsL_len HZL.out)] at B9))
      first
        | exact bodyPost_ret (v := .agg (cellsL i z pc off (va) (ve)).toArray) (results_cell Tryz.results88 _ _ _ ⟨w.heap.size + 2, 0, none⟩ _ rfl (load_cells HZL.out B9)) rfl (cells_out (by have := HBQ.out; omega) HK4.out HEw7.out (emit_6a (z := z) (pc := pc) (off := off) HR.out HF.out ha).1 (emit_6a (z := z) (pc := pc) (off := off) HR.out HF.out ha).2 hg9 (by have := HBQ.out; omega))
    · go_wp2_with fail
      refine (branch_e _ HEw5.out HR.out (by simp) (by simp) ha).mono ?_; rintro e w7 ⟨rfl, va, ve, hE7⟩
      have HEw7 := Lib.hid hE7
      clear hE7
      have HZe := Lib.hid (HZ4.out.keepS HEw7.out.keep HZN.out)
      go_wp2_with (first
        | (refine wpList_load_box rfl 113 (.tmp 9) rfl b 0 rfl (cellsL i z pc off (va) (ve)) (cellsL i z pc off (va) (ve)) HEw7.out.bx whole_at _ Tryz.underlying113 rfl 25 size_cells (cellsL_len HZL.out) ?_)
        | (refine wpList_store_box rfl 113 (.tmp 8) (.tmp 61) rfl (w.heap.size + 2) 0 (cellsL i z pc off (va) (ve)) rfl rfl zeroCells HZe.out (by rw [cellsL_len HZL.out]; decide) 25 size_cells (cellsL_len HZL.out) (cellsL_one (own_cell HEw7.out.oa) (own_cell HEw7.out.oe)) ?_; intro w9 B9 hg9; rw [splice_whole zeroCells (cellsL i z pc off (va) (ve)) (cellsL_len HZL.out)] at B9))
      first
        | exact bodyPost_ret (v := .agg (cellsL i z pc off (va) (ve)).toArray) (results_cell Tryz.results88 _ _ _ ⟨w.heap.size + 2, 0, none⟩ _ rfl (load_cells HZL.out B9)) rfl (cells_out (by have := HBQ.out; omega) HK4.out HEw7.out (emit_6e (z := z) (pc := pc) (off := off) HR.out HF.out ha).1 (emit_6e (z := z) (pc := pc) (off := off) HR.out HF.out ha).2 hg9 (by have := HBQ.out; omega))
  by_cases h7 : formZ i.op = 7
  · have HF := Lib.hid h7
    rw [h7]
    clear h4 h5 h6 h7 hF
    go_wp2_with fail
    obtain ⟨i0, hi, hz0, hz1, hz2⟩ := info_parts info_cel
    have HI := Lib.hid hi
    have HZ0 := Lib.hid hz0
    have HZ1 := Lib.hid hz1
    have HZ2 := Lib.hid hz2
    clear hi hz0 hz1 hz2
    refine region_tree_ex (fun (act : Act) (B : Nat × Value) => ((((((act.put (some 35) (.pointer (some ⟨b, 23, none⟩))).put (some 36) (Value.slice none 0 0)).put (some 37) (.agg (celCells (bareC 11 pc off)).toArray)).put (some 38) (.slice (some ⟨B.1, 0, none⟩) 1 1)).put (some 39) B.2).put (some 40) (.pointer (some ⟨b, 23, none⟩))))
      (fun B y => Em b i z pc off (fun j => j = b) w4 y B.2 (Value.slice none 0 0) ([] ++ [bareC 11 pc off]) ([]))
      (LinT.of [(0, true)] (.two 1 2 (LinT.of [(2, false), (3, false), (4, false), (5, true), (6, false)] .nil) (LinT.of [] (.two 1 3 (LinT.of [(3, false), (4, false), (5, true), (6, false)] .nil) (LinT.of [(1, false), (4, false), (5, true), (6, false)] .nil)))))
      (by kernel_rfl) (by kernel_rfl) rfl (by kernel_rfl) (fun _ => True) ?_ ?_
    · simp only [LinT.of, LinT.look, List.getElem?_toArray, List.getElem?_cons_succ, List.getElem?_cons_zero]
      have cL : w5.drew.cell? ⟨b, 23, none⟩ = some (Value.slice none 0 0) := HEw5.out.cellA
      have cL2 : w5.cell? ⟨b, 23, none⟩ = some (Value.slice none 0 0) := HEw5.out.cellA
      iterate 1 (refine tree_take (v := ?_) trivial (by rfl) ?_ ?_; rotate_left; (intro x hx; (try dsimp only at hx); go_simp; try (with_reducible rfl)); (simp only [Act.put, List.setIfInBounds_toArray, List.set_cons_zero, List.set_cons_succ]))
      refine tree_two trivial (by rfl) (by rfl) (fun K hK => ?_) (fun K hK => ?_)
      · go_simp
        refine hK.out _ _ trivial (fun _ => ?_)
        clear hK K
        try (simp only [Act.put, List.setIfInBounds_toArray, List.set_cons_zero, List.set_cons_succ])
        refine tree_call trivial (by rfl) (fun K hK => ?_)
        go_simp
        refine (bare_any 11 _ HEw5.out.drew).mono ?_; rintro e y0 ⟨rfl, hb0⟩
        go_wp2_with fail
        have HE0 := Lib.hid ((HEw5.out.drew).below hb0)
        have cL0 := HE0.out.cellA
        refine hK.out _ _ trivial (fun _ => ?_)
        clear hK K hb0
        try (simp only [Act.put, List.setIfInBounds_toArray, List.set_cons_zero, List.set_cons_succ])
        refine tree_call trivial (by rfl) (fun K hK => ?_)
        go_simp
        try rw [fold_cel]
        refine hK.out _ _ trivial (fun _ => ?_)
        clear hK K
        change wpT _ _ _ _ _ _ _ (y0.alloc (.cells (celCells (bareC 11 pc off)).toArray 49))
        try (simp only [Act.put, List.setIfInBounds_toArray, List.set_cons_zero, List.set_cons_succ])
        refine tree_call trivial (by rfl) (fun K hK => ?_)
        refine wp_append_new _ (.tmp 36) (.tmp 38) 22 rfl (b + 1) 49 i0 _ 9 72 Tryz.underlying22 HI.out HZ0.out HZ1.out HZ2.out rfl (by omega) (Value.slice none 0 0) ([]).length (flat celCells ([])) rfl (HE0.out.alloc _).oa _ (.slice (some ⟨y0.heap.size, 0, none⟩) 1 1) 1 (celCells (bareC 11 pc off)) rfl (row_new y0 (celCells (bareC 11 pc off)) 9 rfl (by omega) _) (celCells_one _) (by unfold maxLen; have := HLA.out; omega) (by have := HLA.out; omega) (by have := HE0.out.lt; simp; omega) ?_
        intro v1 y1 hO hg hn
        obtain ⟨hE1, q1, q2, q3, A1, k1, rfl⟩ := HE0.out.appA (c := bareC 11 pc off) hO hg hn
        have HE1 := Lib.hid hE1
        clear hO hg hn hE1
        refine hK.out _ _ trivial (fun _ => ?_)
        clear hK K
        try (simp only [Act.put, List.setIfInBounds_toArray, List.set_cons_zero, List.set_cons_succ])
        iterate 1 (refine tree_take (v := ?_) trivial (by rfl) ?_ ?_; rotate_left; (intro x hx; (try dsimp only at hx); go_simp; try (with_reducible rfl)); (simp only [Act.put, List.setIfInBounds_toArray, List.set_cons_zero, List.set_cons_succ]))
        refine tree_call trivial (by rfl) (fun K hK => ?_)
        go_simp
        refine hK.out _ _ trivial (fun _ => ?_)
        clear hK K
        exact tree_done ⟨(y0.heap.size, .slice A1 (([]).length + 1) k1), rfl, HE1.out⟩
      · go_simp
        refine (bare_any 11 _ HEw5.out.drew).mono ?_; rintro e y0 ⟨rfl, hb0⟩
        go_wp2_with fail
        have HE0 := Lib.hid ((HEw5.out.drew).below hb0)
        have cL0 := HE0.out.cellA
        refine hK.out _ _ trivial (fun _ => ?_)
        clear hK K hb0
        try (simp only [Act.put, List.setIfInBounds_toArray, List.set_cons_zero, List.set_cons_succ])
        refine tree_two trivial (by rfl) (by rfl) (fun K hK => ?_) (fun K hK => ?_)
        · go_simp
          refine hK.out _ _ trivial (fun _ => ?_)
          clear hK K
          try (simp only [Act.put, List.setIfInBounds_toArray, List.set_cons_zero, List.set_cons_succ])
          refine tree_call trivial (by rfl) (fun K hK => ?_)
          go_simp
          try rw [fold_cel]
          refine hK.out _ _ trivial (fun _ => ?_)
          clear hK K
          change wpT _ _ _ _ _ _ _ (y0.alloc (.cells (celCells (bareC 11 pc off)).toArray 49))
          try (simp only [Act.put, List.setIfInBounds_toArray, List.set_cons_zero, List.set_cons_succ])
          refine tree_call trivial (by rfl) (fun K hK => ?_)
          refine wp_append_new _ (.tmp 36) (.tmp 38) 22 rfl (b + 1) 49 i0 _ 9 72 Tryz.underlying22 HI.out HZ0.out HZ1.out HZ2.out rfl (by omega) (Value.slice none 0 0) ([]).length (flat celCells ([])) rfl (HE0.out.alloc _).oa _ (.slice (some ⟨y0.heap.size, 0, none⟩) 1 1) 1 (celCells (bareC 11 pc off)) rfl (row_new y0 (celCells (bareC 11 pc off)) 9 rfl (by omega) _) (celCells_one _) (by unfold maxLen; have := HLA.out; omega) (by have := HLA.out; omega) (by have := HE0.out.lt; simp; omega) ?_
          intro v1 y1 hO hg hn
          obtain ⟨hE1, q1, q2, q3, A1, k1, rfl⟩ := HE0.out.appA (c := bareC 11 pc off) hO hg hn
          have HE1 := Lib.hid hE1
          clear hO hg hn hE1
          refine hK.out _ _ trivial (fun _ => ?_)
          clear hK K
          try (simp only [Act.put, List.setIfInBounds_toArray, List.set_cons_zero, List.set_cons_succ])
          iterate 1 (refine tree_take (v := ?_) trivial (by rfl) ?_ ?_; rotate_left; (intro x hx; (try dsimp only at hx); go_simp; try (with_reducible rfl)); (simp only [Act.put, List.setIfInBounds_toArray, List.set_cons_zero, List.set_cons_succ]))
          refine tree_call trivial (by rfl) (fun K hK => ?_)
          go_simp
          refine hK.out _ _ trivial (fun _ => ?_)
          clear hK K
          exact tree_done ⟨(y0.heap.size, .slice A1 (([]).length + 1) k1), rfl, HE1.out⟩
        · go_simp
          try rw [fold_cel]
          have cLa := (HE0.out.alloc (.cells (celCells (bareC 11 pc off)).toArray 49)).cellA
          refine hK.out _ _ trivial (fun _ => ?_)
          clear hK K
          change wpT _ _ _ _ _ _ _ (y0.alloc (.cells (celCells (bareC 11 pc off)).toArray 49))
          try (simp only [Act.put, List.setIfInBounds_toArray, List.set_cons_zero, List.set_cons_succ])
          refine tree_call trivial (by rfl) (fun K hK => ?_)
          go_simp
          refine hK.out _ _ trivial (fun _ => ?_)
          clear hK K
          try (simp only [Act.put, List.setIfInBounds_toArray, List.set_cons_zero, List.set_cons_succ])
          refine tree_call trivial (by rfl) (fun K hK => ?_)
          refine wp_append_new _ (.tmp 36) (.tmp 38) 22 rfl (b + 1) 49 i0 _ 9 72 Tryz.underlying22 HI.out HZ0.out HZ1.out HZ2.out rfl (by omega) (Value.slice none 0 0) ([]).length (flat celCells ([])) rfl (HE0.out.alloc _).oa _ (.slice (some ⟨y0.heap.size, 0, none⟩) 1 1) 1 (celCells (bareC 11 pc off)) rfl (row_new y0 (celCells (bareC 11 pc off)) 9 rfl (by omega) _) (celCells_one _) (by unfold maxLen; have := HLA.out; omega) (by have := HLA.out; omega) (by have := HE0.out.lt; simp; omega) ?_
          intro v1 y1 hO hg hn
          obtain ⟨hE1, q1, q2, q3, A1, k1, rfl⟩ := HE0.out.appA (c := bareC 11 pc off) hO hg hn
          have HE1 := Lib.hid hE1
          clear hO hg hn hE1
          refine hK.out _ _ trivial (fun _ => ?_)
          clear hK K
          try (simp only [Act.put, List.setIfInBounds_toArray, List.set_cons_zero, List.set_cons_succ])
          iterate 1 (refine tree_take (v := ?_) trivial (by rfl) ?_ ?_; rotate_left; (intro x hx; (try dsimp only at hx); go_simp; try (with_reducible rfl)); (simp only [Act.put, List.setIfInBounds_toArray, List.set_cons_zero, List.set_cons_succ]))
          refine tree_call trivial (by rfl) (fun K hK => ?_)
          go_simp
          refine hK.out _ _ trivial (fun _ => ?_)
          clear hK K
          exact tree_done ⟨(y0.heap.size, .slice A1 (([]).length + 1) k1), rfl, HE1.out⟩
    rintro ⟨B1, v1⟩ w1 hE1
    dsimp only at hE1
    have HEw1 := Lib.hid hE1
    clear hE1
    simp only [Act.put, List.setIfInBounds_toArray, List.set_cons_zero, List.set_cons_succ]
    go_wp2_with fail
    refine region_tree_ex (fun (act : Act) (B : Nat × Value) => ((((((act.put (some 41) (.pointer (some ⟨b, 24, none⟩))).put (some 42) (Value.slice none 0 0)).put (some 43) (.agg (celCells (bareC 11 pc off)).toArray)).put (some 44) (.slice (some ⟨B.1, 0, none⟩) 1 1)).put (some 45) B.2).put (some 46) (.pointer (some ⟨b, 24, none⟩))))
      (fun B y => Em b i z pc off (fun j => j = b) w4 y v1 B.2 ([] ++ [bareC 11 pc off]) ([] ++ [bareC 11 pc off]))
      (LinT.of [(0, true)] (.two 1 2 (LinT.of [(2, false), (3, false), (4, false), (5, true), (6, false)] .nil) (LinT.of [] (.two 1 3 (LinT.of [(3, false), (4, false), (5, true), (6, false)] .nil) (LinT.of [(1, false), (4, false), (5, true), (6, false)] .nil)))))
      (by kernel_rfl) (by kernel_rfl) rfl (by kernel_rfl) (fun _ => True) ?_ ?_
    · simp only [LinT.of, LinT.look, List.getElem?_toArray, List.getElem?_cons_succ, List.getElem?_cons_zero]
      have cL : w1.drew.cell? ⟨b, 24, none⟩ = some (Value.slice none 0 0) := HEw1.out.cellE
      have cL2 : w1.cell? ⟨b, 24, none⟩ = some (Value.slice none 0 0) := HEw1.out.cellE
      iterate 1 (refine tree_take (v := ?_) trivial (by rfl) ?_ ?_; rotate_left; (intro x hx; (try dsimp only at hx); go_simp; try (with_reducible rfl)); (simp only [Act.put, List.setIfInBounds_toArray, List.set_cons_zero, List.set_cons_succ]))
      refine tree_two trivial (by rfl) (by rfl) (fun K hK => ?_) (fun K hK => ?_)
      · go_simp
        refine hK.out _ _ trivial (fun _ => ?_)
        clear hK K
        try (simp only [Act.put, List.setIfInBounds_toArray, List.set_cons_zero, List.set_cons_succ])
        refine tree_call trivial (by rfl) (fun K hK => ?_)
        go_simp
        refine (bare_any 11 _ HEw1.out.drew).mono ?_; rintro e y0 ⟨rfl, hb0⟩
        go_wp2_with fail
        have HE0 := Lib.hid ((HEw1.out.drew).below hb0)
        have cL0 := HE0.out.cellE
        refine hK.out _ _ trivial (fun _ => ?_)
        clear hK K hb0
        try (simp only [Act.put, List.setIfInBounds_toArray, List.set_cons_zero, List.set_cons_succ])
        refine tree_call trivial (by rfl) (fun K hK => ?_)
        go_simp
        try rw [fold_cel]
        refine hK.out _ _ trivial (fun _ => ?_)
        clear hK K
        change wpT _ _ _ _ _ _ _ (y0.alloc (.cells (celCells (bareC 11 pc off)).toArray 49))
        try (simp only [Act.put, List.setIfInBounds_toArray, List.set_cons_zero, List.set_cons_succ])
        refine tree_call trivial (by rfl) (fun K hK => ?_)
        refine wp_append_new _ (.tmp 42) (.tmp 44) 22 rfl (b + 1) 49 i0 _ 9 72 Tryz.underlying22 HI.out HZ0.out HZ1.out HZ2.out rfl (by omega) (Value.slice none 0 0) ([]).length (flat celCells ([])) rfl (HE0.out.alloc _).oe _ (.slice (some ⟨y0.heap.size, 0, none⟩) 1 1) 1 (celCells (bareC 11 pc off)) rfl (row_new y0 (celCells (bareC 11 pc off)) 9 rfl (by omega) _) (celCells_one _) (by unfold maxLen; have := HLE.out; omega) (by have := HLE.out; omega) (by have := HE0.out.lt; simp; omega) ?_
        intro v1 y1 hO hg hn
        obtain ⟨hE1, q1, q2, q3, A1, k1, rfl⟩ := HE0.out.appE (c := bareC 11 pc off) hO hg hn
        have HE1 := Lib.hid hE1
        clear hO hg hn hE1
        refine hK.out _ _ trivial (fun _ => ?_)
        clear hK K
        try (simp only [Act.put, List.setIfInBounds_toArray, List.set_cons_zero, List.set_cons_succ])
        iterate 1 (refine tree_take (v := ?_) trivial (by rfl) ?_ ?_; rotate_left; (intro x hx; (try dsimp only at hx); go_simp; try (with_reducible rfl)); (simp only [Act.put, List.setIfInBounds_toArray, List.set_cons_zero, List.set_cons_succ]))
        refine tree_call trivial (by rfl) (fun K hK => ?_)
        go_simp
        refine hK.out _ _ trivial (fun _ => ?_)
        clear hK K
        exact tree_done ⟨(y0.heap.size, .slice A1 (([]).length + 1) k1), rfl, HE1.out⟩
      · go_simp
        refine (bare_any 11 _ HEw1.out.drew).mono ?_; rintro e y0 ⟨rfl, hb0⟩
        go_wp2_with fail
        have HE0 := Lib.hid ((HEw1.out.drew).below hb0)
        have cL0 := HE0.out.cellE
        refine hK.out _ _ trivial (fun _ => ?_)
        clear hK K hb0
        try (simp only [Act.put, List.setIfInBounds_toArray, List.set_cons_zero, List.set_cons_succ])
        refine tree_two trivial (by rfl) (by rfl) (fun K hK => ?_) (fun K hK => ?_)
        · go_simp
          refine hK.out _ _ trivial (fun _ => ?_)
          clear hK K
          try (simp only [Act.put, List.setIfInBounds_toArray, List.set_cons_zero, List.set_cons_succ])
          refine tree_call trivial (by rfl) (fun K hK => ?_)
          go_simp
          try rw [fold_cel]
          refine hK.out _ _ trivial (fun _ => ?_)
          clear hK K
          change wpT _ _ _ _ _ _ _ (y0.alloc (.cells (celCells (bareC 11 pc off)).toArray 49))
          try (simp only [Act.put, List.setIfInBounds_toArray, List.set_cons_zero, List.set_cons_succ])
          refine tree_call trivial (by rfl) (fun K hK => ?_)
          refine wp_append_new _ (.tmp 42) (.tmp 44) 22 rfl (b + 1) 49 i0 _ 9 72 Tryz.underlying22 HI.out HZ0.out HZ1.out HZ2.out rfl (by omega) (Value.slice none 0 0) ([]).length (flat celCells ([])) rfl (HE0.out.alloc _).oe _ (.slice (some ⟨y0.heap.size, 0, none⟩) 1 1) 1 (celCells (bareC 11 pc off)) rfl (row_new y0 (celCells (bareC 11 pc off)) 9 rfl (by omega) _) (celCells_one _) (by unfold maxLen; have := HLE.out; omega) (by have := HLE.out; omega) (by have := HE0.out.lt; simp; omega) ?_
          intro v1 y1 hO hg hn
          obtain ⟨hE1, q1, q2, q3, A1, k1, rfl⟩ := HE0.out.appE (c := bareC 11 pc off) hO hg hn
          have HE1 := Lib.hid hE1
          clear hO hg hn hE1
          refine hK.out _ _ trivial (fun _ => ?_)
          clear hK K
          try (simp only [Act.put, List.setIfInBounds_toArray, List.set_cons_zero, List.set_cons_succ])
          iterate 1 (refine tree_take (v := ?_) trivial (by rfl) ?_ ?_; rotate_left; (intro x hx; (try dsimp only at hx); go_simp; try (with_reducible rfl)); (simp only [Act.put, List.setIfInBounds_toArray, List.set_cons_zero, List.set_cons_succ]))
          refine tree_call trivial (by rfl) (fun K hK => ?_)
          go_simp
          refine hK.out _ _ trivial (fun _ => ?_)
          clear hK K
          exact tree_done ⟨(y0.heap.size, .slice A1 (([]).length + 1) k1), rfl, HE1.out⟩
        · go_simp
          try rw [fold_cel]
          have cLa := (HE0.out.alloc (.cells (celCells (bareC 11 pc off)).toArray 49)).cellE
          refine hK.out _ _ trivial (fun _ => ?_)
          clear hK K
          change wpT _ _ _ _ _ _ _ (y0.alloc (.cells (celCells (bareC 11 pc off)).toArray 49))
          try (simp only [Act.put, List.setIfInBounds_toArray, List.set_cons_zero, List.set_cons_succ])
          refine tree_call trivial (by rfl) (fun K hK => ?_)
          go_simp
          refine hK.out _ _ trivial (fun _ => ?_)
          clear hK K
          try (simp only [Act.put, List.setIfInBounds_toArray, List.set_cons_zero, List.set_cons_succ])
          refine tree_call trivial (by rfl) (fun K hK => ?_)
          refine wp_append_new _ (.tmp 42) (.tmp 44) 22 rfl (b + 1) 49 i0 _ 9 72 Tryz.underlying22 HI.out HZ0.out HZ1.out HZ2.out rfl (by omega) (Value.slice none 0 0) ([]).length (flat celCells ([])) rfl (HE0.out.alloc _).oe _ (.slice (some ⟨y0.heap.size, 0, none⟩) 1 1) 1 (celCells (bareC 11 pc off)) rfl (row_new y0 (celCells (bareC 11 pc off)) 9 rfl (by omega) _) (celCells_one _) (by unfold maxLen; have := HLE.out; omega) (by have := HLE.out; omega) (by have := HE0.out.lt; simp; omega) ?_
          intro v1 y1 hO hg hn
          obtain ⟨hE1, q1, q2, q3, A1, k1, rfl⟩ := HE0.out.appE (c := bareC 11 pc off) hO hg hn
          have HE1 := Lib.hid hE1
          clear hO hg hn hE1
          refine hK.out _ _ trivial (fun _ => ?_)
          clear hK K
          try (simp only [Act.put, List.setIfInBounds_toArray, List.set_cons_zero, List.set_cons_succ])
          iterate 1 (refine tree_take (v := ?_) trivial (by rfl) ?_ ?_; rotate_left; (intro x hx; (try dsimp only at hx); go_simp; try (with_reducible rfl)); (simp only [Act.put, List.setIfInBounds_toArray, List.set_cons_zero, List.set_cons_succ]))
          refine tree_call trivial (by rfl) (fun K hK => ?_)
          go_simp
          refine hK.out _ _ trivial (fun _ => ?_)
          clear hK K
          exact tree_done ⟨(y0.heap.size, .slice A1 (([]).length + 1) k1), rfl, HE1.out⟩
    rintro ⟨B2, v2⟩ w2 hE2
    dsimp only at hE2
    have HEw2 := Lib.hid hE2
    clear hE2
    simp only [Act.put, List.setIfInBounds_toArray, List.set_cons_zero, List.set_cons_succ]
    have HZe := Lib.hid (HZ4.out.keepS HEw2.out.keep HZN.out)
    go_wp2_with (first
      | (refine wpList_load_box rfl 113 (.tmp 9) rfl b 0 rfl (cellsL i z pc off (v1) (v2)) (cellsL i z pc off (v1) (v2)) HEw2.out.bx whole_at _ Tryz.underlying113 rfl 25 size_cells (cellsL_len HZL.out) ?_)
      | (refine wpList_store_box rfl 113 (.tmp 8) (.tmp 61) rfl (w.heap.size + 2) 0 (cellsL i z pc off (v1) (v2)) rfl rfl zeroCells HZe.out (by rw [cellsL_len HZL.out]; decide) 25 size_cells (cellsL_len HZL.out) (cellsL_one (own_cell HEw2.out.oa) (own_cell HEw2.out.oe)) ?_; intro w9 B9 hg9; rw [splice_whole zeroCells (cellsL i z pc off (v1) (v2)) (cellsL_len HZL.out)] at B9))
    first
      | exact bodyPost_ret (v := .agg (cellsL i z pc off (v1) (v2)).toArray) (results_cell Tryz.results88 _ _ _ ⟨w.heap.size + 2, 0, none⟩ _ rfl (load_cells HZL.out B9)) rfl (cells_out (by have := HBQ.out; omega) HK4.out HEw2.out (emit_7 (z := z) (pc := pc) (off := off) HR.out HF.out).1 (emit_7 (z := z) (pc := pc) (off := off) HR.out HF.out).2 hg9 (by have := HBQ.out; omega))
  by_cases h8 : formZ i.op = 8
  · have HF := Lib.hid h8
    rw [h8]
    clear h4 h5 h6 h7 h8 hF
    go_wp2_with fail
    obtain ⟨i0, hi, hz0, hz1, hz2⟩ := info_parts info_cel
    have HI := Lib.hid hi
    have HZ0 := Lib.hid hz0
    have HZ1 := Lib.hid hz1
    have HZ2 := Lib.hid hz2
    clear hi hz0 hz1 hz2
    refine region_tree_ex (fun (act : Act) (B : Nat × Value) => ((((((act.put (some 49) (.pointer (some ⟨b, 23, none⟩))).put (some 50) (Value.slice none 0 0)).put (some 51) (.agg (celCells (bareC 12 pc off)).toArray)).put (some 52) (.slice (some ⟨B.1, 0, none⟩) 1 1)).put (some 53) B.2).put (some 54) (.pointer (some ⟨b, 23, none⟩))))
      (fun B y => Em b i z pc off (fun j => j = b) w4 y B.2 (Value.slice none 0 0) ([] ++ [bareC 12 pc off]) ([]))
      (LinT.of [(0, true)] (.two 1 2 (LinT.of [(2, false), (3, false), (4, false), (5, true), (6, false)] .nil) (LinT.of [] (.two 1 3 (LinT.of [(3, false), (4, false), (5, true), (6, false)] .nil) (LinT.of [(1, false), (4, false), (5, true), (6, false)] .nil)))))
      (by kernel_rfl) (by kernel_rfl) rfl (by kernel_rfl) (fun _ => True) ?_ ?_
    · simp only [LinT.of, LinT.look, List.getElem?_toArray, List.getElem?_cons_succ, List.getElem?_cons_zero]
      have cL : w5.drew.cell? ⟨b, 23, none⟩ = some (Value.slice none 0 0) := HEw5.out.cellA
      have cL2 : w5.cell? ⟨b, 23, none⟩ = some (Value.slice none 0 0) := HEw5.out.cellA
      iterate 1 (refine tree_take (v := ?_) trivial (by rfl) ?_ ?_; rotate_left; (intro x hx; (try dsimp only at hx); go_simp; try (with_reducible rfl)); (simp only [Act.put, List.setIfInBounds_toArray, List.set_cons_zero, List.set_cons_succ]))
      refine tree_two trivial (by rfl) (by rfl) (fun K hK => ?_) (fun K hK => ?_)
      · go_simp
        refine hK.out _ _ trivial (fun _ => ?_)
        clear hK K
        try (simp only [Act.put, List.setIfInBounds_toArray, List.set_cons_zero, List.set_cons_succ])
        refine tree_call trivial (by rfl) (fun K hK => ?_)
        go_simp
        refine (bare_any 12 _ HEw5.out.drew).mono ?_; rintro e y0 ⟨rfl, hb0⟩
        go_wp2_with fail
        have HE0 := Lib.hid ((HEw5.out.drew).below hb0)
        have cL0 := HE0.out.cellA
        refine hK.out _ _ trivial (fun _ => ?_)
        clear hK K hb0
        try (simp only [Act.put, List.setIfInBounds_toArray, List.set_cons_zero, List.set_cons_succ])
        refine tree_call trivial (by rfl) (fun K hK => ?_)
        go_simp
        try rw [fold_cel]
        refine hK.out _ _ trivial (fun _ => ?_)
        clear hK K
        change wpT _ _ _ _ _ _ _ (y0.alloc (.cells (celCells (bareC 12 pc off)).toArray 49))
        try (simp only [Act.put, List.setIfInBounds_toArray, List.set_cons_zero, List.set_cons_succ])
        refine tree_call trivial (by rfl) (fun K hK => ?_)
        refine wp_append_new _ (.tmp 50) (.tmp 52) 22 rfl (b + 1) 49 i0 _ 9 72 Tryz.underlying22 HI.out HZ0.out HZ1.out HZ2.out rfl (by omega) (Value.slice none 0 0) ([]).length (flat celCells ([])) rfl (HE0.out.alloc _).oa _ (.slice (some ⟨y0.heap.size, 0, none⟩) 1 1) 1 (celCells (bareC 12 pc off)) rfl (row_new y0 (celCells (bareC 12 pc off)) 9 rfl (by omega) _) (celCells_one _) (by unfold maxLen; have := HLA.out; omega) (by have := HLA.out; omega) (by have := HE0.out.lt; simp; omega) ?_
        intro v1 y1 hO hg hn
        obtain ⟨hE1, q1, q2, q3, A1, k1, rfl⟩ := HE0.out.appA (c := bareC 12 pc off) hO hg hn
        have HE1 := Lib.hid hE1
        clear hO hg hn hE1
        refine hK.out _ _ trivial (fun _ => ?_)
        clear hK K
        try (simp only [Act.put, List.setIfInBounds_toArray, List.set_cons_zero, List.set_cons_succ])
        iterate 1 (refine tree_take (v := ?_) trivial (by rfl) ?_ ?_; rotate_left; (intro x hx; (try dsimp only at hx); go_simp; try (with_reducible rfl)); (simp only [Act.put, List.setIfInBounds_toArray, List.set_cons_zero, List.set_cons_succ]))
        refine tree_call trivial (by rfl) (fun K hK => ?_)
        go_simp
        refine hK.out _ _ trivial (fun _ => ?_)
        clear hK K
        exact tree_done ⟨(y0.heap.size, .slice A1 (([]).length + 1) k1), rfl, HE1.out⟩
      · go_simp
        refine (bare_any 12 _ HEw5.out.drew).mono ?_; rintro e y0 ⟨rfl, hb0⟩
        go_wp2_with fail
        have HE0 := Lib.hid ((HEw5.out.drew).below hb0)
        have cL0 := HE0.out.cellA
        refine hK.out _ _ trivial (fun _ => ?_)
        clear hK K hb0
        try (simp only [Act.put, List.setIfInBounds_toArray, List.set_cons_zero, List.set_cons_succ])
        refine tree_two trivial (by rfl) (by rfl) (fun K hK => ?_) (fun K hK => ?_)
        · go_simp
          refine hK.out _ _ trivial (fun _ => ?_)
          clear hK K
          try (simp only [Act.put, List.setIfInBounds_toArray, List.set_cons_zero, List.set_cons_succ])
          refine tree_call trivial (by rfl) (fun K hK => ?_)
          go_simp
          try rw [fold_cel]
          refine hK.out _ _ trivial (fun _ => ?_)
          clear hK K
          change wpT _ _ _ _ _ _ _ (y0.alloc (.cells (celCells (bareC 12 pc off)).toArray 49))
          try (simp only [Act.put, List.setIfInBounds_toArray, List.set_cons_zero, List.set_cons_succ])
          refine tree_call trivial (by rfl) (fun K hK => ?_)
          refine wp_append_new _ (.tmp 50) (.tmp 52) 22 rfl (b + 1) 49 i0 _ 9 72 Tryz.underlying22 HI.out HZ0.out HZ1.out HZ2.out rfl (by omega) (Value.slice none 0 0) ([]).length (flat celCells ([])) rfl (HE0.out.alloc _).oa _ (.slice (some ⟨y0.heap.size, 0, none⟩) 1 1) 1 (celCells (bareC 12 pc off)) rfl (row_new y0 (celCells (bareC 12 pc off)) 9 rfl (by omega) _) (celCells_one _) (by unfold maxLen; have := HLA.out; omega) (by have := HLA.out; omega) (by have := HE0.out.lt; simp; omega) ?_
          intro v1 y1 hO hg hn
          obtain ⟨hE1, q1, q2, q3, A1, k1, rfl⟩ := HE0.out.appA (c := bareC 12 pc off) hO hg hn
          have HE1 := Lib.hid hE1
          clear hO hg hn hE1
          refine hK.out _ _ trivial (fun _ => ?_)
          clear hK K
          try (simp only [Act.put, List.setIfInBounds_toArray, List.set_cons_zero, List.set_cons_succ])
          iterate 1 (refine tree_take (v := ?_) trivial (by rfl) ?_ ?_; rotate_left; (intro x hx; (try dsimp only at hx); go_simp; try (with_reducible rfl)); (simp only [Act.put, List.setIfInBounds_toArray, List.set_cons_zero, List.set_cons_succ]))
          refine tree_call trivial (by rfl) (fun K hK => ?_)
          go_simp
          refine hK.out _ _ trivial (fun _ => ?_)
          clear hK K
          exact tree_done ⟨(y0.heap.size, .slice A1 (([]).length + 1) k1), rfl, HE1.out⟩
        · go_simp
          try rw [fold_cel]
          have cLa := (HE0.out.alloc (.cells (celCells (bareC 12 pc off)).toArray 49)).cellA
          refine hK.out _ _ trivial (fun _ => ?_)
          clear hK K
          change wpT _ _ _ _ _ _ _ (y0.alloc (.cells (celCells (bareC 12 pc off)).toArray 49))
          try (simp only [Act.put, List.setIfInBounds_toArray, List.set_cons_zero, List.set_cons_succ])
          refine tree_call trivial (by rfl) (fun K hK => ?_)
          go_simp
          refine hK.out _ _ trivial (fun _ => ?_)
          clear hK K
          try (simp only [Act.put, List.setIfInBounds_toArray, List.set_cons_zero, List.set_cons_succ])
          refine tree_call trivial (by rfl) (fun K hK => ?_)
          refine wp_append_new _ (.tmp 50) (.tmp 52) 22 rfl (b + 1) 49 i0 _ 9 72 Tryz.underlying22 HI.out HZ0.out HZ1.out HZ2.out rfl (by omega) (Value.slice none 0 0) ([]).length (flat celCells ([])) rfl (HE0.out.alloc _).oa _ (.slice (some ⟨y0.heap.size, 0, none⟩) 1 1) 1 (celCells (bareC 12 pc off)) rfl (row_new y0 (celCells (bareC 12 pc off)) 9 rfl (by omega) _) (celCells_one _) (by unfold maxLen; have := HLA.out; omega) (by have := HLA.out; omega) (by have := HE0.out.lt; simp; omega) ?_
          intro v1 y1 hO hg hn
          obtain ⟨hE1, q1, q2, q3, A1, k1, rfl⟩ := HE0.out.appA (c := bareC 12 pc off) hO hg hn
          have HE1 := Lib.hid hE1
          clear hO hg hn hE1
          refine hK.out _ _ trivial (fun _ => ?_)
          clear hK K
          try (simp only [Act.put, List.setIfInBounds_toArray, List.set_cons_zero, List.set_cons_succ])
          iterate 1 (refine tree_take (v := ?_) trivial (by rfl) ?_ ?_; rotate_left; (intro x hx; (try dsimp only at hx); go_simp; try (with_reducible rfl)); (simp only [Act.put, List.setIfInBounds_toArray, List.set_cons_zero, List.set_cons_succ]))
          refine tree_call trivial (by rfl) (fun K hK => ?_)
          go_simp
          refine hK.out _ _ trivial (fun _ => ?_)
          clear hK K
          exact tree_done ⟨(y0.heap.size, .slice A1 (([]).length + 1) k1), rfl, HE1.out⟩
    rintro ⟨B1, v1⟩ w1 hE1
    dsimp only at hE1
    have HEw1 := Lib.hid hE1
    clear hE1
    simp only [Act.put, List.setIfInBounds_toArray, List.set_cons_zero, List.set_cons_succ]
    go_wp2_with fail
    refine region_tree_ex (fun (act : Act) (B : Nat × Value) => ((((((act.put (some 55) (.pointer (some ⟨b, 24, none⟩))).put (some 56) (Value.slice none 0 0)).put (some 57) (.agg (celCells (bareC 12 pc off)).toArray)).put (some 58) (.slice (some ⟨B.1, 0, none⟩) 1 1)).put (some 59) B.2).put (some 60) (.pointer (some ⟨b, 24, none⟩))))
      (fun B y => Em b i z pc off (fun j => j = b) w4 y v1 B.2 ([] ++ [bareC 12 pc off]) ([] ++ [bareC 12 pc off]))
      (LinT.of [(0, true)] (.two 1 2 (LinT.of [(2, false), (3, false), (4, false), (5, true), (6, false)] .nil) (LinT.of [] (.two 1 3 (LinT.of [(3, false), (4, false), (5, true), (6, false)] .nil) (LinT.of [(1, false), (4, false), (5, true), (6, false)] .nil)))))
      (by kernel_rfl) (by kernel_rfl) rfl (by kernel_rfl) (fun _ => True) ?_ ?_
    · simp only [LinT.of, LinT.look, List.getElem?_toArray, List.getElem?_cons_succ, List.getElem?_cons_zero]
      have cL : w1.drew.cell? ⟨b, 24, none⟩ = some (Value.slice none 0 0) := HEw1.out.cellE
      have cL2 : w1.cell? ⟨b, 24, none⟩ = some (Value.slice none 0 0) := HEw1.out.cellE
      iterate 1 (refine tree_take (v := ?_) trivial (by rfl) ?_ ?_; rotate_left; (intro x hx; (try dsimp only at hx); go_simp; try (with_reducible rfl)); (simp only [Act.put, List.setIfInBounds_toArray, List.set_cons_zero, List.set_cons_succ]))
      refine tree_two trivial (by rfl) (by rfl) (fun K hK => ?_) (fun K hK => ?_)
      · go_simp
        refine hK.out _ _ trivial (fun _ => ?_)
        clear hK K
        try (simp only [Act.put, List.setIfInBounds_toArray, List.set_cons_zero, List.set_cons_succ])
        refine tree_call trivial (by rfl) (fun K hK => ?_)
        go_simp
        refine (bare_any 12 _ HEw1.out.drew).mono ?_; rintro e y0 ⟨rfl, hb0⟩
        go_wp2_with fail
        have HE0 := Lib.hid ((HEw1.out.drew).below hb0)
        have cL0 := HE0.out.cellE
        refine hK.out _ _ trivial (fun _ => ?_)
        clear hK K hb0
        try (simp only [Act.put, List.setIfInBounds_toArray, List.set_cons_zero, List.set_cons_succ])
        refine tree_call trivial (by rfl) (fun K hK => ?_)
        go_simp
        try rw [fold_cel]
        refine hK.out _ _ trivial (fun _ => ?_)
        clear hK K
        change wpT _ _ _ _ _ _ _ (y0.alloc (.cells (celCells (bareC 12 pc off)).toArray 49))
        try (simp only [Act.put, List.setIfInBounds_toArray, List.set_cons_zero, List.set_cons_succ])
        refine tree_call trivial (by rfl) (fun K hK => ?_)
        refine wp_append_new _ (.tmp 56) (.tmp 58) 22 rfl (b + 1) 49 i0 _ 9 72 Tryz.underlying22 HI.out HZ0.out HZ1.out HZ2.out rfl (by omega) (Value.slice none 0 0) ([]).length (flat celCells ([])) rfl (HE0.out.alloc _).oe _ (.slice (some ⟨y0.heap.size, 0, none⟩) 1 1) 1 (celCells (bareC 12 pc off)) rfl (row_new y0 (celCells (bareC 12 pc off)) 9 rfl (by omega) _) (celCells_one _) (by unfold maxLen; have := HLE.out; omega) (by have := HLE.out; omega) (by have := HE0.out.lt; simp; omega) ?_
        intro v1 y1 hO hg hn
        obtain ⟨hE1, q1, q2, q3, A1, k1, rfl⟩ := HE0.out.appE (c := bareC 12 pc off) hO hg hn
        have HE1 := Lib.hid hE1
        clear hO hg hn hE1
        refine hK.out _ _ trivial (fun _ => ?_)
        clear hK K
        try (simp only [Act.put, List.setIfInBounds_toArray, List.set_cons_zero, List.set_cons_succ])
        iterate 1 (refine tree_take (v := ?_) trivial (by rfl) ?_ ?_; rotate_left; (intro x hx; (try dsimp only at hx); go_simp; try (with_reducible rfl)); (simp only [Act.put, List.setIfInBounds_toArray, List.set_cons_zero, List.set_cons_succ]))
        refine tree_call trivial (by rfl) (fun K hK => ?_)
        go_simp
        refine hK.out _ _ trivial (fun _ => ?_)
        clear hK K
        exact tree_done ⟨(y0.heap.size, .slice A1 (([]).length + 1) k1), rfl, HE1.out⟩
      · go_simp
        refine (bare_any 12 _ HEw1.out.drew).mono ?_; rintro e y0 ⟨rfl, hb0⟩
        go_wp2_with fail
        have HE0 := Lib.hid ((HEw1.out.drew).below hb0)
        have cL0 := HE0.out.cellE
        refine hK.out _ _ trivial (fun _ => ?_)
        clear hK K hb0
        try (simp only [Act.put, List.setIfInBounds_toArray, List.set_cons_zero, List.set_cons_succ])
        refine tree_two trivial (by rfl) (by rfl) (fun K hK => ?_) (fun K hK => ?_)
        · go_simp
          refine hK.out _ _ trivial (fun _ => ?_)
          clear hK K
          try (simp only [Act.put, List.setIfInBounds_toArray, List.set_cons_zero, List.set_cons_succ])
          refine tree_call trivial (by rfl) (fun K hK => ?_)
          go_simp
          try rw [fold_cel]
          refine hK.out _ _ trivial (fun _ => ?_)
          clear hK K
          change wpT _ _ _ _ _ _ _ (y0.alloc (.cells (celCells (bareC 12 pc off)).toArray 49))
          try (simp only [Act.put, List.setIfInBounds_toArray, List.set_cons_zero, List.set_cons_succ])
          refine tree_call trivial (by rfl) (fun K hK => ?_)
          refine wp_append_new _ (.tmp 56) (.tmp 58) 22 rfl (b + 1) 49 i0 _ 9 72 Tryz.underlying22 HI.out HZ0.out HZ1.out HZ2.out rfl (by omega) (Value.slice none 0 0) ([]).length (flat celCells ([])) rfl (HE0.out.alloc _).oe _ (.slice (some ⟨y0.heap.size, 0, none⟩) 1 1) 1 (celCells (bareC 12 pc off)) rfl (row_new y0 (celCells (bareC 12 pc off)) 9 rfl (by omega) _) (celCells_one _) (by unfold maxLen; have := HLE.out; omega) (by have := HLE.out; omega) (by have := HE0.out.lt; simp; omega) ?_
          intro v1 y1 hO hg hn
          obtain ⟨hE1, q1, q2, q3, A1, k1, rfl⟩ := HE0.out.appE (c := bareC 12 pc off) hO hg hn
          have HE1 := Lib.hid hE1
          clear hO hg hn hE1
          refine hK.out _ _ trivial (fun _ => ?_)
          clear hK K
          try (simp only [Act.put, List.setIfInBounds_toArray, List.set_cons_zero, List.set_cons_succ])
          iterate 1 (refine tree_take (v := ?_) trivial (by rfl) ?_ ?_; rotate_left; (intro x hx; (try dsimp only at hx); go_simp; try (with_reducible rfl)); (simp only [Act.put, List.setIfInBounds_toArray, List.set_cons_zero, List.set_cons_succ]))
          refine tree_call trivial (by rfl) (fun K hK => ?_)
          go_simp
          refine hK.out _ _ trivial (fun _ => ?_)
          clear hK K
          exact tree_done ⟨(y0.heap.size, .slice A1 (([]).length + 1) k1), rfl, HE1.out⟩
        · go_simp
          try rw [fold_cel]
          have cLa := (HE0.out.alloc (.cells (celCells (bareC 12 pc off)).toArray 49)).cellE
          refine hK.out _ _ trivial (fun _ => ?_)
          clear hK K
          change wpT _ _ _ _ _ _ _ (y0.alloc (.cells (celCells (bareC 12 pc off)).toArray 49))
          try (simp only [Act.put, List.setIfInBounds_toArray, List.set_cons_zero, List.set_cons_succ])
          refine tree_call trivial (by rfl) (fun K hK => ?_)
          go_simp
          refine hK.out _ _ trivial (fun _ => ?_)
          clear hK K
          try (simp only [Act.put, List.setIfInBounds_toArray, List.set_cons_zero, List.set_cons_succ])
          refine tree_call trivial (by rfl) (fun K hK => ?_)
          refine wp_append_new _ (.tmp 56) (.tmp 58) 22 rfl (b + 1) 49 i0 _ 9 72 Tryz.underlying22 HI.out HZ0.out HZ1.out HZ2.out rfl (by omega) (Value.slice none 0 0) ([]).length (flat celCells ([])) rfl (HE0.out.alloc _).oe _ (.slice (some ⟨y0.heap.size, 0, none⟩) 1 1) 1 (celCells (bareC 12 pc off)) rfl (row_new y0 (celCells (bareC 12 pc off)) 9 rfl (by omega) _) (celCells_one _) (by unfold maxLen; have := HLE.out; omega) (by have := HLE.out; omega) (by have := HE0.out.lt; simp; omega) ?_
          intro v1 y1 hO hg hn
          obtain ⟨hE1, q1, q2, q3, A1, k1, rfl⟩ := HE0.out.appE (c := bareC 12 pc off) hO hg hn
          have HE1 := Lib.hid hE1
          clear hO hg hn hE1
          refine hK.out _ _ trivial (fun _ => ?_)
          clear hK K
          try (simp only [Act.put, List.setIfInBounds_toArray, List.set_cons_zero, List.set_cons_succ])
          iterate 1 (refine tree_take (v := ?_) trivial (by rfl) ?_ ?_; rotate_left; (intro x hx; (try dsimp only at hx); go_simp; try (with_reducible rfl)); (simp only [Act.put, List.setIfInBounds_toArray, List.set_cons_zero, List.set_cons_succ]))
          refine tree_call trivial (by rfl) (fun K hK => ?_)
          go_simp
          refine hK.out _ _ trivial (fun _ => ?_)
          clear hK K
          exact tree_done ⟨(y0.heap.size, .slice A1 (([]).length + 1) k1), rfl, HE1.out⟩
    rintro ⟨B2, v2⟩ w2 hE2
    dsimp only at hE2
    have HEw2 := Lib.hid hE2
    clear hE2
    simp only [Act.put, List.setIfInBounds_toArray, List.set_cons_zero, List.set_cons_succ]
    have HZe := Lib.hid (HZ4.out.keepS HEw2.out.keep HZN.out)
    go_wp2_with (first
      | (refine wpList_load_box rfl 113 (.tmp 9) rfl b 0 rfl (cellsL i z pc off (v1) (v2)) (cellsL i z pc off (v1) (v2)) HEw2.out.bx whole_at _ Tryz.underlying113 rfl 25 size_cells (cellsL_len HZL.out) ?_)
      | (refine wpList_store_box rfl 113 (.tmp 8) (.tmp 61) rfl (w.heap.size + 2) 0 (cellsL i z pc off (v1) (v2)) rfl rfl zeroCells HZe.out (by rw [cellsL_len HZL.out]; decide) 25 size_cells (cellsL_len HZL.out) (cellsL_one (own_cell HEw2.out.oa) (own_cell HEw2.out.oe)) ?_; intro w9 B9 hg9; rw [splice_whole zeroCells (cellsL i z pc off (v1) (v2)) (cellsL_len HZL.out)] at B9))
    first
      | exact bodyPost_ret (v := .agg (cellsL i z pc off (v1) (v2)).toArray) (results_cell Tryz.results88 _ _ _ ⟨w.heap.size + 2, 0, none⟩ _ rfl (load_cells HZL.out B9)) rfl (cells_out (by have := HBQ.out; omega) HK4.out HEw2.out (emit_8 (z := z) (pc := pc) (off := off) HR.out HF.out).1 (emit_8 (z := z) (pc := pc) (off := off) HR.out HF.out).2 hg9 (by have := HBQ.out; omega))
  have hf3 : formZ i.op ≤ 3 := by omega
  have HF := Lib.hid hf3
  have g4 : (formZ i.op == 4) = false := by simpa using h4
  have g5 : (formZ i.op == 5) = false := by simpa using h5
  have g6 : (formZ i.op == 6) = false := by simpa using h6
  have g7 : (formZ i.op == 7) = false := by simpa using h7
  have g8 : (formZ i.op == 8) = false := by simpa using h8
  clear h4 h5 h6 h7 h8 hF hf3
  by_cases hs : sideZ i z = 1
  · go_wp2_with fail
    refine (reckon_a _ HEw5.out HR.out (by simp) (by simp) hs).mono ?_; rintro e w7 ⟨rfl, va, ve, hE7⟩
    have HEw7 := Lib.hid hE7
    clear hE7
    have HZe := Lib.hid (HZ4.out.keepS HEw7.out.keep HZN.out)
    go_wp2_with (first
      | (refine wpList_load_box rfl 113 (.tmp 9) rfl b 0 rfl (cellsL i z pc off (va) (ve)) (cellsL i z pc off (va) (ve)) HEw7.out.bx whole_at _ Tryz.underlying113 rfl 25 size_cells (cellsL_len HZL.out) ?_)
      | (refine wpList_store_box rfl 113 (.tmp 8) (.tmp 61) rfl (w.heap.size + 2) 0 (cellsL i z pc off (va) (ve)) rfl rfl zeroCells HZe.out (by rw [cellsL_len HZL.out]; decide) 25 size_cells (cellsL_len HZL.out) (cellsL_one (own_cell HEw7.out.oa) (own_cell HEw7.out.oe)) ?_; intro w9 B9 hg9; rw [splice_whole zeroCells (cellsL i z pc off (va) (ve)) (cellsL_len HZL.out)] at B9))
    first
      | exact bodyPost_ret (v := .agg (cellsL i z pc off (va) (ve)).toArray) (results_cell Tryz.results88 _ _ _ ⟨w.heap.size + 2, 0, none⟩ _ rfl (load_cells HZL.out B9)) rfl (cells_out (by have := HBQ.out; omega) HK4.out HEw7.out (emit_1a (z := z) (pc := pc) (off := off) HR.out HF.out hs).1 (emit_1a (z := z) (pc := pc) (off := off) HR.out HF.out hs).2 hg9 (by have := HBQ.out; omega))
  · go_wp2_with fail
    refine (reckon_e _ HEw5.out HR.out (by simp) (by simp) hs).mono ?_; rintro e w7 ⟨rfl, va, ve, hE7⟩
    have HEw7 := Lib.hid hE7
    clear hE7
    have HZe := Lib.hid (HZ4.out.keepS HEw7.out.keep HZN.out)
    go_wp2_with (first
      | (refine wpList_load_box rfl 113 (.tmp 9) rfl b 0 rfl (cellsL i z pc off (va) (ve)) (cellsL i z pc off (va) (ve)) HEw7.out.bx whole_at _ Tryz.underlying113 rfl 25 size_cells (cellsL_len HZL.out) ?_)
      | (refine wpList_store_box rfl 113 (.tmp 8) (.tmp 61) rfl (w.heap.size + 2) 0 (cellsL i z pc off (va) (ve)) rfl rfl zeroCells HZe.out (by rw [cellsL_len HZL.out]; decide) 25 size_cells (cellsL_len HZL.out) (cellsL_one (own_cell HEw7.out.oa) (own_cell HEw7.out.oe)) ?_; intro w9 B9 hg9; rw [splice_whole zeroCells (cellsL i z pc off (va) (ve)) (cellsL_len HZL.out)] at B9))
    first
      | exact bodyPost_ret (v := .agg (cellsL i z pc off (va) (ve)).toArray) (results_cell Tryz.results88 _ _ _ ⟨w.heap.size + 2, 0, none⟩ _ rfl (load_cells HZL.out B9)) rfl (cells_out (by have := HBQ.out; omega) HK4.out HEw7.out (emit_1e (z := z) (pc := pc) (off := off) HR.out HF.out hs).1 (emit_1e (z := z) (pc := pc) (off := off) HR.out HF.out hs).2 hg9 (by have := HBQ.out; omega))
end Go.Proofs.YteagglddgkjkmaaGreat.Words

/- Contracts of package emit's A and E. -/
namespace Go.Proofs.YteagglddgkjkmaaGreat.Words
set_option maxRecDepth 100000
open Go.RowKit
set_option linter.unusedVariables false
set_option linter.unusedSimpArgs false

/-- Cells in memory that was not there before. -/
def CelsN (w : World) (l : List Cel) (e : Ending) (w' : World) : Prop :=
  ∃ v, e = .returned v ∧ Row w' w'.heap.size 9 v l.length (flat celCells l) ∧ NewV w.heap.size v ∧ Below w.heap.size w w'
theorem field_cells_aux (i : Ins) (pc off : Int) (va ve : Value) (y : World) (a0 a1 a2 a3 a4 a5 a6 a7 a8 a9 a10 a11 a12 a13 a14 a15 : Int) :
    (Instr.field 113 (.agg (cellsL i [a0, a1, a2, a3, a4, a5, a6, a7, a8, a9, a10, a11, a12, a13, a14, a15] pc off va ve).toArray) 4).run Tryz.prog y = .ok va y ∧ (Instr.field 113 (.agg (cellsL i [a0, a1, a2, a3, a4, a5, a6, a7, a8, a9, a10, a11, a12, a13, a14, a15] pc off va ve).toArray) 5).run Tryz.prog y = .ok ve y := ⟨by kernel_rfl, by kernel_rfl⟩
theorem field_cells (i : Ins) (z : List Int) (pc off : Int) (va ve : Value) (y : World) (h : z.length = 16) :
    (Instr.field 113 (.agg (cellsL i z pc off va ve).toArray) 4).run Tryz.prog y = .ok va y ∧ (Instr.field 113 (.agg (cellsL i z pc off va ve).toArray) 5).run Tryz.prog y = .ok ve y := by
  match z, h with
  | [a0, a1, a2, a3, a4, a5, a6, a7, a8, a9, a10, a11, a12, a13, a14, a15], _ => exact field_cells_aux i pc off va ve y a0 a1 a2 a3 a4 a5 a6 a7 a8 a9 a10 a11 a12 a13 a14 a15

set_option maxHeartbeats 4000000 in
theorem emitA_any (i : Ins) (o : List Int) (pc off : Int) (w : World) (ho : o.length = 16) :
    Calls Tryz.prog 62 #[.agg #[.int .i64 i.op, .int .i64 i.d, .int .i64 i.a, .int .i64 i.b, .int .i64 i.imm], .agg (oV o).toArray, .int .i64 pc, .int .i64 off] w (CelsN w (emitA (zeroed o) i pc off)) := by
  have HOL := Lib.hid ho
  have HK : Hid (Below w.heap.size w ((w.alloc (.cells (insV i).toArray 44)).alloc (.cells (oV o).toArray 30))) := ((Below.refl w.heap.size w).alloc (Nat.le_refl _) _).alloc (by simp) _
  have HY : Hid (Box ((w.alloc (.cells (insV i).toArray 44)).alloc (.cells (oV o).toArray 30)) (w.heap.size + 1) (oV o)) := by
    have h := Box.new (w.alloc (.cells (insV i).toArray 44)) (oV o) 30
    have e : (w.alloc (.cells (insV i).toArray 44)).heap.size = w.heap.size + 1 := by simp
    rw [e] at h
    exact h
  have HX : Hid (Box ((w.alloc (.cells (insV i).toArray 44)).alloc (.cells (oV o).toArray 30)) w.heap.size (insV i)) := (Box.new w (insV i) _).alloc _
  clear ho
  go_enter Tryz.func62, Tryz.ntmps62
  go_wp2_with (first
    | (refine wpList_load_box rfl 44 (.tmp 4) rfl w.heap.size 0 rfl (insV i) (insV i) HX.out whole_at _ Tryz.underlying44 rfl 5 size_ins5 rfl ?_)
    | (refine wpList_load_box rfl 30 (.tmp 5) rfl (w.heap.size + 1) 0 rfl (oV o) (oV o) HY.out whole_at _ Tryz.underlying30 rfl 16 (by kernel_rfl) ((oV_len o).trans HOL.out) ?_))
  refine (cellsOf_any i o pc off _ HOL.out).mono ?_; rintro e w1 ⟨va, ve, rfl, ha, he, na, ne, hb⟩
  have HA := Lib.hid ha
  have HNA : Hid (NewV w.heap.size va) := fun a n c hv => Nat.le_trans (by simp; omega) (na a n c hv)
  have HKB := Lib.hid (HK.out.trans (hb.mono (by simp; omega)))
  have fd := fun y => (field_cells i (zeroed o) pc off va ve y (zeroed_len HOL.out)).1
  clear ha he na ne hb
  go_wp2_with fail
  refine bodyPost_ret (v := va) (by simp [results, Tryz.results62, go_sem]) rfl ⟨_, rfl, HA.out, HNA.out, HKB.out⟩

set_option maxHeartbeats 4000000 in
theorem emitE_any (i : Ins) (o : List Int) (pc off : Int) (w : World) (ho : o.length = 16) :
    Calls Tryz.prog 63 #[.agg #[.int .i64 i.op, .int .i64 i.d, .int .i64 i.a, .int .i64 i.b, .int .i64 i.imm], .agg (oV o).toArray, .int .i64 pc, .int .i64 off] w (CelsN w (emitE (zeroed o) i pc off)) := by
  have HOL := Lib.hid ho
  have HK : Hid (Below w.heap.size w ((w.alloc (.cells (insV i).toArray 44)).alloc (.cells (oV o).toArray 30))) := ((Below.refl w.heap.size w).alloc (Nat.le_refl _) _).alloc (by simp) _
  have HY : Hid (Box ((w.alloc (.cells (insV i).toArray 44)).alloc (.cells (oV o).toArray 30)) (w.heap.size + 1) (oV o)) := by
    have h := Box.new (w.alloc (.cells (insV i).toArray 44)) (oV o) 30
    have e : (w.alloc (.cells (insV i).toArray 44)).heap.size = w.heap.size + 1 := by simp
    rw [e] at h
    exact h
  have HX : Hid (Box ((w.alloc (.cells (insV i).toArray 44)).alloc (.cells (oV o).toArray 30)) w.heap.size (insV i)) := (Box.new w (insV i) _).alloc _
  clear ho
  go_enter Tryz.func63, Tryz.ntmps63
  go_wp2_with (first
    | (refine wpList_load_box rfl 44 (.tmp 4) rfl w.heap.size 0 rfl (insV i) (insV i) HX.out whole_at _ Tryz.underlying44 rfl 5 size_ins5 rfl ?_)
    | (refine wpList_load_box rfl 30 (.tmp 5) rfl (w.heap.size + 1) 0 rfl (oV o) (oV o) HY.out whole_at _ Tryz.underlying30 rfl 16 (by kernel_rfl) ((oV_len o).trans HOL.out) ?_))
  refine (cellsOf_any i o pc off _ HOL.out).mono ?_; rintro e w1 ⟨va, ve, rfl, ha, he, na, ne, hb⟩
  have HA := Lib.hid he
  have HNA : Hid (NewV w.heap.size ve) := fun a n c hv => Nat.le_trans (by simp; omega) (ne a n c hv)
  have HKB := Lib.hid (HK.out.trans (hb.mono (by simp; omega)))
  have fd := fun y => (field_cells i (zeroed o) pc off va ve y (zeroed_len HOL.out)).2
  clear ha he na ne hb
  go_wp2_with fail
  refine bodyPost_ret (v := ve) (by simp [results, Tryz.results63, go_sem]) rfl ⟨_, rfl, HA.out, HNA.out, HKB.out⟩

end Go.Proofs.YteagglddgkjkmaaGreat.Words

/- The document's own maker of cells: its block, and contracts of ins, reg, plain, regs. -/
namespace Go.Proofs.YteagglddgkjkmaaGreat.Words
set_option maxRecDepth 100000
open Go.RowKit
set_option linter.unusedVariables false
set_option linter.unusedSimpArgs false

/-- A maker in block b, its cells in a row of the call's own behind B. -/
structure Mk (b B : Nat) (pc off : Int) (Z : World) (v : Value) (l : List Cel) : Prop where
  bx : Box Z b [.int .i64 pc, .int .i64 off, v]
  own : Z.ownsRow B 49 9 v l.length (flat celCells l)
  hb : b < B
  hB : B ≤ Z.heap.size
section
variable {b B : Nat} {pc off : Int} {Z Y : World} {v v' : Value} {l : List Cel}
theorem Mk.lt (h : Mk b B pc off Z v l) : b < Z.heap.size := h.bx.lt
theorem Mk.keepS {T : Nat → Prop} (h : Mk b B pc off Z v l) (hS : KeepS T Z Y) (hs : ¬ T b) (ho : ∀ g, v.ownBlock = some g → ¬ T g) : Mk b B pc off Y v l :=
  ⟨h.bx.keepS hS hs, own_keepS h.own hS ho, h.hb, Nat.le_trans h.hB hS.size⟩
theorem Mk.below (h : Mk b B pc off Z v l) (hb : Below Z.heap.size Z Y) : Mk b B pc off Y v l := h.keepS (KeepS.of_below (S := fun _ => False) hb) (fun e => e) (fun _ _ e => e)
theorem Mk.alloc (h : Mk b B pc off Z v l) (o : Obj) : Mk b B pc off (Z.alloc o) v l := h.below ((Below.refl _ _).alloc (Nat.le_refl _) o)
theorem Mk.drew (h : Mk b B pc off Z v l) : Mk b B pc off Z.drew v l := h.below (Below.refl _ _).drew
/-- What a step of the maker leaves. -/
def MkOut (b B : Nat) (pc off : Int) (v : Value) (l : List Cel) (w w' : World) : Prop :=
  ∃ v', Mk b B pc off w' v' l ∧ KeepS (fun j => j = b ∨ v.ownBlock = some j) w w' ∧ (∀ g, v'.ownBlock = some g → v.ownBlock = some g ∨ w.heap.size ≤ g)
theorem Mk.app {W : World} (h : Mk b B pc off Z v l) (hW : Below W.heap.size W Z) {o : Obj} {c : Cel} (hO : Y.ownsRow B 49 9 v' (l.length + 1) (flat celCells l ++ celCells c)) (hg : (Z.alloc o).grownBy Y v.ownBlock)
    (hn : ∀ g, v'.ownBlock = some g → v.ownBlock = some g ∨ (Z.alloc o).heap.size ≤ g) :
    MkOut b B pc off v (l ++ [c]) W (Y.setCell ⟨b, 2, none⟩ v') ∧ Box Y b [.int .i64 pc, .int .i64 off, v] ∧ ∃ A k, v' = .slice A (l.length + 1) k := by
  have h1 := h.lt
  have ha := h.alloc o
  have hob : ∀ g, v.ownBlock = some g → b < g := fun g hg => by have := (h.own.lt g hg).1; have := h.hb; omega
  have kg : KeepS (fun j => v.ownBlock = some j) (Z.alloc o) Y := KeepS.of_grown hg (fun g e => e)
  have kb : KeepS (fun j => j = b) Y (Y.setCell ⟨b, 2, none⟩ v') := (KeepS.refl (fun j => j = b) Y).setCell rfl 2 _
  have hby : Box Y b [.int .i64 pc, .int .i64 off, v] := ha.bx.keepS kg (fun e => Nat.lt_irrefl _ (hob b e))
  have hne' : v'.ownBlock ≠ some b := fun e => by have := (hO.lt _ e).1; have := h.hb; omega
  have k1 : KeepS (fun j => j = b ∨ v.ownBlock = some j) W (Y.setCell ⟨b, 2, none⟩ v') :=
    (((KeepS.of_below (S := fun j => j = b ∨ v.ownBlock = some j) hW).alloc o).trans (kg.mono (fun k e => .inr e))).trans (kb.mono (fun k e => .inl e))
  refine ⟨⟨v', ⟨hby.setCell 2 v', ?_, h.hb, Nat.le_trans ha.hB (Nat.le_trans kg.size kb.size)⟩, k1, ?_⟩, hby, ?_⟩
  · rw [List.length_append, ← flat_snocL]
    exact ownsRow_setCell_other hO hne' _
  · intro g hg1
    rcases hn g hg1 with e | e
    · exact .inl e
    · exact .inr (Nat.le_trans hW.size (Nat.le_trans (by simp) e))
  · obtain ⟨A, k, e⟩ := (Row.of_own hO).form
    exact ⟨A, k, e⟩
end

set_option maxHeartbeats 4000000 in
theorem mkPlain_any {b B : Nat} {pc off : Int} {v : Value} {l : List Cel} (k : Int) (w : World) (h : Mk b B pc off w v l) (hl : l.length ≤ 100) :
    Calls Tryz.prog 76 #[.pointer (some ⟨b, 0, none⟩), .int .i64 k] w fun e w' => e = .returned (.tuple #[]) ∧ MkOut b B pc off v (l ++ [bareC k pc off]) w w' := by
  have HL := Lib.hid hl
  obtain ⟨i0, hi, hz0, hz1, hz2⟩ := info_parts info_cel
  have HI := Lib.hid hi
  have HZ0 := Lib.hid hz0
  have HZ1 := Lib.hid hz1
  have HZ2 := Lib.hid hz2
  clear hi hz0 hz1 hz2
  have HM := Lib.hid h
  have HBW : Hid (Below w.heap.size w w) := Below.refl _ w
  clear h hl
  go_enter Tryz.func76, Tryz.ntmps76
  go_wp2_with fail
  refine region_tree_ex (fun (act : Act) (B' : Value) => (((((((((((((((((((act.put (some 4) (.pointer (some ⟨b, 0, none⟩))).put (some 5) (.pointer (some ⟨b, 0, none⟩))).put (some 6) (.pointer (some ⟨b, 0, none⟩))).put (some 7) (.pointer (some ⟨b, 2, none⟩))).put (some 8) v).put (some 9) (.int .i64 k)).put (some 10) (.pointer (some ⟨b, 0, none⟩))).put (some 11) (.pointer (some ⟨b, 0, none⟩))).put (some 12) (.pointer (some ⟨b, 0, none⟩))).put (some 13) (.int .i64 pc)).put (some 14) (.pointer (some ⟨b, 0, none⟩))).put (some 15) (.pointer (some ⟨b, 0, none⟩))).put (some 16) (.pointer (some ⟨b, 1, none⟩))).put (some 17) (.int .i64 off)).put (some 18) (.agg (celCells (bareC k pc off)).toArray)).put (some 19) (.slice (some ⟨w.heap.size, 0, none⟩) 1 1)).put (some 20) B').put (some 21) (.pointer (some ⟨b, 0, none⟩))).put (some 22) (.pointer (some ⟨b, 2, none⟩))))
    (fun _ y => MkOut b B pc off v (l ++ [bareC k pc off]) w y)
    (LinT.of [(0, true), (1, true), (2, true), (3, true), (5, true), (6, true), (7, true), (8, true), (9, true), (10, true), (11, true), (12, true), (13, true), (14, true)] (.two 4 15 (LinT.of [(15, false), (16, false), (17, true), (18, true), (19, false)] .nil) (LinT.of [(4, false), (16, false), (17, true), (18, true), (19, false)] .nil)))
    (by kernel_rfl) (by kernel_rfl) rfl (by kernel_rfl) (fun y => (y.cell? ⟨b, 0, none⟩ = some (.int .i64 pc) ∧ y.cell? ⟨b, 1, none⟩ = some (.int .i64 off)) ∧ True) ?_ ?_
  · simp only [LinT.of, LinT.look, List.getElem?_toArray, List.getElem?_cons_succ, List.getElem?_cons_zero]
    have cL : w.drew.cell? ⟨b, 2, none⟩ = some v := HM.out.bx.cell (k := 2) rfl
    have cL2 : w.cell? ⟨b, 2, none⟩ = some v := HM.out.bx.cell (k := 2) rfl
    have hS0 : (w.drew.cell? ⟨b, 0, none⟩ = some (.int .i64 pc) ∧ w.drew.cell? ⟨b, 1, none⟩ = some (.int .i64 off)) ∧ True := ⟨⟨HM.out.bx.cell (k := 0) rfl, HM.out.bx.cell (k := 1) rfl⟩, trivial⟩
    have HMA : Hid (Mk b B pc off (w.drew.alloc (.cells (celCells (bareC k pc off)).toArray 49)) v l) := HM.out.drew.alloc _
    have cL3 : (w.drew.alloc (.cells (celCells (bareC k pc off)).toArray 49)).cell? ⟨b, 2, none⟩ = some v := HMA.out.bx.cell (k := 2) rfl
    have cL4 : (w.alloc (.cells (celCells (bareC k pc off)).toArray 49)).cell? ⟨b, 2, none⟩ = some v := cL3
    have hS1 : ((w.drew.alloc (.cells (celCells (bareC k pc off)).toArray 49)).cell? ⟨b, 0, none⟩ = some (.int .i64 pc) ∧ (w.drew.alloc (.cells (celCells (bareC k pc off)).toArray 49)).cell? ⟨b, 1, none⟩ = some (.int .i64 off)) ∧ True := ⟨⟨HMA.out.bx.cell (k := 0) rfl, HMA.out.bx.cell (k := 1) rfl⟩, trivial⟩
    iterate 13 (refine tree_take (v := ?_) hS0 (by rfl) ?_ ?_; rotate_left; (intro x hx; (try dsimp only at hx); obtain ⟨⟨hx0, hx1⟩, hx2⟩ := hx; go_simp; try (with_reducible rfl)); (simp only [Act.put, List.setIfInBounds_toArray, List.set_cons_zero, List.set_cons_succ]))
    refine tree_take (v := .agg (celCells (bareC k pc off)).toArray) hS0 (by rfl) (fun x hx => by (try simp only [insV]); go_simp; rfl) ?_
    simp only [Act.put, List.setIfInBounds_toArray, List.set_cons_zero, List.set_cons_succ]
    refine tree_two hS0 (by rfl) (by rfl) (fun K hK => ?_) (fun K hK => ?_)
    · go_simp
      refine hK.out _ _ hS0 (fun _ => ?_)
      clear hK K
      try (simp only [Act.put, List.setIfInBounds_toArray, List.set_cons_zero, List.set_cons_succ])
      refine tree_call hS0 (by rfl) (fun K hK => ?_)
      go_simp
      try rw [fold_cel]
      refine hK.out _ _ hS1 (fun _ => ?_)
      clear hK K
      try (simp only [Act.put, List.setIfInBounds_toArray, List.set_cons_zero, List.set_cons_succ])
      change wpT _ _ _ _ _ _ _ (w.drew.alloc (.cells (celCells (bareC k pc off)).toArray 49))
      refine tree_call hS1 (by rfl) (fun K hK => ?_)
      refine wp_append_new _ (.tmp 8) (.tmp 19) 22 rfl B 49 i0 _ 9 72 Tryz.underlying22 HI.out HZ0.out HZ1.out HZ2.out rfl (by omega) v l.length (flat celCells l) rfl HMA.out.own _ (.slice (some ⟨w.heap.size, 0, none⟩) 1 1) 1 (celCells (bareC k pc off)) rfl (row_new w.drew (celCells (bareC k pc off)) 9 rfl (by omega) _) (celCells_one _) (by unfold maxLen; have := HL.out; omega) (by have := HL.out; omega) HMA.out.hB ?_
      intro v1 y1 hO hg hn
      obtain ⟨hE1, q3, A1, k1, rfl⟩ := HM.out.drew.app (c := bareC k pc off) (W := w) (by exact HBW.out.drew) hO hg hn
      have HE1 := Lib.hid hE1
      have q1 : y1.cell? ⟨b, 2, none⟩ = some v := q3.cell (k := 2) rfl
      have q2 : y1.frozen? ⟨b, 2, none⟩ = false := q3.frozen 2

      have hS2 : (y1.cell? ⟨b, 0, none⟩ = some (.int .i64 pc) ∧ y1.cell? ⟨b, 1, none⟩ = some (.int .i64 off)) ∧ True := ⟨⟨q3.cell (k := 0) rfl, q3.cell (k := 1) rfl⟩, trivial⟩
      clear hO hg hn hE1
      refine hK.out _ _ hS2 (fun _ => ?_)
      clear hK K
      try (simp only [Act.put, List.setIfInBounds_toArray, List.set_cons_zero, List.set_cons_succ])
      iterate 2 (refine tree_take (v := ?_) hS2 (by rfl) ?_ ?_; rotate_left; (intro x hx; (try dsimp only at hx); obtain ⟨⟨hx0, hx1⟩, hx2⟩ := hx; go_simp; try (with_reducible rfl)); (simp only [Act.put, List.setIfInBounds_toArray, List.set_cons_zero, List.set_cons_succ]))
      refine tree_call hS2 (by rfl) (fun K hK => ?_)
      go_simp
      have hS3 : ((y1.setCell ⟨b, 2, none⟩ (.slice A1 (l.length + 1) k1)).cell? ⟨b, 0, none⟩ = some (.int .i64 pc) ∧ (y1.setCell ⟨b, 2, none⟩ (.slice A1 (l.length + 1) k1)).cell? ⟨b, 1, none⟩ = some (.int .i64 off)) ∧ True := ⟨⟨(q3.setCell 2 _).cell (k := 0) rfl, (q3.setCell 2 _).cell (k := 1) rfl⟩, trivial⟩
      refine hK.out _ _ hS3 (fun _ => ?_)
      clear hK K
      exact tree_done ⟨.slice A1 (l.length + 1) k1, rfl, HE1.out⟩
    · go_simp
      try rw [fold_cel]
      refine hK.out _ _ hS1 (fun _ => ?_)
      clear hK K
      change wpT _ _ _ _ _ _ _ (w.drew.alloc (.cells (celCells (bareC k pc off)).toArray 49))
      try (simp only [Act.put, List.setIfInBounds_toArray, List.set_cons_zero, List.set_cons_succ])
      refine tree_call hS1 (by rfl) (fun K hK => ?_)
      go_simp
      refine hK.out _ _ hS1 (fun _ => ?_)
      clear hK K
      try (simp only [Act.put, List.setIfInBounds_toArray, List.set_cons_zero, List.set_cons_succ])
      change wpT _ _ _ _ _ _ _ (w.drew.alloc (.cells (celCells (bareC k pc off)).toArray 49))
      refine tree_call hS1 (by rfl) (fun K hK => ?_)
      refine wp_append_new _ (.tmp 8) (.tmp 19) 22 rfl B 49 i0 _ 9 72 Tryz.underlying22 HI.out HZ0.out HZ1.out HZ2.out rfl (by omega) v l.length (flat celCells l) rfl HMA.out.own _ (.slice (some ⟨w.heap.size, 0, none⟩) 1 1) 1 (celCells (bareC k pc off)) rfl (row_new w.drew (celCells (bareC k pc off)) 9 rfl (by omega) _) (celCells_one _) (by unfold maxLen; have := HL.out; omega) (by have := HL.out; omega) HMA.out.hB ?_
      intro v1 y1 hO hg hn
      obtain ⟨hE1, q3, A1, k1, rfl⟩ := HM.out.drew.app (c := bareC k pc off) (W := w) (by exact HBW.out.drew) hO hg hn
      have HE1 := Lib.hid hE1
      have q1 : y1.cell? ⟨b, 2, none⟩ = some v := q3.cell (k := 2) rfl
      have q2 : y1.frozen? ⟨b, 2, none⟩ = false := q3.frozen 2

      have hS2 : (y1.cell? ⟨b, 0, none⟩ = some (.int .i64 pc) ∧ y1.cell? ⟨b, 1, none⟩ = some (.int .i64 off)) ∧ True := ⟨⟨q3.cell (k := 0) rfl, q3.cell (k := 1) rfl⟩, trivial⟩
      clear hO hg hn hE1
      refine hK.out _ _ hS2 (fun _ => ?_)
      clear hK K
      try (simp only [Act.put, List.setIfInBounds_toArray, List.set_cons_zero, List.set_cons_succ])
      iterate 2 (refine tree_take (v := ?_) hS2 (by rfl) ?_ ?_; rotate_left; (intro x hx; (try dsimp only at hx); obtain ⟨⟨hx0, hx1⟩, hx2⟩ := hx; go_simp; try (with_reducible rfl)); (simp only [Act.put, List.setIfInBounds_toArray, List.set_cons_zero, List.set_cons_succ]))
      refine tree_call hS2 (by rfl) (fun K hK => ?_)
      go_simp
      have hS3 : ((y1.setCell ⟨b, 2, none⟩ (.slice A1 (l.length + 1) k1)).cell? ⟨b, 0, none⟩ = some (.int .i64 pc) ∧ (y1.setCell ⟨b, 2, none⟩ (.slice A1 (l.length + 1) k1)).cell? ⟨b, 1, none⟩ = some (.int .i64 off)) ∧ True := ⟨⟨(q3.setCell 2 _).cell (k := 0) rfl, (q3.setCell 2 _).cell (k := 1) rfl⟩, trivial⟩
      refine hK.out _ _ hS3 (fun _ => ?_)
      clear hK K
      exact tree_done ⟨.slice A1 (l.length + 1) k1, rfl, HE1.out⟩
  intro v2 w2 hE2
  have HE2 := Lib.hid hE2
  clear hE2
  simp only [Act.put, List.setIfInBounds_toArray, List.set_cons_zero, List.set_cons_succ]
  go_wp2_with fail
  first | exact bodyPost_ret (v := .tuple #[]) (by simp [results, Tryz.results76, go_sem]) rfl ⟨rfl, HE2.out⟩ | exact bodyPost_end (v := .tuple #[]) (by simp [results, Tryz.results76, go_sem]) rfl ⟨rfl, HE2.out⟩

set_option maxHeartbeats 4000000 in
theorem mkReg_any {b B : Nat} {pc off : Int} {v : Value} {l : List Cel} (k r : Int) (w : World) (h : Mk b B pc off w v l) (hl : l.length ≤ 100) :
    Calls Tryz.prog 75 #[.pointer (some ⟨b, 0, none⟩), .int .i64 k, .int .i64 r] w fun e w' => e = .returned (.tuple #[]) ∧ MkOut b B pc off v (l ++ [regC k r pc off]) w w' := by
  have HL := Lib.hid hl
  obtain ⟨i0, hi, hz0, hz1, hz2⟩ := info_parts info_cel
  have HI := Lib.hid hi
  have HZ0 := Lib.hid hz0
  have HZ1 := Lib.hid hz1
  have HZ2 := Lib.hid hz2
  clear hi hz0 hz1 hz2
  have HM := Lib.hid h
  have HBW : Hid (Below w.heap.size w w) := Below.refl _ w
  clear h hl
  go_enter Tryz.func75, Tryz.ntmps75
  go_wp2_with fail
  refine region_tree_ex (fun (act : Act) (B' : Value) => ((((((((((((((((((((act.put (some 6) (.pointer (some ⟨b, 0, none⟩))).put (some 7) (.pointer (some ⟨b, 0, none⟩))).put (some 8) (.pointer (some ⟨b, 0, none⟩))).put (some 9) (.pointer (some ⟨b, 2, none⟩))).put (some 10) v).put (some 11) (.int .i64 k)).put (some 12) (.int .i64 r)).put (some 13) (.pointer (some ⟨b, 0, none⟩))).put (some 14) (.pointer (some ⟨b, 0, none⟩))).put (some 15) (.pointer (some ⟨b, 0, none⟩))).put (some 16) (.int .i64 pc)).put (some 17) (.pointer (some ⟨b, 0, none⟩))).put (some 18) (.pointer (some ⟨b, 0, none⟩))).put (some 19) (.pointer (some ⟨b, 1, none⟩))).put (some 20) (.int .i64 off)).put (some 21) (.agg (celCells (regC k r pc off)).toArray)).put (some 22) (.slice (some ⟨w.heap.size, 0, none⟩) 1 1)).put (some 23) B').put (some 24) (.pointer (some ⟨b, 0, none⟩))).put (some 25) (.pointer (some ⟨b, 2, none⟩))))
    (fun _ y => MkOut b B pc off v (l ++ [regC k r pc off]) w y)
    (LinT.of [(0, true), (1, true), (2, true), (3, true), (5, true), (6, true), (7, true), (8, true), (9, true), (10, true), (11, true), (12, true), (13, true), (14, true), (15, true)] (.two 4 16 (LinT.of [(16, false), (17, false), (18, true), (19, true), (20, false)] .nil) (LinT.of [(4, false), (17, false), (18, true), (19, true), (20, false)] .nil)))
    (by kernel_rfl) (by kernel_rfl) rfl (by kernel_rfl) (fun y => (y.cell? ⟨b, 0, none⟩ = some (.int .i64 pc) ∧ y.cell? ⟨b, 1, none⟩ = some (.int .i64 off)) ∧ True) ?_ ?_
  · simp only [LinT.of, LinT.look, List.getElem?_toArray, List.getElem?_cons_succ, List.getElem?_cons_zero]
    have cL : w.drew.cell? ⟨b, 2, none⟩ = some v := HM.out.bx.cell (k := 2) rfl
    have cL2 : w.cell? ⟨b, 2, none⟩ = some v := HM.out.bx.cell (k := 2) rfl
    have hS0 : (w.drew.cell? ⟨b, 0, none⟩ = some (.int .i64 pc) ∧ w.drew.cell? ⟨b, 1, none⟩ = some (.int .i64 off)) ∧ True := ⟨⟨HM.out.bx.cell (k := 0) rfl, HM.out.bx.cell (k := 1) rfl⟩, trivial⟩
    have HMA : Hid (Mk b B pc off (w.drew.alloc (.cells (celCells (regC k r pc off)).toArray 49)) v l) := HM.out.drew.alloc _
    have cL3 : (w.drew.alloc (.cells (celCells (regC k r pc off)).toArray 49)).cell? ⟨b, 2, none⟩ = some v := HMA.out.bx.cell (k := 2) rfl
    have cL4 : (w.alloc (.cells (celCells (regC k r pc off)).toArray 49)).cell? ⟨b, 2, none⟩ = some v := cL3
    have hS1 : ((w.drew.alloc (.cells (celCells (regC k r pc off)).toArray 49)).cell? ⟨b, 0, none⟩ = some (.int .i64 pc) ∧ (w.drew.alloc (.cells (celCells (regC k r pc off)).toArray 49)).cell? ⟨b, 1, none⟩ = some (.int .i64 off)) ∧ True := ⟨⟨HMA.out.bx.cell (k := 0) rfl, HMA.out.bx.cell (k := 1) rfl⟩, trivial⟩
    iterate 14 (refine tree_take (v := ?_) hS0 (by rfl) ?_ ?_; rotate_left; (intro x hx; (try dsimp only at hx); obtain ⟨⟨hx0, hx1⟩, hx2⟩ := hx; go_simp; try (with_reducible rfl)); (simp only [Act.put, List.setIfInBounds_toArray, List.set_cons_zero, List.set_cons_succ]))
    refine tree_take (v := .agg (celCells (regC k r pc off)).toArray) hS0 (by rfl) (fun x hx => by (try simp only [insV]); go_simp; rfl) ?_
    simp only [Act.put, List.setIfInBounds_toArray, List.set_cons_zero, List.set_cons_succ]
    refine tree_two hS0 (by rfl) (by rfl) (fun K hK => ?_) (fun K hK => ?_)
    · go_simp
      refine hK.out _ _ hS0 (fun _ => ?_)
      clear hK K
      try (simp only [Act.put, List.setIfInBounds_toArray, List.set_cons_zero, List.set_cons_succ])
      refine tree_call hS0 (by rfl) (fun K hK => ?_)
      go_simp
      try rw [fold_cel]
      refine hK.out _ _ hS1 (fun _ => ?_)
      clear hK K
      try (simp only [Act.put, List.setIfInBounds_toArray, List.set_cons_zero, List.set_cons_succ])
      change wpT _ _ _ _ _ _ _ (w.drew.alloc (.cells (celCells (regC k r pc off)).toArray 49))
      refine tree_call hS1 (by rfl) (fun K hK => ?_)
      refine wp_append_new _ (.tmp 10) (.tmp 22) 22 rfl B 49 i0 _ 9 72 Tryz.underlying22 HI.out HZ0.out HZ1.out HZ2.out rfl (by omega) v l.length (flat celCells l) rfl HMA.out.own _ (.slice (some ⟨w.heap.size, 0, none⟩) 1 1) 1 (celCells (regC k r pc off)) rfl (row_new w.drew (celCells (regC k r pc off)) 9 rfl (by omega) _) (celCells_one _) (by unfold maxLen; have := HL.out; omega) (by have := HL.out; omega) HMA.out.hB ?_
      intro v1 y1 hO hg hn
      obtain ⟨hE1, q3, A1, k1, rfl⟩ := HM.out.drew.app (c := regC k r pc off) (W := w) (by exact HBW.out.drew) hO hg hn
      have HE1 := Lib.hid hE1
      have q1 : y1.cell? ⟨b, 2, none⟩ = some v := q3.cell (k := 2) rfl
      have q2 : y1.frozen? ⟨b, 2, none⟩ = false := q3.frozen 2

      have hS2 : (y1.cell? ⟨b, 0, none⟩ = some (.int .i64 pc) ∧ y1.cell? ⟨b, 1, none⟩ = some (.int .i64 off)) ∧ True := ⟨⟨q3.cell (k := 0) rfl, q3.cell (k := 1) rfl⟩, trivial⟩
      clear hO hg hn hE1
      refine hK.out _ _ hS2 (fun _ => ?_)
      clear hK K
      try (simp only [Act.put, List.setIfInBounds_toArray, List.set_cons_zero, List.set_cons_succ])
      iterate 2 (refine tree_take (v := ?_) hS2 (by rfl) ?_ ?_; rotate_left; (intro x hx; (try dsimp only at hx); obtain ⟨⟨hx0, hx1⟩, hx2⟩ := hx; go_simp; try (with_reducible rfl)); (simp only [Act.put, List.setIfInBounds_toArray, List.set_cons_zero, List.set_cons_succ]))
      refine tree_call hS2 (by rfl) (fun K hK => ?_)
      go_simp
      have hS3 : ((y1.setCell ⟨b, 2, none⟩ (.slice A1 (l.length + 1) k1)).cell? ⟨b, 0, none⟩ = some (.int .i64 pc) ∧ (y1.setCell ⟨b, 2, none⟩ (.slice A1 (l.length + 1) k1)).cell? ⟨b, 1, none⟩ = some (.int .i64 off)) ∧ True := ⟨⟨(q3.setCell 2 _).cell (k := 0) rfl, (q3.setCell 2 _).cell (k := 1) rfl⟩, trivial⟩
      refine hK.out _ _ hS3 (fun _ => ?_)
      clear hK K
      exact tree_done ⟨.slice A1 (l.length + 1) k1, rfl, HE1.out⟩
    · go_simp
      try rw [fold_cel]
      refine hK.out _ _ hS1 (fun _ => ?_)
      clear hK K
      change wpT _ _ _ _ _ _ _ (w.drew.alloc (.cells (celCells (regC k r pc off)).toArray 49))
      try (simp only [Act.put, List.setIfInBounds_toArray, List.set_cons_zero, List.set_cons_succ])
      refine tree_call hS1 (by rfl) (fun K hK => ?_)
      go_simp
      refine hK.out _ _ hS1 (fun _ => ?_)
      clear hK K
      try (simp only [Act.put, List.setIfInBounds_toArray, List.set_cons_zero, List.set_cons_succ])
      change wpT _ _ _ _ _ _ _ (w.drew.alloc (.cells (celCells (regC k r pc off)).toArray 49))
      refine tree_call hS1 (by rfl) (fun K hK => ?_)
      refine wp_append_new _ (.tmp 10) (.tmp 22) 22 rfl B 49 i0 _ 9 72 Tryz.underlying22 HI.out HZ0.out HZ1.out HZ2.out rfl (by omega) v l.length (flat celCells l) rfl HMA.out.own _ (.slice (some ⟨w.heap.size, 0, none⟩) 1 1) 1 (celCells (regC k r pc off)) rfl (row_new w.drew (celCells (regC k r pc off)) 9 rfl (by omega) _) (celCells_one _) (by unfold maxLen; have := HL.out; omega) (by have := HL.out; omega) HMA.out.hB ?_
      intro v1 y1 hO hg hn
      obtain ⟨hE1, q3, A1, k1, rfl⟩ := HM.out.drew.app (c := regC k r pc off) (W := w) (by exact HBW.out.drew) hO hg hn
      have HE1 := Lib.hid hE1
      have q1 : y1.cell? ⟨b, 2, none⟩ = some v := q3.cell (k := 2) rfl
      have q2 : y1.frozen? ⟨b, 2, none⟩ = false := q3.frozen 2

      have hS2 : (y1.cell? ⟨b, 0, none⟩ = some (.int .i64 pc) ∧ y1.cell? ⟨b, 1, none⟩ = some (.int .i64 off)) ∧ True := ⟨⟨q3.cell (k := 0) rfl, q3.cell (k := 1) rfl⟩, trivial⟩
      clear hO hg hn hE1
      refine hK.out _ _ hS2 (fun _ => ?_)
      clear hK K
      try (simp only [Act.put, List.setIfInBounds_toArray, List.set_cons_zero, List.set_cons_succ])
      iterate 2 (refine tree_take (v := ?_) hS2 (by rfl) ?_ ?_; rotate_left; (intro x hx; (try dsimp only at hx); obtain ⟨⟨hx0, hx1⟩, hx2⟩ := hx; go_simp; try (with_reducible rfl)); (simp only [Act.put, List.setIfInBounds_toArray, List.set_cons_zero, List.set_cons_succ]))
      refine tree_call hS2 (by rfl) (fun K hK => ?_)
      go_simp
      have hS3 : ((y1.setCell ⟨b, 2, none⟩ (.slice A1 (l.length + 1) k1)).cell? ⟨b, 0, none⟩ = some (.int .i64 pc) ∧ (y1.setCell ⟨b, 2, none⟩ (.slice A1 (l.length + 1) k1)).cell? ⟨b, 1, none⟩ = some (.int .i64 off)) ∧ True := ⟨⟨(q3.setCell 2 _).cell (k := 0) rfl, (q3.setCell 2 _).cell (k := 1) rfl⟩, trivial⟩
      refine hK.out _ _ hS3 (fun _ => ?_)
      clear hK K
      exact tree_done ⟨.slice A1 (l.length + 1) k1, rfl, HE1.out⟩
  intro v2 w2 hE2
  have HE2 := Lib.hid hE2
  clear hE2
  simp only [Act.put, List.setIfInBounds_toArray, List.set_cons_zero, List.set_cons_succ]
  go_wp2_with fail
  first | exact bodyPost_ret (v := .tuple #[]) (by simp [results, Tryz.results75, go_sem]) rfl ⟨rfl, HE2.out⟩ | exact bodyPost_end (v := .tuple #[]) (by simp [results, Tryz.results75, go_sem]) rfl ⟨rfl, HE2.out⟩

set_option maxHeartbeats 4000000 in
theorem mkIns_any {b B : Nat} {pc off : Int} {v : Value} {l : List Cel} (k : Int) (i : Ins) (w : World) (h : Mk b B pc off w v l) (hl : l.length ≤ 100) :
    Calls Tryz.prog 71 #[.pointer (some ⟨b, 0, none⟩), .int .i64 k, .agg #[.int .i64 i.op, .int .i64 i.d, .int .i64 i.a, .int .i64 i.b, .int .i64 i.imm]] w fun e w' => e = .returned (.tuple #[]) ∧ MkOut b B pc off v (l ++ [insC k i pc off]) w w' := by
  have HL := Lib.hid hl
  obtain ⟨i0, hi, hz0, hz1, hz2⟩ := info_parts info_cel
  have HI := Lib.hid hi
  have HZ0 := Lib.hid hz0
  have HZ1 := Lib.hid hz1
  have HZ2 := Lib.hid hz2
  clear hi hz0 hz1 hz2
  obtain ⟨w1, hw1⟩ : ∃ w1, w1 = w.alloc (.cells (insV i).toArray 44) := ⟨_, rfl⟩
  have HM : Hid (Mk b B pc off w1 v l) := by rw [hw1]; exact h.alloc _
  have HX : Hid (Box w1 w.heap.size (insV i)) := by rw [hw1]; exact Box.new w _ _
  have HBW : Hid (Below w.heap.size w w1) := by rw [hw1]; exact (Below.refl _ w).alloc (Nat.le_refl _) _
  have HBN : Hid (b < w.heap.size) := h.lt
  have HON : Hid (∀ g, v.ownBlock = some g → g < w.heap.size) := fun g e => (h.own.lt g e).2
  clear h hl
  go_enter Tryz.func71, Tryz.ntmps71
  go_wp2_with fail
  change Code.wp _ _ _ _ (w.alloc (.cells (insV i).toArray 44))
  rw [← hw1]
  clear hw1
  refine region_tree_ex (fun (act : Act) (B' : Value) => ((((((((((((((((((((act.put (some 6) (.pointer (some ⟨b, 0, none⟩))).put (some 7) (.pointer (some ⟨b, 0, none⟩))).put (some 8) (.pointer (some ⟨b, 0, none⟩))).put (some 9) (.pointer (some ⟨b, 2, none⟩))).put (some 10) v).put (some 11) (.int .i64 k)).put (some 12) (.agg (insV i).toArray)).put (some 13) (.pointer (some ⟨b, 0, none⟩))).put (some 14) (.pointer (some ⟨b, 0, none⟩))).put (some 15) (.pointer (some ⟨b, 0, none⟩))).put (some 16) (.int .i64 pc)).put (some 17) (.pointer (some ⟨b, 0, none⟩))).put (some 18) (.pointer (some ⟨b, 0, none⟩))).put (some 19) (.pointer (some ⟨b, 1, none⟩))).put (some 20) (.int .i64 off)).put (some 21) (.agg (celCells (insC k i pc off)).toArray)).put (some 22) (.slice (some ⟨w1.heap.size, 0, none⟩) 1 1)).put (some 23) B').put (some 24) (.pointer (some ⟨b, 0, none⟩))).put (some 25) (.pointer (some ⟨b, 2, none⟩))))
    (fun _ y => MkOut b B pc off v (l ++ [insC k i pc off]) w y)
    (LinT.of [(0, true), (1, true), (2, true), (3, true), (5, true), (6, true), (7, true), (8, true), (9, true), (10, true), (11, true), (12, true), (13, true), (14, true), (15, true)] (.two 4 16 (LinT.of [(16, false), (17, false), (18, true), (19, true), (20, false)] .nil) (LinT.of [(4, false), (17, false), (18, true), (19, true), (20, false)] .nil)))
    (by kernel_rfl) (by kernel_rfl) rfl (by kernel_rfl) (fun y => (y.cell? ⟨b, 0, none⟩ = some (.int .i64 pc) ∧ y.cell? ⟨b, 1, none⟩ = some (.int .i64 off)) ∧ Box y w.heap.size (insV i)) ?_ ?_
  · simp only [LinT.of, LinT.look, List.getElem?_toArray, List.getElem?_cons_succ, List.getElem?_cons_zero]
    have cL : w1.drew.cell? ⟨b, 2, none⟩ = some v := HM.out.bx.cell (k := 2) rfl
    have cL2 : w1.cell? ⟨b, 2, none⟩ = some v := HM.out.bx.cell (k := 2) rfl
    have hS0 : (w1.drew.cell? ⟨b, 0, none⟩ = some (.int .i64 pc) ∧ w1.drew.cell? ⟨b, 1, none⟩ = some (.int .i64 off)) ∧ Box w1.drew w.heap.size (insV i) := ⟨⟨HM.out.bx.cell (k := 0) rfl, HM.out.bx.cell (k := 1) rfl⟩, HX.out.drew⟩
    have HMA : Hid (Mk b B pc off (w1.drew.alloc (.cells (celCells (insC k i pc off)).toArray 49)) v l) := HM.out.drew.alloc _
    have cL3 : (w1.drew.alloc (.cells (celCells (insC k i pc off)).toArray 49)).cell? ⟨b, 2, none⟩ = some v := HMA.out.bx.cell (k := 2) rfl
    have cL4 : (w1.alloc (.cells (celCells (insC k i pc off)).toArray 49)).cell? ⟨b, 2, none⟩ = some v := cL3
    have hS1 : ((w1.drew.alloc (.cells (celCells (insC k i pc off)).toArray 49)).cell? ⟨b, 0, none⟩ = some (.int .i64 pc) ∧ (w1.drew.alloc (.cells (celCells (insC k i pc off)).toArray 49)).cell? ⟨b, 1, none⟩ = some (.int .i64 off)) ∧ Box (w1.drew.alloc (.cells (celCells (insC k i pc off)).toArray 49)) w.heap.size (insV i) := ⟨⟨HMA.out.bx.cell (k := 0) rfl, HMA.out.bx.cell (k := 1) rfl⟩, HX.out.drew.alloc _⟩
    iterate 5 (refine tree_take (v := ?_) hS0 (by rfl) ?_ ?_; rotate_left; (intro x hx; (try dsimp only at hx); obtain ⟨⟨hx0, hx1⟩, hx2⟩ := hx; go_simp; try (with_reducible rfl)); (simp only [Act.put, List.setIfInBounds_toArray, List.set_cons_zero, List.set_cons_succ]))
    refine tree_load_ex hS0 (by rfl) 44 (.tmp 5) rfl w.heap.size 0 rfl (insV i) (insV i) (fun y hy => hy.2) whole_at _ Tryz.underlying44 rfl 5 size_ins5 rfl ?_
    simp only [Act.put, List.setIfInBounds_toArray, List.set_cons_zero, List.set_cons_succ]
    iterate 8 (refine tree_take (v := ?_) hS0 (by rfl) ?_ ?_; rotate_left; (intro x hx; (try dsimp only at hx); obtain ⟨⟨hx0, hx1⟩, hx2⟩ := hx; go_simp; try (with_reducible rfl)); (simp only [Act.put, List.setIfInBounds_toArray, List.set_cons_zero, List.set_cons_succ]))
    refine tree_take (v := .agg (celCells (insC k i pc off)).toArray) hS0 (by rfl) (fun x hx => by (try simp only [insV]); go_simp; rfl) ?_
    simp only [Act.put, List.setIfInBounds_toArray, List.set_cons_zero, List.set_cons_succ]
    refine tree_two hS0 (by rfl) (by rfl) (fun K hK => ?_) (fun K hK => ?_)
    · go_simp
      refine hK.out _ _ hS0 (fun _ => ?_)
      clear hK K
      try (simp only [Act.put, List.setIfInBounds_toArray, List.set_cons_zero, List.set_cons_succ])
      refine tree_call hS0 (by rfl) (fun K hK => ?_)
      go_simp
      try rw [fold_cel]
      refine hK.out _ _ hS1 (fun _ => ?_)
      clear hK K
      try (simp only [Act.put, List.setIfInBounds_toArray, List.set_cons_zero, List.set_cons_succ])
      change wpT _ _ _ _ _ _ _ (w1.drew.alloc (.cells (celCells (insC k i pc off)).toArray 49))
      refine tree_call hS1 (by rfl) (fun K hK => ?_)
      refine wp_append_new _ (.tmp 10) (.tmp 22) 22 rfl B 49 i0 _ 9 72 Tryz.underlying22 HI.out HZ0.out HZ1.out HZ2.out rfl (by omega) v l.length (flat celCells l) rfl HMA.out.own _ (.slice (some ⟨w1.heap.size, 0, none⟩) 1 1) 1 (celCells (insC k i pc off)) rfl (row_new w1.drew (celCells (insC k i pc off)) 9 rfl (by omega) _) (celCells_one _) (by unfold maxLen; have := HL.out; omega) (by have := HL.out; omega) HMA.out.hB ?_
      intro v1 y1 hO hg hn
      obtain ⟨hE1, q3, A1, k1, rfl⟩ := HM.out.drew.app (c := insC k i pc off) (W := w) (by exact HBW.out.drew) hO hg hn
      have HE1 := Lib.hid hE1
      have q1 : y1.cell? ⟨b, 2, none⟩ = some v := q3.cell (k := 2) rfl
      have q2 : y1.frozen? ⟨b, 2, none⟩ = false := q3.frozen 2
      have HX2 := Lib.hid ((HX.out.drew.alloc _).grown hg (fun e => by have := HON.out _ e.symm; omega))
      have hS2 : (y1.cell? ⟨b, 0, none⟩ = some (.int .i64 pc) ∧ y1.cell? ⟨b, 1, none⟩ = some (.int .i64 off)) ∧ Box y1 w.heap.size (insV i) := ⟨⟨q3.cell (k := 0) rfl, q3.cell (k := 1) rfl⟩, HX2.out⟩
      clear hO hg hn hE1
      refine hK.out _ _ hS2 (fun _ => ?_)
      clear hK K
      try (simp only [Act.put, List.setIfInBounds_toArray, List.set_cons_zero, List.set_cons_succ])
      iterate 2 (refine tree_take (v := ?_) hS2 (by rfl) ?_ ?_; rotate_left; (intro x hx; (try dsimp only at hx); obtain ⟨⟨hx0, hx1⟩, hx2⟩ := hx; go_simp; try (with_reducible rfl)); (simp only [Act.put, List.setIfInBounds_toArray, List.set_cons_zero, List.set_cons_succ]))
      refine tree_call hS2 (by rfl) (fun K hK => ?_)
      go_simp
      have hS3 : ((y1.setCell ⟨b, 2, none⟩ (.slice A1 (l.length + 1) k1)).cell? ⟨b, 0, none⟩ = some (.int .i64 pc) ∧ (y1.setCell ⟨b, 2, none⟩ (.slice A1 (l.length + 1) k1)).cell? ⟨b, 1, none⟩ = some (.int .i64 off)) ∧ Box (y1.setCell ⟨b, 2, none⟩ (.slice A1 (l.length + 1) k1)) w.heap.size (insV i) := ⟨⟨(q3.setCell 2 _).cell (k := 0) rfl, (q3.setCell 2 _).cell (k := 1) rfl⟩, HX2.out.setCell_other (Nat.ne_of_gt HBN.out) _ _⟩
      refine hK.out _ _ hS3 (fun _ => ?_)
      clear hK K
      exact tree_done ⟨.slice A1 (l.length + 1) k1, rfl, HE1.out⟩
    · go_simp
      try rw [fold_cel]
      refine hK.out _ _ hS1 (fun _ => ?_)
      clear hK K
      change wpT _ _ _ _ _ _ _ (w1.drew.alloc (.cells (celCells (insC k i pc off)).toArray 49))
      try (simp only [Act.put, List.setIfInBounds_toArray, List.set_cons_zero, List.set_cons_succ])
      refine tree_call hS1 (by rfl) (fun K hK => ?_)
      go_simp
      refine hK.out _ _ hS1 (fun _ => ?_)
      clear hK K
      try (simp only [Act.put, List.setIfInBounds_toArray, List.set_cons_zero, List.set_cons_succ])
      change wpT _ _ _ _ _ _ _ (w1.drew.alloc (.cells (celCells (insC k i pc off)).toArray 49))
      refine tree_call hS1 (by rfl) (fun K hK => ?_)
      refine wp_append_new _ (.tmp 10) (.tmp 22) 22 rfl B 49 i0 _ 9 72 Tryz.underlying22 HI.out HZ0.out HZ1.out HZ2.out rfl (by omega) v l.length (flat celCells l) rfl HMA.out.own _ (.slice (some ⟨w1.heap.size, 0, none⟩) 1 1) 1 (celCells (insC k i pc off)) rfl (row_new w1.drew (celCells (insC k i pc off)) 9 rfl (by omega) _) (celCells_one _) (by unfold maxLen; have := HL.out; omega) (by have := HL.out; omega) HMA.out.hB ?_
      intro v1 y1 hO hg hn
      obtain ⟨hE1, q3, A1, k1, rfl⟩ := HM.out.drew.app (c := insC k i pc off) (W := w) (by exact HBW.out.drew) hO hg hn
      have HE1 := Lib.hid hE1
      have q1 : y1.cell? ⟨b, 2, none⟩ = some v := q3.cell (k := 2) rfl
      have q2 : y1.frozen? ⟨b, 2, none⟩ = false := q3.frozen 2
      have HX2 := Lib.hid ((HX.out.drew.alloc _).grown hg (fun e => by have := HON.out _ e.symm; omega))
      have hS2 : (y1.cell? ⟨b, 0, none⟩ = some (.int .i64 pc) ∧ y1.cell? ⟨b, 1, none⟩ = some (.int .i64 off)) ∧ Box y1 w.heap.size (insV i) := ⟨⟨q3.cell (k := 0) rfl, q3.cell (k := 1) rfl⟩, HX2.out⟩
      clear hO hg hn hE1
      refine hK.out _ _ hS2 (fun _ => ?_)
      clear hK K
      try (simp only [Act.put, List.setIfInBounds_toArray, List.set_cons_zero, List.set_cons_succ])
      iterate 2 (refine tree_take (v := ?_) hS2 (by rfl) ?_ ?_; rotate_left; (intro x hx; (try dsimp only at hx); obtain ⟨⟨hx0, hx1⟩, hx2⟩ := hx; go_simp; try (with_reducible rfl)); (simp only [Act.put, List.setIfInBounds_toArray, List.set_cons_zero, List.set_cons_succ]))
      refine tree_call hS2 (by rfl) (fun K hK => ?_)
      go_simp
      have hS3 : ((y1.setCell ⟨b, 2, none⟩ (.slice A1 (l.length + 1) k1)).cell? ⟨b, 0, none⟩ = some (.int .i64 pc) ∧ (y1.setCell ⟨b, 2, none⟩ (.slice A1 (l.length + 1) k1)).cell? ⟨b, 1, none⟩ = some (.int .i64 off)) ∧ Box (y1.setCell ⟨b, 2, none⟩ (.slice A1 (l.length + 1) k1)) w.heap.size (insV i) := ⟨⟨(q3.setCell 2 _).cell (k := 0) rfl, (q3.setCell 2 _).cell (k := 1) rfl⟩, HX2.out.setCell_other (Nat.ne_of_gt HBN.out) _ _⟩
      refine hK.out _ _ hS3 (fun _ => ?_)
      clear hK K
      exact tree_done ⟨.slice A1 (l.length + 1) k1, rfl, HE1.out⟩
  intro v2 w2 hE2
  have HE2 := Lib.hid hE2
  clear hE2
  simp only [Act.put, List.setIfInBounds_toArray, List.set_cons_zero, List.set_cons_succ]
  go_wp2_with fail
  first | exact bodyPost_ret (v := .tuple #[]) (by simp [results, Tryz.results71, go_sem]) rfl ⟨rfl, HE2.out⟩ | exact bodyPost_end (v := .tuple #[]) (by simp [results, Tryz.results71, go_sem]) rfl ⟨rfl, HE2.out⟩

end Go.Proofs.YteagglddgkjkmaaGreat.Words

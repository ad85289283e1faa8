/- The document's own maker of cells: its block, and contracts of ins, reg, plain, regs. -/
import Derived.Test.YtcaibahniheohaaEmtCall
namespace Go.Proofs.Ytcaibahniheohaa.Words
set_option maxRecDepth 100000
open Go.RowKit
set_option linter.unusedVariables false
set_option linter.unusedSimpArgs false

/-- A maker in block b, its cells in a row of the call's own behind B. -/
structure Mk (b B : Nat) (pc off : Int) (Z : World) (v : Value) (l : List Cel) : Prop where
  bx : Box Z b [.int .i64 pc, .int .i64 off, v]
  own : Z.ownsRow B 36 9 v l.length (flat celCells l)
  hb : b < B
  hB : B ≤ Z.heap.size
section
variable {b B : Nat} {pc off : Int} {Z Y : World} {v v' : Value} {l : List Cel}
theorem Mk.lt (h : Mk b B pc off Z v l) : b < Z.heap.size := h.bx.lt
theorem Mk.keepS {T : Nat → Prop} (h : Mk b B pc off Z v l) (hS : KeepS T Z Y) (hs : ¬ T b) (ho : ∀ g, v.ownBlock = some g → ¬ T g) : Mk b B pc off Y v l :=
  ⟨h.bx.keepS hS hs, own_keepS h.own hS ho, h.hb, Nat.le_trans h.hB hS.size⟩
theorem Mk.below (h : Mk b B pc off Z v l) (hb : Below Z.heap.size Z Y) : Mk b B pc off Y v l := h.keepS (KeepS.of_below (S := fun _ => False) hb) (fun e => e) (fun _ _ e => e)
theorem Mk.alloc (h : Mk b B pc off Z v l) (o : Obj) : Mk b B pc off (Z.alloc o) v l := h.below ((Below.refl _ _).alloc (Nat.le_refl _) o)
theorem Mk.drew (h : Mk b B pc off Z v l) : Mk b B pc off Z.drew v l := h.below (Below.refl _ _).drew
/-- What a step of the maker leaves. -/
def MkOut (b B : Nat) (pc off : Int) (v : Value) (l : List Cel) (w w' : World) : Prop :=
  ∃ v', Mk b B pc off w' v' l ∧ KeepS (fun j => j = b ∨ v.ownBlock = some j) w w' ∧ (∀ g, v'.ownBlock = some g → v.ownBlock = some g ∨ w.heap.size ≤ g)
theorem Mk.app {W : World} (h : Mk b B pc off Z v l) (hW : Below W.heap.size W Z) {o : Obj} {c : Cel} (hO : Y.ownsRow B 36 9 v' (l.length + 1) (flat celCells l ++ celCells c)) (hg : (Z.alloc o).grownBy Y v.ownBlock)
    (hn : ∀ g, v'.ownBlock = some g → v.ownBlock = some g ∨ (Z.alloc o).heap.size ≤ g) :
    MkOut b B pc off v (l ++ [c]) W (Y.setCell ⟨b, 2, none⟩ v') ∧ Box Y b [.int .i64 pc, .int .i64 off, v] ∧ ∃ A k, v' = .slice A (l.length + 1) k := by
  have h1 := h.lt
  have ha := h.alloc o
  have hob : ∀ g, v.ownBlock = some g → b < g := fun g hg => by have := (h.own.lt g hg).1; have := h.hb; omega
  have kg : KeepS (fun j => v.ownBlock = some j) (Z.alloc o) Y := KeepS.of_grown hg (fun g e => e)
  have kb : KeepS (fun j => j = b) Y (Y.setCell ⟨b, 2, none⟩ v') := (KeepS.refl (fun j => j = b) Y).setCell rfl 2 _
  have hby : Box Y b [.int .i64 pc, .int .i64 off, v] := ha.bx.keepS kg (fun e => Nat.lt_irrefl _ (hob b e))
  have hne' : v'.ownBlock ≠ some b := fun e => by have := (hO.lt _ e).1; have := h.hb; omega
  have k1 : KeepS (fun j => j = b ∨ v.ownBlock = some j) W (Y.setCell ⟨b, 2, none⟩ v') :=
    (((KeepS.of_below (S := fun j => j = b ∨ v.ownBlock = some j) hW).alloc o).trans (kg.mono (fun k e => .inr e))).trans (kb.mono (fun k e => .inl e))
  refine ⟨⟨v', ⟨hby.setCell 2 v', ?_, h.hb, Nat.le_trans ha.hB (Nat.le_trans kg.size kb.size)⟩, k1, ?_⟩, hby, ?_⟩
  · rw [List.length_append, ← flat_snocL]
    exact ownsRow_setCell_other hO hne' _
  · intro g hg1
    rcases hn g hg1 with e | e
    · exact .inl e
    · exact .inr (Nat.le_trans hW.size (Nat.le_trans (by simp) e))
  · obtain ⟨A, k, e⟩ := (Row.of_own hO).form
    exact ⟨A, k, e⟩
end

set_option maxHeartbeats 4000000 in
theorem mkPlain_any {b B : Nat} {pc off : Int} {v : Value} {l : List Cel} (k : Int) (w : World) (h : Mk b B pc off w v l) (hl : l.length ≤ 100) :
    Calls Try.prog 25 #[.pointer (some ⟨b, 0, none⟩), .int .i64 k] w fun e w' => e = .returned (.tuple #[]) ∧ MkOut b B pc off v (l ++ [bareC k pc off]) w w' := by
  have HL := Lib.hid hl
  obtain ⟨i0, hi, hz0, hz1, hz2⟩ := info_parts info_cel
  have HI := Lib.hid hi
  have HZ0 := Lib.hid hz0
  have HZ1 := Lib.hid hz1
  have HZ2 := Lib.hid hz2
  clear hi hz0 hz1 hz2
  have HM := Lib.hid h
  have HBW : Hid (Below w.heap.size w w) := Below.refl _ w
  clear h hl
  go_enter Try.func25, Try.ntmps25
  go_wp2_with fail
  refine region_tree_ex (fun (act : Act) (B' : Value) => (((((((((((((((((((act.put (some 4) (.pointer (some ⟨b, 0, none⟩))).put (some 5) (.pointer (some ⟨b, 0, none⟩))).put (some 6) (.pointer (some ⟨b, 0, none⟩))).put (some 7) (.pointer (some ⟨b, 2, none⟩))).put (some 8) v).put (some 9) (.int .i64 k)).put (some 10) (.pointer (some ⟨b, 0, none⟩))).put (some 11) (.pointer (some ⟨b, 0, none⟩))).put (some 12) (.pointer (some ⟨b, 0, none⟩))).put (some 13) (.int .i64 pc)).put (some 14) (.pointer (some ⟨b, 0, none⟩))).put (some 15) (.pointer (some ⟨b, 0, none⟩))).put (some 16) (.pointer (some ⟨b, 1, none⟩))).put (some 17) (.int .i64 off)).put (some 18) (.agg (celCells (bareC k pc off)).toArray)).put (some 19) (.slice (some ⟨w.heap.size, 0, none⟩) 1 1)).put (some 20) B').put (some 21) (.pointer (some ⟨b, 0, none⟩))).put (some 22) (.pointer (some ⟨b, 2, none⟩))))
    (fun _ y => MkOut b B pc off v (l ++ [bareC k pc off]) w y)
    (LinT.of [(0, true), (1, true), (2, true), (3, true), (5, true), (6, true), (7, true), (8, true), (9, true), (10, true), (11, true), (12, true), (13, true), (14, true)] (.two 4 15 (LinT.of [(15, false), (16, false), (17, true), (18, true), (19, false)] .nil) (LinT.of [(4, false), (16, false), (17, true), (18, true), (19, false)] .nil)))
    (by kernel_rfl) (by kernel_rfl) rfl (by kernel_rfl) (fun y => (y.cell? ⟨b, 0, none⟩ = some (.int .i64 pc) ∧ y.cell? ⟨b, 1, none⟩ = some (.int .i64 off)) ∧ True) ?_ ?_
  · simp only [LinT.of, LinT.look, List.getElem?_toArray, List.getElem?_cons_succ, List.getElem?_cons_zero]
    have cL : w.drew.cell? ⟨b, 2, none⟩ = some v := HM.out.bx.cell (k := 2) rfl
    have cL2 : w.cell? ⟨b, 2, none⟩ = some v := HM.out.bx.cell (k := 2) rfl
    have hS0 : (w.drew.cell? ⟨b, 0, none⟩ = some (.int .i64 pc) ∧ w.drew.cell? ⟨b, 1, none⟩ = some (.int .i64 off)) ∧ True := ⟨⟨HM.out.bx.cell (k := 0) rfl, HM.out.bx.cell (k := 1) rfl⟩, trivial⟩
    have HMA : Hid (Mk b B pc off (w.drew.alloc (.cells (celCells (bareC k pc off)).toArray 36)) v l) := HM.out.drew.alloc _
    have cL3 : (w.drew.alloc (.cells (celCells (bareC k pc off)).toArray 36)).cell? ⟨b, 2, none⟩ = some v := HMA.out.bx.cell (k := 2) rfl
    have cL4 : (w.alloc (.cells (celCells (bareC k pc off)).toArray 36)).cell? ⟨b, 2, none⟩ = some v := cL3
    have hS1 : ((w.drew.alloc (.cells (celCells (bareC k pc off)).toArray 36)).cell? ⟨b, 0, none⟩ = some (.int .i64 pc) ∧ (w.drew.alloc (.cells (celCells (bareC k pc off)).toArray 36)).cell? ⟨b, 1, none⟩ = some (.int .i64 off)) ∧ True := ⟨⟨HMA.out.bx.cell (k := 0) rfl, HMA.out.bx.cell (k := 1) rfl⟩, trivial⟩
    iterate 13 (refine tree_take (v := ?_) hS0 (by rfl) ?_ ?_; rotate_left; (intro x hx; (try dsimp only at hx); obtain ⟨⟨hx0, hx1⟩, hx2⟩ := hx; go_simp; try (with_reducible rfl)); (simp only [Act.put, List.setIfInBounds_toArray, List.set_cons_zero, List.set_cons_succ]))
    refine tree_take (v := .agg (celCells (bareC k pc off)).toArray) hS0 (by rfl) (fun x hx => by (try simp only [insV]); go_simp; rfl) ?_
    simp only [Act.put, List.setIfInBounds_toArray, List.set_cons_zero, List.set_cons_succ]
    refine tree_two hS0 (by rfl) (by rfl) (fun K hK => ?_) (fun K hK => ?_)
    · go_simp
      refine hK.out _ _ hS0 (fun _ => ?_)
      clear hK K
      try (simp only [Act.put, List.setIfInBounds_toArray, List.set_cons_zero, List.set_cons_succ])
      refine tree_call hS0 (by rfl) (fun K hK => ?_)
      go_simp
      try rw [fold_cel]
      refine hK.out _ _ hS1 (fun _ => ?_)
      clear hK K
      try (simp only [Act.put, List.setIfInBounds_toArray, List.set_cons_zero, List.set_cons_succ])
      change wpT _ _ _ _ _ _ _ (w.drew.alloc (.cells (celCells (bareC k pc off)).toArray 36))
      refine tree_call hS1 (by rfl) (fun K hK => ?_)
      refine wp_append_new _ (.tmp 8) (.tmp 19) 26 rfl B 36 i0 _ 9 72 Try.underlying26 HI.out HZ0.out HZ1.out HZ2.out rfl (by omega) v l.length (flat celCells l) rfl HMA.out.own _ (.slice (some ⟨w.heap.size, 0, none⟩) 1 1) 1 (celCells (bareC k pc off)) rfl (row_new w.drew (celCells (bareC k pc off)) 9 rfl (by omega) _) (celCells_one _) (by unfold maxLen; have := HL.out; omega) (by have := HL.out; omega) HMA.out.hB ?_
      intro v1 y1 hO hg hn
      obtain ⟨hE1, q3, A1, k1, rfl⟩ := HM.out.drew.app (c := bareC k pc off) (W := w) (by exact HBW.out.drew) hO hg hn
      have HE1 := Lib.hid hE1
      have q1 : y1.cell? ⟨b, 2, none⟩ = some v := q3.cell (k := 2) rfl
      have q2 : y1.frozen? ⟨b, 2, none⟩ = false := q3.frozen 2

      have hS2 : (y1.cell? ⟨b, 0, none⟩ = some (.int .i64 pc) ∧ y1.cell? ⟨b, 1, none⟩ = some (.int .i64 off)) ∧ True := ⟨⟨q3.cell (k := 0) rfl, q3.cell (k := 1) rfl⟩, trivial⟩
      clear hO hg hn hE1
      refine hK.out _ _ hS2 (fun _ => ?_)
      clear hK K
      try (simp only [Act.put, List.setIfInBounds_toArray, List.set_cons_zero, List.set_cons_succ])
      iterate 2 (refine tree_take (v := ?_) hS2 (by rfl) ?_ ?_; rotate_left; (intro x hx; (try dsimp only at hx); obtain ⟨⟨hx0, hx1⟩, hx2⟩ := hx; go_simp; try (with_reducible rfl)); (simp only [Act.put, List.setIfInBounds_toArray, List.set_cons_zero, List.set_cons_succ]))
      refine tree_call hS2 (by rfl) (fun K hK => ?_)
      go_simp
      have hS3 : ((y1.setCell ⟨b, 2, none⟩ (.slice A1 (l.length + 1) k1)).cell? ⟨b, 0, none⟩ = some (.int .i64 pc) ∧ (y1.setCell ⟨b, 2, none⟩ (.slice A1 (l.length + 1) k1)).cell? ⟨b, 1, none⟩ = some (.int .i64 off)) ∧ True := ⟨⟨(q3.setCell 2 _).cell (k := 0) rfl, (q3.setCell 2 _).cell (k := 1) rfl⟩, trivial⟩
      refine hK.out _ _ hS3 (fun _ => ?_)
      clear hK K
      exact tree_done ⟨.slice A1 (l.length + 1) k1, rfl, HE1.out⟩
    · go_simp
      try rw [fold_cel]
      refine hK.out _ _ hS1 (fun _ => ?_)
      clear hK K
      change wpT _ _ _ _ _ _ _ (w.drew.alloc (.cells (celCells (bareC k pc off)).toArray 36))
      try (simp only [Act.put, List.setIfInBounds_toArray, List.set_cons_zero, List.set_cons_succ])
      refine tree_call hS1 (by rfl) (fun K hK => ?_)
      go_simp
      refine hK.out _ _ hS1 (fun _ => ?_)
      clear hK K
      try (simp only [Act.put, List.setIfInBounds_toArray, List.set_cons_zero, List.set_cons_succ])
      change wpT _ _ _ _ _ _ _ (w.drew.alloc (.cells (celCells (bareC k pc off)).toArray 36))
      refine tree_call hS1 (by rfl) (fun K hK => ?_)
      refine wp_append_new _ (.tmp 8) (.tmp 19) 26 rfl B 36 i0 _ 9 72 Try.underlying26 HI.out HZ0.out HZ1.out HZ2.out rfl (by omega) v l.length (flat celCells l) rfl HMA.out.own _ (.slice (some ⟨w.heap.size, 0, none⟩) 1 1) 1 (celCells (bareC k pc off)) rfl (row_new w.drew (celCells (bareC k pc off)) 9 rfl (by omega) _) (celCells_one _) (by unfold maxLen; have := HL.out; omega) (by have := HL.out; omega) HMA.out.hB ?_
      intro v1 y1 hO hg hn
      obtain ⟨hE1, q3, A1, k1, rfl⟩ := HM.out.drew.app (c := bareC k pc off) (W := w) (by exact HBW.out.drew) hO hg hn
      have HE1 := Lib.hid hE1
      have q1 : y1.cell? ⟨b, 2, none⟩ = some v := q3.cell (k := 2) rfl
      have q2 : y1.frozen? ⟨b, 2, none⟩ = false := q3.frozen 2

      have hS2 : (y1.cell? ⟨b, 0, none⟩ = some (.int .i64 pc) ∧ y1.cell? ⟨b, 1, none⟩ = some (.int .i64 off)) ∧ True := ⟨⟨q3.cell (k := 0) rfl, q3.cell (k := 1) rfl⟩, trivial⟩
      clear hO hg hn hE1
      refine hK.out _ _ hS2 (fun _ => ?_)
      clear hK K
      try (simp only [Act.put, List.setIfInBounds_toArray, List.set_cons_zero, List.set_cons_succ])
      iterate 2 (refine tree_take (v := ?_) hS2 (by rfl) ?_ ?_; rotate_left; (intro x hx; (try dsimp only at hx); obtain ⟨⟨hx0, hx1⟩, hx2⟩ := hx; go_simp; try (with_reducible rfl)); (simp only [Act.put, List.setIfInBounds_toArray, List.set_cons_zero, List.set_cons_succ]))
      refine tree_call hS2 (by rfl) (fun K hK => ?_)
      go_simp
      have hS3 : ((y1.setCell ⟨b, 2, none⟩ (.slice A1 (l.length + 1) k1)).cell? ⟨b, 0, none⟩ = some (.int .i64 pc) ∧ (y1.setCell ⟨b, 2, none⟩ (.slice A1 (l.length + 1) k1)).cell? ⟨b, 1, none⟩ = some (.int .i64 off)) ∧ True := ⟨⟨(q3.setCell 2 _).cell (k := 0) rfl, (q3.setCell 2 _).cell (k := 1) rfl⟩, trivial⟩
      refine hK.out _ _ hS3 (fun _ => ?_)
      clear hK K
      exact tree_done ⟨.slice A1 (l.length + 1) k1, rfl, HE1.out⟩
  intro v2 w2 hE2
  have HE2 := Lib.hid hE2
  clear hE2
  simp only [Act.put, List.setIfInBounds_toArray, List.set_cons_zero, List.set_cons_succ]
  go_wp2_with fail
  first | exact bodyPost_ret (v := .tuple #[]) (by simp [results, Try.results25, go_sem]) rfl ⟨rfl, HE2.out⟩ | exact bodyPost_end (v := .tuple #[]) (by simp [results, Try.results25, go_sem]) rfl ⟨rfl, HE2.out⟩

set_option maxHeartbeats 4000000 in
theorem mkReg_any {b B : Nat} {pc off : Int} {v : Value} {l : List Cel} (k r : Int) (w : World) (h : Mk b B pc off w v l) (hl : l.length ≤ 100) :
    Calls Try.prog 22 #[.pointer (some ⟨b, 0, none⟩), .int .i64 k, .int .i64 r] w fun e w' => e = .returned (.tuple #[]) ∧ MkOut b B pc off v (l ++ [regC k r pc off]) w w' := by
  have HL := Lib.hid hl
  obtain ⟨i0, hi, hz0, hz1, hz2⟩ := info_parts info_cel
  have HI := Lib.hid hi
  have HZ0 := Lib.hid hz0
  have HZ1 := Lib.hid hz1
  have HZ2 := Lib.hid hz2
  clear hi hz0 hz1 hz2
  have HM := Lib.hid h
  have HBW : Hid (Below w.heap.size w w) := Below.refl _ w
  clear h hl
  go_enter Try.func22, Try.ntmps22
  go_wp2_with fail
  refine region_tree_ex (fun (act : Act) (B' : Value) => ((((((((((((((((((((act.put (some 6) (.pointer (some ⟨b, 0, none⟩))).put (some 7) (.pointer (some ⟨b, 0, none⟩))).put (some 8) (.pointer (some ⟨b, 0, none⟩))).put (some 9) (.pointer (some ⟨b, 2, none⟩))).put (some 10) v).put (some 11) (.int .i64 k)).put (some 12) (.int .i64 r)).put (some 13) (.pointer (some ⟨b, 0, none⟩))).put (some 14) (.pointer (some ⟨b, 0, none⟩))).put (some 15) (.pointer (some ⟨b, 0, none⟩))).put (some 16) (.int .i64 pc)).put (some 17) (.pointer (some ⟨b, 0, none⟩))).put (some 18) (.pointer (some ⟨b, 0, none⟩))).put (some 19) (.pointer (some ⟨b, 1, none⟩))).put (some 20) (.int .i64 off)).put (some 21) (.agg (celCells (regC k r pc off)).toArray)).put (some 22) (.slice (some ⟨w.heap.size, 0, none⟩) 1 1)).put (some 23) B').put (some 24) (.pointer (some ⟨b, 0, none⟩))).put (some 25) (.pointer (some ⟨b, 2, none⟩))))
    (fun _ y => MkOut b B pc off v (l ++ [regC k r pc off]) w y)
    (LinT.of [(0, true), (1, true), (2, true), (3, true), (5, true), (6, true), (7, true), (8, true), (9, true), (10, true), (11, true), (12, true), (13, true), (14, true), (15, true)] (.two 4 16 (LinT.of [(16, false), (17, false), (18, true), (19, true), (20, false)] .nil) (LinT.of [(4, false), (17, false), (18, true), (19, true), (20, false)] .nil)))
    (by kernel_rfl) (by kernel_rfl) rfl (by kernel_rfl) (fun y => (y.cell? ⟨b, 0, none⟩ = some (.int .i64 pc) ∧ y.cell? ⟨b, 1, none⟩ = some (.int .i64 off)) ∧ True) ?_ ?_
  · simp only [LinT.of, LinT.look, List.getElem?_toArray, List.getElem?_cons_succ, List.getElem?_cons_zero]
    have cL : w.drew.cell? ⟨b, 2, none⟩ = some v := HM.out.bx.cell (k := 2) rfl
    have cL2 : w.cell? ⟨b, 2, none⟩ = some v := HM.out.bx.cell (k := 2) rfl
    have hS0 : (w.drew.cell? ⟨b, 0, none⟩ = some (.int .i64 pc) ∧ w.drew.cell? ⟨b, 1, none⟩ = some (.int .i64 off)) ∧ True := ⟨⟨HM.out.bx.cell (k := 0) rfl, HM.out.bx.cell (k := 1) rfl⟩, trivial⟩
    have HMA : Hid (Mk b B pc off (w.drew.alloc (.cells (celCells (regC k r pc off)).toArray 36)) v l) := HM.out.drew.alloc _
    have cL3 : (w.drew.alloc (.cells (celCells (regC k r pc off)).toArray 36)).cell? ⟨b, 2, none⟩ = some v := HMA.out.bx.cell (k := 2) rfl
    have cL4 : (w.alloc (.cells (celCells (regC k r pc off)).toArray 36)).cell? ⟨b, 2, none⟩ = some v := cL3
    have hS1 : ((w.drew.alloc (.cells (celCells (regC k r pc off)).toArray 36)).cell? ⟨b, 0, none⟩ = some (.int .i64 pc) ∧ (w.drew.alloc (.cells (celCells (regC k r pc off)).toArray 36)).cell? ⟨b, 1, none⟩ = some (.int .i64 off)) ∧ True := ⟨⟨HMA.out.bx.cell (k := 0) rfl, HMA.out.bx.cell (k := 1) rfl⟩, trivial⟩
    iterate 14 (refine tree_take (v := ?_) hS0 (by rfl) ?_ ?_; rotate_left; (intro x hx; (try dsimp only at hx); obtain ⟨⟨hx0, hx1⟩, hx2⟩ := hx; go_simp; try (with_reducible rfl)); (simp only [Act.put, List.setIfInBounds_toArray, List.set_cons_zero, List.set_cons_succ]))
    refine tree_take (v := .agg (celCells (regC k r pc off)).toArray) hS0 (by rfl) (fun x hx => by (try simp only [insV]); go_simp; rfl) ?_
    simp only [Act.put, List.setIfInBounds_toArray, List.set_cons_zero, List.set_cons_succ]
    refine tree_two hS0 (by rfl) (by rfl) (fun K hK => ?_) (fun K hK => ?_)
    · go_simp
      refine hK.out _ _ hS0 (fun _ => ?_)
      clear hK K
      try (simp only [Act.put, List.setIfInBounds_toArray, List.set_cons_zero, List.set_cons_succ])
      refine tree_call hS0 (by rfl) (fun K hK => ?_)
      go_simp
      try rw [fold_cel]
      refine hK.out _ _ hS1 (fun _ => ?_)
      clear hK K
      try (simp only [Act.put, List.setIfInBounds_toArray, List.set_cons_zero, List.set_cons_succ])
      change wpT _ _ _ _ _ _ _ (w.drew.alloc (.cells (celCells (regC k r pc off)).toArray 36))
      refine tree_call hS1 (by rfl) (fun K hK => ?_)
      refine wp_append_new _ (.tmp 10) (.tmp 22) 26 rfl B 36 i0 _ 9 72 Try.underlying26 HI.out HZ0.out HZ1.out HZ2.out rfl (by omega) v l.length (flat celCells l) rfl HMA.out.own _ (.slice (some ⟨w.heap.size, 0, none⟩) 1 1) 1 (celCells (regC k r pc off)) rfl (row_new w.drew (celCells (regC k r pc off)) 9 rfl (by omega) _) (celCells_one _) (by unfold maxLen; have := HL.out; omega) (by have := HL.out; omega) HMA.out.hB ?_
      intro v1 y1 hO hg hn
      obtain ⟨hE1, q3, A1, k1, rfl⟩ := HM.out.drew.app (c := regC k r pc off) (W := w) (by exact HBW.out.drew) hO hg hn
      have HE1 := Lib.hid hE1
      have q1 : y1.cell? ⟨b, 2, none⟩ = some v := q3.cell (k := 2) rfl
      have q2 : y1.frozen? ⟨b, 2, none⟩ = false := q3.frozen 2

      have hS2 : (y1.cell? ⟨b, 0, none⟩ = some (.int .i64 pc) ∧ y1.cell? ⟨b, 1, none⟩ = some (.int .i64 off)) ∧ True := ⟨⟨q3.cell (k := 0) rfl, q3.cell (k := 1) rfl⟩, trivial⟩
      clear hO hg hn hE1
      refine hK.out _ _ hS2 (fun _ => ?_)
      clear hK K
      try (simp only [Act.put, List.setIfInBounds_toArray, List.set_cons_zero, List.set_cons_succ])
      iterate 2 (refine tree_take (v := ?_) hS2 (by rfl) ?_ ?_; rotate_left; (intro x hx; (try dsimp only at hx); obtain ⟨⟨hx0, hx1⟩, hx2⟩ := hx; go_simp; try (with_reducible rfl)); (simp only [Act.put, List.setIfInBounds_toArray, List.set_cons_zero, List.set_cons_succ]))
      refine tree_call hS2 (by rfl) (fun K hK => ?_)
      go_simp
      have hS3 : ((y1.setCell ⟨b, 2, none⟩ (.slice A1 (l.length + 1) k1)).cell? ⟨b, 0, none⟩ = some (.int .i64 pc) ∧ (y1.setCell ⟨b, 2, none⟩ (.slice A1 (l.length + 1) k1)).cell? ⟨b, 1, none⟩ = some (.int .i64 off)) ∧ True := ⟨⟨(q3.setCell 2 _).cell (k := 0) rfl, (q3.setCell 2 _).cell (k := 1) rfl⟩, trivial⟩
      refine hK.out _ _ hS3 (fun _ => ?_)
      clear hK K
      exact tree_done ⟨.slice A1 (l.length + 1) k1, rfl, HE1.out⟩
    · go_simp
      try rw [fold_cel]
      refine hK.out _ _ hS1 (fun _ => ?_)
      clear hK K
      change wpT _ _ _ _ _ _ _ (w.drew.alloc (.cells (celCells (regC k r pc off)).toArray 36))
      try (simp only [Act.put, List.setIfInBounds_toArray, List.set_cons_zero, List.set_cons_succ])
      refine tree_call hS1 (by rfl) (fun K hK => ?_)
      go_simp
      refine hK.out _ _ hS1 (fun _ => ?_)
      clear hK K
      try (simp only [Act.put, List.setIfInBounds_toArray, List.set_cons_zero, List.set_cons_succ])
      change wpT _ _ _ _ _ _ _ (w.drew.alloc (.cells (celCells (regC k r pc off)).toArray 36))
      refine tree_call hS1 (by rfl) (fun K hK => ?_)
      refine wp_append_new _ (.tmp 10) (.tmp 22) 26 rfl B 36 i0 _ 9 72 Try.underlying26 HI.out HZ0.out HZ1.out HZ2.out rfl (by omega) v l.length (flat celCells l) rfl HMA.out.own _ (.slice (some ⟨w.heap.size, 0, none⟩) 1 1) 1 (celCells (regC k r pc off)) rfl (row_new w.drew (celCells (regC k r pc off)) 9 rfl (by omega) _) (celCells_one _) (by unfold maxLen; have := HL.out; omega) (by have := HL.out; omega) HMA.out.hB ?_
      intro v1 y1 hO hg hn
      obtain ⟨hE1, q3, A1, k1, rfl⟩ := HM.out.drew.app (c := regC k r pc off) (W := w) (by exact HBW.out.drew) hO hg hn
      have HE1 := Lib.hid hE1
      have q1 : y1.cell? ⟨b, 2, none⟩ = some v := q3.cell (k := 2) rfl
      have q2 : y1.frozen? ⟨b, 2, none⟩ = false := q3.frozen 2

      have hS2 : (y1.cell? ⟨b, 0, none⟩ = some (.int .i64 pc) ∧ y1.cell? ⟨b, 1, none⟩ = some (.int .i64 off)) ∧ True := ⟨⟨q3.cell (k := 0) rfl, q3.cell (k := 1) rfl⟩, trivial⟩
      clear hO hg hn hE1
      refine hK.out _ _ hS2 (fun _ => ?_)
      clear hK K
      try (simp only [Act.put, List.setIfInBounds_toArray, List.set_cons_zero, List.set_cons_succ])
      iterate 2 (refine tree_take (v := ?_) hS2 (by rfl) ?_ ?_; rotate_left; (intro x hx; (try dsimp only at hx); obtain ⟨⟨hx0, hx1⟩, hx2⟩ := hx; go_simp; try (with_reducible rfl)); (simp only [Act.put, List.setIfInBounds_toArray, List.set_cons_zero, List.set_cons_succ]))
      refine tree_call hS2 (by rfl) (fun K hK => ?_)
      go_simp
      have hS3 : ((y1.setCell ⟨b, 2, none⟩ (.slice A1 (l.length + 1) k1)).cell? ⟨b, 0, none⟩ = some (.int .i64 pc) ∧ (y1.setCell ⟨b, 2, none⟩ (.slice A1 (l.length + 1) k1)).cell? ⟨b, 1, none⟩ = some (.int .i64 off)) ∧ True := ⟨⟨(q3.setCell 2 _).cell (k := 0) rfl, (q3.setCell 2 _).cell (k := 1) rfl⟩, trivial⟩
      refine hK.out _ _ hS3 (fun _ => ?_)
      clear hK K
      exact tree_done ⟨.slice A1 (l.length + 1) k1, rfl, HE1.out⟩
  intro v2 w2 hE2
  have HE2 := Lib.hid hE2
  clear hE2
  simp only [Act.put, List.setIfInBounds_toArray, List.set_cons_zero, List.set_cons_succ]
  go_wp2_with fail
  first | exact bodyPost_ret (v := .tuple #[]) (by simp [results, Try.results22, go_sem]) rfl ⟨rfl, HE2.out⟩ | exact bodyPost_end (v := .tuple #[]) (by simp [results, Try.results22, go_sem]) rfl ⟨rfl, HE2.out⟩

set_option maxHeartbeats 4000000 in
theorem mkIns_any {b B : Nat} {pc off : Int} {v : Value} {l : List Cel} (k : Int) (i : Ins) (w : World) (h : Mk b B pc off w v l) (hl : l.length ≤ 100) :
    Calls Try.prog 17 #[.pointer (some ⟨b, 0, none⟩), .int .i64 k, .agg #[.int .i64 i.op, .int .i64 i.d, .int .i64 i.a, .int .i64 i.b, .int .i64 i.imm]] w fun e w' => e = .returned (.tuple #[]) ∧ MkOut b B pc off v (l ++ [insC k i pc off]) w w' := by
  have HL := Lib.hid hl
  obtain ⟨i0, hi, hz0, hz1, hz2⟩ := info_parts info_cel
  have HI := Lib.hid hi
  have HZ0 := Lib.hid hz0
  have HZ1 := Lib.hid hz1
  have HZ2 := Lib.hid hz2
  clear hi hz0 hz1 hz2
  obtain ⟨w1, hw1⟩ : ∃ w1, w1 = w.alloc (.cells (insV i).toArray 23) := ⟨_, rfl⟩
  have HM : Hid (Mk b B pc off w1 v l) := by rw [hw1]; exact h.alloc _
  have HX : Hid (Box w1 w.heap.size (insV i)) := by rw [hw1]; exact Box.new w _ _
  have HBW : Hid (Below w.heap.size w w1) := by rw [hw1]; exact (Below.refl _ w).alloc (Nat.le_refl _) _
  have HBN : Hid (b < w.heap.size) := h.lt
  have HON : Hid (∀ g, v.ownBlock = some g → g < w.heap.size) := fun g e => (h.own.lt g e).2
  clear h hl
  go_enter Try.func17, Try.ntmps17
  go_wp2_with fail
  change Code.wp _ _ _ _ (w.alloc (.cells (insV i).toArray 23))
  rw [← hw1]
  clear hw1
  refine region_tree_ex (fun (act : Act) (B' : Value) => ((((((((((((((((((((act.put (some 6) (.pointer (some ⟨b, 0, none⟩))).put (some 7) (.pointer (some ⟨b, 0, none⟩))).put (some 8) (.pointer (some ⟨b, 0, none⟩))).put (some 9) (.pointer (some ⟨b, 2, none⟩))).put (some 10) v).put (some 11) (.int .i64 k)).put (some 12) (.agg (insV i).toArray)).put (some 13) (.pointer (some ⟨b, 0, none⟩))).put (some 14) (.pointer (some ⟨b, 0, none⟩))).put (some 15) (.pointer (some ⟨b, 0, none⟩))).put (some 16) (.int .i64 pc)).put (some 17) (.pointer (some ⟨b, 0, none⟩))).put (some 18) (.pointer (some ⟨b, 0, none⟩))).put (some 19) (.pointer (some ⟨b, 1, none⟩))).put (some 20) (.int .i64 off)).put (some 21) (.agg (celCells (insC k i pc off)).toArray)).put (some 22) (.slice (some ⟨w1.heap.size, 0, none⟩) 1 1)).put (some 23) B').put (some 24) (.pointer (some ⟨b, 0, none⟩))).put (some 25) (.pointer (some ⟨b, 2, none⟩))))
    (fun _ y => MkOut b B pc off v (l ++ [insC k i pc off]) w y)
    (LinT.of [(0, true), (1, true), (2, true), (3, true), (5, true), (6, true), (7, true), (8, true), (9, true), (10, true), (11, true), (12, true), (13, true), (14, true), (15, true)] (.two 4 16 (LinT.of [(16, false), (17, false), (18, true), (19, true), (20, false)] .nil) (LinT.of [(4, false), (17, false), (18, true), (19, true), (20, false)] .nil)))
    (by kernel_rfl) (by kernel_rfl) rfl (by kernel_rfl) (fun y => (y.cell? ⟨b, 0, none⟩ = some (.int .i64 pc) ∧ y.cell? ⟨b, 1, none⟩ = some (.int .i64 off)) ∧ Box y w.heap.size (insV i)) ?_ ?_
  · simp only [LinT.of, LinT.look, List.getElem?_toArray, List.getElem?_cons_succ, List.getElem?_cons_zero]
    have cL : w1.drew.cell? ⟨b, 2, none⟩ = some v := HM.out.bx.cell (k := 2) rfl
    have cL2 : w1.cell? ⟨b, 2, none⟩ = some v := HM.out.bx.cell (k := 2) rfl
    have hS0 : (w1.drew.cell? ⟨b, 0, none⟩ = some (.int .i64 pc) ∧ w1.drew.cell? ⟨b, 1, none⟩ = some (.int .i64 off)) ∧ Box w1.drew w.heap.size (insV i) := ⟨⟨HM.out.bx.cell (k := 0) rfl, HM.out.bx.cell (k := 1) rfl⟩, HX.out.drew⟩
    have HMA : Hid (Mk b B pc off (w1.drew.alloc (.cells (celCells (insC k i pc off)).toArray 36)) v l) := HM.out.drew.alloc _
    have cL3 : (w1.drew.alloc (.cells (celCells (insC k i pc off)).toArray 36)).cell? ⟨b, 2, none⟩ = some v := HMA.out.bx.cell (k := 2) rfl
    have cL4 : (w1.alloc (.cells (celCells (insC k i pc off)).toArray 36)).cell? ⟨b, 2, none⟩ = some v := cL3
    have hS1 : ((w1.drew.alloc (.cells (celCells (insC k i pc off)).toArray 36)).cell? ⟨b, 0, none⟩ = some (.int .i64 pc) ∧ (w1.drew.alloc (.cells (celCells (insC k i pc off)).toArray 36)).cell? ⟨b, 1, none⟩ = some (.int .i64 off)) ∧ Box (w1.drew.alloc (.cells (celCells (insC k i pc off)).toArray 36)) w.heap.size (insV i) := ⟨⟨HMA.out.bx.cell (k := 0) rfl, HMA.out.bx.cell (k := 1) rfl⟩, HX.out.drew.alloc _⟩
    iterate 5 (refine tree_take (v := ?_) hS0 (by rfl) ?_ ?_; rotate_left; (intro x hx; (try dsimp only at hx); obtain ⟨⟨hx0, hx1⟩, hx2⟩ := hx; go_simp; try (with_reducible rfl)); (simp only [Act.put, List.setIfInBounds_toArray, List.set_cons_zero, List.set_cons_succ]))
    refine tree_load_ex hS0 (by rfl) 23 (.tmp 5) rfl w.heap.size 0 rfl (insV i) (insV i) (fun y hy => hy.2) whole_at _ Try.underlying23 rfl 5 size_ins5 rfl ?_
    simp only [Act.put, List.setIfInBounds_toArray, List.set_cons_zero, List.set_cons_succ]
    iterate 8 (refine tree_take (v := ?_) hS0 (by rfl) ?_ ?_; rotate_left; (intro x hx; (try dsimp only at hx); obtain ⟨⟨hx0, hx1⟩, hx2⟩ := hx; go_simp; try (with_reducible rfl)); (simp only [Act.put, List.setIfInBounds_toArray, List.set_cons_zero, List.set_cons_succ]))
    refine tree_take (v := .agg (celCells (insC k i pc off)).toArray) hS0 (by rfl) (fun x hx => by (try simp only [insV]); go_simp; rfl) ?_
    simp only [Act.put, List.setIfInBounds_toArray, List.set_cons_zero, List.set_cons_succ]
    refine tree_two hS0 (by rfl) (by rfl) (fun K hK => ?_) (fun K hK => ?_)
    · go_simp
      refine hK.out _ _ hS0 (fun _ => ?_)
      clear hK K
      try (simp only [Act.put, List.setIfInBounds_toArray, List.set_cons_zero, List.set_cons_succ])
      refine tree_call hS0 (by rfl) (fun K hK => ?_)
      go_simp
      try rw [fold_cel]
      refine hK.out _ _ hS1 (fun _ => ?_)
      clear hK K
      try (simp only [Act.put, List.setIfInBounds_toArray, List.set_cons_zero, List.set_cons_succ])
      change wpT _ _ _ _ _ _ _ (w1.drew.alloc (.cells (celCells (insC k i pc off)).toArray 36))
      refine tree_call hS1 (by rfl) (fun K hK => ?_)
      refine wp_append_new _ (.tmp 10) (.tmp 22) 26 rfl B 36 i0 _ 9 72 Try.underlying26 HI.out HZ0.out HZ1.out HZ2.out rfl (by omega) v l.length (flat celCells l) rfl HMA.out.own _ (.slice (some ⟨w1.heap.size, 0, none⟩) 1 1) 1 (celCells (insC k i pc off)) rfl (row_new w1.drew (celCells (insC k i pc off)) 9 rfl (by omega) _) (celCells_one _) (by unfold maxLen; have := HL.out; omega) (by have := HL.out; omega) HMA.out.hB ?_
      intro v1 y1 hO hg hn
      obtain ⟨hE1, q3, A1, k1, rfl⟩ := HM.out.drew.app (c := insC k i pc off) (W := w) (by exact HBW.out.drew) hO hg hn
      have HE1 := Lib.hid hE1
      have q1 : y1.cell? ⟨b, 2, none⟩ = some v := q3.cell (k := 2) rfl
      have q2 : y1.frozen? ⟨b, 2, none⟩ = false := q3.frozen 2
      have HX2 := Lib.hid ((HX.out.drew.alloc _).grown hg (fun e => by have := HON.out _ e.symm; omega))
      have hS2 : (y1.cell? ⟨b, 0, none⟩ = some (.int .i64 pc) ∧ y1.cell? ⟨b, 1, none⟩ = some (.int .i64 off)) ∧ Box y1 w.heap.size (insV i) := ⟨⟨q3.cell (k := 0) rfl, q3.cell (k := 1) rfl⟩, HX2.out⟩
      clear hO hg hn hE1
      refine hK.out _ _ hS2 (fun _ => ?_)
      clear hK K
      try (simp only [Act.put, List.setIfInBounds_toArray, List.set_cons_zero, List.set_cons_succ])
      iterate 2 (refine tree_take (v := ?_) hS2 (by rfl) ?_ ?_; rotate_left; (intro x hx; (try dsimp only at hx); obtain ⟨⟨hx0, hx1⟩, hx2⟩ := hx; go_simp; try (with_reducible rfl)); (simp only [Act.put, List.setIfInBounds_toArray, List.set_cons_zero, List.set_cons_succ]))
      refine tree_call hS2 (by rfl) (fun K hK => ?_)
      go_simp
      have hS3 : ((y1.setCell ⟨b, 2, none⟩ (.slice A1 (l.length + 1) k1)).cell? ⟨b, 0, none⟩ = some (.int .i64 pc) ∧ (y1.setCell ⟨b, 2, none⟩ (.slice A1 (l.length + 1) k1)).cell? ⟨b, 1, none⟩ = some (.int .i64 off)) ∧ Box (y1.setCell ⟨b, 2, none⟩ (.slice A1 (l.length + 1) k1)) w.heap.size (insV i) := ⟨⟨(q3.setCell 2 _).cell (k := 0) rfl, (q3.setCell 2 _).cell (k := 1) rfl⟩, HX2.out.setCell_other (Nat.ne_of_gt HBN.out) _ _⟩
      refine hK.out _ _ hS3 (fun _ => ?_)
      clear hK K
      exact tree_done ⟨.slice A1 (l.length + 1) k1, rfl, HE1.out⟩
    · go_simp
      try rw [fold_cel]
      refine hK.out _ _ hS1 (fun _ => ?_)
      clear hK K
      change wpT _ _ _ _ _ _ _ (w1.drew.alloc (.cells (celCells (insC k i pc off)).toArray 36))
      try (simp only [Act.put, List.setIfInBounds_toArray, List.set_cons_zero, List.set_cons_succ])
      refine tree_call hS1 (by rfl) (fun K hK => ?_)
      go_simp
      refine hK.out _ _ hS1 (fun _ => ?_)
      clear hK K
      try (simp only [Act.put, List.setIfInBounds_toArray, List.set_cons_zero, List.set_cons_succ])
      change wpT _ _ _ _ _ _ _ (w1.drew.alloc (.cells (celCells (insC k i pc off)).toArray 36))
      refine tree_call hS1 (by rfl) (fun K hK => ?_)
      refine wp_append_new _ (.tmp 10) (.tmp 22) 26 rfl B 36 i0 _ 9 72 Try.underlying26 HI.out HZ0.out HZ1.out HZ2.out rfl (by omega) v l.length (flat celCells l) rfl HMA.out.own _ (.slice (some ⟨w1.heap.size, 0, none⟩) 1 1) 1 (celCells (insC k i pc off)) rfl (row_new w1.drew (celCells (insC k i pc off)) 9 rfl (by omega) _) (celCells_one _) (by unfold maxLen; have := HL.out; omega) (by have := HL.out; omega) HMA.out.hB ?_
      intro v1 y1 hO hg hn
      obtain ⟨hE1, q3, A1, k1, rfl⟩ := HM.out.drew.app (c := insC k i pc off) (W := w) (by exact HBW.out.drew) hO hg hn
      have HE1 := Lib.hid hE1
      have q1 : y1.cell? ⟨b, 2, none⟩ = some v := q3.cell (k := 2) rfl
      have q2 : y1.frozen? ⟨b, 2, none⟩ = false := q3.frozen 2
      have HX2 := Lib.hid ((HX.out.drew.alloc _).grown hg (fun e => by have := HON.out _ e.symm; omega))
      have hS2 : (y1.cell? ⟨b, 0, none⟩ = some (.int .i64 pc) ∧ y1.cell? ⟨b, 1, none⟩ = some (.int .i64 off)) ∧ Box y1 w.heap.size (insV i) := ⟨⟨q3.cell (k := 0) rfl, q3.cell (k := 1) rfl⟩, HX2.out⟩
      clear hO hg hn hE1
      refine hK.out _ _ hS2 (fun _ => ?_)
      clear hK K
      try (simp only [Act.put, List.setIfInBounds_toArray, List.set_cons_zero, List.set_cons_succ])
      iterate 2 (refine tree_take (v := ?_) hS2 (by rfl) ?_ ?_; rotate_left; (intro x hx; (try dsimp only at hx); obtain ⟨⟨hx0, hx1⟩, hx2⟩ := hx; go_simp; try (with_reducible rfl)); (simp only [Act.put, List.setIfInBounds_toArray, List.set_cons_zero, List.set_cons_succ]))
      refine tree_call hS2 (by rfl) (fun K hK => ?_)
      go_simp
      have hS3 : ((y1.setCell ⟨b, 2, none⟩ (.slice A1 (l.length + 1) k1)).cell? ⟨b, 0, none⟩ = some (.int .i64 pc) ∧ (y1.setCell ⟨b, 2, none⟩ (.slice A1 (l.length + 1) k1)).cell? ⟨b, 1, none⟩ = some (.int .i64 off)) ∧ Box (y1.setCell ⟨b, 2, none⟩ (.slice A1 (l.length + 1) k1)) w.heap.size (insV i) := ⟨⟨(q3.setCell 2 _).cell (k := 0) rfl, (q3.setCell 2 _).cell (k := 1) rfl⟩, HX2.out.setCell_other (Nat.ne_of_gt HBN.out) _ _⟩
      refine hK.out _ _ hS3 (fun _ => ?_)
      clear hK K
      exact tree_done ⟨.slice A1 (l.length + 1) k1, rfl, HE1.out⟩
  intro v2 w2 hE2
  have HE2 := Lib.hid hE2
  clear hE2
  simp only [Act.put, List.setIfInBounds_toArray, List.set_cons_zero, List.set_cons_succ]
  go_wp2_with fail
  first | exact bodyPost_ret (v := .tuple #[]) (by simp [results, Try.results17, go_sem]) rfl ⟨rfl, HE2.out⟩ | exact bodyPost_end (v := .tuple #[]) (by simp [results, Try.results17, go_sem]) rfl ⟨rfl, HE2.out⟩

end Go.Proofs.Ytcaibahniheohaa.Words

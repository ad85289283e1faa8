/- Several texts in one: WithCode, WithOf, RefMaker, RefSent. -/
import Derived.Test.YtbibfpopkcekdaaG06
import Derived.Test.YtbibfpopkcekdaaG09
import Derived.LoopN
import Derived.Test.YtbibfpopkcekdaaG07
import Derived.Deep.Cut

/- Contract of package split's fill: the cells of one block's instructions are put into it. -/
namespace Go.Proofs.Ytbibfpopkcekdaa.Words
set_option maxRecDepth 100000
open Go.RowKit
set_option linter.unusedVariables false
set_option linter.unusedSimpArgs false

theorem FsR.again {base bv cap i : Nat} {z : List Int} {l : List Ins} {bs : List Blk} {W w : World} (h : FsR base bv cap z l bs i W w) : FsR base bv cap z l bs i w w := ⟨h.f, KeepS.refl _ _⟩
theorem FsR.from {base bv cap i : Nat} {z : List Int} {l : List Ins} {bs : List Blk} {W w w' : World} (h : FsR base bv cap z l bs i w w') (k : KeepS (fun j => j = bv) W w) : FsR base bv cap z l bs i W w' := ⟨h.f, k.trans h.keep⟩
/-- Part of a program's code. -/
theorem Row.code_cut {w : World} {B n c b off f t : Nat} {l : List Ins} (h : Row w B 5 (.slice (some ⟨b, off, none⟩) n c) n (codeCells l)) (hft : f < t) (ht : t ≤ n) {k : Nat} {x : Ins} (hx : l[f + k]? = some x) :
    w.cell? ⟨b, off + f * 5 + k * 5, none⟩ = some (.int .i64 x.op) ∧ w.cell? ⟨b, off + f * 5 + k * 5 + 1, none⟩ = some (.int .i64 x.d) ∧ w.cell? ⟨b, off + f * 5 + k * 5 + 2, none⟩ = some (.int .i64 x.a) ∧
    w.cell? ⟨b, off + f * 5 + k * 5 + 3, none⟩ = some (.int .i64 x.b) ∧ w.cell? ⟨b, off + f * 5 + k * 5 + 4, none⟩ = some (.int .i64 x.imm) := by
  have := h.ins hx
  rw [show off + f * 5 + k * 5 = off + (f + k) * 5 by omega]; exact this
set_option maxHeartbeats 8000000 in
theorem fill_any (base bv cap i : Nat) (o : List Int) (l : List Ins) (bs : List Blk) (b : Blk) (A : Option Addr) (c f t B : Nat) (w : World) (hF : FsR base bv cap (zeroed o) l bs i w w) (hb : bs[i]? = some b)
    (h1 : b.from_ = f) (h2 : b.to = t) (hft : f < t) (ht : t ≤ l.length) (hl : l.length ≤ 2000) (hr : Row w B 5 (.slice A l.length c) l.length (codeCells l)) (hB : B ≤ bv) (ho : o.length = 16) :
    Calls Try.prog 25 #[.pointer (some ⟨bv, i * 6, none⟩), .slice A l.length c, .agg (oV o).toArray] w fun e w' => e = .returned (.tuple #[]) ∧ FsR base bv cap (zeroed o) l bs (i + 1) w w' := by
  obtain ⟨i0, hi, hz0, hz1, hz2⟩ := info_parts info_cel
  have HI := Lib.hid hi
  have HZ0 := Lib.hid hz0
  have HZ1 := Lib.hid hz1
  have HZ2 := Lib.hid hz2
  clear hi hz0 hz1 hz2
  obtain ⟨w1, hw1⟩ : ∃ w1, w1 = w.alloc (.cells (oV o).toArray 26) := ⟨_, rfl⟩
  have hbW : Below w.heap.size w w1 := by rw [hw1]; exact (Below.refl _ _).alloc (Nat.le_refl _) _
  have HW1 := Lib.hid hbW
  have HZW : Hid (w1.heap.size = w.heap.size + 1) := by show _ = _; rw [hw1]; simp
  have HO1 : Hid (Box w1 w.heap.size (oV o)) := by rw [hw1]; exact Box.new w (oV o) _
  have HOL := Lib.hid ho
  have HF1 := Lib.hid ((hF.below hbW).again.start hb)
  have hlt := hF.lt
  have HBW := Lib.hid hlt.1
  have HR1 := Lib.hid (hr.below (hbW.mono (by omega)))
  have HBF := Lib.hid h1
  have HBT := Lib.hid h2
  have HLL := Lib.hid hl
  have hcap := hr.cap
  obtain ⟨ab, ao, rfl, _, _⟩ := hr.at_ (by omega)
  have c0 := HF1.out.cells
  rw [h1, h2] at c0
  obtain ⟨c0, c1, _, _⟩ := c0
  have HFT := Lib.hid hft
  have HTL := Lib.hid ht
  have g0 : (0 : Int) ≤ f := by omega
  have g1 : (f : Int) ≤ t := by omega
  have g2 : (t : Int) ≤ c := by omega
  have g3 : ¬ (f : Int) = c := by omega
  have g4 : ¬ f = c := by omega
  have HK := Lib.hid hbW
  have HF0 := Lib.hid hF.keep
  clear hF hb h1 h2 hr hl hcap hlt hbW ho hft ht
  go_enter Try.func25, Try.ntmps25
  go_upto_region 1 with (fail)
  change Code.wp _ _ _ _ (w.alloc (.cells (oV o).toArray 26))
  rw [← hw1]
  clear hw1
  go_quiet (fail)
  obtain ⟨N, hN⟩ : ∃ N, N = t - f := ⟨_, rfl⟩
  rw [← hN]
  have HN := Lib.hid hN
  clear hN
  go_wp2_with fail
  obtain ⟨w2, hw2⟩ : ∃ w2, w2 = w1.drewN nq := ⟨_, rfl⟩
  have HF2 : Hid (Fs base bv cap (zeroed o) l bs i b 0 0 w1.heap.size w1 w2 (.slice none 0 0) (.slice none 0 0)) := by rw [hw2]; exact HF1.out.drewN _
  rw [← hw2]
  clear hw2 c0 c1
  obtain ⟨M, hM⟩ : ∃ M, M = w1.heap.size := ⟨_, rfl⟩
  rw [← hM] at HF2 HZW
  have HMW : Hid (w.heap.size < M) := by have := HZW.out; show _ < _; omega
  clear hM
  go_loopw [20] (fun ii wr => ∃ (k : Nat) (va ve : Value), k ≤ N ∧ ii = .int .i64 k ∧ Fs base bv cap (zeroed o) l bs i b k k M w1 wr va ve) (fun ii _ => N - (intOf ii).toNat)
  case atStart => exact ⟨0, _, _, Nat.zero_le _, rfl, HF2.out⟩
  case round =>
    obtain ⟨k, va, ve, hkN, rfl, hF⟩ := hrel
    have HFr := Lib.hid hF
    clear hF
    by_cases hlt : k < N
    · have hkl : f + k < l.length := by have := HN.out; have := HTL.out; omega
      obtain ⟨x, hxe⟩ : ∃ x, x = insAtZ l (f + k) := ⟨_, rfl⟩
      have hx : l[f + k]? = some x := by rw [hxe]; unfold insAtZ; rw [List.getD_eq_getElem?_getD, List.getElem?_eq_getElem hkl]; rfl
      have HIA := Lib.hid hxe.symm
      clear hxe
      have hkp := HFr.out.keep
      have hrow := HR1.out.below (hkp.below (B := B) (by have := HK.out.size; have := HBW.out; omega) (fun j e => by omega))
      obtain ⟨e0, e1, e2, e3, e4⟩ := hrow.code_cut HFT.out HTL.out hx
      have c0 := HFr.out.cells.1
      rw [HBF.out] at c0
      have hbr : bv < wr.heap.size := by have := HFr.out.lt; omega
      have HBX := Lib.hid hbr
      obtain ⟨wa, hwa⟩ : ∃ wa, wa = wr.alloc (.cells (insV x).toArray 51) := ⟨_, rfl⟩
      have HF : Hid (Fs base bv cap (zeroed o) l bs i b k k M w1 wa va ve) := by rw [hwa]; exact HFr.out.alloc _
      have HXB : Hid (Box wa wr.heap.size (insV x)) := by rw [hwa]; exact Box.new wr (insV x) _
      have HOB : Hid (Box wa w.heap.size (oV o)) := by rw [hwa]; exact (HO1.out.keepS hkp (fun e => by have := HBW.out; omega)).alloc _
      obtain ⟨P, hP⟩ : ∃ P : Int, P = (f : Int) + (k : Int) := ⟨_, rfl⟩
      have HPC : Hid (((f + k : Nat) : Int) = P) := by show _ = _; rw [hP]; omega
      have HNX : Hid (va.ownBlock ≠ some wr.heap.size ∧ ve.ownBlock ≠ some wr.heap.size) := ⟨fun e => by have := (HFr.out.oa.lt _ e).2; omega, fun e => by have := (HFr.out.oe.lt _ e).2; omega⟩
      have HLF : Hid ((fillA (zeroed o) l b.from_.toNat k).length ≤ 6000 ∧ (fillE (zeroed o) l b.from_.toNat k).length ≤ 6000) := ⟨by have := fillA_len (zeroed o) l b.from_.toNat k; have := HLL.out; omega, by have := fillE_len (zeroed o) l b.from_.toNat k; have := HLL.out; omega⟩
      have HLE : Hid ((emitA (zeroed o) x P (k : Int)).length ≤ 3 ∧ (emitE (zeroed o) x P (k : Int)).length ≤ 3) := ⟨emitA_le3 _ _ _ _, emitE_le3 _ _ _ _⟩
      have g5 : (0 : Int) ≤ k := by omega
      have g6 : (k : Int) < N := by omega
      have g7 : (k : Int) ≤ 2000 := by have := HLL.out; omega
      have g8 : (f : Int) ≤ 2000 := by have := HLL.out; omega
      clear hkp hrow hx hkl
      go_upto_region 5 with (fail)
      change Code.wp _ _ _ _ (wr.alloc (.cells (insV x).toArray 51))
      rw [← hwa, ← hP]
      obtain ⟨xb, hxb⟩ : ∃ xb, xb = wr.heap.size := ⟨_, rfl⟩
      rw [← hxb] at HXB HNX HBX ⊢
      clear hwa hP hxb e0 e1 e2 e3 e4 c0 hbr
      refine region_tree_ex (fun (act : Act) (B : Value × Value) => (((((((((((((act.put (some 31) (.pointer (some ⟨bv, i * 6, none⟩))).put (some 32) (.pointer (some ⟨bv, i * 6, none⟩))).put (some 33) (.pointer (some ⟨bv, i * 6, none⟩))).put (some 34) (.pointer (some ⟨bv, i * 6 + 4, none⟩))).put (some 36) (.agg (insV x).toArray)).put (some 37) (.agg (oV o).toArray)).put (some 38) (.int .i64 P)).put (some 39) (.int .i64 (k : Int))).put (some 35) va).put (some 40) B.1).put (some 41) B.2).put (some 42) (.pointer (some ⟨bv, i * 6, none⟩))).put (some 43) (.pointer (some ⟨bv, i * 6 + 4, none⟩))))
        (fun B y => Fs base bv cap (zeroed o) l bs i b (k + 1) k M w1 y B.2 ve ∧ (Box y xb (insV x) ∧ Box y w.heap.size (oV o)) ∧ B.2.ownBlock ≠ some xb ∧ ve.ownBlock ≠ some xb)
        (LinT.of [(0, true), (1, true), (2, true), (3, true), (5, true), (6, true), (7, true), (8, true)] (.two 4 9 (LinT.of [(9, false), (10, false), (11, true), (12, true), (13, false)] .nil) (LinT.of [(4, false), (10, false), (11, true), (12, true), (13, false)] .nil)))
        (by kernel_rfl) (by kernel_rfl) rfl (by kernel_rfl) (fun y => Box y xb (insV x) ∧ Box y w.heap.size (oV o)) ?_ ?_
      · simp only [LinT.of, LinT.look, List.getElem?_toArray, List.getElem?_cons_succ, List.getElem?_cons_zero]
        have hS0 : wa.drew = wa.drew ∧ (Box wa.drew xb (insV x) ∧ Box wa.drew w.heap.size (oV o)) := ⟨rfl, HXB.out.drew, HOB.out.drew⟩
        have hS := hS0.2
        clear hS0
        have cP := HF.out.drew.cells
        have cF := HF.out.drew.frozen (i * 6 + 4)
        iterate 4 (refine tree_take (v := ?_) hS (by rfl) ?_ ?_; rotate_left; (intro y hy; (try dsimp only at hy); go_simp; try (with_reducible rfl)); (try simp only [Act.put, List.setIfInBounds_toArray, List.set_cons_zero, List.set_cons_succ]))
        refine tree_load_ex hS (by rfl) 51 (.tmp 7) rfl xb 0 rfl (insV x) (insV x) (fun y hy => hy.1) whole_at _ Try.underlying51 rfl 5 size_ins5 rfl ?_
        (try simp only [Act.put, List.setIfInBounds_toArray, List.set_cons_zero, List.set_cons_succ])
        refine tree_load_ex hS (by rfl) 26 (.tmp 5) rfl w.heap.size 0 rfl (oV o) (oV o) (fun y hy => hy.2) whole_at _ Try.underlying26 rfl 16 (by kernel_rfl) ((oV_len o).trans HOL.out) ?_
        (try simp only [Act.put, List.setIfInBounds_toArray, List.set_cons_zero, List.set_cons_succ])
        iterate 2 (refine tree_take (v := ?_) hS (by rfl) ?_ ?_; rotate_left; (intro y hy; (try dsimp only at hy); go_simp; try (with_reducible rfl)); (try simp only [Act.put, List.setIfInBounds_toArray, List.set_cons_zero, List.set_cons_succ]))
        refine tree_two hS (by rfl) (by rfl) (fun K hK => ?_) (fun K hK => ?_)
        · go_simp
          refine hK.out _ _ hS (fun _ => ?_)
          clear hK K
          (try simp only [Act.put, List.setIfInBounds_toArray, List.set_cons_zero, List.set_cons_succ])
          refine tree_call hS (by rfl) (fun K hK => ?_)
          go_simp
          refine (emitA_any x o P (k : Int) _ HOL.out).mono ?_; rintro e y0 ⟨vx, rfl, hrow, hnew, hb0⟩
          go_wp2_with fail
          have HF0 := Lib.hid (HF.out.drew.below hb0)
          have HR0 := Lib.hid hrow
          have hS1 : Box y0 xb (insV x) ∧ Box y0 w.heap.size (oV o) := ⟨hS.1.below hb0 hS.1.lt, hS.2.below hb0 hS.2.lt⟩
          have cP0 := HF0.out.cells
          have cF0 := HF0.out.frozen (i * 6 + 4)
          refine hK.out _ _ hS1 (fun _ => ?_)
          clear hK K hb0 hrow
          (try simp only [Act.put, List.setIfInBounds_toArray, List.set_cons_zero, List.set_cons_succ])
          refine tree_call hS1 (by rfl) (fun K hK => ?_)
          obtain ⟨n0, hn0⟩ : ∃ n0, n0 = (emitA (zeroed o) x P (k : Int)).length := ⟨_, rfl⟩
          have HN0 := Lib.hid hn0
          clear hn0
          refine wp_append_new _ (.tmp 35) (.tmp 40) 45 rfl M 53 i0 _ 9 72 Try.underlying45 HI.out HZ0.out HZ1.out HZ2.out rfl (by omega) va (fillA (zeroed o) l b.from_.toNat k).length (flat celCells (fillA (zeroed o) l b.from_.toNat k)) rfl HF0.out.oa _ vx n0 (flat celCells (emitA (zeroed o) x P (k : Int))) rfl (by rw [HN0.out]; exact HR0.out) (flat_one9 _) (by unfold maxLen; have := HLF.out; have := HLE.out; rw [HN0.out]; omega) (by have := HLF.out; have := HLE.out; rw [HN0.out]; omega) HF0.out.lt.2.1 ?_
          intro v1 y1 hO hg hn
          obtain ⟨hF1, q1, ⟨u1, q2⟩, A1, k1, rfl⟩ := HF0.out.appA HBF.out (m := n0) (by rw [HIA.out, HPC.out]; exact HN0.out) (by rw [HIA.out, HPC.out]; exact hO) hg hn
          have HF1 := Lib.hid hF1
          have HNV : Hid ((Value.slice A1 ((fillA (zeroed o) l b.from_.toNat k).length + n0) k1).ownBlock ≠ some xb) := fun e => (hn _ e).elim (fun e2 => HNX.out.1 e2) (fun e2 => by have := hS1.1.lt; omega)
          have hS2 : Box y1 xb (insV x) ∧ Box y1 w.heap.size (oV o) := ⟨hS1.1.keepS (KeepS.of_grown (S := fun j => va.ownBlock = some j) hg (fun g e => e)) HNX.out.1, hS1.2.keepS (KeepS.of_grown (S := fun j => va.ownBlock = some j) hg (fun g e => e)) (fun e => by have := (HF0.out.oa.lt _ e).1; have := HMW.out; omega)⟩
          have hS3 : Box (y1.setCell ⟨bv, i * 6 + 4, none⟩ (.slice A1 ((fillA (zeroed o) l b.from_.toNat k).length + n0) k1)) xb (insV x) ∧ Box (y1.setCell ⟨bv, i * 6 + 4, none⟩ (.slice A1 ((fillA (zeroed o) l b.from_.toNat k).length + n0) k1)) w.heap.size (oV o) :=
            ⟨hS2.1.keepS ((KeepS.refl (fun j => j = bv) y1).setCell rfl _ _) (fun e => by have := HBX.out; omega), hS2.2.keepS ((KeepS.refl (fun j => j = bv) y1).setCell rfl _ _) (fun e => by have := HBW.out; omega)⟩
          clear hO hg hn hF1
          refine hK.out _ _ hS2 (fun _ => ?_)
          clear hK K
          (try simp only [Act.put, List.setIfInBounds_toArray, List.set_cons_zero, List.set_cons_succ])
          iterate 2 (refine tree_take (v := ?_) hS2 (by rfl) ?_ ?_; rotate_left; (intro y hy; (try dsimp only at hy); go_simp; try (with_reducible rfl)); (try simp only [Act.put, List.setIfInBounds_toArray, List.set_cons_zero, List.set_cons_succ]))
          refine tree_call hS2 (by rfl) (fun K hK => ?_)
          go_simp
          refine hK.out _ _ hS3 (fun _ => ?_)
          clear hK K
          exact tree_done ⟨(vx, .slice A1 ((fillA (zeroed o) l b.from_.toNat k).length + n0) k1), rfl, HF1.out, hS3, HNV.out, HNX.out.2⟩
        · go_simp
          refine (emitA_any x o P (k : Int) _ HOL.out).mono ?_; rintro e y0 ⟨vx, rfl, hrow, hnew, hb0⟩
          go_wp2_with fail
          have HF0 := Lib.hid (HF.out.drew.below hb0)
          have HR0 := Lib.hid hrow
          have hS1 : Box y0 xb (insV x) ∧ Box y0 w.heap.size (oV o) := ⟨hS.1.below hb0 hS.1.lt, hS.2.below hb0 hS.2.lt⟩
          have cP0 := HF0.out.cells
          have cF0 := HF0.out.frozen (i * 6 + 4)
          refine hK.out _ _ hS1 (fun _ => ?_)
          clear hK K hb0 hrow
          (try simp only [Act.put, List.setIfInBounds_toArray, List.set_cons_zero, List.set_cons_succ])
          refine tree_call hS1 (by rfl) (fun K hK => ?_)
          go_simp
          refine hK.out _ _ hS1 (fun _ => ?_)
          clear hK K
          (try simp only [Act.put, List.setIfInBounds_toArray, List.set_cons_zero, List.set_cons_succ])
          refine tree_call hS1 (by rfl) (fun K hK => ?_)
          obtain ⟨n0, hn0⟩ : ∃ n0, n0 = (emitA (zeroed o) x P (k : Int)).length := ⟨_, rfl⟩
          have HN0 := Lib.hid hn0
          clear hn0
          refine wp_append_new _ (.tmp 35) (.tmp 40) 45 rfl M 53 i0 _ 9 72 Try.underlying45 HI.out HZ0.out HZ1.out HZ2.out rfl (by omega) va (fillA (zeroed o) l b.from_.toNat k).length (flat celCells (fillA (zeroed o) l b.from_.toNat k)) rfl HF0.out.oa _ vx n0 (flat celCells (emitA (zeroed o) x P (k : Int))) rfl (by rw [HN0.out]; exact HR0.out) (flat_one9 _) (by unfold maxLen; have := HLF.out; have := HLE.out; rw [HN0.out]; omega) (by have := HLF.out; have := HLE.out; rw [HN0.out]; omega) HF0.out.lt.2.1 ?_
          intro v1 y1 hO hg hn
          obtain ⟨hF1, q1, ⟨u1, q2⟩, A1, k1, rfl⟩ := HF0.out.appA HBF.out (m := n0) (by rw [HIA.out, HPC.out]; exact HN0.out) (by rw [HIA.out, HPC.out]; exact hO) hg hn
          have HF1 := Lib.hid hF1
          have HNV : Hid ((Value.slice A1 ((fillA (zeroed o) l b.from_.toNat k).length + n0) k1).ownBlock ≠ some xb) := fun e => (hn _ e).elim (fun e2 => HNX.out.1 e2) (fun e2 => by have := hS1.1.lt; omega)
          have hS2 : Box y1 xb (insV x) ∧ Box y1 w.heap.size (oV o) := ⟨hS1.1.keepS (KeepS.of_grown (S := fun j => va.ownBlock = some j) hg (fun g e => e)) HNX.out.1, hS1.2.keepS (KeepS.of_grown (S := fun j => va.ownBlock = some j) hg (fun g e => e)) (fun e => by have := (HF0.out.oa.lt _ e).1; have := HMW.out; omega)⟩
          have hS3 : Box (y1.setCell ⟨bv, i * 6 + 4, none⟩ (.slice A1 ((fillA (zeroed o) l b.from_.toNat k).length + n0) k1)) xb (insV x) ∧ Box (y1.setCell ⟨bv, i * 6 + 4, none⟩ (.slice A1 ((fillA (zeroed o) l b.from_.toNat k).length + n0) k1)) w.heap.size (oV o) :=
            ⟨hS2.1.keepS ((KeepS.refl (fun j => j = bv) y1).setCell rfl _ _) (fun e => by have := HBX.out; omega), hS2.2.keepS ((KeepS.refl (fun j => j = bv) y1).setCell rfl _ _) (fun e => by have := HBW.out; omega)⟩
          clear hO hg hn hF1
          refine hK.out _ _ hS2 (fun _ => ?_)
          clear hK K
          (try simp only [Act.put, List.setIfInBounds_toArray, List.set_cons_zero, List.set_cons_succ])
          iterate 2 (refine tree_take (v := ?_) hS2 (by rfl) ?_ ?_; rotate_left; (intro y hy; (try dsimp only at hy); go_simp; try (with_reducible rfl)); (try simp only [Act.put, List.setIfInBounds_toArray, List.set_cons_zero, List.set_cons_succ]))
          refine tree_call hS2 (by rfl) (fun K hK => ?_)
          go_simp
          refine hK.out _ _ hS3 (fun _ => ?_)
          clear hK K
          exact tree_done ⟨(vx, .slice A1 ((fillA (zeroed o) l b.from_.toNat k).length + n0) k1), rfl, HF1.out, hS3, HNV.out, HNX.out.2⟩

      rintro ⟨vx, v1⟩ w5 ⟨hF5, hS5, hN5⟩
      dsimp only at hF5 hN5
      have HF5 := Lib.hid hF5
      have HX5 := Lib.hid hS5.1
      have HO5 := Lib.hid hS5.2
      have HN5 := Lib.hid hN5
      clear hF5 hS5 hN5 HF HXB HOB HNX
      simp only [Act.put, List.setIfInBounds_toArray, List.set_cons_zero, List.set_cons_succ]
      go_wp2_with fail
      have HF := HF5
      have HXB := HX5
      have HOB := HO5
      have HNX := HN5
      clear HF5 HX5 HO5 HN5
      refine region_tree_ex (fun (act : Act) (B : Value × Value) => (((((((((((((act.put (some 44) (.pointer (some ⟨bv, i * 6, none⟩))).put (some 45) (.pointer (some ⟨bv, i * 6, none⟩))).put (some 46) (.pointer (some ⟨bv, i * 6, none⟩))).put (some 47) (.pointer (some ⟨bv, i * 6 + 5, none⟩))).put (some 49) (.agg (insV x).toArray)).put (some 50) (.agg (oV o).toArray)).put (some 51) (.int .i64 P)).put (some 52) (.int .i64 (k : Int))).put (some 48) ve).put (some 53) B.1).put (some 54) B.2).put (some 55) (.pointer (some ⟨bv, i * 6, none⟩))).put (some 56) (.pointer (some ⟨bv, i * 6 + 5, none⟩))))
        (fun B y => Fs base bv cap (zeroed o) l bs i b (k + 1) (k + 1) M w1 y v1 B.2 ∧ (Box y xb (insV x) ∧ Box y w.heap.size (oV o)) ∧ v1.ownBlock ≠ some xb ∧ B.2.ownBlock ≠ some xb)
        (LinT.of [(0, true), (1, true), (2, true), (3, true), (5, true), (6, true), (7, true), (8, true)] (.two 4 9 (LinT.of [(9, false), (10, false), (11, true), (12, true), (13, false)] .nil) (LinT.of [(4, false), (10, false), (11, true), (12, true), (13, false)] .nil)))
        (by kernel_rfl) (by kernel_rfl) rfl (by kernel_rfl) (fun y => Box y xb (insV x) ∧ Box y w.heap.size (oV o)) ?_ ?_
      · simp only [LinT.of, LinT.look, List.getElem?_toArray, List.getElem?_cons_succ, List.getElem?_cons_zero]
        have hS0 : w5.drew = w5.drew ∧ (Box w5.drew xb (insV x) ∧ Box w5.drew w.heap.size (oV o)) := ⟨rfl, HXB.out.drew, HOB.out.drew⟩
        have hS := hS0.2
        clear hS0
        have cP := HF.out.drew.cells
        have cF := HF.out.drew.frozen (i * 6 + 5)
        iterate 4 (refine tree_take (v := ?_) hS (by rfl) ?_ ?_; rotate_left; (intro y hy; (try dsimp only at hy); go_simp; try (with_reducible rfl)); (try simp only [Act.put, List.setIfInBounds_toArray, List.set_cons_zero, List.set_cons_succ]))
        refine tree_load_ex hS (by rfl) 51 (.tmp 7) rfl xb 0 rfl (insV x) (insV x) (fun y hy => hy.1) whole_at _ Try.underlying51 rfl 5 size_ins5 rfl ?_
        (try simp only [Act.put, List.setIfInBounds_toArray, List.set_cons_zero, List.set_cons_succ])
        refine tree_load_ex hS (by rfl) 26 (.tmp 5) rfl w.heap.size 0 rfl (oV o) (oV o) (fun y hy => hy.2) whole_at _ Try.underlying26 rfl 16 (by kernel_rfl) ((oV_len o).trans HOL.out) ?_
        (try simp only [Act.put, List.setIfInBounds_toArray, List.set_cons_zero, List.set_cons_succ])
        iterate 2 (refine tree_take (v := ?_) hS (by rfl) ?_ ?_; rotate_left; (intro y hy; (try dsimp only at hy); go_simp; try (with_reducible rfl)); (try simp only [Act.put, List.setIfInBounds_toArray, List.set_cons_zero, List.set_cons_succ]))
        refine tree_two hS (by rfl) (by rfl) (fun K hK => ?_) (fun K hK => ?_)
        · go_simp
          refine hK.out _ _ hS (fun _ => ?_)
          clear hK K
          (try simp only [Act.put, List.setIfInBounds_toArray, List.set_cons_zero, List.set_cons_succ])
          refine tree_call hS (by rfl) (fun K hK => ?_)
          go_simp
          refine (emitE_any x o P (k : Int) _ HOL.out).mono ?_; rintro e y0 ⟨vx, rfl, hrow, hnew, hb0⟩
          go_wp2_with fail
          have HF0 := Lib.hid (HF.out.drew.below hb0)
          have HR0 := Lib.hid hrow
          have hS1 : Box y0 xb (insV x) ∧ Box y0 w.heap.size (oV o) := ⟨hS.1.below hb0 hS.1.lt, hS.2.below hb0 hS.2.lt⟩
          have cP0 := HF0.out.cells
          have cF0 := HF0.out.frozen (i * 6 + 5)
          refine hK.out _ _ hS1 (fun _ => ?_)
          clear hK K hb0 hrow
          (try simp only [Act.put, List.setIfInBounds_toArray, List.set_cons_zero, List.set_cons_succ])
          refine tree_call hS1 (by rfl) (fun K hK => ?_)
          obtain ⟨n0, hn0⟩ : ∃ n0, n0 = (emitE (zeroed o) x P (k : Int)).length := ⟨_, rfl⟩
          have HN0 := Lib.hid hn0
          clear hn0
          refine wp_append_new _ (.tmp 48) (.tmp 53) 45 rfl M 53 i0 _ 9 72 Try.underlying45 HI.out HZ0.out HZ1.out HZ2.out rfl (by omega) ve (fillE (zeroed o) l b.from_.toNat k).length (flat celCells (fillE (zeroed o) l b.from_.toNat k)) rfl HF0.out.oe _ vx n0 (flat celCells (emitE (zeroed o) x P (k : Int))) rfl (by rw [HN0.out]; exact HR0.out) (flat_one9 _) (by unfold maxLen; have := HLF.out; have := HLE.out; rw [HN0.out]; omega) (by have := HLF.out; have := HLE.out; rw [HN0.out]; omega) HF0.out.lt.2.1 ?_
          intro v1 y1 hO hg hn
          obtain ⟨hF1, q1, ⟨u1, q2⟩, A1, k1, rfl⟩ := HF0.out.appE HBF.out (m := n0) (by rw [HIA.out, HPC.out]; exact HN0.out) (by rw [HIA.out, HPC.out]; exact hO) hg hn
          have HF1 := Lib.hid hF1
          have HNV : Hid ((Value.slice A1 ((fillE (zeroed o) l b.from_.toNat k).length + n0) k1).ownBlock ≠ some xb) := fun e => (hn _ e).elim (fun e2 => HNX.out.2 e2) (fun e2 => by have := hS1.1.lt; omega)
          have hS2 : Box y1 xb (insV x) ∧ Box y1 w.heap.size (oV o) := ⟨hS1.1.keepS (KeepS.of_grown (S := fun j => ve.ownBlock = some j) hg (fun g e => e)) HNX.out.2, hS1.2.keepS (KeepS.of_grown (S := fun j => ve.ownBlock = some j) hg (fun g e => e)) (fun e => by have := (HF0.out.oe.lt _ e).1; have := HMW.out; omega)⟩
          have hS3 : Box (y1.setCell ⟨bv, i * 6 + 5, none⟩ (.slice A1 ((fillE (zeroed o) l b.from_.toNat k).length + n0) k1)) xb (insV x) ∧ Box (y1.setCell ⟨bv, i * 6 + 5, none⟩ (.slice A1 ((fillE (zeroed o) l b.from_.toNat k).length + n0) k1)) w.heap.size (oV o) :=
            ⟨hS2.1.keepS ((KeepS.refl (fun j => j = bv) y1).setCell rfl _ _) (fun e => by have := HBX.out; omega), hS2.2.keepS ((KeepS.refl (fun j => j = bv) y1).setCell rfl _ _) (fun e => by have := HBW.out; omega)⟩
          clear hO hg hn hF1
          refine hK.out _ _ hS2 (fun _ => ?_)
          clear hK K
          (try simp only [Act.put, List.setIfInBounds_toArray, List.set_cons_zero, List.set_cons_succ])
          iterate 2 (refine tree_take (v := ?_) hS2 (by rfl) ?_ ?_; rotate_left; (intro y hy; (try dsimp only at hy); go_simp; try (with_reducible rfl)); (try simp only [Act.put, List.setIfInBounds_toArray, List.set_cons_zero, List.set_cons_succ]))
          refine tree_call hS2 (by rfl) (fun K hK => ?_)
          go_simp
          refine hK.out _ _ hS3 (fun _ => ?_)
          clear hK K
          exact tree_done ⟨(vx, .slice A1 ((fillE (zeroed o) l b.from_.toNat k).length + n0) k1), rfl, HF1.out, hS3, HNX.out.1, HNV.out⟩
        · go_simp
          refine (emitE_any x o P (k : Int) _ HOL.out).mono ?_; rintro e y0 ⟨vx, rfl, hrow, hnew, hb0⟩
          go_wp2_with fail
          have HF0 := Lib.hid (HF.out.drew.below hb0)
          have HR0 := Lib.hid hrow
          have hS1 : Box y0 xb (insV x) ∧ Box y0 w.heap.size (oV o) := ⟨hS.1.below hb0 hS.1.lt, hS.2.below hb0 hS.2.lt⟩
          have cP0 := HF0.out.cells
          have cF0 := HF0.out.frozen (i * 6 + 5)
          refine hK.out _ _ hS1 (fun _ => ?_)
          clear hK K hb0 hrow
          (try simp only [Act.put, List.setIfInBounds_toArray, List.set_cons_zero, List.set_cons_succ])
          refine tree_call hS1 (by rfl) (fun K hK => ?_)
          go_simp
          refine hK.out _ _ hS1 (fun _ => ?_)
          clear hK K
          (try simp only [Act.put, List.setIfInBounds_toArray, List.set_cons_zero, List.set_cons_succ])
          refine tree_call hS1 (by rfl) (fun K hK => ?_)
          obtain ⟨n0, hn0⟩ : ∃ n0, n0 = (emitE (zeroed o) x P (k : Int)).length := ⟨_, rfl⟩
          have HN0 := Lib.hid hn0
          clear hn0
          refine wp_append_new _ (.tmp 48) (.tmp 53) 45 rfl M 53 i0 _ 9 72 Try.underlying45 HI.out HZ0.out HZ1.out HZ2.out rfl (by omega) ve (fillE (zeroed o) l b.from_.toNat k).length (flat celCells (fillE (zeroed o) l b.from_.toNat k)) rfl HF0.out.oe _ vx n0 (flat celCells (emitE (zeroed o) x P (k : Int))) rfl (by rw [HN0.out]; exact HR0.out) (flat_one9 _) (by unfold maxLen; have := HLF.out; have := HLE.out; rw [HN0.out]; omega) (by have := HLF.out; have := HLE.out; rw [HN0.out]; omega) HF0.out.lt.2.1 ?_
          intro v1 y1 hO hg hn
          obtain ⟨hF1, q1, ⟨u1, q2⟩, A1, k1, rfl⟩ := HF0.out.appE HBF.out (m := n0) (by rw [HIA.out, HPC.out]; exact HN0.out) (by rw [HIA.out, HPC.out]; exact hO) hg hn
          have HF1 := Lib.hid hF1
          have HNV : Hid ((Value.slice A1 ((fillE (zeroed o) l b.from_.toNat k).length + n0) k1).ownBlock ≠ some xb) := fun e => (hn _ e).elim (fun e2 => HNX.out.2 e2) (fun e2 => by have := hS1.1.lt; omega)
          have hS2 : Box y1 xb (insV x) ∧ Box y1 w.heap.size (oV o) := ⟨hS1.1.keepS (KeepS.of_grown (S := fun j => ve.ownBlock = some j) hg (fun g e => e)) HNX.out.2, hS1.2.keepS (KeepS.of_grown (S := fun j => ve.ownBlock = some j) hg (fun g e => e)) (fun e => by have := (HF0.out.oe.lt _ e).1; have := HMW.out; omega)⟩
          have hS3 : Box (y1.setCell ⟨bv, i * 6 + 5, none⟩ (.slice A1 ((fillE (zeroed o) l b.from_.toNat k).length + n0) k1)) xb (insV x) ∧ Box (y1.setCell ⟨bv, i * 6 + 5, none⟩ (.slice A1 ((fillE (zeroed o) l b.from_.toNat k).length + n0) k1)) w.heap.size (oV o) :=
            ⟨hS2.1.keepS ((KeepS.refl (fun j => j = bv) y1).setCell rfl _ _) (fun e => by have := HBX.out; omega), hS2.2.keepS ((KeepS.refl (fun j => j = bv) y1).setCell rfl _ _) (fun e => by have := HBW.out; omega)⟩
          clear hO hg hn hF1
          refine hK.out _ _ hS2 (fun _ => ?_)
          clear hK K
          (try simp only [Act.put, List.setIfInBounds_toArray, List.set_cons_zero, List.set_cons_succ])
          iterate 2 (refine tree_take (v := ?_) hS2 (by rfl) ?_ ?_; rotate_left; (intro y hy; (try dsimp only at hy); go_simp; try (with_reducible rfl)); (try simp only [Act.put, List.setIfInBounds_toArray, List.set_cons_zero, List.set_cons_succ]))
          refine tree_call hS2 (by rfl) (fun K hK => ?_)
          go_simp
          refine hK.out _ _ hS3 (fun _ => ?_)
          clear hK K
          exact tree_done ⟨(vx, .slice A1 ((fillE (zeroed o) l b.from_.toNat k).length + n0) k1), rfl, HF1.out, hS3, HNX.out.1, HNV.out⟩

      rintro ⟨vy, v2⟩ w6 ⟨hF6, hS6, hN6⟩
      dsimp only at hF6
      have HF6 := Lib.hid hF6
      clear hF6 hS6 hN6 HF HXB HOB HNX
      simp only [Act.put, List.setIfInBounds_toArray, List.set_cons_zero, List.set_cons_succ]
      go_wp2_with fail
      go_roundw
      case rel => exact ⟨k + 1, v1, v2, by omega, by go_num, HF6.out⟩
      case measure => simp only [intOf]; omega
    · have HE : Hid (FsR base bv cap (zeroed o) l bs (i + 1) w wr) := ((HFr.out.rest HBF.out HBT.out (by have := HN.out; omega)).again.from (KeepS.of_below (HK.out) |>.trans (HFr.out.keep.mono (fun _ e => e))))
      go_wp2_with fail
      first | exact bodyPost_ret (v := .tuple #[]) (by simp [results, Try.results25, go_sem]) rfl ⟨rfl, HE.out⟩ | exact bodyPost_end (v := .tuple #[]) (by simp [results, Try.results25, go_sem]) rfl ⟨rfl, HE.out⟩
end Go.Proofs.Ytbibfpopkcekdaa.Words

/- Contract of package split's With: a program's blocks with their cells. -/
namespace Go.Proofs.Ytbibfpopkcekdaa.Words
set_option maxRecDepth 100000
open Go.RowKit
set_option linter.unusedVariables false
set_option linter.unusedSimpArgs false

set_option maxHeartbeats 2000000 in
theorem with_any (A : Option Addr) (c : Nat) (sz : Int) (A' : Option Addr) (m c' : Nat) (l : List Ins) (o : List Int) (w : World) (hr : Row w w.heap.size 5 (.slice A l.length c) l.length (codeCells l)) (hm : m ≤ c') (hc' : c' ≤ 9223372036854775807) (ho : o.length = 16) :
    Calls Try.prog 12 #[.agg #[.slice A l.length c, .int .i64 sz, .slice A' m c'], .agg (oV o).toArray] w
      (WithOut w (withZ l sz m o) (ownW l sz m o) (errW l sz m o)) := by
  obtain ⟨W1, hW1⟩ : ∃ W1, W1 = w.alloc (.cells #[.slice A l.length c, .int .i64 sz, .slice A' m c'] 25) := ⟨_, rfl⟩
  obtain ⟨W2, hW2⟩ : ∃ W2, W2 = W1.alloc (.cells (oV o).toArray 26) := ⟨_, rfl⟩
  obtain ⟨W3, hW3⟩ : ∃ W3, W3 = W2.alloc (.cells zeroSpl.toArray 29) := ⟨_, rfl⟩
  have hz1 : W1.heap.size = w.heap.size + 1 := by rw [hW1]; simp
  have hz2 : W2.heap.size = w.heap.size + 2 := by rw [hW2]; simp [hz1]
  have hz3 : W3.heap.size = w.heap.size + 3 := by rw [hW3]; simp [hz2]
  have HK3 : Hid (Below w.heap.size w W3) := by rw [hW3, hW2, hW1]; exact (((Below.refl w.heap.size w).alloc (Nat.le_refl _) _).alloc (by simp) _).alloc (by simp; omega) _
  have HP3 : Hid (Box W3 w.heap.size [.slice A l.length c, .int .i64 sz, .slice A' m c']) := by rw [hW3, hW2, hW1]; exact ((Box.new w [.slice A l.length c, .int .i64 sz, .slice A' m c'] _).alloc _).alloc _
  have HO3 : Hid (Box W3 (w.heap.size + 1) (oV o)) := by rw [hW3, hW2, ← hz1]; exact (Box.new W1 (oV o) _).alloc _
  have HS3 : Hid (Box W3 (w.heap.size + 2) zeroSpl) := by rw [hW3, ← hz2]; exact Box.new W2 zeroSpl _
  have HR3 := Lib.hid (hr.below HK3.out)
  have HZ3 : Hid (W3.heap.size = w.heap.size + 3) := hz3
  have HOL := Lib.hid ho
  have HCAP := Lib.hid (⟨hm, hc'⟩ : m ≤ c' ∧ c' ≤ 9223372036854775807)
  have HCL := Lib.hid hr.cap
  clear hr hm hc' ho hz1 hz2 hz3
  go_enter Try.func12, Try.ntmps12
  go_upto_region 1 with (fail)
  change Code.wp _ _ _ _ (((w.alloc (.cells #[.slice A l.length c, .int .i64 sz, .slice A' m c'] 25)).alloc (.cells (oV o).toArray 26)).alloc (.cells zeroSpl.toArray 29))
  rw [← hW1, ← hW2, ← hW3]
  clear hW1 hW2 hW3
  go_wp2_with (first
    | (refine wpList_load_box rfl 25 (.tmp 2) rfl w.heap.size 0 rfl [.slice A l.length c, .int .i64 sz, .slice A' m c'] [.slice A l.length c, .int .i64 sz, .slice A' m c'] HP3.out whole_at _ Try.underlying25 rfl 3 size_prg rfl ?_)
    | (refine wpList_load_box rfl 26 (.tmp 3) rfl (w.heap.size + 1) 0 rfl (oV o) (oV o) HO3.out whole_at _ Try.underlying26 rfl 16 (by kernel_rfl) ((oV_len o).trans HOL.out) ?_))
  refine (closed_any A c sz A' m c' l o _ (HR3.out.more (by have := HZ3.out; omega)) HCAP.out.1 HCAP.out.2 HOL.out).mono ?_; rintro e w4 ⟨rfl, hb⟩
  have HK4 := Lib.hid (HK3.out.trans (hb.mono (by have := HZ3.out; omega)))
  have HP4 := Lib.hid (HP3.out.below hb HP3.out.lt)
  have HO4 := Lib.hid (HO3.out.below hb HO3.out.lt)
  have HS4 := Lib.hid (HS3.out.below hb HS3.out.lt)
  have HZ4 : Hid (w.heap.size + 3 ≤ w4.heap.size) := by have := HZ3.out; have := hb.size; show _ ≤ _; omega
  have HR4 := Lib.hid (HR3.out.below (hb.mono (by have := HZ3.out; omega)))
  clear hb
  cases hcl : closedZ l sz m o
  · have HW := Lib.hid (with_no hcl)
    try dsimp only
    go_wp2_with (first
      | (refine wpList_store_box rfl 29 (.tmp 4) (.tmp 12) rfl (w.heap.size + 2) 0 zeroSpl rfl rfl zeroSpl HS4.out (by decide) 17 size_spl rfl (splV_one rfl) ?_; intro w5 B5 hg5; rw [splice_whole zeroSpl zeroSpl rfl] at B5))
    refine bodyPost_ret (v := .tuple #[.agg zeroSpl.toArray, .int .i64 1]) (results_cell_tmp' Try.results12 _ _ _ ⟨w.heap.size + 2, 0, none⟩ _ _ rfl (load_spl rfl B5) rfl) rfl ⟨.slice none 0 0, by rw [HW.out.2.1, HW.out.2.2]; rfl, ?_, ?_⟩
    · rw [HW.out.1]; exact ⟨[], Row.nil _ _ _, NewV.none _, rfl, fun k r c h => by simp at h⟩
    · exact HK4.out.grown hg5 (by have := HZ4.out; omega) (fun q hq => by injection hq with hq; omega)
  · have HW := Lib.hid (with_yes hcl)
    have HC1 := Lib.hid (cut_some hcl)
    clear hcl
    obtain ⟨bs, hbs⟩ : ∃ bs, bs = cutR l sz m := ⟨_, rfl⟩
    have HBS := Lib.hid hbs
    clear hbs
    try dsimp only
    go_wp2_with fail
    have hk4 : Kept w4 w4.drew := (Kept.refl w4).drew
    refine region_tree_ex (fun (act : Act) (B : Nat × Value) => ((((act.put (some 13) (.agg #[.slice A l.length c, .int .i64 sz, .slice A' m c'])).put (some 15) (.agg (oV o).toArray)).put (some 14) B.2).put (some 16) (.agg (splV B.2 o).toArray)).put (some 6) (.pointer (some ⟨B.1, 0, none⟩)))
      (fun B y => Box y B.1 (splV B.2 o) ∧ y.ownsRow w4.heap.size 47 6 B.2 bs.length (flat blkL bs) ∧ Kept w4 y ∧ w4.heap.size ≤ B.1 ∧ B.2.ownBlock ≠ some B.1)
      (LinT.of [(0, true), (2, true)] (.two 1 4 (LinT.of [(3, true), (4, false), (5, false)] .nil) (LinT.of [(1, false), (3, true), (5, false)] .nil)))
      (by kernel_rfl) (by kernel_rfl) rfl (by kernel_rfl) (Kept w4) ?_ ?_
    · simp only [LinT.of, LinT.look, List.getElem?_toArray, List.getElem?_cons_succ, List.getElem?_cons_zero]
      refine tree_load_ex hk4 (by rfl) 25 (.tmp 2) rfl w.heap.size 0 rfl [.slice A l.length c, .int .i64 sz, .slice A' m c'] [.slice A l.length c, .int .i64 sz, .slice A' m c'] (fun y hy => HP4.out.kept hy) whole_at _ Try.underlying25 rfl 3 size_prg rfl ?_
      simp only [Act.put, List.setIfInBounds_toArray, List.set_cons_zero, List.set_cons_succ]
      refine tree_load_ex hk4 (by rfl) 26 (.tmp 3) rfl (w.heap.size + 1) 0 rfl (oV o) (oV o) (fun y hy => HO4.out.kept hy) whole_at _ Try.underlying26 rfl 16 (by kernel_rfl) ((oV_len o).trans HOL.out) ?_
      simp only [Act.put, List.setIfInBounds_toArray, List.set_cons_zero, List.set_cons_succ]
      refine tree_two hk4 (by rfl) (by rfl) (fun K hK => ?_) (fun K hK => ?_)
      · go_simp
        refine (blkCut_any A c sz A' m c' l _ (by exact (HR4.out.more (B' := w4.heap.size) (by have := HZ4.out; omega)).drew) HCAP.out.1 HCAP.out.2).mono ?_; rintro e w5 ⟨v, rfl, hO, hb⟩
        rw [← HBS.out] at hO
        obtain ⟨A5, c5, rfl⟩ := (Row.of_own hO).form
        go_wp2_with fail
        have hk5 := hk4.to hb
        have HO5 := Lib.hid hO
        refine hK.out _ _ hk5 (fun _ => ?_)
        clear hK K hb hO
        (try simp only [Act.put, List.setIfInBounds_toArray, List.set_cons_zero, List.set_cons_succ])
        refine tree_take (v := .agg (splV (.slice A5 bs.length c5) o).toArray) hk5 (by rfl) (fun x hx => exec_built _ _ rfl _ (by simp only [List.map_toArray, List.map_cons, List.map_nil]; exact spl_built A5 bs.length c5 o HOL.out) x) ?_
        (try simp only [Act.put, List.setIfInBounds_toArray, List.set_cons_zero, List.set_cons_succ])
        refine tree_call hk5 (by rfl) (fun K hK => ?_)
        go_simp
        have hk6 : Kept w4 (w5.alloc (.cells zeroSpl.toArray 29)) := hk5.alloc _
        have HB6 := Lib.hid (Box.new w5 zeroSpl 29)
        have HO6 := Lib.hid (HO5.out.alloc (.cells zeroSpl.toArray 29))
        have HNB : Hid ((Value.slice A5 bs.length c5).ownBlock ≠ some w5.heap.size) := fun e => by have := (HO5.out.lt _ e).2; omega
        refine hK.out _ _ hk6 (fun _ => ?_)
        clear hK K
        change wpT _ _ _ _ _ _ _ (w5.alloc (.cells zeroSpl.toArray 29))
        (try simp only [Act.put, List.setIfInBounds_toArray, List.set_cons_zero, List.set_cons_succ])
        refine tree_put_cells hk6 (by rfl) 29 (.tmp 6) (.tmp 16) rfl w5.heap.size 0 (splV (.slice A5 bs.length c5) o) rfl rfl zeroSpl HB6.out (by rw [splV_len HOL.out]; decide) 17 size_spl (splV_len HOL.out) (splV_one rfl) (fun y hy hg => Below.grown hk6 hg hk6.size (fun q hq => by injection hq with hq; have := hk5.size; omega)) ?_
        intro yz hbz hgz
        rw [splice_whole zeroSpl (splV (.slice A5 bs.length c5) o) (by rw [splV_len HOL.out]; rfl)] at hbz
        (try simp only [Act.put, List.setIfInBounds_toArray, List.set_cons_zero, List.set_cons_succ])
        exact tree_done ⟨(w5.heap.size, .slice A5 bs.length c5), rfl, hbz, own_grown HO6.out hgz (fun g e1 e2 => by injection e2 with e2; subst e2; exact HNB.out e1), Below.grown hk6 hgz hk6.size (fun q hq => by injection hq with hq; have := hk5.size; omega), hk5.size, HNB.out⟩
      · go_simp
        have hk5 : Kept w4 (w4.drew.alloc (.cells zeroSpl.toArray 29)) := hk4.alloc _
        have HB5 := Lib.hid (Box.new w4.drew zeroSpl 29)
        refine hK.out _ _ hk5 (fun _ => ?_)
        clear hK K
        change wpT _ _ _ _ _ _ _ (w4.drew.alloc (.cells zeroSpl.toArray 29))
        (try simp only [Act.put, List.setIfInBounds_toArray, List.set_cons_zero, List.set_cons_succ])
        obtain ⟨w5, hw5⟩ : ∃ w5, w5 = w4.drew.alloc (.cells zeroSpl.toArray 29) := ⟨_, rfl⟩
        have HZ5 : Hid (w5.heap.size = w4.heap.size + 1) := by show _ = _; rw [hw5]; simp
        rw [← hw5] at hk5 HB5 ⊢
        clear hw5
        refine tree_call hk5 (by rfl) (fun K hK => ?_)
        go_simp
        refine (blkCut_any A c sz A' m c' l _ (by exact (HR4.out.more (by have := HZ4.out; omega)).below hk5 |>.more hk5.size) HCAP.out.1 HCAP.out.2).mono ?_; rintro e w6 ⟨v, rfl, hO, hb⟩
        rw [← HBS.out] at hO
        obtain ⟨A5, c5, rfl⟩ := (Row.of_own hO).form
        go_wp2_with fail
        have hk6 := hk5.to hb
        have HO6 := Lib.hid hO
        have HB6 : Hid (Box w6 w4.heap.size zeroSpl) := HB5.out.below hb HB5.out.lt
        have HNB : Hid ((Value.slice A5 bs.length c5).ownBlock ≠ some w4.heap.size) := fun e => by have := (HO6.out.lt _ e).1; have := HZ5.out; omega
        refine hK.out _ _ hk6 (fun _ => ?_)
        clear hK K hb hO
        (try simp only [Act.put, List.setIfInBounds_toArray, List.set_cons_zero, List.set_cons_succ])
        refine tree_take (v := .agg (splV (.slice A5 bs.length c5) o).toArray) hk6 (by rfl) (fun x hx => exec_built _ _ rfl _ (by simp only [List.map_toArray, List.map_cons, List.map_nil]; exact spl_built A5 bs.length c5 o HOL.out) x) ?_
        (try simp only [Act.put, List.setIfInBounds_toArray, List.set_cons_zero, List.set_cons_succ])
        refine tree_put_cells hk6 (by rfl) 29 (.tmp 6) (.tmp 16) rfl w4.heap.size 0 (splV (.slice A5 bs.length c5) o) rfl rfl zeroSpl HB6.out (by rw [splV_len HOL.out]; decide) 17 size_spl (splV_len HOL.out) (splV_one rfl) (fun y hy hg => Below.grown hk6 hg hk6.size (fun q hq => by injection hq with hq; omega)) ?_
        intro yz hbz hgz
        rw [splice_whole zeroSpl (splV (.slice A5 bs.length c5) o) (by rw [splV_len HOL.out]; rfl)] at hbz
        (try simp only [Act.put, List.setIfInBounds_toArray, List.set_cons_zero, List.set_cons_succ])
        exact tree_done ⟨(w4.heap.size, .slice A5 bs.length c5), rfl, hbz, own_less (own_grown HO6.out hgz (fun g e1 e2 => by injection e2 with e2; subst e2; exact HNB.out e1)) (by have := HZ5.out; omega), Below.grown hk6 hgz hk6.size (fun q hq => by injection hq with hq; omega), Nat.le_refl _, HNB.out⟩
    rintro ⟨BS, v⟩ w7 ⟨hB7, hO7, hk7, hB47, hne⟩
    dsimp only at hB7 hO7 hB47 hne
    obtain ⟨bv, cap, rfl, hbv, hbz⟩ := own_form hO7 (by have := HC1.out.1; rw [← HBS.out] at this; omega)
    have hne' : BS ≠ bv := fun e => hne (by rw [e]; rfl)
    have HNE := Lib.hid hne'
    have HBV : Hid (w.heap.size + 2 < bv) := by have := HZ4.out; show _ < _; omega
    have HC7 : Hid (WithC w.heap.size BS A c sz A' m c' l o (.slice (some ⟨bv, 0, none⟩) bs.length cap) w7) :=
      ⟨HP4.out.kept hk7, HO4.out.kept hk7, HS4.out.kept hk7, hB7, HR4.out.below (hk7.mono (by have := HZ4.out; omega))⟩
    have HF7 : Hid (FsR w4.heap.size bv cap (zeroed o) l bs 0 w7 w7) := FsR.first hO7
    have HK7 := Lib.hid (HK4.out.trans (hk7.mono (by have := HZ4.out; omega)))
    have HLL := Lib.hid HC1.out.2
    have HBE := Lib.hid (fun (k : Nat) (b : Blk) (h : bs[k]? = some b) => blk_ends (l := l) (sz := sz) (m := m) (k := k) (b := b) (by rw [← HBS.out]; exact h))
    have HBL : bs.length ≤ 2000 := by have h1 := cut_len l sz m; rw [← HBS.out] at h1; have := HLL.out; show _ ≤ _; omega
    have HCL2 := HCL.out
    clear hO7 hB7 hk7 hB47 hne hbv hbz hne' hk4
    generalize hn : bs.length = n at HC7 HBL ⊢
    have HBL := Lib.hid HBL
    have HN := Lib.hid hn
    clear hn
    simp only [Act.put, List.setIfInBounds_toArray, List.set_cons_zero, List.set_cons_succ]
    have hq0 : w7.cell? ⟨BS, 0, none⟩ = some (.slice (some ⟨bv, 0, none⟩) n cap) := HC7.out.ft.cell rfl
    have hgn : (0 : Int) ≤ n := by omega
    go_wp2_with fail
    clear hq0
    go_loopw [20] (fun ii wr => ∃ k : Nat, k ≤ n ∧ ii = .int .i64 k ∧ FsR w4.heap.size bv cap (zeroed o) l bs k w7 wr) (fun ii _ => n - (intOf ii).toNat)
    case atStart => exact ⟨0, Nat.zero_le _, rfl, HF7.out⟩
    case round =>
      obtain ⟨k, hkn, rfl, hF⟩ := hrel
      have HFr := Lib.hid hF
      clear hF
      by_cases hlt : k < n
      · obtain ⟨b, hb⟩ := bs_at (l := bs) (k := k) (by have := HN.out; omega)
        obtain ⟨f, t, h1, h2, hft, htl⟩ := HBE.out k b hb
        have HCr := Lib.hid (HC7.out.keepS HFr.out.keep HBV.out HNE.out)
        have g0 : (0 : Int) ≤ k := by omega
        have g1 : (k : Int) < n := by omega
        have g2 : (k : Int) ≤ 2000 := by have := HBL.out; omega
        have HX := Lib.hid (fill_any w4.heap.size bv cap k o l bs b A c f t w.heap.size wr.drew HFr.out.drew.again hb h1 h2 hft htl HLL.out HCr.out.fr.drew (by have := HBV.out; omega) HOL.out)
        clear hb h1 h2 hft htl
        have k0 : KeepS (fun j => j = bv) wr wr.drew := (KeepS.refl _ wr).drew
        go_upto_region 7 with (fail)
        refine wp_region_lin [(0, true), (1, true), (2, true), (3, true), (4, true), (5, true), (6, true), (7, false)]
          (by kernel_rfl) (by kernel_rfl) rfl (by kernel_rfl) (KeepS (fun j => j = bv) wr) ?_
        simp only [List.map_cons, List.map_nil, List.getElem?_toArray, List.getElem?_cons_succ, List.getElem?_cons_zero]
        have ct := fun (y : World) (hy : KeepS (fun j => j = bv) wr y) => (HCr.out.keepS hy HBV.out HNE.out).ft.cell (splV_0 _ _)
        have cp := fun (y : World) (hy : KeepS (fun j => j = bv) wr y) => (HCr.out.keepS hy HBV.out HNE.out).fp.cell (k := 0) rfl
        iterate 6 (refine lin_take (v := ?_) k0 (by rfl) ?_ ?_; rotate_left; (intro y hy; have ct1 := ct y hy; have cp1 := cp y hy; go_simp; try (with_reducible rfl)); (try simp only [Act.put, List.setIfInBounds_toArray, List.set_cons_zero, List.set_cons_succ]))
        refine lin_take_box k0 rfl 26 (.tmp 3) rfl (w.heap.size + 1) 0 rfl (oV o) (oV o) (fun y hy => (HCr.out.keepS hy HBV.out HNE.out).fo) whole_at _ Try.underlying26 rfl 16 (by kernel_rfl) ((oV_len o).trans HOL.out) ?_
        (try simp only [Act.put, List.setIfInBounds_toArray, List.set_cons_zero, List.set_cons_succ])
        refine lin_call k0 (by rfl) (fun K hK => ?_)
        go_simp
        refine HX.out.mono ?_; rintro e w8 ⟨rfl, hF8⟩
        go_wp2_with fail
        refine hK.out _ _ (k0.trans hF8.keep) (fun _ => ?_)
        refine lin_done ?_
        have HF8 := Lib.hid (hF8.from HFr.out.drew.keep)
        clear hF8 HX HFr HCr hK K ct cp k0
        go_wp2_with fail
        go_roundw
        case rel => exact ⟨k + 1, by omega, by go_num, HF8.out⟩
        case measure => simp only [intOf]; omega
      · have HFr' := HFr
        have hge : ¬ (k : Int) < n := by omega
        have HE : Hid (FsR w4.heap.size bv cap (zeroed o) l bs bs.length w7 wr) := by rw [HN.out, show n = k by omega]; exact HFr.out
        have HCr := Lib.hid (HC7.out.keepS HFr.out.keep HBV.out HNE.out)
        go_wp2_with (first
          | (refine wpList_load_box rfl 29 (.tmp 6) rfl BS 0 rfl (splV (.slice (some ⟨bv, 0, none⟩) n cap) o) (splV (.slice (some ⟨bv, 0, none⟩) n cap) o) HCr.out.ft whole_at _ Try.underlying29 rfl 17 size_spl (splV_len HOL.out) ?_)
          | (refine wpList_store_box rfl 29 (.tmp 4) (.tmp 32) rfl (w.heap.size + 2) 0 (splV (.slice (some ⟨bv, 0, none⟩) n cap) o) rfl rfl zeroSpl HCr.out.fs (by rw [splV_len HOL.out]; decide) 17 size_spl (splV_len HOL.out) (splV_one rfl) ?_; intro w8 B8 hg8; rw [splice_whole zeroSpl (splV (.slice (some ⟨bv, 0, none⟩) n cap) o) (by rw [splV_len HOL.out]; rfl)] at B8))
        refine bodyPost_ret (v := .tuple #[.agg (splV (.slice (some ⟨bv, 0, none⟩) n cap) o).toArray, .int .i64 0]) (results_cell_tmp' Try.results12 _ _ _ ⟨w.heap.size + 2, 0, none⟩ _ _ rfl (load_spl HOL.out B8) rfl) rfl ⟨.slice (some ⟨bv, 0, none⟩) n cap, by rw [HW.out.2.1, HW.out.2.2], ?_, ?_⟩
        · rw [HW.out.1, ← HBS.out]
          have hV := HE.out.all_keep (KeepS.of_grown (S := fun j => j = w.heap.size + 2) hg8 (fun q hq => by injection hq with hq; exact hq.symm)) (fun j e => by have := HBV.out; omega) (lo := w.heap.size) (by have := HBV.out; omega)
          rw [HN.out] at hV
          exact hV
        · exact Below.grown (HK7.out.trans (HFr.out.keep.below (B := w.heap.size) (by have := HK7.out.size; omega) (fun j e => by have := HBV.out; omega))) hg8 (by have := HCr.out.fs.lt; omega) (fun q hq => by injection hq with hq; omega)
end Go.Proofs.Ytbibfpopkcekdaa.Words

/- The document's own maker of cells: its block, and contracts of ins, reg, plain, regs. -/
namespace Go.Proofs.Ytbibfpopkcekdaa.Words
set_option maxRecDepth 100000
open Go.RowKit
set_option linter.unusedVariables false
set_option linter.unusedSimpArgs false

/-- A maker in block b, its cells in a row of the call's own behind B. -/
structure Mk (b B : Nat) (pc off : Int) (Z : World) (v : Value) (l : List Cel) : Prop where
  bx : Box Z b [.int .i64 pc, .int .i64 off, v]
  own : Z.ownsRow B 53 9 v l.length (flat celCells l)
  hb : b < B
  hB : B ≤ Z.heap.size
section
variable {b B : Nat} {pc off : Int} {Z Y : World} {v v' : Value} {l : List Cel}
theorem Mk.lt (h : Mk b B pc off Z v l) : b < Z.heap.size := h.bx.lt
theorem Mk.keepS {T : Nat → Prop} (h : Mk b B pc off Z v l) (hS : KeepS T Z Y) (hs : ¬ T b) (ho : ∀ g, v.ownBlock = some g → ¬ T g) : Mk b B pc off Y v l :=
  ⟨h.bx.keepS hS hs, own_keepS h.own hS ho, h.hb, Nat.le_trans h.hB hS.size⟩
theorem Mk.below (h : Mk b B pc off Z v l) (hb : Below Z.heap.size Z Y) : Mk b B pc off Y v l := h.keepS (KeepS.of_below (S := fun _ => False) hb) (fun e => e) (fun _ _ e => e)
theorem Mk.alloc (h : Mk b B pc off Z v l) (o : Obj) : Mk b B pc off (Z.alloc o) v l := h.below ((Below.refl _ _).alloc (Nat.le_refl _) o)
theorem Mk.drew (h : Mk b B pc off Z v l) : Mk b B pc off Z.drew v l := h.below (Below.refl _ _).drew
/-- What a step of the maker leaves. -/
def MkOut (b B : Nat) (pc off : Int) (v : Value) (l : List Cel) (w w' : World) : Prop :=
  ∃ v', Mk b B pc off w' v' l ∧ KeepS (fun j => j = b ∨ v.ownBlock = some j) w w' ∧ (∀ g, v'.ownBlock = some g → v.ownBlock = some g ∨ w.heap.size ≤ g)
theorem Mk.app {W : World} (h : Mk b B pc off Z v l) (hW : Below W.heap.size W Z) {o : Obj} {c : Cel} (hO : Y.ownsRow B 53 9 v' (l.length + 1) (flat celCells l ++ celCells c)) (hg : (Z.alloc o).grownBy Y v.ownBlock)
    (hn : ∀ g, v'.ownBlock = some g → v.ownBlock = some g ∨ (Z.alloc o).heap.size ≤ g) :
    MkOut b B pc off v (l ++ [c]) W (Y.setCell ⟨b, 2, none⟩ v') ∧ Box Y b [.int .i64 pc, .int .i64 off, v] ∧ ∃ A k, v' = .slice A (l.length + 1) k := by
  have h1 := h.lt
  have ha := h.alloc o
  have hob : ∀ g, v.ownBlock = some g → b < g := fun g hg => by have := (h.own.lt g hg).1; have := h.hb; omega
  have kg : KeepS (fun j => v.ownBlock = some j) (Z.alloc o) Y := KeepS.of_grown hg (fun g e => e)
  have kb : KeepS (fun j => j = b) Y (Y.setCell ⟨b, 2, none⟩ v') := (KeepS.refl (fun j => j = b) Y).setCell rfl 2 _
  have hby : Box Y b [.int .i64 pc, .int .i64 off, v] := ha.bx.keepS kg (fun e => Nat.lt_irrefl _ (hob b e))
  have hne' : v'.ownBlock ≠ some b := fun e => by have := (hO.lt _ e).1; have := h.hb; omega
  have k1 : KeepS (fun j => j = b ∨ v.ownBlock = some j) W (Y.setCell ⟨b, 2, none⟩ v') :=
    (((KeepS.of_below (S := fun j => j = b ∨ v.ownBlock = some j) hW).alloc o).trans (kg.mono (fun k e => .inr e))).trans (kb.mono (fun k e => .inl e))
  refine ⟨⟨v', ⟨hby.setCell 2 v', ?_, h.hb, Nat.le_trans ha.hB (Nat.le_trans kg.size kb.size)⟩, k1, ?_⟩, hby, ?_⟩
  · rw [List.length_append, ← flat_snocL]
    exact ownsRow_setCell_other hO hne' _
  · intro g hg1
    rcases hn g hg1 with e | e
    · exact .inl e
    · exact .inr (Nat.le_trans hW.size (Nat.le_trans (by simp) e))
  · obtain ⟨A, k, e⟩ := (Row.of_own hO).form
    exact ⟨A, k, e⟩
end

set_option maxHeartbeats 4000000 in
theorem mkPlain_any {b B : Nat} {pc off : Int} {v : Value} {l : List Cel} (k : Int) (w : World) (h : Mk b B pc off w v l) (hl : l.length ≤ 100) :
    Calls Try.prog 56 #[.pointer (some ⟨b, 0, none⟩), .int .i64 k] w fun e w' => e = .returned (.tuple #[]) ∧ MkOut b B pc off v (l ++ [bareC k pc off]) w w' := by
  have HL := Lib.hid hl
  obtain ⟨i0, hi, hz0, hz1, hz2⟩ := info_parts info_cel
  have HI := Lib.hid hi
  have HZ0 := Lib.hid hz0
  have HZ1 := Lib.hid hz1
  have HZ2 := Lib.hid hz2
  clear hi hz0 hz1 hz2
  have HM := Lib.hid h
  have HBW : Hid (Below w.heap.size w w) := Below.refl _ w
  clear h hl
  go_enter Try.func56, Try.ntmps56
  go_wp2_with fail
  refine region_tree_ex (fun (act : Act) (B' : Value) => (((((((((((((((((((act.put (some 4) (.pointer (some ⟨b, 0, none⟩))).put (some 5) (.pointer (some ⟨b, 0, none⟩))).put (some 6) (.pointer (some ⟨b, 0, none⟩))).put (some 7) (.pointer (some ⟨b, 2, none⟩))).put (some 8) v).put (some 9) (.int .i64 k)).put (some 10) (.pointer (some ⟨b, 0, none⟩))).put (some 11) (.pointer (some ⟨b, 0, none⟩))).put (some 12) (.pointer (some ⟨b, 0, none⟩))).put (some 13) (.int .i64 pc)).put (some 14) (.pointer (some ⟨b, 0, none⟩))).put (some 15) (.pointer (some ⟨b, 0, none⟩))).put (some 16) (.pointer (some ⟨b, 1, none⟩))).put (some 17) (.int .i64 off)).put (some 18) (.agg (celCells (bareC k pc off)).toArray)).put (some 19) (.slice (some ⟨w.heap.size, 0, none⟩) 1 1)).put (some 20) B').put (some 21) (.pointer (some ⟨b, 0, none⟩))).put (some 22) (.pointer (some ⟨b, 2, none⟩))))
    (fun _ y => MkOut b B pc off v (l ++ [bareC k pc off]) w y)
    (LinT.of [(0, true), (1, true), (2, true), (3, true), (5, true), (6, true), (7, true), (8, true), (9, true), (10, true), (11, true), (12, true), (13, true), (14, true)] (.two 4 15 (LinT.of [(15, false), (16, false), (17, true), (18, true), (19, false)] .nil) (LinT.of [(4, false), (16, false), (17, true), (18, true), (19, false)] .nil)))
    (by kernel_rfl) (by kernel_rfl) rfl (by kernel_rfl) (fun y => (y.cell? ⟨b, 0, none⟩ = some (.int .i64 pc) ∧ y.cell? ⟨b, 1, none⟩ = some (.int .i64 off)) ∧ True) ?_ ?_
  · simp only [LinT.of, LinT.look, List.getElem?_toArray, List.getElem?_cons_succ, List.getElem?_cons_zero]
    have cL : w.drew.cell? ⟨b, 2, none⟩ = some v := HM.out.bx.cell (k := 2) rfl
    have cL2 : w.cell? ⟨b, 2, none⟩ = some v := HM.out.bx.cell (k := 2) rfl
    have hS0 : (w.drew.cell? ⟨b, 0, none⟩ = some (.int .i64 pc) ∧ w.drew.cell? ⟨b, 1, none⟩ = some (.int .i64 off)) ∧ True := ⟨⟨HM.out.bx.cell (k := 0) rfl, HM.out.bx.cell (k := 1) rfl⟩, trivial⟩
    have HMA : Hid (Mk b B pc off (w.drew.alloc (.cells (celCells (bareC k pc off)).toArray 53)) v l) := HM.out.drew.alloc _
    have cL3 : (w.drew.alloc (.cells (celCells (bareC k pc off)).toArray 53)).cell? ⟨b, 2, none⟩ = some v := HMA.out.bx.cell (k := 2) rfl
    have cL4 : (w.alloc (.cells (celCells (bareC k pc off)).toArray 53)).cell? ⟨b, 2, none⟩ = some v := cL3
    have hS1 : ((w.drew.alloc (.cells (celCells (bareC k pc off)).toArray 53)).cell? ⟨b, 0, none⟩ = some (.int .i64 pc) ∧ (w.drew.alloc (.cells (celCells (bareC k pc off)).toArray 53)).cell? ⟨b, 1, none⟩ = some (.int .i64 off)) ∧ True := ⟨⟨HMA.out.bx.cell (k := 0) rfl, HMA.out.bx.cell (k := 1) rfl⟩, trivial⟩
    iterate 13 (refine tree_take (v := ?_) hS0 (by rfl) ?_ ?_; rotate_left; (intro x hx; (try dsimp only at hx); obtain ⟨⟨hx0, hx1⟩, hx2⟩ := hx; go_simp; try (with_reducible rfl)); (simp only [Act.put, List.setIfInBounds_toArray, List.set_cons_zero, List.set_cons_succ]))
    refine tree_take (v := .agg (celCells (bareC k pc off)).toArray) hS0 (by rfl) (fun x hx => by (try simp only [insV]); go_simp; rfl) ?_
    simp only [Act.put, List.setIfInBounds_toArray, List.set_cons_zero, List.set_cons_succ]
    refine tree_two hS0 (by rfl) (by rfl) (fun K hK => ?_) (fun K hK => ?_)
    · go_simp
      refine hK.out _ _ hS0 (fun _ => ?_)
      clear hK K
      try (simp only [Act.put, List.setIfInBounds_toArray, List.set_cons_zero, List.set_cons_succ])
      refine tree_call hS0 (by rfl) (fun K hK => ?_)
      go_simp
      try rw [fold_cel]
      refine hK.out _ _ hS1 (fun _ => ?_)
      clear hK K
      try (simp only [Act.put, List.setIfInBounds_toArray, List.set_cons_zero, List.set_cons_succ])
      change wpT _ _ _ _ _ _ _ (w.drew.alloc (.cells (celCells (bareC k pc off)).toArray 53))
      refine tree_call hS1 (by rfl) (fun K hK => ?_)
      refine wp_append_new _ (.tmp 8) (.tmp 19) 45 rfl B 53 i0 _ 9 72 Try.underlying45 HI.out HZ0.out HZ1.out HZ2.out rfl (by omega) v l.length (flat celCells l) rfl HMA.out.own _ (.slice (some ⟨w.heap.size, 0, none⟩) 1 1) 1 (celCells (bareC k pc off)) rfl (row_new w.drew (celCells (bareC k pc off)) 9 rfl (by omega) _) (celCells_one _) (by unfold maxLen; have := HL.out; omega) (by have := HL.out; omega) HMA.out.hB ?_
      intro v1 y1 hO hg hn
      obtain ⟨hE1, q3, A1, k1, rfl⟩ := HM.out.drew.app (c := bareC k pc off) (W := w) (by exact HBW.out.drew) hO hg hn
      have HE1 := Lib.hid hE1
      have q1 : y1.cell? ⟨b, 2, none⟩ = some v := q3.cell (k := 2) rfl
      have q2 : y1.frozen? ⟨b, 2, none⟩ = false := q3.frozen 2

      have hS2 : (y1.cell? ⟨b, 0, none⟩ = some (.int .i64 pc) ∧ y1.cell? ⟨b, 1, none⟩ = some (.int .i64 off)) ∧ True := ⟨⟨q3.cell (k := 0) rfl, q3.cell (k := 1) rfl⟩, trivial⟩
      clear hO hg hn hE1
      refine hK.out _ _ hS2 (fun _ => ?_)
      clear hK K
      try (simp only [Act.put, List.setIfInBounds_toArray, List.set_cons_zero, List.set_cons_succ])
      iterate 2 (refine tree_take (v := ?_) hS2 (by rfl) ?_ ?_; rotate_left; (intro x hx; (try dsimp only at hx); obtain ⟨⟨hx0, hx1⟩, hx2⟩ := hx; go_simp; try (with_reducible rfl)); (simp only [Act.put, List.setIfInBounds_toArray, List.set_cons_zero, List.set_cons_succ]))
      refine tree_call hS2 (by rfl) (fun K hK => ?_)
      go_simp
      have hS3 : ((y1.setCell ⟨b, 2, none⟩ (.slice A1 (l.length + 1) k1)).cell? ⟨b, 0, none⟩ = some (.int .i64 pc) ∧ (y1.setCell ⟨b, 2, none⟩ (.slice A1 (l.length + 1) k1)).cell? ⟨b, 1, none⟩ = some (.int .i64 off)) ∧ True := ⟨⟨(q3.setCell 2 _).cell (k := 0) rfl, (q3.setCell 2 _).cell (k := 1) rfl⟩, trivial⟩
      refine hK.out _ _ hS3 (fun _ => ?_)
      clear hK K
      exact tree_done ⟨.slice A1 (l.length + 1) k1, rfl, HE1.out⟩
    · go_simp
      try rw [fold_cel]
      refine hK.out _ _ hS1 (fun _ => ?_)
      clear hK K
      change wpT _ _ _ _ _ _ _ (w.drew.alloc (.cells (celCells (bareC k pc off)).toArray 53))
      try (simp only [Act.put, List.setIfInBounds_toArray, List.set_cons_zero, List.set_cons_succ])
      refine tree_call hS1 (by rfl) (fun K hK => ?_)
      go_simp
      refine hK.out _ _ hS1 (fun _ => ?_)
      clear hK K
      try (simp only [Act.put, List.setIfInBounds_toArray, List.set_cons_zero, List.set_cons_succ])
      change wpT _ _ _ _ _ _ _ (w.drew.alloc (.cells (celCells (bareC k pc off)).toArray 53))
      refine tree_call hS1 (by rfl) (fun K hK => ?_)
      refine wp_append_new _ (.tmp 8) (.tmp 19) 45 rfl B 53 i0 _ 9 72 Try.underlying45 HI.out HZ0.out HZ1.out HZ2.out rfl (by omega) v l.length (flat celCells l) rfl HMA.out.own _ (.slice (some ⟨w.heap.size, 0, none⟩) 1 1) 1 (celCells (bareC k pc off)) rfl (row_new w.drew (celCells (bareC k pc off)) 9 rfl (by omega) _) (celCells_one _) (by unfold maxLen; have := HL.out; omega) (by have := HL.out; omega) HMA.out.hB ?_
      intro v1 y1 hO hg hn
      obtain ⟨hE1, q3, A1, k1, rfl⟩ := HM.out.drew.app (c := bareC k pc off) (W := w) (by exact HBW.out.drew) hO hg hn
      have HE1 := Lib.hid hE1
      have q1 : y1.cell? ⟨b, 2, none⟩ = some v := q3.cell (k := 2) rfl
      have q2 : y1.frozen? ⟨b, 2, none⟩ = false := q3.frozen 2

      have hS2 : (y1.cell? ⟨b, 0, none⟩ = some (.int .i64 pc) ∧ y1.cell? ⟨b, 1, none⟩ = some (.int .i64 off)) ∧ True := ⟨⟨q3.cell (k := 0) rfl, q3.cell (k := 1) rfl⟩, trivial⟩
      clear hO hg hn hE1
      refine hK.out _ _ hS2 (fun _ => ?_)
      clear hK K
      try (simp only [Act.put, List.setIfInBounds_toArray, List.set_cons_zero, List.set_cons_succ])
      iterate 2 (refine tree_take (v := ?_) hS2 (by rfl) ?_ ?_; rotate_left; (intro x hx; (try dsimp only at hx); obtain ⟨⟨hx0, hx1⟩, hx2⟩ := hx; go_simp; try (with_reducible rfl)); (simp only [Act.put, List.setIfInBounds_toArray, List.set_cons_zero, List.set_cons_succ]))
      refine tree_call hS2 (by rfl) (fun K hK => ?_)
      go_simp
      have hS3 : ((y1.setCell ⟨b, 2, none⟩ (.slice A1 (l.length + 1) k1)).cell? ⟨b, 0, none⟩ = some (.int .i64 pc) ∧ (y1.setCell ⟨b, 2, none⟩ (.slice A1 (l.length + 1) k1)).cell? ⟨b, 1, none⟩ = some (.int .i64 off)) ∧ True := ⟨⟨(q3.setCell 2 _).cell (k := 0) rfl, (q3.setCell 2 _).cell (k := 1) rfl⟩, trivial⟩
      refine hK.out _ _ hS3 (fun _ => ?_)
      clear hK K
      exact tree_done ⟨.slice A1 (l.length + 1) k1, rfl, HE1.out⟩
  intro v2 w2 hE2
  have HE2 := Lib.hid hE2
  clear hE2
  simp only [Act.put, List.setIfInBounds_toArray, List.set_cons_zero, List.set_cons_succ]
  go_wp2_with fail
  first | exact bodyPost_ret (v := .tuple #[]) (by simp [results, Try.results56, go_sem]) rfl ⟨rfl, HE2.out⟩ | exact bodyPost_end (v := .tuple #[]) (by simp [results, Try.results56, go_sem]) rfl ⟨rfl, HE2.out⟩

set_option maxHeartbeats 4000000 in
theorem mkReg_any {b B : Nat} {pc off : Int} {v : Value} {l : List Cel} (k r : Int) (w : World) (h : Mk b B pc off w v l) (hl : l.length ≤ 100) :
    Calls Try.prog 55 #[.pointer (some ⟨b, 0, none⟩), .int .i64 k, .int .i64 r] w fun e w' => e = .returned (.tuple #[]) ∧ MkOut b B pc off v (l ++ [regC k r pc off]) w w' := by
  have HL := Lib.hid hl
  obtain ⟨i0, hi, hz0, hz1, hz2⟩ := info_parts info_cel
  have HI := Lib.hid hi
  have HZ0 := Lib.hid hz0
  have HZ1 := Lib.hid hz1
  have HZ2 := Lib.hid hz2
  clear hi hz0 hz1 hz2
  have HM := Lib.hid h
  have HBW : Hid (Below w.heap.size w w) := Below.refl _ w
  clear h hl
  go_enter Try.func55, Try.ntmps55
  go_wp2_with fail
  refine region_tree_ex (fun (act : Act) (B' : Value) => ((((((((((((((((((((act.put (some 6) (.pointer (some ⟨b, 0, none⟩))).put (some 7) (.pointer (some ⟨b, 0, none⟩))).put (some 8) (.pointer (some ⟨b, 0, none⟩))).put (some 9) (.pointer (some ⟨b, 2, none⟩))).put (some 10) v).put (some 11) (.int .i64 k)).put (some 12) (.int .i64 r)).put (some 13) (.pointer (some ⟨b, 0, none⟩))).put (some 14) (.pointer (some ⟨b, 0, none⟩))).put (some 15) (.pointer (some ⟨b, 0, none⟩))).put (some 16) (.int .i64 pc)).put (some 17) (.pointer (some ⟨b, 0, none⟩))).put (some 18) (.pointer (some ⟨b, 0, none⟩))).put (some 19) (.pointer (some ⟨b, 1, none⟩))).put (some 20) (.int .i64 off)).put (some 21) (.agg (celCells (regC k r pc off)).toArray)).put (some 22) (.slice (some ⟨w.heap.size, 0, none⟩) 1 1)).put (some 23) B').put (some 24) (.pointer (some ⟨b, 0, none⟩))).put (some 25) (.pointer (some ⟨b, 2, none⟩))))
    (fun _ y => MkOut b B pc off v (l ++ [regC k r pc off]) w y)
    (LinT.of [(0, true), (1, true), (2, true), (3, true), (5, true), (6, true), (7, true), (8, true), (9, true), (10, true), (11, true), (12, true), (13, true), (14, true), (15, true)] (.two 4 16 (LinT.of [(16, false), (17, false), (18, true), (19, true), (20, false)] .nil) (LinT.of [(4, false), (17, false), (18, true), (19, true), (20, false)] .nil)))
    (by kernel_rfl) (by kernel_rfl) rfl (by kernel_rfl) (fun y => (y.cell? ⟨b, 0, none⟩ = some (.int .i64 pc) ∧ y.cell? ⟨b, 1, none⟩ = some (.int .i64 off)) ∧ True) ?_ ?_
  · simp only [LinT.of, LinT.look, List.getElem?_toArray, List.getElem?_cons_succ, List.getElem?_cons_zero]
    have cL : w.drew.cell? ⟨b, 2, none⟩ = some v := HM.out.bx.cell (k := 2) rfl
    have cL2 : w.cell? ⟨b, 2, none⟩ = some v := HM.out.bx.cell (k := 2) rfl
    have hS0 : (w.drew.cell? ⟨b, 0, none⟩ = some (.int .i64 pc) ∧ w.drew.cell? ⟨b, 1, none⟩ = some (.int .i64 off)) ∧ True := ⟨⟨HM.out.bx.cell (k := 0) rfl, HM.out.bx.cell (k := 1) rfl⟩, trivial⟩
    have HMA : Hid (Mk b B pc off (w.drew.alloc (.cells (celCells (regC k r pc off)).toArray 53)) v l) := HM.out.drew.alloc _
    have cL3 : (w.drew.alloc (.cells (celCells (regC k r pc off)).toArray 53)).cell? ⟨b, 2, none⟩ = some v := HMA.out.bx.cell (k := 2) rfl
    have cL4 : (w.alloc (.cells (celCells (regC k r pc off)).toArray 53)).cell? ⟨b, 2, none⟩ = some v := cL3
    have hS1 : ((w.drew.alloc (.cells (celCells (regC k r pc off)).toArray 53)).cell? ⟨b, 0, none⟩ = some (.int .i64 pc) ∧ (w.drew.alloc (.cells (celCells (regC k r pc off)).toArray 53)).cell? ⟨b, 1, none⟩ = some (.int .i64 off)) ∧ True := ⟨⟨HMA.out.bx.cell (k := 0) rfl, HMA.out.bx.cell (k := 1) rfl⟩, trivial⟩
    iterate 14 (refine tree_take (v := ?_) hS0 (by rfl) ?_ ?_; rotate_left; (intro x hx; (try dsimp only at hx); obtain ⟨⟨hx0, hx1⟩, hx2⟩ := hx; go_simp; try (with_reducible rfl)); (simp only [Act.put, List.setIfInBounds_toArray, List.set_cons_zero, List.set_cons_succ]))
    refine tree_take (v := .agg (celCells (regC k r pc off)).toArray) hS0 (by rfl) (fun x hx => by (try simp only [insV]); go_simp; rfl) ?_
    simp only [Act.put, List.setIfInBounds_toArray, List.set_cons_zero, List.set_cons_succ]
    refine tree_two hS0 (by rfl) (by rfl) (fun K hK => ?_) (fun K hK => ?_)
    · go_simp
      refine hK.out _ _ hS0 (fun _ => ?_)
      clear hK K
      try (simp only [Act.put, List.setIfInBounds_toArray, List.set_cons_zero, List.set_cons_succ])
      refine tree_call hS0 (by rfl) (fun K hK => ?_)
      go_simp
      try rw [fold_cel]
      refine hK.out _ _ hS1 (fun _ => ?_)
      clear hK K
      try (simp only [Act.put, List.setIfInBounds_toArray, List.set_cons_zero, List.set_cons_succ])
      change wpT _ _ _ _ _ _ _ (w.drew.alloc (.cells (celCells (regC k r pc off)).toArray 53))
      refine tree_call hS1 (by rfl) (fun K hK => ?_)
      refine wp_append_new _ (.tmp 10) (.tmp 22) 45 rfl B 53 i0 _ 9 72 Try.underlying45 HI.out HZ0.out HZ1.out HZ2.out rfl (by omega) v l.length (flat celCells l) rfl HMA.out.own _ (.slice (some ⟨w.heap.size, 0, none⟩) 1 1) 1 (celCells (regC k r pc off)) rfl (row_new w.drew (celCells (regC k r pc off)) 9 rfl (by omega) _) (celCells_one _) (by unfold maxLen; have := HL.out; omega) (by have := HL.out; omega) HMA.out.hB ?_
      intro v1 y1 hO hg hn
      obtain ⟨hE1, q3, A1, k1, rfl⟩ := HM.out.drew.app (c := regC k r pc off) (W := w) (by exact HBW.out.drew) hO hg hn
      have HE1 := Lib.hid hE1
      have q1 : y1.cell? ⟨b, 2, none⟩ = some v := q3.cell (k := 2) rfl
      have q2 : y1.frozen? ⟨b, 2, none⟩ = false := q3.frozen 2

      have hS2 : (y1.cell? ⟨b, 0, none⟩ = some (.int .i64 pc) ∧ y1.cell? ⟨b, 1, none⟩ = some (.int .i64 off)) ∧ True := ⟨⟨q3.cell (k := 0) rfl, q3.cell (k := 1) rfl⟩, trivial⟩
      clear hO hg hn hE1
      refine hK.out _ _ hS2 (fun _ => ?_)
      clear hK K
      try (simp only [Act.put, List.setIfInBounds_toArray, List.set_cons_zero, List.set_cons_succ])
      iterate 2 (refine tree_take (v := ?_) hS2 (by rfl) ?_ ?_; rotate_left; (intro x hx; (try dsimp only at hx); obtain ⟨⟨hx0, hx1⟩, hx2⟩ := hx; go_simp; try (with_reducible rfl)); (simp only [Act.put, List.setIfInBounds_toArray, List.set_cons_zero, List.set_cons_succ]))
      refine tree_call hS2 (by rfl) (fun K hK => ?_)
      go_simp
      have hS3 : ((y1.setCell ⟨b, 2, none⟩ (.slice A1 (l.length + 1) k1)).cell? ⟨b, 0, none⟩ = some (.int .i64 pc) ∧ (y1.setCell ⟨b, 2, none⟩ (.slice A1 (l.length + 1) k1)).cell? ⟨b, 1, none⟩ = some (.int .i64 off)) ∧ True := ⟨⟨(q3.setCell 2 _).cell (k := 0) rfl, (q3.setCell 2 _).cell (k := 1) rfl⟩, trivial⟩
      refine hK.out _ _ hS3 (fun _ => ?_)
      clear hK K
      exact tree_done ⟨.slice A1 (l.length + 1) k1, rfl, HE1.out⟩
    · go_simp
      try rw [fold_cel]
      refine hK.out _ _ hS1 (fun _ => ?_)
      clear hK K
      change wpT _ _ _ _ _ _ _ (w.drew.alloc (.cells (celCells (regC k r pc off)).toArray 53))
      try (simp only [Act.put, List.setIfInBounds_toArray, List.set_cons_zero, List.set_cons_succ])
      refine tree_call hS1 (by rfl) (fun K hK => ?_)
      go_simp
      refine hK.out _ _ hS1 (fun _ => ?_)
      clear hK K
      try (simp only [Act.put, List.setIfInBounds_toArray, List.set_cons_zero, List.set_cons_succ])
      change wpT _ _ _ _ _ _ _ (w.drew.alloc (.cells (celCells (regC k r pc off)).toArray 53))
      refine tree_call hS1 (by rfl) (fun K hK => ?_)
      refine wp_append_new _ (.tmp 10) (.tmp 22) 45 rfl B 53 i0 _ 9 72 Try.underlying45 HI.out HZ0.out HZ1.out HZ2.out rfl (by omega) v l.length (flat celCells l) rfl HMA.out.own _ (.slice (some ⟨w.heap.size, 0, none⟩) 1 1) 1 (celCells (regC k r pc off)) rfl (row_new w.drew (celCells (regC k r pc off)) 9 rfl (by omega) _) (celCells_one _) (by unfold maxLen; have := HL.out; omega) (by have := HL.out; omega) HMA.out.hB ?_
      intro v1 y1 hO hg hn
      obtain ⟨hE1, q3, A1, k1, rfl⟩ := HM.out.drew.app (c := regC k r pc off) (W := w) (by exact HBW.out.drew) hO hg hn
      have HE1 := Lib.hid hE1
      have q1 : y1.cell? ⟨b, 2, none⟩ = some v := q3.cell (k := 2) rfl
      have q2 : y1.frozen? ⟨b, 2, none⟩ = false := q3.frozen 2

      have hS2 : (y1.cell? ⟨b, 0, none⟩ = some (.int .i64 pc) ∧ y1.cell? ⟨b, 1, none⟩ = some (.int .i64 off)) ∧ True := ⟨⟨q3.cell (k := 0) rfl, q3.cell (k := 1) rfl⟩, trivial⟩
      clear hO hg hn hE1
      refine hK.out _ _ hS2 (fun _ => ?_)
      clear hK K
      try (simp only [Act.put, List.setIfInBounds_toArray, List.set_cons_zero, List.set_cons_succ])
      iterate 2 (refine tree_take (v := ?_) hS2 (by rfl) ?_ ?_; rotate_left; (intro x hx; (try dsimp only at hx); obtain ⟨⟨hx0, hx1⟩, hx2⟩ := hx; go_simp; try (with_reducible rfl)); (simp only [Act.put, List.setIfInBounds_toArray, List.set_cons_zero, List.set_cons_succ]))
      refine tree_call hS2 (by rfl) (fun K hK => ?_)
      go_simp
      have hS3 : ((y1.setCell ⟨b, 2, none⟩ (.slice A1 (l.length + 1) k1)).cell? ⟨b, 0, none⟩ = some (.int .i64 pc) ∧ (y1.setCell ⟨b, 2, none⟩ (.slice A1 (l.length + 1) k1)).cell? ⟨b, 1, none⟩ = some (.int .i64 off)) ∧ True := ⟨⟨(q3.setCell 2 _).cell (k := 0) rfl, (q3.setCell 2 _).cell (k := 1) rfl⟩, trivial⟩
      refine hK.out _ _ hS3 (fun _ => ?_)
      clear hK K
      exact tree_done ⟨.slice A1 (l.length + 1) k1, rfl, HE1.out⟩
  intro v2 w2 hE2
  have HE2 := Lib.hid hE2
  clear hE2
  simp only [Act.put, List.setIfInBounds_toArray, List.set_cons_zero, List.set_cons_succ]
  go_wp2_with fail
  first | exact bodyPost_ret (v := .tuple #[]) (by simp [results, Try.results55, go_sem]) rfl ⟨rfl, HE2.out⟩ | exact bodyPost_end (v := .tuple #[]) (by simp [results, Try.results55, go_sem]) rfl ⟨rfl, HE2.out⟩

set_option maxHeartbeats 4000000 in
theorem mkIns_any {b B : Nat} {pc off : Int} {v : Value} {l : List Cel} (k : Int) (i : Ins) (w : World) (h : Mk b B pc off w v l) (hl : l.length ≤ 100) :
    Calls Try.prog 51 #[.pointer (some ⟨b, 0, none⟩), .int .i64 k, .agg #[.int .i64 i.op, .int .i64 i.d, .int .i64 i.a, .int .i64 i.b, .int .i64 i.imm]] w fun e w' => e = .returned (.tuple #[]) ∧ MkOut b B pc off v (l ++ [insC k i pc off]) w w' := by
  have HL := Lib.hid hl
  obtain ⟨i0, hi, hz0, hz1, hz2⟩ := info_parts info_cel
  have HI := Lib.hid hi
  have HZ0 := Lib.hid hz0
  have HZ1 := Lib.hid hz1
  have HZ2 := Lib.hid hz2
  clear hi hz0 hz1 hz2
  obtain ⟨w1, hw1⟩ : ∃ w1, w1 = w.alloc (.cells (insV i).toArray 51) := ⟨_, rfl⟩
  have HM : Hid (Mk b B pc off w1 v l) := by rw [hw1]; exact h.alloc _
  have HX : Hid (Box w1 w.heap.size (insV i)) := by rw [hw1]; exact Box.new w _ _
  have HBW : Hid (Below w.heap.size w w1) := by rw [hw1]; exact (Below.refl _ w).alloc (Nat.le_refl _) _
  have HBN : Hid (b < w.heap.size) := h.lt
  have HON : Hid (∀ g, v.ownBlock = some g → g < w.heap.size) := fun g e => (h.own.lt g e).2
  clear h hl
  go_enter Try.func51, Try.ntmps51
  go_wp2_with fail
  change Code.wp _ _ _ _ (w.alloc (.cells (insV i).toArray 51))
  rw [← hw1]
  clear hw1
  refine region_tree_ex (fun (act : Act) (B' : Value) => ((((((((((((((((((((act.put (some 6) (.pointer (some ⟨b, 0, none⟩))).put (some 7) (.pointer (some ⟨b, 0, none⟩))).put (some 8) (.pointer (some ⟨b, 0, none⟩))).put (some 9) (.pointer (some ⟨b, 2, none⟩))).put (some 10) v).put (some 11) (.int .i64 k)).put (some 12) (.agg (insV i).toArray)).put (some 13) (.pointer (some ⟨b, 0, none⟩))).put (some 14) (.pointer (some ⟨b, 0, none⟩))).put (some 15) (.pointer (some ⟨b, 0, none⟩))).put (some 16) (.int .i64 pc)).put (some 17) (.pointer (some ⟨b, 0, none⟩))).put (some 18) (.pointer (some ⟨b, 0, none⟩))).put (some 19) (.pointer (some ⟨b, 1, none⟩))).put (some 20) (.int .i64 off)).put (some 21) (.agg (celCells (insC k i pc off)).toArray)).put (some 22) (.slice (some ⟨w1.heap.size, 0, none⟩) 1 1)).put (some 23) B').put (some 24) (.pointer (some ⟨b, 0, none⟩))).put (some 25) (.pointer (some ⟨b, 2, none⟩))))
    (fun _ y => MkOut b B pc off v (l ++ [insC k i pc off]) w y)
    (LinT.of [(0, true), (1, true), (2, true), (3, true), (5, true), (6, true), (7, true), (8, true), (9, true), (10, true), (11, true), (12, true), (13, true), (14, true), (15, true)] (.two 4 16 (LinT.of [(16, false), (17, false), (18, true), (19, true), (20, false)] .nil) (LinT.of [(4, false), (17, false), (18, true), (19, true), (20, false)] .nil)))
    (by kernel_rfl) (by kernel_rfl) rfl (by kernel_rfl) (fun y => (y.cell? ⟨b, 0, none⟩ = some (.int .i64 pc) ∧ y.cell? ⟨b, 1, none⟩ = some (.int .i64 off)) ∧ Box y w.heap.size (insV i)) ?_ ?_
  · simp only [LinT.of, LinT.look, List.getElem?_toArray, List.getElem?_cons_succ, List.getElem?_cons_zero]
    have cL : w1.drew.cell? ⟨b, 2, none⟩ = some v := HM.out.bx.cell (k := 2) rfl
    have cL2 : w1.cell? ⟨b, 2, none⟩ = some v := HM.out.bx.cell (k := 2) rfl
    have hS0 : (w1.drew.cell? ⟨b, 0, none⟩ = some (.int .i64 pc) ∧ w1.drew.cell? ⟨b, 1, none⟩ = some (.int .i64 off)) ∧ Box w1.drew w.heap.size (insV i) := ⟨⟨HM.out.bx.cell (k := 0) rfl, HM.out.bx.cell (k := 1) rfl⟩, HX.out.drew⟩
    have HMA : Hid (Mk b B pc off (w1.drew.alloc (.cells (celCells (insC k i pc off)).toArray 53)) v l) := HM.out.drew.alloc _
    have cL3 : (w1.drew.alloc (.cells (celCells (insC k i pc off)).toArray 53)).cell? ⟨b, 2, none⟩ = some v := HMA.out.bx.cell (k := 2) rfl
    have cL4 : (w1.alloc (.cells (celCells (insC k i pc off)).toArray 53)).cell? ⟨b, 2, none⟩ = some v := cL3
    have hS1 : ((w1.drew.alloc (.cells (celCells (insC k i pc off)).toArray 53)).cell? ⟨b, 0, none⟩ = some (.int .i64 pc) ∧ (w1.drew.alloc (.cells (celCells (insC k i pc off)).toArray 53)).cell? ⟨b, 1, none⟩ = some (.int .i64 off)) ∧ Box (w1.drew.alloc (.cells (celCells (insC k i pc off)).toArray 53)) w.heap.size (insV i) := ⟨⟨HMA.out.bx.cell (k := 0) rfl, HMA.out.bx.cell (k := 1) rfl⟩, HX.out.drew.alloc _⟩
    iterate 5 (refine tree_take (v := ?_) hS0 (by rfl) ?_ ?_; rotate_left; (intro x hx; (try dsimp only at hx); obtain ⟨⟨hx0, hx1⟩, hx2⟩ := hx; go_simp; try (with_reducible rfl)); (simp only [Act.put, List.setIfInBounds_toArray, List.set_cons_zero, List.set_cons_succ]))
    refine tree_load_ex hS0 (by rfl) 51 (.tmp 5) rfl w.heap.size 0 rfl (insV i) (insV i) (fun y hy => hy.2) whole_at _ Try.underlying51 rfl 5 size_ins5 rfl ?_
    simp only [Act.put, List.setIfInBounds_toArray, List.set_cons_zero, List.set_cons_succ]
    iterate 8 (refine tree_take (v := ?_) hS0 (by rfl) ?_ ?_; rotate_left; (intro x hx; (try dsimp only at hx); obtain ⟨⟨hx0, hx1⟩, hx2⟩ := hx; go_simp; try (with_reducible rfl)); (simp only [Act.put, List.setIfInBounds_toArray, List.set_cons_zero, List.set_cons_succ]))
    refine tree_take (v := .agg (celCells (insC k i pc off)).toArray) hS0 (by rfl) (fun x hx => by (try simp only [insV]); go_simp; rfl) ?_
    simp only [Act.put, List.setIfInBounds_toArray, List.set_cons_zero, List.set_cons_succ]
    refine tree_two hS0 (by rfl) (by rfl) (fun K hK => ?_) (fun K hK => ?_)
    · go_simp
      refine hK.out _ _ hS0 (fun _ => ?_)
      clear hK K
      try (simp only [Act.put, List.setIfInBounds_toArray, List.set_cons_zero, List.set_cons_succ])
      refine tree_call hS0 (by rfl) (fun K hK => ?_)
      go_simp
      try rw [fold_cel]
      refine hK.out _ _ hS1 (fun _ => ?_)
      clear hK K
      try (simp only [Act.put, List.setIfInBounds_toArray, List.set_cons_zero, List.set_cons_succ])
      change wpT _ _ _ _ _ _ _ (w1.drew.alloc (.cells (celCells (insC k i pc off)).toArray 53))
      refine tree_call hS1 (by rfl) (fun K hK => ?_)
      refine wp_append_new _ (.tmp 10) (.tmp 22) 45 rfl B 53 i0 _ 9 72 Try.underlying45 HI.out HZ0.out HZ1.out HZ2.out rfl (by omega) v l.length (flat celCells l) rfl HMA.out.own _ (.slice (some ⟨w1.heap.size, 0, none⟩) 1 1) 1 (celCells (insC k i pc off)) rfl (row_new w1.drew (celCells (insC k i pc off)) 9 rfl (by omega) _) (celCells_one _) (by unfold maxLen; have := HL.out; omega) (by have := HL.out; omega) HMA.out.hB ?_
      intro v1 y1 hO hg hn
      obtain ⟨hE1, q3, A1, k1, rfl⟩ := HM.out.drew.app (c := insC k i pc off) (W := w) (by exact HBW.out.drew) hO hg hn
      have HE1 := Lib.hid hE1
      have q1 : y1.cell? ⟨b, 2, none⟩ = some v := q3.cell (k := 2) rfl
      have q2 : y1.frozen? ⟨b, 2, none⟩ = false := q3.frozen 2
      have HX2 := Lib.hid ((HX.out.drew.alloc _).grown hg (fun e => by have := HON.out _ e.symm; omega))
      have hS2 : (y1.cell? ⟨b, 0, none⟩ = some (.int .i64 pc) ∧ y1.cell? ⟨b, 1, none⟩ = some (.int .i64 off)) ∧ Box y1 w.heap.size (insV i) := ⟨⟨q3.cell (k := 0) rfl, q3.cell (k := 1) rfl⟩, HX2.out⟩
      clear hO hg hn hE1
      refine hK.out _ _ hS2 (fun _ => ?_)
      clear hK K
      try (simp only [Act.put, List.setIfInBounds_toArray, List.set_cons_zero, List.set_cons_succ])
      iterate 2 (refine tree_take (v := ?_) hS2 (by rfl) ?_ ?_; rotate_left; (intro x hx; (try dsimp only at hx); obtain ⟨⟨hx0, hx1⟩, hx2⟩ := hx; go_simp; try (with_reducible rfl)); (simp only [Act.put, List.setIfInBounds_toArray, List.set_cons_zero, List.set_cons_succ]))
      refine tree_call hS2 (by rfl) (fun K hK => ?_)
      go_simp
      have hS3 : ((y1.setCell ⟨b, 2, none⟩ (.slice A1 (l.length + 1) k1)).cell? ⟨b, 0, none⟩ = some (.int .i64 pc) ∧ (y1.setCell ⟨b, 2, none⟩ (.slice A1 (l.length + 1) k1)).cell? ⟨b, 1, none⟩ = some (.int .i64 off)) ∧ Box (y1.setCell ⟨b, 2, none⟩ (.slice A1 (l.length + 1) k1)) w.heap.size (insV i) := ⟨⟨(q3.setCell 2 _).cell (k := 0) rfl, (q3.setCell 2 _).cell (k := 1) rfl⟩, HX2.out.setCell_other (Nat.ne_of_gt HBN.out) _ _⟩
      refine hK.out _ _ hS3 (fun _ => ?_)
      clear hK K
      exact tree_done ⟨.slice A1 (l.length + 1) k1, rfl, HE1.out⟩
    · go_simp
      try rw [fold_cel]
      refine hK.out _ _ hS1 (fun _ => ?_)
      clear hK K
      change wpT _ _ _ _ _ _ _ (w1.drew.alloc (.cells (celCells (insC k i pc off)).toArray 53))
      try (simp only [Act.put, List.setIfInBounds_toArray, List.set_cons_zero, List.set_cons_succ])
      refine tree_call hS1 (by rfl) (fun K hK => ?_)
      go_simp
      refine hK.out _ _ hS1 (fun _ => ?_)
      clear hK K
      try (simp only [Act.put, List.setIfInBounds_toArray, List.set_cons_zero, List.set_cons_succ])
      change wpT _ _ _ _ _ _ _ (w1.drew.alloc (.cells (celCells (insC k i pc off)).toArray 53))
      refine tree_call hS1 (by rfl) (fun K hK => ?_)
      refine wp_append_new _ (.tmp 10) (.tmp 22) 45 rfl B 53 i0 _ 9 72 Try.underlying45 HI.out HZ0.out HZ1.out HZ2.out rfl (by omega) v l.length (flat celCells l) rfl HMA.out.own _ (.slice (some ⟨w1.heap.size, 0, none⟩) 1 1) 1 (celCells (insC k i pc off)) rfl (row_new w1.drew (celCells (insC k i pc off)) 9 rfl (by omega) _) (celCells_one _) (by unfold maxLen; have := HL.out; omega) (by have := HL.out; omega) HMA.out.hB ?_
      intro v1 y1 hO hg hn
      obtain ⟨hE1, q3, A1, k1, rfl⟩ := HM.out.drew.app (c := insC k i pc off) (W := w) (by exact HBW.out.drew) hO hg hn
      have HE1 := Lib.hid hE1
      have q1 : y1.cell? ⟨b, 2, none⟩ = some v := q3.cell (k := 2) rfl
      have q2 : y1.frozen? ⟨b, 2, none⟩ = false := q3.frozen 2
      have HX2 := Lib.hid ((HX.out.drew.alloc _).grown hg (fun e => by have := HON.out _ e.symm; omega))
      have hS2 : (y1.cell? ⟨b, 0, none⟩ = some (.int .i64 pc) ∧ y1.cell? ⟨b, 1, none⟩ = some (.int .i64 off)) ∧ Box y1 w.heap.size (insV i) := ⟨⟨q3.cell (k := 0) rfl, q3.cell (k := 1) rfl⟩, HX2.out⟩
      clear hO hg hn hE1
      refine hK.out _ _ hS2 (fun _ => ?_)
      clear hK K
      try (simp only [Act.put, List.setIfInBounds_toArray, List.set_cons_zero, List.set_cons_succ])
      iterate 2 (refine tree_take (v := ?_) hS2 (by rfl) ?_ ?_; rotate_left; (intro x hx; (try dsimp only at hx); obtain ⟨⟨hx0, hx1⟩, hx2⟩ := hx; go_simp; try (with_reducible rfl)); (simp only [Act.put, List.setIfInBounds_toArray, List.set_cons_zero, List.set_cons_succ]))
      refine tree_call hS2 (by rfl) (fun K hK => ?_)
      go_simp
      have hS3 : ((y1.setCell ⟨b, 2, none⟩ (.slice A1 (l.length + 1) k1)).cell? ⟨b, 0, none⟩ = some (.int .i64 pc) ∧ (y1.setCell ⟨b, 2, none⟩ (.slice A1 (l.length + 1) k1)).cell? ⟨b, 1, none⟩ = some (.int .i64 off)) ∧ Box (y1.setCell ⟨b, 2, none⟩ (.slice A1 (l.length + 1) k1)) w.heap.size (insV i) := ⟨⟨(q3.setCell 2 _).cell (k := 0) rfl, (q3.setCell 2 _).cell (k := 1) rfl⟩, HX2.out.setCell_other (Nat.ne_of_gt HBN.out) _ _⟩
      refine hK.out _ _ hS3 (fun _ => ?_)
      clear hK K
      exact tree_done ⟨.slice A1 (l.length + 1) k1, rfl, HE1.out⟩
  intro v2 w2 hE2
  have HE2 := Lib.hid hE2
  clear hE2
  simp only [Act.put, List.setIfInBounds_toArray, List.set_cons_zero, List.set_cons_succ]
  go_wp2_with fail
  first | exact bodyPost_ret (v := .tuple #[]) (by simp [results, Try.results51, go_sem]) rfl ⟨rfl, HE2.out⟩ | exact bodyPost_end (v := .tuple #[]) (by simp [results, Try.results51, go_sem]) rfl ⟨rfl, HE2.out⟩

end Go.Proofs.Ytbibfpopkcekdaa.Words

/- Contracts of the document's own find, sent, and of its maker's regs. -/
namespace Go.Proofs.Ytbibfpopkcekdaa.Words
set_option maxRecDepth 100000
open Go.RowKit
set_option linter.unusedVariables false
set_option linter.unusedSimpArgs false

/-- In a region that draws its order: an operation that turns the world is not wanted. -/
theorem lin_void {P : Program} {ops : Array Oper} {Q : Exit → Act → World → Prop} {op : Oper} {rest : List (Option Oper × Bool)} {S : World → Prop} {a : Act} {w : World} (hS : S w)
    (hw : Region.wanted op (yielded ops a.tmps) = false) (h : wpLin P ops Q rest S (a.put op.dst undef) w) : wpLin P ops Q ((some op, false) :: rest) S a w :=
  ⟨S, fun _ h => h, hS, by unfold linStep; rw [if_neg (by rw [hw]; decide)]; exact ⟨hS, h⟩⟩

set_option maxHeartbeats 1000000 in
theorem refFind_any (A : Option Addr) (c n : Nat) (zs : List Int) (x : Int) (w : World) (hn : zs.length = n) (hr : Row w w.heap.size 1 (.slice A n c) n (zs.map (Value.int .i64))) (hs : n ≤ 100) :
    Calls Try.prog 49 #[.slice A n c, .int .i64 x] w fun e w' => (∃ k : Int, e = .returned (.int .i64 k) ∧ (k < 0 ↔ ¬ x ∈ zs)) ∧ w' = w := by
  have HN := Lib.hid hn
  have HR := Lib.hid hr
  have H0 := Lib.hid (show x ∈ zs ↔ x ∈ zs.drop 0 by rw [List.drop_zero])
  clear hr hn
  go_enter Try.func49, Try.ntmps49
  go_wp2_with fail
  go_loopw [5] (fun i wr => ∃ j : Nat, j ≤ n ∧ i = .int .i64 j ∧ wr = w ∧ (x ∈ zs ↔ x ∈ zs.drop j)) (fun i _ => n - (intOf i).toNat)
  case atStart => exact ⟨0, Nat.zero_le _, rfl, rfl, H0.out⟩
  case round =>
    obtain ⟨j, hj, rfl, rfl, hT⟩ := hrel
    have HT := Lib.hid hT
    clear hT
    by_cases hlt : j < n
    · have hl : j < zs.length := by rw [HN.out]; exact hlt
      obtain ⟨b, off, rfl, hb, hcells⟩ := HR.out.at_ (by omega)
      have d0 := hcells j _ (ints_get hl)
      have HS := Lib.hid (mem_step (x := x) hl)
      obtain ⟨r, hre⟩ : ∃ r, r = zs.getD j 0 := ⟨_, rfl⟩
      rw [← hre] at d0 HS
      clear hcells hre hl
      have k0 : (0 : Int) ≤ j := by omega
      have k1 : (j : Int) < n := by omega
      cases hq : (r == x)
      · have hne : ¬ x = r := fun e => by rw [e] at hq; simp at hq
        have HX := Lib.hid hne
        clear hne
        go_wp2_with fail
        go_roundw
        case rel => exact ⟨j + 1, by omega, by go_num, by first | rfl | trivial, by rw [HT.out, HS.out]; exact ⟨fun h => h.resolve_left HX.out, .inr⟩⟩
        case measure => simp only [intOf]; omega
      · have heq : x = r := by simp at hq; exact hq.symm
        have HX := Lib.hid heq
        clear heq
        go_wp2_with fail
        go_ret
        exact ⟨⟨_, rfl, ⟨fun h => by omega, fun h => absurd (by rw [HT.out, HS.out]; exact .inl HX.out) h⟩⟩, by first | rfl | trivial⟩
    · have HE := Lib.hid (show zs.drop j = [] from List.drop_eq_nil_of_le (by rw [HN.out]; omega))
      go_wp2_with fail
      go_ret
      exact ⟨⟨_, rfl, ⟨fun h c => (by rw [HT.out, HE.out] at c; cases c), fun h => by omega⟩⟩, by first | rfl | trivial⟩

set_option maxHeartbeats 2000000 in
theorem mkRegs_any {b B : Nat} {pc off : Int} {v : Value} {l : List Cel} (k : Int) (A : Option Addr) (c n : Nat) (zs : List Int) (w : World) (h : Mk b B pc off w v l) (hl : l.length ≤ 50)
    (hn : zs.length = n) (hr : Row w w.heap.size 1 (.slice A n c) n (zs.map (Value.int .i64))) (hA : ∀ a, A = some a → ¬ (a.block = b ∨ v.ownBlock = some a.block)) (hs : n ≤ 8) :
    Calls Try.prog 52 #[.pointer (some ⟨b, 0, none⟩), .int .i64 k, .slice A n c] w fun e w' => e = .returned (.tuple #[]) ∧ MkOut b B pc off v (l ++ regsC k pc off zs) w w' := by
  have HM0 := Lib.hid h
  have HL0 := Lib.hid hl
  have HN := Lib.hid hn
  have HR := Lib.hid hr
  have HAN := Lib.hid hA
  clear h hl hn hr hA
  go_enter Try.func52, Try.ntmps52
  go_wp2_with fail
  go_loopw [6] (fun ii wr => ∃ (j : Nat) (v' : Value), j ≤ n ∧ ii = .int .i64 j ∧ Mk b B pc off wr v' (l ++ regsC k pc off (zs.take j)) ∧ KeepS (fun j => j = b ∨ v.ownBlock = some j) w wr ∧ (∀ g, v'.ownBlock = some g → v.ownBlock = some g ∨ w.heap.size ≤ g)) (fun ii _ => n - (intOf ii).toNat)
  case atStart => exact ⟨0, v, Nat.zero_le _, rfl, by simpa [regsC] using HM0.out, KeepS.refl _ _, fun g e => .inl e⟩
  case round =>
    obtain ⟨j, v', hj, rfl, hM, hK, hV⟩ := hrel
    have HM := Lib.hid hM
    have HK := Lib.hid hK
    have HV := Lib.hid hV
    clear hM hK hV
    by_cases hlt : j < n
    · have hl : j < zs.length := by rw [HN.out]; exact hlt
      have HRr := Lib.hid (row_keepS HR.out (Nat.le_refl _) HK.out HAN.out)
      obtain ⟨g, o, rfl, hb, hcells⟩ := HRr.out.at_ (by omega)
      have d0 := hcells j _ (ints_get hl)
      have HT := Lib.hid (show zs.take (j + 1) = zs.take j ++ [zs.getD j 0] by rw [List.take_add_one, List.getElem?_eq_getElem hl, List.getD_eq_getElem?_getD, List.getElem?_eq_getElem hl]; rfl)
      obtain ⟨r, hre⟩ : ∃ r, r = zs.getD j 0 := ⟨_, rfl⟩
      rw [← hre] at d0 HT
      clear hcells hre hl
      have HLL : Hid ((l ++ regsC k pc off (zs.take j)).length ≤ 100) := by rw [List.length_append, regsC_len]; have := HL0.out; show _ ≤ _; simp; omega
      have k0 : (0 : Int) ≤ j := by omega
      have k1 : (j : Int) < n := by omega
      go_wp2_with fail
      refine (mkReg_any k r wr HM.out HLL.out).mono ?_; rintro e w2 ⟨rfl, v2, hM2, hK2, hV2⟩
      have HM2 := Lib.hid hM2
      have HK2 := Lib.hid (HK.out.on hK2 (fun q e => by
        rcases e with e | e
        · exact .inl (.inl e)
        · exact (HV.out q e).elim (fun c => .inl (.inr c)) .inr))
      have HV2 : Hid (∀ g, v2.ownBlock = some g → v.ownBlock = some g ∨ w.heap.size ≤ g) := fun g e => (hV2 g e).elim (HV.out g) (fun c => .inr (Nat.le_trans HK.out.size c))
      clear hM2 hK2 hV2
      go_wp2_with fail
      go_roundw
      case rel => exact ⟨j + 1, v2, by omega, by go_num, by rw [HT.out, regsC_append, ← List.append_assoc]; exact HM2.out, HK2.out, HV2.out⟩
      case measure => simp only [intOf]; omega
    · have HT := Lib.hid (show zs.take j = zs from List.take_of_length_le (by rw [HN.out]; omega))
      go_wp2_with fail
      have hE := HM.out
      rw [HT.out] at hE
      first | exact bodyPost_ret (v := .tuple #[]) (by simp [results, Try.results52, go_sem]) rfl ⟨rfl, v', hE, HK.out, HV.out⟩ | exact bodyPost_end (v := .tuple #[]) (by simp [results, Try.results52, go_sem]) rfl ⟨rfl, v', hE, HK.out, HV.out⟩

set_option maxHeartbeats 4000000 in
theorem refSent_any (i : Ins) (o : List Int) (w : World) (ho : o.length = 16) :
    Calls Try.prog 53 #[.agg #[.int .i64 i.op, .int .i64 i.d, .int .i64 i.a, .int .i64 i.b, .int .i64 i.imm], .agg (oV o).toArray] w (ListedN w (sentL o (readsZ i))) := by
  obtain ⟨W1, hW1⟩ : ∃ W1, W1 = w.alloc (.cells (insV i).toArray 51) := ⟨_, rfl⟩
  obtain ⟨W2, hW2⟩ : ∃ W2, W2 = W1.alloc (.cells (oV o).toArray 26) := ⟨_, rfl⟩
  have hz1 : W1.heap.size = w.heap.size + 1 := by rw [hW1]; simp
  have hz2 : W2.heap.size = w.heap.size + 2 := by rw [hW2]; simp [hz1]
  have HK0 : Hid (Below w.heap.size w W2) := by rw [hW2, hW1]; exact ((Below.refl w.heap.size w).alloc (Nat.le_refl _) _).alloc (by simp) _
  have HX0 : Hid (Box W2 w.heap.size (insV i)) := by rw [hW2, hW1]; exact (Box.new w (insV i) _).alloc _
  have HY0 : Hid (Box W2 (w.heap.size + 1) (oV o)) := by rw [hW2, ← hz1]; exact Box.new W1 (oV o) _
  have HOL := Lib.hid ho
  obtain ⟨i0, hi, hq0, hq1, hq2⟩ := info_parts info_int
  have HI := Lib.hid hi
  have HQ0 := Lib.hid hq0
  have HQ1 := Lib.hid hq1
  have HQ2 := Lib.hid hq2
  clear ho hi hq0 hq1 hq2
  go_enter Try.func53, Try.ntmps53
  go_upto_region 1 with (fail)
  change Code.wp _ _ _ _ ((w.alloc (.cells (insV i).toArray 51)).alloc (.cells (oV o).toArray 26))
  rw [← hW1, ← hW2]
  clear hW1 hW2 hz1
  go_wp2_with (first
    | (refine wpList_load_box rfl 51 (.tmp 2) rfl w.heap.size 0 rfl (insV i) (insV i) HX0.out whole_at _ Try.underlying51 rfl 5 size_ins5 rfl ?_))
  refine (refReadsN_any i _).mono ?_; rintro e w2 ⟨v, rfl, hrow, hnew, hb2⟩
  obtain ⟨A1, c1, rfl⟩ := hrow.form
  have HR := Lib.hid hrow
  have HNW : Hid (w.heap.size + 2 ≤ w2.heap.size) := by have := hb2.size; show _ ≤ _; omega
  have HY := Lib.hid (HY0.out.below hb2 (by omega))
  have HK := Lib.hid (HK0.out.trans (hb2.mono (by omega)))
  clear hrow hnew hb2 HX0 HY0 HK0
  obtain ⟨zs, hzs⟩ : ∃ zs, zs = readsZ i := ⟨_, rfl⟩
  have HZM : Hid (∀ r ∈ zs, 1 ≤ r ∧ r ≤ 15) := fun r hr => by have := reads_mem (i := i) (by rw [← hzs]; exact hr); omega
  have hzl : zs.length ≤ 2 := by rw [hzs]; exact reads_len i
  have HZS := Lib.hid hzs
  rw [← hzs] at HR ⊢
  clear hzs
  obtain ⟨n, hn⟩ : ∃ n, n = zs.length := ⟨_, rfl⟩
  rw [← hn] at HR hzl ⊢
  have HN := Lib.hid hn
  clear hn hz2
  go_wp2_with fail
  go_loopw [6, 7] (fun vo ii wr => ∃ j : Nat, j ≤ n ∧ ii = .int .i64 j ∧ wr.ownsRow w2.heap.size 3 1 vo (sentL o (zs.take j)).length ((sentL o (zs.take j)).map (Value.int .i64)) ∧ Below w2.heap.size w2 wr) (fun _ ii _ => n - (intOf ii).toNat)
  case atStart => exact ⟨0, Nat.zero_le _, rfl, by simpa [sentL] using World.ownsRow_nil _ _ _ _, Below.refl _ _⟩
  case round =>
    obtain ⟨j, hj, rfl, hO, hB⟩ := hrel
    obtain ⟨A2, c2, rfl⟩ := (Row.of_own hO).form
    have HO := Lib.hid hO
    have HB := Lib.hid hB
    have hwz := hB.size
    clear hO hB
    by_cases hlt : j < n
    · have hl : j < zs.length := by rw [← HN.out]; exact hlt
      obtain ⟨b, off, rfl, hb, hcells⟩ := HR.out.at_ (by omega)
      have d0 := hcells j _ (ints_get hl)
      have HST := Lib.hid (sent_step o (l := zs) (n := j) (r := zs.getD j 0) (by rw [List.getD_eq_getElem?_getD, List.getElem?_eq_getElem hl]; rfl))
      have HM := Lib.hid (HZM.out _ (getD_mem hl))
      have HSL := Lib.hid (show (sentL o (zs.take j)).length ≤ 2 from Nat.le_trans (sent_len _ _) (by simp; omega))
      have HSM := Lib.hid (sent_mem o (zs.take j) (zs.getD j 0))
      obtain ⟨r, hre⟩ : ∃ r, r = zs.getD j 0 := ⟨_, rfl⟩
      rw [← hre] at d0 HST HM HSM
      have HOW : Hid (ownedZ o r = atO o r) := by have := HM.out; show _ = _; unfold ownedZ; rw [if_neg (by omega)]
      have d1 : wr.cell? ⟨b, off + j, none⟩ = some (.int .i64 r) := (HB.out.cell (show b < w2.heap.size from hb)).trans d0
      have D := Lib.hid (fun (y : World) (h : Kept wr y) => h.cell (show b < wr.heap.size by omega) d1)
      have HYr := Lib.hid (HY.out.below HB.out (by have := HNW.out; omega))
      clear hcells hre hl d0
      obtain ⟨m, hm⟩ : ∃ m, m = (sentL o (zs.take j)).length := ⟨_, rfl⟩
      rw [← hm] at HO ⊢
      have HMM := Lib.hid hm
      have hm2 : m ≤ 2 := by rw [hm]; exact HSL.out
      clear hm
      have HCAP := Lib.hid (Row.of_own HO.out).cap
      have k0 : (0 : Int) ≤ j := by omega
      have k1 : (j : Int) < n := by omega
      go_wp2_with fail
      refine wp_region_lin [(0, true), (1, true), (2, true), (3, true), (4, true), (5, false), (6, true), (7, true), (8, true), (9, true), (10, true), (11, true), (12, true), (13, false), (14, true), (15, true)]
        (by kernel_rfl) (by kernel_rfl) rfl (by kernel_rfl) (Kept wr) ?_
      have k9 : Kept wr wr.drew := (Kept.refl wr).drew
      simp only [List.map_cons, List.map_nil, List.getElem?_toArray, List.getElem?_cons_succ, List.getElem?_cons_zero]
      refine lin_take_box k9 rfl 26 (.tmp 3) rfl (w.heap.size + 1) 0 rfl (oV o) (oV o) (fun y hy => HYr.out.kept hy) whole_at _ Try.underlying26 rfl 16 (by kernel_rfl) ((oV_len o).trans HOL.out) ?_
      simp only [Act.put, List.setIfInBounds_toArray, List.set_cons_zero, List.set_cons_succ]
      iterate 4 (refine lin_take (v := ?_) k9 (by rfl) ?_ ?_; rotate_left; (intro x hx; (try dsimp only at hx); (try have d0 := D.out x hx); go_simp; try (with_reducible rfl)); (try simp only [Act.put, List.setIfInBounds_toArray, List.set_cons_zero, List.set_cons_succ]))
      refine lin_call k9 (by rfl) (fun K hK => ?_)
      go_simp
      refine (refOwned_any o r _ HOL.out).mono ?_; rintro e w3 ⟨rfl, hb3⟩
      go_wp2_with fail
      have k10 := k9.to hb3
      refine hK.out _ _ k10 (fun _ => ?_)
      clear hK K hb3
      rw [HOW.out]
      try simp only [Act.put, List.setIfInBounds_toArray, List.set_cons_zero, List.set_cons_succ]
      by_cases h1 : atO o r = 1
      · have HA1 := Lib.hid h1
        have q1 : (atO o r == 1) = true := by simpa using h1
        clear h1
        iterate 7 (refine lin_take (v := ?_) k10 (by rfl) ?_ ?_; rotate_left; (intro x hx; (try dsimp only at hx); (try have d0 := D.out x hx); go_simp; try (with_reducible rfl)); (try simp only [Act.put, List.setIfInBounds_toArray, List.set_cons_zero, List.set_cons_succ]))
        refine lin_call k10 (by rfl) (fun K hK => ?_)
        go_simp
        refine (refFind_any A2 c2 m (sentL o (zs.take j)) r _ HMM.out.symm (by have h := (Row.of_own HO.out).below k10; exact h.more k10.size) (by omega)).mono ?_; rintro e w4 ⟨⟨k, rfl, hk⟩, rfl⟩
        have HK4 := Lib.hid hk
        clear hk
        go_wp2_with fail
        refine hK.out _ _ k10 (fun _ => ?_)
        clear hK K
        try simp only [Act.put, List.setIfInBounds_toArray, List.set_cons_zero, List.set_cons_succ]
        cases hq : decide (k < 0)
        · have HS0 := Lib.hid (HST.out.trans (if_neg (fun c => c.2 (by
            have h1 : r ∈ sentL o (zs.take j) := Classical.not_not.1 (fun h => (of_decide_eq_false hq) (HK4.out.2 h))
            exact (HSM.out.1 h1).1))))
          iterate 2 (refine lin_take (v := ?_) k10 (by rfl) ?_ ?_; rotate_left; (intro x hx; (try dsimp only at hx); go_simp; try (with_reducible rfl)); (try simp only [Act.put, List.setIfInBounds_toArray, List.set_cons_zero, List.set_cons_succ]))
          refine lin_done ?_
          have HBN := Lib.hid (HB.out.trans (k10.mono hwz))
          have HON : Hid (w4.ownsRow w2.heap.size 3 1 (.slice A2 m c2) m ((sentL o (zs.take j)).map (Value.int .i64))) := own_keepS HO.out (KeepS.of_below (S := fun _ => False) k10) (fun _ _ e => e)
          go_wp2_with fail
          go_roundw
          case rel => exact ⟨j + 1, by omega, by go_num, by rw [HS0.out, ← HMM.out]; exact HON.out, HBN.out⟩
          case measure => simp only [intOf]; omega
        · have HS1 := Lib.hid (HST.out.trans (if_pos ⟨HA1.out, fun c => (HK4.out.1 (of_decide_eq_true hq)) (HSM.out.2 ⟨c, HA1.out⟩)⟩))
          iterate 2 (refine lin_take (v := ?_) k10 (by rfl) ?_ ?_; rotate_left; (intro x hx; (try dsimp only at hx); go_simp; try (with_reducible rfl)); (try simp only [Act.put, List.setIfInBounds_toArray, List.set_cons_zero, List.set_cons_succ]))
          refine lin_done ?_
          have HBN := Lib.hid (HB.out.trans (k10.mono hwz))
          have HON : Hid (w4.ownsRow w2.heap.size 3 1 (.slice A2 m c2) m ((sentL o (zs.take j)).map (Value.int .i64))) := own_keepS HO.out (KeepS.of_below (S := fun _ => False) k10) (fun _ _ e => e)
          have hwz4 : w2.heap.size ≤ w4.heap.size := HBN.out.size
          have d2 := D.out _ k10
          clear k10 k9
          go_wp2_with (at_builtin; refine wpList_append_own _ rfl (.tmp 32) (.tmp 37) 49 rfl w2.heap.size 3 i0 (.int .i64 0) 1 8 Try.underlying49 HI.out HQ0.out HQ1.out HQ2.out rfl (by omega) (.slice A2 m c2) m ((sentL o (zs.take j)).map (Value.int .i64)) rfl (HON.out.alloc _) ⟨w4.heap.size, 0, none⟩ 1 1 [.int .i64 r] rfl rfl (new_cells w4 _ _ _ rfl) (one_int _) (by unfold maxLen; omega) (by omega) (by simp; omega) ?_; intro v3 w3 hown3 hg3 _)
          have HB3 : Hid (Below w2.heap.size w2 w3) := (HBN.out.alloc (by omega) _).grown hg3 (by simp; omega) (fun q hq => (HON.out.lt q hq).1)
          have HO3 := Lib.hid hown3
          clear hown3 hg3
          go_wp2_with fail
          go_roundw
          case rel => exact ⟨j + 1, by omega, by go_num, by rw [HS1.out, List.length_append, ← HMM.out, List.map_append]; exact HO3.out, HB3.out⟩
          case measure => simp only [intOf]; omega
      · have HS0 := Lib.hid (HST.out.trans (if_neg (fun c => h1 c.1)))
        have q1 : (atO o r == 1) = false := by simpa using h1
        clear h1
        iterate 2 (refine lin_take (v := ?_) k10 (by rfl) ?_ ?_; rotate_left; (intro x hx; (try dsimp only at hx); (try have d0 := D.out x hx); go_simp; try (with_reducible rfl)); (try simp only [Act.put, List.setIfInBounds_toArray, List.set_cons_zero, List.set_cons_succ]))
        iterate 5 (refine lin_skip k10 (by rfl) ?_; (try simp only [Act.put, List.setIfInBounds_toArray, List.set_cons_zero, List.set_cons_succ]))
        refine lin_void k10 (by rfl) ?_
        try simp only [Act.put, List.setIfInBounds_toArray, List.set_cons_zero, List.set_cons_succ]
        refine lin_skip k10 (by rfl) ?_
        try simp only [Act.put, List.setIfInBounds_toArray, List.set_cons_zero, List.set_cons_succ]
        iterate 1 (refine lin_take (v := ?_) k10 (by rfl) ?_ ?_; rotate_left; (intro x hx; (try dsimp only at hx); go_simp; try (with_reducible rfl)); (try simp only [Act.put, List.setIfInBounds_toArray, List.set_cons_zero, List.set_cons_succ]))
        refine lin_done ?_
        have HBN := Lib.hid (HB.out.trans (k10.mono hwz))
        have HON : Hid (w3.ownsRow w2.heap.size 3 1 (.slice A2 m c2) m ((sentL o (zs.take j)).map (Value.int .i64))) := own_keepS HO.out (KeepS.of_below (S := fun _ => False) k10) (fun _ _ e => e)
        go_wp2_with fail
        go_roundw
        case rel => exact ⟨j + 1, by omega, by go_num, by rw [HS0.out, ← HMM.out]; exact HON.out, HBN.out⟩
        case measure => simp only [intOf]; omega
    · have HT := Lib.hid (show zs.take j = zs from List.take_of_length_le (by rw [← HN.out]; omega))
      have HE : Hid (wr.ownsRow w2.heap.size 3 1 (.slice A2 (sentL o (zs.take j)).length c2) (sentL o zs).length ((sentL o zs).map (Value.int .i64))) := by have := HO.out; rw [HT.out] at this ⊢; exact this
      go_wp2_with fail
      go_ret
      exact ⟨_, rfl, by rw [← HZS.out]; exact Row.of_own HE.out, fun a q c hv => Nat.le_trans (by have := HNW.out; omega) (NewV.own HE.out a q c hv), HK.out.trans (HB.out.mono (by have := HNW.out; omega))⟩
end Go.Proofs.Ytbibfpopkcekdaa.Words

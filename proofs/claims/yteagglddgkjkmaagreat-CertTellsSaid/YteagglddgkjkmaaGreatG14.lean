/- Several texts in one: WithCode, WithOf, SplSame, SplEqF, SplSameAny, CertRight, OnrMath2. -/
import Derived.Test.YteagglddgkjkmaaGreatG11
import Derived.Test.YteagglddgkjkmaaGreatG09
import Derived.LoopN
import Derived.Test.YteagglddgkjkmaaGreatG12
import Derived.Test.YteagglddgkjkmaaGreatG10
import Derived.LoopTactic
import Derived.Test.YteagglddgkjkmaaGreatG13
import Derived.Test.YteagglddgkjkmaaGreatG00

/- Contract of package split's fill: the cells of one block's instructions are put into it. -/
namespace Go.Proofs.YteagglddgkjkmaaGreat.Words
set_option maxRecDepth 100000
open Go.RowKit
set_option linter.unusedVariables false
set_option linter.unusedSimpArgs false

theorem FsR.again {base bv cap i : Nat} {z : List Int} {l : List Ins} {bs : List Blk} {W w : World} (h : FsR base bv cap z l bs i W w) : FsR base bv cap z l bs i w w := ⟨h.f, KeepS.refl _ _⟩
theorem FsR.from {base bv cap i : Nat} {z : List Int} {l : List Ins} {bs : List Blk} {W w w' : World} (h : FsR base bv cap z l bs i w w') (k : KeepS (fun j => j = bv) W w) : FsR base bv cap z l bs i W w' := ⟨h.f, k.trans h.keep⟩
/-- Part of a program's code. -/
theorem Row.code_cut {w : World} {B n c b off f t : Nat} {l : List Ins} (h : Row w B 5 (.slice (some ⟨b, off, none⟩) n c) n (codeCells l)) (hft : f < t) (ht : t ≤ n) {k : Nat} {x : Ins} (hx : l[f + k]? = some x) :
    w.cell? ⟨b, off + f * 5 + k * 5, none⟩ = some (.int .i64 x.op) ∧ w.cell? ⟨b, off + f * 5 + k * 5 + 1, none⟩ = some (.int .i64 x.d) ∧ w.cell? ⟨b, off + f * 5 + k * 5 + 2, none⟩ = some (.int .i64 x.a) ∧
    w.cell? ⟨b, off + f * 5 + k * 5 + 3, none⟩ = some (.int .i64 x.b) ∧ w.cell? ⟨b, off + f * 5 + k * 5 + 4, none⟩ = some (.int .i64 x.imm) := by
  have := h.ins hx
  rw [show off + f * 5 + k * 5 = off + (f + k) * 5 by omega]; exact this
set_option maxHeartbeats 8000000 in
theorem fill_any (base bv cap i : Nat) (o : List Int) (l : List Ins) (bs : List Blk) (b : Blk) (A : Option Addr) (c f t B : Nat) (w : World) (hF : FsR base bv cap (zeroed o) l bs i w w) (hb : bs[i]? = some b)
    (h1 : b.from_ = f) (h2 : b.to = t) (hft : f < t) (ht : t ≤ l.length) (hl : l.length ≤ 2000) (hr : Row w B 5 (.slice A l.length c) l.length (codeCells l)) (hB : B ≤ bv) (ho : o.length = 16) :
    Calls Tryz.prog 43 #[.pointer (some ⟨bv, i * 6, none⟩), .slice A l.length c, .agg (oV o).toArray] w fun e w' => e = .returned (.tuple #[]) ∧ FsR base bv cap (zeroed o) l bs (i + 1) w w' := by
  obtain ⟨i0, hi, hz0, hz1, hz2⟩ := info_parts info_cel
  have HI := Lib.hid hi
  have HZ0 := Lib.hid hz0
  have HZ1 := Lib.hid hz1
  have HZ2 := Lib.hid hz2
  clear hi hz0 hz1 hz2
  obtain ⟨w1, hw1⟩ : ∃ w1, w1 = w.alloc (.cells (oV o).toArray 30) := ⟨_, rfl⟩
  have hbW : Below w.heap.size w w1 := by rw [hw1]; exact (Below.refl _ _).alloc (Nat.le_refl _) _
  have HW1 := Lib.hid hbW
  have HZW : Hid (w1.heap.size = w.heap.size + 1) := by show _ = _; rw [hw1]; simp
  have HO1 : Hid (Box w1 w.heap.size (oV o)) := by rw [hw1]; exact Box.new w (oV o) _
  have HOL := Lib.hid ho
  have HF1 := Lib.hid ((hF.below hbW).again.start hb)
  have hlt := hF.lt
  have HBW := Lib.hid hlt.1
  have HR1 := Lib.hid (hr.below (hbW.mono (by omega)))
  have HBF := Lib.hid h1
  have HBT := Lib.hid h2
  have HLL := Lib.hid hl
  have hcap := hr.cap
  obtain ⟨ab, ao, rfl, _, _⟩ := hr.at_ (by omega)
  have c0 := HF1.out.cells
  rw [h1, h2] at c0
  obtain ⟨c0, c1, _, _⟩ := c0
  have HFT := Lib.hid hft
  have HTL := Lib.hid ht
  have g0 : (0 : Int) ≤ f := by omega
  have g1 : (f : Int) ≤ t := by omega
  have g2 : (t : Int) ≤ c := by omega
  have g3 : ¬ (f : Int) = c := by omega
  have g4 : ¬ f = c := by omega
  have HK := Lib.hid hbW
  have HF0 := Lib.hid hF.keep
  clear hF hb h1 h2 hr hl hcap hlt hbW ho hft ht
  go_enter Tryz.func43, Tryz.ntmps43
  go_upto_region 1 with (fail)
  change Code.wp _ _ _ _ (w.alloc (.cells (oV o).toArray 30))
  rw [← hw1]
  clear hw1
  go_quiet (fail)
  obtain ⟨N, hN⟩ : ∃ N, N = t - f := ⟨_, rfl⟩
  rw [← hN]
  have HN := Lib.hid hN
  clear hN
  go_wp2_with fail
  obtain ⟨w2, hw2⟩ : ∃ w2, w2 = w1.drewN nq := ⟨_, rfl⟩
  have HF2 : Hid (Fs base bv cap (zeroed o) l bs i b 0 0 w1.heap.size w1 w2 (.slice none 0 0) (.slice none 0 0)) := by rw [hw2]; exact HF1.out.drewN _
  rw [← hw2]
  clear hw2 c0 c1
  obtain ⟨M, hM⟩ : ∃ M, M = w1.heap.size := ⟨_, rfl⟩
  rw [← hM] at HF2 HZW
  have HMW : Hid (w.heap.size < M) := by have := HZW.out; show _ < _; omega
  clear hM
  go_loopw [20] (fun ii wr => ∃ (k : Nat) (va ve : Value), k ≤ N ∧ ii = .int .i64 k ∧ Fs base bv cap (zeroed o) l bs i b k k M w1 wr va ve) (fun ii _ => N - (intOf ii).toNat)
  case atStart => exact ⟨0, _, _, Nat.zero_le _, rfl, HF2.out⟩
  case round =>
    obtain ⟨k, va, ve, hkN, rfl, hF⟩ := hrel
    have HFr := Lib.hid hF
    clear hF
    by_cases hlt : k < N
    · have hkl : f + k < l.length := by have := HN.out; have := HTL.out; omega
      obtain ⟨x, hxe⟩ : ∃ x, x = insAtZ l (f + k) := ⟨_, rfl⟩
      have hx : l[f + k]? = some x := by rw [hxe]; unfold insAtZ; rw [List.getD_eq_getElem?_getD, List.getElem?_eq_getElem hkl]; rfl
      have HIA := Lib.hid hxe.symm
      clear hxe
      have hkp := HFr.out.keep
      have hrow := HR1.out.below (hkp.below (B := B) (by have := HK.out.size; have := HBW.out; omega) (fun j e => by omega))
      obtain ⟨e0, e1, e2, e3, e4⟩ := hrow.code_cut HFT.out HTL.out hx
      have c0 := HFr.out.cells.1
      rw [HBF.out] at c0
      have hbr : bv < wr.heap.size := by have := HFr.out.lt; omega
      have HBX := Lib.hid hbr
      obtain ⟨wa, hwa⟩ : ∃ wa, wa = wr.alloc (.cells (insV x).toArray 44) := ⟨_, rfl⟩
      have HF : Hid (Fs base bv cap (zeroed o) l bs i b k k M w1 wa va ve) := by rw [hwa]; exact HFr.out.alloc _
      have HXB : Hid (Box wa wr.heap.size (insV x)) := by rw [hwa]; exact Box.new wr (insV x) _
      have HOB : Hid (Box wa w.heap.size (oV o)) := by rw [hwa]; exact (HO1.out.keepS hkp (fun e => by have := HBW.out; omega)).alloc _
      obtain ⟨P, hP⟩ : ∃ P : Int, P = (f : Int) + (k : Int) := ⟨_, rfl⟩
      have HPC : Hid (((f + k : Nat) : Int) = P) := by show _ = _; rw [hP]; omega
      have HNX : Hid (va.ownBlock ≠ some wr.heap.size ∧ ve.ownBlock ≠ some wr.heap.size) := ⟨fun e => by have := (HFr.out.oa.lt _ e).2; omega, fun e => by have := (HFr.out.oe.lt _ e).2; omega⟩
      have HLF : Hid ((fillA (zeroed o) l b.from_.toNat k).length ≤ 6000 ∧ (fillE (zeroed o) l b.from_.toNat k).length ≤ 6000) := ⟨by have := fillA_len (zeroed o) l b.from_.toNat k; have := HLL.out; omega, by have := fillE_len (zeroed o) l b.from_.toNat k; have := HLL.out; omega⟩
      have HLE : Hid ((emitA (zeroed o) x P (k : Int)).length ≤ 3 ∧ (emitE (zeroed o) x P (k : Int)).length ≤ 3) := ⟨emitA_le3 _ _ _ _, emitE_le3 _ _ _ _⟩
      have g5 : (0 : Int) ≤ k := by omega
      have g6 : (k : Int) < N := by omega
      have g7 : (k : Int) ≤ 2000 := by have := HLL.out; omega
      have g8 : (f : Int) ≤ 2000 := by have := HLL.out; omega
      clear hkp hrow hx hkl
      go_upto_region 5 with (fail)
      change Code.wp _ _ _ _ (wr.alloc (.cells (insV x).toArray 44))
      rw [← hwa, ← hP]
      obtain ⟨xb, hxb⟩ : ∃ xb, xb = wr.heap.size := ⟨_, rfl⟩
      rw [← hxb] at HXB HNX HBX ⊢
      clear hwa hP hxb e0 e1 e2 e3 e4 c0 hbr
      refine region_tree_ex (fun (act : Act) (B : Value × Value) => (((((((((((((act.put (some 31) (.pointer (some ⟨bv, i * 6, none⟩))).put (some 32) (.pointer (some ⟨bv, i * 6, none⟩))).put (some 33) (.pointer (some ⟨bv, i * 6, none⟩))).put (some 34) (.pointer (some ⟨bv, i * 6 + 4, none⟩))).put (some 36) (.agg (insV x).toArray)).put (some 37) (.agg (oV o).toArray)).put (some 38) (.int .i64 P)).put (some 39) (.int .i64 (k : Int))).put (some 35) va).put (some 40) B.1).put (some 41) B.2).put (some 42) (.pointer (some ⟨bv, i * 6, none⟩))).put (some 43) (.pointer (some ⟨bv, i * 6 + 4, none⟩))))
        (fun B y => Fs base bv cap (zeroed o) l bs i b (k + 1) k M w1 y B.2 ve ∧ (Box y xb (insV x) ∧ Box y w.heap.size (oV o)) ∧ B.2.ownBlock ≠ some xb ∧ ve.ownBlock ≠ some xb)
        (LinT.of [(0, true), (1, true), (2, true), (3, true), (5, true), (6, true), (7, true), (8, true)] (.two 4 9 (LinT.of [(9, false), (10, false), (11, true), (12, true), (13, false)] .nil) (LinT.of [(4, false), (10, false), (11, true), (12, true), (13, false)] .nil)))
        (by kernel_rfl) (by kernel_rfl) rfl (by kernel_rfl) (fun y => Box y xb (insV x) ∧ Box y w.heap.size (oV o)) ?_ ?_
      · simp only [LinT.of, LinT.look, List.getElem?_toArray, List.getElem?_cons_succ, List.getElem?_cons_zero]
        have hS0 : wa.drew = wa.drew ∧ (Box wa.drew xb (insV x) ∧ Box wa.drew w.heap.size (oV o)) := ⟨rfl, HXB.out.drew, HOB.out.drew⟩
        have hS := hS0.2
        clear hS0
        have cP := HF.out.drew.cells
        have cF := HF.out.drew.frozen (i * 6 + 4)
        iterate 4 (refine tree_take (v := ?_) hS (by rfl) ?_ ?_; rotate_left; (intro y hy; (try dsimp only at hy); go_simp; try (with_reducible rfl)); (try simp only [Act.put, List.setIfInBounds_toArray, List.set_cons_zero, List.set_cons_succ]))
        refine tree_load_ex hS (by rfl) 44 (.tmp 7) rfl xb 0 rfl (insV x) (insV x) (fun y hy => hy.1) whole_at _ Tryz.underlying44 rfl 5 size_ins5 rfl ?_
        (try simp only [Act.put, List.setIfInBounds_toArray, List.set_cons_zero, List.set_cons_succ])
        refine tree_load_ex hS (by rfl) 30 (.tmp 5) rfl w.heap.size 0 rfl (oV o) (oV o) (fun y hy => hy.2) whole_at _ Tryz.underlying30 rfl 16 (by kernel_rfl) ((oV_len o).trans HOL.out) ?_
        (try simp only [Act.put, List.setIfInBounds_toArray, List.set_cons_zero, List.set_cons_succ])
        iterate 2 (refine tree_take (v := ?_) hS (by rfl) ?_ ?_; rotate_left; (intro y hy; (try dsimp only at hy); go_simp; try (with_reducible rfl)); (try simp only [Act.put, List.setIfInBounds_toArray, List.set_cons_zero, List.set_cons_succ]))
        refine tree_two hS (by rfl) (by rfl) (fun K hK => ?_) (fun K hK => ?_)
        · go_simp
          refine hK.out _ _ hS (fun _ => ?_)
          clear hK K
          (try simp only [Act.put, List.setIfInBounds_toArray, List.set_cons_zero, List.set_cons_succ])
          refine tree_call hS (by rfl) (fun K hK => ?_)
          go_simp
          refine (emitA_any x o P (k : Int) _ HOL.out).mono ?_; rintro e y0 ⟨vx, rfl, hrow, hnew, hb0⟩
          go_wp2_with fail
          have HF0 := Lib.hid (HF.out.drew.below hb0)
          have HR0 := Lib.hid hrow
          have hS1 : Box y0 xb (insV x) ∧ Box y0 w.heap.size (oV o) := ⟨hS.1.below hb0 hS.1.lt, hS.2.below hb0 hS.2.lt⟩
          have cP0 := HF0.out.cells
          have cF0 := HF0.out.frozen (i * 6 + 4)
          refine hK.out _ _ hS1 (fun _ => ?_)
          clear hK K hb0 hrow
          (try simp only [Act.put, List.setIfInBounds_toArray, List.set_cons_zero, List.set_cons_succ])
          refine tree_call hS1 (by rfl) (fun K hK => ?_)
          obtain ⟨n0, hn0⟩ : ∃ n0, n0 = (emitA (zeroed o) x P (k : Int)).length := ⟨_, rfl⟩
          have HN0 := Lib.hid hn0
          clear hn0
          refine wp_append_new _ (.tmp 35) (.tmp 40) 22 rfl M 49 i0 _ 9 72 Tryz.underlying22 HI.out HZ0.out HZ1.out HZ2.out rfl (by omega) va (fillA (zeroed o) l b.from_.toNat k).length (flat celCells (fillA (zeroed o) l b.from_.toNat k)) rfl HF0.out.oa _ vx n0 (flat celCells (emitA (zeroed o) x P (k : Int))) rfl (by rw [HN0.out]; exact HR0.out) (flat_one9 _) (by unfold maxLen; have := HLF.out; have := HLE.out; rw [HN0.out]; omega) (by have := HLF.out; have := HLE.out; rw [HN0.out]; omega) HF0.out.lt.2.1 ?_
          intro v1 y1 hO hg hn
          obtain ⟨hF1, q1, ⟨u1, q2⟩, A1, k1, rfl⟩ := HF0.out.appA HBF.out (m := n0) (by rw [HIA.out, HPC.out]; exact HN0.out) (by rw [HIA.out, HPC.out]; exact hO) hg hn
          have HF1 := Lib.hid hF1
          have HNV : Hid ((Value.slice A1 ((fillA (zeroed o) l b.from_.toNat k).length + n0) k1).ownBlock ≠ some xb) := fun e => (hn _ e).elim (fun e2 => HNX.out.1 e2) (fun e2 => by have := hS1.1.lt; omega)
          have hS2 : Box y1 xb (insV x) ∧ Box y1 w.heap.size (oV o) := ⟨hS1.1.keepS (KeepS.of_grown (S := fun j => va.ownBlock = some j) hg (fun g e => e)) HNX.out.1, hS1.2.keepS (KeepS.of_grown (S := fun j => va.ownBlock = some j) hg (fun g e => e)) (fun e => by have := (HF0.out.oa.lt _ e).1; have := HMW.out; omega)⟩
          have hS3 : Box (y1.setCell ⟨bv, i * 6 + 4, none⟩ (.slice A1 ((fillA (zeroed o) l b.from_.toNat k).length + n0) k1)) xb (insV x) ∧ Box (y1.setCell ⟨bv, i * 6 + 4, none⟩ (.slice A1 ((fillA (zeroed o) l b.from_.toNat k).length + n0) k1)) w.heap.size (oV o) :=
            ⟨hS2.1.keepS ((KeepS.refl (fun j => j = bv) y1).setCell rfl _ _) (fun e => by have := HBX.out; omega), hS2.2.keepS ((KeepS.refl (fun j => j = bv) y1).setCell rfl _ _) (fun e => by have := HBW.out; omega)⟩
          clear hO hg hn hF1
          refine hK.out _ _ hS2 (fun _ => ?_)
          clear hK K
          (try simp only [Act.put, List.setIfInBounds_toArray, List.set_cons_zero, List.set_cons_succ])
          iterate 2 (refine tree_take (v := ?_) hS2 (by rfl) ?_ ?_; rotate_left; (intro y hy; (try dsimp only at hy); go_simp; try (with_reducible rfl)); (try simp only [Act.put, List.setIfInBounds_toArray, List.set_cons_zero, List.set_cons_succ]))
          refine tree_call hS2 (by rfl) (fun K hK => ?_)
          go_simp
          refine hK.out _ _ hS3 (fun _ => ?_)
          clear hK K
          exact tree_done ⟨(vx, .slice A1 ((fillA (zeroed o) l b.from_.toNat k).length + n0) k1), rfl, HF1.out, hS3, HNV.out, HNX.out.2⟩
        · go_simp
          refine (emitA_any x o P (k : Int) _ HOL.out).mono ?_; rintro e y0 ⟨vx, rfl, hrow, hnew, hb0⟩
          go_wp2_with fail
          have HF0 := Lib.hid (HF.out.drew.below hb0)
          have HR0 := Lib.hid hrow
          have hS1 : Box y0 xb (insV x) ∧ Box y0 w.heap.size (oV o) := ⟨hS.1.below hb0 hS.1.lt, hS.2.below hb0 hS.2.lt⟩
          have cP0 := HF0.out.cells
          have cF0 := HF0.out.frozen (i * 6 + 4)
          refine hK.out _ _ hS1 (fun _ => ?_)
          clear hK K hb0 hrow
          (try simp only [Act.put, List.setIfInBounds_toArray, List.set_cons_zero, List.set_cons_succ])
          refine tree_call hS1 (by rfl) (fun K hK => ?_)
          go_simp
          refine hK.out _ _ hS1 (fun _ => ?_)
          clear hK K
          (try simp only [Act.put, List.setIfInBounds_toArray, List.set_cons_zero, List.set_cons_succ])
          refine tree_call hS1 (by rfl) (fun K hK => ?_)
          obtain ⟨n0, hn0⟩ : ∃ n0, n0 = (emitA (zeroed o) x P (k : Int)).length := ⟨_, rfl⟩
          have HN0 := Lib.hid hn0
          clear hn0
          refine wp_append_new _ (.tmp 35) (.tmp 40) 22 rfl M 49 i0 _ 9 72 Tryz.underlying22 HI.out HZ0.out HZ1.out HZ2.out rfl (by omega) va (fillA (zeroed o) l b.from_.toNat k).length (flat celCells (fillA (zeroed o) l b.from_.toNat k)) rfl HF0.out.oa _ vx n0 (flat celCells (emitA (zeroed o) x P (k : Int))) rfl (by rw [HN0.out]; exact HR0.out) (flat_one9 _) (by unfold maxLen; have := HLF.out; have := HLE.out; rw [HN0.out]; omega) (by have := HLF.out; have := HLE.out; rw [HN0.out]; omega) HF0.out.lt.2.1 ?_
          intro v1 y1 hO hg hn
          obtain ⟨hF1, q1, ⟨u1, q2⟩, A1, k1, rfl⟩ := HF0.out.appA HBF.out (m := n0) (by rw [HIA.out, HPC.out]; exact HN0.out) (by rw [HIA.out, HPC.out]; exact hO) hg hn
          have HF1 := Lib.hid hF1
          have HNV : Hid ((Value.slice A1 ((fillA (zeroed o) l b.from_.toNat k).length + n0) k1).ownBlock ≠ some xb) := fun e => (hn _ e).elim (fun e2 => HNX.out.1 e2) (fun e2 => by have := hS1.1.lt; omega)
          have hS2 : Box y1 xb (insV x) ∧ Box y1 w.heap.size (oV o) := ⟨hS1.1.keepS (KeepS.of_grown (S := fun j => va.ownBlock = some j) hg (fun g e => e)) HNX.out.1, hS1.2.keepS (KeepS.of_grown (S := fun j => va.ownBlock = some j) hg (fun g e => e)) (fun e => by have := (HF0.out.oa.lt _ e).1; have := HMW.out; omega)⟩
          have hS3 : Box (y1.setCell ⟨bv, i * 6 + 4, none⟩ (.slice A1 ((fillA (zeroed o) l b.from_.toNat k).length + n0) k1)) xb (insV x) ∧ Box (y1.setCell ⟨bv, i * 6 + 4, none⟩ (.slice A1 ((fillA (zeroed o) l b.from_.toNat k).length + n0) k1)) w.heap.size (oV o) :=
            ⟨hS2.1.keepS ((KeepS.refl (fun j => j = bv) y1).setCell rfl _ _) (fun e => by have := HBX.out; omega), hS2.2.keepS ((KeepS.refl (fun j => j = bv) y1).setCell rfl _ _) (fun e => by have := HBW.out; omega)⟩
          clear hO hg hn hF1
          refine hK.out _ _ hS2 (fun _ => ?_)
          clear hK K
          (try simp only [Act.put, List.setIfInBounds_toArray, List.set_cons_zero, List.set_cons_succ])
          iterate 2 (refine tree_take (v := ?_) hS2 (by rfl) ?_ ?_; rotate_left; (intro y hy; (try dsimp only at hy); go_simp; try (with_reducible rfl)); (try simp only [Act.put, List.setIfInBounds_toArray, List.set_cons_zero, List.set_cons_succ]))
          refine tree_call hS2 (by rfl) (fun K hK => ?_)
          go_simp
          refine hK.out _ _ hS3 (fun _ => ?_)
          clear hK K
          exact tree_done ⟨(vx, .slice A1 ((fillA (zeroed o) l b.from_.toNat k).length + n0) k1), rfl, HF1.out, hS3, HNV.out, HNX.out.2⟩

      rintro ⟨vx, v1⟩ w5 ⟨hF5, hS5, hN5⟩
      dsimp only at hF5 hN5
      have HF5 := Lib.hid hF5
      have HX5 := Lib.hid hS5.1
      have HO5 := Lib.hid hS5.2
      have HN5 := Lib.hid hN5
      clear hF5 hS5 hN5 HF HXB HOB HNX
      simp only [Act.put, List.setIfInBounds_toArray, List.set_cons_zero, List.set_cons_succ]
      go_wp2_with fail
      have HF := HF5
      have HXB := HX5
      have HOB := HO5
      have HNX := HN5
      clear HF5 HX5 HO5 HN5
      refine region_tree_ex (fun (act : Act) (B : Value × Value) => (((((((((((((act.put (some 44) (.pointer (some ⟨bv, i * 6, none⟩))).put (some 45) (.pointer (some ⟨bv, i * 6, none⟩))).put (some 46) (.pointer (some ⟨bv, i * 6, none⟩))).put (some 47) (.pointer (some ⟨bv, i * 6 + 5, none⟩))).put (some 49) (.agg (insV x).toArray)).put (some 50) (.agg (oV o).toArray)).put (some 51) (.int .i64 P)).put (some 52) (.int .i64 (k : Int))).put (some 48) ve).put (some 53) B.1).put (some 54) B.2).put (some 55) (.pointer (some ⟨bv, i * 6, none⟩))).put (some 56) (.pointer (some ⟨bv, i * 6 + 5, none⟩))))
        (fun B y => Fs base bv cap (zeroed o) l bs i b (k + 1) (k + 1) M w1 y v1 B.2 ∧ (Box y xb (insV x) ∧ Box y w.heap.size (oV o)) ∧ v1.ownBlock ≠ some xb ∧ B.2.ownBlock ≠ some xb)
        (LinT.of [(0, true), (1, true), (2, true), (3, true), (5, true), (6, true), (7, true), (8, true)] (.two 4 9 (LinT.of [(9, false), (10, false), (11, true), (12, true), (13, false)] .nil) (LinT.of [(4, false), (10, false), (11, true), (12, true), (13, false)] .nil)))
        (by kernel_rfl) (by kernel_rfl) rfl (by kernel_rfl) (fun y => Box y xb (insV x) ∧ Box y w.heap.size (oV o)) ?_ ?_
      · simp only [LinT.of, LinT.look, List.getElem?_toArray, List.getElem?_cons_succ, List.getElem?_cons_zero]
        have hS0 : w5.drew = w5.drew ∧ (Box w5.drew xb (insV x) ∧ Box w5.drew w.heap.size (oV o)) := ⟨rfl, HXB.out.drew, HOB.out.drew⟩
        have hS := hS0.2
        clear hS0
        have cP := HF.out.drew.cells
        have cF := HF.out.drew.frozen (i * 6 + 5)
        iterate 4 (refine tree_take (v := ?_) hS (by rfl) ?_ ?_; rotate_left; (intro y hy; (try dsimp only at hy); go_simp; try (with_reducible rfl)); (try simp only [Act.put, List.setIfInBounds_toArray, List.set_cons_zero, List.set_cons_succ]))
        refine tree_load_ex hS (by rfl) 44 (.tmp 7) rfl xb 0 rfl (insV x) (insV x) (fun y hy => hy.1) whole_at _ Tryz.underlying44 rfl 5 size_ins5 rfl ?_
        (try simp only [Act.put, List.setIfInBounds_toArray, List.set_cons_zero, List.set_cons_succ])
        refine tree_load_ex hS (by rfl) 30 (.tmp 5) rfl w.heap.size 0 rfl (oV o) (oV o) (fun y hy => hy.2) whole_at _ Tryz.underlying30 rfl 16 (by kernel_rfl) ((oV_len o).trans HOL.out) ?_
        (try simp only [Act.put, List.setIfInBounds_toArray, List.set_cons_zero, List.set_cons_succ])
        iterate 2 (refine tree_take (v := ?_) hS (by rfl) ?_ ?_; rotate_left; (intro y hy; (try dsimp only at hy); go_simp; try (with_reducible rfl)); (try simp only [Act.put, List.setIfInBounds_toArray, List.set_cons_zero, List.set_cons_succ]))
        refine tree_two hS (by rfl) (by rfl) (fun K hK => ?_) (fun K hK => ?_)
        · go_simp
          refine hK.out _ _ hS (fun _ => ?_)
          clear hK K
          (try simp only [Act.put, List.setIfInBounds_toArray, List.set_cons_zero, List.set_cons_succ])
          refine tree_call hS (by rfl) (fun K hK => ?_)
          go_simp
          refine (emitE_any x o P (k : Int) _ HOL.out).mono ?_; rintro e y0 ⟨vx, rfl, hrow, hnew, hb0⟩
          go_wp2_with fail
          have HF0 := Lib.hid (HF.out.drew.below hb0)
          have HR0 := Lib.hid hrow
          have hS1 : Box y0 xb (insV x) ∧ Box y0 w.heap.size (oV o) := ⟨hS.1.below hb0 hS.1.lt, hS.2.below hb0 hS.2.lt⟩
          have cP0 := HF0.out.cells
          have cF0 := HF0.out.frozen (i * 6 + 5)
          refine hK.out _ _ hS1 (fun _ => ?_)
          clear hK K hb0 hrow
          (try simp only [Act.put, List.setIfInBounds_toArray, List.set_cons_zero, List.set_cons_succ])
          refine tree_call hS1 (by rfl) (fun K hK => ?_)
          obtain ⟨n0, hn0⟩ : ∃ n0, n0 = (emitE (zeroed o) x P (k : Int)).length := ⟨_, rfl⟩
          have HN0 := Lib.hid hn0
          clear hn0
          refine wp_append_new _ (.tmp 48) (.tmp 53) 22 rfl M 49 i0 _ 9 72 Tryz.underlying22 HI.out HZ0.out HZ1.out HZ2.out rfl (by omega) ve (fillE (zeroed o) l b.from_.toNat k).length (flat celCells (fillE (zeroed o) l b.from_.toNat k)) rfl HF0.out.oe _ vx n0 (flat celCells (emitE (zeroed o) x P (k : Int))) rfl (by rw [HN0.out]; exact HR0.out) (flat_one9 _) (by unfold maxLen; have := HLF.out; have := HLE.out; rw [HN0.out]; omega) (by have := HLF.out; have := HLE.out; rw [HN0.out]; omega) HF0.out.lt.2.1 ?_
          intro v1 y1 hO hg hn
          obtain ⟨hF1, q1, ⟨u1, q2⟩, A1, k1, rfl⟩ := HF0.out.appE HBF.out (m := n0) (by rw [HIA.out, HPC.out]; exact HN0.out) (by rw [HIA.out, HPC.out]; exact hO) hg hn
          have HF1 := Lib.hid hF1
          have HNV : Hid ((Value.slice A1 ((fillE (zeroed o) l b.from_.toNat k).length + n0) k1).ownBlock ≠ some xb) := fun e => (hn _ e).elim (fun e2 => HNX.out.2 e2) (fun e2 => by have := hS1.1.lt; omega)
          have hS2 : Box y1 xb (insV x) ∧ Box y1 w.heap.size (oV o) := ⟨hS1.1.keepS (KeepS.of_grown (S := fun j => ve.ownBlock = some j) hg (fun g e => e)) HNX.out.2, hS1.2.keepS (KeepS.of_grown (S := fun j => ve.ownBlock = some j) hg (fun g e => e)) (fun e => by have := (HF0.out.oe.lt _ e).1; have := HMW.out; omega)⟩
          have hS3 : Box (y1.setCell ⟨bv, i * 6 + 5, none⟩ (.slice A1 ((fillE (zeroed o) l b.from_.toNat k).length + n0) k1)) xb (insV x) ∧ Box (y1.setCell ⟨bv, i * 6 + 5, none⟩ (.slice A1 ((fillE (zeroed o) l b.from_.toNat k).length + n0) k1)) w.heap.size (oV o) :=
            ⟨hS2.1.keepS ((KeepS.refl (fun j => j = bv) y1).setCell rfl _ _) (fun e => by have := HBX.out; omega), hS2.2.keepS ((KeepS.refl (fun j => j = bv) y1).setCell rfl _ _) (fun e => by have := HBW.out; omega)⟩
          clear hO hg hn hF1
          refine hK.out _ _ hS2 (fun _ => ?_)
          clear hK K
          (try simp only [Act.put, List.setIfInBounds_toArray, List.set_cons_zero, List.set_cons_succ])
          iterate 2 (refine tree_take (v := ?_) hS2 (by rfl) ?_ ?_; rotate_left; (intro y hy; (try dsimp only at hy); go_simp; try (with_reducible rfl)); (try simp only [Act.put, List.setIfInBounds_toArray, List.set_cons_zero, List.set_cons_succ]))
          refine tree_call hS2 (by rfl) (fun K hK => ?_)
          go_simp
          refine hK.out _ _ hS3 (fun _ => ?_)
          clear hK K
          exact tree_done ⟨(vx, .slice A1 ((fillE (zeroed o) l b.from_.toNat k).length + n0) k1), rfl, HF1.out, hS3, HNX.out.1, HNV.out⟩
        · go_simp
          refine (emitE_any x o P (k : Int) _ HOL.out).mono ?_; rintro e y0 ⟨vx, rfl, hrow, hnew, hb0⟩
          go_wp2_with fail
          have HF0 := Lib.hid (HF.out.drew.below hb0)
          have HR0 := Lib.hid hrow
          have hS1 : Box y0 xb (insV x) ∧ Box y0 w.heap.size (oV o) := ⟨hS.1.below hb0 hS.1.lt, hS.2.below hb0 hS.2.lt⟩
          have cP0 := HF0.out.cells
          have cF0 := HF0.out.frozen (i * 6 + 5)
          refine hK.out _ _ hS1 (fun _ => ?_)
          clear hK K hb0 hrow
          (try simp only [Act.put, List.setIfInBounds_toArray, List.set_cons_zero, List.set_cons_succ])
          refine tree_call hS1 (by rfl) (fun K hK => ?_)
          go_simp
          refine hK.out _ _ hS1 (fun _ => ?_)
          clear hK K
          (try simp only [Act.put, List.setIfInBounds_toArray, List.set_cons_zero, List.set_cons_succ])
          refine tree_call hS1 (by rfl) (fun K hK => ?_)
          obtain ⟨n0, hn0⟩ : ∃ n0, n0 = (emitE (zeroed o) x P (k : Int)).length := ⟨_, rfl⟩
          have HN0 := Lib.hid hn0
          clear hn0
          refine wp_append_new _ (.tmp 48) (.tmp 53) 22 rfl M 49 i0 _ 9 72 Tryz.underlying22 HI.out HZ0.out HZ1.out HZ2.out rfl (by omega) ve (fillE (zeroed o) l b.from_.toNat k).length (flat celCells (fillE (zeroed o) l b.from_.toNat k)) rfl HF0.out.oe _ vx n0 (flat celCells (emitE (zeroed o) x P (k : Int))) rfl (by rw [HN0.out]; exact HR0.out) (flat_one9 _) (by unfold maxLen; have := HLF.out; have := HLE.out; rw [HN0.out]; omega) (by have := HLF.out; have := HLE.out; rw [HN0.out]; omega) HF0.out.lt.2.1 ?_
          intro v1 y1 hO hg hn
          obtain ⟨hF1, q1, ⟨u1, q2⟩, A1, k1, rfl⟩ := HF0.out.appE HBF.out (m := n0) (by rw [HIA.out, HPC.out]; exact HN0.out) (by rw [HIA.out, HPC.out]; exact hO) hg hn
          have HF1 := Lib.hid hF1
          have HNV : Hid ((Value.slice A1 ((fillE (zeroed o) l b.from_.toNat k).length + n0) k1).ownBlock ≠ some xb) := fun e => (hn _ e).elim (fun e2 => HNX.out.2 e2) (fun e2 => by have := hS1.1.lt; omega)
          have hS2 : Box y1 xb (insV x) ∧ Box y1 w.heap.size (oV o) := ⟨hS1.1.keepS (KeepS.of_grown (S := fun j => ve.ownBlock = some j) hg (fun g e => e)) HNX.out.2, hS1.2.keepS (KeepS.of_grown (S := fun j => ve.ownBlock = some j) hg (fun g e => e)) (fun e => by have := (HF0.out.oe.lt _ e).1; have := HMW.out; omega)⟩
          have hS3 : Box (y1.setCell ⟨bv, i * 6 + 5, none⟩ (.slice A1 ((fillE (zeroed o) l b.from_.toNat k).length + n0) k1)) xb (insV x) ∧ Box (y1.setCell ⟨bv, i * 6 + 5, none⟩ (.slice A1 ((fillE (zeroed o) l b.from_.toNat k).length + n0) k1)) w.heap.size (oV o) :=
            ⟨hS2.1.keepS ((KeepS.refl (fun j => j = bv) y1).setCell rfl _ _) (fun e => by have := HBX.out; omega), hS2.2.keepS ((KeepS.refl (fun j => j = bv) y1).setCell rfl _ _) (fun e => by have := HBW.out; omega)⟩
          clear hO hg hn hF1
          refine hK.out _ _ hS2 (fun _ => ?_)
          clear hK K
          (try simp only [Act.put, List.setIfInBounds_toArray, List.set_cons_zero, List.set_cons_succ])
          iterate 2 (refine tree_take (v := ?_) hS2 (by rfl) ?_ ?_; rotate_left; (intro y hy; (try dsimp only at hy); go_simp; try (with_reducible rfl)); (try simp only [Act.put, List.setIfInBounds_toArray, List.set_cons_zero, List.set_cons_succ]))
          refine tree_call hS2 (by rfl) (fun K hK => ?_)
          go_simp
          refine hK.out _ _ hS3 (fun _ => ?_)
          clear hK K
          exact tree_done ⟨(vx, .slice A1 ((fillE (zeroed o) l b.from_.toNat k).length + n0) k1), rfl, HF1.out, hS3, HNX.out.1, HNV.out⟩

      rintro ⟨vy, v2⟩ w6 ⟨hF6, hS6, hN6⟩
      dsimp only at hF6
      have HF6 := Lib.hid hF6
      clear hF6 hS6 hN6 HF HXB HOB HNX
      simp only [Act.put, List.setIfInBounds_toArray, List.set_cons_zero, List.set_cons_succ]
      go_wp2_with fail
      go_roundw
      case rel => exact ⟨k + 1, v1, v2, by omega, by go_num, HF6.out⟩
      case measure => simp only [intOf]; omega
    · have HE : Hid (FsR base bv cap (zeroed o) l bs (i + 1) w wr) := ((HFr.out.rest HBF.out HBT.out (by have := HN.out; omega)).again.from (KeepS.of_below (HK.out) |>.trans (HFr.out.keep.mono (fun _ e => e))))
      go_wp2_with fail
      first | exact bodyPost_ret (v := .tuple #[]) (by simp [results, Tryz.results43, go_sem]) rfl ⟨rfl, HE.out⟩ | exact bodyPost_end (v := .tuple #[]) (by simp [results, Tryz.results43, go_sem]) rfl ⟨rfl, HE.out⟩
end Go.Proofs.YteagglddgkjkmaaGreat.Words

/- Contract of package split's With: a program's blocks with their cells. -/
namespace Go.Proofs.YteagglddgkjkmaaGreat.Words
set_option maxRecDepth 100000
open Go.RowKit
set_option linter.unusedVariables false
set_option linter.unusedSimpArgs false

set_option maxHeartbeats 2000000 in
theorem with_any (A : Option Addr) (c : Nat) (sz : Int) (A' : Option Addr) (m c' : Nat) (l : List Ins) (o : List Int) (w : World) (hr : Row w w.heap.size 5 (.slice A l.length c) l.length (codeCells l)) (hm : m ≤ c') (hc' : c' ≤ 9223372036854775807) (ho : o.length = 16) :
    Calls Tryz.prog 29 #[.agg #[.slice A l.length c, .int .i64 sz, .slice A' m c'], .agg (oV o).toArray] w
      (WithOut w (withZ l sz m o) (ownW l sz m o) (errW l sz m o)) := by
  obtain ⟨W1, hW1⟩ : ∃ W1, W1 = w.alloc (.cells #[.slice A l.length c, .int .i64 sz, .slice A' m c'] 28) := ⟨_, rfl⟩
  obtain ⟨W2, hW2⟩ : ∃ W2, W2 = W1.alloc (.cells (oV o).toArray 30) := ⟨_, rfl⟩
  obtain ⟨W3, hW3⟩ : ∃ W3, W3 = W2.alloc (.cells zeroSpl.toArray 32) := ⟨_, rfl⟩
  have hz1 : W1.heap.size = w.heap.size + 1 := by rw [hW1]; simp
  have hz2 : W2.heap.size = w.heap.size + 2 := by rw [hW2]; simp [hz1]
  have hz3 : W3.heap.size = w.heap.size + 3 := by rw [hW3]; simp [hz2]
  have HK3 : Hid (Below w.heap.size w W3) := by rw [hW3, hW2, hW1]; exact (((Below.refl w.heap.size w).alloc (Nat.le_refl _) _).alloc (by simp) _).alloc (by simp; omega) _
  have HP3 : Hid (Box W3 w.heap.size [.slice A l.length c, .int .i64 sz, .slice A' m c']) := by rw [hW3, hW2, hW1]; exact ((Box.new w [.slice A l.length c, .int .i64 sz, .slice A' m c'] _).alloc _).alloc _
  have HO3 : Hid (Box W3 (w.heap.size + 1) (oV o)) := by rw [hW3, hW2, ← hz1]; exact (Box.new W1 (oV o) _).alloc _
  have HS3 : Hid (Box W3 (w.heap.size + 2) zeroSpl) := by rw [hW3, ← hz2]; exact Box.new W2 zeroSpl _
  have HR3 := Lib.hid (hr.below HK3.out)
  have HZ3 : Hid (W3.heap.size = w.heap.size + 3) := hz3
  have HOL := Lib.hid ho
  have HCAP := Lib.hid (⟨hm, hc'⟩ : m ≤ c' ∧ c' ≤ 9223372036854775807)
  have HCL := Lib.hid hr.cap
  clear hr hm hc' ho hz1 hz2 hz3
  go_enter Tryz.func29, Tryz.ntmps29
  go_upto_region 1 with (fail)
  change Code.wp _ _ _ _ (((w.alloc (.cells #[.slice A l.length c, .int .i64 sz, .slice A' m c'] 28)).alloc (.cells (oV o).toArray 30)).alloc (.cells zeroSpl.toArray 32))
  rw [← hW1, ← hW2, ← hW3]
  clear hW1 hW2 hW3
  go_wp2_with (first
    | (refine wpList_load_box rfl 28 (.tmp 2) rfl w.heap.size 0 rfl [.slice A l.length c, .int .i64 sz, .slice A' m c'] [.slice A l.length c, .int .i64 sz, .slice A' m c'] HP3.out whole_at _ Tryz.underlying28 rfl 3 size_prg rfl ?_)
    | (refine wpList_load_box rfl 30 (.tmp 3) rfl (w.heap.size + 1) 0 rfl (oV o) (oV o) HO3.out whole_at _ Tryz.underlying30 rfl 16 (by kernel_rfl) ((oV_len o).trans HOL.out) ?_))
  refine (closed_any A c sz A' m c' l o _ (HR3.out.more (by have := HZ3.out; omega)) HCAP.out.1 HCAP.out.2 HOL.out).mono ?_; rintro e w4 ⟨rfl, hb⟩
  have HK4 := Lib.hid (HK3.out.trans (hb.mono (by have := HZ3.out; omega)))
  have HP4 := Lib.hid (HP3.out.below hb HP3.out.lt)
  have HO4 := Lib.hid (HO3.out.below hb HO3.out.lt)
  have HS4 := Lib.hid (HS3.out.below hb HS3.out.lt)
  have HZ4 : Hid (w.heap.size + 3 ≤ w4.heap.size) := by have := HZ3.out; have := hb.size; show _ ≤ _; omega
  have HR4 := Lib.hid (HR3.out.below (hb.mono (by have := HZ3.out; omega)))
  clear hb
  cases hcl : closedZ l sz m o
  · have HW := Lib.hid (with_no hcl)
    try dsimp only
    go_wp2_with (first
      | (refine wpList_store_box rfl 32 (.tmp 4) (.tmp 12) rfl (w.heap.size + 2) 0 zeroSpl rfl rfl zeroSpl HS4.out (by decide) 17 size_spl rfl (splV_one rfl) ?_; intro w5 B5 hg5; rw [splice_whole zeroSpl zeroSpl rfl] at B5))
    refine bodyPost_ret (v := .tuple #[.agg zeroSpl.toArray, .int .i64 1]) (results_cell_tmp' Tryz.results29 _ _ _ ⟨w.heap.size + 2, 0, none⟩ _ _ rfl (load_spl rfl B5) rfl) rfl ⟨.slice none 0 0, by rw [HW.out.2.1, HW.out.2.2]; rfl, ?_, ?_⟩
    · rw [HW.out.1]; exact ⟨[], Row.nil _ _ _, NewV.none _, rfl, fun k r c h => by simp at h⟩
    · exact HK4.out.grown hg5 (by have := HZ4.out; omega) (fun q hq => by injection hq with hq; omega)
  · have HW := Lib.hid (with_yes hcl)
    have HC1 := Lib.hid (cut_some hcl)
    clear hcl
    obtain ⟨bs, hbs⟩ : ∃ bs, bs = cutR l sz m := ⟨_, rfl⟩
    have HBS := Lib.hid hbs
    clear hbs
    try dsimp only
    go_wp2_with fail
    have hk4 : Kept w4 w4.drew := (Kept.refl w4).drew
    refine region_tree_ex (fun (act : Act) (B : Nat × Value) => ((((act.put (some 13) (.agg #[.slice A l.length c, .int .i64 sz, .slice A' m c'])).put (some 15) (.agg (oV o).toArray)).put (some 14) B.2).put (some 16) (.agg (splV B.2 o).toArray)).put (some 6) (.pointer (some ⟨B.1, 0, none⟩)))
      (fun B y => Box y B.1 (splV B.2 o) ∧ y.ownsRow w4.heap.size 24 6 B.2 bs.length (flat blkL bs) ∧ Kept w4 y ∧ w4.heap.size ≤ B.1 ∧ B.2.ownBlock ≠ some B.1)
      (LinT.of [(0, true), (2, true)] (.two 1 4 (LinT.of [(3, true), (4, false), (5, false)] .nil) (LinT.of [(1, false), (3, true), (5, false)] .nil)))
      (by kernel_rfl) (by kernel_rfl) rfl (by kernel_rfl) (Kept w4) ?_ ?_
    · simp only [LinT.of, LinT.look, List.getElem?_toArray, List.getElem?_cons_succ, List.getElem?_cons_zero]
      refine tree_load_ex hk4 (by rfl) 28 (.tmp 2) rfl w.heap.size 0 rfl [.slice A l.length c, .int .i64 sz, .slice A' m c'] [.slice A l.length c, .int .i64 sz, .slice A' m c'] (fun y hy => HP4.out.kept hy) whole_at _ Tryz.underlying28 rfl 3 size_prg rfl ?_
      simp only [Act.put, List.setIfInBounds_toArray, List.set_cons_zero, List.set_cons_succ]
      refine tree_load_ex hk4 (by rfl) 30 (.tmp 3) rfl (w.heap.size + 1) 0 rfl (oV o) (oV o) (fun y hy => HO4.out.kept hy) whole_at _ Tryz.underlying30 rfl 16 (by kernel_rfl) ((oV_len o).trans HOL.out) ?_
      simp only [Act.put, List.setIfInBounds_toArray, List.set_cons_zero, List.set_cons_succ]
      refine tree_two hk4 (by rfl) (by rfl) (fun K hK => ?_) (fun K hK => ?_)
      · go_simp
        refine (blkCut_any A c sz A' m c' l _ (by exact (HR4.out.more (B' := w4.heap.size) (by have := HZ4.out; omega)).drew) HCAP.out.1 HCAP.out.2).mono ?_; rintro e w5 ⟨v, rfl, hO, hb⟩
        rw [← HBS.out] at hO
        obtain ⟨A5, c5, rfl⟩ := (Row.of_own hO).form
        go_wp2_with fail
        have hk5 := hk4.to hb
        have HO5 := Lib.hid hO
        refine hK.out _ _ hk5 (fun _ => ?_)
        clear hK K hb hO
        (try simp only [Act.put, List.setIfInBounds_toArray, List.set_cons_zero, List.set_cons_succ])
        refine tree_take (v := .agg (splV (.slice A5 bs.length c5) o).toArray) hk5 (by rfl) (fun x hx => exec_built _ _ rfl _ (by simp only [List.map_toArray, List.map_cons, List.map_nil]; exact spl_built A5 bs.length c5 o HOL.out) x) ?_
        (try simp only [Act.put, List.setIfInBounds_toArray, List.set_cons_zero, List.set_cons_succ])
        refine tree_call hk5 (by rfl) (fun K hK => ?_)
        go_simp
        have hk6 : Kept w4 (w5.alloc (.cells zeroSpl.toArray 32)) := hk5.alloc _
        have HB6 := Lib.hid (Box.new w5 zeroSpl 32)
        have HO6 := Lib.hid (HO5.out.alloc (.cells zeroSpl.toArray 32))
        have HNB : Hid ((Value.slice A5 bs.length c5).ownBlock ≠ some w5.heap.size) := fun e => by have := (HO5.out.lt _ e).2; omega
        refine hK.out _ _ hk6 (fun _ => ?_)
        clear hK K
        change wpT _ _ _ _ _ _ _ (w5.alloc (.cells zeroSpl.toArray 32))
        (try simp only [Act.put, List.setIfInBounds_toArray, List.set_cons_zero, List.set_cons_succ])
        refine tree_put_cells hk6 (by rfl) 32 (.tmp 6) (.tmp 16) rfl w5.heap.size 0 (splV (.slice A5 bs.length c5) o) rfl rfl zeroSpl HB6.out (by rw [splV_len HOL.out]; decide) 17 size_spl (splV_len HOL.out) (splV_one rfl) (fun y hy hg => Below.grown hk6 hg hk6.size (fun q hq => by injection hq with hq; have := hk5.size; omega)) ?_
        intro yz hbz hgz
        rw [splice_whole zeroSpl (splV (.slice A5 bs.length c5) o) (by rw [splV_len HOL.out]; rfl)] at hbz
        (try simp only [Act.put, List.setIfInBounds_toArray, List.set_cons_zero, List.set_cons_succ])
        exact tree_done ⟨(w5.heap.size, .slice A5 bs.length c5), rfl, hbz, own_grown HO6.out hgz (fun g e1 e2 => by injection e2 with e2; subst e2; exact HNB.out e1), Below.grown hk6 hgz hk6.size (fun q hq => by injection hq with hq; have := hk5.size; omega), hk5.size, HNB.out⟩
      · go_simp
        have hk5 : Kept w4 (w4.drew.alloc (.cells zeroSpl.toArray 32)) := hk4.alloc _
        have HB5 := Lib.hid (Box.new w4.drew zeroSpl 32)
        refine hK.out _ _ hk5 (fun _ => ?_)
        clear hK K
        change wpT _ _ _ _ _ _ _ (w4.drew.alloc (.cells zeroSpl.toArray 32))
        (try simp only [Act.put, List.setIfInBounds_toArray, List.set_cons_zero, List.set_cons_succ])
        obtain ⟨w5, hw5⟩ : ∃ w5, w5 = w4.drew.alloc (.cells zeroSpl.toArray 32) := ⟨_, rfl⟩
        have HZ5 : Hid (w5.heap.size = w4.heap.size + 1) := by show _ = _; rw [hw5]; simp
        rw [← hw5] at hk5 HB5 ⊢
        clear hw5
        refine tree_call hk5 (by rfl) (fun K hK => ?_)
        go_simp
        refine (blkCut_any A c sz A' m c' l _ (by exact (HR4.out.more (by have := HZ4.out; omega)).below hk5 |>.more hk5.size) HCAP.out.1 HCAP.out.2).mono ?_; rintro e w6 ⟨v, rfl, hO, hb⟩
        rw [← HBS.out] at hO
        obtain ⟨A5, c5, rfl⟩ := (Row.of_own hO).form
        go_wp2_with fail
        have hk6 := hk5.to hb
        have HO6 := Lib.hid hO
        have HB6 : Hid (Box w6 w4.heap.size zeroSpl) := HB5.out.below hb HB5.out.lt
        have HNB : Hid ((Value.slice A5 bs.length c5).ownBlock ≠ some w4.heap.size) := fun e => by have := (HO6.out.lt _ e).1; have := HZ5.out; omega
        refine hK.out _ _ hk6 (fun _ => ?_)
        clear hK K hb hO
        (try simp only [Act.put, List.setIfInBounds_toArray, List.set_cons_zero, List.set_cons_succ])
        refine tree_take (v := .agg (splV (.slice A5 bs.length c5) o).toArray) hk6 (by rfl) (fun x hx => exec_built _ _ rfl _ (by simp only [List.map_toArray, List.map_cons, List.map_nil]; exact spl_built A5 bs.length c5 o HOL.out) x) ?_
        (try simp only [Act.put, List.setIfInBounds_toArray, List.set_cons_zero, List.set_cons_succ])
        refine tree_put_cells hk6 (by rfl) 32 (.tmp 6) (.tmp 16) rfl w4.heap.size 0 (splV (.slice A5 bs.length c5) o) rfl rfl zeroSpl HB6.out (by rw [splV_len HOL.out]; decide) 17 size_spl (splV_len HOL.out) (splV_one rfl) (fun y hy hg => Below.grown hk6 hg hk6.size (fun q hq => by injection hq with hq; omega)) ?_
        intro yz hbz hgz
        rw [splice_whole zeroSpl (splV (.slice A5 bs.length c5) o) (by rw [splV_len HOL.out]; rfl)] at hbz
        (try simp only [Act.put, List.setIfInBounds_toArray, List.set_cons_zero, List.set_cons_succ])
        exact tree_done ⟨(w4.heap.size, .slice A5 bs.length c5), rfl, hbz, own_less (own_grown HO6.out hgz (fun g e1 e2 => by injection e2 with e2; subst e2; exact HNB.out e1)) (by have := HZ5.out; omega), Below.grown hk6 hgz hk6.size (fun q hq => by injection hq with hq; omega), Nat.le_refl _, HNB.out⟩
    rintro ⟨BS, v⟩ w7 ⟨hB7, hO7, hk7, hB47, hne⟩
    dsimp only at hB7 hO7 hB47 hne
    obtain ⟨bv, cap, rfl, hbv, hbz⟩ := own_form hO7 (by have := HC1.out.1; rw [← HBS.out] at this; omega)
    have hne' : BS ≠ bv := fun e => hne (by rw [e]; rfl)
    have HNE := Lib.hid hne'
    have HBV : Hid (w.heap.size + 2 < bv) := by have := HZ4.out; show _ < _; omega
    have HC7 : Hid (WithC w.heap.size BS A c sz A' m c' l o (.slice (some ⟨bv, 0, none⟩) bs.length cap) w7) :=
      ⟨HP4.out.kept hk7, HO4.out.kept hk7, HS4.out.kept hk7, hB7, HR4.out.below (hk7.mono (by have := HZ4.out; omega))⟩
    have HF7 : Hid (FsR w4.heap.size bv cap (zeroed o) l bs 0 w7 w7) := FsR.first hO7
    have HK7 := Lib.hid (HK4.out.trans (hk7.mono (by have := HZ4.out; omega)))
    have HLL := Lib.hid HC1.out.2
    have HBE := Lib.hid (fun (k : Nat) (b : Blk) (h : bs[k]? = some b) => blk_ends (l := l) (sz := sz) (m := m) (k := k) (b := b) (by rw [← HBS.out]; exact h))
    have HBL : bs.length ≤ 2000 := by have h1 := cut_len l sz m; rw [← HBS.out] at h1; have := HLL.out; show _ ≤ _; omega
    have HCL2 := HCL.out
    clear hO7 hB7 hk7 hB47 hne hbv hbz hne' hk4
    generalize hn : bs.length = n at HC7 HBL ⊢
    have HBL := Lib.hid HBL
    have HN := Lib.hid hn
    clear hn
    simp only [Act.put, List.setIfInBounds_toArray, List.set_cons_zero, List.set_cons_succ]
    have hq0 : w7.cell? ⟨BS, 0, none⟩ = some (.slice (some ⟨bv, 0, none⟩) n cap) := HC7.out.ft.cell rfl
    have hgn : (0 : Int) ≤ n := by omega
    go_wp2_with fail
    clear hq0
    go_loopw [20] (fun ii wr => ∃ k : Nat, k ≤ n ∧ ii = .int .i64 k ∧ FsR w4.heap.size bv cap (zeroed o) l bs k w7 wr) (fun ii _ => n - (intOf ii).toNat)
    case atStart => exact ⟨0, Nat.zero_le _, rfl, HF7.out⟩
    case round =>
      obtain ⟨k, hkn, rfl, hF⟩ := hrel
      have HFr := Lib.hid hF
      clear hF
      by_cases hlt : k < n
      · obtain ⟨b, hb⟩ := bs_at (l := bs) (k := k) (by have := HN.out; omega)
        obtain ⟨f, t, h1, h2, hft, htl⟩ := HBE.out k b hb
        have HCr := Lib.hid (HC7.out.keepS HFr.out.keep HBV.out HNE.out)
        have g0 : (0 : Int) ≤ k := by omega
        have g1 : (k : Int) < n := by omega
        have g2 : (k : Int) ≤ 2000 := by have := HBL.out; omega
        have HX := Lib.hid (fill_any w4.heap.size bv cap k o l bs b A c f t w.heap.size wr.drew HFr.out.drew.again hb h1 h2 hft htl HLL.out HCr.out.fr.drew (by have := HBV.out; omega) HOL.out)
        clear hb h1 h2 hft htl
        have k0 : KeepS (fun j => j = bv) wr wr.drew := (KeepS.refl _ wr).drew
        go_upto_region 7 with (fail)
        refine wp_region_lin [(0, true), (1, true), (2, true), (3, true), (4, true), (5, true), (6, true), (7, false)]
          (by kernel_rfl) (by kernel_rfl) rfl (by kernel_rfl) (KeepS (fun j => j = bv) wr) ?_
        simp only [List.map_cons, List.map_nil, List.getElem?_toArray, List.getElem?_cons_succ, List.getElem?_cons_zero]
        have ct := fun (y : World) (hy : KeepS (fun j => j = bv) wr y) => (HCr.out.keepS hy HBV.out HNE.out).ft.cell (splV_0 _ _)
        have cp := fun (y : World) (hy : KeepS (fun j => j = bv) wr y) => (HCr.out.keepS hy HBV.out HNE.out).fp.cell (k := 0) rfl
        iterate 6 (refine lin_take (v := ?_) k0 (by rfl) ?_ ?_; rotate_left; (intro y hy; have ct1 := ct y hy; have cp1 := cp y hy; go_simp; try (with_reducible rfl)); (try simp only [Act.put, List.setIfInBounds_toArray, List.set_cons_zero, List.set_cons_succ]))
        refine lin_take_box k0 rfl 30 (.tmp 3) rfl (w.heap.size + 1) 0 rfl (oV o) (oV o) (fun y hy => (HCr.out.keepS hy HBV.out HNE.out).fo) whole_at _ Tryz.underlying30 rfl 16 (by kernel_rfl) ((oV_len o).trans HOL.out) ?_
        (try simp only [Act.put, List.setIfInBounds_toArray, List.set_cons_zero, List.set_cons_succ])
        refine lin_call k0 (by rfl) (fun K hK => ?_)
        go_simp
        refine HX.out.mono ?_; rintro e w8 ⟨rfl, hF8⟩
        go_wp2_with fail
        refine hK.out _ _ (k0.trans hF8.keep) (fun _ => ?_)
        refine lin_done ?_
        have HF8 := Lib.hid (hF8.from HFr.out.drew.keep)
        clear hF8 HX HFr HCr hK K ct cp k0
        go_wp2_with fail
        go_roundw
        case rel => exact ⟨k + 1, by omega, by go_num, HF8.out⟩
        case measure => simp only [intOf]; omega
      · have HFr' := HFr
        have hge : ¬ (k : Int) < n := by omega
        have HE : Hid (FsR w4.heap.size bv cap (zeroed o) l bs bs.length w7 wr) := by rw [HN.out, show n = k by omega]; exact HFr.out
        have HCr := Lib.hid (HC7.out.keepS HFr.out.keep HBV.out HNE.out)
        go_wp2_with (first
          | (refine wpList_load_box rfl 32 (.tmp 6) rfl BS 0 rfl (splV (.slice (some ⟨bv, 0, none⟩) n cap) o) (splV (.slice (some ⟨bv, 0, none⟩) n cap) o) HCr.out.ft whole_at _ Tryz.underlying32 rfl 17 size_spl (splV_len HOL.out) ?_)
          | (refine wpList_store_box rfl 32 (.tmp 4) (.tmp 32) rfl (w.heap.size + 2) 0 (splV (.slice (some ⟨bv, 0, none⟩) n cap) o) rfl rfl zeroSpl HCr.out.fs (by rw [splV_len HOL.out]; decide) 17 size_spl (splV_len HOL.out) (splV_one rfl) ?_; intro w8 B8 hg8; rw [splice_whole zeroSpl (splV (.slice (some ⟨bv, 0, none⟩) n cap) o) (by rw [splV_len HOL.out]; rfl)] at B8))
        refine bodyPost_ret (v := .tuple #[.agg (splV (.slice (some ⟨bv, 0, none⟩) n cap) o).toArray, .int .i64 0]) (results_cell_tmp' Tryz.results29 _ _ _ ⟨w.heap.size + 2, 0, none⟩ _ _ rfl (load_spl HOL.out B8) rfl) rfl ⟨.slice (some ⟨bv, 0, none⟩) n cap, by rw [HW.out.2.1, HW.out.2.2], ?_, ?_⟩
        · rw [HW.out.1, ← HBS.out]
          have hV := HE.out.all_keep (KeepS.of_grown (S := fun j => j = w.heap.size + 2) hg8 (fun q hq => by injection hq with hq; exact hq.symm)) (fun j e => by have := HBV.out; omega) (lo := w.heap.size) (by have := HBV.out; omega)
          rw [HN.out] at hV
          exact hV
        · exact Below.grown (HK7.out.trans (HFr.out.keep.below (B := w.heap.size) (by have := HK7.out.size; omega) (fun j e => by have := HBV.out; omega))) hg8 (by have := HCr.out.fs.lt; omega) (fun q hq => by injection hq with hq; omega)
end Go.Proofs.YteagglddgkjkmaaGreat.Words

/- Contracts of slices.Equal over cells, of package split's sameBlock, of slices.EqualFunc over blocks, and of Same. -/
namespace Go.Proofs.YteagglddgkjkmaaGreat.Words
set_option maxRecDepth 100000
open Go.RowKit
set_option linter.unusedVariables false
set_option linter.unusedSimpArgs false

set_option maxHeartbeats 2000000 in
theorem eqCells_any (A1 A2 : Option Addr) (n1 n2 c1 c2 : Nat) (l1 l2 : List Cel) (w : World) (e1 : l1.length = n1) (e2 : l2.length = n2)
    (h1 : Row w w.heap.size 9 (.slice A1 n1 c1) n1 (flat celCells l1)) (h2 : Row w w.heap.size 9 (.slice A2 n2 c2) n2 (flat celCells l2)) :
    Calls Tryz.prog 64 #[.slice A1 n1 c1, .slice A2 n2 c2] w fun e w' => e = .returned (.bool (decide (l1 = l2))) ∧ ∃ q, w' = w.drewN q := by
  obtain ⟨u1, u2⟩ := h1.cap
  obtain ⟨u5, u6⟩ := h2.cap
  by_cases hn : n1 = n2
  rotate_left
  · rw [decide_eq_false (fun h => hn (by rw [← e1, ← e2, h]))]
    have hb : ((n1 : Int) != n2) = true := by simp; omega
    clear h1 h2 e1 e2
    go_enter Tryz.func64, Tryz.ntmps64
    go_wp2_with fail
    go_ret
    exact ⟨rfl, 0, rfl⟩
  subst hn
  have E1 := Lib.hid e1
  have E2 := Lib.hid e2
  by_cases h0 : n1 = 0
  · have z1 : l1 = [] := List.eq_nil_of_length_eq_zero (by omega)
    have z2 : l2 = [] := List.eq_nil_of_length_eq_zero (by omega)
    subst h0 z1 z2
    clear h1 h2 e1 e2
    go_enter Tryz.func64, Tryz.ntmps64
    go_wp2_with fail
    refine wp_loop_rounds 1 ?_
    rw [rounds_succ]
    go_wp2_with fail
    go_ret
    exact ⟨rfl, 0, rfl⟩
  obtain ⟨b1, o1, rfl, hb1, _⟩ := h1.at_ h0
  obtain ⟨b2, o2, rfl, hb2, _⟩ := h2.at_ h0
  have HC1 := Lib.hid (fun (k : Nat) (i : Cel) (hi : l1[k]? = some i) => h1.cel hi)
  have HC2 := Lib.hid (fun (k : Nat) (i : Cel) (hi : l2[k]? = some i) => h2.cel hi)
  have HA1 := Lib.hid (fun j (h : j < n1) => at_someG (l := l1) (j := j) (by omega))
  have HA2 := Lib.hid (fun j (h : j < n1) => at_someG (l := l2) (j := j) (by omega))
  have HS := Lib.hid (fun (j : Nat) (x y : Cel) (hx : l1[j]? = some x) (hy : l2[j]? = some y) => drop_eqG hx hy)
  have HE1 := Lib.hid (fun (k : Nat) (h : n1 ≤ k) => (show l1.drop k = [] from List.drop_eq_nil_of_le (by omega)))
  have HE2 := Lib.hid (fun (k : Nat) (h : n1 ≤ k) => (show l2.drop k = [] from List.drop_eq_nil_of_le (by omega)))
  have H0 := Lib.hid (show (l1 = l2) ↔ (l1.drop 0 = l2.drop 0) by rw [List.drop_zero, List.drop_zero])
  clear h1 h2 e1 e2
  go_enter Tryz.func64, Tryz.ntmps64
  go_wp2_with fail
  go_loopw [13] (fun i wr => ∃ j m : Nat, j ≤ n1 ∧ i = .int .i64 j ∧ wr = w.drewN m ∧ ((l1 = l2) ↔ (l1.drop j = l2.drop j))) (fun i _ => n1 - (intOf i).toNat)
  case atStart => exact ⟨0, 0, Nat.zero_le _, rfl, rfl, H0.out⟩
  case round =>
    obtain ⟨j, m, hj, rfl, rfl, hT⟩ := hrel
    have HT := Lib.hid hT
    clear hT
    by_cases hlt : j < n1
    · obtain ⟨x, hx⟩ := HA1.out j hlt
      obtain ⟨y, hy⟩ := HA2.out j hlt
      have hs := Lib.hid (HS.out j x y hx hy)
      obtain ⟨a0, a1, a2, a3, a4, a5, a6, a7, a8⟩ := HC1.out j x hx
      obtain ⟨b0, b1', b2', b3, b4, b5, b6, b7, b8⟩ := HC2.out j y hy
      have k0 : (0 : Int) ≤ j := by omega
      have k1 : (j : Int) < n1 := by omega
      clear hx hy
      have q := neq_cel x y
      unfold celV at q
      by_cases hxy : x = y
      · subst hxy
        have hd : decide (x = x) = true := by simp
        rw [hd] at q
        have hres := Lib.hid (show (l1 = l2) ↔ (l1.drop (j + 1) = l2.drop (j + 1)) by rw [HT.out, hs.out]; simp)
        clear hd
        go_wp2_with fail
        go_quiet (fail)
        go_wp2_with fail
        go_roundw
        case rel => exact ⟨j + 1, _, by omega, by go_num, rfl, hres.out⟩
        case measure => simp [intOf]; omega
      · have hd : decide (x = y) = false := by simpa using hxy
        rw [hd] at q
        have hres := Lib.hid (show decide (l1 = l2) = false by rw [decide_eq_false_iff_not, HT.out, hs.out]; exact fun h => hxy h.1)
        clear hd hxy
        go_wp2_with fail
        go_quiet (fail)
        go_wp2_with fail
        go_ret
        exact ⟨ret_bool hres.out.symm, _, by rw [World.drewN_drewN]⟩
    · have hres := Lib.hid (show decide (l1 = l2) = true by rw [decide_eq_true_iff, HT.out, HE1.out j (by omega), HE2.out j (by omega)])
      go_wp2_with fail
      go_ret
      exact ⟨ret_bool hres.out.symm, m, rfl⟩
theorem blkC_ne {x y : BlkC} (h : x ≠ y) : True := trivial
set_option maxHeartbeats 4000000 in
theorem sameBlock_any (x y : BlkC) (A3 A4 A5 A6 : Option Addr) (c3 c4 c5 c6 : Nat) (w : World) (h3 : Row w w.heap.size 9 (.slice A3 x.a.length c3) x.a.length (flat celCells x.a)) (h4 : Row w w.heap.size 9 (.slice A4 y.a.length c4) y.a.length (flat celCells y.a))
    (h5 : Row w w.heap.size 9 (.slice A5 x.e.length c5) x.e.length (flat celCells x.e)) (h6 : Row w w.heap.size 9 (.slice A6 y.e.length c6) y.e.length (flat celCells y.e)) :
    Calls Tryz.prog 45 #[.agg #[.int .i64 x.from_, .int .i64 x.to, .int .i64 x.next, .int .i64 x.taken, .slice A3 x.a.length c3, .slice A5 x.e.length c5], .agg #[.int .i64 y.from_, .int .i64 y.to, .int .i64 y.next, .int .i64 y.taken, .slice A4 y.a.length c4, .slice A6 y.e.length c6]] w fun e w' => e = .returned (.bool (decide (x = y))) ∧ Below w.heap.size w w' := by
  obtain ⟨W, hW⟩ : ∃ W, W = (w.alloc (.cells #[.int .i64 x.from_, .int .i64 x.to, .int .i64 x.next, .int .i64 x.taken, .slice A3 x.a.length c3, .slice A5 x.e.length c5] 24)).alloc (.cells #[.int .i64 y.from_, .int .i64 y.to, .int .i64 y.next, .int .i64 y.taken, .slice A4 y.a.length c4, .slice A6 y.e.length c6] 24) := ⟨_, rfl⟩
  have HB : Hid (Below w.heap.size w W) := by rw [hW]; exact ((Below.refl w.heap.size w).alloc (Nat.le_refl _) _).alloc (by simp) _
  have X1 : Hid (Box W w.heap.size [.int .i64 x.from_, .int .i64 x.to, .int .i64 x.next, .int .i64 x.taken, .slice A3 x.a.length c3, .slice A5 x.e.length c5]) := by rw [hW]; exact (Box.new w _ _).alloc _
  have X2 : Hid (Box W (w.heap.size + 1) [.int .i64 y.from_, .int .i64 y.to, .int .i64 y.next, .int .i64 y.taken, .slice A4 y.a.length c4, .slice A6 y.e.length c6]) := by
    rw [hW]
    have := Box.new (w.alloc (.cells #[.int .i64 x.from_, .int .i64 x.to, .int .i64 x.next, .int .i64 x.taken, .slice A3 x.a.length c3, .slice A5 x.e.length c5] 24)) [.int .i64 y.from_, .int .i64 y.to, .int .i64 y.next, .int .i64 y.taken, .slice A4 y.a.length c4, .slice A6 y.e.length c6] 24
    rw [show (w.alloc (.cells #[.int .i64 x.from_, .int .i64 x.to, .int .i64 x.next, .int .i64 x.taken, .slice A3 x.a.length c3, .slice A5 x.e.length c5] 24)).heap.size = w.heap.size + 1 by simp] at this
    exact this
  have HX := Lib.hid (fun (q : Nat) => eqCells_any A3 A4 x.a.length y.a.length c3 c4 x.a y.a (W.drewN q) rfl rfl ((h3.below HB.out).more HB.out.size) ((h4.below HB.out).more HB.out.size))
  have HY := Lib.hid (fun (q : Nat) => eqCells_any A5 A6 x.e.length y.e.length c5 c6 x.e y.e (W.drewN q) rfl rfl ((h5.below HB.out).more HB.out.size) ((h6.below HB.out).more HB.out.size))
  clear h3 h4 h5 h6
  go_enter Tryz.func45, Tryz.ntmps45
  go_upto_region 1 with (fail)
  change Code.wp _ _ _ _ ((w.alloc (.cells #[.int .i64 x.from_, .int .i64 x.to, .int .i64 x.next, .int .i64 x.taken, .slice A3 x.a.length c3, .slice A5 x.e.length c5] 24)).alloc (.cells #[.int .i64 y.from_, .int .i64 y.to, .int .i64 y.next, .int .i64 y.taken, .slice A4 y.a.length c4, .slice A6 y.e.length c6] 24))
  rw [← hW]
  clear hW
  have x0 : W.cell? ⟨w.heap.size, 0, none⟩ = some _ := X1.out.cell (k := 0) rfl
  have y0 : W.cell? ⟨w.heap.size + 1, 0, none⟩ = some _ := X2.out.cell (k := 0) rfl
  have x1 : W.cell? ⟨w.heap.size, 1, none⟩ = some _ := X1.out.cell (k := 1) rfl
  have y1 : W.cell? ⟨w.heap.size + 1, 1, none⟩ = some _ := X2.out.cell (k := 1) rfl
  have x2 : W.cell? ⟨w.heap.size, 2, none⟩ = some _ := X1.out.cell (k := 2) rfl
  have y2 : W.cell? ⟨w.heap.size + 1, 2, none⟩ = some _ := X2.out.cell (k := 2) rfl
  have x3 : W.cell? ⟨w.heap.size, 3, none⟩ = some _ := X1.out.cell (k := 3) rfl
  have y3 : W.cell? ⟨w.heap.size + 1, 3, none⟩ = some _ := X2.out.cell (k := 3) rfl
  have x4 : W.cell? ⟨w.heap.size, 4, none⟩ = some _ := X1.out.cell (k := 4) rfl
  have y4 : W.cell? ⟨w.heap.size + 1, 4, none⟩ = some _ := X2.out.cell (k := 4) rfl
  have x5 : W.cell? ⟨w.heap.size, 5, none⟩ = some _ := X1.out.cell (k := 5) rfl
  have y5 : W.cell? ⟨w.heap.size + 1, 5, none⟩ = some _ := X2.out.cell (k := 5) rfl
  by_cases h_from_ : x.from_ = y.from_
  rotate_left
  · have hb : (x.from_ == y.from_) = false := by simpa using h_from_
    have hres := Lib.hid (show decide (x = y) = false from decide_eq_false (fun h => h_from_ (by rw [h])))
    clear h_from_ HX HY X1 X2
    go_wp2_with fail
    go_ret
    exact ⟨ret_bool hres.out.symm, HB.out⟩
  have b_from_ : (x.from_ == y.from_) = true := by simpa using h_from_
  have H_from_ := Lib.hid h_from_
  clear h_from_
  by_cases h_to : x.to = y.to
  rotate_left
  · have hb : (x.to == y.to) = false := by simpa using h_to
    have hres := Lib.hid (show decide (x = y) = false from decide_eq_false (fun h => h_to (by rw [h])))
    clear h_to HX HY X1 X2
    go_wp2_with fail
    go_ret
    exact ⟨ret_bool hres.out.symm, HB.out⟩
  have b_to : (x.to == y.to) = true := by simpa using h_to
  have H_to := Lib.hid h_to
  clear h_to
  by_cases h_next : x.next = y.next
  rotate_left
  · have hb : (x.next == y.next) = false := by simpa using h_next
    have hres := Lib.hid (show decide (x = y) = false from decide_eq_false (fun h => h_next (by rw [h])))
    clear h_next HX HY X1 X2
    go_wp2_with fail
    go_ret
    exact ⟨ret_bool hres.out.symm, HB.out⟩
  have b_next : (x.next == y.next) = true := by simpa using h_next
  have H_next := Lib.hid h_next
  clear h_next
  by_cases h_taken : x.taken = y.taken
  rotate_left
  · have hb : (x.taken == y.taken) = false := by simpa using h_taken
    have hres := Lib.hid (show decide (x = y) = false from decide_eq_false (fun h => h_taken (by rw [h])))
    clear h_taken HX HY X1 X2
    go_wp2_with fail
    go_ret
    exact ⟨ret_bool hres.out.symm, HB.out⟩
  have b_taken : (x.taken == y.taken) = true := by simpa using h_taken
  have H_taken := Lib.hid h_taken
  clear h_taken
  go_wp2_with fail
  refine (HX.out 0).mono ?_; rintro e w3 ⟨rfl, q3, rfl⟩
  by_cases h_a : x.a = y.a
  rotate_left
  · rw [decide_eq_false h_a]
    have hres := Lib.hid (show decide (x = y) = false from decide_eq_false (fun h => h_a (by rw [h])))
    clear h_a HX HY X1 X2
    try dsimp only
    go_wp2_with fail
    go_ret
    exact ⟨ret_bool hres.out.symm, (HB.out.trans (Below.drewN_ (Below.refl _ _) _))⟩
  rw [decide_eq_true h_a]
  have H_a := Lib.hid h_a
  clear h_a
  try dsimp only
  go_wp2_with fail
  refine (HY.out q3).mono ?_; rintro e w4 ⟨rfl, q4, rfl⟩
  have hres : Hid (decide (x.e = y.e) = decide (x = y)) := by
    show _ = _
    have e1 := H_from_.out; have e2 := H_to.out; have e3 := H_next.out; have e4 := H_taken.out; have e5 := H_a.out
    by_cases h : x.e = y.e
    · rw [decide_eq_true h, decide_eq_true]; cases x; cases y; simp at e1 e2 e3 e4 e5 h; simp [e1, e2, e3, e4, e5, h]
    · rw [decide_eq_false h, decide_eq_false]; exact fun hh => h (by rw [hh])
  cases hd : decide (x.e = y.e)
  all_goals
    rw [hd] at hres
    clear hd HX HY X1 X2
    try dsimp only
    go_wp2_with fail
    go_ret
    exact ⟨ret_bool hres.out, (HB.out.trans (Below.drewN_ (Below.refl _ _) _))⟩
end Go.Proofs.YteagglddgkjkmaaGreat.Words

/- Contracts of slices.EqualFunc over blocks, and of package split's Same. -/
namespace Go.Proofs.YteagglddgkjkmaaGreat.Words
set_option maxRecDepth 100000
open Go.RowKit
set_option linter.unusedVariables false
set_option linter.unusedSimpArgs false

set_option maxHeartbeats 4000000 in
theorem eqFunc_any (A1 A2 : Option Addr) (c1 c2 : Nat) (l1 l2 : List BlkC) (w : World) (h1 : BlksV w w.heap.size (.slice A1 l1.length c1) l1) (h2 : BlksV w w.heap.size (.slice A2 l2.length c2) l2) :
    Calls Tryz.prog 44 #[.slice A1 l1.length c1, .slice A2 l2.length c2, .func (.func 45) #[] #[]] w fun e w' => e = .returned (.bool (decide (l1 = l2))) ∧ Below w.heap.size w w' := by
  have u1 := h1.cap
  have u2 := h2.cap
  by_cases hn : l1.length = l2.length
  rotate_left
  · rw [decide_eq_false (fun h => hn (by rw [h]))]
    have hb : ((l1.length : Int) != l2.length) = true := by simp; omega
    clear h1 h2
    go_enter Tryz.func44, Tryz.ntmps44
    go_wp2_with fail
    go_ret
    exact ⟨rfl, Below.refl _ _⟩
  have V1 := Lib.hid h1
  have V2 := Lib.hid h2
  have HSp1 := Lib.hid (fun (h : l1.length ≠ 0) => h1.spot h)
  have HSp2 := Lib.hid (fun (h : l2.length ≠ 0) => h2.spot h)
  have HS := Lib.hid (fun (j : Nat) (x y : BlkC) (hx : l1[j]? = some x) (hy : l2[j]? = some y) => drop_eqG hx hy)
  have HA1 := Lib.hid (fun j (h : j < l1.length) => at_someG (l := l1) (j := j) h)
  have HA2 := Lib.hid (fun j (h : j < l2.length) => at_someG (l := l2) (j := j) h)
  have HE1 := Lib.hid (fun (k : Nat) (h : l1.length ≤ k) => (show l1.drop k = [] from List.drop_eq_nil_of_le h))
  have HE2 := Lib.hid (fun (k : Nat) (h : l2.length ≤ k) => (show l2.drop k = [] from List.drop_eq_nil_of_le h))
  have H0 := Lib.hid (show (l1 = l2) ↔ (l1.drop 0 = l2.drop 0) by rw [List.drop_zero, List.drop_zero])
  have hz2 : l2.length = 0 → l2 = [] := List.eq_nil_of_length_eq_zero
  have hz1 : l1.length = 0 → l1 = [] := List.eq_nil_of_length_eq_zero
  clear h1 h2
  rw [← hn] at V2 HSp2 HA2 HE2 hz2 u2 ⊢
  clear hn
  generalize l1.length = n at *
  by_cases h0 : n = 0
  · subst h0
    rw [hz1 rfl, hz2 rfl]
    clear hz1 hz2 V1 V2 HSp1 HSp2 HS HA1 HA2 HE1 HE2 H0
    go_enter Tryz.func44, Tryz.ntmps44
    go_wp2_with fail
    refine wp_loop_rounds 1 ?_
    rw [rounds_succ]
    go_wp2_with fail
    go_ret
    exact ⟨rfl, Below.refl _ _⟩
  obtain ⟨b1, o1, rfl⟩ := HSp1.out h0
  obtain ⟨b2, o2, rfl⟩ := HSp2.out h0
  have HAt1 := Lib.hid (fun (y : World) (h : Kept w y) k c (hc : l1[k]? = some c) => ((V1.out.below (w' := y) h).more h.size).at_ hc)
  have HAt2 := Lib.hid (fun (y : World) (h : Kept w y) k c (hc : l2[k]? = some c) => ((V2.out.below (w' := y) h).more h.size).at_ hc)
  clear hz1 hz2 V1 V2 HSp1 HSp2 h0
  go_enter Tryz.func44, Tryz.ntmps44
  go_wp2_with fail
  go_loopw [17] (fun i wr => ∃ j : Nat, j ≤ n ∧ i = .int .i64 j ∧ Kept w wr ∧ ((l1 = l2) ↔ (l1.drop j = l2.drop j))) (fun i _ => n - (intOf i).toNat)
  case atStart => exact ⟨0, Nat.zero_le _, rfl, Kept.refl _, H0.out⟩
  case round =>
    obtain ⟨j, hj, rfl, hk, hT⟩ := hrel
    have HT := Lib.hid hT
    have HK := Lib.hid hk
    clear hT
    by_cases hlt : j < n
    · obtain ⟨x, hx⟩ := HA1.out j hlt
      obtain ⟨y, hy⟩ := HA2.out j hlt
      have hs := Lib.hid (HS.out j x y hx hy)
      obtain ⟨A3, c3, A5, c5, a0, a1, a2, a3, a4, a5, ra, re⟩ := HAt1.out wr hk j x hx
      obtain ⟨A4, c4, A6, c6, d0, d1, d2, d3, d4, d5, sa, se⟩ := HAt2.out wr hk j y hy
      have HRA := Lib.hid ra
      have HRE := Lib.hid re
      have HSA := Lib.hid sa
      have HSE := Lib.hid se
      have k0 : (0 : Int) ≤ j := by omega
      have k1 : (j : Int) < n := by omega
      have z1 : b1 < wr.heap.size := by
        rcases Nat.lt_or_ge b1 wr.heap.size with h | h
        · exact h
        · simp only [World.cell?] at a0; rw [Array.getElem?_eq_none h] at a0; simp at a0
      have z2 : b2 < wr.heap.size := by
        rcases Nat.lt_or_ge b2 wr.heap.size with h | h
        · exact h
        · simp only [World.cell?] at d0; rw [Array.getElem?_eq_none h] at d0; simp at d0
      clear hx hy ra re sa se hk
      have hQ := fun (W : World) (hW : Kept wr W) => sameBlock_any x y A3 A4 A5 A6 c3 c4 c5 c6 W ((HRA.out.below hW).more hW.size) ((HSA.out.below hW).more hW.size) ((HRE.out.below hW).more hW.size) ((HSE.out.below hW).more hW.size)
      have HQ := Lib.hid hQ
      clear hQ
      go_wp2_with fail
      refine (HQ.out _ (((Kept.refl wr).alloc _).alloc _)).mono ?_; rintro e w5 ⟨rfl, hb5⟩
      have HK5 := Lib.hid (((HK.out.alloc (.cells #[.int .i64 x.from_, .int .i64 x.to, .int .i64 x.next, .int .i64 x.taken, .slice A3 x.a.length c3, .slice A5 x.e.length c5] 24)).alloc (.cells #[.int .i64 y.from_, .int .i64 y.to, .int .i64 y.next, .int .i64 y.taken, .slice A4 y.a.length c4, .slice A6 y.e.length c6] 24)).to hb5)
      clear hb5 HQ a0 a1 a2 a3 a4 a5 d0 d1 d2 d3 d4 d5 z1 z2
      by_cases hxy : x = y
      · rw [decide_eq_true hxy]
        have hres := Lib.hid (show (l1 = l2) ↔ (l1.drop (j + 1) = l2.drop (j + 1)) by rw [HT.out, hs.out]; simp [hxy])
        clear hxy
        go_wp2_with fail
        go_roundw
        case rel => exact ⟨j + 1, by omega, by go_num, HK5.out, hres.out⟩
        case measure => simp [intOf]; omega
      · rw [decide_eq_false hxy]
        have hres := Lib.hid (show decide (l1 = l2) = false by rw [decide_eq_false_iff_not, HT.out, hs.out]; exact fun h => hxy h.1)
        clear hxy
        go_wp2_with fail
        go_ret
        exact ⟨ret_bool hres.out.symm, HK5.out⟩
    · have hres := Lib.hid (show decide (l1 = l2) = true by rw [decide_eq_true_iff, HT.out, HE1.out j (by omega), HE2.out j (by omega)])
      go_wp2_with fail
      go_ret
      exact ⟨ret_bool hres.out.symm, HK.out⟩
end Go.Proofs.YteagglddgkjkmaaGreat.Words

/- Contract of package split's Same: are two splits one? -/
namespace Go.Proofs.YteagglddgkjkmaaGreat.Words
set_option maxRecDepth 100000
open Go.RowKit
set_option linter.unusedVariables false
set_option linter.unusedSimpArgs false

set_option maxHeartbeats 4000000 in
theorem splSame_any (A1 A2 : Option Addr) (c1 c2 : Nat) (l1 l2 : List BlkC) (o1 o2 : List Int) (w : World) (m1 : o1.length = 16) (m2 : o2.length = 16)
    (h1 : BlksV w w.heap.size (.slice A1 l1.length c1) l1) (h2 : BlksV w w.heap.size (.slice A2 l2.length c2) l2) :
    Calls Tryz.prog 30 #[.agg (splV (.slice A1 l1.length c1) o1).toArray, .agg (splV (.slice A2 l2.length c2) o2).toArray] w fun e w' => e = .returned (.bool (decide (l1 = l2 ∧ o1 = o2))) ∧ Below w.heap.size w w' := by
  obtain ⟨W, hW⟩ : ∃ W, W = (w.alloc (.cells (splV (.slice A1 l1.length c1) o1).toArray 32)).alloc (.cells (splV (.slice A2 l2.length c2) o2).toArray 32) := ⟨_, rfl⟩
  have HB : Hid (Below w.heap.size w W) := by rw [hW]; exact ((Below.refl w.heap.size w).alloc (Nat.le_refl _) _).alloc (by simp) _
  have X1 : Hid (Box W w.heap.size (splV (.slice A1 l1.length c1) o1)) := by rw [hW]; exact (Box.new w _ _).alloc _
  have X2 : Hid (Box W (w.heap.size + 1) (splV (.slice A2 l2.length c2) o2)) := by
    rw [hW]
    have := Box.new (w.alloc (.cells (splV (.slice A1 l1.length c1) o1).toArray 32)) (splV (.slice A2 l2.length c2) o2) 32
    rw [show (w.alloc (.cells (splV (.slice A1 l1.length c1) o1).toArray 32)).heap.size = w.heap.size + 1 by simp] at this
    exact this
  have q := eqIn_own o1 o2 W m1 m2
  have HQ := Lib.hid (eqFunc_any A1 A2 c1 c2 l1 l2 W ((h1.below HB.out).more HB.out.size) ((h2.below HB.out).more HB.out.size))
  have M1 := Lib.hid m1
  have M2 := Lib.hid m2
  clear h1 h2 m1 m2
  go_enter Tryz.func30, Tryz.ntmps30
  go_upto_region 1 with (fail)
  change Code.wp _ _ _ _ ((w.alloc (.cells (splV (.slice A1 l1.length c1) o1).toArray 32)).alloc (.cells (splV (.slice A2 l2.length c2) o2).toArray 32))
  rw [← hW]
  clear hW
  have s1 : W.cell? ⟨w.heap.size, 0, none⟩ = some (.slice A1 l1.length c1) := X1.out.cell (k := 0) rfl
  have s2 : W.cell? ⟨w.heap.size + 1, 0, none⟩ = some (.slice A2 l2.length c2) := X2.out.cell (k := 0) rfl
  by_cases ho : o1 = o2
  rotate_left
  · rw [decide_eq_false ho] at q
    have hres := Lib.hid (show decide (l1 = l2 ∧ o1 = o2) = false by rw [decide_eq_false_iff_not]; exact fun h => ho h.2)
    clear ho s1 s2
    go_wp2_with (first
      | (refine wpList_load_box rfl 30 (.tmp 5) rfl w.heap.size 1 rfl (splV (.slice A1 l1.length c1) o1) (o1.map (Value.int .i64)) X1.out (spl_own) _ Tryz.underlying30 rfl 16 (by kernel_rfl) (by simp [M1.out]) ?_)
      | (refine wpList_load_box rfl 30 (.tmp 7) rfl (w.heap.size + 1) 1 rfl (splV (.slice A2 l2.length c2) o2) (o2.map (Value.int .i64)) X2.out (spl_own) _ Tryz.underlying30 rfl 16 (by kernel_rfl) (by simp [M2.out]) ?_))
    go_ret
    exact ⟨ret_bool hres.out.symm, HB.out⟩
  rw [decide_eq_true ho] at q
  have HO := Lib.hid ho
  clear ho
  go_wp2_with (first
      | (refine wpList_load_box rfl 30 (.tmp 5) rfl w.heap.size 1 rfl (splV (.slice A1 l1.length c1) o1) (o1.map (Value.int .i64)) X1.out (spl_own) _ Tryz.underlying30 rfl 16 (by kernel_rfl) (by simp [M1.out]) ?_)
      | (refine wpList_load_box rfl 30 (.tmp 7) rfl (w.heap.size + 1) 1 rfl (splV (.slice A2 l2.length c2) o2) (o2.map (Value.int .i64)) X2.out (spl_own) _ Tryz.underlying30 rfl 16 (by kernel_rfl) (by simp [M2.out]) ?_))
  refine HQ.out.mono ?_; rintro e w5 ⟨rfl, hb5⟩
  have HB5 := Lib.hid (HB.out.trans (hb5.mono HB.out.size))
  have hres : Hid (decide (l1 = l2) = decide (l1 = l2 ∧ o1 = o2)) := by
    show _ = _
    have := HO.out
    simp [this]
  cases hd : decide (l1 = l2)
  all_goals
    rw [hd] at hres
    clear hd hb5 q s1 s2 HQ X1 X2
    try dsimp only
    go_wp2_with fail
    go_ret
    exact ⟨ret_bool hres.out, HB5.out⟩
end Go.Proofs.YteagglddgkjkmaaGreat.Words

/- Contract of package cert's Right. -/
namespace Go.Proofs.YteagglddgkjkmaaGreat.Words
set_option maxRecDepth 100000
open Go.RowKit
set_option linter.unusedVariables false
set_option linter.unusedSimpArgs false

set_option maxHeartbeats 4000000 in
theorem rightS_any (A : Option Addr) (c : Nat) (sz : Int) (A' : Option Addr) (m c' : Nat) (l : List Ins) (Ab : Option Addr) (cb : Nat) (bs : List BlkC) (o : List Int) (w : World) (hr : Row w w.heap.size 5 (.slice A l.length c) l.length (codeCells l)) (hm : m ≤ c') (hc' : c' ≤ 9223372036854775807)
    (hv : BlksV w w.heap.size (.slice Ab bs.length cb) bs) (ho : o.length = 16) :
    Calls Tryz.prog 11 #[.agg #[.slice A l.length c, .int .i64 sz, .slice A' m c'], .agg (splV (.slice Ab bs.length cb) o).toArray] w fun e w' => e = .returned (.bool (rightS l sz m bs o)) ∧ Below w.heap.size w w' := by
  obtain ⟨W1, hW1⟩ : ∃ W1, W1 = w.alloc (.cells #[.slice A l.length c, .int .i64 sz, .slice A' m c'] 28) := ⟨_, rfl⟩
  obtain ⟨W, hW⟩ : ∃ W, W = W1.alloc (.cells (splV (.slice Ab bs.length cb) o).toArray 32) := ⟨_, rfl⟩
  have hz1 : W1.heap.size = w.heap.size + 1 := by rw [hW1]; simp
  have HK : Hid (Below w.heap.size w W) := by rw [hW, hW1]; exact ((Below.refl w.heap.size w).alloc (Nat.le_refl _) _).alloc (by simp) _
  have XP : Hid (Box W w.heap.size [.slice A l.length c, .int .i64 sz, .slice A' m c']) := by rw [hW, hW1]; exact (Box.new w _ _).alloc _
  have XS : Hid (Box W (w.heap.size + 1) (splV (.slice Ab bs.length cb) o)) := by rw [hW, ← hz1]; exact Box.new W1 _ _
  have RC := Lib.hid ((hr.below HK.out).more HK.out.size)
  have VB := Lib.hid ((hv.below HK.out).more HK.out.size)
  have HOL := Lib.hid ho
  have HCAP := Lib.hid (⟨hm, hc'⟩ : m ≤ c' ∧ c' ≤ 9223372036854775807)
  clear hr hm hc' hv ho hz1
  go_enter Tryz.func11, Tryz.ntmps11
  go_upto_region 1 with (fail)
  change Code.wp _ _ _ _ ((w.alloc (.cells #[.slice A l.length c, .int .i64 sz, .slice A' m c'] 28)).alloc (.cells (splV (.slice Ab bs.length cb) o).toArray 32))
  rw [← hW1, ← hW]
  clear hW1 hW
  go_wp2_with (first
    | (refine wpList_load_box rfl 28 (.tmp 2) rfl w.heap.size 0 rfl [.slice A l.length c, .int .i64 sz, .slice A' m c'] [.slice A l.length c, .int .i64 sz, .slice A' m c'] XP.out whole_at _ Tryz.underlying28 rfl 3 size_prg rfl ?_)
    | (refine wpList_load_box rfl 30 (.tmp 9) rfl (w.heap.size + 1) 1 rfl (splV (.slice Ab bs.length cb) o) (oV o) XS.out (fun j u h => spl_own j u h) _ Tryz.underlying30 rfl 16 (by kernel_rfl) ((oV_len o).trans HOL.out) ?_))
  refine (with_any A c sz A' m c' l o _ RC.out HCAP.out.1 HCAP.out.2 HOL.out).mono ?_; rintro e w2 ⟨v2, rfl, hv2, hb2⟩
  obtain ⟨L1, hL1⟩ : ∃ L1, L1 = withZ l sz m o := ⟨_, rfl⟩
  obtain ⟨O1, hO1⟩ : ∃ O1, O1 = ownW l sz m o := ⟨_, rfl⟩
  have N1 : Hid (O1.length = 16) := by rw [hO1]; exact ownW_len HOL.out
  rw [← hL1] at hv2
  rw [← hO1]
  have HL1 := Lib.hid hL1
  have HO1 := Lib.hid hO1
  obtain ⟨A2, c2, rfl⟩ := hv2.blks.form
  have HV2 := Lib.hid hv2.blks
  have HB2 := Lib.hid hb2
  have XS2 := Lib.hid (XS.out.below hb2 XS.out.lt)
  have VB2 := Lib.hid ((VB.out.below hb2).more hb2.size)
  have HK2 := Lib.hid (HK.out.trans (hb2.mono HK.out.size))
  clear hL1 hO1 hv2 hb2
  try dsimp only
  go_upto_region 2 with (first
    | (refine wpList_store_box rfl 32 (.tmp 5) (.tmp 12) rfl w2.heap.size 0 (splV (.slice A2 L1.length c2) O1) rfl rfl zeroSpl (Box.new w2 zeroSpl 32) (by rw [splV_len N1.out]; decide) 17 size_spl (splV_len N1.out) (splV_one rfl) ?_; intro y2 B2 hg2; rw [splice_whole zeroSpl (splV (.slice A2 L1.length c2) O1) (by rw [splV_len N1.out]; rfl)] at B2; have HX2 : Hid (Box y2 w2.heap.size (splV (.slice A2 L1.length c2) O1)) := B2; have HS2 := Lib.hid (box_stored hg2); clear B2 hg2))
  have XS3 := Lib.hid (XS2.out.below HS2.out XS2.out.lt)
  have VB3 := Lib.hid ((VB2.out.below HS2.out).more HS2.out.size)
  have HV3 := Lib.hid ((HV2.out.below HS2.out).more HS2.out.size)
  have HK3 := Lib.hid (HK2.out.trans (HS2.out.mono HK2.out.size))
  clear XS2 VB2 HV2 HK2 HB2 VB RC
  cases hcl : closedZ l sz m o
  · obtain ⟨q1, q2, q3⟩ := with_no hcl
    have hres := Lib.hid (show rightS l sz m bs o = false by unfold rightS; rw [hcl]; rfl)
    rw [q3]
    clear q1 q2 q3 hcl
    go_wp2_with fail
    go_ret
    exact ⟨ret_bool hres.out.symm, HK3.out⟩
  · obtain ⟨q1, q2, q3⟩ := with_yes hcl
    have hO : O1 = o := HO1.out.trans q2
    have hres : Hid (decide (L1 = bs ∧ O1 = o) = rightS l sz m bs o) := by
      show _ = _
      unfold rightS; rw [hcl, ← HL1.out, hO]; simp
    rw [q3]
    clear q1 q2 q3 hcl hO
    go_wp2_with (first
      | (refine wpList_load_box rfl 32 (.tmp 5) rfl w2.heap.size 0 rfl (splV (.slice A2 L1.length c2) O1) (splV (.slice A2 L1.length c2) O1) HX2.out whole_at _ Tryz.underlying32 rfl 17 size_spl (splV_len N1.out) ?_)
      | (refine wpList_load_box rfl 32 (.tmp 3) rfl (w.heap.size + 1) 0 rfl (splV (.slice Ab bs.length cb) o) (splV (.slice Ab bs.length cb) o) XS3.out whole_at _ Tryz.underlying32 rfl 17 size_spl (splV_len HOL.out) ?_))
    refine (splSame_any A2 Ab c2 cb L1 bs O1 o _ N1.out HOL.out HV3.out VB3.out).mono ?_; rintro e w4 ⟨rfl, hb4⟩
    rw [hres.out]
    have HE := Lib.hid (HK3.out.trans (hb4.mono HK3.out.size))
    clear hb4
    cases hd : rightS l sz m bs o
    all_goals
      try dsimp only
      go_wp2_with fail
      go_ret
      first | exact ⟨ret_bool hd.symm, HE.out⟩ | exact ⟨by first | rfl | trivial, HE.out⟩ | exact ⟨ret_bool hd, HE.out⟩
end Go.Proofs.YteagglddgkjkmaaGreat.Words

/- Plain mathematics of chapter 11: owners made register by register; two owners joined; what a load and its address ask for. Nothing here speaks of one program text. -/
namespace Go.Proofs.YteagglddgkjkmaaGreat.Words
set_option maxRecDepth 100000
open Go.RowKit
set_option linter.unusedVariables false

/-- Sixteen registers by a function. -/
def funO (f : Nat → Int) : List Int := (List.range 16).map f
theorem funO_len (f : Nat → Int) : (funO f).length = 16 := by simp [funO]
theorem funO_at (f : Nat → Int) {k : Nat} (hk : k ≤ 15) : atO (funO f) k = f k := by
  rw [atO_nat, List.getD_eq_getElem?_getD]; unfold funO
  rw [List.getElem?_map, List.getElem?_range (show k < 16 by omega)]; rfl
theorem funO_ext {f g : Nat → Int} (h : ∀ k, k ≤ 15 → f k = g k) : funO f = funO g := ext_O (funO_len f) (funO_len g) fun k hk => by rw [funO_at f hk, funO_at g hk, h k hk]
theorem funO_set (f : Nat → Int) (i : Nat) (x : Int) : (funO f).set i x = funO (fun k => if k = i then x else f k) := by
  refine List.ext_getElem (by simp [funO]) fun k h1 h2 => ?_
  simp only [funO, List.length_set, List.length_map, List.length_range] at h1
  rw [List.getElem_set]
  simp only [funO, List.getElem_map, List.getElem_range]
  by_cases e : i = k
  · subst e; simp
  · rw [if_neg e, if_neg (fun c => e c.symm)]
theorem funO_of {o : List Int} (h : o.length = 16) : o = funO (fun k => atO o k) := ext_O h (funO_len _) fun k hk => (funO_at (fun k => atO o k) hk).symm
theorem funO_ok {f : Nat → Int} (h0 : f 0 = 0) (h : ∀ k, 1 ≤ k → k ≤ 15 → f k = 1 ∨ f k = 2) : OkO (funO f) := by
  refine ⟨funO_len f, ?_, fun k h1 h2 => ?_⟩
  · have := funO_at f (k := 0) (by omega); rw [h0] at this; exact this
  · rw [funO_at f h2]; exact h k h1 h2

theorem mem_need {i : Ins} {o : List Int} {r : Int} : r ∈ needZ i o ↔ (memB i.op = true ∧ r = i.a) ∨ (memB i.op = false ∧ recB i.op = true ∧ atO o i.d = 1 ∧ r ∈ readsZ i) := by
  unfold needZ
  cases hm : memB i.op
  · rw [if_neg (by decide)]
    by_cases hd : recB i.op = true ∧ atO o i.d = 1
    · rw [if_pos hd]; simp [hd.1, hd.2]
    · rw [if_neg hd]
      constructor
      · intro h; cases h
      · rintro (⟨h, _⟩ | ⟨_, h1, h2, _⟩)
        · exact absurd h (by decide)
        · exact absurd ⟨h1, h2⟩ hd
  · rw [if_pos rfl]; simp

/-- On A in either. -/
def orO (x y : List Int) : List Int := funO fun k => if 1 ≤ k ∧ atO y k = 1 then 1 else atO x k
/-- On A in both. -/
def andO (x y : List Int) : List Int := funO fun k => if 1 ≤ k ∧ atO y k ≠ 1 then 2 else atO x k
theorem orO_ok {x y : List Int} (hx : OkO x) : OkO (orO x y) := funO_ok (by rw [if_neg (by omega)]; exact hx.2.1) fun k h1 h2 => by
  split
  · exact .inl rfl
  · exact hx.2.2 k h1 h2
theorem andO_ok {x y : List Int} (hx : OkO x) : OkO (andO x y) := funO_ok (by rw [if_neg (by omega)]; exact hx.2.1) fun k h1 h2 => by
  split
  · exact .inr rfl
  · exact hx.2.2 k h1 h2
theorem at_or (x y : List Int) {r : Int} (hr : 0 ≤ r ∧ r ≤ 15) : atO (orO x y) r = if 1 ≤ r ∧ atO y r = 1 then 1 else atO x r := by
  obtain ⟨n, rfl, hn⟩ := nat_of hr
  rw [orO, funO_at _ hn]
  by_cases h : 1 ≤ n
  · have h' : (1 : Int) ≤ (n : Int) := by omega
    simp only [h, h', true_and]
  · rw [if_neg (fun c => h c.1), if_neg (fun c => h (by omega))]
theorem at_and (x y : List Int) {r : Int} (hr : 0 ≤ r ∧ r ≤ 15) : atO (andO x y) r = if 1 ≤ r ∧ atO y r ≠ 1 then 2 else atO x r := by
  obtain ⟨n, rfl, hn⟩ := nat_of hr
  rw [andO, funO_at _ hn]
  by_cases h : 1 ≤ n
  · have h' : (1 : Int) ≤ (n : Int) := by omega
    simp only [h, h', true_and]
  · rw [if_neg (fun c => h c.1), if_neg (fun c => h (by omega))]
theorem at_zero {o : List Int} (ho : OkO o) {r : Int} (hr : 0 ≤ r) (h : ¬ 1 ≤ r) : atO o r = 0 := by rw [show r = 0 from by omega]; exact ho.2.1
theorem or_all {code : List Ins} {x y : List Int} (hc : ∀ i ∈ code, rightB i = true) (hx : OkO x) (hy : OkO y) (ax : AllO code x) (ay : AllO code y) : AllO code (orO x y) := by
  intro i hi r hr
  have hri := right_range (hc i hi)
  have h15 := need_range (hc i hi) hr
  rw [at_or x y h15]
  rcases mem_need.1 hr with ⟨hm, rfl⟩ | ⟨hm, hrc, hd, hmem⟩
  · have := ax i hi i.a (mem_need.2 (.inl ⟨hm, rfl⟩))
    split
    · decide
    · exact this
  · have hr1 := reads_mem hmem
    rw [at_or x y hri.2.1] at hd
    split at hd
    · rename_i c
      have := on_of hy ⟨hr1.2.1, hr1.2.2.1⟩ (ay i hi r (mem_need.2 (.inr ⟨hm, hrc, c.2, hmem⟩)))
      rw [if_pos ⟨hr1.2.1, this⟩]; decide
    · have := ax i hi r (mem_need.2 (.inr ⟨hm, hrc, hd, hmem⟩))
      split
      · decide
      · exact this
theorem and_all {code : List Ins} {x y : List Int} (hc : ∀ i ∈ code, rightB i = true) (hx : OkO x) (hy : OkO y) (ax : AllO code x) (ay : AllO code y) : AllO code (andO x y) := by
  intro i hi r hr
  have hri := right_range (hc i hi)
  have h15 := need_range (hc i hi) hr
  rw [at_and x y h15]
  by_cases h1 : 1 ≤ r
  rotate_left
  · rw [if_neg (fun c => h1 c.1), at_zero hx h15.1 h1]; decide
  rcases mem_need.1 hr with ⟨hm, rfl⟩ | ⟨hm, hrc, hd, hmem⟩
  · have a1 := ax i hi i.a (mem_need.2 (.inl ⟨hm, rfl⟩))
    have a2 := on_of hy ⟨h1, h15.2⟩ (ay i hi i.a (mem_need.2 (.inl ⟨hm, rfl⟩)))
    rw [if_neg (fun c => c.2 a2)]; exact a1
  · rw [at_and x y hri.2.1] at hd
    split at hd
    · exact absurd hd (by decide)
    · rename_i c
      have d1 : 1 ≤ i.d := by
        by_cases h : 1 ≤ i.d
        · exact h
        · rw [at_zero hx hri.2.1.1 h] at hd; exact absurd hd (by decide)
      have dy : atO y i.d = 1 := by
        by_cases h : atO y i.d = 1
        · exact h
        · exact absurd ⟨d1, h⟩ c
      have a1 := ax i hi r (mem_need.2 (.inr ⟨hm, hrc, hd, hmem⟩))
      have a2 := on_of hy ⟨h1, h15.2⟩ (ay i hi r (mem_need.2 (.inr ⟨hm, hrc, dy, hmem⟩)))
      rw [if_neg (fun c => c.2 a2)]; exact a1
/-- All on A. -/
def allA : List Int := [0, 1, 1, 1, 1, 1, 1, 1, 1, 1, 1, 1, 1, 1, 1, 1]
theorem allA_ok : OkO allA := ⟨rfl, rfl, fun k h1 h2 => (by decide : ∀ k : Fin 16, 1 ≤ k.val → (atO allA (k.val : Int) = 1 ∨ atO allA (k.val : Int) = 2)) ⟨k, by omega⟩ h1⟩
theorem allA_at {r : Int} (hr : 0 ≤ r ∧ r ≤ 15) : atO allA r ≠ 2 := by
  obtain ⟨n, rfl, hn⟩ := nat_of hr
  exact (by decide : ∀ k : Fin 16, atO allA (k.val : Int) ≠ 2) ⟨n, by omega⟩
theorem allA_all {code : List Ins} (hc : ∀ i ∈ code, rightB i = true) : AllO code allA := fun i hi r hr => allA_at (need_range (hc i hi) hr)

/-- The program of OwnerLoads, and what is on A of it. -/
def loadCode (base d b op : Int) : List Ins := [⟨op, d, base, 0, 0⟩, ⟨1, b, d, b, 0⟩, ⟨31, 0, base, b, 0⟩, ⟨41, 0, 0, 0, 0⟩]
def loadOn (base d b : Int) (k : Nat) : Bool := decide ((k : Int) = base ∨ (b = base ∧ ((k : Int) = d ∨ (k : Int) = b)))
section
variable {base d b op : Int} (h1 : 1 ≤ base ∧ base ≤ 15) (h2 : 1 ≤ d ∧ d ≤ 15) (h3 : 1 ≤ b ∧ b ≤ 15) (h4 : 26 ≤ op ∧ op ≤ 30)
include h1 h2 h3 h4
theorem load_right : ∀ i ∈ loadCode base d b op, rightB i = true := by
  intro i hi
  simp only [loadCode, List.mem_cons, List.not_mem_nil, or_false] at hi
  rw [rightB_iff]
  rcases hi with rfl | rfl | rfl | rfl
  all_goals (have := lowI_cases op; have := lowI_cases 1; have := lowI_cases 31; have := lowI_cases 41; simp only; refine ⟨by omega, ?_, ?_, ?_, ?_⟩ <;> split <;> first | omega | trivial)
theorem load_least (k : Nat) (h5 : 1 ≤ k ∧ k ≤ 15) : atO (leastO (loadCode base d b op)) k = 1 ↔ loadOn base d b k = true := by
  have hc := load_right h1 h2 h3 h4
  have hok := least_ok _ hc
  have hall := least_all hc
  have fo := formZ_cases op
  have e1 : memB op = true := decide_eq_true (by omega)
  have e2 : memB 1 = false := by decide
  have e3 : recB 1 = true := by decide
  have e4 : memB 31 = true := by decide
  have e5 : memB 41 = false := by decide
  have e6 : recB 41 = false := by decide
  have r1 : readsZ ⟨1, b, d, b, 0⟩ = [d, b] := by
    rw [readsZ_yes (hc _ (by simp [loadCode]))]
    rw [if_neg (by simp only; omega), if_neg (by simp only; omega)]; rfl
  constructor
  · intro hk
    have hT : OkO (funO fun k => if k = 0 then 0 else if loadOn base d b k = true then 1 else 2) := funO_ok (by simp) fun k a1 a2 => by
      rw [if_neg (by omega)]; split <;> simp
    have hat : ∀ r : Int, 1 ≤ r ∧ r ≤ 15 → atO (funO fun k => if k = 0 then 0 else if loadOn base d b k = true then 1 else 2) r = if r = base ∨ (b = base ∧ (r = d ∨ r = b)) then 1 else 2 := by
      intro r hr
      obtain ⟨n, rfl, hn⟩ := nat_of (r := r) (by omega)
      rw [funO_at _ hn, if_neg (by omega)]
      unfold loadOn
      simp only [decide_eq_true_eq]
    have hA : AllO (loadCode base d b op) (funO fun k => if k = 0 then 0 else if loadOn base d b k = true then 1 else 2) := by
      intro i hi r hr
      simp only [loadCode, List.mem_cons, List.not_mem_nil, or_false] at hi
      rw [mem_need] at hr
      rcases hi with rfl | rfl | rfl | rfl
      · rcases hr with ⟨_, rfl⟩ | ⟨hm, _⟩
        · rw [hat _ h1, if_pos (.inl rfl)]; decide
        · simp only [e1] at hm; cases hm
      · rcases hr with ⟨hm, _⟩ | ⟨_, _, hd, hmem⟩
        · simp only [e2] at hm; cases hm
        · rw [r1] at hmem
          simp only at hd
          rw [hat _ h3] at hd
          simp only [List.mem_cons, List.not_mem_nil, or_false] at hmem
          split at hd
          · rename_i c
            have hb : b = base := by omega
            rw [hat _ (by omega), if_pos (by omega)]; decide
          · exact absurd hd (by decide)
      · rcases hr with ⟨_, rfl⟩ | ⟨hm, _⟩
        · rw [hat _ h1, if_pos (.inl rfl)]; decide
        · simp only [e4] at hm; cases hm
      · rcases hr with ⟨hm, _⟩ | ⟨_, hm, _⟩
        · simp only [e5] at hm; cases hm
        · simp only [e6] at hm; cases hm
    have := least_sub hc hT hA k h5.2 hk
    rw [hat _ (by omega)] at this
    unfold loadOn
    refine decide_eq_true ?_
    split at this
    · assumption
    · exact absurd this (by decide)
  · intro hk
    have hb := of_decide_eq_true hk
    have on1 : atO (leastO (loadCode base d b op)) base = 1 := on_of hok h1 (hall ⟨op, d, base, 0, 0⟩ (by simp [loadCode]) base (mem_need.2 (.inl ⟨e1, rfl⟩)))
    rcases hb with e | ⟨e, e'⟩
    · rw [e]; exact on1
    · have on2 : ∀ r ∈ readsZ ⟨1, b, d, b, 0⟩, atO (leastO (loadCode base d b op)) r ≠ 2 := fun r hr => hall ⟨1, b, d, b, 0⟩ (by simp [loadCode]) r (mem_need.2 (.inr ⟨e2, e3, by simp only; rw [e] at on1 ⊢; exact on1, hr⟩))
      rw [r1] at on2
      rcases e' with e' | e'
      · rw [e']; exact on_of hok h2 (on2 d (by simp))
      · rw [e']; exact on_of hok h3 (on2 b (by simp))
end
/-- The program of OwnerChain. -/
def chainCode (n : Nat) (load : Bool) : List Ins := ((List.range (n - 1)).map fun k => ⟨1, (k : Int) + 2, (k : Int) + 1, (k : Int) + 1, 0⟩) ++ [⟨1, 15, 14, n, 0⟩] ++ [if load = true then ⟨26, 14, n, 0, 0⟩ else ⟨31, 0, n, 14, 0⟩]
set_option maxHeartbeats 1000000 in
theorem chain_all : ∀ n : Fin 13, ∀ load : Bool, (chainCode (n.val + 1) load).all rightB = true ∧ ∀ k : Fin 15, atO (leastO (chainCode (n.val + 1) load)) ((k.val : Int) + 1) = if k.val + 1 ≤ n.val + 1 then 1 else 2 := by decide +kernel
end Go.Proofs.YteagglddgkjkmaaGreat.Words

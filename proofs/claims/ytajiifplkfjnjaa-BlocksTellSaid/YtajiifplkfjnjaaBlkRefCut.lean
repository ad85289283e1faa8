/- Contract of the document's own Cut. -/
import Derived.Test.YtajiifplkfjnjaaBlkCut
import Derived.Test.YtajiifplkfjnjaaBlkRefLeads
import Derived.Test.YtajiifplkfjnjaaLin
namespace Go.Proofs.Ytajiifplkfjnjaa.Words
set_option maxRecDepth 100000
open Go.RowKit
set_option linter.unusedVariables false

/-- A block's box. -/
structure BoxQ (x : World) (q : Nat) (b : Blk) : Prop where
  big : q < x.heap.size
  b0 : x.cell? ⟨q, 0, none⟩ = some (.int .i64 b.from_)
  b1 : x.cell? ⟨q, 1, none⟩ = some (.int .i64 b.to)
  b2 : x.cell? ⟨q, 2, none⟩ = some (.int .i64 b.next)
  b3 : x.cell? ⟨q, 3, none⟩ = some (.int .i64 b.taken)
  b4 : x.cell? ⟨q, 4, none⟩ = some (.slice none 0 0)
  b5 : x.cell? ⟨q, 5, none⟩ = some (.slice none 0 0)
  f1 : x.frozen? ⟨q, 1, none⟩ = false
  f2 : x.frozen? ⟨q, 2, none⟩ = false
  f3 : x.frozen? ⟨q, 3, none⟩ = false
theorem BoxQ.below {x y : World} {q : Nat} {b : Blk} (h : BoxQ x q b) (hb : Below x.heap.size x y) : BoxQ y q b := by
  obtain ⟨hc, hf⟩ := bcell hb
  have := hb.size
  have h0 := h.big
  exact ⟨by omega, (hc _ _ h0).trans h.b0, (hc _ _ h0).trans h.b1, (hc _ _ h0).trans h.b2, (hc _ _ h0).trans h.b3, (hc _ _ h0).trans h.b4, (hc _ _ h0).trans h.b5, (hf _ _ h0).trans h.f1, (hf _ _ h0).trans h.f2, (hf _ _ h0).trans h.f3⟩
theorem BoxQ.toTo {x : World} {q : Nat} {b : Blk} (h : BoxQ x q b) (n : Int) : BoxQ (x.setCell ⟨q, 1, none⟩ (.int .i64 n)) q { b with to := n } := by
  obtain ⟨h0, c0, c1, c2, c3, c4, c5, f1, f2, f3⟩ := h
  refine ⟨by simpa using h0, ?_, ?_, ?_, ?_, ?_, ?_, ?_, ?_, ?_⟩ <;> go_simp
theorem BoxQ.nextTo {x : World} {q : Nat} {b : Blk} (h : BoxQ x q b) (n : Int) : BoxQ (x.setCell ⟨q, 2, none⟩ (.int .i64 n)) q { b with next := n } := by
  obtain ⟨h0, c0, c1, c2, c3, c4, c5, f1, f2, f3⟩ := h
  refine ⟨by simpa using h0, ?_, ?_, ?_, ?_, ?_, ?_, ?_, ?_, ?_⟩ <;> go_simp
theorem BoxQ.takenTo {x : World} {q : Nat} {b : Blk} (h : BoxQ x q b) (n : Int) : BoxQ (x.setCell ⟨q, 3, none⟩ (.int .i64 n)) q { b with taken := n } := by
  obtain ⟨h0, c0, c1, c2, c3, c4, c5, f1, f2, f3⟩ := h
  refine ⟨by simpa using h0, ?_, ?_, ?_, ?_, ?_, ?_, ?_, ?_, ?_⟩ <;> go_simp
theorem BoxQ.made (w : World) (b : Blk) (t : TypeId) : BoxQ (w.alloc (.cells #[.int .i64 b.from_, .int .i64 b.to, .int .i64 b.next, .int .i64 b.taken, .slice none 0 0, .slice none 0 0] t)) w.heap.size b := by
  refine ⟨by simp, ?_, ?_, ?_, ?_, ?_, ?_, ?_, ?_, ?_⟩ <;> go_simp
theorem BoxQ.drew {x : World} {q : Nat} {b : Blk} (h : BoxQ x q b) : BoxQ x.drew q b := ⟨h.big, h.b0, h.b1, h.b2, h.b3, h.b4, h.b5, h.f1, h.f2, h.f3⟩
theorem BoxQ.alloc {x : World} {q : Nat} {b : Blk} (h : BoxQ x q b) (o : Obj) : BoxQ (x.alloc o) q b := h.below ((Below.refl _ _).alloc (Nat.le_refl _) _)
theorem goes_40 {i : Ins} (h : i.op = 40) : goesB i = false := by unfold goesB; simp [h]
theorem goes_41 {i : Ins} (h : i.op = 41) : goesB i = false := by unfold goesB; simp [h]
theorem goes_no {i : Ins} (h : i.op ≠ 40) (h' : i.op ≠ 41) : goesB i = true := by unfold goesB; simp [h, h']

set_option maxHeartbeats 8000000 in
theorem refCut_any (A : Option Addr) (c : Nat) (sz : Int) (A' : Option Addr) (m c' : Nat) (l : List Ins) (w : World) (hr : Row w w.heap.size 5 (.slice A l.length c) l.length (codeCells l)) (hm : m ≤ c') (hc' : c' ≤ 9223372036854775807) :
    Calls Try.prog 13 #[.agg #[.slice A l.length c, .int .i64 sz, .slice A' m c']] w fun e w' => ∃ v, e = .returned v ∧ w'.ownsRow w.heap.size 38 6 v (cutR l sz m).length (flat blkL (cutR l sz m)) ∧ Below w.heap.size w w' := by
  obtain ⟨i0, hi, hz0, hz1, hz2⟩ := info_parts info_block
  have HZ2 := Lib.hid hz2
  clear hz2
  obtain ⟨hcl, hcm⟩ := hr.cap
  have HK := Lib.hid (fun (x : World) (h : Kept (w.alloc (.cells #[.slice A l.length c, .int .i64 sz, .slice A' m c'] 25)) x) => ((Below.refl w.heap.size w).alloc (Nat.le_refl _) _).trans (h.mono (by simp)))
  have hB : w.heap.size < (w.alloc (.cells #[.slice A l.length c, .int .i64 sz, .slice A' m c'] 25)).heap.size := by simp
  have HR := Lib.hid (hr.alloc (Nat.le_refl _) (.cells #[.slice A l.length c, .int .i64 sz, .slice A' m c'] 25) |>.more (Nat.le_of_lt hB))
  have c0 : (w.alloc (.cells #[.slice A l.length c, .int .i64 sz, .slice A' m c'] 25)).cell? ⟨w.heap.size, 0, none⟩ = some (.slice A l.length c) := by go_simp
  have c1 : (w.alloc (.cells #[.slice A l.length c, .int .i64 sz, .slice A' m c'] 25)).cell? ⟨w.heap.size, 1, none⟩ = some (.int .i64 sz) := by go_simp
  have c2 : (w.alloc (.cells #[.slice A l.length c, .int .i64 sz, .slice A' m c'] 25)).cell? ⟨w.heap.size, 2, none⟩ = some (.slice A' m c') := by go_simp
  have hw0 : (w.alloc (.cells #[.slice A l.length c, .int .i64 sz, .slice A' m c'] 25)).heap.size = w.heap.size + 1 := by simp
  have HCR := Lib.hid (cutR_eq l sz m)
  have HLS := Lib.hid (leadsR_sorted l sz m)
  have HLT := Lib.hid (fun x h => leadsR_lt (l := l) (sz := sz) (m := m) (x := x) h)
  have HRP := Lib.hid (fun h => rightZ_parts (l := l) (sz := sz) (m := m) h)
  have HLN := Lib.hid (fun (h : leadsR l sz m ≠ []) => (show rightZ l sz m = true by
    cases hh : rightZ l sz m
    · exact absurd (by unfold leadsR; rw [hh]; rfl) h
    · rfl))
  go_enter Try.func13, Try.ntmps13
  go_wp2_with fail
  generalize w.alloc (.cells #[.slice A l.length c, .int .i64 sz, .slice A' m c'] 25) = W at *
  have C0 := Lib.hid (fun (x : World) (h : Kept W x) => h.cell hB c0)
  have C1 := Lib.hid (fun (x : World) (h : Kept W x) => h.cell hB c1)
  have C2 := Lib.hid (fun (x : World) (h : Kept W x) => h.cell hB c2)
  have HX := Lib.hid (refLeaders_any A c sz A' m c' l W HR.out hm hc')
  clear c0 c1 c2 hr
  refine HX.out.mono ?_; rintro e w1 ⟨vl, rfl, hown, hb1⟩
  have k1 : Kept W w1 := hb1
  have hs1 := hb1.size
  clear hb1 HX
  generalize hLL : leadsR l sz m = L at *
  have HLLE := Lib.hid (show L.length ≤ l.length by rw [← hLL]; exact leadsR_le l sz m)
  clear hLL
  by_cases hL0 : L.length = 0
  · have hL : L = [] := List.eq_nil_of_length_eq_zero hL0
    subst hL
    obtain ⟨AL, cl, rfl⟩ := (Row.of_own hown).form
    go_wp2_with fail
    refine wp_loop_rounds 1 ?_
    rw [rounds_succ]
    go_wp2_with fail
    go_ret
    rw [HCR.out]
    exact ⟨_, rfl, World.ownsRow_nil _ _ _ _, HK.out _ k1⟩
  obtain ⟨g, cl, rfl, hgb, hgs⟩ := own_form hown hL0
  have hri := HLN.out (fun h => hL0 (by rw [h]; rfl))
  obtain ⟨⟨n0, n1⟩, hto⟩ := HRP.out hri
  have HT := Lib.hid (fun (j : Nat) (i : Ins) (h : l[j]? = some i) (hj : isJump i = true) => (by have := target_in hto h hj; simpa using this : 0 ≤ (j : Int) + i.imm ∧ (j : Int) + i.imm < l.length))
  have HA := Lib.hid (fun j h => at_some (l := l) (j := j) h)
  have hn0 : l.length ≠ 0 := by omega
  obtain ⟨b, off, rfl, hbb, _⟩ := HR.out.at_ hn0
  have HC := Lib.hid (fun (x : World) (h : Kept W x) (k : Nat) (i : Ins) (hi : l[k]? = some i) => (h.row HR.out).ins hi)
  have HTG := Lib.hid (fun (x : World) (h : Kept W x) (k : Nat) (i : Ins) (hi : l[k]? = some i) => refTarget_any b off c k sz (.slice A' m c') l i x (h.row HR.out) hi (by omega))
  have HBT := Lib.hid (fun (k : Nat) (hk : k < L.length) => blkTo_range (n := l.length) HLS.out (fun x hx => HLT.out x hx) hk)
  have HLB := Lib.hid (fun (k : Nat) (hk : k < L.length) => HLT.out _ (getD_mem hk))
  have hLle := HLLE.out
  have HNA := Lib.hid (fun (x : World) (y : Int) (h : x.ownsRow W.heap.size 3 1 (.slice (some ⟨g, 0, none⟩) L.length cl) L.length (natL L)) => find_any (some ⟨g, 0, none⟩) cl L y x (Row.of_own h) HLS.out (by omega))
  have HTO := Lib.hid (fun (k : Nat) (h : k + 1 < L.length) => (show blkToZ L l.length k = L.getD (k + 1) 0 by unfold blkToZ; rw [if_pos h]))
  have HTN := Lib.hid (fun (k : Nat) (h : ¬ k + 1 < L.length) => (show blkToZ L l.length k = l.length by unfold blkToZ; rw [if_neg h]))
  have HLC := Lib.hid (fun (x : World) (h : x.ownsRow W.heap.size 3 1 (.slice (some ⟨g, 0, none⟩) L.length cl) L.length (natL L)) (k : Nat) (hk : k < L.length) => (h.cellAt k (by rw [Nat.mul_one]; exact hk)).trans (natL_get hk))
  have HCS := Lib.hid (fun (k : Nat) => cutTo_succ l L k)
  have HCL := Lib.hid (fun (k : Nat) => cutTo_len l L k)
  have HBK := Lib.hid (fun (k : Nat) => (show blkZ l L k = ⟨(L.getD k 0 : Nat), (blkToZ L l.length k : Nat), if goesB (insAtZ l (blkToZ L l.length k - 1)) = true then numZ L (blkToZ L l.length k : Nat) else -1,
    if isJump (insAtZ l (blkToZ L l.length k - 1)) = true then numZ L ((blkToZ L l.length k : Nat) - 1 + (insAtZ l (blkToZ L l.length k - 1)).imm) else -1⟩ from rfl))
  have HIA := Lib.hid (fun (j : Nat) (i : Ins) (h : l[j]? = some i) => (show insAtZ l j = i by unfold insAtZ; rw [List.getD_eq_getElem?_getD, h]; rfl))
  have hP : RoundB l W w1 W.heap.size (.slice (some ⟨g, 0, none⟩) L.length cl) L 0 (.slice none 0 0) := ⟨k1, hown, World.ownsRow_nil _ _ _ _⟩
  have hWw : w.heap.size < W.heap.size := by omega
  clear HR hto HRP hri hown HLN HLT HLS hw0
  go_wp2_with fail
  generalize hN : L.length = n at *
  have HN := Lib.hid hN
  clear hN k1
  go_loopw [4, 5] (fun v i wr => ∃ k : Nat, k ≤ n ∧ i = .int .i64 k ∧ RoundB l W wr W.heap.size (.slice (some ⟨g, 0, none⟩) n cl) L k v) (fun _ i _ => n - (intOf i).toNat)
  case atStart => exact ⟨0, Nat.zero_le _, rfl, hP⟩
  case round =>
    obtain ⟨k, hkn, rfl, hK⟩ := hrel
    have hk := hK.kept
    have HRW := Lib.hid hK.rows
    clear hK hP
    have hwr := hk.size
    by_cases hlt : k < n
    · obtain ⟨r0, r1⟩ := HBT.out k hlt
      have hlead := HRW.out.lead
      rw [HN.out] at hlead
      have e0 := HLC.out _ hlead k hlt
      have hLk := HLB.out k hlt
      have HBKk := Lib.hid (HBK.out k)
      have HTOk := Lib.hid (HTO.out k)
      have HTNk := Lib.hid (HTN.out k)
      have HLCk := Lib.hid (fun (x : World) (hb : Below wr.heap.size wr x) => HLC.out x (own_below hlead hb))
      clear hlead
      obtain ⟨TO, hTO⟩ : ∃ TO, TO = blkToZ L l.length k := ⟨_, rfl⟩
      rw [← hTO] at r0 r1 HBKk HTOk HTNk
      obtain ⟨FR, hFR⟩ : ∃ FR, FR = L.getD k 0 := ⟨_, rfl⟩
      rw [← hFR] at r0 e0 hLk HBKk
      clear hTO hFR
      obtain ⟨P, rfl⟩ : ∃ P : Nat, TO = P + 1 := ⟨TO - 1, by omega⟩
      obtain ⟨i, hi2⟩ := HA.out P (by omega)
      rw [Nat.add_sub_cancel, HIA.out P i hi2] at HBKk
      have HTT := Lib.hid (HT.out P i hi2)
      have c0 := C0.out _ hk
      have j0 : (0 : Int) ≤ k := by omega
      have j1 : (k : Int) < n := by omega
      have p0 : (0 : Int) ≤ P := by omega
      have p1 : (P : Int) < l.length := by omega
      have hwz0 : w.heap.size < wr.heap.size := by omega
      have hgz0 : g < wr.heap.size := by have := (HRW.out.lead.lt g rfl).2; omega
      have hS0 : wr.drew.cell? ⟨g, k, none⟩ = some (.int .i64 FR) ∧ wr.drew.cell? ⟨w.heap.size, 0, none⟩ = some (.slice (some ⟨b, off, none⟩) l.length c) := ⟨e0, c0⟩
      have hS1 : (wr.drew.alloc (.cells #[.int .i64 0, .int .i64 0, .int .i64 0, .int .i64 0, .slice none 0 0, .slice none 0 0] 38)).cell? ⟨g, k, none⟩ = some (.int .i64 FR) ∧ (wr.drew.alloc (.cells #[.int .i64 0, .int .i64 0, .int .i64 0, .int .i64 0, .slice none 0 0, .slice none 0 0] 38)).cell? ⟨w.heap.size, 0, none⟩ = some (.slice (some ⟨b, off, none⟩) l.length c) :=
        ⟨one_cell (w := wr.drew) hgz0 e0, one_cell (w := wr.drew) hwz0 c0⟩
      have hS2 : (wr.drew.alloc (.cells #[.int .i64 FR, .int .i64 l.length, .int .i64 (-1), .int .i64 (-1), .slice none 0 0, .slice none 0 0] 38)).cell? ⟨g, k, none⟩ = some (.int .i64 FR) ∧ (wr.drew.alloc (.cells #[.int .i64 FR, .int .i64 l.length, .int .i64 (-1), .int .i64 (-1), .slice none 0 0, .slice none 0 0] 38)).cell? ⟨w.heap.size, 0, none⟩ = some (.slice (some ⟨b, off, none⟩) l.length c) :=
        ⟨one_cell (w := wr.drew) hgz0 e0, one_cell (w := wr.drew) hwz0 c0⟩
      have HS1 := Lib.hid hS1
      have HS2 := Lib.hid hS2
      clear hS1 hS2
      go_wp2_with fail
      refine wp_region_lin [(0, true), (1, true), (2, true), (3, true), (4, true), (5, true), (6, true), (7, true), (8, false), (9, false)]
        (by kernel_rfl) (by kernel_rfl) rfl (by kernel_rfl) (fun y => y.cell? ⟨g, k, none⟩ = some (.int .i64 FR) ∧ y.cell? ⟨w.heap.size, 0, none⟩ = some (.slice (some ⟨b, off, none⟩) l.length c)) ?_
      simp only [List.map_cons, List.map_nil, List.getElem?_toArray, List.getElem?_cons_succ, List.getElem?_cons_zero]
      iterate 8 (refine lin_take (v := ?_) (by assumption) (by rfl) ?_ ?_; rotate_left; (intro y hy; (try dsimp only at hy); obtain ⟨z0, z1⟩ := hy; go_simp; try (with_reducible rfl)); (try simp only [Act.put, List.setIfInBounds_toArray, List.set_cons_zero, List.set_cons_succ]))
      refine lin_call (by assumption) (by rfl) (fun K hK => ?_)
      go_simp
      go_wp2_with fail
      refine hK.out _ _ HS1.out (fun _ => ?_)
      clear hK K
      try simp only [Act.put, List.setIfInBounds_toArray, List.set_cons_zero, List.set_cons_succ]
      have hS1 := HS1.out
      refine lin_call (by assumption) (by rfl) (fun K hK => ?_)
      clear hS1
      go_simp
      go_wp2_with fail
      refine hK.out _ _ HS2.out (fun _ => ?_)
      clear hK K hS0 HS1 HS2
      try simp only [Act.put, List.setIfInBounds_toArray, List.set_cons_zero, List.set_cons_succ]
      refine lin_done ?_
      have BX := Lib.hid (BoxQ.drew (BoxQ.made wr ⟨FR, l.length, -1, -1⟩ 38))
      have RW0 := Lib.hid (RowsB.drewN (RowsB.alloc HRW.out (.cells #[.int .i64 FR, .int .i64 l.length, .int .i64 (-1), .int .i64 (-1), .slice none 0 0, .slice none 0 0] 38)) 1)
      have hb0 : Below wr.heap.size wr (wr.alloc (.cells #[.int .i64 FR, .int .i64 l.length, .int .i64 (-1), .int .i64 (-1), .slice none 0 0, .slice none 0 0] 38)).drew := Below.drew ((Below.refl _ _).alloc (Nat.le_refl _) _)
      have k0 := Lib.hid (hk.to hb0)
      have hsz : (wr.alloc (.cells #[.int .i64 FR, .int .i64 l.length, .int .i64 (-1), .int .i64 (-1), .slice none 0 0, .slice none 0 0] 38)).drew.heap.size = wr.heap.size + 1 := by show (wr.alloc (.cells #[.int .i64 FR, .int .i64 l.length, .int .i64 (-1), .int .i64 (-1), .slice none 0 0, .slice none 0 0] 38)).heap.size = _; simp
      have HLCy := Lib.hid (HLCk.out _ hb0)
      have hnl := Lib.hid (fun q (h : wr.heap.size ≤ q) => (show (Value.slice (some ⟨g, 0, none⟩) n cl).ownBlock ≠ some q from fun e => by have := (HRW.out.lead.lt q e).2; omega))
      have hno := Lib.hid (fun q (h : wr.heap.size ≤ q) e => (show False by have := (HRW.out.out.lt q e).2; omega))
      clear hb0 e0 c0 HRW HLCk
      change Hid (RowsB (wr.alloc (.cells #[.int .i64 FR, .int .i64 l.length, .int .i64 (-1), .int .i64 (-1), .slice none 0 0, .slice none 0 0] 38)).drew _ _ _ _ _ _) at RW0
      generalize (wr.alloc (.cells #[.int .i64 FR, .int .i64 l.length, .int .i64 (-1), .int .i64 (-1), .slice none 0 0, .slice none 0 0] 38)).drew = Y at *
      generalize wr.heap.size = Q at *
      obtain ⟨d0, d1, d2, d3, d4⟩ := HC.out _ k0.out P i hi2
      have HTGx := Lib.hid (fun x hx => HTG.out x hx P i hi2)
      have c0 := C0.out _ k0.out
      have c1 := C1.out _ k0.out
      have c2 := C2.out _ k0.out
      obtain ⟨_, u0, u1, u2, u3, u4, u5, f1, f2, f3⟩ := BX.out
      clear hi2
      by_cases hk1 : k + 1 < n
      · have e1 := HLCy.out (k + 1) hk1
        have hTOe := HTOk.out hk1
        rw [← hTOe, Int.natCast_add, Int.natCast_one] at e1
        have j2 : (k : Int) + 1 < n := by omega
        have BXP := Lib.hid (BX.out.toTo ((P : Int) + 1))
        have RWP := Lib.hid (RW0.out.set (g := Q) (o := 1) (.int .i64 ((P : Int) + 1)) (hnl.out _ (Nat.le_refl _)) (fun e => hno.out _ (Nat.le_refl _) e))
        have kP := Lib.hid (Kept.set k0.out (g := Q) (o := 1) (by omega) (.int .i64 ((P : Int) + 1)))
        clear hTOe
        have BXA := Lib.hid (BXP.out.alloc (.cells #[.int .i64 i.op, .int .i64 i.d, .int .i64 i.a, .int .i64 i.b, .int .i64 i.imm] 41))
        have RWA := Lib.hid (RWP.out.alloc (.cells #[.int .i64 i.op, .int .i64 i.d, .int .i64 i.a, .int .i64 i.b, .int .i64 i.imm] 41))
        have kA := Lib.hid (Kept.alloc kP.out (.cells #[.int .i64 i.op, .int .i64 i.d, .int .i64 i.a, .int .i64 i.b, .int .i64 i.imm] 41))
        by_cases h40 : i.op = 40
        · have hgo := goes_40 h40
          have hq40 : (i.op != 40) = false := by simp [h40]
          clear h40
          have HTX := Lib.hid (HTGx.out _ kA.out)
          go_wp2_with fail
          refine HTX.out.mono ?_; rintro e x3 ⟨rfl, hb3⟩
          have BX3 := Lib.hid (BoxQ.below BXA.out hb3)
          have RW3 := Lib.hid (RowsB.below RWA.out hb3)
          have k3 := Lib.hid (Kept.to kA.out hb3)
          clear hb3 u0 u1 u2 u3 u4 u5 f1 f2 f3
          cases hju : isJump i
          · rw [targetZ_no (n := l.length) (k := P) (.inl hju)]
            clear HTT
            obtain ⟨_, u0, u1, u2, u3, u4, u5, f1, f2, f3⟩ := BX3.out
            have hbs := Lib.hid (show blkZ l L k = ⟨FR, (P : Int) + 1, -1, -1⟩ by rw [HBKk.out]; simp [hgo, hju])
            have hwz := Lib.hid (show W.heap.size ≤ x3.heap.size from k3.out.size)
            go_wp2_with (at_builtin; refine wpList_append_own _ rfl (.tmp 67) (.tmp 69) 31 rfl W.heap.size 38 i0 (.agg #[.int .i64 0, .int .i64 0, .int .i64 0, .int .i64 0, .slice none 0 0, .slice none 0 0]) 6 80 Try.underlying31 hi hz0 hz1 HZ2.out rfl (by omega) _ k (flat blkL (cutTo l L k)) rfl (RW3.out.out.alloc _) _ 1 1 (blkL ⟨FR, (P : Int) + 1, -1, -1⟩) rfl rfl (new_cells_at _ _ (by simp) _ _ _ rfl) (blkL_one _) (by unfold maxLen; omega) (by omega) (by have := hwz.out; simp at this ⊢; omega) ?_; intro v2 x5 hO5 hg5 _)
            have k5 : Kept W x5 := Below.grown (Kept.alloc k3.out _) hg5 (by have := hwz.out; simp at this ⊢; omega) (fun q hq => (RW3.out.out.lt q hq).1)
            have hL5 := own_grown (RW3.out.lead.alloc _) hg5 (fun q hq => by rw [← hq]; exact own_apart RW3.out.lead RW3.out.out (by decide) hq)
            clear hg5
            go_roundw
            case rel =>
              refine ⟨k + 1, by omega, by go_num, k5, hL5, ?_⟩
              rw [HCS.out, flat_snoc, hbs.out]
              exact hO5
            case measure => simp [intOf]; omega
          · obtain ⟨t0, t1⟩ := HTT.out hju
            rw [targetZ_jump hju t0 t1 (by omega) (by omega)]
            obtain ⟨_, u0, u1, u2, u3, u4, u5, f1, f2, f3⟩ := BX3.out
            have hl9 := RW3.out.lead
            rw [HN.out] at hl9
            have HNX := Lib.hid (HNA.out _ ((P : Int) + i.imm) hl9)
            clear hl9
            go_wp2_with fail
            refine HNX.out.mono ?_; rintro e x4 ⟨rfl, rfl⟩
            have BX4 := Lib.hid (BX3.out.takenTo (numZ L ((P : Int) + i.imm)))
            have RW4 := Lib.hid (RW3.out.set (g := Q) (o := 3) (.int .i64 (numZ L ((P : Int) + i.imm))) (hnl.out _ (by omega)) (fun e => hno.out _ (by omega) e))
            have k4 := Lib.hid (Kept.set k3.out (g := Q) (o := 3) (by omega) (.int .i64 (numZ L ((P : Int) + i.imm))))
            have hbs := Lib.hid (show blkZ l L k = ⟨FR, (P : Int) + 1, -1, numZ L ((P : Int) + i.imm)⟩ by rw [HBKk.out]; simp [hgo, hju])
            have hwz := Lib.hid (show W.heap.size ≤ x3.heap.size from k3.out.size)
            go_wp2_with (at_builtin; refine wpList_append_own _ rfl (.tmp 67) (.tmp 69) 31 rfl W.heap.size 38 i0 (.agg #[.int .i64 0, .int .i64 0, .int .i64 0, .int .i64 0, .slice none 0 0, .slice none 0 0]) 6 80 Try.underlying31 hi hz0 hz1 HZ2.out rfl (by omega) _ k (flat blkL (cutTo l L k)) rfl (RW4.out.out.alloc _) _ 1 1 (blkL ⟨FR, (P : Int) + 1, -1, numZ L ((P : Int) + i.imm)⟩) rfl rfl (new_cells_at _ _ (by simp) _ _ _ rfl) (blkL_one _) (by unfold maxLen; omega) (by omega) (by have := hwz.out; simp at this ⊢; omega) ?_; intro v2 x5 hO5 hg5 _)
            have k5 : Kept W x5 := Below.grown (Kept.alloc k4.out _) hg5 (by have := hwz.out; simp at this ⊢; omega) (fun q hq => (RW4.out.out.lt q hq).1)
            have hL5 := own_grown (RW4.out.lead.alloc _) hg5 (fun q hq => by rw [← hq]; exact own_apart RW4.out.lead RW4.out.out (by decide) hq)
            clear hg5
            go_roundw
            case rel =>
              refine ⟨k + 1, by omega, by go_num, k5, hL5, ?_⟩
              rw [HCS.out, flat_snoc, hbs.out]
              exact hO5
            case measure => simp [intOf]; omega
        · by_cases h41 : i.op = 41
          · have hgo := goes_41 h41
            have hq40 : (i.op != 40) = true := by simpa using h40
            have hq41 : (i.op != 41) = false := by simp [h41]
            clear h40 h41
            have HTX := Lib.hid (HTGx.out _ kA.out)
            go_wp2_with fail
            refine HTX.out.mono ?_; rintro e x3 ⟨rfl, hb3⟩
            have BX3 := Lib.hid (BoxQ.below BXA.out hb3)
            have RW3 := Lib.hid (RowsB.below RWA.out hb3)
            have k3 := Lib.hid (Kept.to kA.out hb3)
            clear hb3 u0 u1 u2 u3 u4 u5 f1 f2 f3
            cases hju : isJump i
            · rw [targetZ_no (n := l.length) (k := P) (.inl hju)]
              clear HTT
              obtain ⟨_, u0, u1, u2, u3, u4, u5, f1, f2, f3⟩ := BX3.out
              have hbs := Lib.hid (show blkZ l L k = ⟨FR, (P : Int) + 1, -1, -1⟩ by rw [HBKk.out]; simp [hgo, hju])
              have hwz := Lib.hid (show W.heap.size ≤ x3.heap.size from k3.out.size)
              go_wp2_with (at_builtin; refine wpList_append_own _ rfl (.tmp 67) (.tmp 69) 31 rfl W.heap.size 38 i0 (.agg #[.int .i64 0, .int .i64 0, .int .i64 0, .int .i64 0, .slice none 0 0, .slice none 0 0]) 6 80 Try.underlying31 hi hz0 hz1 HZ2.out rfl (by omega) _ k (flat blkL (cutTo l L k)) rfl (RW3.out.out.alloc _) _ 1 1 (blkL ⟨FR, (P : Int) + 1, -1, -1⟩) rfl rfl (new_cells_at _ _ (by simp) _ _ _ rfl) (blkL_one _) (by unfold maxLen; omega) (by omega) (by have := hwz.out; simp at this ⊢; omega) ?_; intro v2 x5 hO5 hg5 _)
              have k5 : Kept W x5 := Below.grown (Kept.alloc k3.out _) hg5 (by have := hwz.out; simp at this ⊢; omega) (fun q hq => (RW3.out.out.lt q hq).1)
              have hL5 := own_grown (RW3.out.lead.alloc _) hg5 (fun q hq => by rw [← hq]; exact own_apart RW3.out.lead RW3.out.out (by decide) hq)
              clear hg5
              go_roundw
              case rel =>
                refine ⟨k + 1, by omega, by go_num, k5, hL5, ?_⟩
                rw [HCS.out, flat_snoc, hbs.out]
                exact hO5
              case measure => simp [intOf]; omega
            · obtain ⟨t0, t1⟩ := HTT.out hju
              rw [targetZ_jump hju t0 t1 (by omega) (by omega)]
              obtain ⟨_, u0, u1, u2, u3, u4, u5, f1, f2, f3⟩ := BX3.out
              have hl9 := RW3.out.lead
              rw [HN.out] at hl9
              have HNX := Lib.hid (HNA.out _ ((P : Int) + i.imm) hl9)
              clear hl9
              go_wp2_with fail
              refine HNX.out.mono ?_; rintro e x4 ⟨rfl, rfl⟩
              have BX4 := Lib.hid (BX3.out.takenTo (numZ L ((P : Int) + i.imm)))
              have RW4 := Lib.hid (RW3.out.set (g := Q) (o := 3) (.int .i64 (numZ L ((P : Int) + i.imm))) (hnl.out _ (by omega)) (fun e => hno.out _ (by omega) e))
              have k4 := Lib.hid (Kept.set k3.out (g := Q) (o := 3) (by omega) (.int .i64 (numZ L ((P : Int) + i.imm))))
              have hbs := Lib.hid (show blkZ l L k = ⟨FR, (P : Int) + 1, -1, numZ L ((P : Int) + i.imm)⟩ by rw [HBKk.out]; simp [hgo, hju])
              have hwz := Lib.hid (show W.heap.size ≤ x3.heap.size from k3.out.size)
              go_wp2_with (at_builtin; refine wpList_append_own _ rfl (.tmp 67) (.tmp 69) 31 rfl W.heap.size 38 i0 (.agg #[.int .i64 0, .int .i64 0, .int .i64 0, .int .i64 0, .slice none 0 0, .slice none 0 0]) 6 80 Try.underlying31 hi hz0 hz1 HZ2.out rfl (by omega) _ k (flat blkL (cutTo l L k)) rfl (RW4.out.out.alloc _) _ 1 1 (blkL ⟨FR, (P : Int) + 1, -1, numZ L ((P : Int) + i.imm)⟩) rfl rfl (new_cells_at _ _ (by simp) _ _ _ rfl) (blkL_one _) (by unfold maxLen; omega) (by omega) (by have := hwz.out; simp at this ⊢; omega) ?_; intro v2 x5 hO5 hg5 _)
              have k5 : Kept W x5 := Below.grown (Kept.alloc k4.out _) hg5 (by have := hwz.out; simp at this ⊢; omega) (fun q hq => (RW4.out.out.lt q hq).1)
              have hL5 := own_grown (RW4.out.lead.alloc _) hg5 (fun q hq => by rw [← hq]; exact own_apart RW4.out.lead RW4.out.out (by decide) hq)
              clear hg5
              go_roundw
              case rel =>
                refine ⟨k + 1, by omega, by go_num, k5, hL5, ?_⟩
                rw [HCS.out, flat_snoc, hbs.out]
                exact hO5
              case measure => simp [intOf]; omega
          · have hgo := goes_no h40 h41
            have hq40 : (i.op != 40) = true := by simpa using h40
            have hq41 : (i.op != 41) = true := by simpa using h41
            clear h40 h41
            have hl9 := RWA.out.lead
            rw [HN.out] at hl9
            have HNX := Lib.hid (HNA.out _ ((P : Int) + 1) hl9)
            clear hl9
            go_wp2_with fail
            refine HNX.out.mono ?_; rintro e x2 ⟨rfl, rfl⟩
            have BX2 := Lib.hid ((BXP.out.nextTo (numZ L ((P : Int) + 1))).alloc (.cells #[.int .i64 i.op, .int .i64 i.d, .int .i64 i.a, .int .i64 i.b, .int .i64 i.imm] 41))
            have RW2 := Lib.hid ((RWP.out.set (g := Q) (o := 2) (.int .i64 (numZ L ((P : Int) + 1))) (hnl.out _ (Nat.le_refl _)) (fun e => hno.out _ (Nat.le_refl _) e)).alloc (.cells #[.int .i64 i.op, .int .i64 i.d, .int .i64 i.a, .int .i64 i.b, .int .i64 i.imm] 41))
            have k2 := Lib.hid (Kept.alloc (Kept.set kP.out (g := Q) (o := 2) (by omega) (.int .i64 (numZ L ((P : Int) + 1)))) (.cells #[.int .i64 i.op, .int .i64 i.d, .int .i64 i.a, .int .i64 i.b, .int .i64 i.imm] 41))
            have HTX := Lib.hid (HTGx.out _ k2.out)
            go_wp2_with fail
            refine HTX.out.mono ?_; rintro e x3 ⟨rfl, hb3⟩
            have BX3 := Lib.hid (BoxQ.below BX2.out hb3)
            have RW3 := Lib.hid (RowsB.below RW2.out hb3)
            have k3 := Lib.hid (Kept.to k2.out hb3)
            clear hb3 u0 u1 u2 u3 u4 u5 f1 f2 f3
            cases hju : isJump i
            · rw [targetZ_no (n := l.length) (k := P) (.inl hju)]
              clear HTT
              obtain ⟨_, u0, u1, u2, u3, u4, u5, f1, f2, f3⟩ := BX3.out
              have hbs := Lib.hid (show blkZ l L k = ⟨FR, (P : Int) + 1, numZ L ((P : Int) + 1), -1⟩ by rw [HBKk.out]; simp [hgo, hju])
              have hwz := Lib.hid (show W.heap.size ≤ x3.heap.size from k3.out.size)
              go_wp2_with (at_builtin; refine wpList_append_own _ rfl (.tmp 67) (.tmp 69) 31 rfl W.heap.size 38 i0 (.agg #[.int .i64 0, .int .i64 0, .int .i64 0, .int .i64 0, .slice none 0 0, .slice none 0 0]) 6 80 Try.underlying31 hi hz0 hz1 HZ2.out rfl (by omega) _ k (flat blkL (cutTo l L k)) rfl (RW3.out.out.alloc _) _ 1 1 (blkL ⟨FR, (P : Int) + 1, numZ L ((P : Int) + 1), -1⟩) rfl rfl (new_cells_at _ _ (by simp) _ _ _ rfl) (blkL_one _) (by unfold maxLen; omega) (by omega) (by have := hwz.out; simp at this ⊢; omega) ?_; intro v2 x5 hO5 hg5 _)
              have k5 : Kept W x5 := Below.grown (Kept.alloc k3.out _) hg5 (by have := hwz.out; simp at this ⊢; omega) (fun q hq => (RW3.out.out.lt q hq).1)
              have hL5 := own_grown (RW3.out.lead.alloc _) hg5 (fun q hq => by rw [← hq]; exact own_apart RW3.out.lead RW3.out.out (by decide) hq)
              clear hg5
              go_roundw
              case rel =>
                refine ⟨k + 1, by omega, by go_num, k5, hL5, ?_⟩
                rw [HCS.out, flat_snoc, hbs.out]
                exact hO5
              case measure => simp [intOf]; omega
            · obtain ⟨t0, t1⟩ := HTT.out hju
              rw [targetZ_jump hju t0 t1 (by omega) (by omega)]
              obtain ⟨_, u0, u1, u2, u3, u4, u5, f1, f2, f3⟩ := BX3.out
              have hl9 := RW3.out.lead
              rw [HN.out] at hl9
              have HNX := Lib.hid (HNA.out _ ((P : Int) + i.imm) hl9)
              clear hl9
              go_wp2_with fail
              refine HNX.out.mono ?_; rintro e x4 ⟨rfl, rfl⟩
              have BX4 := Lib.hid (BX3.out.takenTo (numZ L ((P : Int) + i.imm)))
              have RW4 := Lib.hid (RW3.out.set (g := Q) (o := 3) (.int .i64 (numZ L ((P : Int) + i.imm))) (hnl.out _ (by omega)) (fun e => hno.out _ (by omega) e))
              have k4 := Lib.hid (Kept.set k3.out (g := Q) (o := 3) (by omega) (.int .i64 (numZ L ((P : Int) + i.imm))))
              have hbs := Lib.hid (show blkZ l L k = ⟨FR, (P : Int) + 1, numZ L ((P : Int) + 1), numZ L ((P : Int) + i.imm)⟩ by rw [HBKk.out]; simp [hgo, hju])
              have hwz := Lib.hid (show W.heap.size ≤ x3.heap.size from k3.out.size)
              go_wp2_with (at_builtin; refine wpList_append_own _ rfl (.tmp 67) (.tmp 69) 31 rfl W.heap.size 38 i0 (.agg #[.int .i64 0, .int .i64 0, .int .i64 0, .int .i64 0, .slice none 0 0, .slice none 0 0]) 6 80 Try.underlying31 hi hz0 hz1 HZ2.out rfl (by omega) _ k (flat blkL (cutTo l L k)) rfl (RW4.out.out.alloc _) _ 1 1 (blkL ⟨FR, (P : Int) + 1, numZ L ((P : Int) + 1), numZ L ((P : Int) + i.imm)⟩) rfl rfl (new_cells_at _ _ (by simp) _ _ _ rfl) (blkL_one _) (by unfold maxLen; omega) (by omega) (by have := hwz.out; simp at this ⊢; omega) ?_; intro v2 x5 hO5 hg5 _)
              have k5 : Kept W x5 := Below.grown (Kept.alloc k4.out _) hg5 (by have := hwz.out; simp at this ⊢; omega) (fun q hq => (RW4.out.out.lt q hq).1)
              have hL5 := own_grown (RW4.out.lead.alloc _) hg5 (fun q hq => by rw [← hq]; exact own_apart RW4.out.lead RW4.out.out (by decide) hq)
              clear hg5
              go_roundw
              case rel =>
                refine ⟨k + 1, by omega, by go_num, k5, hL5, ?_⟩
                rw [HCS.out, flat_snoc, hbs.out]
                exact hO5
              case measure => simp [intOf]; omega
      · have hTOe := HTNk.out hk1
        have hTOi : (l.length : Int) = (P : Int) + 1 := by omega
        rw [show (Blk.mk FR l.length (-1) (-1)) = Blk.mk FR ((P : Int) + 1) (-1) (-1) by rw [hTOi]] at BX
        have j2 : ¬ (k : Int) + 1 < n := by omega
        have BXP := BX
        have RWP := RW0
        have kP := k0
        clear hTOe
        have BXA := Lib.hid (BXP.out.alloc (.cells #[.int .i64 i.op, .int .i64 i.d, .int .i64 i.a, .int .i64 i.b, .int .i64 i.imm] 41))
        have RWA := Lib.hid (RWP.out.alloc (.cells #[.int .i64 i.op, .int .i64 i.d, .int .i64 i.a, .int .i64 i.b, .int .i64 i.imm] 41))
        have kA := Lib.hid (Kept.alloc kP.out (.cells #[.int .i64 i.op, .int .i64 i.d, .int .i64 i.a, .int .i64 i.b, .int .i64 i.imm] 41))
        by_cases h40 : i.op = 40
        · have hgo := goes_40 h40
          have hq40 : (i.op != 40) = false := by simp [h40]
          clear h40
          have HTX := Lib.hid (HTGx.out _ kA.out)
          go_wp2_with fail
          refine HTX.out.mono ?_; rintro e x3 ⟨rfl, hb3⟩
          have BX3 := Lib.hid (BoxQ.below BXA.out hb3)
          have RW3 := Lib.hid (RowsB.below RWA.out hb3)
          have k3 := Lib.hid (Kept.to kA.out hb3)
          clear hb3 u0 u1 u2 u3 u4 u5 f1 f2 f3
          cases hju : isJump i
          · rw [targetZ_no (n := l.length) (k := P) (.inl hju)]
            clear HTT
            obtain ⟨_, u0, u1, u2, u3, u4, u5, f1, f2, f3⟩ := BX3.out
            have hbs := Lib.hid (show blkZ l L k = ⟨FR, (P : Int) + 1, -1, -1⟩ by rw [HBKk.out]; simp [hgo, hju])
            have hwz := Lib.hid (show W.heap.size ≤ x3.heap.size from k3.out.size)
            go_wp2_with (at_builtin; refine wpList_append_own _ rfl (.tmp 67) (.tmp 69) 31 rfl W.heap.size 38 i0 (.agg #[.int .i64 0, .int .i64 0, .int .i64 0, .int .i64 0, .slice none 0 0, .slice none 0 0]) 6 80 Try.underlying31 hi hz0 hz1 HZ2.out rfl (by omega) _ k (flat blkL (cutTo l L k)) rfl (RW3.out.out.alloc _) _ 1 1 (blkL ⟨FR, (P : Int) + 1, -1, -1⟩) rfl rfl (new_cells_at _ _ (by simp) _ _ _ rfl) (blkL_one _) (by unfold maxLen; omega) (by omega) (by have := hwz.out; simp at this ⊢; omega) ?_; intro v2 x5 hO5 hg5 _)
            have k5 : Kept W x5 := Below.grown (Kept.alloc k3.out _) hg5 (by have := hwz.out; simp at this ⊢; omega) (fun q hq => (RW3.out.out.lt q hq).1)
            have hL5 := own_grown (RW3.out.lead.alloc _) hg5 (fun q hq => by rw [← hq]; exact own_apart RW3.out.lead RW3.out.out (by decide) hq)
            clear hg5
            go_roundw
            case rel =>
              refine ⟨k + 1, by omega, by go_num, k5, hL5, ?_⟩
              rw [HCS.out, flat_snoc, hbs.out]
              exact hO5
            case measure => simp [intOf]; omega
          · obtain ⟨t0, t1⟩ := HTT.out hju
            rw [targetZ_jump hju t0 t1 (by omega) (by omega)]
            obtain ⟨_, u0, u1, u2, u3, u4, u5, f1, f2, f3⟩ := BX3.out
            have hl9 := RW3.out.lead
            rw [HN.out] at hl9
            have HNX := Lib.hid (HNA.out _ ((P : Int) + i.imm) hl9)
            clear hl9
            go_wp2_with fail
            refine HNX.out.mono ?_; rintro e x4 ⟨rfl, rfl⟩
            have BX4 := Lib.hid (BX3.out.takenTo (numZ L ((P : Int) + i.imm)))
            have RW4 := Lib.hid (RW3.out.set (g := Q) (o := 3) (.int .i64 (numZ L ((P : Int) + i.imm))) (hnl.out _ (by omega)) (fun e => hno.out _ (by omega) e))
            have k4 := Lib.hid (Kept.set k3.out (g := Q) (o := 3) (by omega) (.int .i64 (numZ L ((P : Int) + i.imm))))
            have hbs := Lib.hid (show blkZ l L k = ⟨FR, (P : Int) + 1, -1, numZ L ((P : Int) + i.imm)⟩ by rw [HBKk.out]; simp [hgo, hju])
            have hwz := Lib.hid (show W.heap.size ≤ x3.heap.size from k3.out.size)
            go_wp2_with (at_builtin; refine wpList_append_own _ rfl (.tmp 67) (.tmp 69) 31 rfl W.heap.size 38 i0 (.agg #[.int .i64 0, .int .i64 0, .int .i64 0, .int .i64 0, .slice none 0 0, .slice none 0 0]) 6 80 Try.underlying31 hi hz0 hz1 HZ2.out rfl (by omega) _ k (flat blkL (cutTo l L k)) rfl (RW4.out.out.alloc _) _ 1 1 (blkL ⟨FR, (P : Int) + 1, -1, numZ L ((P : Int) + i.imm)⟩) rfl rfl (new_cells_at _ _ (by simp) _ _ _ rfl) (blkL_one _) (by unfold maxLen; omega) (by omega) (by have := hwz.out; simp at this ⊢; omega) ?_; intro v2 x5 hO5 hg5 _)
            have k5 : Kept W x5 := Below.grown (Kept.alloc k4.out _) hg5 (by have := hwz.out; simp at this ⊢; omega) (fun q hq => (RW4.out.out.lt q hq).1)
            have hL5 := own_grown (RW4.out.lead.alloc _) hg5 (fun q hq => by rw [← hq]; exact own_apart RW4.out.lead RW4.out.out (by decide) hq)
            clear hg5
            go_roundw
            case rel =>
              refine ⟨k + 1, by omega, by go_num, k5, hL5, ?_⟩
              rw [HCS.out, flat_snoc, hbs.out]
              exact hO5
            case measure => simp [intOf]; omega
        · by_cases h41 : i.op = 41
          · have hgo := goes_41 h41
            have hq40 : (i.op != 40) = true := by simpa using h40
            have hq41 : (i.op != 41) = false := by simp [h41]
            clear h40 h41
            have HTX := Lib.hid (HTGx.out _ kA.out)
            go_wp2_with fail
            refine HTX.out.mono ?_; rintro e x3 ⟨rfl, hb3⟩
            have BX3 := Lib.hid (BoxQ.below BXA.out hb3)
            have RW3 := Lib.hid (RowsB.below RWA.out hb3)
            have k3 := Lib.hid (Kept.to kA.out hb3)
            clear hb3 u0 u1 u2 u3 u4 u5 f1 f2 f3
            cases hju : isJump i
            · rw [targetZ_no (n := l.length) (k := P) (.inl hju)]
              clear HTT
              obtain ⟨_, u0, u1, u2, u3, u4, u5, f1, f2, f3⟩ := BX3.out
              have hbs := Lib.hid (show blkZ l L k = ⟨FR, (P : Int) + 1, -1, -1⟩ by rw [HBKk.out]; simp [hgo, hju])
              have hwz := Lib.hid (show W.heap.size ≤ x3.heap.size from k3.out.size)
              go_wp2_with (at_builtin; refine wpList_append_own _ rfl (.tmp 67) (.tmp 69) 31 rfl W.heap.size 38 i0 (.agg #[.int .i64 0, .int .i64 0, .int .i64 0, .int .i64 0, .slice none 0 0, .slice none 0 0]) 6 80 Try.underlying31 hi hz0 hz1 HZ2.out rfl (by omega) _ k (flat blkL (cutTo l L k)) rfl (RW3.out.out.alloc _) _ 1 1 (blkL ⟨FR, (P : Int) + 1, -1, -1⟩) rfl rfl (new_cells_at _ _ (by simp) _ _ _ rfl) (blkL_one _) (by unfold maxLen; omega) (by omega) (by have := hwz.out; simp at this ⊢; omega) ?_; intro v2 x5 hO5 hg5 _)
              have k5 : Kept W x5 := Below.grown (Kept.alloc k3.out _) hg5 (by have := hwz.out; simp at this ⊢; omega) (fun q hq => (RW3.out.out.lt q hq).1)
              have hL5 := own_grown (RW3.out.lead.alloc _) hg5 (fun q hq => by rw [← hq]; exact own_apart RW3.out.lead RW3.out.out (by decide) hq)
              clear hg5
              go_roundw
              case rel =>
                refine ⟨k + 1, by omega, by go_num, k5, hL5, ?_⟩
                rw [HCS.out, flat_snoc, hbs.out]
                exact hO5
              case measure => simp [intOf]; omega
            · obtain ⟨t0, t1⟩ := HTT.out hju
              rw [targetZ_jump hju t0 t1 (by omega) (by omega)]
              obtain ⟨_, u0, u1, u2, u3, u4, u5, f1, f2, f3⟩ := BX3.out
              have hl9 := RW3.out.lead
              rw [HN.out] at hl9
              have HNX := Lib.hid (HNA.out _ ((P : Int) + i.imm) hl9)
              clear hl9
              go_wp2_with fail
              refine HNX.out.mono ?_; rintro e x4 ⟨rfl, rfl⟩
              have BX4 := Lib.hid (BX3.out.takenTo (numZ L ((P : Int) + i.imm)))
              have RW4 := Lib.hid (RW3.out.set (g := Q) (o := 3) (.int .i64 (numZ L ((P : Int) + i.imm))) (hnl.out _ (by omega)) (fun e => hno.out _ (by omega) e))
              have k4 := Lib.hid (Kept.set k3.out (g := Q) (o := 3) (by omega) (.int .i64 (numZ L ((P : Int) + i.imm))))
              have hbs := Lib.hid (show blkZ l L k = ⟨FR, (P : Int) + 1, -1, numZ L ((P : Int) + i.imm)⟩ by rw [HBKk.out]; simp [hgo, hju])
              have hwz := Lib.hid (show W.heap.size ≤ x3.heap.size from k3.out.size)
              go_wp2_with (at_builtin; refine wpList_append_own _ rfl (.tmp 67) (.tmp 69) 31 rfl W.heap.size 38 i0 (.agg #[.int .i64 0, .int .i64 0, .int .i64 0, .int .i64 0, .slice none 0 0, .slice none 0 0]) 6 80 Try.underlying31 hi hz0 hz1 HZ2.out rfl (by omega) _ k (flat blkL (cutTo l L k)) rfl (RW4.out.out.alloc _) _ 1 1 (blkL ⟨FR, (P : Int) + 1, -1, numZ L ((P : Int) + i.imm)⟩) rfl rfl (new_cells_at _ _ (by simp) _ _ _ rfl) (blkL_one _) (by unfold maxLen; omega) (by omega) (by have := hwz.out; simp at this ⊢; omega) ?_; intro v2 x5 hO5 hg5 _)
              have k5 : Kept W x5 := Below.grown (Kept.alloc k4.out _) hg5 (by have := hwz.out; simp at this ⊢; omega) (fun q hq => (RW4.out.out.lt q hq).1)
              have hL5 := own_grown (RW4.out.lead.alloc _) hg5 (fun q hq => by rw [← hq]; exact own_apart RW4.out.lead RW4.out.out (by decide) hq)
              clear hg5
              go_roundw
              case rel =>
                refine ⟨k + 1, by omega, by go_num, k5, hL5, ?_⟩
                rw [HCS.out, flat_snoc, hbs.out]
                exact hO5
              case measure => simp [intOf]; omega
          · have hgo := goes_no h40 h41
            have hq40 : (i.op != 40) = true := by simpa using h40
            have hq41 : (i.op != 41) = true := by simpa using h41
            clear h40 h41
            have hl9 := RWA.out.lead
            rw [HN.out] at hl9
            have HNX := Lib.hid (HNA.out _ ((P : Int) + 1) hl9)
            clear hl9
            go_wp2_with fail
            refine HNX.out.mono ?_; rintro e x2 ⟨rfl, rfl⟩
            have BX2 := Lib.hid ((BXP.out.nextTo (numZ L ((P : Int) + 1))).alloc (.cells #[.int .i64 i.op, .int .i64 i.d, .int .i64 i.a, .int .i64 i.b, .int .i64 i.imm] 41))
            have RW2 := Lib.hid ((RWP.out.set (g := Q) (o := 2) (.int .i64 (numZ L ((P : Int) + 1))) (hnl.out _ (Nat.le_refl _)) (fun e => hno.out _ (Nat.le_refl _) e)).alloc (.cells #[.int .i64 i.op, .int .i64 i.d, .int .i64 i.a, .int .i64 i.b, .int .i64 i.imm] 41))
            have k2 := Lib.hid (Kept.alloc (Kept.set kP.out (g := Q) (o := 2) (by omega) (.int .i64 (numZ L ((P : Int) + 1)))) (.cells #[.int .i64 i.op, .int .i64 i.d, .int .i64 i.a, .int .i64 i.b, .int .i64 i.imm] 41))
            have HTX := Lib.hid (HTGx.out _ k2.out)
            go_wp2_with fail
            refine HTX.out.mono ?_; rintro e x3 ⟨rfl, hb3⟩
            have BX3 := Lib.hid (BoxQ.below BX2.out hb3)
            have RW3 := Lib.hid (RowsB.below RW2.out hb3)
            have k3 := Lib.hid (Kept.to k2.out hb3)
            clear hb3 u0 u1 u2 u3 u4 u5 f1 f2 f3
            cases hju : isJump i
            · rw [targetZ_no (n := l.length) (k := P) (.inl hju)]
              clear HTT
              obtain ⟨_, u0, u1, u2, u3, u4, u5, f1, f2, f3⟩ := BX3.out
              have hbs := Lib.hid (show blkZ l L k = ⟨FR, (P : Int) + 1, numZ L ((P : Int) + 1), -1⟩ by rw [HBKk.out]; simp [hgo, hju])
              have hwz := Lib.hid (show W.heap.size ≤ x3.heap.size from k3.out.size)
              go_wp2_with (at_builtin; refine wpList_append_own _ rfl (.tmp 67) (.tmp 69) 31 rfl W.heap.size 38 i0 (.agg #[.int .i64 0, .int .i64 0, .int .i64 0, .int .i64 0, .slice none 0 0, .slice none 0 0]) 6 80 Try.underlying31 hi hz0 hz1 HZ2.out rfl (by omega) _ k (flat blkL (cutTo l L k)) rfl (RW3.out.out.alloc _) _ 1 1 (blkL ⟨FR, (P : Int) + 1, numZ L ((P : Int) + 1), -1⟩) rfl rfl (new_cells_at _ _ (by simp) _ _ _ rfl) (blkL_one _) (by unfold maxLen; omega) (by omega) (by have := hwz.out; simp at this ⊢; omega) ?_; intro v2 x5 hO5 hg5 _)
              have k5 : Kept W x5 := Below.grown (Kept.alloc k3.out _) hg5 (by have := hwz.out; simp at this ⊢; omega) (fun q hq => (RW3.out.out.lt q hq).1)
              have hL5 := own_grown (RW3.out.lead.alloc _) hg5 (fun q hq => by rw [← hq]; exact own_apart RW3.out.lead RW3.out.out (by decide) hq)
              clear hg5
              go_roundw
              case rel =>
                refine ⟨k + 1, by omega, by go_num, k5, hL5, ?_⟩
                rw [HCS.out, flat_snoc, hbs.out]
                exact hO5
              case measure => simp [intOf]; omega
            · obtain ⟨t0, t1⟩ := HTT.out hju
              rw [targetZ_jump hju t0 t1 (by omega) (by omega)]
              obtain ⟨_, u0, u1, u2, u3, u4, u5, f1, f2, f3⟩ := BX3.out
              have hl9 := RW3.out.lead
              rw [HN.out] at hl9
              have HNX := Lib.hid (HNA.out _ ((P : Int) + i.imm) hl9)
              clear hl9
              go_wp2_with fail
              refine HNX.out.mono ?_; rintro e x4 ⟨rfl, rfl⟩
              have BX4 := Lib.hid (BX3.out.takenTo (numZ L ((P : Int) + i.imm)))
              have RW4 := Lib.hid (RW3.out.set (g := Q) (o := 3) (.int .i64 (numZ L ((P : Int) + i.imm))) (hnl.out _ (by omega)) (fun e => hno.out _ (by omega) e))
              have k4 := Lib.hid (Kept.set k3.out (g := Q) (o := 3) (by omega) (.int .i64 (numZ L ((P : Int) + i.imm))))
              have hbs := Lib.hid (show blkZ l L k = ⟨FR, (P : Int) + 1, numZ L ((P : Int) + 1), numZ L ((P : Int) + i.imm)⟩ by rw [HBKk.out]; simp [hgo, hju])
              have hwz := Lib.hid (show W.heap.size ≤ x3.heap.size from k3.out.size)
              go_wp2_with (at_builtin; refine wpList_append_own _ rfl (.tmp 67) (.tmp 69) 31 rfl W.heap.size 38 i0 (.agg #[.int .i64 0, .int .i64 0, .int .i64 0, .int .i64 0, .slice none 0 0, .slice none 0 0]) 6 80 Try.underlying31 hi hz0 hz1 HZ2.out rfl (by omega) _ k (flat blkL (cutTo l L k)) rfl (RW4.out.out.alloc _) _ 1 1 (blkL ⟨FR, (P : Int) + 1, numZ L ((P : Int) + 1), numZ L ((P : Int) + i.imm)⟩) rfl rfl (new_cells_at _ _ (by simp) _ _ _ rfl) (blkL_one _) (by unfold maxLen; omega) (by omega) (by have := hwz.out; simp at this ⊢; omega) ?_; intro v2 x5 hO5 hg5 _)
              have k5 : Kept W x5 := Below.grown (Kept.alloc k4.out _) hg5 (by have := hwz.out; simp at this ⊢; omega) (fun q hq => (RW4.out.out.lt q hq).1)
              have hL5 := own_grown (RW4.out.lead.alloc _) hg5 (fun q hq => by rw [← hq]; exact own_apart RW4.out.lead RW4.out.out (by decide) hq)
              clear hg5
              go_roundw
              case rel =>
                refine ⟨k + 1, by omega, by go_num, k5, hL5, ?_⟩
                rw [HCS.out, flat_snoc, hbs.out]
                exact hO5
              case measure => simp [intOf]; omega
    · have hkn2 : k = n := by omega
      subst hkn2
      go_wp2_with fail
      go_ret
      have hout := HRW.out.out
      rw [HCR.out]
      exact ⟨_, rfl, by rw [HCL.out]; exact own_base hout (by omega), HK.out _ hk⟩
end Go.Proofs.Ytajiifplkfjnjaa.Words

/- Contract of package blocks: Cut. -/
import Derived.Test.YtajiifplkfjnjaaBlkLeads
import Derived.Test.YtajiifplkfjnjaaFlat
namespace Go.Proofs.Ytajiifplkfjnjaa.Words
set_option maxRecDepth 100000
open Go.RowKit
set_option linter.unusedVariables false

theorem info_block : (Try.prog.info? 38).map (fun i => (i.zero, i.size, i.bytes)) = some (some (.agg #[.int .i64 0, .int .i64 0, .int .i64 0, .int .i64 0, .slice none 0 0, .slice none 0 0]), 6, 80) := by kernel_rfl
/-- The six cells of a block without cells. -/
def blkL (b : Blk) : List Value := [.int .i64 b.from_, .int .i64 b.to, .int .i64 b.next, .int .i64 b.taken, .slice none 0 0, .slice none 0 0]
theorem blkL_len (b : Blk) : (blkL b).length = 6 := rfl
theorem blkL_one (b : Blk) : ∀ u ∈ blkL b, u.oneCell' = true := by
  intro u hu
  simp only [blkL, List.mem_cons, List.not_mem_nil, or_false] at hu
  rcases hu with rfl | rfl | rfl | rfl | rfl | rfl <;> rfl
def cutR (l : List Ins) (sz : Int) (m : Nat) : List Blk := if rightZ l sz m = true then cutZ l else []
theorem cutR_eq (l : List Ins) (sz : Int) (m : Nat) : cutR l sz m = cutTo l (leadsR l sz m) (leadsR l sz m).length := by
  unfold cutR leadsR cutZ
  split
  · rfl
  · rfl
theorem leadsR_sorted (l : List Ins) (sz : Int) (m : Nat) : (leadsR l sz m).Pairwise (· < ·) := by
  unfold leadsR; split
  · exact leads_sorted l
  · exact List.Pairwise.nil
theorem leadsR_lt {l : List Ins} {sz : Int} {m : Nat} {x : Nat} (h : x ∈ leadsR l sz m) : x < l.length := by
  unfold leadsR at h; split at h
  · exact (mem_leads.1 h).1
  · simp at h
theorem leadsR_le (l : List Ins) (sz : Int) (m : Nat) : (leadsR l sz m).length ≤ l.length := by
  unfold leadsR; split
  · rw [← leadsTo_all (Nat.le_refl _)]; exact leadsTo_le _ _ _
  · simp
theorem getD_mem {L : List Nat} {k : Nat} (h : k < L.length) : L.getD k 0 ∈ L := by
  rw [List.getD_eq_getElem?_getD, List.getElem?_eq_getElem h]; exact List.getElem_mem h
theorem sorted_at {L : List Nat} (hs : L.Pairwise (· < ·)) {a b : Nat} (hab : a < b) (hb : b < L.length) : L.getD a 0 < L.getD b 0 := by
  rw [List.getD_eq_getElem?_getD, List.getElem?_eq_getElem (by omega), List.getD_eq_getElem?_getD, List.getElem?_eq_getElem hb]
  exact List.pairwise_iff_getElem.1 hs a b (by omega) hb hab
/-- Where the k-th block ends. -/
theorem blkTo_range {L : List Nat} {n k : Nat} (hs : L.Pairwise (· < ·)) (hn : ∀ x ∈ L, x < n) (hk : k < L.length) : L.getD k 0 < blkToZ L n k ∧ blkToZ L n k ≤ n := by
  unfold blkToZ
  split
  · rename_i h
    exact ⟨sorted_at hs (Nat.lt_succ_self k) h, Nat.le_of_lt (hn _ (getD_mem h))⟩
  · exact ⟨hn _ (getD_mem hk), Nat.le_refl _⟩

/-- An instruction's box and a block's box behind it. -/
structure BoxB (x : World) (q : Nat) (i : Ins) (b : Blk) : Prop where
  big : q + 1 < x.heap.size
  i0 : x.cell? ⟨q, 0, none⟩ = some (.int .i64 i.op)
  i1 : x.cell? ⟨q, 1, none⟩ = some (.int .i64 i.d)
  i2 : x.cell? ⟨q, 2, none⟩ = some (.int .i64 i.a)
  i3 : x.cell? ⟨q, 3, none⟩ = some (.int .i64 i.b)
  i4 : x.cell? ⟨q, 4, none⟩ = some (.int .i64 i.imm)
  b0 : x.cell? ⟨q + 1, 0, none⟩ = some (.int .i64 b.from_)
  b1 : x.cell? ⟨q + 1, 1, none⟩ = some (.int .i64 b.to)
  b2 : x.cell? ⟨q + 1, 2, none⟩ = some (.int .i64 b.next)
  b3 : x.cell? ⟨q + 1, 3, none⟩ = some (.int .i64 b.taken)
  b4 : x.cell? ⟨q + 1, 4, none⟩ = some (.slice none 0 0)
  b5 : x.cell? ⟨q + 1, 5, none⟩ = some (.slice none 0 0)
  f2 : x.frozen? ⟨q + 1, 2, none⟩ = false
  f3 : x.frozen? ⟨q + 1, 3, none⟩ = false
theorem BoxB.below {x y : World} {q : Nat} {i : Ins} {b : Blk} (h : BoxB x q i b) (hb : Below x.heap.size x y) : BoxB y q i b := by
  obtain ⟨hc, hf⟩ := bcell hb
  have := hb.size
  have h0 := h.big
  exact ⟨by omega, (hc _ _ (by omega)).trans h.i0, (hc _ _ (by omega)).trans h.i1, (hc _ _ (by omega)).trans h.i2, (hc _ _ (by omega)).trans h.i3, (hc _ _ (by omega)).trans h.i4,
    (hc _ _ h0).trans h.b0, (hc _ _ h0).trans h.b1, (hc _ _ h0).trans h.b2, (hc _ _ h0).trans h.b3, (hc _ _ h0).trans h.b4, (hc _ _ h0).trans h.b5, (hf _ _ h0).trans h.f2, (hf _ _ h0).trans h.f3⟩
theorem frozen_setCell (w : World) (a p : Addr) (v : Value) : (w.setCell a v).frozen? p = w.frozen? p := by go_simp
theorem BoxB.nextTo {x : World} {q : Nat} {i : Ins} {b : Blk} (h : BoxB x q i b) (n : Int) : BoxB (x.setCell ⟨q + 1, 2, none⟩ (.int .i64 n)) q i { b with next := n } := by
  obtain ⟨h0, a0, a1, a2, a3, a4, c0, c1, c2, c3, c4, c5, f2, f3⟩ := h
  refine ⟨by simpa using h0, ?_, ?_, ?_, ?_, ?_, ?_, ?_, ?_, ?_, ?_, ?_, ?_, ?_⟩ <;> go_simp
theorem BoxB.takenTo {x : World} {q : Nat} {i : Ins} {b : Blk} (h : BoxB x q i b) (n : Int) : BoxB (x.setCell ⟨q + 1, 3, none⟩ (.int .i64 n)) q i { b with taken := n } := by
  obtain ⟨h0, a0, a1, a2, a3, a4, c0, c1, c2, c3, c4, c5, f2, f3⟩ := h
  refine ⟨by simpa using h0, ?_, ?_, ?_, ?_, ?_, ?_, ?_, ?_, ?_, ?_, ?_, ?_, ?_⟩ <;> go_simp
theorem BoxB.drewN {x : World} {q : Nat} {i : Ins} {b : Blk} (h : BoxB x q i b) (k : Nat) : BoxB (x.drewN k) q i b := ⟨h.big, h.i0, h.i1, h.i2, h.i3, h.i4, h.b0, h.b1, h.b2, h.b3, h.b4, h.b5, h.f2, h.f3⟩
theorem Kept.set {W x : World} (h : Kept W x) {g o : Nat} (hg : W.heap.size ≤ g) (u : Value) : Kept W (x.setCell ⟨g, o, none⟩ u) := Below.setCell h hg u
theorem new_cells_at (w : World) (g : Nat) (hg : g = w.heap.size) (cs : Array Value) (t : TypeId) (xs : List Value) (h : cs.toList = xs) : ∀ j u, xs[j]? = some u → (w.alloc (.cells cs t)).cell? ((⟨g, 0, none⟩ : Addr).add j) = some u := by
  subst hg; exact new_cells w cs t xs h
theorem BoxB.made (w : World) (i : Ins) (b : Blk) (t t' : TypeId) : BoxB ((w.alloc (.cells #[.int .i64 i.op, .int .i64 i.d, .int .i64 i.a, .int .i64 i.b, .int .i64 i.imm] t)).alloc (.cells #[.int .i64 b.from_, .int .i64 b.to, .int .i64 b.next, .int .i64 b.taken, .slice none 0 0, .slice none 0 0] t')) w.heap.size i b := by
  refine ⟨by simp, ?_, ?_, ?_, ?_, ?_, ?_, ?_, ?_, ?_, ?_, ?_, ?_, ?_⟩ <;> go_simp

/-- The two rows that a round keeps. -/
structure RowsB (x : World) (B : Nat) (vl : Value) (L : List Nat) (vo : Value) (k : Nat) (bs : List Blk) : Prop where
  lead : x.ownsRow B 3 1 vl L.length (natL L)
  out : x.ownsRow B 38 6 vo k (flat blkL bs)
theorem RowsB.below {x y : World} {B : Nat} {vl vo : Value} {L : List Nat} {k : Nat} {bs : List Blk} (h : RowsB x B vl L vo k bs) (hb : Below x.heap.size x y) : RowsB y B vl L vo k bs := ⟨own_below h.lead hb, own_below h.out hb⟩
theorem RowsB.set {x : World} {B : Nat} {vl vo : Value} {L : List Nat} {k : Nat} {bs : List Blk} (h : RowsB x B vl L vo k bs) {g o : Nat} (u : Value) (h1 : vl.ownBlock ≠ some g) (h2 : vo.ownBlock ≠ some g) : RowsB (x.setCell ⟨g, o, none⟩ u) B vl L vo k bs :=
  ⟨ownsRow_setCell_other h.lead h1 u, ownsRow_setCell_other h.out h2 u⟩
theorem RowsB.alloc {x : World} {B : Nat} {vl vo : Value} {L : List Nat} {k : Nat} {bs : List Blk} (h : RowsB x B vl L vo k bs) (o : Obj) : RowsB (x.alloc o) B vl L vo k bs := ⟨h.lead.alloc o, h.out.alloc o⟩
theorem RowsB.drewN {x : World} {B : Nat} {vl vo : Value} {L : List Nat} {k : Nat} {bs : List Blk} (h : RowsB x B vl L vo k bs) (q : Nat) : RowsB (x.drewN q) B vl L vo k bs := ⟨h.lead, h.out⟩

/-- What holds ahead of each round. -/
structure RoundB (l : List Ins) (W wr : World) (B : Nat) (vl : Value) (L : List Nat) (k : Nat) (v : Value) : Prop where
  kept : Kept W wr
  rows : RowsB wr B vl L v k (cutTo l L k)

set_option maxHeartbeats 4000000 in
theorem blkCut_any (A : Option Addr) (c : Nat) (sz : Int) (A' : Option Addr) (m c' : Nat) (l : List Ins) (w : World) (hr : Row w w.heap.size 5 (.slice A l.length c) l.length (codeCells l)) (hm : m ≤ c') (hc' : c' ≤ 9223372036854775807) :
    Calls Try.prog 12 #[.agg #[.slice A l.length c, .int .i64 sz, .slice A' m c']] w fun e w' => ∃ v, e = .returned v ∧ w'.ownsRow w.heap.size 38 6 v (cutR l sz m).length (flat blkL (cutR l sz m)) ∧ Below w.heap.size w w' := by
  obtain ⟨i0, hi, hz0, hz1, hz2⟩ := info_parts info_block
  have HZ2 := Lib.hid hz2
  clear hz2
  obtain ⟨hcl, hcm⟩ := hr.cap
  have HK := Lib.hid (fun (x : World) (h : Kept (w.alloc (.cells #[.slice A l.length c, .int .i64 sz, .slice A' m c'] 25)) x) => ((Below.refl w.heap.size w).alloc (Nat.le_refl _) _).trans (h.mono (by simp)))
  have hB : w.heap.size < (w.alloc (.cells #[.slice A l.length c, .int .i64 sz, .slice A' m c'] 25)).heap.size := by simp
  have HR := Lib.hid (hr.alloc (Nat.le_refl _) (.cells #[.slice A l.length c, .int .i64 sz, .slice A' m c'] 25) |>.more (Nat.le_of_lt hB))
  have c0 : (w.alloc (.cells #[.slice A l.length c, .int .i64 sz, .slice A' m c'] 25)).cell? ⟨w.heap.size, 0, none⟩ = some (.slice A l.length c) := by go_simp
  have hw0 : (w.alloc (.cells #[.slice A l.length c, .int .i64 sz, .slice A' m c'] 25)).heap.size = w.heap.size + 1 := by simp
  have HCR := Lib.hid (cutR_eq l sz m)
  have HLS := Lib.hid (leadsR_sorted l sz m)
  have HLT := Lib.hid (fun x h => leadsR_lt (l := l) (sz := sz) (m := m) (x := x) h)
  have HRP := Lib.hid (fun h => rightZ_parts (l := l) (sz := sz) (m := m) h)
  have HLN := Lib.hid (fun (h : leadsR l sz m ≠ []) => (show rightZ l sz m = true by
    cases hh : rightZ l sz m
    · exact absurd (by unfold leadsR; rw [hh]; rfl) h
    · rfl))
  go_enter Try.func12, Try.ntmps12
  go_wp2_with fail
  generalize w.alloc (.cells #[.slice A l.length c, .int .i64 sz, .slice A' m c'] 25) = W at *
  have C0 := Lib.hid (fun (x : World) (h : Kept W x) => h.cell hB c0)
  have HX := Lib.hid (blkLeaders_any A c sz A' m c' l W HR.out hm hc')
  clear c0 hr
  refine HX.out.mono ?_; rintro e w1 ⟨vl, rfl, hown, hb1⟩
  have k1 : Kept W w1 := hb1
  have hs1 := hb1.size
  clear hb1 HX
  generalize hLL : leadsR l sz m = L at *
  have HLLE := Lib.hid (show L.length ≤ l.length by rw [← hLL]; exact leadsR_le l sz m)
  clear hLL
  by_cases hL0 : L.length = 0
  · have hL : L = [] := List.eq_nil_of_length_eq_zero hL0
    subst hL
    obtain ⟨AL, cl, rfl⟩ := (Row.of_own hown).form
    go_wp2_with fail
    refine wp_loop_rounds 1 ?_
    rw [rounds_succ]
    go_wp2_with fail
    go_ret
    rw [HCR.out]
    exact ⟨_, rfl, World.ownsRow_nil _ _ _ _, HK.out _ k1⟩
  obtain ⟨g, cl, rfl, hgb, hgs⟩ := own_form hown hL0
  have hri := HLN.out (fun h => hL0 (by rw [h]; rfl))
  obtain ⟨⟨n0, n1⟩, hto⟩ := HRP.out hri
  have HT := Lib.hid (fun (j : Nat) (i : Ins) (h : l[j]? = some i) (hj : isJump i = true) => (by have := target_in hto h hj; simpa using this : 0 ≤ (j : Int) + i.imm ∧ (j : Int) + i.imm < l.length))
  have HA := Lib.hid (fun j h => at_some (l := l) (j := j) h)
  have hn0 : l.length ≠ 0 := by omega
  obtain ⟨b, off, rfl, hbb, _⟩ := HR.out.at_ hn0
  have HC := Lib.hid (fun (x : World) (h : Kept W x) (k : Nat) (i : Ins) (hi : l[k]? = some i) => (h.row HR.out).ins hi)
  have HBT := Lib.hid (fun (k : Nat) (hk : k < L.length) => blkTo_range (n := l.length) HLS.out (fun x hx => HLT.out x hx) hk)
  have HLB := Lib.hid (fun (k : Nat) (hk : k < L.length) => HLT.out _ (getD_mem hk))
  have hLle := HLLE.out
  have HNA := Lib.hid (fun (x : World) (y : Int) (h : x.ownsRow W.heap.size 3 1 (.slice (some ⟨g, 0, none⟩) L.length cl) L.length (natL L)) => numberAt_any g 0 cl L y x (Row.of_own h) HLS.out (by omega))
  have HTO := Lib.hid (fun (k : Nat) (h : k + 1 < L.length) => (show blkToZ L l.length k = L.getD (k + 1) 0 by unfold blkToZ; rw [if_pos h]))
  have HTN := Lib.hid (fun (k : Nat) (h : ¬ k + 1 < L.length) => (show blkToZ L l.length k = l.length by unfold blkToZ; rw [if_neg h]))
  have HLC := Lib.hid (fun (x : World) (h : x.ownsRow W.heap.size 3 1 (.slice (some ⟨g, 0, none⟩) L.length cl) L.length (natL L)) (k : Nat) (hk : k < L.length) => (h.cellAt k (by rw [Nat.mul_one]; exact hk)).trans (natL_get hk))
  have HCS := Lib.hid (fun (k : Nat) => cutTo_succ l L k)
  have HCL := Lib.hid (fun (k : Nat) => cutTo_len l L k)
  have HBK := Lib.hid (fun (k : Nat) => (show blkZ l L k = ⟨(L.getD k 0 : Nat), (blkToZ L l.length k : Nat), if goesB (insAtZ l (blkToZ L l.length k - 1)) = true then numZ L (blkToZ L l.length k : Nat) else -1,
    if isJump (insAtZ l (blkToZ L l.length k - 1)) = true then numZ L ((blkToZ L l.length k : Nat) - 1 + (insAtZ l (blkToZ L l.length k - 1)).imm) else -1⟩ from rfl))
  have HIA := Lib.hid (fun (j : Nat) (i : Ins) (h : l[j]? = some i) => (show insAtZ l j = i by unfold insAtZ; rw [List.getD_eq_getElem?_getD, h]; rfl))
  have hP : RoundB l W w1 W.heap.size (.slice (some ⟨g, 0, none⟩) L.length cl) L 0 (.slice none 0 0) := ⟨k1, hown, World.ownsRow_nil _ _ _ _⟩
  have hWw : w.heap.size < W.heap.size := by omega
  clear HR hto HRP hri hown HLN HLT HLS hw0
  go_wp2_with fail
  generalize hN : L.length = n at *
  have HN := Lib.hid hN
  clear hN k1
  go_loopw [4, 14] (fun v i wr => ∃ k : Nat, k ≤ n ∧ i = .int .i64 k ∧ RoundB l W wr W.heap.size (.slice (some ⟨g, 0, none⟩) n cl) L k v) (fun _ i _ => n - (intOf i).toNat)
  case atStart => exact ⟨0, Nat.zero_le _, rfl, hP⟩
  case round =>
    obtain ⟨k, hkn, rfl, hK⟩ := hrel
    have hk := hK.kept
    have HRW := Lib.hid hK.rows
    clear hK hP
    have hwr := hk.size
    by_cases hlt : k < n
    · obtain ⟨r0, r1⟩ := HBT.out k hlt
      have hlead := HRW.out.lead
      rw [HN.out] at hlead
      have e0 := HLC.out _ hlead k hlt
      have hLk := HLB.out k hlt
      have HBKk := Lib.hid (HBK.out k)
      have HTOk := Lib.hid (HTO.out k)
      have HTNk := Lib.hid (HTN.out k)
      have HLCk := Lib.hid (HLC.out _ hlead)
      clear hlead
      obtain ⟨TO, hTO⟩ : ∃ TO, TO = blkToZ L l.length k := ⟨_, rfl⟩
      rw [← hTO] at r0 r1 HBKk HTOk HTNk
      obtain ⟨FR, hFR⟩ : ∃ FR, FR = L.getD k 0 := ⟨_, rfl⟩
      rw [← hFR] at r0 e0 hLk HBKk
      clear hTO hFR
      obtain ⟨P, rfl⟩ : ∃ P : Nat, TO = P + 1 := ⟨TO - 1, by omega⟩
      obtain ⟨i, hi2⟩ := HA.out P (by omega)
      rw [Nat.add_sub_cancel, HIA.out P i hi2] at HBKk
      have HTT := Lib.hid (HT.out P i hi2)
      obtain ⟨d0, d1, d2, d3, d4⟩ := HC.out _ hk P i hi2
      have c0 := C0.out _ hk
      have j0 : (0 : Int) ≤ k := by omega
      have j1 : (k : Int) < n := by omega
      have p0 : (0 : Int) ≤ P := by omega
      have p1 : (P : Int) < l.length := by omega
      have BX := Lib.hid (BoxB.made wr i ⟨FR, (P : Int) + 1, -1, -1⟩ 41 38)
      have RW0 := Lib.hid ((HRW.out.alloc (.cells #[.int .i64 i.op, .int .i64 i.d, .int .i64 i.a, .int .i64 i.b, .int .i64 i.imm] 41)).alloc (.cells #[.int .i64 FR, .int .i64 ((P : Int) + 1), .int .i64 (-1), .int .i64 (-1), .slice none 0 0, .slice none 0 0] 38))
      have kYH := Lib.hid ((hk.alloc (.cells #[.int .i64 i.op, .int .i64 i.d, .int .i64 i.a, .int .i64 i.b, .int .i64 i.imm] 41)).alloc (.cells #[.int .i64 FR, .int .i64 ((P : Int) + 1), .int .i64 (-1), .int .i64 (-1), .slice none 0 0, .slice none 0 0] 38))
      have hnl := Lib.hid (fun q (h : wr.heap.size ≤ q) => (show (Value.slice (some ⟨g, 0, none⟩) n cl).ownBlock ≠ some q from fun e => by have := (HRW.out.lead.lt q e).2; omega))
      have hno := Lib.hid (fun q (h : wr.heap.size ≤ q) e => (show False by have := (HRW.out.out.lt q e).2; omega))
      clear hi2 HRW
      by_cases hk1 : k + 1 < n
      · have e1 := HLCk.out (k + 1) hk1
        have hTOe := HTOk.out hk1
        rw [← hTOe, Int.natCast_add, Int.natCast_one] at e1
        have j2 : (k : Int) + 1 < n := by omega
        clear hTOe
        go_wp2_with fail
        refine (blkGoes_any i _).mono ?_; rintro e x1 ⟨rfl, hb1⟩
        have BX1 := Lib.hid (BX.out.below hb1)
        have RW1 := Lib.hid (RW0.out.below hb1)
        have k1 := Lib.hid (kYH.out.to hb1)
        clear hb1
        obtain ⟨_, a0, a1, a2, a3, a4, u0, u1, u2, u3, u4, u5, f2, f3⟩ := BX1.out
        cases hgo : goesB i
        · go_wp2_with fail
          refine (blkHas_any i _).mono ?_; rintro e x3 ⟨rfl, hb3⟩
          have BX3 := Lib.hid (BX1.out.below hb3)
          have RW3 := Lib.hid (RW1.out.below hb3)
          have k3 := Lib.hid (k1.out.to hb3)
          clear hb3 a0 a1 a2 a3 a4 u0 u1 u2 u3 u4 u5 f2 f3
          cases hju : isJump i
          · clear HTT
            obtain ⟨_, a0, a1, a2, a3, a4, u0, u1, u2, u3, u4, u5, f2, f3⟩ := BX3.out
            have hbs := Lib.hid (show blkZ l L k = ⟨FR, (P : Int) + 1, -1, -1⟩ by rw [HBKk.out]; simp [hgo, hju])
            have hwz := Lib.hid (show W.heap.size ≤ x3.heap.size from k3.out.size)
            go_wp2_with (at_builtin; refine wpList_append_own _ rfl (.tmp 57) (.tmp 59) 31 rfl W.heap.size 38 i0 (.agg #[.int .i64 0, .int .i64 0, .int .i64 0, .int .i64 0, .slice none 0 0, .slice none 0 0]) 6 80 Try.underlying31 hi hz0 hz1 HZ2.out rfl (by omega) _ k (flat blkL (cutTo l L k)) rfl (RW3.out.out.alloc _) _ 1 1 (blkL ⟨FR, (P : Int) + 1, -1, -1⟩) rfl rfl (new_cells_at _ _ (by simp) _ _ _ rfl) (blkL_one _) (by unfold maxLen; omega) (by omega) (by have := hwz.out; simp at this ⊢; omega) ?_; intro v2 x5 hO5 hg5 _)
            have k5 : Kept W x5 := Below.grown (k3.out.alloc _) hg5 (by have := hwz.out; simp at this ⊢; omega) (fun q hq => (RW3.out.out.lt q hq).1)
            have hL5 := own_grown (RW3.out.lead.alloc _) hg5 (fun q hq => by rw [← hq]; exact own_apart RW3.out.lead RW3.out.out (by decide) hq)
            clear hg5
            go_roundw
            case rel =>
              refine ⟨k + 1, by omega, by go_num, k5, hL5, ?_⟩
              rw [HCS.out, flat_snoc, hbs.out]
              exact hO5
            case measure => simp [intOf]; omega
          · obtain ⟨t0, t1⟩ := HTT.out hju
            obtain ⟨_, a0, a1, a2, a3, a4, u0, u1, u2, u3, u4, u5, f2, f3⟩ := BX3.out
            have hl9 := RW3.out.lead
            rw [HN.out] at hl9
            have HNX := Lib.hid (HNA.out _ ((P : Int) + i.imm) hl9)
            clear hl9
            go_wp2_with fail
            refine HNX.out.mono ?_; rintro e x4 ⟨rfl, q4, rfl⟩
            have BX4 := Lib.hid ((BX3.out.drewN q4).takenTo (numZ L ((P : Int) + i.imm)))
            have RW4 := Lib.hid ((RW3.out.drewN q4).set (g := wr.heap.size + 1) (o := 3) (.int .i64 (numZ L ((P : Int) + i.imm))) (hnl.out _ (by omega)) (fun e => hno.out _ (by omega) e))
            have k4 := Lib.hid (Kept.set (k3.out.drewN q4) (g := wr.heap.size + 1) (o := 3) (by omega) (.int .i64 (numZ L ((P : Int) + i.imm))))
            have hbs := Lib.hid (show blkZ l L k = ⟨FR, (P : Int) + 1, -1, numZ L ((P : Int) + i.imm)⟩ by rw [HBKk.out]; simp [hgo, hju])
            have hwz := Lib.hid (show W.heap.size ≤ x3.heap.size from k3.out.size)
            go_wp2_with (at_builtin; refine wpList_append_own _ rfl (.tmp 57) (.tmp 59) 31 rfl W.heap.size 38 i0 (.agg #[.int .i64 0, .int .i64 0, .int .i64 0, .int .i64 0, .slice none 0 0, .slice none 0 0]) 6 80 Try.underlying31 hi hz0 hz1 HZ2.out rfl (by omega) _ k (flat blkL (cutTo l L k)) rfl (RW4.out.out.alloc _) _ 1 1 (blkL ⟨FR, (P : Int) + 1, -1, numZ L ((P : Int) + i.imm)⟩) rfl rfl (new_cells_at _ _ (by simp) _ _ _ rfl) (blkL_one _) (by unfold maxLen; omega) (by omega) (by have := hwz.out; simp at this ⊢; omega) ?_; intro v2 x5 hO5 hg5 _)
            have k5 : Kept W x5 := Below.grown (Kept.alloc k4.out _) hg5 (by have := hwz.out; simp at this ⊢; omega) (fun q hq => (RW4.out.out.lt q hq).1)
            have hL5 := own_grown (RW4.out.lead.alloc _) hg5 (fun q hq => by rw [← hq]; exact own_apart RW4.out.lead RW4.out.out (by decide) hq)
            clear hg5
            go_roundw
            case rel =>
              refine ⟨k + 1, by omega, by go_num, k5, hL5, ?_⟩
              rw [HCS.out, flat_snoc, hbs.out]
              exact hO5
            case measure => simp [intOf]; omega
        · have hl9 := RW1.out.lead
          rw [HN.out] at hl9
          have HNX := Lib.hid (HNA.out _ ((P : Int) + 1) hl9)
          clear hl9
          go_wp2_with fail
          refine HNX.out.mono ?_; rintro e x2 ⟨rfl, q2, rfl⟩
          have BX2 := Lib.hid ((BX1.out.drewN q2).nextTo (numZ L ((P : Int) + 1)))
          have RW2 := Lib.hid ((RW1.out.drewN q2).set (g := wr.heap.size + 1) (o := 2) (.int .i64 (numZ L ((P : Int) + 1))) (hnl.out _ (by omega)) (fun e => hno.out _ (by omega) e))
          have k2 := Lib.hid (Kept.set (k1.out.drewN q2) (g := wr.heap.size + 1) (o := 2) (by omega) (.int .i64 (numZ L ((P : Int) + 1))))
          go_wp2_with fail
          refine (blkHas_any i _).mono ?_; rintro e x3 ⟨rfl, hb3⟩
          have BX3 := Lib.hid (BX2.out.below hb3)
          have RW3 := Lib.hid (RW2.out.below hb3)
          have k3 := Lib.hid (Kept.to k2.out hb3)
          clear hb3 a0 a1 a2 a3 a4 u0 u1 u2 u3 u4 u5 f2 f3 BX2 RW2 k2
          cases hju : isJump i
          · clear HTT
            obtain ⟨_, a0, a1, a2, a3, a4, u0, u1, u2, u3, u4, u5, f2, f3⟩ := BX3.out
            have hbs := Lib.hid (show blkZ l L k = ⟨FR, (P : Int) + 1, numZ L ((P : Int) + 1), -1⟩ by rw [HBKk.out]; simp [hgo, hju])
            have hwz := Lib.hid (show W.heap.size ≤ x3.heap.size from k3.out.size)
            go_wp2_with (at_builtin; refine wpList_append_own _ rfl (.tmp 57) (.tmp 59) 31 rfl W.heap.size 38 i0 (.agg #[.int .i64 0, .int .i64 0, .int .i64 0, .int .i64 0, .slice none 0 0, .slice none 0 0]) 6 80 Try.underlying31 hi hz0 hz1 HZ2.out rfl (by omega) _ k (flat blkL (cutTo l L k)) rfl (RW3.out.out.alloc _) _ 1 1 (blkL ⟨FR, (P : Int) + 1, numZ L ((P : Int) + 1), -1⟩) rfl rfl (new_cells_at _ _ (by simp) _ _ _ rfl) (blkL_one _) (by unfold maxLen; omega) (by omega) (by have := hwz.out; simp at this ⊢; omega) ?_; intro v2 x5 hO5 hg5 _)
            have k5 : Kept W x5 := Below.grown (k3.out.alloc _) hg5 (by have := hwz.out; simp at this ⊢; omega) (fun q hq => (RW3.out.out.lt q hq).1)
            have hL5 := own_grown (RW3.out.lead.alloc _) hg5 (fun q hq => by rw [← hq]; exact own_apart RW3.out.lead RW3.out.out (by decide) hq)
            clear hg5
            go_roundw
            case rel =>
              refine ⟨k + 1, by omega, by go_num, k5, hL5, ?_⟩
              rw [HCS.out, flat_snoc, hbs.out]
              exact hO5
            case measure => simp [intOf]; omega
          · obtain ⟨t0, t1⟩ := HTT.out hju
            obtain ⟨_, a0, a1, a2, a3, a4, u0, u1, u2, u3, u4, u5, f2, f3⟩ := BX3.out
            have hl9 := RW3.out.lead
            rw [HN.out] at hl9
            have HNX := Lib.hid (HNA.out _ ((P : Int) + i.imm) hl9)
            clear hl9
            go_wp2_with fail
            refine HNX.out.mono ?_; rintro e x4 ⟨rfl, q4, rfl⟩
            have BX4 := Lib.hid ((BX3.out.drewN q4).takenTo (numZ L ((P : Int) + i.imm)))
            have RW4 := Lib.hid ((RW3.out.drewN q4).set (g := wr.heap.size + 1) (o := 3) (.int .i64 (numZ L ((P : Int) + i.imm))) (hnl.out _ (by omega)) (fun e => hno.out _ (by omega) e))
            have k4 := Lib.hid (Kept.set (k3.out.drewN q4) (g := wr.heap.size + 1) (o := 3) (by omega) (.int .i64 (numZ L ((P : Int) + i.imm))))
            have hbs := Lib.hid (show blkZ l L k = ⟨FR, (P : Int) + 1, numZ L ((P : Int) + 1), numZ L ((P : Int) + i.imm)⟩ by rw [HBKk.out]; simp [hgo, hju])
            have hwz := Lib.hid (show W.heap.size ≤ x3.heap.size from k3.out.size)
            go_wp2_with (at_builtin; refine wpList_append_own _ rfl (.tmp 57) (.tmp 59) 31 rfl W.heap.size 38 i0 (.agg #[.int .i64 0, .int .i64 0, .int .i64 0, .int .i64 0, .slice none 0 0, .slice none 0 0]) 6 80 Try.underlying31 hi hz0 hz1 HZ2.out rfl (by omega) _ k (flat blkL (cutTo l L k)) rfl (RW4.out.out.alloc _) _ 1 1 (blkL ⟨FR, (P : Int) + 1, numZ L ((P : Int) + 1), numZ L ((P : Int) + i.imm)⟩) rfl rfl (new_cells_at _ _ (by simp) _ _ _ rfl) (blkL_one _) (by unfold maxLen; omega) (by omega) (by have := hwz.out; simp at this ⊢; omega) ?_; intro v2 x5 hO5 hg5 _)
            have k5 : Kept W x5 := Below.grown (Kept.alloc k4.out _) hg5 (by have := hwz.out; simp at this ⊢; omega) (fun q hq => (RW4.out.out.lt q hq).1)
            have hL5 := own_grown (RW4.out.lead.alloc _) hg5 (fun q hq => by rw [← hq]; exact own_apart RW4.out.lead RW4.out.out (by decide) hq)
            clear hg5
            go_roundw
            case rel =>
              refine ⟨k + 1, by omega, by go_num, k5, hL5, ?_⟩
              rw [HCS.out, flat_snoc, hbs.out]
              exact hO5
            case measure => simp [intOf]; omega
      · have hTOe := HTNk.out hk1
        have hTOi : (l.length : Int) = (P : Int) + 1 := by omega
        have j2 : ¬ (k : Int) + 1 < n := by omega
        clear hTOe
        go_wp2_with fail
        refine (blkGoes_any i _).mono ?_; rintro e x1 ⟨rfl, hb1⟩
        have BX1 := Lib.hid (BX.out.below hb1)
        have RW1 := Lib.hid (RW0.out.below hb1)
        have k1 := Lib.hid (kYH.out.to hb1)
        clear hb1
        obtain ⟨_, a0, a1, a2, a3, a4, u0, u1, u2, u3, u4, u5, f2, f3⟩ := BX1.out
        cases hgo : goesB i
        · go_wp2_with fail
          refine (blkHas_any i _).mono ?_; rintro e x3 ⟨rfl, hb3⟩
          have BX3 := Lib.hid (BX1.out.below hb3)
          have RW3 := Lib.hid (RW1.out.below hb3)
          have k3 := Lib.hid (k1.out.to hb3)
          clear hb3 a0 a1 a2 a3 a4 u0 u1 u2 u3 u4 u5 f2 f3
          cases hju : isJump i
          · clear HTT
            obtain ⟨_, a0, a1, a2, a3, a4, u0, u1, u2, u3, u4, u5, f2, f3⟩ := BX3.out
            have hbs := Lib.hid (show blkZ l L k = ⟨FR, (P : Int) + 1, -1, -1⟩ by rw [HBKk.out]; simp [hgo, hju])
            have hwz := Lib.hid (show W.heap.size ≤ x3.heap.size from k3.out.size)
            go_wp2_with (at_builtin; refine wpList_append_own _ rfl (.tmp 57) (.tmp 59) 31 rfl W.heap.size 38 i0 (.agg #[.int .i64 0, .int .i64 0, .int .i64 0, .int .i64 0, .slice none 0 0, .slice none 0 0]) 6 80 Try.underlying31 hi hz0 hz1 HZ2.out rfl (by omega) _ k (flat blkL (cutTo l L k)) rfl (RW3.out.out.alloc _) _ 1 1 (blkL ⟨FR, (P : Int) + 1, -1, -1⟩) rfl rfl (new_cells_at _ _ (by simp) _ _ _ rfl) (blkL_one _) (by unfold maxLen; omega) (by omega) (by have := hwz.out; simp at this ⊢; omega) ?_; intro v2 x5 hO5 hg5 _)
            have k5 : Kept W x5 := Below.grown (k3.out.alloc _) hg5 (by have := hwz.out; simp at this ⊢; omega) (fun q hq => (RW3.out.out.lt q hq).1)
            have hL5 := own_grown (RW3.out.lead.alloc _) hg5 (fun q hq => by rw [← hq]; exact own_apart RW3.out.lead RW3.out.out (by decide) hq)
            clear hg5
            go_roundw
            case rel =>
              refine ⟨k + 1, by omega, by go_num, k5, hL5, ?_⟩
              rw [HCS.out, flat_snoc, hbs.out]
              exact hO5
            case measure => simp [intOf]; omega
          · obtain ⟨t0, t1⟩ := HTT.out hju
            obtain ⟨_, a0, a1, a2, a3, a4, u0, u1, u2, u3, u4, u5, f2, f3⟩ := BX3.out
            have hl9 := RW3.out.lead
            rw [HN.out] at hl9
            have HNX := Lib.hid (HNA.out _ ((P : Int) + i.imm) hl9)
            clear hl9
            go_wp2_with fail
            refine HNX.out.mono ?_; rintro e x4 ⟨rfl, q4, rfl⟩
            have BX4 := Lib.hid ((BX3.out.drewN q4).takenTo (numZ L ((P : Int) + i.imm)))
            have RW4 := Lib.hid ((RW3.out.drewN q4).set (g := wr.heap.size + 1) (o := 3) (.int .i64 (numZ L ((P : Int) + i.imm))) (hnl.out _ (by omega)) (fun e => hno.out _ (by omega) e))
            have k4 := Lib.hid (Kept.set (k3.out.drewN q4) (g := wr.heap.size + 1) (o := 3) (by omega) (.int .i64 (numZ L ((P : Int) + i.imm))))
            have hbs := Lib.hid (show blkZ l L k = ⟨FR, (P : Int) + 1, -1, numZ L ((P : Int) + i.imm)⟩ by rw [HBKk.out]; simp [hgo, hju])
            have hwz := Lib.hid (show W.heap.size ≤ x3.heap.size from k3.out.size)
            go_wp2_with (at_builtin; refine wpList_append_own _ rfl (.tmp 57) (.tmp 59) 31 rfl W.heap.size 38 i0 (.agg #[.int .i64 0, .int .i64 0, .int .i64 0, .int .i64 0, .slice none 0 0, .slice none 0 0]) 6 80 Try.underlying31 hi hz0 hz1 HZ2.out rfl (by omega) _ k (flat blkL (cutTo l L k)) rfl (RW4.out.out.alloc _) _ 1 1 (blkL ⟨FR, (P : Int) + 1, -1, numZ L ((P : Int) + i.imm)⟩) rfl rfl (new_cells_at _ _ (by simp) _ _ _ rfl) (blkL_one _) (by unfold maxLen; omega) (by omega) (by have := hwz.out; simp at this ⊢; omega) ?_; intro v2 x5 hO5 hg5 _)
            have k5 : Kept W x5 := Below.grown (Kept.alloc k4.out _) hg5 (by have := hwz.out; simp at this ⊢; omega) (fun q hq => (RW4.out.out.lt q hq).1)
            have hL5 := own_grown (RW4.out.lead.alloc _) hg5 (fun q hq => by rw [← hq]; exact own_apart RW4.out.lead RW4.out.out (by decide) hq)
            clear hg5
            go_roundw
            case rel =>
              refine ⟨k + 1, by omega, by go_num, k5, hL5, ?_⟩
              rw [HCS.out, flat_snoc, hbs.out]
              exact hO5
            case measure => simp [intOf]; omega
        · have hl9 := RW1.out.lead
          rw [HN.out] at hl9
          have HNX := Lib.hid (HNA.out _ ((P : Int) + 1) hl9)
          clear hl9
          go_wp2_with fail
          refine HNX.out.mono ?_; rintro e x2 ⟨rfl, q2, rfl⟩
          have BX2 := Lib.hid ((BX1.out.drewN q2).nextTo (numZ L ((P : Int) + 1)))
          have RW2 := Lib.hid ((RW1.out.drewN q2).set (g := wr.heap.size + 1) (o := 2) (.int .i64 (numZ L ((P : Int) + 1))) (hnl.out _ (by omega)) (fun e => hno.out _ (by omega) e))
          have k2 := Lib.hid (Kept.set (k1.out.drewN q2) (g := wr.heap.size + 1) (o := 2) (by omega) (.int .i64 (numZ L ((P : Int) + 1))))
          go_wp2_with fail
          refine (blkHas_any i _).mono ?_; rintro e x3 ⟨rfl, hb3⟩
          have BX3 := Lib.hid (BX2.out.below hb3)
          have RW3 := Lib.hid (RW2.out.below hb3)
          have k3 := Lib.hid (Kept.to k2.out hb3)
          clear hb3 a0 a1 a2 a3 a4 u0 u1 u2 u3 u4 u5 f2 f3 BX2 RW2 k2
          cases hju : isJump i
          · clear HTT
            obtain ⟨_, a0, a1, a2, a3, a4, u0, u1, u2, u3, u4, u5, f2, f3⟩ := BX3.out
            have hbs := Lib.hid (show blkZ l L k = ⟨FR, (P : Int) + 1, numZ L ((P : Int) + 1), -1⟩ by rw [HBKk.out]; simp [hgo, hju])
            have hwz := Lib.hid (show W.heap.size ≤ x3.heap.size from k3.out.size)
            go_wp2_with (at_builtin; refine wpList_append_own _ rfl (.tmp 57) (.tmp 59) 31 rfl W.heap.size 38 i0 (.agg #[.int .i64 0, .int .i64 0, .int .i64 0, .int .i64 0, .slice none 0 0, .slice none 0 0]) 6 80 Try.underlying31 hi hz0 hz1 HZ2.out rfl (by omega) _ k (flat blkL (cutTo l L k)) rfl (RW3.out.out.alloc _) _ 1 1 (blkL ⟨FR, (P : Int) + 1, numZ L ((P : Int) + 1), -1⟩) rfl rfl (new_cells_at _ _ (by simp) _ _ _ rfl) (blkL_one _) (by unfold maxLen; omega) (by omega) (by have := hwz.out; simp at this ⊢; omega) ?_; intro v2 x5 hO5 hg5 _)
            have k5 : Kept W x5 := Below.grown (k3.out.alloc _) hg5 (by have := hwz.out; simp at this ⊢; omega) (fun q hq => (RW3.out.out.lt q hq).1)
            have hL5 := own_grown (RW3.out.lead.alloc _) hg5 (fun q hq => by rw [← hq]; exact own_apart RW3.out.lead RW3.out.out (by decide) hq)
            clear hg5
            go_roundw
            case rel =>
              refine ⟨k + 1, by omega, by go_num, k5, hL5, ?_⟩
              rw [HCS.out, flat_snoc, hbs.out]
              exact hO5
            case measure => simp [intOf]; omega
          · obtain ⟨t0, t1⟩ := HTT.out hju
            obtain ⟨_, a0, a1, a2, a3, a4, u0, u1, u2, u3, u4, u5, f2, f3⟩ := BX3.out
            have hl9 := RW3.out.lead
            rw [HN.out] at hl9
            have HNX := Lib.hid (HNA.out _ ((P : Int) + i.imm) hl9)
            clear hl9
            go_wp2_with fail
            refine HNX.out.mono ?_; rintro e x4 ⟨rfl, q4, rfl⟩
            have BX4 := Lib.hid ((BX3.out.drewN q4).takenTo (numZ L ((P : Int) + i.imm)))
            have RW4 := Lib.hid ((RW3.out.drewN q4).set (g := wr.heap.size + 1) (o := 3) (.int .i64 (numZ L ((P : Int) + i.imm))) (hnl.out _ (by omega)) (fun e => hno.out _ (by omega) e))
            have k4 := Lib.hid (Kept.set (k3.out.drewN q4) (g := wr.heap.size + 1) (o := 3) (by omega) (.int .i64 (numZ L ((P : Int) + i.imm))))
            have hbs := Lib.hid (show blkZ l L k = ⟨FR, (P : Int) + 1, numZ L ((P : Int) + 1), numZ L ((P : Int) + i.imm)⟩ by rw [HBKk.out]; simp [hgo, hju])
            have hwz := Lib.hid (show W.heap.size ≤ x3.heap.size from k3.out.size)
            go_wp2_with (at_builtin; refine wpList_append_own _ rfl (.tmp 57) (.tmp 59) 31 rfl W.heap.size 38 i0 (.agg #[.int .i64 0, .int .i64 0, .int .i64 0, .int .i64 0, .slice none 0 0, .slice none 0 0]) 6 80 Try.underlying31 hi hz0 hz1 HZ2.out rfl (by omega) _ k (flat blkL (cutTo l L k)) rfl (RW4.out.out.alloc _) _ 1 1 (blkL ⟨FR, (P : Int) + 1, numZ L ((P : Int) + 1), numZ L ((P : Int) + i.imm)⟩) rfl rfl (new_cells_at _ _ (by simp) _ _ _ rfl) (blkL_one _) (by unfold maxLen; omega) (by omega) (by have := hwz.out; simp at this ⊢; omega) ?_; intro v2 x5 hO5 hg5 _)
            have k5 : Kept W x5 := Below.grown (Kept.alloc k4.out _) hg5 (by have := hwz.out; simp at this ⊢; omega) (fun q hq => (RW4.out.out.lt q hq).1)
            have hL5 := own_grown (RW4.out.lead.alloc _) hg5 (fun q hq => by rw [← hq]; exact own_apart RW4.out.lead RW4.out.out (by decide) hq)
            clear hg5
            go_roundw
            case rel =>
              refine ⟨k + 1, by omega, by go_num, k5, hL5, ?_⟩
              rw [HCS.out, flat_snoc, hbs.out]
              exact hO5
            case measure => simp [intOf]; omega
    · have hkn2 : k = n := by omega
      subst hkn2
      go_wp2_with fail
      go_ret
      have hout := HRW.out.out
      rw [HCR.out]
      exact ⟨_, rfl, by rw [HCL.out]; exact own_base hout (by omega), HK.out _ hk⟩
end Go.Proofs.Ytajiifplkfjnjaa.Words

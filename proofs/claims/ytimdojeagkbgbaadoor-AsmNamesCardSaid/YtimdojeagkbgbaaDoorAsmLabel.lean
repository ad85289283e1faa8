/- Contract of package asm's label. -/
import Derived.Test.YtimdojeagkbgbaaDoorAsmIns
namespace Go.Proofs.YtimdojeagkbgbaaDoor.Words
set_option maxRecDepth 100000
open Go.RowKit Go.Shelf Go.Lib
set_option linter.unusedVariables false
set_option linter.unusedSimpArgs false

/-- What label does to a parser. -/
def labT (r : List Tok) : Bool × List Tok × List PartZ := match labelT r with | some (p, ts) => (true, ts, [p]) | none => (false, r, [])
theorem labT_two (t c : Tok) (ts : List Tok) : labT (t :: c :: ts) = if t.kind = 1 ∧ isS c [58] = true then (true, ts, [⟨1, t.at_, 0, t.text, ins0, tok0⟩]) else (false, t :: c :: ts, []) := by
  have h : labelT (t :: c :: ts) = if t.kind = 1 ∧ isS c [58] = true then some (⟨1, t.at_, 0, t.text, ins0, tok0⟩, ts) else none := rfl
  unfold labT
  rw [h]
  by_cases hh : t.kind = 1 ∧ isS c [58] = true
  · rw [if_pos hh, if_pos hh]
  · rw [if_neg hh, if_neg hh]
theorem labT_kind {r : List Tok} (e : Nat) (h : (nextT r e).kind ≠ 1) : labT r = (false, r, []) := by
  rcases r with _ | ⟨t, _ | ⟨c, ts⟩⟩
  · rfl
  · rfl
  · rw [labT_two, if_neg (fun e => h e.1)]
theorem labT_one (t : Tok) : labT [t] = (false, [t], []) := rfl
theorem labT_len (r : List Tok) : (labT r).2.2.length + (labT r).2.1.length ≤ r.length := by
  rcases r with _ | ⟨t, _ | ⟨c, ts⟩⟩
  · exact Nat.le_refl _
  · exact Nat.le_refl _
  · rw [labT_two]
    split
    · simp; omega
    · simp
/-- A row without its first two. -/
theorem Row.behind2 {w : World} {B c : Nat} {b off : Nat} {i j : Tok} {l : List Tok} (h : Row w B 4 (.slice (some ⟨b, off, none⟩) (l.length + 1 + 1) c) (l.length + 1 + 1) (toksL (i :: j :: l))) :
    Row w B 4 (.slice (some ⟨b, if c = 2 then off else off + 8, none⟩) l.length (c - 2)) l.length (toksL l) := by
  obtain ⟨b', o', he, hb, hc⟩ := h.at_ (by omega)
  obtain ⟨h1, h2⟩ := h.cap
  injection he with he
  injection he with he1 he2
  subst he1; subst he2
  refine ⟨toksL_length l, _, _, rfl, by omega, by omega, (fun h => by cases h), fun _ => ⟨b, _, rfl, hb, fun k u hu => ?_⟩⟩
  have hj : k < (toksL l).length := (List.getElem?_eq_some_iff.1 hu).1
  rw [toksL_length] at hj
  rw [if_neg (by omega)]
  have := hc (8 + k) u (by rw [toksL_cons, toksL_cons, ← List.append_assoc, List.getElem?_append_right (by simp [tokL])]; simpa [tokL] using hu)
  rwa [show off + 8 + k = off + (8 + k) by omega]

set_option maxHeartbeats 4000000 in
theorem label_no (w : World) (b e : Nat) (r : List Tok) (vp : Value) (ps : List PartZ) (hP : Par w b e r vp ps) (h : (nextT r e).kind ≠ 1) :
    Calls Tryd.prog 70 #[.pointer (some ⟨b, 0, none⟩)] w (AppOut w b e ps (labT r)) := by
  have HP := Lib.hid hP
  have hlt := hP.lt
  have hN := next_any w b e r vp ps hP
  have HZ := Lib.hid (labT_kind e h)
  generalize nextT r e = t at *
  have h3 : (t.kind != 1) = true := by simpa using h
  clear hP h
  go_enter Tryd.func70, Tryd.ntmps70
  go_wp2_with fail
  refine hN.mono ?_; rintro en w1 ⟨rfl, hb1⟩
  have HB1 := Lib.hid hb1
  clear hb1
  go_wp2_with fail
  go_ret
  have hB := HB1.out.alloc HB1.out.size (.cells #[.int .i64 t.kind, .int .i64 t.num, .int .i64 (t.at_ : Int), .string (txt t.text)] 33)
  exact ⟨by rw [HZ.out]; rfl, vp, by rw [HZ.out]; simpa using HP.out.go hB, hB.mono (Nat.le_of_lt hlt)⟩
set_option maxHeartbeats 4000000 in
theorem label_short (w : World) (b e : Nat) (t : Tok) (vp : Value) (ps : List PartZ) (hP : Par w b e [t] vp ps) (h : t.kind = 1) :
    Calls Tryd.prog 70 #[.pointer (some ⟨b, 0, none⟩)] w (AppOut w b e ps (labT [t])) := by
  have HP := Lib.hid hP
  have hlt := hP.lt
  have hN := next_any w b e [t] vp ps hP
  change Calls _ _ _ _ (fun en w' => en = .returned (tokV t) ∧ _) at hN
  have HZ := Lib.hid (labT_one t)
  obtain ⟨vt, vn, hbox, ht, hn, hp, htk⟩ := hP
  obtain ⟨A, c, rfl⟩ := ht.form
  have z0 := hbox.cell (k := 0) rfl
  simp only [List.length_cons, List.length_nil, Nat.zero_add] at z0
  have h3 : (t.kind != 1) = false := by simp [h]
  clear hbox ht hn hp htk h
  go_enter Tryd.func70, Tryd.ntmps70
  go_wp2_with fail
  refine hN.mono ?_; rintro en w1 ⟨rfl, hb1⟩
  have HB1 := Lib.hid hb1
  have z1 : (w1.alloc (.cells #[.int .i64 t.kind, .int .i64 t.num, .int .i64 (t.at_ : Int), .string (txt t.text)] 33)).cell? ⟨b, 0, none⟩ = some (.slice A 1 c) := one_cell (Nat.lt_of_lt_of_le hlt hb1.size) (below_cell hb1 hlt z0)
  clear hb1 z0
  go_wp2_with fail
  go_ret
  have hB := HB1.out.alloc HB1.out.size (.cells #[.int .i64 t.kind, .int .i64 t.num, .int .i64 (t.at_ : Int), .string (txt t.text)] 33)
  exact ⟨by rw [HZ.out]; rfl, vp, by rw [HZ.out]; simpa using HP.out.go hB, hB.mono (Nat.le_of_lt hlt)⟩
set_option maxHeartbeats 4000000 in
theorem label_nosign (w : World) (b e : Nat) (t c : Tok) (ts : List Tok) (vp : Value) (ps : List PartZ) (hP : Par w b e (t :: c :: ts) vp ps) (h : t.kind = 1) (hs : isS c [58] = false) :
    Calls Tryd.prog 70 #[.pointer (some ⟨b, 0, none⟩)] w (AppOut w b e ps (labT (t :: c :: ts))) := by
  have HP := Lib.hid hP
  have hlt := hP.lt
  have hN := next_any w b e (t :: c :: ts) vp ps hP
  change Calls _ _ _ _ (fun en w' => en = .returned (tokV t) ∧ _) at hN
  have HVB : Hid (∀ g, vp.ownBlock = some g → g < w.heap.size) := fun g hg => (hP.own.lt g hg).2
  obtain ⟨vt, vn, hbox, ht, hn, hp, htk⟩ := hP
  obtain ⟨A, cc, rfl⟩ := ht.form
  obtain ⟨g, off, rfl, hg, _⟩ := ht.at_ (by simp)
  have hcap := ht.cap
  have z0 := hbox.cell (k := 0) rfl
  have f0 := hbox.frozen 0
  obtain ⟨c0, c1, c2, c3⟩ := ht.tok (k := 1) (i := c) rfl
  simp only [Nat.one_mul, Nat.add_assoc, Nat.reduceAdd] at c0 c1 c2 c3
  simp only [List.length_cons] at hcap z0
  have HBX0 := Lib.hid hbox
  have HR := Lib.hid (show Row w b 4 (.slice (some ⟨g, off, none⟩) (ts.length + 1 + 1) cc) (ts.length + 1 + 1) (toksL (t :: c :: ts)) from ht)
  have HNM := Lib.hid hn
  have HPP := Lib.hid hp
  have HTK := Lib.hid htk
  have h3 : (t.kind != 1) = false := by simp [h]
  have l2 : decide ((ts.length : Int) + 1 + 1 < 2) = false := decide_eq_false (by omega)
  have l3 : decide ((ts.length : Int) + 2 < 2) = false := decide_eq_false (by omega)
  have l4 : decide (((ts.length + 1 + 1 : Nat) : Int) < 2) = false := decide_eq_false (by omega)
  have hgw : g < w.heap.size := by omega
  have HH := Lib.hid h
  clear hbox ht hn hp htk h
  go_enter Tryd.func70, Tryd.ntmps70
  go_wp2_with fail
  refine hN.mono ?_; rintro en w1 ⟨rfl, hb1⟩
  have HB1 := Lib.hid hb1
  have hlt1 := Nat.lt_of_lt_of_le hlt hb1.size
  have hgw1 : g < w1.heap.size := Nat.lt_of_lt_of_le hgw hb1.size
  have z1 : w1.cell? ⟨b, 0, none⟩ = _ := below_cell hb1 hlt z0
  have f1 : w1.frozen? ⟨b, 0, none⟩ = false := below_frozen hb1 hlt f0
  have d0 := below_cell hb1 hgw c0
  have d1 := below_cell hb1 hgw c1
  have d2 := below_cell hb1 hgw c2
  have d3 := below_cell hb1 hgw c3
  clear hb1 z0 f0 c0 c1 c2 c3
  go_wp2_with fail
  refine (tokSign_any c [58] _).mono ?_; rintro en w2 ⟨rfl, hb2⟩
  have hB := (HB1.out.alloc HB1.out.size (.cells #[.int .i64 t.kind, .int .i64 t.num, .int .i64 (t.at_ : Int), .string (txt t.text)] 33))
  have HB := Lib.hid (hB.trans (hb2.mono hB.size))
  have HZ : Hid (labT (t :: c :: ts) = (false, t :: c :: ts, [])) := by show _ = _; rw [labT_two, if_neg (fun e => by rw [e.2] at hs; cases hs)]
  rw [hs]
  clear hb2 hB hs
  go_wp2_with fail
  go_ret
  exact ⟨by rw [HZ.out]; rfl, vp, by rw [HZ.out]; simpa using HP.out.go HB.out, HB.out.mono (Nat.le_of_lt hlt)⟩
set_option maxHeartbeats 4000000 in
theorem label_yes (w : World) (b e : Nat) (t c : Tok) (ts : List Tok) (vp : Value) (ps : List PartZ) (hP : Par w b e (t :: c :: ts) vp ps) (h : t.kind = 1) (hps : ps.length ≤ 1000000) (hs : isS c [58] = true) :
    Calls Tryd.prog 70 #[.pointer (some ⟨b, 0, none⟩)] w (AppOut w b e ps (labT (t :: c :: ts))) := by
  have HP := Lib.hid hP
  have hlt := hP.lt
  have hN := next_any w b e (t :: c :: ts) vp ps hP
  change Calls _ _ _ _ (fun en w' => en = .returned (tokV t) ∧ _) at hN
  have HVB : Hid (∀ g, vp.ownBlock = some g → g < w.heap.size) := fun g hg => (hP.own.lt g hg).2
  obtain ⟨vt, vn, hbox, ht, hn, hp, htk⟩ := hP
  obtain ⟨A, cc, rfl⟩ := ht.form
  obtain ⟨g, off, rfl, hg, _⟩ := ht.at_ (by simp)
  have hcap := ht.cap
  have z0 := hbox.cell (k := 0) rfl
  have f0 := hbox.frozen 0
  obtain ⟨c0, c1, c2, c3⟩ := ht.tok (k := 1) (i := c) rfl
  simp only [Nat.one_mul, Nat.add_assoc, Nat.reduceAdd] at c0 c1 c2 c3
  simp only [List.length_cons] at hcap z0
  have HBX0 := Lib.hid hbox
  have HR := Lib.hid (show Row w b 4 (.slice (some ⟨g, off, none⟩) (ts.length + 1 + 1) cc) (ts.length + 1 + 1) (toksL (t :: c :: ts)) from ht)
  have HNM := Lib.hid hn
  have HPP := Lib.hid hp
  have HTK := Lib.hid htk
  have h3 : (t.kind != 1) = false := by simp [h]
  have l2 : decide ((ts.length : Int) + 1 + 1 < 2) = false := decide_eq_false (by omega)
  have l3 : decide ((ts.length : Int) + 2 < 2) = false := decide_eq_false (by omega)
  have l4 : decide (((ts.length + 1 + 1 : Nat) : Int) < 2) = false := decide_eq_false (by omega)
  have hgw : g < w.heap.size := by omega
  have HH := Lib.hid h
  have HPS := Lib.hid hps
  clear hbox ht hn hp htk h hps
  go_enter Tryd.func70, Tryd.ntmps70
  go_wp2_with fail
  refine hN.mono ?_; rintro en w1 ⟨rfl, hb1⟩
  have HB1 := Lib.hid hb1
  have hlt1 := Nat.lt_of_lt_of_le hlt hb1.size
  have hgw1 : g < w1.heap.size := Nat.lt_of_lt_of_le hgw hb1.size
  have z1 : w1.cell? ⟨b, 0, none⟩ = _ := below_cell hb1 hlt z0
  have f1 : w1.frozen? ⟨b, 0, none⟩ = false := below_frozen hb1 hlt f0
  have d0 := below_cell hb1 hgw c0
  have d1 := below_cell hb1 hgw c1
  have d2 := below_cell hb1 hgw c2
  have d3 := below_cell hb1 hgw c3
  clear hb1 z0 f0 c0 c1 c2 c3
  go_wp2_with fail
  refine (tokSign_any c [58] _).mono ?_; rintro en w2 ⟨rfl, hb2⟩
  have HZ : Hid (labT (t :: c :: ts) = (true, ts, [⟨1, t.at_, 0, t.text, ins0, tok0⟩])) := by show _ = _; rw [labT_two, if_pos ⟨HH.out, hs⟩]
  rw [hs]
  have hA1 : (w1.alloc (.cells #[.int .i64 t.kind, .int .i64 t.num, .int .i64 (t.at_ : Int), .string (txt t.text)] 33)).heap.size = w1.heap.size + 1 := by simp
  have hs2 : w1.heap.size + 1 ≤ w2.heap.size := by have := hb2.size; omega
  have TK2 : Hid (w2.cell? ⟨w1.heap.size, 2, none⟩ = some (.int .i64 (t.at_ : Int))) := below_cell hb2 (by omega) (by go_simp)
  have TK3 : Hid (w2.cell? ⟨w1.heap.size, 3, none⟩ = some (.string (txt t.text))) := below_cell hb2 (by omega) (by go_simp)
  have hB := (HB1.out.alloc HB1.out.size (.cells #[.int .i64 t.kind, .int .i64 t.num, .int .i64 (t.at_ : Int), .string (txt t.text)] 33))
  have HB := Lib.hid (hB.trans (hb2.mono hB.size))
  have z2 : w2.cell? ⟨b, 0, none⟩ = some (.slice (some ⟨g, off, none⟩) (ts.length + 1 + 1) cc) := below_cell HB.out hlt (HBX0.out.cell (k := 0) rfl)
  have f2 : w2.frozen? ⟨b, 0, none⟩ = false := below_frozen HB.out hlt (HBX0.out.frozen 0)
  have hblt2 : b < w2.heap.size := by omega
  have m2 : (2 : Int) ≤ (ts.length : Int) + 1 + 1 := by omega
  have m3 : (ts.length : Int) + 1 + 1 ≤ cc := by omega
  clear hb2 hB hs z1 f1 d0 d1 d2 d3
  by_cases hc2 : cc = 2
  · have hts : ts = [] := List.eq_nil_of_length_eq_zero (by omega)
    subst hc2
    subst hts
    have HR2 : Hid (Row w b 4 (.slice (some ⟨g, off, none⟩) 0 0) 0 (toksL [])) := HR.out.behind2
    have hX := (Below.refl b w2).setCell (p := ⟨b, 0, none⟩) (Nat.le_refl _) (.slice (some ⟨g, off, none⟩) 0 0)
    have hBb : Below b w (w2.setCell ⟨b, 0, none⟩ (.slice (some ⟨g, off, none⟩) 0 0)) := (HB.out.mono (Nat.le_of_lt hlt)).trans hX
    have hKS : KeepS (fun j => j = b) w2 (w2.setCell ⟨b, 0, none⟩ (.slice (some ⟨g, off, none⟩) 0 0)) := (KeepS.refl (fun j => j = b) w2).setCell rfl _ _
    have hKS2 : KeepS (fun j => j = b) w (w2.setCell ⟨b, 0, none⟩ (.slice (some ⟨g, off, none⟩) 0 0)) := (KeepS.of_below HB.out).trans hKS
    have hPX : Par (w2.setCell ⟨b, 0, none⟩ (.slice (some ⟨g, off, none⟩) 0 0)) b e [] vp ps := ⟨_, vn, (HBX0.out.below HB.out hlt).setCell 0 _, HR2.out.below hBb, HNM.out.below hBb, own_keepS HPP.out hKS2 (fun g hg e => by have := (HPP.out.lt g hg).1; omega), fun x hx => HTK.out x (List.mem_cons_of_mem _ (List.mem_cons_of_mem _ hx))⟩
    have HT2 : Hid ((w2.setCell ⟨b, 0, none⟩ (.slice (some ⟨g, off, none⟩) 0 0)).drew.cell? ⟨w1.heap.size, 2, none⟩ = some (.int .i64 (t.at_ : Int))) := hKS.cell (by omega) (fun e => by omega) TK2.out
    have HT3 : Hid ((w2.setCell ⟨b, 0, none⟩ (.slice (some ⟨g, off, none⟩) 0 0)).drew.cell? ⟨w1.heap.size, 3, none⟩ = some (.string (txt t.text))) := hKS.cell (by omega) (fun e => by omega) TK3.out
    have HTL : Hid (w1.heap.size < (w2.setCell ⟨b, 0, none⟩ (.slice (some ⟨g, off, none⟩) 0 0)).drew.heap.size) := by show _ < (w2.setCell ⟨b, 0, none⟩ (.slice (some ⟨g, off, none⟩) 0 0)).heap.size; simp [World.setCell]; omega
    have HP3 : Hid (Par (w2.setCell ⟨b, 0, none⟩ (.slice (some ⟨g, off, none⟩) 0 0)).drew b e [] vp ps) := hPX.drewN 1
    have HBX := Lib.hid hBb
    have HNB : Hid (vp.ownBlock ≠ some w1.heap.size) := fun e => by have := HVB.out _ e; have := HB1.out.size; omega
    have hbxb : b ≠ w1.heap.size := by omega
    clear hX hBb hKS hKS2 hPX
    go_wp2_with fail
    generalize w2.setCell ⟨b, 0, none⟩ (.slice (some ⟨g, off, none⟩) 0 0) = X at *
    refine wp_region_tree (fun a x => _) (LinT.of [(0, true), (1, true), (2, true), (3, true), (5, true), (6, true), (7, true), (8, true), (9, true)] (.two 4 10 (LinT.of [(10, false), (11, false), (12, true), (13, true), (14, false)] .nil) (LinT.of [(4, false), (11, false), (12, true), (13, true), (14, false)] .nil))) (by kernel_rfl) (by kernel_rfl) rfl (by kernel_rfl) (fun x => x.cell? ⟨w1.heap.size, 2, none⟩ = some (.int .i64 (t.at_ : Int)) ∧ x.cell? ⟨w1.heap.size, 3, none⟩ = some (.string (txt t.text))) (fun _ _ h => h) ?_
    simp only [LinT.of, LinT.look, List.getElem?_toArray, List.getElem?_cons_succ, List.getElem?_cons_zero]
    have hS0 : X.drew.cell? ⟨w1.heap.size, 2, none⟩ = some (.int .i64 (t.at_ : Int)) ∧ X.drew.cell? ⟨w1.heap.size, 3, none⟩ = some (.string (txt t.text)) := ⟨HT2.out, HT3.out⟩
    iterate 9 (refine tree_take (v := ?_) hS0 (by rfl) ?_ ?_; rotate_left; (intro x hx; obtain ⟨x2, x3⟩ := hx; go_simp; try (with_reducible rfl)); (simp only [Act.put, List.setIfInBounds_toArray, List.set_cons_zero, List.set_cons_succ]))
    obtain ⟨i0, hi, hz0, hz1, hz2⟩ := info_parts info_part
    have HI := Lib.hid hi
    have HZ0 := Lib.hid hz0
    have HZ1 := Lib.hid hz1
    have HZ2 := Lib.hid hz2
    clear hi hz0 hz1 hz2
    have c3 := HP3.out.parts
    have hbl := HP3.out.lt
    have HLT := Lib.hid hbl
    have hbl2 : b < X.heap.size := hbl
    have hps := HPS.out
    have END : ∀ (o : Obj) (y3 : World) (v3 : Value), (X.drew.alloc o).grownBy y3 vp.ownBlock → y3.ownsRow (b + 1) 77 13 v3 (ps.length + 1) (partsL ps ++ partL (⟨1, t.at_, 0, t.text, ins0, tok0⟩ : PartZ)) →
        (Par (y3.setCell ⟨b, 3, none⟩ v3) b e [] v3 (ps ++ [(⟨1, t.at_, 0, t.text, ins0, tok0⟩ : PartZ)]) ∧ Below b w (y3.setCell ⟨b, 3, none⟩ v3)) ∧ (y3.cell? ⟨w1.heap.size, 2, none⟩ = some (.int .i64 (t.at_ : Int)) ∧ y3.cell? ⟨w1.heap.size, 3, none⟩ = some (.string (txt t.text))) ∧ y3.cell? ⟨b, 3, none⟩ = some vp ∧ y3.frozen? ⟨b, 3, none⟩ = false ∧ b < y3.heap.size ∧ ∃ A3 k3, v3 = .slice A3 (ps.length + 1) k3 := by
      intro o y3 v3 hg ho
      have hne : some b ≠ vp.ownBlock := fun e => by have := (HP3.out.own.lt b e.symm).1; omega
      obtain ⟨q1, q2⟩ := HP3.out.app hg ho rfl
      obtain ⟨A3, k3, h3⟩ := (Row.of_own ho).form
      have hb2 := ((HP3.out.alloc o).go (Below.refl _ _))
      refine ⟨⟨q1, HBX.out.trans ((Below.refl b X).drew.trans q2)⟩, ⟨hg.cell ((World.cell?_alloc_lt _ _ _ HTL.out).trans HT2.out) (fun e => HNB.out e.symm), hg.cell ((World.cell?_alloc_lt _ _ _ HTL.out).trans HT3.out) (fun e => HNB.out e.symm)⟩, hg.cell (hb2.parts) hne, ?_, ?_, A3, k3, h3⟩
      · rw [World.frozen?_of_block (w := X.drew.alloc o) (hg.block b hb2.lt hne)]; exact hb2.frozen 3
      · have := hg.size; have := hb2.lt; omega
    have HEND := Lib.hid END
    clear END
    refine tree_two hS0 (by rfl) (by rfl) (fun K hK => ?_) (fun K hK => ?_)
    · go_simp
      refine hK.out _ _ hS0 (fun _ => ?_)
      clear hK K
      try (simp only [Act.put, List.setIfInBounds_toArray, List.set_cons_zero, List.set_cons_succ])
      refine tree_call hS0 (by rfl) (fun K hK => ?_)
      go_simp
      have hSa : (X.drew.alloc (.cells #[.int .i64 1, .int .i64 (t.at_ : Int), .int .i64 0, .string (txt t.text), .int .i64 0, .int .i64 0, .int .i64 0, .int .i64 0, .int .i64 0, .int .i64 0, .int .i64 0, .int .i64 0, .string ⟨#[]⟩] 77)).cell? ⟨w1.heap.size, 2, none⟩ = some (.int .i64 (t.at_ : Int)) ∧ (X.drew.alloc (.cells #[.int .i64 1, .int .i64 (t.at_ : Int), .int .i64 0, .string (txt t.text), .int .i64 0, .int .i64 0, .int .i64 0, .int .i64 0, .int .i64 0, .int .i64 0, .int .i64 0, .int .i64 0, .string ⟨#[]⟩] 77)).cell? ⟨w1.heap.size, 3, none⟩ = some (.string (txt t.text)) := ⟨(World.cell?_alloc_lt _ _ _ HTL.out).trans hS0.1, (World.cell?_alloc_lt _ _ _ HTL.out).trans hS0.2⟩
      refine hK.out _ _ hSa (fun _ => ?_)
      clear hK K
      try (simp only [Act.put, List.setIfInBounds_toArray, List.set_cons_zero, List.set_cons_succ])
      refine tree_call hSa (by rfl) (fun K hK => ?_)
      refine wp_append_row _ (.tmp 39) (.tmp 45) 68 rfl (b + 1) 77 i0 _ 13 120 Tryd.underlying68 HI.out HZ0.out HZ1.out HZ2.out rfl (by omega) _ ps.length (partsL ps) rfl (HP3.out.own.alloc _) _ (.slice (some ⟨X.heap.size, 0, none⟩) 1 1) 1 (partL (⟨1, t.at_, 0, t.text, ins0, tok0⟩ : PartZ)) rfl (row_part X.drew (⟨1, t.at_, 0, t.text, ins0, tok0⟩ : PartZ) _) (partL_cell _) (by unfold maxLen; omega) (by omega) (by simp; omega) ?_
      intro v3 y3 hO3 hg3
      obtain ⟨PA, hS3, q3, q4, hy3, A3, k3, rfl⟩ := HEND.out _ _ _ hg3 hO3
      have HPA := Lib.hid PA
      clear hO3 hg3 PA
      refine hK.out _ _ hS3 (fun _ => ?_)
      clear hK K
      try (simp only [Act.put, List.setIfInBounds_toArray, List.set_cons_zero, List.set_cons_succ])
      iterate 2 (refine tree_take (v := ?_) hS3 (by rfl) ?_ ?_; rotate_left; (intro x hx; obtain ⟨x2, x3⟩ := hx; go_simp; try (with_reducible rfl)); (simp only [Act.put, List.setIfInBounds_toArray, List.set_cons_zero, List.set_cons_succ]))
      refine tree_call hS3 (by rfl) (fun K hK => ?_)
      go_simp
      refine hK.out _ _ ⟨(World.cell?_setCell_other _ _ _ _ (fun e => hbxb (congrArg Addr.block e))).trans hS3.1, (World.cell?_setCell_other _ _ _ _ (fun e => hbxb (congrArg Addr.block e))).trans hS3.2⟩ (fun _ => ?_)
      clear hK K
      refine tree_done ?_
      try (simp only [Act.put, List.setIfInBounds_toArray, List.set_cons_zero, List.set_cons_succ])
      go_wp2_with fail
      go_ret
      exact ⟨by rw [HZ.out]; rfl, _, by rw [HZ.out]; exact HPA.out.1, HPA.out.2⟩
    · go_simp
      have hSa : (X.drew.alloc (.cells #[.int .i64 1, .int .i64 (t.at_ : Int), .int .i64 0, .string (txt t.text), .int .i64 0, .int .i64 0, .int .i64 0, .int .i64 0, .int .i64 0, .int .i64 0, .int .i64 0, .int .i64 0, .string ⟨#[]⟩] 77)).cell? ⟨w1.heap.size, 2, none⟩ = some (.int .i64 (t.at_ : Int)) ∧ (X.drew.alloc (.cells #[.int .i64 1, .int .i64 (t.at_ : Int), .int .i64 0, .string (txt t.text), .int .i64 0, .int .i64 0, .int .i64 0, .int .i64 0, .int .i64 0, .int .i64 0, .int .i64 0, .int .i64 0, .string ⟨#[]⟩] 77)).cell? ⟨w1.heap.size, 3, none⟩ = some (.string (txt t.text)) := ⟨(World.cell?_alloc_lt _ _ _ HTL.out).trans hS0.1, (World.cell?_alloc_lt _ _ _ HTL.out).trans hS0.2⟩
      have c3a : (X.drew.alloc (.cells #[.int .i64 1, .int .i64 (t.at_ : Int), .int .i64 0, .string (txt t.text), .int .i64 0, .int .i64 0, .int .i64 0, .int .i64 0, .int .i64 0, .int .i64 0, .int .i64 0, .int .i64 0, .string ⟨#[]⟩] 77)).cell? ⟨b, 3, none⟩ = some vp := (World.cell?_alloc_lt _ _ _ hbl).trans c3
      have c3b := (show (X.alloc (.cells #[.int .i64 1, .int .i64 (t.at_ : Int), .int .i64 0, .string (txt t.text), .int .i64 0, .int .i64 0, .int .i64 0, .int .i64 0, .int .i64 0, .int .i64 0, .int .i64 0, .int .i64 0, .string ⟨#[]⟩] 77)).cell? ⟨b, 3, none⟩ = some vp from c3a)
      refine hK.out _ _ hSa (fun _ => ?_)
      clear hK K
      try (simp only [Act.put, List.setIfInBounds_toArray, List.set_cons_zero, List.set_cons_succ])
      refine tree_call hSa (by rfl) (fun K hK => ?_)
      go_simp
      refine hK.out _ _ hSa (fun _ => ?_)
      clear hK K
      try (simp only [Act.put, List.setIfInBounds_toArray, List.set_cons_zero, List.set_cons_succ])
      refine tree_call hSa (by rfl) (fun K hK => ?_)
      refine wp_append_row _ (.tmp 39) (.tmp 45) 68 rfl (b + 1) 77 i0 _ 13 120 Tryd.underlying68 HI.out HZ0.out HZ1.out HZ2.out rfl (by omega) _ ps.length (partsL ps) rfl (HP3.out.own.alloc _) _ (.slice (some ⟨X.heap.size, 0, none⟩) 1 1) 1 (partL (⟨1, t.at_, 0, t.text, ins0, tok0⟩ : PartZ)) rfl (row_part X.drew (⟨1, t.at_, 0, t.text, ins0, tok0⟩ : PartZ) _) (partL_cell _) (by unfold maxLen; omega) (by omega) (by simp; omega) ?_
      intro v3 y3 hO3 hg3
      obtain ⟨PA, hS3, q3, q4, hy3, A3, k3, rfl⟩ := HEND.out _ _ _ hg3 hO3
      have HPA := Lib.hid PA
      clear hO3 hg3 PA
      refine hK.out _ _ hS3 (fun _ => ?_)
      clear hK K
      try (simp only [Act.put, List.setIfInBounds_toArray, List.set_cons_zero, List.set_cons_succ])
      iterate 2 (refine tree_take (v := ?_) hS3 (by rfl) ?_ ?_; rotate_left; (intro x hx; obtain ⟨x2, x3⟩ := hx; go_simp; try (with_reducible rfl)); (simp only [Act.put, List.setIfInBounds_toArray, List.set_cons_zero, List.set_cons_succ]))
      refine tree_call hS3 (by rfl) (fun K hK => ?_)
      go_simp
      refine hK.out _ _ ⟨(World.cell?_setCell_other _ _ _ _ (fun e => hbxb (congrArg Addr.block e))).trans hS3.1, (World.cell?_setCell_other _ _ _ _ (fun e => hbxb (congrArg Addr.block e))).trans hS3.2⟩ (fun _ => ?_)
      clear hK K
      refine tree_done ?_
      try (simp only [Act.put, List.setIfInBounds_toArray, List.set_cons_zero, List.set_cons_succ])
      go_wp2_with fail
      go_ret
      exact ⟨by rw [HZ.out]; rfl, _, by rw [HZ.out]; exact HPA.out.1, HPA.out.2⟩
  · have HR2 : Hid (Row w b 4 (.slice (some ⟨g, off + 8, none⟩) ts.length (cc - 2)) ts.length (toksL ts)) := by
      have := HR.out.behind2
      rw [if_neg hc2] at this
      exact this
    have m4 : (2 : Int) < cc := by omega
    have hX := (Below.refl b w2).setCell (p := ⟨b, 0, none⟩) (Nat.le_refl _) (.slice (some ⟨g, off + 8, none⟩) ts.length (cc - 2))
    have hBb : Below b w (w2.setCell ⟨b, 0, none⟩ (.slice (some ⟨g, off + 8, none⟩) ts.length (cc - 2))) := (HB.out.mono (Nat.le_of_lt hlt)).trans hX
    have hKS : KeepS (fun j => j = b) w2 (w2.setCell ⟨b, 0, none⟩ (.slice (some ⟨g, off + 8, none⟩) ts.length (cc - 2))) := (KeepS.refl (fun j => j = b) w2).setCell rfl _ _
    have hKS2 : KeepS (fun j => j = b) w (w2.setCell ⟨b, 0, none⟩ (.slice (some ⟨g, off + 8, none⟩) ts.length (cc - 2))) := (KeepS.of_below HB.out).trans hKS
    have hPX : Par (w2.setCell ⟨b, 0, none⟩ (.slice (some ⟨g, off + 8, none⟩) ts.length (cc - 2))) b e ts vp ps := ⟨_, vn, (HBX0.out.below HB.out hlt).setCell 0 _, HR2.out.below hBb, HNM.out.below hBb, own_keepS HPP.out hKS2 (fun g hg e => by have := (HPP.out.lt g hg).1; omega), fun x hx => HTK.out x (List.mem_cons_of_mem _ (List.mem_cons_of_mem _ hx))⟩
    have HT2 : Hid ((w2.setCell ⟨b, 0, none⟩ (.slice (some ⟨g, off + 8, none⟩) ts.length (cc - 2))).drew.cell? ⟨w1.heap.size, 2, none⟩ = some (.int .i64 (t.at_ : Int))) := hKS.cell (by omega) (fun e => by omega) TK2.out
    have HT3 : Hid ((w2.setCell ⟨b, 0, none⟩ (.slice (some ⟨g, off + 8, none⟩) ts.length (cc - 2))).drew.cell? ⟨w1.heap.size, 3, none⟩ = some (.string (txt t.text))) := hKS.cell (by omega) (fun e => by omega) TK3.out
    have HTL : Hid (w1.heap.size < (w2.setCell ⟨b, 0, none⟩ (.slice (some ⟨g, off + 8, none⟩) ts.length (cc - 2))).drew.heap.size) := by show _ < (w2.setCell ⟨b, 0, none⟩ (.slice (some ⟨g, off + 8, none⟩) ts.length (cc - 2))).heap.size; simp [World.setCell]; omega
    have HP3 : Hid (Par (w2.setCell ⟨b, 0, none⟩ (.slice (some ⟨g, off + 8, none⟩) ts.length (cc - 2))).drew b e ts vp ps) := hPX.drewN 1
    have HBX := Lib.hid hBb
    have HNB : Hid (vp.ownBlock ≠ some w1.heap.size) := fun e => by have := HVB.out _ e; have := HB1.out.size; omega
    have hbxb : b ≠ w1.heap.size := by omega
    clear hX hBb hKS hKS2 hPX
    go_wp2_with fail
    generalize w2.setCell ⟨b, 0, none⟩ (.slice (some ⟨g, off + 8, none⟩) ts.length (cc - 2)) = X at *
    refine wp_region_tree (fun a x => _) (LinT.of [(0, true), (1, true), (2, true), (3, true), (5, true), (6, true), (7, true), (8, true), (9, true)] (.two 4 10 (LinT.of [(10, false), (11, false), (12, true), (13, true), (14, false)] .nil) (LinT.of [(4, false), (11, false), (12, true), (13, true), (14, false)] .nil))) (by kernel_rfl) (by kernel_rfl) rfl (by kernel_rfl) (fun x => x.cell? ⟨w1.heap.size, 2, none⟩ = some (.int .i64 (t.at_ : Int)) ∧ x.cell? ⟨w1.heap.size, 3, none⟩ = some (.string (txt t.text))) (fun _ _ h => h) ?_
    simp only [LinT.of, LinT.look, List.getElem?_toArray, List.getElem?_cons_succ, List.getElem?_cons_zero]
    have hS0 : X.drew.cell? ⟨w1.heap.size, 2, none⟩ = some (.int .i64 (t.at_ : Int)) ∧ X.drew.cell? ⟨w1.heap.size, 3, none⟩ = some (.string (txt t.text)) := ⟨HT2.out, HT3.out⟩
    iterate 9 (refine tree_take (v := ?_) hS0 (by rfl) ?_ ?_; rotate_left; (intro x hx; obtain ⟨x2, x3⟩ := hx; go_simp; try (with_reducible rfl)); (simp only [Act.put, List.setIfInBounds_toArray, List.set_cons_zero, List.set_cons_succ]))
    obtain ⟨i0, hi, hz0, hz1, hz2⟩ := info_parts info_part
    have HI := Lib.hid hi
    have HZ0 := Lib.hid hz0
    have HZ1 := Lib.hid hz1
    have HZ2 := Lib.hid hz2
    clear hi hz0 hz1 hz2
    have c3 := HP3.out.parts
    have hbl := HP3.out.lt
    have HLT := Lib.hid hbl
    have hbl2 : b < X.heap.size := hbl
    have hps := HPS.out
    have END : ∀ (o : Obj) (y3 : World) (v3 : Value), (X.drew.alloc o).grownBy y3 vp.ownBlock → y3.ownsRow (b + 1) 77 13 v3 (ps.length + 1) (partsL ps ++ partL (⟨1, t.at_, 0, t.text, ins0, tok0⟩ : PartZ)) →
        (Par (y3.setCell ⟨b, 3, none⟩ v3) b e ts v3 (ps ++ [(⟨1, t.at_, 0, t.text, ins0, tok0⟩ : PartZ)]) ∧ Below b w (y3.setCell ⟨b, 3, none⟩ v3)) ∧ (y3.cell? ⟨w1.heap.size, 2, none⟩ = some (.int .i64 (t.at_ : Int)) ∧ y3.cell? ⟨w1.heap.size, 3, none⟩ = some (.string (txt t.text))) ∧ y3.cell? ⟨b, 3, none⟩ = some vp ∧ y3.frozen? ⟨b, 3, none⟩ = false ∧ b < y3.heap.size ∧ ∃ A3 k3, v3 = .slice A3 (ps.length + 1) k3 := by
      intro o y3 v3 hg ho
      have hne : some b ≠ vp.ownBlock := fun e => by have := (HP3.out.own.lt b e.symm).1; omega
      obtain ⟨q1, q2⟩ := HP3.out.app hg ho rfl
      obtain ⟨A3, k3, h3⟩ := (Row.of_own ho).form
      have hb2 := ((HP3.out.alloc o).go (Below.refl _ _))
      refine ⟨⟨q1, HBX.out.trans ((Below.refl b X).drew.trans q2)⟩, ⟨hg.cell ((World.cell?_alloc_lt _ _ _ HTL.out).trans HT2.out) (fun e => HNB.out e.symm), hg.cell ((World.cell?_alloc_lt _ _ _ HTL.out).trans HT3.out) (fun e => HNB.out e.symm)⟩, hg.cell (hb2.parts) hne, ?_, ?_, A3, k3, h3⟩
      · rw [World.frozen?_of_block (w := X.drew.alloc o) (hg.block b hb2.lt hne)]; exact hb2.frozen 3
      · have := hg.size; have := hb2.lt; omega
    have HEND := Lib.hid END
    clear END
    refine tree_two hS0 (by rfl) (by rfl) (fun K hK => ?_) (fun K hK => ?_)
    · go_simp
      refine hK.out _ _ hS0 (fun _ => ?_)
      clear hK K
      try (simp only [Act.put, List.setIfInBounds_toArray, List.set_cons_zero, List.set_cons_succ])
      refine tree_call hS0 (by rfl) (fun K hK => ?_)
      go_simp
      have hSa : (X.drew.alloc (.cells #[.int .i64 1, .int .i64 (t.at_ : Int), .int .i64 0, .string (txt t.text), .int .i64 0, .int .i64 0, .int .i64 0, .int .i64 0, .int .i64 0, .int .i64 0, .int .i64 0, .int .i64 0, .string ⟨#[]⟩] 77)).cell? ⟨w1.heap.size, 2, none⟩ = some (.int .i64 (t.at_ : Int)) ∧ (X.drew.alloc (.cells #[.int .i64 1, .int .i64 (t.at_ : Int), .int .i64 0, .string (txt t.text), .int .i64 0, .int .i64 0, .int .i64 0, .int .i64 0, .int .i64 0, .int .i64 0, .int .i64 0, .int .i64 0, .string ⟨#[]⟩] 77)).cell? ⟨w1.heap.size, 3, none⟩ = some (.string (txt t.text)) := ⟨(World.cell?_alloc_lt _ _ _ HTL.out).trans hS0.1, (World.cell?_alloc_lt _ _ _ HTL.out).trans hS0.2⟩
      refine hK.out _ _ hSa (fun _ => ?_)
      clear hK K
      try (simp only [Act.put, List.setIfInBounds_toArray, List.set_cons_zero, List.set_cons_succ])
      refine tree_call hSa (by rfl) (fun K hK => ?_)
      refine wp_append_row _ (.tmp 39) (.tmp 45) 68 rfl (b + 1) 77 i0 _ 13 120 Tryd.underlying68 HI.out HZ0.out HZ1.out HZ2.out rfl (by omega) _ ps.length (partsL ps) rfl (HP3.out.own.alloc _) _ (.slice (some ⟨X.heap.size, 0, none⟩) 1 1) 1 (partL (⟨1, t.at_, 0, t.text, ins0, tok0⟩ : PartZ)) rfl (row_part X.drew (⟨1, t.at_, 0, t.text, ins0, tok0⟩ : PartZ) _) (partL_cell _) (by unfold maxLen; omega) (by omega) (by simp; omega) ?_
      intro v3 y3 hO3 hg3
      obtain ⟨PA, hS3, q3, q4, hy3, A3, k3, rfl⟩ := HEND.out _ _ _ hg3 hO3
      have HPA := Lib.hid PA
      clear hO3 hg3 PA
      refine hK.out _ _ hS3 (fun _ => ?_)
      clear hK K
      try (simp only [Act.put, List.setIfInBounds_toArray, List.set_cons_zero, List.set_cons_succ])
      iterate 2 (refine tree_take (v := ?_) hS3 (by rfl) ?_ ?_; rotate_left; (intro x hx; obtain ⟨x2, x3⟩ := hx; go_simp; try (with_reducible rfl)); (simp only [Act.put, List.setIfInBounds_toArray, List.set_cons_zero, List.set_cons_succ]))
      refine tree_call hS3 (by rfl) (fun K hK => ?_)
      go_simp
      refine hK.out _ _ ⟨(World.cell?_setCell_other _ _ _ _ (fun e => hbxb (congrArg Addr.block e))).trans hS3.1, (World.cell?_setCell_other _ _ _ _ (fun e => hbxb (congrArg Addr.block e))).trans hS3.2⟩ (fun _ => ?_)
      clear hK K
      refine tree_done ?_
      try (simp only [Act.put, List.setIfInBounds_toArray, List.set_cons_zero, List.set_cons_succ])
      go_wp2_with fail
      go_ret
      exact ⟨by rw [HZ.out]; rfl, _, by rw [HZ.out]; exact HPA.out.1, HPA.out.2⟩
    · go_simp
      have hSa : (X.drew.alloc (.cells #[.int .i64 1, .int .i64 (t.at_ : Int), .int .i64 0, .string (txt t.text), .int .i64 0, .int .i64 0, .int .i64 0, .int .i64 0, .int .i64 0, .int .i64 0, .int .i64 0, .int .i64 0, .string ⟨#[]⟩] 77)).cell? ⟨w1.heap.size, 2, none⟩ = some (.int .i64 (t.at_ : Int)) ∧ (X.drew.alloc (.cells #[.int .i64 1, .int .i64 (t.at_ : Int), .int .i64 0, .string (txt t.text), .int .i64 0, .int .i64 0, .int .i64 0, .int .i64 0, .int .i64 0, .int .i64 0, .int .i64 0, .int .i64 0, .string ⟨#[]⟩] 77)).cell? ⟨w1.heap.size, 3, none⟩ = some (.string (txt t.text)) := ⟨(World.cell?_alloc_lt _ _ _ HTL.out).trans hS0.1, (World.cell?_alloc_lt _ _ _ HTL.out).trans hS0.2⟩
      have c3a : (X.drew.alloc (.cells #[.int .i64 1, .int .i64 (t.at_ : Int), .int .i64 0, .string (txt t.text), .int .i64 0, .int .i64 0, .int .i64 0, .int .i64 0, .int .i64 0, .int .i64 0, .int .i64 0, .int .i64 0, .string ⟨#[]⟩] 77)).cell? ⟨b, 3, none⟩ = some vp := (World.cell?_alloc_lt _ _ _ hbl).trans c3
      have c3b := (show (X.alloc (.cells #[.int .i64 1, .int .i64 (t.at_ : Int), .int .i64 0, .string (txt t.text), .int .i64 0, .int .i64 0, .int .i64 0, .int .i64 0, .int .i64 0, .int .i64 0, .int .i64 0, .int .i64 0, .string ⟨#[]⟩] 77)).cell? ⟨b, 3, none⟩ = some vp from c3a)
      refine hK.out _ _ hSa (fun _ => ?_)
      clear hK K
      try (simp only [Act.put, List.setIfInBounds_toArray, List.set_cons_zero, List.set_cons_succ])
      refine tree_call hSa (by rfl) (fun K hK => ?_)
      go_simp
      refine hK.out _ _ hSa (fun _ => ?_)
      clear hK K
      try (simp only [Act.put, List.setIfInBounds_toArray, List.set_cons_zero, List.set_cons_succ])
      refine tree_call hSa (by rfl) (fun K hK => ?_)
      refine wp_append_row _ (.tmp 39) (.tmp 45) 68 rfl (b + 1) 77 i0 _ 13 120 Tryd.underlying68 HI.out HZ0.out HZ1.out HZ2.out rfl (by omega) _ ps.length (partsL ps) rfl (HP3.out.own.alloc _) _ (.slice (some ⟨X.heap.size, 0, none⟩) 1 1) 1 (partL (⟨1, t.at_, 0, t.text, ins0, tok0⟩ : PartZ)) rfl (row_part X.drew (⟨1, t.at_, 0, t.text, ins0, tok0⟩ : PartZ) _) (partL_cell _) (by unfold maxLen; omega) (by omega) (by simp; omega) ?_
      intro v3 y3 hO3 hg3
      obtain ⟨PA, hS3, q3, q4, hy3, A3, k3, rfl⟩ := HEND.out _ _ _ hg3 hO3
      have HPA := Lib.hid PA
      clear hO3 hg3 PA
      refine hK.out _ _ hS3 (fun _ => ?_)
      clear hK K
      try (simp only [Act.put, List.setIfInBounds_toArray, List.set_cons_zero, List.set_cons_succ])
      iterate 2 (refine tree_take (v := ?_) hS3 (by rfl) ?_ ?_; rotate_left; (intro x hx; obtain ⟨x2, x3⟩ := hx; go_simp; try (with_reducible rfl)); (simp only [Act.put, List.setIfInBounds_toArray, List.set_cons_zero, List.set_cons_succ]))
      refine tree_call hS3 (by rfl) (fun K hK => ?_)
      go_simp
      refine hK.out _ _ ⟨(World.cell?_setCell_other _ _ _ _ (fun e => hbxb (congrArg Addr.block e))).trans hS3.1, (World.cell?_setCell_other _ _ _ _ (fun e => hbxb (congrArg Addr.block e))).trans hS3.2⟩ (fun _ => ?_)
      clear hK K
      refine tree_done ?_
      try (simp only [Act.put, List.setIfInBounds_toArray, List.set_cons_zero, List.set_cons_succ])
      go_wp2_with fail
      go_ret
      exact ⟨by rw [HZ.out]; rfl, _, by rw [HZ.out]; exact HPA.out.1, HPA.out.2⟩
theorem label_any (w : World) (b e : Nat) (r : List Tok) (vp : Value) (ps : List PartZ) (hP : Par w b e r vp ps) (hps : ps.length ≤ 1000000) :
    Calls Tryd.prog 70 #[.pointer (some ⟨b, 0, none⟩)] w (AppOut w b e ps (labT r)) := by
  by_cases hk : (nextT r e).kind = 1
  · rcases r with _ | ⟨t, _ | ⟨c, ts⟩⟩
    · exact absurd hk (by simp [nextT])
    · exact label_short w b e t vp ps hP hk
    · cases hs : isS c [58]
      · exact label_nosign w b e t c ts vp ps hP hk hs
      · exact label_yes w b e t c ts vp ps hP hk hps hs
  · exact label_no w b e r vp ps hP hk
end Go.Proofs.YtimdojeagkbgbaaDoor.Words

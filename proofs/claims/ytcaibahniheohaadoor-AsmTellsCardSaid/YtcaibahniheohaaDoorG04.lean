/- Several texts in one: AsmApp, AsmNumber, AsmBytes, RefForm, IsaForm, AsmIns, AsmLabel. -/
import Derived.Test.YtcaibahniheohaaDoorG02
import Derived.Test.YtcaibahniheohaaDoorG03
import Derived.LoopTactic
import Derived.Test.YtcaibahniheohaaDoorRows
import Derived.Test.YtcaibahniheohaaDoorG00
import Derived.Lib.TrimAscii

/- A part appended to a parser's: what the region that does it leaves; a struct read in a region walked as a tree. -/
namespace Go.Proofs.YtcaibahniheohaaDoor.Words
set_option maxRecDepth 100000
open Go.RowKit Go.Shelf Go.Lib
set_option linter.unusedVariables false
section
variable {P : Program} {ops : Array Oper} {rest : LinO} {o : Oper} {a : Act} {Q : Exit → Act → World → Prop} {R : Act → World → Prop} {S : World → Prop} {w : World}
theorem tree_get_box (hS : S w) (hw : Region.wanted o (yielded ops a.tmps) = true) (ty : TypeId) (x : Operand) (ho : o.op = .load ty x)
  (b k : Nat) (hx : a.eval x = .pointer (some ⟨b, k, none⟩)) (l cs : List Value) (hb : ∀ y, S y → Box y b l) (hc : ∀ j v, cs[j]? = some v → l[k + j]? = some v) (d : TypeDesc)
  (hu : P.underlying ty = some d) (hd : d.isRow = true) (n : Nat) (hi : (P.info? ty).map (·.size) = some n) (hn : cs.length = n)
  (h : wpT P ops Q R rest S (a.put o.dst (.agg cs.toArray)) w) : wpT P ops Q R (.one (some o) true rest) S a w :=
 ⟨S, fun _ h => h, hS, _, yieldsIf_load_mid hw ty x ho b k hx cs d (fun y hy => (hb y hy).range hc) hu hd (by rw [hn]; exact hi), h⟩
end
theorem row_part (w : World) (z : PartZ) (t : TypeId) : Row (w.alloc (.cells (partL z).toArray t)) (w.heap.size + 1) 13 (.slice (some ⟨w.heap.size, 0, none⟩) 1 1) 1 (partL z) := by
 refine ⟨rfl, _, _, rfl, Nat.le_refl _, by omega, (fun h => by cases h), fun _ => ⟨w.heap.size, 0, rfl, Nat.lt_succ_self _, fun j u hu => ?_⟩⟩
 have := new_cells w (partL z).toArray t (partL z) rfl j u hu
 rwa [add_spot] at this
theorem size_part : (Tryd.prog.info? 55).map (·.size) = some 13 := by kernel_rfl
theorem Par.frozen {w : World} {b e : Nat} {r : List Tok} {vp : Value} {ps : List PartZ} (h : Par w b e r vp ps) (k : Nat) : w.frozen? ⟨b, k, none⟩ = false := by obtain ⟨_, _, h, _⟩ := h; exact h.frozen k
theorem Par.parts {w : World} {b e : Nat} {r : List Tok} {vp : Value} {ps : List PartZ} (h : Par w b e r vp ps) : w.cell? ⟨b, 3, none⟩ = some vp := by obtain ⟨_, _, h, _⟩ := h; exact h.cell (k := 3) rfl
theorem Par.form {w : World} {b e : Nat} {r : List Tok} {vp : Value} {ps : List PartZ} (h : Par w b e r vp ps) : ∃ A c, vp = .slice A ps.length c := (Row.of_own h.own).form
theorem Par.not {w : World} {b e : Nat} {r : List Tok} {vp : Value} {ps : List PartZ} (h : Par w b e r vp ps) {x : Nat} (hx : w.heap.size ≤ x) : vp.ownBlock ≠ some x := fun e => by have := (h.own.lt x e).2; omega
theorem Par.app {X y : World} {b e : Nat} {r : List Tok} {vp v3 : Value} {ps : List PartZ} {z : PartZ} {o : Obj} {cells : List Value} (h : Par X b e r vp ps) (hg : (X.alloc o).grownBy y vp.ownBlock) (ho : y.ownsRow (b + 1) 55 13 v3 (ps.length + 1) (partsL ps ++ cells)) (hc : cells = partL z) :
  Par (y.setCell ⟨b, 3, none⟩ v3) b e r v3 (ps ++ [z]) ∧ Below b X (y.setCell ⟨b, 3, none⟩ v3) := by
 subst hc
 have hlt := h.lt
 have hob : ∀ k, vp.ownBlock = some k → b + 1 ≤ k := fun k hk => (h.own.lt k hk).1
 obtain ⟨vt, vn, h1, h2, h3, h4, h5⟩ := h
 have hB : Below b X y := ((Below.refl b X).alloc (Nat.le_of_lt hlt) o).grown hg (by simp; omega) (fun k hk => by have := hob k hk; omega)
 have hB2 : Below b X (y.setCell ⟨b, 3, none⟩ v3) := hB.setCell (Nat.le_refl _) _
 refine ⟨⟨vt, vn, ?_, h2.below hB2, h3.below hB2, ?_, h5⟩, hB2⟩
 ·exact ((h1.alloc o).grown hg (fun e => by have := hob b e.symm; omega)).setCell 3 v3
 ·rw [partsL_append, partsL_one, List.length_append]
  exact ownsRow_setCell_below ho (a := ⟨b, 3, none⟩) (Nat.lt_succ_self b) v3
end Go.Proofs.YtcaibahniheohaaDoor.Words

/- Contract of package asm's number. -/
namespace Go.Proofs.YtcaibahniheohaaDoor.Words
set_option maxRecDepth 100000
open Go.RowKit Go.Shelf Go.Lib
set_option linter.unusedVariables false
set_option linter.unusedSimpArgs false
def AppOut (w : World) (b e : Nat) (ps : List PartZ) (Z : Bool × List Tok × List PartZ) (en : Ending) (w' : World) : Prop :=
 en = .returned (.bool Z.1) ∧ ∃ vp', Par w' b e Z.2.1 vp' (ps ++ Z.2.2) ∧ Below b w w'
theorem numT_no {r : List Tok} (kind : Int) (e : Nat) (h : (immT r).1 = none) : numT kind r = (false, (immT r).2, []) := by
 cases r with
 | nil => rfl
 | cons t ts =>
  unfold immT at h ⊢
  unfold numT
  by_cases h1 : t.kind = 2
  ·simp [h1] at h
  ·simp [h1]
theorem numT_yes {r : List Tok} (kind : Int) (e : Nat) {n : Int} (h : (immT r).1 = some n) : numT kind r = (true, (immT r).2, [⟨kind, (nextT r e).at_, n, [], ins0, tok0⟩]) := by
 cases r with
 | nil => simp [immT] at h
 | cons t ts =>
  unfold immT at h ⊢
  unfold numT
  by_cases h1 : t.kind = 2
  ·simp [h1] at h ⊢
   simp [nextT, h]
  ·simp [h1] at h
set_option maxHeartbeats 4000000 in
theorem asmNumber_any (kind : Int) (w : World) (b e : Nat) (r : List Tok) (vp : Value) (ps : List PartZ) (hP : Par w b e r vp ps) (hps : ps.length ≤ 1000000) :
  Calls Tryd.prog 80 #[.pointer (some ⟨b, 0, none⟩), .int .i64 kind] w (AppOut w b e ps (numT kind r)) := by
 have HP := Lib.hid hP
 have hN := next_any w b e r vp ps hP
 have hlt := hP.lt
 have fd := field_at (nextT r e)
 have HPS := Lib.hid hps
 cases hs : (immT r).1 with
 | none =>
  have HZ : Hid (numT kind r = (false, (immT r).2, [])) := numT_no kind e hs
  have HIM : Hid ((immT r).1 = none) := hs
  generalize nextT r e = t at *
  clear hP hs hps
  go_enter Tryd.func80, Tryd.ntmps80
  go_wp2_with fail
  refine hN.mono ?_; rintro en w1 ⟨rfl, hb1⟩
  have HB1 := Lib.hid hb1
  have X2 : Hid (Box (w1.alloc (.cells #[.int .i64 kind, .int .i64 (t.at_ : Int), .int .i64 0, .string ⟨#[]⟩, .int .i64 0, .int .i64 0, .int .i64 0, .int .i64 0, .int .i64 0, .int .i64 0, .int .i64 0, .int .i64 0, .string ⟨#[]⟩] 55)) w1.heap.size (partL ⟨kind, t.at_, 0, [], ins0, tok0⟩)) := Box.new w1 (partL ⟨kind, t.at_, 0, [], ins0, tok0⟩) _
  have P2 := Lib.hid ((HP.out.go hb1).alloc (.cells #[.int .i64 kind, .int .i64 (t.at_ : Int), .int .i64 0, .string ⟨#[]⟩, .int .i64 0, .int .i64 0, .int .i64 0, .int .i64 0, .int .i64 0, .int .i64 0, .int .i64 0, .int .i64 0, .string ⟨#[]⟩] 55))
  have hs1 := hb1.size
  clear hb1
  go_wp2_with fail
  refine (immediate_any _ b e r vp ps w1.heap.size 2 _ P2.out X2.out (show 2 < 13 by decide) (by omega) ((HP.out.go HB1.out).not (Nat.le_refl _))).mono ?_; rintro en w3 ⟨rfl, hp3, hx3, hk3⟩
  have H3 := Lib.hid hp3
  have HK3 := Lib.hid hk3
  rw [HIM.out]
  simp only [Option.isSome_none]
  clear hp3 hk3 hx3
  go_wp2_with fail
  go_ret
  refine ⟨by rw [HZ.out]; rfl, vp, ?_, ?_⟩
  ·rw [HZ.out]; simpa using H3.out
  ·have h1 : Below b w w1 := HB1.out.mono (Nat.le_of_lt hlt)
   exact (h1.alloc (by omega) _).trans (HK3.out.below (by simp; omega) (fun k hk => by omega))
 | some n =>
  obtain ⟨h1, h2, h3⟩ := immT_some e hs
  have HZ : Hid (numT kind r = (true, (immT r).2, [⟨kind, (nextT r e).at_, n, [], ins0, tok0⟩])) := numT_yes kind e hs
  have HIM : Hid ((immT r).1 = some n) := hs
  generalize nextT r e = t at *
  clear hP hs hps h1 h2 h3
  go_enter Tryd.func80, Tryd.ntmps80
  go_wp2_with fail
  refine hN.mono ?_; rintro en w1 ⟨rfl, hb1⟩
  have HB1 := Lib.hid hb1
  have X2 : Hid (Box (w1.alloc (.cells #[.int .i64 kind, .int .i64 (t.at_ : Int), .int .i64 0, .string ⟨#[]⟩, .int .i64 0, .int .i64 0, .int .i64 0, .int .i64 0, .int .i64 0, .int .i64 0, .int .i64 0, .int .i64 0, .string ⟨#[]⟩] 55)) w1.heap.size (partL ⟨kind, t.at_, 0, [], ins0, tok0⟩)) := Box.new w1 (partL ⟨kind, t.at_, 0, [], ins0, tok0⟩) _
  have P2 := Lib.hid ((HP.out.go hb1).alloc (.cells #[.int .i64 kind, .int .i64 (t.at_ : Int), .int .i64 0, .string ⟨#[]⟩, .int .i64 0, .int .i64 0, .int .i64 0, .int .i64 0, .int .i64 0, .int .i64 0, .int .i64 0, .int .i64 0, .string ⟨#[]⟩] 55))
  have hs1 := hb1.size
  clear hb1
  go_wp2_with fail
  refine (immediate_any _ b e r vp ps w1.heap.size 2 _ P2.out X2.out (show 2 < 13 by decide) (by omega) ((HP.out.go HB1.out).not (Nat.le_refl _))).mono ?_; rintro en X ⟨rfl, hp3, hx3, hk3⟩
  rw [HIM.out] at hx3 ⊢
  simp only [Option.isSome_some] at hx3 ⊢
  rw [partL_set2] at hx3
  have hsx : w1.heap.size < X.heap.size := hx3.lt
  have HNB := Lib.hid ((HP.out.go HB1.out).not (Nat.le_refl _))
  have HBX : Hid (Below b w X) := by
   have h1 : Below b w w1 := HB1.out.mono (Nat.le_of_lt hlt)
   exact (h1.alloc (by omega) _).trans (hk3.below (by simp; omega) (fun k hk => by omega))
  clear hk3
  obtain ⟨xb, hxb⟩ : ∃ xb, xb = w1.heap.size := ⟨_, rfl⟩
  rw [← hxb] at hx3 hsx HNB
  have HX3 := Lib.hid hx3
  have HP3 : Hid (Par X.drew b e (immT r).2 vp ps) := hp3.drewN 1
  have hbxb : b ≠ xb := by omega
  generalize (⟨kind, t.at_, n, [], ins0, tok0⟩ : PartZ) = z at *
  clear hp3 hx3 P2 X2
  rw [← hxb]
  clear hxb
  go_wp2_with fail
  refine wp_region_tree (fun a x => _) (LinT.of [(0, true), (1, true), (2, true), (3, true), (5, true)] (.two 4 6 (LinT.of [(6, false), (7, false), (8, true), (9, true), (10, false)] .nil) (LinT.of [(4, false), (7, false), (8, true), (9, true), (10, false)] .nil))) (by kernel_rfl) (by kernel_rfl) rfl (by kernel_rfl) (fun x => Box x xb (partL z)) (fun _ _ h => h) ?_
  simp only [LinT.of, LinT.look, List.getElem?_toArray, List.getElem?_cons_succ, List.getElem?_cons_zero]
  have hS0 : Box X.drew xb (partL z) := HX3.out.drew
  iterate 4 (refine tree_take (v := ?_) hS0 (by rfl) ?_ ?_; rotate_left; (intro x hx; go_simp; try (with_reducible rfl)); (simp only [Act.put, List.setIfInBounds_toArray, List.set_cons_zero, List.set_cons_succ]))
  refine tree_get_box hS0 (by rfl) 55 (.tmp 5) rfl xb 0 rfl (partL z) [.int .i64 z.kind, .int .i64 (z.at_ : Int), .int .i64 z.num, .string (txt z.name), .int .i64 z.ins.op, .int .i64 z.ins.d, .int .i64 z.ins.a, .int .i64 z.ins.b, .int .i64 z.ins.imm, .int .i64 z.target.kind, .int .i64 z.target.num, .int .i64 (z.target.at_ : Int), .string (txt z.target.text)] (fun y hy => hy) (fun j v hj => by rw [Nat.zero_add]; exact hj) _ Tryd.underlying55 rfl 13 size_part rfl ?_
  simp only [Act.put, List.setIfInBounds_toArray, List.set_cons_zero, List.set_cons_succ]
  obtain ⟨i0, hi, hz0, hz1, hz2⟩ := info_parts info_part
  have HI := Lib.hid hi
  have HZ0 := Lib.hid hz0
  have HZ1 := Lib.hid hz1
  have HZ2 := Lib.hid hz2
  clear hi hz0 hz1 hz2
  have c3 := HP3.out.parts
  have hbl := HP3.out.lt
  have HLT := Lib.hid hbl
  have hbl2 : b < X.heap.size := hbl
  have hps := HPS.out
  have END : ∀ (o : Obj) (y3 : World) (v3 : Value), (X.drew.alloc o).grownBy y3 vp.ownBlock → y3.ownsRow (b + 1) 55 13 v3 (ps.length + 1) (partsL ps ++ partL z) →
    (Par (y3.setCell ⟨b, 3, none⟩ v3) b e (immT r).2 v3 (ps ++ [z]) ∧ Below b w (y3.setCell ⟨b, 3, none⟩ v3)) ∧ Box y3 xb (partL z) ∧ y3.cell? ⟨b, 3, none⟩ = some vp ∧ y3.frozen? ⟨b, 3, none⟩ = false ∧ b < y3.heap.size ∧ ∃ A3 k3, v3 = .slice A3 (ps.length + 1) k3 := by
   intro o y3 v3 hg ho
   have hne : some b ≠ vp.ownBlock := fun e => by have := (HP3.out.own.lt b e.symm).1; omega
   obtain ⟨q1, q2⟩ := HP3.out.app hg ho rfl
   obtain ⟨A3, k3, h3⟩ := (Row.of_own ho).form
   have hb2 := ((HP3.out.alloc o).go (Below.refl _ _))
   refine ⟨⟨q1, HBX.out.trans ((Below.refl b X).drew.trans q2)⟩, (HX3.out.drew.alloc o).grown hg (fun e => HNB.out e.symm), hg.cell (hb2.parts) hne, ?_, ?_, A3, k3, h3⟩
   ·rw [World.frozen?_of_block (w := X.drew.alloc o) (hg.block b hb2.lt hne)]; exact hb2.frozen 3
   ·have := hg.size; have := hb2.lt; omega
  have HEND := Lib.hid END
  clear END
  refine tree_two hS0 (by rfl) (by rfl) (fun K hK => ?_) (fun K hK => ?_)
  ·go_simp
   refine hK.out _ _ hS0 (fun _ => ?_)
   clear hK K
   try (simp only [Act.put, List.setIfInBounds_toArray, List.set_cons_zero, List.set_cons_succ])
   refine tree_call hS0 (by rfl) (fun K hK => ?_)
   go_simp
   have hSa : Box (X.drew.alloc (.cells #[.int .i64 z.kind, .int .i64 (z.at_ : Int), .int .i64 z.num, .string (txt z.name), .int .i64 z.ins.op, .int .i64 z.ins.d, .int .i64 z.ins.a, .int .i64 z.ins.b, .int .i64 z.ins.imm, .int .i64 z.target.kind, .int .i64 z.target.num, .int .i64 (z.target.at_ : Int), .string (txt z.target.text)] 55)) xb (partL z) := hS0.alloc _
   refine hK.out _ _ hSa (fun _ => ?_)
   clear hK K
   try (simp only [Act.put, List.setIfInBounds_toArray, List.set_cons_zero, List.set_cons_succ])
   refine tree_call hSa (by rfl) (fun K hK => ?_)
   refine wp_append_row _ (.tmp 19) (.tmp 21) 44 rfl (b + 1) 55 i0 _ 13 120 Tryd.underlying44 HI.out HZ0.out HZ1.out HZ2.out rfl (by omega) _ ps.length (partsL ps) rfl (HP3.out.own.alloc _) _ (.slice (some ⟨X.heap.size, 0, none⟩) 1 1) 1 (partL z) rfl (row_part X.drew z _) (partL_cell _) (by unfold maxLen; omega) (by omega) (by simp; omega) ?_
   intro v3 y3 hO3 hg3
   obtain ⟨PA, hS3, q3, q4, hy3, A3, k3, rfl⟩ := HEND.out _ _ _ hg3 hO3
   have HPA := Lib.hid PA
   clear hO3 hg3 PA
   refine hK.out _ _ hS3 (fun _ => ?_)
   clear hK K
   try (simp only [Act.put, List.setIfInBounds_toArray, List.set_cons_zero, List.set_cons_succ])
   iterate 2 (refine tree_take (v := ?_) hS3 (by rfl) ?_ ?_; rotate_left; (intro x hx; go_simp; try (with_reducible rfl)); (simp only [Act.put, List.setIfInBounds_toArray, List.set_cons_zero, List.set_cons_succ]))
   refine tree_call hS3 (by rfl) (fun K hK => ?_)
   go_simp
   refine hK.out _ _ (hS3.setCell_other hbxb.symm 3 _) (fun _ => ?_)
   clear hK K
   refine tree_done ?_
   try (simp only [Act.put, List.setIfInBounds_toArray, List.set_cons_zero, List.set_cons_succ])
   go_wp2_with fail
   go_ret
   exact ⟨by rw [HZ.out]; rfl, _, by rw [HZ.out]; exact HPA.out.1, HPA.out.2⟩
  ·go_simp
   have hSa : Box (X.drew.alloc (.cells #[.int .i64 z.kind, .int .i64 (z.at_ : Int), .int .i64 z.num, .string (txt z.name), .int .i64 z.ins.op, .int .i64 z.ins.d, .int .i64 z.ins.a, .int .i64 z.ins.b, .int .i64 z.ins.imm, .int .i64 z.target.kind, .int .i64 z.target.num, .int .i64 (z.target.at_ : Int), .string (txt z.target.text)] 55)) xb (partL z) := hS0.alloc _
   have c3a : (X.drew.alloc (.cells #[.int .i64 z.kind, .int .i64 (z.at_ : Int), .int .i64 z.num, .string (txt z.name), .int .i64 z.ins.op, .int .i64 z.ins.d, .int .i64 z.ins.a, .int .i64 z.ins.b, .int .i64 z.ins.imm, .int .i64 z.target.kind, .int .i64 z.target.num, .int .i64 (z.target.at_ : Int), .string (txt z.target.text)] 55)).cell? ⟨b, 3, none⟩ = some vp := (World.cell?_alloc_lt _ _ _ hbl).trans c3
   have c3b := (show (X.alloc (.cells #[.int .i64 z.kind, .int .i64 (z.at_ : Int), .int .i64 z.num, .string (txt z.name), .int .i64 z.ins.op, .int .i64 z.ins.d, .int .i64 z.ins.a, .int .i64 z.ins.b, .int .i64 z.ins.imm, .int .i64 z.target.kind, .int .i64 z.target.num, .int .i64 (z.target.at_ : Int), .string (txt z.target.text)] 55)).cell? ⟨b, 3, none⟩ = some vp from c3a)
   refine hK.out _ _ hSa (fun _ => ?_)
   clear hK K
   try (simp only [Act.put, List.setIfInBounds_toArray, List.set_cons_zero, List.set_cons_succ])
   refine tree_call hSa (by rfl) (fun K hK => ?_)
   go_simp
   refine hK.out _ _ hSa (fun _ => ?_)
   clear hK K
   try (simp only [Act.put, List.setIfInBounds_toArray, List.set_cons_zero, List.set_cons_succ])
   refine tree_call hSa (by rfl) (fun K hK => ?_)
   refine wp_append_row _ (.tmp 19) (.tmp 21) 44 rfl (b + 1) 55 i0 _ 13 120 Tryd.underlying44 HI.out HZ0.out HZ1.out HZ2.out rfl (by omega) _ ps.length (partsL ps) rfl (HP3.out.own.alloc _) _ (.slice (some ⟨X.heap.size, 0, none⟩) 1 1) 1 (partL z) rfl (row_part X.drew z _) (partL_cell _) (by unfold maxLen; omega) (by omega) (by simp; omega) ?_
   intro v3 y3 hO3 hg3
   obtain ⟨PA, hS3, q3, q4, hy3, A3, k3, rfl⟩ := HEND.out _ _ _ hg3 hO3
   have HPA := Lib.hid PA
   clear hO3 hg3 PA
   refine hK.out _ _ hS3 (fun _ => ?_)
   clear hK K
   try (simp only [Act.put, List.setIfInBounds_toArray, List.set_cons_zero, List.set_cons_succ])
   iterate 2 (refine tree_take (v := ?_) hS3 (by rfl) ?_ ?_; rotate_left; (intro x hx; go_simp; try (with_reducible rfl)); (simp only [Act.put, List.setIfInBounds_toArray, List.set_cons_zero, List.set_cons_succ]))
   refine tree_call hS3 (by rfl) (fun K hK => ?_)
   go_simp
   refine hK.out _ _ (hS3.setCell_other hbxb.symm 3 _) (fun _ => ?_)
   clear hK K
   refine tree_done ?_
   try (simp only [Act.put, List.setIfInBounds_toArray, List.set_cons_zero, List.set_cons_succ])
   go_wp2_with fail
   go_ret
   exact ⟨by rw [HZ.out]; rfl, _, by rw [HZ.out]; exact HPA.out.1, HPA.out.2⟩
end Go.Proofs.YtcaibahniheohaaDoor.Words

/- Contract of package asm's byteList. -/
namespace Go.Proofs.YtcaibahniheohaaDoor.Words
set_option maxRecDepth 100000
open Go.RowKit Go.Shelf Go.Lib
set_option linter.unusedVariables false
set_option linter.unusedSimpArgs false
def parMu (b : Nat) (w : World) : Nat := match w.cell? ⟨b, 0, none⟩ with | some (.slice _ n _) => n | _ => 0
theorem Par.mu {w : World} {b e : Nat} {r : List Tok} {vp : Value} {ps : List PartZ} (h : Par w b e r vp ps) : parMu b w = r.length := by
  obtain ⟨vt, vn, h1, h2, _⟩ := h
  obtain ⟨A, c, rfl⟩ := h2.form
  unfold parMu
  rw [h1.cell (k := 0) rfl]
theorem numT_len (kind : Int) (r : List Tok) : (numT kind r).2.2.length + (numT kind r).2.1.length ≤ r.length := by
  cases r with
  | nil => simp [numT]
  | cons t ts =>
    have h : numT kind (t :: ts) = if t.kind = 2 then (true, ts, [⟨kind, t.at_, t.num, [], ins0, tok0⟩]) else (false, t :: ts, []) := rfl
    rw [h]
    split
    · simp; omega
    · simp
theorem signT_len (c : List UInt8) (r : List Tok) : (signT c r).2.length ≤ r.length := by
  cases r with
  | nil => simp [signT]
  | cons t ts =>
    have h : signT c (t :: ts) = if isS t c = true then (true, ts) else (false, t :: ts) := rfl
    rw [h]
    split
    · simp
    · simp
theorem byteF_len : ∀ f ok r, (byteF f ok r).2.2.length + (byteF f ok r).2.1.length ≤ r.length
  | 0, ok, r => by simp [byteF]
  | f + 1, ok, r => by
    unfold byteF
    split
    · split
      · have h1 := byteF_len f (numT 4 (signT [44] r).2).1 (numT 4 (signT [44] r).2).2.1
        have h2 := numT_len 4 (signT [44] r).2
        have h3 := signT_len [44] r
        simp only [List.length_append]
        omega
      · simp
    · simp
theorem bytesT_len (r : List Tok) : (bytesT r).2.2.length + (bytesT r).2.1.length ≤ r.length := by
  unfold bytesT
  have h1 := byteF_len r.length (numT 4 r).1 (numT 4 r).2.1
  have h2 := numT_len 4 r
  simp only [List.length_append]
  omega
set_option maxHeartbeats 4000000 in
theorem byteList_any (w : World) (b e : Nat) (r : List Tok) (vp : Value) (ps : List PartZ) (hP : Par w b e r vp ps) (hps : ps.length + r.length ≤ 1000000) :
    Calls Tryd.prog 81 #[.pointer (some ⟨b, 0, none⟩)] w (AppOut w b e ps (bytesT r)) := by
  have HPS := Lib.hid hps
  have hN := asmNumber_any 4 w b e r vp ps hP (by omega)
  have HL := Lib.hid (numT_len 4 r)
  obtain ⟨Z, hZ⟩ : ∃ Z, Z = bytesT r := ⟨_, rfl⟩
  have HZ := Lib.hid hZ
  rw [← hZ]
  clear hP hps hZ
  go_enter Tryd.func81, Tryd.ntmps81
  go_wp2_with fail
  refine hN.mono ?_; rintro en w1 ⟨rfl, vp1, hp1, hb1⟩
  have HP1 := Lib.hid hp1
  have HB1 := Lib.hid hb1
  clear hp1 hb1
  go_wp2_with fail
  go_loopw [3] (fun q wr => ∃ (ok : Bool) (f : Nat) (r1 : List Tok) (vp1 : Value) (qs : List PartZ), q = .bool ok ∧ Par wr b e r1 vp1 (ps ++ qs) ∧ Below b w wr ∧ Z = ((byteF f ok r1).1, (byteF f ok r1).2.1, qs ++ (byteF f ok r1).2.2) ∧ r1.length ≤ f ∧ qs.length + r1.length ≤ r.length) (fun _ wr => parMu b wr)
  case atStart => exact ⟨_, r.length, _, vp1, _, rfl, HP1.out, HB1.out, HZ.out, by have := HL.out; omega, HL.out⟩
  case round =>
    obtain ⟨ok, f, r1, vp2, qs, rfl, hp, hbw, hz, hf, hlen⟩ := hrel
    have HP2 := Lib.hid hp
    have HB2 := Lib.hid hbw
    have HZ2 := Lib.hid hz
    have HF := Lib.hid hf
    have HLN := Lib.hid hlen
    cases ok
    · have hz2 : Hid (Z = (false, r1, qs)) := by
        show _ = _
        rw [hz]
        cases f with
        | zero => simp [byteF]
        | succ f => unfold byteF; simp
      clear hp hbw hz hf hlen
      go_wp2_with fail
      go_ret
      exact ⟨by rw [hz2.out]; rfl, vp2, by rw [hz2.out]; exact HP2.out, HB2.out⟩
    · have hS := sign_any wr b e r1 vp2 (ps ++ qs) [44] hp
      cases hs : (signT [44] r1).1
      · have hz2 : Hid (Z = (true, r1, qs)) := by
          show _ = _
          rw [hz]
          cases f with
          | zero => simp [byteF]
          | succ f => unfold byteF; simp [hs]
        rw [hs] at hS
        have HSR := Lib.hid (signT_no hs)
        have hlt := hp.lt
        clear hp hbw hz hf hlen hs
        go_wp2_with fail
        refine hS.mono ?_; rintro en w3 ⟨rfl, hp3, hk3⟩
        have HP3 := Lib.hid hp3
        have HK3 := Lib.hid hk3
        clear hp3 hk3
        go_wp2_with fail
        go_ret
        refine ⟨by rw [hz2.out]; rfl, vp2, ?_, HB2.out.trans (HK3.out.below (Nat.le_of_lt hlt) (fun k hk => by omega))⟩
        rw [hz2.out]
        have := HP3.out
        rw [HSR.out] at this
        exact this
      · obtain ⟨t, ht⟩ := signT_yes hs
        have hl1 : r1.length = (signT [44] r1).2.length + 1 := by conv => lhs; rw [ht]
                                                                  rfl
        obtain ⟨g, rfl⟩ : ∃ g, f = g + 1 := ⟨f - 1, by omega⟩
        have HZ3 : Hid (Z = ((byteF g (numT 4 (signT [44] r1).2).1 (numT 4 (signT [44] r1).2).2.1).1, (byteF g (numT 4 (signT [44] r1).2).1 (numT 4 (signT [44] r1).2).2.1).2.1, (qs ++ (numT 4 (signT [44] r1).2).2.2) ++ (byteF g (numT 4 (signT [44] r1).2).1 (numT 4 (signT [44] r1).2).2.1).2.2)) := by
          show _ = _
          rw [hz]
          conv => lhs; unfold byteF
          simp [hs]
        have HL3 := Lib.hid (numT_len 4 (signT [44] r1).2)
        have HL1 := Lib.hid hl1
        rw [hs] at hS
        have hlt := hp.lt
        have hmu := Lib.hid hp.mu
        clear hp hbw hz hf hlen hs ht hl1 HZ2
        go_wp2_with fail
        refine hS.mono ?_; rintro en w3 ⟨rfl, hp3, hk3⟩
        have HK3 := Lib.hid (HB2.out.trans (hk3.below (Nat.le_of_lt hlt) (fun k hk => by omega)))
        have hN2 := asmNumber_any 4 w3 b e _ _ _ hp3 (by have := HPS.out; have := HLN.out; simp only [List.length_append]; omega)
        clear hp3 hk3
        go_wp2_with fail
        refine hN2.mono ?_; rintro en w4 ⟨rfl, vp4, hp4, hb4⟩
        rw [List.append_assoc] at hp4
        have HP4 := Lib.hid hp4
        have HB4 := Lib.hid (HK3.out.trans hb4)
        clear hp4 hb4
        go_wp2_with fail
        go_roundw
        case rel => exact ⟨_, g, _, vp4, _, rfl, HP4.out, HB4.out, HZ3.out, by have := HL3.out; have := HL1.out; have := HF.out; omega, by have := HL3.out; have := HL1.out; have := HLN.out; simp only [List.length_append]; omega⟩
        case measure => rw [hmu.out, HP4.out.mu]; have := HL3.out; have := HL1.out; omega
end Go.Proofs.YtcaibahniheohaaDoor.Words

/- Contract of the document's own answer on forms. No conditions. -/
namespace Go.Proofs.YtcaibahniheohaaDoor.Words
set_option maxRecDepth 100000
open Go.RowKit
set_option maxHeartbeats 400000 in
theorem refForm_any (op : Int) (w : World) :
  Calls Tryd.prog 44 #[.int .i64 op] w fun e w' => e = .returned (.int .i64 (formZ op)) ∧ w = w' := by
 have hc := formZ_cases op
 go_enter Tryd.func44, Tryd.ntmps44
 go_wp2
 all_goals
  go_ret
  exact ⟨ret_int (by (try simp only [beq_iff_eq, beq_eq_false_iff_ne, ne_eq] at *); omega), rfl⟩
end Go.Proofs.YtcaibahniheohaaDoor.Words

/- Contracts of package isa and of the document's own answers on forms and on which instructions may be: Form, Right. No conditions. -/
namespace Go.Proofs.YtcaibahniheohaaDoor.Words
set_option maxRecDepth 100000
open Go.RowKit
theorem results_tmp4 {fn : Func} {t u v x : Tmp} (h : fn.results = #[.tmp t, .tmp u, .tmp v, .tmp x]) (tmps : Array Value) (P : Program) (w : World) :
  (results fn tmps).run P w = .ok (.tuple #[tmps.getD t undef, tmps.getD u undef, tmps.getD v undef, tmps.getD x undef]) w := by simp [results, h]
theorem ret_ints {k l : IntKind} {a b c d : Int} (h : a = b) (h' : c = d) : Ending.returned (.tuple #[.int k a, .int l c]) = .returned (.tuple #[.int k b, .int l d]) := by rw [h, h']
set_option maxHeartbeats 400000 in
theorem form_any (op : Int) (w : World) :
  Calls Tryd.prog 82 #[.int .i64 op] w fun e w' => e = .returned (.int .i64 (formZ op)) ∧ w = w' := by
 have hc := formZ_cases op
 go_enter Tryd.func82, Tryd.ntmps82
 go_wp2
 all_goals
  go_ret
  exact ⟨ret_int (by (try simp only [beq_iff_eq, beq_eq_false_iff_ne, ne_eq] at *); omega), rfl⟩
set_option maxHeartbeats 400000 in
theorem fits_any (n lo hi : Int) (had : Bool) (w : World) :
  Calls Tryd.prog 85 #[.int .i64 n, .int .i64 lo, .int .i64 hi, .bool had] w fun e w' => e = .returned (.bool (fitsB n lo hi had)) ∧ w = w' := by
 rcases had with _ | _
 ·go_enter Tryd.func85, Tryd.ntmps85
  go_wp2
  all_goals
   go_ret
   exact ⟨ret_bool_iff (by simp [fitsB]), rfl⟩
 ·go_enter Tryd.func85, Tryd.ntmps85
  go_wp2
  all_goals
   go_ret
   exact ⟨ret_bool_iff (by simp [fitsB]; try omega), rfl⟩
set_option maxHeartbeats 400000 in
theorem limits_any (op : Int) (w : World) :
  Calls Tryd.prog 84 #[.int .i64 op] w fun e w' => e = .returned (.tuple #[.int .i64 (lowI op), .int .i64 (highI op)]) ∧ w = w' := by
 have hc := lowI_cases op
 go_enter Tryd.func84, Tryd.ntmps84
 go_wp2
 all_goals
  go_ret2
  exact ⟨ret_ints (by (try simp only [beq_iff_eq, beq_eq_false_iff_ne, ne_eq] at *); omega) (by (try simp only [beq_iff_eq, beq_eq_false_iff_ne, ne_eq] at *); omega), rfl⟩
set_option maxHeartbeats 400000 in
theorem fieldsOf_any (f : Int) (w : World) (h0 : 0 ≤ f) (h8 : f ≤ 8) :
  Calls Tryd.prog 83 #[.int .i64 f] w fun e w' => e = .returned (.agg #[.bool (hasD f), .bool (hasA f), .bool (hasB f), .bool (hasI f)]) ∧ Below w.heap.size w w' := by
 have hf : f = 0 ∨ f = 1 ∨ f = 2 ∨ f = 3 ∨ f = 4 ∨ f = 5 ∨ f = 6 ∨ f = 7 ∨ f = 8 := by omega
 rcases hf with rfl | rfl | rfl | rfl | rfl | rfl | rfl | rfl | rfl
 all_goals
  go_enter Tryd.func83, Tryd.ntmps83
  go_wp2
  refine bodyPost_ret (v := .agg #[.bool (hasD _), .bool (hasA _), .bool (hasB _), .bool (hasI _)]) (by simp [results, Tryd.results83, go_sem]; try decide) rfl ⟨rfl, ?_⟩
  exact (Below.refl _ _).alloc (Nat.le_refl _) _
set_option maxHeartbeats 400000 in
theorem has_any (f : Int) (w : World) :
  Calls Tryd.prog 45 #[.int .i64 f] w fun e w' => e = .returned (.tuple #[.bool (hasD f), .bool (hasA f), .bool (hasB f), .bool (hasI f)]) ∧ w = w' := by
 by_cases hf : f = 1 ∨ f = 2 ∨ f = 3 ∨ f = 4 ∨ f = 5 ∨ f = 6 ∨ f = 7
 ·rcases hf with rfl | rfl | rfl | rfl | rfl | rfl | rfl
  all_goals
   go_enter Tryd.func45, Tryd.ntmps45
   go_wp2
   refine bodyPost_ret (results_tmp4 rfl _ _ _) rfl ⟨rfl, rfl⟩
 ·have h1 : (f == 1) = false := by simp; omega
  have h2 : (f == 2) = false := by simp; omega
  have h3 : (f == 3) = false := by simp; omega
  have h4 : (f == 4) = false := by simp; omega
  have h5 : (f == 5) = false := by simp; omega
  have h6 : (f == 6) = false := by simp; omega
  have h7 : (f == 7) = false := by simp; omega
  have e1 : hasD f = false := by unfold hasD; simp; omega
  have e2 : hasA f = false := by unfold hasA; simp; omega
  have e3 : hasB f = false := by unfold hasB; simp; omega
  have e4 : hasI f = false := by unfold hasI; simp; omega
  rw [e1, e2, e3, e4]
  clear e1 e2 e3 e4
  go_enter Tryd.func45, Tryd.ntmps45
  go_wp2
  refine bodyPost_ret (results_tmp4 rfl _ _ _) rfl ⟨rfl, rfl⟩
theorem fitsB_reg (n : Int) (had : Bool) : fitsB n 0 15 had = (n == 0 || (had && decide (0 < n) && decide (n ≤ 15))) := by
 rw [Bool.eq_iff_iff]; cases had <;> simp [fitsB]; omega
set_option maxHeartbeats 400000 in
theorem reg_any (n : Int) (had : Bool) (w : World) :
  Calls Tryd.prog 46 #[.int .i64 n, .bool had] w fun e w' => e = .returned (.bool (fitsB n 0 15 had)) ∧ w = w' := by
 rw [fitsB_reg]
 by_cases h0 : n = 0
 ·subst h0
  go_enter Tryd.func46, Tryd.ntmps46
  go_wp2
  go_ret
  exact ⟨rfl, rfl⟩
 ·have h1 : (n == 0) = false := by simpa using h0
  have h2 : ¬ n = 0 := h0
  rcases had with _ | _
  ·go_enter Tryd.func46, Tryd.ntmps46
   go_wp2
   all_goals
    go_ret
    exact ⟨ret_bool (by simp [h1]), rfl⟩
  ·by_cases h3 : 0 < n
   ·go_enter Tryd.func46, Tryd.ntmps46
    go_wp2
    all_goals
     go_ret
     exact ⟨ret_bool (by simp [h1, h3]), rfl⟩
   ·have h4 : n < 0 := by omega
    go_enter Tryd.func46, Tryd.ntmps46
    go_wp2
    all_goals
     go_ret
     exact ⟨ret_bool (by simp; omega), rfl⟩
end Go.Proofs.YtcaibahniheohaaDoor.Words

/- Contract of package asm's instruction: an operation's fields, and the part that they make. -/
namespace Go.Proofs.YtcaibahniheohaaDoor.Words
set_option maxRecDepth 100000
open Go.RowKit Go.Shelf Go.Lib
set_option linter.unusedVariables false
set_option linter.unusedSimpArgs false
def Shapes (w : World) : Prop := 2 < w.heap.size ∧ ∀ k t, shapesZ[k]? = some t → w.cell? ⟨2, k, none⟩ = some (.string (txt t))
theorem Shapes.below {w w' : World} (h : Shapes w) (hb : Below w.heap.size w w') : Shapes w' :=
 ⟨Nat.lt_of_lt_of_le h.1 hb.size, fun k t ht => below_cell hb h.1 (h.2 k t ht)⟩
theorem shape_at (op : Int) : shapesZ[(formZ op).toNat]? = some (shapeZ op) := by
 have := formZ_range op
 unfold shapeZ
 rw [List.getD_eq_getElem?_getD, List.getElem?_eq_getElem (show (formZ op).toNat < shapesZ.length by show _ < 9; omega)]
 rfl
theorem shape_ok (op : Int) : ∀ c ∈ shapeZ op, c = 68 ∨ c = 65 ∨ c = 66 ∨ c = 78 ∨ c = 84 ∨ c = 44 ∨ c = 40 ∨ c = 41 := by
 have h : ∀ t ∈ shapesZ, ∀ c ∈ t, c = 68 ∨ c = 65 ∨ c = 66 ∨ c = 78 ∨ c = 84 ∨ c = 44 ∨ c = 40 ∨ c = 41 := by decide
 exact h _ (List.mem_iff_getElem?.2 ⟨_, shape_at op⟩)
theorem shape_len (op : Int) : (shapeZ op).length ≤ 6 := by
 have h : ∀ t ∈ shapesZ, t.length ≤ 6 := by decide
 exact h _ (List.mem_iff_getElem?.2 ⟨_, shape_at op⟩)
theorem regT_len (r : List Tok) : (regT r).2.length ≤ r.length := by
 cases r with
 | nil => simp [regT]
 | cons t ts =>
  have h : regT (t :: ts) = match regZ t.text with | some n => (some n, ts) | none => (none, t :: ts) := rfl
  rw [h]
  cases regZ t.text <;> simp
theorem immT_len (r : List Tok) : (immT r).2.length ≤ r.length := by
 cases r with
 | nil => simp [immT]
 | cons t ts =>
  have h : immT (t :: ts) = if t.kind = 2 then (some t.num, ts) else (none, t :: ts) := rfl
  rw [h]
  split <;> simp
theorem fieldT_len (c : Int) (x : PartZ) (r : List Tok) : (fieldT c x r).2.2.length ≤ r.length := by
 have h1 := regT_len r
 have h2 := immT_len r
 have h3 := signT_len [UInt8.ofNat c.toNat] r
 unfold fieldT
 split
 ·generalize regT r = Q at *; obtain ⟨o, ts⟩ := Q; cases o <;> exact h1
 split
 ·generalize regT r = Q at *; obtain ⟨o, ts⟩ := Q; cases o <;> exact h1
 split
 ·generalize regT r = Q at *; obtain ⟨o, ts⟩ := Q; cases o <;> exact h1
 split
 ·generalize immT r = Q at *; obtain ⟨o, ts⟩ := Q; cases o <;> exact h2
 split
 ·cases r with
  | nil => simp
  | cons t ts =>
   by_cases hk : t.kind = 1
   ·simp [hk]
   ·simp only [hk, if_false]
    generalize immT (t :: ts) = Q at *; obtain ⟨o, ts2⟩ := Q; cases o <;> exact h2
 ·exact h3
theorem fieldsT_len : ∀ (l : List UInt8) (x : PartZ) (r : List Tok), (fieldsT l x r).2.2.length ≤ r.length
 | [], x, r => Nat.le_refl _
 | c :: cs, x, r => by
  unfold fieldsT
  have h1 := fieldT_len c.toNat x r
  split
  ·exact Nat.le_trans (fieldsT_len cs _ _) h1
  ·exact h1
theorem fieldsT_drop {l : List UInt8} {k : Nat} {c : UInt8} (h : l[k]? = some c) (x : PartZ) (r : List Tok) : fieldsT (l.drop k) x r = if (fieldT c.toNat x r).1 = true then fieldsT (l.drop (k + 1)) (fieldT c.toNat x r).2.1 (fieldT c.toNat x r).2.2 else fieldT c.toNat x r := by
 have hd : l.drop k = c :: l.drop (k + 1) := by
  obtain ⟨hk, rfl⟩ := List.getElem?_eq_some_iff.1 h
  exact List.drop_eq_getElem_cons hk
 rw [hd]; rfl
theorem ascii_at {l : List UInt8} {k : Nat} {c : UInt8} (h : l[k]? = some c) (hc : c.toNat < 128) : runeR (l.drop k) = c.toNat ∧ wideR (l.drop k) = 1 := by
 have hd : l.drop k = c :: l.drop (k + 1) := by
  obtain ⟨hk, rfl⟩ := List.getElem?_eq_some_iff.1 h
  exact List.drop_eq_getElem_cons hk
 unfold runeR wideR
 rw [hd, Lib.decodeL_ascii _ _ hc]
 exact ⟨rfl, rfl⟩
theorem insT_no {op : Int} {at_ : Nat} {r : List Tok} {z : PartZ} {r' : List Tok} (h : fieldsT (shapeZ op) ⟨2, at_, 0, [], ⟨op, 0, 0, 0, 0⟩, tok0⟩ r = (false, z, r')) : insT op at_ r = (false, r', []) := by
 unfold insT; rw [h]; simp
theorem insT_yes {op : Int} {at_ : Nat} {r : List Tok} {z : PartZ} {r' : List Tok} (h : fieldsT (shapeZ op) ⟨2, at_, 0, [], ⟨op, 0, 0, 0, 0⟩, tok0⟩ r = (true, z, r')) : insT op at_ r = (true, r', [z]) := by
 unfold insT; rw [h]; simp
set_option maxHeartbeats 4000000 in
theorem instruction_any (op : Int) (at_ : Nat) (w : World) (b e : Nat) (r : List Tok) (vp : Value) (ps : List PartZ) (hP : Par w b e r vp ps) (hS : Shapes w) (hgb : 2 < b) (hps : ps.length + r.length ≤ 1000000) :
  Calls Tryd.prog 79 #[.pointer (some ⟨b, 0, none⟩), .int .i64 op, .int .i64 (at_ : Int)] w (AppOut w b e ps (insT op at_ r)) := by
 have HP := Lib.hid hP
 have hlt := hP.lt
 have HPS := Lib.hid hps
 have cF := form_any op
 obtain ⟨f0, f8⟩ := formZ_range op
 obtain ⟨K, hK⟩ : ∃ K : Nat, formZ op = (K : Int) := ⟨(formZ op).toNat, by omega⟩
 have hKt : (formZ op).toNat = K := by omega
 have hsh := hS.2 (formZ op).toNat (shapeZ op) (shape_at op)
 rw [hKt] at hsh
 have HSO := Lib.hid (shape_ok op)
 have HSL := Lib.hid (shape_len op)
 obtain ⟨F, hF⟩ : ∃ F, F = fieldsT (shapeZ op) ⟨2, at_, 0, [], ⟨op, 0, 0, 0, 0⟩, tok0⟩ r := ⟨_, rfl⟩
 have HF := Lib.hid hF
 have HNO : Hid (∀ z r', F = (false, z, r') → insT op at_ r = (false, r', [])) := fun z r' h => insT_no (hF.symm.trans h)
 have HYES : Hid (∀ z r', F = (true, z, r') → insT op at_ r = (true, r', [z])) := fun z r' h => insT_yes (hF.symm.trans h)
 have X2 : Hid (Box (w.alloc (.cells #[.int .i64 2, .int .i64 (at_ : Int), .int .i64 0, .string ⟨#[]⟩, .int .i64 op, .int .i64 0, .int .i64 0, .int .i64 0, .int .i64 0, .int .i64 0, .int .i64 0, .int .i64 0, .string ⟨#[]⟩] 55)) w.heap.size (partL ⟨2, at_, 0, [], ⟨op, 0, 0, 0, 0⟩, tok0⟩)) := Box.new w (partL ⟨2, at_, 0, [], ⟨op, 0, 0, 0, 0⟩, tok0⟩) _
 have P2 := Lib.hid (hP.alloc (.cells #[.int .i64 2, .int .i64 (at_ : Int), .int .i64 0, .string ⟨#[]⟩, .int .i64 op, .int .i64 0, .int .i64 0, .int .i64 0, .int .i64 0, .int .i64 0, .int .i64 0, .int .i64 0, .string ⟨#[]⟩] 55))
 have HNB := Lib.hid (hP.not (Nat.le_refl w.heap.size))
 have hgw : 2 < w.heap.size := hS.1
 have HVB : Hid (∀ g, vp.ownBlock = some g → g < w.heap.size) := fun g hg => (hP.own.lt g hg).2
 have ixk : (0 : Int) ≤ K ∧ (K : Int) < 9 := by omega
 obtain ⟨ix0, ix1⟩ := ixk
 generalize insT op at_ r = Z at *
 rw [hK] at cF
 generalize shapeZ op = sh at *
 clear hP hS hps hF f0 f8 hK hKt
 go_enter Tryd.func79, Tryd.ntmps79
 go_wp2_with fail
 refine (cF _).mono ?_; rintro en w2 ⟨rfl, rfl⟩
 have hsh2 : (w.alloc (.cells #[.int .i64 2, .int .i64 (at_ : Int), .int .i64 0, .string ⟨#[]⟩, .int .i64 op, .int .i64 0, .int .i64 0, .int .i64 0, .int .i64 0, .int .i64 0, .int .i64 0, .int .i64 0, .string ⟨#[]⟩] 55)).cell? ⟨2, K, none⟩ = some (.string (txt sh)) := (World.cell?_alloc_lt _ _ _ hgw).trans hsh
 have hsz2 : (w.alloc (.cells #[.int .i64 2, .int .i64 (at_ : Int), .int .i64 0, .string ⟨#[]⟩, .int .i64 op, .int .i64 0, .int .i64 0, .int .i64 0, .int .i64 0, .int .i64 0, .int .i64 0, .int .i64 0, .string ⟨#[]⟩] 55)).heap.size = w.heap.size + 1 := by simp
 have B2 : Hid (Below w.heap.size w (w.alloc (.cells #[.int .i64 2, .int .i64 (at_ : Int), .int .i64 0, .string ⟨#[]⟩, .int .i64 op, .int .i64 0, .int .i64 0, .int .i64 0, .int .i64 0, .int .i64 0, .int .i64 0, .int .i64 0, .string ⟨#[]⟩] 55))) := (Below.refl _ _).alloc (Nat.le_refl _) _
 generalize (w.alloc (.cells #[.int .i64 2, .int .i64 (at_ : Int), .int .i64 0, .string ⟨#[]⟩, .int .i64 op, .int .i64 0, .int .i64 0, .int .i64 0, .int .i64 0, .int .i64 0, .int .i64 0, .int .i64 0, .string ⟨#[]⟩] 55)) = w2 at *
 clear hsh
 go_wp2_with fail
 go_loopw [] (fun wr => ∃ (k : Nat) (z : PartZ) (r1 : List Tok), Par wr b e r1 vp ps ∧ Box wr w.heap.size (partL z) ∧ wr.heap[w.heap.size + 1]? = some (.stringIter (txt sh) k) ∧ Below b w wr ∧ fieldsT (sh.drop k) z r1 = F ∧ k ≤ sh.length ∧ r1.length ≤ r.length) (fun wr => (txt sh).size - wr.iterPos (w.heap.size + 1))
 case atStart =>
  have hi := World.iter_heap w2 (txt sh) 0
  rw [hsz2] at hi
  have hal : Below w2.heap.size w2 (w2.iter (txt sh) 0) := (Below.refl _ w2).alloc (Nat.le_refl _) _
  exact ⟨0, _, r, P2.out.go hal, X2.out.below hal (by omega), hi, (B2.out.mono (Nat.le_of_lt hlt)).trans (hal.mono (by omega)), HF.out.symm, Nat.zero_le _, Nat.le_refl _⟩
 case round =>
  obtain ⟨k, z, r1, hp, hx, hit, hbw, hn, hk, hl⟩ := hrel
  have HP1 := Lib.hid hp
  have HX1 := Lib.hid hx
  have HIT := Lib.hid hit
  have HBW := Lib.hid hbw
  have HN := Lib.hid hn
  have HL := Lib.hid hl
  have HK := Lib.hid hk
  have hsz : w.heap.size + 1 < wr.heap.size := (Array.getElem?_eq_some_iff.1 hit).1
  have hts := txt_sz sh
  by_cases hlk : k < sh.length
  ·obtain ⟨c, hc⟩ : ∃ c, sh[k]? = some c := ⟨_, List.getElem?_eq_getElem hlk⟩
   have hcm : c ∈ sh := List.mem_iff_getElem?.2 ⟨k, hc⟩
   have hco := HSO.out c hcm
   have hc128 : c.toNat < 128 := by rcases hco with rfl | rfl | rfl | rfl | rfl | rfl | rfl | rfl <;> decide
   have hcI : (c.toNat : Int) = 68 ∨ (c.toNat : Int) = 65 ∨ (c.toNat : Int) = 66 ∨ (c.toNat : Int) = 78 ∨ (c.toNat : Int) = 84 ∨ (c.toNat : Int) = 44 ∨ (c.toNat : Int) = 40 ∨ (c.toNat : Int) = 41 := by
    rcases hco with rfl | rfl | rfl | rfl | rfl | rfl | rfl | rfl <;> decide
   have hnx := fun ty => next_rune (P := Tryd.prog) hit (show k < (txt sh).size by rw [hts]; exact hlk) ty
   obtain ⟨q1, q2⟩ := ascii_at hc hc128
   rw [txt_data, q1, q2] at hnx
   have HST := Lib.hid (fieldsT_drop hc z r1)
   have KI : Hid (KeepS (fun j => j = w.heap.size + 1) wr (wr.iterAt (w.heap.size + 1) (txt sh) (k + 1))) := KeepS.of_grown (iterAt_grown _ _ _ _) (fun j hj => by injection hj with hj; exact hj.symm)
   have hit2 := Lib.hid (Lib.iterAt_heap wr (w.heap.size + 1) (txt sh) k (k + 1) hit)
   have hsz2b : (wr.iterAt (w.heap.size + 1) (txt sh) (k + 1)).heap.size = wr.heap.size := Lib.iterAt_size _ _ _ _
   have hpI : Par (wr.iterAt (w.heap.size + 1) (txt sh) (k + 1)) b e r1 vp ps := hp.keepS KI.out (fun j hj => by omega) (fun g hg e => by have := HVB.out g hg; omega)
   have hxI : Box (wr.iterAt (w.heap.size + 1) (txt sh) (k + 1)) w.heap.size (partL z) := hx.keepS KI.out (fun e => by omega)
   have BI := Lib.hid (hbw.trans (KI.out.below (show b ≤ wr.heap.size by omega) (fun j hj => by omega)))
   have hFd := field_any (c.toNat : Int) hcI _ b e r1 vp ps w.heap.size z hpI hxI hlt HNB.out
   have hln := fieldT_len (c.toNat : Int) z r1
   have HLN := Lib.hid hln
   have c0 : (0 : Int) ≤ c.toNat ∧ (c.toNat : Int) ≤ 1114111 := by omega
   generalize (c.toNat : Int) = C at *
   generalize fieldT C z r1 = FT at *
   obtain ⟨ok, z2, r2⟩ := FT
   have HSZ2 := Lib.hid hsz2b
   clear hp hx hit hbw hn hk hl hc hcm hco hc128 hcI q1 q2 hpI hxI hln hsz2b
   cases ok
   ·have hz : Hid (Z = (false, r2, [])) := HNO.out z2 r2 (by rw [← HN.out, HST.out]; simp)
    go_wp2_with fail
    refine hFd.mono ?_; rintro en w3 ⟨rfl, hp3, hx3, hk3⟩
    have HP3 := Lib.hid hp3
    have HB3 := Lib.hid (BI.out.trans (hk3.below (by rw [HSZ2.out]; omega) (fun j hj => by omega)))
    clear hp3 hx3 hk3
    go_wp2_with fail
    go_ret
    exact ⟨by rw [hz.out]; rfl, vp, by rw [hz.out]; simpa using HP3.out, HB3.out⟩
   ·have hz : Hid (fieldsT (sh.drop (k + 1)) z2 r2 = F) := by show _ = _; rw [← HN.out, HST.out]; simp
    go_wp2_with fail
    refine hFd.mono ?_; rintro en w3 ⟨rfl, hp3, hx3, hk3⟩
    have HP3 := Lib.hid hp3
    have HX3 := Lib.hid hx3
    have HB3 := Lib.hid (BI.out.trans (hk3.below (by rw [HSZ2.out]; omega) (fun j hj => by omega)))
    have hit3 : w3.heap[w.heap.size + 1]? = some (.stringIter (txt sh) (k + 1)) := (hk3.block _ (by rw [HSZ2.out]; exact hsz) (fun e => by omega)).trans hit2.out
    clear hp3 hx3 hk3
    go_wp2_with fail
    go_roundw
    case rel => exact ⟨k + 1, z2, r2, HP3.out, HX3.out, hit3, HB3.out, hz.out, by omega, Nat.le_trans HLN.out HL.out⟩
    case measure =>
     simp only [World.iterPos, hit3, HIT.out]
     omega
  ·have hnx := fun ty => next_none (P := Tryd.prog) hit (show ¬ k < (txt sh).size by rw [hts]; exact hlk) ty
   have hz : Hid (Z = (true, r1, [z])) := HYES.out z r1 (by
    rw [← HN.out, List.drop_eq_nil_of_le (by omega)]; rfl)
   have HZ := hz
   have HX3 := HX1
   have HP3 : Hid (Par wr.drew b e r1 vp ps) := hp.drewN 1
   have HBX := HBW
   have hbxb : b ≠ w.heap.size := by omega
   have hps0 : ps.length ≤ 1000000 := by have := HPS.out; omega
   have HPS := Lib.hid hps0
   clear hp hx hit hbw hn hk hl hps0 HN
   go_wp2_with fail
   refine wp_region_tree (fun a x => _) (LinT.of [(0, true), (1, true), (2, true), (3, true), (5, true)] (.two 4 6 (LinT.of [(6, false), (7, false), (8, true), (9, true), (10, false)] .nil) (LinT.of [(4, false), (7, false), (8, true), (9, true), (10, false)] .nil))) (by kernel_rfl) (by kernel_rfl) rfl (by kernel_rfl) (fun x => Box x w.heap.size (partL z)) (fun _ _ h => h) ?_
   simp only [LinT.of, LinT.look, List.getElem?_toArray, List.getElem?_cons_succ, List.getElem?_cons_zero]
   have hS0 : Box wr.drew w.heap.size (partL z) := HX3.out.drew
   iterate 4 (refine tree_take (v := ?_) hS0 (by rfl) ?_ ?_; rotate_left; (intro x hx; go_simp; try (with_reducible rfl)); (simp only [Act.put, List.setIfInBounds_toArray, List.set_cons_zero, List.set_cons_succ]))
   refine tree_get_box hS0 (by rfl) 55 (.tmp 7) rfl w.heap.size 0 rfl (partL z) [.int .i64 z.kind, .int .i64 (z.at_ : Int), .int .i64 z.num, .string (txt z.name), .int .i64 z.ins.op, .int .i64 z.ins.d, .int .i64 z.ins.a, .int .i64 z.ins.b, .int .i64 z.ins.imm, .int .i64 z.target.kind, .int .i64 z.target.num, .int .i64 (z.target.at_ : Int), .string (txt z.target.text)] (fun y hy => hy) (fun j v hj => by rw [Nat.zero_add]; exact hj) _ Tryd.underlying55 rfl 13 size_part rfl ?_
   simp only [Act.put, List.setIfInBounds_toArray, List.set_cons_zero, List.set_cons_succ]
   obtain ⟨i0, hi, hz0, hz1, hz2⟩ := info_parts info_part
   have HI := Lib.hid hi
   have HZ0 := Lib.hid hz0
   have HZ1 := Lib.hid hz1
   have HZ2 := Lib.hid hz2
   clear hi hz0 hz1 hz2
   have c3 := HP3.out.parts
   have hbl := HP3.out.lt
   have HLT := Lib.hid hbl
   have hbl2 : b < wr.heap.size := hbl
   have hps := HPS.out
   have END : ∀ (o : Obj) (y3 : World) (v3 : Value), (wr.drew.alloc o).grownBy y3 vp.ownBlock → y3.ownsRow (b + 1) 55 13 v3 (ps.length + 1) (partsL ps ++ partL z) →
     (Par (y3.setCell ⟨b, 3, none⟩ v3) b e r1 v3 (ps ++ [z]) ∧ Below b w (y3.setCell ⟨b, 3, none⟩ v3)) ∧ Box y3 w.heap.size (partL z) ∧ y3.cell? ⟨b, 3, none⟩ = some vp ∧ y3.frozen? ⟨b, 3, none⟩ = false ∧ b < y3.heap.size ∧ ∃ A3 k3, v3 = .slice A3 (ps.length + 1) k3 := by
    intro o y3 v3 hg ho
    have hne : some b ≠ vp.ownBlock := fun e => by have := (HP3.out.own.lt b e.symm).1; omega
    obtain ⟨q1, q2⟩ := HP3.out.app hg ho rfl
    obtain ⟨A3, k3, h3⟩ := (Row.of_own ho).form
    have hb2 := ((HP3.out.alloc o).go (Below.refl _ _))
    refine ⟨⟨q1, HBX.out.trans ((Below.refl b wr).drew.trans q2)⟩, (HX3.out.drew.alloc o).grown hg (fun e => HNB.out e.symm), hg.cell (hb2.parts) hne, ?_, ?_, A3, k3, h3⟩
    ·rw [World.frozen?_of_block (w := wr.drew.alloc o) (hg.block b hb2.lt hne)]; exact hb2.frozen 3
    ·have := hg.size; have := hb2.lt; omega
   have HEND := Lib.hid END
   clear END
   refine tree_two hS0 (by rfl) (by rfl) (fun K hK => ?_) (fun K hK => ?_)
   ·go_simp
    refine hK.out _ _ hS0 (fun _ => ?_)
    clear hK K
    try (simp only [Act.put, List.setIfInBounds_toArray, List.set_cons_zero, List.set_cons_succ])
    refine tree_call hS0 (by rfl) (fun K hK => ?_)
    go_simp
    have hSa : Box (wr.drew.alloc (.cells #[.int .i64 z.kind, .int .i64 (z.at_ : Int), .int .i64 z.num, .string (txt z.name), .int .i64 z.ins.op, .int .i64 z.ins.d, .int .i64 z.ins.a, .int .i64 z.ins.b, .int .i64 z.ins.imm, .int .i64 z.target.kind, .int .i64 z.target.num, .int .i64 (z.target.at_ : Int), .string (txt z.target.text)] 55)) w.heap.size (partL z) := hS0.alloc _
    refine hK.out _ _ hSa (fun _ => ?_)
    clear hK K
    try (simp only [Act.put, List.setIfInBounds_toArray, List.set_cons_zero, List.set_cons_succ])
    refine tree_call hSa (by rfl) (fun K hK => ?_)
    refine wp_append_row _ (.tmp 30) (.tmp 32) 44 rfl (b + 1) 55 i0 _ 13 120 Tryd.underlying44 HI.out HZ0.out HZ1.out HZ2.out rfl (by omega) _ ps.length (partsL ps) rfl (HP3.out.own.alloc _) _ (.slice (some ⟨wr.heap.size, 0, none⟩) 1 1) 1 (partL z) rfl (row_part wr.drew z _) (partL_cell _) (by unfold maxLen; omega) (by omega) (by simp; omega) ?_
    intro v3 y3 hO3 hg3
    obtain ⟨PA, hS3, q3, q4, hy3, A3, k3, rfl⟩ := HEND.out _ _ _ hg3 hO3
    have HPA := Lib.hid PA
    clear hO3 hg3 PA
    refine hK.out _ _ hS3 (fun _ => ?_)
    clear hK K
    try (simp only [Act.put, List.setIfInBounds_toArray, List.set_cons_zero, List.set_cons_succ])
    iterate 2 (refine tree_take (v := ?_) hS3 (by rfl) ?_ ?_; rotate_left; (intro x hx; go_simp; try (with_reducible rfl)); (simp only [Act.put, List.setIfInBounds_toArray, List.set_cons_zero, List.set_cons_succ]))
    refine tree_call hS3 (by rfl) (fun K hK => ?_)
    go_simp
    refine hK.out _ _ (hS3.setCell_other hbxb.symm 3 _) (fun _ => ?_)
    clear hK K
    refine tree_done ?_
    try (simp only [Act.put, List.setIfInBounds_toArray, List.set_cons_zero, List.set_cons_succ])
    go_wp2_with fail
    go_ret
    exact ⟨by rw [HZ.out]; rfl, _, by rw [HZ.out]; exact HPA.out.1, HPA.out.2⟩
   ·go_simp
    have hSa : Box (wr.drew.alloc (.cells #[.int .i64 z.kind, .int .i64 (z.at_ : Int), .int .i64 z.num, .string (txt z.name), .int .i64 z.ins.op, .int .i64 z.ins.d, .int .i64 z.ins.a, .int .i64 z.ins.b, .int .i64 z.ins.imm, .int .i64 z.target.kind, .int .i64 z.target.num, .int .i64 (z.target.at_ : Int), .string (txt z.target.text)] 55)) w.heap.size (partL z) := hS0.alloc _
    have c3a : (wr.drew.alloc (.cells #[.int .i64 z.kind, .int .i64 (z.at_ : Int), .int .i64 z.num, .string (txt z.name), .int .i64 z.ins.op, .int .i64 z.ins.d, .int .i64 z.ins.a, .int .i64 z.ins.b, .int .i64 z.ins.imm, .int .i64 z.target.kind, .int .i64 z.target.num, .int .i64 (z.target.at_ : Int), .string (txt z.target.text)] 55)).cell? ⟨b, 3, none⟩ = some vp := (World.cell?_alloc_lt _ _ _ hbl).trans c3
    have c3b := (show (wr.alloc (.cells #[.int .i64 z.kind, .int .i64 (z.at_ : Int), .int .i64 z.num, .string (txt z.name), .int .i64 z.ins.op, .int .i64 z.ins.d, .int .i64 z.ins.a, .int .i64 z.ins.b, .int .i64 z.ins.imm, .int .i64 z.target.kind, .int .i64 z.target.num, .int .i64 (z.target.at_ : Int), .string (txt z.target.text)] 55)).cell? ⟨b, 3, none⟩ = some vp from c3a)
    refine hK.out _ _ hSa (fun _ => ?_)
    clear hK K
    try (simp only [Act.put, List.setIfInBounds_toArray, List.set_cons_zero, List.set_cons_succ])
    refine tree_call hSa (by rfl) (fun K hK => ?_)
    go_simp
    refine hK.out _ _ hSa (fun _ => ?_)
    clear hK K
    try (simp only [Act.put, List.setIfInBounds_toArray, List.set_cons_zero, List.set_cons_succ])
    refine tree_call hSa (by rfl) (fun K hK => ?_)
    refine wp_append_row _ (.tmp 30) (.tmp 32) 44 rfl (b + 1) 55 i0 _ 13 120 Tryd.underlying44 HI.out HZ0.out HZ1.out HZ2.out rfl (by omega) _ ps.length (partsL ps) rfl (HP3.out.own.alloc _) _ (.slice (some ⟨wr.heap.size, 0, none⟩) 1 1) 1 (partL z) rfl (row_part wr.drew z _) (partL_cell _) (by unfold maxLen; omega) (by omega) (by simp; omega) ?_
    intro v3 y3 hO3 hg3
    obtain ⟨PA, hS3, q3, q4, hy3, A3, k3, rfl⟩ := HEND.out _ _ _ hg3 hO3
    have HPA := Lib.hid PA
    clear hO3 hg3 PA
    refine hK.out _ _ hS3 (fun _ => ?_)
    clear hK K
    try (simp only [Act.put, List.setIfInBounds_toArray, List.set_cons_zero, List.set_cons_succ])
    iterate 2 (refine tree_take (v := ?_) hS3 (by rfl) ?_ ?_; rotate_left; (intro x hx; go_simp; try (with_reducible rfl)); (simp only [Act.put, List.setIfInBounds_toArray, List.set_cons_zero, List.set_cons_succ]))
    refine tree_call hS3 (by rfl) (fun K hK => ?_)
    go_simp
    refine hK.out _ _ (hS3.setCell_other hbxb.symm 3 _) (fun _ => ?_)
    clear hK K
    refine tree_done ?_
    try (simp only [Act.put, List.setIfInBounds_toArray, List.set_cons_zero, List.set_cons_succ])
    go_wp2_with fail
    go_ret
    exact ⟨by rw [HZ.out]; rfl, _, by rw [HZ.out]; exact HPA.out.1, HPA.out.2⟩
end Go.Proofs.YtcaibahniheohaaDoor.Words

/- Contract of package asm's label. -/
namespace Go.Proofs.YtcaibahniheohaaDoor.Words
set_option maxRecDepth 100000
open Go.RowKit Go.Shelf Go.Lib
set_option linter.unusedVariables false
set_option linter.unusedSimpArgs false
def labT (r : List Tok) : Bool × List Tok × List PartZ := match labelT r with | some (p, ts) => (true, ts, [p]) | none => (false, r, [])
theorem labT_two (t c : Tok) (ts : List Tok) : labT (t :: c :: ts) = if t.kind = 1 ∧ isS c [58] = true then (true, ts, [⟨1, t.at_, 0, t.text, ins0, tok0⟩]) else (false, t :: c :: ts, []) := by
 have h : labelT (t :: c :: ts) = if t.kind = 1 ∧ isS c [58] = true then some (⟨1, t.at_, 0, t.text, ins0, tok0⟩, ts) else none := rfl
 unfold labT
 rw [h]
 by_cases hh : t.kind = 1 ∧ isS c [58] = true
 ·rw [if_pos hh, if_pos hh]
 ·rw [if_neg hh, if_neg hh]
theorem labT_kind {r : List Tok} (e : Nat) (h : (nextT r e).kind ≠ 1) : labT r = (false, r, []) := by
 rcases r with _ | ⟨t, _ | ⟨c, ts⟩⟩
 ·rfl
 ·rfl
 ·rw [labT_two, if_neg (fun e => h e.1)]
theorem labT_one (t : Tok) : labT [t] = (false, [t], []) := rfl
theorem Row.behind2 {w : World} {B c : Nat} {b off : Nat} {i j : Tok} {l : List Tok} (h : Row w B 4 (.slice (some ⟨b, off, none⟩) (l.length + 1 + 1) c) (l.length + 1 + 1) (toksL (i :: j :: l))) :
  Row w B 4 (.slice (some ⟨b, if c = 2 then off else off + 8, none⟩) l.length (c - 2)) l.length (toksL l) := by
 obtain ⟨b', o', he, hb, hc⟩ := h.at_ (by omega)
 obtain ⟨h1, h2⟩ := h.cap
 injection he with he
 injection he with he1 he2
 subst he1; subst he2
 refine ⟨toksL_length l, _, _, rfl, by omega, by omega, (fun h => by cases h), fun _ => ⟨b, _, rfl, hb, fun k u hu => ?_⟩⟩
 have hj : k < (toksL l).length := (List.getElem?_eq_some_iff.1 hu).1
 rw [toksL_length] at hj
 rw [if_neg (by omega)]
 have := hc (8 + k) u (by rw [toksL_cons, toksL_cons, ← List.append_assoc, List.getElem?_append_right (by simp [tokL])]; simpa [tokL] using hu)
 rwa [show off + 8 + k = off + (8 + k) by omega]
set_option maxHeartbeats 4000000 in
theorem label_no (w : World) (b e : Nat) (r : List Tok) (vp : Value) (ps : List PartZ) (hP : Par w b e r vp ps) (h : (nextT r e).kind ≠ 1) :
  Calls Tryd.prog 57 #[.pointer (some ⟨b, 0, none⟩)] w (AppOut w b e ps (labT r)) := by
 have HP := Lib.hid hP
 have hlt := hP.lt
 have hN := next_any w b e r vp ps hP
 have HZ := Lib.hid (labT_kind e h)
 generalize nextT r e = t at *
 have h3 : (t.kind != 1) = true := by simpa using h
 clear hP h
 go_enter Tryd.func57, Tryd.ntmps57
 go_wp2_with fail
 refine hN.mono ?_; rintro en w1 ⟨rfl, hb1⟩
 have HB1 := Lib.hid hb1
 clear hb1
 go_wp2_with fail
 go_ret
 have hB := HB1.out.alloc HB1.out.size (.cells #[.int .i64 t.kind, .int .i64 t.num, .int .i64 (t.at_ : Int), .string (txt t.text)] 48)
 exact ⟨by rw [HZ.out]; rfl, vp, by rw [HZ.out]; simpa using HP.out.go hB, hB.mono (Nat.le_of_lt hlt)⟩
set_option maxHeartbeats 4000000 in
theorem label_short (w : World) (b e : Nat) (t : Tok) (vp : Value) (ps : List PartZ) (hP : Par w b e [t] vp ps) (h : t.kind = 1) :
  Calls Tryd.prog 57 #[.pointer (some ⟨b, 0, none⟩)] w (AppOut w b e ps (labT [t])) := by
 have HP := Lib.hid hP
 have hlt := hP.lt
 have hN := next_any w b e [t] vp ps hP
 change Calls _ _ _ _ (fun en w' => en = .returned (tokV t) ∧ _) at hN
 have HZ := Lib.hid (labT_one t)
 obtain ⟨vt, vn, hbox, ht, hn, hp, htk⟩ := hP
 obtain ⟨A, c, rfl⟩ := ht.form
 have z0 := hbox.cell (k := 0) rfl
 simp only [List.length_cons, List.length_nil, Nat.zero_add] at z0
 have h3 : (t.kind != 1) = false := by simp [h]
 clear hbox ht hn hp htk h
 go_enter Tryd.func57, Tryd.ntmps57
 go_wp2_with fail
 refine hN.mono ?_; rintro en w1 ⟨rfl, hb1⟩
 have HB1 := Lib.hid hb1
 have z1 : (w1.alloc (.cells #[.int .i64 t.kind, .int .i64 t.num, .int .i64 (t.at_ : Int), .string (txt t.text)] 48)).cell? ⟨b, 0, none⟩ = some (.slice A 1 c) := one_cell (Nat.lt_of_lt_of_le hlt hb1.size) (below_cell hb1 hlt z0)
 clear hb1 z0
 go_wp2_with fail
 go_ret
 have hB := HB1.out.alloc HB1.out.size (.cells #[.int .i64 t.kind, .int .i64 t.num, .int .i64 (t.at_ : Int), .string (txt t.text)] 48)
 exact ⟨by rw [HZ.out]; rfl, vp, by rw [HZ.out]; simpa using HP.out.go hB, hB.mono (Nat.le_of_lt hlt)⟩
set_option maxHeartbeats 4000000 in
theorem label_nosign (w : World) (b e : Nat) (t c : Tok) (ts : List Tok) (vp : Value) (ps : List PartZ) (hP : Par w b e (t :: c :: ts) vp ps) (h : t.kind = 1) (hs : isS c [58] = false) :
  Calls Tryd.prog 57 #[.pointer (some ⟨b, 0, none⟩)] w (AppOut w b e ps (labT (t :: c :: ts))) := by
 have HP := Lib.hid hP
 have hlt := hP.lt
 have hN := next_any w b e (t :: c :: ts) vp ps hP
 change Calls _ _ _ _ (fun en w' => en = .returned (tokV t) ∧ _) at hN
 have HVB : Hid (∀ g, vp.ownBlock = some g → g < w.heap.size) := fun g hg => (hP.own.lt g hg).2
 obtain ⟨vt, vn, hbox, ht, hn, hp, htk⟩ := hP
 obtain ⟨A, cc, rfl⟩ := ht.form
 obtain ⟨g, off, rfl, hg, _⟩ := ht.at_ (by simp)
 have hcap := ht.cap
 have z0 := hbox.cell (k := 0) rfl
 have f0 := hbox.frozen 0
 obtain ⟨c0, c1, c2, c3⟩ := ht.tok (k := 1) (i := c) rfl
 simp only [Nat.one_mul, Nat.add_assoc, Nat.reduceAdd] at c0 c1 c2 c3
 simp only [List.length_cons] at hcap z0
 have HBX0 := Lib.hid hbox
 have HR := Lib.hid (show Row w b 4 (.slice (some ⟨g, off, none⟩) (ts.length + 1 + 1) cc) (ts.length + 1 + 1) (toksL (t :: c :: ts)) from ht)
 have HNM := Lib.hid hn
 have HPP := Lib.hid hp
 have HTK := Lib.hid htk
 have h3 : (t.kind != 1) = false := by simp [h]
 have l2 : decide ((ts.length : Int) + 1 + 1 < 2) = false := decide_eq_false (by omega)
 have l3 : decide ((ts.length : Int) + 2 < 2) = false := decide_eq_false (by omega)
 have l4 : decide (((ts.length + 1 + 1 : Nat) : Int) < 2) = false := decide_eq_false (by omega)
 have hgw : g < w.heap.size := by omega
 have HH := Lib.hid h
 clear hbox ht hn hp htk h
 go_enter Tryd.func57, Tryd.ntmps57
 go_wp2_with fail
 refine hN.mono ?_; rintro en w1 ⟨rfl, hb1⟩
 have HB1 := Lib.hid hb1
 have hlt1 := Nat.lt_of_lt_of_le hlt hb1.size
 have hgw1 : g < w1.heap.size := Nat.lt_of_lt_of_le hgw hb1.size
 have z1 : w1.cell? ⟨b, 0, none⟩ = _ := below_cell hb1 hlt z0
 have f1 : w1.frozen? ⟨b, 0, none⟩ = false := below_frozen hb1 hlt f0
 have d0 := below_cell hb1 hgw c0
 have d1 := below_cell hb1 hgw c1
 have d2 := below_cell hb1 hgw c2
 have d3 := below_cell hb1 hgw c3
 clear hb1 z0 f0 c0 c1 c2 c3
 go_wp2_with fail
 refine (tokSign_any c [58] _).mono ?_; rintro en w2 ⟨rfl, hb2⟩
 have hB := (HB1.out.alloc HB1.out.size (.cells #[.int .i64 t.kind, .int .i64 t.num, .int .i64 (t.at_ : Int), .string (txt t.text)] 48))
 have HB := Lib.hid (hB.trans (hb2.mono hB.size))
 have HZ : Hid (labT (t :: c :: ts) = (false, t :: c :: ts, [])) := by show _ = _; rw [labT_two, if_neg (fun e => by rw [e.2] at hs; cases hs)]
 rw [hs]
 clear hb2 hB hs
 go_wp2_with fail
 go_ret
 exact ⟨by rw [HZ.out]; rfl, vp, by rw [HZ.out]; simpa using HP.out.go HB.out, HB.out.mono (Nat.le_of_lt hlt)⟩
set_option maxHeartbeats 4000000 in
theorem label_yes (w : World) (b e : Nat) (t c : Tok) (ts : List Tok) (vp : Value) (ps : List PartZ) (hP : Par w b e (t :: c :: ts) vp ps) (h : t.kind = 1) (hps : ps.length ≤ 1000000) (hs : isS c [58] = true) :
  Calls Tryd.prog 57 #[.pointer (some ⟨b, 0, none⟩)] w (AppOut w b e ps (labT (t :: c :: ts))) := by
 have HP := Lib.hid hP
 have hlt := hP.lt
 have hN := next_any w b e (t :: c :: ts) vp ps hP
 change Calls _ _ _ _ (fun en w' => en = .returned (tokV t) ∧ _) at hN
 have HVB : Hid (∀ g, vp.ownBlock = some g → g < w.heap.size) := fun g hg => (hP.own.lt g hg).2
 obtain ⟨vt, vn, hbox, ht, hn, hp, htk⟩ := hP
 obtain ⟨A, cc, rfl⟩ := ht.form
 obtain ⟨g, off, rfl, hg, _⟩ := ht.at_ (by simp)
 have hcap := ht.cap
 have z0 := hbox.cell (k := 0) rfl
 have f0 := hbox.frozen 0
 obtain ⟨c0, c1, c2, c3⟩ := ht.tok (k := 1) (i := c) rfl
 simp only [Nat.one_mul, Nat.add_assoc, Nat.reduceAdd] at c0 c1 c2 c3
 simp only [List.length_cons] at hcap z0
 have HBX0 := Lib.hid hbox
 have HR := Lib.hid (show Row w b 4 (.slice (some ⟨g, off, none⟩) (ts.length + 1 + 1) cc) (ts.length + 1 + 1) (toksL (t :: c :: ts)) from ht)
 have HNM := Lib.hid hn
 have HPP := Lib.hid hp
 have HTK := Lib.hid htk
 have h3 : (t.kind != 1) = false := by simp [h]
 have l2 : decide ((ts.length : Int) + 1 + 1 < 2) = false := decide_eq_false (by omega)
 have l3 : decide ((ts.length : Int) + 2 < 2) = false := decide_eq_false (by omega)
 have l4 : decide (((ts.length + 1 + 1 : Nat) : Int) < 2) = false := decide_eq_false (by omega)
 have hgw : g < w.heap.size := by omega
 have HH := Lib.hid h
 have HPS := Lib.hid hps
 clear hbox ht hn hp htk h hps
 go_enter Tryd.func57, Tryd.ntmps57
 go_wp2_with fail
 refine hN.mono ?_; rintro en w1 ⟨rfl, hb1⟩
 have HB1 := Lib.hid hb1
 have hlt1 := Nat.lt_of_lt_of_le hlt hb1.size
 have hgw1 : g < w1.heap.size := Nat.lt_of_lt_of_le hgw hb1.size
 have z1 : w1.cell? ⟨b, 0, none⟩ = _ := below_cell hb1 hlt z0
 have f1 : w1.frozen? ⟨b, 0, none⟩ = false := below_frozen hb1 hlt f0
 have d0 := below_cell hb1 hgw c0
 have d1 := below_cell hb1 hgw c1
 have d2 := below_cell hb1 hgw c2
 have d3 := below_cell hb1 hgw c3
 clear hb1 z0 f0 c0 c1 c2 c3
 go_wp2_with fail
 refine (tokSign_any c [58] _).mono ?_; rintro en w2 ⟨rfl, hb2⟩
 have HZ : Hid (labT (t :: c :: ts) = (true, ts, [⟨1, t.at_, 0, t.text, ins0, tok0⟩])) := by show _ = _; rw [labT_two, if_pos ⟨HH.out, hs⟩]
 rw [hs]
 have hA1 : (w1.alloc (.cells #[.int .i64 t.kind, .int .i64 t.num, .int .i64 (t.at_ : Int), .string (txt t.text)] 48)).heap.size = w1.heap.size + 1 := by simp
 have hs2 : w1.heap.size + 1 ≤ w2.heap.size := by have := hb2.size; omega
 have TK2 : Hid (w2.cell? ⟨w1.heap.size, 2, none⟩ = some (.int .i64 (t.at_ : Int))) := below_cell hb2 (by omega) (by go_simp)
 have TK3 : Hid (w2.cell? ⟨w1.heap.size, 3, none⟩ = some (.string (txt t.text))) := below_cell hb2 (by omega) (by go_simp)
 have hB := (HB1.out.alloc HB1.out.size (.cells #[.int .i64 t.kind, .int .i64 t.num, .int .i64 (t.at_ : Int), .string (txt t.text)] 48))
 have HB := Lib.hid (hB.trans (hb2.mono hB.size))
 have z2 : w2.cell? ⟨b, 0, none⟩ = some (.slice (some ⟨g, off, none⟩) (ts.length + 1 + 1) cc) := below_cell HB.out hlt (HBX0.out.cell (k := 0) rfl)
 have f2 : w2.frozen? ⟨b, 0, none⟩ = false := below_frozen HB.out hlt (HBX0.out.frozen 0)
 have hblt2 : b < w2.heap.size := by omega
 have m2 : (2 : Int) ≤ (ts.length : Int) + 1 + 1 := by omega
 have m3 : (ts.length : Int) + 1 + 1 ≤ cc := by omega
 clear hb2 hB hs z1 f1 d0 d1 d2 d3
 by_cases hc2 : cc = 2
 ·have hts : ts = [] := List.eq_nil_of_length_eq_zero (by omega)
  subst hc2
  subst hts
  have HR2 : Hid (Row w b 4 (.slice (some ⟨g, off, none⟩) 0 0) 0 (toksL [])) := HR.out.behind2
  have hX := (Below.refl b w2).setCell (p := ⟨b, 0, none⟩) (Nat.le_refl _) (.slice (some ⟨g, off, none⟩) 0 0)
  have hBb : Below b w (w2.setCell ⟨b, 0, none⟩ (.slice (some ⟨g, off, none⟩) 0 0)) := (HB.out.mono (Nat.le_of_lt hlt)).trans hX
  have hKS : KeepS (fun j => j = b) w2 (w2.setCell ⟨b, 0, none⟩ (.slice (some ⟨g, off, none⟩) 0 0)) := (KeepS.refl (fun j => j = b) w2).setCell rfl _ _
  have hKS2 : KeepS (fun j => j = b) w (w2.setCell ⟨b, 0, none⟩ (.slice (some ⟨g, off, none⟩) 0 0)) := (KeepS.of_below HB.out).trans hKS
  have hPX : Par (w2.setCell ⟨b, 0, none⟩ (.slice (some ⟨g, off, none⟩) 0 0)) b e [] vp ps := ⟨_, vn, (HBX0.out.below HB.out hlt).setCell 0 _, HR2.out.below hBb, HNM.out.below hBb, own_keepS HPP.out hKS2 (fun g hg e => by have := (HPP.out.lt g hg).1; omega), fun x hx => HTK.out x (List.mem_cons_of_mem _ (List.mem_cons_of_mem _ hx))⟩
  have HT2 : Hid ((w2.setCell ⟨b, 0, none⟩ (.slice (some ⟨g, off, none⟩) 0 0)).drew.cell? ⟨w1.heap.size, 2, none⟩ = some (.int .i64 (t.at_ : Int))) := hKS.cell (by omega) (fun e => by omega) TK2.out
  have HT3 : Hid ((w2.setCell ⟨b, 0, none⟩ (.slice (some ⟨g, off, none⟩) 0 0)).drew.cell? ⟨w1.heap.size, 3, none⟩ = some (.string (txt t.text))) := hKS.cell (by omega) (fun e => by omega) TK3.out
  have HTL : Hid (w1.heap.size < (w2.setCell ⟨b, 0, none⟩ (.slice (some ⟨g, off, none⟩) 0 0)).drew.heap.size) := by show _ < (w2.setCell ⟨b, 0, none⟩ (.slice (some ⟨g, off, none⟩) 0 0)).heap.size; simp [World.setCell]; omega
  have HP3 : Hid (Par (w2.setCell ⟨b, 0, none⟩ (.slice (some ⟨g, off, none⟩) 0 0)).drew b e [] vp ps) := hPX.drewN 1
  have HBX := Lib.hid hBb
  have HNB : Hid (vp.ownBlock ≠ some w1.heap.size) := fun e => by have := HVB.out _ e; have := HB1.out.size; omega
  have hbxb : b ≠ w1.heap.size := by omega
  clear hX hBb hKS hKS2 hPX
  go_wp2_with fail
  generalize w2.setCell ⟨b, 0, none⟩ (.slice (some ⟨g, off, none⟩) 0 0) = X at *
  refine wp_region_tree (fun a x => _) (LinT.of [(0, true), (1, true), (2, true), (3, true), (5, true), (6, true), (7, true), (8, true), (9, true)] (.two 4 10 (LinT.of [(10, false), (11, false), (12, true), (13, true), (14, false)] .nil) (LinT.of [(4, false), (11, false), (12, true), (13, true), (14, false)] .nil))) (by kernel_rfl) (by kernel_rfl) rfl (by kernel_rfl) (fun x => x.cell? ⟨w1.heap.size, 2, none⟩ = some (.int .i64 (t.at_ : Int)) ∧ x.cell? ⟨w1.heap.size, 3, none⟩ = some (.string (txt t.text))) (fun _ _ h => h) ?_
  simp only [LinT.of, LinT.look, List.getElem?_toArray, List.getElem?_cons_succ, List.getElem?_cons_zero]
  have hS0 : X.drew.cell? ⟨w1.heap.size, 2, none⟩ = some (.int .i64 (t.at_ : Int)) ∧ X.drew.cell? ⟨w1.heap.size, 3, none⟩ = some (.string (txt t.text)) := ⟨HT2.out, HT3.out⟩
  iterate 9 (refine tree_take (v := ?_) hS0 (by rfl) ?_ ?_; rotate_left; (intro x hx; obtain ⟨x2, x3⟩ := hx; go_simp; try (with_reducible rfl)); (simp only [Act.put, List.setIfInBounds_toArray, List.set_cons_zero, List.set_cons_succ]))
  obtain ⟨i0, hi, hz0, hz1, hz2⟩ := info_parts info_part
  have HI := Lib.hid hi
  have HZ0 := Lib.hid hz0
  have HZ1 := Lib.hid hz1
  have HZ2 := Lib.hid hz2
  clear hi hz0 hz1 hz2
  have c3 := HP3.out.parts
  have hbl := HP3.out.lt
  have HLT := Lib.hid hbl
  have hbl2 : b < X.heap.size := hbl
  have hps := HPS.out
  have END : ∀ (o : Obj) (y3 : World) (v3 : Value), (X.drew.alloc o).grownBy y3 vp.ownBlock → y3.ownsRow (b + 1) 55 13 v3 (ps.length + 1) (partsL ps ++ partL (⟨1, t.at_, 0, t.text, ins0, tok0⟩ : PartZ)) →
    (Par (y3.setCell ⟨b, 3, none⟩ v3) b e [] v3 (ps ++ [(⟨1, t.at_, 0, t.text, ins0, tok0⟩ : PartZ)]) ∧ Below b w (y3.setCell ⟨b, 3, none⟩ v3)) ∧ (y3.cell? ⟨w1.heap.size, 2, none⟩ = some (.int .i64 (t.at_ : Int)) ∧ y3.cell? ⟨w1.heap.size, 3, none⟩ = some (.string (txt t.text))) ∧ y3.cell? ⟨b, 3, none⟩ = some vp ∧ y3.frozen? ⟨b, 3, none⟩ = false ∧ b < y3.heap.size ∧ ∃ A3 k3, v3 = .slice A3 (ps.length + 1) k3 := by
   intro o y3 v3 hg ho
   have hne : some b ≠ vp.ownBlock := fun e => by have := (HP3.out.own.lt b e.symm).1; omega
   obtain ⟨q1, q2⟩ := HP3.out.app hg ho rfl
   obtain ⟨A3, k3, h3⟩ := (Row.of_own ho).form
   have hb2 := ((HP3.out.alloc o).go (Below.refl _ _))
   refine ⟨⟨q1, HBX.out.trans ((Below.refl b X).drew.trans q2)⟩, ⟨hg.cell ((World.cell?_alloc_lt _ _ _ HTL.out).trans HT2.out) (fun e => HNB.out e.symm), hg.cell ((World.cell?_alloc_lt _ _ _ HTL.out).trans HT3.out) (fun e => HNB.out e.symm)⟩, hg.cell (hb2.parts) hne, ?_, ?_, A3, k3, h3⟩
   ·rw [World.frozen?_of_block (w := X.drew.alloc o) (hg.block b hb2.lt hne)]; exact hb2.frozen 3
   ·have := hg.size; have := hb2.lt; omega
  have HEND := Lib.hid END
  clear END
  refine tree_two hS0 (by rfl) (by rfl) (fun K hK => ?_) (fun K hK => ?_)
  ·go_simp
   refine hK.out _ _ hS0 (fun _ => ?_)
   clear hK K
   try (simp only [Act.put, List.setIfInBounds_toArray, List.set_cons_zero, List.set_cons_succ])
   refine tree_call hS0 (by rfl) (fun K hK => ?_)
   go_simp
   have hSa : (X.drew.alloc (.cells #[.int .i64 1, .int .i64 (t.at_ : Int), .int .i64 0, .string (txt t.text), .int .i64 0, .int .i64 0, .int .i64 0, .int .i64 0, .int .i64 0, .int .i64 0, .int .i64 0, .int .i64 0, .string ⟨#[]⟩] 55)).cell? ⟨w1.heap.size, 2, none⟩ = some (.int .i64 (t.at_ : Int)) ∧ (X.drew.alloc (.cells #[.int .i64 1, .int .i64 (t.at_ : Int), .int .i64 0, .string (txt t.text), .int .i64 0, .int .i64 0, .int .i64 0, .int .i64 0, .int .i64 0, .int .i64 0, .int .i64 0, .int .i64 0, .string ⟨#[]⟩] 55)).cell? ⟨w1.heap.size, 3, none⟩ = some (.string (txt t.text)) := ⟨(World.cell?_alloc_lt _ _ _ HTL.out).trans hS0.1, (World.cell?_alloc_lt _ _ _ HTL.out).trans hS0.2⟩
   refine hK.out _ _ hSa (fun _ => ?_)
   clear hK K
   try (simp only [Act.put, List.setIfInBounds_toArray, List.set_cons_zero, List.set_cons_succ])
   refine tree_call hSa (by rfl) (fun K hK => ?_)
   refine wp_append_row _ (.tmp 39) (.tmp 45) 44 rfl (b + 1) 55 i0 _ 13 120 Tryd.underlying44 HI.out HZ0.out HZ1.out HZ2.out rfl (by omega) _ ps.length (partsL ps) rfl (HP3.out.own.alloc _) _ (.slice (some ⟨X.heap.size, 0, none⟩) 1 1) 1 (partL (⟨1, t.at_, 0, t.text, ins0, tok0⟩ : PartZ)) rfl (row_part X.drew (⟨1, t.at_, 0, t.text, ins0, tok0⟩ : PartZ) _) (partL_cell _) (by unfold maxLen; omega) (by omega) (by simp; omega) ?_
   intro v3 y3 hO3 hg3
   obtain ⟨PA, hS3, q3, q4, hy3, A3, k3, rfl⟩ := HEND.out _ _ _ hg3 hO3
   have HPA := Lib.hid PA
   clear hO3 hg3 PA
   refine hK.out _ _ hS3 (fun _ => ?_)
   clear hK K
   try (simp only [Act.put, List.setIfInBounds_toArray, List.set_cons_zero, List.set_cons_succ])
   iterate 2 (refine tree_take (v := ?_) hS3 (by rfl) ?_ ?_; rotate_left; (intro x hx; obtain ⟨x2, x3⟩ := hx; go_simp; try (with_reducible rfl)); (simp only [Act.put, List.setIfInBounds_toArray, List.set_cons_zero, List.set_cons_succ]))
   refine tree_call hS3 (by rfl) (fun K hK => ?_)
   go_simp
   refine hK.out _ _ ⟨(World.cell?_setCell_other _ _ _ _ (fun e => hbxb (congrArg Addr.block e))).trans hS3.1, (World.cell?_setCell_other _ _ _ _ (fun e => hbxb (congrArg Addr.block e))).trans hS3.2⟩ (fun _ => ?_)
   clear hK K
   refine tree_done ?_
   try (simp only [Act.put, List.setIfInBounds_toArray, List.set_cons_zero, List.set_cons_succ])
   go_wp2_with fail
   go_ret
   exact ⟨by rw [HZ.out]; rfl, _, by rw [HZ.out]; exact HPA.out.1, HPA.out.2⟩
  ·go_simp
   have hSa : (X.drew.alloc (.cells #[.int .i64 1, .int .i64 (t.at_ : Int), .int .i64 0, .string (txt t.text), .int .i64 0, .int .i64 0, .int .i64 0, .int .i64 0, .int .i64 0, .int .i64 0, .int .i64 0, .int .i64 0, .string ⟨#[]⟩] 55)).cell? ⟨w1.heap.size, 2, none⟩ = some (.int .i64 (t.at_ : Int)) ∧ (X.drew.alloc (.cells #[.int .i64 1, .int .i64 (t.at_ : Int), .int .i64 0, .string (txt t.text), .int .i64 0, .int .i64 0, .int .i64 0, .int .i64 0, .int .i64 0, .int .i64 0, .int .i64 0, .int .i64 0, .string ⟨#[]⟩] 55)).cell? ⟨w1.heap.size, 3, none⟩ = some (.string (txt t.text)) := ⟨(World.cell?_alloc_lt _ _ _ HTL.out).trans hS0.1, (World.cell?_alloc_lt _ _ _ HTL.out).trans hS0.2⟩
   have c3a : (X.drew.alloc (.cells #[.int .i64 1, .int .i64 (t.at_ : Int), .int .i64 0, .string (txt t.text), .int .i64 0, .int .i64 0, .int .i64 0, .int .i64 0, .int .i64 0, .int .i64 0, .int .i64 0, .int .i64 0, .string ⟨#[]⟩] 55)).cell? ⟨b, 3, none⟩ = some vp := (World.cell?_alloc_lt _ _ _ hbl).trans c3
   have c3b := (show (X.alloc (.cells #[.int .i64 1, .int .i64 (t.at_ : Int), .int .i64 0, .string (txt t.text), .int .i64 0, .int .i64 0, .int .i64 0, .int .i64 0, .int .i64 0, .int .i64 0, .int .i64 0, .int .i64 0, .string ⟨#[]⟩] 55)).cell? ⟨b, 3, none⟩ = some vp from c3a)
   refine hK.out _ _ hSa (fun _ => ?_)
   clear hK K
   try (simp only [Act.put, List.setIfInBounds_toArray, List.set_cons_zero, List.set_cons_succ])
   refine tree_call hSa (by rfl) (fun K hK => ?_)
   go_simp
   refine hK.out _ _ hSa (fun _ => ?_)
   clear hK K
   try (simp only [Act.put, List.setIfInBounds_toArray, List.set_cons_zero, List.set_cons_succ])
   refine tree_call hSa (by rfl) (fun K hK => ?_)
   refine wp_append_row _ (.tmp 39) (.tmp 45) 44 rfl (b + 1) 55 i0 _ 13 120 Tryd.underlying44 HI.out HZ0.out HZ1.out HZ2.out rfl (by omega) _ ps.length (partsL ps) rfl (HP3.out.own.alloc _) _ (.slice (some ⟨X.heap.size, 0, none⟩) 1 1) 1 (partL (⟨1, t.at_, 0, t.text, ins0, tok0⟩ : PartZ)) rfl (row_part X.drew (⟨1, t.at_, 0, t.text, ins0, tok0⟩ : PartZ) _) (partL_cell _) (by unfold maxLen; omega) (by omega) (by simp; omega) ?_
   intro v3 y3 hO3 hg3
   obtain ⟨PA, hS3, q3, q4, hy3, A3, k3, rfl⟩ := HEND.out _ _ _ hg3 hO3
   have HPA := Lib.hid PA
   clear hO3 hg3 PA
   refine hK.out _ _ hS3 (fun _ => ?_)
   clear hK K
   try (simp only [Act.put, List.setIfInBounds_toArray, List.set_cons_zero, List.set_cons_succ])
   iterate 2 (refine tree_take (v := ?_) hS3 (by rfl) ?_ ?_; rotate_left; (intro x hx; obtain ⟨x2, x3⟩ := hx; go_simp; try (with_reducible rfl)); (simp only [Act.put, List.setIfInBounds_toArray, List.set_cons_zero, List.set_cons_succ]))
   refine tree_call hS3 (by rfl) (fun K hK => ?_)
   go_simp
   refine hK.out _ _ ⟨(World.cell?_setCell_other _ _ _ _ (fun e => hbxb (congrArg Addr.block e))).trans hS3.1, (World.cell?_setCell_other _ _ _ _ (fun e => hbxb (congrArg Addr.block e))).trans hS3.2⟩ (fun _ => ?_)
   clear hK K
   refine tree_done ?_
   try (simp only [Act.put, List.setIfInBounds_toArray, List.set_cons_zero, List.set_cons_succ])
   go_wp2_with fail
   go_ret
   exact ⟨by rw [HZ.out]; rfl, _, by rw [HZ.out]; exact HPA.out.1, HPA.out.2⟩
 ·have HR2 : Hid (Row w b 4 (.slice (some ⟨g, off + 8, none⟩) ts.length (cc - 2)) ts.length (toksL ts)) := by
   have := HR.out.behind2
   rw [if_neg hc2] at this
   exact this
  have m4 : (2 : Int) < cc := by omega
  have hX := (Below.refl b w2).setCell (p := ⟨b, 0, none⟩) (Nat.le_refl _) (.slice (some ⟨g, off + 8, none⟩) ts.length (cc - 2))
  have hBb : Below b w (w2.setCell ⟨b, 0, none⟩ (.slice (some ⟨g, off + 8, none⟩) ts.length (cc - 2))) := (HB.out.mono (Nat.le_of_lt hlt)).trans hX
  have hKS : KeepS (fun j => j = b) w2 (w2.setCell ⟨b, 0, none⟩ (.slice (some ⟨g, off + 8, none⟩) ts.length (cc - 2))) := (KeepS.refl (fun j => j = b) w2).setCell rfl _ _
  have hKS2 : KeepS (fun j => j = b) w (w2.setCell ⟨b, 0, none⟩ (.slice (some ⟨g, off + 8, none⟩) ts.length (cc - 2))) := (KeepS.of_below HB.out).trans hKS
  have hPX : Par (w2.setCell ⟨b, 0, none⟩ (.slice (some ⟨g, off + 8, none⟩) ts.length (cc - 2))) b e ts vp ps := ⟨_, vn, (HBX0.out.below HB.out hlt).setCell 0 _, HR2.out.below hBb, HNM.out.below hBb, own_keepS HPP.out hKS2 (fun g hg e => by have := (HPP.out.lt g hg).1; omega), fun x hx => HTK.out x (List.mem_cons_of_mem _ (List.mem_cons_of_mem _ hx))⟩
  have HT2 : Hid ((w2.setCell ⟨b, 0, none⟩ (.slice (some ⟨g, off + 8, none⟩) ts.length (cc - 2))).drew.cell? ⟨w1.heap.size, 2, none⟩ = some (.int .i64 (t.at_ : Int))) := hKS.cell (by omega) (fun e => by omega) TK2.out
  have HT3 : Hid ((w2.setCell ⟨b, 0, none⟩ (.slice (some ⟨g, off + 8, none⟩) ts.length (cc - 2))).drew.cell? ⟨w1.heap.size, 3, none⟩ = some (.string (txt t.text))) := hKS.cell (by omega) (fun e => by omega) TK3.out
  have HTL : Hid (w1.heap.size < (w2.setCell ⟨b, 0, none⟩ (.slice (some ⟨g, off + 8, none⟩) ts.length (cc - 2))).drew.heap.size) := by show _ < (w2.setCell ⟨b, 0, none⟩ (.slice (some ⟨g, off + 8, none⟩) ts.length (cc - 2))).heap.size; simp [World.setCell]; omega
  have HP3 : Hid (Par (w2.setCell ⟨b, 0, none⟩ (.slice (some ⟨g, off + 8, none⟩) ts.length (cc - 2))).drew b e ts vp ps) := hPX.drewN 1
  have HBX := Lib.hid hBb
  have HNB : Hid (vp.ownBlock ≠ some w1.heap.size) := fun e => by have := HVB.out _ e; have := HB1.out.size; omega
  have hbxb : b ≠ w1.heap.size := by omega
  clear hX hBb hKS hKS2 hPX
  go_wp2_with fail
  generalize w2.setCell ⟨b, 0, none⟩ (.slice (some ⟨g, off + 8, none⟩) ts.length (cc - 2)) = X at *
  refine wp_region_tree (fun a x => _) (LinT.of [(0, true), (1, true), (2, true), (3, true), (5, true), (6, true), (7, true), (8, true), (9, true)] (.two 4 10 (LinT.of [(10, false), (11, false), (12, true), (13, true), (14, false)] .nil) (LinT.of [(4, false), (11, false), (12, true), (13, true), (14, false)] .nil))) (by kernel_rfl) (by kernel_rfl) rfl (by kernel_rfl) (fun x => x.cell? ⟨w1.heap.size, 2, none⟩ = some (.int .i64 (t.at_ : Int)) ∧ x.cell? ⟨w1.heap.size, 3, none⟩ = some (.string (txt t.text))) (fun _ _ h => h) ?_
  simp only [LinT.of, LinT.look, List.getElem?_toArray, List.getElem?_cons_succ, List.getElem?_cons_zero]
  have hS0 : X.drew.cell? ⟨w1.heap.size, 2, none⟩ = some (.int .i64 (t.at_ : Int)) ∧ X.drew.cell? ⟨w1.heap.size, 3, none⟩ = some (.string (txt t.text)) := ⟨HT2.out, HT3.out⟩
  iterate 9 (refine tree_take (v := ?_) hS0 (by rfl) ?_ ?_; rotate_left; (intro x hx; obtain ⟨x2, x3⟩ := hx; go_simp; try (with_reducible rfl)); (simp only [Act.put, List.setIfInBounds_toArray, List.set_cons_zero, List.set_cons_succ]))
  obtain ⟨i0, hi, hz0, hz1, hz2⟩ := info_parts info_part
  have HI := Lib.hid hi
  have HZ0 := Lib.hid hz0
  have HZ1 := Lib.hid hz1
  have HZ2 := Lib.hid hz2
  clear hi hz0 hz1 hz2
  have c3 := HP3.out.parts
  have hbl := HP3.out.lt
  have HLT := Lib.hid hbl
  have hbl2 : b < X.heap.size := hbl
  have hps := HPS.out
  have END : ∀ (o : Obj) (y3 : World) (v3 : Value), (X.drew.alloc o).grownBy y3 vp.ownBlock → y3.ownsRow (b + 1) 55 13 v3 (ps.length + 1) (partsL ps ++ partL (⟨1, t.at_, 0, t.text, ins0, tok0⟩ : PartZ)) →
    (Par (y3.setCell ⟨b, 3, none⟩ v3) b e ts v3 (ps ++ [(⟨1, t.at_, 0, t.text, ins0, tok0⟩ : PartZ)]) ∧ Below b w (y3.setCell ⟨b, 3, none⟩ v3)) ∧ (y3.cell? ⟨w1.heap.size, 2, none⟩ = some (.int .i64 (t.at_ : Int)) ∧ y3.cell? ⟨w1.heap.size, 3, none⟩ = some (.string (txt t.text))) ∧ y3.cell? ⟨b, 3, none⟩ = some vp ∧ y3.frozen? ⟨b, 3, none⟩ = false ∧ b < y3.heap.size ∧ ∃ A3 k3, v3 = .slice A3 (ps.length + 1) k3 := by
   intro o y3 v3 hg ho
   have hne : some b ≠ vp.ownBlock := fun e => by have := (HP3.out.own.lt b e.symm).1; omega
   obtain ⟨q1, q2⟩ := HP3.out.app hg ho rfl
   obtain ⟨A3, k3, h3⟩ := (Row.of_own ho).form
   have hb2 := ((HP3.out.alloc o).go (Below.refl _ _))
   refine ⟨⟨q1, HBX.out.trans ((Below.refl b X).drew.trans q2)⟩, ⟨hg.cell ((World.cell?_alloc_lt _ _ _ HTL.out).trans HT2.out) (fun e => HNB.out e.symm), hg.cell ((World.cell?_alloc_lt _ _ _ HTL.out).trans HT3.out) (fun e => HNB.out e.symm)⟩, hg.cell (hb2.parts) hne, ?_, ?_, A3, k3, h3⟩
   ·rw [World.frozen?_of_block (w := X.drew.alloc o) (hg.block b hb2.lt hne)]; exact hb2.frozen 3
   ·have := hg.size; have := hb2.lt; omega
  have HEND := Lib.hid END
  clear END
  refine tree_two hS0 (by rfl) (by rfl) (fun K hK => ?_) (fun K hK => ?_)
  ·go_simp
   refine hK.out _ _ hS0 (fun _ => ?_)
   clear hK K
   try (simp only [Act.put, List.setIfInBounds_toArray, List.set_cons_zero, List.set_cons_succ])
   refine tree_call hS0 (by rfl) (fun K hK => ?_)
   go_simp
   have hSa : (X.drew.alloc (.cells #[.int .i64 1, .int .i64 (t.at_ : Int), .int .i64 0, .string (txt t.text), .int .i64 0, .int .i64 0, .int .i64 0, .int .i64 0, .int .i64 0, .int .i64 0, .int .i64 0, .int .i64 0, .string ⟨#[]⟩] 55)).cell? ⟨w1.heap.size, 2, none⟩ = some (.int .i64 (t.at_ : Int)) ∧ (X.drew.alloc (.cells #[.int .i64 1, .int .i64 (t.at_ : Int), .int .i64 0, .string (txt t.text), .int .i64 0, .int .i64 0, .int .i64 0, .int .i64 0, .int .i64 0, .int .i64 0, .int .i64 0, .int .i64 0, .string ⟨#[]⟩] 55)).cell? ⟨w1.heap.size, 3, none⟩ = some (.string (txt t.text)) := ⟨(World.cell?_alloc_lt _ _ _ HTL.out).trans hS0.1, (World.cell?_alloc_lt _ _ _ HTL.out).trans hS0.2⟩
   refine hK.out _ _ hSa (fun _ => ?_)
   clear hK K
   try (simp only [Act.put, List.setIfInBounds_toArray, List.set_cons_zero, List.set_cons_succ])
   refine tree_call hSa (by rfl) (fun K hK => ?_)
   refine wp_append_row _ (.tmp 39) (.tmp 45) 44 rfl (b + 1) 55 i0 _ 13 120 Tryd.underlying44 HI.out HZ0.out HZ1.out HZ2.out rfl (by omega) _ ps.length (partsL ps) rfl (HP3.out.own.alloc _) _ (.slice (some ⟨X.heap.size, 0, none⟩) 1 1) 1 (partL (⟨1, t.at_, 0, t.text, ins0, tok0⟩ : PartZ)) rfl (row_part X.drew (⟨1, t.at_, 0, t.text, ins0, tok0⟩ : PartZ) _) (partL_cell _) (by unfold maxLen; omega) (by omega) (by simp; omega) ?_
   intro v3 y3 hO3 hg3
   obtain ⟨PA, hS3, q3, q4, hy3, A3, k3, rfl⟩ := HEND.out _ _ _ hg3 hO3
   have HPA := Lib.hid PA
   clear hO3 hg3 PA
   refine hK.out _ _ hS3 (fun _ => ?_)
   clear hK K
   try (simp only [Act.put, List.setIfInBounds_toArray, List.set_cons_zero, List.set_cons_succ])
   iterate 2 (refine tree_take (v := ?_) hS3 (by rfl) ?_ ?_; rotate_left; (intro x hx; obtain ⟨x2, x3⟩ := hx; go_simp; try (with_reducible rfl)); (simp only [Act.put, List.setIfInBounds_toArray, List.set_cons_zero, List.set_cons_succ]))
   refine tree_call hS3 (by rfl) (fun K hK => ?_)
   go_simp
   refine hK.out _ _ ⟨(World.cell?_setCell_other _ _ _ _ (fun e => hbxb (congrArg Addr.block e))).trans hS3.1, (World.cell?_setCell_other _ _ _ _ (fun e => hbxb (congrArg Addr.block e))).trans hS3.2⟩ (fun _ => ?_)
   clear hK K
   refine tree_done ?_
   try (simp only [Act.put, List.setIfInBounds_toArray, List.set_cons_zero, List.set_cons_succ])
   go_wp2_with fail
   go_ret
   exact ⟨by rw [HZ.out]; rfl, _, by rw [HZ.out]; exact HPA.out.1, HPA.out.2⟩
  ·go_simp
   have hSa : (X.drew.alloc (.cells #[.int .i64 1, .int .i64 (t.at_ : Int), .int .i64 0, .string (txt t.text), .int .i64 0, .int .i64 0, .int .i64 0, .int .i64 0, .int .i64 0, .int .i64 0, .int .i64 0, .int .i64 0, .string ⟨#[]⟩] 55)).cell? ⟨w1.heap.size, 2, none⟩ = some (.int .i64 (t.at_ : Int)) ∧ (X.drew.alloc (.cells #[.int .i64 1, .int .i64 (t.at_ : Int), .int .i64 0, .string (txt t.text), .int .i64 0, .int .i64 0, .int .i64 0, .int .i64 0, .int .i64 0, .int .i64 0, .int .i64 0, .int .i64 0, .string ⟨#[]⟩] 55)).cell? ⟨w1.heap.size, 3, none⟩ = some (.string (txt t.text)) := ⟨(World.cell?_alloc_lt _ _ _ HTL.out).trans hS0.1, (World.cell?_alloc_lt _ _ _ HTL.out).trans hS0.2⟩
   have c3a : (X.drew.alloc (.cells #[.int .i64 1, .int .i64 (t.at_ : Int), .int .i64 0, .string (txt t.text), .int .i64 0, .int .i64 0, .int .i64 0, .int .i64 0, .int .i64 0, .int .i64 0, .int .i64 0, .int .i64 0, .string ⟨#[]⟩] 55)).cell? ⟨b, 3, none⟩ = some vp := (World.cell?_alloc_lt _ _ _ hbl).trans c3
   have c3b := (show (X.alloc (.cells #[.int .i64 1, .int .i64 (t.at_ : Int), .int .i64 0, .string (txt t.text), .int .i64 0, .int .i64 0, .int .i64 0, .int .i64 0, .int .i64 0, .int .i64 0, .int .i64 0, .int .i64 0, .string ⟨#[]⟩] 55)).cell? ⟨b, 3, none⟩ = some vp from c3a)
   refine hK.out _ _ hSa (fun _ => ?_)
   clear hK K
   try (simp only [Act.put, List.setIfInBounds_toArray, List.set_cons_zero, List.set_cons_succ])
   refine tree_call hSa (by rfl) (fun K hK => ?_)
   go_simp
   refine hK.out _ _ hSa (fun _ => ?_)
   clear hK K
   try (simp only [Act.put, List.setIfInBounds_toArray, List.set_cons_zero, List.set_cons_succ])
   refine tree_call hSa (by rfl) (fun K hK => ?_)
   refine wp_append_row _ (.tmp 39) (.tmp 45) 44 rfl (b + 1) 55 i0 _ 13 120 Tryd.underlying44 HI.out HZ0.out HZ1.out HZ2.out rfl (by omega) _ ps.length (partsL ps) rfl (HP3.out.own.alloc _) _ (.slice (some ⟨X.heap.size, 0, none⟩) 1 1) 1 (partL (⟨1, t.at_, 0, t.text, ins0, tok0⟩ : PartZ)) rfl (row_part X.drew (⟨1, t.at_, 0, t.text, ins0, tok0⟩ : PartZ) _) (partL_cell _) (by unfold maxLen; omega) (by omega) (by simp; omega) ?_
   intro v3 y3 hO3 hg3
   obtain ⟨PA, hS3, q3, q4, hy3, A3, k3, rfl⟩ := HEND.out _ _ _ hg3 hO3
   have HPA := Lib.hid PA
   clear hO3 hg3 PA
   refine hK.out _ _ hS3 (fun _ => ?_)
   clear hK K
   try (simp only [Act.put, List.setIfInBounds_toArray, List.set_cons_zero, List.set_cons_succ])
   iterate 2 (refine tree_take (v := ?_) hS3 (by rfl) ?_ ?_; rotate_left; (intro x hx; obtain ⟨x2, x3⟩ := hx; go_simp; try (with_reducible rfl)); (simp only [Act.put, List.setIfInBounds_toArray, List.set_cons_zero, List.set_cons_succ]))
   refine tree_call hS3 (by rfl) (fun K hK => ?_)
   go_simp
   refine hK.out _ _ ⟨(World.cell?_setCell_other _ _ _ _ (fun e => hbxb (congrArg Addr.block e))).trans hS3.1, (World.cell?_setCell_other _ _ _ _ (fun e => hbxb (congrArg Addr.block e))).trans hS3.2⟩ (fun _ => ?_)
   clear hK K
   refine tree_done ?_
   try (simp only [Act.put, List.setIfInBounds_toArray, List.set_cons_zero, List.set_cons_succ])
   go_wp2_with fail
   go_ret
   exact ⟨by rw [HZ.out]; rfl, _, by rw [HZ.out]; exact HPA.out.1, HPA.out.2⟩
theorem label_any (w : World) (b e : Nat) (r : List Tok) (vp : Value) (ps : List PartZ) (hP : Par w b e r vp ps) (hps : ps.length ≤ 1000000) :
  Calls Tryd.prog 57 #[.pointer (some ⟨b, 0, none⟩)] w (AppOut w b e ps (labT r)) := by
 by_cases hk : (nextT r e).kind = 1
 ·rcases r with _ | ⟨t, _ | ⟨c, ts⟩⟩
  ·exact absurd hk (by simp [nextT])
  ·exact label_short w b e t vp ps hP hk
  ·cases hs : isS c [58]
   ·exact label_nosign w b e t c ts vp ps hP hk hs
   ·exact label_yes w b e t c ts vp ps hP hk hps hs
 ·exact label_no w b e r vp ps hP hk
end Go.Proofs.YtcaibahniheohaaDoor.Words

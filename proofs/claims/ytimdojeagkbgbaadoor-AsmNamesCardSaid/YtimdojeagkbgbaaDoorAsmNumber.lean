/- Contract of package asm's number. -/
import Derived.Test.YtimdojeagkbgbaaDoorAsmApp
namespace Go.Proofs.YtimdojeagkbgbaaDoor.Words
set_option maxRecDepth 100000
open Go.RowKit Go.Shelf Go.Lib
set_option linter.unusedVariables false
set_option linter.unusedSimpArgs false

/-- What a call that may append parts leaves. -/
def AppOut (w : World) (b e : Nat) (ps : List PartZ) (Z : Bool × List Tok × List PartZ) (en : Ending) (w' : World) : Prop :=
  en = .returned (.bool Z.1) ∧ ∃ vp', Par w' b e Z.2.1 vp' (ps ++ Z.2.2) ∧ Below b w w'
theorem numT_no {r : List Tok} (kind : Int) (e : Nat) (h : (immT r).1 = none) : numT kind r = (false, (immT r).2, []) := by
  cases r with
  | nil => rfl
  | cons t ts =>
    unfold immT at h ⊢
    unfold numT
    by_cases h1 : t.kind = 2
    · simp [h1] at h
    · simp [h1]
theorem numT_yes {r : List Tok} (kind : Int) (e : Nat) {n : Int} (h : (immT r).1 = some n) : numT kind r = (true, (immT r).2, [⟨kind, (nextT r e).at_, n, [], ins0, tok0⟩]) := by
  cases r with
  | nil => simp [immT] at h
  | cons t ts =>
    unfold immT at h ⊢
    unfold numT
    by_cases h1 : t.kind = 2
    · simp [h1] at h ⊢
      simp [nextT, h]
    · simp [h1] at h

set_option maxHeartbeats 4000000 in
theorem asmNumber_any (kind : Int) (w : World) (b e : Nat) (r : List Tok) (vp : Value) (ps : List PartZ) (hP : Par w b e r vp ps) (hps : ps.length ≤ 1000000) :
    Calls Tryd.prog 92 #[.pointer (some ⟨b, 0, none⟩), .int .i64 kind] w (AppOut w b e ps (numT kind r)) := by
  have HP := Lib.hid hP
  have hN := next_any w b e r vp ps hP
  have hlt := hP.lt
  have fd := field_at (nextT r e)
  have HPS := Lib.hid hps
  cases hs : (immT r).1 with
  | none =>
    have HZ : Hid (numT kind r = (false, (immT r).2, [])) := numT_no kind e hs
    have HIM : Hid ((immT r).1 = none) := hs
    generalize nextT r e = t at *
    clear hP hs hps
    go_enter Tryd.func92, Tryd.ntmps92
    go_wp2_with fail
    refine hN.mono ?_; rintro en w1 ⟨rfl, hb1⟩
    have HB1 := Lib.hid hb1
    have X2 : Hid (Box (w1.alloc (.cells #[.int .i64 kind, .int .i64 (t.at_ : Int), .int .i64 0, .string ⟨#[]⟩, .int .i64 0, .int .i64 0, .int .i64 0, .int .i64 0, .int .i64 0, .int .i64 0, .int .i64 0, .int .i64 0, .string ⟨#[]⟩] 77)) w1.heap.size (partL ⟨kind, t.at_, 0, [], ins0, tok0⟩)) := Box.new w1 (partL ⟨kind, t.at_, 0, [], ins0, tok0⟩) _
    have P2 := Lib.hid ((HP.out.go hb1).alloc (.cells #[.int .i64 kind, .int .i64 (t.at_ : Int), .int .i64 0, .string ⟨#[]⟩, .int .i64 0, .int .i64 0, .int .i64 0, .int .i64 0, .int .i64 0, .int .i64 0, .int .i64 0, .int .i64 0, .string ⟨#[]⟩] 77))
    have hs1 := hb1.size
    clear hb1
    go_wp2_with fail
    refine (immediate_any _ b e r vp ps w1.heap.size 2 _ P2.out X2.out (show 2 < 13 by decide) (by omega) ((HP.out.go HB1.out).not (Nat.le_refl _))).mono ?_; rintro en w3 ⟨rfl, hp3, hx3, hk3⟩
    have H3 := Lib.hid hp3
    have HK3 := Lib.hid hk3
    rw [HIM.out]
    simp only [Option.isSome_none]
    clear hp3 hk3 hx3
    go_wp2_with fail
    go_ret
    refine ⟨by rw [HZ.out]; rfl, vp, ?_, ?_⟩
    · rw [HZ.out]; simpa using H3.out
    · have h1 : Below b w w1 := HB1.out.mono (Nat.le_of_lt hlt)
      exact (h1.alloc (by omega) _).trans (HK3.out.below (by simp; omega) (fun k hk => by omega))
  | some n =>
    obtain ⟨h1, h2, h3⟩ := immT_some e hs
    have HZ : Hid (numT kind r = (true, (immT r).2, [⟨kind, (nextT r e).at_, n, [], ins0, tok0⟩])) := numT_yes kind e hs
    have HIM : Hid ((immT r).1 = some n) := hs
    generalize nextT r e = t at *
    clear hP hs hps h1 h2 h3
    go_enter Tryd.func92, Tryd.ntmps92
    go_wp2_with fail
    refine hN.mono ?_; rintro en w1 ⟨rfl, hb1⟩
    have HB1 := Lib.hid hb1
    have X2 : Hid (Box (w1.alloc (.cells #[.int .i64 kind, .int .i64 (t.at_ : Int), .int .i64 0, .string ⟨#[]⟩, .int .i64 0, .int .i64 0, .int .i64 0, .int .i64 0, .int .i64 0, .int .i64 0, .int .i64 0, .int .i64 0, .string ⟨#[]⟩] 77)) w1.heap.size (partL ⟨kind, t.at_, 0, [], ins0, tok0⟩)) := Box.new w1 (partL ⟨kind, t.at_, 0, [], ins0, tok0⟩) _
    have P2 := Lib.hid ((HP.out.go hb1).alloc (.cells #[.int .i64 kind, .int .i64 (t.at_ : Int), .int .i64 0, .string ⟨#[]⟩, .int .i64 0, .int .i64 0, .int .i64 0, .int .i64 0, .int .i64 0, .int .i64 0, .int .i64 0, .int .i64 0, .string ⟨#[]⟩] 77))
    have hs1 := hb1.size
    clear hb1
    go_wp2_with fail
    refine (immediate_any _ b e r vp ps w1.heap.size 2 _ P2.out X2.out (show 2 < 13 by decide) (by omega) ((HP.out.go HB1.out).not (Nat.le_refl _))).mono ?_; rintro en X ⟨rfl, hp3, hx3, hk3⟩
    rw [HIM.out] at hx3 ⊢
    simp only [Option.isSome_some] at hx3 ⊢
    rw [partL_set2] at hx3
    have hsx : w1.heap.size < X.heap.size := hx3.lt
    have HNB := Lib.hid ((HP.out.go HB1.out).not (Nat.le_refl _))
    have HBX : Hid (Below b w X) := by
      have h1 : Below b w w1 := HB1.out.mono (Nat.le_of_lt hlt)
      exact (h1.alloc (by omega) _).trans (hk3.below (by simp; omega) (fun k hk => by omega))
    clear hk3
    obtain ⟨xb, hxb⟩ : ∃ xb, xb = w1.heap.size := ⟨_, rfl⟩
    rw [← hxb] at hx3 hsx HNB
    have HX3 := Lib.hid hx3
    have HP3 : Hid (Par X.drew b e (immT r).2 vp ps) := hp3.drewN 1
    have hbxb : b ≠ xb := by omega
    generalize (⟨kind, t.at_, n, [], ins0, tok0⟩ : PartZ) = z at *
    clear hp3 hx3 P2 X2
    rw [← hxb]
    clear hxb
    go_wp2_with fail
    refine wp_region_tree (fun a x => _) (LinT.of [(0, true), (1, true), (2, true), (3, true), (5, true)] (.two 4 6 (LinT.of [(6, false), (7, false), (8, true), (9, true), (10, false)] .nil) (LinT.of [(4, false), (7, false), (8, true), (9, true), (10, false)] .nil))) (by kernel_rfl) (by kernel_rfl) rfl (by kernel_rfl) (fun x => Box x xb (partL z)) (fun _ _ h => h) ?_
    simp only [LinT.of, LinT.look, List.getElem?_toArray, List.getElem?_cons_succ, List.getElem?_cons_zero]
    have hS0 : Box X.drew xb (partL z) := HX3.out.drew
    iterate 4 (refine tree_take (v := ?_) hS0 (by rfl) ?_ ?_; rotate_left; (intro x hx; go_simp; try (with_reducible rfl)); (simp only [Act.put, List.setIfInBounds_toArray, List.set_cons_zero, List.set_cons_succ]))
    refine tree_get_box hS0 (by rfl) 77 (.tmp 5) rfl xb 0 rfl (partL z) [.int .i64 z.kind, .int .i64 (z.at_ : Int), .int .i64 z.num, .string (txt z.name), .int .i64 z.ins.op, .int .i64 z.ins.d, .int .i64 z.ins.a, .int .i64 z.ins.b, .int .i64 z.ins.imm, .int .i64 z.target.kind, .int .i64 z.target.num, .int .i64 (z.target.at_ : Int), .string (txt z.target.text)] (fun y hy => hy) (fun j v hj => by rw [Nat.zero_add]; exact hj) _ Tryd.underlying77 rfl 13 size_part rfl ?_
    simp only [Act.put, List.setIfInBounds_toArray, List.set_cons_zero, List.set_cons_succ]
    obtain ⟨i0, hi, hz0, hz1, hz2⟩ := info_parts info_part
    have HI := Lib.hid hi
    have HZ0 := Lib.hid hz0
    have HZ1 := Lib.hid hz1
    have HZ2 := Lib.hid hz2
    clear hi hz0 hz1 hz2
    have c3 := HP3.out.parts
    have hbl := HP3.out.lt
    have HLT := Lib.hid hbl
    have hbl2 : b < X.heap.size := hbl
    have hps := HPS.out
    have END : ∀ (o : Obj) (y3 : World) (v3 : Value), (X.drew.alloc o).grownBy y3 vp.ownBlock → y3.ownsRow (b + 1) 77 13 v3 (ps.length + 1) (partsL ps ++ partL z) →
        (Par (y3.setCell ⟨b, 3, none⟩ v3) b e (immT r).2 v3 (ps ++ [z]) ∧ Below b w (y3.setCell ⟨b, 3, none⟩ v3)) ∧ Box y3 xb (partL z) ∧ y3.cell? ⟨b, 3, none⟩ = some vp ∧ y3.frozen? ⟨b, 3, none⟩ = false ∧ b < y3.heap.size ∧ ∃ A3 k3, v3 = .slice A3 (ps.length + 1) k3 := by
      intro o y3 v3 hg ho
      have hne : some b ≠ vp.ownBlock := fun e => by have := (HP3.out.own.lt b e.symm).1; omega
      obtain ⟨q1, q2⟩ := HP3.out.app hg ho rfl
      obtain ⟨A3, k3, h3⟩ := (Row.of_own ho).form
      have hb2 := ((HP3.out.alloc o).go (Below.refl _ _))
      refine ⟨⟨q1, HBX.out.trans ((Below.refl b X).drew.trans q2)⟩, (HX3.out.drew.alloc o).grown hg (fun e => HNB.out e.symm), hg.cell (hb2.parts) hne, ?_, ?_, A3, k3, h3⟩
      · rw [World.frozen?_of_block (w := X.drew.alloc o) (hg.block b hb2.lt hne)]; exact hb2.frozen 3
      · have := hg.size; have := hb2.lt; omega
    have HEND := Lib.hid END
    clear END
    refine tree_two hS0 (by rfl) (by rfl) (fun K hK => ?_) (fun K hK => ?_)
    · go_simp
      refine hK.out _ _ hS0 (fun _ => ?_)
      clear hK K
      try (simp only [Act.put, List.setIfInBounds_toArray, List.set_cons_zero, List.set_cons_succ])
      refine tree_call hS0 (by rfl) (fun K hK => ?_)
      go_simp
      have hSa : Box (X.drew.alloc (.cells #[.int .i64 z.kind, .int .i64 (z.at_ : Int), .int .i64 z.num, .string (txt z.name), .int .i64 z.ins.op, .int .i64 z.ins.d, .int .i64 z.ins.a, .int .i64 z.ins.b, .int .i64 z.ins.imm, .int .i64 z.target.kind, .int .i64 z.target.num, .int .i64 (z.target.at_ : Int), .string (txt z.target.text)] 77)) xb (partL z) := hS0.alloc _
      refine hK.out _ _ hSa (fun _ => ?_)
      clear hK K
      try (simp only [Act.put, List.setIfInBounds_toArray, List.set_cons_zero, List.set_cons_succ])
      refine tree_call hSa (by rfl) (fun K hK => ?_)
      refine wp_append_row _ (.tmp 19) (.tmp 21) 68 rfl (b + 1) 77 i0 _ 13 120 Tryd.underlying68 HI.out HZ0.out HZ1.out HZ2.out rfl (by omega) _ ps.length (partsL ps) rfl (HP3.out.own.alloc _) _ (.slice (some ⟨X.heap.size, 0, none⟩) 1 1) 1 (partL z) rfl (row_part X.drew z _) (partL_cell _) (by unfold maxLen; omega) (by omega) (by simp; omega) ?_
      intro v3 y3 hO3 hg3
      obtain ⟨PA, hS3, q3, q4, hy3, A3, k3, rfl⟩ := HEND.out _ _ _ hg3 hO3
      have HPA := Lib.hid PA
      clear hO3 hg3 PA
      refine hK.out _ _ hS3 (fun _ => ?_)
      clear hK K
      try (simp only [Act.put, List.setIfInBounds_toArray, List.set_cons_zero, List.set_cons_succ])
      iterate 2 (refine tree_take (v := ?_) hS3 (by rfl) ?_ ?_; rotate_left; (intro x hx; go_simp; try (with_reducible rfl)); (simp only [Act.put, List.setIfInBounds_toArray, List.set_cons_zero, List.set_cons_succ]))
      refine tree_call hS3 (by rfl) (fun K hK => ?_)
      go_simp
      refine hK.out _ _ (hS3.setCell_other hbxb.symm 3 _) (fun _ => ?_)
      clear hK K
      refine tree_done ?_
      try (simp only [Act.put, List.setIfInBounds_toArray, List.set_cons_zero, List.set_cons_succ])
      go_wp2_with fail
      go_ret
      exact ⟨by rw [HZ.out]; rfl, _, by rw [HZ.out]; exact HPA.out.1, HPA.out.2⟩
    · go_simp
      have hSa : Box (X.drew.alloc (.cells #[.int .i64 z.kind, .int .i64 (z.at_ : Int), .int .i64 z.num, .string (txt z.name), .int .i64 z.ins.op, .int .i64 z.ins.d, .int .i64 z.ins.a, .int .i64 z.ins.b, .int .i64 z.ins.imm, .int .i64 z.target.kind, .int .i64 z.target.num, .int .i64 (z.target.at_ : Int), .string (txt z.target.text)] 77)) xb (partL z) := hS0.alloc _
      have c3a : (X.drew.alloc (.cells #[.int .i64 z.kind, .int .i64 (z.at_ : Int), .int .i64 z.num, .string (txt z.name), .int .i64 z.ins.op, .int .i64 z.ins.d, .int .i64 z.ins.a, .int .i64 z.ins.b, .int .i64 z.ins.imm, .int .i64 z.target.kind, .int .i64 z.target.num, .int .i64 (z.target.at_ : Int), .string (txt z.target.text)] 77)).cell? ⟨b, 3, none⟩ = some vp := (World.cell?_alloc_lt _ _ _ hbl).trans c3
      have c3b := (show (X.alloc (.cells #[.int .i64 z.kind, .int .i64 (z.at_ : Int), .int .i64 z.num, .string (txt z.name), .int .i64 z.ins.op, .int .i64 z.ins.d, .int .i64 z.ins.a, .int .i64 z.ins.b, .int .i64 z.ins.imm, .int .i64 z.target.kind, .int .i64 z.target.num, .int .i64 (z.target.at_ : Int), .string (txt z.target.text)] 77)).cell? ⟨b, 3, none⟩ = some vp from c3a)
      refine hK.out _ _ hSa (fun _ => ?_)
      clear hK K
      try (simp only [Act.put, List.setIfInBounds_toArray, List.set_cons_zero, List.set_cons_succ])
      refine tree_call hSa (by rfl) (fun K hK => ?_)
      go_simp
      refine hK.out _ _ hSa (fun _ => ?_)
      clear hK K
      try (simp only [Act.put, List.setIfInBounds_toArray, List.set_cons_zero, List.set_cons_succ])
      refine tree_call hSa (by rfl) (fun K hK => ?_)
      refine wp_append_row _ (.tmp 19) (.tmp 21) 68 rfl (b + 1) 77 i0 _ 13 120 Tryd.underlying68 HI.out HZ0.out HZ1.out HZ2.out rfl (by omega) _ ps.length (partsL ps) rfl (HP3.out.own.alloc _) _ (.slice (some ⟨X.heap.size, 0, none⟩) 1 1) 1 (partL z) rfl (row_part X.drew z _) (partL_cell _) (by unfold maxLen; omega) (by omega) (by simp; omega) ?_
      intro v3 y3 hO3 hg3
      obtain ⟨PA, hS3, q3, q4, hy3, A3, k3, rfl⟩ := HEND.out _ _ _ hg3 hO3
      have HPA := Lib.hid PA
      clear hO3 hg3 PA
      refine hK.out _ _ hS3 (fun _ => ?_)
      clear hK K
      try (simp only [Act.put, List.setIfInBounds_toArray, List.set_cons_zero, List.set_cons_succ])
      iterate 2 (refine tree_take (v := ?_) hS3 (by rfl) ?_ ?_; rotate_left; (intro x hx; go_simp; try (with_reducible rfl)); (simp only [Act.put, List.setIfInBounds_toArray, List.set_cons_zero, List.set_cons_succ]))
      refine tree_call hS3 (by rfl) (fun K hK => ?_)
      go_simp
      refine hK.out _ _ (hS3.setCell_other hbxb.symm 3 _) (fun _ => ?_)
      clear hK K
      refine tree_done ?_
      try (simp only [Act.put, List.setIfInBounds_toArray, List.set_cons_zero, List.set_cons_succ])
      go_wp2_with fail
      go_ret
      exact ⟨by rw [HZ.out]; rfl, _, by rw [HZ.out]; exact HPA.out.1, HPA.out.2⟩
end Go.Proofs.YtimdojeagkbgbaaDoor.Words

/- Several texts in one: AsmNumber, AsmBytes, RefForm, IsaForm, LexTake, LexTake2, LexSplit. -/
import Derived.Test.YtfdegdbknponkaaDoorG03
import Derived.LoopTactic
import Derived.Test.YtfdegdbknponkaaDoorRows
import Derived.Test.YtfdegdbknponkaaDoorG01

/- Contract of package asm's number. -/
namespace Go.Proofs.YtfdegdbknponkaaDoor.Words
set_option maxRecDepth 100000
open Go.RowKit Go.Shelf Go.Lib
set_option linter.unusedVariables false
set_option linter.unusedSimpArgs false

/-- What a call that may append parts leaves. -/
def AppOut (w : World) (b e : Nat) (ps : List PartZ) (Z : Bool × List Tok × List PartZ) (en : Ending) (w' : World) : Prop :=
  en = .returned (.bool Z.1) ∧ ∃ vp', Par w' b e Z.2.1 vp' (ps ++ Z.2.2) ∧ Below b w w'
theorem numT_no {r : List Tok} (kind : Int) (e : Nat) (h : (immT r).1 = none) : numT kind r = (false, (immT r).2, []) := by
  cases r with
  | nil => rfl
  | cons t ts =>
    unfold immT at h ⊢
    unfold numT
    by_cases h1 : t.kind = 2
    · simp [h1] at h
    · simp [h1]
theorem numT_yes {r : List Tok} (kind : Int) (e : Nat) {n : Int} (h : (immT r).1 = some n) : numT kind r = (true, (immT r).2, [⟨kind, (nextT r e).at_, n, [], ins0, tok0⟩]) := by
  cases r with
  | nil => simp [immT] at h
  | cons t ts =>
    unfold immT at h ⊢
    unfold numT
    by_cases h1 : t.kind = 2
    · simp [h1] at h ⊢
      simp [nextT, h]
    · simp [h1] at h

set_option maxHeartbeats 4000000 in
theorem asmNumber_any (kind : Int) (w : World) (b e : Nat) (r : List Tok) (vp : Value) (ps : List PartZ) (hP : Par w b e r vp ps) (hps : ps.length ≤ 1000000) :
    Calls Tryd.prog 92 #[.pointer (some ⟨b, 0, none⟩), .int .i64 kind] w (AppOut w b e ps (numT kind r)) := by
  have HP := Lib.hid hP
  have hN := next_any w b e r vp ps hP
  have hlt := hP.lt
  have fd := field_at (nextT r e)
  have HPS := Lib.hid hps
  cases hs : (immT r).1 with
  | none =>
    have HZ : Hid (numT kind r = (false, (immT r).2, [])) := numT_no kind e hs
    have HIM : Hid ((immT r).1 = none) := hs
    generalize nextT r e = t at *
    clear hP hs hps
    go_enter Tryd.func92, Tryd.ntmps92
    go_wp2_with fail
    refine hN.mono ?_; rintro en w1 ⟨rfl, hb1⟩
    have HB1 := Lib.hid hb1
    have X2 : Hid (Box (w1.alloc (.cells #[.int .i64 kind, .int .i64 (t.at_ : Int), .int .i64 0, .string ⟨#[]⟩, .int .i64 0, .int .i64 0, .int .i64 0, .int .i64 0, .int .i64 0, .int .i64 0, .int .i64 0, .int .i64 0, .string ⟨#[]⟩] 69)) w1.heap.size (partL ⟨kind, t.at_, 0, [], ins0, tok0⟩)) := Box.new w1 (partL ⟨kind, t.at_, 0, [], ins0, tok0⟩) _
    have P2 := Lib.hid ((HP.out.go hb1).alloc (.cells #[.int .i64 kind, .int .i64 (t.at_ : Int), .int .i64 0, .string ⟨#[]⟩, .int .i64 0, .int .i64 0, .int .i64 0, .int .i64 0, .int .i64 0, .int .i64 0, .int .i64 0, .int .i64 0, .string ⟨#[]⟩] 69))
    have hs1 := hb1.size
    clear hb1
    go_wp2_with fail
    refine (immediate_any _ b e r vp ps w1.heap.size 2 _ P2.out X2.out (show 2 < 13 by decide) (by omega) ((HP.out.go HB1.out).not (Nat.le_refl _))).mono ?_; rintro en w3 ⟨rfl, hp3, hx3, hk3⟩
    have H3 := Lib.hid hp3
    have HK3 := Lib.hid hk3
    rw [HIM.out]
    simp only [Option.isSome_none]
    clear hp3 hk3 hx3
    go_wp2_with fail
    go_ret
    refine ⟨by rw [HZ.out]; rfl, vp, ?_, ?_⟩
    · rw [HZ.out]; simpa using H3.out
    · have h1 : Below b w w1 := HB1.out.mono (Nat.le_of_lt hlt)
      exact (h1.alloc (by omega) _).trans (HK3.out.below (by simp; omega) (fun k hk => by omega))
  | some n =>
    obtain ⟨h1, h2, h3⟩ := immT_some e hs
    have HZ : Hid (numT kind r = (true, (immT r).2, [⟨kind, (nextT r e).at_, n, [], ins0, tok0⟩])) := numT_yes kind e hs
    have HIM : Hid ((immT r).1 = some n) := hs
    generalize nextT r e = t at *
    clear hP hs hps h1 h2 h3
    go_enter Tryd.func92, Tryd.ntmps92
    go_wp2_with fail
    refine hN.mono ?_; rintro en w1 ⟨rfl, hb1⟩
    have HB1 := Lib.hid hb1
    have X2 : Hid (Box (w1.alloc (.cells #[.int .i64 kind, .int .i64 (t.at_ : Int), .int .i64 0, .string ⟨#[]⟩, .int .i64 0, .int .i64 0, .int .i64 0, .int .i64 0, .int .i64 0, .int .i64 0, .int .i64 0, .int .i64 0, .string ⟨#[]⟩] 69)) w1.heap.size (partL ⟨kind, t.at_, 0, [], ins0, tok0⟩)) := Box.new w1 (partL ⟨kind, t.at_, 0, [], ins0, tok0⟩) _
    have P2 := Lib.hid ((HP.out.go hb1).alloc (.cells #[.int .i64 kind, .int .i64 (t.at_ : Int), .int .i64 0, .string ⟨#[]⟩, .int .i64 0, .int .i64 0, .int .i64 0, .int .i64 0, .int .i64 0, .int .i64 0, .int .i64 0, .int .i64 0, .string ⟨#[]⟩] 69))
    have hs1 := hb1.size
    clear hb1
    go_wp2_with fail
    refine (immediate_any _ b e r vp ps w1.heap.size 2 _ P2.out X2.out (show 2 < 13 by decide) (by omega) ((HP.out.go HB1.out).not (Nat.le_refl _))).mono ?_; rintro en X ⟨rfl, hp3, hx3, hk3⟩
    rw [HIM.out] at hx3 ⊢
    simp only [Option.isSome_some] at hx3 ⊢
    rw [partL_set2] at hx3
    have hsx : w1.heap.size < X.heap.size := hx3.lt
    have HNB := Lib.hid ((HP.out.go HB1.out).not (Nat.le_refl _))
    have HBX : Hid (Below b w X) := by
      have h1 : Below b w w1 := HB1.out.mono (Nat.le_of_lt hlt)
      exact (h1.alloc (by omega) _).trans (hk3.below (by simp; omega) (fun k hk => by omega))
    clear hk3
    obtain ⟨xb, hxb⟩ : ∃ xb, xb = w1.heap.size := ⟨_, rfl⟩
    rw [← hxb] at hx3 hsx HNB
    have HX3 := Lib.hid hx3
    have HP3 : Hid (Par X.drew b e (immT r).2 vp ps) := hp3.drewN 1
    have hbxb : b ≠ xb := by omega
    generalize (⟨kind, t.at_, n, [], ins0, tok0⟩ : PartZ) = z at *
    clear hp3 hx3 P2 X2
    rw [← hxb]
    clear hxb
    go_wp2_with fail
    refine wp_region_tree (fun a x => _) (LinT.of [(0, true), (1, true), (2, true), (3, true), (5, true)] (.two 4 6 (LinT.of [(6, false), (7, false), (8, true), (9, true), (10, false)] .nil) (LinT.of [(4, false), (7, false), (8, true), (9, true), (10, false)] .nil))) (by kernel_rfl) (by kernel_rfl) rfl (by kernel_rfl) (fun x => Box x xb (partL z)) (fun _ _ h => h) ?_
    simp only [LinT.of, LinT.look, List.getElem?_toArray, List.getElem?_cons_succ, List.getElem?_cons_zero]
    have hS0 : Box X.drew xb (partL z) := HX3.out.drew
    iterate 4 (refine tree_take (v := ?_) hS0 (by rfl) ?_ ?_; rotate_left; (intro x hx; go_simp; try (with_reducible rfl)); (simp only [Act.put, List.setIfInBounds_toArray, List.set_cons_zero, List.set_cons_succ]))
    refine tree_get_box hS0 (by rfl) 69 (.tmp 5) rfl xb 0 rfl (partL z) [.int .i64 z.kind, .int .i64 (z.at_ : Int), .int .i64 z.num, .string (txt z.name), .int .i64 z.ins.op, .int .i64 z.ins.d, .int .i64 z.ins.a, .int .i64 z.ins.b, .int .i64 z.ins.imm, .int .i64 z.target.kind, .int .i64 z.target.num, .int .i64 (z.target.at_ : Int), .string (txt z.target.text)] (fun y hy => hy) (fun j v hj => by rw [Nat.zero_add]; exact hj) _ Tryd.underlying69 rfl 13 size_part rfl ?_
    simp only [Act.put, List.setIfInBounds_toArray, List.set_cons_zero, List.set_cons_succ]
    obtain ⟨i0, hi, hz0, hz1, hz2⟩ := info_parts info_part
    have HI := Lib.hid hi
    have HZ0 := Lib.hid hz0
    have HZ1 := Lib.hid hz1
    have HZ2 := Lib.hid hz2
    clear hi hz0 hz1 hz2
    have c3 := HP3.out.parts
    have hbl := HP3.out.lt
    have HLT := Lib.hid hbl
    have hbl2 : b < X.heap.size := hbl
    have hps := HPS.out
    have END : ∀ (o : Obj) (y3 : World) (v3 : Value), (X.drew.alloc o).grownBy y3 vp.ownBlock → y3.ownsRow (b + 1) 69 13 v3 (ps.length + 1) (partsL ps ++ partL z) →
        (Par (y3.setCell ⟨b, 3, none⟩ v3) b e (immT r).2 v3 (ps ++ [z]) ∧ Below b w (y3.setCell ⟨b, 3, none⟩ v3)) ∧ Box y3 xb (partL z) ∧ y3.cell? ⟨b, 3, none⟩ = some vp ∧ y3.frozen? ⟨b, 3, none⟩ = false ∧ b < y3.heap.size ∧ ∃ A3 k3, v3 = .slice A3 (ps.length + 1) k3 := by
      intro o y3 v3 hg ho
      have hne : some b ≠ vp.ownBlock := fun e => by have := (HP3.out.own.lt b e.symm).1; omega
      obtain ⟨q1, q2⟩ := HP3.out.app hg ho rfl
      obtain ⟨A3, k3, h3⟩ := (Row.of_own ho).form
      have hb2 := ((HP3.out.alloc o).go (Below.refl _ _))
      refine ⟨⟨q1, HBX.out.trans ((Below.refl b X).drew.trans q2)⟩, (HX3.out.drew.alloc o).grown hg (fun e => HNB.out e.symm), hg.cell (hb2.parts) hne, ?_, ?_, A3, k3, h3⟩
      · rw [World.frozen?_of_block (w := X.drew.alloc o) (hg.block b hb2.lt hne)]; exact hb2.frozen 3
      · have := hg.size; have := hb2.lt; omega
    have HEND := Lib.hid END
    clear END
    refine tree_two hS0 (by rfl) (by rfl) (fun K hK => ?_) (fun K hK => ?_)
    · go_simp
      refine hK.out _ _ hS0 (fun _ => ?_)
      clear hK K
      try (simp only [Act.put, List.setIfInBounds_toArray, List.set_cons_zero, List.set_cons_succ])
      refine tree_call hS0 (by rfl) (fun K hK => ?_)
      go_simp
      have hSa : Box (X.drew.alloc (.cells #[.int .i64 z.kind, .int .i64 (z.at_ : Int), .int .i64 z.num, .string (txt z.name), .int .i64 z.ins.op, .int .i64 z.ins.d, .int .i64 z.ins.a, .int .i64 z.ins.b, .int .i64 z.ins.imm, .int .i64 z.target.kind, .int .i64 z.target.num, .int .i64 (z.target.at_ : Int), .string (txt z.target.text)] 69)) xb (partL z) := hS0.alloc _
      refine hK.out _ _ hSa (fun _ => ?_)
      clear hK K
      try (simp only [Act.put, List.setIfInBounds_toArray, List.set_cons_zero, List.set_cons_succ])
      refine tree_call hSa (by rfl) (fun K hK => ?_)
      refine wp_append_row _ (.tmp 19) (.tmp 21) 58 rfl (b + 1) 69 i0 _ 13 120 Tryd.underlying58 HI.out HZ0.out HZ1.out HZ2.out rfl (by omega) _ ps.length (partsL ps) rfl (HP3.out.own.alloc _) _ (.slice (some ⟨X.heap.size, 0, none⟩) 1 1) 1 (partL z) rfl (row_part X.drew z _) (partL_cell _) (by unfold maxLen; omega) (by omega) (by simp; omega) ?_
      intro v3 y3 hO3 hg3
      obtain ⟨PA, hS3, q3, q4, hy3, A3, k3, rfl⟩ := HEND.out _ _ _ hg3 hO3
      have HPA := Lib.hid PA
      clear hO3 hg3 PA
      refine hK.out _ _ hS3 (fun _ => ?_)
      clear hK K
      try (simp only [Act.put, List.setIfInBounds_toArray, List.set_cons_zero, List.set_cons_succ])
      iterate 2 (refine tree_take (v := ?_) hS3 (by rfl) ?_ ?_; rotate_left; (intro x hx; go_simp; try (with_reducible rfl)); (simp only [Act.put, List.setIfInBounds_toArray, List.set_cons_zero, List.set_cons_succ]))
      refine tree_call hS3 (by rfl) (fun K hK => ?_)
      go_simp
      refine hK.out _ _ (hS3.setCell_other hbxb.symm 3 _) (fun _ => ?_)
      clear hK K
      refine tree_done ?_
      try (simp only [Act.put, List.setIfInBounds_toArray, List.set_cons_zero, List.set_cons_succ])
      go_wp2_with fail
      go_ret
      exact ⟨by rw [HZ.out]; rfl, _, by rw [HZ.out]; exact HPA.out.1, HPA.out.2⟩
    · go_simp
      have hSa : Box (X.drew.alloc (.cells #[.int .i64 z.kind, .int .i64 (z.at_ : Int), .int .i64 z.num, .string (txt z.name), .int .i64 z.ins.op, .int .i64 z.ins.d, .int .i64 z.ins.a, .int .i64 z.ins.b, .int .i64 z.ins.imm, .int .i64 z.target.kind, .int .i64 z.target.num, .int .i64 (z.target.at_ : Int), .string (txt z.target.text)] 69)) xb (partL z) := hS0.alloc _
      have c3a : (X.drew.alloc (.cells #[.int .i64 z.kind, .int .i64 (z.at_ : Int), .int .i64 z.num, .string (txt z.name), .int .i64 z.ins.op, .int .i64 z.ins.d, .int .i64 z.ins.a, .int .i64 z.ins.b, .int .i64 z.ins.imm, .int .i64 z.target.kind, .int .i64 z.target.num, .int .i64 (z.target.at_ : Int), .string (txt z.target.text)] 69)).cell? ⟨b, 3, none⟩ = some vp := (World.cell?_alloc_lt _ _ _ hbl).trans c3
      have c3b := (show (X.alloc (.cells #[.int .i64 z.kind, .int .i64 (z.at_ : Int), .int .i64 z.num, .string (txt z.name), .int .i64 z.ins.op, .int .i64 z.ins.d, .int .i64 z.ins.a, .int .i64 z.ins.b, .int .i64 z.ins.imm, .int .i64 z.target.kind, .int .i64 z.target.num, .int .i64 (z.target.at_ : Int), .string (txt z.target.text)] 69)).cell? ⟨b, 3, none⟩ = some vp from c3a)
      refine hK.out _ _ hSa (fun _ => ?_)
      clear hK K
      try (simp only [Act.put, List.setIfInBounds_toArray, List.set_cons_zero, List.set_cons_succ])
      refine tree_call hSa (by rfl) (fun K hK => ?_)
      go_simp
      refine hK.out _ _ hSa (fun _ => ?_)
      clear hK K
      try (simp only [Act.put, List.setIfInBounds_toArray, List.set_cons_zero, List.set_cons_succ])
      refine tree_call hSa (by rfl) (fun K hK => ?_)
      refine wp_append_row _ (.tmp 19) (.tmp 21) 58 rfl (b + 1) 69 i0 _ 13 120 Tryd.underlying58 HI.out HZ0.out HZ1.out HZ2.out rfl (by omega) _ ps.length (partsL ps) rfl (HP3.out.own.alloc _) _ (.slice (some ⟨X.heap.size, 0, none⟩) 1 1) 1 (partL z) rfl (row_part X.drew z _) (partL_cell _) (by unfold maxLen; omega) (by omega) (by simp; omega) ?_
      intro v3 y3 hO3 hg3
      obtain ⟨PA, hS3, q3, q4, hy3, A3, k3, rfl⟩ := HEND.out _ _ _ hg3 hO3
      have HPA := Lib.hid PA
      clear hO3 hg3 PA
      refine hK.out _ _ hS3 (fun _ => ?_)
      clear hK K
      try (simp only [Act.put, List.setIfInBounds_toArray, List.set_cons_zero, List.set_cons_succ])
      iterate 2 (refine tree_take (v := ?_) hS3 (by rfl) ?_ ?_; rotate_left; (intro x hx; go_simp; try (with_reducible rfl)); (simp only [Act.put, List.setIfInBounds_toArray, List.set_cons_zero, List.set_cons_succ]))
      refine tree_call hS3 (by rfl) (fun K hK => ?_)
      go_simp
      refine hK.out _ _ (hS3.setCell_other hbxb.symm 3 _) (fun _ => ?_)
      clear hK K
      refine tree_done ?_
      try (simp only [Act.put, List.setIfInBounds_toArray, List.set_cons_zero, List.set_cons_succ])
      go_wp2_with fail
      go_ret
      exact ⟨by rw [HZ.out]; rfl, _, by rw [HZ.out]; exact HPA.out.1, HPA.out.2⟩
end Go.Proofs.YtfdegdbknponkaaDoor.Words

/- Contract of package asm's byteList. -/
namespace Go.Proofs.YtfdegdbknponkaaDoor.Words
set_option maxRecDepth 100000
open Go.RowKit Go.Shelf Go.Lib
set_option linter.unusedVariables false
set_option linter.unusedSimpArgs false

/-- How many tokens a parser has. -/
def parMu (b : Nat) (w : World) : Nat := match w.cell? ⟨b, 0, none⟩ with | some (.slice _ n _) => n | _ => 0
theorem Par.mu {w : World} {b e : Nat} {r : List Tok} {vp : Value} {ps : List PartZ} (h : Par w b e r vp ps) : parMu b w = r.length := by
  obtain ⟨vt, vn, h1, h2, _⟩ := h
  obtain ⟨A, c, rfl⟩ := h2.form
  unfold parMu
  rw [h1.cell (k := 0) rfl]
theorem numT_len (kind : Int) (r : List Tok) : (numT kind r).2.2.length + (numT kind r).2.1.length ≤ r.length := by
  cases r with
  | nil => simp [numT]
  | cons t ts =>
    have h : numT kind (t :: ts) = if t.kind = 2 then (true, ts, [⟨kind, t.at_, t.num, [], ins0, tok0⟩]) else (false, t :: ts, []) := rfl
    rw [h]
    split
    · simp; omega
    · simp
theorem signT_len (c : List UInt8) (r : List Tok) : (signT c r).2.length ≤ r.length := by
  cases r with
  | nil => simp [signT]
  | cons t ts =>
    have h : signT c (t :: ts) = if isS t c = true then (true, ts) else (false, t :: ts) := rfl
    rw [h]
    split
    · simp
    · simp
theorem byteF_len : ∀ f ok r, (byteF f ok r).2.2.length + (byteF f ok r).2.1.length ≤ r.length
  | 0, ok, r => by simp [byteF]
  | f + 1, ok, r => by
    unfold byteF
    split
    · split
      · have h1 := byteF_len f (numT 4 (signT [44] r).2).1 (numT 4 (signT [44] r).2).2.1
        have h2 := numT_len 4 (signT [44] r).2
        have h3 := signT_len [44] r
        simp only [List.length_append]
        omega
      · simp
    · simp
theorem bytesT_len (r : List Tok) : (bytesT r).2.2.length + (bytesT r).2.1.length ≤ r.length := by
  unfold bytesT
  have h1 := byteF_len r.length (numT 4 r).1 (numT 4 r).2.1
  have h2 := numT_len 4 r
  simp only [List.length_append]
  omega

set_option maxHeartbeats 4000000 in
theorem byteList_any (w : World) (b e : Nat) (r : List Tok) (vp : Value) (ps : List PartZ) (hP : Par w b e r vp ps) (hps : ps.length + r.length ≤ 1000000) :
    Calls Tryd.prog 93 #[.pointer (some ⟨b, 0, none⟩)] w (AppOut w b e ps (bytesT r)) := by
  have HPS := Lib.hid hps
  have hN := asmNumber_any 4 w b e r vp ps hP (by omega)
  have HL := Lib.hid (numT_len 4 r)
  obtain ⟨Z, hZ⟩ : ∃ Z, Z = bytesT r := ⟨_, rfl⟩
  have HZ := Lib.hid hZ
  rw [← hZ]
  clear hP hps hZ
  go_enter Tryd.func93, Tryd.ntmps93
  go_wp2_with fail
  refine hN.mono ?_; rintro en w1 ⟨rfl, vp1, hp1, hb1⟩
  have HP1 := Lib.hid hp1
  have HB1 := Lib.hid hb1
  clear hp1 hb1
  go_wp2_with fail
  go_loopw [3] (fun q wr => ∃ (ok : Bool) (f : Nat) (r1 : List Tok) (vp1 : Value) (qs : List PartZ), q = .bool ok ∧ Par wr b e r1 vp1 (ps ++ qs) ∧ Below b w wr ∧ Z = ((byteF f ok r1).1, (byteF f ok r1).2.1, qs ++ (byteF f ok r1).2.2) ∧ r1.length ≤ f ∧ qs.length + r1.length ≤ r.length) (fun _ wr => parMu b wr)
  case atStart => exact ⟨_, r.length, _, vp1, _, rfl, HP1.out, HB1.out, HZ.out, by have := HL.out; omega, HL.out⟩
  case round =>
    obtain ⟨ok, f, r1, vp2, qs, rfl, hp, hbw, hz, hf, hlen⟩ := hrel
    have HP2 := Lib.hid hp
    have HB2 := Lib.hid hbw
    have HZ2 := Lib.hid hz
    have HF := Lib.hid hf
    have HLN := Lib.hid hlen
    cases ok
    · have hz2 : Hid (Z = (false, r1, qs)) := by
        show _ = _
        rw [hz]
        cases f with
        | zero => simp [byteF]
        | succ f => unfold byteF; simp
      clear hp hbw hz hf hlen
      go_wp2_with fail
      go_ret
      exact ⟨by rw [hz2.out]; rfl, vp2, by rw [hz2.out]; exact HP2.out, HB2.out⟩
    · have hS := sign_any wr b e r1 vp2 (ps ++ qs) [44] hp
      cases hs : (signT [44] r1).1
      · have hz2 : Hid (Z = (true, r1, qs)) := by
          show _ = _
          rw [hz]
          cases f with
          | zero => simp [byteF]
          | succ f => unfold byteF; simp [hs]
        rw [hs] at hS
        have HSR := Lib.hid (signT_no hs)
        have hlt := hp.lt
        clear hp hbw hz hf hlen hs
        go_wp2_with fail
        refine hS.mono ?_; rintro en w3 ⟨rfl, hp3, hk3⟩
        have HP3 := Lib.hid hp3
        have HK3 := Lib.hid hk3
        clear hp3 hk3
        go_wp2_with fail
        go_ret
        refine ⟨by rw [hz2.out]; rfl, vp2, ?_, HB2.out.trans (HK3.out.below (Nat.le_of_lt hlt) (fun k hk => by omega))⟩
        rw [hz2.out]
        have := HP3.out
        rw [HSR.out] at this
        exact this
      · obtain ⟨t, ht⟩ := signT_yes hs
        have hl1 : r1.length = (signT [44] r1).2.length + 1 := by conv => lhs; rw [ht]
                                                                  rfl
        obtain ⟨g, rfl⟩ : ∃ g, f = g + 1 := ⟨f - 1, by omega⟩
        have HZ3 : Hid (Z = ((byteF g (numT 4 (signT [44] r1).2).1 (numT 4 (signT [44] r1).2).2.1).1, (byteF g (numT 4 (signT [44] r1).2).1 (numT 4 (signT [44] r1).2).2.1).2.1, (qs ++ (numT 4 (signT [44] r1).2).2.2) ++ (byteF g (numT 4 (signT [44] r1).2).1 (numT 4 (signT [44] r1).2).2.1).2.2)) := by
          show _ = _
          rw [hz]
          conv => lhs; unfold byteF
          simp [hs]
        have HL3 := Lib.hid (numT_len 4 (signT [44] r1).2)
        have HL1 := Lib.hid hl1
        rw [hs] at hS
        have hlt := hp.lt
        have hmu := Lib.hid hp.mu
        clear hp hbw hz hf hlen hs ht hl1 HZ2
        go_wp2_with fail
        refine hS.mono ?_; rintro en w3 ⟨rfl, hp3, hk3⟩
        have HK3 := Lib.hid (HB2.out.trans (hk3.below (Nat.le_of_lt hlt) (fun k hk => by omega)))
        have hN2 := asmNumber_any 4 w3 b e _ _ _ hp3 (by have := HPS.out; have := HLN.out; simp only [List.length_append]; omega)
        clear hp3 hk3
        go_wp2_with fail
        refine hN2.mono ?_; rintro en w4 ⟨rfl, vp4, hp4, hb4⟩
        rw [List.append_assoc] at hp4
        have HP4 := Lib.hid hp4
        have HB4 := Lib.hid (HK3.out.trans hb4)
        clear hp4 hb4
        go_wp2_with fail
        go_roundw
        case rel => exact ⟨_, g, _, vp4, _, rfl, HP4.out, HB4.out, HZ3.out, by have := HL3.out; have := HL1.out; have := HF.out; omega, by have := HL3.out; have := HL1.out; have := HLN.out; simp only [List.length_append]; omega⟩
        case measure => rw [hmu.out, HP4.out.mu]; have := HL3.out; have := HL1.out; omega
end Go.Proofs.YtfdegdbknponkaaDoor.Words

/- Contract of the document's own answer on forms. No conditions. -/
namespace Go.Proofs.YtfdegdbknponkaaDoor.Words
set_option maxRecDepth 100000
open Go.RowKit

set_option maxHeartbeats 400000 in
theorem refForm_any (op : Int) (w : World) :
    Calls Tryd.prog 40 #[.int .i64 op] w fun e w' => e = .returned (.int .i64 (formZ op)) ∧ w = w' := by
  have hc := formZ_cases op
  go_enter Tryd.func40, Tryd.ntmps40
  go_wp2
  all_goals
    go_ret
    exact ⟨ret_int (by (try simp only [beq_iff_eq, beq_eq_false_iff_ne, ne_eq] at *); omega), rfl⟩

end Go.Proofs.YtfdegdbknponkaaDoor.Words

/- Contracts of package isa and of the document's own answers on forms and on which instructions may be: Form, Right. No conditions. -/
namespace Go.Proofs.YtfdegdbknponkaaDoor.Words
set_option maxRecDepth 100000
open Go.RowKit

theorem results_tmp4 {fn : Func} {t u v x : Tmp} (h : fn.results = #[.tmp t, .tmp u, .tmp v, .tmp x]) (tmps : Array Value) (P : Program) (w : World) :
    (results fn tmps).run P w = .ok (.tuple #[tmps.getD t undef, tmps.getD u undef, tmps.getD v undef, tmps.getD x undef]) w := by simp [results, h]

theorem ret_ints {k l : IntKind} {a b c d : Int} (h : a = b) (h' : c = d) : Ending.returned (.tuple #[.int k a, .int l c]) = .returned (.tuple #[.int k b, .int l d]) := by rw [h, h']

theorem ret_wb {a b : Int} {t u : Bool} (h : a = b) (h' : t = u) : Ending.returned (.tuple #[.int .u32 a, .bool t]) = .returned (.tuple #[.int .u32 b, .bool u]) := by rw [h, h']

set_option maxHeartbeats 400000 in
theorem form_any (op : Int) (w : World) :
    Calls Tryd.prog 94 #[.int .i64 op] w fun e w' => e = .returned (.int .i64 (formZ op)) ∧ w = w' := by
  have hc := formZ_cases op
  go_enter Tryd.func94, Tryd.ntmps94
  go_wp2
  all_goals
    go_ret
    exact ⟨ret_int (by (try simp only [beq_iff_eq, beq_eq_false_iff_ne, ne_eq] at *); omega), rfl⟩

set_option maxHeartbeats 400000 in
theorem fits_any (n lo hi : Int) (had : Bool) (w : World) :
    Calls Tryd.prog 97 #[.int .i64 n, .int .i64 lo, .int .i64 hi, .bool had] w fun e w' => e = .returned (.bool (fitsB n lo hi had)) ∧ w = w' := by
  rcases had with _ | _
  · go_enter Tryd.func97, Tryd.ntmps97
    go_wp2
    all_goals
      go_ret
      exact ⟨ret_bool_iff (by simp [fitsB]), rfl⟩
  · go_enter Tryd.func97, Tryd.ntmps97
    go_wp2
    all_goals
      go_ret
      exact ⟨ret_bool_iff (by simp [fitsB]; try omega), rfl⟩

set_option maxHeartbeats 400000 in
theorem limits_any (op : Int) (w : World) :
    Calls Tryd.prog 96 #[.int .i64 op] w fun e w' => e = .returned (.tuple #[.int .i64 (lowI op), .int .i64 (highI op)]) ∧ w = w' := by
  have hc := lowI_cases op
  go_enter Tryd.func96, Tryd.ntmps96
  go_wp2
  all_goals
    go_ret2
    exact ⟨ret_ints (by (try simp only [beq_iff_eq, beq_eq_false_iff_ne, ne_eq] at *); omega) (by (try simp only [beq_iff_eq, beq_eq_false_iff_ne, ne_eq] at *); omega), rfl⟩

set_option maxHeartbeats 400000 in
theorem fieldsOf_any (f : Int) (w : World) (h0 : 0 ≤ f) (h8 : f ≤ 8) :
    Calls Tryd.prog 95 #[.int .i64 f] w fun e w' => e = .returned (.agg #[.bool (hasD f), .bool (hasA f), .bool (hasB f), .bool (hasI f)]) ∧ Below w.heap.size w w' := by
  have hf : f = 0 ∨ f = 1 ∨ f = 2 ∨ f = 3 ∨ f = 4 ∨ f = 5 ∨ f = 6 ∨ f = 7 ∨ f = 8 := by omega
  rcases hf with rfl | rfl | rfl | rfl | rfl | rfl | rfl | rfl | rfl
  all_goals
    go_enter Tryd.func95, Tryd.ntmps95
    go_wp2
    refine bodyPost_ret (v := .agg #[.bool (hasD _), .bool (hasA _), .bool (hasB _), .bool (hasI _)]) (by simp [results, Tryd.results95, go_sem]; try decide) rfl ⟨rfl, ?_⟩
    exact (Below.refl _ _).alloc (Nat.le_refl _) _


set_option maxHeartbeats 400000 in
theorem has_any (f : Int) (w : World) :
    Calls Tryd.prog 43 #[.int .i64 f] w fun e w' => e = .returned (.tuple #[.bool (hasD f), .bool (hasA f), .bool (hasB f), .bool (hasI f)]) ∧ w = w' := by
  by_cases hf : f = 1 ∨ f = 2 ∨ f = 3 ∨ f = 4 ∨ f = 5 ∨ f = 6 ∨ f = 7
  · rcases hf with rfl | rfl | rfl | rfl | rfl | rfl | rfl
    all_goals
      go_enter Tryd.func43, Tryd.ntmps43
      go_wp2
      refine bodyPost_ret (results_tmp4 rfl _ _ _) rfl ⟨rfl, rfl⟩
  · have h1 : (f == 1) = false := by simp; omega
    have h2 : (f == 2) = false := by simp; omega
    have h3 : (f == 3) = false := by simp; omega
    have h4 : (f == 4) = false := by simp; omega
    have h5 : (f == 5) = false := by simp; omega
    have h6 : (f == 6) = false := by simp; omega
    have h7 : (f == 7) = false := by simp; omega
    have e1 : hasD f = false := by unfold hasD; simp; omega
    have e2 : hasA f = false := by unfold hasA; simp; omega
    have e3 : hasB f = false := by unfold hasB; simp; omega
    have e4 : hasI f = false := by unfold hasI; simp; omega
    rw [e1, e2, e3, e4]
    clear e1 e2 e3 e4
    go_enter Tryd.func43, Tryd.ntmps43
    go_wp2
    refine bodyPost_ret (results_tmp4 rfl _ _ _) rfl ⟨rfl, rfl⟩

theorem fitsB_reg (n : Int) (had : Bool) : fitsB n 0 15 had = (n == 0 || (had && decide (0 < n) && decide (n ≤ 15))) := by
  rw [Bool.eq_iff_iff]; cases had <;> simp [fitsB]; omega
set_option maxHeartbeats 400000 in
theorem reg_any (n : Int) (had : Bool) (w : World) :
    Calls Tryd.prog 44 #[.int .i64 n, .bool had] w fun e w' => e = .returned (.bool (fitsB n 0 15 had)) ∧ w = w' := by
  rw [fitsB_reg]
  by_cases h0 : n = 0
  · subst h0
    go_enter Tryd.func44, Tryd.ntmps44
    go_wp2
    go_ret
    exact ⟨rfl, rfl⟩
  · have h1 : (n == 0) = false := by simpa using h0
    have h2 : ¬ n = 0 := h0
    rcases had with _ | _
    · go_enter Tryd.func44, Tryd.ntmps44
      go_wp2
      all_goals
        go_ret
        exact ⟨ret_bool (by simp [h1]), rfl⟩
    · by_cases h3 : 0 < n
      · go_enter Tryd.func44, Tryd.ntmps44
        go_wp2
        all_goals
          go_ret
          exact ⟨ret_bool (by simp [h1, h3]), rfl⟩
      · have h4 : n < 0 := by omega
        go_enter Tryd.func44, Tryd.ntmps44
        go_wp2
        all_goals
          go_ret
          exact ⟨ret_bool (by simp; omega), rfl⟩
end Go.Proofs.YtfdegdbknponkaaDoor.Words

/- Contracts of package lex's splitter: a line's end, a number, whatever begins at a place. -/
namespace Go.Proofs.YtfdegdbknponkaaDoor.Words
set_option maxRecDepth 100000
open Go.RowKit Go.Shelf Go.Lib
set_option linter.unusedVariables false

/-- A splitter in block b, its tokens in blocks of the call's own from Bt on. -/
def Spl (w : World) (b Bt : Nat) (s : ByteArray) (x : LexS) : Prop :=
  ∃ vt, Box w b (splL s vt (x.behind : Int) x.remark) ∧ w.ownsRow Bt 62 4 vt x.toks.length (toksL x.toks)
theorem Spl.add {w : World} {b Bt p size : Nat} {s : ByteArray} {x : LexS} {kind num : Int} {vt : Value}
    (h1 : Box w b (splL s vt ((p + size : Nat) : Int) x.remark)) (h2 : w.ownsRow Bt 62 4 vt (x.toks.length + 1) (toksL (x.toks ++ [⟨kind, num, p, (s.data.toList.drop p).take size⟩]))) :
    Spl w b Bt s (addZ s.data.toList kind num p size x) := ⟨vt, h1, by show World.ownsRow _ _ _ _ _ (x.toks ++ [_]).length _; rw [List.length_append]; exact h2⟩
theorem Spl.drew {w : World} {b Bt : Nat} {s : ByteArray} {x : LexS} (h : Spl w b Bt s x) : Spl w.drew b Bt s x := h
theorem Spl.below {w w' : World} {b Bt : Nat} {s : ByteArray} {x : LexS} (h : Spl w b Bt s x) (hb : Below w.heap.size w w') : Spl w' b Bt s x := by
  obtain ⟨vt, h1, h2⟩ := h
  exact ⟨vt, h1.below hb h1.lt, own_below h2 hb⟩
theorem rest_data (s : ByteArray) (p : Nat) : (s.extract p s.size).data.toList = s.data.toList.drop p := by
  rw [Lib.extract_data, List.take_of_length_le]
  rw [List.length_drop, data_len]; omega
theorem rest_size (s : ByteArray) (p : Nat) : (s.extract p s.size).size = s.size - p := by rw [ByteArray.size_extract]; omega
theorem lineB_last {t : List Tok} {i : Tok} (h : t[t.length - 1]? = some i) (hne : t ≠ []) : lineB t = decide (i.kind ≠ 4) := by
  unfold lineB
  rw [List.getLast?_eq_getElem?, h]
theorem lineB_nil : lineB [] = false := rfl

set_option maxHeartbeats 1000000 in
theorem line_any (s : ByteArray) (x : LexS) (p b Bt : Nat) (w : World) (hB : b < Bt) (hBt : Bt ≤ w.heap.size) (hs : s.size ≤ 1000000) (hx : Spl w b Bt s x) (ht : x.toks.length ≤ 1000000) (hp : p + 1 ≤ s.size) :
    Calls Tryd.prog 62 #[.pointer (some ⟨b, 0, none⟩), .int .i64 (p : Int)] w fun e w' => e = .returned (.tuple #[]) ∧ Spl w' b Bt s (lineZ s.data.toList p x) ∧ TurnB b Bt w w' := by
  have HX := Lib.hid hx
  obtain ⟨vt, hb, ho⟩ := hx
  obtain ⟨A, c, rfl⟩ := (Row.of_own ho).form
  have z1 := hb.cell (k := 1) rfl
  by_cases hn : x.toks.length = 0
  · have hnil : x.toks = [] := List.eq_nil_of_length_eq_zero hn
    have hl : Hid (lineZ s.data.toList p x = x) := by show _ = _; unfold lineZ; rw [hnil]; rfl
    rw [hn] at z1
    clear hn hnil hb ho
    go_enter Tryd.func62, Tryd.ntmps62
    go_wp2_with fail
    refine bodyPost_end (v := .tuple #[]) (by simp [results, Tryd.results62]) rfl ⟨rfl, ?_, TurnB.refl _ _ _⟩
    rw [hl.out]
    exact HX.out
  · obtain ⟨i, hi⟩ : ∃ i, x.toks[x.toks.length - 1]? = some i := ⟨_, List.getElem?_eq_getElem (by omega)⟩
    have hlb := lineB_last hi (by intro h; rw [h] at hn; exact hn rfl)
    obtain ⟨g, off, rfl, _, _⟩ := (Row.of_own ho).at_ hn
    obtain ⟨c0, _, _, _⟩ := (Row.of_own ho).tok hi
    obtain ⟨n, hn'⟩ : ∃ n, n = x.toks.length := ⟨_, rfl⟩
    have cA := Lib.hid (fun y vt' (h1 : Box y b (splL s vt' (x.behind : Int) x.remark)) (h2 : Bt ≤ y.heap.size) (h3 : y.ownsRow Bt 62 4 vt' x.toks.length (toksL x.toks)) => add_any s vt' x.behind 4 0 x.remark p 1 b Bt x.toks y h1 hB h2 h3 hp hs ht)
    rw [← hn'] at z1 c0 hn ht
    have HN := Lib.hid hn'
    have hk : (n : Int) - 1 = ((n - 1 : Nat) : Int) := by omega
    have hb' := Lib.hid hb
    have ho' := Lib.hid ho
    have h0 : decide (0 ≤ ((n - 1 : Nat) : Int)) = true := decide_eq_true (by omega)
    have h1 : ((n - 1 : Nat) : Int) < n := by omega
    have h2 : (0 : Int) ≤ ((n - 1 : Nat) : Int) := by omega
    have h3 : n - 1 < n := by omega
    have h4 : (1 : Int) ≤ n := by omega
    clear hb ho hi hn'
    by_cases h5 : i.kind = 4
    · have hq : (i.kind != 4) = false := by simpa using h5
      have hl : Hid (lineZ s.data.toList p x = x) := by show _ = _; unfold lineZ; rw [hlb, decide_eq_false (by simpa using h5)]; rfl
      have HK := Lib.hid h5
      clear h5 hlb
      go_enter Tryd.func62, Tryd.ntmps62
      go_wp2_with fail
      refine bodyPost_end (v := .tuple #[]) (by simp [results, Tryd.results62]) rfl ⟨rfl, ?_, TurnB.refl _ _ _⟩
      rw [hl.out]
      exact HX.out
    · have hq : (i.kind != 4) = true := by simpa using h5
      have hl : Hid (lineZ s.data.toList p x = addZ s.data.toList 4 0 p 1 x) := by show _ = _; unfold lineZ; rw [hlb, decide_eq_true h5]; rfl
      clear h5 hlb
      go_enter Tryd.func62, Tryd.ntmps62
      go_wp2_with fail
      refine (cA.out w _ hb'.out hBt (by rw [HN.out] at *; exact ho'.out)).mono ?_
      rintro e w1 ⟨rfl, vt1, hb1, ho1, ht1⟩
      have S1 := Lib.hid (Spl.add hb1 ho1)
      clear hb1 ho1
      go_wp2_with fail
      refine bodyPost_end (v := .tuple #[]) (by simp [results, Tryd.results62]) rfl ⟨rfl, ?_, ht1⟩
      rw [hl.out]
      exact S1.out

set_option maxHeartbeats 1000000 in
theorem number_any (s : ByteArray) (x : LexS) (p b Bt : Nat) (w : World) (hB : b < Bt) (hBt : Bt ≤ w.heap.size) (hs : s.size ≤ 1000000) (hx : Spl w b Bt s x) (ht : x.toks.length ≤ 1000000) (hp : p < s.size) :
    Calls Tryd.prog 68 #[.pointer (some ⟨b, 0, none⟩), .int .i64 (p : Int)] w fun e w' => e = .returned (.int .i64 (numberZ s.data.toList p x).1) ∧ Spl w' b Bt s (numberZ s.data.toList p x).2 ∧ TurnB b Bt w w' := by
  have HX := Lib.hid hx
  obtain ⟨vt, hb, ho⟩ := hx
  have z0 := hb.cell (k := 0) rfl
  have hlt := hb.lt
  have cN := fun y => numberOf_any (s.extract p s.size) y (by rw [rest_size]; omega)
  rw [rest_data] at cN
  have CN := Lib.hid cN
  have HNR := Lib.hid (numZ_range (s.data.toList.drop p))
  have HNL : Hid (p + (numZ (s.data.toList.drop p)).2 ≤ s.size) := by
    have h1 := numZ_le (s.data.toList.drop p)
    rw [List.length_drop, data_len] at h1
    show _ ≤ _
    omega
  obtain ⟨Z, hZ⟩ : ∃ Z, Z = numberZ s.data.toList p x := ⟨_, rfl⟩
  have HZ : Hid (Z = if (numZ (s.data.toList.drop p)).2 = 0 then (5, x) else if (numZ (s.data.toList.drop p)).1 < -4294967296 ∨ 4294967296 < (numZ (s.data.toList.drop p)).1 then (8, x) else (0, addZ s.data.toList 2 (numZ (s.data.toList.drop p)).1 p (numZ (s.data.toList.drop p)).2 x)) := hZ
  rw [← hZ]
  generalize numZ (s.data.toList.drop p) = N at *
  obtain ⟨n, k⟩ := N
  simp only at CN HNR HNL HZ
  have n0 : -4294967297 ≤ n ∧ n ≤ 4294967297 := HNR.out
  obtain ⟨n1, n2⟩ := n0
  have k1 : (k : Int) ≤ 1000000 := by have := HNL.out; omega
  have p0 : (0 : Int) ≤ p := by omega
  have p1 : (p : Int) ≤ s.size := by omega
  have p2 : (s.size : Int) ≤ 1000000 := by omega
  clear hb ho cN hZ HNR
  by_cases hk : k = 0
  · have hz : Hid (Z = (5, x)) := by show _ = _; rw [HZ.out, if_pos hk]
    have hq : ((k : Int) == 0) = true := by simpa using hk
    clear hk HZ
    go_enter Tryd.func68, Tryd.ntmps68
    go_wp2_with fail
    refine (CN.out _).mono ?_; rintro e w1 ⟨rfl, hb1⟩
    have S1 := Lib.hid (HX.out.below hb1)
    have T1 := Lib.hid (TurnB.of_below (b := b) (Bt := Bt) hb1 (by omega) hBt)
    clear hb1
    go_wp2_with fail
    go_ret
    rw [hz.out]
    exact ⟨rfl, S1.out, T1.out⟩
  · have hq : ((k : Int) == 0) = false := by simpa using hk
    by_cases hr : n < -4294967296 ∨ 4294967296 < n
    · have hz : Hid (Z = (8, x)) := by show _ = _; rw [HZ.out, if_neg hk, if_pos hr]
      clear hk HZ
      by_cases hr1 : n < -4294967296
      · have q1 : decide (n < -4294967296) = true := decide_eq_true hr1
        clear hr
        go_enter Tryd.func68, Tryd.ntmps68
        go_wp2_with fail
        refine (CN.out _).mono ?_; rintro e w1 ⟨rfl, hb1⟩
        have S1 := Lib.hid (HX.out.below hb1)
        have T1 := Lib.hid (TurnB.of_below (b := b) (Bt := Bt) hb1 (by omega) hBt)
        clear hb1
        go_wp2_with fail
        go_ret
        rw [hz.out]
        exact ⟨rfl, S1.out, T1.out⟩
      · have q1 : decide (n < -4294967296) = false := decide_eq_false hr1
        have q2 : decide (4294967296 < n) = true := decide_eq_true (by omega)
        clear hr
        go_enter Tryd.func68, Tryd.ntmps68
        go_wp2_with fail
        refine (CN.out _).mono ?_; rintro e w1 ⟨rfl, hb1⟩
        have S1 := Lib.hid (HX.out.below hb1)
        have T1 := Lib.hid (TurnB.of_below (b := b) (Bt := Bt) hb1 (by omega) hBt)
        clear hb1
        go_wp2_with fail
        go_ret
        rw [hz.out]
        exact ⟨rfl, S1.out, T1.out⟩
    · have hz : Hid (Z = (0, addZ s.data.toList 2 n p k x)) := by show _ = _; rw [HZ.out, if_neg hk, if_neg hr]
      have q1 : decide (n < -4294967296) = false := decide_eq_false (by omega)
      have q2 : decide (4294967296 < n) = false := decide_eq_false (by omega)
      clear hk hr HZ
      go_enter Tryd.func68, Tryd.ntmps68
      go_wp2_with fail
      refine (CN.out _).mono ?_; rintro e w1 ⟨rfl, hb1⟩
      have S1 := Lib.hid (HX.out.below hb1)
      have T1 := Lib.hid (TurnB.of_below (b := b) (Bt := Bt) hb1 (by omega) hBt)
      have hsz := hb1.size
      clear hb1
      go_wp2_with fail
      obtain ⟨vt1, hB1, hO1⟩ := S1.out
      refine (add_any s vt1 x.behind 2 n x.remark p k b Bt x.toks w1 hB1 hB (by omega) hO1 HNL.out hs ht).mono ?_
      rintro e w2 ⟨rfl, vt2, hb2, ho2, ht2⟩
      have S2 := Lib.hid (Spl.add hb2 ho2)
      have T2 := Lib.hid (T1.out.trans ht2)
      clear hb2 ho2 ht2
      go_wp2_with fail
      go_ret
      rw [hz.out]
      exact ⟨rfl, S2.out, T2.out⟩
end Go.Proofs.YtfdegdbknponkaaDoor.Words

/- Contract of package lex's take: what begins at a place. -/
namespace Go.Proofs.YtfdegdbknponkaaDoor.Words
set_option maxRecDepth 100000
open Go.RowKit Go.Shelf Go.Lib
set_option linter.unusedVariables false

set_option maxHeartbeats 1000000 in
theorem take_bad (s : ByteArray) (x : LexS) (p b Bt : Nat) (w : World) (hT : TabsB b w) (hB : b < Bt) (hBt : Bt ≤ w.heap.size) (hs : s.size ≤ 1000000) (hx : Spl w b Bt s x) (ht : x.toks.length ≤ 1000000) (hp : p < s.size) (h1 : badR (s.data.toList.drop p) = true) :
    Calls Tryd.prog 45 #[.pointer (some ⟨b, 0, none⟩), .int .i64 (p : Int), .int .i32 (runeR (s.data.toList.drop p))] w fun e w' => e = .returned (.int .i64 (takeZ s.data.toList p x).1) ∧ Spl w' b Bt s (takeZ s.data.toList p x).2 ∧ TurnB b Bt w w' := by
  have HX := Lib.hid hx
  obtain ⟨vt, hb, ho⟩ := hx
  have z0 := hb.cell (k := 0) rfl
  have z3 := hb.cell (k := 3) rfl
  have g3 := hb.frozen 3
  have hlt := hb.lt
  have HRR := Lib.hid (runeR_range (s.data.toList.drop p))
  have hne := from_ne (l := s.data.toList) (p := p) (by rw [data_len]; exact hp)
  have CB := Lib.hid (fun y (hy : Tabs y) => isBroken_any (s.extract p s.size) (runeR (s.data.toList.drop p)) y (by rw [rest_data]; exact hne) hy (by rw [rest_data]))
  rw [rest_data] at CB
  have HZ : Hid (takeZ s.data.toList p x = (5, x)) := by
    show _ = _
    unfold takeZ
    rw [if_pos h1]
  have p0 : (0 : Int) ≤ p := by omega
  have p1 : (p : Int) ≤ s.size := by omega
  have p2 : (s.size : Int) ≤ 1000000 := by omega
  have HT0 := Lib.hid hT
  have HB := Lib.hid hb
  have HO := Lib.hid ho
  rw [HZ.out]
  clear hb ho hT hne
  rw [h1] at CB
  generalize runeR (s.data.toList.drop p) = R at CB ⊢
  go_enter Tryd.func45, Tryd.ntmps45
  go_wp2_with fail
  refine (CB.out _ HT0.out.now).mono ?_; rintro e w1 ⟨rfl, hb1⟩
  have S1 := Lib.hid (HX.out.below hb1)
  have T1 := Lib.hid (TurnB.of_below (b := b) (Bt := Bt) hb1 (by omega) hBt)
  have B1 := Lib.hid (HB.out.below hb1 hlt)
  have hs1 := hb1.size
  clear hb1
  have y0 := B1.out.cell (k := 0) rfl
  have y3 := B1.out.cell (k := 3) rfl
  have f3 := B1.out.frozen 3
  clear z0 z3 g3
  go_wp2_with fail
  go_ret
  exact ⟨rfl, S1.out, T1.out⟩

set_option maxHeartbeats 1000000 in
theorem take_line (s : ByteArray) (x : LexS) (p b Bt : Nat) (w : World) (hT : TabsB b w) (hB : b < Bt) (hBt : Bt ≤ w.heap.size) (hs : s.size ≤ 1000000) (hx : Spl w b Bt s x) (ht : x.toks.length ≤ 1000000) (hp : p < s.size) (h1 : badR (s.data.toList.drop p) = false) (h2 : runeR (s.data.toList.drop p) = 10) :
    Calls Tryd.prog 45 #[.pointer (some ⟨b, 0, none⟩), .int .i64 (p : Int), .int .i32 (runeR (s.data.toList.drop p))] w fun e w' => e = .returned (.int .i64 (takeZ s.data.toList p x).1) ∧ Spl w' b Bt s (takeZ s.data.toList p x).2 ∧ TurnB b Bt w w' := by
  have HX := Lib.hid hx
  obtain ⟨vt, hb, ho⟩ := hx
  have z0 := hb.cell (k := 0) rfl
  have z3 := hb.cell (k := 3) rfl
  have g3 := hb.frozen 3
  have hlt := hb.lt
  have HRR := Lib.hid (runeR_range (s.data.toList.drop p))
  have hne := from_ne (l := s.data.toList) (p := p) (by rw [data_len]; exact hp)
  have CB := Lib.hid (fun y (hy : Tabs y) => isBroken_any (s.extract p s.size) (runeR (s.data.toList.drop p)) y (by rw [rest_data]; exact hne) hy (by rw [rest_data]))
  rw [rest_data] at CB
  have HZ : Hid (takeZ s.data.toList p x = (0, lineZ s.data.toList p { x with remark := false })) := by
    show _ = _
    unfold takeZ
    rw [if_neg (by rw [h1]; decide)]
    rw [if_pos h2]
  have p0 : (0 : Int) ≤ p := by omega
  have p1 : (p : Int) ≤ s.size := by omega
  have p2 : (s.size : Int) ≤ 1000000 := by omega
  have HT0 := Lib.hid hT
  have HB := Lib.hid hb
  have HO := Lib.hid ho
  rw [HZ.out]
  clear hb ho hT hne
  rw [h1] at CB
  rw [h2] at CB ⊢
  go_enter Tryd.func45, Tryd.ntmps45
  go_wp2_with fail
  refine (CB.out _ HT0.out.now).mono ?_; rintro e w1 ⟨rfl, hb1⟩
  have S1 := Lib.hid (HX.out.below hb1)
  have T1 := Lib.hid (TurnB.of_below (b := b) (Bt := Bt) hb1 (by omega) hBt)
  have B1 := Lib.hid (HB.out.below hb1 hlt)
  have hs1 := hb1.size
  clear hb1
  have y0 := B1.out.cell (k := 0) rfl
  have y3 := B1.out.cell (k := 3) rfl
  have f3 := B1.out.frozen 3
  clear z0 z3 g3
  have S1' := S1.out
  obtain ⟨vt1, hb1, ho1⟩ := S1'
  have hb1' := Lib.hid (show Box (w1.setCell ⟨b, 3, none⟩ (.bool false)) b (splL s vt1 x.behind false) from hb1.setCell 3 _)
  have ho1' := Lib.hid (ownsRow_setCell_below ho1 (a := ⟨b, 3, none⟩) (show b < Bt from hB) (.bool false))
  have T2 := Lib.hid (T1.out.trans (TurnB.setCell b Bt w1 3 (.bool false)))
  clear hb1 ho1
  have S2 : Hid (Spl (w1.setCell ⟨b, 3, none⟩ (.bool false)) b Bt s { x with remark := false }) := ⟨vt1, hb1'.out, ho1'.out⟩
  have hs2 : (w1.setCell ⟨b, 3, none⟩ (.bool false)).heap.size = w1.heap.size := by simp [World.setCell]
  go_wp2_with fail
  refine (line_any s { x with remark := false } p b Bt _ hB (by rw [hs2]; omega) hs S2.out ht (by omega)).mono ?_
  rintro e w3 ⟨rfl, hs3, ht3⟩
  have S3 := Lib.hid hs3
  have T3 := Lib.hid (T2.out.trans ht3)
  clear hs3 ht3
  go_wp2_with fail
  go_ret
  exact ⟨rfl, S3.out, T3.out⟩

set_option maxHeartbeats 1000000 in
theorem take_remark (s : ByteArray) (x : LexS) (p b Bt : Nat) (w : World) (hT : TabsB b w) (hB : b < Bt) (hBt : Bt ≤ w.heap.size) (hs : s.size ≤ 1000000) (hx : Spl w b Bt s x) (ht : x.toks.length ≤ 1000000) (hp : p < s.size) (h1 : badR (s.data.toList.drop p) = false) (h2 : ¬ runeR (s.data.toList.drop p) = 10) (h3 : x.remark = true) :
    Calls Tryd.prog 45 #[.pointer (some ⟨b, 0, none⟩), .int .i64 (p : Int), .int .i32 (runeR (s.data.toList.drop p))] w fun e w' => e = .returned (.int .i64 (takeZ s.data.toList p x).1) ∧ Spl w' b Bt s (takeZ s.data.toList p x).2 ∧ TurnB b Bt w w' := by
  have HX := Lib.hid hx
  obtain ⟨vt, hb, ho⟩ := hx
  have z0 := hb.cell (k := 0) rfl
  have z3 := hb.cell (k := 3) rfl
  have g3 := hb.frozen 3
  have hlt := hb.lt
  have HRR := Lib.hid (runeR_range (s.data.toList.drop p))
  have hne := from_ne (l := s.data.toList) (p := p) (by rw [data_len]; exact hp)
  have CB := Lib.hid (fun y (hy : Tabs y) => isBroken_any (s.extract p s.size) (runeR (s.data.toList.drop p)) y (by rw [rest_data]; exact hne) hy (by rw [rest_data]))
  rw [rest_data] at CB
  have HZ : Hid (takeZ s.data.toList p x = (0, x)) := by
    show _ = _
    unfold takeZ
    rw [if_neg (by rw [h1]; decide)]
    rw [if_neg h2]
    rw [if_pos (.inl h3)]
  have p0 : (0 : Int) ≤ p := by omega
  have p1 : (p : Int) ≤ s.size := by omega
  have p2 : (s.size : Int) ≤ 1000000 := by omega
  have HT0 := Lib.hid hT
  have HB := Lib.hid hb
  have HO := Lib.hid ho
  rw [HZ.out]
  clear hb ho hT hne
  rw [h1] at CB
  have q2 : (runeR (s.data.toList.drop p) == 10) = false := by simpa using h2
  rw [h3] at HB z3
  clear h2
  generalize runeR (s.data.toList.drop p) = R at CB q2 ⊢
  go_enter Tryd.func45, Tryd.ntmps45
  go_wp2_with fail
  refine (CB.out _ HT0.out.now).mono ?_; rintro e w1 ⟨rfl, hb1⟩
  have S1 := Lib.hid (HX.out.below hb1)
  have T1 := Lib.hid (TurnB.of_below (b := b) (Bt := Bt) hb1 (by omega) hBt)
  have B1 := Lib.hid (HB.out.below hb1 hlt)
  have hs1 := hb1.size
  clear hb1
  have y0 := B1.out.cell (k := 0) rfl
  have y3 := B1.out.cell (k := 3) rfl
  have f3 := B1.out.frozen 3
  clear z0 z3 g3
  go_wp2_with fail
  go_ret
  exact ⟨rfl, S1.out, T1.out⟩

set_option maxHeartbeats 1000000 in
theorem take_blank (s : ByteArray) (x : LexS) (p b Bt : Nat) (w : World) (hT : TabsB b w) (hB : b < Bt) (hBt : Bt ≤ w.heap.size) (hs : s.size ≤ 1000000) (hx : Spl w b Bt s x) (ht : x.toks.length ≤ 1000000) (hp : p < s.size) (h1 : badR (s.data.toList.drop p) = false) (h2 : ¬ runeR (s.data.toList.drop p) = 10) (h3 : x.remark = false) (h4 : blankR (runeR (s.data.toList.drop p)) = true) :
    Calls Tryd.prog 45 #[.pointer (some ⟨b, 0, none⟩), .int .i64 (p : Int), .int .i32 (runeR (s.data.toList.drop p))] w fun e w' => e = .returned (.int .i64 (takeZ s.data.toList p x).1) ∧ Spl w' b Bt s (takeZ s.data.toList p x).2 ∧ TurnB b Bt w w' := by
  have HX := Lib.hid hx
  obtain ⟨vt, hb, ho⟩ := hx
  have z0 := hb.cell (k := 0) rfl
  have z3 := hb.cell (k := 3) rfl
  have g3 := hb.frozen 3
  have hlt := hb.lt
  have HRR := Lib.hid (runeR_range (s.data.toList.drop p))
  have hne := from_ne (l := s.data.toList) (p := p) (by rw [data_len]; exact hp)
  have CB := Lib.hid (fun y (hy : Tabs y) => isBroken_any (s.extract p s.size) (runeR (s.data.toList.drop p)) y (by rw [rest_data]; exact hne) hy (by rw [rest_data]))
  rw [rest_data] at CB
  have HZ : Hid (takeZ s.data.toList p x = (0, x)) := by
    show _ = _
    unfold takeZ
    rw [if_neg (by rw [h1]; decide)]
    rw [if_neg h2]
    rw [if_pos (.inr h4)]
  have p0 : (0 : Int) ≤ p := by omega
  have p1 : (p : Int) ≤ s.size := by omega
  have p2 : (s.size : Int) ≤ 1000000 := by omega
  have HT0 := Lib.hid hT
  have HB := Lib.hid hb
  have HO := Lib.hid ho
  rw [HZ.out]
  clear hb ho hT hne
  rw [h1] at CB
  have q2 : (runeR (s.data.toList.drop p) == 10) = false := by simpa using h2
  have CK := Lib.hid (fun y => isBlank_any (runeR (s.data.toList.drop p)) y)
  rw [h4] at CK
  rw [h3] at HB z3
  clear h2 h4
  generalize runeR (s.data.toList.drop p) = R at CB CK q2 ⊢
  go_enter Tryd.func45, Tryd.ntmps45
  go_wp2_with fail
  refine (CB.out _ HT0.out.now).mono ?_; rintro e w1 ⟨rfl, hb1⟩
  have S1 := Lib.hid (HX.out.below hb1)
  have T1 := Lib.hid (TurnB.of_below (b := b) (Bt := Bt) hb1 (by omega) hBt)
  have B1 := Lib.hid (HB.out.below hb1 hlt)
  have hs1 := hb1.size
  clear hb1
  have y0 := B1.out.cell (k := 0) rfl
  have y3 := B1.out.cell (k := 3) rfl
  have f3 := B1.out.frozen 3
  clear z0 z3 g3
  go_wp2_with fail
  refine (CK.out _).mono ?_; rintro e w2 ⟨rfl, rfl⟩
  go_wp2_with fail
  go_ret
  exact ⟨rfl, S1.out, T1.out⟩

set_option maxHeartbeats 1000000 in
theorem take_hash (s : ByteArray) (x : LexS) (p b Bt : Nat) (w : World) (hT : TabsB b w) (hB : b < Bt) (hBt : Bt ≤ w.heap.size) (hs : s.size ≤ 1000000) (hx : Spl w b Bt s x) (ht : x.toks.length ≤ 1000000) (hp : p < s.size) (h1 : badR (s.data.toList.drop p) = false) (h2 : ¬ runeR (s.data.toList.drop p) = 10) (h3 : x.remark = false) (h4 : blankR (runeR (s.data.toList.drop p)) = false) (h5 : runeR (s.data.toList.drop p) = 35) :
    Calls Tryd.prog 45 #[.pointer (some ⟨b, 0, none⟩), .int .i64 (p : Int), .int .i32 (runeR (s.data.toList.drop p))] w fun e w' => e = .returned (.int .i64 (takeZ s.data.toList p x).1) ∧ Spl w' b Bt s (takeZ s.data.toList p x).2 ∧ TurnB b Bt w w' := by
  have HX := Lib.hid hx
  obtain ⟨vt, hb, ho⟩ := hx
  have z0 := hb.cell (k := 0) rfl
  have z3 := hb.cell (k := 3) rfl
  have g3 := hb.frozen 3
  have hlt := hb.lt
  have HRR := Lib.hid (runeR_range (s.data.toList.drop p))
  have hne := from_ne (l := s.data.toList) (p := p) (by rw [data_len]; exact hp)
  have CB := Lib.hid (fun y (hy : Tabs y) => isBroken_any (s.extract p s.size) (runeR (s.data.toList.drop p)) y (by rw [rest_data]; exact hne) hy (by rw [rest_data]))
  rw [rest_data] at CB
  have HZ : Hid (takeZ s.data.toList p x = (0, { x with remark := true })) := by
    show _ = _
    unfold takeZ
    rw [if_neg (by rw [h1]; decide)]
    rw [if_neg h2]
    rw [if_neg (by rw [h3, h4]; decide)]
    rw [if_pos h5]
  have p0 : (0 : Int) ≤ p := by omega
  have p1 : (p : Int) ≤ s.size := by omega
  have p2 : (s.size : Int) ≤ 1000000 := by omega
  have HT0 := Lib.hid hT
  have HB := Lib.hid hb
  have HO := Lib.hid ho
  rw [HZ.out]
  clear hb ho hT hne
  rw [h1] at CB
  have CK := Lib.hid (fun y => isBlank_any (runeR (s.data.toList.drop p)) y)
  rw [h4] at CK
  rw [h5] at CB CK ⊢
  rw [h3] at HB z3
  clear h2 h4 h5
  go_enter Tryd.func45, Tryd.ntmps45
  go_wp2_with fail
  refine (CB.out _ HT0.out.now).mono ?_; rintro e w1 ⟨rfl, hb1⟩
  have S1 := Lib.hid (HX.out.below hb1)
  have T1 := Lib.hid (TurnB.of_below (b := b) (Bt := Bt) hb1 (by omega) hBt)
  have B1 := Lib.hid (HB.out.below hb1 hlt)
  have hs1 := hb1.size
  clear hb1
  have y0 := B1.out.cell (k := 0) rfl
  have y3 := B1.out.cell (k := 3) rfl
  have f3 := B1.out.frozen 3
  clear z0 z3 g3
  go_wp2_with fail
  refine (CK.out _).mono ?_; rintro e w2 ⟨rfl, rfl⟩
  have S1' := S1.out
  obtain ⟨vt1, hb1, ho1⟩ := S1'
  have hb1' := Lib.hid (show Box (w1.setCell ⟨b, 3, none⟩ (.bool true)) b (splL s vt1 x.behind true) from hb1.setCell 3 _)
  have ho1' := Lib.hid (ownsRow_setCell_below ho1 (a := ⟨b, 3, none⟩) (show b < Bt from hB) (.bool true))
  have T2 := Lib.hid (T1.out.trans (TurnB.setCell b Bt w1 3 (.bool true)))
  clear hb1 ho1
  go_wp2_with fail
  go_ret
  exact ⟨rfl, ⟨vt1, hb1'.out, ho1'.out⟩, T2.out⟩

set_option maxHeartbeats 1000000 in
theorem take_name (s : ByteArray) (x : LexS) (p b Bt : Nat) (w : World) (hT : TabsB b w) (hB : b < Bt) (hBt : Bt ≤ w.heap.size) (hs : s.size ≤ 1000000) (hx : Spl w b Bt s x) (ht : x.toks.length ≤ 1000000) (hp : p < s.size) (h1 : badR (s.data.toList.drop p) = false) (h2 : ¬ runeR (s.data.toList.drop p) = 10) (h3 : x.remark = false) (h4 : blankR (runeR (s.data.toList.drop p)) = false) (h5 : ¬ runeR (s.data.toList.drop p) = 35) (h6 : firstR (runeR (s.data.toList.drop p)) = true) :
    Calls Tryd.prog 45 #[.pointer (some ⟨b, 0, none⟩), .int .i64 (p : Int), .int .i32 (runeR (s.data.toList.drop p))] w fun e w' => e = .returned (.int .i64 (takeZ s.data.toList p x).1) ∧ Spl w' b Bt s (takeZ s.data.toList p x).2 ∧ TurnB b Bt w w' := by
  have HX := Lib.hid hx
  obtain ⟨vt, hb, ho⟩ := hx
  have z0 := hb.cell (k := 0) rfl
  have z3 := hb.cell (k := 3) rfl
  have g3 := hb.frozen 3
  have hlt := hb.lt
  have HRR := Lib.hid (runeR_range (s.data.toList.drop p))
  have hne := from_ne (l := s.data.toList) (p := p) (by rw [data_len]; exact hp)
  have CB := Lib.hid (fun y (hy : Tabs y) => isBroken_any (s.extract p s.size) (runeR (s.data.toList.drop p)) y (by rw [rest_data]; exact hne) hy (by rw [rest_data]))
  rw [rest_data] at CB
  have HZ : Hid (takeZ s.data.toList p x = (0, addZ s.data.toList 1 0 p (nameZ (s.data.toList.drop p)) x)) := by
    show _ = _
    unfold takeZ
    rw [if_neg (by rw [h1]; decide)]
    rw [if_neg h2]
    rw [if_neg (by rw [h3, h4]; decide)]
    rw [if_neg h5]
    rw [if_pos h6]
  have p0 : (0 : Int) ≤ p := by omega
  have p1 : (p : Int) ≤ s.size := by omega
  have p2 : (s.size : Int) ≤ 1000000 := by omega
  have HT0 := Lib.hid hT
  have HB := Lib.hid hb
  have HO := Lib.hid ho
  rw [HZ.out]
  clear hb ho hT hne
  rw [h1] at CB
  have q2 : (runeR (s.data.toList.drop p) == 10) = false := by simpa using h2
  have q5 : (runeR (s.data.toList.drop p) == 35) = false := by simpa using h5
  have CK := Lib.hid (fun y => isBlank_any (runeR (s.data.toList.drop p)) y)
  have CF := Lib.hid (fun y (hy : Tabs y) => isFirst_any (runeR (s.data.toList.drop p)) y (i32_rune _ HRR.out) hy)
  rw [h4] at CK
  rw [h6] at CF
  rw [h3] at HB z3
  have CN := Lib.hid (fun y (hy : Tabs y) => nameSize_any (s.extract p s.size) y (by rw [rest_size]; omega) hy)
  rw [rest_data] at CN
  have HNL : Hid (p + nameZ (s.data.toList.drop p) ≤ s.size) := by
    have h1 := nameZ_le (s.data.toList.drop p)
    rw [List.length_drop, data_len] at h1
    show _ ≤ _
    omega
  generalize nameZ (s.data.toList.drop p) = K at *
  clear h2 h4 h5 h6 HZ HRR
  generalize runeR (s.data.toList.drop p) = R at CB CK CF q2 q5 ⊢
  go_enter Tryd.func45, Tryd.ntmps45
  go_wp2_with fail
  refine (CB.out _ HT0.out.now).mono ?_; rintro e w1 ⟨rfl, hb1⟩
  have S1 := Lib.hid (HX.out.below hb1)
  have T1 := Lib.hid (TurnB.of_below (b := b) (Bt := Bt) hb1 (by omega) hBt)
  have B1 := Lib.hid (HB.out.below hb1 hlt)
  have hs1 := hb1.size
  clear hb1
  have y0 := B1.out.cell (k := 0) rfl
  have y3 := B1.out.cell (k := 3) rfl
  have f3 := B1.out.frozen 3
  clear z0 z3 g3
  go_wp2_with fail
  refine (CK.out _).mono ?_; rintro e w2 ⟨rfl, rfl⟩
  go_wp2_with fail
  refine (CF.out _ (HT0.out.go T1.out.bel).now).mono ?_; rintro e w3 ⟨rfl, hb3⟩
  have S3 := Lib.hid (S1.out.below hb3)
  have T3 := Lib.hid (T1.out.trans (TurnB.of_below (b := b) (Bt := Bt) hb3 (by omega) (by omega)))
  have hs3 := hb3.size
  have B3 := Lib.hid (B1.out.below hb3 (by omega))
  clear hb3 y0 y3 f3 S1 T1 B1
  go_wp2_with fail
  refine (CN.out _ (HT0.out.go T3.out.bel).now).mono ?_; rintro e w4 ⟨rfl, hb4⟩
  have S4 := Lib.hid (S3.out.below hb4)
  have T4 := Lib.hid (T3.out.trans (TurnB.of_below (b := b) (Bt := Bt) hb4 (by omega) (by omega)))
  have hs4 := hb4.size
  clear hb4
  go_wp2_with fail
  obtain ⟨vt4, hB4, hO4⟩ := S4.out
  refine (add_any s vt4 x.behind 1 0 x.remark p K b Bt x.toks w4 hB4 hB (by omega) hO4 HNL.out hs ht).mono ?_
  rintro e w5 ⟨rfl, vt5, hb5, ho5, ht5⟩
  have S5 := Lib.hid (Spl.add (x := x) hb5 ho5)
  have T5 := Lib.hid (T4.out.trans ht5)
  clear hb5 ho5 ht5
  go_wp2_with fail
  go_ret
  exact ⟨rfl, S5.out, T5.out⟩

set_option maxHeartbeats 1000000 in
theorem take_sign (s : ByteArray) (x : LexS) (p b Bt : Nat) (w : World) (hT : TabsB b w) (hB : b < Bt) (hBt : Bt ≤ w.heap.size) (hs : s.size ≤ 1000000) (hx : Spl w b Bt s x) (ht : x.toks.length ≤ 1000000) (hp : p < s.size) (h1 : badR (s.data.toList.drop p) = false) (h2 : ¬ runeR (s.data.toList.drop p) = 10) (h3 : x.remark = false) (h4 : blankR (runeR (s.data.toList.drop p)) = false) (h5 : ¬ runeR (s.data.toList.drop p) = 35) (h6 : firstR (runeR (s.data.toList.drop p)) = false) (h7 : signR (runeR (s.data.toList.drop p)) = true) :
    Calls Tryd.prog 45 #[.pointer (some ⟨b, 0, none⟩), .int .i64 (p : Int), .int .i32 (runeR (s.data.toList.drop p))] w fun e w' => e = .returned (.int .i64 (takeZ s.data.toList p x).1) ∧ Spl w' b Bt s (takeZ s.data.toList p x).2 ∧ TurnB b Bt w w' := by
  have HX := Lib.hid hx
  obtain ⟨vt, hb, ho⟩ := hx
  have z0 := hb.cell (k := 0) rfl
  have z3 := hb.cell (k := 3) rfl
  have g3 := hb.frozen 3
  have hlt := hb.lt
  have HRR := Lib.hid (runeR_range (s.data.toList.drop p))
  have hne := from_ne (l := s.data.toList) (p := p) (by rw [data_len]; exact hp)
  have CB := Lib.hid (fun y (hy : Tabs y) => isBroken_any (s.extract p s.size) (runeR (s.data.toList.drop p)) y (by rw [rest_data]; exact hne) hy (by rw [rest_data]))
  rw [rest_data] at CB
  have HZ : Hid (takeZ s.data.toList p x = (0, addZ s.data.toList 3 0 p 1 x)) := by
    show _ = _
    unfold takeZ
    rw [if_neg (by rw [h1]; decide)]
    rw [if_neg h2]
    rw [if_neg (by rw [h3, h4]; decide)]
    rw [if_neg h5]
    rw [if_neg (by rw [h6]; decide)]
    rw [if_pos h7]
  have p0 : (0 : Int) ≤ p := by omega
  have p1 : (p : Int) ≤ s.size := by omega
  have p2 : (s.size : Int) ≤ 1000000 := by omega
  have HT0 := Lib.hid hT
  have HB := Lib.hid hb
  have HO := Lib.hid ho
  rw [HZ.out]
  clear hb ho hT hne
  rw [h1] at CB
  have q2 : (runeR (s.data.toList.drop p) == 10) = false := by simpa using h2
  have q5 : (runeR (s.data.toList.drop p) == 35) = false := by simpa using h5
  have CK := Lib.hid (fun y => isBlank_any (runeR (s.data.toList.drop p)) y)
  have CF := Lib.hid (fun y (hy : Tabs y) => isFirst_any (runeR (s.data.toList.drop p)) y (i32_rune _ HRR.out) hy)
  have CS := Lib.hid (fun y => isSign_any (runeR (s.data.toList.drop p)) y)
  rw [h4] at CK
  rw [h6] at CF
  rw [h7] at CS
  rw [h3] at HB z3
  clear h2 h4 h5 h6 h7 HRR
  generalize runeR (s.data.toList.drop p) = R at CB CK CF CS q2 q5 ⊢
  go_enter Tryd.func45, Tryd.ntmps45
  go_wp2_with fail
  refine (CB.out _ HT0.out.now).mono ?_; rintro e w1 ⟨rfl, hb1⟩
  have S1 := Lib.hid (HX.out.below hb1)
  have T1 := Lib.hid (TurnB.of_below (b := b) (Bt := Bt) hb1 (by omega) hBt)
  have B1 := Lib.hid (HB.out.below hb1 hlt)
  have hs1 := hb1.size
  clear hb1
  have y0 := B1.out.cell (k := 0) rfl
  have y3 := B1.out.cell (k := 3) rfl
  have f3 := B1.out.frozen 3
  clear z0 z3 g3
  go_wp2_with fail
  refine (CK.out _).mono ?_; rintro e w2 ⟨rfl, rfl⟩
  go_wp2_with fail
  refine (CF.out _ (HT0.out.go T1.out.bel).now).mono ?_; rintro e w3 ⟨rfl, hb3⟩
  have S3 := Lib.hid (S1.out.below hb3)
  have T3 := Lib.hid (T1.out.trans (TurnB.of_below (b := b) (Bt := Bt) hb3 (by omega) (by omega)))
  have hs3 := hb3.size
  have B3 := Lib.hid (B1.out.below hb3 (by omega))
  clear hb3 y0 y3 f3 S1 T1 B1
  go_wp2_with fail
  refine (CS.out _).mono ?_; rintro e w4 ⟨rfl, rfl⟩
  go_wp2_with fail
  obtain ⟨vt4, hB4, hO4⟩ := S3.out
  refine (add_any s vt4 x.behind 3 0 x.remark p 1 b Bt x.toks w3 hB4 hB (by omega) hO4 (by omega) hs ht).mono ?_
  rintro e w5 ⟨rfl, vt5, hb5, ho5, ht5⟩
  have S5 := Lib.hid (Spl.add (x := x) hb5 ho5)
  have T5 := Lib.hid (T3.out.trans ht5)
  clear hb5 ho5 ht5
  go_wp2_with fail
  go_ret
  exact ⟨rfl, S5.out, T5.out⟩

set_option maxHeartbeats 1000000 in
theorem take_number (s : ByteArray) (x : LexS) (p b Bt : Nat) (w : World) (hT : TabsB b w) (hB : b < Bt) (hBt : Bt ≤ w.heap.size) (hs : s.size ≤ 1000000) (hx : Spl w b Bt s x) (ht : x.toks.length ≤ 1000000) (hp : p < s.size) (h1 : badR (s.data.toList.drop p) = false) (h2 : ¬ runeR (s.data.toList.drop p) = 10) (h3 : x.remark = false) (h4 : blankR (runeR (s.data.toList.drop p)) = false) (h5 : ¬ runeR (s.data.toList.drop p) = 35) (h6 : firstR (runeR (s.data.toList.drop p)) = false) (h7 : signR (runeR (s.data.toList.drop p)) = false) :
    Calls Tryd.prog 45 #[.pointer (some ⟨b, 0, none⟩), .int .i64 (p : Int), .int .i32 (runeR (s.data.toList.drop p))] w fun e w' => e = .returned (.int .i64 (takeZ s.data.toList p x).1) ∧ Spl w' b Bt s (takeZ s.data.toList p x).2 ∧ TurnB b Bt w w' := by
  have HX := Lib.hid hx
  obtain ⟨vt, hb, ho⟩ := hx
  have z0 := hb.cell (k := 0) rfl
  have z3 := hb.cell (k := 3) rfl
  have g3 := hb.frozen 3
  have hlt := hb.lt
  have HRR := Lib.hid (runeR_range (s.data.toList.drop p))
  have hne := from_ne (l := s.data.toList) (p := p) (by rw [data_len]; exact hp)
  have CB := Lib.hid (fun y (hy : Tabs y) => isBroken_any (s.extract p s.size) (runeR (s.data.toList.drop p)) y (by rw [rest_data]; exact hne) hy (by rw [rest_data]))
  rw [rest_data] at CB
  have HZ : Hid (takeZ s.data.toList p x = numberZ s.data.toList p x) := by
    show _ = _
    unfold takeZ
    rw [if_neg (by rw [h1]; decide)]
    rw [if_neg h2]
    rw [if_neg (by rw [h3, h4]; decide)]
    rw [if_neg h5]
    rw [if_neg (by rw [h6]; decide)]
    rw [if_neg (by rw [h7]; decide)]
  have p0 : (0 : Int) ≤ p := by omega
  have p1 : (p : Int) ≤ s.size := by omega
  have p2 : (s.size : Int) ≤ 1000000 := by omega
  have HT0 := Lib.hid hT
  have HB := Lib.hid hb
  have HO := Lib.hid ho
  rw [HZ.out]
  clear hb ho hT hne
  rw [h1] at CB
  have q2 : (runeR (s.data.toList.drop p) == 10) = false := by simpa using h2
  have q5 : (runeR (s.data.toList.drop p) == 35) = false := by simpa using h5
  have CK := Lib.hid (fun y => isBlank_any (runeR (s.data.toList.drop p)) y)
  have CF := Lib.hid (fun y (hy : Tabs y) => isFirst_any (runeR (s.data.toList.drop p)) y (i32_rune _ HRR.out) hy)
  have CS := Lib.hid (fun y => isSign_any (runeR (s.data.toList.drop p)) y)
  rw [h4] at CK
  rw [h6] at CF
  rw [h7] at CS
  rw [h3] at HB z3
  clear h2 h4 h5 h6 h7 HRR
  generalize runeR (s.data.toList.drop p) = R at CB CK CF CS q2 q5 ⊢
  go_enter Tryd.func45, Tryd.ntmps45
  go_wp2_with fail
  refine (CB.out _ HT0.out.now).mono ?_; rintro e w1 ⟨rfl, hb1⟩
  have S1 := Lib.hid (HX.out.below hb1)
  have T1 := Lib.hid (TurnB.of_below (b := b) (Bt := Bt) hb1 (by omega) hBt)
  have B1 := Lib.hid (HB.out.below hb1 hlt)
  have hs1 := hb1.size
  clear hb1
  have y0 := B1.out.cell (k := 0) rfl
  have y3 := B1.out.cell (k := 3) rfl
  have f3 := B1.out.frozen 3
  clear z0 z3 g3
  go_wp2_with fail
  refine (CK.out _).mono ?_; rintro e w2 ⟨rfl, rfl⟩
  go_wp2_with fail
  refine (CF.out _ (HT0.out.go T1.out.bel).now).mono ?_; rintro e w3 ⟨rfl, hb3⟩
  have S3 := Lib.hid (S1.out.below hb3)
  have T3 := Lib.hid (T1.out.trans (TurnB.of_below (b := b) (Bt := Bt) hb3 (by omega) (by omega)))
  have hs3 := hb3.size
  have B3 := Lib.hid (B1.out.below hb3 (by omega))
  clear hb3 y0 y3 f3 S1 T1 B1
  go_wp2_with fail
  refine (CS.out _).mono ?_; rintro e w4 ⟨rfl, rfl⟩
  go_wp2_with fail
  refine (number_any s x p b Bt w3 hB (by omega) hs S3.out ht hp).mono ?_
  rintro e w5 ⟨rfl, hs5, ht5⟩
  have S5 := Lib.hid hs5
  have T5 := Lib.hid (T3.out.trans ht5)
  clear hs5 ht5
  go_wp2_with fail
  go_ret
  exact ⟨rfl, S5.out, T5.out⟩

theorem take_any (s : ByteArray) (x : LexS) (p b Bt : Nat) (w : World) (hT : TabsB b w) (hB : b < Bt) (hBt : Bt ≤ w.heap.size) (hs : s.size ≤ 1000000) (hx : Spl w b Bt s x) (ht : x.toks.length ≤ 1000000) (hp : p < s.size) :
    Calls Tryd.prog 45 #[.pointer (some ⟨b, 0, none⟩), .int .i64 (p : Int), .int .i32 (runeR (s.data.toList.drop p))] w fun e w' => e = .returned (.int .i64 (takeZ s.data.toList p x).1) ∧ Spl w' b Bt s (takeZ s.data.toList p x).2 ∧ TurnB b Bt w w' := by
  cases h1 : badR (s.data.toList.drop p)
  rotate_left
  · exact take_bad s x p b Bt w hT hB hBt hs hx ht hp h1
  by_cases h2 : runeR (s.data.toList.drop p) = 10
  · exact take_line s x p b Bt w hT hB hBt hs hx ht hp h1 h2
  cases h3 : x.remark
  rotate_left
  · exact take_remark s x p b Bt w hT hB hBt hs hx ht hp h1 h2 h3
  cases h4 : blankR (runeR (s.data.toList.drop p))
  rotate_left
  · exact take_blank s x p b Bt w hT hB hBt hs hx ht hp h1 h2 h3 h4
  by_cases h5 : runeR (s.data.toList.drop p) = 35
  · exact take_hash s x p b Bt w hT hB hBt hs hx ht hp h1 h2 h3 h4 h5
  cases h6 : firstR (runeR (s.data.toList.drop p))
  rotate_left
  · exact take_name s x p b Bt w hT hB hBt hs hx ht hp h1 h2 h3 h4 h5 h6
  cases h7 : signR (runeR (s.data.toList.drop p))
  · exact take_number s x p b Bt w hT hB hBt hs hx ht hp h1 h2 h3 h4 h5 h6 h7
  · exact take_sign s x p b Bt w hT hB hBt hs hx ht hp h1 h2 h3 h4 h5 h6 h7
end Go.Proofs.YtfdegdbknponkaaDoor.Words

/- Contract of package lex's Split. -/
namespace Go.Proofs.YtfdegdbknponkaaDoor.Words
set_option maxRecDepth 100000
open Go.RowKit Go.Shelf Go.Lib
set_option linter.unusedVariables false

theorem lineZ_len (l : List UInt8) (p : Nat) (x : LexS) : (lineZ l p x).toks.length ≤ x.toks.length + 1 := by
  unfold lineZ addZ
  split <;> simp
theorem takeZ_len (l : List UInt8) (p : Nat) (x : LexS) : (takeZ l p x).2.toks.length ≤ x.toks.length + 1 := by
  unfold takeZ numberZ
  have h := lineZ_len l p { x with remark := false }
  repeat' split
  all_goals first
    | (exact h)
    | (simp [addZ])
theorem lexF_end (l : List UInt8) (f p : Nat) (x : LexS) (h : ¬ p < l.length) : lexF l f p x = .toks x.toks := by
  cases f with
  | zero => rfl
  | succ f => unfold lexF; rw [if_neg h]
/-- What Split answers. -/
def LexOut (Z : LexR) (base : Nat) (e : Ending) (w : World) : Prop :=
  match Z with
  | .toks t => ∃ v, e = .returned (.tuple #[v, .int .i64 (-1), .int .i64 0]) ∧ w.ownsRow base 62 4 v t.length (toksL t)
  | .bad a k => e = .returned (.tuple #[.slice none 0 0, .int .i64 (a : Int), .int .i64 k])
theorem LexOut.toks {Z : LexR} {base : Nat} {e : Ending} {w : World} {t : List Tok} {v : Value} (h : Z = .toks t) (he : e = .returned (.tuple #[v, .int .i64 (-1), .int .i64 0])) (ho : w.ownsRow base 62 4 v t.length (toksL t)) : LexOut Z base e w := by
  subst h; exact ⟨v, he, ho⟩
theorem LexOut.bad {Z : LexR} {base : Nat} {e : Ending} {w : World} {a : Nat} {k : Int} (h : Z = .bad a k) (he : e = .returned (.tuple #[.slice none 0 0, .int .i64 (a : Int), .int .i64 k])) : LexOut Z base e w := by
  subst h; exact he

theorem iterAt_grown (w : World) (k : Nat) (s : ByteArray) (p : Nat) : w.grownBy (w.iterAt k s p) (some k) :=
  ⟨rfl, rfl, rfl, by rw [Lib.iterAt_size]; exact Nat.le_refl _, fun i _ hne => Lib.iterAt_other w k i s p (fun e => hne (by rw [e]))⟩
theorem Spl.iterAt {w : World} {b Bt k : Nat} {s s' : ByteArray} {x : LexS} (h : Spl w b Bt s x) (p : Nat) (hb : b ≠ k) (hk : k < Bt) : Spl (w.iterAt k s' p) b Bt s x := by
  obtain ⟨vt, h1, h2⟩ := h
  exact ⟨vt, h1.grown (iterAt_grown _ _ _ _) (fun e => hb (by injection e)), own_grown h2 (iterAt_grown _ _ _ _) (fun g hg e => by have := (h2.lt g hg).1; injection e with e; omega)⟩

set_option maxHeartbeats 2000000 in
theorem split_any (s : ByteArray) (w : World) (hs : s.size ≤ 9223372036854775807) (hT : Tabs w) :
    Calls Tryd.prog 30 #[.string s] w fun e w' => LexOut (lexZ s.data.toList) w.heap.size e w' ∧ Below w.heap.size w w' := by
  have HT := Lib.hid hT.all
  have hl := data_len s
  have HL := Lib.hid hl
  clear hT
  by_cases hlong : 20000 < s.size
  · have hz : Hid (lexZ s.data.toList = .bad 0 7) := by show _ = _; unfold lexZ; rw [if_pos (by omega)]
    have q1 : decide (20000 < (s.size : Int)) = true := decide_eq_true (by omega)
    have q2 : decide (20000 < s.size) = true := decide_eq_true hlong
    clear hl
    go_enter Tryd.func30, Tryd.ntmps30
    go_wp2
    refine bodyPost_ret (v := .tuple #[.slice none 0 0, .int .i64 0, .int .i64 7]) (by simp [results, Tryd.results30, go_sem]) rfl ⟨LexOut.bad hz.out rfl, Below.refl _ _⟩
  · have HZ : Hid (lexZ s.data.toList = lexF s.data.toList s.data.toList.length 0 ⟨0, false, []⟩) := by show _ = _; unfold lexZ; rw [if_neg (by omega)]
    generalize lexZ s.data.toList = Z at *
    have q1 : decide (20000 < (s.size : Int)) = false := decide_eq_false (by omega)
    have q2 : decide (20000 < s.size) = false := decide_eq_false hlong
    have hs2 : s.size ≤ 20000 := by omega
    have B0 : Hid (Box (w.alloc (.cells #[.string s, .slice none 0 0, .int .i64 0, .bool false] 90)) w.heap.size (splL s (.slice none 0 0) 0 false)) := Box.new w (splL s (.slice none 0 0) 0 false) _
    have K0 := Lib.hid ((Below.refl w.heap.size w).alloc (Nat.le_refl _) (.cells #[.string s, .slice none 0 0, .int .i64 0, .bool false] 90))
    have hs0 : (w.alloc (.cells #[.string s, .slice none 0 0, .int .i64 0, .bool false] 90)).heap.size = w.heap.size + 1 := by simp
    clear hl hs hlong
    go_enter Tryd.func30, Tryd.ntmps30
    go_wp2
    go_loopw [] (fun wr => ∃ (pos fuel : Nat) (x : LexS), Spl wr w.heap.size (w.heap.size + 2) s x ∧ wr.heap[w.heap.size + 1]? = some (.stringIter s pos) ∧ Below w.heap.size w wr ∧ lexF s.data.toList fuel pos x = Z ∧ s.size ≤ pos + fuel ∧ pos ≤ s.size ∧ x.toks.length ≤ pos) (fun wr => s.size - wr.iterPos (w.heap.size + 1))
    case atStart =>
      refine ⟨0, s.data.toList.length, ⟨0, false, []⟩, ⟨.slice none 0 0, B0.out.alloc _, World.ownsRow_nil _ _ _ _⟩, ?_, K0.out.alloc (by simp) _, HZ.out.symm, by rw [HL.out]; omega, Nat.zero_le _, Nat.le_refl _⟩
      have := World.iter_heap (w.alloc (.cells #[.string s, .slice none 0 0, .int .i64 0, .bool false] 90)) s 0
      simpa using this
    case round =>
      obtain ⟨pos, fuel, x, hspl, hit, hbw, hn, hf, hp, htl⟩ := hrel
      have HIT := Lib.hid hit
      have HN := Lib.hid hn
      have hsz : w.heap.size + 1 < wr.heap.size := (Array.getElem?_eq_some_iff.1 hit).1
      have hll := HL.out
      by_cases hlt : pos < s.size
      · have hnx := fun ty => next_rune (P := Tryd.prog) hit hlt ty
        obtain ⟨f, rfl⟩ : ∃ f, fuel = f + 1 := ⟨fuel - 1, by omega⟩
        have HWD := Lib.hid (wideR_pos (s.data.toList.drop pos))
        have HWI := Lib.hid (wide_in (l := s.data.toList) (p := pos) (by omega))
        have HST : Hid (lexF s.data.toList (f + 1) pos x = if pos < x.behind then lexF s.data.toList f (pos + wideR (s.data.toList.drop pos)) x else if (takeZ s.data.toList pos x).1 = 0 then lexF s.data.toList f (pos + wideR (s.data.toList.drop pos)) (takeZ s.data.toList pos x).2 else .bad pos (takeZ s.data.toList pos x).1) := by
          show _ = _
          conv => lhs; unfold lexF
          rw [if_pos (by omega)]
        have HTL := Lib.hid (takeZ_len s.data.toList pos x)
        generalize wideR (s.data.toList.drop pos) = WD at *
        have hit2 := Lib.iterAt_heap wr (w.heap.size + 1) s pos (pos + WD) hit
        have HIT2 := Lib.hid hit2
        have hspl2 : Spl (wr.iterAt (w.heap.size + 1) s (pos + WD)) w.heap.size (w.heap.size + 2) s x := hspl.iterAt _ (by omega) (by omega)
        have HSPL2 := Lib.hid hspl2
        have HBW2 := Lib.hid (Lib.below_iterAt hbw (k := w.heap.size + 1) (by omega) s (pos + WD))
        have hsz2 : (wr.iterAt (w.heap.size + 1) s (pos + WD)).heap.size = wr.heap.size := Lib.iterAt_size _ _ _ _
        have HSZ2 := Lib.hid hsz2
        have HTL2 := Lib.hid htl
        obtain ⟨vt, hb2, ho2⟩ := hspl2
        have z2 := hb2.cell (k := 2) rfl
        clear hit hn hit2 hspl hb2 ho2 hsz2 hbw
        by_cases hbh : pos < x.behind
        · have c1 : decide ((pos : Int) < x.behind) = true := decide_eq_true (by omega)
          have c2 : decide (pos < x.behind) = true := decide_eq_true hbh
          have HBH := Lib.hid hbh
          go_wp2_with fail
          go_roundw
          case rel => exact ⟨pos + WD, f, x, HSPL2.out, HIT2.out, HBW2.out, by rw [← HN.out, HST.out, if_pos HBH.out], by have := HWD.out; omega, by have := HWI.out; omega, by have := HTL2.out; omega⟩
          case measure =>
            simp only [World.iterPos, HIT2.out, HIT.out]
            have := HWD.out; omega
        · have c1 : decide ((pos : Int) < x.behind) = false := decide_eq_false (by omega)
          have c2 : decide (pos < x.behind) = false := decide_eq_false hbh
          have HBH := Lib.hid hbh
          have HT2 := Lib.hid (HT.out.go HBW2.out)
          go_wp2_with fail
          refine (take_any s x pos w.heap.size (w.heap.size + 2) _ HT2.out (by omega) (by rw [HSZ2.out]; omega) (by omega) HSPL2.out (by have := HTL2.out; omega) hlt).mono ?_
          rintro e w3 ⟨rfl, hs3, ht3⟩
          have S3 := Lib.hid hs3
          have IT3 : Hid (w3.heap[w.heap.size + 1]? = some (.stringIter s (pos + WD))) := (ht3.mid _ (by omega) (by omega)).trans HIT2.out
          have K3 := Lib.hid (HBW2.out.trans ht3.bel)
          clear hs3 ht3 z2
          generalize takeZ s.data.toList pos x = TK at *
          obtain ⟨er, x'⟩ := TK
          simp only at *
          by_cases he : er = 0
          · have hq : (er != 0) = false := by simpa using he
            have HE := Lib.hid he
            clear he
            go_wp2_with fail
            go_roundw
            case rel => exact ⟨pos + WD, f, x', S3.out, IT3.out, K3.out, by rw [← HN.out, HST.out, if_neg HBH.out, if_pos HE.out], by have := HWD.out; omega, by have := HWI.out; omega, by have := HTL.out; have := HTL2.out; have := HWD.out; omega⟩
            case measure =>
              simp only [World.iterPos, IT3.out, HIT.out]
              have := HWD.out; omega
          · have hq : (er != 0) = true := by simpa using he
            have hz : Hid (Z = .bad pos er) := by show _ = _; rw [← HN.out, HST.out, if_neg HBH.out, if_neg he]
            clear he
            go_wp2_with fail
            refine bodyPost_ret (v := .tuple #[.slice none 0 0, .int .i64 (pos : Int), .int .i64 er]) (by simp [results, Tryd.results30, go_sem]) rfl ⟨LexOut.bad hz.out rfl, K3.out⟩
      · have hnx := fun ty => next_none (P := Tryd.prog) hit hlt ty
        have hz : Hid (Z = .toks x.toks) := by show _ = _; rw [← hn, lexF_end _ _ _ _ (by omega)]
        obtain ⟨vt, hb2, ho2⟩ := hspl
        obtain ⟨A, c, rfl⟩ := (Row.of_own ho2).form
        have z1 := hb2.cell (k := 1) rfl
        have HO := Lib.hid (own_base ho2 (show w.heap.size ≤ w.heap.size + 2 by omega))
        clear hn hit hb2 ho2
        go_wp2
        refine bodyPost_ret (v := .tuple #[.slice A x.toks.length c, .int .i64 (-1), .int .i64 0]) (by simp [results, Tryd.results30, go_sem]) rfl ⟨LexOut.toks hz.out rfl HO.out, hbw⟩
end Go.Proofs.YtfdegdbknponkaaDoor.Words

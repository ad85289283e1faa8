/- Contracts of package asm's lineEnd, line and text. -/
import Derived.Test.YtimdojeagkbgbaaDoorAsmStmt
namespace Go.Proofs.YtimdojeagkbgbaaDoor.Words
set_option maxRecDepth 100000
open Go.RowKit Go.Shelf Go.Lib
set_option linter.unusedVariables false
set_option linter.unusedSimpArgs false

theorem labelsF_lab : ∀ f r, labelsF (f + 1) r = if (labT r).1 = true then ((labelsF f (labT r).2.1).1, (labT r).2.2 ++ (labelsF f (labT r).2.1).2) else (r, []) := by
  intro f r
  conv => lhs; unfold labelsF
  unfold labT
  cases labelT r with
  | none => rfl
  | some x => obtain ⟨p, ts⟩ := x; rfl
theorem labT_lt {r : List Tok} (h : (labT r).1 = true) : (labT r).2.2.length + (labT r).2.1.length < r.length := by
  rcases r with _ | ⟨t, _ | ⟨c, ts⟩⟩
  · cases h
  · cases h
  · rw [labT_two] at h ⊢
    split
    · simp; omega
    · rename_i hh; rw [if_neg hh] at h; cases h
theorem labT_no {r : List Tok} (h : (labT r).1 = false) : labT r = (false, r, []) := by
  rcases r with _ | ⟨t, _ | ⟨c, ts⟩⟩
  · rfl
  · rfl
  · rw [labT_two] at h ⊢
    split
    · rename_i hh; rw [if_pos hh] at h; cases h
    · rfl
theorem labelsF_len : ∀ f r, (labelsF f r).2.length + (labelsF f r).1.length ≤ r.length
  | 0, r => by simp [labelsF]
  | f + 1, r => by
    rw [labelsF_lab]
    split
    · rename_i h
      have h1 := labT_lt h
      have h2 := labelsF_len f (labT r).2.1
      simp only [List.length_append]
      omega
    · simp
theorem insT_len2 (op : Int) (at_ : Nat) (r : List Tok) : (insT op at_ r).2.2.length + (insT op at_ r).2.1.length ≤ r.length + 1 := by
  have := fieldsT_len (shapeZ op) ⟨2, at_, 0, [], ⟨op, 0, 0, 0, 0⟩, tok0⟩ r
  unfold insT
  split
  · simp only [List.length_cons, List.length_nil]; omega
  · simp only [List.length_nil]; omega
theorem stmtT_len (r : List Tok) : (stmtT r).2.2.length + (stmtT r).2.1.length ≤ r.length := by
  cases r with
  | nil => exact Nat.le_refl _
  | cons t ts =>
    by_cases h : t.kind = 1
    · rw [stmtT_one t ts h]
      have h1 := insT_len2 (opZ t.text) t.at_ ts
      have h2 := numT_len 3 ts
      have h3 := bytesT_len ts
      simp only [List.length_cons]
      split
      · omega
      split
      · omega
      split
      · omega
      · simp
    · rw [stmtT_kind 0 (show (nextT (t :: ts) 0).kind ≠ 1 from h)]; simp
theorem endT_len (r : List Tok) : (endT r).2.length ≤ r.length := by
  cases r with
  | nil => exact Nat.le_refl _
  | cons t ts =>
    have h : endT (t :: ts) = if t.kind = 4 then (true, ts) else (false, t :: ts) := rfl
    rw [h]; split <;> simp
theorem lineT_len (r : List Tok) : (lineT r).2.2.length + (lineT r).2.1.length ≤ r.length := by
  have h1 := labelsF_len r.length r
  have h2 := stmtT_len (labelsF r.length r).1
  have h3 := endT_len (stmtT (labelsF r.length r).1).2.1
  unfold lineT
  split
  · simp only [List.length_append]; omega
  · simp only [List.length_append]; omega
theorem endT_true {r : List Tok} (h : (endT r).1 = true) : (endT r).2 = [] ∨ (endT r).2.length < r.length := by
  cases r with
  | nil => exact .inl rfl
  | cons t ts =>
    have h1 : endT (t :: ts) = if t.kind = 4 then (true, ts) else (false, t :: ts) := rfl
    rw [h1] at h ⊢
    by_cases hk : t.kind = 4
    · rw [if_pos hk]; right; simp
    · rw [if_neg hk] at h; cases h
theorem lineT_lt {r : List Tok} (h : (lineT r).1 = true) (hr : r ≠ []) : (lineT r).2.1.length < r.length := by
  have h1 := labelsF_len r.length r
  have h2 := stmtT_len (labelsF r.length r).1
  have hp : 0 < r.length := List.length_pos_iff.2 hr
  unfold lineT at h ⊢
  split
  · rename_i hs
    rw [if_pos hs] at h
    rcases endT_true h with h3 | h3
    · simp only [h3, List.length_nil]; exact hp
    · simp only; omega
  · rename_i hs
    rw [if_neg hs] at h; cases h

set_option maxHeartbeats 2000000 in
theorem lineEnd_any (w : World) (b e : Nat) (r : List Tok) (vp : Value) (ps : List PartZ) (hP : Par w b e r vp ps) :
    Calls Tryd.prog 72 #[.pointer (some ⟨b, 0, none⟩)] w (AppOut w b e ps ((endT r).1, (endT r).2, [])) := by
  have HP := Lib.hid hP
  have hlt := hP.lt
  have hN := next_any w b e r vp ps hP
  have fd := field_kind (nextT r e)
  cases r with
  | nil =>
    obtain ⟨vt, vn, hbox, ht, hn, hp, htk⟩ := hP
    obtain ⟨A, c, rfl⟩ := ht.form
    have z0 := hbox.cell (k := 0) rfl
    have hk : ((nextT [] e).kind == 4) = false := rfl
    generalize nextT [] e = t at *
    clear hbox ht hn hp htk
    go_enter Tryd.func72, Tryd.ntmps72
    go_wp2_with fail
    refine hN.mono ?_; rintro en w1 ⟨rfl, hb1⟩
    have HB1 := Lib.hid hb1
    have z1 := below_cell hb1 hlt z0
    clear hb1 z0
    go_wp2_with fail
    go_ret
    exact ⟨rfl, vp, by rw [show (endT []).2 = [] from rfl, List.append_nil]; exact HP.out.go HB1.out, HB1.out.mono (Nat.le_of_lt hlt)⟩
  | cons t ts =>
    change Calls _ _ _ _ (fun en w' => en = .returned (tokV t) ∧ _) at hN
    change ∀ y, (Instr.field _ (tokV t) 0).run _ y = .ok (.int .i64 t.kind) y at fd
    have h1 : endT (t :: ts) = if t.kind = 4 then (true, ts) else (false, t :: ts) := rfl
    by_cases hk : t.kind = 4
    · rw [if_pos hk] at h1
      have H1 := Lib.hid h1
      have hk2 : (t.kind == 4) = true := by simpa using hk
      clear hP h1 hk
      go_enter Tryd.func72, Tryd.ntmps72
      go_wp2_with fail
      refine hN.mono ?_; rintro en w1 ⟨rfl, hb1⟩
      have HB1 := Lib.hid hb1
      clear hb1
      go_wp2_with fail
      refine (skip_any _ _ _ _ _ _ _ (HP.out.go HB1.out)).mono ?_; rintro en w3 ⟨rfl, hp3, hk3⟩
      have HP3 := Lib.hid hp3
      have HB3 := Lib.hid ((HB1.out.mono (Nat.le_of_lt hlt)).trans (hk3.below (Nat.le_trans (Nat.le_of_lt hlt) HB1.out.size) (fun j hj => by omega)))
      clear hp3 hk3
      go_wp2_with fail
      go_ret
      exact ⟨by rw [H1.out]; rfl, vp, by rw [H1.out]; simpa using HP3.out, HB3.out⟩
    · rw [if_neg hk] at h1
      have H1 := Lib.hid h1
      have hk2 : (t.kind == 4) = false := by simpa using hk
      obtain ⟨vt, vn, hbox, ht, hn, hp, htk⟩ := hP
      obtain ⟨A, c, rfl⟩ := ht.form
      have z0 := hbox.cell (k := 0) rfl
      simp only [List.length_cons] at z0
      have l1 : ((ts.length : Int) + 1 == 0) = false := by simp; omega
      clear h1 hk hbox ht hn hp htk
      go_enter Tryd.func72, Tryd.ntmps72
      go_wp2_with fail
      refine hN.mono ?_; rintro en w1 ⟨rfl, hb1⟩
      have HB1 := Lib.hid hb1
      have z1 := below_cell hb1 hlt z0
      clear hb1 z0
      go_wp2_with fail
      go_ret
      exact ⟨by rw [H1.out]; rfl, vp, by rw [H1.out]; simpa using HP.out.go HB1.out, HB1.out.mono (Nat.le_of_lt hlt)⟩

set_option maxHeartbeats 2000000 in
theorem asmLine_any (w : World) (b e : Nat) (r : List Tok) (vp : Value) (ps : List PartZ) (hP : Par w b e r vp ps) (hS : Shapes w) (hgb : 4 < b) (hps : ps.length + r.length ≤ 1000000) :
    Calls Tryd.prog 54 #[.pointer (some ⟨b, 0, none⟩)] w (AppOut w b e ps (lineT r)) := by
  have HP := Lib.hid hP
  have HS := Lib.hid hS
  have HPS := Lib.hid hps
  obtain ⟨R, hR⟩ : ∃ R, R = (labelsF r.length r).1 := ⟨_, rfl⟩
  obtain ⟨Q, hQ⟩ : ∃ Q, Q = (labelsF r.length r).2 := ⟨_, rfl⟩
  have HR := Lib.hid hR
  have HQ := Lib.hid hQ
  have HLQ : Hid (Q.length + R.length ≤ r.length) := by rw [hR, hQ]; exact labelsF_len _ _
  have HZN : Hid ((stmtT R).1 = false → lineT r = (false, (stmtT R).2.1, Q ++ (stmtT R).2.2)) := by
    intro h; unfold lineT; rw [← hR, ← hQ, if_neg (by rw [h]; decide)]
  have HZY : Hid ((stmtT R).1 = true → lineT r = ((endT (stmtT R).2.1).1, (endT (stmtT R).2.1).2, Q ++ (stmtT R).2.2)) := by
    intro h; unfold lineT; rw [← hR, ← hQ, if_pos h]
  clear hP hS hps hR hQ
  go_enter Tryd.func54, Tryd.ntmps54
  go_wp2_with fail
  go_loopw [] (fun wr => ∃ (f : Nat) (r1 : List Tok) (vp1 : Value) (qs : List PartZ), Par wr b e r1 vp1 (ps ++ qs) ∧ Below b w wr ∧ (labelsF f r1).1 = R ∧ qs ++ (labelsF f r1).2 = Q ∧ r1.length ≤ f ∧ qs.length + r1.length ≤ r.length) (fun wr => parMu b wr)
  case atStart => exact ⟨r.length, r, vp, [], by rw [List.append_nil]; exact HP.out, Below.refl _ _, HR.out.symm, by rw [List.nil_append]; exact HQ.out.symm, Nat.le_refl _, by simp⟩
  case round =>
    obtain ⟨f, r1, vp1, qs, hp, hbw, h1, h2, hf, hlen⟩ := hrel
    have HP1 := Lib.hid hp
    have HBW := Lib.hid hbw
    have H1 := Lib.hid h1
    have H2 := Lib.hid h2
    have HF := Lib.hid hf
    have HLN := Lib.hid hlen
    have hL := label_any wr b e r1 vp1 (ps ++ qs) hp (by have := HPS.out; simp only [List.length_append]; omega)
    have hmu := Lib.hid hp.mu
    cases hl : (labT r1).1
    · have HN := Lib.hid (labT_no hl)
      rw [HN.out] at hL
      have hR2 : R = r1 := by
        rw [← h1]
        cases f with
        | zero => rfl
        | succ f => rw [labelsF_lab, if_neg (by rw [hl]; decide)]
      have hQ2 : Q = qs := by
        rw [← h2]
        cases f with
        | zero => simp [labelsF]
        | succ f => rw [labelsF_lab, if_neg (by rw [hl]; decide)]; simp
      subst hR2
      subst hQ2
      clear hp hbw h1 h2 hf hlen hl H1 H2
      go_wp2_with fail
      refine hL.mono ?_; rintro en w3 ⟨rfl, vp3, hp3, hb3⟩
      have hS3 := statement_any w3 b e R vp3 (ps ++ Q) (by simpa using hp3) (HS.out.belowB (HBW.out.trans hb3) hgb) hgb (by have := HPS.out; have := HLQ.out; simp only [List.length_append]; omega)
      have HB3 := Lib.hid (HBW.out.trans hb3)
      clear hp3 hb3
      cases hst : (stmtT R).1
      · have HZ := Lib.hid (HZN.out hst)
        go_wp2_with fail
        refine hS3.mono ?_; rintro en w4 ⟨rfl, vp4, hp4, hb4⟩
        have HP4 := Lib.hid hp4
        have HB4 := Lib.hid (HB3.out.trans hb4)
        rw [hst]
        clear hp4 hb4 hst
        try dsimp only
        go_wp2_with fail
        go_ret
        exact ⟨by rw [HZ.out]; rfl, vp4, by rw [HZ.out]; simpa only [List.append_assoc] using HP4.out, HB4.out⟩
      · have HZ := Lib.hid (HZY.out hst)
        go_wp2_with fail
        refine hS3.mono ?_; rintro en w4 ⟨rfl, vp4, hp4, hb4⟩
        have hE := lineEnd_any w4 b e _ _ _ hp4
        have HB4 := Lib.hid (HB3.out.trans hb4)
        rw [hst]
        clear hp4 hb4 hst
        try dsimp only
        go_wp2_with fail
        refine hE.mono ?_; rintro en w5 ⟨rfl, vp5, hp5, hb5⟩
        have HP5 := Lib.hid hp5
        have HB5 := Lib.hid (HB4.out.trans hb5)
        clear hp5 hb5
        go_wp2_with fail
        go_ret
        exact ⟨by rw [HZ.out]; rfl, vp5, by rw [HZ.out]; simpa only [List.append_assoc, List.append_nil] using HP5.out, HB5.out⟩
    · obtain ⟨g, rfl⟩ : ∃ g, f = g + 1 := ⟨f - 1, by have := labT_lt hl; omega⟩
      have HLT := Lib.hid (labT_lt hl)
      have hA : (labelsF g (labT r1).2.1).1 = R := by rw [← h1, labelsF_lab, if_pos hl]
      have hB : (qs ++ (labT r1).2.2) ++ (labelsF g (labT r1).2.1).2 = Q := by rw [← h2, labelsF_lab, if_pos hl, List.append_assoc]
      have HA := Lib.hid hA
      have HB := Lib.hid hB
      clear hp hbw h1 h2 hf hlen hA hB H1 H2
      go_wp2_with fail
      refine hL.mono ?_; rintro en w3 ⟨rfl, vp3, hp3, hb3⟩
      rw [List.append_assoc] at hp3
      have HP3 := Lib.hid hp3
      have HB3 := Lib.hid (HBW.out.trans hb3)
      rw [hl]
      clear hp3 hb3 hl
      go_wp2_with fail
      go_roundw
      case rel => exact ⟨g, _, vp3, _, HP3.out, HB3.out, HA.out, HB.out, by have := HLT.out; have := HF.out; omega, by have := HLT.out; have := HLN.out; simp only [List.length_append]; omega⟩
      case measure => rw [hmu.out, HP3.out.mu]; have := HLT.out; omega

set_option maxHeartbeats 2000000 in
theorem asmText_any (w : World) (b e : Nat) (r : List Tok) (vp : Value) (ps : List PartZ) (hP : Par w b e r vp ps) (hS : Shapes w) (hgb : 4 < b) (hps : ps.length + r.length ≤ 1000000) :
    Calls Tryd.prog 34 #[.pointer (some ⟨b, 0, none⟩)] w (AppOut w b e ps (textT r)) := by
  have HP := Lib.hid hP
  have HS := Lib.hid hS
  have HPS := Lib.hid hps
  obtain ⟨Z, hZ⟩ : ∃ Z, Z = textT r := ⟨_, rfl⟩
  have HZ := Lib.hid hZ
  rw [← hZ]
  clear hP hS hps hZ
  go_enter Tryd.func34, Tryd.ntmps34
  go_wp2_with fail
  go_loopw [] (fun wr => ∃ (f : Nat) (r1 : List Tok) (vp1 : Value) (qs : List PartZ), Par wr b e r1 vp1 (ps ++ qs) ∧ Below b w wr ∧ Z = ((textF f r1).1, (textF f r1).2.1, qs ++ (textF f r1).2.2) ∧ r1.length ≤ f ∧ qs.length + r1.length ≤ r.length) (fun wr => parMu b wr)
  case atStart => exact ⟨r.length, r, vp, [], by rw [List.append_nil]; exact HP.out, Below.refl _ _, HZ.out, Nat.le_refl _, by simp⟩
  case round =>
    obtain ⟨f, r1, vp1, qs, hp, hbw, hz, hf, hlen⟩ := hrel
    have HP1 := Lib.hid hp
    have HBW := Lib.hid hbw
    have HF := Lib.hid hf
    have HLN := Lib.hid hlen
    have hmu := Lib.hid hp.mu
    have hblt := hp.lt
    have z0 : ∃ A c, wr.cell? ⟨b, 0, none⟩ = some (.slice A r1.length c) := by
      obtain ⟨vt, vn, h1, h2, _⟩ := hp
      obtain ⟨A, c, rfl⟩ := h2.form
      exact ⟨A, c, h1.cell (k := 0) rfl⟩
    obtain ⟨A, c, z0⟩ := z0
    by_cases hr : r1 = []
    · subst hr
      have hz2 : Hid (Z = (true, [], qs)) := by
        show _ = _
        rw [hz]
        cases f with
        | zero => simp [textF]
        | succ f => unfold textF; simp
      simp only [List.length_nil] at z0
      clear hp hbw hz hf hlen
      go_wp2_with fail
      go_ret
      exact ⟨by rw [hz2.out]; rfl, vp1, by rw [hz2.out]; exact HP1.out, HBW.out⟩
    · have hrl : 0 < r1.length := List.length_pos_iff.2 hr
      have hL := asmLine_any wr b e r1 vp1 (ps ++ qs) hp (HS.out.belowB hbw hgb) hgb (by have := HPS.out; simp only [List.length_append]; omega)
      have q1 : decide ((0 : Int) < r1.length) = true := decide_eq_true (by omega)
      have q2 : decide (0 < r1.length) = true := decide_eq_true hrl
      obtain ⟨g, rfl⟩ : ∃ g, f = g + 1 := ⟨f - 1, by omega⟩
      have HLL := Lib.hid (lineT_len r1)
      cases hl : (lineT r1).1
      · have hz2 : Hid (Z = (false, (lineT r1).2.1, qs ++ (lineT r1).2.2)) := by
          show _ = _
          rw [hz]
          conv => lhs; unfold textF
          rw [if_neg hr, if_neg (by rw [hl]; decide), hl]
        clear hp hbw hz hf hlen
        go_wp2_with fail
        refine hL.mono ?_; rintro en w3 ⟨rfl, vp3, hp3, hb3⟩
        have HP3 := Lib.hid hp3
        have HB3 := Lib.hid (HBW.out.trans hb3)
        rw [hl]
        clear hp3 hb3 hl
        go_wp2_with fail
        go_ret
        exact ⟨by rw [hz2.out]; rfl, vp3, by rw [hz2.out]; simpa only [List.append_assoc] using HP3.out, HB3.out⟩
      · have hz2 : Hid (Z = ((textF g (lineT r1).2.1).1, (textF g (lineT r1).2.1).2.1, (qs ++ (lineT r1).2.2) ++ (textF g (lineT r1).2.1).2.2)) := by
          show _ = _
          rw [hz]
          conv => lhs; unfold textF
          rw [if_neg hr, if_pos hl]
          simp only [List.append_assoc]
        have HLT := Lib.hid (lineT_lt hl hr)
        clear hp hbw hz hf hlen
        go_wp2_with fail
        refine hL.mono ?_; rintro en w3 ⟨rfl, vp3, hp3, hb3⟩
        rw [List.append_assoc] at hp3
        have HP3 := Lib.hid hp3
        have HB3 := Lib.hid (HBW.out.trans hb3)
        rw [hl]
        clear hp3 hb3 hl
        go_wp2_with fail
        go_roundw
        case rel => exact ⟨g, _, vp3, _, HP3.out, HB3.out, hz2.out, by have := HLT.out; have := HF.out; omega, by have := HLL.out; have := HLN.out; simp only [List.length_append]; omega⟩
        case measure => rw [hmu.out, HP3.out.mu]; exact HLT.out
end Go.Proofs.YtimdojeagkbgbaaDoor.Words

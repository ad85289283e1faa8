/- Contract of package asm's byteList. -/
import Derived.Test.YtimdojeagkbgbaaDoorAsmNumber
import Derived.LoopTactic
namespace Go.Proofs.YtimdojeagkbgbaaDoor.Words
set_option maxRecDepth 100000
open Go.RowKit Go.Shelf Go.Lib
set_option linter.unusedVariables false
set_option linter.unusedSimpArgs false

/-- How many tokens a parser has. -/
def parMu (b : Nat) (w : World) : Nat := match w.cell? ⟨b, 0, none⟩ with | some (.slice _ n _) => n | _ => 0
theorem Par.mu {w : World} {b e : Nat} {r : List Tok} {vp : Value} {ps : List PartZ} (h : Par w b e r vp ps) : parMu b w = r.length := by
  obtain ⟨vt, vn, h1, h2, _⟩ := h
  obtain ⟨A, c, rfl⟩ := h2.form
  unfold parMu
  rw [h1.cell (k := 0) rfl]
theorem numT_len (kind : Int) (r : List Tok) : (numT kind r).2.2.length + (numT kind r).2.1.length ≤ r.length := by
  cases r with
  | nil => simp [numT]
  | cons t ts =>
    have h : numT kind (t :: ts) = if t.kind = 2 then (true, ts, [⟨kind, t.at_, t.num, [], ins0, tok0⟩]) else (false, t :: ts, []) := rfl
    rw [h]
    split
    · simp; omega
    · simp
theorem signT_len (c : List UInt8) (r : List Tok) : (signT c r).2.length ≤ r.length := by
  cases r with
  | nil => simp [signT]
  | cons t ts =>
    have h : signT c (t :: ts) = if isS t c = true then (true, ts) else (false, t :: ts) := rfl
    rw [h]
    split
    · simp
    · simp
theorem byteF_len : ∀ f ok r, (byteF f ok r).2.2.length + (byteF f ok r).2.1.length ≤ r.length
  | 0, ok, r => by simp [byteF]
  | f + 1, ok, r => by
    unfold byteF
    split
    · split
      · have h1 := byteF_len f (numT 4 (signT [44] r).2).1 (numT 4 (signT [44] r).2).2.1
        have h2 := numT_len 4 (signT [44] r).2
        have h3 := signT_len [44] r
        simp only [List.length_append]
        omega
      · simp
    · simp
theorem bytesT_len (r : List Tok) : (bytesT r).2.2.length + (bytesT r).2.1.length ≤ r.length := by
  unfold bytesT
  have h1 := byteF_len r.length (numT 4 r).1 (numT 4 r).2.1
  have h2 := numT_len 4 r
  simp only [List.length_append]
  omega

set_option maxHeartbeats 4000000 in
theorem byteList_any (w : World) (b e : Nat) (r : List Tok) (vp : Value) (ps : List PartZ) (hP : Par w b e r vp ps) (hps : ps.length + r.length ≤ 1000000) :
    Calls Tryd.prog 93 #[.pointer (some ⟨b, 0, none⟩)] w (AppOut w b e ps (bytesT r)) := by
  have HPS := Lib.hid hps
  have hN := asmNumber_any 4 w b e r vp ps hP (by omega)
  have HL := Lib.hid (numT_len 4 r)
  obtain ⟨Z, hZ⟩ : ∃ Z, Z = bytesT r := ⟨_, rfl⟩
  have HZ := Lib.hid hZ
  rw [← hZ]
  clear hP hps hZ
  go_enter Tryd.func93, Tryd.ntmps93
  go_wp2_with fail
  refine hN.mono ?_; rintro en w1 ⟨rfl, vp1, hp1, hb1⟩
  have HP1 := Lib.hid hp1
  have HB1 := Lib.hid hb1
  clear hp1 hb1
  go_wp2_with fail
  go_loopw [3] (fun q wr => ∃ (ok : Bool) (f : Nat) (r1 : List Tok) (vp1 : Value) (qs : List PartZ), q = .bool ok ∧ Par wr b e r1 vp1 (ps ++ qs) ∧ Below b w wr ∧ Z = ((byteF f ok r1).1, (byteF f ok r1).2.1, qs ++ (byteF f ok r1).2.2) ∧ r1.length ≤ f ∧ qs.length + r1.length ≤ r.length) (fun _ wr => parMu b wr)
  case atStart => exact ⟨_, r.length, _, vp1, _, rfl, HP1.out, HB1.out, HZ.out, by have := HL.out; omega, HL.out⟩
  case round =>
    obtain ⟨ok, f, r1, vp2, qs, rfl, hp, hbw, hz, hf, hlen⟩ := hrel
    have HP2 := Lib.hid hp
    have HB2 := Lib.hid hbw
    have HZ2 := Lib.hid hz
    have HF := Lib.hid hf
    have HLN := Lib.hid hlen
    cases ok
    · have hz2 : Hid (Z = (false, r1, qs)) := by
        show _ = _
        rw [hz]
        cases f with
        | zero => simp [byteF]
        | succ f => unfold byteF; simp
      clear hp hbw hz hf hlen
      go_wp2_with fail
      go_ret
      exact ⟨by rw [hz2.out]; rfl, vp2, by rw [hz2.out]; exact HP2.out, HB2.out⟩
    · have hS := sign_any wr b e r1 vp2 (ps ++ qs) [44] hp
      cases hs : (signT [44] r1).1
      · have hz2 : Hid (Z = (true, r1, qs)) := by
          show _ = _
          rw [hz]
          cases f with
          | zero => simp [byteF]
          | succ f => unfold byteF; simp [hs]
        rw [hs] at hS
        have HSR := Lib.hid (signT_no hs)
        have hlt := hp.lt
        clear hp hbw hz hf hlen hs
        go_wp2_with fail
        refine hS.mono ?_; rintro en w3 ⟨rfl, hp3, hk3⟩
        have HP3 := Lib.hid hp3
        have HK3 := Lib.hid hk3
        clear hp3 hk3
        go_wp2_with fail
        go_ret
        refine ⟨by rw [hz2.out]; rfl, vp2, ?_, HB2.out.trans (HK3.out.below (Nat.le_of_lt hlt) (fun k hk => by omega))⟩
        rw [hz2.out]
        have := HP3.out
        rw [HSR.out] at this
        exact this
      · obtain ⟨t, ht⟩ := signT_yes hs
        have hl1 : r1.length = (signT [44] r1).2.length + 1 := by conv => lhs; rw [ht]
                                                                  rfl
        obtain ⟨g, rfl⟩ : ∃ g, f = g + 1 := ⟨f - 1, by omega⟩
        have HZ3 : Hid (Z = ((byteF g (numT 4 (signT [44] r1).2).1 (numT 4 (signT [44] r1).2).2.1).1, (byteF g (numT 4 (signT [44] r1).2).1 (numT 4 (signT [44] r1).2).2.1).2.1, (qs ++ (numT 4 (signT [44] r1).2).2.2) ++ (byteF g (numT 4 (signT [44] r1).2).1 (numT 4 (signT [44] r1).2).2.1).2.2)) := by
          show _ = _
          rw [hz]
          conv => lhs; unfold byteF
          simp [hs]
        have HL3 := Lib.hid (numT_len 4 (signT [44] r1).2)
        have HL1 := Lib.hid hl1
        rw [hs] at hS
        have hlt := hp.lt
        have hmu := Lib.hid hp.mu
        clear hp hbw hz hf hlen hs ht hl1 HZ2
        go_wp2_with fail
        refine hS.mono ?_; rintro en w3 ⟨rfl, hp3, hk3⟩
        have HK3 := Lib.hid (HB2.out.trans (hk3.below (Nat.le_of_lt hlt) (fun k hk => by omega)))
        have hN2 := asmNumber_any 4 w3 b e _ _ _ hp3 (by have := HPS.out; have := HLN.out; simp only [List.length_append]; omega)
        clear hp3 hk3
        go_wp2_with fail
        refine hN2.mono ?_; rintro en w4 ⟨rfl, vp4, hp4, hb4⟩
        rw [List.append_assoc] at hp4
        have HP4 := Lib.hid hp4
        have HB4 := Lib.hid (HK3.out.trans hb4)
        clear hp4 hb4
        go_wp2_with fail
        go_roundw
        case rel => exact ⟨_, g, _, vp4, _, rfl, HP4.out, HB4.out, HZ3.out, by have := HL3.out; have := HL1.out; have := HF.out; omega, by have := HL3.out; have := HL1.out; have := HLN.out; simp only [List.length_append]; omega⟩
        case measure => rw [hmu.out, HP4.out.mu]; have := HL3.out; have := HL1.out; omega
end Go.Proofs.YtimdojeagkbgbaaDoor.Words

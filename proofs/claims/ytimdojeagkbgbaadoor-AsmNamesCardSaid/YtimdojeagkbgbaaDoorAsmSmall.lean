/- Contracts of package asm's smallest: next, skip, isSign, sign, immediate. -/
import Derived.Test.YtimdojeagkbgbaaDoorAsmData
namespace Go.Proofs.YtimdojeagkbgbaaDoor.Words
set_option maxRecDepth 100000
open Go.RowKit Go.Shelf Go.Lib
set_option linter.unusedVariables false
set_option linter.unusedSimpArgs false

/-- A token as a value. -/
abbrev tokV (t : Tok) : Value := .agg #[.int .i64 t.kind, .int .i64 t.num, .int .i64 (t.at_ : Int), .string (txt t.text)]
theorem field_kind (t : Tok) (y : World) : (Instr.field 33 (tokV t) 0).run Tryd.prog y = .ok (.int .i64 t.kind) y := by kernel_rfl
theorem field_num (t : Tok) (y : World) : (Instr.field 33 (tokV t) 1).run Tryd.prog y = .ok (.int .i64 t.num) y := by kernel_rfl
theorem field_at (t : Tok) (y : World) : (Instr.field 33 (tokV t) 2).run Tryd.prog y = .ok (.int .i64 (t.at_ : Int)) y := by kernel_rfl
theorem field_text (t : Tok) (y : World) : (Instr.field 33 (tokV t) 3).run Tryd.prog y = .ok (.string (txt t.text)) y := by kernel_rfl
theorem Row.tok0 {w : World} {B n c : Nat} {b off : Nat} {i : Tok} {l : List Tok} (h : Row w B 4 (.slice (some ⟨b, off, none⟩) n c) n (toksL (i :: l))) :
    w.cell? ⟨b, off, none⟩ = some (.int .i64 i.kind) ∧ w.cell? ⟨b, off + 1, none⟩ = some (.int .i64 i.num) ∧ w.cell? ⟨b, off + 2, none⟩ = some (.int .i64 (i.at_ : Int)) ∧ w.cell? ⟨b, off + 3, none⟩ = some (.string (txt i.text)) := by
  have := h.tok (k := 0) (i := i) rfl
  simpa only [Nat.zero_mul, Nat.add_zero] using this

set_option maxHeartbeats 1000000 in
theorem next_any (w : World) (b e : Nat) (r : List Tok) (vp : Value) (ps : List PartZ) (hP : Par w b e r vp ps) :
    Calls Tryd.prog 35 #[.pointer (some ⟨b, 0, none⟩)] w fun en w' => en = .returned (tokV (nextT r e)) ∧ Below w.heap.size w w' := by
  have hlt := hP.lt
  obtain ⟨vt, vn, hbox, ht, hn, hp, htk⟩ := hP
  obtain ⟨A, c, rfl⟩ := ht.form
  have z0 := hbox.cell (k := 0) rfl
  have z1 := hbox.cell (k := 1) rfl
  cases r with
  | nil =>
    clear hbox ht hn hp
    go_enter Tryd.func35, Tryd.ntmps35
    go_wp2_with fail
    refine bodyPost_ret (v := tokV (nextT [] e)) (by simp [results, Tryd.results35, go_sem, nextT]) rfl ⟨rfl, ?_⟩
    exact (Below.refl w.heap.size w).alloc (Nat.le_refl _) _
  | cons t ts =>
    obtain ⟨g, off, rfl, hg, _⟩ := ht.at_ (by simp)
    obtain ⟨c0, c1, c2, c3⟩ := ht.tok0
    have hcap := ht.cap
    simp only [List.length_cons] at hcap
    have hgw : g < w.heap.size := by omega
    have l0 : ((ts.length + 1 : Nat) : Int) ≠ 0 := by omega
    have l1 : (0 : Int) < ((ts.length + 1 : Nat) : Int) := by omega
    have l2 : ((ts.length : Int) + 1 == 0) = false := by simp; omega
    simp only [List.length_cons] at z0
    clear hbox ht hn hp
    go_enter Tryd.func35, Tryd.ntmps35
    go_wp2_with fail
    refine bodyPost_ret (v := tokV t) (by simp [results, Tryd.results35, go_sem]) rfl ⟨rfl, ?_⟩
    exact (Below.refl w.heap.size w).alloc (Nat.le_refl _) _

/-- A row without its first. -/
theorem Row.behind {w : World} {B c : Nat} {b off : Nat} {i : Tok} {l : List Tok} (h : Row w B 4 (.slice (some ⟨b, off, none⟩) (l.length + 1) c) (l.length + 1) (toksL (i :: l))) :
    Row w B 4 (.slice (some ⟨b, if c = 1 then off else off + 4, none⟩) l.length (c - 1)) l.length (toksL l) := by
  obtain ⟨b', o', he, hb, hc⟩ := h.at_ (by omega)
  obtain ⟨h1, h2⟩ := h.cap
  injection he with he
  injection he with he1 he2
  subst he1; subst he2
  refine ⟨toksL_length l, _, _, rfl, by omega, by omega, (fun h => by cases h), fun _ => ⟨b, _, rfl, hb, fun j u hu => ?_⟩⟩
  have hj : j < (toksL l).length := (List.getElem?_eq_some_iff.1 hu).1
  rw [toksL_length] at hj
  rw [if_neg (by omega)]
  have := hc (4 + j) u (by rw [toksL_cons, List.getElem?_append_right (by simp [tokL])]; simpa [tokL] using hu)
  rwa [show off + 4 + j = off + (4 + j) by omega]

set_option maxHeartbeats 1000000 in
theorem skip_any (w : World) (b e : Nat) (t : Tok) (r : List Tok) (vp : Value) (ps : List PartZ) (hP : Par w b e (t :: r) vp ps) :
    Calls Tryd.prog 90 #[.pointer (some ⟨b, 0, none⟩)] w fun en w' => en = .returned (.tuple #[]) ∧ Par w' b e r vp ps ∧ KeepS (fun k => k = b) w w' := by
  have hlt := hP.lt
  obtain ⟨vt, vn, hbox, ht, hn, hp, htk⟩ := hP
  obtain ⟨A, c, rfl⟩ := ht.form
  obtain ⟨g, off, rfl, hg, _⟩ := ht.at_ (by simp)
  have z0 := hbox.cell (k := 0) rfl
  have f0 := hbox.frozen 0
  have hcap := ht.cap
  simp only [List.length_cons] at hcap z0
  have HR := Lib.hid ht.behind
  have HBX := Lib.hid hbox
  have HN := Lib.hid hn
  have HP := Lib.hid hp
  have l1 : (1 : Int) ≤ (r.length : Int) + 1 := by omega
  have l2 : (r.length : Int) + 1 ≤ c := by omega
  clear hbox ht hn hp
  by_cases hc1 : c = 1
  · subst hc1
    have hr0 : r.length = 0 := by omega
    have HK := Lib.hid ((KeepS.refl (fun k => k = b) w).setCell rfl 0 (.slice (some ⟨g, off, none⟩) 0 0))
    have hr : r = [] := List.eq_nil_of_length_eq_zero hr0
    subst hr
    go_enter Tryd.func90, Tryd.ntmps90
    go_wp2_with fail
    refine bodyPost_end (v := .tuple #[]) (by simp [results, Tryd.results90]) rfl ⟨rfl, ?_, HK.out⟩
    exact ⟨_, _, HBX.out.setCell 0 _, HR.out.keepS HK.out (Nat.le_of_lt hlt) (fun k hk => by omega), HN.out.keepS HK.out (Nat.le_of_lt hlt) (fun k hk => by omega), own_keepS HP.out HK.out (fun g hg e => by have := (HP.out.lt g hg).1; omega), fun x hx => htk x (List.mem_cons_of_mem _ hx)⟩
  · have HK := Lib.hid ((KeepS.refl (fun k => k = b) w).setCell rfl 0 (.slice (some ⟨g, off + 4, none⟩) r.length (c - 1)))
    have hc2 : (1 : Int) < c := by omega
    have HR2 := HR.out
    rw [if_neg hc1] at HR2
    have HR3 := Lib.hid HR2
    clear HR2 HR
    go_enter Tryd.func90, Tryd.ntmps90
    go_wp2_with fail
    refine bodyPost_end (v := .tuple #[]) (by simp [results, Tryd.results90]) rfl ⟨rfl, ?_, HK.out⟩
    exact ⟨_, _, HBX.out.setCell 0 _, HR3.out.keepS HK.out (Nat.le_of_lt hlt) (fun k hk => by omega), HN.out.keepS HK.out (Nat.le_of_lt hlt) (fun k hk => by omega), own_keepS HP.out HK.out (fun g hg e => by have := (HP.out.lt g hg).1; omega), fun x hx => htk x (List.mem_cons_of_mem _ hx)⟩

theorem txt_eqB (a b : List UInt8) : ((txt a).toList == (txt b).toList) = decide (a = b) := by
  rw [Lib.toList_data, Lib.toList_data, Bool.eq_iff_iff]; simp
set_option maxHeartbeats 1000000 in
theorem tokSign_any (t : Tok) (s : List UInt8) (w : World) :
    Calls Tryd.prog 88 #[tokV t, .string (txt s)] w fun en w' => en = .returned (.bool (isS t s)) ∧ Below w.heap.size w w' := by
  have hb := Lib.hid (txt_eqB t.text s)
  unfold isS
  by_cases h1 : t.kind = 3
  · have e : decide ((3 : Int) = 3 ∧ t.text = s) = (t.text == s) := by rw [Bool.eq_iff_iff]; simp
    rw [h1, e]
    clear e
    go_enter Tryd.func88, Tryd.ntmps88
    go_wp2_with fail
    go_ret
    exact ⟨rfl, (Below.refl w.heap.size w).alloc (Nat.le_refl _) _⟩
  · have h2 : (t.kind == 3) = false := by simpa using h1
    go_enter Tryd.func88, Tryd.ntmps88
    go_wp2_with fail
    go_ret
    refine ⟨?_, (Below.refl w.heap.size w).alloc (Nat.le_refl _) _⟩
    simp [h1]

theorem isS_next {r : List Tok} {e : Nat} {c : List UInt8} : isS (nextT r e) c = (signT c r).1 := by
  cases r with
  | nil => simp [nextT, signT, isS]
  | cons t ts => unfold nextT signT; by_cases h : isS t c = true <;> simp [h]
theorem signT_yes {r : List Tok} {c : List UInt8} (h : (signT c r).1 = true) : ∃ t, r = t :: (signT c r).2 := by
  cases r with
  | nil => simp [signT] at h
  | cons t ts => unfold signT at h ⊢; by_cases h1 : isS t c = true <;> simp [h1] at h ⊢
theorem signT_no {r : List Tok} {c : List UInt8} (h : (signT c r).1 = false) : (signT c r).2 = r := by
  cases r with
  | nil => rfl
  | cons t ts => unfold signT at h ⊢; by_cases h1 : isS t c = true <;> simp [h1] at h ⊢
set_option maxHeartbeats 1000000 in
theorem sign_any (w : World) (b e : Nat) (r : List Tok) (vp : Value) (ps : List PartZ) (s : List UInt8) (hP : Par w b e r vp ps) :
    Calls Tryd.prog 102 #[.pointer (some ⟨b, 0, none⟩), .string (txt s)] w fun en w' => en = .returned (.bool (signT s r).1) ∧ Par w' b e (signT s r).2 vp ps ∧ KeepS (fun k => k = b) w w' := by
  have HP := Lib.hid hP
  have hN := next_any w b e r vp ps hP
  have HI := Lib.hid (isS_next (r := r) (e := e) (c := s))
  cases hs : (signT s r).1
  · have HS := Lib.hid (signT_no hs)
    clear hP
    go_enter Tryd.func102, Tryd.ntmps102
    go_wp2_with fail
    refine hN.mono ?_; rintro en w1 ⟨rfl, hb1⟩
    have HB1 := Lib.hid hb1
    clear hb1
    go_wp2_with fail
    refine (tokSign_any _ _ _).mono ?_; rintro en w2 ⟨rfl, hb2⟩
    have HB2 := Lib.hid (HB1.out.trans (hb2.mono HB1.out.size))
    rw [HI.out, hs]
    clear hb2
    go_wp2_with fail
    go_ret
    exact ⟨rfl, by rw [HS.out]; exact HP.out.go HB2.out, KeepS.of_below HB2.out⟩
  · obtain ⟨t, ht⟩ := signT_yes hs
    have HS := Lib.hid ht
    clear hP ht
    go_enter Tryd.func102, Tryd.ntmps102
    go_wp2_with fail
    refine hN.mono ?_; rintro en w1 ⟨rfl, hb1⟩
    have HB1 := Lib.hid hb1
    clear hb1
    go_wp2_with fail
    refine (tokSign_any _ _ _).mono ?_; rintro en w2 ⟨rfl, hb2⟩
    have HB2 := Lib.hid (HB1.out.trans (hb2.mono HB1.out.size))
    rw [HI.out, hs]
    clear hb2
    have HP2 := HP.out.go HB2.out
    rw [HS.out] at HP2
    have HP3 := Lib.hid HP2
    clear HP2
    go_wp2_with fail
    refine (skip_any _ _ _ _ _ _ _ HP3.out).mono ?_; rintro en w3 ⟨rfl, hp3, hk3⟩
    have H3 := Lib.hid hp3
    have HK3 := Lib.hid ((KeepS.of_below HB2.out).trans hk3)
    clear hp3 hk3
    go_wp2_with fail
    go_ret
    exact ⟨rfl, H3.out, HK3.out⟩

theorem immT_none {r : List Tok} (e : Nat) (h : (immT r).1 = none) : (nextT r e).kind ≠ 2 ∧ (immT r).2 = r := by
  cases r with
  | nil => simp [nextT, immT]
  | cons t ts => unfold immT at h ⊢; by_cases h1 : t.kind = 2 <;> simp [h1, nextT] at h ⊢
theorem immT_some {r : List Tok} (e : Nat) {n : Int} (h : (immT r).1 = some n) : (nextT r e).kind = 2 ∧ (nextT r e).num = n ∧ r = nextT r e :: (immT r).2 := by
  cases r with
  | nil => simp [immT] at h
  | cons t ts => unfold immT at h ⊢; by_cases h1 : t.kind = 2 <;> simp [h1, nextT] at h ⊢ ; exact h
set_option maxHeartbeats 2000000 in
theorem immediate_any (w : World) (b e : Nat) (r : List Tok) (vp : Value) (ps : List PartZ) (x k : Nat) (l : List Value) (hP : Par w b e r vp ps) (hx : Box w x l) (hk : k < l.length) (hbx : b < x) (hpx : vp.ownBlock ≠ some x) :
    Calls Tryd.prog 101 #[.pointer (some ⟨b, 0, none⟩), .pointer (some ⟨x, k, none⟩)] w fun en w' => en = .returned (.bool (immT r).1.isSome) ∧ Par w' b e (immT r).2 vp ps ∧
      Box w' x (match (immT r).1 with | some n => l.set k (.int .i64 n) | none => l) ∧ KeepS (fun j => j = b ∨ j = x) w w' := by
  have HP := Lib.hid hP
  have HX := Lib.hid hx
  have hN := next_any w b e r vp ps hP
  have hlt := hP.lt
  have hxl := hx.lt
  cases hs : (immT r).1 with
  | none =>
    obtain ⟨h1, h2⟩ := immT_none e hs
    have HS := Lib.hid h2
    generalize nextT r e = t at *
    have h3 : (t.kind != 2) = true := by simpa using h1
    clear hP hx h1 h2
    go_enter Tryd.func101, Tryd.ntmps101
    go_wp2_with fail
    refine hN.mono ?_; rintro en w1 ⟨rfl, hb1⟩
    have HB1 := Lib.hid hb1
    clear hb1
    go_wp2_with fail
    go_ret
    refine ⟨rfl, ?_, ?_, ?_⟩
    · rw [HS.out]; exact (HP.out.go HB1.out).alloc _
    · exact (HX.out.below HB1.out hxl).alloc _
    · exact KeepS.of_below (HB1.out.alloc HB1.out.size _)
  | some n =>
    obtain ⟨h1, h2, h3⟩ := immT_some e hs
    have HS := Lib.hid h3
    generalize nextT r e = t at *
    have h4 : (t.kind != 2) = false := by simp [h1]
    have H2 := Lib.hid h2
    clear hP hx h3 h1 h2
    go_enter Tryd.func101, Tryd.ntmps101
    go_wp2_with fail
    refine hN.mono ?_; rintro en w1 ⟨rfl, hb1⟩
    have HB1 := Lib.hid hb1
    have hx1 : Hid (Box w1 x l) := HX.out.below hb1 hxl
    have hs1 := hb1.size
    clear hb1
    have X2 := Lib.hid (hx1.out.alloc (.cells #[.int .i64 t.kind, .int .i64 t.num, .int .i64 (t.at_ : Int), .string (txt t.text)] 33))
    obtain ⟨v0, hv0⟩ : ∃ v0, l[k]? = some v0 := ⟨_, List.getElem?_eq_getElem hk⟩
    have y0 := X2.out.cell hv0
    have fy := X2.out.frozen k
    have P2 := Lib.hid ((HP.out.go HB1.out).alloc (.cells #[.int .i64 t.kind, .int .i64 t.num, .int .i64 (t.at_ : Int), .string (txt t.text)] 33))
    have K2 := Lib.hid ((KeepS.of_below (S := fun j => j = b ∨ j = x) HB1.out).alloc (.cells #[.int .i64 t.kind, .int .i64 t.num, .int .i64 (t.at_ : Int), .string (txt t.text)] 33))
    go_wp2_with fail
    have X3 : Hid (Box ((w1.alloc (.cells #[.int .i64 t.kind, .int .i64 t.num, .int .i64 (t.at_ : Int), .string (txt t.text)] 33)).setCell ⟨x, k, none⟩ (.int .i64 t.num)) x (l.set k (.int .i64 t.num))) := X2.out.setCell k _
    have P3 := P2.out.set hbx hpx k (.int .i64 t.num)
    rw [HS.out] at P3
    have P4 := Lib.hid P3
    have K3 := Lib.hid (K2.out.setCell (.inr rfl) k (.int .i64 t.num))
    clear P3
    refine (skip_any _ _ _ _ _ _ _ P4.out).mono ?_; rintro en w3 ⟨rfl, hp3, hk3⟩
    have H3 := Lib.hid hp3
    have HK3 := Lib.hid hk3
    clear hp3 hk3
    go_wp2_with fail
    go_ret
    obtain rfl := H2.out
    exact ⟨rfl, H3.out, X3.out.keepS HK3.out (by omega), K3.out.trans (HK3.out.mono (fun j hj => .inl hj))⟩
end Go.Proofs.YtimdojeagkbgbaaDoor.Words

/- Several texts in one: AsmData, AsmSmall, AsmReg, AsmField, LexTake, LexTake2, LexSplit. -/
import Derived.Test.YtcaibahniheohaaDoorG00
import Derived.Test.YtcaibahniheohaaDoorG01
import Derived.Test.YtcaibahniheohaaDoorSKeepS

/- A parser's block, its tokens and its parts as cells; which blocks a call leaves as they were. -/
namespace Go.Proofs.YtcaibahniheohaaDoor.Words
set_option maxRecDepth 100000
open Go.RowKit Go.Shelf Go.Lib
set_option linter.unusedVariables false
def partL (x : PartZ) : List Value := [.int .i64 x.kind, .int .i64 (x.at_ : Int), .int .i64 x.num, .string (txt x.name), .int .i64 x.ins.op, .int .i64 x.ins.d, .int .i64 x.ins.a, .int .i64 x.ins.b, .int .i64 x.ins.imm,
 .int .i64 x.target.kind, .int .i64 x.target.num, .int .i64 (x.target.at_ : Int), .string (txt x.target.text)]
def partsL (l : List PartZ) : List Value := l.flatMap partL
theorem partsL_cons (i : PartZ) (l : List PartZ) : partsL (i :: l) = partL i ++ partsL l := by simp [partsL]
theorem partsL_append (l m : List PartZ) : partsL (l ++ m) = partsL l ++ partsL m := by simp [partsL]
theorem partsL_one (x : PartZ) : partsL [x] = partL x := by simp [partsL]
theorem partL_cell (x : PartZ) : ∀ u ∈ partL x, u.oneCell' = true := by
 intro u hu
 simp only [partL, List.mem_cons, List.not_mem_nil, or_false] at hu
 rcases hu with rfl | rfl | rfl | rfl | rfl | rfl | rfl | rfl | rfl | rfl | rfl | rfl | rfl <;> rfl
theorem partsL_at (l : List PartZ) (k : Nat) (i : PartZ) (h : l[k]? = some i) (j : Nat) (hj : j < 13) : (partsL l)[k * 13 + j]? = (partL i)[j]? := by
 induction l generalizing k with
 | nil => simp at h
 | cons x l ih =>
  rw [partsL_cons]
  cases k with
  | zero =>
   simp at h; subst h
   rw [List.getElem?_append_left (by simp [partL]; omega), Nat.zero_mul, Nat.zero_add]
  | succ k =>
   simp at h
   have h5 : (partL x).length = 13 := rfl
   rw [List.getElem?_append_right (by omega), h5, show (k + 1) * 13 + j - 13 = k * 13 + j by omega]
   exact ih k h
theorem info_part : (Tryd.prog.info? 55).map (fun i => (i.zero, i.size, i.bytes)) = some (some (.agg #[.int .i64 0, .int .i64 0, .int .i64 0, .string ⟨#[]⟩, .int .i64 0, .int .i64 0, .int .i64 0, .int .i64 0, .int .i64 0, .int .i64 0, .int .i64 0, .int .i64 0, .string ⟨#[]⟩]), 13, 120) := by kernel_rfl
def namesL : List Value := namesZ.map (fun t => Value.string (txt t))
structure TokIn (t : Tok) : Prop where
 text : t.text.length ≤ 1000000
 at_ : t.at_ ≤ 1000000
 low : -4294967296 ≤ t.num
 high : t.num ≤ 4294967296
def Par (w : World) (b e : Nat) (r : List Tok) (vp : Value) (ps : List PartZ) : Prop :=
 ∃ vt vn, Box w b [vt, .int .i64 (e : Int), vn, vp] ∧ Row w b 4 vt r.length (toksL r) ∧ Row w b 1 vn 41 namesL ∧ w.ownsRow (b + 1) 55 13 vp ps.length (partsL ps) ∧ (∀ t ∈ r, TokIn t)
section
variable {w w' : World} {b e : Nat} {r : List Tok} {vp : Value} {ps : List PartZ}
theorem Par.lt (h : Par w b e r vp ps) : b < w.heap.size := by obtain ⟨_, _, hb, _⟩ := h; exact hb.lt
theorem Par.own (h : Par w b e r vp ps) : w.ownsRow (b + 1) 55 13 vp ps.length (partsL ps) := by obtain ⟨_, _, _, _, _, h, _⟩ := h; exact h
theorem Par.toks (h : Par w b e r vp ps) : ∀ t ∈ r, TokIn t := by obtain ⟨_, _, _, _, _, _, h⟩ := h; exact h
theorem Par.go (h : Par w b e r vp ps) (hb : Below w.heap.size w w') : Par w' b e r vp ps := by
 have hlt := h.lt
 obtain ⟨vt, vn, h1, h2, h3, h4, h5⟩ := h
 exact ⟨vt, vn, h1.below hb hlt, h2.below (hb.mono (Nat.le_of_lt hlt)), h3.below (hb.mono (Nat.le_of_lt hlt)), own_below h4 hb, h5⟩
theorem Par.alloc (h : Par w b e r vp ps) (o : Obj) : Par (w.alloc o) b e r vp ps := h.go ((Below.refl _ _).alloc (Nat.le_refl _) o)
theorem Par.drewN (h : Par w b e r vp ps) (k : Nat) : Par (w.drewN k) b e r vp ps := h.go (Below.drewN_ (Below.refl _ _) k)
theorem Par.keepS {S : Nat → Prop} (h : Par w b e r vp ps) (hk : KeepS S w w') (hs : ∀ k, S k → b < k) (hp : ∀ g, vp.ownBlock = some g → ¬ S g) : Par w' b e r vp ps := by
 have hlt := h.lt
 obtain ⟨vt, vn, h1, h2, h3, h4, h5⟩ := h
 exact ⟨vt, vn, h1.keepS hk (fun e => by have := hs _ e; omega), h2.keepS hk (Nat.le_of_lt hlt) (fun j hj => by have := hs _ hj; omega), h3.keepS hk (Nat.le_of_lt hlt) (fun j hj => by have := hs _ hj; omega), own_keepS h4 hk hp, h5⟩
theorem Par.set (h : Par w b e r vp ps) {x : Nat} (hx : b < x) (hp : vp.ownBlock ≠ some x) (k : Nat) (v : Value) : Par (w.setCell ⟨x, k, none⟩ v) b e r vp ps :=
 h.keepS ((KeepS.refl (fun j => j = x) w).setCell rfl k v) (fun j hj => by omega) (fun g hg e => hp (by rw [hg, e]))
end
end Go.Proofs.YtcaibahniheohaaDoor.Words

/- Contracts of package asm's smallest: next, skip, isSign, sign, immediate. -/
namespace Go.Proofs.YtcaibahniheohaaDoor.Words
set_option maxRecDepth 100000
open Go.RowKit Go.Shelf Go.Lib
set_option linter.unusedVariables false
set_option linter.unusedSimpArgs false
abbrev tokV (t : Tok) : Value := .agg #[.int .i64 t.kind, .int .i64 t.num, .int .i64 (t.at_ : Int), .string (txt t.text)]
theorem field_kind (t : Tok) (y : World) : (Instr.field 48 (tokV t) 0).run Tryd.prog y = .ok (.int .i64 t.kind) y := by kernel_rfl
theorem field_at (t : Tok) (y : World) : (Instr.field 48 (tokV t) 2).run Tryd.prog y = .ok (.int .i64 (t.at_ : Int)) y := by kernel_rfl
theorem field_text (t : Tok) (y : World) : (Instr.field 48 (tokV t) 3).run Tryd.prog y = .ok (.string (txt t.text)) y := by kernel_rfl
theorem Row.tok0 {w : World} {B n c : Nat} {b off : Nat} {i : Tok} {l : List Tok} (h : Row w B 4 (.slice (some ⟨b, off, none⟩) n c) n (toksL (i :: l))) :
  w.cell? ⟨b, off, none⟩ = some (.int .i64 i.kind) ∧ w.cell? ⟨b, off + 1, none⟩ = some (.int .i64 i.num) ∧ w.cell? ⟨b, off + 2, none⟩ = some (.int .i64 (i.at_ : Int)) ∧ w.cell? ⟨b, off + 3, none⟩ = some (.string (txt i.text)) := by
 have := h.tok (k := 0) (i := i) rfl
 simpa only [Nat.zero_mul, Nat.add_zero] using this
set_option maxHeartbeats 1000000 in
theorem next_any (w : World) (b e : Nat) (r : List Tok) (vp : Value) (ps : List PartZ) (hP : Par w b e r vp ps) :
  Calls Tryd.prog 17 #[.pointer (some ⟨b, 0, none⟩)] w fun en w' => en = .returned (tokV (nextT r e)) ∧ Below w.heap.size w w' := by
 have hlt := hP.lt
 obtain ⟨vt, vn, hbox, ht, hn, hp, htk⟩ := hP
 obtain ⟨A, c, rfl⟩ := ht.form
 have z0 := hbox.cell (k := 0) rfl
 have z1 := hbox.cell (k := 1) rfl
 cases r with
 | nil =>
  clear hbox ht hn hp
  go_enter Tryd.func17, Tryd.ntmps17
  go_wp2_with fail
  refine bodyPost_ret (v := tokV (nextT [] e)) (by simp [results, Tryd.results17, go_sem, nextT]) rfl ⟨rfl, ?_⟩
  exact (Below.refl w.heap.size w).alloc (Nat.le_refl _) _
 | cons t ts =>
  obtain ⟨g, off, rfl, hg, _⟩ := ht.at_ (by simp)
  obtain ⟨c0, c1, c2, c3⟩ := ht.tok0
  have hcap := ht.cap
  simp only [List.length_cons] at hcap
  have hgw : g < w.heap.size := by omega
  have l0 : ((ts.length + 1 : Nat) : Int) ≠ 0 := by omega
  have l1 : (0 : Int) < ((ts.length + 1 : Nat) : Int) := by omega
  have l2 : ((ts.length : Int) + 1 == 0) = false := by simp; omega
  simp only [List.length_cons] at z0
  clear hbox ht hn hp
  go_enter Tryd.func17, Tryd.ntmps17
  go_wp2_with fail
  refine bodyPost_ret (v := tokV t) (by simp [results, Tryd.results17, go_sem]) rfl ⟨rfl, ?_⟩
  exact (Below.refl w.heap.size w).alloc (Nat.le_refl _) _
theorem Row.behind {w : World} {B c : Nat} {b off : Nat} {i : Tok} {l : List Tok} (h : Row w B 4 (.slice (some ⟨b, off, none⟩) (l.length + 1) c) (l.length + 1) (toksL (i :: l))) :
  Row w B 4 (.slice (some ⟨b, if c = 1 then off else off + 4, none⟩) l.length (c - 1)) l.length (toksL l) := by
 obtain ⟨b', o', he, hb, hc⟩ := h.at_ (by omega)
 obtain ⟨h1, h2⟩ := h.cap
 injection he with he
 injection he with he1 he2
 subst he1; subst he2
 refine ⟨toksL_length l, _, _, rfl, by omega, by omega, (fun h => by cases h), fun _ => ⟨b, _, rfl, hb, fun j u hu => ?_⟩⟩
 have hj : j < (toksL l).length := (List.getElem?_eq_some_iff.1 hu).1
 rw [toksL_length] at hj
 rw [if_neg (by omega)]
 have := hc (4 + j) u (by rw [toksL_cons, List.getElem?_append_right (by simp [tokL])]; simpa [tokL] using hu)
 rwa [show off + 4 + j = off + (4 + j) by omega]
set_option maxHeartbeats 1000000 in
theorem skip_any (w : World) (b e : Nat) (t : Tok) (r : List Tok) (vp : Value) (ps : List PartZ) (hP : Par w b e (t :: r) vp ps) :
  Calls Tryd.prog 78 #[.pointer (some ⟨b, 0, none⟩)] w fun en w' => en = .returned (.tuple #[]) ∧ Par w' b e r vp ps ∧ KeepS (fun k => k = b) w w' := by
 have hlt := hP.lt
 obtain ⟨vt, vn, hbox, ht, hn, hp, htk⟩ := hP
 obtain ⟨A, c, rfl⟩ := ht.form
 obtain ⟨g, off, rfl, hg, _⟩ := ht.at_ (by simp)
 have z0 := hbox.cell (k := 0) rfl
 have f0 := hbox.frozen 0
 have hcap := ht.cap
 simp only [List.length_cons] at hcap z0
 have HR := Lib.hid ht.behind
 have HBX := Lib.hid hbox
 have HN := Lib.hid hn
 have HP := Lib.hid hp
 have l1 : (1 : Int) ≤ (r.length : Int) + 1 := by omega
 have l2 : (r.length : Int) + 1 ≤ c := by omega
 clear hbox ht hn hp
 by_cases hc1 : c = 1
 ·subst hc1
  have hr0 : r.length = 0 := by omega
  have HK := Lib.hid ((KeepS.refl (fun k => k = b) w).setCell rfl 0 (.slice (some ⟨g, off, none⟩) 0 0))
  have hr : r = [] := List.eq_nil_of_length_eq_zero hr0
  subst hr
  go_enter Tryd.func78, Tryd.ntmps78
  go_wp2_with fail
  refine bodyPost_end (v := .tuple #[]) (by simp [results, Tryd.results78]) rfl ⟨rfl, ?_, HK.out⟩
  exact ⟨_, _, HBX.out.setCell 0 _, HR.out.keepS HK.out (Nat.le_of_lt hlt) (fun k hk => by omega), HN.out.keepS HK.out (Nat.le_of_lt hlt) (fun k hk => by omega), own_keepS HP.out HK.out (fun g hg e => by have := (HP.out.lt g hg).1; omega), fun x hx => htk x (List.mem_cons_of_mem _ hx)⟩
 ·have HK := Lib.hid ((KeepS.refl (fun k => k = b) w).setCell rfl 0 (.slice (some ⟨g, off + 4, none⟩) r.length (c - 1)))
  have hc2 : (1 : Int) < c := by omega
  have HR2 := HR.out
  rw [if_neg hc1] at HR2
  have HR3 := Lib.hid HR2
  clear HR2 HR
  go_enter Tryd.func78, Tryd.ntmps78
  go_wp2_with fail
  refine bodyPost_end (v := .tuple #[]) (by simp [results, Tryd.results78]) rfl ⟨rfl, ?_, HK.out⟩
  exact ⟨_, _, HBX.out.setCell 0 _, HR3.out.keepS HK.out (Nat.le_of_lt hlt) (fun k hk => by omega), HN.out.keepS HK.out (Nat.le_of_lt hlt) (fun k hk => by omega), own_keepS HP.out HK.out (fun g hg e => by have := (HP.out.lt g hg).1; omega), fun x hx => htk x (List.mem_cons_of_mem _ hx)⟩
theorem txt_eqB (a b : List UInt8) : ((txt a).toList == (txt b).toList) = decide (a = b) := by
 rw [Lib.toList_data, Lib.toList_data, Bool.eq_iff_iff]; simp
set_option maxHeartbeats 1000000 in
theorem tokSign_any (t : Tok) (s : List UInt8) (w : World) :
  Calls Tryd.prog 76 #[tokV t, .string (txt s)] w fun en w' => en = .returned (.bool (isS t s)) ∧ Below w.heap.size w w' := by
 have hb := Lib.hid (txt_eqB t.text s)
 unfold isS
 by_cases h1 : t.kind = 3
 ·have e : decide ((3 : Int) = 3 ∧ t.text = s) = (t.text == s) := by rw [Bool.eq_iff_iff]; simp
  rw [h1, e]
  clear e
  go_enter Tryd.func76, Tryd.ntmps76
  go_wp2_with fail
  go_ret
  exact ⟨rfl, (Below.refl w.heap.size w).alloc (Nat.le_refl _) _⟩
 ·have h2 : (t.kind == 3) = false := by simpa using h1
  go_enter Tryd.func76, Tryd.ntmps76
  go_wp2_with fail
  go_ret
  refine ⟨?_, (Below.refl w.heap.size w).alloc (Nat.le_refl _) _⟩
  simp [h1]
theorem isS_next {r : List Tok} {e : Nat} {c : List UInt8} : isS (nextT r e) c = (signT c r).1 := by
 cases r with
 | nil => simp [nextT, signT, isS]
 | cons t ts => unfold nextT signT; by_cases h : isS t c = true <;> simp [h]
theorem signT_yes {r : List Tok} {c : List UInt8} (h : (signT c r).1 = true) : ∃ t, r = t :: (signT c r).2 := by
 cases r with
 | nil => simp [signT] at h
 | cons t ts => unfold signT at h ⊢; by_cases h1 : isS t c = true <;> simp [h1] at h ⊢
theorem signT_no {r : List Tok} {c : List UInt8} (h : (signT c r).1 = false) : (signT c r).2 = r := by
 cases r with
 | nil => rfl
 | cons t ts => unfold signT at h ⊢; by_cases h1 : isS t c = true <;> simp [h1] at h ⊢
set_option maxHeartbeats 1000000 in
theorem sign_any (w : World) (b e : Nat) (r : List Tok) (vp : Value) (ps : List PartZ) (s : List UInt8) (hP : Par w b e r vp ps) :
  Calls Tryd.prog 98 #[.pointer (some ⟨b, 0, none⟩), .string (txt s)] w fun en w' => en = .returned (.bool (signT s r).1) ∧ Par w' b e (signT s r).2 vp ps ∧ KeepS (fun k => k = b) w w' := by
 have HP := Lib.hid hP
 have hN := next_any w b e r vp ps hP
 have HI := Lib.hid (isS_next (r := r) (e := e) (c := s))
 cases hs : (signT s r).1
 ·have HS := Lib.hid (signT_no hs)
  clear hP
  go_enter Tryd.func98, Tryd.ntmps98
  go_wp2_with fail
  refine hN.mono ?_; rintro en w1 ⟨rfl, hb1⟩
  have HB1 := Lib.hid hb1
  clear hb1
  go_wp2_with fail
  refine (tokSign_any _ _ _).mono ?_; rintro en w2 ⟨rfl, hb2⟩
  have HB2 := Lib.hid (HB1.out.trans (hb2.mono HB1.out.size))
  rw [HI.out, hs]
  clear hb2
  go_wp2_with fail
  go_ret
  exact ⟨rfl, by rw [HS.out]; exact HP.out.go HB2.out, KeepS.of_below HB2.out⟩
 ·obtain ⟨t, ht⟩ := signT_yes hs
  have HS := Lib.hid ht
  clear hP ht
  go_enter Tryd.func98, Tryd.ntmps98
  go_wp2_with fail
  refine hN.mono ?_; rintro en w1 ⟨rfl, hb1⟩
  have HB1 := Lib.hid hb1
  clear hb1
  go_wp2_with fail
  refine (tokSign_any _ _ _).mono ?_; rintro en w2 ⟨rfl, hb2⟩
  have HB2 := Lib.hid (HB1.out.trans (hb2.mono HB1.out.size))
  rw [HI.out, hs]
  clear hb2
  have HP2 := HP.out.go HB2.out
  rw [HS.out] at HP2
  have HP3 := Lib.hid HP2
  clear HP2
  go_wp2_with fail
  refine (skip_any _ _ _ _ _ _ _ HP3.out).mono ?_; rintro en w3 ⟨rfl, hp3, hk3⟩
  have H3 := Lib.hid hp3
  have HK3 := Lib.hid ((KeepS.of_below HB2.out).trans hk3)
  clear hp3 hk3
  go_wp2_with fail
  go_ret
  exact ⟨rfl, H3.out, HK3.out⟩
theorem immT_none {r : List Tok} (e : Nat) (h : (immT r).1 = none) : (nextT r e).kind ≠ 2 ∧ (immT r).2 = r := by
 cases r with
 | nil => simp [nextT, immT]
 | cons t ts => unfold immT at h ⊢; by_cases h1 : t.kind = 2 <;> simp [h1, nextT] at h ⊢
theorem immT_some {r : List Tok} (e : Nat) {n : Int} (h : (immT r).1 = some n) : (nextT r e).kind = 2 ∧ (nextT r e).num = n ∧ r = nextT r e :: (immT r).2 := by
 cases r with
 | nil => simp [immT] at h
 | cons t ts => unfold immT at h ⊢; by_cases h1 : t.kind = 2 <;> simp [h1, nextT] at h ⊢ ; exact h
set_option maxHeartbeats 2000000 in
theorem immediate_any (w : World) (b e : Nat) (r : List Tok) (vp : Value) (ps : List PartZ) (x k : Nat) (l : List Value) (hP : Par w b e r vp ps) (hx : Box w x l) (hk : k < l.length) (hbx : b < x) (hpx : vp.ownBlock ≠ some x) :
  Calls Tryd.prog 97 #[.pointer (some ⟨b, 0, none⟩), .pointer (some ⟨x, k, none⟩)] w fun en w' => en = .returned (.bool (immT r).1.isSome) ∧ Par w' b e (immT r).2 vp ps ∧
   Box w' x (match (immT r).1 with | some n => l.set k (.int .i64 n) | none => l) ∧ KeepS (fun j => j = b ∨ j = x) w w' := by
 have HP := Lib.hid hP
 have HX := Lib.hid hx
 have hN := next_any w b e r vp ps hP
 have hlt := hP.lt
 have hxl := hx.lt
 cases hs : (immT r).1 with
 | none =>
  obtain ⟨h1, h2⟩ := immT_none e hs
  have HS := Lib.hid h2
  generalize nextT r e = t at *
  have h3 : (t.kind != 2) = true := by simpa using h1
  clear hP hx h1 h2
  go_enter Tryd.func97, Tryd.ntmps97
  go_wp2_with fail
  refine hN.mono ?_; rintro en w1 ⟨rfl, hb1⟩
  have HB1 := Lib.hid hb1
  clear hb1
  go_wp2_with fail
  go_ret
  refine ⟨rfl, ?_, ?_, ?_⟩
  ·rw [HS.out]; exact (HP.out.go HB1.out).alloc _
  ·exact (HX.out.below HB1.out hxl).alloc _
  ·exact KeepS.of_below (HB1.out.alloc HB1.out.size _)
 | some n =>
  obtain ⟨h1, h2, h3⟩ := immT_some e hs
  have HS := Lib.hid h3
  generalize nextT r e = t at *
  have h4 : (t.kind != 2) = false := by simp [h1]
  have H2 := Lib.hid h2
  clear hP hx h3 h1 h2
  go_enter Tryd.func97, Tryd.ntmps97
  go_wp2_with fail
  refine hN.mono ?_; rintro en w1 ⟨rfl, hb1⟩
  have HB1 := Lib.hid hb1
  have hx1 : Hid (Box w1 x l) := HX.out.below hb1 hxl
  have hs1 := hb1.size
  clear hb1
  have X2 := Lib.hid (hx1.out.alloc (.cells #[.int .i64 t.kind, .int .i64 t.num, .int .i64 (t.at_ : Int), .string (txt t.text)] 48))
  obtain ⟨v0, hv0⟩ : ∃ v0, l[k]? = some v0 := ⟨_, List.getElem?_eq_getElem hk⟩
  have y0 := X2.out.cell hv0
  have fy := X2.out.frozen k
  have P2 := Lib.hid ((HP.out.go HB1.out).alloc (.cells #[.int .i64 t.kind, .int .i64 t.num, .int .i64 (t.at_ : Int), .string (txt t.text)] 48))
  have K2 := Lib.hid ((KeepS.of_below (S := fun j => j = b ∨ j = x) HB1.out).alloc (.cells #[.int .i64 t.kind, .int .i64 t.num, .int .i64 (t.at_ : Int), .string (txt t.text)] 48))
  go_wp2_with fail
  have X3 : Hid (Box ((w1.alloc (.cells #[.int .i64 t.kind, .int .i64 t.num, .int .i64 (t.at_ : Int), .string (txt t.text)] 48)).setCell ⟨x, k, none⟩ (.int .i64 t.num)) x (l.set k (.int .i64 t.num))) := X2.out.setCell k _
  have P3 := P2.out.set hbx hpx k (.int .i64 t.num)
  rw [HS.out] at P3
  have P4 := Lib.hid P3
  have K3 := Lib.hid (K2.out.setCell (.inr rfl) k (.int .i64 t.num))
  clear P3
  refine (skip_any _ _ _ _ _ _ _ P4.out).mono ?_; rintro en w3 ⟨rfl, hp3, hk3⟩
  have H3 := Lib.hid hp3
  have HK3 := Lib.hid hk3
  clear hp3 hk3
  go_wp2_with fail
  go_ret
  obtain rfl := H2.out
  exact ⟨rfl, H3.out, X3.out.keepS HK3.out (by omega), K3.out.trans (HK3.out.mono (fun j hj => .inl hj))⟩
end Go.Proofs.YtcaibahniheohaaDoor.Words

/- Contract of package asm's registerOf: the number of a register's name. -/
namespace Go.Proofs.YtcaibahniheohaaDoor.Words
set_option maxRecDepth 100000
open Go.RowKit Go.Shelf Go.Lib
set_option linter.unusedVariables false
def RegOut (Z : Option Int) (e : Ending) : Prop := ∃ m, e = .returned (.tuple #[.int .i64 m, .bool Z.isSome]) ∧ ∀ n, Z = some n → m = n
theorem RegOut.no {Z : Option Int} (h : Z = none) (m : Int) : RegOut Z (.returned (.tuple #[.int .i64 m, .bool false])) := by subst h; exact ⟨m, rfl, fun n h => by cases h⟩
theorem RegOut.yes {Z : Option Int} {n : Int} (h : Z = some n) : RegOut Z (.returned (.tuple #[.int .i64 n, .bool true])) := by subst h; exact ⟨n, rfl, fun k h => by injection h⟩
set_option maxHeartbeats 2000000 in
theorem registerOf_any (s : ByteArray) (w : World) (hs : s.size ≤ 9223372036854775807) :
  Calls Tryd.prog 113 #[.string s] w fun e w' => RegOut (regZ s.data.toList) e ∧ Below w.heap.size w w' := by
 have HL := Lib.hid (data_len s)
 obtain ⟨l, hl⟩ : ∃ l, l = s.data.toList := ⟨_, rfl⟩
 rw [← hl] at HL ⊢
 have HS := Lib.hid hl
 obtain ⟨Z, hZ⟩ : ∃ Z, Z = regZ l := ⟨_, rfl⟩
 rw [← hZ]
 have HZ := Lib.hid hZ
 clear hZ hl
 go_enter Tryd.func113, Tryd.ntmps113
 go_wp2
 go_loopw [4] (fun q wr => ∃ (pos fuel : Nat) (n : Int), q = .int .i64 n ∧ wr.heap[w.heap.size]? = some (.stringIter s pos) ∧ Below w.heap.size w wr ∧ regF l fuel pos n = Z ∧ l.length ≤ pos + fuel ∧ pos ≤ l.length ∧ 0 ≤ n ∧ n ≤ 15) (fun _ wr => s.size - wr.iterPos w.heap.size)
 case atStart =>
  exact ⟨0, l.length, 0, rfl, World.iter_heap w s 0, (Below.refl _ w).alloc (Nat.le_refl _) _, HZ.out.symm, by omega, Nat.zero_le _, Int.le_refl _, by omega⟩
 case round =>
  obtain ⟨pos, fuel, n, rfl, hit, hbw, hn, hf, hp, n0, n1⟩ := hrel
  have HIT := Lib.hid hit
  have HN := Lib.hid hn
  have hsz : w.heap.size < wr.heap.size := (Array.getElem?_eq_some_iff.1 hit).1
  have hll := HL.out
  by_cases hlt : pos < s.size
  ·have hnx := fun ty => next_rune (P := Tryd.prog) hit hlt ty
   rw [← HS.out] at hnx
   obtain ⟨f, rfl⟩ : ∃ f, fuel = f + 1 := ⟨fuel - 1, by omega⟩
   have hR := runeR_range (l.drop pos)
   have HWD := Lib.hid (wideR_pos (l.drop pos))
   have HWI := Lib.hid (wide_in (l := l) (p := pos) (by omega))
   have HST : Hid (regF l (f + 1) pos n = if pos = 0 ∧ runeR (l.drop pos) = 114 then regF l f (pos + wideR (l.drop pos)) n
    else if pos = 0 ∨ runeR (l.drop pos) < 48 ∨ 57 < runeR (l.drop pos) ∨ (1 < pos ∧ n = 0) then none
    else if 15 < n * 10 + (runeR (l.drop pos) - 48) then none
    else regF l f (pos + wideR (l.drop pos)) (n * 10 + (runeR (l.drop pos) - 48))) := by
    show _ = _
    conv => lhs; unfold regF
    rw [if_pos (by omega)]
   generalize runeR (l.drop pos) = R at *
   generalize wideR (l.drop pos) = WD at *
   have hit2 := Lib.iterAt_heap wr w.heap.size s pos (pos + WD) hit
   have HIT2 := Lib.hid hit2
   have hbw2 := Lib.below_iterAt hbw (k := w.heap.size) (Nat.le_refl _) s (pos + WD)
   have HBW2 := Lib.hid hbw2
   have hsz2 : (wr.iterAt w.heap.size s (pos + WD)).heap.size = wr.heap.size := Lib.iterAt_size _ _ _ _
   have HSZ2 := Lib.hid hsz2
   have pi : ((pos : Int) == 0) = decide (pos = 0) := by rw [Bool.eq_iff_iff]; simp
   clear hit hn hit2 hbw2 hsz2 hbw
   have n15 : decide (15 < n) = false := decide_eq_false (by omega)
   by_cases h0 : pos = 0
   ·rw [decide_eq_true h0] at pi
    have H0 := Lib.hid h0
    clear h0
    by_cases hr : R = 114
    ·subst hr
     go_wp2_with fail
     go_roundw
     case rel => exact ⟨pos + WD, f, n, rfl, HIT2.out, HBW2.out, by rw [← HN.out, HST.out, if_pos ⟨H0.out, rfl⟩], by have := HWD.out; omega, HWI.out, n0, n1⟩
     case measure =>
      simp only [World.iterPos, HIT2.out, HIT.out]
      have := HWD.out; omega
    ·have hr2 : (R == 114) = false := by simpa using hr
     have hz : Hid (Z = none) := by show _ = _; rw [← HN.out, HST.out, if_neg (fun e => hr e.2), if_pos (.inl H0.out)]
     go_wp2_with fail
     refine bodyPost_ret (v := .tuple #[.int .i64 0, .bool false]) (by simp [results, Tryd.results113, go_sem]) rfl ⟨RegOut.no hz.out 0, HBW2.out⟩
   ·rw [decide_eq_false h0] at pi
    by_cases hd : R < 48 ∨ 57 < R ∨ (1 < pos ∧ n = 0)
    ·have hz : Hid (Z = none) := by show _ = _; rw [← HN.out, HST.out, if_neg (fun e => h0 e.1), if_pos (.inr hd)]
     by_cases c1 : R < 48
     ·have c1' : decide (R < 48) = true := decide_eq_true c1
      go_wp2_with fail
      refine bodyPost_ret (v := .tuple #[.int .i64 0, .bool false]) (by simp [results, Tryd.results113, go_sem]) rfl ⟨RegOut.no hz.out 0, HBW2.out⟩
     by_cases c2 : 57 < R
     ·have c1' : decide (R < 48) = false := decide_eq_false c1
      have c2' : decide (57 < R) = true := decide_eq_true c2
      go_wp2_with fail
      refine bodyPost_ret (v := .tuple #[.int .i64 0, .bool false]) (by simp [results, Tryd.results113, go_sem]) rfl ⟨RegOut.no hz.out 0, HBW2.out⟩
     ·obtain ⟨c3, c4⟩ : 1 < pos ∧ n = 0 := by omega
      have c1' : decide (R < 48) = false := decide_eq_false c1
      have c2' : decide (57 < R) = false := decide_eq_false c2
      have c3' : decide ((1 : Int) < pos) = true := decide_eq_true (by omega)
      have c5' : decide (1 < pos) = true := decide_eq_true c3
      subst c4
      go_wp2_with fail
      refine bodyPost_ret (v := .tuple #[.int .i64 0, .bool false]) (by simp [results, Tryd.results113, go_sem]) rfl ⟨RegOut.no hz.out 0, HBW2.out⟩
    ·have c1' : decide (R < 48) = false := decide_eq_false (by omega)
     have c2' : decide (57 < R) = false := decide_eq_false (by omega)
     have r0 : 48 ≤ R := by omega
     have r1 : R ≤ 57 := by omega
     have HSS := HST.out
     rw [if_neg (fun e => h0 e.1), if_neg (by omega)] at HSS
     have HSS2 := Lib.hid HSS
     clear HSS HST
     have go_on : (decide ((1 : Int) < pos) = false ∧ decide (1 < pos) = false) ∨ ((decide ((1 : Int) < pos) = true ∧ decide (1 < pos) = true) ∧ (n == 0) = false) := by
      by_cases h1 : 1 < pos
      ·right
       exact ⟨⟨decide_eq_true (by omega), decide_eq_true h1⟩, by simp; omega⟩
      ·left
       exact ⟨decide_eq_false (by omega), decide_eq_false h1⟩
     clear hd
     by_cases hbig : 15 < n * 10 + (R - 48)
     ·have hz : Hid (Z = none) := by show _ = _; rw [← HN.out, HSS2.out, if_pos hbig]
      have c6 : decide (15 < n * 10 + (R - 48)) = true := decide_eq_true hbig
      rcases go_on with ⟨g1, g2⟩ | ⟨⟨g1, g2⟩, g3⟩
      ·go_wp2_with fail
       refine bodyPost_ret (v := .tuple #[.int .i64 0, .bool false]) (by simp [results, Tryd.results113, go_sem]) rfl ⟨RegOut.no hz.out 0, HBW2.out⟩
      ·go_wp2_with fail
       refine bodyPost_ret (v := .tuple #[.int .i64 0, .bool false]) (by simp [results, Tryd.results113, go_sem]) rfl ⟨RegOut.no hz.out 0, HBW2.out⟩
     ·have HNX : Hid (regF l f (pos + WD) (n * 10 + (R - 48)) = Z) := by show _ = _; rw [← HN.out, HSS2.out, if_neg hbig]
      have c6 : decide (15 < n * 10 + (R - 48)) = false := decide_eq_false hbig
      rcases go_on with ⟨g1, g2⟩ | ⟨⟨g1, g2⟩, g3⟩
      ·go_wp2_with fail
       go_roundw
       case rel => exact ⟨pos + WD, f, n * 10 + (R - 48), rfl, HIT2.out, HBW2.out, HNX.out, by have := HWD.out; omega, HWI.out, by omega, by omega⟩
       case measure =>
        simp only [World.iterPos, HIT2.out, HIT.out]
        have := HWD.out; omega
      ·go_wp2_with fail
       go_roundw
       case rel => exact ⟨pos + WD, f, n * 10 + (R - 48), rfl, HIT2.out, HBW2.out, HNX.out, by have := HWD.out; omega, HWI.out, by omega, by omega⟩
       case measure =>
        simp only [World.iterPos, HIT2.out, HIT.out]
        have := HWD.out; omega
  ·have hnx := fun ty => next_none (P := Tryd.prog) hit hlt ty
   have hres : Hid (Z = if 1 < l.length then some n else none) := by
    show _ = _
    rw [← hn]
    cases fuel with
    | zero => unfold regF; rfl
    | succ f => unfold regF; rw [if_neg (by omega)]
   by_cases h1 : 1 < s.size
   ·have q1 : decide ((1 : Int) < s.size) = true := decide_eq_true (by omega)
    have q2 : decide (1 < s.size) = true := decide_eq_true h1
    have hz : Hid (Z = some n) := by show _ = _; rw [hres.out, if_pos (by omega)]
    clear hn hit
    go_wp2
    refine bodyPost_ret (v := .tuple #[.int .i64 n, .bool true]) (by simp [results, Tryd.results113, go_sem]) rfl ⟨RegOut.yes hz.out, hbw⟩
   ·have q1 : decide ((1 : Int) < s.size) = false := decide_eq_false (by omega)
    have q2 : decide (1 < s.size) = false := decide_eq_false h1
    have hz : Hid (Z = none) := by show _ = _; rw [hres.out, if_neg (by omega)]
    clear hn hit
    go_wp2
    refine bodyPost_ret (v := .tuple #[.int .i64 n, .bool false]) (by simp [results, Tryd.results113, go_sem]) rfl ⟨RegOut.no hz.out n, hbw⟩
end Go.Proofs.YtcaibahniheohaaDoor.Words

/- Contracts of package asm's register, target and field. -/
namespace Go.Proofs.YtcaibahniheohaaDoor.Words
set_option maxRecDepth 100000
open Go.RowKit Go.Shelf Go.Lib
set_option linter.unusedVariables false
set_option linter.unusedSimpArgs false
theorem regT_cons (t : Tok) (ts : List Tok) : regT (t :: ts) = match regZ t.text with | some n => (some n, ts) | none => (none, t :: ts) := rfl
theorem regT_none {r : List Tok} (e : Nat) (h : (regT r).1 = none) : regZ (nextT r e).text = none ∧ (regT r).2 = r := by
 cases r with
 | nil => exact ⟨rfl, rfl⟩
 | cons t ts =>
  rw [regT_cons] at h ⊢
  cases h1 : regZ t.text with
  | none => exact ⟨h1, rfl⟩
  | some n => rw [h1] at h; cases h
theorem regT_some {r : List Tok} (e : Nat) {n : Int} (h : (regT r).1 = some n) : regZ (nextT r e).text = some n ∧ r = nextT r e :: (regT r).2 := by
 cases r with
 | nil => cases h
 | cons t ts =>
  rw [regT_cons] at h ⊢
  cases h1 : regZ t.text with
  | none => rw [h1] at h; cases h
  | some k => rw [h1] at h; exact ⟨h1.trans h, rfl⟩
theorem next_in {r : List Tok} {e : Nat} (h : ∀ t ∈ r, TokIn t) : (nextT r e).text.length ≤ 1000000 := by
 cases r with
 | nil => simp [nextT]
 | cons t ts => exact (h t (by simp)).text
theorem txt_data (l : List UInt8) : (txt l).data.toList = l := by simp
theorem txt_sz (l : List UInt8) : (txt l).size = l.length := by rw [← data_len, txt_data]
set_option maxHeartbeats 2000000 in
theorem register_any (w : World) (b e : Nat) (r : List Tok) (vp : Value) (ps : List PartZ) (x k : Nat) (l : List Value) (hP : Par w b e r vp ps) (hx : Box w x l) (hk : k < l.length) (hbx : b < x) (hpx : vp.ownBlock ≠ some x) :
  Calls Tryd.prog 106 #[.pointer (some ⟨b, 0, none⟩), .pointer (some ⟨x, k, none⟩)] w fun en w' => en = .returned (.bool (regT r).1.isSome) ∧ Par w' b e (regT r).2 vp ps ∧
   Box w' x (match (regT r).1 with | some n => l.set k (.int .i64 n) | none => l) ∧ KeepS (fun j => j = b ∨ j = x) w w' := by
 have HP := Lib.hid hP
 have HX := Lib.hid hx
 have hN := next_any w b e r vp ps hP
 have hlt := hP.lt
 have hxl := hx.lt
 have hti := next_in (e := e) hP.toks
 have cR := Lib.hid (fun y => registerOf_any (txt (nextT r e).text) y (by rw [txt_sz]; omega))
 rw [txt_data] at cR
 cases hs : (regT r).1 with
 | none =>
  obtain ⟨h1, h2⟩ := regT_none e hs
  rw [h1] at cR
  have HS := Lib.hid h2
  generalize nextT r e = t at *
  clear hP hx h1 h2 hti
  have fd := field_text t
  go_enter Tryd.func106, Tryd.ntmps106
  go_wp2_with fail
  refine hN.mono ?_; rintro en w1 ⟨rfl, hb1⟩
  have HB1 := Lib.hid hb1
  clear hb1
  go_wp2_with fail
  refine (cR.out _).mono ?_; rintro en w2 ⟨⟨m, rfl, _⟩, hb2⟩
  have HB2 := Lib.hid (HB1.out.trans (hb2.mono HB1.out.size))
  clear hb2
  simp only [Option.isSome_none]
  go_wp2_with fail
  go_ret
  refine ⟨rfl, ?_, ?_, ?_⟩
  ·rw [HS.out]; exact HP.out.go HB2.out
  ·exact HX.out.below HB2.out hxl
  ·exact KeepS.of_below HB2.out
 | some n =>
  obtain ⟨h1, h2⟩ := regT_some e hs
  rw [h1] at cR
  have HS := Lib.hid h2
  generalize nextT r e = t at *
  clear hP hx h2 h1 hti
  have fd := field_text t
  go_enter Tryd.func106, Tryd.ntmps106
  go_wp2_with fail
  refine hN.mono ?_; rintro en w0 ⟨rfl, hb0⟩
  have HB0 := Lib.hid hb0
  clear hb0
  go_wp2_with fail
  refine (cR.out _).mono ?_; rintro en w1 ⟨⟨m, rfl, hm⟩, hb2⟩
  obtain rfl := hm n rfl
  have hb1 := HB0.out.trans (hb2.mono HB0.out.size)
  have HB1 := Lib.hid hb1
  have hx1 : Hid (Box w1 x l) := HX.out.below hb1 hxl
  have hs1 := hb1.size
  clear hb1 hb2
  obtain ⟨v0, hv0⟩ : ∃ v0, l[k]? = some v0 := ⟨_, List.getElem?_eq_getElem hk⟩
  have y0 := hx1.out.cell hv0
  have fy := hx1.out.frozen k
  have P2 := Lib.hid (HP.out.go HB1.out)
  have K2 := Lib.hid (KeepS.of_below (S := fun j => j = b ∨ j = x) HB1.out)
  simp only [Option.isSome_some]
  go_wp2_with fail
  have X3 : Hid (Box (w1.setCell ⟨x, k, none⟩ (.int .i64 m)) x (l.set k (.int .i64 m))) := hx1.out.setCell k _
  have P3 := P2.out.set hbx hpx k (.int .i64 m)
  rw [HS.out] at P3
  have P4 := Lib.hid P3
  have K3 := Lib.hid (K2.out.setCell (.inr rfl) k (.int .i64 m))
  have hs3 : (w1.setCell ⟨x, k, none⟩ (.int .i64 m)).heap.size = w1.heap.size := by simp [World.setCell]
  clear P3
  refine (skip_any _ _ _ _ _ _ _ P4.out).mono ?_; rintro en w3 ⟨rfl, hp3, hk3⟩
  have H3 := Lib.hid hp3
  have HK3 := Lib.hid hk3
  clear hp3 hk3
  go_wp2_with fail
  go_ret
  exact ⟨rfl, H3.out, X3.out.keepS HK3.out (by omega), K3.out.trans (HK3.out.mono (fun j hj => .inl hj))⟩
theorem partL_set2 (x : PartZ) (n : Int) : (partL x).set 2 (.int .i64 n) = partL { x with num := n } := rfl
theorem partL_target (x : PartZ) (t : Tok) : (((((partL x).set 9 (.int .i64 t.kind)).set 10 (.int .i64 t.num)).set 11 (.int .i64 (t.at_ : Int))).set 12 (.string (txt t.text))) = partL { x with target := t } := rfl
def FieldOut (w : World) (b e : Nat) (vp : Value) (ps : List PartZ) (x : Nat) (Z : Bool × PartZ × List Tok) (en : Ending) (w' : World) : Prop :=
 en = .returned (.bool Z.1) ∧ Par w' b e Z.2.2 vp ps ∧ Box w' x (partL Z.2.1) ∧ KeepS (fun j => j = b ∨ j = x) w w'
theorem FieldOut.reg {w w' : World} {b e x k : Nat} {r : List Tok} {vp : Value} {ps : List PartZ} {Z : Bool × PartZ × List Tok} {l : List Value} {en : Ending}
  (h : en = .returned (.bool (regT r).1.isSome) ∧ Par w' b e (regT r).2 vp ps ∧ Box w' x (match (regT r).1 with | some n => l.set k (.int .i64 n) | none => l) ∧ KeepS (fun j => j = b ∨ j = x) w w')
  (h1 : Z.1 = (regT r).1.isSome) (h2 : Z.2.2 = (regT r).2) (h3 : partL Z.2.1 = match (regT r).1 with | some n => l.set k (.int .i64 n) | none => l) : FieldOut w b e vp ps x Z en w' := by
 unfold FieldOut; rw [h1, h2, h3]; exact h
theorem FieldOut.imm {w w' : World} {b e x k : Nat} {r : List Tok} {vp : Value} {ps : List PartZ} {Z : Bool × PartZ × List Tok} {l : List Value} {en : Ending}
  (h : en = .returned (.bool (immT r).1.isSome) ∧ Par w' b e (immT r).2 vp ps ∧ Box w' x (match (immT r).1 with | some n => l.set k (.int .i64 n) | none => l) ∧ KeepS (fun j => j = b ∨ j = x) w w')
  (h1 : Z.1 = (immT r).1.isSome) (h2 : Z.2.2 = (immT r).2) (h3 : partL Z.2.1 = match (immT r).1 with | some n => l.set k (.int .i64 n) | none => l) : FieldOut w b e vp ps x Z en w' := by
 unfold FieldOut; rw [h1, h2, h3]; exact h
theorem fieldT_68 (x : PartZ) (r : List Tok) : fieldT 68 x r = (match regT r with | (some n, ts) => (true, { x with ins := { x.ins with d := n } }, ts) | (none, ts) => (false, x, ts)) := by unfold fieldT; rw [if_pos rfl] <;> rfl
theorem fieldT_65 (x : PartZ) (r : List Tok) : fieldT 65 x r = (match regT r with | (some n, ts) => (true, { x with ins := { x.ins with a := n } }, ts) | (none, ts) => (false, x, ts)) := by unfold fieldT; rw [if_neg (by decide), if_pos rfl] <;> rfl
theorem fieldT_66 (x : PartZ) (r : List Tok) : fieldT 66 x r = (match regT r with | (some n, ts) => (true, { x with ins := { x.ins with b := n } }, ts) | (none, ts) => (false, x, ts)) := by unfold fieldT; rw [if_neg (by decide), if_neg (by decide), if_pos rfl] <;> rfl
theorem fieldT_78 (x : PartZ) (r : List Tok) : fieldT 78 x r = (match immT r with | (some n, ts) => (true, { x with ins := { x.ins with imm := n } }, ts) | (none, ts) => (false, x, ts)) := by unfold fieldT; rw [if_neg (by decide), if_neg (by decide), if_neg (by decide), if_pos rfl] <;> rfl
theorem fieldT_84 (x : PartZ) (r : List Tok) : fieldT 84 x r = (match r with
  | t :: ts => if t.kind = 1 then (true, { x with target := t }, ts) else (match immT (t :: ts) with | (some n, ts) => (true, { x with ins := { x.ins with imm := n } }, ts) | (none, ts) => (false, x, ts))
  | [] => (false, x, [])) := by unfold fieldT; rw [if_neg (by decide), if_neg (by decide), if_neg (by decide), if_neg (by decide), if_pos rfl] <;> rfl
theorem fieldT_sign {c : Int} (h : c = 44 ∨ c = 40 ∨ c = 41) (x : PartZ) (r : List Tok) : fieldT c x r = ((signT [UInt8.ofNat c.toNat] r).1, x, (signT [UInt8.ofNat c.toNat] r).2) := by
 unfold fieldT
 rw [if_neg (by omega), if_neg (by omega), if_neg (by omega), if_neg (by omega), if_neg (by omega)]
theorem target_next {r : List Tok} (e : Nat) (x : PartZ) (h : (nextT r e).kind = 1) : r = nextT r e :: (fieldT 84 x r).2.2 ∧ (fieldT 84 x r).1 = true ∧ (fieldT 84 x r).2.1 = { x with target := nextT r e } := by
 rw [fieldT_84]
 cases r with
 | nil => exact absurd h (by simp [nextT])
 | cons t ts =>
  have h2 : t.kind = 1 := h
  simp [h2, nextT]
theorem target_imm {r : List Tok} (e : Nat) (x : PartZ) (h : (nextT r e).kind ≠ 1) : (fieldT 84 x r).1 = (immT r).1.isSome ∧ (fieldT 84 x r).2.2 = (immT r).2 ∧ partL (fieldT 84 x r).2.1 = match (immT r).1 with | some n => (partL x).set 8 (.int .i64 n) | none => partL x := by
 rw [fieldT_84]
 cases r with
 | nil => exact ⟨rfl, rfl, rfl⟩
 | cons t ts =>
  have h2 : ¬ t.kind = 1 := h
  simp only [h2, if_false]
  generalize immT (t :: ts) = Q
  obtain ⟨o, ts2⟩ := Q
  cases o <;> exact ⟨rfl, rfl, rfl⟩
set_option maxHeartbeats 2000000 in
theorem target_any (w : World) (b e : Nat) (r : List Tok) (vp : Value) (ps : List PartZ) (x : Nat) (xz : PartZ) (hP : Par w b e r vp ps) (hx : Box w x (partL xz)) (hbx : b < x) (hpx : vp.ownBlock ≠ some x) :
  Calls Tryd.prog 107 #[.pointer (some ⟨b, 0, none⟩), .pointer (some ⟨x, 0, none⟩)] w (FieldOut w b e vp ps x (fieldT 84 xz r)) := by
 have HP := Lib.hid hP
 have HX := Lib.hid hx
 have hN := next_any w b e r vp ps hP
 have hlt := hP.lt
 have hxl := hx.lt
 by_cases hk : (nextT r e).kind = 1
 ·obtain ⟨h1, h2, h3⟩ := target_next e xz hk
  have H1 := Lib.hid h1
  have HZ : Hid (∀ en w', (en = .returned (.bool true) ∧ Par w' b e (fieldT 84 xz r).2.2 vp ps ∧ Box w' x (partL { xz with target := nextT r e }) ∧ KeepS (fun j => j = b ∨ j = x) w w') → FieldOut w b e vp ps x (fieldT 84 xz r) en w') := by
   intro en w' h; unfold FieldOut; rw [h2, h3]; exact h
  generalize fieldT 84 xz r = Z at *
  generalize nextT r e = t at *
  have h4 : (t.kind != 1) = false := by simp [hk]
  clear hP hx h1 h2 h3 hk
  go_enter Tryd.func107, Tryd.ntmps107
  go_wp2_with fail
  refine hN.mono ?_; rintro en w1 ⟨rfl, hb1⟩
  have HB1 := Lib.hid hb1
  have hx1 : Hid (Box w1 x (partL xz)) := HX.out.below hb1 hxl
  have hs1 := hb1.size
  clear hb1
  have X2 := Lib.hid (hx1.out.alloc (.cells #[.int .i64 t.kind, .int .i64 t.num, .int .i64 (t.at_ : Int), .string (txt t.text)] 48))
  have P2 := Lib.hid ((HP.out.go HB1.out).alloc (.cells #[.int .i64 t.kind, .int .i64 t.num, .int .i64 (t.at_ : Int), .string (txt t.text)] 48))
  have K2 := Lib.hid ((KeepS.of_below (S := fun j => j = b ∨ j = x) HB1.out).alloc (.cells #[.int .i64 t.kind, .int .i64 t.num, .int .i64 (t.at_ : Int), .string (txt t.text)] 48))
  have y9 := X2.out.cell (k := 9) rfl
  have y10 := X2.out.cell (k := 10) rfl
  have y11 := X2.out.cell (k := 11) rfl
  have y12 := X2.out.cell (k := 12) rfl
  have g9 := X2.out.frozen 9
  have g10 := X2.out.frozen 10
  have g11 := X2.out.frozen 11
  have g12 := X2.out.frozen 12
  go_wp2_with fail
  have hk4 : KeepS (fun j => j = x) (w1.alloc (.cells #[.int .i64 t.kind, .int .i64 t.num, .int .i64 (t.at_ : Int), .string (txt t.text)] 48)) (((((w1.alloc (.cells #[.int .i64 t.kind, .int .i64 t.num, .int .i64 (t.at_ : Int), .string (txt t.text)] 48)).setCell ⟨x, 9, none⟩ (.int .i64 t.kind)).setCell ⟨x, 10, none⟩ (.int .i64 t.num)).setCell ⟨x, 11, none⟩ (.int .i64 (t.at_ : Int))).setCell ⟨x, 12, none⟩ (.string (txt t.text))) :=
   ((((KeepS.refl (fun j => j = x) _).setCell rfl _ _).setCell rfl _ _).setCell rfl _ _).setCell rfl _ _
  have X3 : Hid (Box (((((w1.alloc (.cells #[.int .i64 t.kind, .int .i64 t.num, .int .i64 (t.at_ : Int), .string (txt t.text)] 48)).setCell ⟨x, 9, none⟩ (.int .i64 t.kind)).setCell ⟨x, 10, none⟩ (.int .i64 t.num)).setCell ⟨x, 11, none⟩ (.int .i64 (t.at_ : Int))).setCell ⟨x, 12, none⟩ (.string (txt t.text))) x (partL { xz with target := t })) := by
   rw [← partL_target]
   exact (((X2.out.setCell 9 _).setCell 10 _).setCell 11 _).setCell 12 _
  have P3 := P2.out.keepS hk4 (fun j hj => by omega) (fun g hg e => hpx (by rw [hg, e]))
  rw [H1.out] at P3
  have P4 := Lib.hid P3
  have K3 := Lib.hid (K2.out.trans (hk4.mono (fun j hj => .inr hj)))
  clear P3 hk4
  refine (skip_any _ _ _ _ _ _ _ P4.out).mono ?_; rintro en w3 ⟨rfl, hp3, hk3⟩
  have H3 := Lib.hid hp3
  have HK3 := Lib.hid hk3
  clear hp3 hk3
  go_wp2_with fail
  go_ret
  exact HZ.out _ _ ⟨rfl, H3.out, X3.out.keepS HK3.out (by omega), K3.out.trans (HK3.out.mono (fun j hj => .inl hj))⟩
 ·obtain ⟨h1, h2, h3⟩ := target_imm e xz hk
  have HZ : Hid (∀ en w', (en = .returned (.bool (immT r).1.isSome) ∧ Par w' b e (immT r).2 vp ps ∧ Box w' x (match (immT r).1 with | some n => (partL xz).set 8 (.int .i64 n) | none => partL xz) ∧ KeepS (fun j => j = b ∨ j = x) w w') → FieldOut w b e vp ps x (fieldT 84 xz r) en w') :=
   fun en w' h => FieldOut.imm h h1 h2 h3
  generalize fieldT 84 xz r = Z at *
  have h4 : ((nextT r e).kind != 1) = true := by simpa using hk
  clear h1 h2 h3 hk hP hx
  generalize hT : nextT r e = t at *
  clear hT
  go_enter Tryd.func107, Tryd.ntmps107
  go_wp2_with fail
  refine hN.mono ?_; rintro en w1 ⟨rfl, hb1⟩
  have HB1 := Lib.hid hb1
  have hx1 : Hid (Box w1 x (partL xz)) := HX.out.below hb1 hxl
  have hs1 := hb1.size
  clear hb1
  have X2 := Lib.hid (hx1.out.alloc (.cells #[.int .i64 t.kind, .int .i64 t.num, .int .i64 (t.at_ : Int), .string (txt t.text)] 48))
  have P2 := Lib.hid ((HP.out.go HB1.out).alloc (.cells #[.int .i64 t.kind, .int .i64 t.num, .int .i64 (t.at_ : Int), .string (txt t.text)] 48))
  have K2 := Lib.hid ((KeepS.of_below (S := fun j => j = b ∨ j = x) HB1.out).alloc (.cells #[.int .i64 t.kind, .int .i64 t.num, .int .i64 (t.at_ : Int), .string (txt t.text)] 48))
  go_wp2_with fail
  refine (immediate_any _ b e r vp ps x 8 (partL xz) P2.out X2.out (show 8 < 13 by decide) hbx hpx).mono ?_; rintro en w3 ⟨rfl, hp3, hx3, hk3⟩
  have H3 := Lib.hid hp3
  have HX3 := Lib.hid hx3
  have HK3 := Lib.hid (K2.out.trans hk3)
  clear hp3 hk3 hx3
  go_wp2_with fail
  go_ret
  exact HZ.out _ _ ⟨rfl, H3.out, HX3.out, HK3.out⟩
set_option maxHeartbeats 2000000 in
theorem field_68 (w : World) (b e : Nat) (r : List Tok) (vp : Value) (ps : List PartZ) (x : Nat) (xz : PartZ) (hP : Par w b e r vp ps) (hx : Box w x (partL xz)) (hbx : b < x) (hpx : vp.ownBlock ≠ some x) :
  Calls Tryd.prog 96 #[.pointer (some ⟨b, 0, none⟩), .int .i32 68, .pointer (some ⟨x, 0, none⟩)] w (FieldOut w b e vp ps x (fieldT 68 xz r)) := by
 have hN := register_any w b e r vp ps x 5 (partL xz) hP hx (show 5 < 13 by decide) hbx hpx
 have HZ : Hid (∀ en w', (en = .returned (.bool (regT r).1.isSome) ∧ Par w' b e (regT r).2 vp ps ∧ Box w' x (match (regT r).1 with | some n => (partL xz).set 5 (.int .i64 n) | none => partL xz) ∧ KeepS (fun j => j = b ∨ j = x) w w') → FieldOut w b e vp ps x (fieldT 68 xz r) en w') := by
  intro en w' h
  refine FieldOut.reg h ?_ ?_ ?_ <;> (rw [fieldT_68]; generalize regT r = Q; obtain ⟨o, ts⟩ := Q; cases o <;> rfl)
 clear hP hx
 go_enter Tryd.func96, Tryd.ntmps96
 go_wp2_with fail
 refine hN.mono ?_; rintro en w1 ⟨rfl, h⟩
 have H := Lib.hid h
 clear h
 go_wp2_with fail
 go_ret
 exact HZ.out _ _ ⟨rfl, H.out⟩
set_option maxHeartbeats 2000000 in
theorem field_65 (w : World) (b e : Nat) (r : List Tok) (vp : Value) (ps : List PartZ) (x : Nat) (xz : PartZ) (hP : Par w b e r vp ps) (hx : Box w x (partL xz)) (hbx : b < x) (hpx : vp.ownBlock ≠ some x) :
  Calls Tryd.prog 96 #[.pointer (some ⟨b, 0, none⟩), .int .i32 65, .pointer (some ⟨x, 0, none⟩)] w (FieldOut w b e vp ps x (fieldT 65 xz r)) := by
 have hN := register_any w b e r vp ps x 6 (partL xz) hP hx (show 6 < 13 by decide) hbx hpx
 have HZ : Hid (∀ en w', (en = .returned (.bool (regT r).1.isSome) ∧ Par w' b e (regT r).2 vp ps ∧ Box w' x (match (regT r).1 with | some n => (partL xz).set 6 (.int .i64 n) | none => partL xz) ∧ KeepS (fun j => j = b ∨ j = x) w w') → FieldOut w b e vp ps x (fieldT 65 xz r) en w') := by
  intro en w' h
  refine FieldOut.reg h ?_ ?_ ?_ <;> (rw [fieldT_65]; generalize regT r = Q; obtain ⟨o, ts⟩ := Q; cases o <;> rfl)
 clear hP hx
 go_enter Tryd.func96, Tryd.ntmps96
 go_wp2_with fail
 refine hN.mono ?_; rintro en w1 ⟨rfl, h⟩
 have H := Lib.hid h
 clear h
 go_wp2_with fail
 go_ret
 exact HZ.out _ _ ⟨rfl, H.out⟩
set_option maxHeartbeats 2000000 in
theorem field_66 (w : World) (b e : Nat) (r : List Tok) (vp : Value) (ps : List PartZ) (x : Nat) (xz : PartZ) (hP : Par w b e r vp ps) (hx : Box w x (partL xz)) (hbx : b < x) (hpx : vp.ownBlock ≠ some x) :
  Calls Tryd.prog 96 #[.pointer (some ⟨b, 0, none⟩), .int .i32 66, .pointer (some ⟨x, 0, none⟩)] w (FieldOut w b e vp ps x (fieldT 66 xz r)) := by
 have hN := register_any w b e r vp ps x 7 (partL xz) hP hx (show 7 < 13 by decide) hbx hpx
 have HZ : Hid (∀ en w', (en = .returned (.bool (regT r).1.isSome) ∧ Par w' b e (regT r).2 vp ps ∧ Box w' x (match (regT r).1 with | some n => (partL xz).set 7 (.int .i64 n) | none => partL xz) ∧ KeepS (fun j => j = b ∨ j = x) w w') → FieldOut w b e vp ps x (fieldT 66 xz r) en w') := by
  intro en w' h
  refine FieldOut.reg h ?_ ?_ ?_ <;> (rw [fieldT_66]; generalize regT r = Q; obtain ⟨o, ts⟩ := Q; cases o <;> rfl)
 clear hP hx
 go_enter Tryd.func96, Tryd.ntmps96
 go_wp2_with fail
 refine hN.mono ?_; rintro en w1 ⟨rfl, h⟩
 have H := Lib.hid h
 clear h
 go_wp2_with fail
 go_ret
 exact HZ.out _ _ ⟨rfl, H.out⟩
set_option maxHeartbeats 2000000 in
theorem field_78 (w : World) (b e : Nat) (r : List Tok) (vp : Value) (ps : List PartZ) (x : Nat) (xz : PartZ) (hP : Par w b e r vp ps) (hx : Box w x (partL xz)) (hbx : b < x) (hpx : vp.ownBlock ≠ some x) :
  Calls Tryd.prog 96 #[.pointer (some ⟨b, 0, none⟩), .int .i32 78, .pointer (some ⟨x, 0, none⟩)] w (FieldOut w b e vp ps x (fieldT 78 xz r)) := by
 have hN := immediate_any w b e r vp ps x 8 (partL xz) hP hx (show 8 < 13 by decide) hbx hpx
 have HZ : Hid (∀ en w', (en = .returned (.bool (immT r).1.isSome) ∧ Par w' b e (immT r).2 vp ps ∧ Box w' x (match (immT r).1 with | some n => (partL xz).set 8 (.int .i64 n) | none => partL xz) ∧ KeepS (fun j => j = b ∨ j = x) w w') → FieldOut w b e vp ps x (fieldT 78 xz r) en w') := by
  intro en w' h
  refine FieldOut.imm h ?_ ?_ ?_ <;> (rw [fieldT_78]; generalize immT r = Q; obtain ⟨o, ts⟩ := Q; cases o <;> rfl)
 clear hP hx
 go_enter Tryd.func96, Tryd.ntmps96
 go_wp2_with fail
 refine hN.mono ?_; rintro en w1 ⟨rfl, h⟩
 have H := Lib.hid h
 clear h
 go_wp2_with fail
 go_ret
 exact HZ.out _ _ ⟨rfl, H.out⟩
set_option maxHeartbeats 2000000 in
theorem field_84 (w : World) (b e : Nat) (r : List Tok) (vp : Value) (ps : List PartZ) (x : Nat) (xz : PartZ) (hP : Par w b e r vp ps) (hx : Box w x (partL xz)) (hbx : b < x) (hpx : vp.ownBlock ≠ some x) :
  Calls Tryd.prog 96 #[.pointer (some ⟨b, 0, none⟩), .int .i32 84, .pointer (some ⟨x, 0, none⟩)] w (FieldOut w b e vp ps x (fieldT 84 xz r)) := by
 have hN := target_any w b e r vp ps x xz hP hx hbx hpx
 generalize fieldT 84 xz r = Z at *
 clear hP hx
 go_enter Tryd.func96, Tryd.ntmps96
 go_wp2_with fail
 refine hN.mono ?_; rintro en w1 ⟨rfl, h⟩
 have H := Lib.hid h
 clear h
 go_wp2_with fail
 go_ret
 exact ⟨rfl, H.out⟩
set_option maxHeartbeats 2000000 in
theorem field_44 (w : World) (b e : Nat) (r : List Tok) (vp : Value) (ps : List PartZ) (x : Nat) (xz : PartZ) (hP : Par w b e r vp ps) (hx : Box w x (partL xz)) (hbx : b < x) (hpx : vp.ownBlock ≠ some x) :
  Calls Tryd.prog 96 #[.pointer (some ⟨b, 0, none⟩), .int .i32 44, .pointer (some ⟨x, 0, none⟩)] w (FieldOut w b e vp ps x (fieldT 44 xz r)) := by
 have hN := sign_any w b e r vp ps [44] hP
 have hxl := hx.lt
 have HZ : Hid (∀ en w', (en = .returned (.bool (signT [44] r).1) ∧ Par w' b e (signT [44] r).2 vp ps ∧ KeepS (fun j => j = b) w w') → FieldOut w b e vp ps x (fieldT 44 xz r) en w') := by
  intro en w' h
  have e2 : fieldT 44 xz r = ((signT [44] r).1, xz, (signT [44] r).2) := fieldT_sign (by decide) xz r
  unfold FieldOut
  rw [e2]
  exact ⟨h.1, h.2.1, hx.keepS h.2.2 (fun e => by omega), h.2.2.mono (fun j hj => .inl hj)⟩
 clear hP hx
 go_enter Tryd.func96, Tryd.ntmps96
 go_wp2_with fail
 refine hN.mono ?_; rintro en w1 ⟨rfl, h⟩
 have H := Lib.hid h
 clear h
 go_wp2_with fail
 go_ret
 exact HZ.out _ _ ⟨rfl, H.out⟩
set_option maxHeartbeats 2000000 in
theorem field_40 (w : World) (b e : Nat) (r : List Tok) (vp : Value) (ps : List PartZ) (x : Nat) (xz : PartZ) (hP : Par w b e r vp ps) (hx : Box w x (partL xz)) (hbx : b < x) (hpx : vp.ownBlock ≠ some x) :
  Calls Tryd.prog 96 #[.pointer (some ⟨b, 0, none⟩), .int .i32 40, .pointer (some ⟨x, 0, none⟩)] w (FieldOut w b e vp ps x (fieldT 40 xz r)) := by
 have hN := sign_any w b e r vp ps [40] hP
 have hxl := hx.lt
 have HZ : Hid (∀ en w', (en = .returned (.bool (signT [40] r).1) ∧ Par w' b e (signT [40] r).2 vp ps ∧ KeepS (fun j => j = b) w w') → FieldOut w b e vp ps x (fieldT 40 xz r) en w') := by
  intro en w' h
  have e2 : fieldT 40 xz r = ((signT [40] r).1, xz, (signT [40] r).2) := fieldT_sign (by decide) xz r
  unfold FieldOut
  rw [e2]
  exact ⟨h.1, h.2.1, hx.keepS h.2.2 (fun e => by omega), h.2.2.mono (fun j hj => .inl hj)⟩
 clear hP hx
 go_enter Tryd.func96, Tryd.ntmps96
 go_wp2_with fail
 refine hN.mono ?_; rintro en w1 ⟨rfl, h⟩
 have H := Lib.hid h
 clear h
 go_wp2_with fail
 go_ret
 exact HZ.out _ _ ⟨rfl, H.out⟩
set_option maxHeartbeats 2000000 in
theorem field_41 (w : World) (b e : Nat) (r : List Tok) (vp : Value) (ps : List PartZ) (x : Nat) (xz : PartZ) (hP : Par w b e r vp ps) (hx : Box w x (partL xz)) (hbx : b < x) (hpx : vp.ownBlock ≠ some x) :
  Calls Tryd.prog 96 #[.pointer (some ⟨b, 0, none⟩), .int .i32 41, .pointer (some ⟨x, 0, none⟩)] w (FieldOut w b e vp ps x (fieldT 41 xz r)) := by
 have hN := sign_any w b e r vp ps [41] hP
 have hxl := hx.lt
 have HZ : Hid (∀ en w', (en = .returned (.bool (signT [41] r).1) ∧ Par w' b e (signT [41] r).2 vp ps ∧ KeepS (fun j => j = b) w w') → FieldOut w b e vp ps x (fieldT 41 xz r) en w') := by
  intro en w' h
  have e2 : fieldT 41 xz r = ((signT [41] r).1, xz, (signT [41] r).2) := fieldT_sign (by decide) xz r
  unfold FieldOut
  rw [e2]
  exact ⟨h.1, h.2.1, hx.keepS h.2.2 (fun e => by omega), h.2.2.mono (fun j hj => .inl hj)⟩
 clear hP hx
 go_enter Tryd.func96, Tryd.ntmps96
 go_wp2_with fail
 refine hN.mono ?_; rintro en w1 ⟨rfl, h⟩
 have H := Lib.hid h
 clear h
 go_wp2_with fail
 go_ret
 exact HZ.out _ _ ⟨rfl, H.out⟩
theorem field_any (c : Int) (hc : c = 68 ∨ c = 65 ∨ c = 66 ∨ c = 78 ∨ c = 84 ∨ c = 44 ∨ c = 40 ∨ c = 41) (w : World) (b e : Nat) (r : List Tok) (vp : Value) (ps : List PartZ) (x : Nat) (xz : PartZ) (hP : Par w b e r vp ps) (hx : Box w x (partL xz)) (hbx : b < x) (hpx : vp.ownBlock ≠ some x) :
  Calls Tryd.prog 96 #[.pointer (some ⟨b, 0, none⟩), .int .i32 c, .pointer (some ⟨x, 0, none⟩)] w (FieldOut w b e vp ps x (fieldT c xz r)) := by
 rcases hc with rfl | rfl | rfl | rfl | rfl | rfl | rfl | rfl
 ·exact field_68 w b e r vp ps x xz hP hx hbx hpx
 ·exact field_65 w b e r vp ps x xz hP hx hbx hpx
 ·exact field_66 w b e r vp ps x xz hP hx hbx hpx
 ·exact field_78 w b e r vp ps x xz hP hx hbx hpx
 ·exact field_84 w b e r vp ps x xz hP hx hbx hpx
 ·exact field_44 w b e r vp ps x xz hP hx hbx hpx
 ·exact field_40 w b e r vp ps x xz hP hx hbx hpx
 ·exact field_41 w b e r vp ps x xz hP hx hbx hpx
end Go.Proofs.YtcaibahniheohaaDoor.Words

/- Contracts of package lex's splitter: a line's end, a number, whatever begins at a place. -/
namespace Go.Proofs.YtcaibahniheohaaDoor.Words
set_option maxRecDepth 100000
open Go.RowKit Go.Shelf Go.Lib
set_option linter.unusedVariables false
def Spl (w : World) (b Bt : Nat) (s : ByteArray) (x : LexS) : Prop :=
 ∃ vt, Box w b (splL s vt (x.behind : Int) x.remark) ∧ w.ownsRow Bt 48 4 vt x.toks.length (toksL x.toks)
theorem Spl.add {w : World} {b Bt p size : Nat} {s : ByteArray} {x : LexS} {kind num : Int} {vt : Value}
  (h1 : Box w b (splL s vt ((p + size : Nat) : Int) x.remark)) (h2 : w.ownsRow Bt 48 4 vt (x.toks.length + 1) (toksL (x.toks ++ [⟨kind, num, p, (s.data.toList.drop p).take size⟩]))) :
  Spl w b Bt s (addZ s.data.toList kind num p size x) := ⟨vt, h1, by show World.ownsRow _ _ _ _ _ (x.toks ++ [_]).length _; rw [List.length_append]; exact h2⟩
theorem Spl.drew {w : World} {b Bt : Nat} {s : ByteArray} {x : LexS} (h : Spl w b Bt s x) : Spl w.drew b Bt s x := h
theorem Spl.below {w w' : World} {b Bt : Nat} {s : ByteArray} {x : LexS} (h : Spl w b Bt s x) (hb : Below w.heap.size w w') : Spl w' b Bt s x := by
 obtain ⟨vt, h1, h2⟩ := h
 exact ⟨vt, h1.below hb h1.lt, own_below h2 hb⟩
theorem rest_data (s : ByteArray) (p : Nat) : (s.extract p s.size).data.toList = s.data.toList.drop p := by
 rw [Lib.extract_data, List.take_of_length_le]
 rw [List.length_drop, data_len]; omega
theorem rest_size (s : ByteArray) (p : Nat) : (s.extract p s.size).size = s.size - p := by rw [ByteArray.size_extract]; omega
theorem lineB_last {t : List Tok} {i : Tok} (h : t[t.length - 1]? = some i) (hne : t ≠ []) : lineB t = decide (i.kind ≠ 4) := by
 unfold lineB
 rw [List.getLast?_eq_getElem?, h]
theorem lineB_nil : lineB [] = false := rfl
set_option maxHeartbeats 1000000 in
theorem line_any (s : ByteArray) (x : LexS) (p b Bt : Nat) (w : World) (hB : b < Bt) (hBt : Bt ≤ w.heap.size) (hs : s.size ≤ 1000000) (hx : Spl w b Bt s x) (ht : x.toks.length ≤ 1000000) (hp : p + 1 ≤ s.size) :
  Calls Tryd.prog 50 #[.pointer (some ⟨b, 0, none⟩), .int .i64 (p : Int)] w fun e w' => e = .returned (.tuple #[]) ∧ Spl w' b Bt s (lineZ s.data.toList p x) ∧ TurnB b Bt w w' := by
 have HX := Lib.hid hx
 obtain ⟨vt, hb, ho⟩ := hx
 obtain ⟨A, c, rfl⟩ := (Row.of_own ho).form
 have z1 := hb.cell (k := 1) rfl
 by_cases hn : x.toks.length = 0
 ·have hnil : x.toks = [] := List.eq_nil_of_length_eq_zero hn
  have hl : Hid (lineZ s.data.toList p x = x) := by show _ = _; unfold lineZ; rw [hnil]; rfl
  rw [hn] at z1
  clear hn hnil hb ho
  go_enter Tryd.func50, Tryd.ntmps50
  go_wp2_with fail
  refine bodyPost_end (v := .tuple #[]) (by simp [results, Tryd.results50]) rfl ⟨rfl, ?_, TurnB.refl _ _ _⟩
  rw [hl.out]
  exact HX.out
 ·obtain ⟨i, hi⟩ : ∃ i, x.toks[x.toks.length - 1]? = some i := ⟨_, List.getElem?_eq_getElem (by omega)⟩
  have hlb := lineB_last hi (by intro h; rw [h] at hn; exact hn rfl)
  obtain ⟨g, off, rfl, _, _⟩ := (Row.of_own ho).at_ hn
  obtain ⟨c0, _, _, _⟩ := (Row.of_own ho).tok hi
  obtain ⟨n, hn'⟩ : ∃ n, n = x.toks.length := ⟨_, rfl⟩
  have cA := Lib.hid (fun y vt' (h1 : Box y b (splL s vt' (x.behind : Int) x.remark)) (h2 : Bt ≤ y.heap.size) (h3 : y.ownsRow Bt 48 4 vt' x.toks.length (toksL x.toks)) => add_any s vt' x.behind 4 0 x.remark p 1 b Bt x.toks y h1 hB h2 h3 hp hs ht)
  rw [← hn'] at z1 c0 hn ht
  have HN := Lib.hid hn'
  have hk : (n : Int) - 1 = ((n - 1 : Nat) : Int) := by omega
  have hb' := Lib.hid hb
  have ho' := Lib.hid ho
  have h0 : decide (0 ≤ ((n - 1 : Nat) : Int)) = true := decide_eq_true (by omega)
  have h1 : ((n - 1 : Nat) : Int) < n := by omega
  have h2 : (0 : Int) ≤ ((n - 1 : Nat) : Int) := by omega
  have h3 : n - 1 < n := by omega
  have h4 : (1 : Int) ≤ n := by omega
  clear hb ho hi hn'
  by_cases h5 : i.kind = 4
  ·have hq : (i.kind != 4) = false := by simpa using h5
   have hl : Hid (lineZ s.data.toList p x = x) := by show _ = _; unfold lineZ; rw [hlb, decide_eq_false (by simpa using h5)]; rfl
   have HK := Lib.hid h5
   clear h5 hlb
   go_enter Tryd.func50, Tryd.ntmps50
   go_wp2_with fail
   refine bodyPost_end (v := .tuple #[]) (by simp [results, Tryd.results50]) rfl ⟨rfl, ?_, TurnB.refl _ _ _⟩
   rw [hl.out]
   exact HX.out
  ·have hq : (i.kind != 4) = true := by simpa using h5
   have hl : Hid (lineZ s.data.toList p x = addZ s.data.toList 4 0 p 1 x) := by show _ = _; unfold lineZ; rw [hlb, decide_eq_true h5]; rfl
   clear h5 hlb
   go_enter Tryd.func50, Tryd.ntmps50
   go_wp2_with fail
   refine (cA.out w _ hb'.out hBt (by rw [HN.out] at *; exact ho'.out)).mono ?_
   rintro e w1 ⟨rfl, vt1, hb1, ho1, ht1⟩
   have S1 := Lib.hid (Spl.add hb1 ho1)
   clear hb1 ho1
   go_wp2_with fail
   refine bodyPost_end (v := .tuple #[]) (by simp [results, Tryd.results50]) rfl ⟨rfl, ?_, ht1⟩
   rw [hl.out]
   exact S1.out
set_option maxHeartbeats 1000000 in
theorem number_any (s : ByteArray) (x : LexS) (p b Bt : Nat) (w : World) (hB : b < Bt) (hBt : Bt ≤ w.heap.size) (hs : s.size ≤ 1000000) (hx : Spl w b Bt s x) (ht : x.toks.length ≤ 1000000) (hp : p < s.size) :
  Calls Tryd.prog 56 #[.pointer (some ⟨b, 0, none⟩), .int .i64 (p : Int)] w fun e w' => e = .returned (.int .i64 (numberZ s.data.toList p x).1) ∧ Spl w' b Bt s (numberZ s.data.toList p x).2 ∧ TurnB b Bt w w' := by
 have HX := Lib.hid hx
 obtain ⟨vt, hb, ho⟩ := hx
 have z0 := hb.cell (k := 0) rfl
 have hlt := hb.lt
 have cN := fun y => numberOf_any (s.extract p s.size) y (by rw [rest_size]; omega)
 rw [rest_data] at cN
 have CN := Lib.hid cN
 have HNR := Lib.hid (numZ_range (s.data.toList.drop p))
 have HNL : Hid (p + (numZ (s.data.toList.drop p)).2 ≤ s.size) := by
  have h1 := numZ_le (s.data.toList.drop p)
  rw [List.length_drop, data_len] at h1
  show _ ≤ _
  omega
 obtain ⟨Z, hZ⟩ : ∃ Z, Z = numberZ s.data.toList p x := ⟨_, rfl⟩
 have HZ : Hid (Z = if (numZ (s.data.toList.drop p)).2 = 0 then (5, x) else if (numZ (s.data.toList.drop p)).1 < -4294967296 ∨ 4294967296 < (numZ (s.data.toList.drop p)).1 then (8, x) else (0, addZ s.data.toList 2 (numZ (s.data.toList.drop p)).1 p (numZ (s.data.toList.drop p)).2 x)) := hZ
 rw [← hZ]
 generalize numZ (s.data.toList.drop p) = N at *
 obtain ⟨n, k⟩ := N
 simp only at CN HNR HNL HZ
 have n0 : -4294967297 ≤ n ∧ n ≤ 4294967297 := HNR.out
 obtain ⟨n1, n2⟩ := n0
 have k1 : (k : Int) ≤ 1000000 := by have := HNL.out; omega
 have p0 : (0 : Int) ≤ p := by omega
 have p1 : (p : Int) ≤ s.size := by omega
 have p2 : (s.size : Int) ≤ 1000000 := by omega
 clear hb ho cN hZ HNR
 by_cases hk : k = 0
 ·have hz : Hid (Z = (5, x)) := by show _ = _; rw [HZ.out, if_pos hk]
  have hq : ((k : Int) == 0) = true := by simpa using hk
  clear hk HZ
  go_enter Tryd.func56, Tryd.ntmps56
  go_wp2_with fail
  refine (CN.out _).mono ?_; rintro e w1 ⟨rfl, hb1⟩
  have S1 := Lib.hid (HX.out.below hb1)
  have T1 := Lib.hid (TurnB.of_below (b := b) (Bt := Bt) hb1 (by omega) hBt)
  clear hb1
  go_wp2_with fail
  go_ret
  rw [hz.out]
  exact ⟨rfl, S1.out, T1.out⟩
 ·have hq : ((k : Int) == 0) = false := by simpa using hk
  by_cases hr : n < -4294967296 ∨ 4294967296 < n
  ·have hz : Hid (Z = (8, x)) := by show _ = _; rw [HZ.out, if_neg hk, if_pos hr]
   clear hk HZ
   by_cases hr1 : n < -4294967296
   ·have q1 : decide (n < -4294967296) = true := decide_eq_true hr1
    clear hr
    go_enter Tryd.func56, Tryd.ntmps56
    go_wp2_with fail
    refine (CN.out _).mono ?_; rintro e w1 ⟨rfl, hb1⟩
    have S1 := Lib.hid (HX.out.below hb1)
    have T1 := Lib.hid (TurnB.of_below (b := b) (Bt := Bt) hb1 (by omega) hBt)
    clear hb1
    go_wp2_with fail
    go_ret
    rw [hz.out]
    exact ⟨rfl, S1.out, T1.out⟩
   ·have q1 : decide (n < -4294967296) = false := decide_eq_false hr1
    have q2 : decide (4294967296 < n) = true := decide_eq_true (by omega)
    clear hr
    go_enter Tryd.func56, Tryd.ntmps56
    go_wp2_with fail
    refine (CN.out _).mono ?_; rintro e w1 ⟨rfl, hb1⟩
    have S1 := Lib.hid (HX.out.below hb1)
    have T1 := Lib.hid (TurnB.of_below (b := b) (Bt := Bt) hb1 (by omega) hBt)
    clear hb1
    go_wp2_with fail
    go_ret
    rw [hz.out]
    exact ⟨rfl, S1.out, T1.out⟩
  ·have hz : Hid (Z = (0, addZ s.data.toList 2 n p k x)) := by show _ = _; rw [HZ.out, if_neg hk, if_neg hr]
   have q1 : decide (n < -4294967296) = false := decide_eq_false (by omega)
   have q2 : decide (4294967296 < n) = false := decide_eq_false (by omega)
   clear hk hr HZ
   go_enter Tryd.func56, Tryd.ntmps56
   go_wp2_with fail
   refine (CN.out _).mono ?_; rintro e w1 ⟨rfl, hb1⟩
   have S1 := Lib.hid (HX.out.below hb1)
   have T1 := Lib.hid (TurnB.of_below (b := b) (Bt := Bt) hb1 (by omega) hBt)
   have hsz := hb1.size
   clear hb1
   go_wp2_with fail
   obtain ⟨vt1, hB1, hO1⟩ := S1.out
   refine (add_any s vt1 x.behind 2 n x.remark p k b Bt x.toks w1 hB1 hB (by omega) hO1 HNL.out hs ht).mono ?_
   rintro e w2 ⟨rfl, vt2, hb2, ho2, ht2⟩
   have S2 := Lib.hid (Spl.add hb2 ho2)
   have T2 := Lib.hid (T1.out.trans ht2)
   clear hb2 ho2 ht2
   go_wp2_with fail
   go_ret
   rw [hz.out]
   exact ⟨rfl, S2.out, T2.out⟩
end Go.Proofs.YtcaibahniheohaaDoor.Words

/- Contract of package lex's take: what begins at a place. -/
namespace Go.Proofs.YtcaibahniheohaaDoor.Words
set_option maxRecDepth 100000
open Go.RowKit Go.Shelf Go.Lib
set_option linter.unusedVariables false
set_option maxHeartbeats 1000000 in
theorem take_bad (s : ByteArray) (x : LexS) (p b Bt : Nat) (w : World) (hT : TabsB b w) (hB : b < Bt) (hBt : Bt ≤ w.heap.size) (hs : s.size ≤ 1000000) (hx : Spl w b Bt s x) (ht : x.toks.length ≤ 1000000) (hp : p < s.size) (h1 : badR (s.data.toList.drop p) = true) :
  Calls Tryd.prog 29 #[.pointer (some ⟨b, 0, none⟩), .int .i64 (p : Int), .int .i32 (runeR (s.data.toList.drop p))] w fun e w' => e = .returned (.int .i64 (takeZ s.data.toList p x).1) ∧ Spl w' b Bt s (takeZ s.data.toList p x).2 ∧ TurnB b Bt w w' := by
 have HX := Lib.hid hx
 obtain ⟨vt, hb, ho⟩ := hx
 have z0 := hb.cell (k := 0) rfl
 have z3 := hb.cell (k := 3) rfl
 have g3 := hb.frozen 3
 have hlt := hb.lt
 have HRR := Lib.hid (runeR_range (s.data.toList.drop p))
 have hne := from_ne (l := s.data.toList) (p := p) (by rw [data_len]; exact hp)
 have CB := Lib.hid (fun y (hy : Tabs y) => isBroken_any (s.extract p s.size) (runeR (s.data.toList.drop p)) y (by rw [rest_data]; exact hne) hy (by rw [rest_data]))
 rw [rest_data] at CB
 have HZ : Hid (takeZ s.data.toList p x = (5, x)) := by
  show _ = _
  unfold takeZ
  rw [if_pos h1]
 have p0 : (0 : Int) ≤ p := by omega
 have p1 : (p : Int) ≤ s.size := by omega
 have p2 : (s.size : Int) ≤ 1000000 := by omega
 have HT0 := Lib.hid hT
 have HB := Lib.hid hb
 have HO := Lib.hid ho
 rw [HZ.out]
 clear hb ho hT hne
 rw [h1] at CB
 generalize runeR (s.data.toList.drop p) = R at CB ⊢
 go_enter Tryd.func29, Tryd.ntmps29
 go_wp2_with fail
 refine (CB.out _ HT0.out.now).mono ?_; rintro e w1 ⟨rfl, hb1⟩
 have S1 := Lib.hid (HX.out.below hb1)
 have T1 := Lib.hid (TurnB.of_below (b := b) (Bt := Bt) hb1 (by omega) hBt)
 have B1 := Lib.hid (HB.out.below hb1 hlt)
 have hs1 := hb1.size
 clear hb1
 have y0 := B1.out.cell (k := 0) rfl
 have y3 := B1.out.cell (k := 3) rfl
 have f3 := B1.out.frozen 3
 clear z0 z3 g3
 go_wp2_with fail
 go_ret
 exact ⟨rfl, S1.out, T1.out⟩
set_option maxHeartbeats 1000000 in
theorem take_line (s : ByteArray) (x : LexS) (p b Bt : Nat) (w : World) (hT : TabsB b w) (hB : b < Bt) (hBt : Bt ≤ w.heap.size) (hs : s.size ≤ 1000000) (hx : Spl w b Bt s x) (ht : x.toks.length ≤ 1000000) (hp : p < s.size) (h1 : badR (s.data.toList.drop p) = false) (h2 : runeR (s.data.toList.drop p) = 10) :
  Calls Tryd.prog 29 #[.pointer (some ⟨b, 0, none⟩), .int .i64 (p : Int), .int .i32 (runeR (s.data.toList.drop p))] w fun e w' => e = .returned (.int .i64 (takeZ s.data.toList p x).1) ∧ Spl w' b Bt s (takeZ s.data.toList p x).2 ∧ TurnB b Bt w w' := by
 have HX := Lib.hid hx
 obtain ⟨vt, hb, ho⟩ := hx
 have z0 := hb.cell (k := 0) rfl
 have z3 := hb.cell (k := 3) rfl
 have g3 := hb.frozen 3
 have hlt := hb.lt
 have HRR := Lib.hid (runeR_range (s.data.toList.drop p))
 have hne := from_ne (l := s.data.toList) (p := p) (by rw [data_len]; exact hp)
 have CB := Lib.hid (fun y (hy : Tabs y) => isBroken_any (s.extract p s.size) (runeR (s.data.toList.drop p)) y (by rw [rest_data]; exact hne) hy (by rw [rest_data]))
 rw [rest_data] at CB
 have HZ : Hid (takeZ s.data.toList p x = (0, lineZ s.data.toList p { x with remark := false })) := by
  show _ = _
  unfold takeZ
  rw [if_neg (by rw [h1]; decide)]
  rw [if_pos h2]
 have p0 : (0 : Int) ≤ p := by omega
 have p1 : (p : Int) ≤ s.size := by omega
 have p2 : (s.size : Int) ≤ 1000000 := by omega
 have HT0 := Lib.hid hT
 have HB := Lib.hid hb
 have HO := Lib.hid ho
 rw [HZ.out]
 clear hb ho hT hne
 rw [h1] at CB
 rw [h2] at CB ⊢
 go_enter Tryd.func29, Tryd.ntmps29
 go_wp2_with fail
 refine (CB.out _ HT0.out.now).mono ?_; rintro e w1 ⟨rfl, hb1⟩
 have S1 := Lib.hid (HX.out.below hb1)
 have T1 := Lib.hid (TurnB.of_below (b := b) (Bt := Bt) hb1 (by omega) hBt)
 have B1 := Lib.hid (HB.out.below hb1 hlt)
 have hs1 := hb1.size
 clear hb1
 have y0 := B1.out.cell (k := 0) rfl
 have y3 := B1.out.cell (k := 3) rfl
 have f3 := B1.out.frozen 3
 clear z0 z3 g3
 have S1' := S1.out
 obtain ⟨vt1, hb1, ho1⟩ := S1'
 have hb1' := Lib.hid (show Box (w1.setCell ⟨b, 3, none⟩ (.bool false)) b (splL s vt1 x.behind false) from hb1.setCell 3 _)
 have ho1' := Lib.hid (ownsRow_setCell_below ho1 (a := ⟨b, 3, none⟩) (show b < Bt from hB) (.bool false))
 have T2 := Lib.hid (T1.out.trans (TurnB.setCell b Bt w1 3 (.bool false)))
 clear hb1 ho1
 have S2 : Hid (Spl (w1.setCell ⟨b, 3, none⟩ (.bool false)) b Bt s { x with remark := false }) := ⟨vt1, hb1'.out, ho1'.out⟩
 have hs2 : (w1.setCell ⟨b, 3, none⟩ (.bool false)).heap.size = w1.heap.size := by simp [World.setCell]
 go_wp2_with fail
 refine (line_any s { x with remark := false } p b Bt _ hB (by rw [hs2]; omega) hs S2.out ht (by omega)).mono ?_
 rintro e w3 ⟨rfl, hs3, ht3⟩
 have S3 := Lib.hid hs3
 have T3 := Lib.hid (T2.out.trans ht3)
 clear hs3 ht3
 go_wp2_with fail
 go_ret
 exact ⟨rfl, S3.out, T3.out⟩
set_option maxHeartbeats 1000000 in
theorem take_remark (s : ByteArray) (x : LexS) (p b Bt : Nat) (w : World) (hT : TabsB b w) (hB : b < Bt) (hBt : Bt ≤ w.heap.size) (hs : s.size ≤ 1000000) (hx : Spl w b Bt s x) (ht : x.toks.length ≤ 1000000) (hp : p < s.size) (h1 : badR (s.data.toList.drop p) = false) (h2 : ¬ runeR (s.data.toList.drop p) = 10) (h3 : x.remark = true) :
  Calls Tryd.prog 29 #[.pointer (some ⟨b, 0, none⟩), .int .i64 (p : Int), .int .i32 (runeR (s.data.toList.drop p))] w fun e w' => e = .returned (.int .i64 (takeZ s.data.toList p x).1) ∧ Spl w' b Bt s (takeZ s.data.toList p x).2 ∧ TurnB b Bt w w' := by
 have HX := Lib.hid hx
 obtain ⟨vt, hb, ho⟩ := hx
 have z0 := hb.cell (k := 0) rfl
 have z3 := hb.cell (k := 3) rfl
 have g3 := hb.frozen 3
 have hlt := hb.lt
 have HRR := Lib.hid (runeR_range (s.data.toList.drop p))
 have hne := from_ne (l := s.data.toList) (p := p) (by rw [data_len]; exact hp)
 have CB := Lib.hid (fun y (hy : Tabs y) => isBroken_any (s.extract p s.size) (runeR (s.data.toList.drop p)) y (by rw [rest_data]; exact hne) hy (by rw [rest_data]))
 rw [rest_data] at CB
 have HZ : Hid (takeZ s.data.toList p x = (0, x)) := by
  show _ = _
  unfold takeZ
  rw [if_neg (by rw [h1]; decide)]
  rw [if_neg h2]
  rw [if_pos (.inl h3)]
 have p0 : (0 : Int) ≤ p := by omega
 have p1 : (p : Int) ≤ s.size := by omega
 have p2 : (s.size : Int) ≤ 1000000 := by omega
 have HT0 := Lib.hid hT
 have HB := Lib.hid hb
 have HO := Lib.hid ho
 rw [HZ.out]
 clear hb ho hT hne
 rw [h1] at CB
 have q2 : (runeR (s.data.toList.drop p) == 10) = false := by simpa using h2
 rw [h3] at HB z3
 clear h2
 generalize runeR (s.data.toList.drop p) = R at CB q2 ⊢
 go_enter Tryd.func29, Tryd.ntmps29
 go_wp2_with fail
 refine (CB.out _ HT0.out.now).mono ?_; rintro e w1 ⟨rfl, hb1⟩
 have S1 := Lib.hid (HX.out.below hb1)
 have T1 := Lib.hid (TurnB.of_below (b := b) (Bt := Bt) hb1 (by omega) hBt)
 have B1 := Lib.hid (HB.out.below hb1 hlt)
 have hs1 := hb1.size
 clear hb1
 have y0 := B1.out.cell (k := 0) rfl
 have y3 := B1.out.cell (k := 3) rfl
 have f3 := B1.out.frozen 3
 clear z0 z3 g3
 go_wp2_with fail
 go_ret
 exact ⟨rfl, S1.out, T1.out⟩
set_option maxHeartbeats 1000000 in
theorem take_blank (s : ByteArray) (x : LexS) (p b Bt : Nat) (w : World) (hT : TabsB b w) (hB : b < Bt) (hBt : Bt ≤ w.heap.size) (hs : s.size ≤ 1000000) (hx : Spl w b Bt s x) (ht : x.toks.length ≤ 1000000) (hp : p < s.size) (h1 : badR (s.data.toList.drop p) = false) (h2 : ¬ runeR (s.data.toList.drop p) = 10) (h3 : x.remark = false) (h4 : blankR (runeR (s.data.toList.drop p)) = true) :
  Calls Tryd.prog 29 #[.pointer (some ⟨b, 0, none⟩), .int .i64 (p : Int), .int .i32 (runeR (s.data.toList.drop p))] w fun e w' => e = .returned (.int .i64 (takeZ s.data.toList p x).1) ∧ Spl w' b Bt s (takeZ s.data.toList p x).2 ∧ TurnB b Bt w w' := by
 have HX := Lib.hid hx
 obtain ⟨vt, hb, ho⟩ := hx
 have z0 := hb.cell (k := 0) rfl
 have z3 := hb.cell (k := 3) rfl
 have g3 := hb.frozen 3
 have hlt := hb.lt
 have HRR := Lib.hid (runeR_range (s.data.toList.drop p))
 have hne := from_ne (l := s.data.toList) (p := p) (by rw [data_len]; exact hp)
 have CB := Lib.hid (fun y (hy : Tabs y) => isBroken_any (s.extract p s.size) (runeR (s.data.toList.drop p)) y (by rw [rest_data]; exact hne) hy (by rw [rest_data]))
 rw [rest_data] at CB
 have HZ : Hid (takeZ s.data.toList p x = (0, x)) := by
  show _ = _
  unfold takeZ
  rw [if_neg (by rw [h1]; decide)]
  rw [if_neg h2]
  rw [if_pos (.inr h4)]
 have p0 : (0 : Int) ≤ p := by omega
 have p1 : (p : Int) ≤ s.size := by omega
 have p2 : (s.size : Int) ≤ 1000000 := by omega
 have HT0 := Lib.hid hT
 have HB := Lib.hid hb
 have HO := Lib.hid ho
 rw [HZ.out]
 clear hb ho hT hne
 rw [h1] at CB
 have q2 : (runeR (s.data.toList.drop p) == 10) = false := by simpa using h2
 have CK := Lib.hid (fun y => isBlank_any (runeR (s.data.toList.drop p)) y)
 rw [h4] at CK
 rw [h3] at HB z3
 clear h2 h4
 generalize runeR (s.data.toList.drop p) = R at CB CK q2 ⊢
 go_enter Tryd.func29, Tryd.ntmps29
 go_wp2_with fail
 refine (CB.out _ HT0.out.now).mono ?_; rintro e w1 ⟨rfl, hb1⟩
 have S1 := Lib.hid (HX.out.below hb1)
 have T1 := Lib.hid (TurnB.of_below (b := b) (Bt := Bt) hb1 (by omega) hBt)
 have B1 := Lib.hid (HB.out.below hb1 hlt)
 have hs1 := hb1.size
 clear hb1
 have y0 := B1.out.cell (k := 0) rfl
 have y3 := B1.out.cell (k := 3) rfl
 have f3 := B1.out.frozen 3
 clear z0 z3 g3
 go_wp2_with fail
 refine (CK.out _).mono ?_; rintro e w2 ⟨rfl, rfl⟩
 go_wp2_with fail
 go_ret
 exact ⟨rfl, S1.out, T1.out⟩
set_option maxHeartbeats 1000000 in
theorem take_hash (s : ByteArray) (x : LexS) (p b Bt : Nat) (w : World) (hT : TabsB b w) (hB : b < Bt) (hBt : Bt ≤ w.heap.size) (hs : s.size ≤ 1000000) (hx : Spl w b Bt s x) (ht : x.toks.length ≤ 1000000) (hp : p < s.size) (h1 : badR (s.data.toList.drop p) = false) (h2 : ¬ runeR (s.data.toList.drop p) = 10) (h3 : x.remark = false) (h4 : blankR (runeR (s.data.toList.drop p)) = false) (h5 : runeR (s.data.toList.drop p) = 35) :
  Calls Tryd.prog 29 #[.pointer (some ⟨b, 0, none⟩), .int .i64 (p : Int), .int .i32 (runeR (s.data.toList.drop p))] w fun e w' => e = .returned (.int .i64 (takeZ s.data.toList p x).1) ∧ Spl w' b Bt s (takeZ s.data.toList p x).2 ∧ TurnB b Bt w w' := by
 have HX := Lib.hid hx
 obtain ⟨vt, hb, ho⟩ := hx
 have z0 := hb.cell (k := 0) rfl
 have z3 := hb.cell (k := 3) rfl
 have g3 := hb.frozen 3
 have hlt := hb.lt
 have HRR := Lib.hid (runeR_range (s.data.toList.drop p))
 have hne := from_ne (l := s.data.toList) (p := p) (by rw [data_len]; exact hp)
 have CB := Lib.hid (fun y (hy : Tabs y) => isBroken_any (s.extract p s.size) (runeR (s.data.toList.drop p)) y (by rw [rest_data]; exact hne) hy (by rw [rest_data]))
 rw [rest_data] at CB
 have HZ : Hid (takeZ s.data.toList p x = (0, { x with remark := true })) := by
  show _ = _
  unfold takeZ
  rw [if_neg (by rw [h1]; decide)]
  rw [if_neg h2]
  rw [if_neg (by rw [h3, h4]; decide)]
  rw [if_pos h5]
 have p0 : (0 : Int) ≤ p := by omega
 have p1 : (p : Int) ≤ s.size := by omega
 have p2 : (s.size : Int) ≤ 1000000 := by omega
 have HT0 := Lib.hid hT
 have HB := Lib.hid hb
 have HO := Lib.hid ho
 rw [HZ.out]
 clear hb ho hT hne
 rw [h1] at CB
 have CK := Lib.hid (fun y => isBlank_any (runeR (s.data.toList.drop p)) y)
 rw [h4] at CK
 rw [h5] at CB CK ⊢
 rw [h3] at HB z3
 clear h2 h4 h5
 go_enter Tryd.func29, Tryd.ntmps29
 go_wp2_with fail
 refine (CB.out _ HT0.out.now).mono ?_; rintro e w1 ⟨rfl, hb1⟩
 have S1 := Lib.hid (HX.out.below hb1)
 have T1 := Lib.hid (TurnB.of_below (b := b) (Bt := Bt) hb1 (by omega) hBt)
 have B1 := Lib.hid (HB.out.below hb1 hlt)
 have hs1 := hb1.size
 clear hb1
 have y0 := B1.out.cell (k := 0) rfl
 have y3 := B1.out.cell (k := 3) rfl
 have f3 := B1.out.frozen 3
 clear z0 z3 g3
 go_wp2_with fail
 refine (CK.out _).mono ?_; rintro e w2 ⟨rfl, rfl⟩
 have S1' := S1.out
 obtain ⟨vt1, hb1, ho1⟩ := S1'
 have hb1' := Lib.hid (show Box (w1.setCell ⟨b, 3, none⟩ (.bool true)) b (splL s vt1 x.behind true) from hb1.setCell 3 _)
 have ho1' := Lib.hid (ownsRow_setCell_below ho1 (a := ⟨b, 3, none⟩) (show b < Bt from hB) (.bool true))
 have T2 := Lib.hid (T1.out.trans (TurnB.setCell b Bt w1 3 (.bool true)))
 clear hb1 ho1
 go_wp2_with fail
 go_ret
 exact ⟨rfl, ⟨vt1, hb1'.out, ho1'.out⟩, T2.out⟩
set_option maxHeartbeats 1000000 in
theorem take_name (s : ByteArray) (x : LexS) (p b Bt : Nat) (w : World) (hT : TabsB b w) (hB : b < Bt) (hBt : Bt ≤ w.heap.size) (hs : s.size ≤ 1000000) (hx : Spl w b Bt s x) (ht : x.toks.length ≤ 1000000) (hp : p < s.size) (h1 : badR (s.data.toList.drop p) = false) (h2 : ¬ runeR (s.data.toList.drop p) = 10) (h3 : x.remark = false) (h4 : blankR (runeR (s.data.toList.drop p)) = false) (h5 : ¬ runeR (s.data.toList.drop p) = 35) (h6 : firstR (runeR (s.data.toList.drop p)) = true) :
  Calls Tryd.prog 29 #[.pointer (some ⟨b, 0, none⟩), .int .i64 (p : Int), .int .i32 (runeR (s.data.toList.drop p))] w fun e w' => e = .returned (.int .i64 (takeZ s.data.toList p x).1) ∧ Spl w' b Bt s (takeZ s.data.toList p x).2 ∧ TurnB b Bt w w' := by
 have HX := Lib.hid hx
 obtain ⟨vt, hb, ho⟩ := hx
 have z0 := hb.cell (k := 0) rfl
 have z3 := hb.cell (k := 3) rfl
 have g3 := hb.frozen 3
 have hlt := hb.lt
 have HRR := Lib.hid (runeR_range (s.data.toList.drop p))
 have hne := from_ne (l := s.data.toList) (p := p) (by rw [data_len]; exact hp)
 have CB := Lib.hid (fun y (hy : Tabs y) => isBroken_any (s.extract p s.size) (runeR (s.data.toList.drop p)) y (by rw [rest_data]; exact hne) hy (by rw [rest_data]))
 rw [rest_data] at CB
 have HZ : Hid (takeZ s.data.toList p x = (0, addZ s.data.toList 1 0 p (nameZ (s.data.toList.drop p)) x)) := by
  show _ = _
  unfold takeZ
  rw [if_neg (by rw [h1]; decide)]
  rw [if_neg h2]
  rw [if_neg (by rw [h3, h4]; decide)]
  rw [if_neg h5]
  rw [if_pos h6]
 have p0 : (0 : Int) ≤ p := by omega
 have p1 : (p : Int) ≤ s.size := by omega
 have p2 : (s.size : Int) ≤ 1000000 := by omega
 have HT0 := Lib.hid hT
 have HB := Lib.hid hb
 have HO := Lib.hid ho
 rw [HZ.out]
 clear hb ho hT hne
 rw [h1] at CB
 have q2 : (runeR (s.data.toList.drop p) == 10) = false := by simpa using h2
 have q5 : (runeR (s.data.toList.drop p) == 35) = false := by simpa using h5
 have CK := Lib.hid (fun y => isBlank_any (runeR (s.data.toList.drop p)) y)
 have CF := Lib.hid (fun y (hy : Tabs y) => isFirst_any (runeR (s.data.toList.drop p)) y (i32_rune _ HRR.out) hy)
 rw [h4] at CK
 rw [h6] at CF
 rw [h3] at HB z3
 have CN := Lib.hid (fun y (hy : Tabs y) => nameSize_any (s.extract p s.size) y (by rw [rest_size]; omega) hy)
 rw [rest_data] at CN
 have HNL : Hid (p + nameZ (s.data.toList.drop p) ≤ s.size) := by
  have h1 := nameZ_le (s.data.toList.drop p)
  rw [List.length_drop, data_len] at h1
  show _ ≤ _
  omega
 generalize nameZ (s.data.toList.drop p) = K at *
 clear h2 h4 h5 h6 HZ HRR
 generalize runeR (s.data.toList.drop p) = R at CB CK CF q2 q5 ⊢
 go_enter Tryd.func29, Tryd.ntmps29
 go_wp2_with fail
 refine (CB.out _ HT0.out.now).mono ?_; rintro e w1 ⟨rfl, hb1⟩
 have S1 := Lib.hid (HX.out.below hb1)
 have T1 := Lib.hid (TurnB.of_below (b := b) (Bt := Bt) hb1 (by omega) hBt)
 have B1 := Lib.hid (HB.out.below hb1 hlt)
 have hs1 := hb1.size
 clear hb1
 have y0 := B1.out.cell (k := 0) rfl
 have y3 := B1.out.cell (k := 3) rfl
 have f3 := B1.out.frozen 3
 clear z0 z3 g3
 go_wp2_with fail
 refine (CK.out _).mono ?_; rintro e w2 ⟨rfl, rfl⟩
 go_wp2_with fail
 refine (CF.out _ (HT0.out.go T1.out.bel).now).mono ?_; rintro e w3 ⟨rfl, hb3⟩
 have S3 := Lib.hid (S1.out.below hb3)
 have T3 := Lib.hid (T1.out.trans (TurnB.of_below (b := b) (Bt := Bt) hb3 (by omega) (by omega)))
 have hs3 := hb3.size
 have B3 := Lib.hid (B1.out.below hb3 (by omega))
 clear hb3 y0 y3 f3 S1 T1 B1
 go_wp2_with fail
 refine (CN.out _ (HT0.out.go T3.out.bel).now).mono ?_; rintro e w4 ⟨rfl, hb4⟩
 have S4 := Lib.hid (S3.out.below hb4)
 have T4 := Lib.hid (T3.out.trans (TurnB.of_below (b := b) (Bt := Bt) hb4 (by omega) (by omega)))
 have hs4 := hb4.size
 clear hb4
 go_wp2_with fail
 obtain ⟨vt4, hB4, hO4⟩ := S4.out
 refine (add_any s vt4 x.behind 1 0 x.remark p K b Bt x.toks w4 hB4 hB (by omega) hO4 HNL.out hs ht).mono ?_
 rintro e w5 ⟨rfl, vt5, hb5, ho5, ht5⟩
 have S5 := Lib.hid (Spl.add (x := x) hb5 ho5)
 have T5 := Lib.hid (T4.out.trans ht5)
 clear hb5 ho5 ht5
 go_wp2_with fail
 go_ret
 exact ⟨rfl, S5.out, T5.out⟩
set_option maxHeartbeats 1000000 in
theorem take_sign (s : ByteArray) (x : LexS) (p b Bt : Nat) (w : World) (hT : TabsB b w) (hB : b < Bt) (hBt : Bt ≤ w.heap.size) (hs : s.size ≤ 1000000) (hx : Spl w b Bt s x) (ht : x.toks.length ≤ 1000000) (hp : p < s.size) (h1 : badR (s.data.toList.drop p) = false) (h2 : ¬ runeR (s.data.toList.drop p) = 10) (h3 : x.remark = false) (h4 : blankR (runeR (s.data.toList.drop p)) = false) (h5 : ¬ runeR (s.data.toList.drop p) = 35) (h6 : firstR (runeR (s.data.toList.drop p)) = false) (h7 : signR (runeR (s.data.toList.drop p)) = true) :
  Calls Tryd.prog 29 #[.pointer (some ⟨b, 0, none⟩), .int .i64 (p : Int), .int .i32 (runeR (s.data.toList.drop p))] w fun e w' => e = .returned (.int .i64 (takeZ s.data.toList p x).1) ∧ Spl w' b Bt s (takeZ s.data.toList p x).2 ∧ TurnB b Bt w w' := by
 have HX := Lib.hid hx
 obtain ⟨vt, hb, ho⟩ := hx
 have z0 := hb.cell (k := 0) rfl
 have z3 := hb.cell (k := 3) rfl
 have g3 := hb.frozen 3
 have hlt := hb.lt
 have HRR := Lib.hid (runeR_range (s.data.toList.drop p))
 have hne := from_ne (l := s.data.toList) (p := p) (by rw [data_len]; exact hp)
 have CB := Lib.hid (fun y (hy : Tabs y) => isBroken_any (s.extract p s.size) (runeR (s.data.toList.drop p)) y (by rw [rest_data]; exact hne) hy (by rw [rest_data]))
 rw [rest_data] at CB
 have HZ : Hid (takeZ s.data.toList p x = (0, addZ s.data.toList 3 0 p 1 x)) := by
  show _ = _
  unfold takeZ
  rw [if_neg (by rw [h1]; decide)]
  rw [if_neg h2]
  rw [if_neg (by rw [h3, h4]; decide)]
  rw [if_neg h5]
  rw [if_neg (by rw [h6]; decide)]
  rw [if_pos h7]
 have p0 : (0 : Int) ≤ p := by omega
 have p1 : (p : Int) ≤ s.size := by omega
 have p2 : (s.size : Int) ≤ 1000000 := by omega
 have HT0 := Lib.hid hT
 have HB := Lib.hid hb
 have HO := Lib.hid ho
 rw [HZ.out]
 clear hb ho hT hne
 rw [h1] at CB
 have q2 : (runeR (s.data.toList.drop p) == 10) = false := by simpa using h2
 have q5 : (runeR (s.data.toList.drop p) == 35) = false := by simpa using h5
 have CK := Lib.hid (fun y => isBlank_any (runeR (s.data.toList.drop p)) y)
 have CF := Lib.hid (fun y (hy : Tabs y) => isFirst_any (runeR (s.data.toList.drop p)) y (i32_rune _ HRR.out) hy)
 have CS := Lib.hid (fun y => isSign_any (runeR (s.data.toList.drop p)) y)
 rw [h4] at CK
 rw [h6] at CF
 rw [h7] at CS
 rw [h3] at HB z3
 clear h2 h4 h5 h6 h7 HRR
 generalize runeR (s.data.toList.drop p) = R at CB CK CF CS q2 q5 ⊢
 go_enter Tryd.func29, Tryd.ntmps29
 go_wp2_with fail
 refine (CB.out _ HT0.out.now).mono ?_; rintro e w1 ⟨rfl, hb1⟩
 have S1 := Lib.hid (HX.out.below hb1)
 have T1 := Lib.hid (TurnB.of_below (b := b) (Bt := Bt) hb1 (by omega) hBt)
 have B1 := Lib.hid (HB.out.below hb1 hlt)
 have hs1 := hb1.size
 clear hb1
 have y0 := B1.out.cell (k := 0) rfl
 have y3 := B1.out.cell (k := 3) rfl
 have f3 := B1.out.frozen 3
 clear z0 z3 g3
 go_wp2_with fail
 refine (CK.out _).mono ?_; rintro e w2 ⟨rfl, rfl⟩
 go_wp2_with fail
 refine (CF.out _ (HT0.out.go T1.out.bel).now).mono ?_; rintro e w3 ⟨rfl, hb3⟩
 have S3 := Lib.hid (S1.out.below hb3)
 have T3 := Lib.hid (T1.out.trans (TurnB.of_below (b := b) (Bt := Bt) hb3 (by omega) (by omega)))
 have hs3 := hb3.size
 have B3 := Lib.hid (B1.out.below hb3 (by omega))
 clear hb3 y0 y3 f3 S1 T1 B1
 go_wp2_with fail
 refine (CS.out _).mono ?_; rintro e w4 ⟨rfl, rfl⟩
 go_wp2_with fail
 obtain ⟨vt4, hB4, hO4⟩ := S3.out
 refine (add_any s vt4 x.behind 3 0 x.remark p 1 b Bt x.toks w3 hB4 hB (by omega) hO4 (by omega) hs ht).mono ?_
 rintro e w5 ⟨rfl, vt5, hb5, ho5, ht5⟩
 have S5 := Lib.hid (Spl.add (x := x) hb5 ho5)
 have T5 := Lib.hid (T3.out.trans ht5)
 clear hb5 ho5 ht5
 go_wp2_with fail
 go_ret
 exact ⟨rfl, S5.out, T5.out⟩
set_option maxHeartbeats 1000000 in
theorem take_number (s : ByteArray) (x : LexS) (p b Bt : Nat) (w : World) (hT : TabsB b w) (hB : b < Bt) (hBt : Bt ≤ w.heap.size) (hs : s.size ≤ 1000000) (hx : Spl w b Bt s x) (ht : x.toks.length ≤ 1000000) (hp : p < s.size) (h1 : badR (s.data.toList.drop p) = false) (h2 : ¬ runeR (s.data.toList.drop p) = 10) (h3 : x.remark = false) (h4 : blankR (runeR (s.data.toList.drop p)) = false) (h5 : ¬ runeR (s.data.toList.drop p) = 35) (h6 : firstR (runeR (s.data.toList.drop p)) = false) (h7 : signR (runeR (s.data.toList.drop p)) = false) :
  Calls Tryd.prog 29 #[.pointer (some ⟨b, 0, none⟩), .int .i64 (p : Int), .int .i32 (runeR (s.data.toList.drop p))] w fun e w' => e = .returned (.int .i64 (takeZ s.data.toList p x).1) ∧ Spl w' b Bt s (takeZ s.data.toList p x).2 ∧ TurnB b Bt w w' := by
 have HX := Lib.hid hx
 obtain ⟨vt, hb, ho⟩ := hx
 have z0 := hb.cell (k := 0) rfl
 have z3 := hb.cell (k := 3) rfl
 have g3 := hb.frozen 3
 have hlt := hb.lt
 have HRR := Lib.hid (runeR_range (s.data.toList.drop p))
 have hne := from_ne (l := s.data.toList) (p := p) (by rw [data_len]; exact hp)
 have CB := Lib.hid (fun y (hy : Tabs y) => isBroken_any (s.extract p s.size) (runeR (s.data.toList.drop p)) y (by rw [rest_data]; exact hne) hy (by rw [rest_data]))
 rw [rest_data] at CB
 have HZ : Hid (takeZ s.data.toList p x = numberZ s.data.toList p x) := by
  show _ = _
  unfold takeZ
  rw [if_neg (by rw [h1]; decide)]
  rw [if_neg h2]
  rw [if_neg (by rw [h3, h4]; decide)]
  rw [if_neg h5]
  rw [if_neg (by rw [h6]; decide)]
  rw [if_neg (by rw [h7]; decide)]
 have p0 : (0 : Int) ≤ p := by omega
 have p1 : (p : Int) ≤ s.size := by omega
 have p2 : (s.size : Int) ≤ 1000000 := by omega
 have HT0 := Lib.hid hT
 have HB := Lib.hid hb
 have HO := Lib.hid ho
 rw [HZ.out]
 clear hb ho hT hne
 rw [h1] at CB
 have q2 : (runeR (s.data.toList.drop p) == 10) = false := by simpa using h2
 have q5 : (runeR (s.data.toList.drop p) == 35) = false := by simpa using h5
 have CK := Lib.hid (fun y => isBlank_any (runeR (s.data.toList.drop p)) y)
 have CF := Lib.hid (fun y (hy : Tabs y) => isFirst_any (runeR (s.data.toList.drop p)) y (i32_rune _ HRR.out) hy)
 have CS := Lib.hid (fun y => isSign_any (runeR (s.data.toList.drop p)) y)
 rw [h4] at CK
 rw [h6] at CF
 rw [h7] at CS
 rw [h3] at HB z3
 clear h2 h4 h5 h6 h7 HRR
 generalize runeR (s.data.toList.drop p) = R at CB CK CF CS q2 q5 ⊢
 go_enter Tryd.func29, Tryd.ntmps29
 go_wp2_with fail
 refine (CB.out _ HT0.out.now).mono ?_; rintro e w1 ⟨rfl, hb1⟩
 have S1 := Lib.hid (HX.out.below hb1)
 have T1 := Lib.hid (TurnB.of_below (b := b) (Bt := Bt) hb1 (by omega) hBt)
 have B1 := Lib.hid (HB.out.below hb1 hlt)
 have hs1 := hb1.size
 clear hb1
 have y0 := B1.out.cell (k := 0) rfl
 have y3 := B1.out.cell (k := 3) rfl
 have f3 := B1.out.frozen 3
 clear z0 z3 g3
 go_wp2_with fail
 refine (CK.out _).mono ?_; rintro e w2 ⟨rfl, rfl⟩
 go_wp2_with fail
 refine (CF.out _ (HT0.out.go T1.out.bel).now).mono ?_; rintro e w3 ⟨rfl, hb3⟩
 have S3 := Lib.hid (S1.out.below hb3)
 have T3 := Lib.hid (T1.out.trans (TurnB.of_below (b := b) (Bt := Bt) hb3 (by omega) (by omega)))
 have hs3 := hb3.size
 have B3 := Lib.hid (B1.out.below hb3 (by omega))
 clear hb3 y0 y3 f3 S1 T1 B1
 go_wp2_with fail
 refine (CS.out _).mono ?_; rintro e w4 ⟨rfl, rfl⟩
 go_wp2_with fail
 refine (number_any s x p b Bt w3 hB (by omega) hs S3.out ht hp).mono ?_
 rintro e w5 ⟨rfl, hs5, ht5⟩
 have S5 := Lib.hid hs5
 have T5 := Lib.hid (T3.out.trans ht5)
 clear hs5 ht5
 go_wp2_with fail
 go_ret
 exact ⟨rfl, S5.out, T5.out⟩
theorem take_any (s : ByteArray) (x : LexS) (p b Bt : Nat) (w : World) (hT : TabsB b w) (hB : b < Bt) (hBt : Bt ≤ w.heap.size) (hs : s.size ≤ 1000000) (hx : Spl w b Bt s x) (ht : x.toks.length ≤ 1000000) (hp : p < s.size) :
  Calls Tryd.prog 29 #[.pointer (some ⟨b, 0, none⟩), .int .i64 (p : Int), .int .i32 (runeR (s.data.toList.drop p))] w fun e w' => e = .returned (.int .i64 (takeZ s.data.toList p x).1) ∧ Spl w' b Bt s (takeZ s.data.toList p x).2 ∧ TurnB b Bt w w' := by
 cases h1 : badR (s.data.toList.drop p)
 rotate_left
 ·exact take_bad s x p b Bt w hT hB hBt hs hx ht hp h1
 by_cases h2 : runeR (s.data.toList.drop p) = 10
 ·exact take_line s x p b Bt w hT hB hBt hs hx ht hp h1 h2
 cases h3 : x.remark
 rotate_left
 ·exact take_remark s x p b Bt w hT hB hBt hs hx ht hp h1 h2 h3
 cases h4 : blankR (runeR (s.data.toList.drop p))
 rotate_left
 ·exact take_blank s x p b Bt w hT hB hBt hs hx ht hp h1 h2 h3 h4
 by_cases h5 : runeR (s.data.toList.drop p) = 35
 ·exact take_hash s x p b Bt w hT hB hBt hs hx ht hp h1 h2 h3 h4 h5
 cases h6 : firstR (runeR (s.data.toList.drop p))
 rotate_left
 ·exact take_name s x p b Bt w hT hB hBt hs hx ht hp h1 h2 h3 h4 h5 h6
 cases h7 : signR (runeR (s.data.toList.drop p))
 ·exact take_number s x p b Bt w hT hB hBt hs hx ht hp h1 h2 h3 h4 h5 h6 h7
 ·exact take_sign s x p b Bt w hT hB hBt hs hx ht hp h1 h2 h3 h4 h5 h6 h7
end Go.Proofs.YtcaibahniheohaaDoor.Words

/- Contract of package lex's Split. -/
namespace Go.Proofs.YtcaibahniheohaaDoor.Words
set_option maxRecDepth 100000
open Go.RowKit Go.Shelf Go.Lib
set_option linter.unusedVariables false
theorem lineZ_len (l : List UInt8) (p : Nat) (x : LexS) : (lineZ l p x).toks.length ≤ x.toks.length + 1 := by
 unfold lineZ addZ
 split <;> simp
theorem takeZ_len (l : List UInt8) (p : Nat) (x : LexS) : (takeZ l p x).2.toks.length ≤ x.toks.length + 1 := by
 unfold takeZ numberZ
 have h := lineZ_len l p { x with remark := false }
 repeat' split
 all_goals first
  | (exact h)
  | (simp [addZ])
theorem lexF_end (l : List UInt8) (f p : Nat) (x : LexS) (h : ¬ p < l.length) : lexF l f p x = .toks x.toks := by
 cases f with
 | zero => rfl
 | succ f => unfold lexF; rw [if_neg h]
def LexOut (Z : LexR) (base : Nat) (e : Ending) (w : World) : Prop :=
 match Z with
 | .toks t => ∃ v, e = .returned (.tuple #[v, .int .i64 (-1), .int .i64 0]) ∧ w.ownsRow base 48 4 v t.length (toksL t)
 | .bad a k => e = .returned (.tuple #[.slice none 0 0, .int .i64 (a : Int), .int .i64 k])
theorem LexOut.toks {Z : LexR} {base : Nat} {e : Ending} {w : World} {t : List Tok} {v : Value} (h : Z = .toks t) (he : e = .returned (.tuple #[v, .int .i64 (-1), .int .i64 0])) (ho : w.ownsRow base 48 4 v t.length (toksL t)) : LexOut Z base e w := by
 subst h; exact ⟨v, he, ho⟩
theorem LexOut.bad {Z : LexR} {base : Nat} {e : Ending} {w : World} {a : Nat} {k : Int} (h : Z = .bad a k) (he : e = .returned (.tuple #[.slice none 0 0, .int .i64 (a : Int), .int .i64 k])) : LexOut Z base e w := by
 subst h; exact he
theorem iterAt_grown (w : World) (k : Nat) (s : ByteArray) (p : Nat) : w.grownBy (w.iterAt k s p) (some k) :=
 ⟨rfl, rfl, rfl, by rw [Lib.iterAt_size]; exact Nat.le_refl _, fun i _ hne => Lib.iterAt_other w k i s p (fun e => hne (by rw [e]))⟩
theorem Spl.iterAt {w : World} {b Bt k : Nat} {s s' : ByteArray} {x : LexS} (h : Spl w b Bt s x) (p : Nat) (hb : b ≠ k) (hk : k < Bt) : Spl (w.iterAt k s' p) b Bt s x := by
 obtain ⟨vt, h1, h2⟩ := h
 exact ⟨vt, h1.grown (iterAt_grown _ _ _ _) (fun e => hb (by injection e)), own_grown h2 (iterAt_grown _ _ _ _) (fun g hg e => by have := (h2.lt g hg).1; injection e with e; omega)⟩
set_option maxHeartbeats 2000000 in
theorem split_any (s : ByteArray) (w : World) (hs : s.size ≤ 9223372036854775807) (hT : Tabs w) :
  Calls Tryd.prog 15 #[.string s] w fun e w' => LexOut (lexZ s.data.toList) w.heap.size e w' ∧ Below w.heap.size w w' := by
 have HT := Lib.hid hT.all
 have hl := data_len s
 have HL := Lib.hid hl
 clear hT
 by_cases hlong : 20000 < s.size
 ·have hz : Hid (lexZ s.data.toList = .bad 0 7) := by show _ = _; unfold lexZ; rw [if_pos (by omega)]
  have q1 : decide (20000 < (s.size : Int)) = true := decide_eq_true (by omega)
  have q2 : decide (20000 < s.size) = true := decide_eq_true hlong
  clear hl
  go_enter Tryd.func15, Tryd.ntmps15
  go_wp2
  refine bodyPost_ret (v := .tuple #[.slice none 0 0, .int .i64 0, .int .i64 7]) (by simp [results, Tryd.results15, go_sem]) rfl ⟨LexOut.bad hz.out rfl, Below.refl _ _⟩
 ·have HZ : Hid (lexZ s.data.toList = lexF s.data.toList s.data.toList.length 0 ⟨0, false, []⟩) := by show _ = _; unfold lexZ; rw [if_neg (by omega)]
  generalize lexZ s.data.toList = Z at *
  have q1 : decide (20000 < (s.size : Int)) = false := decide_eq_false (by omega)
  have q2 : decide (20000 < s.size) = false := decide_eq_false hlong
  have hs2 : s.size ≤ 20000 := by omega
  have B0 : Hid (Box (w.alloc (.cells #[.string s, .slice none 0 0, .int .i64 0, .bool false] 78)) w.heap.size (splL s (.slice none 0 0) 0 false)) := Box.new w (splL s (.slice none 0 0) 0 false) _
  have K0 := Lib.hid ((Below.refl w.heap.size w).alloc (Nat.le_refl _) (.cells #[.string s, .slice none 0 0, .int .i64 0, .bool false] 78))
  have hs0 : (w.alloc (.cells #[.string s, .slice none 0 0, .int .i64 0, .bool false] 78)).heap.size = w.heap.size + 1 := by simp
  clear hl hs hlong
  go_enter Tryd.func15, Tryd.ntmps15
  go_wp2
  go_loopw [] (fun wr => ∃ (pos fuel : Nat) (x : LexS), Spl wr w.heap.size (w.heap.size + 2) s x ∧ wr.heap[w.heap.size + 1]? = some (.stringIter s pos) ∧ Below w.heap.size w wr ∧ lexF s.data.toList fuel pos x = Z ∧ s.size ≤ pos + fuel ∧ pos ≤ s.size ∧ x.toks.length ≤ pos) (fun wr => s.size - wr.iterPos (w.heap.size + 1))
  case atStart =>
   refine ⟨0, s.data.toList.length, ⟨0, false, []⟩, ⟨.slice none 0 0, B0.out.alloc _, World.ownsRow_nil _ _ _ _⟩, ?_, K0.out.alloc (by simp) _, HZ.out.symm, by rw [HL.out]; omega, Nat.zero_le _, Nat.le_refl _⟩
   have := World.iter_heap (w.alloc (.cells #[.string s, .slice none 0 0, .int .i64 0, .bool false] 78)) s 0
   simpa using this
  case round =>
   obtain ⟨pos, fuel, x, hspl, hit, hbw, hn, hf, hp, htl⟩ := hrel
   have HIT := Lib.hid hit
   have HN := Lib.hid hn
   have hsz : w.heap.size + 1 < wr.heap.size := (Array.getElem?_eq_some_iff.1 hit).1
   have hll := HL.out
   by_cases hlt : pos < s.size
   ·have hnx := fun ty => next_rune (P := Tryd.prog) hit hlt ty
    obtain ⟨f, rfl⟩ : ∃ f, fuel = f + 1 := ⟨fuel - 1, by omega⟩
    have HWD := Lib.hid (wideR_pos (s.data.toList.drop pos))
    have HWI := Lib.hid (wide_in (l := s.data.toList) (p := pos) (by omega))
    have HST : Hid (lexF s.data.toList (f + 1) pos x = if pos < x.behind then lexF s.data.toList f (pos + wideR (s.data.toList.drop pos)) x else if (takeZ s.data.toList pos x).1 = 0 then lexF s.data.toList f (pos + wideR (s.data.toList.drop pos)) (takeZ s.data.toList pos x).2 else .bad pos (takeZ s.data.toList pos x).1) := by
     show _ = _
     conv => lhs; unfold lexF
     rw [if_pos (by omega)]
    have HTL := Lib.hid (takeZ_len s.data.toList pos x)
    generalize wideR (s.data.toList.drop pos) = WD at *
    have hit2 := Lib.iterAt_heap wr (w.heap.size + 1) s pos (pos + WD) hit
    have HIT2 := Lib.hid hit2
    have hspl2 : Spl (wr.iterAt (w.heap.size + 1) s (pos + WD)) w.heap.size (w.heap.size + 2) s x := hspl.iterAt _ (by omega) (by omega)
    have HSPL2 := Lib.hid hspl2
    have HBW2 := Lib.hid (Lib.below_iterAt hbw (k := w.heap.size + 1) (by omega) s (pos + WD))
    have hsz2 : (wr.iterAt (w.heap.size + 1) s (pos + WD)).heap.size = wr.heap.size := Lib.iterAt_size _ _ _ _
    have HSZ2 := Lib.hid hsz2
    have HTL2 := Lib.hid htl
    obtain ⟨vt, hb2, ho2⟩ := hspl2
    have z2 := hb2.cell (k := 2) rfl
    clear hit hn hit2 hspl hb2 ho2 hsz2 hbw
    by_cases hbh : pos < x.behind
    ·have c1 : decide ((pos : Int) < x.behind) = true := decide_eq_true (by omega)
     have c2 : decide (pos < x.behind) = true := decide_eq_true hbh
     have HBH := Lib.hid hbh
     go_wp2_with fail
     go_roundw
     case rel => exact ⟨pos + WD, f, x, HSPL2.out, HIT2.out, HBW2.out, by rw [← HN.out, HST.out, if_pos HBH.out], by have := HWD.out; omega, by have := HWI.out; omega, by have := HTL2.out; omega⟩
     case measure =>
      simp only [World.iterPos, HIT2.out, HIT.out]
      have := HWD.out; omega
    ·have c1 : decide ((pos : Int) < x.behind) = false := decide_eq_false (by omega)
     have c2 : decide (pos < x.behind) = false := decide_eq_false hbh
     have HBH := Lib.hid hbh
     have HT2 := Lib.hid (HT.out.go HBW2.out)
     go_wp2_with fail
     refine (take_any s x pos w.heap.size (w.heap.size + 2) _ HT2.out (by omega) (by rw [HSZ2.out]; omega) (by omega) HSPL2.out (by have := HTL2.out; omega) hlt).mono ?_
     rintro e w3 ⟨rfl, hs3, ht3⟩
     have S3 := Lib.hid hs3
     have IT3 : Hid (w3.heap[w.heap.size + 1]? = some (.stringIter s (pos + WD))) := (ht3.mid _ (by omega) (by omega)).trans HIT2.out
     have K3 := Lib.hid (HBW2.out.trans ht3.bel)
     clear hs3 ht3 z2
     generalize takeZ s.data.toList pos x = TK at *
     obtain ⟨er, x'⟩ := TK
     simp only at *
     by_cases he : er = 0
     ·have hq : (er != 0) = false := by simpa using he
      have HE := Lib.hid he
      clear he
      go_wp2_with fail
      go_roundw
      case rel => exact ⟨pos + WD, f, x', S3.out, IT3.out, K3.out, by rw [← HN.out, HST.out, if_neg HBH.out, if_pos HE.out], by have := HWD.out; omega, by have := HWI.out; omega, by have := HTL.out; have := HTL2.out; have := HWD.out; omega⟩
      case measure =>
       simp only [World.iterPos, IT3.out, HIT.out]
       have := HWD.out; omega
     ·have hq : (er != 0) = true := by simpa using he
      have hz : Hid (Z = .bad pos er) := by show _ = _; rw [← HN.out, HST.out, if_neg HBH.out, if_neg he]
      clear he
      go_wp2_with fail
      refine bodyPost_ret (v := .tuple #[.slice none 0 0, .int .i64 (pos : Int), .int .i64 er]) (by simp [results, Tryd.results15, go_sem]) rfl ⟨LexOut.bad hz.out rfl, K3.out⟩
   ·have hnx := fun ty => next_none (P := Tryd.prog) hit hlt ty
    have hz : Hid (Z = .toks x.toks) := by show _ = _; rw [← hn, lexF_end _ _ _ _ (by omega)]
    obtain ⟨vt, hb2, ho2⟩ := hspl
    obtain ⟨A, c, rfl⟩ := (Row.of_own ho2).form
    have z1 := hb2.cell (k := 1) rfl
    have HO := Lib.hid (own_base ho2 (show w.heap.size ≤ w.heap.size + 2 by omega))
    clear hn hit hb2 ho2
    go_wp2
    refine bodyPost_ret (v := .tuple #[.slice A x.toks.length c, .int .i64 (-1), .int .i64 0]) (by simp [results, Tryd.results15, go_sem]) rfl ⟨LexOut.toks hz.out rfl HO.out, hbw⟩
end Go.Proofs.YtcaibahniheohaaDoor.Words

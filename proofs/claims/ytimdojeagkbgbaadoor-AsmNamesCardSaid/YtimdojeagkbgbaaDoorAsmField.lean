/- Contracts of package asm's register, target and field. -/
import Derived.Test.YtimdojeagkbgbaaDoorAsmSmall
import Derived.Test.YtimdojeagkbgbaaDoorAsmReg
namespace Go.Proofs.YtimdojeagkbgbaaDoor.Words
set_option maxRecDepth 100000
open Go.RowKit Go.Shelf Go.Lib
set_option linter.unusedVariables false
set_option linter.unusedSimpArgs false

theorem regT_cons (t : Tok) (ts : List Tok) : regT (t :: ts) = match regZ t.text with | some n => (some n, ts) | none => (none, t :: ts) := rfl
theorem regT_none {r : List Tok} (e : Nat) (h : (regT r).1 = none) : regZ (nextT r e).text = none ∧ (regT r).2 = r := by
  cases r with
  | nil => exact ⟨rfl, rfl⟩
  | cons t ts =>
    rw [regT_cons] at h ⊢
    cases h1 : regZ t.text with
    | none => exact ⟨h1, rfl⟩
    | some n => rw [h1] at h; cases h
theorem regT_some {r : List Tok} (e : Nat) {n : Int} (h : (regT r).1 = some n) : regZ (nextT r e).text = some n ∧ r = nextT r e :: (regT r).2 := by
  cases r with
  | nil => cases h
  | cons t ts =>
    rw [regT_cons] at h ⊢
    cases h1 : regZ t.text with
    | none => rw [h1] at h; cases h
    | some k => rw [h1] at h; exact ⟨h1.trans h, rfl⟩
theorem next_in {r : List Tok} {e : Nat} (h : ∀ t ∈ r, TokIn t) : (nextT r e).text.length ≤ 1000000 := by
  cases r with
  | nil => simp [nextT]
  | cons t ts => exact (h t (by simp)).text
theorem txt_data (l : List UInt8) : (txt l).data.toList = l := by simp
theorem txt_sz (l : List UInt8) : (txt l).size = l.length := by rw [← data_len, txt_data]

set_option maxHeartbeats 2000000 in
theorem register_any (w : World) (b e : Nat) (r : List Tok) (vp : Value) (ps : List PartZ) (x k : Nat) (l : List Value) (hP : Par w b e r vp ps) (hx : Box w x l) (hk : k < l.length) (hbx : b < x) (hpx : vp.ownBlock ≠ some x) :
    Calls Tryd.prog 104 #[.pointer (some ⟨b, 0, none⟩), .pointer (some ⟨x, k, none⟩)] w fun en w' => en = .returned (.bool (regT r).1.isSome) ∧ Par w' b e (regT r).2 vp ps ∧
      Box w' x (match (regT r).1 with | some n => l.set k (.int .i64 n) | none => l) ∧ KeepS (fun j => j = b ∨ j = x) w w' := by
  have HP := Lib.hid hP
  have HX := Lib.hid hx
  have hN := next_any w b e r vp ps hP
  have hlt := hP.lt
  have hxl := hx.lt
  have hti := next_in (e := e) hP.toks
  have cR := Lib.hid (fun y => registerOf_any (txt (nextT r e).text) y (by rw [txt_sz]; omega))
  rw [txt_data] at cR
  cases hs : (regT r).1 with
  | none =>
    obtain ⟨h1, h2⟩ := regT_none e hs
    rw [h1] at cR
    have HS := Lib.hid h2
    generalize nextT r e = t at *
    clear hP hx h1 h2 hti
    have fd := field_text t
    go_enter Tryd.func104, Tryd.ntmps104
    go_wp2_with fail
    refine hN.mono ?_; rintro en w1 ⟨rfl, hb1⟩
    have HB1 := Lib.hid hb1
    clear hb1
    go_wp2_with fail
    refine (cR.out _).mono ?_; rintro en w2 ⟨⟨m, rfl, _⟩, hb2⟩
    have HB2 := Lib.hid (HB1.out.trans (hb2.mono HB1.out.size))
    clear hb2
    simp only [Option.isSome_none]
    go_wp2_with fail
    go_ret
    refine ⟨rfl, ?_, ?_, ?_⟩
    · rw [HS.out]; exact HP.out.go HB2.out
    · exact HX.out.below HB2.out hxl
    · exact KeepS.of_below HB2.out
  | some n =>
    obtain ⟨h1, h2⟩ := regT_some e hs
    rw [h1] at cR
    have HS := Lib.hid h2
    generalize nextT r e = t at *
    clear hP hx h2 h1 hti
    have fd := field_text t
    go_enter Tryd.func104, Tryd.ntmps104
    go_wp2_with fail
    refine hN.mono ?_; rintro en w0 ⟨rfl, hb0⟩
    have HB0 := Lib.hid hb0
    clear hb0
    go_wp2_with fail
    refine (cR.out _).mono ?_; rintro en w1 ⟨⟨m, rfl, hm⟩, hb2⟩
    obtain rfl := hm n rfl
    have hb1 := HB0.out.trans (hb2.mono HB0.out.size)
    have HB1 := Lib.hid hb1
    have hx1 : Hid (Box w1 x l) := HX.out.below hb1 hxl
    have hs1 := hb1.size
    clear hb1 hb2
    obtain ⟨v0, hv0⟩ : ∃ v0, l[k]? = some v0 := ⟨_, List.getElem?_eq_getElem hk⟩
    have y0 := hx1.out.cell hv0
    have fy := hx1.out.frozen k
    have P2 := Lib.hid (HP.out.go HB1.out)
    have K2 := Lib.hid (KeepS.of_below (S := fun j => j = b ∨ j = x) HB1.out)
    simp only [Option.isSome_some]
    go_wp2_with fail
    have X3 : Hid (Box (w1.setCell ⟨x, k, none⟩ (.int .i64 m)) x (l.set k (.int .i64 m))) := hx1.out.setCell k _
    have P3 := P2.out.set hbx hpx k (.int .i64 m)
    rw [HS.out] at P3
    have P4 := Lib.hid P3
    have K3 := Lib.hid (K2.out.setCell (.inr rfl) k (.int .i64 m))
    have hs3 : (w1.setCell ⟨x, k, none⟩ (.int .i64 m)).heap.size = w1.heap.size := by simp [World.setCell]
    clear P3
    refine (skip_any _ _ _ _ _ _ _ P4.out).mono ?_; rintro en w3 ⟨rfl, hp3, hk3⟩
    have H3 := Lib.hid hp3
    have HK3 := Lib.hid hk3
    clear hp3 hk3
    go_wp2_with fail
    go_ret
    exact ⟨rfl, H3.out, X3.out.keepS HK3.out (by omega), K3.out.trans (HK3.out.mono (fun j hj => .inl hj))⟩

theorem partL_set5 (x : PartZ) (n : Int) : (partL x).set 5 (.int .i64 n) = partL { x with ins := { x.ins with d := n } } := rfl
theorem partL_set6 (x : PartZ) (n : Int) : (partL x).set 6 (.int .i64 n) = partL { x with ins := { x.ins with a := n } } := rfl
theorem partL_set7 (x : PartZ) (n : Int) : (partL x).set 7 (.int .i64 n) = partL { x with ins := { x.ins with b := n } } := rfl
theorem partL_set8 (x : PartZ) (n : Int) : (partL x).set 8 (.int .i64 n) = partL { x with ins := { x.ins with imm := n } } := rfl
theorem partL_set2 (x : PartZ) (n : Int) : (partL x).set 2 (.int .i64 n) = partL { x with num := n } := rfl
theorem partL_target (x : PartZ) (t : Tok) : (((((partL x).set 9 (.int .i64 t.kind)).set 10 (.int .i64 t.num)).set 11 (.int .i64 (t.at_ : Int))).set 12 (.string (txt t.text))) = partL { x with target := t } := rfl
/-- What a field's call leaves. -/
def FieldOut (w : World) (b e : Nat) (vp : Value) (ps : List PartZ) (x : Nat) (Z : Bool × PartZ × List Tok) (en : Ending) (w' : World) : Prop :=
  en = .returned (.bool Z.1) ∧ Par w' b e Z.2.2 vp ps ∧ Box w' x (partL Z.2.1) ∧ KeepS (fun j => j = b ∨ j = x) w w'
theorem FieldOut.reg {w w' : World} {b e x k : Nat} {r : List Tok} {vp : Value} {ps : List PartZ} {Z : Bool × PartZ × List Tok} {l : List Value} {en : Ending}
    (h : en = .returned (.bool (regT r).1.isSome) ∧ Par w' b e (regT r).2 vp ps ∧ Box w' x (match (regT r).1 with | some n => l.set k (.int .i64 n) | none => l) ∧ KeepS (fun j => j = b ∨ j = x) w w')
    (h1 : Z.1 = (regT r).1.isSome) (h2 : Z.2.2 = (regT r).2) (h3 : partL Z.2.1 = match (regT r).1 with | some n => l.set k (.int .i64 n) | none => l) : FieldOut w b e vp ps x Z en w' := by
  unfold FieldOut; rw [h1, h2, h3]; exact h
theorem FieldOut.imm {w w' : World} {b e x k : Nat} {r : List Tok} {vp : Value} {ps : List PartZ} {Z : Bool × PartZ × List Tok} {l : List Value} {en : Ending}
    (h : en = .returned (.bool (immT r).1.isSome) ∧ Par w' b e (immT r).2 vp ps ∧ Box w' x (match (immT r).1 with | some n => l.set k (.int .i64 n) | none => l) ∧ KeepS (fun j => j = b ∨ j = x) w w')
    (h1 : Z.1 = (immT r).1.isSome) (h2 : Z.2.2 = (immT r).2) (h3 : partL Z.2.1 = match (immT r).1 with | some n => l.set k (.int .i64 n) | none => l) : FieldOut w b e vp ps x Z en w' := by
  unfold FieldOut; rw [h1, h2, h3]; exact h
theorem fieldT_68 (x : PartZ) (r : List Tok) : fieldT 68 x r = (match regT r with | (some n, ts) => (true, { x with ins := { x.ins with d := n } }, ts) | (none, ts) => (false, x, ts)) := by unfold fieldT; rw [if_pos rfl] <;> rfl
theorem fieldT_65 (x : PartZ) (r : List Tok) : fieldT 65 x r = (match regT r with | (some n, ts) => (true, { x with ins := { x.ins with a := n } }, ts) | (none, ts) => (false, x, ts)) := by unfold fieldT; rw [if_neg (by decide), if_pos rfl] <;> rfl
theorem fieldT_66 (x : PartZ) (r : List Tok) : fieldT 66 x r = (match regT r with | (some n, ts) => (true, { x with ins := { x.ins with b := n } }, ts) | (none, ts) => (false, x, ts)) := by unfold fieldT; rw [if_neg (by decide), if_neg (by decide), if_pos rfl] <;> rfl
theorem fieldT_78 (x : PartZ) (r : List Tok) : fieldT 78 x r = (match immT r with | (some n, ts) => (true, { x with ins := { x.ins with imm := n } }, ts) | (none, ts) => (false, x, ts)) := by unfold fieldT; rw [if_neg (by decide), if_neg (by decide), if_neg (by decide), if_pos rfl] <;> rfl
theorem fieldT_84 (x : PartZ) (r : List Tok) : fieldT 84 x r = (match r with
    | t :: ts => if t.kind = 1 then (true, { x with target := t }, ts) else (match immT (t :: ts) with | (some n, ts) => (true, { x with ins := { x.ins with imm := n } }, ts) | (none, ts) => (false, x, ts))
    | [] => (false, x, [])) := by unfold fieldT; rw [if_neg (by decide), if_neg (by decide), if_neg (by decide), if_neg (by decide), if_pos rfl] <;> rfl
theorem fieldT_sign {c : Int} (h : c = 44 ∨ c = 40 ∨ c = 41) (x : PartZ) (r : List Tok) : fieldT c x r = ((signT [UInt8.ofNat c.toNat] r).1, x, (signT [UInt8.ofNat c.toNat] r).2) := by
  unfold fieldT
  rw [if_neg (by omega), if_neg (by omega), if_neg (by omega), if_neg (by omega), if_neg (by omega)]
/-- A label's target, or none. -/
theorem target_next {r : List Tok} (e : Nat) (x : PartZ) (h : (nextT r e).kind = 1) : r = nextT r e :: (fieldT 84 x r).2.2 ∧ (fieldT 84 x r).1 = true ∧ (fieldT 84 x r).2.1 = { x with target := nextT r e } := by
  rw [fieldT_84]
  cases r with
  | nil => exact absurd h (by simp [nextT])
  | cons t ts =>
    have h2 : t.kind = 1 := h
    simp [h2, nextT]
theorem target_imm {r : List Tok} (e : Nat) (x : PartZ) (h : (nextT r e).kind ≠ 1) : (fieldT 84 x r).1 = (immT r).1.isSome ∧ (fieldT 84 x r).2.2 = (immT r).2 ∧ partL (fieldT 84 x r).2.1 = match (immT r).1 with | some n => (partL x).set 8 (.int .i64 n) | none => partL x := by
  rw [fieldT_84]
  cases r with
  | nil => exact ⟨rfl, rfl, rfl⟩
  | cons t ts =>
    have h2 : ¬ t.kind = 1 := h
    simp only [h2, if_false]
    generalize immT (t :: ts) = Q
    obtain ⟨o, ts2⟩ := Q
    cases o <;> exact ⟨rfl, rfl, rfl⟩

set_option maxHeartbeats 2000000 in
theorem target_any (w : World) (b e : Nat) (r : List Tok) (vp : Value) (ps : List PartZ) (x : Nat) (xz : PartZ) (hP : Par w b e r vp ps) (hx : Box w x (partL xz)) (hbx : b < x) (hpx : vp.ownBlock ≠ some x) :
    Calls Tryd.prog 105 #[.pointer (some ⟨b, 0, none⟩), .pointer (some ⟨x, 0, none⟩)] w (FieldOut w b e vp ps x (fieldT 84 xz r)) := by
  have HP := Lib.hid hP
  have HX := Lib.hid hx
  have hN := next_any w b e r vp ps hP
  have hlt := hP.lt
  have hxl := hx.lt
  by_cases hk : (nextT r e).kind = 1
  · obtain ⟨h1, h2, h3⟩ := target_next e xz hk
    have H1 := Lib.hid h1
    have HZ : Hid (∀ en w', (en = .returned (.bool true) ∧ Par w' b e (fieldT 84 xz r).2.2 vp ps ∧ Box w' x (partL { xz with target := nextT r e }) ∧ KeepS (fun j => j = b ∨ j = x) w w') → FieldOut w b e vp ps x (fieldT 84 xz r) en w') := by
      intro en w' h; unfold FieldOut; rw [h2, h3]; exact h
    generalize fieldT 84 xz r = Z at *
    generalize nextT r e = t at *
    have h4 : (t.kind != 1) = false := by simp [hk]
    clear hP hx h1 h2 h3 hk
    go_enter Tryd.func105, Tryd.ntmps105
    go_wp2_with fail
    refine hN.mono ?_; rintro en w1 ⟨rfl, hb1⟩
    have HB1 := Lib.hid hb1
    have hx1 : Hid (Box w1 x (partL xz)) := HX.out.below hb1 hxl
    have hs1 := hb1.size
    clear hb1
    have X2 := Lib.hid (hx1.out.alloc (.cells #[.int .i64 t.kind, .int .i64 t.num, .int .i64 (t.at_ : Int), .string (txt t.text)] 33))
    have P2 := Lib.hid ((HP.out.go HB1.out).alloc (.cells #[.int .i64 t.kind, .int .i64 t.num, .int .i64 (t.at_ : Int), .string (txt t.text)] 33))
    have K2 := Lib.hid ((KeepS.of_below (S := fun j => j = b ∨ j = x) HB1.out).alloc (.cells #[.int .i64 t.kind, .int .i64 t.num, .int .i64 (t.at_ : Int), .string (txt t.text)] 33))
    have y9 := X2.out.cell (k := 9) rfl
    have y10 := X2.out.cell (k := 10) rfl
    have y11 := X2.out.cell (k := 11) rfl
    have y12 := X2.out.cell (k := 12) rfl
    have g9 := X2.out.frozen 9
    have g10 := X2.out.frozen 10
    have g11 := X2.out.frozen 11
    have g12 := X2.out.frozen 12
    go_wp2_with fail
    have hk4 : KeepS (fun j => j = x) (w1.alloc (.cells #[.int .i64 t.kind, .int .i64 t.num, .int .i64 (t.at_ : Int), .string (txt t.text)] 33)) (((((w1.alloc (.cells #[.int .i64 t.kind, .int .i64 t.num, .int .i64 (t.at_ : Int), .string (txt t.text)] 33)).setCell ⟨x, 9, none⟩ (.int .i64 t.kind)).setCell ⟨x, 10, none⟩ (.int .i64 t.num)).setCell ⟨x, 11, none⟩ (.int .i64 (t.at_ : Int))).setCell ⟨x, 12, none⟩ (.string (txt t.text))) :=
      ((((KeepS.refl (fun j => j = x) _).setCell rfl _ _).setCell rfl _ _).setCell rfl _ _).setCell rfl _ _
    have X3 : Hid (Box (((((w1.alloc (.cells #[.int .i64 t.kind, .int .i64 t.num, .int .i64 (t.at_ : Int), .string (txt t.text)] 33)).setCell ⟨x, 9, none⟩ (.int .i64 t.kind)).setCell ⟨x, 10, none⟩ (.int .i64 t.num)).setCell ⟨x, 11, none⟩ (.int .i64 (t.at_ : Int))).setCell ⟨x, 12, none⟩ (.string (txt t.text))) x (partL { xz with target := t })) := by
      rw [← partL_target]
      exact (((X2.out.setCell 9 _).setCell 10 _).setCell 11 _).setCell 12 _
    have P3 := P2.out.keepS hk4 (fun j hj => by omega) (fun g hg e => hpx (by rw [hg, e]))
    rw [H1.out] at P3
    have P4 := Lib.hid P3
    have K3 := Lib.hid (K2.out.trans (hk4.mono (fun j hj => .inr hj)))
    clear P3 hk4
    refine (skip_any _ _ _ _ _ _ _ P4.out).mono ?_; rintro en w3 ⟨rfl, hp3, hk3⟩
    have H3 := Lib.hid hp3
    have HK3 := Lib.hid hk3
    clear hp3 hk3
    go_wp2_with fail
    go_ret
    exact HZ.out _ _ ⟨rfl, H3.out, X3.out.keepS HK3.out (by omega), K3.out.trans (HK3.out.mono (fun j hj => .inl hj))⟩
  · obtain ⟨h1, h2, h3⟩ := target_imm e xz hk
    have HZ : Hid (∀ en w', (en = .returned (.bool (immT r).1.isSome) ∧ Par w' b e (immT r).2 vp ps ∧ Box w' x (match (immT r).1 with | some n => (partL xz).set 8 (.int .i64 n) | none => partL xz) ∧ KeepS (fun j => j = b ∨ j = x) w w') → FieldOut w b e vp ps x (fieldT 84 xz r) en w') :=
      fun en w' h => FieldOut.imm h h1 h2 h3
    generalize fieldT 84 xz r = Z at *
    have h4 : ((nextT r e).kind != 1) = true := by simpa using hk
    clear h1 h2 h3 hk hP hx
    generalize hT : nextT r e = t at *
    clear hT
    go_enter Tryd.func105, Tryd.ntmps105
    go_wp2_with fail
    refine hN.mono ?_; rintro en w1 ⟨rfl, hb1⟩
    have HB1 := Lib.hid hb1
    have hx1 : Hid (Box w1 x (partL xz)) := HX.out.below hb1 hxl
    have hs1 := hb1.size
    clear hb1
    have X2 := Lib.hid (hx1.out.alloc (.cells #[.int .i64 t.kind, .int .i64 t.num, .int .i64 (t.at_ : Int), .string (txt t.text)] 33))
    have P2 := Lib.hid ((HP.out.go HB1.out).alloc (.cells #[.int .i64 t.kind, .int .i64 t.num, .int .i64 (t.at_ : Int), .string (txt t.text)] 33))
    have K2 := Lib.hid ((KeepS.of_below (S := fun j => j = b ∨ j = x) HB1.out).alloc (.cells #[.int .i64 t.kind, .int .i64 t.num, .int .i64 (t.at_ : Int), .string (txt t.text)] 33))
    go_wp2_with fail
    refine (immediate_any _ b e r vp ps x 8 (partL xz) P2.out X2.out (show 8 < 13 by decide) hbx hpx).mono ?_; rintro en w3 ⟨rfl, hp3, hx3, hk3⟩
    have H3 := Lib.hid hp3
    have HX3 := Lib.hid hx3
    have HK3 := Lib.hid (K2.out.trans hk3)
    clear hp3 hk3 hx3
    go_wp2_with fail
    go_ret
    exact HZ.out _ _ ⟨rfl, H3.out, HX3.out, HK3.out⟩

set_option maxHeartbeats 2000000 in
theorem field_68 (w : World) (b e : Nat) (r : List Tok) (vp : Value) (ps : List PartZ) (x : Nat) (xz : PartZ) (hP : Par w b e r vp ps) (hx : Box w x (partL xz)) (hbx : b < x) (hpx : vp.ownBlock ≠ some x) :
    Calls Tryd.prog 100 #[.pointer (some ⟨b, 0, none⟩), .int .i32 68, .pointer (some ⟨x, 0, none⟩)] w (FieldOut w b e vp ps x (fieldT 68 xz r)) := by
  have hN := register_any w b e r vp ps x 5 (partL xz) hP hx (show 5 < 13 by decide) hbx hpx
  have HZ : Hid (∀ en w', (en = .returned (.bool (regT r).1.isSome) ∧ Par w' b e (regT r).2 vp ps ∧ Box w' x (match (regT r).1 with | some n => (partL xz).set 5 (.int .i64 n) | none => partL xz) ∧ KeepS (fun j => j = b ∨ j = x) w w') → FieldOut w b e vp ps x (fieldT 68 xz r) en w') := by
    intro en w' h
    refine FieldOut.reg h ?_ ?_ ?_ <;> (rw [fieldT_68]; generalize regT r = Q; obtain ⟨o, ts⟩ := Q; cases o <;> rfl)
  clear hP hx
  go_enter Tryd.func100, Tryd.ntmps100
  go_wp2_with fail
  refine hN.mono ?_; rintro en w1 ⟨rfl, h⟩
  have H := Lib.hid h
  clear h
  go_wp2_with fail
  go_ret
  exact HZ.out _ _ ⟨rfl, H.out⟩

set_option maxHeartbeats 2000000 in
theorem field_65 (w : World) (b e : Nat) (r : List Tok) (vp : Value) (ps : List PartZ) (x : Nat) (xz : PartZ) (hP : Par w b e r vp ps) (hx : Box w x (partL xz)) (hbx : b < x) (hpx : vp.ownBlock ≠ some x) :
    Calls Tryd.prog 100 #[.pointer (some ⟨b, 0, none⟩), .int .i32 65, .pointer (some ⟨x, 0, none⟩)] w (FieldOut w b e vp ps x (fieldT 65 xz r)) := by
  have hN := register_any w b e r vp ps x 6 (partL xz) hP hx (show 6 < 13 by decide) hbx hpx
  have HZ : Hid (∀ en w', (en = .returned (.bool (regT r).1.isSome) ∧ Par w' b e (regT r).2 vp ps ∧ Box w' x (match (regT r).1 with | some n => (partL xz).set 6 (.int .i64 n) | none => partL xz) ∧ KeepS (fun j => j = b ∨ j = x) w w') → FieldOut w b e vp ps x (fieldT 65 xz r) en w') := by
    intro en w' h
    refine FieldOut.reg h ?_ ?_ ?_ <;> (rw [fieldT_65]; generalize regT r = Q; obtain ⟨o, ts⟩ := Q; cases o <;> rfl)
  clear hP hx
  go_enter Tryd.func100, Tryd.ntmps100
  go_wp2_with fail
  refine hN.mono ?_; rintro en w1 ⟨rfl, h⟩
  have H := Lib.hid h
  clear h
  go_wp2_with fail
  go_ret
  exact HZ.out _ _ ⟨rfl, H.out⟩

set_option maxHeartbeats 2000000 in
theorem field_66 (w : World) (b e : Nat) (r : List Tok) (vp : Value) (ps : List PartZ) (x : Nat) (xz : PartZ) (hP : Par w b e r vp ps) (hx : Box w x (partL xz)) (hbx : b < x) (hpx : vp.ownBlock ≠ some x) :
    Calls Tryd.prog 100 #[.pointer (some ⟨b, 0, none⟩), .int .i32 66, .pointer (some ⟨x, 0, none⟩)] w (FieldOut w b e vp ps x (fieldT 66 xz r)) := by
  have hN := register_any w b e r vp ps x 7 (partL xz) hP hx (show 7 < 13 by decide) hbx hpx
  have HZ : Hid (∀ en w', (en = .returned (.bool (regT r).1.isSome) ∧ Par w' b e (regT r).2 vp ps ∧ Box w' x (match (regT r).1 with | some n => (partL xz).set 7 (.int .i64 n) | none => partL xz) ∧ KeepS (fun j => j = b ∨ j = x) w w') → FieldOut w b e vp ps x (fieldT 66 xz r) en w') := by
    intro en w' h
    refine FieldOut.reg h ?_ ?_ ?_ <;> (rw [fieldT_66]; generalize regT r = Q; obtain ⟨o, ts⟩ := Q; cases o <;> rfl)
  clear hP hx
  go_enter Tryd.func100, Tryd.ntmps100
  go_wp2_with fail
  refine hN.mono ?_; rintro en w1 ⟨rfl, h⟩
  have H := Lib.hid h
  clear h
  go_wp2_with fail
  go_ret
  exact HZ.out _ _ ⟨rfl, H.out⟩

set_option maxHeartbeats 2000000 in
theorem field_78 (w : World) (b e : Nat) (r : List Tok) (vp : Value) (ps : List PartZ) (x : Nat) (xz : PartZ) (hP : Par w b e r vp ps) (hx : Box w x (partL xz)) (hbx : b < x) (hpx : vp.ownBlock ≠ some x) :
    Calls Tryd.prog 100 #[.pointer (some ⟨b, 0, none⟩), .int .i32 78, .pointer (some ⟨x, 0, none⟩)] w (FieldOut w b e vp ps x (fieldT 78 xz r)) := by
  have hN := immediate_any w b e r vp ps x 8 (partL xz) hP hx (show 8 < 13 by decide) hbx hpx
  have HZ : Hid (∀ en w', (en = .returned (.bool (immT r).1.isSome) ∧ Par w' b e (immT r).2 vp ps ∧ Box w' x (match (immT r).1 with | some n => (partL xz).set 8 (.int .i64 n) | none => partL xz) ∧ KeepS (fun j => j = b ∨ j = x) w w') → FieldOut w b e vp ps x (fieldT 78 xz r) en w') := by
    intro en w' h
    refine FieldOut.imm h ?_ ?_ ?_ <;> (rw [fieldT_78]; generalize immT r = Q; obtain ⟨o, ts⟩ := Q; cases o <;> rfl)
  clear hP hx
  go_enter Tryd.func100, Tryd.ntmps100
  go_wp2_with fail
  refine hN.mono ?_; rintro en w1 ⟨rfl, h⟩
  have H := Lib.hid h
  clear h
  go_wp2_with fail
  go_ret
  exact HZ.out _ _ ⟨rfl, H.out⟩

set_option maxHeartbeats 2000000 in
theorem field_84 (w : World) (b e : Nat) (r : List Tok) (vp : Value) (ps : List PartZ) (x : Nat) (xz : PartZ) (hP : Par w b e r vp ps) (hx : Box w x (partL xz)) (hbx : b < x) (hpx : vp.ownBlock ≠ some x) :
    Calls Tryd.prog 100 #[.pointer (some ⟨b, 0, none⟩), .int .i32 84, .pointer (some ⟨x, 0, none⟩)] w (FieldOut w b e vp ps x (fieldT 84 xz r)) := by
  have hN := target_any w b e r vp ps x xz hP hx hbx hpx
  generalize fieldT 84 xz r = Z at *
  clear hP hx
  go_enter Tryd.func100, Tryd.ntmps100
  go_wp2_with fail
  refine hN.mono ?_; rintro en w1 ⟨rfl, h⟩
  have H := Lib.hid h
  clear h
  go_wp2_with fail
  go_ret
  exact ⟨rfl, H.out⟩

set_option maxHeartbeats 2000000 in
theorem field_44 (w : World) (b e : Nat) (r : List Tok) (vp : Value) (ps : List PartZ) (x : Nat) (xz : PartZ) (hP : Par w b e r vp ps) (hx : Box w x (partL xz)) (hbx : b < x) (hpx : vp.ownBlock ≠ some x) :
    Calls Tryd.prog 100 #[.pointer (some ⟨b, 0, none⟩), .int .i32 44, .pointer (some ⟨x, 0, none⟩)] w (FieldOut w b e vp ps x (fieldT 44 xz r)) := by
  have hN := sign_any w b e r vp ps [44] hP
  have hxl := hx.lt
  have HZ : Hid (∀ en w', (en = .returned (.bool (signT [44] r).1) ∧ Par w' b e (signT [44] r).2 vp ps ∧ KeepS (fun j => j = b) w w') → FieldOut w b e vp ps x (fieldT 44 xz r) en w') := by
    intro en w' h
    have e2 : fieldT 44 xz r = ((signT [44] r).1, xz, (signT [44] r).2) := fieldT_sign (by decide) xz r
    unfold FieldOut
    rw [e2]
    exact ⟨h.1, h.2.1, hx.keepS h.2.2 (fun e => by omega), h.2.2.mono (fun j hj => .inl hj)⟩
  clear hP hx
  go_enter Tryd.func100, Tryd.ntmps100
  go_wp2_with fail
  refine hN.mono ?_; rintro en w1 ⟨rfl, h⟩
  have H := Lib.hid h
  clear h
  go_wp2_with fail
  go_ret
  exact HZ.out _ _ ⟨rfl, H.out⟩

set_option maxHeartbeats 2000000 in
theorem field_40 (w : World) (b e : Nat) (r : List Tok) (vp : Value) (ps : List PartZ) (x : Nat) (xz : PartZ) (hP : Par w b e r vp ps) (hx : Box w x (partL xz)) (hbx : b < x) (hpx : vp.ownBlock ≠ some x) :
    Calls Tryd.prog 100 #[.pointer (some ⟨b, 0, none⟩), .int .i32 40, .pointer (some ⟨x, 0, none⟩)] w (FieldOut w b e vp ps x (fieldT 40 xz r)) := by
  have hN := sign_any w b e r vp ps [40] hP
  have hxl := hx.lt
  have HZ : Hid (∀ en w', (en = .returned (.bool (signT [40] r).1) ∧ Par w' b e (signT [40] r).2 vp ps ∧ KeepS (fun j => j = b) w w') → FieldOut w b e vp ps x (fieldT 40 xz r) en w') := by
    intro en w' h
    have e2 : fieldT 40 xz r = ((signT [40] r).1, xz, (signT [40] r).2) := fieldT_sign (by decide) xz r
    unfold FieldOut
    rw [e2]
    exact ⟨h.1, h.2.1, hx.keepS h.2.2 (fun e => by omega), h.2.2.mono (fun j hj => .inl hj)⟩
  clear hP hx
  go_enter Tryd.func100, Tryd.ntmps100
  go_wp2_with fail
  refine hN.mono ?_; rintro en w1 ⟨rfl, h⟩
  have H := Lib.hid h
  clear h
  go_wp2_with fail
  go_ret
  exact HZ.out _ _ ⟨rfl, H.out⟩

set_option maxHeartbeats 2000000 in
theorem field_41 (w : World) (b e : Nat) (r : List Tok) (vp : Value) (ps : List PartZ) (x : Nat) (xz : PartZ) (hP : Par w b e r vp ps) (hx : Box w x (partL xz)) (hbx : b < x) (hpx : vp.ownBlock ≠ some x) :
    Calls Tryd.prog 100 #[.pointer (some ⟨b, 0, none⟩), .int .i32 41, .pointer (some ⟨x, 0, none⟩)] w (FieldOut w b e vp ps x (fieldT 41 xz r)) := by
  have hN := sign_any w b e r vp ps [41] hP
  have hxl := hx.lt
  have HZ : Hid (∀ en w', (en = .returned (.bool (signT [41] r).1) ∧ Par w' b e (signT [41] r).2 vp ps ∧ KeepS (fun j => j = b) w w') → FieldOut w b e vp ps x (fieldT 41 xz r) en w') := by
    intro en w' h
    have e2 : fieldT 41 xz r = ((signT [41] r).1, xz, (signT [41] r).2) := fieldT_sign (by decide) xz r
    unfold FieldOut
    rw [e2]
    exact ⟨h.1, h.2.1, hx.keepS h.2.2 (fun e => by omega), h.2.2.mono (fun j hj => .inl hj)⟩
  clear hP hx
  go_enter Tryd.func100, Tryd.ntmps100
  go_wp2_with fail
  refine hN.mono ?_; rintro en w1 ⟨rfl, h⟩
  have H := Lib.hid h
  clear h
  go_wp2_with fail
  go_ret
  exact HZ.out _ _ ⟨rfl, H.out⟩

theorem field_any (c : Int) (hc : c = 68 ∨ c = 65 ∨ c = 66 ∨ c = 78 ∨ c = 84 ∨ c = 44 ∨ c = 40 ∨ c = 41) (w : World) (b e : Nat) (r : List Tok) (vp : Value) (ps : List PartZ) (x : Nat) (xz : PartZ) (hP : Par w b e r vp ps) (hx : Box w x (partL xz)) (hbx : b < x) (hpx : vp.ownBlock ≠ some x) :
    Calls Tryd.prog 100 #[.pointer (some ⟨b, 0, none⟩), .int .i32 c, .pointer (some ⟨x, 0, none⟩)] w (FieldOut w b e vp ps x (fieldT c xz r)) := by
  rcases hc with rfl | rfl | rfl | rfl | rfl | rfl | rfl | rfl
  · exact field_68 w b e r vp ps x xz hP hx hbx hpx
  · exact field_65 w b e r vp ps x xz hP hx hbx hpx
  · exact field_66 w b e r vp ps x xz hP hx hbx hpx
  · exact field_78 w b e r vp ps x xz hP hx hbx hpx
  · exact field_84 w b e r vp ps x xz hP hx hbx hpx
  · exact field_44 w b e r vp ps x xz hP hx hbx hpx
  · exact field_40 w b e r vp ps x xz hP hx hbx hpx
  · exact field_41 w b e r vp ps x xz hP hx hbx hpx
end Go.Proofs.YtimdojeagkbgbaaDoor.Words

/- Contract of package asm's Read. -/
import Derived.Test.YtimdojeagkbgbaaDoorAsmCheck
import Derived.Test.YtimdojeagkbgbaaDoorAsmNames
namespace Go.Proofs.YtimdojeagkbgbaaDoor.Words
set_option maxRecDepth 100000
open Go.RowKit Go.Shelf Go.Lib
set_option linter.unusedVariables false
set_option linter.unusedSimpArgs false

/-- What Read answers. -/
def ReadOut (Z : AsmR) (base : Nat) (e : Ending) (w : World) : Prop :=
  match Z with
  | .bad a k => e = .returned (.tuple #[.agg #[.slice none 0 0, .int .i64 0, .slice none 0 0], .int .i64 (a : Int), .int .i64 k])
  | .ok p => ∃ vc vd, e = .returned (.tuple #[.agg #[vc, .int .i64 p.size, vd], .int .i64 (-1), .int .i64 0]) ∧ w.ownsRow base 48 5 vc p.code.length (codeCells p.code) ∧ w.ownsRow base 5 1 vd p.data.length (p.data.map (Value.int .u8))
theorem ReadOut.bad {Z : AsmR} {base : Nat} {e : Ending} {w : World} {a : Nat} {k : Int} (h : Z = .bad a k) (he : e = .returned (.tuple #[.agg #[.slice none 0 0, .int .i64 0, .slice none 0 0], .int .i64 (a : Int), .int .i64 k])) : ReadOut Z base e w := by
  subst h; exact he
theorem ReadOut.ok {Z : AsmR} {base : Nat} {e : Ending} {w : World} {p : Prog} {vc vd : Value} (h : Z = .ok p) (he : e = .returned (.tuple #[.agg #[vc, .int .i64 p.size, vd], .int .i64 (-1), .int .i64 0])) (h1 : w.ownsRow base 48 5 vc p.code.length (codeCells p.code)) (h2 : w.ownsRow base 5 1 vd p.data.length (p.data.map (Value.int .u8))) : ReadOut Z base e w := by
  subst h; exact ⟨vc, vd, he, h1, h2⟩
theorem next_head (r : List Tok) (e : Nat) : (nextT r e).at_ = headAt r e := by cases r <;> rfl
theorem layF_at {ps : List PartZ} {k : Nat} {x : PartZ} (hx : ps[k]? = some x) (ho : (ps.map (·.at_)).Pairwise (· < ·)) (p : Prog) :
    layF ps (ps.take k) (ps.drop k) p = match lay1 (fun t => firstL t ps 0) x p with | .bad a e => .bad a e | .ok p' => layF ps (ps.take (k + 1)) (ps.drop (k + 1)) p' := by
  have hd : ps.drop k = x :: ps.drop (k + 1) := by
    obtain ⟨hk, rfl⟩ := List.getElem?_eq_some_iff.1 hx
    exact List.drop_eq_getElem_cons hk
  have hs : ps = ps.take k ++ x :: ps.drop (k + 1) := by
    conv => lhs; rw [← List.take_append_drop k ps]
    rw [hd]
  have h := layF_step (pre := ps.take k) (xs := ps.drop (k + 1)) (x := x) p (by rw [← hs]; exact ho)
  rw [← hs] at h
  rw [hd, take_snoc hx]
  exact h
theorem lay1_err {f : List UInt8 → Option (Int × Int)} {x : PartZ} {p : Prog} : ∀ a e, lay1 f x p = .bad a e → e ≠ 0 := by
  intro a e h
  unfold lay1 ins1 put1 at h
  repeat' split at h
  all_goals first
    | (cases h; done)
    | (injection h with h1 h2; subst h2; decide)
theorem LexOut.cases {Z : LexR} {base : Nat} {e : Ending} {w : World} (h : LexOut Z base e w) : (∃ a k, Z = .bad a k ∧ e = .returned (.tuple #[.slice none 0 0, .int .i64 (a : Int), .int .i64 k])) ∨ ∃ t v, Z = .toks t ∧ e = .returned (.tuple #[v, .int .i64 (-1), .int .i64 0]) ∧ w.ownsRow base 33 4 v t.length (toksL t) := by
  cases Z with
  | bad a k => exact .inl ⟨a, k, rfl, h⟩
  | toks t => obtain ⟨v, h1, h2⟩ := h; exact .inr ⟨t, v, rfl, h1, h2⟩

set_option maxHeartbeats 8000000 in
theorem asmRead_any (s : ByteArray) (w : World) (hs : s.size ≤ 9223372036854775807) (hT : Tabs w) (hSh : Shapes w) (hfew : ∀ t, lexZ s.data.toList = .toks t → (textT t).1 = true → nIns (textT t).2.2 ≤ 8192) :
    Calls Tryd.prog 18 #[.string s] w fun e w' => ReadOut (asmZ s.data.toList) w.heap.size e w' ∧ Below w.heap.size w w' := by
  have hl := data_len s
  have HL := Lib.hid hl
  obtain ⟨Z, hZ⟩ : ∃ Z, Z = asmZ s.data.toList := ⟨_, rfl⟩
  have HZ := Lib.hid hZ
  rw [← hZ]
  have R0 : Hid (Box (w.alloc (.cells #[.slice none 0 0, .int .i64 0, .slice none 0 0] 39)) w.heap.size [.slice none 0 0, .int .i64 0, .slice none 0 0]) := Box.new w [.slice none 0 0, .int .i64 0, .slice none 0 0] _
  have B0 : Hid (Below w.heap.size w (w.alloc (.cells #[.slice none 0 0, .int .i64 0, .slice none 0 0] 39))) := (Below.refl _ _).alloc (Nat.le_refl _) _
  have hW1 : (w.alloc (.cells #[.slice none 0 0, .int .i64 0, .slice none 0 0] 39)).heap.size = w.heap.size + 1 := by simp
  have cS := Lib.hid (split_any s (w.alloc (.cells #[.slice none 0 0, .int .i64 0, .slice none 0 0] 39)) hs (hT.below ((Below.refl _ _).alloc (Nat.le_refl _) _)))
  have HSH := Lib.hid (hSh.below ((Below.refl w.heap.size w).alloc (Nat.le_refl _) (.cells #[.slice none 0 0, .int .i64 0, .slice none 0 0] 39)))
  have hgw : 4 < w.heap.size := hSh.1
  have HFEW := Lib.hid hfew
  have hs0 : (0 : Int) ≤ s.size := by omega
  clear hl hZ hT hSh hfew hs
  go_enter Tryd.func18, Tryd.ntmps18
  go_wp2_with fail
  refine cS.out.mono ?_; rintro en w2 ⟨ho, hb2⟩
  have R2 : Hid (Box w2 w.heap.size [.slice none 0 0, .int .i64 0, .slice none 0 0]) := R0.out.below hb2 (by omega)
  have B2 := Lib.hid (B0.out.trans (hb2.mono (by omega)))
  have B12 := Lib.hid hb2
  have hsz2 : w.heap.size + 1 ≤ w2.heap.size := by have := hb2.size; omega
  clear hb2
  rcases ho.cases with ⟨a, k, hz, rfl⟩ | ⟨t, v, hz, rfl, hown⟩
  · have HB : Hid (Z = .bad a k) := by show _ = _; rw [HZ.out]; unfold asmZ; rw [hz]
    have hk : (k != 0) = true := by
      have hl := HL.out
      by_cases hlen : s.data.toList.length ≤ 20000
      · have := lexZ_good hlen
        rw [hz] at this
        obtain ⟨_, h2⟩ := this
        rcases h2 with rfl | rfl <;> rfl
      · unfold lexZ at hz
        rw [if_pos (by omega)] at hz
        injection hz with _ hz
        subst hz; rfl
    have r0 := R2.out.cell (k := 0) rfl
    have r1 := R2.out.cell (k := 1) rfl
    have r2 := R2.out.cell (k := 2) rfl
    have g0 := R2.out.frozen 0
    have g1 := R2.out.frozen 1
    have g2 := R2.out.frozen 2
    clear ho hz
    go_wp2_with fail
    refine bodyPost_ret (v := .tuple #[.agg #[.slice none 0 0, .int .i64 0, .slice none 0 0], .int .i64 (a : Int), .int .i64 k]) (by simp [results, Tryd.results18, go_sem, r0, r1, r2]) rfl ⟨ReadOut.bad HB.out rfl, ((B2.out.setCell (p := ⟨w.heap.size, 0, none⟩) (Nat.le_refl _) _).setCell (p := ⟨w.heap.size, 1, none⟩) (Nat.le_refl _) _).setCell (p := ⟨w.heap.size, 2, none⟩) (Nat.le_refl _) _⟩
  · have HB : Hid (Z = partsZ s.data.toList.length (textT t)) := by show _ = _; rw [HZ.out]; unfold asmZ; rw [hz]
    have HTI := Lib.hid (lex_in hz)
    have HTL := Lib.hid (lex_len hz)
    have HTO := Lib.hid (lex_order hz)
    have HFW := Lib.hid (HFEW.out t hz)
    have HSL := Lib.hid (lexZ_toks hz).1
    obtain ⟨A, tc, rfl⟩ := (Row.of_own hown).form
    have HOT := Lib.hid (Row.of_own hown)
    clear ho hz hown HFEW
    go_wp2_with fail
    refine (names_any _).mono ?_; rintro en w3 ⟨vn, rfl, hon, hb3⟩
    obtain ⟨An, cn, rfl⟩ := (Row.of_own hon).form
    have B3 := Lib.hid (B2.out.trans (hb3.mono B2.out.size))
    have R3 : Hid (Box w3 w.heap.size [.slice none 0 0, .int .i64 0, .slice none 0 0]) := R2.out.below hb3 (by omega)
    have HO3 := Lib.hid ((HOT.out.below hb3).more hb3.size)
    have HN3 := Lib.hid (Row.of_own hon)
    have hsz3 : w.heap.size + 1 ≤ w3.heap.size := by have := hb3.size; omega
    have SH3 := Lib.hid ((HSH.out.below B12.out).below hb3)
    clear hb3 hon
    -- the parser
    have P4 : Hid (Par (w3.alloc (.cells #[.slice A t.length tc, .int .i64 (s.size : Int), .slice An 41 cn, .slice none 0 0] 70)) w3.heap.size s.size t (.slice none 0 0) []) :=
      ⟨.slice A t.length tc, .slice An 41 cn, Box.new w3 [.slice A t.length tc, .int .i64 (s.size : Int), .slice An 41 cn, .slice none 0 0] _, HO3.out.alloc (Nat.le_refl _) _, HN3.out.alloc (Nat.le_refl _) _, World.ownsRow_nil _ _ _ _, HTI.out⟩
    have B4 : Hid (Below w3.heap.size w3 (w3.alloc (.cells #[.slice A t.length tc, .int .i64 (s.size : Int), .slice An 41 cn, .slice none 0 0] 70))) := (Below.refl _ _).alloc (Nat.le_refl _) _
    have cX := Lib.hid (asmText_any _ w3.heap.size s.size t (.slice none 0 0) [] P4.out (SH3.out.below B4.out) (by omega) (by have := HTL.out; have := HSL.out; simp only [List.length_nil]; omega))
    go_wp2_with fail
    refine cX.out.mono ?_; rintro en w5 ⟨rfl, vp, hp5, hb5⟩
    rw [List.nil_append] at hp5
    have P5 := Lib.hid hp5
    have B5 := Lib.hid (B4.out.trans hb5)
    have R5 : Hid (Box w5 w.heap.size [.slice none 0 0, .int .i64 0, .slice none 0 0]) := R3.out.below B5.out (by omega)
    have hsz5 : w3.heap.size < w5.heap.size := hp5.lt
    clear hp5 hb5
    obtain ⟨X, hX⟩ : ∃ X, X = textT t := ⟨_, rfl⟩
    have HXX := Lib.hid hX
    rw [← hX] at P5 HB HFW ⊢
    clear hX
    cases hx1 : X.1
    · have HB6 : Hid (Z = .bad (headAt X.2.1 s.size) 5) := by
        show _ = _
        rw [HB.out]; unfold partsZ; rw [if_neg (by rw [hx1]; decide), HL.out]
      have hN := next_any w5 w3.heap.size s.size X.2.1 vp X.2.2 P5.out
      have fd := field_at (nextT X.2.1 s.size)
      have HNH := Lib.hid (next_head X.2.1 s.size)
      clear hx1
      generalize nextT X.2.1 s.size = nt at *
      go_wp2_with fail
      refine hN.mono ?_; rintro en w6 ⟨rfl, hb6⟩
      have R6 : Box w6 w.heap.size [.slice none 0 0, .int .i64 0, .slice none 0 0] := R5.out.below hb6 (by omega)
      have B6 := Lib.hid ((B3.out.trans (B5.out.mono (by omega))).trans (hb6.mono (by omega)))
      have r0 := R6.cell (k := 0) rfl
      have r1 := R6.cell (k := 1) rfl
      have r2 := R6.cell (k := 2) rfl
      have g0 := R6.frozen 0
      have g1 := R6.frozen 1
      have g2 := R6.frozen 2
      clear hb6 R6
      go_wp2_with fail
      refine bodyPost_ret (v := .tuple #[.agg #[.slice none 0 0, .int .i64 0, .slice none 0 0], .int .i64 (nt.at_ : Int), .int .i64 5]) (by simp [results, Tryd.results18, go_sem, r0, r1, r2]) rfl ⟨ReadOut.bad (by rw [HB6.out, HNH.out]) rfl, ((B6.out.setCell (p := ⟨w.heap.size, 0, none⟩) (Nat.le_refl _) _).setCell (p := ⟨w.heap.size, 1, none⟩) (Nat.le_refl _) _).setCell (p := ⟨w.heap.size, 2, none⟩) (Nat.le_refl _) _⟩
    · have HB6 : Hid (Z = endZ (layF X.2.2 [] X.2.2 ⟨[], 0, []⟩)) := by
        show _ = _
        rw [HB.out]; unfold partsZ; rw [if_pos hx1]
      have HOK : Hid (∀ x ∈ X.2.2, PartOk x) := by
        intro x hx
        rw [HXX.out] at hx
        exact textF_ok _ _ HTI.out x hx
      have HPL : Hid (X.2.2.length ≤ 20000) := by
        show _ ≤ _
        have h1 := textF_len t.length t
        have h2 := HTL.out
        have h3 := HSL.out
        have h4 : X.2.2 = (textF t.length t).2.2 := by rw [HXX.out]; rfl
        rw [h4]; omega
      have HPO : Hid ((X.2.2.map (·.at_)).Pairwise (· < ·)) := by rw [HXX.out]; exact parts_order HTO.out
      have HNI : Hid (nIns X.2.2 ≤ 8192) := HFW.out hx1
      obtain ⟨Ap, cp, rfl⟩ := P5.out.form
      have z3 := P5.out.parts
      have HOW := Lib.hid P5.out.own
      generalize X.2.2 = ps at *
      have cL := Lib.hid (labelsOf_any (.slice Ap ps.length cp) ps w5 (Row.of_own HOW.out) (fun x hx => (HOK.out x hx).1) (by have := HPL.out; omega))
      clear HFW HXX HB P4 cX HZ hx1
      go_wp2_with fail
      refine cL.out.mono ?_; rintro en w6 ⟨rfl, hm6, hb6⟩
      have R6 : Hid (Box w6 w.heap.size [.slice none 0 0, .int .i64 0, .slice none 0 0]) := R5.out.below hb6 (by omega)
      have B6 := Lib.hid hb6
      have M6 := Lib.hid hm6
      have hsz6 : w5.heap.size < w6.heap.size := hm6.lt
      have z6 := below_cell hb6 hsz5 z3
      have hsz36 : w3.heap.size < w6.heap.size := by omega
      clear hm6 hb6 z3 cL
      have L7 : Hid (Bld (w6.alloc (.cells #[.map (some w5.heap.size), .slice none 0 0, .int .i64 0, .slice none 0 0] 75)) w6.heap.size w5.heap.size ps.length (fun t => firstL t ps 0) ⟨[], 0, []⟩ (.slice none 0 0) (.slice none 0 0)) :=
        ⟨Box.new w6 [.map (some w5.heap.size), .slice none 0 0, .int .i64 0, .slice none 0 0] _, M6.out.go ((Below.refl _ w6).alloc (Nat.le_refl _) _), World.ownsRow_nil _ _ _ _, World.ownsRow_nil _ _ _ _, hsz6⟩
      have B7 : Hid (Below w6.heap.size w6 (w6.alloc (.cells #[.map (some w5.heap.size), .slice none 0 0, .int .i64 0, .slice none 0 0] 75))) := (Below.refl _ w6).alloc (Nat.le_refl _) _
      have HBF := Lib.hid (fun (y : World) (hy : Below w6.heap.size w6 y) => ((B3.out.trans (B5.out.mono (show w.heap.size ≤ w3.heap.size by omega))).trans (B6.out.mono (show w.heap.size ≤ w5.heap.size by omega))).trans (hy.mono (show w.heap.size ≤ w6.heap.size by omega)))
      have HRF := Lib.hid (fun (y : World) (hy : Below w6.heap.size w6 y) => (R6.out.below hy (by omega)))
      have HPR := Lib.hid (fun (y : World) (hy : Below w6.heap.size w6 y) => (((Row.of_own HOW.out).below B6.out).more (Nat.le_of_lt hsz6)).below hy)
      have n0 : (ps.length : Int) ≤ 20000 := by have := HPL.out; omega
      go_wp2_with fail
      go_loopw [43] (fun i wr => ∃ (k : Nat) (p : Prog) (vc vd : Value), k ≤ ps.length ∧ i = .int .i64 k ∧ Bld wr w6.heap.size w5.heap.size ps.length (fun t => firstL t ps 0) p vc vd ∧ Below w6.heap.size w6 wr ∧ Z = endZ (layF ps (ps.take k) (ps.drop k) p) ∧ p.code.length ≤ nIns (ps.take k) ∧ p.data.length ≤ k) (fun i _ => ps.length - (intOf i).toNat)
      case atStart => exact ⟨0, ⟨[], 0, []⟩, _, _, Nat.zero_le _, rfl, L7.out, B7.out, HB6.out, Nat.zero_le _, Nat.zero_le _⟩
      case round =>
        obtain ⟨k, p, vc, vd, hk, rfl, hbl, hbw, hzz, hpc, hpd⟩ := hrel
        have HBL := Lib.hid hbl
        have HBW := Lib.hid hbw
        have HZZ := Lib.hid hzz
        have HPC := Lib.hid hpc
        have HPD := Lib.hid hpd
        have HK := Lib.hid hk
        by_cases hlt : k < ps.length
        · obtain ⟨x, hx⟩ : ∃ x, ps[k]? = some x := ⟨_, List.getElem?_eq_getElem (by omega)⟩
          have hxm : x ∈ ps := List.mem_iff_getElem?.2 ⟨k, hx⟩
          obtain ⟨g, off, hA, hg, _⟩ := (HPR.out wr hbw).at_ (by omega)
          subst hA
          obtain ⟨c0, c1, c2, c3, c4, c5, c6, c7, c8, c9, c10, c11, c12⟩ := range_cells ((HPR.out wr hbw).part hx)
          have hgr : g < wr.heap.size := by have := hbw.size; omega
          have kq : decide ((k : Int) < ps.length) = true := decide_eq_true (by omega)
          have kq2 : decide (k < ps.length) = true := decide_eq_true hlt
          have k0 : (0 : Int) ≤ k := by omega
          have k1 : (k : Int) < ps.length := by omega
          have hni1 : nIns (ps.take k) ≤ k := Nat.le_trans (nIns_le _) (List.length_take_le k ps)
          have cLay := Lib.hid (lay_any x p (wr.alloc (.cells #[.int .i64 x.kind, .int .i64 (x.at_ : Int), .int .i64 x.num, .string (txt x.name), .int .i64 x.ins.op, .int .i64 x.ins.d, .int .i64 x.ins.a, .int .i64 x.ins.b, .int .i64 x.ins.imm, .int .i64 x.target.kind, .int .i64 x.target.num, .int .i64 (x.target.at_ : Int), .string (txt x.target.text)] 77)) w6.heap.size w5.heap.size ps.length (fun t => firstL t ps 0) vc vd (hbl.alloc _) (by omega) (by omega) (HOK.out x hxm).1 (HOK.out x hxm).2 (fun r hr => by
            obtain ⟨a, q⟩ := r
            obtain ⟨q1, q2, _⟩ := firstL_in hr
            have := nIns_le ps
            have := HPL.out
            exact ⟨by simpa using q1, by simp only at q2 ⊢; omega⟩))
          have HNEZ := Lib.hid (lay1_err (f := fun t => firstL t ps 0) (x := x) (p := p))
          have HST := Lib.hid (layF_at hx HPO.out p)
          have HTK := Lib.hid (take_snoc hx)
          have HAL := Lib.hid (hbw.alloc (Nat.le_trans (Nat.le_refl _) hbw.size) (.cells #[.int .i64 x.kind, .int .i64 (x.at_ : Int), .int .i64 x.num, .string (txt x.name), .int .i64 x.ins.op, .int .i64 x.ins.d, .int .i64 x.ins.a, .int .i64 x.ins.b, .int .i64 x.ins.imm, .int .i64 x.target.kind, .int .i64 x.target.num, .int .i64 (x.target.at_ : Int), .string (txt x.target.text)] 77))
          have HLEN : Hid (∀ p', lay1 (fun t => firstL t ps 0) x p = .ok p' → p'.code.length ≤ nIns (ps.take (k + 1)) ∧ p'.data.length ≤ k + 1) := by
            intro p' hp'
            obtain ⟨q1, q2⟩ := lay1_len hp'
            have h1 := HPC.out
            have h2 := HPD.out
            rw [take_snoc hx, nIns_append]
            have h3 : nIns [x] = if x.kind = 2 then 1 else 0 := by rw [nIns_cons]; simp [nIns]
            rw [h3]
            exact ⟨by omega, by omega⟩
          generalize lay1 (fun t => firstL t ps 0) x p = LZ at *
          clear hbl hbw hzz hpc hpd hk hx hxm
          go_wp2_with fail
          refine cLay.out.mono ?_; rintro en w8 hL
          cases LZ with
          | bad a e =>
            obtain ⟨rfl, hb8⟩ := hL
            have HB8 := Lib.hid (HAL.out.trans hb8)
            have HZ8 : Hid (Z = .bad a e) := by show _ = _; rw [HZZ.out, HST.out]; rfl
            have he : (e != 0) = true := by simpa using HNEZ.out a e rfl
            have R8 := HRF.out w8 HB8.out
            have r0 := R8.cell (k := 0) rfl
            have r1 := R8.cell (k := 1) rfl
            have r2 := R8.cell (k := 2) rfl
            have g0 := R8.frozen 0
            have g1 := R8.frozen 1
            have g2 := R8.frozen 2
            have BF := Lib.hid (HBF.out w8 HB8.out)
            clear hb8 R8
            go_wp2_with fail
            refine bodyPost_ret (v := .tuple #[.agg #[.slice none 0 0, .int .i64 0, .slice none 0 0], .int .i64 (a : Int), .int .i64 e]) (by simp [results, Tryd.results18, go_sem, r0, r1, r2]) rfl ⟨ReadOut.bad HZ8.out rfl, ((BF.out.setCell (p := ⟨w.heap.size, 0, none⟩) (Nat.le_refl _) _).setCell (p := ⟨w.heap.size, 1, none⟩) (Nat.le_refl _) _).setCell (p := ⟨w.heap.size, 2, none⟩) (Nat.le_refl _) _⟩
          | ok p2 =>
            obtain ⟨rfl, ⟨vc2, vd2, hB2⟩, hb8⟩ := hL
            have HB8 := Lib.hid (HAL.out.trans hb8)
            have HL8 := Lib.hid hB2
            have HZ8 : Hid (Z = endZ (layF ps (ps.take (k + 1)) (ps.drop (k + 1)) p2)) := by show _ = _; rw [HZZ.out, HST.out]
            clear hb8 hB2
            go_wp2_with fail
            go_roundw
            case rel => exact ⟨k + 1, p2, vc2, vd2, by omega, rfl, HL8.out, HB8.out, HZ8.out, (HLEN.out p2 rfl).1, (HLEN.out p2 rfl).2⟩
            case measure => simp only [intOf]; omega
        · have kq : decide ((k : Int) < ps.length) = false := decide_eq_false (by omega)
          have kq2 : decide (k < ps.length) = false := decide_eq_false hlt
          have hkN : k = ps.length := by omega
          have HZ9 : Hid (Z = checkZ p) := by
            show _ = _
            rw [HZZ.out, hkN, List.drop_length]; rfl
          have hcode : p.code.length ≤ 8192 := by
            have h1 := HPC.out
            rw [hkN, List.take_length] at h1
            have h2 := HNI.out
            omega
          obtain ⟨Ac, cc, rfl⟩ := (Row.of_own hbl.2.2.1).form
          obtain ⟨Ad, cd, rfl⟩ := (Row.of_own hbl.2.2.2.1).form
          have b1 := hbl.1.cell (k := 1) rfl
          have b2 := hbl.1.cell (k := 2) rfl
          have b3 := hbl.1.cell (k := 3) rfl
          obtain ⟨dl1, dl2⟩ := (Row.of_own hbl.2.2.2.1).cap
          have cC := Lib.hid (asmCheck_any Ac cc p.size Ad p.data.length cd p.code wr (Row.of_own hbl.2.2.1) dl1 dl2 hcode)
          have HCK := Lib.hid (checkE_z p)
          clear hbl hbw hzz hpc hpd hk dl1 dl2
          go_wp2_with fail
          refine cC.out.mono ?_; rintro en w9 ⟨rfl, hb9⟩
          have HB9 := Lib.hid (HBW.out.trans (hb9.mono HBW.out.size))
          have R9 := HRF.out w9 HB9.out
          have hc6 : w6.heap.size < wr.heap.size := HBL.out.lt
          have e1 := below_cell hb9 hc6 b1
          have e2 := below_cell hb9 hc6 b2
          have e3 := below_cell hb9 hc6 b3
          have HO1 := Lib.hid (own_below HBL.out.2.2.1 hb9)
          have HO2 := Lib.hid (own_below HBL.out.2.2.2.1 hb9)
          have r0 := R9.cell (k := 0) rfl
          have r1 := R9.cell (k := 1) rfl
          have r2 := R9.cell (k := 2) rfl
          have g0 := R9.frozen 0
          have g1 := R9.frozen 1
          have g2 := R9.frozen 2
          have BF := Lib.hid (HBF.out w9 HB9.out)
          clear hb9 R9 b1 b2 b3
          generalize checkE p.code p.size p.data.length = E at *
          by_cases hE : E = 0
          · subst hE
            have HZ10 : Hid (Z = .ok p) := by show _ = _; rw [HZ9.out, HCK.out]; rfl
            go_wp2_with fail
            refine bodyPost_ret (v := .tuple #[.agg #[.slice Ac p.code.length cc, .int .i64 p.size, .slice Ad p.data.length cd], .int .i64 (-1), .int .i64 0]) (by simp [results, Tryd.results18, go_sem, r0, r1, r2]) rfl ⟨ReadOut.ok HZ10.out rfl ?_ ?_, ((BF.out.setCell (p := ⟨w.heap.size, 0, none⟩) (Nat.le_refl _) _).setCell (p := ⟨w.heap.size, 1, none⟩) (Nat.le_refl _) _).setCell (p := ⟨w.heap.size, 2, none⟩) (Nat.le_refl _) _⟩
            · exact own_base (ownsRow_setCell_below (ownsRow_setCell_below (ownsRow_setCell_below HO1.out (a := ⟨w.heap.size, 0, none⟩) (show w.heap.size < w6.heap.size + 1 by omega) _) (a := ⟨w.heap.size, 1, none⟩) (show w.heap.size < w6.heap.size + 1 by omega) _) (a := ⟨w.heap.size, 2, none⟩) (show w.heap.size < w6.heap.size + 1 by omega) _) (by omega)
            · exact own_base (ownsRow_setCell_below (ownsRow_setCell_below (ownsRow_setCell_below HO2.out (a := ⟨w.heap.size, 0, none⟩) (show w.heap.size < w6.heap.size + 1 by omega) _) (a := ⟨w.heap.size, 1, none⟩) (show w.heap.size < w6.heap.size + 1 by omega) _) (a := ⟨w.heap.size, 2, none⟩) (show w.heap.size < w6.heap.size + 1 by omega) _) (by omega)
          · have hE2 : (E != 0) = true := by simpa using hE
            have HZ10 : Hid (Z = .bad 0 E) := by show _ = _; rw [HZ9.out, HCK.out, if_neg hE]
            clear hE
            go_wp2_with fail
            refine bodyPost_ret (v := .tuple #[.agg #[.slice none 0 0, .int .i64 0, .slice none 0 0], .int .i64 0, .int .i64 E]) (by simp [results, Tryd.results18, go_sem, r0, r1, r2]) rfl ⟨ReadOut.bad HZ10.out rfl, ((BF.out.setCell (p := ⟨w.heap.size, 0, none⟩) (Nat.le_refl _) _).setCell (p := ⟨w.heap.size, 1, none⟩) (Nat.le_refl _) _).setCell (p := ⟨w.heap.size, 2, none⟩) (Nat.le_refl _) _⟩
end Go.Proofs.YtimdojeagkbgbaaDoor.Words

/- Contract of package lex's Split. -/
import Derived.Test.YtimdojeagkbgbaaDoorLexTake2
namespace Go.Proofs.YtimdojeagkbgbaaDoor.Words
set_option maxRecDepth 100000
open Go.RowKit Go.Shelf Go.Lib
set_option linter.unusedVariables false

theorem lineZ_len (l : List UInt8) (p : Nat) (x : LexS) : (lineZ l p x).toks.length ≤ x.toks.length + 1 := by
  unfold lineZ addZ
  split <;> simp
theorem takeZ_len (l : List UInt8) (p : Nat) (x : LexS) : (takeZ l p x).2.toks.length ≤ x.toks.length + 1 := by
  unfold takeZ numberZ
  have h := lineZ_len l p { x with remark := false }
  repeat' split
  all_goals first
    | (exact h)
    | (simp [addZ])
theorem lexF_end (l : List UInt8) (f p : Nat) (x : LexS) (h : ¬ p < l.length) : lexF l f p x = .toks x.toks := by
  cases f with
  | zero => rfl
  | succ f => unfold lexF; rw [if_neg h]
/-- What Split answers. -/
def LexOut (Z : LexR) (base : Nat) (e : Ending) (w : World) : Prop :=
  match Z with
  | .toks t => ∃ v, e = .returned (.tuple #[v, .int .i64 (-1), .int .i64 0]) ∧ w.ownsRow base 33 4 v t.length (toksL t)
  | .bad a k => e = .returned (.tuple #[.slice none 0 0, .int .i64 (a : Int), .int .i64 k])
theorem LexOut.toks {Z : LexR} {base : Nat} {e : Ending} {w : World} {t : List Tok} {v : Value} (h : Z = .toks t) (he : e = .returned (.tuple #[v, .int .i64 (-1), .int .i64 0])) (ho : w.ownsRow base 33 4 v t.length (toksL t)) : LexOut Z base e w := by
  subst h; exact ⟨v, he, ho⟩
theorem LexOut.bad {Z : LexR} {base : Nat} {e : Ending} {w : World} {a : Nat} {k : Int} (h : Z = .bad a k) (he : e = .returned (.tuple #[.slice none 0 0, .int .i64 (a : Int), .int .i64 k])) : LexOut Z base e w := by
  subst h; exact he

theorem iterAt_grown (w : World) (k : Nat) (s : ByteArray) (p : Nat) : w.grownBy (w.iterAt k s p) (some k) :=
  ⟨rfl, rfl, rfl, by rw [Lib.iterAt_size]; exact Nat.le_refl _, fun i _ hne => Lib.iterAt_other w k i s p (fun e => hne (by rw [e]))⟩
theorem Spl.iterAt {w : World} {b Bt k : Nat} {s s' : ByteArray} {x : LexS} (h : Spl w b Bt s x) (p : Nat) (hb : b ≠ k) (hk : k < Bt) : Spl (w.iterAt k s' p) b Bt s x := by
  obtain ⟨vt, h1, h2⟩ := h
  exact ⟨vt, h1.grown (iterAt_grown _ _ _ _) (fun e => hb (by injection e)), own_grown h2 (iterAt_grown _ _ _ _) (fun g hg e => by have := (h2.lt g hg).1; injection e with e; omega)⟩

set_option maxHeartbeats 2000000 in
theorem split_any (s : ByteArray) (w : World) (hs : s.size ≤ 9223372036854775807) (hT : Tabs w) :
    Calls Tryd.prog 13 #[.string s] w fun e w' => LexOut (lexZ s.data.toList) w.heap.size e w' ∧ Below w.heap.size w w' := by
  have HT := Lib.hid hT.all
  have hl := data_len s
  have HL := Lib.hid hl
  clear hT
  by_cases hlong : 20000 < s.size
  · have hz : Hid (lexZ s.data.toList = .bad 0 7) := by show _ = _; unfold lexZ; rw [if_pos (by omega)]
    have q1 : decide (20000 < (s.size : Int)) = true := decide_eq_true (by omega)
    have q2 : decide (20000 < s.size) = true := decide_eq_true hlong
    clear hl
    go_enter Tryd.func13, Tryd.ntmps13
    go_wp2
    refine bodyPost_ret (v := .tuple #[.slice none 0 0, .int .i64 0, .int .i64 7]) (by simp [results, Tryd.results13, go_sem]) rfl ⟨LexOut.bad hz.out rfl, Below.refl _ _⟩
  · have HZ : Hid (lexZ s.data.toList = lexF s.data.toList s.data.toList.length 0 ⟨0, false, []⟩) := by show _ = _; unfold lexZ; rw [if_neg (by omega)]
    generalize lexZ s.data.toList = Z at *
    have q1 : decide (20000 < (s.size : Int)) = false := decide_eq_false (by omega)
    have q2 : decide (20000 < s.size) = false := decide_eq_false hlong
    have hs2 : s.size ≤ 20000 := by omega
    have B0 : Hid (Box (w.alloc (.cells #[.string s, .slice none 0 0, .int .i64 0, .bool false] 59)) w.heap.size (splL s (.slice none 0 0) 0 false)) := Box.new w (splL s (.slice none 0 0) 0 false) _
    have K0 := Lib.hid ((Below.refl w.heap.size w).alloc (Nat.le_refl _) (.cells #[.string s, .slice none 0 0, .int .i64 0, .bool false] 59))
    have hs0 : (w.alloc (.cells #[.string s, .slice none 0 0, .int .i64 0, .bool false] 59)).heap.size = w.heap.size + 1 := by simp
    clear hl hs hlong
    go_enter Tryd.func13, Tryd.ntmps13
    go_wp2
    go_loopw [] (fun wr => ∃ (pos fuel : Nat) (x : LexS), Spl wr w.heap.size (w.heap.size + 2) s x ∧ wr.heap[w.heap.size + 1]? = some (.stringIter s pos) ∧ Below w.heap.size w wr ∧ lexF s.data.toList fuel pos x = Z ∧ s.size ≤ pos + fuel ∧ pos ≤ s.size ∧ x.toks.length ≤ pos) (fun wr => s.size - wr.iterPos (w.heap.size + 1))
    case atStart =>
      refine ⟨0, s.data.toList.length, ⟨0, false, []⟩, ⟨.slice none 0 0, B0.out.alloc _, World.ownsRow_nil _ _ _ _⟩, ?_, K0.out.alloc (by simp) _, HZ.out.symm, by rw [HL.out]; omega, Nat.zero_le _, Nat.le_refl _⟩
      have := World.iter_heap (w.alloc (.cells #[.string s, .slice none 0 0, .int .i64 0, .bool false] 59)) s 0
      simpa using this
    case round =>
      obtain ⟨pos, fuel, x, hspl, hit, hbw, hn, hf, hp, htl⟩ := hrel
      have HIT := Lib.hid hit
      have HN := Lib.hid hn
      have hsz : w.heap.size + 1 < wr.heap.size := (Array.getElem?_eq_some_iff.1 hit).1
      have hll := HL.out
      by_cases hlt : pos < s.size
      · have hnx := fun ty => next_rune (P := Tryd.prog) hit hlt ty
        obtain ⟨f, rfl⟩ : ∃ f, fuel = f + 1 := ⟨fuel - 1, by omega⟩
        have HWD := Lib.hid (wideR_pos (s.data.toList.drop pos))
        have HWI := Lib.hid (wide_in (l := s.data.toList) (p := pos) (by omega))
        have HST : Hid (lexF s.data.toList (f + 1) pos x = if pos < x.behind then lexF s.data.toList f (pos + wideR (s.data.toList.drop pos)) x else if (takeZ s.data.toList pos x).1 = 0 then lexF s.data.toList f (pos + wideR (s.data.toList.drop pos)) (takeZ s.data.toList pos x).2 else .bad pos (takeZ s.data.toList pos x).1) := by
          show _ = _
          conv => lhs; unfold lexF
          rw [if_pos (by omega)]
        have HTL := Lib.hid (takeZ_len s.data.toList pos x)
        generalize wideR (s.data.toList.drop pos) = WD at *
        have hit2 := Lib.iterAt_heap wr (w.heap.size + 1) s pos (pos + WD) hit
        have HIT2 := Lib.hid hit2
        have hspl2 : Spl (wr.iterAt (w.heap.size + 1) s (pos + WD)) w.heap.size (w.heap.size + 2) s x := hspl.iterAt _ (by omega) (by omega)
        have HSPL2 := Lib.hid hspl2
        have HBW2 := Lib.hid (Lib.below_iterAt hbw (k := w.heap.size + 1) (by omega) s (pos + WD))
        have hsz2 : (wr.iterAt (w.heap.size + 1) s (pos + WD)).heap.size = wr.heap.size := Lib.iterAt_size _ _ _ _
        have HSZ2 := Lib.hid hsz2
        have HTL2 := Lib.hid htl
        obtain ⟨vt, hb2, ho2⟩ := hspl2
        have z2 := hb2.cell (k := 2) rfl
        clear hit hn hit2 hspl hb2 ho2 hsz2 hbw
        by_cases hbh : pos < x.behind
        · have c1 : decide ((pos : Int) < x.behind) = true := decide_eq_true (by omega)
          have c2 : decide (pos < x.behind) = true := decide_eq_true hbh
          have HBH := Lib.hid hbh
          go_wp2_with fail
          go_roundw
          case rel => exact ⟨pos + WD, f, x, HSPL2.out, HIT2.out, HBW2.out, by rw [← HN.out, HST.out, if_pos HBH.out], by have := HWD.out; omega, by have := HWI.out; omega, by have := HTL2.out; omega⟩
          case measure =>
            simp only [World.iterPos, HIT2.out, HIT.out]
            have := HWD.out; omega
        · have c1 : decide ((pos : Int) < x.behind) = false := decide_eq_false (by omega)
          have c2 : decide (pos < x.behind) = false := decide_eq_false hbh
          have HBH := Lib.hid hbh
          have HT2 := Lib.hid (HT.out.go HBW2.out)
          go_wp2_with fail
          refine (take_any s x pos w.heap.size (w.heap.size + 2) _ HT2.out (by omega) (by rw [HSZ2.out]; omega) (by omega) HSPL2.out (by have := HTL2.out; omega) hlt).mono ?_
          rintro e w3 ⟨rfl, hs3, ht3⟩
          have S3 := Lib.hid hs3
          have IT3 : Hid (w3.heap[w.heap.size + 1]? = some (.stringIter s (pos + WD))) := (ht3.mid _ (by omega) (by omega)).trans HIT2.out
          have K3 := Lib.hid (HBW2.out.trans ht3.bel)
          clear hs3 ht3 z2
          generalize takeZ s.data.toList pos x = TK at *
          obtain ⟨er, x'⟩ := TK
          simp only at *
          by_cases he : er = 0
          · have hq : (er != 0) = false := by simpa using he
            have HE := Lib.hid he
            clear he
            go_wp2_with fail
            go_roundw
            case rel => exact ⟨pos + WD, f, x', S3.out, IT3.out, K3.out, by rw [← HN.out, HST.out, if_neg HBH.out, if_pos HE.out], by have := HWD.out; omega, by have := HWI.out; omega, by have := HTL.out; have := HTL2.out; have := HWD.out; omega⟩
            case measure =>
              simp only [World.iterPos, IT3.out, HIT.out]
              have := HWD.out; omega
          · have hq : (er != 0) = true := by simpa using he
            have hz : Hid (Z = .bad pos er) := by show _ = _; rw [← HN.out, HST.out, if_neg HBH.out, if_neg he]
            clear he
            go_wp2_with fail
            refine bodyPost_ret (v := .tuple #[.slice none 0 0, .int .i64 (pos : Int), .int .i64 er]) (by simp [results, Tryd.results13, go_sem]) rfl ⟨LexOut.bad hz.out rfl, K3.out⟩
      · have hnx := fun ty => next_none (P := Tryd.prog) hit hlt ty
        have hz : Hid (Z = .toks x.toks) := by show _ = _; rw [← hn, lexF_end _ _ _ _ (by omega)]
        obtain ⟨vt, hb2, ho2⟩ := hspl
        obtain ⟨A, c, rfl⟩ := (Row.of_own ho2).form
        have z1 := hb2.cell (k := 1) rfl
        have HO := Lib.hid (own_base ho2 (show w.heap.size ≤ w.heap.size + 2 by omega))
        clear hn hit hb2 ho2
        go_wp2
        refine bodyPost_ret (v := .tuple #[.slice A x.toks.length c, .int .i64 (-1), .int .i64 0]) (by simp [results, Tryd.results13, go_sem]) rfl ⟨LexOut.toks hz.out rfl HO.out, hbw⟩
end Go.Proofs.YtimdojeagkbgbaaDoor.Words

/- Contract of package asm's registerOf: the number of a register's name. -/
import Derived.Test.YtimdojeagkbgbaaDoorAsmMath
import Derived.Test.YtimdojeagkbgbaaDoorLexScan
namespace Go.Proofs.YtimdojeagkbgbaaDoor.Words
set_option maxRecDepth 100000
open Go.RowKit Go.Shelf Go.Lib
set_option linter.unusedVariables false

/-- What registerOf answers. -/
def RegOut (Z : Option Int) (e : Ending) : Prop := ∃ m, e = .returned (.tuple #[.int .i64 m, .bool Z.isSome]) ∧ ∀ n, Z = some n → m = n
theorem RegOut.no {Z : Option Int} (h : Z = none) (m : Int) : RegOut Z (.returned (.tuple #[.int .i64 m, .bool false])) := by subst h; exact ⟨m, rfl, fun n h => by cases h⟩
theorem RegOut.yes {Z : Option Int} {n : Int} (h : Z = some n) : RegOut Z (.returned (.tuple #[.int .i64 n, .bool true])) := by subst h; exact ⟨n, rfl, fun k h => by injection h⟩

set_option maxHeartbeats 2000000 in
theorem registerOf_any (s : ByteArray) (w : World) (hs : s.size ≤ 9223372036854775807) :
    Calls Tryd.prog 106 #[.string s] w fun e w' => RegOut (regZ s.data.toList) e ∧ Below w.heap.size w w' := by
  have HL := Lib.hid (data_len s)
  obtain ⟨l, hl⟩ : ∃ l, l = s.data.toList := ⟨_, rfl⟩
  rw [← hl] at HL ⊢
  have HS := Lib.hid hl
  obtain ⟨Z, hZ⟩ : ∃ Z, Z = regZ l := ⟨_, rfl⟩
  rw [← hZ]
  have HZ := Lib.hid hZ
  clear hZ hl
  go_enter Tryd.func106, Tryd.ntmps106
  go_wp2
  go_loopw [4] (fun q wr => ∃ (pos fuel : Nat) (n : Int), q = .int .i64 n ∧ wr.heap[w.heap.size]? = some (.stringIter s pos) ∧ Below w.heap.size w wr ∧ regF l fuel pos n = Z ∧ l.length ≤ pos + fuel ∧ pos ≤ l.length ∧ 0 ≤ n ∧ n ≤ 15) (fun _ wr => s.size - wr.iterPos w.heap.size)
  case atStart =>
    exact ⟨0, l.length, 0, rfl, World.iter_heap w s 0, (Below.refl _ w).alloc (Nat.le_refl _) _, HZ.out.symm, by omega, Nat.zero_le _, Int.le_refl _, by omega⟩
  case round =>
    obtain ⟨pos, fuel, n, rfl, hit, hbw, hn, hf, hp, n0, n1⟩ := hrel
    have HIT := Lib.hid hit
    have HN := Lib.hid hn
    have hsz : w.heap.size < wr.heap.size := (Array.getElem?_eq_some_iff.1 hit).1
    have hll := HL.out
    by_cases hlt : pos < s.size
    · have hnx := fun ty => next_rune (P := Tryd.prog) hit hlt ty
      rw [← HS.out] at hnx
      obtain ⟨f, rfl⟩ : ∃ f, fuel = f + 1 := ⟨fuel - 1, by omega⟩
      have hR := runeR_range (l.drop pos)
      have HWD := Lib.hid (wideR_pos (l.drop pos))
      have HWI := Lib.hid (wide_in (l := l) (p := pos) (by omega))
      have HST : Hid (regF l (f + 1) pos n = if pos = 0 ∧ runeR (l.drop pos) = 114 then regF l f (pos + wideR (l.drop pos)) n
       else if pos = 0 ∨ runeR (l.drop pos) < 48 ∨ 57 < runeR (l.drop pos) ∨ (1 < pos ∧ n = 0) then none
       else if 15 < n * 10 + (runeR (l.drop pos) - 48) then none
       else regF l f (pos + wideR (l.drop pos)) (n * 10 + (runeR (l.drop pos) - 48))) := by
        show _ = _
        conv => lhs; unfold regF
        rw [if_pos (by omega)]
      generalize runeR (l.drop pos) = R at *
      generalize wideR (l.drop pos) = WD at *
      have hit2 := Lib.iterAt_heap wr w.heap.size s pos (pos + WD) hit
      have HIT2 := Lib.hid hit2
      have hbw2 := Lib.below_iterAt hbw (k := w.heap.size) (Nat.le_refl _) s (pos + WD)
      have HBW2 := Lib.hid hbw2
      have hsz2 : (wr.iterAt w.heap.size s (pos + WD)).heap.size = wr.heap.size := Lib.iterAt_size _ _ _ _
      have HSZ2 := Lib.hid hsz2
      have pi : ((pos : Int) == 0) = decide (pos = 0) := by rw [Bool.eq_iff_iff]; simp
      clear hit hn hit2 hbw2 hsz2 hbw
      have n15 : decide (15 < n) = false := decide_eq_false (by omega)
      by_cases h0 : pos = 0
      · rw [decide_eq_true h0] at pi
        have H0 := Lib.hid h0
        clear h0
        by_cases hr : R = 114
        · subst hr
          go_wp2_with fail
          go_roundw
          case rel => exact ⟨pos + WD, f, n, rfl, HIT2.out, HBW2.out, by rw [← HN.out, HST.out, if_pos ⟨H0.out, rfl⟩], by have := HWD.out; omega, HWI.out, n0, n1⟩
          case measure =>
            simp only [World.iterPos, HIT2.out, HIT.out]
            have := HWD.out; omega
        · have hr2 : (R == 114) = false := by simpa using hr
          have hz : Hid (Z = none) := by show _ = _; rw [← HN.out, HST.out, if_neg (fun e => hr e.2), if_pos (.inl H0.out)]
          go_wp2_with fail
          refine bodyPost_ret (v := .tuple #[.int .i64 0, .bool false]) (by simp [results, Tryd.results106, go_sem]) rfl ⟨RegOut.no hz.out 0, HBW2.out⟩
      · rw [decide_eq_false h0] at pi
        by_cases hd : R < 48 ∨ 57 < R ∨ (1 < pos ∧ n = 0)
        · have hz : Hid (Z = none) := by show _ = _; rw [← HN.out, HST.out, if_neg (fun e => h0 e.1), if_pos (.inr hd)]
          by_cases c1 : R < 48
          · have c1' : decide (R < 48) = true := decide_eq_true c1
            go_wp2_with fail
            refine bodyPost_ret (v := .tuple #[.int .i64 0, .bool false]) (by simp [results, Tryd.results106, go_sem]) rfl ⟨RegOut.no hz.out 0, HBW2.out⟩
          by_cases c2 : 57 < R
          · have c1' : decide (R < 48) = false := decide_eq_false c1
            have c2' : decide (57 < R) = true := decide_eq_true c2
            go_wp2_with fail
            refine bodyPost_ret (v := .tuple #[.int .i64 0, .bool false]) (by simp [results, Tryd.results106, go_sem]) rfl ⟨RegOut.no hz.out 0, HBW2.out⟩
          · obtain ⟨c3, c4⟩ : 1 < pos ∧ n = 0 := by omega
            have c1' : decide (R < 48) = false := decide_eq_false c1
            have c2' : decide (57 < R) = false := decide_eq_false c2
            have c3' : decide ((1 : Int) < pos) = true := decide_eq_true (by omega)
            have c5' : decide (1 < pos) = true := decide_eq_true c3
            subst c4
            go_wp2_with fail
            refine bodyPost_ret (v := .tuple #[.int .i64 0, .bool false]) (by simp [results, Tryd.results106, go_sem]) rfl ⟨RegOut.no hz.out 0, HBW2.out⟩
        · have c1' : decide (R < 48) = false := decide_eq_false (by omega)
          have c2' : decide (57 < R) = false := decide_eq_false (by omega)
          have r0 : 48 ≤ R := by omega
          have r1 : R ≤ 57 := by omega
          have HSS := HST.out
          rw [if_neg (fun e => h0 e.1), if_neg (by omega)] at HSS
          have HSS2 := Lib.hid HSS
          clear HSS HST
          have go_on : (decide ((1 : Int) < pos) = false ∧ decide (1 < pos) = false) ∨ ((decide ((1 : Int) < pos) = true ∧ decide (1 < pos) = true) ∧ (n == 0) = false) := by
            by_cases h1 : 1 < pos
            · right
              exact ⟨⟨decide_eq_true (by omega), decide_eq_true h1⟩, by simp; omega⟩
            · left
              exact ⟨decide_eq_false (by omega), decide_eq_false h1⟩
          clear hd
          by_cases hbig : 15 < n * 10 + (R - 48)
          · have hz : Hid (Z = none) := by show _ = _; rw [← HN.out, HSS2.out, if_pos hbig]
            have c6 : decide (15 < n * 10 + (R - 48)) = true := decide_eq_true hbig
            rcases go_on with ⟨g1, g2⟩ | ⟨⟨g1, g2⟩, g3⟩
            · go_wp2_with fail
              refine bodyPost_ret (v := .tuple #[.int .i64 0, .bool false]) (by simp [results, Tryd.results106, go_sem]) rfl ⟨RegOut.no hz.out 0, HBW2.out⟩
            · go_wp2_with fail
              refine bodyPost_ret (v := .tuple #[.int .i64 0, .bool false]) (by simp [results, Tryd.results106, go_sem]) rfl ⟨RegOut.no hz.out 0, HBW2.out⟩
          · have HNX : Hid (regF l f (pos + WD) (n * 10 + (R - 48)) = Z) := by show _ = _; rw [← HN.out, HSS2.out, if_neg hbig]
            have c6 : decide (15 < n * 10 + (R - 48)) = false := decide_eq_false hbig
            rcases go_on with ⟨g1, g2⟩ | ⟨⟨g1, g2⟩, g3⟩
            · go_wp2_with fail
              go_roundw
              case rel => exact ⟨pos + WD, f, n * 10 + (R - 48), rfl, HIT2.out, HBW2.out, HNX.out, by have := HWD.out; omega, HWI.out, by omega, by omega⟩
              case measure =>
                simp only [World.iterPos, HIT2.out, HIT.out]
                have := HWD.out; omega
            · go_wp2_with fail
              go_roundw
              case rel => exact ⟨pos + WD, f, n * 10 + (R - 48), rfl, HIT2.out, HBW2.out, HNX.out, by have := HWD.out; omega, HWI.out, by omega, by omega⟩
              case measure =>
                simp only [World.iterPos, HIT2.out, HIT.out]
                have := HWD.out; omega
    · have hnx := fun ty => next_none (P := Tryd.prog) hit hlt ty
      have hres : Hid (Z = if 1 < l.length then some n else none) := by
        show _ = _
        rw [← hn]
        cases fuel with
        | zero => unfold regF; rfl
        | succ f => unfold regF; rw [if_neg (by omega)]
      by_cases h1 : 1 < s.size
      · have q1 : decide ((1 : Int) < s.size) = true := decide_eq_true (by omega)
        have q2 : decide (1 < s.size) = true := decide_eq_true h1
        have hz : Hid (Z = some n) := by show _ = _; rw [hres.out, if_pos (by omega)]
        clear hn hit
        go_wp2
        refine bodyPost_ret (v := .tuple #[.int .i64 n, .bool true]) (by simp [results, Tryd.results106, go_sem]) rfl ⟨RegOut.yes hz.out, hbw⟩
      · have q1 : decide ((1 : Int) < s.size) = false := decide_eq_false (by omega)
        have q2 : decide (1 < s.size) = false := decide_eq_false h1
        have hz : Hid (Z = none) := by show _ = _; rw [hres.out, if_neg (by omega)]
        clear hn hit
        go_wp2
        refine bodyPost_ret (v := .tuple #[.int .i64 n, .bool false]) (by simp [results, Tryd.results106, go_sem]) rfl ⟨RegOut.no hz.out n, hbw⟩
end Go.Proofs.YtimdojeagkbgbaaDoor.Words

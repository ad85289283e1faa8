/- Several texts in one: LexScan, RowLaws, ByteRow, Own, Lin, RowCopy, Boxes. -/
import Derived.Test.YtfdegdbknponkaaDoorG01
import Derived.WalkMore
import Derived.LoopTactic
import Derived.Deep.RegionLaw
import Derived.Laws.BytesArg
import Derived.Deep.RegionHeld3
import Derived.Laws.CopyOwn
import Derived.Deep.MidRow
import Derived.Deep.Upon
import Derived.Laws.ResultCell

/- Contracts of package lex's loops over a text: the name, the digits and the number that it begins with. -/
namespace Go.Proofs.YtfdegdbknponkaaDoor.Words
set_option maxRecDepth 100000
open Go.RowKit Go.Shelf Go.Lib
set_option linter.unusedVariables false

/-- 'next' of a string's iterator, in whatever world, in this text's own words. -/
theorem next_rune {P : Program} {wr : World} {k : Nat} {s : ByteArray} {pos : Nat} (hk : wr.heap[k]? = some (.stringIter s pos)) (h : pos < s.size) (ty : TypeId) :
    (Instr.next (.pointer (some ⟨k, 0, none⟩)) true ty).run P wr = .ok (.tuple #[.bool true, .int .i64 (pos : Int), .int .i32 (runeR (s.data.toList.drop pos))]) (wr.iterAt k s (pos + wideR (s.data.toList.drop pos))) := by
  have := Lib.run_next_any_at (P := P) wr k s pos ty hk h
  rw [← Lib.decodeL_drop] at this
  exact this
theorem next_none {P : Program} {wr : World} {k : Nat} {s : ByteArray} {pos : Nat} (hk : wr.heap[k]? = some (.stringIter s pos)) (h : ¬ pos < s.size) (ty : TypeId) :
    (Instr.next (.pointer (some ⟨k, 0, none⟩)) true ty).run P wr = .ok (.tuple #[.bool false]) wr := Lib.run_next_end_at wr k s pos ty hk h
theorem data_len (s : ByteArray) : s.data.toList.length = s.size := (Lib.size_eq s).symm
theorem i32_rune (r : Int) (h : 0 ≤ r ∧ r ≤ 1114111) : -2147483648 ≤ r ∧ r ≤ 2147483647 := by omega

set_option maxHeartbeats 1000000 in
theorem nameSize_any (s : ByteArray) (w : World) (hs : s.size ≤ 9223372036854775807) (hT : Tabs w) :
    Calls Tryd.prog 66 #[.string s] w fun e w' => e = .returned (.int .i64 (nameZ s.data.toList : Nat)) ∧ Below w.heap.size w w' := by
  have HT := Lib.hid hT.all
  have HL := Lib.hid (data_len s)
  obtain ⟨l, hl⟩ : ∃ l, l = s.data.toList := ⟨_, rfl⟩
  rw [← hl] at HL ⊢
  have HS := Lib.hid hl
  obtain ⟨Z, hZ⟩ : ∃ Z, Z = nameZ l := ⟨_, rfl⟩
  rw [← hZ]
  have HZ := Lib.hid hZ
  clear hT hZ hl
  go_enter Tryd.func66, Tryd.ntmps66
  go_wp2
  go_loopw [] (fun wr => ∃ (pos fuel : Nat), wr.heap[w.heap.size]? = some (.stringIter s pos) ∧ Below w.heap.size w wr ∧ nameF l fuel pos = Z ∧ l.length ≤ pos + fuel ∧ pos ≤ l.length) (fun wr => s.size - wr.iterPos w.heap.size)
  case atStart =>
    exact ⟨0, l.length, World.iter_heap w s 0, (Below.refl _ w).alloc (Nat.le_refl _) _, HZ.out.symm, by omega, Nat.zero_le _⟩
  case round =>
    obtain ⟨pos, fuel, hit, hbw, hn, hf, hp⟩ := hrel
    have HIT := Lib.hid hit
    have HN := Lib.hid hn
    have hsz : w.heap.size < wr.heap.size := (Array.getElem?_eq_some_iff.1 hit).1
    have hll := HL.out
    by_cases hlt : pos < s.size
    · have hnx := fun ty => next_rune (P := Tryd.prog) hit hlt ty
      rw [← HS.out] at hnx
      obtain ⟨f, rfl⟩ : ∃ f, fuel = f + 1 := ⟨fuel - 1, by omega⟩
      have HR := Lib.hid (runeR_range (l.drop pos))
      have HWD := Lib.hid (wideR_pos (l.drop pos))
      have HWI := Lib.hid (wide_in (l := l) (p := pos) (by omega))
      have HST : Hid (nameF l (f + 1) pos = if nameR (runeR (l.drop pos)) then nameF l f (pos + wideR (l.drop pos)) else pos) := by
        show _ = _
        conv => lhs; unfold nameF
        rw [if_pos (by omega)]
      generalize runeR (l.drop pos) = R at *
      generalize wideR (l.drop pos) = WD at *
      have hit2 := Lib.iterAt_heap wr w.heap.size s pos (pos + WD) hit
      have HIT2 := Lib.hid hit2
      have hbw2 := Lib.below_iterAt hbw (k := w.heap.size) (Nat.le_refl _) s (pos + WD)
      have HBW2 := Lib.hid hbw2
      have hsz2 : (wr.iterAt w.heap.size s (pos + WD)).heap.size = wr.heap.size := Lib.iterAt_size _ _ _ _
      have HT2 := Lib.hid (HT.out.go hbw2).now
      have HSZ2 := Lib.hid hsz2
      clear hit hn hit2 hbw2 hsz2 hbw
      have cF : Calls Tryd.prog 64 #[.int .i32 R] (wr.iterAt w.heap.size s (pos + WD)) _ := isFirst_any R _ (i32_rune R HR.out) HT2.out
      cases hfr : firstR R
      · rw [hfr] at cF
        have cD := fun y => digit_any R y (i32_rune R HR.out)
        by_cases hd : digR R < 10
        · have hq : decide (10 ≤ digR R) = false := decide_eq_false (by omega)
          have hnm : Hid (nameR R = true) := by show _ = _; unfold nameR; rw [hfr, decide_eq_true hd]; rfl
          generalize digR R = dR at *
          clear hfr
          go_wp2_with (first
            | (go_at_call 64; refine cF.mono ?_; rintro e w1 ⟨rfl, hb⟩)
            | (go_at_call 86; refine (cD _).mono ?_; rintro e w2 ⟨rfl, rfl⟩))
          have hit3 : w1.heap[w.heap.size]? = some (.stringIter s (pos + WD)) := (hb.block _ (by rw [HSZ2.out]; exact hsz)).trans HIT2.out
          go_roundw
          case rel => exact ⟨pos + WD, f, hit3, HBW2.out.trans (hb.mono (by rw [HSZ2.out]; omega)), by rw [← HN.out, HST.out, hnm.out]; rfl, by have := HWD.out; omega, HWI.out⟩
          case measure =>
            simp only [World.iterPos, hit3, HIT.out]
            have := HWD.out; omega
        · have hq : decide (10 ≤ digR R) = true := decide_eq_true (by omega)
          have hnm : Hid (nameR R = false) := by show _ = _; unfold nameR; rw [hfr, decide_eq_false hd]; rfl
          generalize digR R = dR at *
          clear hfr
          go_wp2_with (first
            | (go_at_call 64; refine cF.mono ?_; rintro e w1 ⟨rfl, hb⟩)
            | (go_at_call 86; refine (cD _).mono ?_; rintro e w2 ⟨rfl, rfl⟩))
          go_ret
          exact ⟨ret_int (by rw [← HN.out, HST.out, hnm.out]; rfl), HBW2.out.trans (hb.mono (by rw [HSZ2.out]; omega))⟩
      · rw [hfr] at cF
        have hnm : Hid (nameR R = true) := by show _ = _; unfold nameR; rw [hfr]; rfl
        clear hfr
        go_wp2_with (go_at_call 64; refine cF.mono ?_; rintro e w1 ⟨rfl, hb⟩)
        have hit3 : w1.heap[w.heap.size]? = some (.stringIter s (pos + WD)) := (hb.block _ (by rw [HSZ2.out]; exact hsz)).trans HIT2.out
        go_roundw
        case rel => exact ⟨pos + WD, f, hit3, HBW2.out.trans (hb.mono (by rw [HSZ2.out]; omega)), by rw [← HN.out, HST.out, hnm.out]; rfl, by have := HWD.out; omega, HWI.out⟩
        case measure =>
          simp only [World.iterPos, hit3, HIT.out]
          have := HWD.out; omega
    · have hnx := fun ty => next_none (P := Tryd.prog) hit hlt ty
      have hres : Hid (Z = s.size) := by
        show _ = _
        rw [← hn]
        cases fuel with
        | zero => unfold nameF; omega
        | succ f => unfold nameF; rw [if_neg (by omega)]; omega
      clear hn hit
      go_wp2
      go_ret
      exact ⟨ret_int (by rw [hres.out]), hbw⟩

set_option maxHeartbeats 1000000 in
theorem digitsOf_any (s : ByteArray) (base : Int) (w : World) (hs : s.size ≤ 9223372036854775807) (hb : 10 ≤ base ∧ base ≤ 16) :
    Calls Tryd.prog 107 #[.string s, .int .i64 base] w fun e w' => e = .returned (.tuple #[.int .i64 (digZ s.data.toList base).1, .int .i64 ((digZ s.data.toList base).2 : Nat)]) ∧ Below w.heap.size w w' := by
  have HL := Lib.hid (data_len s)
  obtain ⟨l, hl⟩ : ∃ l, l = s.data.toList := ⟨_, rfl⟩
  rw [← hl] at HL ⊢
  have HS := Lib.hid hl
  obtain ⟨Z1, hZ1⟩ : ∃ Z, Z = (digZ l base).1 := ⟨_, rfl⟩
  obtain ⟨Z2, hZ2⟩ : ∃ Z, Z = (digZ l base).2 := ⟨_, rfl⟩
  have HZ : Hid (digZ l base = (Z1, Z2)) := by rw [hZ1, hZ2]; exact rfl
  rw [← hZ1, ← hZ2]
  obtain ⟨b0, b1⟩ := hb
  clear hZ1 hZ2 hl
  go_enter Tryd.func107, Tryd.ntmps107
  go_wp2
  go_loopw [6] (fun q wr => ∃ (pos fuel : Nat) (n : Int), q = .int .i64 n ∧ wr.heap[w.heap.size]? = some (.stringIter s pos) ∧ Below w.heap.size w wr ∧ digF l base fuel pos n = (Z1, Z2) ∧ l.length ≤ pos + fuel ∧ pos ≤ l.length ∧ 0 ≤ n ∧ n ≤ 4294967297) (fun _ wr => s.size - wr.iterPos w.heap.size)
  case atStart =>
    exact ⟨0, l.length, 0, rfl, World.iter_heap w s 0, (Below.refl _ w).alloc (Nat.le_refl _) _, HZ.out, by omega, Nat.zero_le _, Int.le_refl _, by omega⟩
  case round =>
    obtain ⟨pos, fuel, n, rfl, hit, hbw, hn, hf, hp, n0, n1⟩ := hrel
    have HIT := Lib.hid hit
    have HN := Lib.hid hn
    have hsz : w.heap.size < wr.heap.size := (Array.getElem?_eq_some_iff.1 hit).1
    have hll := HL.out
    by_cases hlt : pos < s.size
    · have hnx := fun ty => next_rune (P := Tryd.prog) hit hlt ty
      rw [← HS.out] at hnx
      obtain ⟨f, rfl⟩ : ∃ f, fuel = f + 1 := ⟨fuel - 1, by omega⟩
      have HR := Lib.hid (runeR_range (l.drop pos))
      have HWD := Lib.hid (wideR_pos (l.drop pos))
      have HWI := Lib.hid (wide_in (l := l) (p := pos) (by omega))
      have HST : Hid (digF l base (f + 1) pos n = if base ≤ digR (runeR (l.drop pos)) then (n, pos) else digF l base f (pos + wideR (l.drop pos)) (min (n * base + digR (runeR (l.drop pos))) 4294967297)) := by
        show _ = _
        conv => lhs; unfold digF
        rw [if_pos (by omega)]
      generalize runeR (l.drop pos) = R at *
      generalize wideR (l.drop pos) = WD at *
      have hit2 := Lib.iterAt_heap wr w.heap.size s pos (pos + WD) hit
      have HIT2 := Lib.hid hit2
      have HBW2 := Lib.hid (Lib.below_iterAt hbw (k := w.heap.size) (Nat.le_refl _) s (pos + WD))
      have cD := fun y => digit_any R y (i32_rune R HR.out)
      have hdr := digR_range R
      generalize digR R = dR at *
      clear hit hn hit2 hbw
      by_cases hd : base ≤ dR
      · have hq : decide (base ≤ dR) = true := decide_eq_true hd
        go_wp2_with (go_at_call 86; refine (cD _).mono ?_; rintro e w2 ⟨rfl, rfl⟩)
        have hz : (n, pos) = (Z1, Z2) := by rw [← HN.out, HST.out, if_pos hd]
        injection hz with hz1 hz2
        go_ret2
        exact ⟨by subst hz1 hz2; rfl, HBW2.out⟩
      · have hq : decide (base ≤ dR) = false := decide_eq_false hd
        have hnb : 0 ≤ n * base := Int.mul_nonneg n0 (by omega)
        have hnb2 : n * base ≤ 4294967297 * 16 := by
          have h1 : n * base ≤ n * 16 := Int.mul_le_mul_of_nonneg_left b1 n0
          omega
        have hw1 : wrap64 (n * base) = n * base := IntWalk.wrap64_in _ (by omega)
        have hw2 : wrap64 (n * base + dR) = n * base + dR := IntWalk.wrap64_in _ (by omega)
        have HM := Lib.hid (show 0 ≤ min (n * base + dR) 4294967297 ∧ min (n * base + dR) 4294967297 ≤ 4294967297 by omega)
        have HD := Lib.hid hd
        clear hnb hnb2
        go_wp2_with (go_at_call 86; refine (cD _).mono ?_; rintro e w2 ⟨rfl, rfl⟩)
        clear hw1 hw2
        go_roundw
        case rel => exact ⟨pos + WD, f, _, rfl, HIT2.out, HBW2.out, by rw [← HN.out, HST.out, if_neg (show ¬ base ≤ dR by have := HD.out; omega)], by have := HWD.out; omega, HWI.out, HM.out.1, HM.out.2⟩
        case measure =>
          simp only [World.iterPos, HIT2.out, HIT.out]
          have := HWD.out; omega
    · have hnx := fun ty => next_none (P := Tryd.prog) hit hlt ty
      have hres : (n, pos) = (Z1, Z2) := by
        rw [← hn]
        cases fuel with
        | zero => rfl
        | succ f => unfold digF; rw [if_neg (by omega)]
      injection hres with hz1 hz2
      clear hn hit
      go_wp2
      go_ret2
      exact ⟨by subst hz1; rw [← hz2, show pos = s.size by omega]; rfl, hbw⟩

theorem cut_any (s p : ByteArray) (w : World) : Calls Tryd.prog 106 #[.string s, .string p] w fun e w' => e = .returned (.tuple #[.string ⟨(Lib.trimPrefix s.data.toList p.data.toList).toArray⟩, .bool (Lib.hasPrefix s.data.toList p.data.toList)]) ∧ w = w' :=
  (Tryd.strings_CutPrefix s p w).mono fun _ _ h => ⟨h.1, h.2.symm⟩
theorem trim_len (l p : List UInt8) : (Lib.trimPrefix l p).length ≤ l.length := by
  unfold Lib.trimPrefix
  split
  · simp
  · exact Nat.le_refl _
theorem numZ_1 {l : List UInt8} (h : hasPrefix l [48, 120] = true) (h2 : 0 < (digZ (trimPrefix l [48, 120]) 16).2) : numZ l = ((digZ (trimPrefix l [48, 120]) 16).1, 2 + (digZ (trimPrefix l [48, 120]) 16).2) := by
  have e : trimPrefix l [48, 120] = l.drop 2 := by unfold trimPrefix; rw [if_pos h]; rfl
  rw [e] at h2 ⊢
  unfold numZ
  rw [if_pos ⟨h, h2⟩]
theorem numZ_0 {l : List UInt8} (h : hasPrefix l [48, 120] = false ∨ (digZ (trimPrefix l [48, 120]) 16).2 = 0) : ¬ (hasPrefix l [48, 120] = true ∧ 0 < (digZ (l.drop 2) 16).2) := by
  rintro ⟨h1, h2⟩
  have e : trimPrefix l [48, 120] = l.drop 2 := by unfold trimPrefix; rw [if_pos h1]; rfl
  rw [h1, e] at h
  rcases h with h | h
  · cases h
  · omega
theorem numZ_2 {l : List UInt8} (h0 : hasPrefix l [48, 120] = false ∨ (digZ (trimPrefix l [48, 120]) 16).2 = 0) (h : hasPrefix l [45] = true) (h2 : 0 < (digZ (trimPrefix l [45]) 10).2) : numZ l = (-(digZ (trimPrefix l [45]) 10).1, 1 + (digZ (trimPrefix l [45]) 10).2) := by
  have e : trimPrefix l [45] = l.drop 1 := by unfold trimPrefix; rw [if_pos h]; rfl
  rw [e] at h2 ⊢
  unfold numZ
  rw [if_neg (numZ_0 h0), if_pos ⟨h, h2⟩]
theorem numZ_3 {l : List UInt8} (h0 : hasPrefix l [48, 120] = false ∨ (digZ (trimPrefix l [48, 120]) 16).2 = 0) (h : hasPrefix l [45] = false ∨ (digZ (trimPrefix l [45]) 10).2 = 0) : numZ l = digZ l 10 := by
  unfold numZ
  rw [if_neg (numZ_0 h0), if_neg]
  rintro ⟨h1, h2⟩
  have e : trimPrefix l [45] = l.drop 1 := by unfold trimPrefix; rw [if_pos h1]; rfl
  rw [h1, e] at h
  rcases h with h | h
  · cases h
  · omega
set_option maxHeartbeats 2000000 in
theorem numberOf_any (s : ByteArray) (w : World) (hs : s.size ≤ 9223372036854775800) :
    Calls Tryd.prog 87 #[.string s] w fun e w' => e = .returned (.tuple #[.int .i64 (numZ s.data.toList).1, .int .i64 ((numZ s.data.toList).2 : Nat)]) ∧ Below w.heap.size w w' := by
  have hl := data_len s
  have t1 := trim_len s.data.toList [48, 120]
  have t2 := trim_len s.data.toList [45]
  have c1 := fun y => cut_any s ⟨#[48, 120]⟩ y
  have c2 := fun y => cut_any s ⟨#[45]⟩ y
  have d1 := fun y => digitsOf_any ⟨(Lib.trimPrefix s.data.toList [48, 120]).toArray⟩ 16 y (by rw [← data_len]; show (Lib.trimPrefix s.data.toList [48, 120]).length ≤ _; omega) (by omega)
  have d2 := fun y => digitsOf_any ⟨(Lib.trimPrefix s.data.toList [45]).toArray⟩ 10 y (by rw [← data_len]; show (Lib.trimPrefix s.data.toList [45]).length ≤ _; omega) (by omega)
  have d3 := fun y => digitsOf_any s 10 y (by omega) (by omega)
  have n1 := fun h h2 => numZ_1 (l := s.data.toList) h h2
  have n2 := fun h0 h h2 => numZ_2 (l := s.data.toList) h0 h h2
  have n3 := fun h0 h => numZ_3 (l := s.data.toList) h0 h
  have r1 := digZ_range (Lib.trimPrefix s.data.toList [48, 120]) (base := 16) (by omega)
  have r2 := digZ_range (Lib.trimPrefix s.data.toList [45]) (base := 10) (by omega)
  have l1 := digZ_le (Lib.trimPrefix s.data.toList [48, 120]) 16
  have l2 := digZ_le (Lib.trimPrefix s.data.toList [45]) 10
  change ∀ y, Calls Tryd.prog 106 #[.string s, .string ⟨#[48, 120]⟩] y fun e w' => e = .returned (.tuple #[.string ⟨(Lib.trimPrefix s.data.toList [48, 120]).toArray⟩, .bool (Lib.hasPrefix s.data.toList [48, 120])]) ∧ y = w' at c1
  change ∀ y, Calls Tryd.prog 106 #[.string s, .string ⟨#[45]⟩] y fun e w' => e = .returned (.tuple #[.string ⟨(Lib.trimPrefix s.data.toList [45]).toArray⟩, .bool (Lib.hasPrefix s.data.toList [45])]) ∧ y = w' at c2
  change ∀ y, Calls Tryd.prog 107 #[.string ⟨(Lib.trimPrefix s.data.toList [48, 120]).toArray⟩, .int .i64 16] y fun e w' => e = .returned (.tuple #[.int .i64 (digZ (Lib.trimPrefix s.data.toList [48, 120]) 16).1, .int .i64 ((digZ (Lib.trimPrefix s.data.toList [48, 120]) 16).2 : Nat)]) ∧ Below y.heap.size y w' at d1
  change ∀ y, Calls Tryd.prog 107 #[.string ⟨(Lib.trimPrefix s.data.toList [45]).toArray⟩, .int .i64 10] y fun e w' => e = .returned (.tuple #[.int .i64 (digZ (Lib.trimPrefix s.data.toList [45]) 10).1, .int .i64 ((digZ (Lib.trimPrefix s.data.toList [45]) 10).2 : Nat)]) ∧ Below y.heap.size y w' at d2
  generalize Lib.hasPrefix s.data.toList [48, 120] = B1 at *
  generalize Lib.hasPrefix s.data.toList [45] = B2 at *
  generalize (⟨(Lib.trimPrefix s.data.toList [48, 120]).toArray⟩ : ByteArray) = S1 at *
  generalize (⟨(Lib.trimPrefix s.data.toList [45]).toArray⟩ : ByteArray) = S2 at *
  generalize hD1 : digZ (Lib.trimPrefix s.data.toList [48, 120]) 16 = D1 at *
  generalize hD2 : digZ (Lib.trimPrefix s.data.toList [45]) 10 = D2 at *
  generalize digZ s.data.toList 10 = D3 at *
  generalize numZ s.data.toList = Z at *
  obtain ⟨N1, K1⟩ := D1
  obtain ⟨N2, K2⟩ := D2
  obtain ⟨N3, K3⟩ := D3
  simp only at *
  have m1 : (K1 : Int) ≤ 9223372036854775800 := by omega
  have m2 : (K2 : Int) ≤ 9223372036854775800 := by omega
  obtain ⟨r10, r11⟩ := r1
  obtain ⟨r20, r21⟩ := r2
  have C1 := Lib.hid c1; have C2 := Lib.hid c2; have D1 := Lib.hid d1; have D2 := Lib.hid d2; have D3 := Lib.hid d3
  clear hD1 hD2 t1 t2 l1 l2 hl hs c1 c2 d1 d2 d3
  cases B1
  · clear n1
    cases B2
    · have HZ := Lib.hid (n3 (.inl rfl) (.inl rfl))
      clear n2 n3
      go_enter Tryd.func87, Tryd.ntmps87
      go_wp2_with fail
      refine (C1.out _).mono ?_; rintro e w0 ⟨rfl, rfl⟩
      go_wp2_with fail
      refine (C2.out _).mono ?_; rintro e wx ⟨rfl, rfl⟩
      go_wp2_with fail
      refine (D3.out _).mono ?_; rintro e w3 ⟨rfl, hb3⟩
      go_wp2_with fail
      go_ret2
      exact ⟨by rw [HZ.out]; rfl, hb3⟩
    · by_cases hk2 : 0 < K2
      · have HZ := Lib.hid (n2 (.inl rfl) rfl hk2)
        have q21 : decide (0 < K2) = true := decide_eq_true hk2
        have q22 : decide (0 < (K2 : Int)) = true := decide_eq_true (by omega)
        clear n2 n3
        go_enter Tryd.func87, Tryd.ntmps87
        go_wp2_with fail
        refine (C1.out _).mono ?_; rintro e w0 ⟨rfl, rfl⟩
        go_wp2_with fail
        refine (C2.out _).mono ?_; rintro e wx ⟨rfl, rfl⟩
        go_wp2_with fail
        refine (D2.out _).mono ?_; rintro e w2 ⟨rfl, hb2⟩
        have HB2 := Lib.hid (show Below w.heap.size w w2 from hb2)
        clear hb2
        go_wp2_with fail
        go_ret2
        exact ⟨by rw [HZ.out]; first | rfl | simp, HB2.out⟩
      · have HZ := Lib.hid (n3 (.inl rfl) (.inr (by omega)))
        have q21 : decide (0 < K2) = false := decide_eq_false hk2
        have q22 : decide (0 < (K2 : Int)) = false := decide_eq_false (by omega)
        clear n2 n3
        go_enter Tryd.func87, Tryd.ntmps87
        go_wp2_with fail
        refine (C1.out _).mono ?_; rintro e w0 ⟨rfl, rfl⟩
        go_wp2_with fail
        refine (C2.out _).mono ?_; rintro e wx ⟨rfl, rfl⟩
        go_wp2_with fail
        refine (D2.out _).mono ?_; rintro e w2 ⟨rfl, hb2⟩
        have HB2 := Lib.hid (show Below w.heap.size w w2 from hb2)
        clear hb2
        go_wp2_with fail
        refine (D3.out _).mono ?_; rintro e w3 ⟨rfl, hb3⟩
        go_wp2_with fail
        go_ret2
        exact ⟨by rw [HZ.out]; rfl, HB2.out.trans (hb3.mono HB2.out.size)⟩
  · by_cases hk1 : 0 < K1
    · have HZ := Lib.hid (n1 rfl hk1)
      have q11 : decide (0 < K1) = true := decide_eq_true hk1
      have q12 : decide (0 < (K1 : Int)) = true := decide_eq_true (by omega)
      clear n1 n2 n3
      go_enter Tryd.func87, Tryd.ntmps87
      go_wp2_with fail
      refine (C1.out _).mono ?_; rintro e w0 ⟨rfl, rfl⟩
      go_wp2_with fail
      refine (D1.out _).mono ?_; rintro e w1 ⟨rfl, hb1⟩
      have HB1 := Lib.hid hb1
      clear hb1
      go_wp2_with fail
      go_ret2
      exact ⟨by rw [HZ.out]; first | rfl | simp, HB1.out⟩
    · have hk1' : K1 = 0 := by omega
      have q11 : decide (0 < K1) = false := decide_eq_false hk1
      have q12 : decide (0 < (K1 : Int)) = false := decide_eq_false (by omega)
      cases B2
      · have HZ := Lib.hid (n3 (.inr hk1') (.inl rfl))
        clear n1 n2 n3 hk1'
        go_enter Tryd.func87, Tryd.ntmps87
        go_wp2_with fail
        refine (C1.out _).mono ?_; rintro e w0 ⟨rfl, rfl⟩
        go_wp2_with fail
        refine (D1.out _).mono ?_; rintro e w1 ⟨rfl, hb1⟩
        have HB1 := Lib.hid hb1
        clear hb1
        go_wp2_with fail
        refine (C2.out _).mono ?_; rintro e wx ⟨rfl, rfl⟩
        go_wp2_with fail
        refine (D3.out _).mono ?_; rintro e w3 ⟨rfl, hb3⟩
        go_wp2_with fail
        go_ret2
        exact ⟨by rw [HZ.out]; rfl, HB1.out.trans (hb3.mono HB1.out.size)⟩
      · by_cases hk2 : 0 < K2
        · have HZ := Lib.hid (n2 (.inr hk1') rfl hk2)
          have q21 : decide (0 < K2) = true := decide_eq_true hk2
          have q22 : decide (0 < (K2 : Int)) = true := decide_eq_true (by omega)
          clear n1 n2 n3 hk1'
          go_enter Tryd.func87, Tryd.ntmps87
          go_wp2_with fail
          refine (C1.out _).mono ?_; rintro e w0 ⟨rfl, rfl⟩
          go_wp2_with fail
          refine (D1.out _).mono ?_; rintro e w1 ⟨rfl, hb1⟩
          have HB1 := Lib.hid hb1
          clear hb1
          go_wp2_with fail
          refine (C2.out _).mono ?_; rintro e wx ⟨rfl, rfl⟩
          go_wp2_with fail
          refine (D2.out _).mono ?_; rintro e w2 ⟨rfl, hb2⟩
          have HB2 := Lib.hid (show Below w.heap.size w w2 from HB1.out.trans (hb2.mono HB1.out.size))
          clear hb2
          go_wp2_with fail
          go_ret2
          exact ⟨by rw [HZ.out]; first | rfl | simp, HB2.out⟩
        · have HZ := Lib.hid (n3 (.inr hk1') (.inr (by omega)))
          have q21 : decide (0 < K2) = false := decide_eq_false hk2
          have q22 : decide (0 < (K2 : Int)) = false := decide_eq_false (by omega)
          clear n1 n2 n3 hk1'
          go_enter Tryd.func87, Tryd.ntmps87
          go_wp2_with fail
          refine (C1.out _).mono ?_; rintro e w0 ⟨rfl, rfl⟩
          go_wp2_with fail
          refine (D1.out _).mono ?_; rintro e w1 ⟨rfl, hb1⟩
          have HB1 := Lib.hid hb1
          clear hb1
          go_wp2_with fail
          refine (C2.out _).mono ?_; rintro e wx ⟨rfl, rfl⟩
          go_wp2_with fail
          refine (D2.out _).mono ?_; rintro e w2 ⟨rfl, hb2⟩
          have HB2 := Lib.hid (show Below w.heap.size w w2 from HB1.out.trans (hb2.mono HB1.out.size))
          clear hb2
          go_wp2_with fail
          refine (D3.out _).mono ?_; rintro e w3 ⟨rfl, hb3⟩
          go_wp2_with fail
          go_ret2
          exact ⟨by rw [HZ.out]; rfl, HB2.out.trans (hb3.mono HB2.out.size)⟩
end Go.Proofs.YtfdegdbknponkaaDoor.Words

/- Laws of no one program: append of whatever row (nil too) onto a row of the call's own, in a plain region and in one that draws its order; a row of bytes as a string. -/
namespace Go.Proofs.YtfdegdbknponkaaDoor.Words
set_option maxRecDepth 100000
open Go.RowKit
section
variable {P : Program} (w : World)

theorem run_append_row (base : Nat) (t ty e : TypeId) (i : TypeInfo) (z : Value) (size bytes : Nat) (ht : P.underlying t = some (.slice e)) (hi : P.info? e = some i) (hz : i.zero = some z)
    (hsize : i.size = size) (hby : i.bytes = bytes) (hzs : z.cells.size = size) (hsz : 0 < size)
    (v : Value) (n : Nat) (xs : List Value) (hown : w.ownsRow base e size v n xs) (B : Nat) (x : Value) (m : Nat) (news : List Value) (hr : Row w B size x m news) (h1 : ∀ u ∈ news, u.oneCell' = true)
    (h63 : n + m ≤ maxLen) (hbytes : (n + m) * bytes ≤ 140737488355328) (hbase : base ≤ w.heap.size) :
    ∃ v' w', (Builtin.append_ #[t, t] ty #[v, x]).run P w = .ok v' w' ∧ w'.ownsRow base e size v' (n + m) (xs ++ news) ∧ w.grownBy w' v.ownBlock := by
  obtain ⟨A, c, rfl⟩ := hr.form
  rcases A with _ | ad
  · obtain ⟨rfl, rfl⟩ := hr.bare rfl
    have hn : news = [] := List.eq_nil_of_length_eq_zero (by simpa using hr.len)
    subst hn
    have hrun := run_append_owned_none (P := P) w base t ty e i size ht hi v n xs hown
    exact ⟨v, w, hrun, by simpa using hown, World.grownBy.refl w _⟩
  · obtain ⟨v', w', h2, h3, h4, _⟩ := run_append_own (P := P) w base t ty e i z size bytes ht hi hz hsize hby hzs hsz v n xs hown ad m c news hr.len (hr.cells ad rfl) h1 h63 hbytes hbase
    exact ⟨v', w', h2, h3, h4⟩

theorem wp_append_row {o : Oper} {a : Act} {K : Act → World → Prop} {Q : Exit → Act → World → Prop} (s y : Operand) (t : TypeId)
    (ho : o.op = .call { callee := .builtin .append, args := #[s, y], argTypes := #[t, t] })
    (base : Nat) (e : TypeId) (i : TypeInfo) (z : Value) (size bytes : Nat) (ht : P.underlying t = some (.slice e)) (hi : P.info? e = some i) (hz : i.zero = some z)
    (hsize : i.size = size) (hby : i.bytes = bytes) (hzs : z.cells.size = size) (hsz : 0 < size)
    (v : Value) (n : Nat) (xs : List Value) (hs : a.eval s = v) (hown : w.ownsRow base e size v n xs) (B : Nat) (x : Value) (m : Nat) (news : List Value) (hx : a.eval y = x) (hr : Row w B size x m news) (h1 : ∀ u ∈ news, u.oneCell' = true)
    (h63 : n + m ≤ maxLen) (hbytes : (n + m) * bytes ≤ 140737488355328) (hbase : base ≤ w.heap.size)
    (h : ∀ v' w', w'.ownsRow base e size v' (n + m) (xs ++ news) → w.grownBy w' v.ownBlock → K (a.put o.dst v') w') : o.wp P a w K Q := by
  obtain ⟨v', w', hrun, h2, h3⟩ := run_append_row (P := P) w base t o.type e i z size bytes ht hi hz hsize hby hzs hsz v n xs hown B x m news hr h1 h63 hbytes hbase
  unfold Oper.wp execOp
  simp only [ho, resolve, invoke, builtin, Sem.run_bind, Sem.run_pure, Result.andThen_ok, List.map_toArray, List.map_cons, List.map_nil, hs, hx, hrun]
  exact h v' w' h2 h3

theorem wpList_append_row {ops : Array Oper} {rest : List Oper} {o : Oper} {a : Act} {Q : Exit → Act → World → Prop} (hgd : o.guard = none) (s y : Operand) (t : TypeId)
    (ho : o.op = .call { callee := .builtin .append, args := #[s, y], argTypes := #[t, t] })
    (base : Nat) (e : TypeId) (i : TypeInfo) (z : Value) (size bytes : Nat) (ht : P.underlying t = some (.slice e)) (hi : P.info? e = some i) (hz : i.zero = some z)
    (hsize : i.size = size) (hby : i.bytes = bytes) (hzs : z.cells.size = size) (hsz : 0 < size)
    (v : Value) (n : Nat) (xs : List Value) (hs : a.eval s = v) (hown : w.ownsRow base e size v n xs) (B : Nat) (x : Value) (m : Nat) (news : List Value) (hx : a.eval y = x) (hr : Row w B size x m news) (h1 : ∀ u ∈ news, u.oneCell' = true)
    (h63 : n + m ≤ maxLen) (hbytes : (n + m) * bytes ≤ 140737488355328) (hbase : base ≤ w.heap.size)
    (h : ∀ v' w', w'.ownsRow base e size v' (n + m) (xs ++ news) → w.grownBy w' v.ownBlock → wpList P ops Q rest (a.put o.dst v') w') : wpList P ops Q (o :: rest) a w :=
  wpList_plain hgd fun _ hK => wp_append_row w s y t ho base e i z size bytes ht hi hz hsize hby hzs hsz v n xs hs hown B x m news hx hr h1 h63 hbytes hbase fun v' w' h2 h3 => hK _ _ (h v' w' h2 h3)

/-- As one step of a region that draws, whatever its guard says as long as it is wanted. -/
theorem step_append_row {ops : Array Oper} {o : Oper} {a : Act} {K : Act → World → Prop} {Q : Exit → Act → World → Prop} {E : Prop} (s y : Operand) (t : TypeId)
    (ho : o.op = .call { callee := .builtin .append, args := #[s, y], argTypes := #[t, t] }) (hw : Region.wanted o (yielded ops a.tmps) = true)
    (base : Nat) (e : TypeId) (i : TypeInfo) (z : Value) (size bytes : Nat) (ht : P.underlying t = some (.slice e)) (hi : P.info? e = some i) (hz : i.zero = some z)
    (hsize : i.size = size) (hby : i.bytes = bytes) (hzs : z.cells.size = size) (hsz : 0 < size)
    (v : Value) (n : Nat) (xs : List Value) (hs : a.eval s = v) (hown : w.ownsRow base e size v n xs) (B : Nat) (x : Value) (m : Nat) (news : List Value) (hx : a.eval y = x) (hr : Row w B size x m news) (h1 : ∀ u ∈ news, u.oneCell' = true)
    (h63 : n + m ≤ maxLen) (hbytes : (n + m) * bytes ≤ 140737488355328) (hbase : base ≤ w.heap.size)
    (h : ∀ v' w', w'.ownsRow base e size v' (n + m) (xs ++ news) → w.grownBy w' v.ownBlock → K (a.put o.dst v') w') : if Region.wanted o (yielded ops a.tmps) = true then Oper.wp P o a w K Q else E := by
  rw [if_pos hw]
  exact wp_append_row w s y t ho base e i z size bytes ht hi hz hsize hby hzs hsz v n xs hs hown B x m news hx hr h1 h63 hbytes hbase h

theorem conv_row (src e : TypeId) (hs : P.underlying src = some (.slice e)) (he : P.underlying e = some (.int .u8)) {B : Nat} {v : Value} {n : Nat} {xs : List Int} (hr : Row w B 1 v n (xs.map (Value.int .u8))) :
    ∀ dst, P.underlying dst = some .string → (convert src dst v).run P w = .ok (.string (strOfNums xs)) w := by
  intro dst hd
  obtain ⟨A, c, rfl⟩ := hr.form
  have hl : xs.length = n := by simpa using hr.len
  by_cases hn : n = 0
  · subst hn
    have : xs = [] := List.eq_nil_of_length_eq_zero hl
    subst this
    rcases A with _ | ad
    · exact run_convert_bytes_nil w src e hs he 0 c dst hd
    · rw [run_convert_bytes_string w src dst e _ 0 c hs he hd, run_bytesToString w ad 0 c [] (by simp [loadCells, loadCellsFrom])]
      rfl
  · obtain ⟨b, off, rfl, _, hc⟩ := hr.at_ hn
    refine run_convert_bytes_arg w src e hs he b off n c xs hl (fun i hi => hc i _ ?_) dst hd
    rw [List.getElem?_map, List.getElem?_eq_getElem (by omega), List.getD_eq_getElem?_getD, List.getElem?_eq_getElem (by omega)]
    rfl
end
end Go.Proofs.YtfdegdbknponkaaDoor.Words

/- A row of bytes (of numbers): its cells. Nothing here speaks of one program text. -/
namespace Go.Proofs.YtfdegdbknponkaaDoor.Words
set_option maxRecDepth 100000
open Go.RowKit

theorem byte_at {zs : List Int} (hz : ∀ x ∈ zs, 0 ≤ x ∧ x ≤ 255) (j : Nat) : 0 ≤ zs.getD j 0 ∧ zs.getD j 0 ≤ 255 := by
  rw [List.getD_eq_getElem?_getD]
  rcases h : zs[j]? with _ | x
  · simp
  · simpa using hz x (List.mem_of_getElem? h)

theorem cell_row {w : World} {b off : Nat} {zs : List Int} {k : IntKind} (hc : ∀ j u, (zs.map (Value.int k))[j]? = some u → w.cell? ⟨b, off + j, none⟩ = some u) (j : Nat) (hj : j < zs.length) :
    w.cell? ⟨b, off + j, none⟩ = some (.int k (zs.getD j 0)) := by
  refine hc j _ ?_
  rw [List.getElem?_map, List.getElem?_eq_getElem hj, List.getD_eq_getElem?_getD, List.getElem?_eq_getElem hj]
  rfl
theorem Row.num {w : World} {B n : Nat} {b off c : Nat} {zs : List Int} {k : IntKind} (h : Row w B 1 (.slice (some ⟨b, off, none⟩) n c) n (zs.map (Value.int k))) (j : Nat) (hj : j < n) :
    w.cell? ⟨b, off + j, none⟩ = some (.int k (zs.getD j 0)) := by
  have hl : zs.length = n := by have := h.len; simpa using this
  have := h.cells ⟨b, off, none⟩ rfl j (.int k (zs.getD j 0)) (by rw [List.getElem?_map, List.getElem?_eq_getElem (by omega), List.getD_eq_getElem?_getD, List.getElem?_eq_getElem (by omega)]; rfl)
  rwa [add_spot] at this
end Go.Proofs.YtfdegdbknponkaaDoor.Words

/- Rows of the call's own: kept, cut short, joined. Nothing here speaks of one program text. -/
namespace Go.Proofs.YtfdegdbknponkaaDoor.Words
set_option maxRecDepth 100000
open Go.RowKit

theorem own_below {w w' : World} {base : Nat} {e : TypeId} {size : Nat} {v : Value} {n : Nat} {xs : List Value} (h : w.ownsRow base e size v n xs) (hb : Below w.heap.size w w') : w'.ownsRow base e size v n xs := by
  refine ⟨h.1, ?_⟩
  rcases h.2 with h' | ⟨g, cap, cur, rfl, h1, h2, h3⟩
  · exact .inl h'
  · exact .inr ⟨g, cap, cur, rfl, h1, (hb.block g (Array.getElem?_eq_some_iff.1 h2).1).trans h2, h3⟩
theorem own_base {w : World} {base base' : Nat} {e : TypeId} {size : Nat} {v : Value} {n : Nat} {xs : List Value} (h : w.ownsRow base e size v n xs) (hb : base' ≤ base) : w.ownsRow base' e size v n xs := by
  refine ⟨h.1, ?_⟩
  rcases h.2 with h' | ⟨g, cap, cur, rfl, h1, h2⟩
  · exact .inl h'
  · exact .inr ⟨g, cap, cur, rfl, Nat.le_trans hb h1, h2⟩
theorem u8_one (l : List Int) : ∀ u ∈ l.map (Value.int .u8), u.oneCell' = true := by
  intro u hu
  obtain ⟨x, _, rfl⟩ := List.mem_map.1 hu
  rfl

theorem new_cells1 (w : World) (o : Obj) (cs : Array Value) (t : TypeId) (xs : List Value) (h : cs.toList = xs) : ∀ j u, xs[j]? = some u → ((w.alloc o).alloc (.cells cs t)).cell? ((⟨w.heap.size + 1, 0, none⟩ : Addr).add j) = some u := by
  have := new_cells (w.alloc o) cs t xs h
  have e : (w.alloc o).heap.size = w.heap.size + 1 := by simp
  rw [e] at this
  exact this
theorem two_cell {w : World} {o1 o2 : Obj} {b k : Nat} {v : Value} (hb : b < w.heap.size) (h : w.cell? ⟨b, k, none⟩ = some v) : ((w.alloc o1).alloc o2).cell? ⟨b, k, none⟩ = some v := by
  rw [World.cell?_alloc_lt _ _ _ (by simp; omega), World.cell?_alloc_lt _ _ _ hb]; exact h
theorem two_frozen {w : World} {o1 o2 : Obj} {b k : Nat} {v : Bool} (hb : b < w.heap.size) (h : w.frozen? ⟨b, k, none⟩ = v) : ((w.alloc o1).alloc o2).frozen? ⟨b, k, none⟩ = v := by
  have h1 : Below (b + 1) w ((w.alloc o1).alloc o2) := ((Below.refl _ _).alloc (by omega) _).alloc (by simp; omega) _
  rw [h1.frozen (p := ⟨b, k, none⟩) (by show b < b + 1; omega)]; exact h
theorem below_cell {B : Nat} {x y : World} {b k : Nat} {v : Value} (h : Below B x y) (hb : b < B) (hv : x.cell? ⟨b, k, none⟩ = some v) : y.cell? ⟨b, k, none⟩ = some v := by
  rw [h.cell (p := ⟨b, k, none⟩) hb]; exact hv
theorem below_frozen {B : Nat} {x y : World} {b k : Nat} {v : Bool} (h : Below B x y) (hb : b < B) (hv : x.frozen? ⟨b, k, none⟩ = v) : y.frozen? ⟨b, k, none⟩ = v := by
  rw [h.frozen (p := ⟨b, k, none⟩) hb]; exact hv
theorem own_grown {w w' : World} {base : Nat} {e : TypeId} {size : Nat} {v : Value} {n : Nat} {xs : List Value} {row : Option Nat} (h : w.ownsRow base e size v n xs) (hg : w.grownBy w' row) (hne : ∀ g, v.ownBlock = some g → some g ≠ row) : w'.ownsRow base e size v n xs := by
  refine ⟨h.1, ?_⟩
  rcases h.2 with h' | ⟨g, cap, cur, rfl, h1, h2, h3⟩
  · exact .inl h'
  · exact .inr ⟨g, cap, cur, rfl, h1, (hg.block g (Array.getElem?_eq_some_iff.1 h2).1 (hne g rfl)).trans h2, h3⟩

theorem own_form {w : World} {base : Nat} {e : TypeId} {size : Nat} {v : Value} {n : Nat} {xs : List Value} (h : w.ownsRow base e size v n xs) (hn : n ≠ 0) : ∃ g cap, v = .slice (some ⟨g, 0, none⟩) n cap ∧ base ≤ g ∧ g < w.heap.size := by
  rcases h.2 with ⟨rfl, rfl⟩ | ⟨g, cap, cur, rfl, h1, h2, h3⟩
  · exact absurd rfl hn
  · exact ⟨g, cap, rfl, h1, (Array.getElem?_eq_some_iff.1 h2).1⟩

theorem own_u8 {w : World} {base : Nat} {e : TypeId} {g cap L : Nat} {zs : List Int} (h : w.ownsRow base e 1 (.slice (some ⟨g, 0, none⟩) L cap) L (zs.map (Value.int .u8))) (j : Nat) (hj : j < L) : w.cell? ⟨g, j, none⟩ = some (.int .u8 (zs.getD j 0)) := by
  have hl : zs.length = L := by have := h.1; simpa using this
  rw [h.cellAt j (by omega), List.getElem?_map, List.getD_eq_getElem?_getD, List.getElem?_eq_getElem (by omega)]; rfl
theorem one_cell {w : World} {o1 : Obj} {b k : Nat} {v : Value} (hb : b < w.heap.size) (h : w.cell? ⟨b, k, none⟩ = some v) : (w.alloc o1).cell? ⟨b, k, none⟩ = some v := by
  rw [World.cell?_alloc_lt _ _ _ hb]; exact h
theorem one_frozen {w : World} {o1 : Obj} {b k : Nat} {v : Bool} (hb : b < w.heap.size) (h : w.frozen? ⟨b, k, none⟩ = v) : (w.alloc o1).frozen? ⟨b, k, none⟩ = v := by
  have h1 : Below (b + 1) w (w.alloc o1) := (Below.refl _ _).alloc (by omega) _
  rw [h1.frozen (p := ⟨b, k, none⟩) (by show b < b + 1; omega)]; exact h

theorem own_front {w : World} {base : Nat} {e : TypeId} {g n cap k : Nat} {xs : List Value} (h : w.ownsRow base e 1 (.slice (some ⟨g, 0, none⟩) n cap) n xs) (hk : k ≤ n) : w.ownsRow base e 1 (.slice (some ⟨g, 0, none⟩) k cap) k (xs.take k) := by
  have hl : xs.length = n := by have := h.1; simpa using this
  rcases h.2 with ⟨h', _⟩ | ⟨g', cap', cur, h', h1, h2, h3, h4, h5, h6⟩
  · simp at h'
  · simp only [Value.slice.injEq, Option.some.injEq, Addr.mk.injEq, and_true, true_and] at h'
    obtain ⟨rfl, rfl⟩ := h'
    refine ⟨by simp; omega, .inr ⟨g, cap, cur, rfl, h1, h2, by omega, h4, h5, ?_⟩⟩
    rw [← h6, List.take_take]
    congr 1; omega
end Go.Proofs.YtfdegdbknponkaaDoor.Words

/- A law of no one program: A REGION THAT DRAWS ITS ORDER, WALKED IN ONE ORDER. 'linOk' (reckoned by the kernel) says of an order: an operation that is marked (it only reads) may come up at its time and waits for nobody it could disturb; one that is not marked is alone in being able to come up.
   The condition S on the world may be made stronger on the way ('lin_more'): so what a callee has just made may be read by an operation that Go may carry out later. -/
namespace Go.Proofs.YtfdegdbknponkaaDoor.Words
set_option maxRecDepth 100000
open Go.RowKit

def linOk (md : Region.Mode) (ops : Array Oper) : List (Nat × Bool) → Array Bool → Bool
  | [], listed => (Region.ready md ops listed).isEmpty
  | (i, true) :: rest, listed => (Region.ready md ops listed).contains i && Region.free md ops listed i && linOk md ops rest (listed.setIfInBounds i true)
  | (i, false) :: rest, listed => (Region.ready md ops listed == [i]) && linOk md ops rest (listed.setIfInBounds i true)

section
variable {P : Program} {ops : Array Oper} {Q : Exit → Act → World → Prop} {md : Region.Mode}

/-- One operation that may turn the world. -/
def linStep (P : Program) (ops : Array Oper) (Q : Exit → Act → World → Prop) (o : Oper) (K : Act → World → Prop) (a : Act) (w : World) : Prop :=
  if Region.wanted o (yielded ops a.tmps) = true then o.wp P a w K Q else K (a.put o.dst undef) w

def wpLin (P : Program) (ops : Array Oper) (Q : Exit → Act → World → Prop) : List (Option Oper × Bool) → (World → Prop) → Act → World → Prop
  | [], _, a, w => Q .normal a w
  | (none, _) :: _, _, _, _ => False
  | (some o, true) :: rest, S, a, w => ∃ S' : World → Prop, (∀ x, S' x → S x) ∧ S' w ∧ ∃ v, YieldsIf P ops S' o v a ∧ wpLin P ops Q rest S' (a.put o.dst v) w
  | (some o, false) :: rest, S, a, w => ∃ S' : World → Prop, (∀ x, S' x → S x) ∧ S' w ∧ linStep P ops Q o (fun a' w' => S' w' ∧ wpLin P ops Q rest S' a' w') a w

theorem held_weaken {S S' : World → Prop} (hS : ∀ x, S' x → S x) : ∀ (fuel : Nat) (listed : Array Bool) (a : Act) (w : World), wpAnyH P md ops Q S' fuel listed a w → wpAnyH P md ops Q S fuel listed a w
  | 0, _, _, _, h => h
  | fuel + 1, _, _, _, h => ⟨h.1, fun i hi => wpOp_mono (fun a' w' h' => ⟨hS _ h'.1, held_weaken hS fuel _ a' w' h'.2⟩) (h.2 i hi)⟩

theorem held_lin (hs : Region.noSelect ops = true) (hQ : ∀ d v c a w, Q (.panic c) (a.put d v) w → Q (.panic c) a w) :
    ∀ (order : List (Nat × Bool)) (listed : Array Bool) (S : World → Prop) (a : Act) (w : World), linOk md ops order listed = true →
      wpLin P ops Q (order.map fun p => (ops[p.1]?, p.2)) S a w → wpAnyH P md ops Q S order.length listed a w
  | [], listed, S, a, w, hok, h => ⟨by simpa [linOk] using hok, h⟩
  | (i, true) :: rest, listed, S, a, w, hok, h => by
    simp only [linOk, Bool.and_eq_true] at hok
    obtain ⟨⟨h1, h2⟩, h3⟩ := hok
    rcases ho : ops[i]? with _ | o
    · simp only [List.map_cons, ho, wpLin] at h
    · simp only [List.map_cons, ho, wpLin] at h
      obtain ⟨S', k1, k2, v, k3, k4⟩ := h
      exact held_weaken k1 _ _ _ _ (wpAnyH_take ho hs h2 h1 (hQ _ _) k3 k2 (held_lin hs hQ rest _ S' _ w h3 k4))
  | (i, false) :: rest, listed, S, a, w, hok, h => by
    simp only [linOk, Bool.and_eq_true, beq_iff_eq] at hok
    obtain ⟨h1, h3⟩ := hok
    rcases ho : ops[i]? with _ | o
    · simp only [List.map_cons, ho, wpLin] at h
    · simp only [List.map_cons, ho, wpLin] at h
      obtain ⟨S', k1, k2, k3⟩ := h
      refine held_weaken k1 _ _ _ _ (wpAnyH_all h1 (by simp) fun j hj => ?_)
      have hji : j = i := by simpa using hj
      subst hji
      unfold wpOp
      simp only [ho]
      unfold linStep at k3
      split at k3
      · rename_i hw
        rw [if_pos hw]
        exact .inl (Oper.wp_mono (fun a' w' hk => ⟨hk.1, held_lin hs hQ rest _ S' a' w' h3 hk.2⟩) k3)
      · rename_i hw
        rw [if_neg hw]
        exact ⟨k3.1, held_lin hs hQ rest _ S' _ _ h3 k3.2⟩

/-- THE REGION. -/
theorem wp_region_lin {id : Nat} {a : Act} {w : World} (order : List (Nat × Bool)) (hm : P.follows .mixedOrders = true) (hs : Region.noSelect ops = true) (hl : order.length = ops.size)
    (hok : linOk .any ops order (Array.replicate ops.size false) = true) (S : World → Prop)
    (h : wpLin P ops (NoPanic Q) (order.map fun p => (ops[p.1]?, p.2)) S a w.drew) : (Code.region id ops true).wp P Q a w := by
  refine wp_region_noPanic (wp_region_held hm (S := S) ?_)
  have hh := held_lin hs (fun _ _ _ _ _ h => h) order _ S a w.drew hok h
  rw [hl] at hh
  exact hh

theorem lin_take {o : Oper} {rest : List (Option Oper × Bool)} {S : World → Prop} {a : Act} {w : World} {v : Value} (hS : S w)
    (hw : Region.wanted o (yielded ops a.tmps) = true) (hy : ∀ x, S x → (execOp a.eval o).run P x = .ok (.value v) x)
    (h : wpLin P ops Q rest S (a.put o.dst v) w) : wpLin P ops Q ((some o, true) :: rest) S a w := ⟨S, fun _ h => h, hS, v, .inl ⟨hw, hy⟩, h⟩
theorem lin_skip {o : Oper} {rest : List (Option Oper × Bool)} {S : World → Prop} {a : Act} {w : World} (hS : S w)
    (hw : Region.wanted o (yielded ops a.tmps) = false) (h : wpLin P ops Q rest S (a.put o.dst undef) w) : wpLin P ops Q ((some o, true) :: rest) S a w := ⟨S, fun _ h => h, hS, undef, .inr ⟨hw, rfl⟩, h⟩
theorem lin_call {o : Oper} {rest : List (Option Oper × Bool)} {S : World → Prop} {a : Act} {w : World} (hS : S w) (hw : Region.wanted o (yielded ops a.tmps) = true)
    (h : ∀ K : Act → World → Prop, Shut (∀ a w, S w → (S w → wpLin P ops Q rest S a w) → K a w) → Oper.wp P o a w K Q) : wpLin P ops Q ((some o, false) :: rest) S a w :=
  ⟨S, fun _ h => h, hS, by unfold linStep; rw [if_pos hw]; exact h _ (fun _ _ h1 h2 => ⟨h1, h2 h1⟩)⟩
theorem lin_more {l : List (Option Oper × Bool)} {S S' : World → Prop} {a : Act} {w : World} (h1 : ∀ x, S' x → S x) (h : wpLin P ops Q l S' a w) : wpLin P ops Q l S a w := by
  rcases l with _ | ⟨⟨o, b⟩, rest⟩
  · exact h
  · rcases o with _ | o
    · exact h
    · cases b
      · obtain ⟨S2, k1, k2⟩ := h
        exact ⟨S2, fun x hx => h1 x (k1 x hx), k2⟩
      · obtain ⟨S2, k1, k2⟩ := h
        exact ⟨S2, fun x hx => h1 x (k1 x hx), k2⟩
theorem lin_done {S : World → Prop} {a : Act} {w : World} (h : Q .normal a w) : wpLin P ops (NoPanic Q) [] S a w := h
end
end Go.Proofs.YtfdegdbknponkaaDoor.Words

/- Laws of no one program: a part of a row; 'copy' of any row into a row of the call's own, as one operation and in a plain region. -/
namespace Go.Proofs.YtfdegdbknponkaaDoor.Words
set_option maxRecDepth 100000
open Go.RowKit
set_option linter.unusedVariables false

theorem Row.cut {w : World} {B n c k m : Nat} {b off : Nat} {xs : List Value} (h : Row w B 1 (.slice (some ⟨b, off, none⟩) n c) n xs) (hk : k + m ≤ n) (hm : 0 < n) :
    Row w B 1 (.slice (some ⟨b, off + k, none⟩) m (c - k)) m ((xs.drop k).take m) := by
  have hl : xs.length = n := by have := h.len; omega
  obtain ⟨h2, h3⟩ := h.cap
  obtain ⟨b', off', e, hb, hc⟩ := h.at_ (by omega)
  simp only [Option.some.injEq, Addr.mk.injEq, and_true] at e
  obtain ⟨rfl, rfl⟩ := e
  refine ⟨by simp; omega, _, _, rfl, by omega, by omega, (fun h => by cases h), fun _ => ⟨b, off + k, rfl, hb, fun j u hu => ?_⟩⟩
  have hj : (xs.drop k)[j]? = some u := by
    rw [List.getElem?_take] at hu
    split at hu
    · exact hu
    · cases hu
  rw [List.getElem?_drop] at hj
  rw [show off + k + j = off + (k + j) by omega]
  exact hc _ _ hj

theorem own_block {w : World} {base : Nat} {e : TypeId} {g n cap : Nat} {xs : List Value} (h : w.ownsRow base e 1 (.slice (some ⟨g, 0, none⟩) n cap) n xs) :
    ∃ cur : List Value, w.heap[g]? = some (.cells cur.toArray e (0, 0)) ∧ base ≤ g ∧ n ≤ cap ∧ cap ≤ maxLen ∧ cur.length = cap ∧ cur.take n = xs := by
  rcases h.2 with ⟨h', _⟩ | ⟨g', cap', cur, h', h1, h2, h3, h4, h5, h6⟩
  · simp at h'
  · simp only [Value.slice.injEq, Option.some.injEq, Addr.mk.injEq, and_true, true_and] at h'
    obtain ⟨rfl, rfl⟩ := h'
    exact ⟨cur.toList, by simpa using h2, h1, h3, h4, by simpa using h5, by simpa using h6⟩

theorem take_splice {α : Type} (L : List α) (off n : Nat) (cs : List α) (h : off + cs.length ≤ n) (hn : n ≤ L.length) : (splice L off cs).take n = splice (L.take n) off cs := by
  have e1 : (L.take off).length = off := by simp; omega
  unfold splice
  rw [List.take_append, List.take_of_length_le (by omega : (L.take off).length ≤ n), e1, List.take_append, List.take_of_length_le (by omega : cs.length ≤ n - off), List.take_take, Nat.min_eq_left (by omega : off ≤ n), List.drop_take]
  congr 3; omega

theorem splice_nil {α : Type} (L : List α) (k : Nat) : splice L k [] = L := by simp [splice]
theorem splice_cons {α : Type} (L : List α) (k : Nat) (x : α) (cs : List α) (h : k < L.length) : splice L k (x :: cs) = splice (L.set k x) (k + 1) cs := by
  unfold splice
  rw [List.take_add_one, List.getElem?_set_self h, List.take_set_of_le (Nat.le_refl _), List.drop_set_of_lt (by omega)]
  simp only [Option.toList_some, List.append_assoc, List.cons_append, List.nil_append, List.length_cons]
  rw [show k + (cs.length + 1) = k + 1 + cs.length by omega]

section
variable {P : Program} {w : World}

theorem wp_copy_rows {o : Oper} {a : Act} {K : Act → World → Prop} {Q : Exit → Act → World → Prop} (d s : Operand) (dT sT : TypeId)
    (ho : o.op = .call { callee := .builtin .copy, args := #[d, s], argTypes := #[dT, sT] }) (elem : TypeId) (hu : P.underlying dT = some (.slice elem)) (hsz : (P.info? elem).map (·.size) = some 1)
    (base g n cap off dLen dCap : Nat) (xs : List Value) (hown : w.ownsRow base elem 1 (.slice (some ⟨g, 0, none⟩) n cap) n xs) (hd : a.eval d = .slice (some ⟨g, off, none⟩) dLen dCap)
    (A : Option Addr) (m c B : Nat) (ys : List Value) (hs : a.eval s = .slice A m c) (hr : Row w B 1 (.slice A m c) m ys) (h1 : ∀ v ∈ ys, v.oneCell' = true) (hfit : off + min m dLen ≤ n)
    (h : ∀ w', w'.ownsRow base elem 1 (.slice (some ⟨g, 0, none⟩) n cap) n (splice xs off (ys.take dLen)) → Below g w w' → K (a.put o.dst (goInt ((min m dLen : Nat) : Int))) w') :
    Oper.wp P o a w K Q := by
  obtain ⟨cur, hg, hb, hn, hm, hcl, hx⟩ := own_block hown
  have hl : ys.length = m := by have := hr.len; omega
  have hcs : (ys.take dLen).length = min m dLen := by rw [List.length_take, hl, Nat.min_comm]
  by_cases h0 : min m dLen = 0
  · have hrun := run_copy_none (P := P) w dT sT o.type elem (some ⟨g, off, none⟩) A dLen dCap m c hu hsz h0
    have he : ys.take dLen = [] := List.eq_nil_of_length_eq_zero (hcs.trans h0)
    unfold Oper.wp
    simp [execOp, ho, resolve, invoke, builtin, hd, hs, hrun, Result.andThen]
    have := h w (by rw [he]; simpa [splice] using hown) (Below.refl _ _)
    rw [h0] at this
    exact this
  · obtain ⟨b, o2, rfl, hlt, hc⟩ := hr.at_ (show m ≠ 0 by omega)
    have hcell : ∀ j v, (ys.take dLen)[j]? = some v → w.cell? ((⟨b, o2, none⟩ : Addr).add j) = some v := by
      intro j v hv
      rw [add_spot]
      refine hc j v ?_
      rw [List.getElem?_take] at hv
      split at hv
      · exact hv
      · cases hv
    have hrun := run_copy_row (P := P) w dT sT o.type elem g off dLen dCap ⟨b, o2, none⟩ m c cur.toArray elem (ys.take dLen) hu hsz hg hcs hcell (by simp only [List.size_toArray]; omega) (fun v hv => h1 v (List.mem_of_mem_take hv))
    unfold Oper.wp
    simp [execOp, ho, resolve, invoke, builtin, hd, hs, hrun, Result.andThen]
    have hk : a.put o.dst (goInt (min dLen ys.length : Nat)) = a.put o.dst (goInt ((min m dLen : Nat) : Int)) := by rw [hl, Nat.min_comm]
    have := h (w.setRow g (splice cur off (ys.take dLen)).toArray) (by
      refine ⟨?_, .inr ⟨g, cap, (splice cur off (ys.take dLen)).toArray, rfl, hb, setRow_heap w g _ _ elem _ hg, hn, hm, ?_, ?_⟩⟩
      · have hxl : xs.length = n := by have := hown.1; omega
        rw [length_splice _ _ _ (by rw [hcs]; omega)]; omega
      · simp only [List.size_toArray]; rw [length_splice _ _ _ (by rw [hcs]; omega)]; omega
      · rw [Nat.mul_one]
        show (splice cur off (ys.take dLen)).take n = _
        rw [take_splice _ _ _ _ (by rw [hcs]; omega) (by omega), hx])
      (below_setRow (Below.refl _ _) (Nat.le_refl _) _)
    rw [← hk] at this
    unfold splice at this
    simp only [List.length_take] at this
    exact this

theorem wpList_copy_rows {ops : Array Oper} {rest : List Oper} {o : Oper} {a : Act} {Q : Exit → Act → World → Prop} (hgd : o.guard = none) (d s : Operand) (dT sT : TypeId)
    (ho : o.op = .call { callee := .builtin .copy, args := #[d, s], argTypes := #[dT, sT] }) (elem : TypeId) (hu : P.underlying dT = some (.slice elem)) (hsz : (P.info? elem).map (·.size) = some 1)
    (base g n cap off dLen dCap : Nat) (xs : List Value) (hown : w.ownsRow base elem 1 (.slice (some ⟨g, 0, none⟩) n cap) n xs) (hd : a.eval d = .slice (some ⟨g, off, none⟩) dLen dCap)
    (A : Option Addr) (m c B : Nat) (ys : List Value) (hs : a.eval s = .slice A m c) (hr : Row w B 1 (.slice A m c) m ys) (h1 : ∀ v ∈ ys, v.oneCell' = true) (hfit : off + min m dLen ≤ n)
    (h : ∀ w', w'.ownsRow base elem 1 (.slice (some ⟨g, 0, none⟩) n cap) n (splice xs off (ys.take dLen)) → Below g w w' → wpList P ops Q rest (a.put o.dst (goInt ((min m dLen : Nat) : Int))) w') :
    wpList P ops Q (o :: rest) a w :=
  wpList_plain hgd fun K hK => wp_copy_rows d s dT sT ho elem hu hsz base g n cap off dLen dCap xs hown hd A m c B ys hs hr h1 hfit fun w' h2 h3 => hK _ _ (h w' h2 h3)
end
end Go.Proofs.YtfdegdbknponkaaDoor.Words

/- Laws of no one program: a variable of many cells (a struct, an array) as ONE block whose cells are a list that need not be written out: read whole or in part, written whole or in part; the world behind a write is a variable. -/
namespace Go.Proofs.YtfdegdbknponkaaDoor.Words
set_option maxRecDepth 100000
open Go.RowKit
set_option linter.unusedVariables false

/-- Block b holds the cells l, and may be written. -/
def Box (w : World) (b : Nat) (l : List Value) : Prop := ∃ t, w.heap[b]? = some (.cells l.toArray t (0, 0))
section
variable {w w' : World} {b : Nat} {l : List Value}
theorem Box.new (w : World) (l : List Value) (t : TypeId) : Box (w.alloc (.cells l.toArray t)) w.heap.size l := ⟨t, heap_alloc_new w _⟩
theorem Box.lt (h : Box w b l) : b < w.heap.size := by obtain ⟨t, h⟩ := h; exact (Array.getElem?_eq_some_iff.1 h).1
theorem Box.cell (h : Box w b l) {k : Nat} {v : Value} (hk : l[k]? = some v) : w.cell? ⟨b, k, none⟩ = some v := by
  obtain ⟨t, h⟩ := h
  rw [cell_of_row w b k _ t (0, 0) h]; simpa using hk
theorem Box.frozen (h : Box w b l) (k : Nat) : w.frozen? ⟨b, k, none⟩ = false := by
  obtain ⟨t, h⟩ := h
  simp [World.frozen?, h]
theorem Box.range (h : Box w b l) {o : Nat} {cs : List Value} (hc : ∀ j v, cs[j]? = some v → l[o + j]? = some v) : w.rangeAt b o cs := fun j v hv => h.cell (hc j v hv)
theorem Box.whole (h : Box w b l) : w.rangeAt b 0 l := h.range (fun j v hv => by rw [Nat.zero_add]; exact hv)
theorem Box.there (h : Box w b l) {o n : Nat} (hn : o + n ≤ l.length) : w.there b o n := fun j hj => by
  refine ⟨?_, h.frozen _⟩
  rw [h.cell (List.getElem?_eq_getElem (show o + j < l.length by omega))]; rfl
theorem Box.below {B : Nat} (h : Box w b l) (hb : Below B w w') (hB : b < B) : Box w' b l := by
  obtain ⟨t, h⟩ := h
  exact ⟨t, (hb.block b hB).trans h⟩
theorem Box.grown {row : Option Nat} (h : Box w b l) (hg : w.grownBy w' row) (hne : some b ≠ row) : Box w' b l := by
  have := h.lt
  obtain ⟨t, h⟩ := h
  exact ⟨t, (hg.block b this hne).trans h⟩
theorem Box.alloc (h : Box w b l) (o : Obj) : Box (w.alloc o) b l := by
  have := h.lt
  obtain ⟨t, h⟩ := h
  exact ⟨t, (heap_alloc_old w o this).trans h⟩
theorem Box.drew (h : Box w b l) : Box w.drew b l := h
theorem Box.drewN (h : Box w b l) (k : Nat) : Box (w.drewN k) b l := h
theorem Box.setCell (h : Box w b l) (k : Nat) (v : Value) : Box (w.setCell ⟨b, k, none⟩ v) b (l.set k v) := by
  obtain ⟨t, h⟩ := h
  refine ⟨t, ?_⟩
  unfold World.setCell
  simp only [Array.getElem?_modify, if_pos, h]
  simp
theorem Box.setCell_other (h : Box w b l) {b' : Nat} (hne : b ≠ b') (k : Nat) (v : Value) : Box (w.setCell ⟨b', k, none⟩ v) b l := by
  obtain ⟨t, h⟩ := h
  refine ⟨t, ?_⟩
  unfold World.setCell
  simp only [Array.getElem?_modify, if_neg (show ¬ b' = b from fun e => hne e.symm), h]
theorem Box.setCells : ∀ {vs : List Value} {o : Nat} {w : World} {l : List Value}, Box w b l → o + vs.length ≤ l.length → Box (w.setCells b o vs) b (splice l o vs)
  | [], o, w, l, h, hl => by rw [splice_nil]; exact h
  | v :: r, o, w, l, h, hl => by
    have hl' : o < l.length := by simp at hl; omega
    rw [World.setCells, splice_cons _ _ _ _ hl']
    exact Box.setCells (h.setCell o v) (by simp at hl ⊢; omega)
theorem grown_setCell (w : World) (b k : Nat) (v : Value) (hb : b < w.heap.size) : w.grownBy (w.setCell ⟨b, k, none⟩ v) (some b) :=
  ⟨rfl, rfl, rfl, by simp [World.setCell], fun i hi hne => by unfold World.setCell; simp only [Array.getElem?_modify, if_neg (show ¬ b = i from fun e => hne (by rw [e]))]⟩
theorem grown_setCells (w : World) (b : Nat) (vs : List Value) (o : Nat) (hb : b < w.heap.size) : w.grownBy (w.setCells b o vs) (some b) := by
  induction vs generalizing o w with
  | nil => exact World.grownBy.refl _ _
  | cons v r ih =>
    rw [World.setCells]
    have h1 := grown_setCell w b o v hb
    have h2 := ih (w.setCell ⟨b, o, none⟩ v) (o + 1) (Nat.lt_of_lt_of_le hb h1.size)
    exact ⟨h2.os.trans h1.os, h2.tape.trans h1.tape, h2.output.trans h1.output, Nat.le_trans h1.size h2.size, fun i hi hne => (h2.block i (Nat.lt_of_lt_of_le hi h1.size) hne).trans (h1.block i hi hne)⟩
end

section
variable {P : Program} {w : World} {ops : Array Oper} {rest : List Oper} {op : Oper} {a : Act} {Q : Exit → Act → World → Prop}

/-- A variable is read, whole or in part. -/
theorem wpList_load_box (hw : Region.wanted op (yielded ops a.tmps) = true) (ty : TypeId) (x : Operand) (ho : op.op = .load ty x)
    (b o : Nat) (hx : a.eval x = .pointer (some ⟨b, o, none⟩)) (l cs : List Value) (hb : Box w b l) (hc : ∀ j v, cs[j]? = some v → l[o + j]? = some v) (d : TypeDesc)
    (hu : P.underlying ty = some d) (hd : d.isRow = true) (n : Nat) (hi : (P.info? ty).map (·.size) = some n) (hn : cs.length = n)
    (h : wpList P ops Q rest (a.put op.dst (.agg cs.toArray)) w) : wpList P ops Q (op :: rest) a w :=
  wpList_step fun K hK => by rw [if_pos hw]; exact wp_load_mid ty x ho b o hx cs d (hb.range hc) hu hd (by rw [hn]; exact hi) (hK _ _ h)
/-- A variable is written, whole or in part. -/
theorem wpList_store_box (hw : Region.wanted op (yielded ops a.tmps) = true) (ty : TypeId) (x y : Operand) (ho : op.op = .store ty x y)
    (b o : Nat) (cs : List Value) (hx : a.eval x = .pointer (some ⟨b, o, none⟩)) (hy : a.eval y = .agg cs.toArray) (l : List Value) (hb : Box w b l) (hl : o + cs.length ≤ l.length)
    (n : Nat) (hi : (P.info? ty).map (·.size) = some n) (hn : cs.length = n) (h1 : ∀ v ∈ cs, v.oneCell' = true)
    (h : ∀ w', Box w' b (splice l o cs) → w.grownBy w' (some b) → wpList P ops Q rest (a.put op.dst undef) w') : wpList P ops Q (op :: rest) a w :=
  wpList_step fun K hK => by rw [if_pos hw]; exact wp_store_mid ty x y ho b o cs.toArray hx hy (hb.there (by simpa using hl)) (by rw [hi]; simp [hn]) (all_oneCell_toArray h1) (hK _ _ <|
    h _ (by simpa using hb.setCells hl) (by simpa using grown_setCells w b cs o hb.lt))
end
/-- What is answered lies in a variable. -/
theorem results_cell {fn : Func} {p : Tmp} {ty : TypeId} (h : fn.results = #[.cell p ty]) (tmps : Array Value) (P : Program) (w : World) (a : Addr) (v : Value) (ht : tmps.getD p undef = .pointer (some a)) (hl : (loadVar ty a).run P w = .ok v w) :
    (results fn tmps).run P w = .ok v w := by
  have ht' : (tmps[p]?).getD undef = .pointer (some a) := by rw [← ht]; simp
  simp only [results, h]
  simp [ht', asAddr, hl]
theorem results_cell_tmp' {fn : Func} {p u : Tmp} {ty : TypeId} (h : fn.results = #[.cell p ty, .tmp u]) (tmps : Array Value) (P : Program) (w : World) (a : Addr) (v x : Value) (ht : tmps.getD p undef = .pointer (some a)) (hl : (loadVar ty a).run P w = .ok v w) (hu : tmps.getD u undef = x) :
    (results fn tmps).run P w = .ok (.tuple #[v, x]) w := by
  rw [results_cell_tmp h, ht, hu]
  simp [Result.andThen, asAddr, hl]
theorem grown_ge {a b c : Nat} (h : some a = some b) (h' : c ≤ a) : c ≤ b := by injection h with h; omega
/-- A cell kept over a call and over a write into another block. -/
theorem cell_over {B b k row : Nat} {v : Value} {x y z : World} (hb : Below B x y) (hg : y.grownBy z (some row)) (hB : b < B) (hsz : B ≤ y.heap.size) (hne : b ≠ row) (hv : x.cell? ⟨b, k, none⟩ = some v) : z.cell? ⟨b, k, none⟩ = some v := by
  have h1 := below_cell hb hB hv
  rw [World.cell?_of_block (a := ⟨b, k, none⟩) (hg.block b (by omega) (fun h => by injection h with h; exact hne h))]
  exact h1
theorem splice_whole {α : Type} (L cs : List α) (h : cs.length = L.length) : splice L 0 cs = cs := by simp [splice, h]
end Go.Proofs.YtfdegdbknponkaaDoor.Words

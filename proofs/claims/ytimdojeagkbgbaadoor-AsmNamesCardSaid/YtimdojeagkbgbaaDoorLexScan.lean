/- Contracts of package lex's loops over a text: the name, the digits and the number that it begins with. -/
import Derived.Test.YtimdojeagkbgbaaDoorLexTabs
import Derived.WalkMore
import Derived.LoopTactic
namespace Go.Proofs.YtimdojeagkbgbaaDoor.Words
set_option maxRecDepth 100000
open Go.RowKit Go.Shelf Go.Lib
set_option linter.unusedVariables false

/-- 'next' of a string's iterator, in whatever world, in this text's own words. -/
theorem next_rune {P : Program} {wr : World} {k : Nat} {s : ByteArray} {pos : Nat} (hk : wr.heap[k]? = some (.stringIter s pos)) (h : pos < s.size) (ty : TypeId) :
    (Instr.next (.pointer (some ⟨k, 0, none⟩)) true ty).run P wr = .ok (.tuple #[.bool true, .int .i64 (pos : Int), .int .i32 (runeR (s.data.toList.drop pos))]) (wr.iterAt k s (pos + wideR (s.data.toList.drop pos))) := by
  have := Lib.run_next_any_at (P := P) wr k s pos ty hk h
  rw [← Lib.decodeL_drop] at this
  exact this
theorem next_none {P : Program} {wr : World} {k : Nat} {s : ByteArray} {pos : Nat} (hk : wr.heap[k]? = some (.stringIter s pos)) (h : ¬ pos < s.size) (ty : TypeId) :
    (Instr.next (.pointer (some ⟨k, 0, none⟩)) true ty).run P wr = .ok (.tuple #[.bool false]) wr := Lib.run_next_end_at wr k s pos ty hk h
theorem data_len (s : ByteArray) : s.data.toList.length = s.size := (Lib.size_eq s).symm
theorem i32_rune (r : Int) (h : 0 ≤ r ∧ r ≤ 1114111) : -2147483648 ≤ r ∧ r ≤ 2147483647 := by omega

set_option maxHeartbeats 1000000 in
theorem nameSize_any (s : ByteArray) (w : World) (hs : s.size ≤ 9223372036854775807) (hT : Tabs w) :
    Calls Tryd.prog 50 #[.string s] w fun e w' => e = .returned (.int .i64 (nameZ s.data.toList : Nat)) ∧ Below w.heap.size w w' := by
  have HT := Lib.hid hT.all
  have HL := Lib.hid (data_len s)
  obtain ⟨l, hl⟩ : ∃ l, l = s.data.toList := ⟨_, rfl⟩
  rw [← hl] at HL ⊢
  have HS := Lib.hid hl
  obtain ⟨Z, hZ⟩ : ∃ Z, Z = nameZ l := ⟨_, rfl⟩
  rw [← hZ]
  have HZ := Lib.hid hZ
  clear hT hZ hl
  go_enter Tryd.func50, Tryd.ntmps50
  go_wp2
  go_loopw [] (fun wr => ∃ (pos fuel : Nat), wr.heap[w.heap.size]? = some (.stringIter s pos) ∧ Below w.heap.size w wr ∧ nameF l fuel pos = Z ∧ l.length ≤ pos + fuel ∧ pos ≤ l.length) (fun wr => s.size - wr.iterPos w.heap.size)
  case atStart =>
    exact ⟨0, l.length, World.iter_heap w s 0, (Below.refl _ w).alloc (Nat.le_refl _) _, HZ.out.symm, by omega, Nat.zero_le _⟩
  case round =>
    obtain ⟨pos, fuel, hit, hbw, hn, hf, hp⟩ := hrel
    have HIT := Lib.hid hit
    have HN := Lib.hid hn
    have hsz : w.heap.size < wr.heap.size := (Array.getElem?_eq_some_iff.1 hit).1
    have hll := HL.out
    by_cases hlt : pos < s.size
    · have hnx := fun ty => next_rune (P := Tryd.prog) hit hlt ty
      rw [← HS.out] at hnx
      obtain ⟨f, rfl⟩ : ∃ f, fuel = f + 1 := ⟨fuel - 1, by omega⟩
      have HR := Lib.hid (runeR_range (l.drop pos))
      have HWD := Lib.hid (wideR_pos (l.drop pos))
      have HWI := Lib.hid (wide_in (l := l) (p := pos) (by omega))
      have HST : Hid (nameF l (f + 1) pos = if nameR (runeR (l.drop pos)) then nameF l f (pos + wideR (l.drop pos)) else pos) := by
        show _ = _
        conv => lhs; unfold nameF
        rw [if_pos (by omega)]
      generalize runeR (l.drop pos) = R at *
      generalize wideR (l.drop pos) = WD at *
      have hit2 := Lib.iterAt_heap wr w.heap.size s pos (pos + WD) hit
      have HIT2 := Lib.hid hit2
      have hbw2 := Lib.below_iterAt hbw (k := w.heap.size) (Nat.le_refl _) s (pos + WD)
      have HBW2 := Lib.hid hbw2
      have hsz2 : (wr.iterAt w.heap.size s (pos + WD)).heap.size = wr.heap.size := Lib.iterAt_size _ _ _ _
      have HT2 := Lib.hid (HT.out.go hbw2).now
      have HSZ2 := Lib.hid hsz2
      clear hit hn hit2 hbw2 hsz2 hbw
      have cF : Calls Tryd.prog 48 #[.int .i32 R] (wr.iterAt w.heap.size s (pos + WD)) _ := isFirst_any R _ (i32_rune R HR.out) HT2.out
      cases hfr : firstR R
      · rw [hfr] at cF
        have cD := fun y => digit_any R y (i32_rune R HR.out)
        by_cases hd : digR R < 10
        · have hq : decide (10 ≤ digR R) = false := decide_eq_false (by omega)
          have hnm : Hid (nameR R = true) := by show _ = _; unfold nameR; rw [hfr, decide_eq_true hd]; rfl
          generalize digR R = dR at *
          clear hfr
          go_wp2_with (first
            | (go_at_call 48; refine cF.mono ?_; rintro e w1 ⟨rfl, hb⟩)
            | (go_at_call 67; refine (cD _).mono ?_; rintro e w2 ⟨rfl, rfl⟩))
          have hit3 : w1.heap[w.heap.size]? = some (.stringIter s (pos + WD)) := (hb.block _ (by rw [HSZ2.out]; exact hsz)).trans HIT2.out
          go_roundw
          case rel => exact ⟨pos + WD, f, hit3, HBW2.out.trans (hb.mono (by rw [HSZ2.out]; omega)), by rw [← HN.out, HST.out, hnm.out]; rfl, by have := HWD.out; omega, HWI.out⟩
          case measure =>
            simp only [World.iterPos, hit3, HIT.out]
            have := HWD.out; omega
        · have hq : decide (10 ≤ digR R) = true := decide_eq_true (by omega)
          have hnm : Hid (nameR R = false) := by show _ = _; unfold nameR; rw [hfr, decide_eq_false hd]; rfl
          generalize digR R = dR at *
          clear hfr
          go_wp2_with (first
            | (go_at_call 48; refine cF.mono ?_; rintro e w1 ⟨rfl, hb⟩)
            | (go_at_call 67; refine (cD _).mono ?_; rintro e w2 ⟨rfl, rfl⟩))
          go_ret
          exact ⟨ret_int (by rw [← HN.out, HST.out, hnm.out]; rfl), HBW2.out.trans (hb.mono (by rw [HSZ2.out]; omega))⟩
      · rw [hfr] at cF
        have hnm : Hid (nameR R = true) := by show _ = _; unfold nameR; rw [hfr]; rfl
        clear hfr
        go_wp2_with (go_at_call 48; refine cF.mono ?_; rintro e w1 ⟨rfl, hb⟩)
        have hit3 : w1.heap[w.heap.size]? = some (.stringIter s (pos + WD)) := (hb.block _ (by rw [HSZ2.out]; exact hsz)).trans HIT2.out
        go_roundw
        case rel => exact ⟨pos + WD, f, hit3, HBW2.out.trans (hb.mono (by rw [HSZ2.out]; omega)), by rw [← HN.out, HST.out, hnm.out]; rfl, by have := HWD.out; omega, HWI.out⟩
        case measure =>
          simp only [World.iterPos, hit3, HIT.out]
          have := HWD.out; omega
    · have hnx := fun ty => next_none (P := Tryd.prog) hit hlt ty
      have hres : Hid (Z = s.size) := by
        show _ = _
        rw [← hn]
        cases fuel with
        | zero => unfold nameF; omega
        | succ f => unfold nameF; rw [if_neg (by omega)]; omega
      clear hn hit
      go_wp2
      go_ret
      exact ⟨ret_int (by rw [hres.out]), hbw⟩

set_option maxHeartbeats 1000000 in
theorem digitsOf_any (s : ByteArray) (base : Int) (w : World) (hs : s.size ≤ 9223372036854775807) (hb : 10 ≤ base ∧ base ≤ 16) :
    Calls Tryd.prog 85 #[.string s, .int .i64 base] w fun e w' => e = .returned (.tuple #[.int .i64 (digZ s.data.toList base).1, .int .i64 ((digZ s.data.toList base).2 : Nat)]) ∧ Below w.heap.size w w' := by
  have HL := Lib.hid (data_len s)
  obtain ⟨l, hl⟩ : ∃ l, l = s.data.toList := ⟨_, rfl⟩
  rw [← hl] at HL ⊢
  have HS := Lib.hid hl
  obtain ⟨Z1, hZ1⟩ : ∃ Z, Z = (digZ l base).1 := ⟨_, rfl⟩
  obtain ⟨Z2, hZ2⟩ : ∃ Z, Z = (digZ l base).2 := ⟨_, rfl⟩
  have HZ : Hid (digZ l base = (Z1, Z2)) := by rw [hZ1, hZ2]; exact rfl
  rw [← hZ1, ← hZ2]
  obtain ⟨b0, b1⟩ := hb
  clear hZ1 hZ2 hl
  go_enter Tryd.func85, Tryd.ntmps85
  go_wp2
  go_loopw [6] (fun q wr => ∃ (pos fuel : Nat) (n : Int), q = .int .i64 n ∧ wr.heap[w.heap.size]? = some (.stringIter s pos) ∧ Below w.heap.size w wr ∧ digF l base fuel pos n = (Z1, Z2) ∧ l.length ≤ pos + fuel ∧ pos ≤ l.length ∧ 0 ≤ n ∧ n ≤ 4294967297) (fun _ wr => s.size - wr.iterPos w.heap.size)
  case atStart =>
    exact ⟨0, l.length, 0, rfl, World.iter_heap w s 0, (Below.refl _ w).alloc (Nat.le_refl _) _, HZ.out, by omega, Nat.zero_le _, Int.le_refl _, by omega⟩
  case round =>
    obtain ⟨pos, fuel, n, rfl, hit, hbw, hn, hf, hp, n0, n1⟩ := hrel
    have HIT := Lib.hid hit
    have HN := Lib.hid hn
    have hsz : w.heap.size < wr.heap.size := (Array.getElem?_eq_some_iff.1 hit).1
    have hll := HL.out
    by_cases hlt : pos < s.size
    · have hnx := fun ty => next_rune (P := Tryd.prog) hit hlt ty
      rw [← HS.out] at hnx
      obtain ⟨f, rfl⟩ : ∃ f, fuel = f + 1 := ⟨fuel - 1, by omega⟩
      have HR := Lib.hid (runeR_range (l.drop pos))
      have HWD := Lib.hid (wideR_pos (l.drop pos))
      have HWI := Lib.hid (wide_in (l := l) (p := pos) (by omega))
      have HST : Hid (digF l base (f + 1) pos n = if base ≤ digR (runeR (l.drop pos)) then (n, pos) else digF l base f (pos + wideR (l.drop pos)) (min (n * base + digR (runeR (l.drop pos))) 4294967297)) := by
        show _ = _
        conv => lhs; unfold digF
        rw [if_pos (by omega)]
      generalize runeR (l.drop pos) = R at *
      generalize wideR (l.drop pos) = WD at *
      have hit2 := Lib.iterAt_heap wr w.heap.size s pos (pos + WD) hit
      have HIT2 := Lib.hid hit2
      have HBW2 := Lib.hid (Lib.below_iterAt hbw (k := w.heap.size) (Nat.le_refl _) s (pos + WD))
      have cD := fun y => digit_any R y (i32_rune R HR.out)
      have hdr := digR_range R
      generalize digR R = dR at *
      clear hit hn hit2 hbw
      by_cases hd : base ≤ dR
      · have hq : decide (base ≤ dR) = true := decide_eq_true hd
        go_wp2_with (go_at_call 67; refine (cD _).mono ?_; rintro e w2 ⟨rfl, rfl⟩)
        have hz : (n, pos) = (Z1, Z2) := by rw [← HN.out, HST.out, if_pos hd]
        injection hz with hz1 hz2
        go_ret2
        exact ⟨by subst hz1 hz2; rfl, HBW2.out⟩
      · have hq : decide (base ≤ dR) = false := decide_eq_false hd
        have hnb : 0 ≤ n * base := Int.mul_nonneg n0 (by omega)
        have hnb2 : n * base ≤ 4294967297 * 16 := by
          have h1 : n * base ≤ n * 16 := Int.mul_le_mul_of_nonneg_left b1 n0
          omega
        have hw1 : wrap64 (n * base) = n * base := IntWalk.wrap64_in _ (by omega)
        have hw2 : wrap64 (n * base + dR) = n * base + dR := IntWalk.wrap64_in _ (by omega)
        have HM := Lib.hid (show 0 ≤ min (n * base + dR) 4294967297 ∧ min (n * base + dR) 4294967297 ≤ 4294967297 by omega)
        have HD := Lib.hid hd
        clear hnb hnb2
        go_wp2_with (go_at_call 67; refine (cD _).mono ?_; rintro e w2 ⟨rfl, rfl⟩)
        clear hw1 hw2
        go_roundw
        case rel => exact ⟨pos + WD, f, _, rfl, HIT2.out, HBW2.out, by rw [← HN.out, HST.out, if_neg (show ¬ base ≤ dR by have := HD.out; omega)], by have := HWD.out; omega, HWI.out, HM.out.1, HM.out.2⟩
        case measure =>
          simp only [World.iterPos, HIT2.out, HIT.out]
          have := HWD.out; omega
    · have hnx := fun ty => next_none (P := Tryd.prog) hit hlt ty
      have hres : (n, pos) = (Z1, Z2) := by
        rw [← hn]
        cases fuel with
        | zero => rfl
        | succ f => unfold digF; rw [if_neg (by omega)]
      injection hres with hz1 hz2
      clear hn hit
      go_wp2
      go_ret2
      exact ⟨by subst hz1; rw [← hz2, show pos = s.size by omega]; rfl, hbw⟩

theorem cut_any (s p : ByteArray) (w : World) : Calls Tryd.prog 84 #[.string s, .string p] w fun e w' => e = .returned (.tuple #[.string ⟨(Lib.trimPrefix s.data.toList p.data.toList).toArray⟩, .bool (Lib.hasPrefix s.data.toList p.data.toList)]) ∧ w = w' :=
  (Tryd.strings_CutPrefix s p w).mono fun _ _ h => ⟨h.1, h.2.symm⟩
theorem trim_len (l p : List UInt8) : (Lib.trimPrefix l p).length ≤ l.length := by
  unfold Lib.trimPrefix
  split
  · simp
  · exact Nat.le_refl _
theorem numZ_1 {l : List UInt8} (h : hasPrefix l [48, 120] = true) (h2 : 0 < (digZ (trimPrefix l [48, 120]) 16).2) : numZ l = ((digZ (trimPrefix l [48, 120]) 16).1, 2 + (digZ (trimPrefix l [48, 120]) 16).2) := by
  have e : trimPrefix l [48, 120] = l.drop 2 := by unfold trimPrefix; rw [if_pos h]; rfl
  rw [e] at h2 ⊢
  unfold numZ
  rw [if_pos ⟨h, h2⟩]
theorem numZ_0 {l : List UInt8} (h : hasPrefix l [48, 120] = false ∨ (digZ (trimPrefix l [48, 120]) 16).2 = 0) : ¬ (hasPrefix l [48, 120] = true ∧ 0 < (digZ (l.drop 2) 16).2) := by
  rintro ⟨h1, h2⟩
  have e : trimPrefix l [48, 120] = l.drop 2 := by unfold trimPrefix; rw [if_pos h1]; rfl
  rw [h1, e] at h
  rcases h with h | h
  · cases h
  · omega
theorem numZ_2 {l : List UInt8} (h0 : hasPrefix l [48, 120] = false ∨ (digZ (trimPrefix l [48, 120]) 16).2 = 0) (h : hasPrefix l [45] = true) (h2 : 0 < (digZ (trimPrefix l [45]) 10).2) : numZ l = (-(digZ (trimPrefix l [45]) 10).1, 1 + (digZ (trimPrefix l [45]) 10).2) := by
  have e : trimPrefix l [45] = l.drop 1 := by unfold trimPrefix; rw [if_pos h]; rfl
  rw [e] at h2 ⊢
  unfold numZ
  rw [if_neg (numZ_0 h0), if_pos ⟨h, h2⟩]
theorem numZ_3 {l : List UInt8} (h0 : hasPrefix l [48, 120] = false ∨ (digZ (trimPrefix l [48, 120]) 16).2 = 0) (h : hasPrefix l [45] = false ∨ (digZ (trimPrefix l [45]) 10).2 = 0) : numZ l = digZ l 10 := by
  unfold numZ
  rw [if_neg (numZ_0 h0), if_neg]
  rintro ⟨h1, h2⟩
  have e : trimPrefix l [45] = l.drop 1 := by unfold trimPrefix; rw [if_pos h1]; rfl
  rw [h1, e] at h
  rcases h with h | h
  · cases h
  · omega
set_option maxHeartbeats 2000000 in
theorem numberOf_any (s : ByteArray) (w : World) (hs : s.size ≤ 9223372036854775800) :
    Calls Tryd.prog 68 #[.string s] w fun e w' => e = .returned (.tuple #[.int .i64 (numZ s.data.toList).1, .int .i64 ((numZ s.data.toList).2 : Nat)]) ∧ Below w.heap.size w w' := by
  have hl := data_len s
  have t1 := trim_len s.data.toList [48, 120]
  have t2 := trim_len s.data.toList [45]
  have c1 := fun y => cut_any s ⟨#[48, 120]⟩ y
  have c2 := fun y => cut_any s ⟨#[45]⟩ y
  have d1 := fun y => digitsOf_any ⟨(Lib.trimPrefix s.data.toList [48, 120]).toArray⟩ 16 y (by rw [← data_len]; show (Lib.trimPrefix s.data.toList [48, 120]).length ≤ _; omega) (by omega)
  have d2 := fun y => digitsOf_any ⟨(Lib.trimPrefix s.data.toList [45]).toArray⟩ 10 y (by rw [← data_len]; show (Lib.trimPrefix s.data.toList [45]).length ≤ _; omega) (by omega)
  have d3 := fun y => digitsOf_any s 10 y (by omega) (by omega)
  have n1 := fun h h2 => numZ_1 (l := s.data.toList) h h2
  have n2 := fun h0 h h2 => numZ_2 (l := s.data.toList) h0 h h2
  have n3 := fun h0 h => numZ_3 (l := s.data.toList) h0 h
  have r1 := digZ_range (Lib.trimPrefix s.data.toList [48, 120]) (base := 16) (by omega)
  have r2 := digZ_range (Lib.trimPrefix s.data.toList [45]) (base := 10) (by omega)
  have l1 := digZ_le (Lib.trimPrefix s.data.toList [48, 120]) 16
  have l2 := digZ_le (Lib.trimPrefix s.data.toList [45]) 10
  change ∀ y, Calls Tryd.prog 84 #[.string s, .string ⟨#[48, 120]⟩] y fun e w' => e = .returned (.tuple #[.string ⟨(Lib.trimPrefix s.data.toList [48, 120]).toArray⟩, .bool (Lib.hasPrefix s.data.toList [48, 120])]) ∧ y = w' at c1
  change ∀ y, Calls Tryd.prog 84 #[.string s, .string ⟨#[45]⟩] y fun e w' => e = .returned (.tuple #[.string ⟨(Lib.trimPrefix s.data.toList [45]).toArray⟩, .bool (Lib.hasPrefix s.data.toList [45])]) ∧ y = w' at c2
  change ∀ y, Calls Tryd.prog 85 #[.string ⟨(Lib.trimPrefix s.data.toList [48, 120]).toArray⟩, .int .i64 16] y fun e w' => e = .returned (.tuple #[.int .i64 (digZ (Lib.trimPrefix s.data.toList [48, 120]) 16).1, .int .i64 ((digZ (Lib.trimPrefix s.data.toList [48, 120]) 16).2 : Nat)]) ∧ Below y.heap.size y w' at d1
  change ∀ y, Calls Tryd.prog 85 #[.string ⟨(Lib.trimPrefix s.data.toList [45]).toArray⟩, .int .i64 10] y fun e w' => e = .returned (.tuple #[.int .i64 (digZ (Lib.trimPrefix s.data.toList [45]) 10).1, .int .i64 ((digZ (Lib.trimPrefix s.data.toList [45]) 10).2 : Nat)]) ∧ Below y.heap.size y w' at d2
  generalize Lib.hasPrefix s.data.toList [48, 120] = B1 at *
  generalize Lib.hasPrefix s.data.toList [45] = B2 at *
  generalize (⟨(Lib.trimPrefix s.data.toList [48, 120]).toArray⟩ : ByteArray) = S1 at *
  generalize (⟨(Lib.trimPrefix s.data.toList [45]).toArray⟩ : ByteArray) = S2 at *
  generalize hD1 : digZ (Lib.trimPrefix s.data.toList [48, 120]) 16 = D1 at *
  generalize hD2 : digZ (Lib.trimPrefix s.data.toList [45]) 10 = D2 at *
  generalize digZ s.data.toList 10 = D3 at *
  generalize numZ s.data.toList = Z at *
  obtain ⟨N1, K1⟩ := D1
  obtain ⟨N2, K2⟩ := D2
  obtain ⟨N3, K3⟩ := D3
  simp only at *
  have m1 : (K1 : Int) ≤ 9223372036854775800 := by omega
  have m2 : (K2 : Int) ≤ 9223372036854775800 := by omega
  obtain ⟨r10, r11⟩ := r1
  obtain ⟨r20, r21⟩ := r2
  have C1 := Lib.hid c1; have C2 := Lib.hid c2; have D1 := Lib.hid d1; have D2 := Lib.hid d2; have D3 := Lib.hid d3
  clear hD1 hD2 t1 t2 l1 l2 hl hs c1 c2 d1 d2 d3
  cases B1
  · clear n1
    cases B2
    · have HZ := Lib.hid (n3 (.inl rfl) (.inl rfl))
      clear n2 n3
      go_enter Tryd.func68, Tryd.ntmps68
      go_wp2_with fail
      refine (C1.out _).mono ?_; rintro e w0 ⟨rfl, rfl⟩
      go_wp2_with fail
      refine (C2.out _).mono ?_; rintro e wx ⟨rfl, rfl⟩
      go_wp2_with fail
      refine (D3.out _).mono ?_; rintro e w3 ⟨rfl, hb3⟩
      go_wp2_with fail
      go_ret2
      exact ⟨by rw [HZ.out]; rfl, hb3⟩
    · by_cases hk2 : 0 < K2
      · have HZ := Lib.hid (n2 (.inl rfl) rfl hk2)
        have q21 : decide (0 < K2) = true := decide_eq_true hk2
        have q22 : decide (0 < (K2 : Int)) = true := decide_eq_true (by omega)
        clear n2 n3
        go_enter Tryd.func68, Tryd.ntmps68
        go_wp2_with fail
        refine (C1.out _).mono ?_; rintro e w0 ⟨rfl, rfl⟩
        go_wp2_with fail
        refine (C2.out _).mono ?_; rintro e wx ⟨rfl, rfl⟩
        go_wp2_with fail
        refine (D2.out _).mono ?_; rintro e w2 ⟨rfl, hb2⟩
        have HB2 := Lib.hid (show Below w.heap.size w w2 from hb2)
        clear hb2
        go_wp2_with fail
        go_ret2
        exact ⟨by rw [HZ.out]; first | rfl | simp, HB2.out⟩
      · have HZ := Lib.hid (n3 (.inl rfl) (.inr (by omega)))
        have q21 : decide (0 < K2) = false := decide_eq_false hk2
        have q22 : decide (0 < (K2 : Int)) = false := decide_eq_false (by omega)
        clear n2 n3
        go_enter Tryd.func68, Tryd.ntmps68
        go_wp2_with fail
        refine (C1.out _).mono ?_; rintro e w0 ⟨rfl, rfl⟩
        go_wp2_with fail
        refine (C2.out _).mono ?_; rintro e wx ⟨rfl, rfl⟩
        go_wp2_with fail
        refine (D2.out _).mono ?_; rintro e w2 ⟨rfl, hb2⟩
        have HB2 := Lib.hid (show Below w.heap.size w w2 from hb2)
        clear hb2
        go_wp2_with fail
        refine (D3.out _).mono ?_; rintro e w3 ⟨rfl, hb3⟩
        go_wp2_with fail
        go_ret2
        exact ⟨by rw [HZ.out]; rfl, HB2.out.trans (hb3.mono HB2.out.size)⟩
  · by_cases hk1 : 0 < K1
    · have HZ := Lib.hid (n1 rfl hk1)
      have q11 : decide (0 < K1) = true := decide_eq_true hk1
      have q12 : decide (0 < (K1 : Int)) = true := decide_eq_true (by omega)
      clear n1 n2 n3
      go_enter Tryd.func68, Tryd.ntmps68
      go_wp2_with fail
      refine (C1.out _).mono ?_; rintro e w0 ⟨rfl, rfl⟩
      go_wp2_with fail
      refine (D1.out _).mono ?_; rintro e w1 ⟨rfl, hb1⟩
      have HB1 := Lib.hid hb1
      clear hb1
      go_wp2_with fail
      go_ret2
      exact ⟨by rw [HZ.out]; first | rfl | simp, HB1.out⟩
    · have hk1' : K1 = 0 := by omega
      have q11 : decide (0 < K1) = false := decide_eq_false hk1
      have q12 : decide (0 < (K1 : Int)) = false := decide_eq_false (by omega)
      cases B2
      · have HZ := Lib.hid (n3 (.inr hk1') (.inl rfl))
        clear n1 n2 n3 hk1'
        go_enter Tryd.func68, Tryd.ntmps68
        go_wp2_with fail
        refine (C1.out _).mono ?_; rintro e w0 ⟨rfl, rfl⟩
        go_wp2_with fail
        refine (D1.out _).mono ?_; rintro e w1 ⟨rfl, hb1⟩
        have HB1 := Lib.hid hb1
        clear hb1
        go_wp2_with fail
        refine (C2.out _).mono ?_; rintro e wx ⟨rfl, rfl⟩
        go_wp2_with fail
        refine (D3.out _).mono ?_; rintro e w3 ⟨rfl, hb3⟩
        go_wp2_with fail
        go_ret2
        exact ⟨by rw [HZ.out]; rfl, HB1.out.trans (hb3.mono HB1.out.size)⟩
      · by_cases hk2 : 0 < K2
        · have HZ := Lib.hid (n2 (.inr hk1') rfl hk2)
          have q21 : decide (0 < K2) = true := decide_eq_true hk2
          have q22 : decide (0 < (K2 : Int)) = true := decide_eq_true (by omega)
          clear n1 n2 n3 hk1'
          go_enter Tryd.func68, Tryd.ntmps68
          go_wp2_with fail
          refine (C1.out _).mono ?_; rintro e w0 ⟨rfl, rfl⟩
          go_wp2_with fail
          refine (D1.out _).mono ?_; rintro e w1 ⟨rfl, hb1⟩
          have HB1 := Lib.hid hb1
          clear hb1
          go_wp2_with fail
          refine (C2.out _).mono ?_; rintro e wx ⟨rfl, rfl⟩
          go_wp2_with fail
          refine (D2.out _).mono ?_; rintro e w2 ⟨rfl, hb2⟩
          have HB2 := Lib.hid (show Below w.heap.size w w2 from HB1.out.trans (hb2.mono HB1.out.size))
          clear hb2
          go_wp2_with fail
          go_ret2
          exact ⟨by rw [HZ.out]; first | rfl | simp, HB2.out⟩
        · have HZ := Lib.hid (n3 (.inr hk1') (.inr (by omega)))
          have q21 : decide (0 < K2) = false := decide_eq_false hk2
          have q22 : decide (0 < (K2 : Int)) = false := decide_eq_false (by omega)
          clear n1 n2 n3 hk1'
          go_enter Tryd.func68, Tryd.ntmps68
          go_wp2_with fail
          refine (C1.out _).mono ?_; rintro e w0 ⟨rfl, rfl⟩
          go_wp2_with fail
          refine (D1.out _).mono ?_; rintro e w1 ⟨rfl, hb1⟩
          have HB1 := Lib.hid hb1
          clear hb1
          go_wp2_with fail
          refine (C2.out _).mono ?_; rintro e wx ⟨rfl, rfl⟩
          go_wp2_with fail
          refine (D2.out _).mono ?_; rintro e w2 ⟨rfl, hb2⟩
          have HB2 := Lib.hid (show Below w.heap.size w w2 from HB1.out.trans (hb2.mono HB1.out.size))
          clear hb2
          go_wp2_with fail
          refine (D3.out _).mono ?_; rintro e w3 ⟨rfl, hb3⟩
          go_wp2_with fail
          go_ret2
          exact ⟨by rw [HZ.out]; rfl, HB2.out.trans (hb3.mono HB2.out.size)⟩
end Go.Proofs.YtimdojeagkbgbaaDoor.Words

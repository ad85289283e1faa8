/- Contract of package lex's take: what begins at a place. -/
import Derived.Test.YtimdojeagkbgbaaDoorLexTake
namespace Go.Proofs.YtimdojeagkbgbaaDoor.Words
set_option maxRecDepth 100000
open Go.RowKit Go.Shelf Go.Lib
set_option linter.unusedVariables false

set_option maxHeartbeats 1000000 in
theorem take_bad (s : ByteArray) (x : LexS) (p b Bt : Nat) (w : World) (hT : TabsB b w) (hB : b < Bt) (hBt : Bt ≤ w.heap.size) (hs : s.size ≤ 1000000) (hx : Spl w b Bt s x) (ht : x.toks.length ≤ 1000000) (hp : p < s.size) (h1 : badR (s.data.toList.drop p) = true) :
    Calls Tryd.prog 28 #[.pointer (some ⟨b, 0, none⟩), .int .i64 (p : Int), .int .i32 (runeR (s.data.toList.drop p))] w fun e w' => e = .returned (.int .i64 (takeZ s.data.toList p x).1) ∧ Spl w' b Bt s (takeZ s.data.toList p x).2 ∧ TurnB b Bt w w' := by
  have HX := Lib.hid hx
  obtain ⟨vt, hb, ho⟩ := hx
  have z0 := hb.cell (k := 0) rfl
  have z3 := hb.cell (k := 3) rfl
  have g3 := hb.frozen 3
  have hlt := hb.lt
  have HRR := Lib.hid (runeR_range (s.data.toList.drop p))
  have hne := from_ne (l := s.data.toList) (p := p) (by rw [data_len]; exact hp)
  have CB := Lib.hid (fun y (hy : Tabs y) => isBroken_any (s.extract p s.size) (runeR (s.data.toList.drop p)) y (by rw [rest_data]; exact hne) hy (by rw [rest_data]))
  rw [rest_data] at CB
  have HZ : Hid (takeZ s.data.toList p x = (5, x)) := by
    show _ = _
    unfold takeZ
    rw [if_pos h1]
  have p0 : (0 : Int) ≤ p := by omega
  have p1 : (p : Int) ≤ s.size := by omega
  have p2 : (s.size : Int) ≤ 1000000 := by omega
  have HT0 := Lib.hid hT
  have HB := Lib.hid hb
  have HO := Lib.hid ho
  rw [HZ.out]
  clear hb ho hT hne
  rw [h1] at CB
  generalize runeR (s.data.toList.drop p) = R at CB ⊢
  go_enter Tryd.func28, Tryd.ntmps28
  go_wp2_with fail
  refine (CB.out _ HT0.out.now).mono ?_; rintro e w1 ⟨rfl, hb1⟩
  have S1 := Lib.hid (HX.out.below hb1)
  have T1 := Lib.hid (TurnB.of_below (b := b) (Bt := Bt) hb1 (by omega) hBt)
  have B1 := Lib.hid (HB.out.below hb1 hlt)
  have hs1 := hb1.size
  clear hb1
  have y0 := B1.out.cell (k := 0) rfl
  have y3 := B1.out.cell (k := 3) rfl
  have f3 := B1.out.frozen 3
  clear z0 z3 g3
  go_wp2_with fail
  go_ret
  exact ⟨rfl, S1.out, T1.out⟩

set_option maxHeartbeats 1000000 in
theorem take_line (s : ByteArray) (x : LexS) (p b Bt : Nat) (w : World) (hT : TabsB b w) (hB : b < Bt) (hBt : Bt ≤ w.heap.size) (hs : s.size ≤ 1000000) (hx : Spl w b Bt s x) (ht : x.toks.length ≤ 1000000) (hp : p < s.size) (h1 : badR (s.data.toList.drop p) = false) (h2 : runeR (s.data.toList.drop p) = 10) :
    Calls Tryd.prog 28 #[.pointer (some ⟨b, 0, none⟩), .int .i64 (p : Int), .int .i32 (runeR (s.data.toList.drop p))] w fun e w' => e = .returned (.int .i64 (takeZ s.data.toList p x).1) ∧ Spl w' b Bt s (takeZ s.data.toList p x).2 ∧ TurnB b Bt w w' := by
  have HX := Lib.hid hx
  obtain ⟨vt, hb, ho⟩ := hx
  have z0 := hb.cell (k := 0) rfl
  have z3 := hb.cell (k := 3) rfl
  have g3 := hb.frozen 3
  have hlt := hb.lt
  have HRR := Lib.hid (runeR_range (s.data.toList.drop p))
  have hne := from_ne (l := s.data.toList) (p := p) (by rw [data_len]; exact hp)
  have CB := Lib.hid (fun y (hy : Tabs y) => isBroken_any (s.extract p s.size) (runeR (s.data.toList.drop p)) y (by rw [rest_data]; exact hne) hy (by rw [rest_data]))
  rw [rest_data] at CB
  have HZ : Hid (takeZ s.data.toList p x = (0, lineZ s.data.toList p { x with remark := false })) := by
    show _ = _
    unfold takeZ
    rw [if_neg (by rw [h1]; decide)]
    rw [if_pos h2]
  have p0 : (0 : Int) ≤ p := by omega
  have p1 : (p : Int) ≤ s.size := by omega
  have p2 : (s.size : Int) ≤ 1000000 := by omega
  have HT0 := Lib.hid hT
  have HB := Lib.hid hb
  have HO := Lib.hid ho
  rw [HZ.out]
  clear hb ho hT hne
  rw [h1] at CB
  rw [h2] at CB ⊢
  go_enter Tryd.func28, Tryd.ntmps28
  go_wp2_with fail
  refine (CB.out _ HT0.out.now).mono ?_; rintro e w1 ⟨rfl, hb1⟩
  have S1 := Lib.hid (HX.out.below hb1)
  have T1 := Lib.hid (TurnB.of_below (b := b) (Bt := Bt) hb1 (by omega) hBt)
  have B1 := Lib.hid (HB.out.below hb1 hlt)
  have hs1 := hb1.size
  clear hb1
  have y0 := B1.out.cell (k := 0) rfl
  have y3 := B1.out.cell (k := 3) rfl
  have f3 := B1.out.frozen 3
  clear z0 z3 g3
  have S1' := S1.out
  obtain ⟨vt1, hb1, ho1⟩ := S1'
  have hb1' := Lib.hid (show Box (w1.setCell ⟨b, 3, none⟩ (.bool false)) b (splL s vt1 x.behind false) from hb1.setCell 3 _)
  have ho1' := Lib.hid (ownsRow_setCell_below ho1 (a := ⟨b, 3, none⟩) (show b < Bt from hB) (.bool false))
  have T2 := Lib.hid (T1.out.trans (TurnB.setCell b Bt w1 3 (.bool false)))
  clear hb1 ho1
  have S2 : Hid (Spl (w1.setCell ⟨b, 3, none⟩ (.bool false)) b Bt s { x with remark := false }) := ⟨vt1, hb1'.out, ho1'.out⟩
  have hs2 : (w1.setCell ⟨b, 3, none⟩ (.bool false)).heap.size = w1.heap.size := by simp [World.setCell]
  go_wp2_with fail
  refine (line_any s { x with remark := false } p b Bt _ hB (by rw [hs2]; omega) hs S2.out ht (by omega)).mono ?_
  rintro e w3 ⟨rfl, hs3, ht3⟩
  have S3 := Lib.hid hs3
  have T3 := Lib.hid (T2.out.trans ht3)
  clear hs3 ht3
  go_wp2_with fail
  go_ret
  exact ⟨rfl, S3.out, T3.out⟩

set_option maxHeartbeats 1000000 in
theorem take_remark (s : ByteArray) (x : LexS) (p b Bt : Nat) (w : World) (hT : TabsB b w) (hB : b < Bt) (hBt : Bt ≤ w.heap.size) (hs : s.size ≤ 1000000) (hx : Spl w b Bt s x) (ht : x.toks.length ≤ 1000000) (hp : p < s.size) (h1 : badR (s.data.toList.drop p) = false) (h2 : ¬ runeR (s.data.toList.drop p) = 10) (h3 : x.remark = true) :
    Calls Tryd.prog 28 #[.pointer (some ⟨b, 0, none⟩), .int .i64 (p : Int), .int .i32 (runeR (s.data.toList.drop p))] w fun e w' => e = .returned (.int .i64 (takeZ s.data.toList p x).1) ∧ Spl w' b Bt s (takeZ s.data.toList p x).2 ∧ TurnB b Bt w w' := by
  have HX := Lib.hid hx
  obtain ⟨vt, hb, ho⟩ := hx
  have z0 := hb.cell (k := 0) rfl
  have z3 := hb.cell (k := 3) rfl
  have g3 := hb.frozen 3
  have hlt := hb.lt
  have HRR := Lib.hid (runeR_range (s.data.toList.drop p))
  have hne := from_ne (l := s.data.toList) (p := p) (by rw [data_len]; exact hp)
  have CB := Lib.hid (fun y (hy : Tabs y) => isBroken_any (s.extract p s.size) (runeR (s.data.toList.drop p)) y (by rw [rest_data]; exact hne) hy (by rw [rest_data]))
  rw [rest_data] at CB
  have HZ : Hid (takeZ s.data.toList p x = (0, x)) := by
    show _ = _
    unfold takeZ
    rw [if_neg (by rw [h1]; decide)]
    rw [if_neg h2]
    rw [if_pos (.inl h3)]
  have p0 : (0 : Int) ≤ p := by omega
  have p1 : (p : Int) ≤ s.size := by omega
  have p2 : (s.size : Int) ≤ 1000000 := by omega
  have HT0 := Lib.hid hT
  have HB := Lib.hid hb
  have HO := Lib.hid ho
  rw [HZ.out]
  clear hb ho hT hne
  rw [h1] at CB
  have q2 : (runeR (s.data.toList.drop p) == 10) = false := by simpa using h2
  rw [h3] at HB z3
  clear h2
  generalize runeR (s.data.toList.drop p) = R at CB q2 ⊢
  go_enter Tryd.func28, Tryd.ntmps28
  go_wp2_with fail
  refine (CB.out _ HT0.out.now).mono ?_; rintro e w1 ⟨rfl, hb1⟩
  have S1 := Lib.hid (HX.out.below hb1)
  have T1 := Lib.hid (TurnB.of_below (b := b) (Bt := Bt) hb1 (by omega) hBt)
  have B1 := Lib.hid (HB.out.below hb1 hlt)
  have hs1 := hb1.size
  clear hb1
  have y0 := B1.out.cell (k := 0) rfl
  have y3 := B1.out.cell (k := 3) rfl
  have f3 := B1.out.frozen 3
  clear z0 z3 g3
  go_wp2_with fail
  go_ret
  exact ⟨rfl, S1.out, T1.out⟩

set_option maxHeartbeats 1000000 in
theorem take_blank (s : ByteArray) (x : LexS) (p b Bt : Nat) (w : World) (hT : TabsB b w) (hB : b < Bt) (hBt : Bt ≤ w.heap.size) (hs : s.size ≤ 1000000) (hx : Spl w b Bt s x) (ht : x.toks.length ≤ 1000000) (hp : p < s.size) (h1 : badR (s.data.toList.drop p) = false) (h2 : ¬ runeR (s.data.toList.drop p) = 10) (h3 : x.remark = false) (h4 : blankR (runeR (s.data.toList.drop p)) = true) :
    Calls Tryd.prog 28 #[.pointer (some ⟨b, 0, none⟩), .int .i64 (p : Int), .int .i32 (runeR (s.data.toList.drop p))] w fun e w' => e = .returned (.int .i64 (takeZ s.data.toList p x).1) ∧ Spl w' b Bt s (takeZ s.data.toList p x).2 ∧ TurnB b Bt w w' := by
  have HX := Lib.hid hx
  obtain ⟨vt, hb, ho⟩ := hx
  have z0 := hb.cell (k := 0) rfl
  have z3 := hb.cell (k := 3) rfl
  have g3 := hb.frozen 3
  have hlt := hb.lt
  have HRR := Lib.hid (runeR_range (s.data.toList.drop p))
  have hne := from_ne (l := s.data.toList) (p := p) (by rw [data_len]; exact hp)
  have CB := Lib.hid (fun y (hy : Tabs y) => isBroken_any (s.extract p s.size) (runeR (s.data.toList.drop p)) y (by rw [rest_data]; exact hne) hy (by rw [rest_data]))
  rw [rest_data] at CB
  have HZ : Hid (takeZ s.data.toList p x = (0, x)) := by
    show _ = _
    unfold takeZ
    rw [if_neg (by rw [h1]; decide)]
    rw [if_neg h2]
    rw [if_pos (.inr h4)]
  have p0 : (0 : Int) ≤ p := by omega
  have p1 : (p : Int) ≤ s.size := by omega
  have p2 : (s.size : Int) ≤ 1000000 := by omega
  have HT0 := Lib.hid hT
  have HB := Lib.hid hb
  have HO := Lib.hid ho
  rw [HZ.out]
  clear hb ho hT hne
  rw [h1] at CB
  have q2 : (runeR (s.data.toList.drop p) == 10) = false := by simpa using h2
  have CK := Lib.hid (fun y => isBlank_any (runeR (s.data.toList.drop p)) y)
  rw [h4] at CK
  rw [h3] at HB z3
  clear h2 h4
  generalize runeR (s.data.toList.drop p) = R at CB CK q2 ⊢
  go_enter Tryd.func28, Tryd.ntmps28
  go_wp2_with fail
  refine (CB.out _ HT0.out.now).mono ?_; rintro e w1 ⟨rfl, hb1⟩
  have S1 := Lib.hid (HX.out.below hb1)
  have T1 := Lib.hid (TurnB.of_below (b := b) (Bt := Bt) hb1 (by omega) hBt)
  have B1 := Lib.hid (HB.out.below hb1 hlt)
  have hs1 := hb1.size
  clear hb1
  have y0 := B1.out.cell (k := 0) rfl
  have y3 := B1.out.cell (k := 3) rfl
  have f3 := B1.out.frozen 3
  clear z0 z3 g3
  go_wp2_with fail
  refine (CK.out _).mono ?_; rintro e w2 ⟨rfl, rfl⟩
  go_wp2_with fail
  go_ret
  exact ⟨rfl, S1.out, T1.out⟩

set_option maxHeartbeats 1000000 in
theorem take_hash (s : ByteArray) (x : LexS) (p b Bt : Nat) (w : World) (hT : TabsB b w) (hB : b < Bt) (hBt : Bt ≤ w.heap.size) (hs : s.size ≤ 1000000) (hx : Spl w b Bt s x) (ht : x.toks.length ≤ 1000000) (hp : p < s.size) (h1 : badR (s.data.toList.drop p) = false) (h2 : ¬ runeR (s.data.toList.drop p) = 10) (h3 : x.remark = false) (h4 : blankR (runeR (s.data.toList.drop p)) = false) (h5 : runeR (s.data.toList.drop p) = 35) :
    Calls Tryd.prog 28 #[.pointer (some ⟨b, 0, none⟩), .int .i64 (p : Int), .int .i32 (runeR (s.data.toList.drop p))] w fun e w' => e = .returned (.int .i64 (takeZ s.data.toList p x).1) ∧ Spl w' b Bt s (takeZ s.data.toList p x).2 ∧ TurnB b Bt w w' := by
  have HX := Lib.hid hx
  obtain ⟨vt, hb, ho⟩ := hx
  have z0 := hb.cell (k := 0) rfl
  have z3 := hb.cell (k := 3) rfl
  have g3 := hb.frozen 3
  have hlt := hb.lt
  have HRR := Lib.hid (runeR_range (s.data.toList.drop p))
  have hne := from_ne (l := s.data.toList) (p := p) (by rw [data_len]; exact hp)
  have CB := Lib.hid (fun y (hy : Tabs y) => isBroken_any (s.extract p s.size) (runeR (s.data.toList.drop p)) y (by rw [rest_data]; exact hne) hy (by rw [rest_data]))
  rw [rest_data] at CB
  have HZ : Hid (takeZ s.data.toList p x = (0, { x with remark := true })) := by
    show _ = _
    unfold takeZ
    rw [if_neg (by rw [h1]; decide)]
    rw [if_neg h2]
    rw [if_neg (by rw [h3, h4]; decide)]
    rw [if_pos h5]
  have p0 : (0 : Int) ≤ p := by omega
  have p1 : (p : Int) ≤ s.size := by omega
  have p2 : (s.size : Int) ≤ 1000000 := by omega
  have HT0 := Lib.hid hT
  have HB := Lib.hid hb
  have HO := Lib.hid ho
  rw [HZ.out]
  clear hb ho hT hne
  rw [h1] at CB
  have CK := Lib.hid (fun y => isBlank_any (runeR (s.data.toList.drop p)) y)
  rw [h4] at CK
  rw [h5] at CB CK ⊢
  rw [h3] at HB z3
  clear h2 h4 h5
  go_enter Tryd.func28, Tryd.ntmps28
  go_wp2_with fail
  refine (CB.out _ HT0.out.now).mono ?_; rintro e w1 ⟨rfl, hb1⟩
  have S1 := Lib.hid (HX.out.below hb1)
  have T1 := Lib.hid (TurnB.of_below (b := b) (Bt := Bt) hb1 (by omega) hBt)
  have B1 := Lib.hid (HB.out.below hb1 hlt)
  have hs1 := hb1.size
  clear hb1
  have y0 := B1.out.cell (k := 0) rfl
  have y3 := B1.out.cell (k := 3) rfl
  have f3 := B1.out.frozen 3
  clear z0 z3 g3
  go_wp2_with fail
  refine (CK.out _).mono ?_; rintro e w2 ⟨rfl, rfl⟩
  have S1' := S1.out
  obtain ⟨vt1, hb1, ho1⟩ := S1'
  have hb1' := Lib.hid (show Box (w1.setCell ⟨b, 3, none⟩ (.bool true)) b (splL s vt1 x.behind true) from hb1.setCell 3 _)
  have ho1' := Lib.hid (ownsRow_setCell_below ho1 (a := ⟨b, 3, none⟩) (show b < Bt from hB) (.bool true))
  have T2 := Lib.hid (T1.out.trans (TurnB.setCell b Bt w1 3 (.bool true)))
  clear hb1 ho1
  go_wp2_with fail
  go_ret
  exact ⟨rfl, ⟨vt1, hb1'.out, ho1'.out⟩, T2.out⟩

set_option maxHeartbeats 1000000 in
theorem take_name (s : ByteArray) (x : LexS) (p b Bt : Nat) (w : World) (hT : TabsB b w) (hB : b < Bt) (hBt : Bt ≤ w.heap.size) (hs : s.size ≤ 1000000) (hx : Spl w b Bt s x) (ht : x.toks.length ≤ 1000000) (hp : p < s.size) (h1 : badR (s.data.toList.drop p) = false) (h2 : ¬ runeR (s.data.toList.drop p) = 10) (h3 : x.remark = false) (h4 : blankR (runeR (s.data.toList.drop p)) = false) (h5 : ¬ runeR (s.data.toList.drop p) = 35) (h6 : firstR (runeR (s.data.toList.drop p)) = true) :
    Calls Tryd.prog 28 #[.pointer (some ⟨b, 0, none⟩), .int .i64 (p : Int), .int .i32 (runeR (s.data.toList.drop p))] w fun e w' => e = .returned (.int .i64 (takeZ s.data.toList p x).1) ∧ Spl w' b Bt s (takeZ s.data.toList p x).2 ∧ TurnB b Bt w w' := by
  have HX := Lib.hid hx
  obtain ⟨vt, hb, ho⟩ := hx
  have z0 := hb.cell (k := 0) rfl
  have z3 := hb.cell (k := 3) rfl
  have g3 := hb.frozen 3
  have hlt := hb.lt
  have HRR := Lib.hid (runeR_range (s.data.toList.drop p))
  have hne := from_ne (l := s.data.toList) (p := p) (by rw [data_len]; exact hp)
  have CB := Lib.hid (fun y (hy : Tabs y) => isBroken_any (s.extract p s.size) (runeR (s.data.toList.drop p)) y (by rw [rest_data]; exact hne) hy (by rw [rest_data]))
  rw [rest_data] at CB
  have HZ : Hid (takeZ s.data.toList p x = (0, addZ s.data.toList 1 0 p (nameZ (s.data.toList.drop p)) x)) := by
    show _ = _
    unfold takeZ
    rw [if_neg (by rw [h1]; decide)]
    rw [if_neg h2]
    rw [if_neg (by rw [h3, h4]; decide)]
    rw [if_neg h5]
    rw [if_pos h6]
  have p0 : (0 : Int) ≤ p := by omega
  have p1 : (p : Int) ≤ s.size := by omega
  have p2 : (s.size : Int) ≤ 1000000 := by omega
  have HT0 := Lib.hid hT
  have HB := Lib.hid hb
  have HO := Lib.hid ho
  rw [HZ.out]
  clear hb ho hT hne
  rw [h1] at CB
  have q2 : (runeR (s.data.toList.drop p) == 10) = false := by simpa using h2
  have q5 : (runeR (s.data.toList.drop p) == 35) = false := by simpa using h5
  have CK := Lib.hid (fun y => isBlank_any (runeR (s.data.toList.drop p)) y)
  have CF := Lib.hid (fun y (hy : Tabs y) => isFirst_any (runeR (s.data.toList.drop p)) y (i32_rune _ HRR.out) hy)
  rw [h4] at CK
  rw [h6] at CF
  rw [h3] at HB z3
  have CN := Lib.hid (fun y (hy : Tabs y) => nameSize_any (s.extract p s.size) y (by rw [rest_size]; omega) hy)
  rw [rest_data] at CN
  have HNL : Hid (p + nameZ (s.data.toList.drop p) ≤ s.size) := by
    have h1 := nameZ_le (s.data.toList.drop p)
    rw [List.length_drop, data_len] at h1
    show _ ≤ _
    omega
  generalize nameZ (s.data.toList.drop p) = K at *
  clear h2 h4 h5 h6 HZ HRR
  generalize runeR (s.data.toList.drop p) = R at CB CK CF q2 q5 ⊢
  go_enter Tryd.func28, Tryd.ntmps28
  go_wp2_with fail
  refine (CB.out _ HT0.out.now).mono ?_; rintro e w1 ⟨rfl, hb1⟩
  have S1 := Lib.hid (HX.out.below hb1)
  have T1 := Lib.hid (TurnB.of_below (b := b) (Bt := Bt) hb1 (by omega) hBt)
  have B1 := Lib.hid (HB.out.below hb1 hlt)
  have hs1 := hb1.size
  clear hb1
  have y0 := B1.out.cell (k := 0) rfl
  have y3 := B1.out.cell (k := 3) rfl
  have f3 := B1.out.frozen 3
  clear z0 z3 g3
  go_wp2_with fail
  refine (CK.out _).mono ?_; rintro e w2 ⟨rfl, rfl⟩
  go_wp2_with fail
  refine (CF.out _ (HT0.out.go T1.out.bel).now).mono ?_; rintro e w3 ⟨rfl, hb3⟩
  have S3 := Lib.hid (S1.out.below hb3)
  have T3 := Lib.hid (T1.out.trans (TurnB.of_below (b := b) (Bt := Bt) hb3 (by omega) (by omega)))
  have hs3 := hb3.size
  have B3 := Lib.hid (B1.out.below hb3 (by omega))
  clear hb3 y0 y3 f3 S1 T1 B1
  go_wp2_with fail
  refine (CN.out _ (HT0.out.go T3.out.bel).now).mono ?_; rintro e w4 ⟨rfl, hb4⟩
  have S4 := Lib.hid (S3.out.below hb4)
  have T4 := Lib.hid (T3.out.trans (TurnB.of_below (b := b) (Bt := Bt) hb4 (by omega) (by omega)))
  have hs4 := hb4.size
  clear hb4
  go_wp2_with fail
  obtain ⟨vt4, hB4, hO4⟩ := S4.out
  refine (add_any s vt4 x.behind 1 0 x.remark p K b Bt x.toks w4 hB4 hB (by omega) hO4 HNL.out hs ht).mono ?_
  rintro e w5 ⟨rfl, vt5, hb5, ho5, ht5⟩
  have S5 := Lib.hid (Spl.add (x := x) hb5 ho5)
  have T5 := Lib.hid (T4.out.trans ht5)
  clear hb5 ho5 ht5
  go_wp2_with fail
  go_ret
  exact ⟨rfl, S5.out, T5.out⟩

set_option maxHeartbeats 1000000 in
theorem take_sign (s : ByteArray) (x : LexS) (p b Bt : Nat) (w : World) (hT : TabsB b w) (hB : b < Bt) (hBt : Bt ≤ w.heap.size) (hs : s.size ≤ 1000000) (hx : Spl w b Bt s x) (ht : x.toks.length ≤ 1000000) (hp : p < s.size) (h1 : badR (s.data.toList.drop p) = false) (h2 : ¬ runeR (s.data.toList.drop p) = 10) (h3 : x.remark = false) (h4 : blankR (runeR (s.data.toList.drop p)) = false) (h5 : ¬ runeR (s.data.toList.drop p) = 35) (h6 : firstR (runeR (s.data.toList.drop p)) = false) (h7 : signR (runeR (s.data.toList.drop p)) = true) :
    Calls Tryd.prog 28 #[.pointer (some ⟨b, 0, none⟩), .int .i64 (p : Int), .int .i32 (runeR (s.data.toList.drop p))] w fun e w' => e = .returned (.int .i64 (takeZ s.data.toList p x).1) ∧ Spl w' b Bt s (takeZ s.data.toList p x).2 ∧ TurnB b Bt w w' := by
  have HX := Lib.hid hx
  obtain ⟨vt, hb, ho⟩ := hx
  have z0 := hb.cell (k := 0) rfl
  have z3 := hb.cell (k := 3) rfl
  have g3 := hb.frozen 3
  have hlt := hb.lt
  have HRR := Lib.hid (runeR_range (s.data.toList.drop p))
  have hne := from_ne (l := s.data.toList) (p := p) (by rw [data_len]; exact hp)
  have CB := Lib.hid (fun y (hy : Tabs y) => isBroken_any (s.extract p s.size) (runeR (s.data.toList.drop p)) y (by rw [rest_data]; exact hne) hy (by rw [rest_data]))
  rw [rest_data] at CB
  have HZ : Hid (takeZ s.data.toList p x = (0, addZ s.data.toList 3 0 p 1 x)) := by
    show _ = _
    unfold takeZ
    rw [if_neg (by rw [h1]; decide)]
    rw [if_neg h2]
    rw [if_neg (by rw [h3, h4]; decide)]
    rw [if_neg h5]
    rw [if_neg (by rw [h6]; decide)]
    rw [if_pos h7]
  have p0 : (0 : Int) ≤ p := by omega
  have p1 : (p : Int) ≤ s.size := by omega
  have p2 : (s.size : Int) ≤ 1000000 := by omega
  have HT0 := Lib.hid hT
  have HB := Lib.hid hb
  have HO := Lib.hid ho
  rw [HZ.out]
  clear hb ho hT hne
  rw [h1] at CB
  have q2 : (runeR (s.data.toList.drop p) == 10) = false := by simpa using h2
  have q5 : (runeR (s.data.toList.drop p) == 35) = false := by simpa using h5
  have CK := Lib.hid (fun y => isBlank_any (runeR (s.data.toList.drop p)) y)
  have CF := Lib.hid (fun y (hy : Tabs y) => isFirst_any (runeR (s.data.toList.drop p)) y (i32_rune _ HRR.out) hy)
  have CS := Lib.hid (fun y => isSign_any (runeR (s.data.toList.drop p)) y)
  rw [h4] at CK
  rw [h6] at CF
  rw [h7] at CS
  rw [h3] at HB z3
  clear h2 h4 h5 h6 h7 HRR
  generalize runeR (s.data.toList.drop p) = R at CB CK CF CS q2 q5 ⊢
  go_enter Tryd.func28, Tryd.ntmps28
  go_wp2_with fail
  refine (CB.out _ HT0.out.now).mono ?_; rintro e w1 ⟨rfl, hb1⟩
  have S1 := Lib.hid (HX.out.below hb1)
  have T1 := Lib.hid (TurnB.of_below (b := b) (Bt := Bt) hb1 (by omega) hBt)
  have B1 := Lib.hid (HB.out.below hb1 hlt)
  have hs1 := hb1.size
  clear hb1
  have y0 := B1.out.cell (k := 0) rfl
  have y3 := B1.out.cell (k := 3) rfl
  have f3 := B1.out.frozen 3
  clear z0 z3 g3
  go_wp2_with fail
  refine (CK.out _).mono ?_; rintro e w2 ⟨rfl, rfl⟩
  go_wp2_with fail
  refine (CF.out _ (HT0.out.go T1.out.bel).now).mono ?_; rintro e w3 ⟨rfl, hb3⟩
  have S3 := Lib.hid (S1.out.below hb3)
  have T3 := Lib.hid (T1.out.trans (TurnB.of_below (b := b) (Bt := Bt) hb3 (by omega) (by omega)))
  have hs3 := hb3.size
  have B3 := Lib.hid (B1.out.below hb3 (by omega))
  clear hb3 y0 y3 f3 S1 T1 B1
  go_wp2_with fail
  refine (CS.out _).mono ?_; rintro e w4 ⟨rfl, rfl⟩
  go_wp2_with fail
  obtain ⟨vt4, hB4, hO4⟩ := S3.out
  refine (add_any s vt4 x.behind 3 0 x.remark p 1 b Bt x.toks w3 hB4 hB (by omega) hO4 (by omega) hs ht).mono ?_
  rintro e w5 ⟨rfl, vt5, hb5, ho5, ht5⟩
  have S5 := Lib.hid (Spl.add (x := x) hb5 ho5)
  have T5 := Lib.hid (T3.out.trans ht5)
  clear hb5 ho5 ht5
  go_wp2_with fail
  go_ret
  exact ⟨rfl, S5.out, T5.out⟩

set_option maxHeartbeats 1000000 in
theorem take_number (s : ByteArray) (x : LexS) (p b Bt : Nat) (w : World) (hT : TabsB b w) (hB : b < Bt) (hBt : Bt ≤ w.heap.size) (hs : s.size ≤ 1000000) (hx : Spl w b Bt s x) (ht : x.toks.length ≤ 1000000) (hp : p < s.size) (h1 : badR (s.data.toList.drop p) = false) (h2 : ¬ runeR (s.data.toList.drop p) = 10) (h3 : x.remark = false) (h4 : blankR (runeR (s.data.toList.drop p)) = false) (h5 : ¬ runeR (s.data.toList.drop p) = 35) (h6 : firstR (runeR (s.data.toList.drop p)) = false) (h7 : signR (runeR (s.data.toList.drop p)) = false) :
    Calls Tryd.prog 28 #[.pointer (some ⟨b, 0, none⟩), .int .i64 (p : Int), .int .i32 (runeR (s.data.toList.drop p))] w fun e w' => e = .returned (.int .i64 (takeZ s.data.toList p x).1) ∧ Spl w' b Bt s (takeZ s.data.toList p x).2 ∧ TurnB b Bt w w' := by
  have HX := Lib.hid hx
  obtain ⟨vt, hb, ho⟩ := hx
  have z0 := hb.cell (k := 0) rfl
  have z3 := hb.cell (k := 3) rfl
  have g3 := hb.frozen 3
  have hlt := hb.lt
  have HRR := Lib.hid (runeR_range (s.data.toList.drop p))
  have hne := from_ne (l := s.data.toList) (p := p) (by rw [data_len]; exact hp)
  have CB := Lib.hid (fun y (hy : Tabs y) => isBroken_any (s.extract p s.size) (runeR (s.data.toList.drop p)) y (by rw [rest_data]; exact hne) hy (by rw [rest_data]))
  rw [rest_data] at CB
  have HZ : Hid (takeZ s.data.toList p x = numberZ s.data.toList p x) := by
    show _ = _
    unfold takeZ
    rw [if_neg (by rw [h1]; decide)]
    rw [if_neg h2]
    rw [if_neg (by rw [h3, h4]; decide)]
    rw [if_neg h5]
    rw [if_neg (by rw [h6]; decide)]
    rw [if_neg (by rw [h7]; decide)]
  have p0 : (0 : Int) ≤ p := by omega
  have p1 : (p : Int) ≤ s.size := by omega
  have p2 : (s.size : Int) ≤ 1000000 := by omega
  have HT0 := Lib.hid hT
  have HB := Lib.hid hb
  have HO := Lib.hid ho
  rw [HZ.out]
  clear hb ho hT hne
  rw [h1] at CB
  have q2 : (runeR (s.data.toList.drop p) == 10) = false := by simpa using h2
  have q5 : (runeR (s.data.toList.drop p) == 35) = false := by simpa using h5
  have CK := Lib.hid (fun y => isBlank_any (runeR (s.data.toList.drop p)) y)
  have CF := Lib.hid (fun y (hy : Tabs y) => isFirst_any (runeR (s.data.toList.drop p)) y (i32_rune _ HRR.out) hy)
  have CS := Lib.hid (fun y => isSign_any (runeR (s.data.toList.drop p)) y)
  rw [h4] at CK
  rw [h6] at CF
  rw [h7] at CS
  rw [h3] at HB z3
  clear h2 h4 h5 h6 h7 HRR
  generalize runeR (s.data.toList.drop p) = R at CB CK CF CS q2 q5 ⊢
  go_enter Tryd.func28, Tryd.ntmps28
  go_wp2_with fail
  refine (CB.out _ HT0.out.now).mono ?_; rintro e w1 ⟨rfl, hb1⟩
  have S1 := Lib.hid (HX.out.below hb1)
  have T1 := Lib.hid (TurnB.of_below (b := b) (Bt := Bt) hb1 (by omega) hBt)
  have B1 := Lib.hid (HB.out.below hb1 hlt)
  have hs1 := hb1.size
  clear hb1
  have y0 := B1.out.cell (k := 0) rfl
  have y3 := B1.out.cell (k := 3) rfl
  have f3 := B1.out.frozen 3
  clear z0 z3 g3
  go_wp2_with fail
  refine (CK.out _).mono ?_; rintro e w2 ⟨rfl, rfl⟩
  go_wp2_with fail
  refine (CF.out _ (HT0.out.go T1.out.bel).now).mono ?_; rintro e w3 ⟨rfl, hb3⟩
  have S3 := Lib.hid (S1.out.below hb3)
  have T3 := Lib.hid (T1.out.trans (TurnB.of_below (b := b) (Bt := Bt) hb3 (by omega) (by omega)))
  have hs3 := hb3.size
  have B3 := Lib.hid (B1.out.below hb3 (by omega))
  clear hb3 y0 y3 f3 S1 T1 B1
  go_wp2_with fail
  refine (CS.out _).mono ?_; rintro e w4 ⟨rfl, rfl⟩
  go_wp2_with fail
  refine (number_any s x p b Bt w3 hB (by omega) hs S3.out ht hp).mono ?_
  rintro e w5 ⟨rfl, hs5, ht5⟩
  have S5 := Lib.hid hs5
  have T5 := Lib.hid (T3.out.trans ht5)
  clear hs5 ht5
  go_wp2_with fail
  go_ret
  exact ⟨rfl, S5.out, T5.out⟩

theorem take_any (s : ByteArray) (x : LexS) (p b Bt : Nat) (w : World) (hT : TabsB b w) (hB : b < Bt) (hBt : Bt ≤ w.heap.size) (hs : s.size ≤ 1000000) (hx : Spl w b Bt s x) (ht : x.toks.length ≤ 1000000) (hp : p < s.size) :
    Calls Tryd.prog 28 #[.pointer (some ⟨b, 0, none⟩), .int .i64 (p : Int), .int .i32 (runeR (s.data.toList.drop p))] w fun e w' => e = .returned (.int .i64 (takeZ s.data.toList p x).1) ∧ Spl w' b Bt s (takeZ s.data.toList p x).2 ∧ TurnB b Bt w w' := by
  cases h1 : badR (s.data.toList.drop p)
  rotate_left
  · exact take_bad s x p b Bt w hT hB hBt hs hx ht hp h1
  by_cases h2 : runeR (s.data.toList.drop p) = 10
  · exact take_line s x p b Bt w hT hB hBt hs hx ht hp h1 h2
  cases h3 : x.remark
  rotate_left
  · exact take_remark s x p b Bt w hT hB hBt hs hx ht hp h1 h2 h3
  cases h4 : blankR (runeR (s.data.toList.drop p))
  rotate_left
  · exact take_blank s x p b Bt w hT hB hBt hs hx ht hp h1 h2 h3 h4
  by_cases h5 : runeR (s.data.toList.drop p) = 35
  · exact take_hash s x p b Bt w hT hB hBt hs hx ht hp h1 h2 h3 h4 h5
  cases h6 : firstR (runeR (s.data.toList.drop p))
  rotate_left
  · exact take_name s x p b Bt w hT hB hBt hs hx ht hp h1 h2 h3 h4 h5 h6
  cases h7 : signR (runeR (s.data.toList.drop p))
  · exact take_number s x p b Bt w hT hB hBt hs hx ht hp h1 h2 h3 h4 h5 h6 h7
  · exact take_sign s x p b Bt w hT hB hBt hs hx ht hp h1 h2 h3 h4 h5 h6 h7
end Go.Proofs.YtimdojeagkbgbaaDoor.Words

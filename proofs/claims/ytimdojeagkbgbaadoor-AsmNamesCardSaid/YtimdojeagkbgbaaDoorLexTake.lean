/- Contracts of package lex's splitter: a line's end, a number, whatever begins at a place. -/
import Derived.Test.YtimdojeagkbgbaaDoorLexData
namespace Go.Proofs.YtimdojeagkbgbaaDoor.Words
set_option maxRecDepth 100000
open Go.RowKit Go.Shelf Go.Lib
set_option linter.unusedVariables false

/-- A splitter in block b, its tokens in blocks of the call's own from Bt on. -/
def Spl (w : World) (b Bt : Nat) (s : ByteArray) (x : LexS) : Prop :=
  ∃ vt, Box w b (splL s vt (x.behind : Int) x.remark) ∧ w.ownsRow Bt 33 4 vt x.toks.length (toksL x.toks)
theorem Spl.add {w : World} {b Bt p size : Nat} {s : ByteArray} {x : LexS} {kind num : Int} {vt : Value}
    (h1 : Box w b (splL s vt ((p + size : Nat) : Int) x.remark)) (h2 : w.ownsRow Bt 33 4 vt (x.toks.length + 1) (toksL (x.toks ++ [⟨kind, num, p, (s.data.toList.drop p).take size⟩]))) :
    Spl w b Bt s (addZ s.data.toList kind num p size x) := ⟨vt, h1, by show World.ownsRow _ _ _ _ _ (x.toks ++ [_]).length _; rw [List.length_append]; exact h2⟩
theorem Spl.drew {w : World} {b Bt : Nat} {s : ByteArray} {x : LexS} (h : Spl w b Bt s x) : Spl w.drew b Bt s x := h
theorem Spl.below {w w' : World} {b Bt : Nat} {s : ByteArray} {x : LexS} (h : Spl w b Bt s x) (hb : Below w.heap.size w w') : Spl w' b Bt s x := by
  obtain ⟨vt, h1, h2⟩ := h
  exact ⟨vt, h1.below hb h1.lt, own_below h2 hb⟩
theorem rest_data (s : ByteArray) (p : Nat) : (s.extract p s.size).data.toList = s.data.toList.drop p := by
  rw [Lib.extract_data, List.take_of_length_le]
  rw [List.length_drop, data_len]; omega
theorem rest_size (s : ByteArray) (p : Nat) : (s.extract p s.size).size = s.size - p := by rw [ByteArray.size_extract]; omega
theorem lineB_last {t : List Tok} {i : Tok} (h : t[t.length - 1]? = some i) (hne : t ≠ []) : lineB t = decide (i.kind ≠ 4) := by
  unfold lineB
  rw [List.getLast?_eq_getElem?, h]
theorem lineB_nil : lineB [] = false := rfl

set_option maxHeartbeats 1000000 in
theorem line_any (s : ByteArray) (x : LexS) (p b Bt : Nat) (w : World) (hB : b < Bt) (hBt : Bt ≤ w.heap.size) (hs : s.size ≤ 1000000) (hx : Spl w b Bt s x) (ht : x.toks.length ≤ 1000000) (hp : p + 1 ≤ s.size) :
    Calls Tryd.prog 46 #[.pointer (some ⟨b, 0, none⟩), .int .i64 (p : Int)] w fun e w' => e = .returned (.tuple #[]) ∧ Spl w' b Bt s (lineZ s.data.toList p x) ∧ TurnB b Bt w w' := by
  have HX := Lib.hid hx
  obtain ⟨vt, hb, ho⟩ := hx
  obtain ⟨A, c, rfl⟩ := (Row.of_own ho).form
  have z1 := hb.cell (k := 1) rfl
  by_cases hn : x.toks.length = 0
  · have hnil : x.toks = [] := List.eq_nil_of_length_eq_zero hn
    have hl : Hid (lineZ s.data.toList p x = x) := by show _ = _; unfold lineZ; rw [hnil]; rfl
    rw [hn] at z1
    clear hn hnil hb ho
    go_enter Tryd.func46, Tryd.ntmps46
    go_wp2_with fail
    refine bodyPost_end (v := .tuple #[]) (by simp [results, Tryd.results46]) rfl ⟨rfl, ?_, TurnB.refl _ _ _⟩
    rw [hl.out]
    exact HX.out
  · obtain ⟨i, hi⟩ : ∃ i, x.toks[x.toks.length - 1]? = some i := ⟨_, List.getElem?_eq_getElem (by omega)⟩
    have hlb := lineB_last hi (by intro h; rw [h] at hn; exact hn rfl)
    obtain ⟨g, off, rfl, _, _⟩ := (Row.of_own ho).at_ hn
    obtain ⟨c0, _, _, _⟩ := (Row.of_own ho).tok hi
    obtain ⟨n, hn'⟩ : ∃ n, n = x.toks.length := ⟨_, rfl⟩
    have cA := Lib.hid (fun y vt' (h1 : Box y b (splL s vt' (x.behind : Int) x.remark)) (h2 : Bt ≤ y.heap.size) (h3 : y.ownsRow Bt 33 4 vt' x.toks.length (toksL x.toks)) => add_any s vt' x.behind 4 0 x.remark p 1 b Bt x.toks y h1 hB h2 h3 hp hs ht)
    rw [← hn'] at z1 c0 hn ht
    have HN := Lib.hid hn'
    have hk : (n : Int) - 1 = ((n - 1 : Nat) : Int) := by omega
    have hb' := Lib.hid hb
    have ho' := Lib.hid ho
    have h0 : decide (0 ≤ ((n - 1 : Nat) : Int)) = true := decide_eq_true (by omega)
    have h1 : ((n - 1 : Nat) : Int) < n := by omega
    have h2 : (0 : Int) ≤ ((n - 1 : Nat) : Int) := by omega
    have h3 : n - 1 < n := by omega
    have h4 : (1 : Int) ≤ n := by omega
    clear hb ho hi hn'
    by_cases h5 : i.kind = 4
    · have hq : (i.kind != 4) = false := by simpa using h5
      have hl : Hid (lineZ s.data.toList p x = x) := by show _ = _; unfold lineZ; rw [hlb, decide_eq_false (by simpa using h5)]; rfl
      have HK := Lib.hid h5
      clear h5 hlb
      go_enter Tryd.func46, Tryd.ntmps46
      go_wp2_with fail
      refine bodyPost_end (v := .tuple #[]) (by simp [results, Tryd.results46]) rfl ⟨rfl, ?_, TurnB.refl _ _ _⟩
      rw [hl.out]
      exact HX.out
    · have hq : (i.kind != 4) = true := by simpa using h5
      have hl : Hid (lineZ s.data.toList p x = addZ s.data.toList 4 0 p 1 x) := by show _ = _; unfold lineZ; rw [hlb, decide_eq_true h5]; rfl
      clear h5 hlb
      go_enter Tryd.func46, Tryd.ntmps46
      go_wp2_with fail
      refine (cA.out w _ hb'.out hBt (by rw [HN.out] at *; exact ho'.out)).mono ?_
      rintro e w1 ⟨rfl, vt1, hb1, ho1, ht1⟩
      have S1 := Lib.hid (Spl.add hb1 ho1)
      clear hb1 ho1
      go_wp2_with fail
      refine bodyPost_end (v := .tuple #[]) (by simp [results, Tryd.results46]) rfl ⟨rfl, ?_, ht1⟩
      rw [hl.out]
      exact S1.out

set_option maxHeartbeats 1000000 in
theorem number_any (s : ByteArray) (x : LexS) (p b Bt : Nat) (w : World) (hB : b < Bt) (hBt : Bt ≤ w.heap.size) (hs : s.size ≤ 1000000) (hx : Spl w b Bt s x) (ht : x.toks.length ≤ 1000000) (hp : p < s.size) :
    Calls Tryd.prog 52 #[.pointer (some ⟨b, 0, none⟩), .int .i64 (p : Int)] w fun e w' => e = .returned (.int .i64 (numberZ s.data.toList p x).1) ∧ Spl w' b Bt s (numberZ s.data.toList p x).2 ∧ TurnB b Bt w w' := by
  have HX := Lib.hid hx
  obtain ⟨vt, hb, ho⟩ := hx
  have z0 := hb.cell (k := 0) rfl
  have hlt := hb.lt
  have cN := fun y => numberOf_any (s.extract p s.size) y (by rw [rest_size]; omega)
  rw [rest_data] at cN
  have CN := Lib.hid cN
  have HNR := Lib.hid (numZ_range (s.data.toList.drop p))
  have HNL : Hid (p + (numZ (s.data.toList.drop p)).2 ≤ s.size) := by
    have h1 := numZ_le (s.data.toList.drop p)
    rw [List.length_drop, data_len] at h1
    show _ ≤ _
    omega
  obtain ⟨Z, hZ⟩ : ∃ Z, Z = numberZ s.data.toList p x := ⟨_, rfl⟩
  have HZ : Hid (Z = if (numZ (s.data.toList.drop p)).2 = 0 then (5, x) else if (numZ (s.data.toList.drop p)).1 < -4294967296 ∨ 4294967296 < (numZ (s.data.toList.drop p)).1 then (8, x) else (0, addZ s.data.toList 2 (numZ (s.data.toList.drop p)).1 p (numZ (s.data.toList.drop p)).2 x)) := hZ
  rw [← hZ]
  generalize numZ (s.data.toList.drop p) = N at *
  obtain ⟨n, k⟩ := N
  simp only at CN HNR HNL HZ
  have n0 : -4294967297 ≤ n ∧ n ≤ 4294967297 := HNR.out
  obtain ⟨n1, n2⟩ := n0
  have k1 : (k : Int) ≤ 1000000 := by have := HNL.out; omega
  have p0 : (0 : Int) ≤ p := by omega
  have p1 : (p : Int) ≤ s.size := by omega
  have p2 : (s.size : Int) ≤ 1000000 := by omega
  clear hb ho cN hZ HNR
  by_cases hk : k = 0
  · have hz : Hid (Z = (5, x)) := by show _ = _; rw [HZ.out, if_pos hk]
    have hq : ((k : Int) == 0) = true := by simpa using hk
    clear hk HZ
    go_enter Tryd.func52, Tryd.ntmps52
    go_wp2_with fail
    refine (CN.out _).mono ?_; rintro e w1 ⟨rfl, hb1⟩
    have S1 := Lib.hid (HX.out.below hb1)
    have T1 := Lib.hid (TurnB.of_below (b := b) (Bt := Bt) hb1 (by omega) hBt)
    clear hb1
    go_wp2_with fail
    go_ret
    rw [hz.out]
    exact ⟨rfl, S1.out, T1.out⟩
  · have hq : ((k : Int) == 0) = false := by simpa using hk
    by_cases hr : n < -4294967296 ∨ 4294967296 < n
    · have hz : Hid (Z = (8, x)) := by show _ = _; rw [HZ.out, if_neg hk, if_pos hr]
      clear hk HZ
      by_cases hr1 : n < -4294967296
      · have q1 : decide (n < -4294967296) = true := decide_eq_true hr1
        clear hr
        go_enter Tryd.func52, Tryd.ntmps52
        go_wp2_with fail
        refine (CN.out _).mono ?_; rintro e w1 ⟨rfl, hb1⟩
        have S1 := Lib.hid (HX.out.below hb1)
        have T1 := Lib.hid (TurnB.of_below (b := b) (Bt := Bt) hb1 (by omega) hBt)
        clear hb1
        go_wp2_with fail
        go_ret
        rw [hz.out]
        exact ⟨rfl, S1.out, T1.out⟩
      · have q1 : decide (n < -4294967296) = false := decide_eq_false hr1
        have q2 : decide (4294967296 < n) = true := decide_eq_true (by omega)
        clear hr
        go_enter Tryd.func52, Tryd.ntmps52
        go_wp2_with fail
        refine (CN.out _).mono ?_; rintro e w1 ⟨rfl, hb1⟩
        have S1 := Lib.hid (HX.out.below hb1)
        have T1 := Lib.hid (TurnB.of_below (b := b) (Bt := Bt) hb1 (by omega) hBt)
        clear hb1
        go_wp2_with fail
        go_ret
        rw [hz.out]
        exact ⟨rfl, S1.out, T1.out⟩
    · have hz : Hid (Z = (0, addZ s.data.toList 2 n p k x)) := by show _ = _; rw [HZ.out, if_neg hk, if_neg hr]
      have q1 : decide (n < -4294967296) = false := decide_eq_false (by omega)
      have q2 : decide (4294967296 < n) = false := decide_eq_false (by omega)
      clear hk hr HZ
      go_enter Tryd.func52, Tryd.ntmps52
      go_wp2_with fail
      refine (CN.out _).mono ?_; rintro e w1 ⟨rfl, hb1⟩
      have S1 := Lib.hid (HX.out.below hb1)
      have T1 := Lib.hid (TurnB.of_below (b := b) (Bt := Bt) hb1 (by omega) hBt)
      have hsz := hb1.size
      clear hb1
      go_wp2_with fail
      obtain ⟨vt1, hB1, hO1⟩ := S1.out
      refine (add_any s vt1 x.behind 2 n x.remark p k b Bt x.toks w1 hB1 hB (by omega) hO1 HNL.out hs ht).mono ?_
      rintro e w2 ⟨rfl, vt2, hb2, ho2, ht2⟩
      have S2 := Lib.hid (Spl.add hb2 ho2)
      have T2 := Lib.hid (T1.out.trans ht2)
      clear hb2 ho2 ht2
      go_wp2_with fail
      go_ret
      rw [hz.out]
      exact ⟨rfl, S2.out, T2.out⟩
end Go.Proofs.YtimdojeagkbgbaaDoor.Words

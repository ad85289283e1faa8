/- The walk of LexLines: lines one behind the other have the tokens of each. -/
import Derived.Test.YtimdojeagkbgbaaDoorG10
import Derived.Test.YtimdojeagkbgbaaDoorSLexLinesMath
import Derived.Test.YtimdojeagkbgbaaDoorSLexStandMath
import Derived.Laws.BitsLemmas
import Derived.Deep.QuietTactic
import Derived.Deep.Cut
import Derived.BigQuiet
namespace Go.Proofs.YtimdojeagkbgbaaDoor.Words
set_option maxRecDepth 100000
open Go.RowKit Go.Shelf Go.Lib
set_option linter.unusedVariables false
set_option linter.unusedSimpArgs false

theorem and_1023 (n : Int) : bits .and .i64 n 1023 = n % 1024 := by
  have h1 : (BitVec.ofInt 64 1023).toNat = 2 ^ 10 - 1 := by decide
  have h2 : (BitVec.ofInt 64 n &&& BitVec.ofInt 64 1023).toNat = (n % ((2 ^ 64 : Nat) : Int)).toNat % 2 ^ 10 := by
    rw [BitVec.toNat_and, BitVec.toNat_ofInt, h1, Nat.and_two_pow_sub_one_eq_mod]
  show IntKind.i64.wrap ((BitVec.ofInt 64 n &&& BitVec.ofInt 64 1023).toNat : Nat) = n % 1024
  rw [h2, IntKind.wrap_i64]
  omega
theorem between_cell (W : World) (K : Nat) (hK : K < 5) : (W.alloc (.cells #[.string ⟨#[10]⟩, .string ⟨#[10, 10]⟩, .string ⟨#[32, 35, 32, 97, 58, 32, 98, 10]⟩, .string ⟨#[13, 10]⟩, .string ⟨#[9, 10, 32, 35, 32, 195, 169, 10, 32]⟩] 9)).cell? ⟨W.heap.size, K, none⟩ = some (.string (txt (betweenZ.getD K []))) := by
  match K, hK with
  | 0, _ => go_simp; rfl
  | 1, _ => go_simp; rfl
  | 2, _ => go_simp; rfl
  | 3, _ => go_simp; rfl
  | 4, _ => go_simp; rfl
  | n + 5, h => exact absurd h (by omega)
theorem cat3 (a b : ByteArray) (k : List UInt8) : ((a ++ txt k) ++ b).data.toList = a.data.toList ++ (k ++ b.data.toList) := by
  simp [ByteArray.data_append]

theorem lines_good {l : List UInt8} {t : List Tok} (h : lexZ l = .toks t) : ∀ i k, t[i]? = some k → Stands l t i k := by
  have hl : l.length ≤ 20000 := by
    unfold lexZ at h
    by_cases hl : 20000 < l.length
    · rw [if_pos hl] at h; cases h
    · omega
  have h2 := lexZ_good (l := l) hl
  rw [h] at h2
  exact h2
theorem Row.frontT {w : World} {B n c : Nat} {b off : Nat} {p q : List Tok} (h : Row w B 4 (.slice (some ⟨b, off, none⟩) n c) n (toksL (p ++ q))) :
    Row w B 4 (.slice (some ⟨b, off, none⟩) p.length c) p.length (toksL p) := by
  have hl := h.len
  rw [toksL_length, List.length_append] at hl
  obtain ⟨h1, h2⟩ := h.cap
  refine ⟨toksL_length p, _, c, rfl, by omega, h2, (fun h => by cases h), fun hk0 => ?_⟩
  obtain ⟨b', off', e, hb, hc⟩ := h.at_ (by omega)
  injection e with e
  injection e with e1 e2
  subst e1 e2
  refine ⟨_, _, rfl, hb, fun j u hu => hc j u ?_⟩
  rw [toksL_append]
  have hj : j < (toksL p).length := by
    rcases Nat.lt_or_ge j (toksL p).length with h | h
    · exact h
    · rw [List.getElem?_eq_none h] at hu; cases hu
  rw [List.getElem?_append_left hj]
  exact hu

set_option maxHeartbeats 4000000 in
theorem lexLines_in (s0 s1 : ByteArray) (n : Int) (w : World) (hT : Tabs w) (h0 : s0.size ≤ 200) (h1 : s1.size ≤ 200) (l0 m : List Tok) (u : Tok) (M : Nat) (hl : lexZ s0.data.toList = .toks (l0 ++ [u])) (hm : lexZ s1.data.toList = .toks m) (hM : m.length = M + 1) (hu : u.kind ≠ 4) :
    Calls Tryd.prog 4 #[.string s0, .string s1, .int .i64 n] w fun e w' => e = .returned (.bool true) ∧ Below w.heap.size w w' := by
  have cA := alive7_any w hT
  have HT := Lib.hid hT
  have c1 := Lib.hid (fun y (hy : Tabs y) => refSplit_any s0 y (by omega) hy)
  have c2 := Lib.hid (fun y (hy : Tabs y) => refSplit_any s1 y (by omega) hy)
  rw [hl] at c1
  rw [hm] at c2
  obtain ⟨K, hK, hK5⟩ : ∃ K : Nat, n % 1024 % 5 = (K : Int) ∧ K < 5 := ⟨(n % 1024 % 5).toNat, by omega, by omega⟩
  have hand := and_1023 n
  have hr0 : 0 ≤ n % 1024 := by omega
  have hr1 : n % 1024 < 1024 := by omega
  generalize n % 1024 = R at *
  have hkm : betweenZ.getD K [] ∈ betweenZ := by
    rw [List.getD_eq_getElem?_getD, List.getElem?_eq_getElem (show K < betweenZ.length from hK5)]
    exact List.getElem_mem _
  have HBC := Lib.hid (fun W => between_cell W K hK5)
  have hlB : lineB (l0 ++ [u]) = true := by unfold lineB; simp [hu]
  obtain ⟨z, hz, hZ⟩ := lex_lines s0.data.toList s1.data.toList (betweenZ.getD K []) hkm (l0 ++ [u]) m hl hm (by have := data_len s0; omega) (by have := data_len s1; omega) hlB
  have c3 := Lib.hid (fun y (hs : ((s0 ++ txt (betweenZ.getD K [])) ++ s1).size ≤ 9223372036854775807) (hy : Tabs y) => split_any ((s0 ++ txt (betweenZ.getD K [])) ++ s1) y hs hy)
  rw [cat3, hZ] at c3
  have q1 : decide (200 < (s0.size : Int)) = false := decide_eq_false (by omega)
  have q2 : decide (200 < s0.size) = false := decide_eq_false (by omega)
  have q3 : decide (200 < (s1.size : Int)) = false := decide_eq_false (by omega)
  have q4 : decide (200 < s1.size) = false := decide_eq_false (by omega)
  have p0 : (s0.size : Int) ≤ 200 := by omega
  have p1 : (s1.size : Int) ≤ 200 := by omega
  have hl0 : (l0 ++ [u]).length = l0.length + 1 := by simp
  have hu4 : (u.kind == 4) = false := by simpa using hu
  have HL := Lib.hid hl
  have HM := Lib.hid hm
  have HMM := Lib.hid hM
  clear hT hl hm hlB hkm hZ
  go_enter Tryd.func4, Tryd.ntmps4
  go_wp2_with fail
  refine cA.mono ?_; rintro e w1 ⟨rfl, hb1⟩
  have HB1 := Lib.hid hb1
  clear hb1
  go_wp2_with fail
  refine (c1.out _ (HT.out.below HB1.out)).mono ?_; rintro e w2 ⟨ho, hb2⟩
  obtain ⟨v, rfl, hown⟩ := ho
  obtain ⟨A, c, rfl⟩ := (Row.of_own hown).form
  have HB2 := Lib.hid (HB1.out.trans (hb2.mono HB1.out.size))
  have HO2 := Lib.hid (Row.of_own hown)
  rw [hl0] at HO2 ⊢
  clear hb2 hown
  go_wp2_with fail
  refine (c2.out _ (HT.out.below HB2.out)).mono ?_; rintro e w3 ⟨ho, hb3⟩
  obtain ⟨v, rfl, hown⟩ := ho
  obtain ⟨Am, cm, rfl⟩ := (Row.of_own hown).form
  have HB3 := Lib.hid (HB2.out.trans (hb3.mono HB2.out.size))
  have HO3 := Lib.hid ((HO2.out.below hb3).more hb3.size)
  have HM3 := Lib.hid (Row.of_own hown)
  rw [hM] at HM3 ⊢
  clear hb3 hown
  obtain ⟨g, off, rfl, hg, _⟩ := HO3.out.at_ (by omega)
  obtain ⟨x0, _, _, _⟩ := HO3.out.tok (k := l0.length) (i := u) (by simp)
  have e1 : ((l0.length : Int) + 1 == 0) = false := by simp; omega
  have e2 : ((M : Int) + 1 == 0) = false := by simp; omega
  obtain ⟨u1, u2⟩ := HO3.out.cap
  have u3 : (l0.length : Int) + 1 ≤ 9223372036854775807 := by omega
  go_upto_region 7 with (fail)
  have bc := HBC.out w3
  have HW : Hid (Below w3.heap.size w3 (w3.alloc (.cells #[.string ⟨#[10]⟩, .string ⟨#[10, 10]⟩, .string ⟨#[32, 35, 32, 97, 58, 32, 98, 10]⟩, .string ⟨#[13, 10]⟩, .string ⟨#[9, 10, 32, 35, 32, 195, 169, 10, 32]⟩] 9))) := (Below.refl _ _).alloc (Nat.le_refl _) _
  have hWs : (w3.alloc (.cells #[.string ⟨#[10]⟩, .string ⟨#[10, 10]⟩, .string ⟨#[32, 35, 32, 97, 58, 32, 98, 10]⟩, .string ⟨#[13, 10]⟩, .string ⟨#[9, 10, 32, 35, 32, 195, 169, 10, 32]⟩] 9)).heap.size = w3.heap.size + 1 := by simp
  generalize (w3.alloc (.cells #[.string ⟨#[10]⟩, .string ⟨#[10, 10]⟩, .string ⟨#[32, 35, 32, 97, 58, 32, 98, 10]⟩, .string ⟨#[13, 10]⟩, .string ⟨#[9, 10, 32, 35, 32, 195, 169, 10, 32]⟩] 9)) = W at *
  have hkl : (betweenZ.getD K []).length ≤ 10 := by
    match K, hK5 with
    | 0, _ => decide
    | 1, _ => decide
    | 2, _ => decide
    | 3, _ => decide
    | 4, _ => decide
    | n + 5, h => exact absurd h (by omega)
  generalize betweenZ.getD K [] = kz at *
  have hks : (txt kz).size = kz.length := by rw [← data_len]
  have HWT : Hid (Tabs W) := (HT.out.below HB3.out).below HW.out
  have hat : Hid (∀ (i : Nat) (k : Tok), m[i]? = some k → k.at_ ≤ 200) := fun i k hi => by
    have hf := (lines_good HM.out i k hi).fits
    have hd := data_len s1
    omega
  rw [data_len] at c3
  go_wp2_with fail
  have hsize : ((s0 ++ txt kz) ++ s1).size ≤ 9223372036854775807 := by simp only [ByteArray.size_append]; omega
  refine (c3.out _ hsize HWT.out).mono ?_
  rintro e w4 ⟨ho, hb4⟩
  obtain ⟨v, rfl, hown⟩ := ho
  obtain ⟨Ax, cx, rfl⟩ := (Row.of_own hown).form
  have HBW := Lib.hid (HB3.out.trans (HW.out.mono HB3.out.size))
  have HB4 := Lib.hid (HBW.out.trans (hb4.mono HBW.out.size))
  have HX4 := Lib.hid (Row.of_own hown)
  have HO4 := Lib.hid (((HO3.out.below HW.out).more HW.out.size |>.below hb4).more hb4.size)
  have HM4 := Lib.hid (((HM3.out.below HW.out).more HW.out.size |>.below hb4).more hb4.size)
  obtain ⟨X, hX⟩ : ∃ X : Nat, ((l0 ++ [u]) ++ (z :: m.map (shiftT (s0.size + kz.length)))).length = X := ⟨_, rfl⟩
  have hXe : (X : Int) = (l0.length : Int) + 1 + 1 + ((M : Int) + 1) := by
    have hmm := HMM.out
    rw [← hX]; simp [hmm]; omega
  rw [hX] at HX4 ⊢
  have HXX := Lib.hid hX
  clear hb4 hown hX
  obtain ⟨gm, om, rfl, hgm, _⟩ := HM4.out.at_ (by omega)
  obtain ⟨gx, ox, rfl, hgx, _⟩ := HX4.out.at_ (by omega)
  obtain ⟨v1, v2⟩ := HX4.out.cap
  obtain ⟨v3, v4⟩ := HM4.out.cap
  have HXE := Lib.hid hXe
  have u5 : (l0.length : Int) + 1 + 1 + ((M : Int) + 1) ≤ 9223372036854775807 := by omega
  have u6 : (l0.length : Int) + 1 + 1 ≤ 9223372036854775807 := by omega
  have u7 : (M : Int) + 1 ≤ 9223372036854775807 := by omega
  clear v1 v2 v3 v4 u1 u2
  go_wp2_with (go_at_call 16; refine (num_any _ _).mono ?_; rintro e w5 ⟨rfl, rfl⟩)
  go_loopw [19] (fun i wr => ∃ (k : Nat), k ≤ M + 1 ∧ i = .int .i64 k ∧ Below w4.heap.size w4 wr) (fun i _ => M + 1 - (intOf i).toNat)
  case atStart => exact ⟨0, Nat.zero_le _, rfl, Below.refl _ _⟩
  case round =>
    obtain ⟨k, hk, rfl, hBel⟩ := hrel
    have HBr := Lib.hid hBel
    have HK := Lib.hid hk
    by_cases hlt : k < M + 1
    · have hlt2 : k < m.length := by have := HMM.out; omega
      obtain ⟨y, hy⟩ : ∃ y, m[k]? = some y := ⟨_, List.getElem?_eq_getElem hlt2⟩
      have hy2 : ((l0 ++ [u]) ++ (z :: m.map (shiftT (s0.size + kz.length))))[l0.length + 1 + 1 + k]? = some (shiftT (s0.size + kz.length) y) := by
        rw [List.getElem?_append_right (by simp; omega)]
        have : l0.length + 1 + 1 + k - (l0 ++ [u]).length = k + 1 := by simp; omega
        rw [this, List.getElem?_cons_succ, List.getElem?_map, hy]; rfl
      have hya := hat.out k y hy
      obtain ⟨a0, a1, a2, a3⟩ := (HM4.out.below HBr.out).tok hy
      obtain ⟨b0, b1, b2, b3⟩ := (HX4.out.below HBr.out).tok hy2
      have hsh : (((shiftT (s0.size + kz.length) y).at_ : Nat) : Int) = (y.at_ : Int) + s0.size + kz.length := by
        show ((y.at_ + (s0.size + kz.length) : Nat) : Int) = _
        omega
      have hz1 : gm < wr.heap.size := Nat.lt_of_lt_of_le hgm HBr.out.size
      have hz2 : gx < wr.heap.size := Nat.lt_of_lt_of_le hgx HBr.out.size
      have ne := fun w => neq_tok (shiftT (s0.size + kz.length) y) (shiftT (s0.size + kz.length) y) w
      rw [decide_eq_true rfl] at ne
      simp only [Bool.not_true, hsh] at ne
      rw [hsh] at b2
      change wr.cell? _ = some (.int .i64 y.kind) at b0
      change wr.cell? _ = some (.int .i64 y.num) at b1
      change wr.cell? _ = some (.string (txt y.text)) at b3
      change ∀ w, (binOp .neq _ (.agg #[.int .i64 y.kind, .int .i64 y.num, _, .string (txt y.text)]) (.agg #[.int .i64 y.kind, .int .i64 y.num, _, .string (txt y.text)])).run _ w = _ at ne
      have kq : decide ((k : Int) < (M : Int) + 1) = true := decide_eq_true (by omega)
      have k0 : (0 : Int) ≤ k := by omega
      have k1 : (k : Int) < (M : Int) + 1 := by omega
      have g1 : (0 : Int) ≤ y.at_ := by omega
      have g2 : (y.at_ : Int) + s0.size + kz.length ≤ 1000 := by omega
      have g3 : (y.at_ : Int) + s0.size ≤ 1000 := by omega
      have g4 : (l0.length : Int) + 1 + 1 + k < X := by have := HXE.out; omega
      have g5 : (l0.length : Int) + 1 + 1 + k ≤ 9223372036854775807 := by omega
      clear hk hBel hsh
      go_wp2_with fail
      go_quiet (fail)
      go_wp2_with fail
      go_roundw
      case rel => exact ⟨k + 1, by omega, rfl, Below.drewN_ (HBr.out.alloc HBr.out.size _) _⟩
      case measure => simp only [intOf]; omega
    · have kq : decide ((k : Int) < (M : Int) + 1) = false := decide_eq_false (by omega)
      have r0 := Lib.hid (HX4.out.below HBr.out)
      have r1 := Lib.hid ((HO4.out.below HBr.out).more HBr.out.size)
      have r2 := Lib.hid (((Row.frontT (p := l0 ++ [u]) (by have := r0.out; rw [List.append_assoc] at this ⊢; exact this))).more HBr.out.size)
      have g4 : (l0.length : Int) + 1 < X := by have := HXE.out; omega
      have g6 : (l0.length : Int) + 1 ≤ cx := by have := HXE.out; have := HX4.out.cap; omega
      rw [hl0] at r2
      have hlm : k = M + 1 := by omega
      clear hk hBel hlt
      go_wp2_with fail
      refine (sameTokens_yes (l0 ++ [u]) _ _ _ (by rw [hl0]; exact r2.out) (by rw [hl0]; exact r1.out)).mono ?_
      rintro e w5 ⟨rfl, hb5⟩
      have hB4r := HB4.out.trans (HBr.out.mono HB4.out.size)
      have HB5 := Lib.hid (hB4r.trans (hb5.mono hB4r.size))
      obtain ⟨c0, _, _, _⟩ := ((r0.out.more HBr.out.size).below hb5).tok (k := l0.length + 1) (i := z) (by simp)
      rw [hz] at c0
      clear hb5 hB4r
      try dsimp only
      go_wp2_with fail
      go_ret
      exact ⟨rfl, HB5.out⟩

theorem lexF_bad (l : List UInt8) : ∀ f p x a e, lexF l f p x = .bad a e → e ≠ 0
  | 0, p, x, a, e, h => by simp [lexF] at h
  | f + 1, p, x, a, e, h => by
    rw [lexF] at h
    split at h
    · split at h
      · exact lexF_bad l f _ _ a e h
      split at h
      · exact lexF_bad l f _ _ a e h
      · rename_i hn
        injection h with _ h
        rw [← h]
        exact hn
    · cases h
theorem lexZ_bad {l : List UInt8} {a : Nat} {e : Int} (h : lexZ l = .bad a e) : e ≠ 0 := by
  unfold lexZ at h
  split at h
  · injection h with _ h; omega
  · exact lexF_bad l _ _ _ a e h
/-- What a text's answer is for a law that looks at its length and its error only. -/
def AnyR (Z : LexR) (n : Nat) (f : Int) : Prop :=
  match Z with
  | .toks t => n = t.length ∧ f = 0
  | .bad _ k => n = 0 ∧ f = k
theorem any_out (Z : LexR) : ∃ n f, AnyR Z n f ∧ ∀ base e w, LexOut Z base e w → ∃ A c a, e = .returned (.tuple #[.slice A n c, .int .i64 a, .int .i64 f]) := by
  cases Z with
  | toks t =>
    refine ⟨t.length, 0, ⟨rfl, rfl⟩, ?_⟩
    rintro base e w ⟨v, rfl, hown⟩
    obtain ⟨A, c, rfl⟩ := (Row.of_own hown).form
    exact ⟨A, c, -1, rfl⟩
  | bad a k =>
    refine ⟨0, k, ⟨rfl, rfl⟩, ?_⟩
    rintro base e w h
    exact ⟨none, 0, a, h⟩

set_option maxHeartbeats 8000000 in
theorem lexLines_early (s0 s1 : ByteArray) (n : Int) (w : World) (hT : Tabs w) (w0 : s0.size ≤ 9223372036854775807) (w1' : s1.size ≤ 9223372036854775807) (n0 n1 : Nat) (f0 f1 : Int)
    (d1 : ∀ base e w, LexOut (lexZ s0.data.toList) base e w → ∃ A c a, e = .returned (.tuple #[.slice A n0 c, .int .i64 a, .int .i64 f0]))
    (d2 : ∀ base e w, LexOut (lexZ s1.data.toList) base e w → ∃ A c a, e = .returned (.tuple #[.slice A n1 c, .int .i64 a, .int .i64 f1]))
    (hout : (200 < s0.size) ∨ (s0.size ≤ 200 ∧ 200 < s1.size) ∨ (s0.size ≤ 200 ∧ s1.size ≤ 200 ∧ f0 ≠ 0) ∨ (s0.size ≤ 200 ∧ s1.size ≤ 200 ∧ f0 = 0 ∧ f1 ≠ 0) ∨ (s0.size ≤ 200 ∧ s1.size ≤ 200 ∧ f0 = 0 ∧ f1 = 0 ∧ n0 = 0) ∨ (s0.size ≤ 200 ∧ s1.size ≤ 200 ∧ f0 = 0 ∧ f1 = 0 ∧ n0 ≠ 0 ∧ n1 = 0)) :
    Calls Tryd.prog 4 #[.string s0, .string s1, .int .i64 n] w fun e w' => e = .returned (.bool true) ∧ Below w.heap.size w w' := by
  have cA := alive7_any w hT
  have HT := Lib.hid hT
  have c1 := Lib.hid (fun y (hy : Tabs y) => refSplit_any s0 y (by omega) hy)
  have c2 := Lib.hid (fun y (hy : Tabs y) => refSplit_any s1 y (by omega) hy)
  have D1 := Lib.hid d1
  have D2 := Lib.hid d2
  clear hT d1 d2
  have hq : (decide (200 < (s0.size : Int)) = true ∧ decide (200 < s0.size) = true) ∨ (decide (200 < (s0.size : Int)) = false ∧ decide (200 < s0.size) = false ∧ decide (200 < (s1.size : Int)) = true ∧ decide (200 < s1.size) = true) ∨
      (decide (200 < (s0.size : Int)) = false ∧ decide (200 < s0.size) = false ∧ decide (200 < (s1.size : Int)) = false ∧ decide (200 < s1.size) = false ∧
        ((¬ f0 = 0) ∨ (f0 = 0 ∧ ((¬ f1 = 0) ∨ (f1 = 0 ∧ (n0 = 0 ∨ ((¬ n0 = 0) ∧ n1 = 0))))))) := by
    rcases hout with h | ⟨h, h2⟩ | ⟨h, h2, h3⟩ | ⟨h, h2, h3, h4⟩ | ⟨h, h2, h3, h4, h5⟩ | ⟨h, h2, h3, h4, h5, h6⟩
    · exact .inl ⟨decide_eq_true (by omega), decide_eq_true h⟩
    · exact .inr (.inl ⟨decide_eq_false (by omega), decide_eq_false (by omega), decide_eq_true (by omega), decide_eq_true h2⟩)
    all_goals refine .inr (.inr ⟨decide_eq_false (by omega), decide_eq_false (by omega), decide_eq_false (by omega), decide_eq_false (by omega), ?_⟩)
    · exact .inl h3
    · exact .inr ⟨h3, .inl h4⟩
    · exact .inr ⟨h3, .inr ⟨h4, .inl h5⟩⟩
    · exact .inr ⟨h3, .inr ⟨h4, .inr ⟨h5, h6⟩⟩⟩
  clear hout
  go_enter Tryd.func4, Tryd.ntmps4
  go_wp2_with fail
  refine cA.mono ?_; rintro e w1 ⟨rfl, hb1⟩
  have HB1 := Lib.hid hb1
  clear hb1
  go_wp2_with fail
  refine (c1.out _ (HT.out.below HB1.out)).mono ?_; rintro e w2 ⟨ho, hb2⟩
  obtain ⟨A0, c0, a0, rfl⟩ := D1.out _ _ _ ho
  have HB2 := Lib.hid (HB1.out.trans (hb2.mono HB1.out.size))
  clear hb2 ho
  go_wp2_with fail
  refine (c2.out _ (HT.out.below HB2.out)).mono ?_; rintro e w3 ⟨ho, hb3⟩
  obtain ⟨A1, c1', a1, rfl⟩ := D2.out _ _ _ ho
  have HB3 := Lib.hid (HB2.out.trans (hb3.mono HB2.out.size))
  clear hb3 ho D1 D2 c1 c2
  rcases hq with ⟨q1, q2⟩ | ⟨q1, q2, q3, q4⟩ | ⟨q1, q2, q3, q4, q5 | ⟨rfl, q5 | ⟨rfl, rfl | ⟨q5, rfl⟩⟩⟩⟩
  all_goals
    go_wp2_with fail
    go_ret
    exact ⟨rfl, HB3.out⟩

set_option maxHeartbeats 4000000 in
theorem lexLines_last (s0 s1 : ByteArray) (n : Int) (w : World) (hT : Tabs w) (h0 : s0.size ≤ 200) (h1 : s1.size ≤ 200) (l0 m : List Tok) (u : Tok) (M : Nat) (hl : lexZ s0.data.toList = .toks (l0 ++ [u])) (hm : lexZ s1.data.toList = .toks m) (hM : m.length = M + 1) (hu : u.kind = 4) :
    Calls Tryd.prog 4 #[.string s0, .string s1, .int .i64 n] w fun e w' => e = .returned (.bool true) ∧ Below w.heap.size w w' := by
  have cA := alive7_any w hT
  have HT := Lib.hid hT
  have c1 := Lib.hid (fun y (hy : Tabs y) => refSplit_any s0 y (by omega) hy)
  have c2 := Lib.hid (fun y (hy : Tabs y) => refSplit_any s1 y (by omega) hy)
  rw [hl] at c1
  rw [hm] at c2
  have q1 : decide (200 < (s0.size : Int)) = false := decide_eq_false (by omega)
  have q2 : decide (200 < s0.size) = false := decide_eq_false (by omega)
  have q3 : decide (200 < (s1.size : Int)) = false := decide_eq_false (by omega)
  have q4 : decide (200 < s1.size) = false := decide_eq_false (by omega)
  have p0 : (s0.size : Int) ≤ 200 := by omega
  have p1 : (s1.size : Int) ≤ 200 := by omega
  have hl0 : (l0 ++ [u]).length = l0.length + 1 := by simp
  clear hT hl hm
  go_enter Tryd.func4, Tryd.ntmps4
  go_wp2_with fail
  refine cA.mono ?_; rintro e w1 ⟨rfl, hb1⟩
  have HB1 := Lib.hid hb1
  clear hb1
  go_wp2_with fail
  refine (c1.out _ (HT.out.below HB1.out)).mono ?_; rintro e w2 ⟨ho, hb2⟩
  obtain ⟨v, rfl, hown⟩ := ho
  obtain ⟨A, c, rfl⟩ := (Row.of_own hown).form
  have HB2 := Lib.hid (HB1.out.trans (hb2.mono HB1.out.size))
  have HO2 := Lib.hid (Row.of_own hown)
  rw [hl0] at HO2 ⊢
  clear hb2 hown
  go_wp2_with fail
  refine (c2.out _ (HT.out.below HB2.out)).mono ?_; rintro e w3 ⟨ho, hb3⟩
  obtain ⟨v, rfl, hown⟩ := ho
  obtain ⟨Am, cm, rfl⟩ := (Row.of_own hown).form
  have HB3 := Lib.hid (HB2.out.trans (hb3.mono HB2.out.size))
  have HO3 := Lib.hid ((HO2.out.below hb3).more hb3.size)
  rw [hM]
  clear hb3 hown
  obtain ⟨g, off, rfl, hg, _⟩ := HO3.out.at_ (by omega)
  obtain ⟨x0, _, _, _⟩ := HO3.out.tok (k := l0.length) (i := u) (by simp)
  rw [hu] at x0
  have e1 : ((l0.length : Int) + 1 == 0) = false := by simp; omega
  have e2 : ((M : Int) + 1 == 0) = false := by simp; omega
  obtain ⟨u1, u2⟩ := HO3.out.cap
  have u3 : (l0.length : Int) + 1 ≤ 9223372036854775807 := by omega
  go_wp2_with fail
  go_ret
  exact ⟨rfl, HB3.out⟩

theorem lexLines_walk (s0 s1 : ByteArray) (n : Int) (w : World) (hT : Tabs w) (w0 : s0.size ≤ 9223372036854775807) (w1 : s1.size ≤ 9223372036854775807) (w2 : -9223372036854775808 ≤ n ∧ n ≤ 9223372036854775807) :
    Calls Tryd.prog 4 #[.string s0, .string s1, .int .i64 n] w fun e w' => e = .returned (.bool true) ∧ Below w.heap.size w w' := by
  obtain ⟨n0, f0, p0, d0⟩ := any_out (lexZ s0.data.toList)
  obtain ⟨n1, f1, p1, d1⟩ := any_out (lexZ s1.data.toList)
  have early := lexLines_early s0 s1 n w hT w0 w1 n0 n1 f0 f1 d0 d1
  by_cases h0 : 200 < s0.size
  · exact early (.inl h0)
  by_cases h1 : 200 < s1.size
  · exact early (.inr (.inl ⟨by omega, h1⟩))
  by_cases h2 : f0 = 0
  case neg => exact early (.inr (.inr (.inl ⟨by omega, by omega, h2⟩)))
  by_cases h3 : f1 = 0
  case neg => exact early (.inr (.inr (.inr (.inl ⟨by omega, by omega, h2, h3⟩))))
  by_cases h4 : n0 = 0
  · exact early (.inr (.inr (.inr (.inr (.inl ⟨by omega, by omega, h2, h3, h4⟩)))))
  by_cases h5 : n1 = 0
  · exact early (.inr (.inr (.inr (.inr (.inr ⟨by omega, by omega, h2, h3, h4, h5⟩)))))
  cases hz0 : lexZ s0.data.toList with
  | bad a e => rw [hz0] at p0; exact absurd (p0.2.symm.trans h2) (lexZ_bad hz0)
  | toks l =>
    cases hz1 : lexZ s1.data.toList with
    | bad a e => rw [hz1] at p1; exact absurd (p1.2.symm.trans h3) (lexZ_bad hz1)
    | toks m =>
      rw [hz0] at p0
      rw [hz1] at p1
      obtain ⟨p0, _⟩ := p0
      obtain ⟨p1, _⟩ := p1
      have hne : l ≠ [] := by rintro rfl; exact h4 p0
      obtain ⟨l0, u, rfl⟩ : ∃ l0 u, l = l0 ++ [u] := ⟨_, _, (List.dropLast_concat_getLast hne).symm⟩
      by_cases hu : u.kind = 4
      · exact lexLines_last s0 s1 n w hT (by omega) (by omega) l0 m u (m.length - 1) hz0 hz1 (by omega) hu
      · exact lexLines_in s0 s1 n w hT (by omega) (by omega) l0 m u (m.length - 1) hz0 hz1 (by omega) hu
end Go.Proofs.YtimdojeagkbgbaaDoor.Words

/- Several texts in one: RefSplitLine0, RefSplitLine4, RefSplitLine1, RefSplitHash. -/
import Derived.Test.YtcaibahniheohaaDoorBG11

/- The document's own Split: a case of a round. -/
namespace Go.Proofs.YtcaibahniheohaaDoor.Words
set_option maxRecDepth 1000000
open Go.RowKit Go.Shelf Go.Lib
set_option linter.unusedVariables false
set_option maxHeartbeats 4000000 in
theorem split_line0 (s : ByteArray) (l : List UInt8) (w wr : World) (A : Option Addr) (c k p f b : Nat) (L : List Pt) (Z : LexR) (out : List Tok) (v6 : Value) (c1 c13 c14 c15 c16 c17 : Value) (a : Act) (Q0 : Exit → Act → World → Prop) (hs : s.size ≤ 1000000) (hl : l = s.data.toList) (hT : TabsLB w.heap.size w) (hR : RoundG l L Z w wr A c v6 k p (f + 1) b out) (hk : k < L.length) (hL : L.length ≤ s.size) (hQ : QS s L Z w A c c1 c13 c14 c15 c16 c17 Q0) (hF : FrS s A c L c1 c13 c14 c15 c16 c17 v6 (.int .i64 (k : Int)) a) (hr : runeR (l.drop p) = 10) (hc : out.length = 0) :
  CaseG s l w wr A c L Z c1 c13 c14 c15 c16 c17 a Q0 := by
 unfold FrS at hF
 iterate 325 (obtain ⟨_, hF⟩ := hF)
 subst hF
 unfold CaseG
 obtain ⟨hA, hbeh, hlex, hlen, hrows⟩ := hR
 obtain ⟨g, hg, hp, hq, hA1⟩ := hA.step hk
 obtain rfl : f = g := by omega
 have HQ := Lib.hid hQ
 have HLEX := Lib.hid hlex
 have HROWS := Lib.hid hrows
 have HA1 := Lib.hid hA1
 have HBEH := Lib.hid hbeh
 have HLEN := Lib.hid hlen
 have HT := Lib.hid hT
 have HLL := Lib.hid hl
 have HPL : Hid (p < l.length) := hp
 obtain ⟨bp, off, hA2, hgl, _⟩ := (Row.of_own hrows.pts).at_ (by omega)
 obtain rfl : A = some ⟨bp, off, none⟩ := hA2
 obtain ⟨e0, e1, e2, e3⟩ := (Row.of_own hrows.pts).pt hq
 have kq : decide ((k : Int) < L.length) = true := decide_eq_true (by omega)
 have kq2 : decide (k < L.length) = true := decide_eq_true hk
 have k0 : (0 : Int) ≤ k := by omega
 have k1 : (k : Int) < L.length := by omega
 have k2 : (L.length : Int) ≤ 1000000 := by omega
 have hp20 : (p : Int) ≤ 1000000 := by have := data_len s; rw [← hl] at this; omega
 have HR := Lib.hid (runeR_range (l.drop p))
 have HW := Lib.hid (wideR_pos (l.drop p))
 have HWI := Lib.hid (wide_in hp)
 obtain ⟨A6, c6, rfl⟩ := (Row.of_own hrows.own).form
 have hot : (out.length : Int) ≤ 1000000 := by omega
 have hot2 : out.length ≤ 1000000 := by omega
 have h0 : out.length = 0 := hc
 have hnil : out = [] := List.eq_nil_of_length_eq_zero h0
 have HLX : Hid (lexF l f (p + wideR (l.drop p)) (S0 b false out) = Z) := by
  have := lex_on hlex hp hbeh (at_line false hr)
  unfold lineZ at this
  rw [show (S0 b false out).toks = out from rfl, hnil, lineB_nil, if_neg (by decide)] at this
  rw [hnil]; exact this
 subst hnil
 have hbad := good hr (by decide)
 unfold ptAt at e0 e1 e2 e3
 simp only at e0 e1 e2 e3
 obtain ⟨R, hRR⟩ : ∃ R, R = runeR (l.drop p) := ⟨_, rfl⟩
 obtain ⟨E, hEE⟩ : ∃ E, E = p + wideR (l.drop p) := ⟨_, rfl⟩
 have HRR := Lib.hid hRR
 have HEE := Lib.hid hEE
 rw [← hRR] at e0 HR
 rw [← hEE] at e2 HA1 HWI
 have HEP : Hid (p < E) := by have := HW.out; show _ < _; omega
 rw [hbad] at e3
 simp only [Bool.not_false] at e3
 rw [← hEE] at HLX
 rw [← hRR] at hr
 subst hr
 clear hRR hEE hbad
 have HN := HA1
 clear hA hbeh hlex hlen hrows hA1 hQ hT hl hg hq hp
 conv => arg 2; whnf
 go_wp2_with fail
 refine ⟨?_, ?_⟩
 ·refine WI.mk ?_
  exact ⟨k + 1, E, f, b, _, rfl, HN.out, by have := HBEH.out; have := HEP.out; omega, HLX.out, by have := HLEN.out; have := HEP.out; first | omega | (simp; omega), HROWS.out.go ((Below.refl _ _).alloc (Nat.le_refl _) _)⟩
 ·exact Wmu_lt (k := k) (m := k + 1) rfl rfl hk (by omega)
end Go.Proofs.YtcaibahniheohaaDoor.Words

/- The document's own Split: a case of a round. -/
namespace Go.Proofs.YtcaibahniheohaaDoor.Words
set_option maxRecDepth 1000000
open Go.RowKit Go.Shelf Go.Lib
set_option linter.unusedVariables false
set_option maxHeartbeats 4000000 in
theorem split_line4 (s : ByteArray) (l : List UInt8) (w wr : World) (A : Option Addr) (c k p f b : Nat) (L : List Pt) (Z : LexR) (out : List Tok) (v6 : Value) (c1 c13 c14 c15 c16 c17 : Value) (a : Act) (Q0 : Exit → Act → World → Prop) (hs : s.size ≤ 1000000) (hl : l = s.data.toList) (hT : TabsLB w.heap.size w) (hR : RoundG l L Z w wr A c v6 k p (f + 1) b out) (hk : k < L.length) (hL : L.length ≤ s.size) (hQ : QS s L Z w A c c1 c13 c14 c15 c16 c17 Q0) (hF : FrS s A c L c1 c13 c14 c15 c16 c17 v6 (.int .i64 (k : Int)) a) (hr : runeR (l.drop p) = 10) (hc : ∃ i, out[out.length - 1]? = some i ∧ i.kind = 4) :
  CaseG s l w wr A c L Z c1 c13 c14 c15 c16 c17 a Q0 := by
 unfold FrS at hF
 iterate 325 (obtain ⟨_, hF⟩ := hF)
 subst hF
 unfold CaseG
 obtain ⟨hA, hbeh, hlex, hlen, hrows⟩ := hR
 obtain ⟨g, hg, hp, hq, hA1⟩ := hA.step hk
 obtain rfl : f = g := by omega
 have HQ := Lib.hid hQ
 have HLEX := Lib.hid hlex
 have HROWS := Lib.hid hrows
 have HA1 := Lib.hid hA1
 have HBEH := Lib.hid hbeh
 have HLEN := Lib.hid hlen
 have HT := Lib.hid hT
 have HLL := Lib.hid hl
 have HPL : Hid (p < l.length) := hp
 obtain ⟨bp, off, hA2, hgl, _⟩ := (Row.of_own hrows.pts).at_ (by omega)
 obtain rfl : A = some ⟨bp, off, none⟩ := hA2
 obtain ⟨e0, e1, e2, e3⟩ := (Row.of_own hrows.pts).pt hq
 have kq : decide ((k : Int) < L.length) = true := decide_eq_true (by omega)
 have kq2 : decide (k < L.length) = true := decide_eq_true hk
 have k0 : (0 : Int) ≤ k := by omega
 have k1 : (k : Int) < L.length := by omega
 have k2 : (L.length : Int) ≤ 1000000 := by omega
 have hp20 : (p : Int) ≤ 1000000 := by have := data_len s; rw [← hl] at this; omega
 have HR := Lib.hid (runeR_range (l.drop p))
 have HW := Lib.hid (wideR_pos (l.drop p))
 have HWI := Lib.hid (wide_in hp)
 obtain ⟨A6, c6, rfl⟩ := (Row.of_own hrows.own).form
 have hot : (out.length : Int) ≤ 1000000 := by omega
 have hot2 : out.length ≤ 1000000 := by omega
 obtain ⟨i, hi, hik⟩ := hc
 have hn0 : out.length ≠ 0 := fun e => by rw [List.eq_nil_of_length_eq_zero e] at hi; simp at hi
 have hlb := lineB_last hi (fun e => by rw [e] at hn0; exact hn0 rfl)
 obtain ⟨g6, o6, hA6, hg6, _⟩ := (Row.of_own hrows.own).at_ hn0
 obtain rfl : A6 = some ⟨g6, o6, none⟩ := hA6
 obtain ⟨d0, _, _, _⟩ := (Row.of_own hrows.own).tok hi
 have hkk : (out.length : Int) - 1 = ((out.length - 1 : Nat) : Int) := by omega
 have g0 : decide (0 < (out.length : Int)) = true := decide_eq_true (by omega)
 have g0' : decide (0 < out.length) = true := decide_eq_true (by omega)
 have g1 : ((out.length - 1 : Nat) : Int) < out.length := by omega
 have g2 : (0 : Int) ≤ ((out.length - 1 : Nat) : Int) := by omega
 have g3 : out.length - 1 < out.length := by omega
 have g4 : (1 : Int) ≤ out.length := by omega
 have hq4 : (i.kind != 4) = false := by simpa using hik
 have HLX : Hid (lexF l f (p + wideR (l.drop p)) (S0 b false out) = Z) := by
  have := lex_on hlex hp hbeh (at_line false hr)
  unfold lineZ at this
  rw [show (S0 b false out).toks = out from rfl, hlb, decide_eq_false (by simpa using hik), if_neg (by decide)] at this
  exact this
 have hbad := good hr (by decide)
 unfold ptAt at e0 e1 e2 e3
 simp only at e0 e1 e2 e3
 obtain ⟨R, hRR⟩ : ∃ R, R = runeR (l.drop p) := ⟨_, rfl⟩
 obtain ⟨E, hEE⟩ : ∃ E, E = p + wideR (l.drop p) := ⟨_, rfl⟩
 have HRR := Lib.hid hRR
 have HEE := Lib.hid hEE
 rw [← hRR] at e0 HR
 rw [← hEE] at e2 HA1 HWI
 have HEP : Hid (p < E) := by have := HW.out; show _ < _; omega
 rw [hbad] at e3
 simp only [Bool.not_false] at e3
 rw [← hEE] at HLX
 rw [← hRR] at hr
 subst hr
 clear hRR hEE hbad
 have HN := HA1
 clear hi hlb hn0 hik
 clear hA hbeh hlex hlen hrows hA1 hQ hT hl hg hq hp
 conv => arg 2; whnf
 go_wp2_with fail
 refine ⟨?_, ?_⟩
 ·refine WI.mk ?_
  exact ⟨k + 1, E, f, b, _, rfl, HN.out, by have := HBEH.out; have := HEP.out; omega, HLX.out, by have := HLEN.out; have := HEP.out; first | omega | (simp; omega), HROWS.out.go ((Below.refl _ _).alloc (Nat.le_refl _) _)⟩
 ·exact Wmu_lt (k := k) (m := k + 1) rfl rfl hk (by omega)
end Go.Proofs.YtcaibahniheohaaDoor.Words

/- The document's own Split: a case of a round. -/
namespace Go.Proofs.YtcaibahniheohaaDoor.Words
set_option maxRecDepth 1000000
open Go.RowKit Go.Shelf Go.Lib
set_option linter.unusedVariables false
set_option maxHeartbeats 4000000 in
theorem split_line1 (s : ByteArray) (l : List UInt8) (w wr : World) (A : Option Addr) (c k p f b : Nat) (L : List Pt) (Z : LexR) (out : List Tok) (v6 : Value) (c1 c13 c14 c15 c16 c17 : Value) (a : Act) (Q0 : Exit → Act → World → Prop) (hs : s.size ≤ 1000000) (hl : l = s.data.toList) (hT : TabsLB w.heap.size w) (hR : RoundG l L Z w wr A c v6 k p (f + 1) b out) (hk : k < L.length) (hL : L.length ≤ s.size) (hQ : QS s L Z w A c c1 c13 c14 c15 c16 c17 Q0) (hF : FrS s A c L c1 c13 c14 c15 c16 c17 v6 (.int .i64 (k : Int)) a) (hr : runeR (l.drop p) = 10) (hc : ∃ i, out[out.length - 1]? = some i ∧ i.kind ≠ 4) :
  CaseG s l w wr A c L Z c1 c13 c14 c15 c16 c17 a Q0 := by
 unfold FrS at hF
 iterate 325 (obtain ⟨_, hF⟩ := hF)
 subst hF
 unfold CaseG
 obtain ⟨hA, hbeh, hlex, hlen, hrows⟩ := hR
 obtain ⟨g, hg, hp, hq, hA1⟩ := hA.step hk
 obtain rfl : f = g := by omega
 have HQ := Lib.hid hQ
 have HLEX := Lib.hid hlex
 have HROWS := Lib.hid hrows
 have HA1 := Lib.hid hA1
 have HBEH := Lib.hid hbeh
 have HLEN := Lib.hid hlen
 have HT := Lib.hid hT
 have HLL := Lib.hid hl
 have HPL : Hid (p < l.length) := hp
 obtain ⟨bp, off, hA2, hgl, _⟩ := (Row.of_own hrows.pts).at_ (by omega)
 obtain rfl : A = some ⟨bp, off, none⟩ := hA2
 obtain ⟨e0, e1, e2, e3⟩ := (Row.of_own hrows.pts).pt hq
 have kq : decide ((k : Int) < L.length) = true := decide_eq_true (by omega)
 have kq2 : decide (k < L.length) = true := decide_eq_true hk
 have k0 : (0 : Int) ≤ k := by omega
 have k1 : (k : Int) < L.length := by omega
 have k2 : (L.length : Int) ≤ 1000000 := by omega
 have hp20 : (p : Int) ≤ 1000000 := by have := data_len s; rw [← hl] at this; omega
 have HR := Lib.hid (runeR_range (l.drop p))
 have HW := Lib.hid (wideR_pos (l.drop p))
 have HWI := Lib.hid (wide_in hp)
 obtain ⟨A6, c6, rfl⟩ := (Row.of_own hrows.own).form
 have hot : (out.length : Int) ≤ 1000000 := by omega
 have hot2 : out.length ≤ 1000000 := by omega
 obtain ⟨i, hi, hik⟩ := hc
 have hn0 : out.length ≠ 0 := fun e => by rw [List.eq_nil_of_length_eq_zero e] at hi; simp at hi
 have hlb := lineB_last hi (fun e => by rw [e] at hn0; exact hn0 rfl)
 obtain ⟨g6, o6, hA6, hg6, _⟩ := (Row.of_own hrows.own).at_ hn0
 obtain rfl : A6 = some ⟨g6, o6, none⟩ := hA6
 obtain ⟨d0, _, _, _⟩ := (Row.of_own hrows.own).tok hi
 have hkk : (out.length : Int) - 1 = ((out.length - 1 : Nat) : Int) := by omega
 have g0 : decide (0 < (out.length : Int)) = true := decide_eq_true (by omega)
 have g0' : decide (0 < out.length) = true := decide_eq_true (by omega)
 have g1 : ((out.length - 1 : Nat) : Int) < out.length := by omega
 have g2 : (0 : Int) ≤ ((out.length - 1 : Nat) : Int) := by omega
 have g3 : out.length - 1 < out.length := by omega
 have g4 : (1 : Int) ≤ out.length := by omega
 have hq4 : (i.kind != 4) = true := by simpa using hik
 have HLX : Hid (lexF l f (p + wideR (l.drop p)) (S0 (p + 1) false (out ++ [⟨4, 0, p, [10]⟩])) = Z) := by
  have := lex_on hlex hp hbeh (at_line false hr)
  unfold lineZ at this
  rw [show (S0 b false out).toks = out from rfl, hlb, decide_eq_true hik, if_pos rfl] at this
  obtain ⟨t, ht, _, _⟩ := drop_cons (c := 10) hp (by omega) hr
  have e : (l.drop p).take 1 = [10] := by rw [ht]; rfl
  unfold addZ at this
  rw [e] at this
  exact this
 have HTOK : Hid ([.int .i64 4, .int .i64 0, .int .i64 (p : Int), .string ⟨#[10]⟩] = tokL ⟨4, 0, p, [10]⟩) := rfl
 have hbad := good hr (by decide)
 unfold ptAt at e0 e1 e2 e3
 simp only at e0 e1 e2 e3
 obtain ⟨R, hRR⟩ : ∃ R, R = runeR (l.drop p) := ⟨_, rfl⟩
 obtain ⟨E, hEE⟩ : ∃ E, E = p + wideR (l.drop p) := ⟨_, rfl⟩
 have HRR := Lib.hid hRR
 have HEE := Lib.hid hEE
 rw [← hRR] at e0 HR
 rw [← hEE] at e2 HA1 HWI
 have HEP : Hid (p < E) := by have := HW.out; show _ < _; omega
 rw [hbad] at e3
 simp only [Bool.not_false] at e3
 rw [← hEE] at HLX
 rw [← hRR] at hr
 subst hr
 clear hRR hEE hbad
 have HN := HA1
 clear hi hlb hn0 hik
 clear hA hbeh hlex hlen hrows hA1 hQ hT hl hg hq hp
 conv => arg 2; whnf
 have R1 := Lib.hid (HROWS.out.go ((Below.refl _ _).alloc (Nat.le_refl _) (.cells #[.int .i32 10, .int .i64 (p : Int), .int .i64 (E : Int), .bool true] 88)))
 obtain ⟨i0, hi0, hz0, hz1, hz2⟩ := info_parts info_tok
 have HI := Lib.hid hz2
 have HR4 : Hid (Row ((wr.alloc (.cells #[.int .i32 10, .int .i64 (p : Int), .int .i64 (E : Int), .bool true] 88)).alloc (.cells #[.int .i64 4, .int .i64 0, .int .i64 (p : Int), .string ⟨#[10]⟩] 48)) (wr.heap.size + 2) 4 (.slice (some ⟨wr.heap.size + 1, 0, none⟩) 1 1) 1 [.int .i64 4, .int .i64 0, .int .i64 (p : Int), .string ⟨#[10]⟩]) := by
  have h4 := row_one4 (wr.alloc (.cells #[.int .i32 10, .int .i64 (p : Int), .int .i64 (E : Int), .bool true] 88)) (.int .i64 4) (.int .i64 0) (.int .i64 (p : Int)) (.string ⟨#[10]⟩) 48
  have e4 : (wr.alloc (.cells #[.int .i32 10, .int .i64 (p : Int), .int .i64 (E : Int), .bool true] 88)).heap.size = wr.heap.size + 1 := by simp
  rw [e4] at h4
  exact h4
 clear hz2
 go_wp2_with (at_builtin; refine wpList_append_row _ rfl (.tmp 92) (.tmp 96) 41 rfl w.heap.size 48 i0 (.agg #[.int .i64 0, .int .i64 0, .int .i64 0, .string ⟨#[]⟩]) 4 40 Tryd.underlying41 hi0 hz0 hz1 HI.out rfl (by omega) _ out.length (toksL out) rfl (R1.out.own.alloc _) _ (.slice (some ⟨_, 0, none⟩) 1 1) 1 [.int .i64 4, .int .i64 0, .int .i64 (p : Int), .string ⟨#[10]⟩] rfl HR4.out (by simp [Value.oneCell']) (by unfold maxLen; omega) (by omega) (Nat.le_trans R1.out.bel.size (by simp)) ?_; intro v3 w3 hO3 hg3; have R3 := Lib.hid (R1.out.app hg3 HTOK.out hO3); clear hO3 hg3)
 refine ⟨?_, ?_⟩
 ·refine WI.mk ?_
  exact ⟨k + 1, E, f, p + 1, _, rfl, HN.out, by have := HBEH.out; have := HEP.out; omega, HLX.out, by have := HLEN.out; have := HEP.out; first | omega | (simp; omega), R3.out⟩
 ·exact Wmu_lt (k := k) (m := k + 1) rfl rfl hk (by omega)
end Go.Proofs.YtcaibahniheohaaDoor.Words

/- The document's own Split: a case of a round. -/
namespace Go.Proofs.YtcaibahniheohaaDoor.Words
set_option maxRecDepth 1000000
open Go.RowKit Go.Shelf Go.Lib
set_option linter.unusedVariables false
set_option maxHeartbeats 4000000 in
theorem split_hash (s : ByteArray) (l : List UInt8) (w wr : World) (A : Option Addr) (c k p f b : Nat) (L : List Pt) (Z : LexR) (out : List Tok) (v6 : Value) (c1 c13 c14 c15 c16 c17 : Value) (a : Act) (Q0 : Exit → Act → World → Prop) (hs : s.size ≤ 1000000) (hl : l = s.data.toList) (hT : TabsLB w.heap.size w) (hR : RoundG l L Z w wr A c v6 k p (f + 1) b out) (hk : k < L.length) (hL : L.length ≤ s.size) (hQ : QS s L Z w A c c1 c13 c14 c15 c16 c17 Q0) (hF : FrS s A c L c1 c13 c14 c15 c16 c17 v6 (.int .i64 (k : Int)) a) (hr : runeR (l.drop p) = 35) :
  CaseG s l w wr A c L Z c1 c13 c14 c15 c16 c17 a Q0 := by
 unfold FrS at hF
 iterate 325 (obtain ⟨_, hF⟩ := hF)
 subst hF
 unfold CaseG
 obtain ⟨hA, hbeh, hlex, hlen, hrows⟩ := hR
 obtain ⟨g, hg, hp, hq, hA1⟩ := hA.step hk
 obtain rfl : f = g := by omega
 have HQ := Lib.hid hQ
 have HLEX := Lib.hid hlex
 have HROWS := Lib.hid hrows
 have HA1 := Lib.hid hA1
 have HBEH := Lib.hid hbeh
 have HLEN := Lib.hid hlen
 have HT := Lib.hid hT
 have HLL := Lib.hid hl
 have HPL : Hid (p < l.length) := hp
 obtain ⟨bp, off, hA2, hgl, _⟩ := (Row.of_own hrows.pts).at_ (by omega)
 obtain rfl : A = some ⟨bp, off, none⟩ := hA2
 obtain ⟨e0, e1, e2, e3⟩ := (Row.of_own hrows.pts).pt hq
 have kq : decide ((k : Int) < L.length) = true := decide_eq_true (by omega)
 have kq2 : decide (k < L.length) = true := decide_eq_true hk
 have k0 : (0 : Int) ≤ k := by omega
 have k1 : (k : Int) < L.length := by omega
 have k2 : (L.length : Int) ≤ 1000000 := by omega
 have hp20 : (p : Int) ≤ 1000000 := by have := data_len s; rw [← hl] at this; omega
 have HR := Lib.hid (runeR_range (l.drop p))
 have HW := Lib.hid (wideR_pos (l.drop p))
 have HWI := Lib.hid (wide_in hp)
 have HLX0 : Hid (lexF l f (p + wideR (l.drop p)) (S0 b true out) = Z) := lex_on hlex hp hbeh (at_hash hr)
 have hbad := good hr (by decide)
 unfold ptAt at e0 e1 e2 e3
 simp only at e0 e1 e2 e3
 obtain ⟨R, hRR⟩ : ∃ R, R = runeR (l.drop p) := ⟨_, rfl⟩
 obtain ⟨E, hEE⟩ : ∃ E, E = p + wideR (l.drop p) := ⟨_, rfl⟩
 have HRR := Lib.hid hRR
 have HEE := Lib.hid hEE
 rw [← hRR] at e0 HR
 rw [← hEE] at e2 HA1 HWI
 have HEP : Hid (p < E) := by have := HW.out; show _ < _; omega
 rw [hbad] at e3
 simp only [Bool.not_false] at e3
 rw [← hEE] at HLX0
 rw [← hRR] at hr
 subst hr
 clear hRR hEE hbad
 have RW1 := Lib.hid (HROWS.out.go ((Below.refl _ _).alloc (Nat.le_refl _) (.cells #[.int .i32 35, .int .i64 (p : Int), .int .i64 (E : Int), .bool true] 88)))
 have hgl1 : bp < (wr.alloc (.cells #[.int .i32 35, .int .i64 (p : Int), .int .i64 (E : Int), .bool true] 88)).heap.size := by simp; omega
 clear hA hbeh hlex hlen hrows hA1 hQ hT hl hg hq hp
 conv => arg 2; whnf
 go_wp2_with fail
 generalize wr.alloc (.cells #[.int .i32 35, .int .i64 (p : Int), .int .i64 (E : Int), .bool true] 88) = W1 at *
 go_loopw [9] (fun q x => ∃ K pp ff : Nat, q = .int .i64 ((K : Int) + 1) ∧ k ≤ K ∧ p < pp ∧ At l L (K + 1) pp ff ∧ lexF l ff pp (S0 b true out) = Z ∧ x = W1) (fun q _ => L.length - (intOf q).toNat)
 case atStart => exact ⟨k, E, f, rfl, Nat.le_refl _, HEP.out, HA1.out, HLX0.out, rfl⟩
 case round =>
  obtain ⟨K, pp, ff, rfl, hkK, hpp, hA2, hlx, rfl⟩ := hrel
  have HPP := Lib.hid hpp
  have HRW := Lib.hid RW1.out
  by_cases hK : K + 1 < L.length
  ·obtain ⟨gg, rfl, hp2, hq2, hA3⟩ := hA2.step hK
   have kt : decide ((K : Int) + 1 < L.length) = true := decide_eq_true (by omega)
   have kt2 : decide (K + 1 < L.length) = true := decide_eq_true (by omega)
   have K0 : (0 : Int) ≤ (K : Int) + 1 := by omega
   have K1 : (K : Int) + 1 < L.length := by omega
   have K2 : ((K : Int) + 1).toNat = K + 1 := by omega
   obtain ⟨f0, _, _, f3⟩ := (Row.of_own RW1.out.pts).pt hq2
   unfold ptAt at f0 f3
   simp only at f0 f3
   have HWD2 := Lib.hid (wideR_pos (l.drop pp))
   cases hb2 : badR (l.drop pp)
   ·rw [hb2] at f3
    simp only [Bool.not_false] at f3
    by_cases hr2 : runeR (l.drop pp) = 10
    ·rw [hr2] at f0
     have HLX : Hid (lexF l _ pp (S0 b false out) = Z) := remark_end hlx (by have := HBEH.out; have := hpp; omega) hA2.fuel (.inr (.inr hr2))
     have HN := Lib.hid hA2
     clear hr2 hb2 hA2 hA3 hlx hq2 hp2
     go_wp2_with fail
     refine ⟨?_, ?_⟩
     ·refine WI.mk ?_
      exact ⟨K + 1, pp, _, b, out, rfl, HN.out, by have := HPP.out; have := HBEH.out; have := HEP.out; omega, HLX.out, by have := HPP.out; have := HLEN.out; have := HEP.out; first | omega | (simp; omega), HRW.out⟩
     ·exact Wmu_lt (k := k) (m := K + 1) rfl rfl hk (by omega)
    ·have HLX3 : Hid (lexF l gg (pp + wideR (l.drop pp)) (S0 b true out) = Z) := lex_on hlx hp2 (by have := HBEH.out; show b ≤ pp; omega) (at_remark hb2 rfl hr2)
     have HA3 := Lib.hid hA3
     have r10 : (runeR (l.drop pp) != 10) = true := by simpa using hr2
     generalize runeR (l.drop pp) = R2 at *
     clear hr2 hb2 hA2 hA3 hlx hq2 hp2
     go_wp2_with fail
     go_roundw
     case rel => exact ⟨K + 1, _, gg, rfl, by omega, by have := HWD2.out; omega, HA3.out, HLX3.out, by first | rfl | trivial⟩
     case measure => simp [intOf]; omega
   ·rw [hb2] at f3
    simp only [Bool.not_true] at f3
    have HLX : Hid (lexF l _ pp (S0 b false out) = Z) := remark_end hlx (by have := HBEH.out; have := hpp; omega) hA2.fuel (.inr (.inl hb2))
    have HN := Lib.hid hA2
    clear hb2 hA2 hA3 hlx hq2 hp2
    go_wp2_with fail
    refine ⟨?_, ?_⟩
    ·refine WI.mk ?_
     exact ⟨K + 1, pp, _, b, out, rfl, HN.out, by have := HPP.out; have := HBEH.out; have := HEP.out; omega, HLX.out, by have := HPP.out; have := HLEN.out; have := HEP.out; first | omega | (simp; omega), HRW.out⟩
    ·exact Wmu_lt (k := k) (m := K + 1) rfl rfl hk (by omega)
  ·have hst := hA2.stop hK
   have kt : decide ((K : Int) + 1 < L.length) = false := decide_eq_false (by omega)
   have kt2 : decide (K + 1 < L.length) = false := decide_eq_false (by omega)
   have HLX : Hid (lexF l _ pp (S0 b false out) = Z) := remark_end hlx (by have := HBEH.out; have := hpp; omega) hA2.fuel (.inl hst)
   have HN := Lib.hid hA2
   clear hst hA2 hlx
   go_wp2_with fail
   refine ⟨?_, ?_⟩
   ·refine WI.mk ?_
    exact ⟨K + 1, pp, _, b, out, rfl, HN.out, by have := HPP.out; have := HBEH.out; have := HEP.out; omega, HLX.out, by have := HPP.out; have := HLEN.out; have := HEP.out; first | omega | (simp; omega), HRW.out⟩
   ·exact Wmu_lt (k := k) (m := K + 1) rfl rfl hk (by omega)
end Go.Proofs.YtcaibahniheohaaDoor.Words

/- Several texts in one: RefSplitNoneA, RefSplitNoneB, RefSplitNoneC. -/
import Derived.Test.YtcaibahniheohaaDoorBG11

/- The document's own Split: a case of a round. -/
namespace Go.Proofs.YtcaibahniheohaaDoor.Words
set_option maxRecDepth 1000000
open Go.RowKit Go.Shelf Go.Lib
set_option linter.unusedVariables false
set_option maxHeartbeats 4000000 in
theorem split_nonea (s : ByteArray) (l : List UInt8) (w wr : World) (A : Option Addr) (c k p f b : Nat) (L : List Pt) (Z : LexR) (out : List Tok) (v6 : Value) (c1 c13 c14 c15 c16 c17 : Value) (a : Act) (Q0 : Exit → Act → World → Prop) (hs : s.size ≤ 1000000) (hl : l = s.data.toList) (hT : TabsLB w.heap.size w) (hR : RoundG l L Z w wr A c v6 k p (f + 1) b out) (hk : k < L.length) (hL : L.length ≤ s.size) (hQ : QS s L Z w A c c1 c13 c14 c15 c16 c17 Q0) (hF : FrS s A c L c1 c13 c14 c15 c16 c17 v6 (.int .i64 (k : Int)) a) (hbad : badR (l.drop p) = false) (h10 : runeR (l.drop p) ≠ 10) (h35 : runeR (l.drop p) ≠ 35) (hbl : blankR (runeR (l.drop p)) = false) (hf : firstR (runeR (l.drop p)) = false) (hsg : signR (runeR (l.drop p)) = false) (hd : ¬ digR (runeR (l.drop p)) < 10) (hn : runeR (l.drop p) ≠ 45) :
  CaseG s l w wr A c L Z c1 c13 c14 c15 c16 c17 a Q0 := by
 unfold FrS at hF
 iterate 325 (obtain ⟨_, hF⟩ := hF)
 subst hF
 unfold CaseG
 obtain ⟨hA, hbeh, hlex, hlen, hrows⟩ := hR
 obtain ⟨g, hg, hp, hq, hA1⟩ := hA.step hk
 obtain rfl : f = g := by omega
 have HQ := Lib.hid hQ
 have HLEX := Lib.hid hlex
 have HROWS := Lib.hid hrows
 have HA1 := Lib.hid hA1
 have HBEH := Lib.hid hbeh
 have HLEN := Lib.hid hlen
 have HT := Lib.hid hT
 have HLL := Lib.hid hl
 have HPL : Hid (p < l.length) := hp
 obtain ⟨bp, off, hA2, hgl, _⟩ := (Row.of_own hrows.pts).at_ (by omega)
 obtain rfl : A = some ⟨bp, off, none⟩ := hA2
 obtain ⟨e0, e1, e2, e3⟩ := (Row.of_own hrows.pts).pt hq
 have kq : decide ((k : Int) < L.length) = true := decide_eq_true (by omega)
 have kq2 : decide (k < L.length) = true := decide_eq_true hk
 have k0 : (0 : Int) ≤ k := by omega
 have k1 : (k : Int) < L.length := by omega
 have k2 : (L.length : Int) ≤ 1000000 := by omega
 have hp20 : (p : Int) ≤ 1000000 := by have := data_len s; rw [← hl] at this; omega
 have HR := Lib.hid (runeR_range (l.drop p))
 have HW := Lib.hid (wideR_pos (l.drop p))
 have HWI := Lib.hid (wide_in hp)
 have hw1 : runeR (l.drop p) = 45 → wideR (l.drop p) = 1 := fun h => by
  obtain ⟨t, _, _, h3⟩ := drop_cons (c := 45) hp (by omega) h
  exact h3
 have hx : ¬ hexAt l p := fun h => by have := h.1; rw [this] at hd; exact hd (by decide)
 have hnz := num_none hx hp hd (fun h => hn h.1)
 have hz : Hid (Z = .bad p 5) := lex_err hlex hp hbeh (by rw [at_other rfl hbad h10 h35 hbl hf hsg]; unfold numberZ; rw [if_pos hnz]) (by decide)
 have HLS : Hid (l.length = s.size) := by rw [hl]; exact data_len s
 unfold ptAt at e0 e1 e2 e3
 simp only at e0 e1 e2 e3
 obtain ⟨R, hRR⟩ : ∃ R, R = runeR (l.drop p) := ⟨_, rfl⟩
 obtain ⟨E, hEE⟩ : ∃ E, E = p + wideR (l.drop p) := ⟨_, rfl⟩
 have HRR := Lib.hid hRR
 have HEE := Lib.hid hEE
 rw [← hRR] at e0 HR
 rw [← hEE] at e2 HA1 HWI
 have HEP : Hid (p < E) := by have := HW.out; show _ < _; omega
 rw [hbad] at e3
 simp only [Bool.not_false] at e3
 rw [← hRR] at h10 h35 hbl hf hsg hd hn
 have hb0 : R ≠ 32 ∧ R ≠ 9 ∧ R ≠ 13 := by have := of_decide_eq_false (show decide (R = 32 ∨ R = 9 ∨ R = 13) = false from hbl); omega
 obtain ⟨b1, b2, b3⟩ := hb0
 have hs0 := of_decide_eq_false (show decide (R = 44 ∨ R = 58 ∨ R = 40 ∨ R = 41) = false from hsg)
 have h48 : R ≠ 48 := fun e => by rw [e] at hd; exact hd (by decide)
 have n1 : (R == 32) = false := beq_eq_false_iff_ne.2 (by omega)
 have n2 : (R == 9) = false := beq_eq_false_iff_ne.2 (by omega)
 have n3 : (R == 13) = false := beq_eq_false_iff_ne.2 (by omega)
 have n4 : (R == 35) = false := beq_eq_false_iff_ne.2 (by omega)
 have n5 : (R == 10) = false := beq_eq_false_iff_ne.2 (by omega)
 have m1 : (R == 48) = false := beq_eq_false_iff_ne.2 h48
 have m2 : (R == 45) = false := beq_eq_false_iff_ne.2 hn
 have m3 : (R == 44) = false := beq_eq_false_iff_ne.2 (by omega)
 have m4 : (R == 58) = false := beq_eq_false_iff_ne.2 (by omega)
 have m5 : (R == 40) = false := beq_eq_false_iff_ne.2 (by omega)
 have m6 : (R == 41) = false := beq_eq_false_iff_ne.2 (by omega)
 have hfR : firstR (R : Int) = false := hf
 have cD : Hid (∀ y, Calls Tryd.prog 36 #[.int .i32 R] y fun e w' => e = .returned (.bool false) ∧ y = w') := fun y => by
  have := refDigit_any R y (by have := HR.out; omega)
  rwa [decide_eq_false hd] at this
 clear h48 hs0 b1 b2 b3 h10 h35 hbl hf hsg hd hn hw1 hx hnz hRR hEE hbad
 have RW1 := Lib.hid (HROWS.out.go ((Below.refl _ _).alloc (Nat.le_refl _) (.cells #[.int .i32 R, .int .i64 (p : Int), .int .i64 (E : Int), .bool true] 88)))
 obtain ⟨j0, j1, j2, j3⟩ := cell_new wr (.int .i32 R) (.int .i64 (p : Int)) (.int .i64 (E : Int)) (.bool true) 88
 have JC := Lib.hid (And.intro j0 (And.intro j1 (And.intro j2 j3)))
 have hz1 : wr.heap.size < (wr.alloc (.cells #[.int .i32 R, .int .i64 (p : Int), .int .i64 (E : Int), .bool true] 88)).heap.size := by simp
 have HPB0 : Hid (some wr.heap.size ≠ v6.ownBlock) := own_new HROWS.out.own (Nat.le_refl _)
 have HQB0 : Hid (some bp ≠ v6.ownBlock) := apartS HROWS.out.pts HROWS.out.own (by decide) rfl
 have cL : Hid (∀ y, TabsL y → Calls Tryd.prog 35 #[.int .i32 R] y fun e w' => e = .returned (.bool false) ∧ Below y.heap.size y w') := fun y hy => by
  have := refLetter_any (R : Int) y (by have := HR.out; omega) hy
  rwa [hfR] at this
 clear j0 j1 j2 j3 hfR
 clear hA hbeh hlex hlen hrows hA1 hQ hT hl hg hq hp
 conv => arg 2; whnf
 go_wp2_with fail
 generalize hW1 : (wr.alloc (.cells #[.int .i32 R, .int .i64 (p : Int), .int .i64 (E : Int), .bool true] 88)) = W1 at *
 refine (cL.out _ (HT.out _ RW1.out.bel)).mono ?_
 rintro e w2 ⟨rfl, hb2⟩
 obtain ⟨j0, j1, j2, j3⟩ := JC.out
 have RW2 := Lib.hid (RW1.out.go hb2)
 have J0 : w2.cell? ⟨wr.heap.size, 0, none⟩ = some (.int .i32 R) := below_cell hb2 hz1 j0
 have J1 : w2.cell? ⟨wr.heap.size, 1, none⟩ = some (.int .i64 (p : Int)) := below_cell hb2 hz1 j1
 have J2 : w2.cell? ⟨wr.heap.size, 2, none⟩ = some (.int .i64 (E : Int)) := below_cell hb2 hz1 j2
 have J3 : w2.cell? ⟨wr.heap.size, 3, none⟩ = some (.bool true) := below_cell hb2 hz1 j3
 have hz2 : wr.heap.size < w2.heap.size := Nat.lt_of_lt_of_le hz1 hb2.size
 have hgl2 : bp < w2.heap.size := by omega
 clear hb2 hW1 RW1 JC j0 j1 j2 j3 hz1 hgl e0 e1 e2 e3
 generalize wr.heap.size = pb at *
 go_wp2_with fail
 refine (cD.out _).mono ?_
 rintro e w3 ⟨rfl, rfl⟩
 go_wp2_with fail
 go_quiet (fail)
 go_wp2_with fail
 refine HQ.out.ret _ _ _ _ ?_ ?_ ?_ ?_ hz.out ?_
 rotate_left 4
 ·exact Below.drewN_ RW2.out.bel _
 all_goals rfl
end Go.Proofs.YtcaibahniheohaaDoor.Words

/- The document's own Split: a case of a round. -/
namespace Go.Proofs.YtcaibahniheohaaDoor.Words
set_option maxRecDepth 1000000
open Go.RowKit Go.Shelf Go.Lib
set_option linter.unusedVariables false
set_option maxHeartbeats 4000000 in
theorem split_noneb (s : ByteArray) (l : List UInt8) (w wr : World) (A : Option Addr) (c k p f b : Nat) (L : List Pt) (Z : LexR) (out : List Tok) (v6 : Value) (c1 c13 c14 c15 c16 c17 : Value) (a : Act) (Q0 : Exit → Act → World → Prop) (hs : s.size ≤ 1000000) (hl : l = s.data.toList) (hT : TabsLB w.heap.size w) (hR : RoundG l L Z w wr A c v6 k p (f + 1) b out) (hk : k < L.length) (hL : L.length ≤ s.size) (hQ : QS s L Z w A c c1 c13 c14 c15 c16 c17 Q0) (hF : FrS s A c L c1 c13 c14 c15 c16 c17 v6 (.int .i64 (k : Int)) a) (hbad : badR (l.drop p) = false) (h10 : runeR (l.drop p) ≠ 10) (h35 : runeR (l.drop p) ≠ 35) (hbl : blankR (runeR (l.drop p)) = false) (hf : firstR (runeR (l.drop p)) = false) (hsg : signR (runeR (l.drop p)) = false) (hd : ¬ digR (runeR (l.drop p)) < 10) (hn : runeR (l.drop p) = 45) (hn2 : ¬ k + 1 < L.length) :
  CaseG s l w wr A c L Z c1 c13 c14 c15 c16 c17 a Q0 := by
 unfold FrS at hF
 iterate 325 (obtain ⟨_, hF⟩ := hF)
 subst hF
 unfold CaseG
 obtain ⟨hA, hbeh, hlex, hlen, hrows⟩ := hR
 obtain ⟨g, hg, hp, hq, hA1⟩ := hA.step hk
 obtain rfl : f = g := by omega
 have HQ := Lib.hid hQ
 have HLEX := Lib.hid hlex
 have HROWS := Lib.hid hrows
 have HA1 := Lib.hid hA1
 have HBEH := Lib.hid hbeh
 have HLEN := Lib.hid hlen
 have HT := Lib.hid hT
 have HLL := Lib.hid hl
 have HPL : Hid (p < l.length) := hp
 obtain ⟨bp, off, hA2, hgl, _⟩ := (Row.of_own hrows.pts).at_ (by omega)
 obtain rfl : A = some ⟨bp, off, none⟩ := hA2
 obtain ⟨e0, e1, e2, e3⟩ := (Row.of_own hrows.pts).pt hq
 have kq : decide ((k : Int) < L.length) = true := decide_eq_true (by omega)
 have kq2 : decide (k < L.length) = true := decide_eq_true hk
 have k0 : (0 : Int) ≤ k := by omega
 have k1 : (k : Int) < L.length := by omega
 have k2 : (L.length : Int) ≤ 1000000 := by omega
 have hp20 : (p : Int) ≤ 1000000 := by have := data_len s; rw [← hl] at this; omega
 have HR := Lib.hid (runeR_range (l.drop p))
 have HW := Lib.hid (wideR_pos (l.drop p))
 have HWI := Lib.hid (wide_in hp)
 have hw1 : runeR (l.drop p) = 45 → wideR (l.drop p) = 1 := fun h => by
  obtain ⟨t, _, _, h3⟩ := drop_cons (c := 45) hp (by omega) h
  exact h3
 have hA1w := hA1
 rw [hw1 hn] at hA1w
 have hx : ¬ hexAt l p := fun h => by have := h.1; rw [this] at hd; exact hd (by decide)
 have hnz := num_none hx hp hd (fun h => hn2 (hA1w.lt.2 h.2.1))
 have hz : Hid (Z = .bad p 5) := lex_err hlex hp hbeh (by rw [at_other rfl hbad h10 h35 hbl hf hsg]; unfold numberZ; rw [if_pos hnz]) (by decide)
 have HLS : Hid (l.length = s.size) := by rw [hl]; exact data_len s
 unfold ptAt at e0 e1 e2 e3
 simp only at e0 e1 e2 e3
 obtain ⟨R, hRR⟩ : ∃ R, R = runeR (l.drop p) := ⟨_, rfl⟩
 obtain ⟨E, hEE⟩ : ∃ E, E = p + wideR (l.drop p) := ⟨_, rfl⟩
 have HRR := Lib.hid hRR
 have HEE := Lib.hid hEE
 rw [← hRR] at e0 HR
 rw [← hEE] at e2 HA1 HWI
 have HEP : Hid (p < E) := by have := HW.out; show _ < _; omega
 rw [hbad] at e3
 simp only [Bool.not_false] at e3
 rw [← hRR] at h10 h35 hbl hf hsg hd hn
 subst hn
 have hfR : firstR (45 : Int) = false := by decide +kernel
 have cD : Hid (∀ y, Calls Tryd.prog 36 #[.int .i32 45] y fun e w' => e = .returned (.bool false) ∧ y = w') := fun y => by
  have := refDigit_any (45 : Int) y (by omega)
  rwa [show decide (digR 45 < 10) = false from by decide] at this
 have t1 : decide ((k : Int) + 1 < L.length) = false := decide_eq_false (by omega)
 have t2 : decide (k + 1 < L.length) = false := decide_eq_false hn2
 clear hn2 hA1w
 clear h10 h35 hbl hf hsg hd hw1 hx hnz hRR hEE hbad
 have RW1 := Lib.hid (HROWS.out.go ((Below.refl _ _).alloc (Nat.le_refl _) (.cells #[.int .i32 45, .int .i64 (p : Int), .int .i64 (E : Int), .bool true] 88)))
 obtain ⟨j0, j1, j2, j3⟩ := cell_new wr (.int .i32 45) (.int .i64 (p : Int)) (.int .i64 (E : Int)) (.bool true) 88
 have JC := Lib.hid (And.intro j0 (And.intro j1 (And.intro j2 j3)))
 have hz1 : wr.heap.size < (wr.alloc (.cells #[.int .i32 45, .int .i64 (p : Int), .int .i64 (E : Int), .bool true] 88)).heap.size := by simp
 have HPB0 : Hid (some wr.heap.size ≠ v6.ownBlock) := own_new HROWS.out.own (Nat.le_refl _)
 have HQB0 : Hid (some bp ≠ v6.ownBlock) := apartS HROWS.out.pts HROWS.out.own (by decide) rfl
 have cL : Hid (∀ y, TabsL y → Calls Tryd.prog 35 #[.int .i32 45] y fun e w' => e = .returned (.bool false) ∧ Below y.heap.size y w') := fun y hy => by
  have := refLetter_any (45 : Int) y (by have := HR.out; omega) hy
  rwa [hfR] at this
 clear j0 j1 j2 j3 hfR
 clear hA hbeh hlex hlen hrows hA1 hQ hT hl hg hq hp
 conv => arg 2; whnf
 go_wp2_with fail
 generalize hW1 : (wr.alloc (.cells #[.int .i32 45, .int .i64 (p : Int), .int .i64 (E : Int), .bool true] 88)) = W1 at *
 refine (cL.out _ (HT.out _ RW1.out.bel)).mono ?_
 rintro e w2 ⟨rfl, hb2⟩
 obtain ⟨j0, j1, j2, j3⟩ := JC.out
 have RW2 := Lib.hid (RW1.out.go hb2)
 have J0 : w2.cell? ⟨wr.heap.size, 0, none⟩ = some (.int .i32 45) := below_cell hb2 hz1 j0
 have J1 : w2.cell? ⟨wr.heap.size, 1, none⟩ = some (.int .i64 (p : Int)) := below_cell hb2 hz1 j1
 have J2 : w2.cell? ⟨wr.heap.size, 2, none⟩ = some (.int .i64 (E : Int)) := below_cell hb2 hz1 j2
 have J3 : w2.cell? ⟨wr.heap.size, 3, none⟩ = some (.bool true) := below_cell hb2 hz1 j3
 have hz2 : wr.heap.size < w2.heap.size := Nat.lt_of_lt_of_le hz1 hb2.size
 have hgl2 : bp < w2.heap.size := by omega
 clear hb2 hW1 RW1 JC j0 j1 j2 j3 hz1 hgl e0 e1 e2 e3
 generalize wr.heap.size = pb at *
 go_wp2_with fail
 refine (cD.out _).mono ?_
 rintro e w3 ⟨rfl, rfl⟩
 go_wp2_with fail
 go_quiet (fail)
 go_wp2_with fail
 refine HQ.out.ret _ _ _ _ ?_ ?_ ?_ ?_ hz.out ?_
 rotate_left 4
 ·exact Below.drewN_ RW2.out.bel _
 all_goals rfl
end Go.Proofs.YtcaibahniheohaaDoor.Words

/- The document's own Split: a case of a round. -/
namespace Go.Proofs.YtcaibahniheohaaDoor.Words
set_option maxRecDepth 1000000
open Go.RowKit Go.Shelf Go.Lib
set_option linter.unusedVariables false
set_option maxHeartbeats 4000000 in
theorem split_nonec (s : ByteArray) (l : List UInt8) (w wr : World) (A : Option Addr) (c k p f b : Nat) (L : List Pt) (Z : LexR) (out : List Tok) (v6 : Value) (c1 c13 c14 c15 c16 c17 : Value) (a : Act) (Q0 : Exit → Act → World → Prop) (hs : s.size ≤ 1000000) (hl : l = s.data.toList) (hT : TabsLB w.heap.size w) (hR : RoundG l L Z w wr A c v6 k p (f + 1) b out) (hk : k < L.length) (hL : L.length ≤ s.size) (hQ : QS s L Z w A c c1 c13 c14 c15 c16 c17 Q0) (hF : FrS s A c L c1 c13 c14 c15 c16 c17 v6 (.int .i64 (k : Int)) a) (hbad : badR (l.drop p) = false) (h10 : runeR (l.drop p) ≠ 10) (h35 : runeR (l.drop p) ≠ 35) (hbl : blankR (runeR (l.drop p)) = false) (hf : firstR (runeR (l.drop p)) = false) (hsg : signR (runeR (l.drop p)) = false) (hd : ¬ digR (runeR (l.drop p)) < 10) (hn : runeR (l.drop p) = 45) (hn2 : k + 1 < L.length) (hn3 : ¬ digR (runeR (l.drop (p + 1))) < 10) :
  CaseG s l w wr A c L Z c1 c13 c14 c15 c16 c17 a Q0 := by
 unfold FrS at hF
 iterate 325 (obtain ⟨_, hF⟩ := hF)
 subst hF
 unfold CaseG
 obtain ⟨hA, hbeh, hlex, hlen, hrows⟩ := hR
 obtain ⟨g, hg, hp, hq, hA1⟩ := hA.step hk
 obtain rfl : f = g := by omega
 have HQ := Lib.hid hQ
 have HLEX := Lib.hid hlex
 have HROWS := Lib.hid hrows
 have HA1 := Lib.hid hA1
 have HBEH := Lib.hid hbeh
 have HLEN := Lib.hid hlen
 have HT := Lib.hid hT
 have HLL := Lib.hid hl
 have HPL : Hid (p < l.length) := hp
 obtain ⟨bp, off, hA2, hgl, _⟩ := (Row.of_own hrows.pts).at_ (by omega)
 obtain rfl : A = some ⟨bp, off, none⟩ := hA2
 obtain ⟨e0, e1, e2, e3⟩ := (Row.of_own hrows.pts).pt hq
 have kq : decide ((k : Int) < L.length) = true := decide_eq_true (by omega)
 have kq2 : decide (k < L.length) = true := decide_eq_true hk
 have k0 : (0 : Int) ≤ k := by omega
 have k1 : (k : Int) < L.length := by omega
 have k2 : (L.length : Int) ≤ 1000000 := by omega
 have hp20 : (p : Int) ≤ 1000000 := by have := data_len s; rw [← hl] at this; omega
 have HR := Lib.hid (runeR_range (l.drop p))
 have HW := Lib.hid (wideR_pos (l.drop p))
 have HWI := Lib.hid (wide_in hp)
 have hw1 : runeR (l.drop p) = 45 → wideR (l.drop p) = 1 := fun h => by
  obtain ⟨t, _, _, h3⟩ := drop_cons (c := 45) hp (by omega) h
  exact h3
 have hA1w := hA1
 rw [hw1 hn] at hA1w
 have hx : ¬ hexAt l p := fun h => by have := h.1; rw [this] at hd; exact hd (by decide)
 have hnz := num_none hx hp hd (fun h => hn3 h.2.2)
 have hz : Hid (Z = .bad p 5) := lex_err hlex hp hbeh (by rw [at_other rfl hbad h10 h35 hbl hf hsg]; unfold numberZ; rw [if_pos hnz]) (by decide)
 have HLS : Hid (l.length = s.size) := by rw [hl]; exact data_len s
 obtain ⟨g2, _, hp2, hq2, _⟩ := hA1w.step hn2
 obtain ⟨f0, _, _, _⟩ := (Row.of_own hrows.pts).pt hq2
 unfold ptAt at f0
 simp only at f0
 obtain ⟨R2, hr2⟩ : ∃ R2, R2 = runeR (l.drop (p + 1)) := ⟨_, rfl⟩
 have hR2 := runeR_range (l.drop (p + 1))
 rw [← hr2] at hn3 hR2
 have HQ2 := Lib.hid hq2
 have HR2 := Lib.hid hr2
 clear f0 hr2 hq2
 unfold ptAt at e0 e1 e2 e3
 simp only at e0 e1 e2 e3
 obtain ⟨R, hRR⟩ : ∃ R, R = runeR (l.drop p) := ⟨_, rfl⟩
 obtain ⟨E, hEE⟩ : ∃ E, E = p + wideR (l.drop p) := ⟨_, rfl⟩
 have HRR := Lib.hid hRR
 have HEE := Lib.hid hEE
 rw [← hRR] at e0 HR
 rw [← hEE] at e2 HA1 HWI
 have HEP : Hid (p < E) := by have := HW.out; show _ < _; omega
 rw [hbad] at e3
 simp only [Bool.not_false] at e3
 rw [← hRR] at h10 h35 hbl hf hsg hd hn
 subst hn
 have hfR : firstR (45 : Int) = false := by decide +kernel
 have cD : Hid (∀ y, Calls Tryd.prog 36 #[.int .i32 45] y fun e w' => e = .returned (.bool false) ∧ y = w') := fun y => by
  have := refDigit_any (45 : Int) y (by omega)
  rwa [show decide (digR 45 < 10) = false from by decide] at this
 have t1 : decide ((k : Int) + 1 < L.length) = true := decide_eq_true (by omega)
 have t2 : decide (k + 1 < L.length) = true := decide_eq_true hn2
 have t3 : (k : Int) + 1 < L.length := by omega
 have t4 : (0 : Int) ≤ (k : Int) + 1 := by omega
 have t5 : ((k : Int) + 1).toNat = k + 1 := by omega
 have cD2 : Hid (∀ y, Calls Tryd.prog 36 #[.int .i32 R2] y fun e w' => e = .returned (.bool false) ∧ y = w') := fun y => by
  have := refDigit_any R2 y (by omega)
  rwa [decide_eq_false hn3] at this
 clear hA1w hn3
 clear h10 h35 hbl hf hsg hd hw1 hx hnz hRR hEE hbad
 have RW1 := Lib.hid (HROWS.out.go ((Below.refl _ _).alloc (Nat.le_refl _) (.cells #[.int .i32 45, .int .i64 (p : Int), .int .i64 (E : Int), .bool true] 88)))
 obtain ⟨j0, j1, j2, j3⟩ := cell_new wr (.int .i32 45) (.int .i64 (p : Int)) (.int .i64 (E : Int)) (.bool true) 88
 have JC := Lib.hid (And.intro j0 (And.intro j1 (And.intro j2 j3)))
 have hz1 : wr.heap.size < (wr.alloc (.cells #[.int .i32 45, .int .i64 (p : Int), .int .i64 (E : Int), .bool true] 88)).heap.size := by simp
 have HPB0 : Hid (some wr.heap.size ≠ v6.ownBlock) := own_new HROWS.out.own (Nat.le_refl _)
 have HQB0 : Hid (some bp ≠ v6.ownBlock) := apartS HROWS.out.pts HROWS.out.own (by decide) rfl
 have cL : Hid (∀ y, TabsL y → Calls Tryd.prog 35 #[.int .i32 45] y fun e w' => e = .returned (.bool false) ∧ Below y.heap.size y w') := fun y hy => by
  have := refLetter_any (45 : Int) y (by have := HR.out; omega) hy
  rwa [hfR] at this
 clear j0 j1 j2 j3 hfR
 clear hA hbeh hlex hlen hrows hA1 hQ hT hl hg hq hp
 conv => arg 2; whnf
 go_wp2_with fail
 generalize hW1 : (wr.alloc (.cells #[.int .i32 45, .int .i64 (p : Int), .int .i64 (E : Int), .bool true] 88)) = W1 at *
 refine (cL.out _ (HT.out _ RW1.out.bel)).mono ?_
 rintro e w2 ⟨rfl, hb2⟩
 obtain ⟨j0, j1, j2, j3⟩ := JC.out
 have RW2 := Lib.hid (RW1.out.go hb2)
 have J0 : w2.cell? ⟨wr.heap.size, 0, none⟩ = some (.int .i32 45) := below_cell hb2 hz1 j0
 have J1 : w2.cell? ⟨wr.heap.size, 1, none⟩ = some (.int .i64 (p : Int)) := below_cell hb2 hz1 j1
 have J2 : w2.cell? ⟨wr.heap.size, 2, none⟩ = some (.int .i64 (E : Int)) := below_cell hb2 hz1 j2
 have J3 : w2.cell? ⟨wr.heap.size, 3, none⟩ = some (.bool true) := below_cell hb2 hz1 j3
 have hz2 : wr.heap.size < w2.heap.size := Nat.lt_of_lt_of_le hz1 hb2.size
 have hgl2 : bp < w2.heap.size := by omega
 clear hb2 hW1 RW1 JC j0 j1 j2 j3 hz1 hgl e0 e1 e2 e3
 generalize wr.heap.size = pb at *
 have F0 : w2.cell? ⟨bp, off + (k + 1) * 4, none⟩ = some (.int .i32 R2) := by
  have h4 := ((Row.of_own RW2.out.pts).pt HQ2.out).1
  unfold ptAt at h4
  rw [HR2.out]
  exact h4
 go_wp2_with fail
 refine (cD.out _).mono ?_
 rintro e w3 ⟨rfl, rfl⟩
 go_wp2_with fail
 refine (cD2.out _).mono ?_
 rintro e w4 ⟨rfl, rfl⟩
 go_wp2_with fail
 go_quiet (fail)
 go_wp2_with fail
 refine HQ.out.ret _ _ _ _ ?_ ?_ ?_ ?_ hz.out ?_
 rotate_left 4
 ·exact Below.drewN_ RW2.out.bel _
 all_goals rfl
end Go.Proofs.YtcaibahniheohaaDoor.Words

/- Several texts in one: RefSplitSign44, RefSplitSign58, RefSplitSign40, RefSplitSign41. -/
import Derived.Test.YtcaibahniheohaaDoorBG11

/- The document's own Split: a case of a round. -/
namespace Go.Proofs.YtcaibahniheohaaDoor.Words
set_option maxRecDepth 1000000
open Go.RowKit Go.Shelf Go.Lib
set_option linter.unusedVariables false
set_option maxHeartbeats 4000000 in
theorem split_sign44 (s : ByteArray) (l : List UInt8) (w wr : World) (A : Option Addr) (c k p f b : Nat) (L : List Pt) (Z : LexR) (out : List Tok) (v6 : Value) (c1 c13 c14 c15 c16 c17 : Value) (a : Act) (Q0 : Exit → Act → World → Prop) (hs : s.size ≤ 1000000) (hl : l = s.data.toList) (hT : TabsLB w.heap.size w) (hR : RoundG l L Z w wr A c v6 k p (f + 1) b out) (hk : k < L.length) (hL : L.length ≤ s.size) (hQ : QS s L Z w A c c1 c13 c14 c15 c16 c17 Q0) (hF : FrS s A c L c1 c13 c14 c15 c16 c17 v6 (.int .i64 (k : Int)) a) (hr : runeR (l.drop p) = 44) :
  CaseG s l w wr A c L Z c1 c13 c14 c15 c16 c17 a Q0 := by
 unfold FrS at hF
 iterate 325 (obtain ⟨_, hF⟩ := hF)
 subst hF
 unfold CaseG
 obtain ⟨hA, hbeh, hlex, hlen, hrows⟩ := hR
 obtain ⟨g, hg, hp, hq, hA1⟩ := hA.step hk
 obtain rfl : f = g := by omega
 have HQ := Lib.hid hQ
 have HLEX := Lib.hid hlex
 have HROWS := Lib.hid hrows
 have HA1 := Lib.hid hA1
 have HBEH := Lib.hid hbeh
 have HLEN := Lib.hid hlen
 have HT := Lib.hid hT
 have HLL := Lib.hid hl
 have HPL : Hid (p < l.length) := hp
 obtain ⟨bp, off, hA2, hgl, _⟩ := (Row.of_own hrows.pts).at_ (by omega)
 obtain rfl : A = some ⟨bp, off, none⟩ := hA2
 obtain ⟨e0, e1, e2, e3⟩ := (Row.of_own hrows.pts).pt hq
 have kq : decide ((k : Int) < L.length) = true := decide_eq_true (by omega)
 have kq2 : decide (k < L.length) = true := decide_eq_true hk
 have k0 : (0 : Int) ≤ k := by omega
 have k1 : (k : Int) < L.length := by omega
 have k2 : (L.length : Int) ≤ 1000000 := by omega
 have hp20 : (p : Int) ≤ 1000000 := by have := data_len s; rw [← hl] at this; omega
 have HR := Lib.hid (runeR_range (l.drop p))
 have HW := Lib.hid (wideR_pos (l.drop p))
 have HWI := Lib.hid (wide_in hp)
 have hsg : signR (runeR (l.drop p)) = true := by rw [hr]; decide
 have hlx0 := lex_on hlex hp hbeh (at_sign (x := S0 b false out) rfl hsg)
 unfold addZ at hlx0
 obtain ⟨t, ht, _, hw1⟩ := drop_cons (c := 44) hp (by omega) hr
 have hbad := good hr (by decide)
 obtain ⟨A6, c6, rfl⟩ := (Row.of_own hrows.own).form
 have hot : (out.length : Int) ≤ 1000000 := by omega
 have hot2 : out.length ≤ 1000000 := by omega
 have HLS : Hid (l.length = s.size) := by rw [hl]; exact data_len s
 unfold ptAt at e0 e1 e2 e3
 simp only at e0 e1 e2 e3
 obtain ⟨R, hRR⟩ : ∃ R, R = runeR (l.drop p) := ⟨_, rfl⟩
 obtain ⟨E, hEE⟩ : ∃ E, E = p + wideR (l.drop p) := ⟨_, rfl⟩
 have HRR := Lib.hid hRR
 have HEE := Lib.hid hEE
 rw [← hRR] at e0 HR
 rw [← hEE] at e2 HA1 HWI
 have HEP : Hid (p < E) := by have := HW.out; show _ < _; omega
 rw [hbad] at e3
 simp only [Bool.not_false] at e3
 have hE1 : E = p + 1 := by omega
 have HE1 := Lib.hid hE1
 rw [← hEE] at hlx0
 rw [← hRR] at hr
 subst hr
 have HLX : Hid (lexF l f E (S0 (p + 1) false (out ++ [⟨3, 0, p, (l.drop p).take 1⟩])) = Z) := hlx0
 have HN := HA1
 have hfR : firstR (44 : Int) = false := by decide +kernel
 clear hRR hEE hbad hlx0 hsg ht hw1 hE1
 have RW1 := Lib.hid (HROWS.out.go ((Below.refl _ _).alloc (Nat.le_refl _) (.cells #[.int .i32 44, .int .i64 (p : Int), .int .i64 (E : Int), .bool true] 88)))
 obtain ⟨j0, j1, j2, j3⟩ := cell_new wr (.int .i32 44) (.int .i64 (p : Int)) (.int .i64 (E : Int)) (.bool true) 88
 have JC := Lib.hid (And.intro j0 (And.intro j1 (And.intro j2 j3)))
 have hz1 : wr.heap.size < (wr.alloc (.cells #[.int .i32 44, .int .i64 (p : Int), .int .i64 (E : Int), .bool true] 88)).heap.size := by simp
 have HPB0 : Hid (some wr.heap.size ≠ (Value.slice A6 out.length c6).ownBlock) := own_new HROWS.out.own (Nat.le_refl _)
 have HQB0 : Hid (some bp ≠ (Value.slice A6 out.length c6).ownBlock) := apartS HROWS.out.pts HROWS.out.own (by decide) rfl
 have cL : Hid (∀ y, TabsL y → Calls Tryd.prog 35 #[.int .i32 44] y fun e w' => e = .returned (.bool false) ∧ Below y.heap.size y w') := fun y hy => by
  have := refLetter_any (44 : Int) y (by have := HR.out; omega) hy
  rwa [hfR] at this
 clear j0 j1 j2 j3 hfR
 clear hA hbeh hlex hlen hrows hA1 hQ hT hl hg hq hp
 conv => arg 2; whnf
 go_wp2_with fail
 generalize hW1 : (wr.alloc (.cells #[.int .i32 44, .int .i64 (p : Int), .int .i64 (E : Int), .bool true] 88)) = W1 at *
 refine (cL.out _ (HT.out _ RW1.out.bel)).mono ?_
 rintro e w2 ⟨rfl, hb2⟩
 obtain ⟨j0, j1, j2, j3⟩ := JC.out
 have RW2 := Lib.hid (RW1.out.go hb2)
 have J0 : w2.cell? ⟨wr.heap.size, 0, none⟩ = some (.int .i32 44) := below_cell hb2 hz1 j0
 have J1 : w2.cell? ⟨wr.heap.size, 1, none⟩ = some (.int .i64 (p : Int)) := below_cell hb2 hz1 j1
 have J2 : w2.cell? ⟨wr.heap.size, 2, none⟩ = some (.int .i64 (E : Int)) := below_cell hb2 hz1 j2
 have J3 : w2.cell? ⟨wr.heap.size, 3, none⟩ = some (.bool true) := below_cell hb2 hz1 j3
 have hz2 : wr.heap.size < w2.heap.size := Nat.lt_of_lt_of_le hz1 hb2.size
 have hgl2 : bp < w2.heap.size := by omega
 clear hb2 hW1 RW1 JC j0 j1 j2 j3 hz1 hgl e0 e1 e2 e3
 generalize wr.heap.size = pb at *
 have cD : Hid (∀ y, Calls Tryd.prog 36 #[.int .i32 44] y fun e w' => e = .returned (.bool false) ∧ y = w') := fun y => by
  have := refDigit_any (44 : Int) y (by omega)
  rwa [show decide (digR 44 < 10) = false from by decide] at this
 go_wp2_with fail
 refine (cD.out _).mono ?_
 rintro e w3 ⟨rfl, rfl⟩
 have HZA : Hid (pb < w2.heap.size) := hz2
 have HPB := HPB0
 have HQB := HQB0
 have pz0 : (p : Int) ≤ E := by have := HE1.out; omega
 have pz1 : (E : Int) ≤ s.size := by have := HWI.out; have := HLS.out; omega
 have pz2 : (0 : Int) ≤ p := by omega
 have HTOK : Hid ([.int .i64 3, .int .i64 0, .int .i64 (p : Int), .string (s.extract p E)] = tokL ⟨3, 0, p, (l.drop p).take 1⟩) := by
  show _ = _
  unfold tokL
  rw [HE1.out, txt_cut, ← HLL.out]
 go_wp2_with fail
 obtain ⟨i0, hi, hz0, hz1, hz2⟩ := info_parts info_tok
 have HI := Lib.hid hz2
 have hS0 : w2.drew.cell? ⟨pb, 1, none⟩ = some (.int .i64 (p : Int)) ∧ w2.drew.cell? ⟨pb, 2, none⟩ = some (.int .i64 (E : Int)) := ⟨J1, J2⟩
 have hzA : pb < w2.drew.heap.size := HZA.out
 have hzB : pb < w2.drew.heap.size := by first | exact HZB.out | exact HZA.out
 clear hz2 J1 J2
 refine wp_region_lin [(0, true), (1, true), (2, true), (3, true), (4, true), (5, true), (6, true), (7, true), (8, true), (9, true), (10, false), (11, false), (12, true)] (by kernel_rfl) (by kernel_rfl) rfl (by kernel_rfl) (fun x => x.cell? ⟨pb, 1, none⟩ = some (.int .i64 (p : Int)) ∧ x.cell? ⟨pb, 2, none⟩ = some (.int .i64 (E : Int))) ?_
 simp only [List.map_cons, List.map_nil, List.getElem?_toArray, List.getElem?_cons_succ, List.getElem?_cons_zero]
 iterate 8 (refine lin_take (v := ?_) (by assumption) (by rfl) ?_ ?_; rotate_left; (intro x hx; obtain ⟨x0, x1⟩ := hx; go_simp; try (with_reducible rfl)); try (simp only [Act.put, List.setIfInBounds_toArray, List.set_cons_zero, List.set_cons_succ]))
 refine lin_take (v := .string (s.extract p E)) (by assumption) (by rfl) (fun x hx => ?_) ?_
 ·obtain ⟨x0, x1⟩ := hx
  go_simp
 (simp only [Act.put, List.setIfInBounds_toArray, List.set_cons_zero, List.set_cons_succ])
 iterate 1 (refine lin_take (v := ?_) (by assumption) (by rfl) ?_ ?_; rotate_left; (intro x hx; obtain ⟨x0, x1⟩ := hx; go_simp; try (with_reducible rfl)); try (simp only [Act.put, List.setIfInBounds_toArray, List.set_cons_zero, List.set_cons_succ]))
 have hSa : (w2.drew.alloc (.cells #[.int .i64 3, .int .i64 0, .int .i64 (p : Int), .string (s.extract p E)] 48)).cell? ⟨pb, 1, none⟩ = some (.int .i64 (p : Int)) ∧ (w2.drew.alloc (.cells #[.int .i64 3, .int .i64 0, .int .i64 (p : Int), .string (s.extract p E)] 48)).cell? ⟨pb, 2, none⟩ = some (.int .i64 (E : Int)) := ⟨(World.cell?_alloc_lt _ _ _ (by assumption)).trans hS0.1, (World.cell?_alloc_lt _ _ _ (by assumption)).trans hS0.2⟩
 refine lin_call hS0 (by rfl) (fun KK hKK => ?_)
 clear hi hz0 hz1
 go_simp
 refine hKK.out _ _ hSa (fun _ => ?_)
 clear hKK KK hS0
 try (simp only [Act.put, List.setIfInBounds_toArray, List.set_cons_zero, List.set_cons_succ])
 obtain ⟨i0, hi, hz0, hz1, hz2⟩ := info_parts info_tok
 refine lin_call hSa (by rfl) (fun KK hKK => ?_)
 refine wp_append_row _ (.tmp 321) (.tmp 331) 41 rfl w.heap.size 48 i0 (.agg #[.int .i64 0, .int .i64 0, .int .i64 0, .string ⟨#[]⟩]) 4 40 Tryd.underlying41 hi hz0 hz1 hz2 rfl (by omega) _ out.length (toksL out) rfl (RW2.out.own.drew.alloc _) _ (.slice (some ⟨_, 0, none⟩) 1 1) 1 [.int .i64 3, .int .i64 0, .int .i64 (p : Int), .string (s.extract p E)] rfl (row_one4 _ _ _ _ _ _) (by simp [Value.oneCell']) (by unfold maxLen; omega) (by omega) (Nat.le_trans RW2.out.bel.size (by simp)) ?_
 intro v3 y3 hO3 hg3
 have R3 := Lib.hid (RW2.out.drew.app hg3 HTOK.out hO3)
 have hS3 : y3.cell? ⟨pb, 1, none⟩ = some (.int .i64 (p : Int)) ∧ y3.cell? ⟨pb, 2, none⟩ = some (.int .i64 (E : Int)) := ⟨hg3.cell hSa.1 HPB.out, hg3.cell hSa.2 (by first | exact HQB.out | exact HPB.out)⟩
 clear hO3 hg3 hSa hi hz0 hz1 hz2
 refine hKK.out _ _ hS3 (fun _ => ?_)
 clear hKK KK
 try (simp only [Act.put, List.setIfInBounds_toArray, List.set_cons_zero, List.set_cons_succ])
 iterate 1 (refine lin_take (v := ?_) (by assumption) (by rfl) ?_ ?_; rotate_left; (intro x hx; obtain ⟨x0, x1⟩ := hx; go_simp; try (with_reducible rfl)); try (simp only [Act.put, List.setIfInBounds_toArray, List.set_cons_zero, List.set_cons_succ]))
 refine lin_done ?_
 clear hS3
 go_wp2_with fail
 refine ⟨?_, ?_⟩
 ·refine WI.mk ?_
  exact ⟨k + 1, E, f, p + 1, _, rfl, HN.out, by have := HE1.out; have := HBEH.out; have := HEP.out; omega, HLX.out, by have := HE1.out; have := HLEN.out; have := HEP.out; first | omega | (simp; omega), R3.out⟩
 ·exact Wmu_lt (k := k) (m := k + 1) rfl rfl hk (by omega)
end Go.Proofs.YtcaibahniheohaaDoor.Words

/- The document's own Split: a case of a round. -/
namespace Go.Proofs.YtcaibahniheohaaDoor.Words
set_option maxRecDepth 1000000
open Go.RowKit Go.Shelf Go.Lib
set_option linter.unusedVariables false
set_option maxHeartbeats 4000000 in
theorem split_sign58 (s : ByteArray) (l : List UInt8) (w wr : World) (A : Option Addr) (c k p f b : Nat) (L : List Pt) (Z : LexR) (out : List Tok) (v6 : Value) (c1 c13 c14 c15 c16 c17 : Value) (a : Act) (Q0 : Exit → Act → World → Prop) (hs : s.size ≤ 1000000) (hl : l = s.data.toList) (hT : TabsLB w.heap.size w) (hR : RoundG l L Z w wr A c v6 k p (f + 1) b out) (hk : k < L.length) (hL : L.length ≤ s.size) (hQ : QS s L Z w A c c1 c13 c14 c15 c16 c17 Q0) (hF : FrS s A c L c1 c13 c14 c15 c16 c17 v6 (.int .i64 (k : Int)) a) (hr : runeR (l.drop p) = 58) :
  CaseG s l w wr A c L Z c1 c13 c14 c15 c16 c17 a Q0 := by
 unfold FrS at hF
 iterate 325 (obtain ⟨_, hF⟩ := hF)
 subst hF
 unfold CaseG
 obtain ⟨hA, hbeh, hlex, hlen, hrows⟩ := hR
 obtain ⟨g, hg, hp, hq, hA1⟩ := hA.step hk
 obtain rfl : f = g := by omega
 have HQ := Lib.hid hQ
 have HLEX := Lib.hid hlex
 have HROWS := Lib.hid hrows
 have HA1 := Lib.hid hA1
 have HBEH := Lib.hid hbeh
 have HLEN := Lib.hid hlen
 have HT := Lib.hid hT
 have HLL := Lib.hid hl
 have HPL : Hid (p < l.length) := hp
 obtain ⟨bp, off, hA2, hgl, _⟩ := (Row.of_own hrows.pts).at_ (by omega)
 obtain rfl : A = some ⟨bp, off, none⟩ := hA2
 obtain ⟨e0, e1, e2, e3⟩ := (Row.of_own hrows.pts).pt hq
 have kq : decide ((k : Int) < L.length) = true := decide_eq_true (by omega)
 have kq2 : decide (k < L.length) = true := decide_eq_true hk
 have k0 : (0 : Int) ≤ k := by omega
 have k1 : (k : Int) < L.length := by omega
 have k2 : (L.length : Int) ≤ 1000000 := by omega
 have hp20 : (p : Int) ≤ 1000000 := by have := data_len s; rw [← hl] at this; omega
 have HR := Lib.hid (runeR_range (l.drop p))
 have HW := Lib.hid (wideR_pos (l.drop p))
 have HWI := Lib.hid (wide_in hp)
 have hsg : signR (runeR (l.drop p)) = true := by rw [hr]; decide
 have hlx0 := lex_on hlex hp hbeh (at_sign (x := S0 b false out) rfl hsg)
 unfold addZ at hlx0
 obtain ⟨t, ht, _, hw1⟩ := drop_cons (c := 58) hp (by omega) hr
 have hbad := good hr (by decide)
 obtain ⟨A6, c6, rfl⟩ := (Row.of_own hrows.own).form
 have hot : (out.length : Int) ≤ 1000000 := by omega
 have hot2 : out.length ≤ 1000000 := by omega
 have HLS : Hid (l.length = s.size) := by rw [hl]; exact data_len s
 unfold ptAt at e0 e1 e2 e3
 simp only at e0 e1 e2 e3
 obtain ⟨R, hRR⟩ : ∃ R, R = runeR (l.drop p) := ⟨_, rfl⟩
 obtain ⟨E, hEE⟩ : ∃ E, E = p + wideR (l.drop p) := ⟨_, rfl⟩
 have HRR := Lib.hid hRR
 have HEE := Lib.hid hEE
 rw [← hRR] at e0 HR
 rw [← hEE] at e2 HA1 HWI
 have HEP : Hid (p < E) := by have := HW.out; show _ < _; omega
 rw [hbad] at e3
 simp only [Bool.not_false] at e3
 have hE1 : E = p + 1 := by omega
 have HE1 := Lib.hid hE1
 rw [← hEE] at hlx0
 rw [← hRR] at hr
 subst hr
 have HLX : Hid (lexF l f E (S0 (p + 1) false (out ++ [⟨3, 0, p, (l.drop p).take 1⟩])) = Z) := hlx0
 have HN := HA1
 have hfR : firstR (58 : Int) = false := by decide +kernel
 clear hRR hEE hbad hlx0 hsg ht hw1 hE1
 have RW1 := Lib.hid (HROWS.out.go ((Below.refl _ _).alloc (Nat.le_refl _) (.cells #[.int .i32 58, .int .i64 (p : Int), .int .i64 (E : Int), .bool true] 88)))
 obtain ⟨j0, j1, j2, j3⟩ := cell_new wr (.int .i32 58) (.int .i64 (p : Int)) (.int .i64 (E : Int)) (.bool true) 88
 have JC := Lib.hid (And.intro j0 (And.intro j1 (And.intro j2 j3)))
 have hz1 : wr.heap.size < (wr.alloc (.cells #[.int .i32 58, .int .i64 (p : Int), .int .i64 (E : Int), .bool true] 88)).heap.size := by simp
 have HPB0 : Hid (some wr.heap.size ≠ (Value.slice A6 out.length c6).ownBlock) := own_new HROWS.out.own (Nat.le_refl _)
 have HQB0 : Hid (some bp ≠ (Value.slice A6 out.length c6).ownBlock) := apartS HROWS.out.pts HROWS.out.own (by decide) rfl
 have cL : Hid (∀ y, TabsL y → Calls Tryd.prog 35 #[.int .i32 58] y fun e w' => e = .returned (.bool false) ∧ Below y.heap.size y w') := fun y hy => by
  have := refLetter_any (58 : Int) y (by have := HR.out; omega) hy
  rwa [hfR] at this
 clear j0 j1 j2 j3 hfR
 clear hA hbeh hlex hlen hrows hA1 hQ hT hl hg hq hp
 conv => arg 2; whnf
 go_wp2_with fail
 generalize hW1 : (wr.alloc (.cells #[.int .i32 58, .int .i64 (p : Int), .int .i64 (E : Int), .bool true] 88)) = W1 at *
 refine (cL.out _ (HT.out _ RW1.out.bel)).mono ?_
 rintro e w2 ⟨rfl, hb2⟩
 obtain ⟨j0, j1, j2, j3⟩ := JC.out
 have RW2 := Lib.hid (RW1.out.go hb2)
 have J0 : w2.cell? ⟨wr.heap.size, 0, none⟩ = some (.int .i32 58) := below_cell hb2 hz1 j0
 have J1 : w2.cell? ⟨wr.heap.size, 1, none⟩ = some (.int .i64 (p : Int)) := below_cell hb2 hz1 j1
 have J2 : w2.cell? ⟨wr.heap.size, 2, none⟩ = some (.int .i64 (E : Int)) := below_cell hb2 hz1 j2
 have J3 : w2.cell? ⟨wr.heap.size, 3, none⟩ = some (.bool true) := below_cell hb2 hz1 j3
 have hz2 : wr.heap.size < w2.heap.size := Nat.lt_of_lt_of_le hz1 hb2.size
 have hgl2 : bp < w2.heap.size := by omega
 clear hb2 hW1 RW1 JC j0 j1 j2 j3 hz1 hgl e0 e1 e2 e3
 generalize wr.heap.size = pb at *
 have cD : Hid (∀ y, Calls Tryd.prog 36 #[.int .i32 58] y fun e w' => e = .returned (.bool false) ∧ y = w') := fun y => by
  have := refDigit_any (58 : Int) y (by omega)
  rwa [show decide (digR 58 < 10) = false from by decide] at this
 go_wp2_with fail
 refine (cD.out _).mono ?_
 rintro e w3 ⟨rfl, rfl⟩
 have HZA : Hid (pb < w2.heap.size) := hz2
 have HPB := HPB0
 have HQB := HQB0
 have pz0 : (p : Int) ≤ E := by have := HE1.out; omega
 have pz1 : (E : Int) ≤ s.size := by have := HWI.out; have := HLS.out; omega
 have pz2 : (0 : Int) ≤ p := by omega
 have HTOK : Hid ([.int .i64 3, .int .i64 0, .int .i64 (p : Int), .string (s.extract p E)] = tokL ⟨3, 0, p, (l.drop p).take 1⟩) := by
  show _ = _
  unfold tokL
  rw [HE1.out, txt_cut, ← HLL.out]
 go_wp2_with fail
 obtain ⟨i0, hi, hz0, hz1, hz2⟩ := info_parts info_tok
 have HI := Lib.hid hz2
 have hS0 : w2.drew.cell? ⟨pb, 1, none⟩ = some (.int .i64 (p : Int)) ∧ w2.drew.cell? ⟨pb, 2, none⟩ = some (.int .i64 (E : Int)) := ⟨J1, J2⟩
 have hzA : pb < w2.drew.heap.size := HZA.out
 have hzB : pb < w2.drew.heap.size := by first | exact HZB.out | exact HZA.out
 clear hz2 J1 J2
 refine wp_region_lin [(0, true), (1, true), (2, true), (3, true), (4, true), (5, true), (6, true), (7, true), (8, true), (9, true), (10, false), (11, false), (12, true)] (by kernel_rfl) (by kernel_rfl) rfl (by kernel_rfl) (fun x => x.cell? ⟨pb, 1, none⟩ = some (.int .i64 (p : Int)) ∧ x.cell? ⟨pb, 2, none⟩ = some (.int .i64 (E : Int))) ?_
 simp only [List.map_cons, List.map_nil, List.getElem?_toArray, List.getElem?_cons_succ, List.getElem?_cons_zero]
 iterate 8 (refine lin_take (v := ?_) (by assumption) (by rfl) ?_ ?_; rotate_left; (intro x hx; obtain ⟨x0, x1⟩ := hx; go_simp; try (with_reducible rfl)); try (simp only [Act.put, List.setIfInBounds_toArray, List.set_cons_zero, List.set_cons_succ]))
 refine lin_take (v := .string (s.extract p E)) (by assumption) (by rfl) (fun x hx => ?_) ?_
 ·obtain ⟨x0, x1⟩ := hx
  go_simp
 (simp only [Act.put, List.setIfInBounds_toArray, List.set_cons_zero, List.set_cons_succ])
 iterate 1 (refine lin_take (v := ?_) (by assumption) (by rfl) ?_ ?_; rotate_left; (intro x hx; obtain ⟨x0, x1⟩ := hx; go_simp; try (with_reducible rfl)); try (simp only [Act.put, List.setIfInBounds_toArray, List.set_cons_zero, List.set_cons_succ]))
 have hSa : (w2.drew.alloc (.cells #[.int .i64 3, .int .i64 0, .int .i64 (p : Int), .string (s.extract p E)] 48)).cell? ⟨pb, 1, none⟩ = some (.int .i64 (p : Int)) ∧ (w2.drew.alloc (.cells #[.int .i64 3, .int .i64 0, .int .i64 (p : Int), .string (s.extract p E)] 48)).cell? ⟨pb, 2, none⟩ = some (.int .i64 (E : Int)) := ⟨(World.cell?_alloc_lt _ _ _ (by assumption)).trans hS0.1, (World.cell?_alloc_lt _ _ _ (by assumption)).trans hS0.2⟩
 refine lin_call hS0 (by rfl) (fun KK hKK => ?_)
 clear hi hz0 hz1
 go_simp
 refine hKK.out _ _ hSa (fun _ => ?_)
 clear hKK KK hS0
 try (simp only [Act.put, List.setIfInBounds_toArray, List.set_cons_zero, List.set_cons_succ])
 obtain ⟨i0, hi, hz0, hz1, hz2⟩ := info_parts info_tok
 refine lin_call hSa (by rfl) (fun KK hKK => ?_)
 refine wp_append_row _ (.tmp 321) (.tmp 331) 41 rfl w.heap.size 48 i0 (.agg #[.int .i64 0, .int .i64 0, .int .i64 0, .string ⟨#[]⟩]) 4 40 Tryd.underlying41 hi hz0 hz1 hz2 rfl (by omega) _ out.length (toksL out) rfl (RW2.out.own.drew.alloc _) _ (.slice (some ⟨_, 0, none⟩) 1 1) 1 [.int .i64 3, .int .i64 0, .int .i64 (p : Int), .string (s.extract p E)] rfl (row_one4 _ _ _ _ _ _) (by simp [Value.oneCell']) (by unfold maxLen; omega) (by omega) (Nat.le_trans RW2.out.bel.size (by simp)) ?_
 intro v3 y3 hO3 hg3
 have R3 := Lib.hid (RW2.out.drew.app hg3 HTOK.out hO3)
 have hS3 : y3.cell? ⟨pb, 1, none⟩ = some (.int .i64 (p : Int)) ∧ y3.cell? ⟨pb, 2, none⟩ = some (.int .i64 (E : Int)) := ⟨hg3.cell hSa.1 HPB.out, hg3.cell hSa.2 (by first | exact HQB.out | exact HPB.out)⟩
 clear hO3 hg3 hSa hi hz0 hz1 hz2
 refine hKK.out _ _ hS3 (fun _ => ?_)
 clear hKK KK
 try (simp only [Act.put, List.setIfInBounds_toArray, List.set_cons_zero, List.set_cons_succ])
 iterate 1 (refine lin_take (v := ?_) (by assumption) (by rfl) ?_ ?_; rotate_left; (intro x hx; obtain ⟨x0, x1⟩ := hx; go_simp; try (with_reducible rfl)); try (simp only [Act.put, List.setIfInBounds_toArray, List.set_cons_zero, List.set_cons_succ]))
 refine lin_done ?_
 clear hS3
 go_wp2_with fail
 refine ⟨?_, ?_⟩
 ·refine WI.mk ?_
  exact ⟨k + 1, E, f, p + 1, _, rfl, HN.out, by have := HE1.out; have := HBEH.out; have := HEP.out; omega, HLX.out, by have := HE1.out; have := HLEN.out; have := HEP.out; first | omega | (simp; omega), R3.out⟩
 ·exact Wmu_lt (k := k) (m := k + 1) rfl rfl hk (by omega)
end Go.Proofs.YtcaibahniheohaaDoor.Words

/- The document's own Split: a case of a round. -/
namespace Go.Proofs.YtcaibahniheohaaDoor.Words
set_option maxRecDepth 1000000
open Go.RowKit Go.Shelf Go.Lib
set_option linter.unusedVariables false
set_option maxHeartbeats 4000000 in
theorem split_sign40 (s : ByteArray) (l : List UInt8) (w wr : World) (A : Option Addr) (c k p f b : Nat) (L : List Pt) (Z : LexR) (out : List Tok) (v6 : Value) (c1 c13 c14 c15 c16 c17 : Value) (a : Act) (Q0 : Exit → Act → World → Prop) (hs : s.size ≤ 1000000) (hl : l = s.data.toList) (hT : TabsLB w.heap.size w) (hR : RoundG l L Z w wr A c v6 k p (f + 1) b out) (hk : k < L.length) (hL : L.length ≤ s.size) (hQ : QS s L Z w A c c1 c13 c14 c15 c16 c17 Q0) (hF : FrS s A c L c1 c13 c14 c15 c16 c17 v6 (.int .i64 (k : Int)) a) (hr : runeR (l.drop p) = 40) :
  CaseG s l w wr A c L Z c1 c13 c14 c15 c16 c17 a Q0 := by
 unfold FrS at hF
 iterate 325 (obtain ⟨_, hF⟩ := hF)
 subst hF
 unfold CaseG
 obtain ⟨hA, hbeh, hlex, hlen, hrows⟩ := hR
 obtain ⟨g, hg, hp, hq, hA1⟩ := hA.step hk
 obtain rfl : f = g := by omega
 have HQ := Lib.hid hQ
 have HLEX := Lib.hid hlex
 have HROWS := Lib.hid hrows
 have HA1 := Lib.hid hA1
 have HBEH := Lib.hid hbeh
 have HLEN := Lib.hid hlen
 have HT := Lib.hid hT
 have HLL := Lib.hid hl
 have HPL : Hid (p < l.length) := hp
 obtain ⟨bp, off, hA2, hgl, _⟩ := (Row.of_own hrows.pts).at_ (by omega)
 obtain rfl : A = some ⟨bp, off, none⟩ := hA2
 obtain ⟨e0, e1, e2, e3⟩ := (Row.of_own hrows.pts).pt hq
 have kq : decide ((k : Int) < L.length) = true := decide_eq_true (by omega)
 have kq2 : decide (k < L.length) = true := decide_eq_true hk
 have k0 : (0 : Int) ≤ k := by omega
 have k1 : (k : Int) < L.length := by omega
 have k2 : (L.length : Int) ≤ 1000000 := by omega
 have hp20 : (p : Int) ≤ 1000000 := by have := data_len s; rw [← hl] at this; omega
 have HR := Lib.hid (runeR_range (l.drop p))
 have HW := Lib.hid (wideR_pos (l.drop p))
 have HWI := Lib.hid (wide_in hp)
 have hsg : signR (runeR (l.drop p)) = true := by rw [hr]; decide
 have hlx0 := lex_on hlex hp hbeh (at_sign (x := S0 b false out) rfl hsg)
 unfold addZ at hlx0
 obtain ⟨t, ht, _, hw1⟩ := drop_cons (c := 40) hp (by omega) hr
 have hbad := good hr (by decide)
 obtain ⟨A6, c6, rfl⟩ := (Row.of_own hrows.own).form
 have hot : (out.length : Int) ≤ 1000000 := by omega
 have hot2 : out.length ≤ 1000000 := by omega
 have HLS : Hid (l.length = s.size) := by rw [hl]; exact data_len s
 unfold ptAt at e0 e1 e2 e3
 simp only at e0 e1 e2 e3
 obtain ⟨R, hRR⟩ : ∃ R, R = runeR (l.drop p) := ⟨_, rfl⟩
 obtain ⟨E, hEE⟩ : ∃ E, E = p + wideR (l.drop p) := ⟨_, rfl⟩
 have HRR := Lib.hid hRR
 have HEE := Lib.hid hEE
 rw [← hRR] at e0 HR
 rw [← hEE] at e2 HA1 HWI
 have HEP : Hid (p < E) := by have := HW.out; show _ < _; omega
 rw [hbad] at e3
 simp only [Bool.not_false] at e3
 have hE1 : E = p + 1 := by omega
 have HE1 := Lib.hid hE1
 rw [← hEE] at hlx0
 rw [← hRR] at hr
 subst hr
 have HLX : Hid (lexF l f E (S0 (p + 1) false (out ++ [⟨3, 0, p, (l.drop p).take 1⟩])) = Z) := hlx0
 have HN := HA1
 have hfR : firstR (40 : Int) = false := by decide +kernel
 clear hRR hEE hbad hlx0 hsg ht hw1 hE1
 have RW1 := Lib.hid (HROWS.out.go ((Below.refl _ _).alloc (Nat.le_refl _) (.cells #[.int .i32 40, .int .i64 (p : Int), .int .i64 (E : Int), .bool true] 88)))
 obtain ⟨j0, j1, j2, j3⟩ := cell_new wr (.int .i32 40) (.int .i64 (p : Int)) (.int .i64 (E : Int)) (.bool true) 88
 have JC := Lib.hid (And.intro j0 (And.intro j1 (And.intro j2 j3)))
 have hz1 : wr.heap.size < (wr.alloc (.cells #[.int .i32 40, .int .i64 (p : Int), .int .i64 (E : Int), .bool true] 88)).heap.size := by simp
 have HPB0 : Hid (some wr.heap.size ≠ (Value.slice A6 out.length c6).ownBlock) := own_new HROWS.out.own (Nat.le_refl _)
 have HQB0 : Hid (some bp ≠ (Value.slice A6 out.length c6).ownBlock) := apartS HROWS.out.pts HROWS.out.own (by decide) rfl
 have cL : Hid (∀ y, TabsL y → Calls Tryd.prog 35 #[.int .i32 40] y fun e w' => e = .returned (.bool false) ∧ Below y.heap.size y w') := fun y hy => by
  have := refLetter_any (40 : Int) y (by have := HR.out; omega) hy
  rwa [hfR] at this
 clear j0 j1 j2 j3 hfR
 clear hA hbeh hlex hlen hrows hA1 hQ hT hl hg hq hp
 conv => arg 2; whnf
 go_wp2_with fail
 generalize hW1 : (wr.alloc (.cells #[.int .i32 40, .int .i64 (p : Int), .int .i64 (E : Int), .bool true] 88)) = W1 at *
 refine (cL.out _ (HT.out _ RW1.out.bel)).mono ?_
 rintro e w2 ⟨rfl, hb2⟩
 obtain ⟨j0, j1, j2, j3⟩ := JC.out
 have RW2 := Lib.hid (RW1.out.go hb2)
 have J0 : w2.cell? ⟨wr.heap.size, 0, none⟩ = some (.int .i32 40) := below_cell hb2 hz1 j0
 have J1 : w2.cell? ⟨wr.heap.size, 1, none⟩ = some (.int .i64 (p : Int)) := below_cell hb2 hz1 j1
 have J2 : w2.cell? ⟨wr.heap.size, 2, none⟩ = some (.int .i64 (E : Int)) := below_cell hb2 hz1 j2
 have J3 : w2.cell? ⟨wr.heap.size, 3, none⟩ = some (.bool true) := below_cell hb2 hz1 j3
 have hz2 : wr.heap.size < w2.heap.size := Nat.lt_of_lt_of_le hz1 hb2.size
 have hgl2 : bp < w2.heap.size := by omega
 clear hb2 hW1 RW1 JC j0 j1 j2 j3 hz1 hgl e0 e1 e2 e3
 generalize wr.heap.size = pb at *
 have cD : Hid (∀ y, Calls Tryd.prog 36 #[.int .i32 40] y fun e w' => e = .returned (.bool false) ∧ y = w') := fun y => by
  have := refDigit_any (40 : Int) y (by omega)
  rwa [show decide (digR 40 < 10) = false from by decide] at this
 go_wp2_with fail
 refine (cD.out _).mono ?_
 rintro e w3 ⟨rfl, rfl⟩
 have HZA : Hid (pb < w2.heap.size) := hz2
 have HPB := HPB0
 have HQB := HQB0
 have pz0 : (p : Int) ≤ E := by have := HE1.out; omega
 have pz1 : (E : Int) ≤ s.size := by have := HWI.out; have := HLS.out; omega
 have pz2 : (0 : Int) ≤ p := by omega
 have HTOK : Hid ([.int .i64 3, .int .i64 0, .int .i64 (p : Int), .string (s.extract p E)] = tokL ⟨3, 0, p, (l.drop p).take 1⟩) := by
  show _ = _
  unfold tokL
  rw [HE1.out, txt_cut, ← HLL.out]
 go_wp2_with fail
 obtain ⟨i0, hi, hz0, hz1, hz2⟩ := info_parts info_tok
 have HI := Lib.hid hz2
 have hS0 : w2.drew.cell? ⟨pb, 1, none⟩ = some (.int .i64 (p : Int)) ∧ w2.drew.cell? ⟨pb, 2, none⟩ = some (.int .i64 (E : Int)) := ⟨J1, J2⟩
 have hzA : pb < w2.drew.heap.size := HZA.out
 have hzB : pb < w2.drew.heap.size := by first | exact HZB.out | exact HZA.out
 clear hz2 J1 J2
 refine wp_region_lin [(0, true), (1, true), (2, true), (3, true), (4, true), (5, true), (6, true), (7, true), (8, true), (9, true), (10, false), (11, false), (12, true)] (by kernel_rfl) (by kernel_rfl) rfl (by kernel_rfl) (fun x => x.cell? ⟨pb, 1, none⟩ = some (.int .i64 (p : Int)) ∧ x.cell? ⟨pb, 2, none⟩ = some (.int .i64 (E : Int))) ?_
 simp only [List.map_cons, List.map_nil, List.getElem?_toArray, List.getElem?_cons_succ, List.getElem?_cons_zero]
 iterate 8 (refine lin_take (v := ?_) (by assumption) (by rfl) ?_ ?_; rotate_left; (intro x hx; obtain ⟨x0, x1⟩ := hx; go_simp; try (with_reducible rfl)); try (simp only [Act.put, List.setIfInBounds_toArray, List.set_cons_zero, List.set_cons_succ]))
 refine lin_take (v := .string (s.extract p E)) (by assumption) (by rfl) (fun x hx => ?_) ?_
 ·obtain ⟨x0, x1⟩ := hx
  go_simp
 (simp only [Act.put, List.setIfInBounds_toArray, List.set_cons_zero, List.set_cons_succ])
 iterate 1 (refine lin_take (v := ?_) (by assumption) (by rfl) ?_ ?_; rotate_left; (intro x hx; obtain ⟨x0, x1⟩ := hx; go_simp; try (with_reducible rfl)); try (simp only [Act.put, List.setIfInBounds_toArray, List.set_cons_zero, List.set_cons_succ]))
 have hSa : (w2.drew.alloc (.cells #[.int .i64 3, .int .i64 0, .int .i64 (p : Int), .string (s.extract p E)] 48)).cell? ⟨pb, 1, none⟩ = some (.int .i64 (p : Int)) ∧ (w2.drew.alloc (.cells #[.int .i64 3, .int .i64 0, .int .i64 (p : Int), .string (s.extract p E)] 48)).cell? ⟨pb, 2, none⟩ = some (.int .i64 (E : Int)) := ⟨(World.cell?_alloc_lt _ _ _ (by assumption)).trans hS0.1, (World.cell?_alloc_lt _ _ _ (by assumption)).trans hS0.2⟩
 refine lin_call hS0 (by rfl) (fun KK hKK => ?_)
 clear hi hz0 hz1
 go_simp
 refine hKK.out _ _ hSa (fun _ => ?_)
 clear hKK KK hS0
 try (simp only [Act.put, List.setIfInBounds_toArray, List.set_cons_zero, List.set_cons_succ])
 obtain ⟨i0, hi, hz0, hz1, hz2⟩ := info_parts info_tok
 refine lin_call hSa (by rfl) (fun KK hKK => ?_)
 refine wp_append_row _ (.tmp 321) (.tmp 331) 41 rfl w.heap.size 48 i0 (.agg #[.int .i64 0, .int .i64 0, .int .i64 0, .string ⟨#[]⟩]) 4 40 Tryd.underlying41 hi hz0 hz1 hz2 rfl (by omega) _ out.length (toksL out) rfl (RW2.out.own.drew.alloc _) _ (.slice (some ⟨_, 0, none⟩) 1 1) 1 [.int .i64 3, .int .i64 0, .int .i64 (p : Int), .string (s.extract p E)] rfl (row_one4 _ _ _ _ _ _) (by simp [Value.oneCell']) (by unfold maxLen; omega) (by omega) (Nat.le_trans RW2.out.bel.size (by simp)) ?_
 intro v3 y3 hO3 hg3
 have R3 := Lib.hid (RW2.out.drew.app hg3 HTOK.out hO3)
 have hS3 : y3.cell? ⟨pb, 1, none⟩ = some (.int .i64 (p : Int)) ∧ y3.cell? ⟨pb, 2, none⟩ = some (.int .i64 (E : Int)) := ⟨hg3.cell hSa.1 HPB.out, hg3.cell hSa.2 (by first | exact HQB.out | exact HPB.out)⟩
 clear hO3 hg3 hSa hi hz0 hz1 hz2
 refine hKK.out _ _ hS3 (fun _ => ?_)
 clear hKK KK
 try (simp only [Act.put, List.setIfInBounds_toArray, List.set_cons_zero, List.set_cons_succ])
 iterate 1 (refine lin_take (v := ?_) (by assumption) (by rfl) ?_ ?_; rotate_left; (intro x hx; obtain ⟨x0, x1⟩ := hx; go_simp; try (with_reducible rfl)); try (simp only [Act.put, List.setIfInBounds_toArray, List.set_cons_zero, List.set_cons_succ]))
 refine lin_done ?_
 clear hS3
 go_wp2_with fail
 refine ⟨?_, ?_⟩
 ·refine WI.mk ?_
  exact ⟨k + 1, E, f, p + 1, _, rfl, HN.out, by have := HE1.out; have := HBEH.out; have := HEP.out; omega, HLX.out, by have := HE1.out; have := HLEN.out; have := HEP.out; first | omega | (simp; omega), R3.out⟩
 ·exact Wmu_lt (k := k) (m := k + 1) rfl rfl hk (by omega)
end Go.Proofs.YtcaibahniheohaaDoor.Words

/- The document's own Split: a case of a round. -/
namespace Go.Proofs.YtcaibahniheohaaDoor.Words
set_option maxRecDepth 1000000
open Go.RowKit Go.Shelf Go.Lib
set_option linter.unusedVariables false
set_option maxHeartbeats 4000000 in
theorem split_sign41 (s : ByteArray) (l : List UInt8) (w wr : World) (A : Option Addr) (c k p f b : Nat) (L : List Pt) (Z : LexR) (out : List Tok) (v6 : Value) (c1 c13 c14 c15 c16 c17 : Value) (a : Act) (Q0 : Exit → Act → World → Prop) (hs : s.size ≤ 1000000) (hl : l = s.data.toList) (hT : TabsLB w.heap.size w) (hR : RoundG l L Z w wr A c v6 k p (f + 1) b out) (hk : k < L.length) (hL : L.length ≤ s.size) (hQ : QS s L Z w A c c1 c13 c14 c15 c16 c17 Q0) (hF : FrS s A c L c1 c13 c14 c15 c16 c17 v6 (.int .i64 (k : Int)) a) (hr : runeR (l.drop p) = 41) :
  CaseG s l w wr A c L Z c1 c13 c14 c15 c16 c17 a Q0 := by
 unfold FrS at hF
 iterate 325 (obtain ⟨_, hF⟩ := hF)
 subst hF
 unfold CaseG
 obtain ⟨hA, hbeh, hlex, hlen, hrows⟩ := hR
 obtain ⟨g, hg, hp, hq, hA1⟩ := hA.step hk
 obtain rfl : f = g := by omega
 have HQ := Lib.hid hQ
 have HLEX := Lib.hid hlex
 have HROWS := Lib.hid hrows
 have HA1 := Lib.hid hA1
 have HBEH := Lib.hid hbeh
 have HLEN := Lib.hid hlen
 have HT := Lib.hid hT
 have HLL := Lib.hid hl
 have HPL : Hid (p < l.length) := hp
 obtain ⟨bp, off, hA2, hgl, _⟩ := (Row.of_own hrows.pts).at_ (by omega)
 obtain rfl : A = some ⟨bp, off, none⟩ := hA2
 obtain ⟨e0, e1, e2, e3⟩ := (Row.of_own hrows.pts).pt hq
 have kq : decide ((k : Int) < L.length) = true := decide_eq_true (by omega)
 have kq2 : decide (k < L.length) = true := decide_eq_true hk
 have k0 : (0 : Int) ≤ k := by omega
 have k1 : (k : Int) < L.length := by omega
 have k2 : (L.length : Int) ≤ 1000000 := by omega
 have hp20 : (p : Int) ≤ 1000000 := by have := data_len s; rw [← hl] at this; omega
 have HR := Lib.hid (runeR_range (l.drop p))
 have HW := Lib.hid (wideR_pos (l.drop p))
 have HWI := Lib.hid (wide_in hp)
 have hsg : signR (runeR (l.drop p)) = true := by rw [hr]; decide
 have hlx0 := lex_on hlex hp hbeh (at_sign (x := S0 b false out) rfl hsg)
 unfold addZ at hlx0
 obtain ⟨t, ht, _, hw1⟩ := drop_cons (c := 41) hp (by omega) hr
 have hbad := good hr (by decide)
 obtain ⟨A6, c6, rfl⟩ := (Row.of_own hrows.own).form
 have hot : (out.length : Int) ≤ 1000000 := by omega
 have hot2 : out.length ≤ 1000000 := by omega
 have HLS : Hid (l.length = s.size) := by rw [hl]; exact data_len s
 unfold ptAt at e0 e1 e2 e3
 simp only at e0 e1 e2 e3
 obtain ⟨R, hRR⟩ : ∃ R, R = runeR (l.drop p) := ⟨_, rfl⟩
 obtain ⟨E, hEE⟩ : ∃ E, E = p + wideR (l.drop p) := ⟨_, rfl⟩
 have HRR := Lib.hid hRR
 have HEE := Lib.hid hEE
 rw [← hRR] at e0 HR
 rw [← hEE] at e2 HA1 HWI
 have HEP : Hid (p < E) := by have := HW.out; show _ < _; omega
 rw [hbad] at e3
 simp only [Bool.not_false] at e3
 have hE1 : E = p + 1 := by omega
 have HE1 := Lib.hid hE1
 rw [← hEE] at hlx0
 rw [← hRR] at hr
 subst hr
 have HLX : Hid (lexF l f E (S0 (p + 1) false (out ++ [⟨3, 0, p, (l.drop p).take 1⟩])) = Z) := hlx0
 have HN := HA1
 have hfR : firstR (41 : Int) = false := by decide +kernel
 clear hRR hEE hbad hlx0 hsg ht hw1 hE1
 have RW1 := Lib.hid (HROWS.out.go ((Below.refl _ _).alloc (Nat.le_refl _) (.cells #[.int .i32 41, .int .i64 (p : Int), .int .i64 (E : Int), .bool true] 88)))
 obtain ⟨j0, j1, j2, j3⟩ := cell_new wr (.int .i32 41) (.int .i64 (p : Int)) (.int .i64 (E : Int)) (.bool true) 88
 have JC := Lib.hid (And.intro j0 (And.intro j1 (And.intro j2 j3)))
 have hz1 : wr.heap.size < (wr.alloc (.cells #[.int .i32 41, .int .i64 (p : Int), .int .i64 (E : Int), .bool true] 88)).heap.size := by simp
 have HPB0 : Hid (some wr.heap.size ≠ (Value.slice A6 out.length c6).ownBlock) := own_new HROWS.out.own (Nat.le_refl _)
 have HQB0 : Hid (some bp ≠ (Value.slice A6 out.length c6).ownBlock) := apartS HROWS.out.pts HROWS.out.own (by decide) rfl
 have cL : Hid (∀ y, TabsL y → Calls Tryd.prog 35 #[.int .i32 41] y fun e w' => e = .returned (.bool false) ∧ Below y.heap.size y w') := fun y hy => by
  have := refLetter_any (41 : Int) y (by have := HR.out; omega) hy
  rwa [hfR] at this
 clear j0 j1 j2 j3 hfR
 clear hA hbeh hlex hlen hrows hA1 hQ hT hl hg hq hp
 conv => arg 2; whnf
 go_wp2_with fail
 generalize hW1 : (wr.alloc (.cells #[.int .i32 41, .int .i64 (p : Int), .int .i64 (E : Int), .bool true] 88)) = W1 at *
 refine (cL.out _ (HT.out _ RW1.out.bel)).mono ?_
 rintro e w2 ⟨rfl, hb2⟩
 obtain ⟨j0, j1, j2, j3⟩ := JC.out
 have RW2 := Lib.hid (RW1.out.go hb2)
 have J0 : w2.cell? ⟨wr.heap.size, 0, none⟩ = some (.int .i32 41) := below_cell hb2 hz1 j0
 have J1 : w2.cell? ⟨wr.heap.size, 1, none⟩ = some (.int .i64 (p : Int)) := below_cell hb2 hz1 j1
 have J2 : w2.cell? ⟨wr.heap.size, 2, none⟩ = some (.int .i64 (E : Int)) := below_cell hb2 hz1 j2
 have J3 : w2.cell? ⟨wr.heap.size, 3, none⟩ = some (.bool true) := below_cell hb2 hz1 j3
 have hz2 : wr.heap.size < w2.heap.size := Nat.lt_of_lt_of_le hz1 hb2.size
 have hgl2 : bp < w2.heap.size := by omega
 clear hb2 hW1 RW1 JC j0 j1 j2 j3 hz1 hgl e0 e1 e2 e3
 generalize wr.heap.size = pb at *
 have cD : Hid (∀ y, Calls Tryd.prog 36 #[.int .i32 41] y fun e w' => e = .returned (.bool false) ∧ y = w') := fun y => by
  have := refDigit_any (41 : Int) y (by omega)
  rwa [show decide (digR 41 < 10) = false from by decide] at this
 go_wp2_with fail
 refine (cD.out _).mono ?_
 rintro e w3 ⟨rfl, rfl⟩
 have HZA : Hid (pb < w2.heap.size) := hz2
 have HPB := HPB0
 have HQB := HQB0
 have pz0 : (p : Int) ≤ E := by have := HE1.out; omega
 have pz1 : (E : Int) ≤ s.size := by have := HWI.out; have := HLS.out; omega
 have pz2 : (0 : Int) ≤ p := by omega
 have HTOK : Hid ([.int .i64 3, .int .i64 0, .int .i64 (p : Int), .string (s.extract p E)] = tokL ⟨3, 0, p, (l.drop p).take 1⟩) := by
  show _ = _
  unfold tokL
  rw [HE1.out, txt_cut, ← HLL.out]
 go_wp2_with fail
 obtain ⟨i0, hi, hz0, hz1, hz2⟩ := info_parts info_tok
 have HI := Lib.hid hz2
 have hS0 : w2.drew.cell? ⟨pb, 1, none⟩ = some (.int .i64 (p : Int)) ∧ w2.drew.cell? ⟨pb, 2, none⟩ = some (.int .i64 (E : Int)) := ⟨J1, J2⟩
 have hzA : pb < w2.drew.heap.size := HZA.out
 have hzB : pb < w2.drew.heap.size := by first | exact HZB.out | exact HZA.out
 clear hz2 J1 J2
 refine wp_region_lin [(0, true), (1, true), (2, true), (3, true), (4, true), (5, true), (6, true), (7, true), (8, true), (9, true), (10, false), (11, false), (12, true)] (by kernel_rfl) (by kernel_rfl) rfl (by kernel_rfl) (fun x => x.cell? ⟨pb, 1, none⟩ = some (.int .i64 (p : Int)) ∧ x.cell? ⟨pb, 2, none⟩ = some (.int .i64 (E : Int))) ?_
 simp only [List.map_cons, List.map_nil, List.getElem?_toArray, List.getElem?_cons_succ, List.getElem?_cons_zero]
 iterate 8 (refine lin_take (v := ?_) (by assumption) (by rfl) ?_ ?_; rotate_left; (intro x hx; obtain ⟨x0, x1⟩ := hx; go_simp; try (with_reducible rfl)); try (simp only [Act.put, List.setIfInBounds_toArray, List.set_cons_zero, List.set_cons_succ]))
 refine lin_take (v := .string (s.extract p E)) (by assumption) (by rfl) (fun x hx => ?_) ?_
 ·obtain ⟨x0, x1⟩ := hx
  go_simp
 (simp only [Act.put, List.setIfInBounds_toArray, List.set_cons_zero, List.set_cons_succ])
 iterate 1 (refine lin_take (v := ?_) (by assumption) (by rfl) ?_ ?_; rotate_left; (intro x hx; obtain ⟨x0, x1⟩ := hx; go_simp; try (with_reducible rfl)); try (simp only [Act.put, List.setIfInBounds_toArray, List.set_cons_zero, List.set_cons_succ]))
 have hSa : (w2.drew.alloc (.cells #[.int .i64 3, .int .i64 0, .int .i64 (p : Int), .string (s.extract p E)] 48)).cell? ⟨pb, 1, none⟩ = some (.int .i64 (p : Int)) ∧ (w2.drew.alloc (.cells #[.int .i64 3, .int .i64 0, .int .i64 (p : Int), .string (s.extract p E)] 48)).cell? ⟨pb, 2, none⟩ = some (.int .i64 (E : Int)) := ⟨(World.cell?_alloc_lt _ _ _ (by assumption)).trans hS0.1, (World.cell?_alloc_lt _ _ _ (by assumption)).trans hS0.2⟩
 refine lin_call hS0 (by rfl) (fun KK hKK => ?_)
 clear hi hz0 hz1
 go_simp
 refine hKK.out _ _ hSa (fun _ => ?_)
 clear hKK KK hS0
 try (simp only [Act.put, List.setIfInBounds_toArray, List.set_cons_zero, List.set_cons_succ])
 obtain ⟨i0, hi, hz0, hz1, hz2⟩ := info_parts info_tok
 refine lin_call hSa (by rfl) (fun KK hKK => ?_)
 refine wp_append_row _ (.tmp 321) (.tmp 331) 41 rfl w.heap.size 48 i0 (.agg #[.int .i64 0, .int .i64 0, .int .i64 0, .string ⟨#[]⟩]) 4 40 Tryd.underlying41 hi hz0 hz1 hz2 rfl (by omega) _ out.length (toksL out) rfl (RW2.out.own.drew.alloc _) _ (.slice (some ⟨_, 0, none⟩) 1 1) 1 [.int .i64 3, .int .i64 0, .int .i64 (p : Int), .string (s.extract p E)] rfl (row_one4 _ _ _ _ _ _) (by simp [Value.oneCell']) (by unfold maxLen; omega) (by omega) (Nat.le_trans RW2.out.bel.size (by simp)) ?_
 intro v3 y3 hO3 hg3
 have R3 := Lib.hid (RW2.out.drew.app hg3 HTOK.out hO3)
 have hS3 : y3.cell? ⟨pb, 1, none⟩ = some (.int .i64 (p : Int)) ∧ y3.cell? ⟨pb, 2, none⟩ = some (.int .i64 (E : Int)) := ⟨hg3.cell hSa.1 HPB.out, hg3.cell hSa.2 (by first | exact HQB.out | exact HPB.out)⟩
 clear hO3 hg3 hSa hi hz0 hz1 hz2
 refine hKK.out _ _ hS3 (fun _ => ?_)
 clear hKK KK
 try (simp only [Act.put, List.setIfInBounds_toArray, List.set_cons_zero, List.set_cons_succ])
 iterate 1 (refine lin_take (v := ?_) (by assumption) (by rfl) ?_ ?_; rotate_left; (intro x hx; obtain ⟨x0, x1⟩ := hx; go_simp; try (with_reducible rfl)); try (simp only [Act.put, List.setIfInBounds_toArray, List.set_cons_zero, List.set_cons_succ]))
 refine lin_done ?_
 clear hS3
 go_wp2_with fail
 refine ⟨?_, ?_⟩
 ·refine WI.mk ?_
  exact ⟨k + 1, E, f, p + 1, _, rfl, HN.out, by have := HE1.out; have := HBEH.out; have := HEP.out; omega, HLX.out, by have := HE1.out; have := HLEN.out; have := HEP.out; first | omega | (simp; omega), R3.out⟩
 ·exact Wmu_lt (k := k) (m := k + 1) rfl rfl hk (by omega)
end Go.Proofs.YtcaibahniheohaaDoor.Words

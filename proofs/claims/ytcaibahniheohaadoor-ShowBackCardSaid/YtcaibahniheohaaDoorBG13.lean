/- The document's own Split: a case of a round. -/
import Derived.Test.YtcaibahniheohaaDoorBG11
namespace Go.Proofs.YtcaibahniheohaaDoor.Words
set_option maxRecDepth 1000000
open Go.RowKit Go.Shelf Go.Lib
set_option linter.unusedVariables false
set_option maxHeartbeats 4000000 in
theorem split_name (s : ByteArray) (l : List UInt8) (w wr : World) (A : Option Addr) (c k p f b : Nat) (L : List Pt) (Z : LexR) (out : List Tok) (v6 : Value) (c1 c13 c14 c15 c16 c17 : Value) (a : Act) (Q0 : Exit → Act → World → Prop) (hs : s.size ≤ 1000000) (hl : l = s.data.toList) (hT : TabsLB w.heap.size w) (hR : RoundG l L Z w wr A c v6 k p (f + 1) b out) (hk : k < L.length) (hL : L.length ≤ s.size) (hQ : QS s L Z w A c c1 c13 c14 c15 c16 c17 Q0) (hF : FrS s A c L c1 c13 c14 c15 c16 c17 v6 (.int .i64 (k : Int)) a) (hf1 : firstR (runeR (l.drop p)) = true) :
  CaseG s l w wr A c L Z c1 c13 c14 c15 c16 c17 a Q0 := by
 unfold FrS at hF
 iterate 325 (obtain ⟨_, hF⟩ := hF)
 subst hF
 unfold CaseG
 obtain ⟨hA, hbeh, hlex, hlen, hrows⟩ := hR
 obtain ⟨g, hg, hp, hq, hA1⟩ := hA.step hk
 obtain rfl : f = g := by omega
 have HQ := Lib.hid hQ
 have HLEX := Lib.hid hlex
 have HROWS := Lib.hid hrows
 have HA1 := Lib.hid hA1
 have HBEH := Lib.hid hbeh
 have HLEN := Lib.hid hlen
 have HT := Lib.hid hT
 have HLL := Lib.hid hl
 have HPL : Hid (p < l.length) := hp
 obtain ⟨bp, off, hA2, hgl, _⟩ := (Row.of_own hrows.pts).at_ (by omega)
 obtain rfl : A = some ⟨bp, off, none⟩ := hA2
 obtain ⟨e0, e1, e2, e3⟩ := (Row.of_own hrows.pts).pt hq
 have kq : decide ((k : Int) < L.length) = true := decide_eq_true (by omega)
 have kq2 : decide (k < L.length) = true := decide_eq_true hk
 have k0 : (0 : Int) ≤ k := by omega
 have k1 : (k : Int) < L.length := by omega
 have k2 : (L.length : Int) ≤ 1000000 := by omega
 have hp20 : (p : Int) ≤ 1000000 := by have := data_len s; rw [← hl] at this; omega
 have HR := Lib.hid (runeR_range (l.drop p))
 have HW := Lib.hid (wideR_pos (l.drop p))
 have HWI := Lib.hid (wide_in hp)
 have hlx0 := lex_on hlex hp hbeh (at_name (x := S0 b false out) rfl hf1)
 unfold addZ at hlx0
 have hnm := name_place hA.fuel hA.le
 have hnm1 : nameF l (f + 1) p = nameF l f (p + wideR (l.drop p)) := by
  conv => lhs; unfold nameF
  rw [if_pos hp, if_pos (by unfold nameR; rw [hf1]; rfl)]
 rw [hnm1] at hnm
 obtain ⟨d1, d2, d3, d4, _⟩ := first_not hf1
 have hbad := good rfl d3
 obtain ⟨A6, c6, rfl⟩ := (Row.of_own hrows.own).form
 have hot : (out.length : Int) ≤ 1000000 := by omega
 have hot2 : out.length ≤ 1000000 := by omega
 have HLS : Hid (l.length = s.size) := by rw [hl]; exact data_len s
 obtain ⟨nZ, hnZ⟩ : ∃ n, n = nameZ (l.drop p) := ⟨_, rfl⟩
 rw [← hnZ] at hlx0 hnm
 unfold ptAt at e0 e1 e2 e3
 simp only at e0 e1 e2 e3
 obtain ⟨R, hRR⟩ : ∃ R, R = runeR (l.drop p) := ⟨_, rfl⟩
 obtain ⟨E, hEE⟩ : ∃ E, E = p + wideR (l.drop p) := ⟨_, rfl⟩
 have HRR := Lib.hid hRR
 have HEE := Lib.hid hEE
 rw [← hRR] at e0 HR
 rw [← hEE] at e2 HA1 HWI
 have HEP : Hid (p < E) := by have := HW.out; show _ < _; omega
 rw [hbad] at e3
 simp only [Bool.not_false] at e3
 rw [← hEE] at hlx0 hnm
 rw [← hRR] at hf1 d1 d2 d3 d4
 have hbl : R ≠ 32 ∧ R ≠ 9 ∧ R ≠ 13 := by have := of_decide_eq_false (show decide (R = 32 ∨ R = 9 ∨ R = 13) = false from d4); omega
 obtain ⟨b1, b2, b3⟩ := hbl
 have n1 : (R == 32) = false := beq_eq_false_iff_ne.2 (by omega)
 have n2 : (R == 9) = false := beq_eq_false_iff_ne.2 (by omega)
 have n3 : (R == 13) = false := beq_eq_false_iff_ne.2 (by omega)
 have n4 : (R == 35) = false := beq_eq_false_iff_ne.2 (by omega)
 have n5 : (R == 10) = false := beq_eq_false_iff_ne.2 (by omega)
 have HNM : Hid (nameF l f E = p + nZ) := hnm.symm
 have HLX0 : Hid (lexF l f E (S0 (p + nZ) false (out ++ [⟨1, 0, p, (l.drop p).take nZ⟩])) = Z) := hlx0
 have hfR : firstR (R : Int) = true := hf1
 clear hRR hEE hbad hnm hlx0 hnm1 hnZ hf1 d1 d2 d3 d4 b1 b2 b3
 have RW1 := Lib.hid (HROWS.out.go ((Below.refl _ _).alloc (Nat.le_refl _) (.cells #[.int .i32 R, .int .i64 (p : Int), .int .i64 (E : Int), .bool true] 88)))
 obtain ⟨j0, j1, j2, j3⟩ := cell_new wr (.int .i32 R) (.int .i64 (p : Int)) (.int .i64 (E : Int)) (.bool true) 88
 have JC := Lib.hid (And.intro j0 (And.intro j1 (And.intro j2 j3)))
 have hz1 : wr.heap.size < (wr.alloc (.cells #[.int .i32 R, .int .i64 (p : Int), .int .i64 (E : Int), .bool true] 88)).heap.size := by simp
 have HPB0 : Hid (some wr.heap.size ≠ (Value.slice A6 out.length c6).ownBlock) := own_new HROWS.out.own (Nat.le_refl _)
 have HQB0 : Hid (some bp ≠ (Value.slice A6 out.length c6).ownBlock) := apartS HROWS.out.pts HROWS.out.own (by decide) rfl
 have cL : Hid (∀ y, TabsL y → Calls Tryd.prog 35 #[.int .i32 R] y fun e w' => e = .returned (.bool true) ∧ Below y.heap.size y w') := fun y hy => by
  have := refLetter_any (R : Int) y (by have := HR.out; omega) hy
  rwa [hfR] at this
 clear j0 j1 j2 j3 hfR
 clear hA hbeh hlex hlen hrows hA1 hQ hT hl hg hq hp
 conv => arg 2; whnf
 go_wp2_with fail
 generalize hW1 : (wr.alloc (.cells #[.int .i32 R, .int .i64 (p : Int), .int .i64 (E : Int), .bool true] 88)) = W1 at *
 refine (cL.out _ (HT.out _ RW1.out.bel)).mono ?_
 rintro e w2 ⟨rfl, hb2⟩
 obtain ⟨j0, j1, j2, j3⟩ := JC.out
 have RW2 := Lib.hid (RW1.out.go hb2)
 have J0 : w2.cell? ⟨wr.heap.size, 0, none⟩ = some (.int .i32 R) := below_cell hb2 hz1 j0
 have J1 : w2.cell? ⟨wr.heap.size, 1, none⟩ = some (.int .i64 (p : Int)) := below_cell hb2 hz1 j1
 have J2 : w2.cell? ⟨wr.heap.size, 2, none⟩ = some (.int .i64 (E : Int)) := below_cell hb2 hz1 j2
 have J3 : w2.cell? ⟨wr.heap.size, 3, none⟩ = some (.bool true) := below_cell hb2 hz1 j3
 have hz2 : wr.heap.size < w2.heap.size := Nat.lt_of_lt_of_le hz1 hb2.size
 have hgl2 : bp < w2.heap.size := by omega
 clear hb2 hW1 RW1 JC j0 j1 j2 j3 hz1 hgl e0 e1 e2 e3
 generalize wr.heap.size = pb at *
 have NG0 : Hid (NameG l L Z w w2 (some ⟨bp, off, none⟩) c (.slice A6 out.length c6) out k E f p pb (S0 (p + nZ) false (out ++ [⟨1, 0, p, (l.drop p).take nZ⟩]))) := ⟨HA1.out, HLX0.out, RW2.out, J1, hz2, HEP.out⟩
 clear J0 J1 J2 J3
 go_wp2_with fail
 go_loopw [9] (fun q x => ∃ K pp ff : Nat, q = .int .i64 ((K : Int) + 1) ∧ k ≤ K ∧ nameF l ff pp = p + nZ ∧ NameG l L Z w x (some ⟨bp, off, none⟩) c (.slice A6 out.length c6) out K pp ff p pb (S0 (p + nZ) false (out ++ [⟨1, 0, p, (l.drop p).take nZ⟩]))) (fun q _ => L.length - (intOf q).toNat)
 case atStart => exact ⟨k, E, f, rfl, Nat.le_refl _, HNM.out, NG0.out⟩
 case round =>
  obtain ⟨K, pp, ff, rfl, hkK, hnm, hng⟩ := hrel
  have hgt := hng.gt
  by_cases hK : K + 1 < L.length
  ·obtain ⟨gg, rfl, hp2, hq2, hA3⟩ := hng.at_.step hK
   have kt : decide ((K : Int) + 1 < L.length) = true := decide_eq_true (by omega)
   have kt2 : decide (K + 1 < L.length) = true := decide_eq_true (by omega)
   have K0 : (0 : Int) ≤ (K : Int) + 1 := by omega
   have K1 : (K : Int) + 1 < L.length := by omega
   have K2 : ((K : Int) + 1).toNat = K + 1 := by omega
   obtain ⟨f0, _, _, f3⟩ := (Row.of_own hng.rows.pts).pt hq2
   obtain ⟨bq, oq, hAq, hglw, _⟩ := (Row.of_own hng.rows.pts).at_ (by omega)
   obtain ⟨rfl, rfl⟩ : bp = bq ∧ off = oq := by injection hAq with e; injection e with e1 e2; exact ⟨e1, e2⟩
   unfold ptAt at f0 f3
   simp only at f0 f3
   have hnf : nameF l (gg + 1) pp = if nameR (runeR (l.drop pp)) then nameF l gg (pp + wideR (l.drop pp)) else pp := by
    conv => lhs; unfold nameF
    rw [if_pos hp2]
   rw [hnf] at hnm
   have hR2 := runeR_range (l.drop pp)
   have hbf := bad_fffd (l := l) (p := pp)
   have hnle := (nameF_le l gg (pp + wideR (l.drop pp)) hA3.le).1
   have hwp := wideR_pos (l.drop pp)
   have hnext := fun h => hng.next hA3 hp2 h
   obtain ⟨R2, hr2⟩ : ∃ R2, R2 = runeR (l.drop pp) := ⟨_, rfl⟩
   rw [← hr2] at f0 hR2 hbf hnm
   have HF0 := Lib.hid f0
   have HTW := HT.out _ hng.rows.bel
   have HNG := Lib.hid hng
   clear hr2 hA3 hq2 hAq
   cases hb2 : badR (l.drop pp)
   ·rw [hb2] at f3
    simp only [Bool.not_false] at f3
    have cL2 := refLetter_any R2 wr (by omega) HTW
    cases hfr : firstR R2
    ·rw [hfr] at cL2
     have cD2 := Lib.hid (fun y => refDigit_any R2 y (by omega))
     clear hbf hb2
     by_cases hd : digR R2 < 10
     ·rw [show nameR R2 = true from by unfold nameR; rw [hfr, decide_eq_true hd]; rfl, if_pos rfl] at hnm
      have HNM3 := Lib.hid hnm
      have HNX := Lib.hid (hnext (by show pp < p + nZ; omega))
      rw [decide_eq_true hd] at cD2
      clear hnm hnext hng hd hfr hnle hwp HTW
      go_wp2_with fail
      refine cL2.mono ?_
      rintro e w3 ⟨rfl, hb3⟩
      have f0' : w3.cell? ⟨bp, off + (K + 1) * 4, none⟩ = some (.int .i32 R2) := below_cell hb3 hglw HF0.out
      have hglv : bp < w3.heap.size := Nat.lt_of_lt_of_le hglw hb3.size
      have HNX3 := Lib.hid (HNX.out.go hb3)
      clear f0 f3 hb3
      go_wp2_with fail
      refine (cD2.out _).mono ?_
      rintro e w4 ⟨rfl, rfl⟩
      go_wp2_with fail
      go_roundw
      case rel => exact ⟨K + 1, _, gg, rfl, by omega, HNM3.out, HNX3.out⟩
      case measure => simp [intOf]; omega
     ·rw [show nameR R2 = false from by unfold nameR; rw [hfr, decide_eq_false hd]; rfl, if_neg (by decide)] at hnm
      rw [decide_eq_false hd] at cD2
      clear hnext hng hd hfr hnle hwp HTW
      go_wp2_with fail
      refine cL2.mono ?_
      rintro e w3 ⟨rfl, hb3⟩
      have f0' : w3.cell? ⟨bp, off + (K + 1) * 4, none⟩ = some (.int .i32 R2) := below_cell hb3 hglw HF0.out
      have hglv : bp < w3.heap.size := Nat.lt_of_lt_of_le hglw hb3.size
      have HNX3 := Lib.hid (HNG.out.go hb3)
      clear f0 f3 hb3
      go_wp2_with fail
      refine (cD2.out _).mono ?_
      rintro e w4 ⟨rfl, rfl⟩
      have hpe : pp = p + nZ := hnm
      have HPE := Lib.hid hpe
      have HN := Lib.hid HNX3.out.at_
      have HLX := Lib.hid HNX3.out.lex
      have HXR := Lib.hid HNX3.out.rows
      have HZA : Hid (pb < w3.heap.size) := HNX3.out.lt
      obtain ⟨q, hq3, hqe⟩ := HNX3.out.at_.prev (by omega)
      rw [show K + 1 - 1 = K from rfl] at hq3
      obtain ⟨bq, oq, hAq, hglq, _⟩ := (Row.of_own HNX3.out.rows.pts).at_ (by omega)
      obtain ⟨rfl, rfl⟩ : bp = bq ∧ off = oq := by injection hAq with e; injection e with e1 e2; exact ⟨e1, e2⟩
      have HZB : Hid (bp < w3.heap.size) := hglq
      have jq : w3.cell? ⟨bp, off + K * 4 + 2, none⟩ = some (.int .i64 (pp : Int)) := by
       have := ((Row.of_own HNX3.out.rows.pts).pt hq3).2.2.1
       rwa [hqe] at this
      have jp := HNX3.out.cell
      have HPB := HPB0
      have HQB := HQB0
      have kz0 : (0 : Int) ≤ K := by omega
      have kz1 : (K : Int) < L.length := by have := (List.getElem?_eq_some_iff.1 hq3).1; omega
      have kz2 : K < L.length := by omega
      have kz3 : decide (K < L.length) = true := decide_eq_true kz2
      have kz4 : decide ((K : Int) < L.length) = true := decide_eq_true kz1
      have kz5 : decide (0 ≤ (K : Int)) = true := decide_eq_true kz0
      have kz6 : IntKind.i64.wrap (K : Int) = (K : Int) := IntWalk.i64_in _ (by omega)
      have pz0 : (p : Int) ≤ pp := by omega
      have pz1 : (pp : Int) ≤ s.size := by have := HNX3.out.at_.le; have := HLS.out; omega
      have pz2 : (0 : Int) ≤ p := by omega
      have HTOK : Hid ([.int .i64 1, .int .i64 0, .int .i64 (p : Int), .string (s.extract p pp)] = tokL ⟨1, 0, p, (l.drop p).take nZ⟩) := by
       show _ = _
       unfold tokL
       rw [hpe, txt_cut, ← HLL.out]
      clear hpe hq3 hqe hAq hglq hnm
      go_wp2_with fail
      obtain ⟨i0, hi, hz0, hz1, hz2⟩ := info_parts info_tok
      have HI := Lib.hid hz2
      have hS0 : w3.drew.cell? ⟨pb, 1, none⟩ = some (.int .i64 (p : Int)) ∧ w3.drew.cell? ⟨bp, off + K * 4 + 2, none⟩ = some (.int .i64 (pp : Int)) := ⟨jp, jq⟩
      have hzA : pb < w3.drew.heap.size := HZA.out
      have hzB : bp < w3.drew.heap.size := by first | exact HZB.out | exact HZA.out
      clear hz2 jp jq
      refine wp_region_lin [(0, true), (1, true), (2, true), (3, true), (4, true), (5, true), (6, true), (7, true), (8, true), (9, true), (10, true), (11, true), (12, true), (13, true), (14, false), (15, false), (16, true)] (by kernel_rfl) (by kernel_rfl) rfl (by kernel_rfl) (fun x => x.cell? ⟨pb, 1, none⟩ = some (.int .i64 (p : Int)) ∧ x.cell? ⟨bp, off + K * 4 + 2, none⟩ = some (.int .i64 (pp : Int))) ?_
      simp only [List.map_cons, List.map_nil, List.getElem?_toArray, List.getElem?_cons_succ, List.getElem?_cons_zero]
      iterate 12 (refine lin_take (v := ?_) (by assumption) (by rfl) ?_ ?_; rotate_left; (intro x hx; obtain ⟨x0, x1⟩ := hx; go_simp; try (with_reducible rfl)); try (simp only [Act.put, List.setIfInBounds_toArray, List.set_cons_zero, List.set_cons_succ]))
      refine lin_take (v := .string (s.extract p pp)) (by assumption) (by rfl) (fun x hx => ?_) ?_
      ·obtain ⟨x0, x1⟩ := hx
       go_simp
      (simp only [Act.put, List.setIfInBounds_toArray, List.set_cons_zero, List.set_cons_succ])
      iterate 1 (refine lin_take (v := ?_) (by assumption) (by rfl) ?_ ?_; rotate_left; (intro x hx; obtain ⟨x0, x1⟩ := hx; go_simp; try (with_reducible rfl)); try (simp only [Act.put, List.setIfInBounds_toArray, List.set_cons_zero, List.set_cons_succ]))
      have hSa : (w3.drew.alloc (.cells #[.int .i64 1, .int .i64 0, .int .i64 (p : Int), .string (s.extract p pp)] 48)).cell? ⟨pb, 1, none⟩ = some (.int .i64 (p : Int)) ∧ (w3.drew.alloc (.cells #[.int .i64 1, .int .i64 0, .int .i64 (p : Int), .string (s.extract p pp)] 48)).cell? ⟨bp, off + K * 4 + 2, none⟩ = some (.int .i64 (pp : Int)) := ⟨(World.cell?_alloc_lt _ _ _ (by assumption)).trans hS0.1, (World.cell?_alloc_lt _ _ _ (by assumption)).trans hS0.2⟩
      refine lin_call hS0 (by rfl) (fun KK hKK => ?_)
      clear hi hz0 hz1
      go_simp
      refine hKK.out _ _ hSa (fun _ => ?_)
      clear hKK KK hS0
      try (simp only [Act.put, List.setIfInBounds_toArray, List.set_cons_zero, List.set_cons_succ])
      obtain ⟨i0, hi, hz0, hz1, hz2⟩ := info_parts info_tok
      refine lin_call hSa (by rfl) (fun KK hKK => ?_)
      refine wp_append_row _ (.tmp 131) (.tmp 145) 41 rfl w.heap.size 48 i0 (.agg #[.int .i64 0, .int .i64 0, .int .i64 0, .string ⟨#[]⟩]) 4 40 Tryd.underlying41 hi hz0 hz1 hz2 rfl (by omega) _ out.length (toksL out) rfl (HXR.out.own.drew.alloc _) _ (.slice (some ⟨_, 0, none⟩) 1 1) 1 [.int .i64 1, .int .i64 0, .int .i64 (p : Int), .string (s.extract p pp)] rfl (row_one4 _ _ _ _ _ _) (by simp [Value.oneCell']) (by unfold maxLen; omega) (by omega) (Nat.le_trans HXR.out.bel.size (by simp)) ?_
      intro v3 y3 hO3 hg3
      have R3 := Lib.hid (HXR.out.drew.app hg3 HTOK.out hO3)
      have hS3 : y3.cell? ⟨pb, 1, none⟩ = some (.int .i64 (p : Int)) ∧ y3.cell? ⟨bp, off + K * 4 + 2, none⟩ = some (.int .i64 (pp : Int)) := ⟨hg3.cell hSa.1 HPB.out, hg3.cell hSa.2 (by first | exact HQB.out | exact HPB.out)⟩
      clear hO3 hg3 hSa hi hz0 hz1 hz2
      refine hKK.out _ _ hS3 (fun _ => ?_)
      clear hKK KK
      try (simp only [Act.put, List.setIfInBounds_toArray, List.set_cons_zero, List.set_cons_succ])
      iterate 1 (refine lin_take (v := ?_) (by assumption) (by rfl) ?_ ?_; rotate_left; (intro x hx; obtain ⟨x0, x1⟩ := hx; go_simp; try (with_reducible rfl)); try (simp only [Act.put, List.setIfInBounds_toArray, List.set_cons_zero, List.set_cons_succ]))
      refine lin_done ?_
      clear hS3
      go_wp2_with fail
      refine ⟨?_, ?_⟩
      ·refine WI.mk ?_
       exact ⟨K + 1, pp, _, p + nZ, _, rfl, HN.out, by have := HPE.out; have := HBEH.out; have := HEP.out; omega, HLX.out, by have := HPE.out; have := HLEN.out; have := HEP.out; first | omega | (simp; omega), R3.out⟩
      ·exact Wmu_lt (k := k) (m := K + 1) rfl rfl hk (by omega)
    ·rw [hfr] at cL2
     rw [show nameR R2 = true from by unfold nameR; rw [hfr]; rfl, if_pos rfl] at hnm
     have HNM3 := Lib.hid hnm
     have HNX := Lib.hid (hnext (by show pp < p + nZ; omega))
     clear hnm hnext hng hfr hnle hwp HTW hbf hb2
     go_wp2_with fail
     refine cL2.mono ?_
     rintro e w3 ⟨rfl, hb3⟩
     have HNX3 := Lib.hid (HNX.out.go hb3)
     clear f0 f3 hb3
     go_wp2_with fail
     go_roundw
     case rel => exact ⟨K + 1, _, gg, rfl, by omega, HNM3.out, HNX3.out⟩
     case measure => simp [intOf]; omega
   ·rw [hb2] at f3
    simp only [Bool.not_true] at f3
    rw [hbf hb2, show nameR 65533 = false from by decide +kernel, if_neg (by decide)] at hnm
    clear hnext hng hbf hb2 hnle hwp HTW
    have hpe : pp = p + nZ := hnm
    have HPE := Lib.hid hpe
    have HN := Lib.hid HNG.out.at_
    have HLX := Lib.hid HNG.out.lex
    have HXR := Lib.hid HNG.out.rows
    have HZA : Hid (pb < wr.heap.size) := HNG.out.lt
    obtain ⟨q, hq3, hqe⟩ := HNG.out.at_.prev (by omega)
    rw [show K + 1 - 1 = K from rfl] at hq3
    obtain ⟨bq, oq, hAq, hglq, _⟩ := (Row.of_own HNG.out.rows.pts).at_ (by omega)
    obtain ⟨rfl, rfl⟩ : bp = bq ∧ off = oq := by injection hAq with e; injection e with e1 e2; exact ⟨e1, e2⟩
    have HZB : Hid (bp < wr.heap.size) := hglq
    have jq : wr.cell? ⟨bp, off + K * 4 + 2, none⟩ = some (.int .i64 (pp : Int)) := by
     have := ((Row.of_own HNG.out.rows.pts).pt hq3).2.2.1
     rwa [hqe] at this
    have jp := HNG.out.cell
    have HPB := HPB0
    have HQB := HQB0
    have kz0 : (0 : Int) ≤ K := by omega
    have kz1 : (K : Int) < L.length := by have := (List.getElem?_eq_some_iff.1 hq3).1; omega
    have kz2 : K < L.length := by omega
    have kz3 : decide (K < L.length) = true := decide_eq_true kz2
    have kz4 : decide ((K : Int) < L.length) = true := decide_eq_true kz1
    have kz5 : decide (0 ≤ (K : Int)) = true := decide_eq_true kz0
    have kz6 : IntKind.i64.wrap (K : Int) = (K : Int) := IntWalk.i64_in _ (by omega)
    have pz0 : (p : Int) ≤ pp := by omega
    have pz1 : (pp : Int) ≤ s.size := by have := HNG.out.at_.le; have := HLS.out; omega
    have pz2 : (0 : Int) ≤ p := by omega
    have HTOK : Hid ([.int .i64 1, .int .i64 0, .int .i64 (p : Int), .string (s.extract p pp)] = tokL ⟨1, 0, p, (l.drop p).take nZ⟩) := by
     show _ = _
     unfold tokL
     rw [hpe, txt_cut, ← HLL.out]
    clear hpe hq3 hqe hAq hglq hnm
    go_wp2_with fail
    obtain ⟨i0, hi, hz0, hz1, hz2⟩ := info_parts info_tok
    have HI := Lib.hid hz2
    have hS0 : wr.drew.cell? ⟨pb, 1, none⟩ = some (.int .i64 (p : Int)) ∧ wr.drew.cell? ⟨bp, off + K * 4 + 2, none⟩ = some (.int .i64 (pp : Int)) := ⟨jp, jq⟩
    have hzA : pb < wr.drew.heap.size := HZA.out
    have hzB : bp < wr.drew.heap.size := by first | exact HZB.out | exact HZA.out
    clear hz2 jp jq
    refine wp_region_lin [(0, true), (1, true), (2, true), (3, true), (4, true), (5, true), (6, true), (7, true), (8, true), (9, true), (10, true), (11, true), (12, true), (13, true), (14, false), (15, false), (16, true)] (by kernel_rfl) (by kernel_rfl) rfl (by kernel_rfl) (fun x => x.cell? ⟨pb, 1, none⟩ = some (.int .i64 (p : Int)) ∧ x.cell? ⟨bp, off + K * 4 + 2, none⟩ = some (.int .i64 (pp : Int))) ?_
    simp only [List.map_cons, List.map_nil, List.getElem?_toArray, List.getElem?_cons_succ, List.getElem?_cons_zero]
    iterate 12 (refine lin_take (v := ?_) (by assumption) (by rfl) ?_ ?_; rotate_left; (intro x hx; obtain ⟨x0, x1⟩ := hx; go_simp; try (with_reducible rfl)); try (simp only [Act.put, List.setIfInBounds_toArray, List.set_cons_zero, List.set_cons_succ]))
    refine lin_take (v := .string (s.extract p pp)) (by assumption) (by rfl) (fun x hx => ?_) ?_
    ·obtain ⟨x0, x1⟩ := hx
     go_simp
    (simp only [Act.put, List.setIfInBounds_toArray, List.set_cons_zero, List.set_cons_succ])
    iterate 1 (refine lin_take (v := ?_) (by assumption) (by rfl) ?_ ?_; rotate_left; (intro x hx; obtain ⟨x0, x1⟩ := hx; go_simp; try (with_reducible rfl)); try (simp only [Act.put, List.setIfInBounds_toArray, List.set_cons_zero, List.set_cons_succ]))
    have hSa : (wr.drew.alloc (.cells #[.int .i64 1, .int .i64 0, .int .i64 (p : Int), .string (s.extract p pp)] 48)).cell? ⟨pb, 1, none⟩ = some (.int .i64 (p : Int)) ∧ (wr.drew.alloc (.cells #[.int .i64 1, .int .i64 0, .int .i64 (p : Int), .string (s.extract p pp)] 48)).cell? ⟨bp, off + K * 4 + 2, none⟩ = some (.int .i64 (pp : Int)) := ⟨(World.cell?_alloc_lt _ _ _ (by assumption)).trans hS0.1, (World.cell?_alloc_lt _ _ _ (by assumption)).trans hS0.2⟩
    refine lin_call hS0 (by rfl) (fun KK hKK => ?_)
    clear hi hz0 hz1
    go_simp
    refine hKK.out _ _ hSa (fun _ => ?_)
    clear hKK KK hS0
    try (simp only [Act.put, List.setIfInBounds_toArray, List.set_cons_zero, List.set_cons_succ])
    obtain ⟨i0, hi, hz0, hz1, hz2⟩ := info_parts info_tok
    refine lin_call hSa (by rfl) (fun KK hKK => ?_)
    refine wp_append_row _ (.tmp 131) (.tmp 145) 41 rfl w.heap.size 48 i0 (.agg #[.int .i64 0, .int .i64 0, .int .i64 0, .string ⟨#[]⟩]) 4 40 Tryd.underlying41 hi hz0 hz1 hz2 rfl (by omega) _ out.length (toksL out) rfl (HXR.out.own.drew.alloc _) _ (.slice (some ⟨_, 0, none⟩) 1 1) 1 [.int .i64 1, .int .i64 0, .int .i64 (p : Int), .string (s.extract p pp)] rfl (row_one4 _ _ _ _ _ _) (by simp [Value.oneCell']) (by unfold maxLen; omega) (by omega) (Nat.le_trans HXR.out.bel.size (by simp)) ?_
    intro v3 y3 hO3 hg3
    have R3 := Lib.hid (HXR.out.drew.app hg3 HTOK.out hO3)
    have hS3 : y3.cell? ⟨pb, 1, none⟩ = some (.int .i64 (p : Int)) ∧ y3.cell? ⟨bp, off + K * 4 + 2, none⟩ = some (.int .i64 (pp : Int)) := ⟨hg3.cell hSa.1 HPB.out, hg3.cell hSa.2 (by first | exact HQB.out | exact HPB.out)⟩
    clear hO3 hg3 hSa hi hz0 hz1 hz2
    refine hKK.out _ _ hS3 (fun _ => ?_)
    clear hKK KK
    try (simp only [Act.put, List.setIfInBounds_toArray, List.set_cons_zero, List.set_cons_succ])
    iterate 1 (refine lin_take (v := ?_) (by assumption) (by rfl) ?_ ?_; rotate_left; (intro x hx; obtain ⟨x0, x1⟩ := hx; go_simp; try (with_reducible rfl)); try (simp only [Act.put, List.setIfInBounds_toArray, List.set_cons_zero, List.set_cons_succ]))
    refine lin_done ?_
    clear hS3
    go_wp2_with fail
    refine ⟨?_, ?_⟩
    ·refine WI.mk ?_
     exact ⟨K + 1, pp, _, p + nZ, _, rfl, HN.out, by have := HPE.out; have := HBEH.out; have := HEP.out; omega, HLX.out, by have := HPE.out; have := HLEN.out; have := HEP.out; first | omega | (simp; omega), R3.out⟩
    ·exact Wmu_lt (k := k) (m := K + 1) rfl rfl hk (by omega)
  ·have hst := hng.at_.stop hK
   have HNG := Lib.hid hng
   have hnm2 : pp = p + nZ := by
    rw [← hnm]
    cases ff with
    | zero => rfl
    | succ f => unfold nameF; rw [if_neg hst]
   have kt : decide ((K : Int) + 1 < L.length) = false := decide_eq_false (by omega)
   have kt2 : decide (K + 1 < L.length) = false := decide_eq_false (by omega)
   clear hng hnm hst
   have hpe : pp = p + nZ := hnm2
   have HPE := Lib.hid hpe
   have HN := Lib.hid HNG.out.at_
   have HLX := Lib.hid HNG.out.lex
   have HXR := Lib.hid HNG.out.rows
   have HZA : Hid (pb < wr.heap.size) := HNG.out.lt
   obtain ⟨q, hq3, hqe⟩ := HNG.out.at_.prev (by omega)
   rw [show K + 1 - 1 = K from rfl] at hq3
   obtain ⟨bq, oq, hAq, hglq, _⟩ := (Row.of_own HNG.out.rows.pts).at_ (by omega)
   obtain ⟨rfl, rfl⟩ : bp = bq ∧ off = oq := by injection hAq with e; injection e with e1 e2; exact ⟨e1, e2⟩
   have HZB : Hid (bp < wr.heap.size) := hglq
   have jq : wr.cell? ⟨bp, off + K * 4 + 2, none⟩ = some (.int .i64 (pp : Int)) := by
    have := ((Row.of_own HNG.out.rows.pts).pt hq3).2.2.1
    rwa [hqe] at this
   have jp := HNG.out.cell
   have HPB := HPB0
   have HQB := HQB0
   have kz0 : (0 : Int) ≤ K := by omega
   have kz1 : (K : Int) < L.length := by have := (List.getElem?_eq_some_iff.1 hq3).1; omega
   have kz2 : K < L.length := by omega
   have kz3 : decide (K < L.length) = true := decide_eq_true kz2
   have kz4 : decide ((K : Int) < L.length) = true := decide_eq_true kz1
   have kz5 : decide (0 ≤ (K : Int)) = true := decide_eq_true kz0
   have kz6 : IntKind.i64.wrap (K : Int) = (K : Int) := IntWalk.i64_in _ (by omega)
   have pz0 : (p : Int) ≤ pp := by omega
   have pz1 : (pp : Int) ≤ s.size := by have := HNG.out.at_.le; have := HLS.out; omega
   have pz2 : (0 : Int) ≤ p := by omega
   have HTOK : Hid ([.int .i64 1, .int .i64 0, .int .i64 (p : Int), .string (s.extract p pp)] = tokL ⟨1, 0, p, (l.drop p).take nZ⟩) := by
    show _ = _
    unfold tokL
    rw [hpe, txt_cut, ← HLL.out]
   clear hpe hq3 hqe hAq hglq hnm2
   go_wp2_with fail
   obtain ⟨i0, hi, hz0, hz1, hz2⟩ := info_parts info_tok
   have HI := Lib.hid hz2
   have hS0 : wr.drew.cell? ⟨pb, 1, none⟩ = some (.int .i64 (p : Int)) ∧ wr.drew.cell? ⟨bp, off + K * 4 + 2, none⟩ = some (.int .i64 (pp : Int)) := ⟨jp, jq⟩
   have hzA : pb < wr.drew.heap.size := HZA.out
   have hzB : bp < wr.drew.heap.size := by first | exact HZB.out | exact HZA.out
   clear hz2 jp jq
   refine wp_region_lin [(0, true), (1, true), (2, true), (3, true), (4, true), (5, true), (6, true), (7, true), (8, true), (9, true), (10, true), (11, true), (12, true), (13, true), (14, false), (15, false), (16, true)] (by kernel_rfl) (by kernel_rfl) rfl (by kernel_rfl) (fun x => x.cell? ⟨pb, 1, none⟩ = some (.int .i64 (p : Int)) ∧ x.cell? ⟨bp, off + K * 4 + 2, none⟩ = some (.int .i64 (pp : Int))) ?_
   simp only [List.map_cons, List.map_nil, List.getElem?_toArray, List.getElem?_cons_succ, List.getElem?_cons_zero]
   iterate 12 (refine lin_take (v := ?_) (by assumption) (by rfl) ?_ ?_; rotate_left; (intro x hx; obtain ⟨x0, x1⟩ := hx; go_simp; try (with_reducible rfl)); try (simp only [Act.put, List.setIfInBounds_toArray, List.set_cons_zero, List.set_cons_succ]))
   refine lin_take (v := .string (s.extract p pp)) (by assumption) (by rfl) (fun x hx => ?_) ?_
   ·obtain ⟨x0, x1⟩ := hx
    go_simp
   (simp only [Act.put, List.setIfInBounds_toArray, List.set_cons_zero, List.set_cons_succ])
   iterate 1 (refine lin_take (v := ?_) (by assumption) (by rfl) ?_ ?_; rotate_left; (intro x hx; obtain ⟨x0, x1⟩ := hx; go_simp; try (with_reducible rfl)); try (simp only [Act.put, List.setIfInBounds_toArray, List.set_cons_zero, List.set_cons_succ]))
   have hSa : (wr.drew.alloc (.cells #[.int .i64 1, .int .i64 0, .int .i64 (p : Int), .string (s.extract p pp)] 48)).cell? ⟨pb, 1, none⟩ = some (.int .i64 (p : Int)) ∧ (wr.drew.alloc (.cells #[.int .i64 1, .int .i64 0, .int .i64 (p : Int), .string (s.extract p pp)] 48)).cell? ⟨bp, off + K * 4 + 2, none⟩ = some (.int .i64 (pp : Int)) := ⟨(World.cell?_alloc_lt _ _ _ (by assumption)).trans hS0.1, (World.cell?_alloc_lt _ _ _ (by assumption)).trans hS0.2⟩
   refine lin_call hS0 (by rfl) (fun KK hKK => ?_)
   clear hi hz0 hz1
   go_simp
   refine hKK.out _ _ hSa (fun _ => ?_)
   clear hKK KK hS0
   try (simp only [Act.put, List.setIfInBounds_toArray, List.set_cons_zero, List.set_cons_succ])
   obtain ⟨i0, hi, hz0, hz1, hz2⟩ := info_parts info_tok
   refine lin_call hSa (by rfl) (fun KK hKK => ?_)
   refine wp_append_row _ (.tmp 131) (.tmp 145) 41 rfl w.heap.size 48 i0 (.agg #[.int .i64 0, .int .i64 0, .int .i64 0, .string ⟨#[]⟩]) 4 40 Tryd.underlying41 hi hz0 hz1 hz2 rfl (by omega) _ out.length (toksL out) rfl (HXR.out.own.drew.alloc _) _ (.slice (some ⟨_, 0, none⟩) 1 1) 1 [.int .i64 1, .int .i64 0, .int .i64 (p : Int), .string (s.extract p pp)] rfl (row_one4 _ _ _ _ _ _) (by simp [Value.oneCell']) (by unfold maxLen; omega) (by omega) (Nat.le_trans HXR.out.bel.size (by simp)) ?_
   intro v3 y3 hO3 hg3
   have R3 := Lib.hid (HXR.out.drew.app hg3 HTOK.out hO3)
   have hS3 : y3.cell? ⟨pb, 1, none⟩ = some (.int .i64 (p : Int)) ∧ y3.cell? ⟨bp, off + K * 4 + 2, none⟩ = some (.int .i64 (pp : Int)) := ⟨hg3.cell hSa.1 HPB.out, hg3.cell hSa.2 (by first | exact HQB.out | exact HPB.out)⟩
   clear hO3 hg3 hSa hi hz0 hz1 hz2
   refine hKK.out _ _ hS3 (fun _ => ?_)
   clear hKK KK
   try (simp only [Act.put, List.setIfInBounds_toArray, List.set_cons_zero, List.set_cons_succ])
   iterate 1 (refine lin_take (v := ?_) (by assumption) (by rfl) ?_ ?_; rotate_left; (intro x hx; obtain ⟨x0, x1⟩ := hx; go_simp; try (with_reducible rfl)); try (simp only [Act.put, List.setIfInBounds_toArray, List.set_cons_zero, List.set_cons_succ]))
   refine lin_done ?_
   clear hS3
   go_wp2_with fail
   refine ⟨?_, ?_⟩
   ·refine WI.mk ?_
    exact ⟨K + 1, pp, _, p + nZ, _, rfl, HN.out, by have := HPE.out; have := HBEH.out; have := HEP.out; omega, HLX.out, by have := HPE.out; have := HLEN.out; have := HEP.out; first | omega | (simp; omega), R3.out⟩
   ·exact Wmu_lt (k := k) (m := K + 1) rfl rfl hk (by omega)
end Go.Proofs.YtcaibahniheohaaDoor.Words

/- Several texts in one: RefSplitHexI, RefSplitHexR, RefSplitNegI. -/
import Derived.Test.YtcaibahniheohaaDoorBG16

/- The document's own Split: a case of a round. -/
namespace Go.Proofs.YtcaibahniheohaaDoor.Words
set_option maxRecDepth 1000000
open Go.RowKit Go.Shelf Go.Lib
set_option linter.unusedVariables false
set_option maxHeartbeats 4000000 in
theorem split_hexi (s : ByteArray) (l : List UInt8) (w wr : World) (A : Option Addr) (c k p f b : Nat) (L : List Pt) (Z : LexR) (out : List Tok) (v6 : Value) (c1 c13 c14 c15 c16 c17 : Value) (a : Act) (Q0 : Exit → Act → World → Prop) (hs : s.size ≤ 1000000) (hl : l = s.data.toList) (hT : TabsLB w.heap.size w) (hR : RoundG l L Z w wr A c v6 k p (f + 1) b out) (hk : k < L.length) (hL : L.length ≤ s.size) (hQ : QS s L Z w A c c1 c13 c14 c15 c16 c17 Q0) (hF : FrS s A c L c1 c13 c14 c15 c16 c17 v6 (.int .i64 (k : Int)) a) (hx : hexAt l p) (hrg : (numZ (l.drop p)).1 ≤ 4294967296) :
  CaseG s l w wr A c L Z c1 c13 c14 c15 c16 c17 a Q0 := by
 unfold FrS at hF
 iterate 325 (obtain ⟨_, hF⟩ := hF)
 subst hF
 unfold CaseG
 obtain ⟨hA, hbeh, hlex, hlen, hrows⟩ := hR
 obtain ⟨g, hg, hp, hq, hA1⟩ := hA.step hk
 obtain rfl : f = g := by omega
 have HQ := Lib.hid hQ
 have HLEX := Lib.hid hlex
 have HROWS := Lib.hid hrows
 have HA1 := Lib.hid hA1
 have HBEH := Lib.hid hbeh
 have HLEN := Lib.hid hlen
 have HT := Lib.hid hT
 have HLL := Lib.hid hl
 have HPL : Hid (p < l.length) := hp
 obtain ⟨bp, off, hA2, hgl, _⟩ := (Row.of_own hrows.pts).at_ (by omega)
 obtain rfl : A = some ⟨bp, off, none⟩ := hA2
 obtain ⟨e0, e1, e2, e3⟩ := (Row.of_own hrows.pts).pt hq
 have kq : decide ((k : Int) < L.length) = true := decide_eq_true (by omega)
 have kq2 : decide (k < L.length) = true := decide_eq_true hk
 have k0 : (0 : Int) ≤ k := by omega
 have k1 : (k : Int) < L.length := by omega
 have k2 : (L.length : Int) ≤ 1000000 := by omega
 have hp20 : (p : Int) ≤ 1000000 := by have := data_len s; rw [← hl] at this; omega
 have HR := Lib.hid (runeR_range (l.drop p))
 have HW := Lib.hid (wideR_pos (l.drop p))
 have HWI := Lib.hid (wide_in hp)
 obtain ⟨x1, x2, x3, x4, x5⟩ := hx
 have hx' : hexAt l p := ⟨x1, x2, x3, x4, x5⟩
 obtain ⟨t, ht, _, hw1⟩ := drop_cons (c := 48) hp (by omega) x1
 obtain ⟨t2, ht2, _, hw2⟩ := drop_cons (c := 120) x2 (by omega) x3
 rw [hw1] at hA1
 obtain ⟨f1, rfl, _, hq1, hA2⟩ := hA1.step (hA1.lt.2 x2)
 rw [hw2, show p + 1 + 1 = p + 2 from rfl, show k + 1 + 1 = k + 2 from rfl] at hA2
 have hk2 := hA2.lt.2 x4
 obtain ⟨f2, rfl, _, hq2, _⟩ := hA2.step hk2
 obtain ⟨m1, m2, m3⟩ := num_hex hx' hp hA2.fuel
 have hb2 : badR (l.drop (p + 2)) = false := good rfl (fun e => by rw [e] at x5; exact absurd x5 (by decide))
 have hbad := good x1 (by decide)
 have hoth := at_other (x := S0 b false out) rfl hbad (by omega) (by omega) (by rw [x1]; decide) (by rw [x1]; decide +kernel) (by rw [x1]; decide)
 obtain ⟨nz, hnz⟩ : ∃ n, n = (numZ (l.drop p)).1 := ⟨_, rfl⟩
 obtain ⟨sz, hsz⟩ : ∃ n, n = (numZ (l.drop p)).2 := ⟨_, rfl⟩
 have he2 := digF_pos 16 hA2.fuel x4 x5
 have HD0 : Hid (DigG l L 16 (k + 2) (k + 1) (p + 2) (f2 + 1) 0 nz (p + sz)) := by
  have := DigG.start l L 16 (k + 1) (p + 2) (f2 + 1)
  rw [← m1, ← m2, ← hnz, ← hsz] at this
  exact this
 unfold numberZ at hoth
 rw [← hnz, ← hsz, if_neg (by omega)] at hoth
 rw [← m2, ← hsz] at he2
 rw [← hnz] at hrg
 rw [if_neg (by have := numZ_range (l.drop p); have := digF_range l 16 (by omega) (f2 + 1) (p + 2) 0 (by omega) (by omega); rw [← m1, ← hnz] at this; omega)] at hoth
 have hlx0 := lex_on hlex hp hbeh hoth
 unfold addZ at hlx0
 rw [hw1] at hlx0
 have hlx1 := lex_over (f := f2 + 1) (x := (S0 (p + sz) false (out ++ [⟨2, nz, p, (l.drop p).take sz⟩]))) x2 (by show p + 1 < p + sz; omega)
 rw [hw2, show p + 1 + 1 = p + 2 from rfl] at hlx1
 rw [hlx1] at hlx0
 obtain ⟨A6, c6, rfl⟩ := (Row.of_own hrows.own).form
 obtain ⟨uc, _⟩ := (Row.of_own hrows.pts).cap
 have hot : (out.length : Int) ≤ 1000000 := by omega
 have hot2 : out.length ≤ 1000000 := by omega
 have HLS : Hid (l.length = s.size) := by rw [hl]; exact data_len s
 have HQ1 := Lib.hid hq1
 have HQ2 := Lib.hid hq2
 have HA2 := Lib.hid hA2
 unfold ptAt at e0 e1 e2 e3
 simp only at e0 e1 e2 e3
 obtain ⟨R, hRR⟩ : ∃ R, R = runeR (l.drop p) := ⟨_, rfl⟩
 obtain ⟨E, hEE⟩ : ∃ E, E = p + wideR (l.drop p) := ⟨_, rfl⟩
 have HRR := Lib.hid hRR
 have HEE := Lib.hid hEE
 rw [← hRR] at e0 HR
 rw [← hEE] at e2 HWI
 have HEP : Hid (p < E) := by have := HW.out; show _ < _; omega
 rw [hbad] at e3
 simp only [Bool.not_false] at e3
 have hE1 : E = p + 1 := by omega
 have HE1 := Lib.hid hE1
 rw [← hRR] at x1
 subst x1
 have hfR : firstR (48 : Int) = false := by decide +kernel
 have HR1 : Hid (runeR (l.drop (p + 1)) = 120) := x3
 have HX5 : Hid (digR (runeR (l.drop (p + 2))) < 16) := x5
 have HB2 := Lib.hid hb2
 have HE2 := Lib.hid he2
 have HK2 := Lib.hid hk2
 have HLX0 := Lib.hid hlx0
 clear hlx0 hlx1
 clear hRR hEE hbad hE1 x2 x3 x4 x5 hx' ht hw1 ht2 hw2 hq1 hq2 hA2 hk2 m1 m2 m3 hb2 hoth he2 hnz hsz
 have RW1 := Lib.hid (HROWS.out.go ((Below.refl _ _).alloc (Nat.le_refl _) (.cells #[.int .i32 48, .int .i64 (p : Int), .int .i64 (E : Int), .bool true] 88)))
 obtain ⟨j0, j1, j2, j3⟩ := cell_new wr (.int .i32 48) (.int .i64 (p : Int)) (.int .i64 (E : Int)) (.bool true) 88
 have JC := Lib.hid (And.intro j0 (And.intro j1 (And.intro j2 j3)))
 have hz1 : wr.heap.size < (wr.alloc (.cells #[.int .i32 48, .int .i64 (p : Int), .int .i64 (E : Int), .bool true] 88)).heap.size := by simp
 have HPB0 : Hid (some wr.heap.size ≠ (Value.slice A6 out.length c6).ownBlock) := own_new HROWS.out.own (Nat.le_refl _)
 have HQB0 : Hid (some bp ≠ (Value.slice A6 out.length c6).ownBlock) := apartS HROWS.out.pts HROWS.out.own (by decide) rfl
 have cL : Hid (∀ y, TabsL y → Calls Tryd.prog 35 #[.int .i32 48] y fun e w' => e = .returned (.bool false) ∧ Below y.heap.size y w') := fun y hy => by
  have := refLetter_any (48 : Int) y (by have := HR.out; omega) hy
  rwa [hfR] at this
 clear j0 j1 j2 j3 hfR
 clear hA hbeh hlex hlen hrows hA1 hQ hT hl hg hq hp
 conv => arg 2; whnf
 go_wp2_with fail
 generalize hW1 : (wr.alloc (.cells #[.int .i32 48, .int .i64 (p : Int), .int .i64 (E : Int), .bool true] 88)) = W1 at *
 refine (cL.out _ (HT.out _ RW1.out.bel)).mono ?_
 rintro e w2 ⟨rfl, hb2⟩
 obtain ⟨j0, j1, j2, j3⟩ := JC.out
 have RW2 := Lib.hid (RW1.out.go hb2)
 have J0 : w2.cell? ⟨wr.heap.size, 0, none⟩ = some (.int .i32 48) := below_cell hb2 hz1 j0
 have J1 : w2.cell? ⟨wr.heap.size, 1, none⟩ = some (.int .i64 (p : Int)) := below_cell hb2 hz1 j1
 have J2 : w2.cell? ⟨wr.heap.size, 2, none⟩ = some (.int .i64 (E : Int)) := below_cell hb2 hz1 j2
 have J3 : w2.cell? ⟨wr.heap.size, 3, none⟩ = some (.bool true) := below_cell hb2 hz1 j3
 have hz2 : wr.heap.size < w2.heap.size := Nat.lt_of_lt_of_le hz1 hb2.size
 have hgl2 : bp < w2.heap.size := by omega
 clear hb2 hW1 RW1 JC j0 j1 j2 j3 hz1 hgl e0 e1 e2 e3
 generalize wr.heap.size = pb at *
 have hk2 := HK2.out
 have F1 : w2.cell? ⟨bp, off + (k + 1) * 4, none⟩ = some (.int .i32 120) := by
  have h4 := ((Row.of_own RW2.out.pts).pt HQ1.out).1
  unfold ptAt at h4
  rw [← HR1.out]
  exact h4
 obtain ⟨F2, _, _, F3⟩ := (Row.of_own RW2.out.pts).pt HQ2.out
 unfold ptAt at F2 F3
 simp only [HB2.out, Bool.not_false] at F2 F3
 have hR2 := runeR_range (l.drop (p + 2))
 have hhx : hexG (runeR (l.drop (p + 2))) = digR (runeR (l.drop (p + 2))) := hexG_dig HX5.out
 have hdr := digR_range (runeR (l.drop (p + 2)))
 have cH : Hid (∀ y, Calls Tryd.prog 37 #[.int .i32 (runeR (l.drop (p + 2)))] y fun e w' => e = .returned (.int .i64 (digR (runeR (l.drop (p + 2))))) ∧ y = w') := fun y => by
  have := refHex_any (runeR (l.drop (p + 2))) y (by omega)
  rwa [hhx] at this
 generalize runeR (l.drop (p + 2)) = R2 at *
 generalize digR R2 = D2 at *
 have t1 : decide ((k : Int) + 1 + 1 < L.length) = true := decide_eq_true (by omega)
 have t1' : decide ((k : Int) + 2 < L.length) = true := decide_eq_true (by omega)
 have t2 : decide (k + 2 < L.length) = true := decide_eq_true hk2
 have t3 : (k : Int) + 1 < L.length := by omega
 have t3' : (k : Int) + 2 < L.length := by omega
 have t4 : (0 : Int) ≤ (k : Int) + 1 := by omega
 have t4' : (0 : Int) ≤ (k : Int) + 2 := by omega
 have t5 : ((k : Int) + 1).toNat = k + 1 := by omega
 have t6 : ((k : Int) + 2).toNat = k + 2 := by omega
 have t7 : (k : Int) + 1 + 1 = (k : Int) + 2 := by omega
 have t8 : decide (0 ≤ D2) = true := decide_eq_true hdr.1
 have t9 : decide ((k : Int) < L.length) = true := kq
 clear hhx
 go_wp2_with fail
 refine (cH.out _).mono ?_
 rintro e w3 ⟨rfl, rfl⟩
 go_wp2_with fail
 go_loopw [9] (fun q x => ∃ (K pp ff : Nat) (n : Int), q = .int .i64 ((K : Int) + 1) ∧ k + 1 ≤ K ∧ (K = k + 1 → pp = p + 2) ∧ DigG l L 16 (k + 2) K pp ff n nz (p + sz) ∧ NameG l L Z w x (some ⟨bp, off, none⟩) c (.slice A6 out.length c6) out K pp ff p pb (S0 (p + sz) false (out ++ [⟨2, nz, p, (l.drop p).take sz⟩]))) (fun q _ => L.length - (intOf q).toNat)
 case atStart => exact ⟨k + 1, p + 2, f2 + 1, 0, by first | rfl | exact congrArg (Value.int .i64) (by omega), Nat.le_refl _, fun _ => rfl, HD0.out, ⟨HA2.out, HLX0.out, RW2.out, J1, hz2, by omega⟩⟩
 case round =>
  obtain ⟨K, pp, ff, n, rfl, hkK, hk1p, hdg, hng⟩ := hrel
  have hgt := hng.gt
  clear F1 F2 F3 J0 J1 J2 J3 t1 t1' t2 t3 t3' t4 t4' t5 t6 t7
  by_cases hK : K + 1 < L.length
  ·obtain ⟨gg, rfl, hp2, hq2, hA3⟩ := hng.at_.step hK
   have kt : decide ((K : Int) + 1 < L.length) = true := decide_eq_true (by omega)
   have kt2 : decide (K + 1 < L.length) = true := decide_eq_true (by omega)
   have K0 : (0 : Int) ≤ (K : Int) + 1 := by omega
   have K1 : (K : Int) + 1 < L.length := by omega
   have K2 : ((K : Int) + 1).toNat = K + 1 := by omega
   obtain ⟨f0, _, _, _⟩ := (Row.of_own hng.rows.pts).pt hq2
   obtain ⟨bq, oq, hAq, hglw, _⟩ := (Row.of_own hng.rows.pts).at_ (by omega)
   obtain ⟨rfl, rfl⟩ : bp = bq ∧ off = oq := by injection hAq with e; injection e with e1 e2; exact ⟨e1, e2⟩
   unfold ptAt at f0
   simp only at f0
   have hR3 := runeR_range (l.drop pp)
   have cH3 := Lib.hid (fun y => refHex_any (runeR (l.drop pp)) y (by omega))
   by_cases hd : digR (runeR (l.drop pp)) < 16
   ·have HDN := Lib.hid (hdg.next (by omega) hp2 hq2 hd)
    have HNX := Lib.hid (hng.next hA3 hp2 (hdg.more hp2 hd))
    have g0 : decide (0 ≤ hexG (runeR (l.drop pp))) = true := decide_eq_true (hexG_pos.2 hd)
    clear hdg hng hd hA3 hq2 hAq
    generalize hexG (runeR (l.drop pp)) = H3 at *
    generalize hR4 : runeR (l.drop pp) = R3 at f0 cH3 hR3
    clear hR4
    go_wp2_with fail
    refine (cH3.out _).mono ?_
    rintro e w4 ⟨rfl, rfl⟩
    go_wp2_with fail
    go_roundw
    case rel => exact ⟨K + 1, _, gg, _, rfl, by omega, fun e => by omega, HDN.out, HNX.out⟩
    case measure => simp [intOf]; omega
   ·have g0 : decide (0 ≤ hexG (runeR (l.drop pp))) = false := decide_eq_false (fun h => hd (hexG_pos.1 h))
    have hst : ¬ pp < l.length ∨ 16 ≤ digR (runeR (l.drop pp)) := .inr (by omega)
    clear hd hA3 hq2 hAq
    generalize hexG (runeR (l.drop pp)) = H3 at *
    go_wp2_with fail
    refine (cH3.out _).mono ?_
    rintro e w4 ⟨rfl, rfl⟩
    obtain ⟨e1, e2⟩ := hdg.stop hst
    have hKlt : k + 2 < K + 1 := by
     have := HE2.out
     by_cases e : K = k + 1
     ·have := hk1p e; omega
     ·omega
    have hKle : K + 1 ≤ L.length := by
     obtain ⟨q, hq3, _⟩ := hng.at_.prev (by omega)
     rw [show K + 1 - 1 = K from rfl] at hq3
     exact (List.getElem?_eq_some_iff.1 hq3).1
    have s1 : (k : Int) + 2 ≤ (K : Int) + 1 := by omega
    have s2 : (K : Int) + 1 ≤ c := by omega
    have s3 : (0 : Int) ≤ (k : Int) + 2 := by omega
    have s4 : ((K : Int) + 1).toNat = K + 1 := by omega
    have s5 : ((k : Int) + 2).toNat = k + 2 := by omega
    have s6 : (k : Int) + 2 < c := by omega
    have HDG := Lib.hid hdg
    have HNG := Lib.hid hng
    obtain ⟨bn, on, hAn, hgln, _⟩ := (Row.of_own hng.rows.pts).at_ (by omega)
    obtain ⟨rfl, rfl⟩ : bp = bn ∧ off = on := by injection hAn with e; injection e with e1 e2; exact ⟨e1, e2⟩
    have cN := Lib.hid (refNumber_any bp (off + (k + 2) * 4) (c - (k + 2)) (K - (k + 1)) 16 ((L.drop (k + 2)).take (K + 1 - (k + 2))) wr (by rw [List.length_take, List.length_drop]; omega) (by omega) (.inr rfl) (fun j q hj => by
     have hj2 : L[k + 2 + j]? = some q := by
      rw [List.getElem?_take] at hj
      split at hj
      ·rw [List.getElem?_drop] at hj; exact hj
      ·cases hj
     have := ((Row.of_own hng.rows.pts).pt hj2).1
     rw [show off + (k + 2) * 4 + j * 4 = off + (k + 2 + j) * 4 by omega]
     exact this) hgln (fun q hq => (hdg.all q hq).1) (fun q hq => (hdg.all q hq).2))
    have hsim := hdg.sim
    rw [e1] at hsim
    have hval := hsim.eq hrg
    rw [hval] at cN
    have hgt2 : decide (4294967296 < nz) = false := decide_eq_false (by omega)
    have hnn : 0 ≤ nz := by have := hdg.pos; omega
    have hpe : pp = p + sz := e2
    have HPE := Lib.hid hpe
    have HN := Lib.hid HNG.out.at_
    have HLX := Lib.hid HNG.out.lex
    have HXR := Lib.hid HNG.out.rows
    have HZA : Hid (pb < wr.heap.size) := HNG.out.lt
    obtain ⟨q, hq3, hqe⟩ := HNG.out.at_.prev (by omega)
    rw [show K + 1 - 1 = K from rfl] at hq3
    obtain ⟨bq, oq, hAq, hglq, _⟩ := (Row.of_own HNG.out.rows.pts).at_ (by omega)
    obtain ⟨rfl, rfl⟩ : bp = bq ∧ off = oq := by injection hAq with e; injection e with e1 e2; exact ⟨e1, e2⟩
    have HZB : Hid (bp < wr.heap.size) := hglq
    have jq : wr.cell? ⟨bp, off + K * 4 + 2, none⟩ = some (.int .i64 (pp : Int)) := by
     have := ((Row.of_own HNG.out.rows.pts).pt hq3).2.2.1
     rwa [hqe] at this
    have jp := HNG.out.cell
    have HPB := HPB0
    have HQB := HQB0
    have kz0 : (0 : Int) ≤ K := by omega
    have kz1 : (K : Int) < L.length := by have := (List.getElem?_eq_some_iff.1 hq3).1; omega
    have kz2 : K < L.length := by omega
    have kz3 : decide (K < L.length) = true := decide_eq_true kz2
    have kz4 : decide ((K : Int) < L.length) = true := decide_eq_true kz1
    have kz5 : decide (0 ≤ (K : Int)) = true := decide_eq_true kz0
    have kz6 : IntKind.i64.wrap (K : Int) = (K : Int) := IntWalk.i64_in _ (by omega)
    have pz0 : (p : Int) ≤ pp := by omega
    have pz1 : (pp : Int) ≤ s.size := by have := HNG.out.at_.le; have := HLS.out; omega
    have pz2 : (0 : Int) ≤ p := by omega
    have HTOK : Hid ([.int .i64 2, .int .i64 nz, .int .i64 (p : Int), .string (s.extract p pp)] = tokL ⟨2, nz, p, (l.drop p).take sz⟩) := by
     show _ = _
     unfold tokL
     rw [hpe, txt_cut, ← HLL.out]
    clear hdg hng hval hsim e1 hpe hq3 hqe hAq hglq hAn e2
    go_wp2_with fail
    refine cN.out.mono ?_
    rintro e w5 ⟨rfl, rfl⟩
    go_wp2_with fail
    obtain ⟨i0, hi, hz0, hz1, hz2⟩ := info_parts info_tok
    have HI := Lib.hid hz2
    have hS0 : wr.drew.cell? ⟨pb, 1, none⟩ = some (.int .i64 (p : Int)) ∧ wr.drew.cell? ⟨bp, off + K * 4 + 2, none⟩ = some (.int .i64 (pp : Int)) := ⟨jp, jq⟩
    have hzA : pb < wr.drew.heap.size := HZA.out
    have hzB : bp < wr.drew.heap.size := by first | exact HZB.out | exact HZA.out
    clear hz2 jp jq
    refine wp_region_lin [(0, true), (1, true), (2, true), (3, true), (4, true), (5, true), (6, true), (7, true), (8, true), (9, true), (10, true), (11, true), (12, true), (13, true), (14, true), (15, false), (16, false), (17, true)] (by kernel_rfl) (by kernel_rfl) rfl (by kernel_rfl) (fun x => x.cell? ⟨pb, 1, none⟩ = some (.int .i64 (p : Int)) ∧ x.cell? ⟨bp, off + K * 4 + 2, none⟩ = some (.int .i64 (pp : Int))) ?_
    simp only [List.map_cons, List.map_nil, List.getElem?_toArray, List.getElem?_cons_succ, List.getElem?_cons_zero]
    iterate 13 (refine lin_take (v := ?_) (by assumption) (by rfl) ?_ ?_; rotate_left; (intro x hx; obtain ⟨x0, x1⟩ := hx; go_simp; try (with_reducible rfl)); try (simp only [Act.put, List.setIfInBounds_toArray, List.set_cons_zero, List.set_cons_succ]))
    refine lin_take (v := .string (s.extract p pp)) (by assumption) (by rfl) (fun x hx => ?_) ?_
    ·obtain ⟨x0, x1⟩ := hx
     go_simp
    (simp only [Act.put, List.setIfInBounds_toArray, List.set_cons_zero, List.set_cons_succ])
    iterate 1 (refine lin_take (v := ?_) (by assumption) (by rfl) ?_ ?_; rotate_left; (intro x hx; obtain ⟨x0, x1⟩ := hx; go_simp; try (with_reducible rfl)); try (simp only [Act.put, List.setIfInBounds_toArray, List.set_cons_zero, List.set_cons_succ]))
    have hSa : (wr.drew.alloc (.cells #[.int .i64 2, .int .i64 nz, .int .i64 (p : Int), .string (s.extract p pp)] 48)).cell? ⟨pb, 1, none⟩ = some (.int .i64 (p : Int)) ∧ (wr.drew.alloc (.cells #[.int .i64 2, .int .i64 nz, .int .i64 (p : Int), .string (s.extract p pp)] 48)).cell? ⟨bp, off + K * 4 + 2, none⟩ = some (.int .i64 (pp : Int)) := ⟨(World.cell?_alloc_lt _ _ _ (by assumption)).trans hS0.1, (World.cell?_alloc_lt _ _ _ (by assumption)).trans hS0.2⟩
    refine lin_call hS0 (by rfl) (fun KK hKK => ?_)
    clear hi hz0 hz1
    go_simp
    refine hKK.out _ _ hSa (fun _ => ?_)
    clear hKK KK hS0
    try (simp only [Act.put, List.setIfInBounds_toArray, List.set_cons_zero, List.set_cons_succ])
    obtain ⟨i0, hi, hz0, hz1, hz2⟩ := info_parts info_tok
    refine lin_call hSa (by rfl) (fun KK hKK => ?_)
    refine wp_append_row _ (.tmp 211) (.tmp 226) 41 rfl w.heap.size 48 i0 (.agg #[.int .i64 0, .int .i64 0, .int .i64 0, .string ⟨#[]⟩]) 4 40 Tryd.underlying41 hi hz0 hz1 hz2 rfl (by omega) _ out.length (toksL out) rfl (HXR.out.own.drew.alloc _) _ (.slice (some ⟨_, 0, none⟩) 1 1) 1 [.int .i64 2, .int .i64 nz, .int .i64 (p : Int), .string (s.extract p pp)] rfl (row_one4 _ _ _ _ _ _) (by simp [Value.oneCell']) (by unfold maxLen; omega) (by omega) (Nat.le_trans HXR.out.bel.size (by simp)) ?_
    intro v3 y3 hO3 hg3
    have R3 := Lib.hid (HXR.out.drew.app hg3 HTOK.out hO3)
    have hS3 : y3.cell? ⟨pb, 1, none⟩ = some (.int .i64 (p : Int)) ∧ y3.cell? ⟨bp, off + K * 4 + 2, none⟩ = some (.int .i64 (pp : Int)) := ⟨hg3.cell hSa.1 HPB.out, hg3.cell hSa.2 (by first | exact HQB.out | exact HPB.out)⟩
    clear hO3 hg3 hSa hi hz0 hz1 hz2
    refine hKK.out _ _ hS3 (fun _ => ?_)
    clear hKK KK
    try (simp only [Act.put, List.setIfInBounds_toArray, List.set_cons_zero, List.set_cons_succ])
    iterate 1 (refine lin_take (v := ?_) (by assumption) (by rfl) ?_ ?_; rotate_left; (intro x hx; obtain ⟨x0, x1⟩ := hx; go_simp; try (with_reducible rfl)); try (simp only [Act.put, List.setIfInBounds_toArray, List.set_cons_zero, List.set_cons_succ]))
    refine lin_done ?_
    clear hS3
    go_wp2_with fail
    refine ⟨?_, ?_⟩
    ·refine WI.mk ?_
     exact ⟨K + 1, pp, _, p + sz, _, rfl, HN.out, by have := HPE.out; have := HBEH.out; have := HEP.out; omega, HLX.out, by have := HPE.out; have := HLEN.out; have := HEP.out; first | omega | (simp; omega), R3.out⟩
    ·exact Wmu_lt (k := k) (m := K + 1) rfl rfl hk (by omega)
  ·have hst : ¬ pp < l.length ∨ 16 ≤ digR (runeR (l.drop pp)) := .inl (hng.at_.stop hK)
   have kt : decide ((K : Int) + 1 < L.length) = false := decide_eq_false (by omega)
   have kt2 : decide (K + 1 < L.length) = false := decide_eq_false (by omega)
   obtain ⟨e1, e2⟩ := hdg.stop hst
   have hKlt : k + 2 < K + 1 := by
    have := HE2.out
    by_cases e : K = k + 1
    ·have := hk1p e; omega
    ·omega
   have hKle : K + 1 ≤ L.length := by
    obtain ⟨q, hq3, _⟩ := hng.at_.prev (by omega)
    rw [show K + 1 - 1 = K from rfl] at hq3
    exact (List.getElem?_eq_some_iff.1 hq3).1
   have s1 : (k : Int) + 2 ≤ (K : Int) + 1 := by omega
   have s2 : (K : Int) + 1 ≤ c := by omega
   have s3 : (0 : Int) ≤ (k : Int) + 2 := by omega
   have s4 : ((K : Int) + 1).toNat = K + 1 := by omega
   have s5 : ((k : Int) + 2).toNat = k + 2 := by omega
   have s6 : (k : Int) + 2 < c := by omega
   have HDG := Lib.hid hdg
   have HNG := Lib.hid hng
   obtain ⟨bn, on, hAn, hgln, _⟩ := (Row.of_own hng.rows.pts).at_ (by omega)
   obtain ⟨rfl, rfl⟩ : bp = bn ∧ off = on := by injection hAn with e; injection e with e1 e2; exact ⟨e1, e2⟩
   have cN := Lib.hid (refNumber_any bp (off + (k + 2) * 4) (c - (k + 2)) (K - (k + 1)) 16 ((L.drop (k + 2)).take (K + 1 - (k + 2))) wr (by rw [List.length_take, List.length_drop]; omega) (by omega) (.inr rfl) (fun j q hj => by
    have hj2 : L[k + 2 + j]? = some q := by
     rw [List.getElem?_take] at hj
     split at hj
     ·rw [List.getElem?_drop] at hj; exact hj
     ·cases hj
    have := ((Row.of_own hng.rows.pts).pt hj2).1
    rw [show off + (k + 2) * 4 + j * 4 = off + (k + 2 + j) * 4 by omega]
    exact this) hgln (fun q hq => (hdg.all q hq).1) (fun q hq => (hdg.all q hq).2))
   have hsim := hdg.sim
   rw [e1] at hsim
   have hval := hsim.eq hrg
   rw [hval] at cN
   have hgt2 : decide (4294967296 < nz) = false := decide_eq_false (by omega)
   have hnn : 0 ≤ nz := by have := hdg.pos; omega
   have hpe : pp = p + sz := e2
   have HPE := Lib.hid hpe
   have HN := Lib.hid HNG.out.at_
   have HLX := Lib.hid HNG.out.lex
   have HXR := Lib.hid HNG.out.rows
   have HZA : Hid (pb < wr.heap.size) := HNG.out.lt
   obtain ⟨q, hq3, hqe⟩ := HNG.out.at_.prev (by omega)
   rw [show K + 1 - 1 = K from rfl] at hq3
   obtain ⟨bq, oq, hAq, hglq, _⟩ := (Row.of_own HNG.out.rows.pts).at_ (by omega)
   obtain ⟨rfl, rfl⟩ : bp = bq ∧ off = oq := by injection hAq with e; injection e with e1 e2; exact ⟨e1, e2⟩
   have HZB : Hid (bp < wr.heap.size) := hglq
   have jq : wr.cell? ⟨bp, off + K * 4 + 2, none⟩ = some (.int .i64 (pp : Int)) := by
    have := ((Row.of_own HNG.out.rows.pts).pt hq3).2.2.1
    rwa [hqe] at this
   have jp := HNG.out.cell
   have HPB := HPB0
   have HQB := HQB0
   have kz0 : (0 : Int) ≤ K := by omega
   have kz1 : (K : Int) < L.length := by have := (List.getElem?_eq_some_iff.1 hq3).1; omega
   have kz2 : K < L.length := by omega
   have kz3 : decide (K < L.length) = true := decide_eq_true kz2
   have kz4 : decide ((K : Int) < L.length) = true := decide_eq_true kz1
   have kz5 : decide (0 ≤ (K : Int)) = true := decide_eq_true kz0
   have kz6 : IntKind.i64.wrap (K : Int) = (K : Int) := IntWalk.i64_in _ (by omega)
   have pz0 : (p : Int) ≤ pp := by omega
   have pz1 : (pp : Int) ≤ s.size := by have := HNG.out.at_.le; have := HLS.out; omega
   have pz2 : (0 : Int) ≤ p := by omega
   have HTOK : Hid ([.int .i64 2, .int .i64 nz, .int .i64 (p : Int), .string (s.extract p pp)] = tokL ⟨2, nz, p, (l.drop p).take sz⟩) := by
    show _ = _
    unfold tokL
    rw [hpe, txt_cut, ← HLL.out]
   clear hdg hng hval hsim e1 hpe hq3 hqe hAq hglq hAn e2
   go_wp2_with fail
   refine cN.out.mono ?_
   rintro e w5 ⟨rfl, rfl⟩
   go_wp2_with fail
   obtain ⟨i0, hi, hz0, hz1, hz2⟩ := info_parts info_tok
   have HI := Lib.hid hz2
   have hS0 : wr.drew.cell? ⟨pb, 1, none⟩ = some (.int .i64 (p : Int)) ∧ wr.drew.cell? ⟨bp, off + K * 4 + 2, none⟩ = some (.int .i64 (pp : Int)) := ⟨jp, jq⟩
   have hzA : pb < wr.drew.heap.size := HZA.out
   have hzB : bp < wr.drew.heap.size := by first | exact HZB.out | exact HZA.out
   clear hz2 jp jq
   refine wp_region_lin [(0, true), (1, true), (2, true), (3, true), (4, true), (5, true), (6, true), (7, true), (8, true), (9, true), (10, true), (11, true), (12, true), (13, true), (14, true), (15, false), (16, false), (17, true)] (by kernel_rfl) (by kernel_rfl) rfl (by kernel_rfl) (fun x => x.cell? ⟨pb, 1, none⟩ = some (.int .i64 (p : Int)) ∧ x.cell? ⟨bp, off + K * 4 + 2, none⟩ = some (.int .i64 (pp : Int))) ?_
   simp only [List.map_cons, List.map_nil, List.getElem?_toArray, List.getElem?_cons_succ, List.getElem?_cons_zero]
   iterate 13 (refine lin_take (v := ?_) (by assumption) (by rfl) ?_ ?_; rotate_left; (intro x hx; obtain ⟨x0, x1⟩ := hx; go_simp; try (with_reducible rfl)); try (simp only [Act.put, List.setIfInBounds_toArray, List.set_cons_zero, List.set_cons_succ]))
   refine lin_take (v := .string (s.extract p pp)) (by assumption) (by rfl) (fun x hx => ?_) ?_
   ·obtain ⟨x0, x1⟩ := hx
    go_simp
   (simp only [Act.put, List.setIfInBounds_toArray, List.set_cons_zero, List.set_cons_succ])
   iterate 1 (refine lin_take (v := ?_) (by assumption) (by rfl) ?_ ?_; rotate_left; (intro x hx; obtain ⟨x0, x1⟩ := hx; go_simp; try (with_reducible rfl)); try (simp only [Act.put, List.setIfInBounds_toArray, List.set_cons_zero, List.set_cons_succ]))
   have hSa : (wr.drew.alloc (.cells #[.int .i64 2, .int .i64 nz, .int .i64 (p : Int), .string (s.extract p pp)] 48)).cell? ⟨pb, 1, none⟩ = some (.int .i64 (p : Int)) ∧ (wr.drew.alloc (.cells #[.int .i64 2, .int .i64 nz, .int .i64 (p : Int), .string (s.extract p pp)] 48)).cell? ⟨bp, off + K * 4 + 2, none⟩ = some (.int .i64 (pp : Int)) := ⟨(World.cell?_alloc_lt _ _ _ (by assumption)).trans hS0.1, (World.cell?_alloc_lt _ _ _ (by assumption)).trans hS0.2⟩
   refine lin_call hS0 (by rfl) (fun KK hKK => ?_)
   clear hi hz0 hz1
   go_simp
   refine hKK.out _ _ hSa (fun _ => ?_)
   clear hKK KK hS0
   try (simp only [Act.put, List.setIfInBounds_toArray, List.set_cons_zero, List.set_cons_succ])
   obtain ⟨i0, hi, hz0, hz1, hz2⟩ := info_parts info_tok
   refine lin_call hSa (by rfl) (fun KK hKK => ?_)
   refine wp_append_row _ (.tmp 211) (.tmp 226) 41 rfl w.heap.size 48 i0 (.agg #[.int .i64 0, .int .i64 0, .int .i64 0, .string ⟨#[]⟩]) 4 40 Tryd.underlying41 hi hz0 hz1 hz2 rfl (by omega) _ out.length (toksL out) rfl (HXR.out.own.drew.alloc _) _ (.slice (some ⟨_, 0, none⟩) 1 1) 1 [.int .i64 2, .int .i64 nz, .int .i64 (p : Int), .string (s.extract p pp)] rfl (row_one4 _ _ _ _ _ _) (by simp [Value.oneCell']) (by unfold maxLen; omega) (by omega) (Nat.le_trans HXR.out.bel.size (by simp)) ?_
   intro v3 y3 hO3 hg3
   have R3 := Lib.hid (HXR.out.drew.app hg3 HTOK.out hO3)
   have hS3 : y3.cell? ⟨pb, 1, none⟩ = some (.int .i64 (p : Int)) ∧ y3.cell? ⟨bp, off + K * 4 + 2, none⟩ = some (.int .i64 (pp : Int)) := ⟨hg3.cell hSa.1 HPB.out, hg3.cell hSa.2 (by first | exact HQB.out | exact HPB.out)⟩
   clear hO3 hg3 hSa hi hz0 hz1 hz2
   refine hKK.out _ _ hS3 (fun _ => ?_)
   clear hKK KK
   try (simp only [Act.put, List.setIfInBounds_toArray, List.set_cons_zero, List.set_cons_succ])
   iterate 1 (refine lin_take (v := ?_) (by assumption) (by rfl) ?_ ?_; rotate_left; (intro x hx; obtain ⟨x0, x1⟩ := hx; go_simp; try (with_reducible rfl)); try (simp only [Act.put, List.setIfInBounds_toArray, List.set_cons_zero, List.set_cons_succ]))
   refine lin_done ?_
   clear hS3
   go_wp2_with fail
   refine ⟨?_, ?_⟩
   ·refine WI.mk ?_
    exact ⟨K + 1, pp, _, p + sz, _, rfl, HN.out, by have := HPE.out; have := HBEH.out; have := HEP.out; omega, HLX.out, by have := HPE.out; have := HLEN.out; have := HEP.out; first | omega | (simp; omega), R3.out⟩
   ·exact Wmu_lt (k := k) (m := K + 1) rfl rfl hk (by omega)
end Go.Proofs.YtcaibahniheohaaDoor.Words

/- The document's own Split: a case of a round. -/
namespace Go.Proofs.YtcaibahniheohaaDoor.Words
set_option maxRecDepth 1000000
open Go.RowKit Go.Shelf Go.Lib
set_option linter.unusedVariables false
set_option maxHeartbeats 4000000 in
theorem split_hexr (s : ByteArray) (l : List UInt8) (w wr : World) (A : Option Addr) (c k p f b : Nat) (L : List Pt) (Z : LexR) (out : List Tok) (v6 : Value) (c1 c13 c14 c15 c16 c17 : Value) (a : Act) (Q0 : Exit → Act → World → Prop) (hs : s.size ≤ 1000000) (hl : l = s.data.toList) (hT : TabsLB w.heap.size w) (hR : RoundG l L Z w wr A c v6 k p (f + 1) b out) (hk : k < L.length) (hL : L.length ≤ s.size) (hQ : QS s L Z w A c c1 c13 c14 c15 c16 c17 Q0) (hF : FrS s A c L c1 c13 c14 c15 c16 c17 v6 (.int .i64 (k : Int)) a) (hx : hexAt l p) (hrg : (numZ (l.drop p)).1 > 4294967296) :
  CaseG s l w wr A c L Z c1 c13 c14 c15 c16 c17 a Q0 := by
 unfold FrS at hF
 iterate 325 (obtain ⟨_, hF⟩ := hF)
 subst hF
 unfold CaseG
 obtain ⟨hA, hbeh, hlex, hlen, hrows⟩ := hR
 obtain ⟨g, hg, hp, hq, hA1⟩ := hA.step hk
 obtain rfl : f = g := by omega
 have HQ := Lib.hid hQ
 have HLEX := Lib.hid hlex
 have HROWS := Lib.hid hrows
 have HA1 := Lib.hid hA1
 have HBEH := Lib.hid hbeh
 have HLEN := Lib.hid hlen
 have HT := Lib.hid hT
 have HLL := Lib.hid hl
 have HPL : Hid (p < l.length) := hp
 obtain ⟨bp, off, hA2, hgl, _⟩ := (Row.of_own hrows.pts).at_ (by omega)
 obtain rfl : A = some ⟨bp, off, none⟩ := hA2
 obtain ⟨e0, e1, e2, e3⟩ := (Row.of_own hrows.pts).pt hq
 have kq : decide ((k : Int) < L.length) = true := decide_eq_true (by omega)
 have kq2 : decide (k < L.length) = true := decide_eq_true hk
 have k0 : (0 : Int) ≤ k := by omega
 have k1 : (k : Int) < L.length := by omega
 have k2 : (L.length : Int) ≤ 1000000 := by omega
 have hp20 : (p : Int) ≤ 1000000 := by have := data_len s; rw [← hl] at this; omega
 have HR := Lib.hid (runeR_range (l.drop p))
 have HW := Lib.hid (wideR_pos (l.drop p))
 have HWI := Lib.hid (wide_in hp)
 obtain ⟨x1, x2, x3, x4, x5⟩ := hx
 have hx' : hexAt l p := ⟨x1, x2, x3, x4, x5⟩
 obtain ⟨t, ht, _, hw1⟩ := drop_cons (c := 48) hp (by omega) x1
 obtain ⟨t2, ht2, _, hw2⟩ := drop_cons (c := 120) x2 (by omega) x3
 rw [hw1] at hA1
 obtain ⟨f1, rfl, _, hq1, hA2⟩ := hA1.step (hA1.lt.2 x2)
 rw [hw2, show p + 1 + 1 = p + 2 from rfl, show k + 1 + 1 = k + 2 from rfl] at hA2
 have hk2 := hA2.lt.2 x4
 obtain ⟨f2, rfl, _, hq2, _⟩ := hA2.step hk2
 obtain ⟨m1, m2, m3⟩ := num_hex hx' hp hA2.fuel
 have hb2 : badR (l.drop (p + 2)) = false := good rfl (fun e => by rw [e] at x5; exact absurd x5 (by decide))
 have hbad := good x1 (by decide)
 have hoth := at_other (x := S0 b false out) rfl hbad (by omega) (by omega) (by rw [x1]; decide) (by rw [x1]; decide +kernel) (by rw [x1]; decide)
 obtain ⟨nz, hnz⟩ : ∃ n, n = (numZ (l.drop p)).1 := ⟨_, rfl⟩
 obtain ⟨sz, hsz⟩ : ∃ n, n = (numZ (l.drop p)).2 := ⟨_, rfl⟩
 have he2 := digF_pos 16 hA2.fuel x4 x5
 have HD0 : Hid (DigG l L 16 (k + 2) (k + 1) (p + 2) (f2 + 1) 0 nz (p + sz)) := by
  have := DigG.start l L 16 (k + 1) (p + 2) (f2 + 1)
  rw [← m1, ← m2, ← hnz, ← hsz] at this
  exact this
 unfold numberZ at hoth
 rw [← hnz, ← hsz, if_neg (by omega)] at hoth
 rw [← m2, ← hsz] at he2
 rw [← hnz] at hrg
 rw [if_pos (.inr (by omega))] at hoth
 have hz : Hid (Z = .bad p 8) := lex_err hlex hp hbeh hoth (by decide)
 obtain ⟨A6, c6, rfl⟩ := (Row.of_own hrows.own).form
 obtain ⟨uc, _⟩ := (Row.of_own hrows.pts).cap
 have hot : (out.length : Int) ≤ 1000000 := by omega
 have hot2 : out.length ≤ 1000000 := by omega
 have HLS : Hid (l.length = s.size) := by rw [hl]; exact data_len s
 have HQ1 := Lib.hid hq1
 have HQ2 := Lib.hid hq2
 have HA2 := Lib.hid hA2
 unfold ptAt at e0 e1 e2 e3
 simp only at e0 e1 e2 e3
 obtain ⟨R, hRR⟩ : ∃ R, R = runeR (l.drop p) := ⟨_, rfl⟩
 obtain ⟨E, hEE⟩ : ∃ E, E = p + wideR (l.drop p) := ⟨_, rfl⟩
 have HRR := Lib.hid hRR
 have HEE := Lib.hid hEE
 rw [← hRR] at e0 HR
 rw [← hEE] at e2 HWI
 have HEP : Hid (p < E) := by have := HW.out; show _ < _; omega
 rw [hbad] at e3
 simp only [Bool.not_false] at e3
 have hE1 : E = p + 1 := by omega
 have HE1 := Lib.hid hE1
 rw [← hRR] at x1
 subst x1
 have hfR : firstR (48 : Int) = false := by decide +kernel
 have HR1 : Hid (runeR (l.drop (p + 1)) = 120) := x3
 have HX5 : Hid (digR (runeR (l.drop (p + 2))) < 16) := x5
 have HB2 := Lib.hid hb2
 have HE2 := Lib.hid he2
 have HK2 := Lib.hid hk2
 clear hRR hEE hbad hE1 x2 x3 x4 x5 hx' ht hw1 ht2 hw2 hq1 hq2 hA2 hk2 m1 m2 m3 hb2 hoth he2 hnz hsz
 have RW1 := Lib.hid (HROWS.out.go ((Below.refl _ _).alloc (Nat.le_refl _) (.cells #[.int .i32 48, .int .i64 (p : Int), .int .i64 (E : Int), .bool true] 88)))
 obtain ⟨j0, j1, j2, j3⟩ := cell_new wr (.int .i32 48) (.int .i64 (p : Int)) (.int .i64 (E : Int)) (.bool true) 88
 have JC := Lib.hid (And.intro j0 (And.intro j1 (And.intro j2 j3)))
 have hz1 : wr.heap.size < (wr.alloc (.cells #[.int .i32 48, .int .i64 (p : Int), .int .i64 (E : Int), .bool true] 88)).heap.size := by simp
 have HPB0 : Hid (some wr.heap.size ≠ (Value.slice A6 out.length c6).ownBlock) := own_new HROWS.out.own (Nat.le_refl _)
 have HQB0 : Hid (some bp ≠ (Value.slice A6 out.length c6).ownBlock) := apartS HROWS.out.pts HROWS.out.own (by decide) rfl
 have cL : Hid (∀ y, TabsL y → Calls Tryd.prog 35 #[.int .i32 48] y fun e w' => e = .returned (.bool false) ∧ Below y.heap.size y w') := fun y hy => by
  have := refLetter_any (48 : Int) y (by have := HR.out; omega) hy
  rwa [hfR] at this
 clear j0 j1 j2 j3 hfR
 clear hA hbeh hlex hlen hrows hA1 hQ hT hl hg hq hp
 conv => arg 2; whnf
 go_wp2_with fail
 generalize hW1 : (wr.alloc (.cells #[.int .i32 48, .int .i64 (p : Int), .int .i64 (E : Int), .bool true] 88)) = W1 at *
 refine (cL.out _ (HT.out _ RW1.out.bel)).mono ?_
 rintro e w2 ⟨rfl, hb2⟩
 obtain ⟨j0, j1, j2, j3⟩ := JC.out
 have RW2 := Lib.hid (RW1.out.go hb2)
 have J0 : w2.cell? ⟨wr.heap.size, 0, none⟩ = some (.int .i32 48) := below_cell hb2 hz1 j0
 have J1 : w2.cell? ⟨wr.heap.size, 1, none⟩ = some (.int .i64 (p : Int)) := below_cell hb2 hz1 j1
 have J2 : w2.cell? ⟨wr.heap.size, 2, none⟩ = some (.int .i64 (E : Int)) := below_cell hb2 hz1 j2
 have J3 : w2.cell? ⟨wr.heap.size, 3, none⟩ = some (.bool true) := below_cell hb2 hz1 j3
 have hz2 : wr.heap.size < w2.heap.size := Nat.lt_of_lt_of_le hz1 hb2.size
 have hgl2 : bp < w2.heap.size := by omega
 clear hb2 hW1 RW1 JC j0 j1 j2 j3 hz1 hgl e0 e1 e2 e3
 generalize wr.heap.size = pb at *
 have hk2 := HK2.out
 have F1 : w2.cell? ⟨bp, off + (k + 1) * 4, none⟩ = some (.int .i32 120) := by
  have h4 := ((Row.of_own RW2.out.pts).pt HQ1.out).1
  unfold ptAt at h4
  rw [← HR1.out]
  exact h4
 obtain ⟨F2, _, _, F3⟩ := (Row.of_own RW2.out.pts).pt HQ2.out
 unfold ptAt at F2 F3
 simp only [HB2.out, Bool.not_false] at F2 F3
 have hR2 := runeR_range (l.drop (p + 2))
 have hhx : hexG (runeR (l.drop (p + 2))) = digR (runeR (l.drop (p + 2))) := hexG_dig HX5.out
 have hdr := digR_range (runeR (l.drop (p + 2)))
 have cH : Hid (∀ y, Calls Tryd.prog 37 #[.int .i32 (runeR (l.drop (p + 2)))] y fun e w' => e = .returned (.int .i64 (digR (runeR (l.drop (p + 2))))) ∧ y = w') := fun y => by
  have := refHex_any (runeR (l.drop (p + 2))) y (by omega)
  rwa [hhx] at this
 generalize runeR (l.drop (p + 2)) = R2 at *
 generalize digR R2 = D2 at *
 have t1 : decide ((k : Int) + 1 + 1 < L.length) = true := decide_eq_true (by omega)
 have t1' : decide ((k : Int) + 2 < L.length) = true := decide_eq_true (by omega)
 have t2 : decide (k + 2 < L.length) = true := decide_eq_true hk2
 have t3 : (k : Int) + 1 < L.length := by omega
 have t3' : (k : Int) + 2 < L.length := by omega
 have t4 : (0 : Int) ≤ (k : Int) + 1 := by omega
 have t4' : (0 : Int) ≤ (k : Int) + 2 := by omega
 have t5 : ((k : Int) + 1).toNat = k + 1 := by omega
 have t6 : ((k : Int) + 2).toNat = k + 2 := by omega
 have t7 : (k : Int) + 1 + 1 = (k : Int) + 2 := by omega
 have t8 : decide (0 ≤ D2) = true := decide_eq_true hdr.1
 have t9 : decide ((k : Int) < L.length) = true := kq
 clear hhx
 go_wp2_with fail
 refine (cH.out _).mono ?_
 rintro e w3 ⟨rfl, rfl⟩
 go_wp2_with fail
 go_loopw [9] (fun q x => ∃ (K pp ff : Nat) (n : Int), q = .int .i64 ((K : Int) + 1) ∧ k + 1 ≤ K ∧ (K = k + 1 → pp = p + 2) ∧ DigG l L 16 (k + 2) K pp ff n nz (p + sz) ∧ NameG l L (lexF l (f2 + 1) (p + 2) (S0 (p + sz) false (out ++ [⟨2, nz, p, (l.drop p).take sz⟩]))) w x (some ⟨bp, off, none⟩) c (.slice A6 out.length c6) out K pp ff p pb (S0 (p + sz) false (out ++ [⟨2, nz, p, (l.drop p).take sz⟩]))) (fun q _ => L.length - (intOf q).toNat)
 case atStart => exact ⟨k + 1, p + 2, f2 + 1, 0, by first | rfl | exact congrArg (Value.int .i64) (by omega), Nat.le_refl _, fun _ => rfl, HD0.out, ⟨HA2.out, rfl, RW2.out, J1, hz2, by omega⟩⟩
 case round =>
  obtain ⟨K, pp, ff, n, rfl, hkK, hk1p, hdg, hng⟩ := hrel
  have hgt := hng.gt
  clear F1 F2 F3 J0 J1 J2 J3 t1 t1' t2 t3 t3' t4 t4' t5 t6 t7
  by_cases hK : K + 1 < L.length
  ·obtain ⟨gg, rfl, hp2, hq2, hA3⟩ := hng.at_.step hK
   have kt : decide ((K : Int) + 1 < L.length) = true := decide_eq_true (by omega)
   have kt2 : decide (K + 1 < L.length) = true := decide_eq_true (by omega)
   have K0 : (0 : Int) ≤ (K : Int) + 1 := by omega
   have K1 : (K : Int) + 1 < L.length := by omega
   have K2 : ((K : Int) + 1).toNat = K + 1 := by omega
   obtain ⟨f0, _, _, _⟩ := (Row.of_own hng.rows.pts).pt hq2
   obtain ⟨bq, oq, hAq, hglw, _⟩ := (Row.of_own hng.rows.pts).at_ (by omega)
   obtain ⟨rfl, rfl⟩ : bp = bq ∧ off = oq := by injection hAq with e; injection e with e1 e2; exact ⟨e1, e2⟩
   unfold ptAt at f0
   simp only at f0
   have hR3 := runeR_range (l.drop pp)
   have cH3 := Lib.hid (fun y => refHex_any (runeR (l.drop pp)) y (by omega))
   by_cases hd : digR (runeR (l.drop pp)) < 16
   ·have HDN := Lib.hid (hdg.next (by omega) hp2 hq2 hd)
    have HNX := Lib.hid (hng.next hA3 hp2 (hdg.more hp2 hd))
    have g0 : decide (0 ≤ hexG (runeR (l.drop pp))) = true := decide_eq_true (hexG_pos.2 hd)
    clear hdg hng hd hA3 hq2 hAq
    generalize hexG (runeR (l.drop pp)) = H3 at *
    generalize hR4 : runeR (l.drop pp) = R3 at f0 cH3 hR3
    clear hR4
    go_wp2_with fail
    refine (cH3.out _).mono ?_
    rintro e w4 ⟨rfl, rfl⟩
    go_wp2_with fail
    go_roundw
    case rel => exact ⟨K + 1, _, gg, _, rfl, by omega, fun e => by omega, HDN.out, HNX.out⟩
    case measure => simp [intOf]; omega
   ·have g0 : decide (0 ≤ hexG (runeR (l.drop pp))) = false := decide_eq_false (fun h => hd (hexG_pos.1 h))
    have hst : ¬ pp < l.length ∨ 16 ≤ digR (runeR (l.drop pp)) := .inr (by omega)
    clear hd hA3 hq2 hAq
    generalize hexG (runeR (l.drop pp)) = H3 at *
    go_wp2_with fail
    refine (cH3.out _).mono ?_
    rintro e w4 ⟨rfl, rfl⟩
    obtain ⟨e1, e2⟩ := hdg.stop hst
    have hKlt : k + 2 < K + 1 := by
     have := HE2.out
     by_cases e : K = k + 1
     ·have := hk1p e; omega
     ·omega
    have hKle : K + 1 ≤ L.length := by
     obtain ⟨q, hq3, _⟩ := hng.at_.prev (by omega)
     rw [show K + 1 - 1 = K from rfl] at hq3
     exact (List.getElem?_eq_some_iff.1 hq3).1
    have s1 : (k : Int) + 2 ≤ (K : Int) + 1 := by omega
    have s2 : (K : Int) + 1 ≤ c := by omega
    have s3 : (0 : Int) ≤ (k : Int) + 2 := by omega
    have s4 : ((K : Int) + 1).toNat = K + 1 := by omega
    have s5 : ((k : Int) + 2).toNat = k + 2 := by omega
    have s6 : (k : Int) + 2 < c := by omega
    have HDG := Lib.hid hdg
    have HNG := Lib.hid hng
    obtain ⟨bn, on, hAn, hgln, _⟩ := (Row.of_own hng.rows.pts).at_ (by omega)
    obtain ⟨rfl, rfl⟩ : bp = bn ∧ off = on := by injection hAn with e; injection e with e1 e2; exact ⟨e1, e2⟩
    have cN := Lib.hid (refNumber_any bp (off + (k + 2) * 4) (c - (k + 2)) (K - (k + 1)) 16 ((L.drop (k + 2)).take (K + 1 - (k + 2))) wr (by rw [List.length_take, List.length_drop]; omega) (by omega) (.inr rfl) (fun j q hj => by
     have hj2 : L[k + 2 + j]? = some q := by
      rw [List.getElem?_take] at hj
      split at hj
      ·rw [List.getElem?_drop] at hj; exact hj
      ·cases hj
     have := ((Row.of_own hng.rows.pts).pt hj2).1
     rw [show off + (k + 2) * 4 + j * 4 = off + (k + 2 + j) * 4 by omega]
     exact this) hgln (fun q hq => (hdg.all q hq).1) (fun q hq => (hdg.all q hq).2))
    have hsim := hdg.sim
    rw [e1] at hsim
    have hgt2 : decide (4294967296 < numG 16 ((L.drop (k + 2)).take (K + 1 - (k + 2)))) = true := decide_eq_true (hsim.le.2 (by omega))
    have hgt3 : 4294967296 < numG 16 ((L.drop (k + 2)).take (K + 1 - (k + 2))) := hsim.le.2 (by omega)
    have jp := HNG.out.cell
    have hzp : pb < wr.heap.size := HNG.out.lt
    generalize numG 16 ((L.drop (k + 2)).take (K + 1 - (k + 2))) = NN at *
    clear hdg hng hsim e1 hAn e2
    go_wp2_with fail
    refine cN.out.mono ?_
    rintro e w5 ⟨rfl, rfl⟩
    go_wp2_with fail
    go_quiet (fail)
    go_wp2_with fail
    refine HQ.out.ret _ _ _ _ ?_ ?_ ?_ ?_ hz.out ?_
    rotate_left 4
    ·exact Below.drewN_ HNG.out.rows.bel _
    all_goals rfl
  ·have hst : ¬ pp < l.length ∨ 16 ≤ digR (runeR (l.drop pp)) := .inl (hng.at_.stop hK)
   have kt : decide ((K : Int) + 1 < L.length) = false := decide_eq_false (by omega)
   have kt2 : decide (K + 1 < L.length) = false := decide_eq_false (by omega)
   obtain ⟨e1, e2⟩ := hdg.stop hst
   have hKlt : k + 2 < K + 1 := by
    have := HE2.out
    by_cases e : K = k + 1
    ·have := hk1p e; omega
    ·omega
   have hKle : K + 1 ≤ L.length := by
    obtain ⟨q, hq3, _⟩ := hng.at_.prev (by omega)
    rw [show K + 1 - 1 = K from rfl] at hq3
    exact (List.getElem?_eq_some_iff.1 hq3).1
   have s1 : (k : Int) + 2 ≤ (K : Int) + 1 := by omega
   have s2 : (K : Int) + 1 ≤ c := by omega
   have s3 : (0 : Int) ≤ (k : Int) + 2 := by omega
   have s4 : ((K : Int) + 1).toNat = K + 1 := by omega
   have s5 : ((k : Int) + 2).toNat = k + 2 := by omega
   have s6 : (k : Int) + 2 < c := by omega
   have HDG := Lib.hid hdg
   have HNG := Lib.hid hng
   obtain ⟨bn, on, hAn, hgln, _⟩ := (Row.of_own hng.rows.pts).at_ (by omega)
   obtain ⟨rfl, rfl⟩ : bp = bn ∧ off = on := by injection hAn with e; injection e with e1 e2; exact ⟨e1, e2⟩
   have cN := Lib.hid (refNumber_any bp (off + (k + 2) * 4) (c - (k + 2)) (K - (k + 1)) 16 ((L.drop (k + 2)).take (K + 1 - (k + 2))) wr (by rw [List.length_take, List.length_drop]; omega) (by omega) (.inr rfl) (fun j q hj => by
    have hj2 : L[k + 2 + j]? = some q := by
     rw [List.getElem?_take] at hj
     split at hj
     ·rw [List.getElem?_drop] at hj; exact hj
     ·cases hj
    have := ((Row.of_own hng.rows.pts).pt hj2).1
    rw [show off + (k + 2) * 4 + j * 4 = off + (k + 2 + j) * 4 by omega]
    exact this) hgln (fun q hq => (hdg.all q hq).1) (fun q hq => (hdg.all q hq).2))
   have hsim := hdg.sim
   rw [e1] at hsim
   have hgt2 : decide (4294967296 < numG 16 ((L.drop (k + 2)).take (K + 1 - (k + 2)))) = true := decide_eq_true (hsim.le.2 (by omega))
   have hgt3 : 4294967296 < numG 16 ((L.drop (k + 2)).take (K + 1 - (k + 2))) := hsim.le.2 (by omega)
   have jp := HNG.out.cell
   have hzp : pb < wr.heap.size := HNG.out.lt
   generalize numG 16 ((L.drop (k + 2)).take (K + 1 - (k + 2))) = NN at *
   clear hdg hng hsim e1 hAn e2
   go_wp2_with fail
   refine cN.out.mono ?_
   rintro e w5 ⟨rfl, rfl⟩
   go_wp2_with fail
   go_quiet (fail)
   go_wp2_with fail
   refine HQ.out.ret _ _ _ _ ?_ ?_ ?_ ?_ hz.out ?_
   rotate_left 4
   ·exact Below.drewN_ HNG.out.rows.bel _
   all_goals rfl
end Go.Proofs.YtcaibahniheohaaDoor.Words

/- The document's own Split: a case of a round. -/
namespace Go.Proofs.YtcaibahniheohaaDoor.Words
set_option maxRecDepth 1000000
open Go.RowKit Go.Shelf Go.Lib
set_option linter.unusedVariables false
set_option maxHeartbeats 4000000 in
theorem split_negi (s : ByteArray) (l : List UInt8) (w wr : World) (A : Option Addr) (c k p f b : Nat) (L : List Pt) (Z : LexR) (out : List Tok) (v6 : Value) (c1 c13 c14 c15 c16 c17 : Value) (a : Act) (Q0 : Exit → Act → World → Prop) (hs : s.size ≤ 1000000) (hl : l = s.data.toList) (hT : TabsLB w.heap.size w) (hR : RoundG l L Z w wr A c v6 k p (f + 1) b out) (hk : k < L.length) (hL : L.length ≤ s.size) (hQ : QS s L Z w A c c1 c13 c14 c15 c16 c17 Q0) (hF : FrS s A c L c1 c13 c14 c15 c16 c17 v6 (.int .i64 (k : Int)) a) (x1 : runeR (l.drop p) = 45) (x2 : p + 1 < l.length) (x3 : digR (runeR (l.drop (p + 1))) < 10) (hrg : (numZ (l.drop p)).1 ≥ -4294967296) :
  CaseG s l w wr A c L Z c1 c13 c14 c15 c16 c17 a Q0 := by
 unfold FrS at hF
 iterate 325 (obtain ⟨_, hF⟩ := hF)
 subst hF
 unfold CaseG
 obtain ⟨hA, hbeh, hlex, hlen, hrows⟩ := hR
 obtain ⟨g, hg, hp, hq, hA1⟩ := hA.step hk
 obtain rfl : f = g := by omega
 have HQ := Lib.hid hQ
 have HLEX := Lib.hid hlex
 have HROWS := Lib.hid hrows
 have HA1 := Lib.hid hA1
 have HBEH := Lib.hid hbeh
 have HLEN := Lib.hid hlen
 have HT := Lib.hid hT
 have HLL := Lib.hid hl
 have HPL : Hid (p < l.length) := hp
 obtain ⟨bp, off, hA2, hgl, _⟩ := (Row.of_own hrows.pts).at_ (by omega)
 obtain rfl : A = some ⟨bp, off, none⟩ := hA2
 obtain ⟨e0, e1, e2, e3⟩ := (Row.of_own hrows.pts).pt hq
 have kq : decide ((k : Int) < L.length) = true := decide_eq_true (by omega)
 have kq2 : decide (k < L.length) = true := decide_eq_true hk
 have k0 : (0 : Int) ≤ k := by omega
 have k1 : (k : Int) < L.length := by omega
 have k2 : (L.length : Int) ≤ 1000000 := by omega
 have hp20 : (p : Int) ≤ 1000000 := by have := data_len s; rw [← hl] at this; omega
 have HR := Lib.hid (runeR_range (l.drop p))
 have HW := Lib.hid (wideR_pos (l.drop p))
 have HWI := Lib.hid (wide_in hp)
 have hw1 : wideR (l.drop p) = 1 := by
  obtain ⟨t, _, _, h3⟩ := drop_cons (c := 45) hp (by omega) x1
  exact h3
 rw [hw1] at hA1
 obtain ⟨m1, m2, m3⟩ := num_neg hp x1 x2 x3 hA1.fuel
 have hbad := good x1 (by decide)
 have hoth := at_other (x := S0 b false out) rfl hbad (by omega) (by omega) (by rw [x1]; decide) (by rw [x1]; decide +kernel) (by rw [x1]; decide)
 obtain ⟨nn, hnn0⟩ : ∃ n, n = (digF l 10 f (p + 1) 0).1 := ⟨_, rfl⟩
 obtain ⟨sz, hsz⟩ : ∃ n, n = (numZ (l.drop p)).2 := ⟨_, rfl⟩
 have he2 := digF_pos 10 hA1.fuel x2 x3
 have HD0 : Hid (DigG l L 10 (k + 1) k (p + 1) f 0 nn (p + sz)) := by
  have := DigG.start l L 10 k (p + 1) f
  rw [← m2, ← hnn0, ← hsz] at this
  exact this
 have hnr := digF_range l 10 (by omega) f (p + 1) 0 (by omega) (by omega)
 rw [← hnn0] at hnr m1
 unfold numberZ at hoth
 rw [m1, ← hsz, if_neg (by omega)] at hoth
 rw [← m2, ← hsz] at he2
 rw [m1] at hrg
 rw [if_neg (by omega)] at hoth
 have hlx0 := lex_on hlex hp hbeh hoth
 unfold addZ at hlx0
 rw [hw1] at hlx0
 obtain ⟨A6, c6, rfl⟩ := (Row.of_own hrows.own).form
 obtain ⟨uc, _⟩ := (Row.of_own hrows.pts).cap
 have hot : (out.length : Int) ≤ 1000000 := by omega
 have hot2 : out.length ≤ 1000000 := by omega
 have HLS : Hid (l.length = s.size) := by rw [hl]; exact data_len s
 have hk1 := hA1.lt.2 x2
 obtain ⟨_, _, _, hq1, _⟩ := hA1.step hk1
 have HQ1 := Lib.hid hq1
 have HA2 := Lib.hid hA1
 unfold ptAt at e0 e1 e2 e3
 simp only at e0 e1 e2 e3
 obtain ⟨R, hRR⟩ : ∃ R, R = runeR (l.drop p) := ⟨_, rfl⟩
 obtain ⟨E, hEE⟩ : ∃ E, E = p + wideR (l.drop p) := ⟨_, rfl⟩
 have HRR := Lib.hid hRR
 have HEE := Lib.hid hEE
 rw [← hRR] at e0 HR
 rw [← hEE] at e2 HWI
 have HEP : Hid (p < E) := by have := HW.out; show _ < _; omega
 rw [hbad] at e3
 simp only [Bool.not_false] at e3
 have hE1 : E = p + 1 := by omega
 rw [← hRR] at x1
 subst x1
 have hfR : firstR (45 : Int) = false := by decide +kernel
 have HX3 : Hid (digR (runeR (l.drop (p + 1))) < 10) := x3
 have HE2 := Lib.hid he2
 have HK1 := Lib.hid hk1
 have HLX0 := Lib.hid hlx0
 clear hlx0
 clear hRR hEE hbad hE1 x2 x3 hw1 hq1 hk1 m1 m2 m3 hoth he2 hnn0 hsz
 have RW1 := Lib.hid (HROWS.out.go ((Below.refl _ _).alloc (Nat.le_refl _) (.cells #[.int .i32 45, .int .i64 (p : Int), .int .i64 (E : Int), .bool true] 88)))
 obtain ⟨j0, j1, j2, j3⟩ := cell_new wr (.int .i32 45) (.int .i64 (p : Int)) (.int .i64 (E : Int)) (.bool true) 88
 have JC := Lib.hid (And.intro j0 (And.intro j1 (And.intro j2 j3)))
 have hz1 : wr.heap.size < (wr.alloc (.cells #[.int .i32 45, .int .i64 (p : Int), .int .i64 (E : Int), .bool true] 88)).heap.size := by simp
 have HPB0 : Hid (some wr.heap.size ≠ (Value.slice A6 out.length c6).ownBlock) := own_new HROWS.out.own (Nat.le_refl _)
 have HQB0 : Hid (some bp ≠ (Value.slice A6 out.length c6).ownBlock) := apartS HROWS.out.pts HROWS.out.own (by decide) rfl
 have cL : Hid (∀ y, TabsL y → Calls Tryd.prog 35 #[.int .i32 45] y fun e w' => e = .returned (.bool false) ∧ Below y.heap.size y w') := fun y hy => by
  have := refLetter_any (45 : Int) y (by have := HR.out; omega) hy
  rwa [hfR] at this
 clear j0 j1 j2 j3 hfR
 clear hA hbeh hlex hlen hrows hA1 hQ hT hl hg hq hp
 conv => arg 2; whnf
 go_wp2_with fail
 generalize hW1 : (wr.alloc (.cells #[.int .i32 45, .int .i64 (p : Int), .int .i64 (E : Int), .bool true] 88)) = W1 at *
 refine (cL.out _ (HT.out _ RW1.out.bel)).mono ?_
 rintro e w2 ⟨rfl, hb2⟩
 obtain ⟨j0, j1, j2, j3⟩ := JC.out
 have RW2 := Lib.hid (RW1.out.go hb2)
 have J0 : w2.cell? ⟨wr.heap.size, 0, none⟩ = some (.int .i32 45) := below_cell hb2 hz1 j0
 have J1 : w2.cell? ⟨wr.heap.size, 1, none⟩ = some (.int .i64 (p : Int)) := below_cell hb2 hz1 j1
 have J2 : w2.cell? ⟨wr.heap.size, 2, none⟩ = some (.int .i64 (E : Int)) := below_cell hb2 hz1 j2
 have J3 : w2.cell? ⟨wr.heap.size, 3, none⟩ = some (.bool true) := below_cell hb2 hz1 j3
 have hz2 : wr.heap.size < w2.heap.size := Nat.lt_of_lt_of_le hz1 hb2.size
 have hgl2 : bp < w2.heap.size := by omega
 clear hb2 hW1 RW1 JC j0 j1 j2 j3 hz1 hgl e0 e1 e2 e3
 generalize wr.heap.size = pb at *
 have hk1 := HK1.out
 have F1 : w2.cell? ⟨bp, off + (k + 1) * 4, none⟩ = some (.int .i32 (runeR (l.drop (p + 1)))) := ((Row.of_own RW2.out.pts).pt HQ1.out).1
 have hR2 := runeR_range (l.drop (p + 1))
 have cD : Hid (∀ y, Calls Tryd.prog 36 #[.int .i32 45] y fun e w' => e = .returned (.bool false) ∧ y = w') := fun y => by
  have := refDigit_any (45 : Int) y (by omega)
  rwa [show decide (digR 45 < 10) = false from by decide] at this
 have cD2 : Hid (∀ y, Calls Tryd.prog 36 #[.int .i32 (runeR (l.drop (p + 1)))] y fun e w' => e = .returned (.bool true) ∧ y = w') := fun y => by
  have := refDigit_any (runeR (l.drop (p + 1))) y (by omega)
  rwa [decide_eq_true HX3.out] at this
 generalize runeR (l.drop (p + 1)) = R2 at *
 have t1 : decide ((k : Int) + 1 < L.length) = true := decide_eq_true (by omega)
 have t2 : decide (k + 1 < L.length) = true := decide_eq_true hk1
 have t3 : (k : Int) + 1 < L.length := by omega
 have t4 : (0 : Int) ≤ (k : Int) + 1 := by omega
 have t5 : ((k : Int) + 1).toNat = k + 1 := by omega
 go_wp2_with fail
 refine (cD.out _).mono ?_
 rintro e w3 ⟨rfl, rfl⟩
 go_wp2_with fail
 refine (cD2.out _).mono ?_
 rintro e w3 ⟨rfl, rfl⟩
 go_wp2_with fail
 go_loopw [9] (fun q x => ∃ (K pp ff : Nat) (n : Int), q = .int .i64 ((K : Int) + 1) ∧ k ≤ K ∧ (K = k → pp = p + 1) ∧ DigG l L 10 (k + 1) K pp ff n nn (p + sz) ∧ NameG l L Z w x (some ⟨bp, off, none⟩) c (.slice A6 out.length c6) out K pp ff p pb (S0 (p + sz) false (out ++ [⟨2, (-nn), p, (l.drop p).take sz⟩])) ∧ x.cell? ⟨pb, 0, none⟩ = some (.int .i32 45)) (fun q _ => L.length - (intOf q).toNat)
 case atStart => exact ⟨k, p + 1, f, 0, rfl, Nat.le_refl _, fun _ => rfl, HD0.out, ⟨HA2.out, HLX0.out, RW2.out, J1, hz2, by omega⟩, J0⟩
 case round =>
  obtain ⟨K, pp, ff, n, rfl, hkK, hk1p, hdg, hng, hj0⟩ := hrel
  have hgt := hng.gt
  have HJ0 : Hid (∀ Y : Prop, Y → wr.cell? ⟨pb, 0, none⟩ = some (.int .i32 45)) := fun _ _ => hj0
  clear F1 t1 t2 t3 t4 t5 J0 J1 J2 J3
  by_cases hK : K + 1 < L.length
  ·obtain ⟨gg, rfl, hp2, hq2, hA3⟩ := hng.at_.step hK
   have kt : decide ((K : Int) + 1 < L.length) = true := decide_eq_true (by omega)
   have kt2 : decide (K + 1 < L.length) = true := decide_eq_true (by omega)
   have K0 : (0 : Int) ≤ (K : Int) + 1 := by omega
   have K1 : (K : Int) + 1 < L.length := by omega
   have K2 : ((K : Int) + 1).toNat = K + 1 := by omega
   obtain ⟨f0, _, _, _⟩ := (Row.of_own hng.rows.pts).pt hq2
   obtain ⟨bq, oq, hAq, hglw, _⟩ := (Row.of_own hng.rows.pts).at_ (by omega)
   obtain ⟨rfl, rfl⟩ : bp = bq ∧ off = oq := by injection hAq with e; injection e with e1 e2; exact ⟨e1, e2⟩
   unfold ptAt at f0
   simp only at f0
   have hR3 := runeR_range (l.drop pp)
   have cH3 := Lib.hid (fun y => refDigit_any (runeR (l.drop pp)) y (by omega))
   by_cases hd : digR (runeR (l.drop pp)) < 10
   ·have HDN := Lib.hid (hdg.next (by omega) hp2 hq2 hd)
    have HNX := Lib.hid (hng.next hA3 hp2 (hdg.more hp2 hd))
    have HJ1 := Lib.hid hj0
    rw [decide_eq_true hd] at cH3
    clear hdg hng hd hA3 hq2 hAq hj0
    generalize hR4 : runeR (l.drop pp) = R3 at f0 cH3 hR3
    clear hR4
    go_wp2_with fail
    refine (cH3.out _).mono ?_
    rintro e w4 ⟨rfl, rfl⟩
    go_wp2_with fail
    go_roundw
    case rel => exact ⟨K + 1, _, gg, _, rfl, by omega, fun e => by omega, HDN.out, HNX.out, HJ1.out⟩
    case measure => simp [intOf]; omega
   ·have hst : ¬ pp < l.length ∨ 10 ≤ digR (runeR (l.drop pp)) := .inr (by omega)
    rw [decide_eq_false hd] at cH3
    clear hd hA3 hq2 hAq hj0
    go_wp2_with fail
    refine (cH3.out _).mono ?_
    rintro e w4 ⟨rfl, rfl⟩
    obtain ⟨e1, e2⟩ := hdg.stop hst
    have hKlt : k + 1 < K + 1 := by
     have := HE2.out
     by_cases e : K = k
     ·have := hk1p e; omega
     ·omega
    have hKle : K + 1 ≤ L.length := by
     obtain ⟨q, hq3, _⟩ := hng.at_.prev (by omega)
     rw [show K + 1 - 1 = K from rfl] at hq3
     exact (List.getElem?_eq_some_iff.1 hq3).1
    have s1 : ((k : Int) + 1) ≤ (K : Int) + 1 := by omega
    have s2 : (K : Int) + 1 ≤ c := by omega
    have s3 : (0 : Int) ≤ (k : Int) + 1 := by omega
    have s4 : ((K : Int) + 1).toNat = K + 1 := by omega
    have s5 : ((k : Int) + 1).toNat = k + 1 := by omega
    have s6 : (k : Int) + 1 < c := by omega
    have HNG := Lib.hid hng
    obtain ⟨bn, on, hAn, hgln, _⟩ := (Row.of_own hng.rows.pts).at_ (by omega)
    obtain ⟨rfl, rfl⟩ : bp = bn ∧ off = on := by injection hAn with e; injection e with e1 e2; exact ⟨e1, e2⟩
    have cN := Lib.hid (refNumber_any bp (off + (k + 1) * 4) (c - (k + 1)) (K - k) 10 ((L.drop (k + 1)).take (K + 1 - (k + 1))) wr (by rw [List.length_take, List.length_drop]; omega) (by omega) (.inl rfl) (fun j q hj => by
     have hj2 : L[k + 1 + j]? = some q := by
      rw [List.getElem?_take] at hj
      split at hj
      ·rw [List.getElem?_drop] at hj; exact hj
      ·cases hj
     have := ((Row.of_own hng.rows.pts).pt hj2).1
     rw [show off + (k + 1) * 4 + j * 4 = off + (k + 1 + j) * 4 by omega]
     exact this) hgln (fun q hq => (hdg.all q hq).1) (fun q hq => (hdg.all q hq).2))
    have hsim := hdg.sim
    rw [e1] at hsim
    have hval := hsim.eq (by omega)
    rw [hval] at cN
    have hgt2 : decide (4294967296 < nn) = false := decide_eq_false (by omega)
    have hnn : 0 ≤ nn := hnr.1
    have hnl : nn ≤ 4294967296 := by omega
    have hpe : pp = p + sz := e2
    have HPE := Lib.hid hpe
    have HN := Lib.hid HNG.out.at_
    have HLX := Lib.hid HNG.out.lex
    have HXR := Lib.hid HNG.out.rows
    have HZA : Hid (pb < wr.heap.size) := HNG.out.lt
    obtain ⟨q, hq3, hqe⟩ := HNG.out.at_.prev (by omega)
    rw [show K + 1 - 1 = K from rfl] at hq3
    obtain ⟨bq, oq, hAq, hglq, _⟩ := (Row.of_own HNG.out.rows.pts).at_ (by omega)
    obtain ⟨rfl, rfl⟩ : bp = bq ∧ off = oq := by injection hAq with e; injection e with e1 e2; exact ⟨e1, e2⟩
    have HZB : Hid (bp < wr.heap.size) := hglq
    have jq : wr.cell? ⟨bp, off + K * 4 + 2, none⟩ = some (.int .i64 (pp : Int)) := by
     have := ((Row.of_own HNG.out.rows.pts).pt hq3).2.2.1
     rwa [hqe] at this
    have jp := HNG.out.cell
    have HPB := HPB0
    have HQB := HQB0
    have kz0 : (0 : Int) ≤ K := by omega
    have kz1 : (K : Int) < L.length := by have := (List.getElem?_eq_some_iff.1 hq3).1; omega
    have kz2 : K < L.length := by omega
    have kz3 : decide (K < L.length) = true := decide_eq_true kz2
    have kz4 : decide ((K : Int) < L.length) = true := decide_eq_true kz1
    have kz5 : decide (0 ≤ (K : Int)) = true := decide_eq_true kz0
    have kz6 : IntKind.i64.wrap (K : Int) = (K : Int) := IntWalk.i64_in _ (by omega)
    have pz0 : (p : Int) ≤ pp := by omega
    have pz1 : (pp : Int) ≤ s.size := by have := HNG.out.at_.le; have := HLS.out; omega
    have pz2 : (0 : Int) ≤ p := by omega
    have HTOK : Hid ([.int .i64 2, .int .i64 (-nn), .int .i64 (p : Int), .string (s.extract p pp)] = tokL ⟨2, (-nn), p, (l.drop p).take sz⟩) := by
     show _ = _
     unfold tokL
     rw [hpe, txt_cut, ← HLL.out]
    have HJP := Lib.hid jp
    have jr := HJ0.out _ HNG.out
    clear hdg hng hval hsim e1 hpe hq3 hqe hAq hglq hAn e2 hrg
    go_wp2_with fail
    refine cN.out.mono ?_
    rintro e w5 ⟨rfl, rfl⟩
    go_wp2_with fail
    obtain ⟨i0, hi, hz0, hz1, hz2⟩ := info_parts info_tok
    have HI := Lib.hid hz2
    have hS0 : wr.drew.cell? ⟨pb, 1, none⟩ = some (.int .i64 (p : Int)) ∧ wr.drew.cell? ⟨bp, off + K * 4 + 2, none⟩ = some (.int .i64 (pp : Int)) := ⟨jp, jq⟩
    have hzA : pb < wr.drew.heap.size := HZA.out
    have hzB : bp < wr.drew.heap.size := by first | exact HZB.out | exact HZA.out
    clear hz2 jp jq
    refine wp_region_lin [(0, true), (1, true), (2, true), (3, true), (4, true), (5, true), (6, true), (7, true), (8, true), (9, true), (10, true), (11, true), (12, true), (13, true), (14, true), (15, false), (16, false), (17, true)] (by kernel_rfl) (by kernel_rfl) rfl (by kernel_rfl) (fun x => x.cell? ⟨pb, 1, none⟩ = some (.int .i64 (p : Int)) ∧ x.cell? ⟨bp, off + K * 4 + 2, none⟩ = some (.int .i64 (pp : Int))) ?_
    simp only [List.map_cons, List.map_nil, List.getElem?_toArray, List.getElem?_cons_succ, List.getElem?_cons_zero]
    iterate 13 (refine lin_take (v := ?_) (by assumption) (by rfl) ?_ ?_; rotate_left; (intro x hx; obtain ⟨x0, x1⟩ := hx; go_simp; try (with_reducible rfl)); try (simp only [Act.put, List.setIfInBounds_toArray, List.set_cons_zero, List.set_cons_succ]))
    refine lin_take (v := .string (s.extract p pp)) (by assumption) (by rfl) (fun x hx => ?_) ?_
    ·obtain ⟨x0, x1⟩ := hx
     go_simp
    (simp only [Act.put, List.setIfInBounds_toArray, List.set_cons_zero, List.set_cons_succ])
    iterate 1 (refine lin_take (v := ?_) (by assumption) (by rfl) ?_ ?_; rotate_left; (intro x hx; obtain ⟨x0, x1⟩ := hx; go_simp; try (with_reducible rfl)); try (simp only [Act.put, List.setIfInBounds_toArray, List.set_cons_zero, List.set_cons_succ]))
    have hSa : (wr.drew.alloc (.cells #[.int .i64 2, .int .i64 (-nn), .int .i64 (p : Int), .string (s.extract p pp)] 48)).cell? ⟨pb, 1, none⟩ = some (.int .i64 (p : Int)) ∧ (wr.drew.alloc (.cells #[.int .i64 2, .int .i64 (-nn), .int .i64 (p : Int), .string (s.extract p pp)] 48)).cell? ⟨bp, off + K * 4 + 2, none⟩ = some (.int .i64 (pp : Int)) := ⟨(World.cell?_alloc_lt _ _ _ (by assumption)).trans hS0.1, (World.cell?_alloc_lt _ _ _ (by assumption)).trans hS0.2⟩
    refine lin_call hS0 (by rfl) (fun KK hKK => ?_)
    clear hi hz0 hz1
    go_simp
    refine hKK.out _ _ hSa (fun _ => ?_)
    clear hKK KK hS0
    try (simp only [Act.put, List.setIfInBounds_toArray, List.set_cons_zero, List.set_cons_succ])
    obtain ⟨i0, hi, hz0, hz1, hz2⟩ := info_parts info_tok
    refine lin_call hSa (by rfl) (fun KK hKK => ?_)
    refine wp_append_row _ (.tmp 285) (.tmp 300) 41 rfl w.heap.size 48 i0 (.agg #[.int .i64 0, .int .i64 0, .int .i64 0, .string ⟨#[]⟩]) 4 40 Tryd.underlying41 hi hz0 hz1 hz2 rfl (by omega) _ out.length (toksL out) rfl (HXR.out.own.drew.alloc _) _ (.slice (some ⟨_, 0, none⟩) 1 1) 1 [.int .i64 2, .int .i64 (-nn), .int .i64 (p : Int), .string (s.extract p pp)] rfl (row_one4 _ _ _ _ _ _) (by simp [Value.oneCell']) (by unfold maxLen; omega) (by omega) (Nat.le_trans HXR.out.bel.size (by simp)) ?_
    intro v3 y3 hO3 hg3
    have R3 := Lib.hid (HXR.out.drew.app hg3 HTOK.out hO3)
    have hS3 : y3.cell? ⟨pb, 1, none⟩ = some (.int .i64 (p : Int)) ∧ y3.cell? ⟨bp, off + K * 4 + 2, none⟩ = some (.int .i64 (pp : Int)) := ⟨hg3.cell hSa.1 HPB.out, hg3.cell hSa.2 (by first | exact HQB.out | exact HPB.out)⟩
    clear hO3 hg3 hSa hi hz0 hz1 hz2
    refine hKK.out _ _ hS3 (fun _ => ?_)
    clear hKK KK
    try (simp only [Act.put, List.setIfInBounds_toArray, List.set_cons_zero, List.set_cons_succ])
    iterate 1 (refine lin_take (v := ?_) (by assumption) (by rfl) ?_ ?_; rotate_left; (intro x hx; obtain ⟨x0, x1⟩ := hx; go_simp; try (with_reducible rfl)); try (simp only [Act.put, List.setIfInBounds_toArray, List.set_cons_zero, List.set_cons_succ]))
    refine lin_done ?_
    clear hS3
    go_wp2_with fail
    refine ⟨?_, ?_⟩
    ·refine WI.mk ?_
     exact ⟨K + 1, pp, _, p + sz, _, rfl, HN.out, by have := HPE.out; have := HBEH.out; have := HEP.out; omega, HLX.out, by have := HPE.out; have := HLEN.out; have := HEP.out; first | omega | (simp; omega), R3.out⟩
    ·exact Wmu_lt (k := k) (m := K + 1) rfl rfl hk (by omega)
  ·have hst : ¬ pp < l.length ∨ 10 ≤ digR (runeR (l.drop pp)) := .inl (hng.at_.stop hK)
   have kt : decide ((K : Int) + 1 < L.length) = false := decide_eq_false (by omega)
   have kt2 : decide (K + 1 < L.length) = false := decide_eq_false (by omega)
   clear hj0
   obtain ⟨e1, e2⟩ := hdg.stop hst
   have hKlt : k + 1 < K + 1 := by
    have := HE2.out
    by_cases e : K = k
    ·have := hk1p e; omega
    ·omega
   have hKle : K + 1 ≤ L.length := by
    obtain ⟨q, hq3, _⟩ := hng.at_.prev (by omega)
    rw [show K + 1 - 1 = K from rfl] at hq3
    exact (List.getElem?_eq_some_iff.1 hq3).1
   have s1 : ((k : Int) + 1) ≤ (K : Int) + 1 := by omega
   have s2 : (K : Int) + 1 ≤ c := by omega
   have s3 : (0 : Int) ≤ (k : Int) + 1 := by omega
   have s4 : ((K : Int) + 1).toNat = K + 1 := by omega
   have s5 : ((k : Int) + 1).toNat = k + 1 := by omega
   have s6 : (k : Int) + 1 < c := by omega
   have HNG := Lib.hid hng
   obtain ⟨bn, on, hAn, hgln, _⟩ := (Row.of_own hng.rows.pts).at_ (by omega)
   obtain ⟨rfl, rfl⟩ : bp = bn ∧ off = on := by injection hAn with e; injection e with e1 e2; exact ⟨e1, e2⟩
   have cN := Lib.hid (refNumber_any bp (off + (k + 1) * 4) (c - (k + 1)) (K - k) 10 ((L.drop (k + 1)).take (K + 1 - (k + 1))) wr (by rw [List.length_take, List.length_drop]; omega) (by omega) (.inl rfl) (fun j q hj => by
    have hj2 : L[k + 1 + j]? = some q := by
     rw [List.getElem?_take] at hj
     split at hj
     ·rw [List.getElem?_drop] at hj; exact hj
     ·cases hj
    have := ((Row.of_own hng.rows.pts).pt hj2).1
    rw [show off + (k + 1) * 4 + j * 4 = off + (k + 1 + j) * 4 by omega]
    exact this) hgln (fun q hq => (hdg.all q hq).1) (fun q hq => (hdg.all q hq).2))
   have hsim := hdg.sim
   rw [e1] at hsim
   have hval := hsim.eq (by omega)
   rw [hval] at cN
   have hgt2 : decide (4294967296 < nn) = false := decide_eq_false (by omega)
   have hnn : 0 ≤ nn := hnr.1
   have hnl : nn ≤ 4294967296 := by omega
   have hpe : pp = p + sz := e2
   have HPE := Lib.hid hpe
   have HN := Lib.hid HNG.out.at_
   have HLX := Lib.hid HNG.out.lex
   have HXR := Lib.hid HNG.out.rows
   have HZA : Hid (pb < wr.heap.size) := HNG.out.lt
   obtain ⟨q, hq3, hqe⟩ := HNG.out.at_.prev (by omega)
   rw [show K + 1 - 1 = K from rfl] at hq3
   obtain ⟨bq, oq, hAq, hglq, _⟩ := (Row.of_own HNG.out.rows.pts).at_ (by omega)
   obtain ⟨rfl, rfl⟩ : bp = bq ∧ off = oq := by injection hAq with e; injection e with e1 e2; exact ⟨e1, e2⟩
   have HZB : Hid (bp < wr.heap.size) := hglq
   have jq : wr.cell? ⟨bp, off + K * 4 + 2, none⟩ = some (.int .i64 (pp : Int)) := by
    have := ((Row.of_own HNG.out.rows.pts).pt hq3).2.2.1
    rwa [hqe] at this
   have jp := HNG.out.cell
   have HPB := HPB0
   have HQB := HQB0
   have kz0 : (0 : Int) ≤ K := by omega
   have kz1 : (K : Int) < L.length := by have := (List.getElem?_eq_some_iff.1 hq3).1; omega
   have kz2 : K < L.length := by omega
   have kz3 : decide (K < L.length) = true := decide_eq_true kz2
   have kz4 : decide ((K : Int) < L.length) = true := decide_eq_true kz1
   have kz5 : decide (0 ≤ (K : Int)) = true := decide_eq_true kz0
   have kz6 : IntKind.i64.wrap (K : Int) = (K : Int) := IntWalk.i64_in _ (by omega)
   have pz0 : (p : Int) ≤ pp := by omega
   have pz1 : (pp : Int) ≤ s.size := by have := HNG.out.at_.le; have := HLS.out; omega
   have pz2 : (0 : Int) ≤ p := by omega
   have HTOK : Hid ([.int .i64 2, .int .i64 (-nn), .int .i64 (p : Int), .string (s.extract p pp)] = tokL ⟨2, (-nn), p, (l.drop p).take sz⟩) := by
    show _ = _
    unfold tokL
    rw [hpe, txt_cut, ← HLL.out]
   have HJP := Lib.hid jp
   have jr := HJ0.out _ HNG.out
   clear hdg hng hval hsim e1 hpe hq3 hqe hAq hglq hAn e2 hrg
   go_wp2_with fail
   refine cN.out.mono ?_
   rintro e w5 ⟨rfl, rfl⟩
   go_wp2_with fail
   obtain ⟨i0, hi, hz0, hz1, hz2⟩ := info_parts info_tok
   have HI := Lib.hid hz2
   have hS0 : wr.drew.cell? ⟨pb, 1, none⟩ = some (.int .i64 (p : Int)) ∧ wr.drew.cell? ⟨bp, off + K * 4 + 2, none⟩ = some (.int .i64 (pp : Int)) := ⟨jp, jq⟩
   have hzA : pb < wr.drew.heap.size := HZA.out
   have hzB : bp < wr.drew.heap.size := by first | exact HZB.out | exact HZA.out
   clear hz2 jp jq
   refine wp_region_lin [(0, true), (1, true), (2, true), (3, true), (4, true), (5, true), (6, true), (7, true), (8, true), (9, true), (10, true), (11, true), (12, true), (13, true), (14, true), (15, false), (16, false), (17, true)] (by kernel_rfl) (by kernel_rfl) rfl (by kernel_rfl) (fun x => x.cell? ⟨pb, 1, none⟩ = some (.int .i64 (p : Int)) ∧ x.cell? ⟨bp, off + K * 4 + 2, none⟩ = some (.int .i64 (pp : Int))) ?_
   simp only [List.map_cons, List.map_nil, List.getElem?_toArray, List.getElem?_cons_succ, List.getElem?_cons_zero]
   iterate 13 (refine lin_take (v := ?_) (by assumption) (by rfl) ?_ ?_; rotate_left; (intro x hx; obtain ⟨x0, x1⟩ := hx; go_simp; try (with_reducible rfl)); try (simp only [Act.put, List.setIfInBounds_toArray, List.set_cons_zero, List.set_cons_succ]))
   refine lin_take (v := .string (s.extract p pp)) (by assumption) (by rfl) (fun x hx => ?_) ?_
   ·obtain ⟨x0, x1⟩ := hx
    go_simp
   (simp only [Act.put, List.setIfInBounds_toArray, List.set_cons_zero, List.set_cons_succ])
   iterate 1 (refine lin_take (v := ?_) (by assumption) (by rfl) ?_ ?_; rotate_left; (intro x hx; obtain ⟨x0, x1⟩ := hx; go_simp; try (with_reducible rfl)); try (simp only [Act.put, List.setIfInBounds_toArray, List.set_cons_zero, List.set_cons_succ]))
   have hSa : (wr.drew.alloc (.cells #[.int .i64 2, .int .i64 (-nn), .int .i64 (p : Int), .string (s.extract p pp)] 48)).cell? ⟨pb, 1, none⟩ = some (.int .i64 (p : Int)) ∧ (wr.drew.alloc (.cells #[.int .i64 2, .int .i64 (-nn), .int .i64 (p : Int), .string (s.extract p pp)] 48)).cell? ⟨bp, off + K * 4 + 2, none⟩ = some (.int .i64 (pp : Int)) := ⟨(World.cell?_alloc_lt _ _ _ (by assumption)).trans hS0.1, (World.cell?_alloc_lt _ _ _ (by assumption)).trans hS0.2⟩
   refine lin_call hS0 (by rfl) (fun KK hKK => ?_)
   clear hi hz0 hz1
   go_simp
   refine hKK.out _ _ hSa (fun _ => ?_)
   clear hKK KK hS0
   try (simp only [Act.put, List.setIfInBounds_toArray, List.set_cons_zero, List.set_cons_succ])
   obtain ⟨i0, hi, hz0, hz1, hz2⟩ := info_parts info_tok
   refine lin_call hSa (by rfl) (fun KK hKK => ?_)
   refine wp_append_row _ (.tmp 285) (.tmp 300) 41 rfl w.heap.size 48 i0 (.agg #[.int .i64 0, .int .i64 0, .int .i64 0, .string ⟨#[]⟩]) 4 40 Tryd.underlying41 hi hz0 hz1 hz2 rfl (by omega) _ out.length (toksL out) rfl (HXR.out.own.drew.alloc _) _ (.slice (some ⟨_, 0, none⟩) 1 1) 1 [.int .i64 2, .int .i64 (-nn), .int .i64 (p : Int), .string (s.extract p pp)] rfl (row_one4 _ _ _ _ _ _) (by simp [Value.oneCell']) (by unfold maxLen; omega) (by omega) (Nat.le_trans HXR.out.bel.size (by simp)) ?_
   intro v3 y3 hO3 hg3
   have R3 := Lib.hid (HXR.out.drew.app hg3 HTOK.out hO3)
   have hS3 : y3.cell? ⟨pb, 1, none⟩ = some (.int .i64 (p : Int)) ∧ y3.cell? ⟨bp, off + K * 4 + 2, none⟩ = some (.int .i64 (pp : Int)) := ⟨hg3.cell hSa.1 HPB.out, hg3.cell hSa.2 (by first | exact HQB.out | exact HPB.out)⟩
   clear hO3 hg3 hSa hi hz0 hz1 hz2
   refine hKK.out _ _ hS3 (fun _ => ?_)
   clear hKK KK
   try (simp only [Act.put, List.setIfInBounds_toArray, List.set_cons_zero, List.set_cons_succ])
   iterate 1 (refine lin_take (v := ?_) (by assumption) (by rfl) ?_ ?_; rotate_left; (intro x hx; obtain ⟨x0, x1⟩ := hx; go_simp; try (with_reducible rfl)); try (simp only [Act.put, List.setIfInBounds_toArray, List.set_cons_zero, List.set_cons_succ]))
   refine lin_done ?_
   clear hS3
   go_wp2_with fail
   refine ⟨?_, ?_⟩
   ·refine WI.mk ?_
    exact ⟨K + 1, pp, _, p + sz, _, rfl, HN.out, by have := HPE.out; have := HBEH.out; have := HEP.out; omega, HLX.out, by have := HPE.out; have := HLEN.out; have := HEP.out; first | omega | (simp; omega), R3.out⟩
   ·exact Wmu_lt (k := k) (m := K + 1) rfl rfl hk (by omega)
end Go.Proofs.YtcaibahniheohaaDoor.Words

/- Several texts in one: RefSplitSign44, RefSplitSign58, RefSplitSign40, RefSplitSign41, RefSplitNoneA, RefSplitNoneB, RefSplitNoneC. -/
import Derived.Test.YtimdojeagkbgbaaDoorG02

/- The document's own Split: a case of a round. -/
namespace Go.Proofs.YtimdojeagkbgbaaDoor.Words
set_option maxRecDepth 1000000
open Go.RowKit Go.Shelf Go.Lib
set_option linter.unusedVariables false

set_option maxHeartbeats 4000000 in
theorem split_sign44 (s : ByteArray) (l : List UInt8) (w wr : World) (A : Option Addr) (c k p f b : Nat) (L : List Pt) (Z : LexR) (out : List Tok) (v6 : Value) (c1 c13 c14 c15 c16 c17 : Value) (u2 u3 u4 u8 u9 u10 u11 u12 u18 u19 u20 u21 u22 u23 u24 u25 u26 u27 u28 u29 u30 u31 u32 u33 u34 u35 u36 u37 u38 u39 u40 u41 u42 u43 u44 u45 u46 u47 u48 u49 u50 u51 u52 u53 u54 u55 u56 u57 u58 u59 u60 u61 u62 u63 u64 u65 u66 u67 u68 u69 u70 u71 u72 u73 u74 u75 u76 u77 u78 u79 u80 u81 u82 u83 u84 u85 u86 u87 u88 u89 u90 u91 u92 u93 u94 u95 u96 u97 u98 u99 u100 u101 u102 u103 u104 u105 u106 u107 u108 u109 u110 u111 u112 u113 u114 u115 u116 u117 u118 u119 u120 u121 u122 u123 u124 u125 u126 u127 u128 u129 u130 u131 u132 u133 u134 u135 u136 u137 u138 u139 u140 u141 u142 u143 u144 u145 u146 u147 u148 u149 u150 u151 u152 u153 u154 u155 u156 u157 u158 u159 u160 u161 u162 u163 u164 u165 u166 u167 u168 u169 u170 u171 u172 u173 u174 u175 u176 u177 u178 u179 u180 u181 u182 u183 u184 u185 u186 u187 u188 u189 u190 u191 u192 u193 u194 u195 u196 u197 u198 u199 u200 u201 u202 u203 u204 u205 u206 u207 u208 u209 u210 u211 u212 u213 u214 u215 u216 u217 u218 u219 u220 u221 u222 u223 u224 u225 u226 u227 u228 u229 u230 u231 u232 u233 u234 u235 u236 u237 u238 u239 u240 u241 u242 u243 u244 u245 u246 u247 u248 u249 u250 u251 u252 u253 u254 u255 u256 u257 u258 u259 u260 u261 u262 u263 u264 u265 u266 u267 u268 u269 u270 u271 u272 u273 u274 u275 u276 u277 u278 u279 u280 u281 u282 u283 u284 u285 u286 u287 u288 u289 u290 u291 u292 u293 u294 u295 u296 u297 u298 u299 u300 u301 u302 u303 u304 u305 u306 u307 u308 u309 u310 u311 u312 u313 u314 u315 u316 u317 u318 u319 u320 u321 u322 u323 u324 u325 u326 u327 u328 u329 u330 u331 u332 u333 u334 : Value) (Q0 : Exit → Act → World → Prop) (hs : s.size ≤ 1000000) (hl : l = s.data.toList) (hT : TabsB w.heap.size w) (hR : RoundG l L Z w wr A c v6 k p (f + 1) b out) (hk : k < L.length) (hL : L.length ≤ s.size) (hQ : QS s L Z w A c c1 c13 c14 c15 c16 c17 Q0) (hr : runeR (l.drop p) = 44) :
    Code.wp Tryd.prog bodyS (Exit.then (fun a' x => WI s A c L c1 c13 c14 c15 c16 c17 (RelS l L Z w A c) a' x ∧ Wmu L.length a' x < Wmu L.length ⟨#[.string s, c1, u2, u3, u4, .slice A L.length c, v6, .int .i64 (k : Int), u8, u9, u10, u11, u12, c13, c14, c15, c16, c17, u18, u19, u20, u21, u22, u23, u24, u25, u26, u27, u28, u29, u30, u31, u32, u33, u34, u35, u36, u37, u38, u39, u40, u41, u42, u43, u44, u45, u46, u47, u48, u49, u50, u51, u52, u53, u54, u55, u56, u57, u58, u59, u60, u61, u62, u63, u64, u65, u66, u67, u68, u69, u70, u71, u72, u73, u74, u75, u76, u77, u78, u79, u80, u81, u82, u83, u84, u85, u86, u87, u88, u89, u90, u91, u92, u93, u94, u95, u96, u97, u98, u99, u100, u101, u102, u103, u104, u105, u106, u107, u108, u109, u110, u111, u112, u113, u114, u115, u116, u117, u118, u119, u120, u121, u122, u123, u124, u125, u126, u127, u128, u129, u130, u131, u132, u133, u134, u135, u136, u137, u138, u139, u140, u141, u142, u143, u144, u145, u146, u147, u148, u149, u150, u151, u152, u153, u154, u155, u156, u157, u158, u159, u160, u161, u162, u163, u164, u165, u166, u167, u168, u169, u170, u171, u172, u173, u174, u175, u176, u177, u178, u179, u180, u181, u182, u183, u184, u185, u186, u187, u188, u189, u190, u191, u192, u193, u194, u195, u196, u197, u198, u199, u200, u201, u202, u203, u204, u205, u206, u207, u208, u209, u210, u211, u212, u213, u214, u215, u216, u217, u218, u219, u220, u221, u222, u223, u224, u225, u226, u227, u228, u229, u230, u231, u232, u233, u234, u235, u236, u237, u238, u239, u240, u241, u242, u243, u244, u245, u246, u247, u248, u249, u250, u251, u252, u253, u254, u255, u256, u257, u258, u259, u260, u261, u262, u263, u264, u265, u266, u267, u268, u269, u270, u271, u272, u273, u274, u275, u276, u277, u278, u279, u280, u281, u282, u283, u284, u285, u286, u287, u288, u289, u290, u291, u292, u293, u294, u295, u296, u297, u298, u299, u300, u301, u302, u303, u304, u305, u306, u307, u308, u309, u310, u311, u312, u313, u314, u315, u316, u317, u318, u319, u320, u321, u322, u323, u324, u325, u326, u327, u328, u329, u330, u331, u332, u333, u334], []⟩ wr) Q0) ⟨#[.string s, c1, u2, u3, u4, .slice A L.length c, v6, .int .i64 (k : Int), u8, u9, u10, u11, u12, c13, c14, c15, c16, c17, u18, u19, u20, u21, u22, u23, u24, u25, u26, u27, u28, u29, u30, u31, u32, u33, u34, u35, u36, u37, u38, u39, u40, u41, u42, u43, u44, u45, u46, u47, u48, u49, u50, u51, u52, u53, u54, u55, u56, u57, u58, u59, u60, u61, u62, u63, u64, u65, u66, u67, u68, u69, u70, u71, u72, u73, u74, u75, u76, u77, u78, u79, u80, u81, u82, u83, u84, u85, u86, u87, u88, u89, u90, u91, u92, u93, u94, u95, u96, u97, u98, u99, u100, u101, u102, u103, u104, u105, u106, u107, u108, u109, u110, u111, u112, u113, u114, u115, u116, u117, u118, u119, u120, u121, u122, u123, u124, u125, u126, u127, u128, u129, u130, u131, u132, u133, u134, u135, u136, u137, u138, u139, u140, u141, u142, u143, u144, u145, u146, u147, u148, u149, u150, u151, u152, u153, u154, u155, u156, u157, u158, u159, u160, u161, u162, u163, u164, u165, u166, u167, u168, u169, u170, u171, u172, u173, u174, u175, u176, u177, u178, u179, u180, u181, u182, u183, u184, u185, u186, u187, u188, u189, u190, u191, u192, u193, u194, u195, u196, u197, u198, u199, u200, u201, u202, u203, u204, u205, u206, u207, u208, u209, u210, u211, u212, u213, u214, u215, u216, u217, u218, u219, u220, u221, u222, u223, u224, u225, u226, u227, u228, u229, u230, u231, u232, u233, u234, u235, u236, u237, u238, u239, u240, u241, u242, u243, u244, u245, u246, u247, u248, u249, u250, u251, u252, u253, u254, u255, u256, u257, u258, u259, u260, u261, u262, u263, u264, u265, u266, u267, u268, u269, u270, u271, u272, u273, u274, u275, u276, u277, u278, u279, u280, u281, u282, u283, u284, u285, u286, u287, u288, u289, u290, u291, u292, u293, u294, u295, u296, u297, u298, u299, u300, u301, u302, u303, u304, u305, u306, u307, u308, u309, u310, u311, u312, u313, u314, u315, u316, u317, u318, u319, u320, u321, u322, u323, u324, u325, u326, u327, u328, u329, u330, u331, u332, u333, u334], []⟩ wr := by
  obtain ⟨hA, hbeh, hlex, hlen, hrows⟩ := hR
  obtain ⟨g, hg, hp, hq, hA1⟩ := hA.step hk
  obtain rfl : f = g := by omega
  have HQ := Lib.hid hQ
  have HLEX := Lib.hid hlex
  have HROWS := Lib.hid hrows
  have HA1 := Lib.hid hA1
  have HBEH := Lib.hid hbeh
  have HLEN := Lib.hid hlen
  have HT := Lib.hid hT
  have HLL := Lib.hid hl
  have HPL : Hid (p < l.length) := hp
  obtain ⟨bp, off, hA2, hgl, _⟩ := (Row.of_own hrows.pts).at_ (by omega)
  obtain rfl : A = some ⟨bp, off, none⟩ := hA2
  obtain ⟨e0, e1, e2, e3⟩ := (Row.of_own hrows.pts).pt hq
  have kq : decide ((k : Int) < L.length) = true := decide_eq_true (by omega)
  have kq2 : decide (k < L.length) = true := decide_eq_true hk
  have k0 : (0 : Int) ≤ k := by omega
  have k1 : (k : Int) < L.length := by omega
  have k2 : (L.length : Int) ≤ 1000000 := by omega
  have hp20 : (p : Int) ≤ 1000000 := by have := data_len s; rw [← hl] at this; omega
  have HR := Lib.hid (runeR_range (l.drop p))
  have HW := Lib.hid (wideR_pos (l.drop p))
  have HWI := Lib.hid (wide_in hp)
  have hsg : signR (runeR (l.drop p)) = true := by rw [hr]; decide
  have hlx0 := lex_on hlex hp hbeh (at_sign (x := S0 b false out) rfl hsg)
  unfold addZ at hlx0
  obtain ⟨t, ht, _, hw1⟩ := drop_cons (c := 44) hp (by omega) hr
  have hbad := good hr (by decide)
  obtain ⟨A6, c6, rfl⟩ := (Row.of_own hrows.own).form
  have hot : (out.length : Int) ≤ 1000000 := by omega
  have hot2 : out.length ≤ 1000000 := by omega
  have HLS : Hid (l.length = s.size) := by rw [hl]; exact data_len s
  unfold ptAt at e0 e1 e2 e3
  simp only at e0 e1 e2 e3
  obtain ⟨R, hRR⟩ : ∃ R, R = runeR (l.drop p) := ⟨_, rfl⟩
  obtain ⟨E, hEE⟩ : ∃ E, E = p + wideR (l.drop p) := ⟨_, rfl⟩
  have HRR := Lib.hid hRR
  have HEE := Lib.hid hEE
  rw [← hRR] at e0 HR
  rw [← hEE] at e2 HA1 HWI
  have HEP : Hid (p < E) := by have := HW.out; show _ < _; omega
  rw [hbad] at e3
  simp only [Bool.not_false] at e3
  have hE1 : E = p + 1 := by omega
  have HE1 := Lib.hid hE1
  rw [← hEE] at hlx0
  rw [← hRR] at hr
  subst hr
  have HLX : Hid (lexF l f E (S0 (p + 1) false (out ++ [⟨3, 0, p, (l.drop p).take 1⟩])) = Z) := hlx0
  have HN := HA1
  have hfR : firstR (44 : Int) = false := by decide +kernel
  clear hRR hEE hbad hlx0 hsg ht hw1 hE1
  have RW1 := Lib.hid (HROWS.out.go ((Below.refl _ _).alloc (Nat.le_refl _) (.cells #[.int .i32 44, .int .i64 (p : Int), .int .i64 (E : Int), .bool true] 64)))
  obtain ⟨j0, j1, j2, j3⟩ := cell_new wr (.int .i32 44) (.int .i64 (p : Int)) (.int .i64 (E : Int)) (.bool true) 64
  have JC := Lib.hid (And.intro j0 (And.intro j1 (And.intro j2 j3)))
  have hz1 : wr.heap.size < (wr.alloc (.cells #[.int .i32 44, .int .i64 (p : Int), .int .i64 (E : Int), .bool true] 64)).heap.size := by simp
  have HPB0 : Hid (some wr.heap.size ≠ (Value.slice A6 out.length c6).ownBlock) := own_new HROWS.out.own (Nat.le_refl _)
  have HQB0 : Hid (some bp ≠ (Value.slice A6 out.length c6).ownBlock) := apartS HROWS.out.pts HROWS.out.own (by decide) rfl
  have cL : Hid (∀ y, Tabs y → Calls Tryd.prog 30 #[.int .i32 44] y fun e w' => e = .returned (.bool false) ∧ Below y.heap.size y w') := fun y hy => by
    have := refLetter_any (44 : Int) y (by have := HR.out; omega) hy
    rwa [hfR] at this
  clear j0 j1 j2 j3 hfR
  clear hA hbeh hlex hlen hrows hA1 hQ hT hl hg hq hp
  conv => arg 2; whnf
  go_wp2_with fail
  generalize hW1 : (wr.alloc (.cells #[.int .i32 44, .int .i64 (p : Int), .int .i64 (E : Int), .bool true] 64)) = W1 at *
  refine (cL.out _ (HT.out _ RW1.out.bel)).mono ?_
  rintro e w2 ⟨rfl, hb2⟩
  obtain ⟨j0, j1, j2, j3⟩ := JC.out
  have RW2 := Lib.hid (RW1.out.go hb2)
  have J0 : w2.cell? ⟨wr.heap.size, 0, none⟩ = some (.int .i32 44) := below_cell hb2 hz1 j0
  have J1 : w2.cell? ⟨wr.heap.size, 1, none⟩ = some (.int .i64 (p : Int)) := below_cell hb2 hz1 j1
  have J2 : w2.cell? ⟨wr.heap.size, 2, none⟩ = some (.int .i64 (E : Int)) := below_cell hb2 hz1 j2
  have J3 : w2.cell? ⟨wr.heap.size, 3, none⟩ = some (.bool true) := below_cell hb2 hz1 j3
  have hz2 : wr.heap.size < w2.heap.size := Nat.lt_of_lt_of_le hz1 hb2.size
  have hgl2 : bp < w2.heap.size := by omega
  clear hb2 hW1 RW1 JC j0 j1 j2 j3 hz1 hgl e0 e1 e2 e3
  generalize wr.heap.size = pb at *
  have cD : Hid (∀ y, Calls Tryd.prog 31 #[.int .i32 44] y fun e w' => e = .returned (.bool false) ∧ y = w') := fun y => by
    have := refDigit_any (44 : Int) y (by omega)
    rwa [show decide (digR 44 < 10) = false from by decide] at this
  go_wp2_with fail
  refine (cD.out _).mono ?_
  rintro e w3 ⟨rfl, rfl⟩
  have HZA : Hid (pb < w2.heap.size) := hz2
  have HPB := HPB0
  have HQB := HQB0
  have pz0 : (p : Int) ≤ E := by have := HE1.out; omega
  have pz1 : (E : Int) ≤ s.size := by have := HWI.out; have := HLS.out; omega
  have pz2 : (0 : Int) ≤ p := by omega
  have HTOK : Hid ([.int .i64 3, .int .i64 0, .int .i64 (p : Int), .string (s.extract p E)] = tokL ⟨3, 0, p, (l.drop p).take 1⟩) := by
    show _ = _
    unfold tokL
    rw [HE1.out, txt_cut, ← HLL.out]
  go_wp2_with fail
  obtain ⟨i0, hi, hz0, hz1, hz2⟩ := info_parts info_tok
  have HI := Lib.hid hz2
  have hS0 : w2.drew.cell? ⟨pb, 1, none⟩ = some (.int .i64 (p : Int)) ∧ w2.drew.cell? ⟨pb, 2, none⟩ = some (.int .i64 (E : Int)) := ⟨J1, J2⟩
  have hzA : pb < w2.drew.heap.size := HZA.out
  have hzB : pb < w2.drew.heap.size := by first | exact HZB.out | exact HZA.out
  clear hz2 J1 J2
  refine wp_region_lin [(0, true), (1, true), (2, true), (3, true), (4, true), (5, true), (6, true), (7, true), (8, true), (9, true), (10, false), (11, false), (12, true)] (by kernel_rfl) (by kernel_rfl) rfl (by kernel_rfl) (fun x => x.cell? ⟨pb, 1, none⟩ = some (.int .i64 (p : Int)) ∧ x.cell? ⟨pb, 2, none⟩ = some (.int .i64 (E : Int))) ?_
  simp only [List.map_cons, List.map_nil, List.getElem?_toArray, List.getElem?_cons_succ, List.getElem?_cons_zero]
  iterate 8 (refine lin_take (v := ?_) (by assumption) (by rfl) ?_ ?_; rotate_left; (intro x hx; obtain ⟨x0, x1⟩ := hx; go_simp; try (with_reducible rfl)); try (simp only [Act.put, List.setIfInBounds_toArray, List.set_cons_zero, List.set_cons_succ]))
  refine lin_take (v := .string (s.extract p E)) (by assumption) (by rfl) (fun x hx => ?_) ?_
  · obtain ⟨x0, x1⟩ := hx
    go_simp
  (simp only [Act.put, List.setIfInBounds_toArray, List.set_cons_zero, List.set_cons_succ])
  iterate 1 (refine lin_take (v := ?_) (by assumption) (by rfl) ?_ ?_; rotate_left; (intro x hx; obtain ⟨x0, x1⟩ := hx; go_simp; try (with_reducible rfl)); try (simp only [Act.put, List.setIfInBounds_toArray, List.set_cons_zero, List.set_cons_succ]))
  have hSa : (w2.drew.alloc (.cells #[.int .i64 3, .int .i64 0, .int .i64 (p : Int), .string (s.extract p E)] 33)).cell? ⟨pb, 1, none⟩ = some (.int .i64 (p : Int)) ∧ (w2.drew.alloc (.cells #[.int .i64 3, .int .i64 0, .int .i64 (p : Int), .string (s.extract p E)] 33)).cell? ⟨pb, 2, none⟩ = some (.int .i64 (E : Int)) := ⟨(World.cell?_alloc_lt _ _ _ (by assumption)).trans hS0.1, (World.cell?_alloc_lt _ _ _ (by assumption)).trans hS0.2⟩
  refine lin_call hS0 (by rfl) (fun KK hKK => ?_)
  clear hi hz0 hz1
  go_simp
  refine hKK.out _ _ hSa (fun _ => ?_)
  clear hKK KK hS0
  try (simp only [Act.put, List.setIfInBounds_toArray, List.set_cons_zero, List.set_cons_succ])
  obtain ⟨i0, hi, hz0, hz1, hz2⟩ := info_parts info_tok
  refine lin_call hSa (by rfl) (fun KK hKK => ?_)
  refine wp_append_row _ (.tmp 321) (.tmp 331) 23 rfl w.heap.size 33 i0 (.agg #[.int .i64 0, .int .i64 0, .int .i64 0, .string ⟨#[]⟩]) 4 40 Tryd.underlying23 hi hz0 hz1 hz2 rfl (by omega) _ out.length (toksL out) rfl (RW2.out.own.drew.alloc _) _ (.slice (some ⟨_, 0, none⟩) 1 1) 1 [.int .i64 3, .int .i64 0, .int .i64 (p : Int), .string (s.extract p E)] rfl (row_one4 _ _ _ _ _ _) (by simp [Value.oneCell']) (by unfold maxLen; omega) (by omega) (Nat.le_trans RW2.out.bel.size (by simp)) ?_
  intro v3 y3 hO3 hg3
  have R3 := Lib.hid (RW2.out.drew.app hg3 HTOK.out hO3)
  have hS3 : y3.cell? ⟨pb, 1, none⟩ = some (.int .i64 (p : Int)) ∧ y3.cell? ⟨pb, 2, none⟩ = some (.int .i64 (E : Int)) := ⟨hg3.cell hSa.1 HPB.out, hg3.cell hSa.2 (by first | exact HQB.out | exact HPB.out)⟩
  clear hO3 hg3 hSa hi hz0 hz1 hz2
  refine hKK.out _ _ hS3 (fun _ => ?_)
  clear hKK KK
  try (simp only [Act.put, List.setIfInBounds_toArray, List.set_cons_zero, List.set_cons_succ])
  iterate 1 (refine lin_take (v := ?_) (by assumption) (by rfl) ?_ ?_; rotate_left; (intro x hx; obtain ⟨x0, x1⟩ := hx; go_simp; try (with_reducible rfl)); try (simp only [Act.put, List.setIfInBounds_toArray, List.set_cons_zero, List.set_cons_succ]))
  refine lin_done ?_
  clear hS3
  go_wp2_with fail
  refine ⟨?_, ?_⟩
  · unfold WI
    refine ⟨_, _, _, _, _, _, _, _, _, _, _, _, _, _, _, _, _, _, _, _, _, _, _, _, _, _, _, _, _, _, _, _, _, _, _, _, _, _, _, _, _, _, _, _, _, _, _, _, _, _, _, _, _, _, _, _, _, _, _, _, _, _, _, _, _, _, _, _, _, _, _, _, _, _, _, _, _, _, _, _, _, _, _, _, _, _, _, _, _, _, _, _, _, _, _, _, _, _, _, _, _, _, _, _, _, _, _, _, _, _, _, _, _, _, _, _, _, _, _, _, _, _, _, _, _, _, _, _, _, _, _, _, _, _, _, _, _, _, _, _, _, _, _, _, _, _, _, _, _, _, _, _, _, _, _, _, _, _, _, _, _, _, _, _, _, _, _, _, _, _, _, _, _, _, _, _, _, _, _, _, _, _, _, _, _, _, _, _, _, _, _, _, _, _, _, _, _, _, _, _, _, _, _, _, _, _, _, _, _, _, _, _, _, _, _, _, _, _, _, _, _, _, _, _, _, _, _, _, _, _, _, _, _, _, _, _, _, _, _, _, _, _, _, _, _, _, _, _, _, _, _, _, _, _, _, _, _, _, _, _, _, _, _, _, _, _, _, _, _, _, _, _, _, _, _, _, _, _, _, _, _, _, _, _, _, _, _, _, _, _, _, _, _, _, _, _, _, _, _, _, _, _, _, _, _, _, _, _, _, _, _, _, _, _, _, _, _, _, _, _, _, _, _, _, _, _, _, ?_, rfl⟩
    exact ⟨k + 1, E, f, p + 1, _, rfl, HN.out, by have := HE1.out; have := HBEH.out; have := HEP.out; omega, HLX.out, by have := HE1.out; have := HLEN.out; have := HEP.out; first | omega | (simp; omega), R3.out⟩
  · exact Wmu_lt (k := k) (m := k + 1) rfl rfl hk (by omega)
end Go.Proofs.YtimdojeagkbgbaaDoor.Words

/- The document's own Split: a case of a round. -/
namespace Go.Proofs.YtimdojeagkbgbaaDoor.Words
set_option maxRecDepth 1000000
open Go.RowKit Go.Shelf Go.Lib
set_option linter.unusedVariables false

set_option maxHeartbeats 4000000 in
theorem split_sign58 (s : ByteArray) (l : List UInt8) (w wr : World) (A : Option Addr) (c k p f b : Nat) (L : List Pt) (Z : LexR) (out : List Tok) (v6 : Value) (c1 c13 c14 c15 c16 c17 : Value) (u2 u3 u4 u8 u9 u10 u11 u12 u18 u19 u20 u21 u22 u23 u24 u25 u26 u27 u28 u29 u30 u31 u32 u33 u34 u35 u36 u37 u38 u39 u40 u41 u42 u43 u44 u45 u46 u47 u48 u49 u50 u51 u52 u53 u54 u55 u56 u57 u58 u59 u60 u61 u62 u63 u64 u65 u66 u67 u68 u69 u70 u71 u72 u73 u74 u75 u76 u77 u78 u79 u80 u81 u82 u83 u84 u85 u86 u87 u88 u89 u90 u91 u92 u93 u94 u95 u96 u97 u98 u99 u100 u101 u102 u103 u104 u105 u106 u107 u108 u109 u110 u111 u112 u113 u114 u115 u116 u117 u118 u119 u120 u121 u122 u123 u124 u125 u126 u127 u128 u129 u130 u131 u132 u133 u134 u135 u136 u137 u138 u139 u140 u141 u142 u143 u144 u145 u146 u147 u148 u149 u150 u151 u152 u153 u154 u155 u156 u157 u158 u159 u160 u161 u162 u163 u164 u165 u166 u167 u168 u169 u170 u171 u172 u173 u174 u175 u176 u177 u178 u179 u180 u181 u182 u183 u184 u185 u186 u187 u188 u189 u190 u191 u192 u193 u194 u195 u196 u197 u198 u199 u200 u201 u202 u203 u204 u205 u206 u207 u208 u209 u210 u211 u212 u213 u214 u215 u216 u217 u218 u219 u220 u221 u222 u223 u224 u225 u226 u227 u228 u229 u230 u231 u232 u233 u234 u235 u236 u237 u238 u239 u240 u241 u242 u243 u244 u245 u246 u247 u248 u249 u250 u251 u252 u253 u254 u255 u256 u257 u258 u259 u260 u261 u262 u263 u264 u265 u266 u267 u268 u269 u270 u271 u272 u273 u274 u275 u276 u277 u278 u279 u280 u281 u282 u283 u284 u285 u286 u287 u288 u289 u290 u291 u292 u293 u294 u295 u296 u297 u298 u299 u300 u301 u302 u303 u304 u305 u306 u307 u308 u309 u310 u311 u312 u313 u314 u315 u316 u317 u318 u319 u320 u321 u322 u323 u324 u325 u326 u327 u328 u329 u330 u331 u332 u333 u334 : Value) (Q0 : Exit → Act → World → Prop) (hs : s.size ≤ 1000000) (hl : l = s.data.toList) (hT : TabsB w.heap.size w) (hR : RoundG l L Z w wr A c v6 k p (f + 1) b out) (hk : k < L.length) (hL : L.length ≤ s.size) (hQ : QS s L Z w A c c1 c13 c14 c15 c16 c17 Q0) (hr : runeR (l.drop p) = 58) :
    Code.wp Tryd.prog bodyS (Exit.then (fun a' x => WI s A c L c1 c13 c14 c15 c16 c17 (RelS l L Z w A c) a' x ∧ Wmu L.length a' x < Wmu L.length ⟨#[.string s, c1, u2, u3, u4, .slice A L.length c, v6, .int .i64 (k : Int), u8, u9, u10, u11, u12, c13, c14, c15, c16, c17, u18, u19, u20, u21, u22, u23, u24, u25, u26, u27, u28, u29, u30, u31, u32, u33, u34, u35, u36, u37, u38, u39, u40, u41, u42, u43, u44, u45, u46, u47, u48, u49, u50, u51, u52, u53, u54, u55, u56, u57, u58, u59, u60, u61, u62, u63, u64, u65, u66, u67, u68, u69, u70, u71, u72, u73, u74, u75, u76, u77, u78, u79, u80, u81, u82, u83, u84, u85, u86, u87, u88, u89, u90, u91, u92, u93, u94, u95, u96, u97, u98, u99, u100, u101, u102, u103, u104, u105, u106, u107, u108, u109, u110, u111, u112, u113, u114, u115, u116, u117, u118, u119, u120, u121, u122, u123, u124, u125, u126, u127, u128, u129, u130, u131, u132, u133, u134, u135, u136, u137, u138, u139, u140, u141, u142, u143, u144, u145, u146, u147, u148, u149, u150, u151, u152, u153, u154, u155, u156, u157, u158, u159, u160, u161, u162, u163, u164, u165, u166, u167, u168, u169, u170, u171, u172, u173, u174, u175, u176, u177, u178, u179, u180, u181, u182, u183, u184, u185, u186, u187, u188, u189, u190, u191, u192, u193, u194, u195, u196, u197, u198, u199, u200, u201, u202, u203, u204, u205, u206, u207, u208, u209, u210, u211, u212, u213, u214, u215, u216, u217, u218, u219, u220, u221, u222, u223, u224, u225, u226, u227, u228, u229, u230, u231, u232, u233, u234, u235, u236, u237, u238, u239, u240, u241, u242, u243, u244, u245, u246, u247, u248, u249, u250, u251, u252, u253, u254, u255, u256, u257, u258, u259, u260, u261, u262, u263, u264, u265, u266, u267, u268, u269, u270, u271, u272, u273, u274, u275, u276, u277, u278, u279, u280, u281, u282, u283, u284, u285, u286, u287, u288, u289, u290, u291, u292, u293, u294, u295, u296, u297, u298, u299, u300, u301, u302, u303, u304, u305, u306, u307, u308, u309, u310, u311, u312, u313, u314, u315, u316, u317, u318, u319, u320, u321, u322, u323, u324, u325, u326, u327, u328, u329, u330, u331, u332, u333, u334], []⟩ wr) Q0) ⟨#[.string s, c1, u2, u3, u4, .slice A L.length c, v6, .int .i64 (k : Int), u8, u9, u10, u11, u12, c13, c14, c15, c16, c17, u18, u19, u20, u21, u22, u23, u24, u25, u26, u27, u28, u29, u30, u31, u32, u33, u34, u35, u36, u37, u38, u39, u40, u41, u42, u43, u44, u45, u46, u47, u48, u49, u50, u51, u52, u53, u54, u55, u56, u57, u58, u59, u60, u61, u62, u63, u64, u65, u66, u67, u68, u69, u70, u71, u72, u73, u74, u75, u76, u77, u78, u79, u80, u81, u82, u83, u84, u85, u86, u87, u88, u89, u90, u91, u92, u93, u94, u95, u96, u97, u98, u99, u100, u101, u102, u103, u104, u105, u106, u107, u108, u109, u110, u111, u112, u113, u114, u115, u116, u117, u118, u119, u120, u121, u122, u123, u124, u125, u126, u127, u128, u129, u130, u131, u132, u133, u134, u135, u136, u137, u138, u139, u140, u141, u142, u143, u144, u145, u146, u147, u148, u149, u150, u151, u152, u153, u154, u155, u156, u157, u158, u159, u160, u161, u162, u163, u164, u165, u166, u167, u168, u169, u170, u171, u172, u173, u174, u175, u176, u177, u178, u179, u180, u181, u182, u183, u184, u185, u186, u187, u188, u189, u190, u191, u192, u193, u194, u195, u196, u197, u198, u199, u200, u201, u202, u203, u204, u205, u206, u207, u208, u209, u210, u211, u212, u213, u214, u215, u216, u217, u218, u219, u220, u221, u222, u223, u224, u225, u226, u227, u228, u229, u230, u231, u232, u233, u234, u235, u236, u237, u238, u239, u240, u241, u242, u243, u244, u245, u246, u247, u248, u249, u250, u251, u252, u253, u254, u255, u256, u257, u258, u259, u260, u261, u262, u263, u264, u265, u266, u267, u268, u269, u270, u271, u272, u273, u274, u275, u276, u277, u278, u279, u280, u281, u282, u283, u284, u285, u286, u287, u288, u289, u290, u291, u292, u293, u294, u295, u296, u297, u298, u299, u300, u301, u302, u303, u304, u305, u306, u307, u308, u309, u310, u311, u312, u313, u314, u315, u316, u317, u318, u319, u320, u321, u322, u323, u324, u325, u326, u327, u328, u329, u330, u331, u332, u333, u334], []⟩ wr := by
  obtain ⟨hA, hbeh, hlex, hlen, hrows⟩ := hR
  obtain ⟨g, hg, hp, hq, hA1⟩ := hA.step hk
  obtain rfl : f = g := by omega
  have HQ := Lib.hid hQ
  have HLEX := Lib.hid hlex
  have HROWS := Lib.hid hrows
  have HA1 := Lib.hid hA1
  have HBEH := Lib.hid hbeh
  have HLEN := Lib.hid hlen
  have HT := Lib.hid hT
  have HLL := Lib.hid hl
  have HPL : Hid (p < l.length) := hp
  obtain ⟨bp, off, hA2, hgl, _⟩ := (Row.of_own hrows.pts).at_ (by omega)
  obtain rfl : A = some ⟨bp, off, none⟩ := hA2
  obtain ⟨e0, e1, e2, e3⟩ := (Row.of_own hrows.pts).pt hq
  have kq : decide ((k : Int) < L.length) = true := decide_eq_true (by omega)
  have kq2 : decide (k < L.length) = true := decide_eq_true hk
  have k0 : (0 : Int) ≤ k := by omega
  have k1 : (k : Int) < L.length := by omega
  have k2 : (L.length : Int) ≤ 1000000 := by omega
  have hp20 : (p : Int) ≤ 1000000 := by have := data_len s; rw [← hl] at this; omega
  have HR := Lib.hid (runeR_range (l.drop p))
  have HW := Lib.hid (wideR_pos (l.drop p))
  have HWI := Lib.hid (wide_in hp)
  have hsg : signR (runeR (l.drop p)) = true := by rw [hr]; decide
  have hlx0 := lex_on hlex hp hbeh (at_sign (x := S0 b false out) rfl hsg)
  unfold addZ at hlx0
  obtain ⟨t, ht, _, hw1⟩ := drop_cons (c := 58) hp (by omega) hr
  have hbad := good hr (by decide)
  obtain ⟨A6, c6, rfl⟩ := (Row.of_own hrows.own).form
  have hot : (out.length : Int) ≤ 1000000 := by omega
  have hot2 : out.length ≤ 1000000 := by omega
  have HLS : Hid (l.length = s.size) := by rw [hl]; exact data_len s
  unfold ptAt at e0 e1 e2 e3
  simp only at e0 e1 e2 e3
  obtain ⟨R, hRR⟩ : ∃ R, R = runeR (l.drop p) := ⟨_, rfl⟩
  obtain ⟨E, hEE⟩ : ∃ E, E = p + wideR (l.drop p) := ⟨_, rfl⟩
  have HRR := Lib.hid hRR
  have HEE := Lib.hid hEE
  rw [← hRR] at e0 HR
  rw [← hEE] at e2 HA1 HWI
  have HEP : Hid (p < E) := by have := HW.out; show _ < _; omega
  rw [hbad] at e3
  simp only [Bool.not_false] at e3
  have hE1 : E = p + 1 := by omega
  have HE1 := Lib.hid hE1
  rw [← hEE] at hlx0
  rw [← hRR] at hr
  subst hr
  have HLX : Hid (lexF l f E (S0 (p + 1) false (out ++ [⟨3, 0, p, (l.drop p).take 1⟩])) = Z) := hlx0
  have HN := HA1
  have hfR : firstR (58 : Int) = false := by decide +kernel
  clear hRR hEE hbad hlx0 hsg ht hw1 hE1
  have RW1 := Lib.hid (HROWS.out.go ((Below.refl _ _).alloc (Nat.le_refl _) (.cells #[.int .i32 58, .int .i64 (p : Int), .int .i64 (E : Int), .bool true] 64)))
  obtain ⟨j0, j1, j2, j3⟩ := cell_new wr (.int .i32 58) (.int .i64 (p : Int)) (.int .i64 (E : Int)) (.bool true) 64
  have JC := Lib.hid (And.intro j0 (And.intro j1 (And.intro j2 j3)))
  have hz1 : wr.heap.size < (wr.alloc (.cells #[.int .i32 58, .int .i64 (p : Int), .int .i64 (E : Int), .bool true] 64)).heap.size := by simp
  have HPB0 : Hid (some wr.heap.size ≠ (Value.slice A6 out.length c6).ownBlock) := own_new HROWS.out.own (Nat.le_refl _)
  have HQB0 : Hid (some bp ≠ (Value.slice A6 out.length c6).ownBlock) := apartS HROWS.out.pts HROWS.out.own (by decide) rfl
  have cL : Hid (∀ y, Tabs y → Calls Tryd.prog 30 #[.int .i32 58] y fun e w' => e = .returned (.bool false) ∧ Below y.heap.size y w') := fun y hy => by
    have := refLetter_any (58 : Int) y (by have := HR.out; omega) hy
    rwa [hfR] at this
  clear j0 j1 j2 j3 hfR
  clear hA hbeh hlex hlen hrows hA1 hQ hT hl hg hq hp
  conv => arg 2; whnf
  go_wp2_with fail
  generalize hW1 : (wr.alloc (.cells #[.int .i32 58, .int .i64 (p : Int), .int .i64 (E : Int), .bool true] 64)) = W1 at *
  refine (cL.out _ (HT.out _ RW1.out.bel)).mono ?_
  rintro e w2 ⟨rfl, hb2⟩
  obtain ⟨j0, j1, j2, j3⟩ := JC.out
  have RW2 := Lib.hid (RW1.out.go hb2)
  have J0 : w2.cell? ⟨wr.heap.size, 0, none⟩ = some (.int .i32 58) := below_cell hb2 hz1 j0
  have J1 : w2.cell? ⟨wr.heap.size, 1, none⟩ = some (.int .i64 (p : Int)) := below_cell hb2 hz1 j1
  have J2 : w2.cell? ⟨wr.heap.size, 2, none⟩ = some (.int .i64 (E : Int)) := below_cell hb2 hz1 j2
  have J3 : w2.cell? ⟨wr.heap.size, 3, none⟩ = some (.bool true) := below_cell hb2 hz1 j3
  have hz2 : wr.heap.size < w2.heap.size := Nat.lt_of_lt_of_le hz1 hb2.size
  have hgl2 : bp < w2.heap.size := by omega
  clear hb2 hW1 RW1 JC j0 j1 j2 j3 hz1 hgl e0 e1 e2 e3
  generalize wr.heap.size = pb at *
  have cD : Hid (∀ y, Calls Tryd.prog 31 #[.int .i32 58] y fun e w' => e = .returned (.bool false) ∧ y = w') := fun y => by
    have := refDigit_any (58 : Int) y (by omega)
    rwa [show decide (digR 58 < 10) = false from by decide] at this
  go_wp2_with fail
  refine (cD.out _).mono ?_
  rintro e w3 ⟨rfl, rfl⟩
  have HZA : Hid (pb < w2.heap.size) := hz2
  have HPB := HPB0
  have HQB := HQB0
  have pz0 : (p : Int) ≤ E := by have := HE1.out; omega
  have pz1 : (E : Int) ≤ s.size := by have := HWI.out; have := HLS.out; omega
  have pz2 : (0 : Int) ≤ p := by omega
  have HTOK : Hid ([.int .i64 3, .int .i64 0, .int .i64 (p : Int), .string (s.extract p E)] = tokL ⟨3, 0, p, (l.drop p).take 1⟩) := by
    show _ = _
    unfold tokL
    rw [HE1.out, txt_cut, ← HLL.out]
  go_wp2_with fail
  obtain ⟨i0, hi, hz0, hz1, hz2⟩ := info_parts info_tok
  have HI := Lib.hid hz2
  have hS0 : w2.drew.cell? ⟨pb, 1, none⟩ = some (.int .i64 (p : Int)) ∧ w2.drew.cell? ⟨pb, 2, none⟩ = some (.int .i64 (E : Int)) := ⟨J1, J2⟩
  have hzA : pb < w2.drew.heap.size := HZA.out
  have hzB : pb < w2.drew.heap.size := by first | exact HZB.out | exact HZA.out
  clear hz2 J1 J2
  refine wp_region_lin [(0, true), (1, true), (2, true), (3, true), (4, true), (5, true), (6, true), (7, true), (8, true), (9, true), (10, false), (11, false), (12, true)] (by kernel_rfl) (by kernel_rfl) rfl (by kernel_rfl) (fun x => x.cell? ⟨pb, 1, none⟩ = some (.int .i64 (p : Int)) ∧ x.cell? ⟨pb, 2, none⟩ = some (.int .i64 (E : Int))) ?_
  simp only [List.map_cons, List.map_nil, List.getElem?_toArray, List.getElem?_cons_succ, List.getElem?_cons_zero]
  iterate 8 (refine lin_take (v := ?_) (by assumption) (by rfl) ?_ ?_; rotate_left; (intro x hx; obtain ⟨x0, x1⟩ := hx; go_simp; try (with_reducible rfl)); try (simp only [Act.put, List.setIfInBounds_toArray, List.set_cons_zero, List.set_cons_succ]))
  refine lin_take (v := .string (s.extract p E)) (by assumption) (by rfl) (fun x hx => ?_) ?_
  · obtain ⟨x0, x1⟩ := hx
    go_simp
  (simp only [Act.put, List.setIfInBounds_toArray, List.set_cons_zero, List.set_cons_succ])
  iterate 1 (refine lin_take (v := ?_) (by assumption) (by rfl) ?_ ?_; rotate_left; (intro x hx; obtain ⟨x0, x1⟩ := hx; go_simp; try (with_reducible rfl)); try (simp only [Act.put, List.setIfInBounds_toArray, List.set_cons_zero, List.set_cons_succ]))
  have hSa : (w2.drew.alloc (.cells #[.int .i64 3, .int .i64 0, .int .i64 (p : Int), .string (s.extract p E)] 33)).cell? ⟨pb, 1, none⟩ = some (.int .i64 (p : Int)) ∧ (w2.drew.alloc (.cells #[.int .i64 3, .int .i64 0, .int .i64 (p : Int), .string (s.extract p E)] 33)).cell? ⟨pb, 2, none⟩ = some (.int .i64 (E : Int)) := ⟨(World.cell?_alloc_lt _ _ _ (by assumption)).trans hS0.1, (World.cell?_alloc_lt _ _ _ (by assumption)).trans hS0.2⟩
  refine lin_call hS0 (by rfl) (fun KK hKK => ?_)
  clear hi hz0 hz1
  go_simp
  refine hKK.out _ _ hSa (fun _ => ?_)
  clear hKK KK hS0
  try (simp only [Act.put, List.setIfInBounds_toArray, List.set_cons_zero, List.set_cons_succ])
  obtain ⟨i0, hi, hz0, hz1, hz2⟩ := info_parts info_tok
  refine lin_call hSa (by rfl) (fun KK hKK => ?_)
  refine wp_append_row _ (.tmp 321) (.tmp 331) 23 rfl w.heap.size 33 i0 (.agg #[.int .i64 0, .int .i64 0, .int .i64 0, .string ⟨#[]⟩]) 4 40 Tryd.underlying23 hi hz0 hz1 hz2 rfl (by omega) _ out.length (toksL out) rfl (RW2.out.own.drew.alloc _) _ (.slice (some ⟨_, 0, none⟩) 1 1) 1 [.int .i64 3, .int .i64 0, .int .i64 (p : Int), .string (s.extract p E)] rfl (row_one4 _ _ _ _ _ _) (by simp [Value.oneCell']) (by unfold maxLen; omega) (by omega) (Nat.le_trans RW2.out.bel.size (by simp)) ?_
  intro v3 y3 hO3 hg3
  have R3 := Lib.hid (RW2.out.drew.app hg3 HTOK.out hO3)
  have hS3 : y3.cell? ⟨pb, 1, none⟩ = some (.int .i64 (p : Int)) ∧ y3.cell? ⟨pb, 2, none⟩ = some (.int .i64 (E : Int)) := ⟨hg3.cell hSa.1 HPB.out, hg3.cell hSa.2 (by first | exact HQB.out | exact HPB.out)⟩
  clear hO3 hg3 hSa hi hz0 hz1 hz2
  refine hKK.out _ _ hS3 (fun _ => ?_)
  clear hKK KK
  try (simp only [Act.put, List.setIfInBounds_toArray, List.set_cons_zero, List.set_cons_succ])
  iterate 1 (refine lin_take (v := ?_) (by assumption) (by rfl) ?_ ?_; rotate_left; (intro x hx; obtain ⟨x0, x1⟩ := hx; go_simp; try (with_reducible rfl)); try (simp only [Act.put, List.setIfInBounds_toArray, List.set_cons_zero, List.set_cons_succ]))
  refine lin_done ?_
  clear hS3
  go_wp2_with fail
  refine ⟨?_, ?_⟩
  · unfold WI
    refine ⟨_, _, _, _, _, _, _, _, _, _, _, _, _, _, _, _, _, _, _, _, _, _, _, _, _, _, _, _, _, _, _, _, _, _, _, _, _, _, _, _, _, _, _, _, _, _, _, _, _, _, _, _, _, _, _, _, _, _, _, _, _, _, _, _, _, _, _, _, _, _, _, _, _, _, _, _, _, _, _, _, _, _, _, _, _, _, _, _, _, _, _, _, _, _, _, _, _, _, _, _, _, _, _, _, _, _, _, _, _, _, _, _, _, _, _, _, _, _, _, _, _, _, _, _, _, _, _, _, _, _, _, _, _, _, _, _, _, _, _, _, _, _, _, _, _, _, _, _, _, _, _, _, _, _, _, _, _, _, _, _, _, _, _, _, _, _, _, _, _, _, _, _, _, _, _, _, _, _, _, _, _, _, _, _, _, _, _, _, _, _, _, _, _, _, _, _, _, _, _, _, _, _, _, _, _, _, _, _, _, _, _, _, _, _, _, _, _, _, _, _, _, _, _, _, _, _, _, _, _, _, _, _, _, _, _, _, _, _, _, _, _, _, _, _, _, _, _, _, _, _, _, _, _, _, _, _, _, _, _, _, _, _, _, _, _, _, _, _, _, _, _, _, _, _, _, _, _, _, _, _, _, _, _, _, _, _, _, _, _, _, _, _, _, _, _, _, _, _, _, _, _, _, _, _, _, _, _, _, _, _, _, _, _, _, _, _, _, _, _, _, _, _, _, _, _, _, _, ?_, rfl⟩
    exact ⟨k + 1, E, f, p + 1, _, rfl, HN.out, by have := HE1.out; have := HBEH.out; have := HEP.out; omega, HLX.out, by have := HE1.out; have := HLEN.out; have := HEP.out; first | omega | (simp; omega), R3.out⟩
  · exact Wmu_lt (k := k) (m := k + 1) rfl rfl hk (by omega)
end Go.Proofs.YtimdojeagkbgbaaDoor.Words

/- The document's own Split: a case of a round. -/
namespace Go.Proofs.YtimdojeagkbgbaaDoor.Words
set_option maxRecDepth 1000000
open Go.RowKit Go.Shelf Go.Lib
set_option linter.unusedVariables false

set_option maxHeartbeats 4000000 in
theorem split_sign40 (s : ByteArray) (l : List UInt8) (w wr : World) (A : Option Addr) (c k p f b : Nat) (L : List Pt) (Z : LexR) (out : List Tok) (v6 : Value) (c1 c13 c14 c15 c16 c17 : Value) (u2 u3 u4 u8 u9 u10 u11 u12 u18 u19 u20 u21 u22 u23 u24 u25 u26 u27 u28 u29 u30 u31 u32 u33 u34 u35 u36 u37 u38 u39 u40 u41 u42 u43 u44 u45 u46 u47 u48 u49 u50 u51 u52 u53 u54 u55 u56 u57 u58 u59 u60 u61 u62 u63 u64 u65 u66 u67 u68 u69 u70 u71 u72 u73 u74 u75 u76 u77 u78 u79 u80 u81 u82 u83 u84 u85 u86 u87 u88 u89 u90 u91 u92 u93 u94 u95 u96 u97 u98 u99 u100 u101 u102 u103 u104 u105 u106 u107 u108 u109 u110 u111 u112 u113 u114 u115 u116 u117 u118 u119 u120 u121 u122 u123 u124 u125 u126 u127 u128 u129 u130 u131 u132 u133 u134 u135 u136 u137 u138 u139 u140 u141 u142 u143 u144 u145 u146 u147 u148 u149 u150 u151 u152 u153 u154 u155 u156 u157 u158 u159 u160 u161 u162 u163 u164 u165 u166 u167 u168 u169 u170 u171 u172 u173 u174 u175 u176 u177 u178 u179 u180 u181 u182 u183 u184 u185 u186 u187 u188 u189 u190 u191 u192 u193 u194 u195 u196 u197 u198 u199 u200 u201 u202 u203 u204 u205 u206 u207 u208 u209 u210 u211 u212 u213 u214 u215 u216 u217 u218 u219 u220 u221 u222 u223 u224 u225 u226 u227 u228 u229 u230 u231 u232 u233 u234 u235 u236 u237 u238 u239 u240 u241 u242 u243 u244 u245 u246 u247 u248 u249 u250 u251 u252 u253 u254 u255 u256 u257 u258 u259 u260 u261 u262 u263 u264 u265 u266 u267 u268 u269 u270 u271 u272 u273 u274 u275 u276 u277 u278 u279 u280 u281 u282 u283 u284 u285 u286 u287 u288 u289 u290 u291 u292 u293 u294 u295 u296 u297 u298 u299 u300 u301 u302 u303 u304 u305 u306 u307 u308 u309 u310 u311 u312 u313 u314 u315 u316 u317 u318 u319 u320 u321 u322 u323 u324 u325 u326 u327 u328 u329 u330 u331 u332 u333 u334 : Value) (Q0 : Exit → Act → World → Prop) (hs : s.size ≤ 1000000) (hl : l = s.data.toList) (hT : TabsB w.heap.size w) (hR : RoundG l L Z w wr A c v6 k p (f + 1) b out) (hk : k < L.length) (hL : L.length ≤ s.size) (hQ : QS s L Z w A c c1 c13 c14 c15 c16 c17 Q0) (hr : runeR (l.drop p) = 40) :
    Code.wp Tryd.prog bodyS (Exit.then (fun a' x => WI s A c L c1 c13 c14 c15 c16 c17 (RelS l L Z w A c) a' x ∧ Wmu L.length a' x < Wmu L.length ⟨#[.string s, c1, u2, u3, u4, .slice A L.length c, v6, .int .i64 (k : Int), u8, u9, u10, u11, u12, c13, c14, c15, c16, c17, u18, u19, u20, u21, u22, u23, u24, u25, u26, u27, u28, u29, u30, u31, u32, u33, u34, u35, u36, u37, u38, u39, u40, u41, u42, u43, u44, u45, u46, u47, u48, u49, u50, u51, u52, u53, u54, u55, u56, u57, u58, u59, u60, u61, u62, u63, u64, u65, u66, u67, u68, u69, u70, u71, u72, u73, u74, u75, u76, u77, u78, u79, u80, u81, u82, u83, u84, u85, u86, u87, u88, u89, u90, u91, u92, u93, u94, u95, u96, u97, u98, u99, u100, u101, u102, u103, u104, u105, u106, u107, u108, u109, u110, u111, u112, u113, u114, u115, u116, u117, u118, u119, u120, u121, u122, u123, u124, u125, u126, u127, u128, u129, u130, u131, u132, u133, u134, u135, u136, u137, u138, u139, u140, u141, u142, u143, u144, u145, u146, u147, u148, u149, u150, u151, u152, u153, u154, u155, u156, u157, u158, u159, u160, u161, u162, u163, u164, u165, u166, u167, u168, u169, u170, u171, u172, u173, u174, u175, u176, u177, u178, u179, u180, u181, u182, u183, u184, u185, u186, u187, u188, u189, u190, u191, u192, u193, u194, u195, u196, u197, u198, u199, u200, u201, u202, u203, u204, u205, u206, u207, u208, u209, u210, u211, u212, u213, u214, u215, u216, u217, u218, u219, u220, u221, u222, u223, u224, u225, u226, u227, u228, u229, u230, u231, u232, u233, u234, u235, u236, u237, u238, u239, u240, u241, u242, u243, u244, u245, u246, u247, u248, u249, u250, u251, u252, u253, u254, u255, u256, u257, u258, u259, u260, u261, u262, u263, u264, u265, u266, u267, u268, u269, u270, u271, u272, u273, u274, u275, u276, u277, u278, u279, u280, u281, u282, u283, u284, u285, u286, u287, u288, u289, u290, u291, u292, u293, u294, u295, u296, u297, u298, u299, u300, u301, u302, u303, u304, u305, u306, u307, u308, u309, u310, u311, u312, u313, u314, u315, u316, u317, u318, u319, u320, u321, u322, u323, u324, u325, u326, u327, u328, u329, u330, u331, u332, u333, u334], []⟩ wr) Q0) ⟨#[.string s, c1, u2, u3, u4, .slice A L.length c, v6, .int .i64 (k : Int), u8, u9, u10, u11, u12, c13, c14, c15, c16, c17, u18, u19, u20, u21, u22, u23, u24, u25, u26, u27, u28, u29, u30, u31, u32, u33, u34, u35, u36, u37, u38, u39, u40, u41, u42, u43, u44, u45, u46, u47, u48, u49, u50, u51, u52, u53, u54, u55, u56, u57, u58, u59, u60, u61, u62, u63, u64, u65, u66, u67, u68, u69, u70, u71, u72, u73, u74, u75, u76, u77, u78, u79, u80, u81, u82, u83, u84, u85, u86, u87, u88, u89, u90, u91, u92, u93, u94, u95, u96, u97, u98, u99, u100, u101, u102, u103, u104, u105, u106, u107, u108, u109, u110, u111, u112, u113, u114, u115, u116, u117, u118, u119, u120, u121, u122, u123, u124, u125, u126, u127, u128, u129, u130, u131, u132, u133, u134, u135, u136, u137, u138, u139, u140, u141, u142, u143, u144, u145, u146, u147, u148, u149, u150, u151, u152, u153, u154, u155, u156, u157, u158, u159, u160, u161, u162, u163, u164, u165, u166, u167, u168, u169, u170, u171, u172, u173, u174, u175, u176, u177, u178, u179, u180, u181, u182, u183, u184, u185, u186, u187, u188, u189, u190, u191, u192, u193, u194, u195, u196, u197, u198, u199, u200, u201, u202, u203, u204, u205, u206, u207, u208, u209, u210, u211, u212, u213, u214, u215, u216, u217, u218, u219, u220, u221, u222, u223, u224, u225, u226, u227, u228, u229, u230, u231, u232, u233, u234, u235, u236, u237, u238, u239, u240, u241, u242, u243, u244, u245, u246, u247, u248, u249, u250, u251, u252, u253, u254, u255, u256, u257, u258, u259, u260, u261, u262, u263, u264, u265, u266, u267, u268, u269, u270, u271, u272, u273, u274, u275, u276, u277, u278, u279, u280, u281, u282, u283, u284, u285, u286, u287, u288, u289, u290, u291, u292, u293, u294, u295, u296, u297, u298, u299, u300, u301, u302, u303, u304, u305, u306, u307, u308, u309, u310, u311, u312, u313, u314, u315, u316, u317, u318, u319, u320, u321, u322, u323, u324, u325, u326, u327, u328, u329, u330, u331, u332, u333, u334], []⟩ wr := by
  obtain ⟨hA, hbeh, hlex, hlen, hrows⟩ := hR
  obtain ⟨g, hg, hp, hq, hA1⟩ := hA.step hk
  obtain rfl : f = g := by omega
  have HQ := Lib.hid hQ
  have HLEX := Lib.hid hlex
  have HROWS := Lib.hid hrows
  have HA1 := Lib.hid hA1
  have HBEH := Lib.hid hbeh
  have HLEN := Lib.hid hlen
  have HT := Lib.hid hT
  have HLL := Lib.hid hl
  have HPL : Hid (p < l.length) := hp
  obtain ⟨bp, off, hA2, hgl, _⟩ := (Row.of_own hrows.pts).at_ (by omega)
  obtain rfl : A = some ⟨bp, off, none⟩ := hA2
  obtain ⟨e0, e1, e2, e3⟩ := (Row.of_own hrows.pts).pt hq
  have kq : decide ((k : Int) < L.length) = true := decide_eq_true (by omega)
  have kq2 : decide (k < L.length) = true := decide_eq_true hk
  have k0 : (0 : Int) ≤ k := by omega
  have k1 : (k : Int) < L.length := by omega
  have k2 : (L.length : Int) ≤ 1000000 := by omega
  have hp20 : (p : Int) ≤ 1000000 := by have := data_len s; rw [← hl] at this; omega
  have HR := Lib.hid (runeR_range (l.drop p))
  have HW := Lib.hid (wideR_pos (l.drop p))
  have HWI := Lib.hid (wide_in hp)
  have hsg : signR (runeR (l.drop p)) = true := by rw [hr]; decide
  have hlx0 := lex_on hlex hp hbeh (at_sign (x := S0 b false out) rfl hsg)
  unfold addZ at hlx0
  obtain ⟨t, ht, _, hw1⟩ := drop_cons (c := 40) hp (by omega) hr
  have hbad := good hr (by decide)
  obtain ⟨A6, c6, rfl⟩ := (Row.of_own hrows.own).form
  have hot : (out.length : Int) ≤ 1000000 := by omega
  have hot2 : out.length ≤ 1000000 := by omega
  have HLS : Hid (l.length = s.size) := by rw [hl]; exact data_len s
  unfold ptAt at e0 e1 e2 e3
  simp only at e0 e1 e2 e3
  obtain ⟨R, hRR⟩ : ∃ R, R = runeR (l.drop p) := ⟨_, rfl⟩
  obtain ⟨E, hEE⟩ : ∃ E, E = p + wideR (l.drop p) := ⟨_, rfl⟩
  have HRR := Lib.hid hRR
  have HEE := Lib.hid hEE
  rw [← hRR] at e0 HR
  rw [← hEE] at e2 HA1 HWI
  have HEP : Hid (p < E) := by have := HW.out; show _ < _; omega
  rw [hbad] at e3
  simp only [Bool.not_false] at e3
  have hE1 : E = p + 1 := by omega
  have HE1 := Lib.hid hE1
  rw [← hEE] at hlx0
  rw [← hRR] at hr
  subst hr
  have HLX : Hid (lexF l f E (S0 (p + 1) false (out ++ [⟨3, 0, p, (l.drop p).take 1⟩])) = Z) := hlx0
  have HN := HA1
  have hfR : firstR (40 : Int) = false := by decide +kernel
  clear hRR hEE hbad hlx0 hsg ht hw1 hE1
  have RW1 := Lib.hid (HROWS.out.go ((Below.refl _ _).alloc (Nat.le_refl _) (.cells #[.int .i32 40, .int .i64 (p : Int), .int .i64 (E : Int), .bool true] 64)))
  obtain ⟨j0, j1, j2, j3⟩ := cell_new wr (.int .i32 40) (.int .i64 (p : Int)) (.int .i64 (E : Int)) (.bool true) 64
  have JC := Lib.hid (And.intro j0 (And.intro j1 (And.intro j2 j3)))
  have hz1 : wr.heap.size < (wr.alloc (.cells #[.int .i32 40, .int .i64 (p : Int), .int .i64 (E : Int), .bool true] 64)).heap.size := by simp
  have HPB0 : Hid (some wr.heap.size ≠ (Value.slice A6 out.length c6).ownBlock) := own_new HROWS.out.own (Nat.le_refl _)
  have HQB0 : Hid (some bp ≠ (Value.slice A6 out.length c6).ownBlock) := apartS HROWS.out.pts HROWS.out.own (by decide) rfl
  have cL : Hid (∀ y, Tabs y → Calls Tryd.prog 30 #[.int .i32 40] y fun e w' => e = .returned (.bool false) ∧ Below y.heap.size y w') := fun y hy => by
    have := refLetter_any (40 : Int) y (by have := HR.out; omega) hy
    rwa [hfR] at this
  clear j0 j1 j2 j3 hfR
  clear hA hbeh hlex hlen hrows hA1 hQ hT hl hg hq hp
  conv => arg 2; whnf
  go_wp2_with fail
  generalize hW1 : (wr.alloc (.cells #[.int .i32 40, .int .i64 (p : Int), .int .i64 (E : Int), .bool true] 64)) = W1 at *
  refine (cL.out _ (HT.out _ RW1.out.bel)).mono ?_
  rintro e w2 ⟨rfl, hb2⟩
  obtain ⟨j0, j1, j2, j3⟩ := JC.out
  have RW2 := Lib.hid (RW1.out.go hb2)
  have J0 : w2.cell? ⟨wr.heap.size, 0, none⟩ = some (.int .i32 40) := below_cell hb2 hz1 j0
  have J1 : w2.cell? ⟨wr.heap.size, 1, none⟩ = some (.int .i64 (p : Int)) := below_cell hb2 hz1 j1
  have J2 : w2.cell? ⟨wr.heap.size, 2, none⟩ = some (.int .i64 (E : Int)) := below_cell hb2 hz1 j2
  have J3 : w2.cell? ⟨wr.heap.size, 3, none⟩ = some (.bool true) := below_cell hb2 hz1 j3
  have hz2 : wr.heap.size < w2.heap.size := Nat.lt_of_lt_of_le hz1 hb2.size
  have hgl2 : bp < w2.heap.size := by omega
  clear hb2 hW1 RW1 JC j0 j1 j2 j3 hz1 hgl e0 e1 e2 e3
  generalize wr.heap.size = pb at *
  have cD : Hid (∀ y, Calls Tryd.prog 31 #[.int .i32 40] y fun e w' => e = .returned (.bool false) ∧ y = w') := fun y => by
    have := refDigit_any (40 : Int) y (by omega)
    rwa [show decide (digR 40 < 10) = false from by decide] at this
  go_wp2_with fail
  refine (cD.out _).mono ?_
  rintro e w3 ⟨rfl, rfl⟩
  have HZA : Hid (pb < w2.heap.size) := hz2
  have HPB := HPB0
  have HQB := HQB0
  have pz0 : (p : Int) ≤ E := by have := HE1.out; omega
  have pz1 : (E : Int) ≤ s.size := by have := HWI.out; have := HLS.out; omega
  have pz2 : (0 : Int) ≤ p := by omega
  have HTOK : Hid ([.int .i64 3, .int .i64 0, .int .i64 (p : Int), .string (s.extract p E)] = tokL ⟨3, 0, p, (l.drop p).take 1⟩) := by
    show _ = _
    unfold tokL
    rw [HE1.out, txt_cut, ← HLL.out]
  go_wp2_with fail
  obtain ⟨i0, hi, hz0, hz1, hz2⟩ := info_parts info_tok
  have HI := Lib.hid hz2
  have hS0 : w2.drew.cell? ⟨pb, 1, none⟩ = some (.int .i64 (p : Int)) ∧ w2.drew.cell? ⟨pb, 2, none⟩ = some (.int .i64 (E : Int)) := ⟨J1, J2⟩
  have hzA : pb < w2.drew.heap.size := HZA.out
  have hzB : pb < w2.drew.heap.size := by first | exact HZB.out | exact HZA.out
  clear hz2 J1 J2
  refine wp_region_lin [(0, true), (1, true), (2, true), (3, true), (4, true), (5, true), (6, true), (7, true), (8, true), (9, true), (10, false), (11, false), (12, true)] (by kernel_rfl) (by kernel_rfl) rfl (by kernel_rfl) (fun x => x.cell? ⟨pb, 1, none⟩ = some (.int .i64 (p : Int)) ∧ x.cell? ⟨pb, 2, none⟩ = some (.int .i64 (E : Int))) ?_
  simp only [List.map_cons, List.map_nil, List.getElem?_toArray, List.getElem?_cons_succ, List.getElem?_cons_zero]
  iterate 8 (refine lin_take (v := ?_) (by assumption) (by rfl) ?_ ?_; rotate_left; (intro x hx; obtain ⟨x0, x1⟩ := hx; go_simp; try (with_reducible rfl)); try (simp only [Act.put, List.setIfInBounds_toArray, List.set_cons_zero, List.set_cons_succ]))
  refine lin_take (v := .string (s.extract p E)) (by assumption) (by rfl) (fun x hx => ?_) ?_
  · obtain ⟨x0, x1⟩ := hx
    go_simp
  (simp only [Act.put, List.setIfInBounds_toArray, List.set_cons_zero, List.set_cons_succ])
  iterate 1 (refine lin_take (v := ?_) (by assumption) (by rfl) ?_ ?_; rotate_left; (intro x hx; obtain ⟨x0, x1⟩ := hx; go_simp; try (with_reducible rfl)); try (simp only [Act.put, List.setIfInBounds_toArray, List.set_cons_zero, List.set_cons_succ]))
  have hSa : (w2.drew.alloc (.cells #[.int .i64 3, .int .i64 0, .int .i64 (p : Int), .string (s.extract p E)] 33)).cell? ⟨pb, 1, none⟩ = some (.int .i64 (p : Int)) ∧ (w2.drew.alloc (.cells #[.int .i64 3, .int .i64 0, .int .i64 (p : Int), .string (s.extract p E)] 33)).cell? ⟨pb, 2, none⟩ = some (.int .i64 (E : Int)) := ⟨(World.cell?_alloc_lt _ _ _ (by assumption)).trans hS0.1, (World.cell?_alloc_lt _ _ _ (by assumption)).trans hS0.2⟩
  refine lin_call hS0 (by rfl) (fun KK hKK => ?_)
  clear hi hz0 hz1
  go_simp
  refine hKK.out _ _ hSa (fun _ => ?_)
  clear hKK KK hS0
  try (simp only [Act.put, List.setIfInBounds_toArray, List.set_cons_zero, List.set_cons_succ])
  obtain ⟨i0, hi, hz0, hz1, hz2⟩ := info_parts info_tok
  refine lin_call hSa (by rfl) (fun KK hKK => ?_)
  refine wp_append_row _ (.tmp 321) (.tmp 331) 23 rfl w.heap.size 33 i0 (.agg #[.int .i64 0, .int .i64 0, .int .i64 0, .string ⟨#[]⟩]) 4 40 Tryd.underlying23 hi hz0 hz1 hz2 rfl (by omega) _ out.length (toksL out) rfl (RW2.out.own.drew.alloc _) _ (.slice (some ⟨_, 0, none⟩) 1 1) 1 [.int .i64 3, .int .i64 0, .int .i64 (p : Int), .string (s.extract p E)] rfl (row_one4 _ _ _ _ _ _) (by simp [Value.oneCell']) (by unfold maxLen; omega) (by omega) (Nat.le_trans RW2.out.bel.size (by simp)) ?_
  intro v3 y3 hO3 hg3
  have R3 := Lib.hid (RW2.out.drew.app hg3 HTOK.out hO3)
  have hS3 : y3.cell? ⟨pb, 1, none⟩ = some (.int .i64 (p : Int)) ∧ y3.cell? ⟨pb, 2, none⟩ = some (.int .i64 (E : Int)) := ⟨hg3.cell hSa.1 HPB.out, hg3.cell hSa.2 (by first | exact HQB.out | exact HPB.out)⟩
  clear hO3 hg3 hSa hi hz0 hz1 hz2
  refine hKK.out _ _ hS3 (fun _ => ?_)
  clear hKK KK
  try (simp only [Act.put, List.setIfInBounds_toArray, List.set_cons_zero, List.set_cons_succ])
  iterate 1 (refine lin_take (v := ?_) (by assumption) (by rfl) ?_ ?_; rotate_left; (intro x hx; obtain ⟨x0, x1⟩ := hx; go_simp; try (with_reducible rfl)); try (simp only [Act.put, List.setIfInBounds_toArray, List.set_cons_zero, List.set_cons_succ]))
  refine lin_done ?_
  clear hS3
  go_wp2_with fail
  refine ⟨?_, ?_⟩
  · unfold WI
    refine ⟨_, _, _, _, _, _, _, _, _, _, _, _, _, _, _, _, _, _, _, _, _, _, _, _, _, _, _, _, _, _, _, _, _, _, _, _, _, _, _, _, _, _, _, _, _, _, _, _, _, _, _, _, _, _, _, _, _, _, _, _, _, _, _, _, _, _, _, _, _, _, _, _, _, _, _, _, _, _, _, _, _, _, _, _, _, _, _, _, _, _, _, _, _, _, _, _, _, _, _, _, _, _, _, _, _, _, _, _, _, _, _, _, _, _, _, _, _, _, _, _, _, _, _, _, _, _, _, _, _, _, _, _, _, _, _, _, _, _, _, _, _, _, _, _, _, _, _, _, _, _, _, _, _, _, _, _, _, _, _, _, _, _, _, _, _, _, _, _, _, _, _, _, _, _, _, _, _, _, _, _, _, _, _, _, _, _, _, _, _, _, _, _, _, _, _, _, _, _, _, _, _, _, _, _, _, _, _, _, _, _, _, _, _, _, _, _, _, _, _, _, _, _, _, _, _, _, _, _, _, _, _, _, _, _, _, _, _, _, _, _, _, _, _, _, _, _, _, _, _, _, _, _, _, _, _, _, _, _, _, _, _, _, _, _, _, _, _, _, _, _, _, _, _, _, _, _, _, _, _, _, _, _, _, _, _, _, _, _, _, _, _, _, _, _, _, _, _, _, _, _, _, _, _, _, _, _, _, _, _, _, _, _, _, _, _, _, _, _, _, _, _, _, _, _, _, _, _, ?_, rfl⟩
    exact ⟨k + 1, E, f, p + 1, _, rfl, HN.out, by have := HE1.out; have := HBEH.out; have := HEP.out; omega, HLX.out, by have := HE1.out; have := HLEN.out; have := HEP.out; first | omega | (simp; omega), R3.out⟩
  · exact Wmu_lt (k := k) (m := k + 1) rfl rfl hk (by omega)
end Go.Proofs.YtimdojeagkbgbaaDoor.Words

/- The document's own Split: a case of a round. -/
namespace Go.Proofs.YtimdojeagkbgbaaDoor.Words
set_option maxRecDepth 1000000
open Go.RowKit Go.Shelf Go.Lib
set_option linter.unusedVariables false

set_option maxHeartbeats 4000000 in
theorem split_sign41 (s : ByteArray) (l : List UInt8) (w wr : World) (A : Option Addr) (c k p f b : Nat) (L : List Pt) (Z : LexR) (out : List Tok) (v6 : Value) (c1 c13 c14 c15 c16 c17 : Value) (u2 u3 u4 u8 u9 u10 u11 u12 u18 u19 u20 u21 u22 u23 u24 u25 u26 u27 u28 u29 u30 u31 u32 u33 u34 u35 u36 u37 u38 u39 u40 u41 u42 u43 u44 u45 u46 u47 u48 u49 u50 u51 u52 u53 u54 u55 u56 u57 u58 u59 u60 u61 u62 u63 u64 u65 u66 u67 u68 u69 u70 u71 u72 u73 u74 u75 u76 u77 u78 u79 u80 u81 u82 u83 u84 u85 u86 u87 u88 u89 u90 u91 u92 u93 u94 u95 u96 u97 u98 u99 u100 u101 u102 u103 u104 u105 u106 u107 u108 u109 u110 u111 u112 u113 u114 u115 u116 u117 u118 u119 u120 u121 u122 u123 u124 u125 u126 u127 u128 u129 u130 u131 u132 u133 u134 u135 u136 u137 u138 u139 u140 u141 u142 u143 u144 u145 u146 u147 u148 u149 u150 u151 u152 u153 u154 u155 u156 u157 u158 u159 u160 u161 u162 u163 u164 u165 u166 u167 u168 u169 u170 u171 u172 u173 u174 u175 u176 u177 u178 u179 u180 u181 u182 u183 u184 u185 u186 u187 u188 u189 u190 u191 u192 u193 u194 u195 u196 u197 u198 u199 u200 u201 u202 u203 u204 u205 u206 u207 u208 u209 u210 u211 u212 u213 u214 u215 u216 u217 u218 u219 u220 u221 u222 u223 u224 u225 u226 u227 u228 u229 u230 u231 u232 u233 u234 u235 u236 u237 u238 u239 u240 u241 u242 u243 u244 u245 u246 u247 u248 u249 u250 u251 u252 u253 u254 u255 u256 u257 u258 u259 u260 u261 u262 u263 u264 u265 u266 u267 u268 u269 u270 u271 u272 u273 u274 u275 u276 u277 u278 u279 u280 u281 u282 u283 u284 u285 u286 u287 u288 u289 u290 u291 u292 u293 u294 u295 u296 u297 u298 u299 u300 u301 u302 u303 u304 u305 u306 u307 u308 u309 u310 u311 u312 u313 u314 u315 u316 u317 u318 u319 u320 u321 u322 u323 u324 u325 u326 u327 u328 u329 u330 u331 u332 u333 u334 : Value) (Q0 : Exit → Act → World → Prop) (hs : s.size ≤ 1000000) (hl : l = s.data.toList) (hT : TabsB w.heap.size w) (hR : RoundG l L Z w wr A c v6 k p (f + 1) b out) (hk : k < L.length) (hL : L.length ≤ s.size) (hQ : QS s L Z w A c c1 c13 c14 c15 c16 c17 Q0) (hr : runeR (l.drop p) = 41) :
    Code.wp Tryd.prog bodyS (Exit.then (fun a' x => WI s A c L c1 c13 c14 c15 c16 c17 (RelS l L Z w A c) a' x ∧ Wmu L.length a' x < Wmu L.length ⟨#[.string s, c1, u2, u3, u4, .slice A L.length c, v6, .int .i64 (k : Int), u8, u9, u10, u11, u12, c13, c14, c15, c16, c17, u18, u19, u20, u21, u22, u23, u24, u25, u26, u27, u28, u29, u30, u31, u32, u33, u34, u35, u36, u37, u38, u39, u40, u41, u42, u43, u44, u45, u46, u47, u48, u49, u50, u51, u52, u53, u54, u55, u56, u57, u58, u59, u60, u61, u62, u63, u64, u65, u66, u67, u68, u69, u70, u71, u72, u73, u74, u75, u76, u77, u78, u79, u80, u81, u82, u83, u84, u85, u86, u87, u88, u89, u90, u91, u92, u93, u94, u95, u96, u97, u98, u99, u100, u101, u102, u103, u104, u105, u106, u107, u108, u109, u110, u111, u112, u113, u114, u115, u116, u117, u118, u119, u120, u121, u122, u123, u124, u125, u126, u127, u128, u129, u130, u131, u132, u133, u134, u135, u136, u137, u138, u139, u140, u141, u142, u143, u144, u145, u146, u147, u148, u149, u150, u151, u152, u153, u154, u155, u156, u157, u158, u159, u160, u161, u162, u163, u164, u165, u166, u167, u168, u169, u170, u171, u172, u173, u174, u175, u176, u177, u178, u179, u180, u181, u182, u183, u184, u185, u186, u187, u188, u189, u190, u191, u192, u193, u194, u195, u196, u197, u198, u199, u200, u201, u202, u203, u204, u205, u206, u207, u208, u209, u210, u211, u212, u213, u214, u215, u216, u217, u218, u219, u220, u221, u222, u223, u224, u225, u226, u227, u228, u229, u230, u231, u232, u233, u234, u235, u236, u237, u238, u239, u240, u241, u242, u243, u244, u245, u246, u247, u248, u249, u250, u251, u252, u253, u254, u255, u256, u257, u258, u259, u260, u261, u262, u263, u264, u265, u266, u267, u268, u269, u270, u271, u272, u273, u274, u275, u276, u277, u278, u279, u280, u281, u282, u283, u284, u285, u286, u287, u288, u289, u290, u291, u292, u293, u294, u295, u296, u297, u298, u299, u300, u301, u302, u303, u304, u305, u306, u307, u308, u309, u310, u311, u312, u313, u314, u315, u316, u317, u318, u319, u320, u321, u322, u323, u324, u325, u326, u327, u328, u329, u330, u331, u332, u333, u334], []⟩ wr) Q0) ⟨#[.string s, c1, u2, u3, u4, .slice A L.length c, v6, .int .i64 (k : Int), u8, u9, u10, u11, u12, c13, c14, c15, c16, c17, u18, u19, u20, u21, u22, u23, u24, u25, u26, u27, u28, u29, u30, u31, u32, u33, u34, u35, u36, u37, u38, u39, u40, u41, u42, u43, u44, u45, u46, u47, u48, u49, u50, u51, u52, u53, u54, u55, u56, u57, u58, u59, u60, u61, u62, u63, u64, u65, u66, u67, u68, u69, u70, u71, u72, u73, u74, u75, u76, u77, u78, u79, u80, u81, u82, u83, u84, u85, u86, u87, u88, u89, u90, u91, u92, u93, u94, u95, u96, u97, u98, u99, u100, u101, u102, u103, u104, u105, u106, u107, u108, u109, u110, u111, u112, u113, u114, u115, u116, u117, u118, u119, u120, u121, u122, u123, u124, u125, u126, u127, u128, u129, u130, u131, u132, u133, u134, u135, u136, u137, u138, u139, u140, u141, u142, u143, u144, u145, u146, u147, u148, u149, u150, u151, u152, u153, u154, u155, u156, u157, u158, u159, u160, u161, u162, u163, u164, u165, u166, u167, u168, u169, u170, u171, u172, u173, u174, u175, u176, u177, u178, u179, u180, u181, u182, u183, u184, u185, u186, u187, u188, u189, u190, u191, u192, u193, u194, u195, u196, u197, u198, u199, u200, u201, u202, u203, u204, u205, u206, u207, u208, u209, u210, u211, u212, u213, u214, u215, u216, u217, u218, u219, u220, u221, u222, u223, u224, u225, u226, u227, u228, u229, u230, u231, u232, u233, u234, u235, u236, u237, u238, u239, u240, u241, u242, u243, u244, u245, u246, u247, u248, u249, u250, u251, u252, u253, u254, u255, u256, u257, u258, u259, u260, u261, u262, u263, u264, u265, u266, u267, u268, u269, u270, u271, u272, u273, u274, u275, u276, u277, u278, u279, u280, u281, u282, u283, u284, u285, u286, u287, u288, u289, u290, u291, u292, u293, u294, u295, u296, u297, u298, u299, u300, u301, u302, u303, u304, u305, u306, u307, u308, u309, u310, u311, u312, u313, u314, u315, u316, u317, u318, u319, u320, u321, u322, u323, u324, u325, u326, u327, u328, u329, u330, u331, u332, u333, u334], []⟩ wr := by
  obtain ⟨hA, hbeh, hlex, hlen, hrows⟩ := hR
  obtain ⟨g, hg, hp, hq, hA1⟩ := hA.step hk
  obtain rfl : f = g := by omega
  have HQ := Lib.hid hQ
  have HLEX := Lib.hid hlex
  have HROWS := Lib.hid hrows
  have HA1 := Lib.hid hA1
  have HBEH := Lib.hid hbeh
  have HLEN := Lib.hid hlen
  have HT := Lib.hid hT
  have HLL := Lib.hid hl
  have HPL : Hid (p < l.length) := hp
  obtain ⟨bp, off, hA2, hgl, _⟩ := (Row.of_own hrows.pts).at_ (by omega)
  obtain rfl : A = some ⟨bp, off, none⟩ := hA2
  obtain ⟨e0, e1, e2, e3⟩ := (Row.of_own hrows.pts).pt hq
  have kq : decide ((k : Int) < L.length) = true := decide_eq_true (by omega)
  have kq2 : decide (k < L.length) = true := decide_eq_true hk
  have k0 : (0 : Int) ≤ k := by omega
  have k1 : (k : Int) < L.length := by omega
  have k2 : (L.length : Int) ≤ 1000000 := by omega
  have hp20 : (p : Int) ≤ 1000000 := by have := data_len s; rw [← hl] at this; omega
  have HR := Lib.hid (runeR_range (l.drop p))
  have HW := Lib.hid (wideR_pos (l.drop p))
  have HWI := Lib.hid (wide_in hp)
  have hsg : signR (runeR (l.drop p)) = true := by rw [hr]; decide
  have hlx0 := lex_on hlex hp hbeh (at_sign (x := S0 b false out) rfl hsg)
  unfold addZ at hlx0
  obtain ⟨t, ht, _, hw1⟩ := drop_cons (c := 41) hp (by omega) hr
  have hbad := good hr (by decide)
  obtain ⟨A6, c6, rfl⟩ := (Row.of_own hrows.own).form
  have hot : (out.length : Int) ≤ 1000000 := by omega
  have hot2 : out.length ≤ 1000000 := by omega
  have HLS : Hid (l.length = s.size) := by rw [hl]; exact data_len s
  unfold ptAt at e0 e1 e2 e3
  simp only at e0 e1 e2 e3
  obtain ⟨R, hRR⟩ : ∃ R, R = runeR (l.drop p) := ⟨_, rfl⟩
  obtain ⟨E, hEE⟩ : ∃ E, E = p + wideR (l.drop p) := ⟨_, rfl⟩
  have HRR := Lib.hid hRR
  have HEE := Lib.hid hEE
  rw [← hRR] at e0 HR
  rw [← hEE] at e2 HA1 HWI
  have HEP : Hid (p < E) := by have := HW.out; show _ < _; omega
  rw [hbad] at e3
  simp only [Bool.not_false] at e3
  have hE1 : E = p + 1 := by omega
  have HE1 := Lib.hid hE1
  rw [← hEE] at hlx0
  rw [← hRR] at hr
  subst hr
  have HLX : Hid (lexF l f E (S0 (p + 1) false (out ++ [⟨3, 0, p, (l.drop p).take 1⟩])) = Z) := hlx0
  have HN := HA1
  have hfR : firstR (41 : Int) = false := by decide +kernel
  clear hRR hEE hbad hlx0 hsg ht hw1 hE1
  have RW1 := Lib.hid (HROWS.out.go ((Below.refl _ _).alloc (Nat.le_refl _) (.cells #[.int .i32 41, .int .i64 (p : Int), .int .i64 (E : Int), .bool true] 64)))
  obtain ⟨j0, j1, j2, j3⟩ := cell_new wr (.int .i32 41) (.int .i64 (p : Int)) (.int .i64 (E : Int)) (.bool true) 64
  have JC := Lib.hid (And.intro j0 (And.intro j1 (And.intro j2 j3)))
  have hz1 : wr.heap.size < (wr.alloc (.cells #[.int .i32 41, .int .i64 (p : Int), .int .i64 (E : Int), .bool true] 64)).heap.size := by simp
  have HPB0 : Hid (some wr.heap.size ≠ (Value.slice A6 out.length c6).ownBlock) := own_new HROWS.out.own (Nat.le_refl _)
  have HQB0 : Hid (some bp ≠ (Value.slice A6 out.length c6).ownBlock) := apartS HROWS.out.pts HROWS.out.own (by decide) rfl
  have cL : Hid (∀ y, Tabs y → Calls Tryd.prog 30 #[.int .i32 41] y fun e w' => e = .returned (.bool false) ∧ Below y.heap.size y w') := fun y hy => by
    have := refLetter_any (41 : Int) y (by have := HR.out; omega) hy
    rwa [hfR] at this
  clear j0 j1 j2 j3 hfR
  clear hA hbeh hlex hlen hrows hA1 hQ hT hl hg hq hp
  conv => arg 2; whnf
  go_wp2_with fail
  generalize hW1 : (wr.alloc (.cells #[.int .i32 41, .int .i64 (p : Int), .int .i64 (E : Int), .bool true] 64)) = W1 at *
  refine (cL.out _ (HT.out _ RW1.out.bel)).mono ?_
  rintro e w2 ⟨rfl, hb2⟩
  obtain ⟨j0, j1, j2, j3⟩ := JC.out
  have RW2 := Lib.hid (RW1.out.go hb2)
  have J0 : w2.cell? ⟨wr.heap.size, 0, none⟩ = some (.int .i32 41) := below_cell hb2 hz1 j0
  have J1 : w2.cell? ⟨wr.heap.size, 1, none⟩ = some (.int .i64 (p : Int)) := below_cell hb2 hz1 j1
  have J2 : w2.cell? ⟨wr.heap.size, 2, none⟩ = some (.int .i64 (E : Int)) := below_cell hb2 hz1 j2
  have J3 : w2.cell? ⟨wr.heap.size, 3, none⟩ = some (.bool true) := below_cell hb2 hz1 j3
  have hz2 : wr.heap.size < w2.heap.size := Nat.lt_of_lt_of_le hz1 hb2.size
  have hgl2 : bp < w2.heap.size := by omega
  clear hb2 hW1 RW1 JC j0 j1 j2 j3 hz1 hgl e0 e1 e2 e3
  generalize wr.heap.size = pb at *
  have cD : Hid (∀ y, Calls Tryd.prog 31 #[.int .i32 41] y fun e w' => e = .returned (.bool false) ∧ y = w') := fun y => by
    have := refDigit_any (41 : Int) y (by omega)
    rwa [show decide (digR 41 < 10) = false from by decide] at this
  go_wp2_with fail
  refine (cD.out _).mono ?_
  rintro e w3 ⟨rfl, rfl⟩
  have HZA : Hid (pb < w2.heap.size) := hz2
  have HPB := HPB0
  have HQB := HQB0
  have pz0 : (p : Int) ≤ E := by have := HE1.out; omega
  have pz1 : (E : Int) ≤ s.size := by have := HWI.out; have := HLS.out; omega
  have pz2 : (0 : Int) ≤ p := by omega
  have HTOK : Hid ([.int .i64 3, .int .i64 0, .int .i64 (p : Int), .string (s.extract p E)] = tokL ⟨3, 0, p, (l.drop p).take 1⟩) := by
    show _ = _
    unfold tokL
    rw [HE1.out, txt_cut, ← HLL.out]
  go_wp2_with fail
  obtain ⟨i0, hi, hz0, hz1, hz2⟩ := info_parts info_tok
  have HI := Lib.hid hz2
  have hS0 : w2.drew.cell? ⟨pb, 1, none⟩ = some (.int .i64 (p : Int)) ∧ w2.drew.cell? ⟨pb, 2, none⟩ = some (.int .i64 (E : Int)) := ⟨J1, J2⟩
  have hzA : pb < w2.drew.heap.size := HZA.out
  have hzB : pb < w2.drew.heap.size := by first | exact HZB.out | exact HZA.out
  clear hz2 J1 J2
  refine wp_region_lin [(0, true), (1, true), (2, true), (3, true), (4, true), (5, true), (6, true), (7, true), (8, true), (9, true), (10, false), (11, false), (12, true)] (by kernel_rfl) (by kernel_rfl) rfl (by kernel_rfl) (fun x => x.cell? ⟨pb, 1, none⟩ = some (.int .i64 (p : Int)) ∧ x.cell? ⟨pb, 2, none⟩ = some (.int .i64 (E : Int))) ?_
  simp only [List.map_cons, List.map_nil, List.getElem?_toArray, List.getElem?_cons_succ, List.getElem?_cons_zero]
  iterate 8 (refine lin_take (v := ?_) (by assumption) (by rfl) ?_ ?_; rotate_left; (intro x hx; obtain ⟨x0, x1⟩ := hx; go_simp; try (with_reducible rfl)); try (simp only [Act.put, List.setIfInBounds_toArray, List.set_cons_zero, List.set_cons_succ]))
  refine lin_take (v := .string (s.extract p E)) (by assumption) (by rfl) (fun x hx => ?_) ?_
  · obtain ⟨x0, x1⟩ := hx
    go_simp
  (simp only [Act.put, List.setIfInBounds_toArray, List.set_cons_zero, List.set_cons_succ])
  iterate 1 (refine lin_take (v := ?_) (by assumption) (by rfl) ?_ ?_; rotate_left; (intro x hx; obtain ⟨x0, x1⟩ := hx; go_simp; try (with_reducible rfl)); try (simp only [Act.put, List.setIfInBounds_toArray, List.set_cons_zero, List.set_cons_succ]))
  have hSa : (w2.drew.alloc (.cells #[.int .i64 3, .int .i64 0, .int .i64 (p : Int), .string (s.extract p E)] 33)).cell? ⟨pb, 1, none⟩ = some (.int .i64 (p : Int)) ∧ (w2.drew.alloc (.cells #[.int .i64 3, .int .i64 0, .int .i64 (p : Int), .string (s.extract p E)] 33)).cell? ⟨pb, 2, none⟩ = some (.int .i64 (E : Int)) := ⟨(World.cell?_alloc_lt _ _ _ (by assumption)).trans hS0.1, (World.cell?_alloc_lt _ _ _ (by assumption)).trans hS0.2⟩
  refine lin_call hS0 (by rfl) (fun KK hKK => ?_)
  clear hi hz0 hz1
  go_simp
  refine hKK.out _ _ hSa (fun _ => ?_)
  clear hKK KK hS0
  try (simp only [Act.put, List.setIfInBounds_toArray, List.set_cons_zero, List.set_cons_succ])
  obtain ⟨i0, hi, hz0, hz1, hz2⟩ := info_parts info_tok
  refine lin_call hSa (by rfl) (fun KK hKK => ?_)
  refine wp_append_row _ (.tmp 321) (.tmp 331) 23 rfl w.heap.size 33 i0 (.agg #[.int .i64 0, .int .i64 0, .int .i64 0, .string ⟨#[]⟩]) 4 40 Tryd.underlying23 hi hz0 hz1 hz2 rfl (by omega) _ out.length (toksL out) rfl (RW2.out.own.drew.alloc _) _ (.slice (some ⟨_, 0, none⟩) 1 1) 1 [.int .i64 3, .int .i64 0, .int .i64 (p : Int), .string (s.extract p E)] rfl (row_one4 _ _ _ _ _ _) (by simp [Value.oneCell']) (by unfold maxLen; omega) (by omega) (Nat.le_trans RW2.out.bel.size (by simp)) ?_
  intro v3 y3 hO3 hg3
  have R3 := Lib.hid (RW2.out.drew.app hg3 HTOK.out hO3)
  have hS3 : y3.cell? ⟨pb, 1, none⟩ = some (.int .i64 (p : Int)) ∧ y3.cell? ⟨pb, 2, none⟩ = some (.int .i64 (E : Int)) := ⟨hg3.cell hSa.1 HPB.out, hg3.cell hSa.2 (by first | exact HQB.out | exact HPB.out)⟩
  clear hO3 hg3 hSa hi hz0 hz1 hz2
  refine hKK.out _ _ hS3 (fun _ => ?_)
  clear hKK KK
  try (simp only [Act.put, List.setIfInBounds_toArray, List.set_cons_zero, List.set_cons_succ])
  iterate 1 (refine lin_take (v := ?_) (by assumption) (by rfl) ?_ ?_; rotate_left; (intro x hx; obtain ⟨x0, x1⟩ := hx; go_simp; try (with_reducible rfl)); try (simp only [Act.put, List.setIfInBounds_toArray, List.set_cons_zero, List.set_cons_succ]))
  refine lin_done ?_
  clear hS3
  go_wp2_with fail
  refine ⟨?_, ?_⟩
  · unfold WI
    refine ⟨_, _, _, _, _, _, _, _, _, _, _, _, _, _, _, _, _, _, _, _, _, _, _, _, _, _, _, _, _, _, _, _, _, _, _, _, _, _, _, _, _, _, _, _, _, _, _, _, _, _, _, _, _, _, _, _, _, _, _, _, _, _, _, _, _, _, _, _, _, _, _, _, _, _, _, _, _, _, _, _, _, _, _, _, _, _, _, _, _, _, _, _, _, _, _, _, _, _, _, _, _, _, _, _, _, _, _, _, _, _, _, _, _, _, _, _, _, _, _, _, _, _, _, _, _, _, _, _, _, _, _, _, _, _, _, _, _, _, _, _, _, _, _, _, _, _, _, _, _, _, _, _, _, _, _, _, _, _, _, _, _, _, _, _, _, _, _, _, _, _, _, _, _, _, _, _, _, _, _, _, _, _, _, _, _, _, _, _, _, _, _, _, _, _, _, _, _, _, _, _, _, _, _, _, _, _, _, _, _, _, _, _, _, _, _, _, _, _, _, _, _, _, _, _, _, _, _, _, _, _, _, _, _, _, _, _, _, _, _, _, _, _, _, _, _, _, _, _, _, _, _, _, _, _, _, _, _, _, _, _, _, _, _, _, _, _, _, _, _, _, _, _, _, _, _, _, _, _, _, _, _, _, _, _, _, _, _, _, _, _, _, _, _, _, _, _, _, _, _, _, _, _, _, _, _, _, _, _, _, _, _, _, _, _, _, _, _, _, _, _, _, _, _, _, _, _, _, ?_, rfl⟩
    exact ⟨k + 1, E, f, p + 1, _, rfl, HN.out, by have := HE1.out; have := HBEH.out; have := HEP.out; omega, HLX.out, by have := HE1.out; have := HLEN.out; have := HEP.out; first | omega | (simp; omega), R3.out⟩
  · exact Wmu_lt (k := k) (m := k + 1) rfl rfl hk (by omega)
end Go.Proofs.YtimdojeagkbgbaaDoor.Words

/- The document's own Split: a case of a round. -/
namespace Go.Proofs.YtimdojeagkbgbaaDoor.Words
set_option maxRecDepth 1000000
open Go.RowKit Go.Shelf Go.Lib
set_option linter.unusedVariables false

set_option maxHeartbeats 4000000 in
theorem split_nonea (s : ByteArray) (l : List UInt8) (w wr : World) (A : Option Addr) (c k p f b : Nat) (L : List Pt) (Z : LexR) (out : List Tok) (v6 : Value) (c1 c13 c14 c15 c16 c17 : Value) (u2 u3 u4 u8 u9 u10 u11 u12 u18 u19 u20 u21 u22 u23 u24 u25 u26 u27 u28 u29 u30 u31 u32 u33 u34 u35 u36 u37 u38 u39 u40 u41 u42 u43 u44 u45 u46 u47 u48 u49 u50 u51 u52 u53 u54 u55 u56 u57 u58 u59 u60 u61 u62 u63 u64 u65 u66 u67 u68 u69 u70 u71 u72 u73 u74 u75 u76 u77 u78 u79 u80 u81 u82 u83 u84 u85 u86 u87 u88 u89 u90 u91 u92 u93 u94 u95 u96 u97 u98 u99 u100 u101 u102 u103 u104 u105 u106 u107 u108 u109 u110 u111 u112 u113 u114 u115 u116 u117 u118 u119 u120 u121 u122 u123 u124 u125 u126 u127 u128 u129 u130 u131 u132 u133 u134 u135 u136 u137 u138 u139 u140 u141 u142 u143 u144 u145 u146 u147 u148 u149 u150 u151 u152 u153 u154 u155 u156 u157 u158 u159 u160 u161 u162 u163 u164 u165 u166 u167 u168 u169 u170 u171 u172 u173 u174 u175 u176 u177 u178 u179 u180 u181 u182 u183 u184 u185 u186 u187 u188 u189 u190 u191 u192 u193 u194 u195 u196 u197 u198 u199 u200 u201 u202 u203 u204 u205 u206 u207 u208 u209 u210 u211 u212 u213 u214 u215 u216 u217 u218 u219 u220 u221 u222 u223 u224 u225 u226 u227 u228 u229 u230 u231 u232 u233 u234 u235 u236 u237 u238 u239 u240 u241 u242 u243 u244 u245 u246 u247 u248 u249 u250 u251 u252 u253 u254 u255 u256 u257 u258 u259 u260 u261 u262 u263 u264 u265 u266 u267 u268 u269 u270 u271 u272 u273 u274 u275 u276 u277 u278 u279 u280 u281 u282 u283 u284 u285 u286 u287 u288 u289 u290 u291 u292 u293 u294 u295 u296 u297 u298 u299 u300 u301 u302 u303 u304 u305 u306 u307 u308 u309 u310 u311 u312 u313 u314 u315 u316 u317 u318 u319 u320 u321 u322 u323 u324 u325 u326 u327 u328 u329 u330 u331 u332 u333 u334 : Value) (Q0 : Exit → Act → World → Prop) (hs : s.size ≤ 1000000) (hl : l = s.data.toList) (hT : TabsB w.heap.size w) (hR : RoundG l L Z w wr A c v6 k p (f + 1) b out) (hk : k < L.length) (hL : L.length ≤ s.size) (hQ : QS s L Z w A c c1 c13 c14 c15 c16 c17 Q0) (hbad : badR (l.drop p) = false) (h10 : runeR (l.drop p) ≠ 10) (h35 : runeR (l.drop p) ≠ 35) (hbl : blankR (runeR (l.drop p)) = false) (hf : firstR (runeR (l.drop p)) = false) (hsg : signR (runeR (l.drop p)) = false) (hd : ¬ digR (runeR (l.drop p)) < 10) (hn : runeR (l.drop p) ≠ 45) :
    Code.wp Tryd.prog bodyS (Exit.then (fun a' x => WI s A c L c1 c13 c14 c15 c16 c17 (RelS l L Z w A c) a' x ∧ Wmu L.length a' x < Wmu L.length ⟨#[.string s, c1, u2, u3, u4, .slice A L.length c, v6, .int .i64 (k : Int), u8, u9, u10, u11, u12, c13, c14, c15, c16, c17, u18, u19, u20, u21, u22, u23, u24, u25, u26, u27, u28, u29, u30, u31, u32, u33, u34, u35, u36, u37, u38, u39, u40, u41, u42, u43, u44, u45, u46, u47, u48, u49, u50, u51, u52, u53, u54, u55, u56, u57, u58, u59, u60, u61, u62, u63, u64, u65, u66, u67, u68, u69, u70, u71, u72, u73, u74, u75, u76, u77, u78, u79, u80, u81, u82, u83, u84, u85, u86, u87, u88, u89, u90, u91, u92, u93, u94, u95, u96, u97, u98, u99, u100, u101, u102, u103, u104, u105, u106, u107, u108, u109, u110, u111, u112, u113, u114, u115, u116, u117, u118, u119, u120, u121, u122, u123, u124, u125, u126, u127, u128, u129, u130, u131, u132, u133, u134, u135, u136, u137, u138, u139, u140, u141, u142, u143, u144, u145, u146, u147, u148, u149, u150, u151, u152, u153, u154, u155, u156, u157, u158, u159, u160, u161, u162, u163, u164, u165, u166, u167, u168, u169, u170, u171, u172, u173, u174, u175, u176, u177, u178, u179, u180, u181, u182, u183, u184, u185, u186, u187, u188, u189, u190, u191, u192, u193, u194, u195, u196, u197, u198, u199, u200, u201, u202, u203, u204, u205, u206, u207, u208, u209, u210, u211, u212, u213, u214, u215, u216, u217, u218, u219, u220, u221, u222, u223, u224, u225, u226, u227, u228, u229, u230, u231, u232, u233, u234, u235, u236, u237, u238, u239, u240, u241, u242, u243, u244, u245, u246, u247, u248, u249, u250, u251, u252, u253, u254, u255, u256, u257, u258, u259, u260, u261, u262, u263, u264, u265, u266, u267, u268, u269, u270, u271, u272, u273, u274, u275, u276, u277, u278, u279, u280, u281, u282, u283, u284, u285, u286, u287, u288, u289, u290, u291, u292, u293, u294, u295, u296, u297, u298, u299, u300, u301, u302, u303, u304, u305, u306, u307, u308, u309, u310, u311, u312, u313, u314, u315, u316, u317, u318, u319, u320, u321, u322, u323, u324, u325, u326, u327, u328, u329, u330, u331, u332, u333, u334], []⟩ wr) Q0) ⟨#[.string s, c1, u2, u3, u4, .slice A L.length c, v6, .int .i64 (k : Int), u8, u9, u10, u11, u12, c13, c14, c15, c16, c17, u18, u19, u20, u21, u22, u23, u24, u25, u26, u27, u28, u29, u30, u31, u32, u33, u34, u35, u36, u37, u38, u39, u40, u41, u42, u43, u44, u45, u46, u47, u48, u49, u50, u51, u52, u53, u54, u55, u56, u57, u58, u59, u60, u61, u62, u63, u64, u65, u66, u67, u68, u69, u70, u71, u72, u73, u74, u75, u76, u77, u78, u79, u80, u81, u82, u83, u84, u85, u86, u87, u88, u89, u90, u91, u92, u93, u94, u95, u96, u97, u98, u99, u100, u101, u102, u103, u104, u105, u106, u107, u108, u109, u110, u111, u112, u113, u114, u115, u116, u117, u118, u119, u120, u121, u122, u123, u124, u125, u126, u127, u128, u129, u130, u131, u132, u133, u134, u135, u136, u137, u138, u139, u140, u141, u142, u143, u144, u145, u146, u147, u148, u149, u150, u151, u152, u153, u154, u155, u156, u157, u158, u159, u160, u161, u162, u163, u164, u165, u166, u167, u168, u169, u170, u171, u172, u173, u174, u175, u176, u177, u178, u179, u180, u181, u182, u183, u184, u185, u186, u187, u188, u189, u190, u191, u192, u193, u194, u195, u196, u197, u198, u199, u200, u201, u202, u203, u204, u205, u206, u207, u208, u209, u210, u211, u212, u213, u214, u215, u216, u217, u218, u219, u220, u221, u222, u223, u224, u225, u226, u227, u228, u229, u230, u231, u232, u233, u234, u235, u236, u237, u238, u239, u240, u241, u242, u243, u244, u245, u246, u247, u248, u249, u250, u251, u252, u253, u254, u255, u256, u257, u258, u259, u260, u261, u262, u263, u264, u265, u266, u267, u268, u269, u270, u271, u272, u273, u274, u275, u276, u277, u278, u279, u280, u281, u282, u283, u284, u285, u286, u287, u288, u289, u290, u291, u292, u293, u294, u295, u296, u297, u298, u299, u300, u301, u302, u303, u304, u305, u306, u307, u308, u309, u310, u311, u312, u313, u314, u315, u316, u317, u318, u319, u320, u321, u322, u323, u324, u325, u326, u327, u328, u329, u330, u331, u332, u333, u334], []⟩ wr := by
  obtain ⟨hA, hbeh, hlex, hlen, hrows⟩ := hR
  obtain ⟨g, hg, hp, hq, hA1⟩ := hA.step hk
  obtain rfl : f = g := by omega
  have HQ := Lib.hid hQ
  have HLEX := Lib.hid hlex
  have HROWS := Lib.hid hrows
  have HA1 := Lib.hid hA1
  have HBEH := Lib.hid hbeh
  have HLEN := Lib.hid hlen
  have HT := Lib.hid hT
  have HLL := Lib.hid hl
  have HPL : Hid (p < l.length) := hp
  obtain ⟨bp, off, hA2, hgl, _⟩ := (Row.of_own hrows.pts).at_ (by omega)
  obtain rfl : A = some ⟨bp, off, none⟩ := hA2
  obtain ⟨e0, e1, e2, e3⟩ := (Row.of_own hrows.pts).pt hq
  have kq : decide ((k : Int) < L.length) = true := decide_eq_true (by omega)
  have kq2 : decide (k < L.length) = true := decide_eq_true hk
  have k0 : (0 : Int) ≤ k := by omega
  have k1 : (k : Int) < L.length := by omega
  have k2 : (L.length : Int) ≤ 1000000 := by omega
  have hp20 : (p : Int) ≤ 1000000 := by have := data_len s; rw [← hl] at this; omega
  have HR := Lib.hid (runeR_range (l.drop p))
  have HW := Lib.hid (wideR_pos (l.drop p))
  have HWI := Lib.hid (wide_in hp)
  have hw1 : runeR (l.drop p) = 45 → wideR (l.drop p) = 1 := fun h => by
    obtain ⟨t, _, _, h3⟩ := drop_cons (c := 45) hp (by omega) h
    exact h3
  have hx : ¬ hexAt l p := fun h => by have := h.1; rw [this] at hd; exact hd (by decide)
  have hnz := num_none hx hp hd (fun h => hn h.1)
  have hz : Hid (Z = .bad p 5) := lex_err hlex hp hbeh (by rw [at_other rfl hbad h10 h35 hbl hf hsg]; unfold numberZ; rw [if_pos hnz]) (by decide)
  have HLS : Hid (l.length = s.size) := by rw [hl]; exact data_len s
  unfold ptAt at e0 e1 e2 e3
  simp only at e0 e1 e2 e3
  obtain ⟨R, hRR⟩ : ∃ R, R = runeR (l.drop p) := ⟨_, rfl⟩
  obtain ⟨E, hEE⟩ : ∃ E, E = p + wideR (l.drop p) := ⟨_, rfl⟩
  have HRR := Lib.hid hRR
  have HEE := Lib.hid hEE
  rw [← hRR] at e0 HR
  rw [← hEE] at e2 HA1 HWI
  have HEP : Hid (p < E) := by have := HW.out; show _ < _; omega
  rw [hbad] at e3
  simp only [Bool.not_false] at e3
  rw [← hRR] at h10 h35 hbl hf hsg hd hn
  have hb0 : R ≠ 32 ∧ R ≠ 9 ∧ R ≠ 13 := by have := of_decide_eq_false (show decide (R = 32 ∨ R = 9 ∨ R = 13) = false from hbl); omega
  obtain ⟨b1, b2, b3⟩ := hb0
  have hs0 := of_decide_eq_false (show decide (R = 44 ∨ R = 58 ∨ R = 40 ∨ R = 41) = false from hsg)
  have h48 : R ≠ 48 := fun e => by rw [e] at hd; exact hd (by decide)
  have n1 : (R == 32) = false := beq_eq_false_iff_ne.2 (by omega)
  have n2 : (R == 9) = false := beq_eq_false_iff_ne.2 (by omega)
  have n3 : (R == 13) = false := beq_eq_false_iff_ne.2 (by omega)
  have n4 : (R == 35) = false := beq_eq_false_iff_ne.2 (by omega)
  have n5 : (R == 10) = false := beq_eq_false_iff_ne.2 (by omega)
  have m1 : (R == 48) = false := beq_eq_false_iff_ne.2 h48
  have m2 : (R == 45) = false := beq_eq_false_iff_ne.2 hn
  have m3 : (R == 44) = false := beq_eq_false_iff_ne.2 (by omega)
  have m4 : (R == 58) = false := beq_eq_false_iff_ne.2 (by omega)
  have m5 : (R == 40) = false := beq_eq_false_iff_ne.2 (by omega)
  have m6 : (R == 41) = false := beq_eq_false_iff_ne.2 (by omega)
  have hfR : firstR (R : Int) = false := hf
  have cD : Hid (∀ y, Calls Tryd.prog 31 #[.int .i32 R] y fun e w' => e = .returned (.bool false) ∧ y = w') := fun y => by
    have := refDigit_any R y (by have := HR.out; omega)
    rwa [decide_eq_false hd] at this
  clear h48 hs0 b1 b2 b3 h10 h35 hbl hf hsg hd hn hw1 hx hnz hRR hEE hbad
  have RW1 := Lib.hid (HROWS.out.go ((Below.refl _ _).alloc (Nat.le_refl _) (.cells #[.int .i32 R, .int .i64 (p : Int), .int .i64 (E : Int), .bool true] 64)))
  obtain ⟨j0, j1, j2, j3⟩ := cell_new wr (.int .i32 R) (.int .i64 (p : Int)) (.int .i64 (E : Int)) (.bool true) 64
  have JC := Lib.hid (And.intro j0 (And.intro j1 (And.intro j2 j3)))
  have hz1 : wr.heap.size < (wr.alloc (.cells #[.int .i32 R, .int .i64 (p : Int), .int .i64 (E : Int), .bool true] 64)).heap.size := by simp
  have HPB0 : Hid (some wr.heap.size ≠ v6.ownBlock) := own_new HROWS.out.own (Nat.le_refl _)
  have HQB0 : Hid (some bp ≠ v6.ownBlock) := apartS HROWS.out.pts HROWS.out.own (by decide) rfl
  have cL : Hid (∀ y, Tabs y → Calls Tryd.prog 30 #[.int .i32 R] y fun e w' => e = .returned (.bool false) ∧ Below y.heap.size y w') := fun y hy => by
    have := refLetter_any (R : Int) y (by have := HR.out; omega) hy
    rwa [hfR] at this
  clear j0 j1 j2 j3 hfR
  clear hA hbeh hlex hlen hrows hA1 hQ hT hl hg hq hp
  conv => arg 2; whnf
  go_wp2_with fail
  generalize hW1 : (wr.alloc (.cells #[.int .i32 R, .int .i64 (p : Int), .int .i64 (E : Int), .bool true] 64)) = W1 at *
  refine (cL.out _ (HT.out _ RW1.out.bel)).mono ?_
  rintro e w2 ⟨rfl, hb2⟩
  obtain ⟨j0, j1, j2, j3⟩ := JC.out
  have RW2 := Lib.hid (RW1.out.go hb2)
  have J0 : w2.cell? ⟨wr.heap.size, 0, none⟩ = some (.int .i32 R) := below_cell hb2 hz1 j0
  have J1 : w2.cell? ⟨wr.heap.size, 1, none⟩ = some (.int .i64 (p : Int)) := below_cell hb2 hz1 j1
  have J2 : w2.cell? ⟨wr.heap.size, 2, none⟩ = some (.int .i64 (E : Int)) := below_cell hb2 hz1 j2
  have J3 : w2.cell? ⟨wr.heap.size, 3, none⟩ = some (.bool true) := below_cell hb2 hz1 j3
  have hz2 : wr.heap.size < w2.heap.size := Nat.lt_of_lt_of_le hz1 hb2.size
  have hgl2 : bp < w2.heap.size := by omega
  clear hb2 hW1 RW1 JC j0 j1 j2 j3 hz1 hgl e0 e1 e2 e3
  generalize wr.heap.size = pb at *
  go_wp2_with fail
  refine (cD.out _).mono ?_
  rintro e w3 ⟨rfl, rfl⟩
  go_wp2_with fail
  go_quiet (fail)
  go_wp2_with fail
  refine HQ.out.ret _ _ _ _ ?_ ?_ ?_ ?_ hz.out ?_
  rotate_left 4
  · exact Below.drewN_ RW2.out.bel _
  all_goals rfl
end Go.Proofs.YtimdojeagkbgbaaDoor.Words

/- The document's own Split: a case of a round. -/
namespace Go.Proofs.YtimdojeagkbgbaaDoor.Words
set_option maxRecDepth 1000000
open Go.RowKit Go.Shelf Go.Lib
set_option linter.unusedVariables false

set_option maxHeartbeats 4000000 in
theorem split_noneb (s : ByteArray) (l : List UInt8) (w wr : World) (A : Option Addr) (c k p f b : Nat) (L : List Pt) (Z : LexR) (out : List Tok) (v6 : Value) (c1 c13 c14 c15 c16 c17 : Value) (u2 u3 u4 u8 u9 u10 u11 u12 u18 u19 u20 u21 u22 u23 u24 u25 u26 u27 u28 u29 u30 u31 u32 u33 u34 u35 u36 u37 u38 u39 u40 u41 u42 u43 u44 u45 u46 u47 u48 u49 u50 u51 u52 u53 u54 u55 u56 u57 u58 u59 u60 u61 u62 u63 u64 u65 u66 u67 u68 u69 u70 u71 u72 u73 u74 u75 u76 u77 u78 u79 u80 u81 u82 u83 u84 u85 u86 u87 u88 u89 u90 u91 u92 u93 u94 u95 u96 u97 u98 u99 u100 u101 u102 u103 u104 u105 u106 u107 u108 u109 u110 u111 u112 u113 u114 u115 u116 u117 u118 u119 u120 u121 u122 u123 u124 u125 u126 u127 u128 u129 u130 u131 u132 u133 u134 u135 u136 u137 u138 u139 u140 u141 u142 u143 u144 u145 u146 u147 u148 u149 u150 u151 u152 u153 u154 u155 u156 u157 u158 u159 u160 u161 u162 u163 u164 u165 u166 u167 u168 u169 u170 u171 u172 u173 u174 u175 u176 u177 u178 u179 u180 u181 u182 u183 u184 u185 u186 u187 u188 u189 u190 u191 u192 u193 u194 u195 u196 u197 u198 u199 u200 u201 u202 u203 u204 u205 u206 u207 u208 u209 u210 u211 u212 u213 u214 u215 u216 u217 u218 u219 u220 u221 u222 u223 u224 u225 u226 u227 u228 u229 u230 u231 u232 u233 u234 u235 u236 u237 u238 u239 u240 u241 u242 u243 u244 u245 u246 u247 u248 u249 u250 u251 u252 u253 u254 u255 u256 u257 u258 u259 u260 u261 u262 u263 u264 u265 u266 u267 u268 u269 u270 u271 u272 u273 u274 u275 u276 u277 u278 u279 u280 u281 u282 u283 u284 u285 u286 u287 u288 u289 u290 u291 u292 u293 u294 u295 u296 u297 u298 u299 u300 u301 u302 u303 u304 u305 u306 u307 u308 u309 u310 u311 u312 u313 u314 u315 u316 u317 u318 u319 u320 u321 u322 u323 u324 u325 u326 u327 u328 u329 u330 u331 u332 u333 u334 : Value) (Q0 : Exit → Act → World → Prop) (hs : s.size ≤ 1000000) (hl : l = s.data.toList) (hT : TabsB w.heap.size w) (hR : RoundG l L Z w wr A c v6 k p (f + 1) b out) (hk : k < L.length) (hL : L.length ≤ s.size) (hQ : QS s L Z w A c c1 c13 c14 c15 c16 c17 Q0) (hbad : badR (l.drop p) = false) (h10 : runeR (l.drop p) ≠ 10) (h35 : runeR (l.drop p) ≠ 35) (hbl : blankR (runeR (l.drop p)) = false) (hf : firstR (runeR (l.drop p)) = false) (hsg : signR (runeR (l.drop p)) = false) (hd : ¬ digR (runeR (l.drop p)) < 10) (hn : runeR (l.drop p) = 45) (hn2 : ¬ k + 1 < L.length) :
    Code.wp Tryd.prog bodyS (Exit.then (fun a' x => WI s A c L c1 c13 c14 c15 c16 c17 (RelS l L Z w A c) a' x ∧ Wmu L.length a' x < Wmu L.length ⟨#[.string s, c1, u2, u3, u4, .slice A L.length c, v6, .int .i64 (k : Int), u8, u9, u10, u11, u12, c13, c14, c15, c16, c17, u18, u19, u20, u21, u22, u23, u24, u25, u26, u27, u28, u29, u30, u31, u32, u33, u34, u35, u36, u37, u38, u39, u40, u41, u42, u43, u44, u45, u46, u47, u48, u49, u50, u51, u52, u53, u54, u55, u56, u57, u58, u59, u60, u61, u62, u63, u64, u65, u66, u67, u68, u69, u70, u71, u72, u73, u74, u75, u76, u77, u78, u79, u80, u81, u82, u83, u84, u85, u86, u87, u88, u89, u90, u91, u92, u93, u94, u95, u96, u97, u98, u99, u100, u101, u102, u103, u104, u105, u106, u107, u108, u109, u110, u111, u112, u113, u114, u115, u116, u117, u118, u119, u120, u121, u122, u123, u124, u125, u126, u127, u128, u129, u130, u131, u132, u133, u134, u135, u136, u137, u138, u139, u140, u141, u142, u143, u144, u145, u146, u147, u148, u149, u150, u151, u152, u153, u154, u155, u156, u157, u158, u159, u160, u161, u162, u163, u164, u165, u166, u167, u168, u169, u170, u171, u172, u173, u174, u175, u176, u177, u178, u179, u180, u181, u182, u183, u184, u185, u186, u187, u188, u189, u190, u191, u192, u193, u194, u195, u196, u197, u198, u199, u200, u201, u202, u203, u204, u205, u206, u207, u208, u209, u210, u211, u212, u213, u214, u215, u216, u217, u218, u219, u220, u221, u222, u223, u224, u225, u226, u227, u228, u229, u230, u231, u232, u233, u234, u235, u236, u237, u238, u239, u240, u241, u242, u243, u244, u245, u246, u247, u248, u249, u250, u251, u252, u253, u254, u255, u256, u257, u258, u259, u260, u261, u262, u263, u264, u265, u266, u267, u268, u269, u270, u271, u272, u273, u274, u275, u276, u277, u278, u279, u280, u281, u282, u283, u284, u285, u286, u287, u288, u289, u290, u291, u292, u293, u294, u295, u296, u297, u298, u299, u300, u301, u302, u303, u304, u305, u306, u307, u308, u309, u310, u311, u312, u313, u314, u315, u316, u317, u318, u319, u320, u321, u322, u323, u324, u325, u326, u327, u328, u329, u330, u331, u332, u333, u334], []⟩ wr) Q0) ⟨#[.string s, c1, u2, u3, u4, .slice A L.length c, v6, .int .i64 (k : Int), u8, u9, u10, u11, u12, c13, c14, c15, c16, c17, u18, u19, u20, u21, u22, u23, u24, u25, u26, u27, u28, u29, u30, u31, u32, u33, u34, u35, u36, u37, u38, u39, u40, u41, u42, u43, u44, u45, u46, u47, u48, u49, u50, u51, u52, u53, u54, u55, u56, u57, u58, u59, u60, u61, u62, u63, u64, u65, u66, u67, u68, u69, u70, u71, u72, u73, u74, u75, u76, u77, u78, u79, u80, u81, u82, u83, u84, u85, u86, u87, u88, u89, u90, u91, u92, u93, u94, u95, u96, u97, u98, u99, u100, u101, u102, u103, u104, u105, u106, u107, u108, u109, u110, u111, u112, u113, u114, u115, u116, u117, u118, u119, u120, u121, u122, u123, u124, u125, u126, u127, u128, u129, u130, u131, u132, u133, u134, u135, u136, u137, u138, u139, u140, u141, u142, u143, u144, u145, u146, u147, u148, u149, u150, u151, u152, u153, u154, u155, u156, u157, u158, u159, u160, u161, u162, u163, u164, u165, u166, u167, u168, u169, u170, u171, u172, u173, u174, u175, u176, u177, u178, u179, u180, u181, u182, u183, u184, u185, u186, u187, u188, u189, u190, u191, u192, u193, u194, u195, u196, u197, u198, u199, u200, u201, u202, u203, u204, u205, u206, u207, u208, u209, u210, u211, u212, u213, u214, u215, u216, u217, u218, u219, u220, u221, u222, u223, u224, u225, u226, u227, u228, u229, u230, u231, u232, u233, u234, u235, u236, u237, u238, u239, u240, u241, u242, u243, u244, u245, u246, u247, u248, u249, u250, u251, u252, u253, u254, u255, u256, u257, u258, u259, u260, u261, u262, u263, u264, u265, u266, u267, u268, u269, u270, u271, u272, u273, u274, u275, u276, u277, u278, u279, u280, u281, u282, u283, u284, u285, u286, u287, u288, u289, u290, u291, u292, u293, u294, u295, u296, u297, u298, u299, u300, u301, u302, u303, u304, u305, u306, u307, u308, u309, u310, u311, u312, u313, u314, u315, u316, u317, u318, u319, u320, u321, u322, u323, u324, u325, u326, u327, u328, u329, u330, u331, u332, u333, u334], []⟩ wr := by
  obtain ⟨hA, hbeh, hlex, hlen, hrows⟩ := hR
  obtain ⟨g, hg, hp, hq, hA1⟩ := hA.step hk
  obtain rfl : f = g := by omega
  have HQ := Lib.hid hQ
  have HLEX := Lib.hid hlex
  have HROWS := Lib.hid hrows
  have HA1 := Lib.hid hA1
  have HBEH := Lib.hid hbeh
  have HLEN := Lib.hid hlen
  have HT := Lib.hid hT
  have HLL := Lib.hid hl
  have HPL : Hid (p < l.length) := hp
  obtain ⟨bp, off, hA2, hgl, _⟩ := (Row.of_own hrows.pts).at_ (by omega)
  obtain rfl : A = some ⟨bp, off, none⟩ := hA2
  obtain ⟨e0, e1, e2, e3⟩ := (Row.of_own hrows.pts).pt hq
  have kq : decide ((k : Int) < L.length) = true := decide_eq_true (by omega)
  have kq2 : decide (k < L.length) = true := decide_eq_true hk
  have k0 : (0 : Int) ≤ k := by omega
  have k1 : (k : Int) < L.length := by omega
  have k2 : (L.length : Int) ≤ 1000000 := by omega
  have hp20 : (p : Int) ≤ 1000000 := by have := data_len s; rw [← hl] at this; omega
  have HR := Lib.hid (runeR_range (l.drop p))
  have HW := Lib.hid (wideR_pos (l.drop p))
  have HWI := Lib.hid (wide_in hp)
  have hw1 : runeR (l.drop p) = 45 → wideR (l.drop p) = 1 := fun h => by
    obtain ⟨t, _, _, h3⟩ := drop_cons (c := 45) hp (by omega) h
    exact h3
  have hA1w := hA1
  rw [hw1 hn] at hA1w
  have hx : ¬ hexAt l p := fun h => by have := h.1; rw [this] at hd; exact hd (by decide)
  have hnz := num_none hx hp hd (fun h => hn2 (hA1w.lt.2 h.2.1))
  have hz : Hid (Z = .bad p 5) := lex_err hlex hp hbeh (by rw [at_other rfl hbad h10 h35 hbl hf hsg]; unfold numberZ; rw [if_pos hnz]) (by decide)
  have HLS : Hid (l.length = s.size) := by rw [hl]; exact data_len s
  unfold ptAt at e0 e1 e2 e3
  simp only at e0 e1 e2 e3
  obtain ⟨R, hRR⟩ : ∃ R, R = runeR (l.drop p) := ⟨_, rfl⟩
  obtain ⟨E, hEE⟩ : ∃ E, E = p + wideR (l.drop p) := ⟨_, rfl⟩
  have HRR := Lib.hid hRR
  have HEE := Lib.hid hEE
  rw [← hRR] at e0 HR
  rw [← hEE] at e2 HA1 HWI
  have HEP : Hid (p < E) := by have := HW.out; show _ < _; omega
  rw [hbad] at e3
  simp only [Bool.not_false] at e3
  rw [← hRR] at h10 h35 hbl hf hsg hd hn
  subst hn
  have hfR : firstR (45 : Int) = false := by decide +kernel
  have cD : Hid (∀ y, Calls Tryd.prog 31 #[.int .i32 45] y fun e w' => e = .returned (.bool false) ∧ y = w') := fun y => by
    have := refDigit_any (45 : Int) y (by omega)
    rwa [show decide (digR 45 < 10) = false from by decide] at this
  have t1 : decide ((k : Int) + 1 < L.length) = false := decide_eq_false (by omega)
  have t2 : decide (k + 1 < L.length) = false := decide_eq_false hn2
  clear hn2 hA1w
  clear h10 h35 hbl hf hsg hd hw1 hx hnz hRR hEE hbad
  have RW1 := Lib.hid (HROWS.out.go ((Below.refl _ _).alloc (Nat.le_refl _) (.cells #[.int .i32 45, .int .i64 (p : Int), .int .i64 (E : Int), .bool true] 64)))
  obtain ⟨j0, j1, j2, j3⟩ := cell_new wr (.int .i32 45) (.int .i64 (p : Int)) (.int .i64 (E : Int)) (.bool true) 64
  have JC := Lib.hid (And.intro j0 (And.intro j1 (And.intro j2 j3)))
  have hz1 : wr.heap.size < (wr.alloc (.cells #[.int .i32 45, .int .i64 (p : Int), .int .i64 (E : Int), .bool true] 64)).heap.size := by simp
  have HPB0 : Hid (some wr.heap.size ≠ v6.ownBlock) := own_new HROWS.out.own (Nat.le_refl _)
  have HQB0 : Hid (some bp ≠ v6.ownBlock) := apartS HROWS.out.pts HROWS.out.own (by decide) rfl
  have cL : Hid (∀ y, Tabs y → Calls Tryd.prog 30 #[.int .i32 45] y fun e w' => e = .returned (.bool false) ∧ Below y.heap.size y w') := fun y hy => by
    have := refLetter_any (45 : Int) y (by have := HR.out; omega) hy
    rwa [hfR] at this
  clear j0 j1 j2 j3 hfR
  clear hA hbeh hlex hlen hrows hA1 hQ hT hl hg hq hp
  conv => arg 2; whnf
  go_wp2_with fail
  generalize hW1 : (wr.alloc (.cells #[.int .i32 45, .int .i64 (p : Int), .int .i64 (E : Int), .bool true] 64)) = W1 at *
  refine (cL.out _ (HT.out _ RW1.out.bel)).mono ?_
  rintro e w2 ⟨rfl, hb2⟩
  obtain ⟨j0, j1, j2, j3⟩ := JC.out
  have RW2 := Lib.hid (RW1.out.go hb2)
  have J0 : w2.cell? ⟨wr.heap.size, 0, none⟩ = some (.int .i32 45) := below_cell hb2 hz1 j0
  have J1 : w2.cell? ⟨wr.heap.size, 1, none⟩ = some (.int .i64 (p : Int)) := below_cell hb2 hz1 j1
  have J2 : w2.cell? ⟨wr.heap.size, 2, none⟩ = some (.int .i64 (E : Int)) := below_cell hb2 hz1 j2
  have J3 : w2.cell? ⟨wr.heap.size, 3, none⟩ = some (.bool true) := below_cell hb2 hz1 j3
  have hz2 : wr.heap.size < w2.heap.size := Nat.lt_of_lt_of_le hz1 hb2.size
  have hgl2 : bp < w2.heap.size := by omega
  clear hb2 hW1 RW1 JC j0 j1 j2 j3 hz1 hgl e0 e1 e2 e3
  generalize wr.heap.size = pb at *
  go_wp2_with fail
  refine (cD.out _).mono ?_
  rintro e w3 ⟨rfl, rfl⟩
  go_wp2_with fail
  go_quiet (fail)
  go_wp2_with fail
  refine HQ.out.ret _ _ _ _ ?_ ?_ ?_ ?_ hz.out ?_
  rotate_left 4
  · exact Below.drewN_ RW2.out.bel _
  all_goals rfl
end Go.Proofs.YtimdojeagkbgbaaDoor.Words

/- The document's own Split: a case of a round. -/
namespace Go.Proofs.YtimdojeagkbgbaaDoor.Words
set_option maxRecDepth 1000000
open Go.RowKit Go.Shelf Go.Lib
set_option linter.unusedVariables false

set_option maxHeartbeats 4000000 in
theorem split_nonec (s : ByteArray) (l : List UInt8) (w wr : World) (A : Option Addr) (c k p f b : Nat) (L : List Pt) (Z : LexR) (out : List Tok) (v6 : Value) (c1 c13 c14 c15 c16 c17 : Value) (u2 u3 u4 u8 u9 u10 u11 u12 u18 u19 u20 u21 u22 u23 u24 u25 u26 u27 u28 u29 u30 u31 u32 u33 u34 u35 u36 u37 u38 u39 u40 u41 u42 u43 u44 u45 u46 u47 u48 u49 u50 u51 u52 u53 u54 u55 u56 u57 u58 u59 u60 u61 u62 u63 u64 u65 u66 u67 u68 u69 u70 u71 u72 u73 u74 u75 u76 u77 u78 u79 u80 u81 u82 u83 u84 u85 u86 u87 u88 u89 u90 u91 u92 u93 u94 u95 u96 u97 u98 u99 u100 u101 u102 u103 u104 u105 u106 u107 u108 u109 u110 u111 u112 u113 u114 u115 u116 u117 u118 u119 u120 u121 u122 u123 u124 u125 u126 u127 u128 u129 u130 u131 u132 u133 u134 u135 u136 u137 u138 u139 u140 u141 u142 u143 u144 u145 u146 u147 u148 u149 u150 u151 u152 u153 u154 u155 u156 u157 u158 u159 u160 u161 u162 u163 u164 u165 u166 u167 u168 u169 u170 u171 u172 u173 u174 u175 u176 u177 u178 u179 u180 u181 u182 u183 u184 u185 u186 u187 u188 u189 u190 u191 u192 u193 u194 u195 u196 u197 u198 u199 u200 u201 u202 u203 u204 u205 u206 u207 u208 u209 u210 u211 u212 u213 u214 u215 u216 u217 u218 u219 u220 u221 u222 u223 u224 u225 u226 u227 u228 u229 u230 u231 u232 u233 u234 u235 u236 u237 u238 u239 u240 u241 u242 u243 u244 u245 u246 u247 u248 u249 u250 u251 u252 u253 u254 u255 u256 u257 u258 u259 u260 u261 u262 u263 u264 u265 u266 u267 u268 u269 u270 u271 u272 u273 u274 u275 u276 u277 u278 u279 u280 u281 u282 u283 u284 u285 u286 u287 u288 u289 u290 u291 u292 u293 u294 u295 u296 u297 u298 u299 u300 u301 u302 u303 u304 u305 u306 u307 u308 u309 u310 u311 u312 u313 u314 u315 u316 u317 u318 u319 u320 u321 u322 u323 u324 u325 u326 u327 u328 u329 u330 u331 u332 u333 u334 : Value) (Q0 : Exit → Act → World → Prop) (hs : s.size ≤ 1000000) (hl : l = s.data.toList) (hT : TabsB w.heap.size w) (hR : RoundG l L Z w wr A c v6 k p (f + 1) b out) (hk : k < L.length) (hL : L.length ≤ s.size) (hQ : QS s L Z w A c c1 c13 c14 c15 c16 c17 Q0) (hbad : badR (l.drop p) = false) (h10 : runeR (l.drop p) ≠ 10) (h35 : runeR (l.drop p) ≠ 35) (hbl : blankR (runeR (l.drop p)) = false) (hf : firstR (runeR (l.drop p)) = false) (hsg : signR (runeR (l.drop p)) = false) (hd : ¬ digR (runeR (l.drop p)) < 10) (hn : runeR (l.drop p) = 45) (hn2 : k + 1 < L.length) (hn3 : ¬ digR (runeR (l.drop (p + 1))) < 10) :
    Code.wp Tryd.prog bodyS (Exit.then (fun a' x => WI s A c L c1 c13 c14 c15 c16 c17 (RelS l L Z w A c) a' x ∧ Wmu L.length a' x < Wmu L.length ⟨#[.string s, c1, u2, u3, u4, .slice A L.length c, v6, .int .i64 (k : Int), u8, u9, u10, u11, u12, c13, c14, c15, c16, c17, u18, u19, u20, u21, u22, u23, u24, u25, u26, u27, u28, u29, u30, u31, u32, u33, u34, u35, u36, u37, u38, u39, u40, u41, u42, u43, u44, u45, u46, u47, u48, u49, u50, u51, u52, u53, u54, u55, u56, u57, u58, u59, u60, u61, u62, u63, u64, u65, u66, u67, u68, u69, u70, u71, u72, u73, u74, u75, u76, u77, u78, u79, u80, u81, u82, u83, u84, u85, u86, u87, u88, u89, u90, u91, u92, u93, u94, u95, u96, u97, u98, u99, u100, u101, u102, u103, u104, u105, u106, u107, u108, u109, u110, u111, u112, u113, u114, u115, u116, u117, u118, u119, u120, u121, u122, u123, u124, u125, u126, u127, u128, u129, u130, u131, u132, u133, u134, u135, u136, u137, u138, u139, u140, u141, u142, u143, u144, u145, u146, u147, u148, u149, u150, u151, u152, u153, u154, u155, u156, u157, u158, u159, u160, u161, u162, u163, u164, u165, u166, u167, u168, u169, u170, u171, u172, u173, u174, u175, u176, u177, u178, u179, u180, u181, u182, u183, u184, u185, u186, u187, u188, u189, u190, u191, u192, u193, u194, u195, u196, u197, u198, u199, u200, u201, u202, u203, u204, u205, u206, u207, u208, u209, u210, u211, u212, u213, u214, u215, u216, u217, u218, u219, u220, u221, u222, u223, u224, u225, u226, u227, u228, u229, u230, u231, u232, u233, u234, u235, u236, u237, u238, u239, u240, u241, u242, u243, u244, u245, u246, u247, u248, u249, u250, u251, u252, u253, u254, u255, u256, u257, u258, u259, u260, u261, u262, u263, u264, u265, u266, u267, u268, u269, u270, u271, u272, u273, u274, u275, u276, u277, u278, u279, u280, u281, u282, u283, u284, u285, u286, u287, u288, u289, u290, u291, u292, u293, u294, u295, u296, u297, u298, u299, u300, u301, u302, u303, u304, u305, u306, u307, u308, u309, u310, u311, u312, u313, u314, u315, u316, u317, u318, u319, u320, u321, u322, u323, u324, u325, u326, u327, u328, u329, u330, u331, u332, u333, u334], []⟩ wr) Q0) ⟨#[.string s, c1, u2, u3, u4, .slice A L.length c, v6, .int .i64 (k : Int), u8, u9, u10, u11, u12, c13, c14, c15, c16, c17, u18, u19, u20, u21, u22, u23, u24, u25, u26, u27, u28, u29, u30, u31, u32, u33, u34, u35, u36, u37, u38, u39, u40, u41, u42, u43, u44, u45, u46, u47, u48, u49, u50, u51, u52, u53, u54, u55, u56, u57, u58, u59, u60, u61, u62, u63, u64, u65, u66, u67, u68, u69, u70, u71, u72, u73, u74, u75, u76, u77, u78, u79, u80, u81, u82, u83, u84, u85, u86, u87, u88, u89, u90, u91, u92, u93, u94, u95, u96, u97, u98, u99, u100, u101, u102, u103, u104, u105, u106, u107, u108, u109, u110, u111, u112, u113, u114, u115, u116, u117, u118, u119, u120, u121, u122, u123, u124, u125, u126, u127, u128, u129, u130, u131, u132, u133, u134, u135, u136, u137, u138, u139, u140, u141, u142, u143, u144, u145, u146, u147, u148, u149, u150, u151, u152, u153, u154, u155, u156, u157, u158, u159, u160, u161, u162, u163, u164, u165, u166, u167, u168, u169, u170, u171, u172, u173, u174, u175, u176, u177, u178, u179, u180, u181, u182, u183, u184, u185, u186, u187, u188, u189, u190, u191, u192, u193, u194, u195, u196, u197, u198, u199, u200, u201, u202, u203, u204, u205, u206, u207, u208, u209, u210, u211, u212, u213, u214, u215, u216, u217, u218, u219, u220, u221, u222, u223, u224, u225, u226, u227, u228, u229, u230, u231, u232, u233, u234, u235, u236, u237, u238, u239, u240, u241, u242, u243, u244, u245, u246, u247, u248, u249, u250, u251, u252, u253, u254, u255, u256, u257, u258, u259, u260, u261, u262, u263, u264, u265, u266, u267, u268, u269, u270, u271, u272, u273, u274, u275, u276, u277, u278, u279, u280, u281, u282, u283, u284, u285, u286, u287, u288, u289, u290, u291, u292, u293, u294, u295, u296, u297, u298, u299, u300, u301, u302, u303, u304, u305, u306, u307, u308, u309, u310, u311, u312, u313, u314, u315, u316, u317, u318, u319, u320, u321, u322, u323, u324, u325, u326, u327, u328, u329, u330, u331, u332, u333, u334], []⟩ wr := by
  obtain ⟨hA, hbeh, hlex, hlen, hrows⟩ := hR
  obtain ⟨g, hg, hp, hq, hA1⟩ := hA.step hk
  obtain rfl : f = g := by omega
  have HQ := Lib.hid hQ
  have HLEX := Lib.hid hlex
  have HROWS := Lib.hid hrows
  have HA1 := Lib.hid hA1
  have HBEH := Lib.hid hbeh
  have HLEN := Lib.hid hlen
  have HT := Lib.hid hT
  have HLL := Lib.hid hl
  have HPL : Hid (p < l.length) := hp
  obtain ⟨bp, off, hA2, hgl, _⟩ := (Row.of_own hrows.pts).at_ (by omega)
  obtain rfl : A = some ⟨bp, off, none⟩ := hA2
  obtain ⟨e0, e1, e2, e3⟩ := (Row.of_own hrows.pts).pt hq
  have kq : decide ((k : Int) < L.length) = true := decide_eq_true (by omega)
  have kq2 : decide (k < L.length) = true := decide_eq_true hk
  have k0 : (0 : Int) ≤ k := by omega
  have k1 : (k : Int) < L.length := by omega
  have k2 : (L.length : Int) ≤ 1000000 := by omega
  have hp20 : (p : Int) ≤ 1000000 := by have := data_len s; rw [← hl] at this; omega
  have HR := Lib.hid (runeR_range (l.drop p))
  have HW := Lib.hid (wideR_pos (l.drop p))
  have HWI := Lib.hid (wide_in hp)
  have hw1 : runeR (l.drop p) = 45 → wideR (l.drop p) = 1 := fun h => by
    obtain ⟨t, _, _, h3⟩ := drop_cons (c := 45) hp (by omega) h
    exact h3
  have hA1w := hA1
  rw [hw1 hn] at hA1w
  have hx : ¬ hexAt l p := fun h => by have := h.1; rw [this] at hd; exact hd (by decide)
  have hnz := num_none hx hp hd (fun h => hn3 h.2.2)
  have hz : Hid (Z = .bad p 5) := lex_err hlex hp hbeh (by rw [at_other rfl hbad h10 h35 hbl hf hsg]; unfold numberZ; rw [if_pos hnz]) (by decide)
  have HLS : Hid (l.length = s.size) := by rw [hl]; exact data_len s
  obtain ⟨g2, _, hp2, hq2, _⟩ := hA1w.step hn2
  obtain ⟨f0, _, _, _⟩ := (Row.of_own hrows.pts).pt hq2
  unfold ptAt at f0
  simp only at f0
  obtain ⟨R2, hr2⟩ : ∃ R2, R2 = runeR (l.drop (p + 1)) := ⟨_, rfl⟩
  have hR2 := runeR_range (l.drop (p + 1))
  rw [← hr2] at hn3 hR2
  have HQ2 := Lib.hid hq2
  have HR2 := Lib.hid hr2
  clear f0 hr2 hq2
  unfold ptAt at e0 e1 e2 e3
  simp only at e0 e1 e2 e3
  obtain ⟨R, hRR⟩ : ∃ R, R = runeR (l.drop p) := ⟨_, rfl⟩
  obtain ⟨E, hEE⟩ : ∃ E, E = p + wideR (l.drop p) := ⟨_, rfl⟩
  have HRR := Lib.hid hRR
  have HEE := Lib.hid hEE
  rw [← hRR] at e0 HR
  rw [← hEE] at e2 HA1 HWI
  have HEP : Hid (p < E) := by have := HW.out; show _ < _; omega
  rw [hbad] at e3
  simp only [Bool.not_false] at e3
  rw [← hRR] at h10 h35 hbl hf hsg hd hn
  subst hn
  have hfR : firstR (45 : Int) = false := by decide +kernel
  have cD : Hid (∀ y, Calls Tryd.prog 31 #[.int .i32 45] y fun e w' => e = .returned (.bool false) ∧ y = w') := fun y => by
    have := refDigit_any (45 : Int) y (by omega)
    rwa [show decide (digR 45 < 10) = false from by decide] at this
  have t1 : decide ((k : Int) + 1 < L.length) = true := decide_eq_true (by omega)
  have t2 : decide (k + 1 < L.length) = true := decide_eq_true hn2
  have t3 : (k : Int) + 1 < L.length := by omega
  have t4 : (0 : Int) ≤ (k : Int) + 1 := by omega
  have t5 : ((k : Int) + 1).toNat = k + 1 := by omega
  have cD2 : Hid (∀ y, Calls Tryd.prog 31 #[.int .i32 R2] y fun e w' => e = .returned (.bool false) ∧ y = w') := fun y => by
    have := refDigit_any R2 y (by omega)
    rwa [decide_eq_false hn3] at this
  clear hA1w hn3
  clear h10 h35 hbl hf hsg hd hw1 hx hnz hRR hEE hbad
  have RW1 := Lib.hid (HROWS.out.go ((Below.refl _ _).alloc (Nat.le_refl _) (.cells #[.int .i32 45, .int .i64 (p : Int), .int .i64 (E : Int), .bool true] 64)))
  obtain ⟨j0, j1, j2, j3⟩ := cell_new wr (.int .i32 45) (.int .i64 (p : Int)) (.int .i64 (E : Int)) (.bool true) 64
  have JC := Lib.hid (And.intro j0 (And.intro j1 (And.intro j2 j3)))
  have hz1 : wr.heap.size < (wr.alloc (.cells #[.int .i32 45, .int .i64 (p : Int), .int .i64 (E : Int), .bool true] 64)).heap.size := by simp
  have HPB0 : Hid (some wr.heap.size ≠ v6.ownBlock) := own_new HROWS.out.own (Nat.le_refl _)
  have HQB0 : Hid (some bp ≠ v6.ownBlock) := apartS HROWS.out.pts HROWS.out.own (by decide) rfl
  have cL : Hid (∀ y, Tabs y → Calls Tryd.prog 30 #[.int .i32 45] y fun e w' => e = .returned (.bool false) ∧ Below y.heap.size y w') := fun y hy => by
    have := refLetter_any (45 : Int) y (by have := HR.out; omega) hy
    rwa [hfR] at this
  clear j0 j1 j2 j3 hfR
  clear hA hbeh hlex hlen hrows hA1 hQ hT hl hg hq hp
  conv => arg 2; whnf
  go_wp2_with fail
  generalize hW1 : (wr.alloc (.cells #[.int .i32 45, .int .i64 (p : Int), .int .i64 (E : Int), .bool true] 64)) = W1 at *
  refine (cL.out _ (HT.out _ RW1.out.bel)).mono ?_
  rintro e w2 ⟨rfl, hb2⟩
  obtain ⟨j0, j1, j2, j3⟩ := JC.out
  have RW2 := Lib.hid (RW1.out.go hb2)
  have J0 : w2.cell? ⟨wr.heap.size, 0, none⟩ = some (.int .i32 45) := below_cell hb2 hz1 j0
  have J1 : w2.cell? ⟨wr.heap.size, 1, none⟩ = some (.int .i64 (p : Int)) := below_cell hb2 hz1 j1
  have J2 : w2.cell? ⟨wr.heap.size, 2, none⟩ = some (.int .i64 (E : Int)) := below_cell hb2 hz1 j2
  have J3 : w2.cell? ⟨wr.heap.size, 3, none⟩ = some (.bool true) := below_cell hb2 hz1 j3
  have hz2 : wr.heap.size < w2.heap.size := Nat.lt_of_lt_of_le hz1 hb2.size
  have hgl2 : bp < w2.heap.size := by omega
  clear hb2 hW1 RW1 JC j0 j1 j2 j3 hz1 hgl e0 e1 e2 e3
  generalize wr.heap.size = pb at *
  have F0 : w2.cell? ⟨bp, off + (k + 1) * 4, none⟩ = some (.int .i32 R2) := by
    have h4 := ((Row.of_own RW2.out.pts).pt HQ2.out).1
    unfold ptAt at h4
    rw [HR2.out]
    exact h4
  go_wp2_with fail
  refine (cD.out _).mono ?_
  rintro e w3 ⟨rfl, rfl⟩
  go_wp2_with fail
  refine (cD2.out _).mono ?_
  rintro e w4 ⟨rfl, rfl⟩
  go_wp2_with fail
  go_quiet (fail)
  go_wp2_with fail
  refine HQ.out.ret _ _ _ _ ?_ ?_ ?_ ?_ hz.out ?_
  rotate_left 4
  · exact Below.drewN_ RW2.out.bel _
  all_goals rfl
end Go.Proofs.YtimdojeagkbgbaaDoor.Words

/- Several texts in one: RefSplitEnd, RefSplitAll, RefSplitLoop, RefSplit. -/
import Derived.Test.YtcaibahniheohaaDoorBG11
import Derived.Test.YtcaibahniheohaaDoorBG12
import Derived.Test.YtcaibahniheohaaDoorBG13
import Derived.Test.YtcaibahniheohaaDoorBG14
import Derived.Test.YtcaibahniheohaaDoorBG15
import Derived.Test.YtcaibahniheohaaDoorBG17
import Derived.Test.YtcaibahniheohaaDoorBG18
import Derived.Test.YtcaibahniheohaaDoorBG19
import Derived.Test.YtcaibahniheohaaDoorBG20
import Derived.Test.YtcaibahniheohaaDoorBG21
import Derived.Test.YtcaibahniheohaaDoorBG22

/- The document's own Split: the end of its loop. -/
namespace Go.Proofs.YtcaibahniheohaaDoor.Words
set_option maxRecDepth 1000000
open Go.RowKit Go.Shelf Go.Lib
set_option linter.unusedVariables false
set_option maxHeartbeats 4000000 in
theorem split_end (s : ByteArray) (l : List UInt8) (w wr : World) (A : Option Addr) (c k p f b : Nat) (L : List Pt) (Z : LexR) (out : List Tok) (v6 : Value) (c1 c13 c14 c15 c16 c17 : Value) (a : Act) (Q0 : Exit → Act → World → Prop) (hR : RoundG l L Z w wr A c v6 k p f b out) (hk : ¬ k < L.length) (hQ : QS s L Z w A c c1 c13 c14 c15 c16 c17 Q0) (hF : FrS s A c L c1 c13 c14 c15 c16 c17 v6 (.int .i64 (k : Int)) a) :
  CaseG s l w wr A c L Z c1 c13 c14 c15 c16 c17 a Q0 := by
 unfold FrS at hF
 iterate 325 (obtain ⟨_, hF⟩ := hF)
 subst hF
 unfold CaseG
 obtain ⟨hA, hbeh, hlex, hlen, hrows⟩ := hR
 have hst := hA.stop hk
 have hz : Hid (Z = .toks out) := by
  show _ = _
  rw [← hlex, lex_stop hst]
 have HQ := Lib.hid hQ
 have HROWS := Lib.hid hrows
 have kq : decide ((k : Int) < L.length) = false := decide_eq_false (by omega)
 have kq2 : decide (k < L.length) = false := decide_eq_false hk
 clear hA hbeh hlex hlen hrows hst hQ
 conv => arg 2; whnf
 go_wp2_with fail
 refine HQ.out.out _ _ ?_
 refine WI.mk ?_
 exact ⟨out, hz.out, HROWS.out⟩
end Go.Proofs.YtcaibahniheohaaDoor.Words

/- The document's own Split: a round, all cases joined. -/
namespace Go.Proofs.YtcaibahniheohaaDoor.Words
set_option maxRecDepth 1000000
open Go.RowKit Go.Shelf Go.Lib
set_option linter.unusedVariables false
theorem split_round (s : ByteArray) (l : List UInt8) (w wr : World) (A : Option Addr) (c : Nat) (L : List Pt) (Z : LexR) (v6 v7 : Value) (c1 c13 c14 c15 c16 c17 : Value) (a : Act) (Q0 : Exit → Act → World → Prop) (hs : s.size ≤ 1000000) (hl : l = s.data.toList) (hT : TabsLB w.heap.size w) (hR : RelS l L Z w A c v6 v7 wr) (hL : L.length ≤ s.size) (hQ : QS s L Z w A c c1 c13 c14 c15 c16 c17 Q0) (hF : FrS s A c L c1 c13 c14 c15 c16 c17 v6 v7 a) :
  CaseG s l w wr A c L Z c1 c13 c14 c15 c16 c17 a Q0 := by
 obtain ⟨k, p, f0, b, out, rfl, hR⟩ := hR
 by_cases hk : k < L.length
 rotate_left
 ·exact split_end s l w wr A c k p f0 b L Z out v6 c1 c13 c14 c15 c16 c17 a Q0 hR hk hQ hF
 obtain ⟨f, rfl, hp, hq, hA1⟩ := hR.at_.step hk
 by_cases hbad : badR (l.drop p) = true
 ·exact split_bad s l w wr A c k p f b L Z out v6 c1 c13 c14 c15 c16 c17 a Q0 hs hl hT hR hk hL hQ hF hbad
 have hbad2 : badR (l.drop p) = false := by simpa using hbad
 by_cases hbl : blankR (runeR (l.drop p)) = true
 ·exact split_blank s l w wr A c k p f b L Z out v6 c1 c13 c14 c15 c16 c17 a Q0 hs hl hT hR hk hL hQ hF hbad2 hbl
 have hbl2 : blankR (runeR (l.drop p)) = false := by simpa using hbl
 by_cases h35 : runeR (l.drop p) = 35
 ·exact split_hash s l w wr A c k p f b L Z out v6 c1 c13 c14 c15 c16 c17 a Q0 hs hl hT hR hk hL hQ hF h35
 by_cases h10 : runeR (l.drop p) = 10
 ·by_cases hc : out.length = 0
  ·exact split_line0 s l w wr A c k p f b L Z out v6 c1 c13 c14 c15 c16 c17 a Q0 hs hl hT hR hk hL hQ hF h10 hc
  obtain ⟨i, hi⟩ : ∃ i, out[out.length - 1]? = some i := ⟨_, List.getElem?_eq_getElem (by omega)⟩
  by_cases h4 : i.kind = 4
  ·exact split_line4 s l w wr A c k p f b L Z out v6 c1 c13 c14 c15 c16 c17 a Q0 hs hl hT hR hk hL hQ hF h10 ⟨i, hi, h4⟩
  ·exact split_line1 s l w wr A c k p f b L Z out v6 c1 c13 c14 c15 c16 c17 a Q0 hs hl hT hR hk hL hQ hF h10 ⟨i, hi, h4⟩
 by_cases hf : firstR (runeR (l.drop p)) = true
 ·exact split_name s l w wr A c k p f b L Z out v6 c1 c13 c14 c15 c16 c17 a Q0 hs hl hT hR hk hL hQ hF hf
 have hf2 : firstR (runeR (l.drop p)) = false := by simpa using hf
 by_cases hsg : signR (runeR (l.drop p)) = true
 ·have hr : runeR (l.drop p) = 44 ∨ runeR (l.drop p) = 58 ∨ runeR (l.drop p) = 40 ∨ runeR (l.drop p) = 41 := of_decide_eq_true hsg
  rcases hr with hr | hr | hr | hr
  ·exact split_sign44 s l w wr A c k p f b L Z out v6 c1 c13 c14 c15 c16 c17 a Q0 hs hl hT hR hk hL hQ hF hr
  ·exact split_sign58 s l w wr A c k p f b L Z out v6 c1 c13 c14 c15 c16 c17 a Q0 hs hl hT hR hk hL hQ hF hr
  ·exact split_sign40 s l w wr A c k p f b L Z out v6 c1 c13 c14 c15 c16 c17 a Q0 hs hl hT hR hk hL hQ hF hr
  ·exact split_sign41 s l w wr A c k p f b L Z out v6 c1 c13 c14 c15 c16 c17 a Q0 hs hl hT hR hk hL hQ hF hr
 have hsg2 : signR (runeR (l.drop p)) = false := by simpa using hsg
 by_cases hx : hexAt l p
 ·by_cases hrg : (numZ (l.drop p)).1 ≤ 4294967296
  ·exact split_hexi s l w wr A c k p f b L Z out v6 c1 c13 c14 c15 c16 c17 a Q0 hs hl hT hR hk hL hQ hF hx hrg
  ·exact split_hexr s l w wr A c k p f b L Z out v6 c1 c13 c14 c15 c16 c17 a Q0 hs hl hT hR hk hL hQ hF hx (by omega)
 by_cases hd : digR (runeR (l.drop p)) < 10
 ·by_cases h48 : runeR (l.drop p) = 48
  rotate_left
  ·by_cases hrg : (numZ (l.drop p)).1 ≤ 4294967296
   ·exact split_decai s l w wr A c k p f b L Z out v6 c1 c13 c14 c15 c16 c17 a Q0 hs hl hT hR hk hL hQ hF hd hx h48 hrg
   ·exact split_decar s l w wr A c k p f b L Z out v6 c1 c13 c14 c15 c16 c17 a Q0 hs hl hT hR hk hL hQ hF hd hx h48 (by omega)
  by_cases hn2 : k + 2 < L.length
  rotate_left
  ·by_cases hrg : (numZ (l.drop p)).1 ≤ 4294967296
   ·exact split_decbi s l w wr A c k p f b L Z out v6 c1 c13 c14 c15 c16 c17 a Q0 hs hl hT hR hk hL hQ hF hd hx h48 hn2 hrg
   ·exact split_decbr s l w wr A c k p f b L Z out v6 c1 c13 c14 c15 c16 c17 a Q0 hs hl hT hR hk hL hQ hF hd hx h48 hn2 (by omega)
  obtain ⟨_, _, _, _, hw1⟩ := ascii_rune (from_ne hp) (by omega)
  rw [hw1] at hA1
  obtain ⟨g1, hg1, hp1, hq1, hA2⟩ := hA1.step (by omega)
  by_cases hr1 : runeR (l.drop (p + 1)) = 120
  rotate_left
  ·by_cases hrg : (numZ (l.drop p)).1 ≤ 4294967296
   ·exact split_decci s l w wr A c k p f b L Z out v6 c1 c13 c14 c15 c16 c17 a Q0 hs hl hT hR hk hL hQ hF hd hx h48 hn2 (ptAt l (p + 1)) hq1 hr1 hrg
   ·exact split_deccr s l w wr A c k p f b L Z out v6 c1 c13 c14 c15 c16 c17 a Q0 hs hl hT hR hk hL hQ hF hd hx h48 hn2 (ptAt l (p + 1)) hq1 hr1 (by omega)
  obtain ⟨_, _, _, _, hw2⟩ := ascii_rune (from_ne hp1) (by omega)
  rw [hw2] at hA2
  obtain ⟨g2, hg2, hp2, hq2, hA3⟩ := hA2.step (by omega)
  by_cases hok : badR (l.drop (p + 1 + 1)) = true
  ·by_cases hrg : (numZ (l.drop p)).1 ≤ 4294967296
   ·exact split_decdi s l w wr A c k p f b L Z out v6 c1 c13 c14 c15 c16 c17 a Q0 hs hl hT hR hk hL hQ hF hd hx h48 hn2 (ptAt l (p + 1)) (ptAt l (p + 1 + 1)) hq1 hr1 hq2 (by show (!badR (l.drop (p + 1 + 1))) = false; rw [hok]; rfl) hrg
   ·exact split_decdr s l w wr A c k p f b L Z out v6 c1 c13 c14 c15 c16 c17 a Q0 hs hl hT hR hk hL hQ hF hd hx h48 hn2 (ptAt l (p + 1)) (ptAt l (p + 1 + 1)) hq1 hr1 hq2 (by show (!badR (l.drop (p + 1 + 1))) = false; rw [hok]; rfl) (by omega)
  have hhx : hexG (runeR (l.drop (p + 1 + 1))) < 0 := by
   have hg : ¬ digR (runeR (l.drop (p + 1 + 1))) < 16 := fun hh => hx ⟨h48, by omega, hr1, hp2, hh⟩
   have := digR_range (runeR (l.drop (p + 1 + 1)))
   unfold hexG
   rw [if_pos (by omega)]
   omega
  by_cases hrg : (numZ (l.drop p)).1 ≤ 4294967296
  ·exact split_decei s l w wr A c k p f b L Z out v6 c1 c13 c14 c15 c16 c17 a Q0 hs hl hT hR hk hL hQ hF hd hx h48 hn2 (ptAt l (p + 1)) (ptAt l (p + 1 + 1)) hq1 hr1 hq2 (by show (!badR (l.drop (p + 1 + 1))) = true; simpa using hok) (runeR_range _) hhx hrg
  ·exact split_decer s l w wr A c k p f b L Z out v6 c1 c13 c14 c15 c16 c17 a Q0 hs hl hT hR hk hL hQ hF hd hx h48 hn2 (ptAt l (p + 1)) (ptAt l (p + 1 + 1)) hq1 hr1 hq2 (by show (!badR (l.drop (p + 1 + 1))) = true; simpa using hok) (runeR_range _) hhx (by omega)
 by_cases hn : runeR (l.drop p) = 45
 ·by_cases hn2 : k + 1 < L.length
  ·obtain ⟨_, _, _, _, hw1⟩ := ascii_rune (from_ne hp) (by omega)
   rw [hw1] at hA1
   have hp1 := hA1.lt.1 hn2
   by_cases hd1 : digR (runeR (l.drop (p + 1))) < 10
   ·by_cases hrg : (numZ (l.drop p)).1 < -4294967296
    ·exact split_negr s l w wr A c k p f b L Z out v6 c1 c13 c14 c15 c16 c17 a Q0 hs hl hT hR hk hL hQ hF hn hp1 hd1 hrg
    ·exact split_negi s l w wr A c k p f b L Z out v6 c1 c13 c14 c15 c16 c17 a Q0 hs hl hT hR hk hL hQ hF hn hp1 hd1 (by omega)
   ·exact split_nonec s l w wr A c k p f b L Z out v6 c1 c13 c14 c15 c16 c17 a Q0 hs hl hT hR hk hL hQ hF hbad2 h10 h35 hbl2 hf2 hsg2 hd hn hn2 hd1
  ·exact split_noneb s l w wr A c k p f b L Z out v6 c1 c13 c14 c15 c16 c17 a Q0 hs hl hT hR hk hL hQ hF hbad2 h10 h35 hbl2 hf2 hsg2 hd hn hn2
 ·exact split_nonea s l w wr A c k p f b L Z out v6 c1 c13 c14 c15 c16 c17 a Q0 hs hl hT hR hk hL hQ hF hbad2 h10 h35 hbl2 hf2 hsg2 hd hn
end Go.Proofs.YtcaibahniheohaaDoor.Words

/- The document's own Split: its contract. -/
namespace Go.Proofs.YtcaibahniheohaaDoor.Words
set_option maxRecDepth 1000000
open Go.RowKit Go.Shelf Go.Lib
set_option linter.unusedVariables false
theorem split_roundA (s : ByteArray) (l : List UInt8) (w wr : World) (A : Option Addr) (c : Nat) (L : List Pt) (Z : LexR) (c1 c13 c14 c15 c16 c17 : Value) (a : Act) (Q0 : Exit → Act → World → Prop) (hs : s.size ≤ 1000000) (hl : l = s.data.toList) (hT : TabsLB w.heap.size w) (hI : WI s A c L c1 c13 c14 c15 c16 c17 (RelS l L Z w A c) a wr) (hL : L.length ≤ s.size) (hQ : QS s L Z w A c c1 c13 c14 c15 c16 c17 Q0) :
  Code.wp Tryd.prog bodyS (Exit.then (fun a' x => WI s A c L c1 c13 c14 c15 c16 c17 (RelS l L Z w A c) a' x ∧ Wmu L.length a' x < Wmu L.length a wr) Q0) a wr := by
 obtain ⟨u6, u7, hrel, hF⟩ := hI
 exact split_round s l w wr A c L Z u6 u7 c1 c13 c14 c15 c16 c17 a Q0 hs hl hT hrel hL hQ hF
theorem split_loop (s : ByteArray) (l : List UInt8) (w wr : World) (A : Option Addr) (c : Nat) (L : List Pt) (Z : LexR) (c1 c13 c14 c15 c16 c17 : Value) (u2 u3 u4 u6 u7 u8 u9 u10 u11 u12 u18 u19 u20 u21 u22 u23 u24 u25 u26 u27 u28 u29 u30 u31 u32 u33 u34 u35 u36 u37 u38 u39 u40 u41 u42 u43 u44 u45 u46 u47 u48 u49 u50 u51 u52 u53 u54 u55 u56 u57 u58 u59 u60 u61 u62 u63 u64 u65 u66 u67 u68 u69 u70 u71 u72 u73 u74 u75 u76 u77 u78 u79 u80 u81 u82 u83 u84 u85 u86 u87 u88 u89 u90 u91 u92 u93 u94 u95 u96 u97 u98 u99 u100 u101 u102 u103 u104 u105 u106 u107 u108 u109 u110 u111 u112 u113 u114 u115 u116 u117 u118 u119 u120 u121 u122 u123 u124 u125 u126 u127 u128 u129 u130 u131 u132 u133 u134 u135 u136 u137 u138 u139 u140 u141 u142 u143 u144 u145 u146 u147 u148 u149 u150 u151 u152 u153 u154 u155 u156 u157 u158 u159 u160 u161 u162 u163 u164 u165 u166 u167 u168 u169 u170 u171 u172 u173 u174 u175 u176 u177 u178 u179 u180 u181 u182 u183 u184 u185 u186 u187 u188 u189 u190 u191 u192 u193 u194 u195 u196 u197 u198 u199 u200 u201 u202 u203 u204 u205 u206 u207 u208 u209 u210 u211 u212 u213 u214 u215 u216 u217 u218 u219 u220 u221 u222 u223 u224 u225 u226 u227 u228 u229 u230 u231 u232 u233 u234 u235 u236 u237 u238 u239 u240 u241 u242 u243 u244 u245 u246 u247 u248 u249 u250 u251 u252 u253 u254 u255 u256 u257 u258 u259 u260 u261 u262 u263 u264 u265 u266 u267 u268 u269 u270 u271 u272 u273 u274 u275 u276 u277 u278 u279 u280 u281 u282 u283 u284 u285 u286 u287 u288 u289 u290 u291 u292 u293 u294 u295 u296 u297 u298 u299 u300 u301 u302 u303 u304 u305 u306 u307 u308 u309 u310 u311 u312 u313 u314 u315 u316 u317 u318 u319 u320 u321 u322 u323 u324 u325 u326 u327 u328 u329 u330 u331 u332 u333 u334 : Value) (Q0 : Exit → Act → World → Prop) (hs : s.size ≤ 1000000) (hl : l = s.data.toList) (hT : TabsLB w.heap.size w) (hL : L.length ≤ s.size) (hrel : RelS l L Z w A c u6 u7 wr) (hQ : QS s L Z w A c c1 c13 c14 c15 c16 c17 Q0) :
  Code.wp Tryd.prog (Code.loop bodyS) Q0 ⟨#[.string s, c1, u2, u3, u4, .slice A L.length c, u6, u7, u8, u9, u10, u11, u12, c13, c14, c15, c16, c17, u18, u19, u20, u21, u22, u23, u24, u25, u26, u27, u28, u29, u30, u31, u32, u33, u34, u35, u36, u37, u38, u39, u40, u41, u42, u43, u44, u45, u46, u47, u48, u49, u50, u51, u52, u53, u54, u55, u56, u57, u58, u59, u60, u61, u62, u63, u64, u65, u66, u67, u68, u69, u70, u71, u72, u73, u74, u75, u76, u77, u78, u79, u80, u81, u82, u83, u84, u85, u86, u87, u88, u89, u90, u91, u92, u93, u94, u95, u96, u97, u98, u99, u100, u101, u102, u103, u104, u105, u106, u107, u108, u109, u110, u111, u112, u113, u114, u115, u116, u117, u118, u119, u120, u121, u122, u123, u124, u125, u126, u127, u128, u129, u130, u131, u132, u133, u134, u135, u136, u137, u138, u139, u140, u141, u142, u143, u144, u145, u146, u147, u148, u149, u150, u151, u152, u153, u154, u155, u156, u157, u158, u159, u160, u161, u162, u163, u164, u165, u166, u167, u168, u169, u170, u171, u172, u173, u174, u175, u176, u177, u178, u179, u180, u181, u182, u183, u184, u185, u186, u187, u188, u189, u190, u191, u192, u193, u194, u195, u196, u197, u198, u199, u200, u201, u202, u203, u204, u205, u206, u207, u208, u209, u210, u211, u212, u213, u214, u215, u216, u217, u218, u219, u220, u221, u222, u223, u224, u225, u226, u227, u228, u229, u230, u231, u232, u233, u234, u235, u236, u237, u238, u239, u240, u241, u242, u243, u244, u245, u246, u247, u248, u249, u250, u251, u252, u253, u254, u255, u256, u257, u258, u259, u260, u261, u262, u263, u264, u265, u266, u267, u268, u269, u270, u271, u272, u273, u274, u275, u276, u277, u278, u279, u280, u281, u282, u283, u284, u285, u286, u287, u288, u289, u290, u291, u292, u293, u294, u295, u296, u297, u298, u299, u300, u301, u302, u303, u304, u305, u306, u307, u308, u309, u310, u311, u312, u313, u314, u315, u316, u317, u318, u319, u320, u321, u322, u323, u324, u325, u326, u327, u328, u329, u330, u331, u332, u333, u334], []⟩ wr := by
 refine wp_loop (WI s A c L c1 c13 c14 c15 c16 c17 (RelS l L Z w A c)) (Wmu L.length) ?_ (fun a x hI => split_roundA s l w x A c L Z c1 c13 c14 c15 c16 c17 a Q0 hs hl hT hI hL hQ)
 exact WI.mk hrel
end Go.Proofs.YtcaibahniheohaaDoor.Words

/- The document's own Split: its contract. -/
namespace Go.Proofs.YtcaibahniheohaaDoor.Words
set_option maxRecDepth 1000000
open Go.RowKit Go.Shelf Go.Lib
set_option linter.unusedVariables false
theorem slot_of {t : Array Value} {k : Nat} {v : Value} (h : t.toList.getD k (.bool false) = v) (hv : v ≠ .bool false) : t[k]? = some v := by
 rw [List.getD_eq_getElem?_getD, Array.getElem?_toList] at h
 cases h2 : t[k]? with
 | none => rw [h2] at h; exact absurd h.symm hv
 | some u => rw [h2] at h; simpa using h
set_option maxHeartbeats 4000000 in
theorem refSplitL_any (s : ByteArray) (w : World) (hs : s.size ≤ 9223372036854775807) (hT : TabsL w) :
  Calls Tryd.prog 21 #[.string s] w fun e w' => LexOut (lexZ s.data.toList) w.heap.size e w' ∧ Below w.heap.size w w' := by
 have hl := data_len s
 by_cases hlong : 20000 < s.size
 ·have hz : Hid (lexZ s.data.toList = .bad 0 7) := by show _ = _; unfold lexZ; rw [if_pos (by omega)]
  have q1 : decide (20000 < (s.size : Int)) = true := decide_eq_true (by omega)
  have q2 : decide (20000 < s.size) = true := decide_eq_true hlong
  clear hl hT
  go_enter Tryd.func21, Tryd.ntmps21
  go_wp2
  refine bodyPost_ret (v := .tuple #[.slice none 0 0, .int .i64 0, .int .i64 7]) (by simp [results, Tryd.results21, go_sem]) rfl ⟨LexOut.bad hz.out rfl, Below.refl _ _⟩
 ·have HZ : Hid (lexZ s.data.toList = lexF s.data.toList s.data.toList.length 0 ⟨0, false, []⟩) := by show _ = _; unfold lexZ; rw [if_neg (by omega)]
  generalize lexZ s.data.toList = Z at *
  have q1 : decide (20000 < (s.size : Int)) = false := decide_eq_false (by omega)
  have q2 : decide (20000 < s.size) = false := decide_eq_false hlong
  have HT := Lib.hid hT.all
  have hs2 : s.size ≤ 1000000 := by omega
  have HS := Lib.hid hs2
  have HPL := Lib.hid (ptZ_len s.data.toList)
  have HL := Lib.hid hl
  have cP := Lib.hid (points_any s w hs2)
  clear hl hs hlong hT hs2
  go_enter Tryd.func21, Tryd.ntmps21
  go_wp2_with fail
  refine cP.out.mono ?_
  rintro e w1 ⟨v, rfl, hown, hb⟩
  obtain ⟨A, c, rfl⟩ := (Row.of_own hown).form
  have HO := Lib.hid hown
  have HB := Lib.hid hb
  clear hown hb
  go_wp2_with fail
  refine split_loop s s.data.toList w w1 A c (ptZ s.data.toList) Z _ _ _ _ _ _ _ _ _ _ _ _ _ _ _ _ _ _ _ _ _ _ _ _ _ _ _ _ _ _ _ _ _ _ _ _ _ _ _ _ _ _ _ _ _ _ _ _ _ _ _ _ _ _ _ _ _ _ _ _ _ _ _ _ _ _ _ _ _ _ _ _ _ _ _ _ _ _ _ _ _ _ _ _ _ _ _ _ _ _ _ _ _ _ _ _ _ _ _ _ _ _ _ _ _ _ _ _ _ _ _ _ _ _ _ _ _ _ _ _ _ _ _ _ _ _ _ _ _ _ _ _ _ _ _ _ _ _ _ _ _ _ _ _ _ _ _ _ _ _ _ _ _ _ _ _ _ _ _ _ _ _ _ _ _ _ _ _ _ _ _ _ _ _ _ _ _ _ _ _ _ _ _ _ _ _ _ _ _ _ _ _ _ _ _ _ _ _ _ _ _ _ _ _ _ _ _ _ _ _ _ _ _ _ _ _ _ _ _ _ _ _ _ _ _ _ _ _ _ _ _ _ _ _ _ _ _ _ _ _ _ _ _ _ _ _ _ _ _ _ _ _ _ _ _ _ _ _ _ _ _ _ _ _ _ _ _ _ _ _ _ _ _ _ _ _ _ _ _ _ _ _ _ _ _ _ _ _ _ _ _ _ _ _ _ _ _ _ _ _ _ _ _ _ _ _ _ _ _ _ _ _ _ _ _ _ _ _ _ _ _ _ _ _ _ _ _ _ _ _ _ _ _ _ HS.out rfl HT.out (by have := HPL.out; have := HL.out; omega) ?_ ?_
  ·exact ⟨0, 0, s.data.toList.length, 0, [], rfl, At.start _, Nat.le_refl _, HZ.out.symm, Nat.le_refl _, ⟨World.ownsRow_nil _ _ _ _, HO.out, HB.out⟩⟩
  ·refine ⟨?_, ?_⟩
   ·intro p e a x h0 h2 h3 h4 hz hbx
    have s2 := slot_of h2 (by simp)
    have s3 := slot_of h3 (by simp)
    have s4 := slot_of h4 (by simp)
    try dsimp only
    go_wp2_with fail
    refine bodyPost_ret (v := .tuple #[.slice none 0 0, .int .i64 (p : Int), .int .i64 e]) (by simp [results, Tryd.results21, go_sem, s2, s3, s4]) h0 ⟨LexOut.bad hz rfl, hbx⟩
   ·intro a x hI
    obtain ⟨u6, u7, ⟨out, hz, hR⟩, hF⟩ := hI
    unfold FrS at hF
    iterate 325 (obtain ⟨_, hF⟩ := hF)
    subst hF
    obtain ⟨A6, c6, rfl⟩ := (Row.of_own hR.own).form
    have HR := Lib.hid hR
    have HZ2 := Lib.hid hz
    clear hR hz HZ cP HO
    go_wp2_with fail
    refine bodyPost_ret (v := .tuple #[.slice A6 out.length c6, .int .i64 (-1), .int .i64 0]) (by simp [results, Tryd.results21, go_sem]) rfl ⟨LexOut.toks HZ2.out rfl HR.out.own, HR.out.bel⟩
end Go.Proofs.YtcaibahniheohaaDoor.Words

/- Several texts in one: RefSplit, LexAlive, LexTokEq, SameToks. -/
import Derived.Test.YtimdojeagkbgbaaDoorG09
import Derived.Test.YtimdojeagkbgbaaDoorG01
import Derived.Deep.QuietTactic
import Derived.BigQuiet
import Derived.Laws.StructEq

/- The document's own Split: its contract. -/
namespace Go.Proofs.YtimdojeagkbgbaaDoor.Words
set_option maxRecDepth 1000000
open Go.RowKit Go.Shelf Go.Lib
set_option linter.unusedVariables false

theorem slot_of {t : Array Value} {k : Nat} {v : Value} (h : t.toList.getD k (.bool false) = v) (hv : v ≠ .bool false) : t[k]? = some v := by
  rw [List.getD_eq_getElem?_getD, Array.getElem?_toList] at h
  cases h2 : t[k]? with
  | none => rw [h2] at h; exact absurd h.symm hv
  | some u => rw [h2] at h; simpa using h
set_option maxHeartbeats 4000000 in
theorem refSplit_any (s : ByteArray) (w : World) (hs : s.size ≤ 9223372036854775807) (hT : Tabs w) :
    Calls Tryd.prog 14 #[.string s] w fun e w' => LexOut (lexZ s.data.toList) w.heap.size e w' ∧ Below w.heap.size w w' := by
  have hl := data_len s
  by_cases hlong : 20000 < s.size
  · have hz : Hid (lexZ s.data.toList = .bad 0 7) := by show _ = _; unfold lexZ; rw [if_pos (by omega)]
    have q1 : decide (20000 < (s.size : Int)) = true := decide_eq_true (by omega)
    have q2 : decide (20000 < s.size) = true := decide_eq_true hlong
    clear hl hT
    go_enter Tryd.func14, Tryd.ntmps14
    go_wp2
    refine bodyPost_ret (v := .tuple #[.slice none 0 0, .int .i64 0, .int .i64 7]) (by simp [results, Tryd.results14, go_sem]) rfl ⟨LexOut.bad hz.out rfl, Below.refl _ _⟩
  · have HZ : Hid (lexZ s.data.toList = lexF s.data.toList s.data.toList.length 0 ⟨0, false, []⟩) := by show _ = _; unfold lexZ; rw [if_neg (by omega)]
    generalize lexZ s.data.toList = Z at *
    have q1 : decide (20000 < (s.size : Int)) = false := decide_eq_false (by omega)
    have q2 : decide (20000 < s.size) = false := decide_eq_false hlong
    have HT := Lib.hid hT.all
    have hs2 : s.size ≤ 1000000 := by omega
    have HS := Lib.hid hs2
    have HPL := Lib.hid (ptZ_len s.data.toList)
    have HL := Lib.hid hl
    have cP := Lib.hid (points_any s w hs2)
    clear hl hs hlong hT hs2
    go_enter Tryd.func14, Tryd.ntmps14
    go_wp2_with fail
    refine cP.out.mono ?_
    rintro e w1 ⟨v, rfl, hown, hb⟩
    obtain ⟨A, c, rfl⟩ := (Row.of_own hown).form
    have HO := Lib.hid hown
    have HB := Lib.hid hb
    clear hown hb
    go_wp2_with fail
    refine split_loop s s.data.toList w w1 A c (ptZ s.data.toList) Z _ _ _ _ _ _ _ _ _ _ _ _ _ _ _ _ _ _ _ _ _ _ _ _ _ _ _ _ _ _ _ _ _ _ _ _ _ _ _ _ _ _ _ _ _ _ _ _ _ _ _ _ _ _ _ _ _ _ _ _ _ _ _ _ _ _ _ _ _ _ _ _ _ _ _ _ _ _ _ _ _ _ _ _ _ _ _ _ _ _ _ _ _ _ _ _ _ _ _ _ _ _ _ _ _ _ _ _ _ _ _ _ _ _ _ _ _ _ _ _ _ _ _ _ _ _ _ _ _ _ _ _ _ _ _ _ _ _ _ _ _ _ _ _ _ _ _ _ _ _ _ _ _ _ _ _ _ _ _ _ _ _ _ _ _ _ _ _ _ _ _ _ _ _ _ _ _ _ _ _ _ _ _ _ _ _ _ _ _ _ _ _ _ _ _ _ _ _ _ _ _ _ _ _ _ _ _ _ _ _ _ _ _ _ _ _ _ _ _ _ _ _ _ _ _ _ _ _ _ _ _ _ _ _ _ _ _ _ _ _ _ _ _ _ _ _ _ _ _ _ _ _ _ _ _ _ _ _ _ _ _ _ _ _ _ _ _ _ _ _ _ _ _ _ _ _ _ _ _ _ _ _ _ _ _ _ _ _ _ _ _ _ _ _ _ _ _ _ _ _ _ _ _ _ _ _ _ _ _ _ _ _ _ _ _ _ _ _ _ _ _ _ _ _ _ _ _ _ _ _ _ _ _ _ HS.out rfl HT.out (by have := HPL.out; have := HL.out; omega) ?_ ?_
    · exact ⟨0, 0, s.data.toList.length, 0, [], rfl, At.start _, Nat.le_refl _, HZ.out.symm, Nat.le_refl _, ⟨World.ownsRow_nil _ _ _ _, HO.out, HB.out⟩⟩
    · refine ⟨?_, ?_⟩
      · intro p e a x h0 h2 h3 h4 hz hbx
        have s2 := slot_of h2 (by simp)
        have s3 := slot_of h3 (by simp)
        have s4 := slot_of h4 (by simp)
        try dsimp only
        go_wp2_with fail
        refine bodyPost_ret (v := .tuple #[.slice none 0 0, .int .i64 (p : Int), .int .i64 e]) (by simp [results, Tryd.results14, go_sem, s2, s3, s4]) h0 ⟨LexOut.bad hz rfl, hbx⟩
      · intro a x hI
        unfold WI at hI
        obtain ⟨u2, hI⟩ := hI
        obtain ⟨u3, hI⟩ := hI
        obtain ⟨u4, hI⟩ := hI
        obtain ⟨u6, hI⟩ := hI
        obtain ⟨u7, hI⟩ := hI
        obtain ⟨u8, hI⟩ := hI
        obtain ⟨u9, hI⟩ := hI
        obtain ⟨u10, hI⟩ := hI
        obtain ⟨u11, hI⟩ := hI
        obtain ⟨u12, hI⟩ := hI
        obtain ⟨u18, hI⟩ := hI
        obtain ⟨u19, hI⟩ := hI
        obtain ⟨u20, hI⟩ := hI
        obtain ⟨u21, hI⟩ := hI
        obtain ⟨u22, hI⟩ := hI
        obtain ⟨u23, hI⟩ := hI
        obtain ⟨u24, hI⟩ := hI
        obtain ⟨u25, hI⟩ := hI
        obtain ⟨u26, hI⟩ := hI
        obtain ⟨u27, hI⟩ := hI
        obtain ⟨u28, hI⟩ := hI
        obtain ⟨u29, hI⟩ := hI
        obtain ⟨u30, hI⟩ := hI
        obtain ⟨u31, hI⟩ := hI
        obtain ⟨u32, hI⟩ := hI
        obtain ⟨u33, hI⟩ := hI
        obtain ⟨u34, hI⟩ := hI
        obtain ⟨u35, hI⟩ := hI
        obtain ⟨u36, hI⟩ := hI
        obtain ⟨u37, hI⟩ := hI
        obtain ⟨u38, hI⟩ := hI
        obtain ⟨u39, hI⟩ := hI
        obtain ⟨u40, hI⟩ := hI
        obtain ⟨u41, hI⟩ := hI
        obtain ⟨u42, hI⟩ := hI
        obtain ⟨u43, hI⟩ := hI
        obtain ⟨u44, hI⟩ := hI
        obtain ⟨u45, hI⟩ := hI
        obtain ⟨u46, hI⟩ := hI
        obtain ⟨u47, hI⟩ := hI
        obtain ⟨u48, hI⟩ := hI
        obtain ⟨u49, hI⟩ := hI
        obtain ⟨u50, hI⟩ := hI
        obtain ⟨u51, hI⟩ := hI
        obtain ⟨u52, hI⟩ := hI
        obtain ⟨u53, hI⟩ := hI
        obtain ⟨u54, hI⟩ := hI
        obtain ⟨u55, hI⟩ := hI
        obtain ⟨u56, hI⟩ := hI
        obtain ⟨u57, hI⟩ := hI
        obtain ⟨u58, hI⟩ := hI
        obtain ⟨u59, hI⟩ := hI
        obtain ⟨u60, hI⟩ := hI
        obtain ⟨u61, hI⟩ := hI
        obtain ⟨u62, hI⟩ := hI
        obtain ⟨u63, hI⟩ := hI
        obtain ⟨u64, hI⟩ := hI
        obtain ⟨u65, hI⟩ := hI
        obtain ⟨u66, hI⟩ := hI
        obtain ⟨u67, hI⟩ := hI
        obtain ⟨u68, hI⟩ := hI
        obtain ⟨u69, hI⟩ := hI
        obtain ⟨u70, hI⟩ := hI
        obtain ⟨u71, hI⟩ := hI
        obtain ⟨u72, hI⟩ := hI
        obtain ⟨u73, hI⟩ := hI
        obtain ⟨u74, hI⟩ := hI
        obtain ⟨u75, hI⟩ := hI
        obtain ⟨u76, hI⟩ := hI
        obtain ⟨u77, hI⟩ := hI
        obtain ⟨u78, hI⟩ := hI
        obtain ⟨u79, hI⟩ := hI
        obtain ⟨u80, hI⟩ := hI
        obtain ⟨u81, hI⟩ := hI
        obtain ⟨u82, hI⟩ := hI
        obtain ⟨u83, hI⟩ := hI
        obtain ⟨u84, hI⟩ := hI
        obtain ⟨u85, hI⟩ := hI
        obtain ⟨u86, hI⟩ := hI
        obtain ⟨u87, hI⟩ := hI
        obtain ⟨u88, hI⟩ := hI
        obtain ⟨u89, hI⟩ := hI
        obtain ⟨u90, hI⟩ := hI
        obtain ⟨u91, hI⟩ := hI
        obtain ⟨u92, hI⟩ := hI
        obtain ⟨u93, hI⟩ := hI
        obtain ⟨u94, hI⟩ := hI
        obtain ⟨u95, hI⟩ := hI
        obtain ⟨u96, hI⟩ := hI
        obtain ⟨u97, hI⟩ := hI
        obtain ⟨u98, hI⟩ := hI
        obtain ⟨u99, hI⟩ := hI
        obtain ⟨u100, hI⟩ := hI
        obtain ⟨u101, hI⟩ := hI
        obtain ⟨u102, hI⟩ := hI
        obtain ⟨u103, hI⟩ := hI
        obtain ⟨u104, hI⟩ := hI
        obtain ⟨u105, hI⟩ := hI
        obtain ⟨u106, hI⟩ := hI
        obtain ⟨u107, hI⟩ := hI
        obtain ⟨u108, hI⟩ := hI
        obtain ⟨u109, hI⟩ := hI
        obtain ⟨u110, hI⟩ := hI
        obtain ⟨u111, hI⟩ := hI
        obtain ⟨u112, hI⟩ := hI
        obtain ⟨u113, hI⟩ := hI
        obtain ⟨u114, hI⟩ := hI
        obtain ⟨u115, hI⟩ := hI
        obtain ⟨u116, hI⟩ := hI
        obtain ⟨u117, hI⟩ := hI
        obtain ⟨u118, hI⟩ := hI
        obtain ⟨u119, hI⟩ := hI
        obtain ⟨u120, hI⟩ := hI
        obtain ⟨u121, hI⟩ := hI
        obtain ⟨u122, hI⟩ := hI
        obtain ⟨u123, hI⟩ := hI
        obtain ⟨u124, hI⟩ := hI
        obtain ⟨u125, hI⟩ := hI
        obtain ⟨u126, hI⟩ := hI
        obtain ⟨u127, hI⟩ := hI
        obtain ⟨u128, hI⟩ := hI
        obtain ⟨u129, hI⟩ := hI
        obtain ⟨u130, hI⟩ := hI
        obtain ⟨u131, hI⟩ := hI
        obtain ⟨u132, hI⟩ := hI
        obtain ⟨u133, hI⟩ := hI
        obtain ⟨u134, hI⟩ := hI
        obtain ⟨u135, hI⟩ := hI
        obtain ⟨u136, hI⟩ := hI
        obtain ⟨u137, hI⟩ := hI
        obtain ⟨u138, hI⟩ := hI
        obtain ⟨u139, hI⟩ := hI
        obtain ⟨u140, hI⟩ := hI
        obtain ⟨u141, hI⟩ := hI
        obtain ⟨u142, hI⟩ := hI
        obtain ⟨u143, hI⟩ := hI
        obtain ⟨u144, hI⟩ := hI
        obtain ⟨u145, hI⟩ := hI
        obtain ⟨u146, hI⟩ := hI
        obtain ⟨u147, hI⟩ := hI
        obtain ⟨u148, hI⟩ := hI
        obtain ⟨u149, hI⟩ := hI
        obtain ⟨u150, hI⟩ := hI
        obtain ⟨u151, hI⟩ := hI
        obtain ⟨u152, hI⟩ := hI
        obtain ⟨u153, hI⟩ := hI
        obtain ⟨u154, hI⟩ := hI
        obtain ⟨u155, hI⟩ := hI
        obtain ⟨u156, hI⟩ := hI
        obtain ⟨u157, hI⟩ := hI
        obtain ⟨u158, hI⟩ := hI
        obtain ⟨u159, hI⟩ := hI
        obtain ⟨u160, hI⟩ := hI
        obtain ⟨u161, hI⟩ := hI
        obtain ⟨u162, hI⟩ := hI
        obtain ⟨u163, hI⟩ := hI
        obtain ⟨u164, hI⟩ := hI
        obtain ⟨u165, hI⟩ := hI
        obtain ⟨u166, hI⟩ := hI
        obtain ⟨u167, hI⟩ := hI
        obtain ⟨u168, hI⟩ := hI
        obtain ⟨u169, hI⟩ := hI
        obtain ⟨u170, hI⟩ := hI
        obtain ⟨u171, hI⟩ := hI
        obtain ⟨u172, hI⟩ := hI
        obtain ⟨u173, hI⟩ := hI
        obtain ⟨u174, hI⟩ := hI
        obtain ⟨u175, hI⟩ := hI
        obtain ⟨u176, hI⟩ := hI
        obtain ⟨u177, hI⟩ := hI
        obtain ⟨u178, hI⟩ := hI
        obtain ⟨u179, hI⟩ := hI
        obtain ⟨u180, hI⟩ := hI
        obtain ⟨u181, hI⟩ := hI
        obtain ⟨u182, hI⟩ := hI
        obtain ⟨u183, hI⟩ := hI
        obtain ⟨u184, hI⟩ := hI
        obtain ⟨u185, hI⟩ := hI
        obtain ⟨u186, hI⟩ := hI
        obtain ⟨u187, hI⟩ := hI
        obtain ⟨u188, hI⟩ := hI
        obtain ⟨u189, hI⟩ := hI
        obtain ⟨u190, hI⟩ := hI
        obtain ⟨u191, hI⟩ := hI
        obtain ⟨u192, hI⟩ := hI
        obtain ⟨u193, hI⟩ := hI
        obtain ⟨u194, hI⟩ := hI
        obtain ⟨u195, hI⟩ := hI
        obtain ⟨u196, hI⟩ := hI
        obtain ⟨u197, hI⟩ := hI
        obtain ⟨u198, hI⟩ := hI
        obtain ⟨u199, hI⟩ := hI
        obtain ⟨u200, hI⟩ := hI
        obtain ⟨u201, hI⟩ := hI
        obtain ⟨u202, hI⟩ := hI
        obtain ⟨u203, hI⟩ := hI
        obtain ⟨u204, hI⟩ := hI
        obtain ⟨u205, hI⟩ := hI
        obtain ⟨u206, hI⟩ := hI
        obtain ⟨u207, hI⟩ := hI
        obtain ⟨u208, hI⟩ := hI
        obtain ⟨u209, hI⟩ := hI
        obtain ⟨u210, hI⟩ := hI
        obtain ⟨u211, hI⟩ := hI
        obtain ⟨u212, hI⟩ := hI
        obtain ⟨u213, hI⟩ := hI
        obtain ⟨u214, hI⟩ := hI
        obtain ⟨u215, hI⟩ := hI
        obtain ⟨u216, hI⟩ := hI
        obtain ⟨u217, hI⟩ := hI
        obtain ⟨u218, hI⟩ := hI
        obtain ⟨u219, hI⟩ := hI
        obtain ⟨u220, hI⟩ := hI
        obtain ⟨u221, hI⟩ := hI
        obtain ⟨u222, hI⟩ := hI
        obtain ⟨u223, hI⟩ := hI
        obtain ⟨u224, hI⟩ := hI
        obtain ⟨u225, hI⟩ := hI
        obtain ⟨u226, hI⟩ := hI
        obtain ⟨u227, hI⟩ := hI
        obtain ⟨u228, hI⟩ := hI
        obtain ⟨u229, hI⟩ := hI
        obtain ⟨u230, hI⟩ := hI
        obtain ⟨u231, hI⟩ := hI
        obtain ⟨u232, hI⟩ := hI
        obtain ⟨u233, hI⟩ := hI
        obtain ⟨u234, hI⟩ := hI
        obtain ⟨u235, hI⟩ := hI
        obtain ⟨u236, hI⟩ := hI
        obtain ⟨u237, hI⟩ := hI
        obtain ⟨u238, hI⟩ := hI
        obtain ⟨u239, hI⟩ := hI
        obtain ⟨u240, hI⟩ := hI
        obtain ⟨u241, hI⟩ := hI
        obtain ⟨u242, hI⟩ := hI
        obtain ⟨u243, hI⟩ := hI
        obtain ⟨u244, hI⟩ := hI
        obtain ⟨u245, hI⟩ := hI
        obtain ⟨u246, hI⟩ := hI
        obtain ⟨u247, hI⟩ := hI
        obtain ⟨u248, hI⟩ := hI
        obtain ⟨u249, hI⟩ := hI
        obtain ⟨u250, hI⟩ := hI
        obtain ⟨u251, hI⟩ := hI
        obtain ⟨u252, hI⟩ := hI
        obtain ⟨u253, hI⟩ := hI
        obtain ⟨u254, hI⟩ := hI
        obtain ⟨u255, hI⟩ := hI
        obtain ⟨u256, hI⟩ := hI
        obtain ⟨u257, hI⟩ := hI
        obtain ⟨u258, hI⟩ := hI
        obtain ⟨u259, hI⟩ := hI
        obtain ⟨u260, hI⟩ := hI
        obtain ⟨u261, hI⟩ := hI
        obtain ⟨u262, hI⟩ := hI
        obtain ⟨u263, hI⟩ := hI
        obtain ⟨u264, hI⟩ := hI
        obtain ⟨u265, hI⟩ := hI
        obtain ⟨u266, hI⟩ := hI
        obtain ⟨u267, hI⟩ := hI
        obtain ⟨u268, hI⟩ := hI
        obtain ⟨u269, hI⟩ := hI
        obtain ⟨u270, hI⟩ := hI
        obtain ⟨u271, hI⟩ := hI
        obtain ⟨u272, hI⟩ := hI
        obtain ⟨u273, hI⟩ := hI
        obtain ⟨u274, hI⟩ := hI
        obtain ⟨u275, hI⟩ := hI
        obtain ⟨u276, hI⟩ := hI
        obtain ⟨u277, hI⟩ := hI
        obtain ⟨u278, hI⟩ := hI
        obtain ⟨u279, hI⟩ := hI
        obtain ⟨u280, hI⟩ := hI
        obtain ⟨u281, hI⟩ := hI
        obtain ⟨u282, hI⟩ := hI
        obtain ⟨u283, hI⟩ := hI
        obtain ⟨u284, hI⟩ := hI
        obtain ⟨u285, hI⟩ := hI
        obtain ⟨u286, hI⟩ := hI
        obtain ⟨u287, hI⟩ := hI
        obtain ⟨u288, hI⟩ := hI
        obtain ⟨u289, hI⟩ := hI
        obtain ⟨u290, hI⟩ := hI
        obtain ⟨u291, hI⟩ := hI
        obtain ⟨u292, hI⟩ := hI
        obtain ⟨u293, hI⟩ := hI
        obtain ⟨u294, hI⟩ := hI
        obtain ⟨u295, hI⟩ := hI
        obtain ⟨u296, hI⟩ := hI
        obtain ⟨u297, hI⟩ := hI
        obtain ⟨u298, hI⟩ := hI
        obtain ⟨u299, hI⟩ := hI
        obtain ⟨u300, hI⟩ := hI
        obtain ⟨u301, hI⟩ := hI
        obtain ⟨u302, hI⟩ := hI
        obtain ⟨u303, hI⟩ := hI
        obtain ⟨u304, hI⟩ := hI
        obtain ⟨u305, hI⟩ := hI
        obtain ⟨u306, hI⟩ := hI
        obtain ⟨u307, hI⟩ := hI
        obtain ⟨u308, hI⟩ := hI
        obtain ⟨u309, hI⟩ := hI
        obtain ⟨u310, hI⟩ := hI
        obtain ⟨u311, hI⟩ := hI
        obtain ⟨u312, hI⟩ := hI
        obtain ⟨u313, hI⟩ := hI
        obtain ⟨u314, hI⟩ := hI
        obtain ⟨u315, hI⟩ := hI
        obtain ⟨u316, hI⟩ := hI
        obtain ⟨u317, hI⟩ := hI
        obtain ⟨u318, hI⟩ := hI
        obtain ⟨u319, hI⟩ := hI
        obtain ⟨u320, hI⟩ := hI
        obtain ⟨u321, hI⟩ := hI
        obtain ⟨u322, hI⟩ := hI
        obtain ⟨u323, hI⟩ := hI
        obtain ⟨u324, hI⟩ := hI
        obtain ⟨u325, hI⟩ := hI
        obtain ⟨u326, hI⟩ := hI
        obtain ⟨u327, hI⟩ := hI
        obtain ⟨u328, hI⟩ := hI
        obtain ⟨u329, hI⟩ := hI
        obtain ⟨u330, hI⟩ := hI
        obtain ⟨u331, hI⟩ := hI
        obtain ⟨u332, hI⟩ := hI
        obtain ⟨u333, hI⟩ := hI
        obtain ⟨u334, hI⟩ := hI
        obtain ⟨⟨out, hz, hR⟩, rfl⟩ := hI
        obtain ⟨A6, c6, rfl⟩ := (Row.of_own hR.own).form
        have HR := Lib.hid hR
        have HZ2 := Lib.hid hz
        clear hR hz HZ cP HO
        go_wp2_with fail
        refine bodyPost_ret (v := .tuple #[.slice A6 out.length c6, .int .i64 (-1), .int .i64 0]) (by simp [results, Tryd.results14, go_sem]) rfl ⟨LexOut.toks HZ2.out rfl HR.out.own, HR.out.bel⟩
end Go.Proofs.YtimdojeagkbgbaaDoor.Words

/- The law's own helpers of chapter 7: num, alive. -/
namespace Go.Proofs.YtimdojeagkbgbaaDoor.Words
set_option maxRecDepth 100000
open Go.RowKit Go.Shelf Go.Lib
set_option linter.unusedVariables false

theorem quiet_mine7 {P : Program} {f : FuncId} {args : Array Value} {w : World} {n : Nat} {v : Value} (h : Calls P f args (w.drewN n) fun e w' => e = .returned v ∧ w.drewN n = w') :
    Calls P f args (w.drewN n) fun e w'' => e = .returned v ∧ ∃ m, w'' = w.drewN m := h.mono fun _ _ ⟨he, hm⟩ => ⟨he, n, hm.symm⟩

theorem num_any (k : Int) (w : World) : Calls Tryd.prog 16 #[.int .i64 k] w fun e w' => e = .returned (.int .i64 k) ∧ w = w' := by
  go_enter Tryd.func16, Tryd.ntmps16
  go_wp2
  go_ret
  exact ⟨rfl, rfl⟩
/-- The text of the example. -/
def aliveT : List UInt8 := [97, 58, 32, 45, 49, 50, 32, 35, 32, 120, 10, 48, 120, 49, 70]
def aliveK : List Tok := [⟨1, 0, 0, [97]⟩, ⟨3, 0, 1, [58]⟩, ⟨2, -12, 3, [45, 49, 50]⟩, ⟨4, 0, 10, [10]⟩, ⟨2, 31, 11, [48, 120, 49, 70]⟩]
theorem alive_lex : lexZ aliveT = .toks aliveK := by decide +kernel
theorem none_lex : lexZ [] = .toks [] := by decide +kernel
set_option maxHeartbeats 1000000 in
theorem alive7_any (w : World) (hT : Tabs w) : Calls Tryd.prog 12 #[] w fun e w' => e = .returned (.bool true) ∧ Below w.heap.size w w' := by
  have HT := Lib.hid hT
  have hs1 : (⟨#[]⟩ : ByteArray).size ≤ 9223372036854775807 := by decide
  have hs2 : (⟨#[97, 58, 32, 45, 49, 50, 32, 35, 32, 120, 10, 48, 120, 49, 70]⟩ : ByteArray).size ≤ 9223372036854775807 := by decide
  have c1 := Lib.hid (split_any ⟨#[]⟩ w hs1 hT)
  have c2 := Lib.hid (fun y (hy : Tabs y) => split_any ⟨#[97, 58, 32, 45, 49, 50, 32, 35, 32, 120, 10, 48, 120, 49, 70]⟩ y hs2 hy)
  clear hT hs1 hs2
  go_enter Tryd.func12, Tryd.ntmps12
  go_wp2_with fail
  refine c1.out.mono ?_
  rintro e w1 ⟨ho, hb1⟩
  change LexOut (lexZ []) _ _ _ at ho
  rw [none_lex] at ho
  obtain ⟨v, rfl, hown⟩ := ho
  obtain ⟨A, c, rfl⟩ := (Row.of_own hown).form
  have HB1 := Lib.hid hb1
  clear hown hb1
  go_wp2_with fail
  refine (c2.out _ (HT.out.below HB1.out)).mono ?_
  rintro e w2 ⟨ho, hb2⟩
  change LexOut (lexZ aliveT) _ _ _ at ho
  rw [alive_lex] at ho
  obtain ⟨v2, rfl, hown⟩ := ho
  obtain ⟨A2, c2', rfl⟩ := (Row.of_own hown).form
  have HB2 := Lib.hid (HB1.out.trans (hb2.mono HB1.out.size))
  obtain ⟨g, off, rfl, _, _⟩ := (Row.of_own hown).at_ (show aliveK.length ≠ 0 by decide)
  obtain ⟨_, x1, _, _⟩ := (Row.of_own hown).tok (k := 2) (i := ⟨2, -12, 3, [45, 49, 50]⟩) rfl
  obtain ⟨_, x2, _, _⟩ := (Row.of_own hown).tok (k := 4) (i := ⟨2, 31, 11, [48, 120, 49, 70]⟩) rfl
  have hl : aliveK.length = 5 := rfl
  rw [hl]
  clear hown hb2 hl
  go_wp2_with (go_at_call 16; refine (num_any _ _).mono ?_; rintro e w3 ⟨rfl, rfl⟩)
  go_ret
  exact ⟨rfl, HB2.out⟩
end Go.Proofs.YtimdojeagkbgbaaDoor.Words

/- Two tokens compared. -/
namespace Go.Proofs.YtimdojeagkbgbaaDoor.Words
set_option maxRecDepth 100000
open Go.RowKit Go.Shelf Go.Lib
set_option linter.unusedVariables false
set_option linter.unusedSimpArgs false

theorem Tok.eq_iff (a b : Tok) : a = b ↔ a.kind = b.kind ∧ a.num = b.num ∧ a.at_ = b.at_ ∧ a.text = b.text := by cases a; cases b; simp
theorem txt_list (l : List UInt8) : (txt l).toList = l := by rw [Lib.toList_data]
theorem txt_beq (a b : List UInt8) : ((txt a).toList == (txt b).toList) = decide (a = b) := by
  rw [txt_list, txt_list, Bool.eq_iff_iff]; simp
theorem eqFields_tok (i k : Tok) (w : World) : (Op.equalIn 10000 33 (.agg #[.int .i64 i.kind, .int .i64 i.num, .int .i64 (i.at_ : Int), .string (txt i.text)]) (.agg #[.int .i64 k.kind, .int .i64 k.num, .int .i64 (k.at_ : Int), .string (txt k.text)])).run Tryd.prog w = .ok (decide (i = k)) w := by
  have hS : Tryd.prog.underlying 33 = some (.struct (Tryd.prog.fieldsOf 33)) := by kernel_rfl
  have hp : Tryd.prog.stoodInHeld 33 = false := by kernel_rfl
  have e := Tok.eq_iff i k
  have hb := txt_beq i.text k.text
  have hi : ((i.at_ : Int) = (k.at_ : Int)) ↔ i.at_ = k.at_ := by omega
  rw [show (10000 : Nat) = 9999 + 1 from rfl, run_equalIn_agg w 9999 33 _ _ hS hp]
  simp only [Program.fieldsOf, Tryd.underlying33]
  generalize txt i.text = X at *
  generalize txt k.text = Y at *
  go_simp
  by_cases h1 : i.kind = k.kind <;> by_cases h2 : i.num = k.num <;> by_cases h3 : i.at_ = k.at_ <;> by_cases h4 : i.text = k.text <;> simp [h1, h2, h3, h4, e, hb, hi]
theorem eql_tok (i k : Tok) (w : World) : (binOp .eql 33 (.agg #[.int .i64 i.kind, .int .i64 i.num, .int .i64 (i.at_ : Int), .string (txt i.text)]) (.agg #[.int .i64 k.kind, .int .i64 k.num, .int .i64 (k.at_ : Int), .string (txt k.text)])).run Tryd.prog w = .ok (.bool (decide (i = k))) w := by
  rw [run_eql_struct, eqFields_tok]; rfl
theorem neq_tok (i k : Tok) (w : World) : (binOp .neq 33 (.agg #[.int .i64 i.kind, .int .i64 i.num, .int .i64 (i.at_ : Int), .string (txt i.text)]) (.agg #[.int .i64 k.kind, .int .i64 k.num, .int .i64 (k.at_ : Int), .string (txt k.text)])).run Tryd.prog w = .ok (.bool (!decide (i = k))) w := by
  rw [run_neq_struct, eqFields_tok]; rfl
end Go.Proofs.YtimdojeagkbgbaaDoor.Words

/- The document's own SameTokens, of two rows of the same tokens. -/
namespace Go.Proofs.YtimdojeagkbgbaaDoor.Words
set_option maxRecDepth 100000
open Go.RowKit Go.Shelf Go.Lib
set_option linter.unusedVariables false

set_option maxHeartbeats 2000000 in
theorem sameTokens_yes (t : List Tok) (w : World) (va vb : Value) (ha : Row w w.heap.size 4 va t.length (toksL t)) (hb : Row w w.heap.size 4 vb t.length (toksL t)) :
    Calls Tryd.prog 15 #[va, vb] w fun e w' => e = .returned (.bool true) ∧ Below w.heap.size w w' := by
  obtain ⟨A1, c1, rfl⟩ := ha.form
  obtain ⟨A2, c2, rfl⟩ := hb.form
  have HA := Lib.hid ha
  have HB := Lib.hid hb
  obtain ⟨n, hn⟩ : ∃ n, n = t.length := ⟨_, rfl⟩
  have HN := Lib.hid hn
  rw [← hn]
  obtain ⟨u1, u2⟩ := ha.cap
  have u3 : (n : Int) ≤ 9223372036854775807 := by omega
  clear ha hb hn u1 u2
  go_enter Tryd.func15, Tryd.ntmps15
  go_wp2_with fail
  go_loopw [5] (fun i wr => ∃ (k : Nat), k ≤ n ∧ i = .int .i64 k ∧ Below w.heap.size w wr) (fun i _ => n - (intOf i).toNat)
  case atStart => exact ⟨0, Nat.zero_le _, rfl, Below.refl _ _⟩
  case round =>
    obtain ⟨k, hk, rfl, hBel⟩ := hrel
    have HBr := Lib.hid hBel
    have HK := Lib.hid hk
    by_cases hlt : k < n
    · have hlt2 : k < t.length := by have := HN.out; omega
      obtain ⟨x, hx⟩ : ∃ x, t[k]? = some x := ⟨_, List.getElem?_eq_getElem hlt2⟩
      obtain ⟨g1, o1, rfl, hg1, _⟩ := HA.out.at_ (by omega)
      obtain ⟨g2, o2, rfl, hg2, _⟩ := HB.out.at_ (by omega)
      obtain ⟨a0, a1, a2, a3⟩ := (HA.out.below HBr.out).tok hx
      obtain ⟨b0, b1, b2, b3⟩ := (HB.out.below HBr.out).tok hx
      have hz1 : g1 < wr.heap.size := Nat.lt_of_lt_of_le hg1 HBr.out.size
      have hz2 : g2 < wr.heap.size := Nat.lt_of_lt_of_le hg2 HBr.out.size
      have ne := fun y => neq_tok x x y
      rw [decide_eq_true rfl] at ne
      simp only [Bool.not_true] at ne
      have kq : decide ((k : Int) < n) = true := decide_eq_true (by omega)
      have kq2 : decide (k < n) = true := decide_eq_true hlt
      have k0 : (0 : Int) ≤ k := by omega
      have k1 : (k : Int) < n := by omega
      clear hk hBel
      go_wp2_with fail
      go_quiet (fail)
      go_wp2_with fail
      go_roundw
      case rel => exact ⟨k + 1, by omega, rfl, by first | exact HBr.out | exact HBr.out.drew | exact Below.drewN_ HBr.out _⟩
      case measure => simp only [intOf]; omega
    · have kq : decide ((k : Int) < n) = false := decide_eq_false (by omega)
      have kq2 : decide (k < n) = false := decide_eq_false hlt
      clear hk hBel
      go_wp2_with fail
      go_ret
      exact ⟨rfl, HBr.out⟩
end Go.Proofs.YtimdojeagkbgbaaDoor.Words

/- Contracts of package slots: copied, Reserve. -/
import Derived.Test.YtpoigbgdaiopmaaRefSlots
namespace Go.Proofs.Ytpoigbgdaiopmaa.Words
set_option maxRecDepth 100000
open Go.RowKit
set_option linter.unusedVariables false
set_option linter.unusedSimpArgs false

set_option maxHeartbeats 400000 in
theorem copied_any (A : Option Addr) (c : Nat) (l : List Slt) (w : World) (h : Row w w.heap.size 3 (.slice A l.length c) l.length (flat sltL l)) (hs : l.length ≤ 2000000) :
    Calls Try.prog 14 #[.slice A l.length c] w (SltsOut w l id) := by
  obtain ⟨i0, hi, hq0, hq1, hq2⟩ := parts_slt
  have HI := Lib.hid hi
  have HZ0 := Lib.hid hq0
  have HZ1 := Lib.hid hq1
  have HZ2 := Lib.hid hq2
  clear hi hq0 hq1 hq2
  have HR := Lib.hid h
  clear h
  generalize hn : l.length = n at *
  have HN := Lib.hid hn
  clear hn
  go_enter Try.func14, Try.ntmps14
  go_wp2_with (first
    | (refine wpList_append_new _ rfl (.const (.slice none 0 0)) (.tmp 3) 22 rfl w.heap.size 37 i0 _ 3 16 Try.underlying22 HI.out HZ0.out HZ1.out HZ2.out rfl (by omega) (.slice none 0 0) 0 [] rfl (World.ownsRow_nil _ _ _ _) _ (.slice A n c) n (flat sltL l) rfl HR.out (flat_oneC sltL_one l) (by unfold maxLen; omega) (by omega) (Nat.le_refl _) ?_; intro v2 w2 hO hg hn2; have HO2 := Lib.hid hO; have HK2 : Hid (Below w.heap.size w w2) := Below.grown (Below.refl _ _) hg (Nat.le_refl _) (fun q hq => by cases hq); clear hO hg hn2))
  go_ret
  refine ⟨_, rfl, ?_, HK2.out⟩
  have := HO2.out
  rw [Nat.zero_add, List.nil_append] at this
  rw [HN.out]; exact this

set_option maxHeartbeats 400000 in
theorem reserve_any (A : Option Addr) (c : Nat) (l : List Slt) (n tag : Int) (w : World) (h : Row w w.heap.size 3 (.slice A l.length c) l.length (flat sltL l)) (hs : l.length ≤ 1000000) :
    Calls Try.prog 7 #[.slice A l.length c, .int .i64 n, .int .i64 tag] w (SltsOut w (reserveZ l n tag) fun v => .tuple #[v, .bool (roomZ l n)]) := by
  obtain ⟨i0, hi, hq0, hq1, hq2⟩ := parts_slt
  have HI := Lib.hid hi
  have HZ0 := Lib.hid hq0
  have HZ1 := Lib.hid hq1
  have HZ2 := Lib.hid hq2
  clear hi hq0 hq1 hq2
  have HS := Lib.hid (copied_any A c l w h (by omega))
  clear h
  by_cases hl : (l.length : Int) < n
  · rw [reserve_yes tag hl, room_yes hl]
    have HL := Lib.hid hl
    go_enter Try.func7, Try.ntmps7
    go_wp2_with fail
    refine HS.out.mono ?_
    rintro e w1 ⟨v, rfl, ho, hb⟩
    obtain ⟨A1, c1, hv⟩ := (Row.of_own ho).form
    subst hv
    have HO := Lib.hid ho
    have HB := Lib.hid hb
    have HLT := Lib.hid (fun g hg => (ho.lt g hg).1)
    have hsz := hb.size
    have HOA := Lib.hid (own_below ho ((Below.refl w1.heap.size w1).alloc (Nat.le_refl _) (.cells #[.int .i64 tag, .bool false, .int .u32 0] 37)))
    have HBA := Lib.hid (hb.alloc hb.size (.cells #[.int .i64 tag, .bool false, .int .u32 0] 37))
    have HRN := Lib.hid (row_slt w1 ⟨tag, false, 0⟩)
    clear ho hb
    generalize hn : l.length = m at *
    have HN := Lib.hid hn
    clear hn
    go_wp2_with (first
      | (refine wpList_append_new _ rfl (.tmp 16) (.tmp 19) 22 rfl w.heap.size 37 i0 _ 3 16 Try.underlying22 HI.out HZ0.out HZ1.out HZ2.out rfl (by omega) (.slice A1 m c1) m (flat sltL l) rfl HOA.out _ (.slice (some ⟨w1.heap.size, 0, none⟩) 1 1) 1 (flat sltL [⟨tag, false, 0⟩]) rfl HRN.out (flat_oneC sltL_one _) (by unfold maxLen; omega) (by omega) (by simp; omega) ?_; intro v2 w2 hO hg hn2; have HO2 := Lib.hid hO; have HK2 : Hid (Below w.heap.size w w2) := Below.grown HBA.out hg HBA.out.size (fun q hq => HLT.out q hq); clear hO hg hn2))
    refine bodyPost_ret (v := .tuple #[v2, .bool true]) (by simp [results, Try.results7, go_sem]) rfl ⟨v2, rfl, ?_, HK2.out⟩
    rw [List.length_append, HN.out, flat_append]
    exact HO2.out
  · rw [reserve_no tag hl, room_no hl]
    go_enter Try.func7, Try.ntmps7
    go_wp2_with fail
    refine HS.out.mono ?_
    rintro e w1 ⟨v, rfl, ho, hb⟩
    obtain ⟨A1, c1, hv⟩ := (Row.of_own ho).form
    subst hv
    have HO := Lib.hid ho
    have HB := Lib.hid hb
    clear ho hb
    generalize hn : l.length = m at *
    have HN := Lib.hid hn
    clear hn
    go_wp2_with fail
    refine bodyPost_ret (v := .tuple #[.slice A1 m c1, .bool false]) (by simp [results, Try.results7, go_sem]) rfl ⟨_, rfl, ?_, HB.out⟩
    rw [HN.out]; exact HO.out
end Go.Proofs.Ytpoigbgdaiopmaa.Words

/- Contract of package slots: Fill. -/
import Derived.Test.YtpoigbgdaiopmaaRefFill
import Derived.Test.YtpoigbgdaiopmaaSltRes
import Derived.Test.YtpoigbgdaiopmaaOwnPut
namespace Go.Proofs.Ytpoigbgdaiopmaa.Words
set_option maxRecDepth 100000
open Go.RowKit
set_option linter.unusedVariables false
set_option linter.unusedSimpArgs false

set_option maxHeartbeats 2000000 in
theorem fillS_any (A : Option Addr) (c : Nat) (l : List Slt) (tag u : Int) (w : World) (h : Row w w.heap.size 3 (.slice A l.length c) l.length (flat sltL l)) (hs : l.length ≤ 1000000) :
    Calls Try.prog 9 #[.slice A l.length c, .int .i64 tag, .int .u32 u] w (SltsOut w (fillZ tag u l) fun v => .tuple #[v, .bool (hasZ tag l)]) := by
  have HS := Lib.hid (copied_any A c l w h (by omega))
  have HFL := Lib.hid (fill_len tag u l)
  clear h
  go_enter Try.func9, Try.ntmps9
  go_wp2_with fail
  refine HS.out.mono ?_
  rintro e w1 ⟨v, rfl, ho, hb⟩
  obtain ⟨A1, c1, hv⟩ := (Row.of_own ho).form
  subst hv
  have HO := Lib.hid ho
  have HB := Lib.hid hb
  clear ho hb
  generalize hn : l.length = m at *
  have HN := Lib.hid hn
  clear hn
  go_wp2_with fail
  go_loopw [15] (fun i wr => ∃ j : Nat, j ≤ m ∧ i = .int .i64 j ∧ Below w1.heap.size w1 wr ∧ (∀ k x, k < j → l[k]? = some x → waits tag x = false)) (fun i _ => m - (intOf i).toNat)
  case atStart => exact ⟨0, Nat.zero_le _, rfl, Below.refl _ _, fun k x hk _ => by omega⟩
  case round =>
    obtain ⟨j, hj, rfl, hbw, hP⟩ := hrel
    have HP := Lib.hid hP
    have HW := Lib.hid hbw
    have HOR := Lib.hid (own_below HO.out hbw)
    have HBR := Lib.hid (Below.trans HB.out (hbw.mono HB.out.size))
    clear hP hbw
    by_cases hlt : j < m
    · obtain ⟨x, hx⟩ : ∃ x, l[j]? = some x := ⟨_, List.getElem?_eq_getElem (by rw [HN.out]; exact hlt)⟩
      obtain ⟨g, cap, hvf, hg1, hg2⟩ := own_form HOR.out (by omega)
      injection hvf with hA _ hC
      subst hA hC
      obtain ⟨d0, d1, d2⟩ := (Row.of_own HOR.out).slt hx
      rw [Nat.zero_add] at d0 d1 d2
      have HG1 := Lib.hid hg1
      have HG2 := Lib.hid hg2
      have k0 : (0 : Int) ≤ j := by omega
      have k1 : (j : Int) < m := by omega
      have HX := Lib.hid hx
      have HWA := Lib.hid (Below.trans HW.out ((Below.refl wr.heap.size wr).alloc (Nat.le_refl _) (.cells #[.int .i64 x.tag, .bool x.full, .int .u32 x.val] 37)|>.mono HW.out.size))
      clear hx
      cases hq : waits tag x
      · have HST := Lib.hid (pass_step HP.out HX.out hq)
        by_cases ht : x.tag = tag
        · have hf : x.full = true := by unfold waits at hq; simpa [ht] using hq
          have ht1 : (x.tag == tag) = true := by simpa using ht
          rw [hf] at d1 HWA
          clear hq ht hf
          go_wp2_with fail
          go_roundw
          case rel => exact ⟨j + 1, by omega, by go_num, HWA.out, HST.out⟩
          case measure => simp [intOf]; omega
        · have ht1 : (x.tag == tag) = false := by simpa using ht
          clear hq
          go_wp2_with fail
          go_roundw
          case rel => exact ⟨j + 1, by omega, by go_num, HWA.out, HST.out⟩
          case measure => simp [intOf]; omega
      · have HFA := Lib.hid (fill_at (w := u) HP.out HX.out hq)
        unfold waits at hq
        simp only [Bool.and_eq_true, decide_eq_true_eq, Bool.not_eq_true'] at hq
        obtain ⟨ht, hf⟩ := hq
        have ht1 : (x.tag == tag) = true := by simpa using ht
        rw [hf] at d1
        have hbl : g < wr.heap.size := hg2
        have HTT := Lib.hid ht
        clear ht hf
        have HOA := Lib.hid (own_below HOR.out ((Below.refl wr.heap.size wr).alloc (Nat.le_refl _) (.cells #[.int .i64 x.tag, .bool false, .int .u32 x.val] 37)))
        have HBA := Lib.hid (HBR.out.alloc HBR.out.size (.cells #[.int .i64 x.tag, .bool false, .int .u32 x.val] 37))
        have hi3 : (Try.prog.info? 37).map (·.size) = some 3 := by kernel_rfl
        go_wp2_with (first
          | (refine wpList_store_own sltL_len (by rfl) _ _ _ rfl w.heap.size 37 g m c1 l j ⟨tag, true, u⟩ rfl rfl HOA.out HN.out hlt hi3 (sltL_one _) ?_; intro w2 ho2 hg2; have HO2 := Lib.hid ho2; have HK2 : Hid (Below w.heap.size w w2) := Below.grown HBA.out hg2 HBA.out.size (fun q hq => by injection hq with hq; rw [← hq]; exact HG1.out); clear ho2 hg2))
        refine bodyPost_ret (v := .tuple #[.slice (some ⟨g, 0, none⟩) m c1, .bool true]) (by simp [results, Try.results9, go_sem]) rfl ⟨_, by rw [HFA.out.2], ?_, HK2.out⟩
        rw [HFL.out, HFA.out.1, HTT.out]; exact HO2.out
    · have hjm : j = l.length := by rw [HN.out]; omega
      have HFN := Lib.hid (fill_none (w := u) (fun k x hk hx => HP.out k x (by omega) hx))
      clear hjm
      go_wp2_with fail
      refine bodyPost_ret (v := .tuple #[.slice A1 m c1, .bool false]) (by simp [results, Try.results9, go_sem]) rfl ⟨_, by rw [HFN.out.2], ?_, HBR.out⟩
      rw [HFL.out, HFN.out.1]; exact HOR.out
end Go.Proofs.Ytpoigbgdaiopmaa.Words

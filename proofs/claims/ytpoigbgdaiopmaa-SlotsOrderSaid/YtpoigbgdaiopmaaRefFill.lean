/- Contracts of the document's own Fill and PopSlot. -/
import Derived.Test.YtpoigbgdaiopmaaRefSlots
namespace Go.Proofs.Ytpoigbgdaiopmaa.Words
set_option maxRecDepth 100000
open Go.RowKit
set_option linter.unusedVariables false
set_option linter.unusedSimpArgs false

set_option maxHeartbeats 1000000 in
theorem refFill_any (A : Option Addr) (c : Nat) (l : List Slt) (tag u : Int) (w : World) (h : Row w w.heap.size 3 (.slice A l.length c) l.length (flat sltL l)) (hs : l.length ≤ 1000000) :
    Calls Try.prog 10 #[.slice A l.length c, .int .i64 tag, .int .u32 u] w (SltsOut w (fillZ tag u l) fun v => .tuple #[v, .bool (hasZ tag l)]) := by
  have HS := Lib.hid (refSlots_any A c l w h (by omega))
  have HFL := Lib.hid (fill_len tag u l)
  clear h
  go_enter Try.func10, Try.ntmps10
  go_wp2_with fail
  refine HS.out.mono ?_
  rintro e w1 ⟨v, rfl, ho, hb⟩
  obtain ⟨A1, c1, hv⟩ := (Row.of_own ho).form
  subst hv
  have HO := Lib.hid ho
  have HB := Lib.hid hb
  clear ho hb
  generalize hn : l.length = m at *
  have HN := Lib.hid hn
  clear hn
  go_wp2_with fail
  go_loopw [8] (fun i wr => ∃ j : Nat, j ≤ m ∧ i = .int .i64 j ∧ wr = w1 ∧ (∀ k x, k < j → l[k]? = some x → waits tag x = false)) (fun i _ => m - (intOf i).toNat)
  case atStart => exact ⟨0, Nat.zero_le _, rfl, rfl, fun k x hk _ => by omega⟩
  case round =>
    obtain ⟨j, hj, rfl, rfl, hP⟩ := hrel
    have HP := Lib.hid hP
    clear hP
    by_cases hlt : j < m
    · obtain ⟨x, hx⟩ : ∃ x, l[j]? = some x := ⟨_, List.getElem?_eq_getElem (by rw [HN.out]; exact hlt)⟩
      obtain ⟨g, cap, hvf, hg1, hg2⟩ := own_form HO.out (by omega)
      injection hvf with hA _ hC
      subst hA hC
      obtain ⟨d0, d1, d2⟩ := (Row.of_own HO.out).slt hx
      rw [Nat.zero_add] at d0 d1 d2
      have f1 := own_thaw HO.out (j * 3 + 1)
      have f2 := own_thaw HO.out (j * 3 + 2)
      have k0 : (0 : Int) ≤ j := by omega
      have k1 : (j : Int) < m := by omega
      have HX := Lib.hid hx
      clear hx
      cases hq : waits tag x
      · have HST := Lib.hid (pass_step HP.out HX.out hq)
        by_cases ht : x.tag = tag
        · have hf : x.full = true := by unfold waits at hq; simpa [ht] using hq
          have ht1 : (x.tag == tag) = true := by simpa using ht
          rw [hf] at d1
          clear hq ht hf
          go_wp2_with fail
          go_roundw
          case rel => exact ⟨j + 1, by omega, by go_num, by first | rfl | trivial, HST.out⟩
          case measure => simp [intOf]; omega
        · have ht1 : (x.tag == tag) = false := by simpa using ht
          clear hq
          go_wp2_with fail
          go_roundw
          case rel => exact ⟨j + 1, by omega, by go_num, by first | rfl | trivial, HST.out⟩
          case measure => simp [intOf]; omega
      · have HFA := Lib.hid (fill_at (w := u) HP.out HX.out hq)
        unfold waits at hq
        simp only [Bool.and_eq_true, decide_eq_true_eq, Bool.not_eq_true'] at hq
        obtain ⟨ht, hf⟩ := hq
        have ht1 : (x.tag == tag) = true := by simpa using ht
        rw [hf] at d1
        have hbl : g < wr.heap.size := hg2
        clear ht hf
        go_wp2_with fail
        have ho1 := own_setAt HO.out (j * 3 + 1) (by omega) (.bool true)
        have ho2 := own_setAt ho1 (j * 3 + 2) (by omega) (.int .u32 u)
        refine bodyPost_ret (v := .tuple #[.slice (some ⟨g, 0, none⟩) m c1, .bool true]) (by simp [results, Try.results10, go_sem]) rfl ⟨_, by rw [HFA.out.2], ?_, ?_⟩
        · rw [HFL.out, HFA.out.1]
          have e1 := flat_setG (f := sltL) sltL_len l j x ⟨x.tag, true, x.val⟩ 1 (.bool true) HX.out rfl (by omega)
          have hl := (List.getElem?_eq_some_iff.1 HX.out).1
          have e2 := flat_setG (f := sltL) sltL_len (l.set j ⟨x.tag, true, x.val⟩) j ⟨x.tag, true, x.val⟩ ⟨x.tag, true, u⟩ 2 (.int .u32 u) (by rw [List.getElem?_set_self hl]) rfl (by omega)
          rw [e1, e2, List.set_set] at ho2
          exact ho2
        · have hk := ((KeepS.refl (fun q => q = g) wr).setCell rfl (j * 3 + 1) (.bool true)).setCell rfl (j * 3 + 2) (.int .u32 u)
          exact Below.trans HB.out (hk.below HB.out.size (fun q e => by rw [e]; exact hg1))
    · have hjm : j = l.length := by rw [HN.out]; omega
      have HFN := Lib.hid (fill_none (w := u) (fun k x hk hx => HP.out k x (by omega) hx))
      clear hjm
      go_wp2_with fail
      refine bodyPost_ret (v := .tuple #[.slice A1 m c1, .bool false]) (by simp [results, Try.results10, go_sem]) rfl ⟨_, by rw [HFN.out.2], ?_, HB.out⟩
      rw [HFL.out, HFN.out.1]; exact HO.out

/-- A row of places without its first. -/
theorem row_tail3 {w : World} {B n c g o : Nat} {x : Slt} {r : List Slt} (h : Row w B 3 (.slice (some ⟨g, o, none⟩) (n + 1) c) (n + 1) (flat sltL (x :: r))) : Row w B 3 (.slice (some ⟨g, o + 3, none⟩) n (c - 1)) n (flat sltL r) := by
  obtain ⟨h1, h2⟩ := h.cap
  obtain ⟨g', o', e, hb, hc⟩ := h.at_ (by omega)
  simp only [Option.some.injEq, Addr.mk.injEq, and_true] at e
  obtain ⟨rfl, rfl⟩ := e
  have hl := h.len
  rw [flat_cons] at hl hc
  rw [List.length_append, sltL_len] at hl
  refine ⟨by omega, _, _, rfl, by omega, by omega, (fun e => by cases e), fun _ => ⟨g, o + 3, rfl, hb, fun j u hu => ?_⟩⟩
  have := hc (3 + j) u (by rw [List.getElem?_append_right (by rw [sltL_len]; omega), sltL_len, show 3 + j - 3 = j by omega]; exact hu)
  rwa [← Nat.add_assoc] at this

set_option maxHeartbeats 1000000 in
theorem refPopSlot_any (A : Option Addr) (c : Nat) (l : List Slt) (w : World) (h : Row w w.heap.size 3 (.slice A l.length c) l.length (flat sltL l)) (hs : l.length ≤ 1000000) :
    Calls Try.prog 12 #[.slice A l.length c] w (SltsOut w (popZ l) fun v => .tuple #[v, .int .u32 (popV l), .bool (canZ l)]) := by
  cases l with
  | nil =>
    have HS := Lib.hid (refSlots_any A c [] w h (by omega))
    clear h hs
    go_enter Try.func12, Try.ntmps12
    go_wp2_with fail
    refine HS.out.mono ?_
    rintro e w1 ⟨v, rfl, ho, hb⟩
    have HO := Lib.hid ho
    have HB := Lib.hid hb
    clear ho hb
    go_wp2_with fail
    exact bodyPost_ret (v := .tuple #[v, .int .u32 0, .bool false]) (by simp [results, Try.results12, go_sem]) rfl ⟨_, rfl, HO.out, HB.out⟩
  | cons x r =>
    have HS := Lib.hid (refSlots_any A c (x :: r) w h (by omega))
    have hcap := h.cap
    obtain ⟨g, o, hA, hg, _⟩ := h.at_ (by simp)
    subst hA
    obtain ⟨d0, d1, d2⟩ := h.slt (k := 0) (x := x) rfl
    rw [Nat.zero_mul, Nat.add_zero] at d0 d1 d2
    obtain ⟨n, hn⟩ : ∃ n, n = r.length := ⟨_, rfl⟩
    have hl : (x :: r).length = n + 1 := by rw [hn]; rfl
    rw [hl] at HS h hcap ⊢
    have HN := Lib.hid hn
    rw [hl] at hs
    clear hn hl
    cases hf : x.full
    · rw [show popZ (x :: r) = x :: r by simp [popZ, hf], show popV (x :: r) = 0 by simp [popV, hf], show canZ (x :: r) = false from hf]
      rw [hf] at d1
      clear h hf
      go_enter Try.func12, Try.ntmps12
      go_wp2_with fail
      refine HS.out.mono ?_
      rintro e w1 ⟨v, rfl, ho, hb⟩
      have HO := Lib.hid ho
      have HB := Lib.hid hb
      clear ho hb
      go_wp2_with fail
      exact bodyPost_ret (v := .tuple #[v, .int .u32 0, .bool false]) (by simp [results, Try.results12, go_sem]) rfl ⟨_, rfl, HO.out, HB.out⟩
    · rw [show popZ (x :: r) = r by simp [popZ, hf], show popV (x :: r) = x.val by simp [popV, hf], show canZ (x :: r) = true from hf]
      rw [hf] at d1
      have HD := Lib.hid d2
      by_cases hc : c = 1
      · subst hc
        have hn0 : n = 0 := by omega
        subst hn0
        have hr0 : r = [] := List.eq_nil_of_length_eq_zero HN.out.symm
        subst hr0
        have HT := Lib.hid (refSlots_any (some ⟨g, o, none⟩) 0 [] w.drew ⟨rfl, _, _, rfl, Nat.le_refl _, by omega, (fun _ => rfl), fun h => absurd rfl h⟩ (by simp))
        clear h hf HS
        go_enter Try.func12, Try.ntmps12
        go_wp2_with fail
        refine wp_region_lin [(0, true), (1, true), (3, true), (4, true), (5, true), (6, true), (2, false), (7, true), (8, true), (9, true)]
          (by kernel_rfl) (by kernel_rfl) rfl (by kernel_rfl) (fun X : World => X.cell? ⟨g, o + 2, none⟩ = some (.int .u32 x.val)) ?_
        simp only [List.map_cons, List.map_nil, List.getElem?_toArray, List.getElem?_cons_succ, List.getElem?_cons_zero]
        have d3 : w.drew.cell? ⟨g, o + 2, none⟩ = some (.int .u32 x.val) := HD.out
        iterate 6 (refine lin_take (v := ?_) (by assumption) (by rfl) ?_ ?_; rotate_left; (intro y hy; (try dsimp only at hy); go_simp; try (with_reducible rfl)); (try simp only [Act.put, List.setIfInBounds_toArray, List.set_cons_zero, List.set_cons_succ]))
        refine lin_call (by assumption) (by rfl) (fun K hK => ?_)
        go_simp
        refine HT.out.mono ?_
        rintro e w1 ⟨v, rfl, ho, hb⟩
        have HO := Lib.hid ho
        have HB : Hid (Below w.heap.size w w1) := Below.trans (Below.refl _ _).drew hb
        have d4 := below_cell HB.out hg HD.out
        clear ho hb
        go_wp2_with fail
        refine hK.out _ _ (by assumption) (fun _ => ?_)
        clear hK K
        try simp only [Act.put, List.setIfInBounds_toArray, List.set_cons_zero, List.set_cons_succ]
        iterate 3 (refine lin_take (v := ?_) (by assumption) (by rfl) ?_ ?_; rotate_left; (intro y hy; (try dsimp only at hy); go_simp; try (with_reducible rfl)); (try simp only [Act.put, List.setIfInBounds_toArray, List.set_cons_zero, List.set_cons_succ]))
        refine lin_done ?_
        go_wp2_with fail
        exact bodyPost_ret (v := .tuple #[v, .int .u32 x.val, .bool true]) (by simp [results, Try.results12, go_sem]) rfl ⟨_, rfl, HO.out, HB.out⟩
      · have hc1 : 1 < c := by omega
        have hc2 : (1 : Int) < c := by omega
        have hrow := row_tail3 h
        rw [HN.out] at hrow
        have HT := Lib.hid (refSlots_any (some ⟨g, o + 3, none⟩) (c - 1) r w.drew hrow (by have := HN.out; omega))
        rw [← HN.out] at HT
        clear h hf HS hrow
        go_enter Try.func12, Try.ntmps12
        go_wp2_with fail
        refine wp_region_lin [(0, true), (1, true), (3, true), (4, true), (5, true), (6, true), (2, false), (7, true), (8, true), (9, true)]
          (by kernel_rfl) (by kernel_rfl) rfl (by kernel_rfl) (fun X : World => X.cell? ⟨g, o + 2, none⟩ = some (.int .u32 x.val)) ?_
        simp only [List.map_cons, List.map_nil, List.getElem?_toArray, List.getElem?_cons_succ, List.getElem?_cons_zero]
        have d3 : w.drew.cell? ⟨g, o + 2, none⟩ = some (.int .u32 x.val) := HD.out
        refine lin_take (v := ?_) (by assumption) (by rfl) ?_ ?_; rotate_left; (intro y hy; (try dsimp only at hy); go_simp; try (with_reducible rfl)); (try simp only [Act.put, List.setIfInBounds_toArray, List.set_cons_zero, List.set_cons_succ])
        refine lin_take (v := .slice (some ⟨g, o + 3, none⟩) n (c - 1)) (by assumption) (by rfl) (fun y hy => by (try dsimp only at hy); go_simp; intro hh; omega) ?_
        (try simp only [Act.put, List.setIfInBounds_toArray, List.set_cons_zero, List.set_cons_succ])
        iterate 4 (refine lin_take (v := ?_) (by assumption) (by rfl) ?_ ?_; rotate_left; (intro y hy; (try dsimp only at hy); go_simp; try (with_reducible rfl)); (try simp only [Act.put, List.setIfInBounds_toArray, List.set_cons_zero, List.set_cons_succ]))
        refine lin_call (by assumption) (by rfl) (fun K hK => ?_)
        go_simp
        refine HT.out.mono ?_
        rintro e w1 ⟨v, rfl, ho, hb⟩
        have HO := Lib.hid ho
        have HB : Hid (Below w.heap.size w w1) := Below.trans (Below.refl _ _).drew hb
        have d4 := below_cell HB.out hg HD.out
        clear ho hb
        go_wp2_with fail
        refine hK.out _ _ (by assumption) (fun _ => ?_)
        clear hK K
        try simp only [Act.put, List.setIfInBounds_toArray, List.set_cons_zero, List.set_cons_succ]
        iterate 3 (refine lin_take (v := ?_) (by assumption) (by rfl) ?_ ?_; rotate_left; (intro y hy; (try dsimp only at hy); go_simp; try (with_reducible rfl)); (try simp only [Act.put, List.setIfInBounds_toArray, List.set_cons_zero, List.set_cons_succ]))
        refine lin_done ?_
        go_wp2_with fail
        exact bodyPost_ret (v := .tuple #[v, .int .u32 x.val, .bool true]) (by simp [results, Try.results12, go_sem]) rfl ⟨_, rfl, HO.out, HB.out⟩
end Go.Proofs.Ytpoigbgdaiopmaa.Words

/- Contracts of package slots: Pop. -/
import Derived.Test.YtpoigbgdaiopmaaRefFill
import Derived.Test.YtpoigbgdaiopmaaSltRes
namespace Go.Proofs.Ytpoigbgdaiopmaa.Words
set_option maxRecDepth 100000
open Go.RowKit
set_option linter.unusedVariables false
set_option linter.unusedSimpArgs false

set_option maxHeartbeats 1000000 in
theorem popSlot_any (A : Option Addr) (c : Nat) (l : List Slt) (w : World) (h : Row w w.heap.size 3 (.slice A l.length c) l.length (flat sltL l)) (hs : l.length ≤ 1000000) :
    Calls Try.prog 11 #[.slice A l.length c] w (SltsOut w (popZ l) fun v => .tuple #[v, .int .u32 (popV l), .bool (canZ l)]) := by
  cases l with
  | nil =>
    have HS := Lib.hid (copied_any A c [] w h (by omega))
    clear h hs
    go_enter Try.func11, Try.ntmps11
    go_wp2_with fail
    refine HS.out.mono ?_
    rintro e w1 ⟨v, rfl, ho, hb⟩
    have HO := Lib.hid ho
    have HB := Lib.hid hb
    clear ho hb
    go_wp2_with fail
    exact bodyPost_ret (v := .tuple #[v, .int .u32 0, .bool false]) (by simp [results, Try.results11, go_sem]) rfl ⟨_, rfl, HO.out, HB.out⟩
  | cons x r =>
    have HS := Lib.hid (copied_any A c (x :: r) w h (by omega))
    have hcap := h.cap
    obtain ⟨g, o, hA, hg, _⟩ := h.at_ (by simp)
    subst hA
    obtain ⟨d0, d1, d2⟩ := h.slt (k := 0) (x := x) rfl
    rw [Nat.zero_mul, Nat.add_zero] at d0 d1 d2
    obtain ⟨n, hn⟩ : ∃ n, n = r.length := ⟨_, rfl⟩
    have hl : (x :: r).length = n + 1 := by rw [hn]; rfl
    rw [hl] at HS h hcap ⊢
    have HN := Lib.hid hn
    rw [hl] at hs
    clear hn hl
    cases hf : x.full
    · rw [show popZ (x :: r) = x :: r by simp [popZ, hf], show popV (x :: r) = 0 by simp [popV, hf], show canZ (x :: r) = false from hf]
      rw [hf] at d1
      clear h hf
      go_enter Try.func11, Try.ntmps11
      go_wp2_with fail
      refine HS.out.mono ?_
      rintro e w1 ⟨v, rfl, ho, hb⟩
      have HO := Lib.hid ho
      have HB := Lib.hid hb
      clear ho hb
      go_wp2_with fail
      exact bodyPost_ret (v := .tuple #[v, .int .u32 0, .bool false]) (by simp [results, Try.results11, go_sem]) rfl ⟨_, rfl, HO.out, HB.out⟩
    · rw [show popZ (x :: r) = r by simp [popZ, hf], show popV (x :: r) = x.val by simp [popV, hf], show canZ (x :: r) = true from hf]
      rw [hf] at d1
      have HD := Lib.hid d2
      by_cases hc : c = 1
      · subst hc
        have hn0 : n = 0 := by omega
        subst hn0
        have hr0 : r = [] := List.eq_nil_of_length_eq_zero HN.out.symm
        subst hr0
        have HT := Lib.hid (copied_any (some ⟨g, o, none⟩) 0 [] w.drew ⟨rfl, _, _, rfl, Nat.le_refl _, by omega, (fun _ => rfl), fun h => absurd rfl h⟩ (by simp))
        clear h hf HS
        go_enter Try.func11, Try.ntmps11
        go_wp2_with fail
        refine wp_region_lin [(0, true), (1, true), (3, true), (4, true), (5, true), (6, true), (2, false), (7, true), (8, true), (9, true)]
          (by kernel_rfl) (by kernel_rfl) rfl (by kernel_rfl) (fun X : World => X.cell? ⟨g, o + 2, none⟩ = some (.int .u32 x.val)) ?_
        simp only [List.map_cons, List.map_nil, List.getElem?_toArray, List.getElem?_cons_succ, List.getElem?_cons_zero]
        have d3 : w.drew.cell? ⟨g, o + 2, none⟩ = some (.int .u32 x.val) := HD.out
        iterate 6 (refine lin_take (v := ?_) (by assumption) (by rfl) ?_ ?_; rotate_left; (intro y hy; (try dsimp only at hy); go_simp; try (with_reducible rfl)); (try simp only [Act.put, List.setIfInBounds_toArray, List.set_cons_zero, List.set_cons_succ]))
        refine lin_call (by assumption) (by rfl) (fun K hK => ?_)
        go_simp
        refine HT.out.mono ?_
        rintro e w1 ⟨v, rfl, ho, hb⟩
        have HO := Lib.hid ho
        have HB : Hid (Below w.heap.size w w1) := Below.trans (Below.refl _ _).drew hb
        have d4 := below_cell HB.out hg HD.out
        clear ho hb
        go_wp2_with fail
        refine hK.out _ _ (by assumption) (fun _ => ?_)
        clear hK K
        try simp only [Act.put, List.setIfInBounds_toArray, List.set_cons_zero, List.set_cons_succ]
        iterate 3 (refine lin_take (v := ?_) (by assumption) (by rfl) ?_ ?_; rotate_left; (intro y hy; (try dsimp only at hy); go_simp; try (with_reducible rfl)); (try simp only [Act.put, List.setIfInBounds_toArray, List.set_cons_zero, List.set_cons_succ]))
        refine lin_done ?_
        go_wp2_with fail
        exact bodyPost_ret (v := .tuple #[v, .int .u32 x.val, .bool true]) (by simp [results, Try.results11, go_sem]) rfl ⟨_, rfl, HO.out, HB.out⟩
      · have hc1 : 1 < c := by omega
        have hc2 : (1 : Int) < c := by omega
        have hrow := row_tail3 h
        rw [HN.out] at hrow
        have HT := Lib.hid (copied_any (some ⟨g, o + 3, none⟩) (c - 1) r w.drew hrow (by have := HN.out; omega))
        rw [← HN.out] at HT
        clear h hf HS hrow
        go_enter Try.func11, Try.ntmps11
        go_wp2_with fail
        refine wp_region_lin [(0, true), (1, true), (3, true), (4, true), (5, true), (6, true), (2, false), (7, true), (8, true), (9, true)]
          (by kernel_rfl) (by kernel_rfl) rfl (by kernel_rfl) (fun X : World => X.cell? ⟨g, o + 2, none⟩ = some (.int .u32 x.val)) ?_
        simp only [List.map_cons, List.map_nil, List.getElem?_toArray, List.getElem?_cons_succ, List.getElem?_cons_zero]
        have d3 : w.drew.cell? ⟨g, o + 2, none⟩ = some (.int .u32 x.val) := HD.out
        refine lin_take (v := ?_) (by assumption) (by rfl) ?_ ?_; rotate_left; (intro y hy; (try dsimp only at hy); go_simp; try (with_reducible rfl)); (try simp only [Act.put, List.setIfInBounds_toArray, List.set_cons_zero, List.set_cons_succ])
        refine lin_take (v := .slice (some ⟨g, o + 3, none⟩) n (c - 1)) (by assumption) (by rfl) (fun y hy => by (try dsimp only at hy); go_simp; intro hh; omega) ?_
        (try simp only [Act.put, List.setIfInBounds_toArray, List.set_cons_zero, List.set_cons_succ])
        iterate 4 (refine lin_take (v := ?_) (by assumption) (by rfl) ?_ ?_; rotate_left; (intro y hy; (try dsimp only at hy); go_simp; try (with_reducible rfl)); (try simp only [Act.put, List.setIfInBounds_toArray, List.set_cons_zero, List.set_cons_succ]))
        refine lin_call (by assumption) (by rfl) (fun K hK => ?_)
        go_simp
        refine HT.out.mono ?_
        rintro e w1 ⟨v, rfl, ho, hb⟩
        have HO := Lib.hid ho
        have HB : Hid (Below w.heap.size w w1) := Below.trans (Below.refl _ _).drew hb
        have d4 := below_cell HB.out hg HD.out
        clear ho hb
        go_wp2_with fail
        refine hK.out _ _ (by assumption) (fun _ => ?_)
        clear hK K
        try simp only [Act.put, List.setIfInBounds_toArray, List.set_cons_zero, List.set_cons_succ]
        iterate 3 (refine lin_take (v := ?_) (by assumption) (by rfl) ?_ ?_; rotate_left; (intro y hy; (try dsimp only at hy); go_simp; try (with_reducible rfl)); (try simp only [Act.put, List.setIfInBounds_toArray, List.set_cons_zero, List.set_cons_succ]))
        refine lin_done ?_
        go_wp2_with fail
        exact bodyPost_ret (v := .tuple #[v, .int .u32 x.val, .bool true]) (by simp [results, Try.results11, go_sem]) rfl ⟨_, rfl, HO.out, HB.out⟩
end Go.Proofs.Ytpoigbgdaiopmaa.Words

/- The walk of law 10's BlocksStraight. -/
import Derived.Test.YtajiifplkfjnjaaBlkAlive
import Derived.Test.YtajiifplkfjnjaaBlkStrMath
import Derived.OneCell
namespace Go.Proofs.Ytajiifplkfjnjaa.Words
set_option maxRecDepth 100000
open Go.RowKit
set_option linter.unusedVariables false

theorem info_insS : (Try.prog.info? 41).map (fun i => (i.zero, i.size, i.bytes)) = some (some (.agg #[.int .i64 0, .int .i64 0, .int .i64 0, .int .i64 0, .int .i64 0]), 5, 40) := by kernel_rfl
theorem insCells_oneS (i : Ins) : ∀ u ∈ insCells i, u.oneCell' = true := by
  intro u hu
  simp only [insCells, List.mem_cons, List.not_mem_nil, or_false] at hu
  rcases hu with rfl | rfl | rfl | rfl | rfl <;> rfl

/-- A program's variable whose code grows. -/
structure RoundS (y wr : World) (Q : Nat) (j : Nat) (l : List Ins) (v : Value) : Prop where
  kept : Kept y wr
  big : Q < wr.heap.size
  b0 : wr.cell? ⟨Q, 0, none⟩ = some v
  b1 : wr.cell? ⟨Q, 1, none⟩ = some (.int .i64 0)
  b2 : wr.cell? ⟨Q, 2, none⟩ = some (.slice none 0 0)
  free : wr.frozen? ⟨Q, 0, none⟩ = false
  own : wr.ownsRow (Q + 1) 41 5 v j (codeCells l)

set_option maxHeartbeats 4000000 in
theorem blocksStraight_walk (a0 : Int) (hb : Bool) (w : World) (w0 : -9223372036854775808 ≤ a0 ∧ a0 ≤ 9223372036854775807) :
    Calls Try.prog 5 #[.int .i64 a0, .bool hb] w fun e w' => e = .returned (.bool true) ∧ Below w.heap.size w w' := by
  obtain ⟨i1, hi', hz0', hz1', hz2'⟩ := info_parts info_insS
  have HZ2' := Lib.hid hz2'
  clear hz2'
  go_enter Try.func5, Try.ntmps5
  go_wp2_with fail
  refine (alive10_any _).mono ?_; rintro e w1 ⟨rfl, hb1⟩
  have k1 : Kept w w1 := hb1
  clear hb1
  by_cases n1 : a0 < 1
  · go_wp2_with fail
    go_ret
    exact ⟨rfl, k1⟩
  by_cases n2 : 100 < a0
  · go_wp2_with fail
    go_ret
    exact ⟨rfl, k1⟩
  obtain ⟨N, rfl⟩ : ∃ N : Nat, a0 = N := ⟨a0.toNat, by omega⟩
  have h1 : 1 ≤ N := by omega
  have h2 : N ≤ 100 := by omega
  have n1 : ¬ (N : Int) < 1 := by omega
  have n2 : ¬ (100 : Int) < N := by omega
  have hd1 : decide (N < 1) = false := by simp; omega
  have hd2 : decide (100 < N) = false := by simp; omega
  go_wp2_with fail
  have hP : RoundS w1 (w1.alloc (.cells #[.slice none 0 0, .int .i64 0, .slice none 0 0] 25)) w1.heap.size 0 (addTo 0) (.slice none 0 0) :=
    ⟨(Kept.refl w1).alloc _, by simp, by go_simp, by go_simp, by go_simp, by go_simp, World.ownsRow_nil _ _ _ _⟩
  have HS := Lib.hid (fun j => addTo_succ j)
  generalize w1.alloc (.cells #[.slice none 0 0, .int .i64 0, .slice none 0 0] 25) = W at *
  obtain ⟨Q, hQ⟩ : ∃ Q, Q = w1.heap.size := ⟨_, rfl⟩
  rw [← hQ] at hP ⊢
  have HQ := Lib.hid hQ
  clear hQ
  go_loopw [7] (fun i wr => ∃ (j : Nat) (v : Value), j ≤ N ∧ i = .int .i64 j ∧ RoundS w1 wr Q j (addTo j) v) (fun i _ => N - (intOf i).toNat)
  case atStart => exact ⟨0, _, Nat.zero_le _, rfl, hP⟩
  case round =>
    obtain ⟨j, v, hj, rfl, hK⟩ := hrel
    have hk := hK.kept
    have hbig := hK.big
    have b0 := hK.b0
    have b1 := hK.b1
    have b2 := hK.b2
    have bf := hK.free
    have hO := hK.own
    clear hK hP
    by_cases hlt : j < N
    · have j0 : (0 : Int) ≤ j := by omega
      have j1 : (j : Int) < N := by omega
      go_wp2_with (at_builtin; refine wpList_append_own _ rfl (.tmp 28) (.tmp 31) 22 rfl (Q + 1) 41 i1 (.agg #[.int .i64 0, .int .i64 0, .int .i64 0, .int .i64 0, .int .i64 0]) 5 40 Try.underlying22 hi' hz0' hz1' HZ2'.out rfl (by omega) v j (codeCells (addTo j)) rfl (hO.alloc _) ⟨wr.heap.size, 0, none⟩ 1 1 (insCells ⟨17, 1, 1, 0, (j : Nat)⟩) rfl rfl (new_cells wr #[.int .i64 17, .int .i64 1, .int .i64 1, .int .i64 0, .int .i64 (j : Int)] _ _ rfl) (insCells_oneS _) (by unfold maxLen; omega) (by omega) (by simp; omega) ?_; intro v2 x3 hO3 hg3 _; obtain ⟨A2, cv2, rfl⟩ := (Row.of_own hO3).form; have hB3 := Below.grown (Below.refl (Q + 1) _) hg3 (by simp; omega) (fun k hk => (hO.lt k hk).1); have d0 := below_cell hB3 (Nat.lt_succ_self _) (one_cell hbig b0); have d1 := below_cell hB3 (Nat.lt_succ_self _) (one_cell hbig b1); have d2 := below_cell hB3 (Nat.lt_succ_self _) (one_cell hbig b2); have df := below_frozen hB3 (Nat.lt_succ_self _) (one_frozen hbig bf))
      have hk3 : Kept w1 x3 := Below.trans (hk.alloc _) (hB3.mono (by have := HQ.out; omega))
      have hs3 : Q < x3.heap.size := by have := hB3.size; simp at this; omega
      go_roundw
      case rel =>
        refine ⟨j + 1, .slice A2 (j + 1) cv2, by omega, by go_num, ⟨Below.setCell hk3 (Nat.le_of_eq HQ.out.symm) _, by simpa using hs3, by go_simp, by go_simp, by go_simp, by go_simp, ?_⟩⟩
        rw [HS.out, codeCells_append, codeCells_cons, codeCells_nil, List.append_nil]
        exact ownsRow_setCell_below hO3 (Nat.lt_succ_self _) _
      case measure => simp [intOf]; omega
    · have hjn : j = N := by omega
      subst hjn
      clear n1 n2 HS
      cases hb
      · have hO5 : wr.ownsRow (Q + 1) 41 5 v j (codeCells (strCode j false)) := hO
        have hk5 := hk
        clear hO
        obtain ⟨A5, c5, rfl⟩ := (Row.of_own hO5).form
        have hle := strCode_len j false
        have HBC := Lib.hid (blkCut_any A5 c5 0 none 0 0 (strCode j false) wr (by rw [(show (strCode j false).length = j by rw [strCode_len]; rfl)]; exact Row.of_own hO5) (by omega) (by omega))
        have HCUT := Lib.hid (strCode_cut (n := j) (b := false) h1 h2)
        rw [(show (strCode j false).length = j by rw [strCode_len]; rfl)] at HBC HCUT
        go_wp2_with fail
        refine HBC.out.mono ?_; rintro e x6 ⟨v6, rfl, own6, hb6⟩
        rw [HCUT.out] at own6
        obtain ⟨g, cp, rfl, _, hgz⟩ := own_form own6 (by simp)
        have R6 := Lib.hid (Row.of_own own6)
        have u0 : x6.cell? ⟨g, 0, none⟩ = some (.int .i64 0) := by
          have := R6.out.flat_cell blkL_len (k := 0) (j := 0) rfl (by omega) rfl
          simpa using this
        have u1 : x6.cell? ⟨g, 1, none⟩ = some (.int .i64 (j : Int)) := by
          have := R6.out.flat_cell blkL_len (k := 0) (j := 1) rfl (by omega) rfl
          simpa using this
        have u2 : x6.cell? ⟨g, 2, none⟩ = some (.int .i64 (-1)) := by
          have := R6.out.flat_cell blkL_len (k := 0) (j := 2) rfl (by omega) rfl
          simpa using this
        have u3 : x6.cell? ⟨g, 3, none⟩ = some (.int .i64 (-1)) := by
          have := R6.out.flat_cell blkL_len (k := 0) (j := 3) rfl (by omega) rfl
          simpa using this
        have c0 := below_cell hb6 hbig b0
        have k6 := hk5.to hb6
        clear R6 own6
        try dsimp only [List.length_cons, List.length_nil]
        go_wp2_with fail
        go_quiet (fail)
        go_wp2_with fail
        go_ret
        exact ⟨rfl, k1.trans (k6.drewN _)⟩
      · go_wp2_with (at_builtin; refine wpList_append_own _ rfl (.tmp 36) (.tmp 38) 22 rfl (Q + 1) 41 i1 (.agg #[.int .i64 0, .int .i64 0, .int .i64 0, .int .i64 0, .int .i64 0]) 5 40 Try.underlying22 hi' hz0' hz1' HZ2'.out rfl (by omega) v j (codeCells (addTo j)) rfl (hO.alloc _) ⟨wr.heap.size, 0, none⟩ 1 1 (insCells ⟨41, 0, 0, 0, 0⟩) rfl rfl (new_cells wr #[.int .i64 41, .int .i64 0, .int .i64 0, .int .i64 0, .int .i64 0] _ _ rfl) (insCells_oneS _) (by unfold maxLen; omega) (by omega) (by simp; omega) ?_; intro v2 x3 hO3 hg3 _; obtain ⟨A2, cv2, rfl⟩ := (Row.of_own hO3).form; have hB3 := Below.grown (Below.refl (Q + 1) _) hg3 (by simp; omega) (fun k hk => (hO.lt k hk).1); have d0 := below_cell hB3 (Nat.lt_succ_self _) (one_cell hbig b0); have d1 := below_cell hB3 (Nat.lt_succ_self _) (one_cell hbig b1); have d2 := below_cell hB3 (Nat.lt_succ_self _) (one_cell hbig b2); have df := below_frozen hB3 (Nat.lt_succ_self _) (one_frozen hbig bf))
        have hk3 : Kept w1 x3 := Below.trans (hk.alloc _) (hB3.mono (by have := HQ.out; omega))
        have hs3 : Q < x3.heap.size := by have := hB3.size; simp at this; omega
        have hX5 : (x3.setCell ⟨Q, 0, none⟩ (.slice A2 (j + 1) cv2)).ownsRow (Q + 1) _ _ _ _ _ := ownsRow_setCell_below hO3 (Nat.lt_succ_self Q) (.slice A2 (j + 1) cv2)
        have hkX : Kept w1 (x3.setCell ⟨Q, 0, none⟩ (.slice A2 (j + 1) cv2)) := Below.setCell hk3 (Nat.le_of_eq HQ.out.symm) _
        have b0X : (x3.setCell ⟨Q, 0, none⟩ (.slice A2 (j + 1) cv2)).cell? ⟨Q, 0, none⟩ = some (.slice A2 (j + 1) cv2) := by go_simp
        have hbX : Q < (x3.setCell ⟨Q, 0, none⟩ (.slice A2 (j + 1) cv2)).heap.size := by simpa using hs3
        clear d0 d1 d2 df hO b0 b1 b2 bf hbig hB3 hk hk3 hs3
        generalize x3.setCell ⟨Q, 0, none⟩ (.slice A2 (j + 1) cv2) = X at *
        have hO5 : X.ownsRow (Q + 1) 41 5 (.slice A2 (j + 1) cv2) (j + 1) (codeCells (strCode j true)) := by
          rw [show strCode j true = addTo j ++ [⟨41, 0, 0, 0, 0⟩] from rfl, codeCells_append, codeCells_cons, codeCells_nil, List.append_nil]
          exact hX5
        have hk5 := hkX
        clear hX5 hO3
        have hle := strCode_len j true
        have HBC := Lib.hid (blkCut_any A2 cv2 0 none 0 0 (strCode j true) X (by rw [(show (strCode j true).length = j + 1 by rw [strCode_len]; rfl)]; exact Row.of_own hO5) (by omega) (by omega))
        have HCUT := Lib.hid (strCode_cut (n := j) (b := true) h1 h2)
        rw [(show (strCode j true).length = j + 1 by rw [strCode_len]; rfl)] at HBC HCUT
        refine HBC.out.mono ?_; rintro e x6 ⟨v6, rfl, own6, hb6⟩
        rw [HCUT.out] at own6
        obtain ⟨g, cp, rfl, _, hgz⟩ := own_form own6 (by simp)
        have R6 := Lib.hid (Row.of_own own6)
        have u0 : x6.cell? ⟨g, 0, none⟩ = some (.int .i64 0) := by
          have := R6.out.flat_cell blkL_len (k := 0) (j := 0) rfl (by omega) rfl
          simpa using this
        have u1 : x6.cell? ⟨g, 1, none⟩ = some (.int .i64 ((j : Int) + 1 : Int)) := by
          have := R6.out.flat_cell blkL_len (k := 0) (j := 1) rfl (by omega) rfl
          simpa using this
        have u2 : x6.cell? ⟨g, 2, none⟩ = some (.int .i64 (-1)) := by
          have := R6.out.flat_cell blkL_len (k := 0) (j := 2) rfl (by omega) rfl
          simpa using this
        have u3 : x6.cell? ⟨g, 3, none⟩ = some (.int .i64 (-1)) := by
          have := R6.out.flat_cell blkL_len (k := 0) (j := 3) rfl (by omega) rfl
          simpa using this
        have c0 := below_cell hb6 hbX b0X
        have k6 := hk5.to hb6
        clear R6 own6
        try dsimp only [List.length_cons, List.length_nil]
        go_wp2_with fail
        go_quiet (fail)
        go_wp2_with fail
        go_ret
        exact ⟨rfl, k1.trans (k6.drewN _)⟩
end Go.Proofs.Ytajiifplkfjnjaa.Words

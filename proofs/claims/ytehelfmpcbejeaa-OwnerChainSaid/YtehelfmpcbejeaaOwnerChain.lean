/- The walk of law 11's OwnerChain. -/
import Derived.Test.YtehelfmpcbejeaaOnrAlive
import Derived.Test.YtehelfmpcbejeaaOnrMath2
import Derived.OneCell
namespace Go.Proofs.Ytehelfmpcbejeaa.Words
set_option maxRecDepth 100000
open Go.RowKit
set_option linter.unusedVariables false
set_option linter.unusedSimpArgs false

theorem info_insC : (Try.prog.info? 28).map (fun i => (i.zero, i.size, i.bytes)) = some (some (.agg #[.int .i64 0, .int .i64 0, .int .i64 0, .int .i64 0, .int .i64 0]), 5, 40) := by kernel_rfl
theorem insCells_oneC (i : Ins) : ∀ u ∈ insCells i, u.oneCell' = true := by
  intro u hu
  simp only [insCells, List.mem_cons, List.not_mem_nil, or_false] at hu
  rcases hu with rfl | rfl | rfl | rfl | rfl <;> rfl
def preC (k : Nat) : List Ins := (List.range k).map fun j : Nat => ⟨1, (j : Int) + 2, (j : Int) + 1, (j : Int) + 1, 0⟩
theorem preC_len (k : Nat) : (preC k).length = k := by simp [preC]
theorem preC_succ {j : Nat} (h : 1 ≤ j) : preC (j - 1) ++ [⟨1, (j : Int) + 1, j, j, 0⟩] = preC (j + 1 - 1) := by
  obtain ⟨k, rfl⟩ : ∃ k, j = k + 1 := ⟨j - 1, by omega⟩
  rw [show k + 1 - 1 = k from rfl, show k + 1 + 1 - 1 = k + 1 from rfl]
  unfold preC
  rw [List.range_succ, List.map_append]
  simp
  omega
theorem chain_code (n : Nat) (load : Bool) : chainCode n load = (preC (n - 1) ++ [⟨1, 15, 14, n, 0⟩]) ++ [if load = true then ⟨26, 14, n, 0, 0⟩ else ⟨31, 0, n, 14, 0⟩] := rfl
set_option maxHeartbeats 1000000 in
theorem chain_right : ∀ n : Fin 13, ∀ load : Bool, rightZ (chainCode (n.val + 1) load) 0 0 = true := by decide +kernel
theorem chain_of {n : Nat} (h1 : 1 ≤ n) (h2 : n ≤ 13) (load : Bool) : ofZ (chainCode n load) 0 0 = leastO (chainCode n load) := by
  have := chain_right ⟨n - 1, by omega⟩ load
  rw [show n - 1 + 1 = n from by omega] at this
  unfold ofZ; rw [if_pos this]
theorem chain_at {n : Nat} (h1 : 1 ≤ n) (h2 : n ≤ 13) (load : Bool) (k : Nat) (hk1 : 1 ≤ k) (hk : k ≤ 15) : atO (leastO (chainCode n load)) k = if k ≤ n then 1 else 2 := by
  have := (chain_all ⟨n - 1, by omega⟩ load).2 ⟨k - 1, by omega⟩
  rw [show ((k - 1 : Nat) : Int) + 1 = k from by omega, show n - 1 + 1 = n from by omega, show k - 1 + 1 = k from by omega] at this
  exact this
theorem chain_right_all {n : Nat} (h1 : 1 ≤ n) (h2 : n ≤ 13) (load : Bool) : ∀ i ∈ chainCode n load, rightB i = true := by
  have := (chain_all ⟨n - 1, by omega⟩ load).1
  rw [show n - 1 + 1 = n from by omega] at this
  exact List.all_eq_true.1 this
/-- A program's variable whose code grows. -/
structure ChS (y wr : World) (Q : Nat) (l : List Ins) (v : Value) : Prop where
  kept : Kept y wr
  box : Box wr Q [v, .int .i64 0, .slice none 0 0]
  own : wr.ownsRow (Q + 1) 28 5 v l.length (codeCells l)
  hQ : y.heap.size ≤ Q
theorem ChS.next {y wr x : World} {Q n : Nat} {l : List Ins} {v v2 : Value} (h : ChS y wr Q l v) (i : Ins) (hn : l.length = n) {ob : Obj} (hO : x.ownsRow (Q + 1) 28 5 v2 (n + 1) (codeCells l ++ insCells i)) (hg : (wr.alloc ob).grownBy x v.ownBlock) :
    ChS y (x.setCell ⟨Q, 0, none⟩ v2) Q (l ++ [i]) v2 ∧ Box x Q [v, .int .i64 0, .slice none 0 0] := by
  subst hn
  have hb := h.box.lt
  have hge : ∀ k, v.ownBlock = some k → Q + 1 ≤ k := fun k hk => (h.own.lt k hk).1
  have bx : Box x Q [v, .int .i64 0, .slice none 0 0] := (h.box.alloc ob).grown hg (fun e => by have := hge Q e.symm; omega)
  refine ⟨⟨?_, bx.setCell 0 v2, ?_, h.hQ⟩, bx⟩
  · exact Below.setCell ((h.kept.alloc ob).grown hg (by have := (h.kept.alloc ob).size; exact this) (fun k hk => by have := hge k hk; have := h.hQ; omega)) h.hQ _
  · have e : codeCells (l ++ [i]) = codeCells l ++ insCells i := by rw [codeCells_append, codeCells_cons, codeCells_nil, List.append_nil]
    rw [e, List.length_append]
    exact ownsRow_setCell_below hO (Nat.lt_succ_self _) _

set_option maxHeartbeats 8000000 in
theorem ownerChain_walk (n : Int) (load : Bool) (w : World) (f0 : -9223372036854775808 ≤ n ∧ n ≤ 9223372036854775807) :
    Calls Try.prog 6 #[.int .i64 n, .bool load] w fun e w' => e = .returned (.bool true) ∧ Below w.heap.size w w' := by
  obtain ⟨i1, hi', hz0', hz1', hz2'⟩ := info_parts info_insC
  have HZ2' := Lib.hid hz2'
  clear hz2'
  go_enter Try.func6, Try.ntmps6
  go_wp2_with fail
  refine (alive11_any _).mono ?_; rintro e w1 ⟨rfl, hb1⟩
  have HK1 := Lib.hid hb1
  clear hb1
  by_cases n1 : n < 1
  · go_wp2_with fail
    go_ret
    exact ⟨rfl, HK1.out⟩
  by_cases n2 : 13 < n
  · go_wp2_with fail
    go_ret
    exact ⟨rfl, HK1.out⟩
  obtain ⟨N, rfl⟩ : ∃ N : Nat, n = N := ⟨n.toNat, by omega⟩
  have h1 : 1 ≤ N := by omega
  have h2 : N ≤ 13 := by omega
  have n1 : ¬ (N : Int) < 1 := by omega
  have n2 : ¬ (13 : Int) < N := by omega
  have hd1 : decide (N < 1) = false := by simp; omega
  have hd2 : decide (13 < N) = false := by simp; omega
  have HLE := Lib.hid (chain_of h1 h2 load)
  have HAT := Lib.hid (chain_at h1 h2 load)
  have HOK := Lib.hid (least_ok _ (chain_right_all h1 h2 load))
  go_wp2_with fail
  have H0 : Hid (ChS w1 (w1.alloc (.cells #[.slice none 0 0, .int .i64 0, .slice none 0 0] 25)) w1.heap.size (preC 0) (.slice none 0 0)) :=
    ⟨(Kept.refl w1).alloc _, Box.new w1 [.slice none 0 0, .int .i64 0, .slice none 0 0] _, World.ownsRow_nil _ _ _ _, Nat.le_refl _⟩
  generalize w1.alloc (.cells #[.slice none 0 0, .int .i64 0, .slice none 0 0] 25) = W at *
  obtain ⟨Q, hQ⟩ : ∃ Q, Q = w1.heap.size := ⟨_, rfl⟩
  rw [← hQ] at H0 ⊢
  clear hQ
  go_loopw [7] (fun i wr => ∃ (j : Nat) (v : Value), 1 ≤ j ∧ j ≤ N ∧ i = .int .i64 j ∧ ChS w1 wr Q (preC (j - 1)) v) (fun i _ => N - (intOf i).toNat)
  case atStart => exact ⟨1, _, Nat.le_refl _, h1, rfl, H0.out⟩
  case round =>
    obtain ⟨j, v, hj1, hj, rfl, hC⟩ := hrel
    have HC := Lib.hid hC
    have b0 := hC.box.cell (k := 0) rfl
    have bf := hC.box.frozen 0
    have hO := hC.own
    have HPS := Lib.hid (preC_succ hj1)
    obtain ⟨M, hM⟩ : ∃ M, M = j - 1 := ⟨_, rfl⟩
    rw [← hM] at HC hO HPS
    have HLEN := Lib.hid (preC_len M)
    rw [preC_len] at hO
    have HM := Lib.hid hM.symm
    have hM13 : M ≤ 12 := by omega
    clear hM
    have hbig := hC.box.lt
    clear hC H0
    by_cases hlt : j < N
    · have j0 : (0 : Int) ≤ j := by omega
      have j1 : (j : Int) < N := by omega
      have j2 : (N : Int) ≤ 13 := by omega
      go_wp2_with (at_builtin; refine wpList_append_own _ rfl (.tmp 29) (.tmp 35) 22 rfl (Q + 1) 28 i1 (.agg #[.int .i64 0, .int .i64 0, .int .i64 0, .int .i64 0, .int .i64 0]) 5 40 Try.underlying22 hi' hz0' hz1' HZ2'.out rfl (by omega) v M (codeCells (preC M)) rfl (hO.alloc _) ⟨wr.heap.size, 0, none⟩ 1 1 (insCells ⟨1, (j : Int) + 1, j, j, 0⟩) rfl rfl (new_cells wr #[.int .i64 1, .int .i64 ((j : Int) + 1), .int .i64 (j : Int), .int .i64 (j : Int), .int .i64 0] _ _ rfl) (insCells_oneC _) (by unfold maxLen; omega) (by omega) (by simp; omega) ?_; intro v2 x3 hO3 hg3 _; have HN := Lib.hid (HC.out.next ⟨1, (j : Int) + 1, j, j, 0⟩ HLEN.out hO3 hg3); obtain ⟨A2, cv2, rfl⟩ := (Row.of_own hO3).form; have d0 := HN.out.2.cell (k := 0) rfl; have df := HN.out.2.frozen 0; have dl := HN.out.2.lt; clear hO3 hg3)
      go_roundw
      case rel => exact ⟨j + 1, _, by omega, by omega, by go_num, by rw [← HPS.out]; exact HN.out.1⟩
      case measure => simp only [intOf]; omega
    · have hjn : j = N := by omega
      subst hjn
      have HLEN2 := Lib.hid (show (preC M ++ ([⟨1, 15, 14, (j : Int), 0⟩] : List Ins)).length = M + 1 by rw [List.length_append, HLEN.out]; rfl)
      clear n1 n2
      have g1 : ¬ (j : Int) < j := by omega
      cases load
      · have HCC := Lib.hid (show chainCode j false = (preC M ++ [⟨1, 15, 14, j, 0⟩]) ++ [⟨31, 0, j, 14, 0⟩] by rw [chain_code, HM.out]; rfl)
        go_wp2_with (first
          | (at_builtin; refine wpList_append_own _ rfl (.tmp 39) (.tmp 42) 22 rfl (Q + 1) 28 i1 (.agg #[.int .i64 0, .int .i64 0, .int .i64 0, .int .i64 0, .int .i64 0]) 5 40 Try.underlying22 hi' hz0' hz1' HZ2'.out rfl (by omega) _ M (codeCells (preC M)) rfl (hO.alloc _) ⟨_, 0, none⟩ 1 1 (insCells ⟨1, 15, 14, j, 0⟩) rfl rfl (new_cells _ #[.int .i64 1, .int .i64 15, .int .i64 14, .int .i64 (j : Int), .int .i64 0] _ _ rfl) (insCells_oneC _) (by unfold maxLen; omega) (by omega) (by have := HC.out.box.lt; simp at this ⊢; omega) ?_; intro v3 x3 hO3 hg3 _; have HN3 := Lib.hid (HC.out.next ⟨1, 15, 14, j, 0⟩ HLEN.out hO3 hg3); obtain ⟨A3, cv3, rfl⟩ := (Row.of_own hO3).form; have d3 := HN3.out.2.cell (k := 0) rfl; have df3 := HN3.out.2.frozen 0; have dl3 := HN3.out.2.lt; clear hO3 hg3; have HZX : Hid ((x3.setCell ⟨Q, 0, none⟩ (.slice A3 (M + 1) cv3)).heap.size = x3.heap.size) := (by show _ = _; simp [World.setCell]); have HC4 := Lib.hid HN3.out.1; have hO4 := HC4.out.own; rw [HLEN2.out] at hO4; have e4 := HC4.out.box.cell (k := 0) rfl; have ef4 := HC4.out.box.frozen 0; have el4 := HC4.out.box.lt)
          | (at_builtin; refine wpList_append_own _ rfl (.tmp 54) (.tmp 57) 22 rfl (Q + 1) 28 i1 (.agg #[.int .i64 0, .int .i64 0, .int .i64 0, .int .i64 0, .int .i64 0]) 5 40 Try.underlying22 hi' hz0' hz1' HZ2'.out rfl (by omega) _ (M + 1) (codeCells (preC M ++ [⟨1, 15, 14, j, 0⟩])) rfl (hO4.alloc _) ⟨_, 0, none⟩ 1 1 (insCells ⟨31, 0, j, 14, 0⟩) rfl rfl (by rw [← HZX.out]; exact new_cells _ #[.int .i64 31, .int .i64 0, .int .i64 (j : Int), .int .i64 14, .int .i64 0] _ _ rfl) (insCells_oneC _) (by unfold maxLen; omega) (by omega) (by have := HC4.out.box.lt; simp at this ⊢; omega) ?_; intro v5 x5 hO5 hg5 _; have HN5 := Lib.hid (HC4.out.next ⟨31, 0, j, 14, 0⟩ HLEN2.out hO5 hg5); obtain ⟨A5, cv5, rfl⟩ := (Row.of_own hO5).form; have d5 := HN5.out.2.cell (k := 0) rfl; have df5 := HN5.out.2.frozen 0; have dl5 := HN5.out.2.lt; clear hO5 hg5; have HC6 := Lib.hid HN5.out.1; have e6 := HC6.out.box.cell (k := 0) rfl; have e61 := HC6.out.box.cell (k := 1) rfl; have e62 := HC6.out.box.cell (k := 2) rfl))
        have hlen : (chainCode j false).length = M + 1 + 1 := by rw [HCC.out, List.length_append, HLEN2.out]; rfl
        have hof := of_any' A5 cv5 0 none 0 0 (chainCode j false) (x5.setCell ⟨Q, 0, none⟩ (.slice A5 (M + 1 + 1) cv5)) (by have := Row.of_own HC6.out.own; rw [← HCC.out] at this; rw [hlen] at this ⊢; exact this) (by omega) (by omega)
        rw [hlen, HLE.out] at hof
        have HKX := Lib.hid HC6.out.kept
        have HOF := Lib.hid hof
        clear hof hlen e6 e61 e62 HN5 HC6 HC4 hO4 e4 ef4 el4 HN3 d3 df3 dl3 d5 df5 dl5 hO b0 bf HCC HC
        generalize x5.setCell ⟨Q, 0, none⟩ (.slice A5 (M + 1 + 1) cv5) = X at *
        refine HOF.out.mono ?_; rintro e w7 ⟨rfl, hb7⟩
        have k7 : Kept w1 w7 := HKX.out.to hb7
        clear hb7
        generalize leastO (chainCode j false) = LO at *
        have HNBO := Lib.hid (Box.new w7 (oV zeroO) 26)
        have HMBO : Hid (Below w7.heap.size w7 (w7.alloc (.cells (oV zeroO).toArray 26))) := (Below.refl _ _).alloc (Nat.le_refl _) _
        obtain ⟨BO, hBO⟩ : ∃ BO, BO = w7.heap.size := ⟨_, rfl⟩
        have HEBO := Lib.hid hBO
        clear hBO
        have HLBO : Hid ((oV LO).length = 16) := (oV_len _).trans HOK.out.1
        go_wp2_with (first
          | (refine wpList_store_box rfl 26 (.tmp 8) (.tmp 61) rfl w7.heap.size 0 (oV LO) rfl rfl (oV zeroO) HNBO.out (by rw [HLBO.out]; decide) 16 (by kernel_rfl) HLBO.out (oV_one _) ?_; intro w8 B4 hg4; rw [splice_whole _ _ (by rw [HLBO.out]; rfl)] at B4; have HO := Lib.hid B4; have hk4 : Below w7.heap.size w7 w8 := HMBO.out.grown hg4 (by simp) (fun i hi => by injection hi with hi; omega); have k8 := Kept.to k7 hk4; clear B4 hg4 hk4; rw [← HEBO.out] at HO ⊢))
        have HKZ := Lib.hid (HK1.out.trans (Below.mono k8 HK1.out.size))
        clear k7 k8
        go_loopw [9] (fun ii wz => ∃ k : Nat, 1 ≤ k ∧ k ≤ 16 ∧ ii = .int .i64 k ∧ wz = w8) (fun ii _ => 16 - (intOf ii).toNat)
        case atStart => exact ⟨1, by omega, by omega, rfl, rfl⟩
        case round =>
          obtain ⟨k, hk1, hk2, rfl, rfl⟩ := hrel
          by_cases hlt : k < 16
          · have hle := HAT.out k hk1 (by omega)
            have f1 := HO.out.cell (oV_at HOK.out.1 (n := k) (by omega))
            rw [hle] at f1
            have g0 : (0 : Int) ≤ k := by omega
            have g1 : (k : Int) < 16 := by omega
            clear hle
            by_cases hkj : k ≤ j
            · rw [if_pos hkj] at f1
              have g3 : (k : Int) ≤ j := by omega
              go_wp2_with fail
              go_roundw
              case rel => exact ⟨k + 1, by omega, by omega, by go_num, by first | rfl | trivial⟩
              case measure => simp only [intOf]; omega
            · rw [if_neg hkj] at f1
              have g3 : ¬ (k : Int) ≤ j := by omega
              go_wp2_with fail
              go_roundw
              case rel => exact ⟨k + 1, by omega, by omega, by go_num, by first | rfl | trivial⟩
              case measure => simp only [intOf]; omega
          · have g1 : ¬ (k : Int) < 16 := by omega
            go_wp2_with fail
            go_ret
            exact ⟨rfl, HKZ.out⟩
      · have HCC := Lib.hid (show chainCode j true = (preC M ++ [⟨1, 15, 14, j, 0⟩]) ++ [⟨26, 14, j, 0, 0⟩] by rw [chain_code, HM.out]; rfl)
        go_wp2_with (first
          | (at_builtin; refine wpList_append_own _ rfl (.tmp 39) (.tmp 42) 22 rfl (Q + 1) 28 i1 (.agg #[.int .i64 0, .int .i64 0, .int .i64 0, .int .i64 0, .int .i64 0]) 5 40 Try.underlying22 hi' hz0' hz1' HZ2'.out rfl (by omega) _ M (codeCells (preC M)) rfl (hO.alloc _) ⟨_, 0, none⟩ 1 1 (insCells ⟨1, 15, 14, j, 0⟩) rfl rfl (new_cells _ #[.int .i64 1, .int .i64 15, .int .i64 14, .int .i64 (j : Int), .int .i64 0] _ _ rfl) (insCells_oneC _) (by unfold maxLen; omega) (by omega) (by have := HC.out.box.lt; simp at this ⊢; omega) ?_; intro v3 x3 hO3 hg3 _; have HN3 := Lib.hid (HC.out.next ⟨1, 15, 14, j, 0⟩ HLEN.out hO3 hg3); obtain ⟨A3, cv3, rfl⟩ := (Row.of_own hO3).form; have d3 := HN3.out.2.cell (k := 0) rfl; have df3 := HN3.out.2.frozen 0; have dl3 := HN3.out.2.lt; clear hO3 hg3; have HZX : Hid ((x3.setCell ⟨Q, 0, none⟩ (.slice A3 (M + 1) cv3)).heap.size = x3.heap.size) := (by show _ = _; simp [World.setCell]); have HC4 := Lib.hid HN3.out.1; have hO4 := HC4.out.own; rw [HLEN2.out] at hO4; have e4 := HC4.out.box.cell (k := 0) rfl; have ef4 := HC4.out.box.frozen 0; have el4 := HC4.out.box.lt)
          | (at_builtin; refine wpList_append_own _ rfl (.tmp 47) (.tmp 50) 22 rfl (Q + 1) 28 i1 (.agg #[.int .i64 0, .int .i64 0, .int .i64 0, .int .i64 0, .int .i64 0]) 5 40 Try.underlying22 hi' hz0' hz1' HZ2'.out rfl (by omega) _ (M + 1) (codeCells (preC M ++ [⟨1, 15, 14, j, 0⟩])) rfl (hO4.alloc _) ⟨_, 0, none⟩ 1 1 (insCells ⟨26, 14, j, 0, 0⟩) rfl rfl (by rw [← HZX.out]; exact new_cells _ #[.int .i64 26, .int .i64 14, .int .i64 (j : Int), .int .i64 0, .int .i64 0] _ _ rfl) (insCells_oneC _) (by unfold maxLen; omega) (by omega) (by have := HC4.out.box.lt; simp at this ⊢; omega) ?_; intro v5 x5 hO5 hg5 _; have HN5 := Lib.hid (HC4.out.next ⟨26, 14, j, 0, 0⟩ HLEN2.out hO5 hg5); obtain ⟨A5, cv5, rfl⟩ := (Row.of_own hO5).form; have d5 := HN5.out.2.cell (k := 0) rfl; have df5 := HN5.out.2.frozen 0; have dl5 := HN5.out.2.lt; clear hO5 hg5; have HC6 := Lib.hid HN5.out.1; have e6 := HC6.out.box.cell (k := 0) rfl; have e61 := HC6.out.box.cell (k := 1) rfl; have e62 := HC6.out.box.cell (k := 2) rfl))
        have hlen : (chainCode j true).length = M + 1 + 1 := by rw [HCC.out, List.length_append, HLEN2.out]; rfl
        have hof := of_any' A5 cv5 0 none 0 0 (chainCode j true) (x5.setCell ⟨Q, 0, none⟩ (.slice A5 (M + 1 + 1) cv5)) (by have := Row.of_own HC6.out.own; rw [← HCC.out] at this; rw [hlen] at this ⊢; exact this) (by omega) (by omega)
        rw [hlen, HLE.out] at hof
        have HKX := Lib.hid HC6.out.kept
        have HOF := Lib.hid hof
        clear hof hlen e6 e61 e62 HN5 HC6 HC4 hO4 e4 ef4 el4 HN3 d3 df3 dl3 d5 df5 dl5 hO b0 bf HCC HC
        generalize x5.setCell ⟨Q, 0, none⟩ (.slice A5 (M + 1 + 1) cv5) = X at *
        refine HOF.out.mono ?_; rintro e w7 ⟨rfl, hb7⟩
        have k7 : Kept w1 w7 := HKX.out.to hb7
        clear hb7
        generalize leastO (chainCode j true) = LO at *
        have HNBO := Lib.hid (Box.new w7 (oV zeroO) 26)
        have HMBO : Hid (Below w7.heap.size w7 (w7.alloc (.cells (oV zeroO).toArray 26))) := (Below.refl _ _).alloc (Nat.le_refl _) _
        obtain ⟨BO, hBO⟩ : ∃ BO, BO = w7.heap.size := ⟨_, rfl⟩
        have HEBO := Lib.hid hBO
        clear hBO
        have HLBO : Hid ((oV LO).length = 16) := (oV_len _).trans HOK.out.1
        go_wp2_with (first
          | (refine wpList_store_box rfl 26 (.tmp 8) (.tmp 61) rfl w7.heap.size 0 (oV LO) rfl rfl (oV zeroO) HNBO.out (by rw [HLBO.out]; decide) 16 (by kernel_rfl) HLBO.out (oV_one _) ?_; intro w8 B4 hg4; rw [splice_whole _ _ (by rw [HLBO.out]; rfl)] at B4; have HO := Lib.hid B4; have hk4 : Below w7.heap.size w7 w8 := HMBO.out.grown hg4 (by simp) (fun i hi => by injection hi with hi; omega); have k8 := Kept.to k7 hk4; clear B4 hg4 hk4; rw [← HEBO.out] at HO ⊢))
        have HKZ := Lib.hid (HK1.out.trans (Below.mono k8 HK1.out.size))
        clear k7 k8
        go_loopw [9] (fun ii wz => ∃ k : Nat, 1 ≤ k ∧ k ≤ 16 ∧ ii = .int .i64 k ∧ wz = w8) (fun ii _ => 16 - (intOf ii).toNat)
        case atStart => exact ⟨1, by omega, by omega, rfl, rfl⟩
        case round =>
          obtain ⟨k, hk1, hk2, rfl, rfl⟩ := hrel
          by_cases hlt : k < 16
          · have hle := HAT.out k hk1 (by omega)
            have f1 := HO.out.cell (oV_at HOK.out.1 (n := k) (by omega))
            rw [hle] at f1
            have g0 : (0 : Int) ≤ k := by omega
            have g1 : (k : Int) < 16 := by omega
            clear hle
            by_cases hkj : k ≤ j
            · rw [if_pos hkj] at f1
              have g3 : (k : Int) ≤ j := by omega
              go_wp2_with fail
              go_roundw
              case rel => exact ⟨k + 1, by omega, by omega, by go_num, by first | rfl | trivial⟩
              case measure => simp only [intOf]; omega
            · rw [if_neg hkj] at f1
              have g3 : ¬ (k : Int) ≤ j := by omega
              go_wp2_with fail
              go_roundw
              case rel => exact ⟨k + 1, by omega, by omega, by go_num, by first | rfl | trivial⟩
              case measure => simp only [intOf]; omega
          · have g1 : ¬ (k : Int) < 16 := by omega
            go_wp2_with fail
            go_ret
            exact ⟨rfl, HKZ.out⟩
end Go.Proofs.Ytehelfmpcbejeaa.Words

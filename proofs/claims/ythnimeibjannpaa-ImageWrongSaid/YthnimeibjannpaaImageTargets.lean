/- The walk of ImageTargets. -/
import Derived.Test.YthnimeibjannpaaImgTargetMath
namespace Go.Proofs.Ythnimeibjannpaa.Words
open Go.RowKit
set_option linter.unusedVariables false

theorem one_cell {w : World} {o1 : Obj} {b k : Nat} {v : Value} (hb : b < w.heap.size) (h : w.cell? ⟨b, k, none⟩ = some v) : (w.alloc o1).cell? ⟨b, k, none⟩ = some v := by
  rw [World.cell?_alloc_lt _ _ _ hb]; exact h
theorem one_frozen {w : World} {o1 : Obj} {b k : Nat} {v : Bool} (hb : b < w.heap.size) (h : w.frozen? ⟨b, k, none⟩ = v) : (w.alloc o1).frozen? ⟨b, k, none⟩ = v := by
  have h1 : Below (b + 1) w (w.alloc o1) := (Below.refl _ _).alloc (by omega) _
  rw [h1.frozen (p := ⟨b, k, none⟩) (by show b < b + 1; omega)]; exact h

set_option maxHeartbeats 2000000 in
theorem imageTargets_no (n at_ imm op : Int) (w : World) (h : n < 1 ∨ 60 < n ∨ at_ < 0 ∨ n ≤ at_ ∨ imm < -100 ∨ 100 < imm ∨ op < 34 ∨ 40 < op) :
    Calls Try.prog 5 #[.int .i64 n, .int .i64 at_, .int .i64 imm, .int .i64 op] w fun e w' => e = .returned (.bool true) ∧ Below w.heap.size w w' := by
  by_cases h0 : n < 1
  · clear h
    go_enter Try.func5, Try.ntmps5
    go_wp2_with fail
    refine (imgAlive_any _).mono ?_; rintro e w1 ⟨rfl, hb1⟩
    go_wp2_with fail
    go_ret
    exact ⟨rfl, hb1⟩
  by_cases h1 : 60 < n
  · clear h
    go_enter Try.func5, Try.ntmps5
    go_wp2_with fail
    refine (imgAlive_any _).mono ?_; rintro e w1 ⟨rfl, hb1⟩
    go_wp2_with fail
    go_ret
    exact ⟨rfl, hb1⟩
  by_cases h2 : at_ < 0
  · clear h
    go_enter Try.func5, Try.ntmps5
    go_wp2_with fail
    refine (imgAlive_any _).mono ?_; rintro e w1 ⟨rfl, hb1⟩
    go_wp2_with fail
    go_ret
    exact ⟨rfl, hb1⟩
  by_cases h3 : n ≤ at_
  · clear h
    go_enter Try.func5, Try.ntmps5
    go_wp2_with fail
    refine (imgAlive_any _).mono ?_; rintro e w1 ⟨rfl, hb1⟩
    go_wp2_with fail
    go_ret
    exact ⟨rfl, hb1⟩
  by_cases h4 : imm < -100
  · clear h
    go_enter Try.func5, Try.ntmps5
    go_wp2_with fail
    refine (imgAlive_any _).mono ?_; rintro e w1 ⟨rfl, hb1⟩
    go_wp2_with fail
    go_ret
    exact ⟨rfl, hb1⟩
  by_cases h5 : 100 < imm
  · clear h
    go_enter Try.func5, Try.ntmps5
    go_wp2_with fail
    refine (imgAlive_any _).mono ?_; rintro e w1 ⟨rfl, hb1⟩
    go_wp2_with fail
    go_ret
    exact ⟨rfl, hb1⟩
  by_cases h6 : op < 34
  · clear h
    go_enter Try.func5, Try.ntmps5
    go_wp2_with fail
    refine (imgAlive_any _).mono ?_; rintro e w1 ⟨rfl, hb1⟩
    go_wp2_with fail
    go_ret
    exact ⟨rfl, hb1⟩
  by_cases h7 : 40 < op
  · clear h
    go_enter Try.func5, Try.ntmps5
    go_wp2_with fail
    refine (imgAlive_any _).mono ?_; rintro e w1 ⟨rfl, hb1⟩
    go_wp2_with fail
    go_ret
    exact ⟨rfl, hb1⟩
  · omega

/-- What holds ahead of each round: j halts are there. -/
structure RoundT (y wr : World) (PB j : Nat) (v : Value) : Prop where
  kept : Kept y wr
  big : PB < wr.heap.size
  b0 : wr.cell? ⟨PB, 0, none⟩ = some v
  b1 : wr.cell? ⟨PB, 1, none⟩ = some (.int .i64 0)
  b2 : wr.cell? ⟨PB, 2, none⟩ = some (.slice none 0 0)
  free : wr.frozen? ⟨PB, 0, none⟩ = false
  own : wr.ownsRow (PB + 1) 41 5 v j (codeCells (List.replicate j haltI))

set_option maxHeartbeats 4000000 in
theorem imageTargets_main (n : Nat) (a imm op : Int) (w : World) (h1 : 1 ≤ n) (h2 : n ≤ 60) (h3 : a < (n : Int)) (h0 : 0 ≤ a) (h4 : -100 ≤ imm) (h5 : imm ≤ 100) (h6 : 34 ≤ op) (h7 : op ≤ 40) :
    Calls Try.prog 5 #[.int .i64 (n : Int), .int .i64 a, .int .i64 imm, .int .i64 op] w fun e w' => e = .returned (.bool true) ∧ Below w.heap.size w w' := by
  obtain ⟨i1, hi', hz0', hz1', hz2'⟩ := info_parts info_ins
  have HZ2' := Lib.hid hz2'
  clear hz2'
  have e1 : decide ((n : Int) < 1) = false := decide_eq_false (by omega)
  have e2 : decide (60 < (n : Int)) = false := decide_eq_false (by omega)
  have e3 : decide (a < 0) = false := decide_eq_false (by omega)
  have e4 : decide ((n : Int) ≤ a) = false := decide_eq_false (by omega)
  have e5 : decide (imm < -100) = false := decide_eq_false (by omega)
  have e6 : decide (100 < imm) = false := decide_eq_false (by omega)
  have e7 : decide (op < 34) = false := decide_eq_false (by omega)
  have e8 : decide (40 < op) = false := decide_eq_false (by omega)
  go_enter Try.func5, Try.ntmps5
  go_wp2_with fail
  refine (imgAlive_any _).mono ?_; rintro e w1 ⟨rfl, hb1⟩
  have hP : RoundT w1 (w1.alloc (.cells #[.slice none 0 0, .int .i64 0, .slice none 0 0] 25)) w1.heap.size 0 (.slice none 0 0) :=
    ⟨(Kept.refl w1).alloc _, by simp, by go_simp, by go_simp, by go_simp, by go_simp, World.ownsRow_nil _ _ _ _⟩
  go_wp2_with fail
  generalize w1.alloc (.cells #[.slice none 0 0, .int .i64 0, .slice none 0 0] 25) = W1 at *
  clear e1 e2 e3 e4 e5 e6 e7 e8
  go_loopw [11] (fun i wr => ∃ (j : Nat) (v : Value), j ≤ n ∧ i = .int .i64 j ∧ RoundT w1 wr w1.heap.size j v) (fun i _ => n - (intOf i).toNat)
  case atStart => exact ⟨0, _, Nat.zero_le _, rfl, hP⟩
  case round =>
    obtain ⟨j, v, hj, rfl, hK⟩ := hrel
    have b0 := hK.b0
    have b1 := hK.b1
    have b2 := hK.b2
    have bf := hK.free
    have hO := hK.own
    have hbig := hK.big
    have hk := hK.kept
    clear hK
    by_cases hlt : j < n
    · have j0 : (0 : Int) ≤ j := by omega
      have j1 : (j : Int) < n := by omega
      go_wp2_with (at_builtin; refine wpList_append_own _ rfl (.tmp 57) (.tmp 59) 22 rfl (w1.heap.size + 1) 41 i1 (.agg #[.int .i64 0, .int .i64 0, .int .i64 0, .int .i64 0, .int .i64 0]) 5 40 Try.underlying22 hi' hz0' hz1' HZ2'.out rfl (by omega) v j (codeCells (List.replicate j haltI)) rfl (hO.alloc _) ⟨wr.heap.size, 0, none⟩ 1 1 (insCells haltI) rfl rfl (new_cells wr _ _ _ rfl) (insCells_one _) (by unfold maxLen; omega) (by omega) (by simp; omega) ?_; intro v2 x3 hO3 hg3 _; obtain ⟨A2, cv2, rfl⟩ := (Row.of_own hO3).form; have hB3 := Below.grown (Below.refl (w1.heap.size + 1) _) hg3 (by simp; omega) (fun k hk => (hO.lt k hk).1); have d0 := below_cell hB3 (Nat.lt_succ_self _) (one_cell hbig b0); have d1 := below_cell hB3 (Nat.lt_succ_self _) (one_cell hbig b1); have d2 := below_cell hB3 (Nat.lt_succ_self _) (one_cell hbig b2); have df := below_frozen hB3 (Nat.lt_succ_self _) (one_frozen hbig bf))
      have hK4 : Kept w1 x3 := (hk.alloc _).up (hB3.mono (Nat.le_succ _))
      have hs4 : w1.heap.size < x3.heap.size := by have := hB3.size; simp at this; omega
      go_roundw
      case rel =>
        refine ⟨j + 1, .slice A2 (j + 1) cv2, by omega, by go_num, ⟨Below.setCell hK4 (Nat.le_refl _) _, by simpa using hs4, by go_simp, by go_simp, by go_simp, by go_simp, ?_⟩⟩
        rw [repl_halt]
        exact ownsRow_setCell_below hO3 (Nat.lt_succ_self _) _
      case measure => simp [intOf]; omega
    · have hjn : j = n := by omega
      subst hjn
      obtain ⟨k, rfl⟩ := Int.eq_ofNat_of_zero_le h0
      replace h3 : k < j := by omega
      obtain ⟨g, cap, rfl, hg0, hg1⟩ := own_form hO (by omega)
      rw [repl_split h3] at hO
      have hrow := Row.of_own hO
      have hcap := hrow.cap
      have hxl : (List.replicate k haltI ++ haltI :: List.replicate (j - (k + 1)) haltI)[k]? = some haltI := by
        rw [List.getElem?_append_right (by simp), List.length_replicate, Nat.sub_self]; rfl
      have hlen : (List.replicate k haltI ++ haltI :: List.replicate (j - (k + 1)) haltI).length = j := by rw [← repl_split h3, List.length_replicate]
      obtain ⟨q0, q1, q2, q3, q4⟩ := hrow.ins hxl
      simp only [Nat.zero_add] at q0 q1 q2 q3 q4
      have g0 := hO.frozenAt (k * 5)
      have g1 := hO.frozenAt (k * 5 + 1)
      have g2 := hO.frozenAt (k * 5 + 2)
      have g3 := hO.frozenAt (k * 5 + 3)
      have g4 := hO.frozenAt (k * 5 + 4)
      have hO3 := own_set ⟨op, 0, 0, 0, imm⟩ k (by simp) hO
      dsimp only at hO3
      have HX := Lib.hid hO3
      have hk0 : (0 : Int) ≤ k := by omega
      clear hrow hxl hO hO3 hlen
      by_cases hlo : (k : Int) + imm < 0
      · have hd := Lib.hid (show decide (0 ≤ (k : Int) + imm ∧ (k : Int) + imm < j) = false from decide_eq_false (by omega))
        go_wp2_with fail
        have hneg : w1.heap.size ≠ g := by omega
        have B0 := Lib.hid (show (((((wr.setCell ⟨g, k * 5, none⟩ (.int .i64 op)).setCell ⟨g, k * 5 + 1, none⟩ (.int .i64 0)).setCell ⟨g, k * 5 + 2, none⟩ (.int .i64 0)).setCell ⟨g, k * 5 + 3, none⟩ (.int .i64 0)).setCell ⟨g, k * 5 + 4, none⟩ (.int .i64 imm)).cell? ⟨w1.heap.size, 0, none⟩ = some (.slice (some ⟨g, 0, none⟩) j cap) from by go_simp)
        have B1 := Lib.hid (show (((((wr.setCell ⟨g, k * 5, none⟩ (.int .i64 op)).setCell ⟨g, k * 5 + 1, none⟩ (.int .i64 0)).setCell ⟨g, k * 5 + 2, none⟩ (.int .i64 0)).setCell ⟨g, k * 5 + 3, none⟩ (.int .i64 0)).setCell ⟨g, k * 5 + 4, none⟩ (.int .i64 imm)).cell? ⟨w1.heap.size, 1, none⟩ = some (.int .i64 0) from by go_simp)
        have B2 := Lib.hid (show (((((wr.setCell ⟨g, k * 5, none⟩ (.int .i64 op)).setCell ⟨g, k * 5 + 1, none⟩ (.int .i64 0)).setCell ⟨g, k * 5 + 2, none⟩ (.int .i64 0)).setCell ⟨g, k * 5 + 3, none⟩ (.int .i64 0)).setCell ⟨g, k * 5 + 4, none⟩ (.int .i64 imm)).cell? ⟨w1.heap.size, 2, none⟩ = some (.slice none 0 0) from by go_simp)
        clear hneg
        have KX := Lib.hid (show Kept w1 (((((wr.setCell ⟨g, k * 5, none⟩ (.int .i64 op)).setCell ⟨g, k * 5 + 1, none⟩ (.int .i64 0)).setCell ⟨g, k * 5 + 2, none⟩ (.int .i64 0)).setCell ⟨g, k * 5 + 3, none⟩ (.int .i64 0)).setCell ⟨g, k * 5 + 4, none⟩ (.int .i64 imm)) from ((((Below.setCell hk (by simp; omega) _).setCell (by simp; omega) _).setCell (by simp; omega) _).setCell (by simp; omega) _).setCell (by simp; omega) _)
        have HSX := Lib.hid (show w1.heap.size < (((((wr.setCell ⟨g, k * 5, none⟩ (.int .i64 op)).setCell ⟨g, k * 5 + 1, none⟩ (.int .i64 0)).setCell ⟨g, k * 5 + 2, none⟩ (.int .i64 0)).setCell ⟨g, k * 5 + 3, none⟩ (.int .i64 0)).setCell ⟨g, k * 5 + 4, none⟩ (.int .i64 imm)).heap.size by simpa using hbig)
        have HT := Lib.hid (oneIn_targets (imm := imm) h3 h2 h6 h7)
        have HR := Lib.hid (oneIn_right h3 h2 h6 h7 h4 h5)
        have HPos := Lib.hid (imgOf_pos ⟨oneIn j k op imm, 0, []⟩)
        have ht := Lib.hid (HT.out.trans hd.out)
        have hr := Lib.hid (show rightZ (oneIn j k op imm) 0 0 = _ from (right_prog ⟨oneIn j k op imm, 0, []⟩).symm.trans (HR.out.trans hd.out))
        have hpos := Lib.hid (HPos.out.trans (HR.out.trans hd.out))
        generalize (((((wr.setCell ⟨g, k * 5, none⟩ (.int .i64 op)).setCell ⟨g, k * 5 + 1, none⟩ (.int .i64 0)).setCell ⟨g, k * 5 + 2, none⟩ (.int .i64 0)).setCell ⟨g, k * 5 + 3, none⟩ (.int .i64 0)).setCell ⟨g, k * 5 + 4, none⟩ (.int .i64 imm)) = W5 at *
        have b0 := B0.out
        have b1 := B1.out
        have b2 := B2.out
        have kX := KX.out
        have hsX := HSX.out
        clear q0 q1 q2 q3 q4 g0 g1 g2 g3 g4 hk
        have hT := targets_any (some ⟨g, 0, none⟩) cap 0 (.slice none 0 0) (oneIn j k op imm) W5 (by rw [oneIn_len op imm h3]; exact Row.of_own HX.out) (by rw [oneIn_len op imm h3]; omega)
        rw [oneIn_len op imm h3, ht.out] at hT
        refine hT.mono ?_; rintro e x1 ⟨rfl, hb⟩
        have k1 := kX.to hb
        have b0 := below_cell hb hsX b0
        have b1 := below_cell hb hsX b1
        have b2 := below_cell hb hsX b2
        have ox := own_below HX.out hb
        have hs1 : w1.heap.size < x1.heap.size := by have := hb.size; omega
        clear hT hb
        go_wp2_with fail
        refine (num_any _ _ (errT_range _)).mono ?_; rintro e x1' ⟨rfl, rfl⟩
        rw [show errT false = 4 from rfl]
        go_wp2_with fail
        have hT := imgRight_any (some ⟨g, 0, none⟩) cap 0 none 0 0 (oneIn j k op imm) x1 (by rw [oneIn_len op imm h3]; exact Row.of_own ox) (by omega) (by omega)
        rw [oneIn_len op imm h3, hr.out] at hT
        refine hT.mono ?_; rintro e x2 ⟨rfl, hb⟩
        have k2 := k1.to hb
        have b0 := below_cell hb hs1 b0
        have b1 := below_cell hb hs1 b1
        have b2 := below_cell hb hs1 b2
        have ox := own_below ox hb
        have hs2 : w1.heap.size < x2.heap.size := by have := hb.size; omega
        clear hT hb
        go_wp2_with fail
        have hT := bytes_any (some ⟨g, 0, none⟩) none cap 0 ⟨oneIn j k op imm, 0, []⟩ x2 ⟨by dsimp only; rw [oneIn_len op imm h3]; exact Row.of_own ox, Row.nil _ _ _⟩
        dsimp only [List.length_nil] at hT
        rw [oneIn_len op imm h3] at hT
        refine hT.mono ?_; rintro e x3 ⟨v, rfl, own, hb⟩
        have k3 := k2.to hb
        obtain ⟨A9, c9, rfl⟩ := (Row.of_own own).form
        have hlen := hpos.out
        clear hT hb own
        generalize (imgOf ⟨oneIn j k op imm, 0, []⟩).length = L at *
        go_wp2_with fail
        go_ret
        exact ⟨ret_bool (by first | (simp; done) | (simp; omega)), hb1.trans (k3.mono hb1.size)⟩
      by_cases hhi : (j : Int) ≤ k + imm
      · have hd := Lib.hid (show decide (0 ≤ (k : Int) + imm ∧ (k : Int) + imm < j) = false from decide_eq_false (by omega))
        go_wp2_with fail
        have hneg : w1.heap.size ≠ g := by omega
        have B0 := Lib.hid (show (((((wr.setCell ⟨g, k * 5, none⟩ (.int .i64 op)).setCell ⟨g, k * 5 + 1, none⟩ (.int .i64 0)).setCell ⟨g, k * 5 + 2, none⟩ (.int .i64 0)).setCell ⟨g, k * 5 + 3, none⟩ (.int .i64 0)).setCell ⟨g, k * 5 + 4, none⟩ (.int .i64 imm)).cell? ⟨w1.heap.size, 0, none⟩ = some (.slice (some ⟨g, 0, none⟩) j cap) from by go_simp)
        have B1 := Lib.hid (show (((((wr.setCell ⟨g, k * 5, none⟩ (.int .i64 op)).setCell ⟨g, k * 5 + 1, none⟩ (.int .i64 0)).setCell ⟨g, k * 5 + 2, none⟩ (.int .i64 0)).setCell ⟨g, k * 5 + 3, none⟩ (.int .i64 0)).setCell ⟨g, k * 5 + 4, none⟩ (.int .i64 imm)).cell? ⟨w1.heap.size, 1, none⟩ = some (.int .i64 0) from by go_simp)
        have B2 := Lib.hid (show (((((wr.setCell ⟨g, k * 5, none⟩ (.int .i64 op)).setCell ⟨g, k * 5 + 1, none⟩ (.int .i64 0)).setCell ⟨g, k * 5 + 2, none⟩ (.int .i64 0)).setCell ⟨g, k * 5 + 3, none⟩ (.int .i64 0)).setCell ⟨g, k * 5 + 4, none⟩ (.int .i64 imm)).cell? ⟨w1.heap.size, 2, none⟩ = some (.slice none 0 0) from by go_simp)
        clear hneg
        have KX := Lib.hid (show Kept w1 (((((wr.setCell ⟨g, k * 5, none⟩ (.int .i64 op)).setCell ⟨g, k * 5 + 1, none⟩ (.int .i64 0)).setCell ⟨g, k * 5 + 2, none⟩ (.int .i64 0)).setCell ⟨g, k * 5 + 3, none⟩ (.int .i64 0)).setCell ⟨g, k * 5 + 4, none⟩ (.int .i64 imm)) from ((((Below.setCell hk (by simp; omega) _).setCell (by simp; omega) _).setCell (by simp; omega) _).setCell (by simp; omega) _).setCell (by simp; omega) _)
        have HSX := Lib.hid (show w1.heap.size < (((((wr.setCell ⟨g, k * 5, none⟩ (.int .i64 op)).setCell ⟨g, k * 5 + 1, none⟩ (.int .i64 0)).setCell ⟨g, k * 5 + 2, none⟩ (.int .i64 0)).setCell ⟨g, k * 5 + 3, none⟩ (.int .i64 0)).setCell ⟨g, k * 5 + 4, none⟩ (.int .i64 imm)).heap.size by simpa using hbig)
        have HT := Lib.hid (oneIn_targets (imm := imm) h3 h2 h6 h7)
        have HR := Lib.hid (oneIn_right h3 h2 h6 h7 h4 h5)
        have HPos := Lib.hid (imgOf_pos ⟨oneIn j k op imm, 0, []⟩)
        have ht := Lib.hid (HT.out.trans hd.out)
        have hr := Lib.hid (show rightZ (oneIn j k op imm) 0 0 = _ from (right_prog ⟨oneIn j k op imm, 0, []⟩).symm.trans (HR.out.trans hd.out))
        have hpos := Lib.hid (HPos.out.trans (HR.out.trans hd.out))
        generalize (((((wr.setCell ⟨g, k * 5, none⟩ (.int .i64 op)).setCell ⟨g, k * 5 + 1, none⟩ (.int .i64 0)).setCell ⟨g, k * 5 + 2, none⟩ (.int .i64 0)).setCell ⟨g, k * 5 + 3, none⟩ (.int .i64 0)).setCell ⟨g, k * 5 + 4, none⟩ (.int .i64 imm)) = W5 at *
        have b0 := B0.out
        have b1 := B1.out
        have b2 := B2.out
        have kX := KX.out
        have hsX := HSX.out
        clear q0 q1 q2 q3 q4 g0 g1 g2 g3 g4 hk
        have hT := targets_any (some ⟨g, 0, none⟩) cap 0 (.slice none 0 0) (oneIn j k op imm) W5 (by rw [oneIn_len op imm h3]; exact Row.of_own HX.out) (by rw [oneIn_len op imm h3]; omega)
        rw [oneIn_len op imm h3, ht.out] at hT
        refine hT.mono ?_; rintro e x1 ⟨rfl, hb⟩
        have k1 := kX.to hb
        have b0 := below_cell hb hsX b0
        have b1 := below_cell hb hsX b1
        have b2 := below_cell hb hsX b2
        have ox := own_below HX.out hb
        have hs1 : w1.heap.size < x1.heap.size := by have := hb.size; omega
        clear hT hb
        go_wp2_with fail
        refine (num_any _ _ (errT_range _)).mono ?_; rintro e x1' ⟨rfl, rfl⟩
        rw [show errT false = 4 from rfl]
        go_wp2_with fail
        have hT := imgRight_any (some ⟨g, 0, none⟩) cap 0 none 0 0 (oneIn j k op imm) x1 (by rw [oneIn_len op imm h3]; exact Row.of_own ox) (by omega) (by omega)
        rw [oneIn_len op imm h3, hr.out] at hT
        refine hT.mono ?_; rintro e x2 ⟨rfl, hb⟩
        have k2 := k1.to hb
        have b0 := below_cell hb hs1 b0
        have b1 := below_cell hb hs1 b1
        have b2 := below_cell hb hs1 b2
        have ox := own_below ox hb
        have hs2 : w1.heap.size < x2.heap.size := by have := hb.size; omega
        clear hT hb
        go_wp2_with fail
        have hT := bytes_any (some ⟨g, 0, none⟩) none cap 0 ⟨oneIn j k op imm, 0, []⟩ x2 ⟨by dsimp only; rw [oneIn_len op imm h3]; exact Row.of_own ox, Row.nil _ _ _⟩
        dsimp only [List.length_nil] at hT
        rw [oneIn_len op imm h3] at hT
        refine hT.mono ?_; rintro e x3 ⟨v, rfl, own, hb⟩
        have k3 := k2.to hb
        obtain ⟨A9, c9, rfl⟩ := (Row.of_own own).form
        have hlen := hpos.out
        clear hT hb own
        generalize (imgOf ⟨oneIn j k op imm, 0, []⟩).length = L at *
        go_wp2_with fail
        go_ret
        exact ⟨ret_bool (by first | (simp; done) | (simp; omega)), hb1.trans (k3.mono hb1.size)⟩
      · have hd := Lib.hid (show decide (0 ≤ (k : Int) + imm ∧ (k : Int) + imm < j) = true from decide_eq_true (by omega))
        go_wp2_with fail
        have hneg : w1.heap.size ≠ g := by omega
        have B0 := Lib.hid (show (((((wr.setCell ⟨g, k * 5, none⟩ (.int .i64 op)).setCell ⟨g, k * 5 + 1, none⟩ (.int .i64 0)).setCell ⟨g, k * 5 + 2, none⟩ (.int .i64 0)).setCell ⟨g, k * 5 + 3, none⟩ (.int .i64 0)).setCell ⟨g, k * 5 + 4, none⟩ (.int .i64 imm)).cell? ⟨w1.heap.size, 0, none⟩ = some (.slice (some ⟨g, 0, none⟩) j cap) from by go_simp)
        have B1 := Lib.hid (show (((((wr.setCell ⟨g, k * 5, none⟩ (.int .i64 op)).setCell ⟨g, k * 5 + 1, none⟩ (.int .i64 0)).setCell ⟨g, k * 5 + 2, none⟩ (.int .i64 0)).setCell ⟨g, k * 5 + 3, none⟩ (.int .i64 0)).setCell ⟨g, k * 5 + 4, none⟩ (.int .i64 imm)).cell? ⟨w1.heap.size, 1, none⟩ = some (.int .i64 0) from by go_simp)
        have B2 := Lib.hid (show (((((wr.setCell ⟨g, k * 5, none⟩ (.int .i64 op)).setCell ⟨g, k * 5 + 1, none⟩ (.int .i64 0)).setCell ⟨g, k * 5 + 2, none⟩ (.int .i64 0)).setCell ⟨g, k * 5 + 3, none⟩ (.int .i64 0)).setCell ⟨g, k * 5 + 4, none⟩ (.int .i64 imm)).cell? ⟨w1.heap.size, 2, none⟩ = some (.slice none 0 0) from by go_simp)
        clear hneg
        have KX := Lib.hid (show Kept w1 (((((wr.setCell ⟨g, k * 5, none⟩ (.int .i64 op)).setCell ⟨g, k * 5 + 1, none⟩ (.int .i64 0)).setCell ⟨g, k * 5 + 2, none⟩ (.int .i64 0)).setCell ⟨g, k * 5 + 3, none⟩ (.int .i64 0)).setCell ⟨g, k * 5 + 4, none⟩ (.int .i64 imm)) from ((((Below.setCell hk (by simp; omega) _).setCell (by simp; omega) _).setCell (by simp; omega) _).setCell (by simp; omega) _).setCell (by simp; omega) _)
        have HSX := Lib.hid (show w1.heap.size < (((((wr.setCell ⟨g, k * 5, none⟩ (.int .i64 op)).setCell ⟨g, k * 5 + 1, none⟩ (.int .i64 0)).setCell ⟨g, k * 5 + 2, none⟩ (.int .i64 0)).setCell ⟨g, k * 5 + 3, none⟩ (.int .i64 0)).setCell ⟨g, k * 5 + 4, none⟩ (.int .i64 imm)).heap.size by simpa using hbig)
        have HT := Lib.hid (oneIn_targets (imm := imm) h3 h2 h6 h7)
        have HR := Lib.hid (oneIn_right h3 h2 h6 h7 h4 h5)
        have HPos := Lib.hid (imgOf_pos ⟨oneIn j k op imm, 0, []⟩)
        have ht := Lib.hid (HT.out.trans hd.out)
        have hr := Lib.hid (show rightZ (oneIn j k op imm) 0 0 = _ from (right_prog ⟨oneIn j k op imm, 0, []⟩).symm.trans (HR.out.trans hd.out))
        have hpos := Lib.hid (HPos.out.trans (HR.out.trans hd.out))
        generalize (((((wr.setCell ⟨g, k * 5, none⟩ (.int .i64 op)).setCell ⟨g, k * 5 + 1, none⟩ (.int .i64 0)).setCell ⟨g, k * 5 + 2, none⟩ (.int .i64 0)).setCell ⟨g, k * 5 + 3, none⟩ (.int .i64 0)).setCell ⟨g, k * 5 + 4, none⟩ (.int .i64 imm)) = W5 at *
        have b0 := B0.out
        have b1 := B1.out
        have b2 := B2.out
        have kX := KX.out
        have hsX := HSX.out
        clear q0 q1 q2 q3 q4 g0 g1 g2 g3 g4 hk
        have hT := targets_any (some ⟨g, 0, none⟩) cap 0 (.slice none 0 0) (oneIn j k op imm) W5 (by rw [oneIn_len op imm h3]; exact Row.of_own HX.out) (by rw [oneIn_len op imm h3]; omega)
        rw [oneIn_len op imm h3, ht.out] at hT
        refine hT.mono ?_; rintro e x1 ⟨rfl, hb⟩
        have k1 := kX.to hb
        have b0 := below_cell hb hsX b0
        have b1 := below_cell hb hsX b1
        have b2 := below_cell hb hsX b2
        have ox := own_below HX.out hb
        have hs1 : w1.heap.size < x1.heap.size := by have := hb.size; omega
        clear hT hb
        go_wp2_with fail
        refine (num_any _ _ (errT_range _)).mono ?_; rintro e x1' ⟨rfl, rfl⟩
        rw [show errT true = 0 from rfl]
        go_wp2_with fail
        have hT := imgRight_any (some ⟨g, 0, none⟩) cap 0 none 0 0 (oneIn j k op imm) x1 (by rw [oneIn_len op imm h3]; exact Row.of_own ox) (by omega) (by omega)
        rw [oneIn_len op imm h3, hr.out] at hT
        refine hT.mono ?_; rintro e x2 ⟨rfl, hb⟩
        have k2 := k1.to hb
        have b0 := below_cell hb hs1 b0
        have b1 := below_cell hb hs1 b1
        have b2 := below_cell hb hs1 b2
        have ox := own_below ox hb
        have hs2 : w1.heap.size < x2.heap.size := by have := hb.size; omega
        clear hT hb
        go_wp2_with fail
        have hT := bytes_any (some ⟨g, 0, none⟩) none cap 0 ⟨oneIn j k op imm, 0, []⟩ x2 ⟨by dsimp only; rw [oneIn_len op imm h3]; exact Row.of_own ox, Row.nil _ _ _⟩
        dsimp only [List.length_nil] at hT
        rw [oneIn_len op imm h3] at hT
        refine hT.mono ?_; rintro e x3 ⟨v, rfl, own, hb⟩
        have k3 := k2.to hb
        obtain ⟨A9, c9, rfl⟩ := (Row.of_own own).form
        have hlen := hpos.out
        clear hT hb own
        generalize (imgOf ⟨oneIn j k op imm, 0, []⟩).length = L at *
        go_wp2_with fail
        go_ret
        exact ⟨ret_bool (by first | (simp; done) | (simp; omega)), hb1.trans (k3.mono hb1.size)⟩

theorem imageTargets_walk (n at_ imm op : Int) (w : World) (w0 : -9223372036854775808 ≤ n ∧ n ≤ 9223372036854775807) (w1 : -9223372036854775808 ≤ at_ ∧ at_ ≤ 9223372036854775807) (w2 : -9223372036854775808 ≤ imm ∧ imm ≤ 9223372036854775807) (w3 : -9223372036854775808 ≤ op ∧ op ≤ 9223372036854775807) :
    Calls Try.prog 5 #[.int .i64 n, .int .i64 at_, .int .i64 imm, .int .i64 op] w fun e w' => e = .returned (.bool true) ∧ Below w.heap.size w w' := by
  by_cases h : n < 1 ∨ 60 < n ∨ at_ < 0 ∨ n ≤ at_ ∨ imm < -100 ∨ 100 < imm ∨ op < 34 ∨ 40 < op
  · exact imageTargets_no n at_ imm op w h
  · obtain ⟨m, rfl⟩ := Int.eq_ofNat_of_zero_le (show 0 ≤ n by omega)
    exact imageTargets_main m at_ imm op w (by omega) (by omega) (by omega) (by omega) (by omega) (by omega) (by omega) (by omega)
end Go.Proofs.Ythnimeibjannpaa.Words

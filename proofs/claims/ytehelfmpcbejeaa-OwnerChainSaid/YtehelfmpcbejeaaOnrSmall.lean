/- Contracts of package owner's and the document's own small functions of chapter 11: what reckons, whether a register is on E, what an instruction needs. -/
import Derived.Test.YtehelfmpcbejeaaOnrMath
import Derived.Test.YtehelfmpcbejeaaIsaReadsN
import Derived.Test.YtehelfmpcbejeaaBoxes
import Derived.Test.YtehelfmpcbejeaaKept
import Derived.Test.YtehelfmpcbejeaaRefForm
import Derived.LoopTactic
namespace Go.Proofs.Ytehelfmpcbejeaa.Words
set_option maxRecDepth 100000
open Go.RowKit
set_option linter.unusedVariables false
set_option linter.unusedSimpArgs false

/-- Registers as cells. -/
def oV (o : List Int) : List Value := o.map (Value.int .i64)
theorem oV_len (o : List Int) : (oV o).length = o.length := by simp [oV]
theorem oV_at {o : List Int} (h : o.length = 16) {n : Nat} (hn : n ≤ 15) : (oV o)[n]? = some (.int .i64 (atO o n)) := by
  unfold oV; rw [List.getElem?_map, atO_nat, List.getD_eq_getElem?_getD, List.getElem?_eq_getElem (show n < o.length by omega)]; rfl
theorem oV_set (o : List Int) (n : Nat) (x : Int) : (oV o).set n (.int .i64 x) = oV (o.set n x) := by unfold oV; rw [List.map_set]
theorem oV_one (o : List Int) : ∀ u ∈ oV o, u.oneCell' = true := by
  intro u hu
  obtain ⟨x, _, rfl⟩ := List.mem_map.1 hu; rfl
theorem ints_get {zs : List Int} {j : Nat} (h : j < zs.length) : (zs.map (Value.int .i64))[j]? = some (.int .i64 (zs.getD j 0)) := by
  rw [List.getElem?_map, List.getD_eq_getElem?_getD, List.getElem?_eq_getElem h]; rfl
theorem getD_mem {zs : List Int} {j : Nat} (h : j < zs.length) : zs.getD j 0 ∈ zs := by
  rw [List.getD_eq_getElem?_getD, List.getElem?_eq_getElem h]; exact List.getElem_mem h
theorem any_step {zs : List Int} {o : List Int} {j : Nat} (h : j < zs.length) : anyEB (zs.drop j) o = (decide (atO o (zs.getD j 0) = 2) || anyEB (zs.drop (j + 1)) o) := by
  rw [List.drop_eq_getElem_cons h, List.getD_eq_getElem?_getD, List.getElem?_eq_getElem h]; rfl

set_option maxHeartbeats 400000 in
theorem reckons_any (op : Int) (w : World) :
    Calls Try.prog 28 #[.int .i64 op] w fun e w' => e = .returned (.bool (recB op)) ∧ w = w' := by
  have hF := formZ_range op
  have HJ := Lib.hid (show recB op = decide (1 ≤ formZ op ∧ formZ op ≤ 3) from rfl)
  go_enter Try.func28, Try.ntmps28
  go_wp2_with fail
  refine (form_any _ _).mono ?_; rintro e w1 ⟨rfl, rfl⟩
  generalize formZ op = f at *
  by_cases h1 : 1 ≤ f
  · by_cases h3 : f ≤ 3
    · have g := Lib.hid (⟨h1, h3⟩ : 1 ≤ f ∧ f ≤ 3)
      go_wp2_with fail
      go_ret
      exact ⟨ret_bool (by rw [HJ.out, decide_eq_true g.out]), rfl⟩
    · have g := Lib.hid (fun h => h3 h.2 : ¬ (1 ≤ f ∧ f ≤ 3))
      have g3 : decide (f ≤ 3) = false := decide_eq_false h3
      go_wp2_with fail
      go_ret
      exact ⟨ret_bool (by rw [HJ.out, decide_eq_false g.out]), rfl⟩
  · have g := Lib.hid (fun h => h1 h.1 : ¬ (1 ≤ f ∧ f ≤ 3))
    go_wp2_with fail
    go_ret
    exact ⟨ret_bool (by rw [HJ.out, decide_eq_false g.out]), rfl⟩

set_option maxHeartbeats 1000000 in
theorem anyOnE_any (A : Option Addr) (c : Nat) (zs : List Int) (o : List Int) (w : World) (ho : o.length = 16) (hr : Row w w.heap.size 1 (.slice A zs.length c) zs.length (zs.map (Value.int .i64))) (hz : ∀ r ∈ zs, 0 ≤ r ∧ r ≤ 15) (hs : zs.length ≤ 8) :
    Calls Try.prog 24 #[.slice A zs.length c, .agg (oV o).toArray] w fun e w' => e = .returned (.bool (anyEB zs o)) ∧ Below w.heap.size w w' := by
  have HB := Lib.hid (Box.new w (oV o) 26)
  have HK := Lib.hid ((Below.refl w.heap.size w).alloc (Nat.le_refl _) (.cells (oV o).toArray 26))
  have HR := Lib.hid (hr.alloc (Nat.le_refl _) (.cells (oV o).toArray 26))
  have HZ := Lib.hid hz
  have HO := Lib.hid ho
  have H0 := Lib.hid (show anyEB zs o = anyEB (zs.drop 0) o by rw [List.drop_zero])
  have HN := Lib.hid (rfl : zs.length = zs.length)
  clear hr hz ho
  go_enter Try.func24, Try.ntmps24
  go_wp2_with fail
  generalize w.alloc (.cells (oV o).toArray 26) = W at *
  generalize hn : zs.length = n at HR hs ⊢
  have Hn := Lib.hid hn
  clear hn
  go_loopw [9] (fun i wr => ∃ j : Nat, j ≤ n ∧ i = .int .i64 j ∧ wr = W ∧ anyEB zs o = anyEB (zs.drop j) o) (fun i _ => n - (intOf i).toNat)
  case atStart => exact ⟨0, Nat.zero_le _, rfl, rfl, H0.out⟩
  case round =>
    obtain ⟨j, hj, rfl, rfl, hT⟩ := hrel
    have HT := Lib.hid hT
    clear hT
    by_cases hlt : j < n
    · have hl : j < zs.length := by rw [Hn.out]; exact hlt
      obtain ⟨b, off, rfl, hb, hcells⟩ := HR.out.at_ (by omega)
      have d0 := hcells j _ (ints_get hl)
      have HS := Lib.hid (any_step (o := o) hl)
      obtain ⟨r, hre⟩ : ∃ r, r = zs.getD j 0 := ⟨_, rfl⟩
      rw [← hre] at d0 HS
      obtain ⟨x, hx, hx15⟩ := nat_of (HZ.out r (by rw [hre]; exact getD_mem hl))
      have d1 := HB.out.cell (oV_at HO.out hx15)
      clear hcells hre hl
      subst hx
      have k0 : (0 : Int) ≤ j := by omega
      have k1 : (j : Int) < n := by omega
      have k2 : (x : Int) ≤ 15 := by omega
      have k3 : (0 : Int) ≤ x := by omega
      cases hq : (atO o x == 2)
      · go_wp2_with fail
        go_roundw
        case rel => exact ⟨j + 1, by omega, by go_num, by first | rfl | trivial, by rw [HT.out, HS.out, decide_eq_false (by simpa using hq)]; rfl⟩
        case measure => simp only [intOf]; omega
      · go_wp2_with fail
        go_ret
        exact ⟨ret_bool (by rw [HT.out, HS.out, decide_eq_true (by simpa using hq)]; rfl), HK.out⟩
    · go_wp2_with fail
      go_ret
      exact ⟨ret_bool (by rw [HT.out, List.drop_eq_nil_of_le (by rw [Hn.out]; omega)]; rfl), HK.out⟩

/-- A new row of one number. -/
theorem one_listed {w W : World} {t : TypeId} {x : Int} {zs : List Int} {B : Nat} (hB : W.heap.size = B) (hz : zs = [x]) (hb : Below w.heap.size w W) : ListedN w zs (.returned (.slice (some ⟨B, 0, none⟩) 1 1)) (W.alloc (.cells #[.int .i64 x] t)) := by
  subst hz hB
  refine ⟨_, rfl, ⟨rfl, _, _, rfl, Nat.le_refl _, by decide, (fun h => by cases h), fun _ => ⟨W.heap.size, 0, rfl, by simp, fun j u hu => ?_⟩⟩, fun a n c h => ?_, hb.alloc hb.size _⟩
  · have := new_cells W #[.int .i64 x] t [.int .i64 x] rfl j u hu
    rwa [add_spot] at this
  · injection h with h1 _ _
    injection h1 with h1
    subst h1; exact hb.size

set_option maxHeartbeats 1000000 in
theorem needs_any (i : Ins) (o : List Int) (w : World) (ho : o.length = 16) (hi : rightB i = true) :
    Calls Try.prog 25 #[.agg #[.int .i64 i.op, .int .i64 i.d, .int .i64 i.a, .int .i64 i.b, .int .i64 i.imm], .agg (oV o).toArray] w (ListedN w (needZ i o)) := by
  obtain ⟨W1, hW1⟩ : ∃ W1, W1 = w.alloc (.cells #[.int .i64 i.op, .int .i64 i.d, .int .i64 i.a, .int .i64 i.b, .int .i64 i.imm] 28) := ⟨_, rfl⟩
  obtain ⟨W2, hW2⟩ : ∃ W2, W2 = W1.alloc (.cells (oV o).toArray 26) := ⟨_, rfl⟩
  have hz1 : W1.heap.size = w.heap.size + 1 := by rw [hW1]; simp
  have hz2 : W2.heap.size = w.heap.size + 2 := by rw [hW2]; simp [hz1]
  have hK : Below w.heap.size w W2 := by rw [hW2, hW1]; exact ((Below.refl w.heap.size w).alloc (Nat.le_refl _) _).alloc (by simp) _
  have HB : Box W2 (w.heap.size + 1) (oV o) := by rw [hW2, ← hz1]; exact Box.new W1 (oV o) _
  have HI : Box W2 w.heap.size [.int .i64 i.op, .int .i64 i.d, .int .i64 i.a, .int .i64 i.b, .int .i64 i.imm] := by
    rw [hW2]; refine Box.alloc ?_ _; rw [hW1]; exact Box.new w [.int .i64 i.op, .int .i64 i.d, .int .i64 i.a, .int .i64 i.b, .int .i64 i.imm] _
  have c0 := HI.cell (k := 0) rfl
  have c1 := HI.cell (k := 1) rfl
  have c2 := HI.cell (k := 2) rfl
  have c3 := HI.cell (k := 3) rfl
  have c4 := HI.cell (k := 4) rfl
  have hr := right_range hi
  obtain ⟨nd, hd, hd15⟩ := nat_of hr.2.1
  have d1 := HB.cell (oV_at ho hd15)
  have HD := Lib.hid hd
  have HM : Hid (memB i.op = decide (formZ i.op = 4 ∨ formZ i.op = 5)) := rfl
  have HN := Lib.hid (show needZ i o = if memB i.op = true then [i.a] else if recB i.op = true ∧ atO o i.d = 1 then readsZ i else [] from rfl)
  have HKK := Lib.hid hK
  have k2 : i.d ≤ 15 := hr.2.1.2
  have k3 : 0 ≤ i.d := hr.2.1.1
  have e4 : i.d.toNat = nd := by omega
  rw [← e4] at d1
  have hF := formZ_range i.op
  clear hr hi HI HB hK hd
  go_enter Try.func25, Try.ntmps25
  go_wp2_with fail
  rw [← hW1, ← hW2]
  clear hW1 hW2
  refine (form_any _ _).mono ?_; rintro e w1 ⟨rfl, rfl⟩
  try dsimp only
  have HRD := Lib.hid (fun (h : memB i.op = true) => (show needZ i o = [i.a] by rw [HN.out, if_pos h]))
  by_cases h4 : formZ i.op = 4
  · have HM4 := Lib.hid (HRD.out (decide_eq_true (.inl h4)))
    rw [h4]
    go_wp2_with fail
    go_ret
    exact one_listed hz2 HM4.out HKK.out
  by_cases h5 : formZ i.op = 5
  · have HM4 := Lib.hid (HRD.out (decide_eq_true (.inr h5)))
    rw [h5]
    go_wp2_with fail
    go_ret
    exact one_listed hz2 HM4.out HKK.out
  · have q4 : (formZ i.op == 4) = false := by simpa using h4
    have q5 : (formZ i.op == 5) = false := by simpa using h5
    have HMN := Lib.hid (show memB i.op ≠ true by rw [HM.out]; simp [h4, h5])
    go_wp2_with fail
    refine (reckons_any _ _).mono ?_; rintro e w1 ⟨rfl, rfl⟩
    try dsimp only
    cases hrb : recB i.op
    · have HL := Lib.hid (show needZ i o = [] by rw [HN.out, if_neg HMN.out, if_neg (by rw [hrb]; simp)])
      go_wp2_with fail
      go_ret
      exact ListedN.nil HL.out HKK.out
    · have HQ := Lib.hid hrb
      have e5 : ((i.d.toNat : Nat) : Int) = i.d := by omega
      rw [e5] at d1
      clear e4 e5
      cases hq : (atO o i.d == 1)
      · have HL := Lib.hid (show needZ i o = [] by rw [HN.out, if_neg HMN.out, if_neg (by simp at hq; simp [hq])])
        go_wp2_with fail
        go_ret
        exact ListedN.nil HL.out HKK.out
      · have HL := Lib.hid (show needZ i o = readsZ i by rw [HN.out, if_neg HMN.out, if_pos ⟨HQ.out, by simpa using hq⟩])
        go_wp2_with fail
        refine (readsN_any i _).mono ?_; rintro e w1 ⟨v, rfl, hrow, hnew, hb1⟩
        go_wp2_with fail
        go_ret
        exact ⟨_, rfl, by rw [HL.out]; exact hrow, fun a n c h => Nat.le_trans (by omega) (hnew a n c h), HKK.out.trans (hb1.mono (by omega))⟩

/-- A part of an array as a row. -/
theorem box_row {w : World} {b : Nat} {o : List Int} (h : Box w b (oV o)) (ho : o.length = 16) : Row w w.heap.size 1 (.slice (some ⟨b, 1, none⟩) 15 15) 15 ((o.drop 1).map (Value.int .i64)) := by
  refine ⟨by simp [ho], _, _, rfl, Nat.le_refl _, by decide, (fun h => by cases h), fun _ => ⟨b, 1, rfl, h.lt, fun j u hu => h.cell ?_⟩⟩
  rw [show oV o = (o.map (Value.int .i64)) from rfl, ← hu, List.getElem?_map, List.getElem?_map, List.getElem?_drop]

theorem owners_step {o : List Int} (ho : o.length = 16) (j : Nat) (hj : j < 15) (f : Nat → Bool) : ((List.range 15).drop j).all f = (f j && ((List.range 15).drop (j + 1)).all f) := by
  rw [List.drop_eq_getElem_cons (by simpa using hj)]
  simp

set_option maxHeartbeats 1000000 in
theorem owners_any (o : List Int) (w : World) (ho : o.length = 16) :
    Calls Try.prog 23 #[.agg (oV o).toArray] w fun e w' => e = .returned (.bool (ownersB o)) ∧ Below w.heap.size w w' := by
  have HB := Lib.hid (Box.new w (oV o) 26)
  have HK := Lib.hid ((Below.refl w.heap.size w).alloc (Nat.le_refl _) (.cells (oV o).toArray 26))
  have c0 := HB.out.cell (oV_at ho (n := 0) (by omega))
  have HO := Lib.hid ho
  have HS := Lib.hid (show ownersB o = (decide (atO o 0 = 0) && ((List.range 15).drop 0).all fun k => decide (atO o ((k : Int) + 1) = 1 ∨ atO o ((k : Int) + 1) = 2)) by rw [List.drop_zero]; rfl)
  clear ho
  rw [show (((0 : Nat) : Int)) = 0 from rfl] at c0
  by_cases hq : atO o 0 = 0
  · have HQ := Lib.hid hq
    rw [hq] at c0
    clear hq
    go_enter Try.func23, Try.ntmps23
    go_wp2_with fail
    generalize w.alloc (.cells (oV o).toArray 26) = W at *
    go_loopw [10] (fun i wr => ∃ j : Nat, j ≤ 15 ∧ i = .int .i64 j ∧ wr = W ∧ ownersB o = ((List.range 15).drop j).all fun k => decide (atO o ((k : Int) + 1) = 1 ∨ atO o ((k : Int) + 1) = 2)) (fun i _ => 15 - (intOf i).toNat)
    case atStart => exact ⟨0, Nat.zero_le _, rfl, rfl, by rw [HS.out, decide_eq_true HQ.out]; rfl⟩
    case round =>
      obtain ⟨j, hj, rfl, rfl, hT⟩ := hrel
      have HT := Lib.hid hT
      clear hT
      by_cases hlt : j < 15
      · have HST := Lib.hid (owners_step HO.out j hlt (fun k => decide (atO o ((k : Int) + 1) = 1 ∨ atO o ((k : Int) + 1) = 2)))
        have d1 := HB.out.cell (oV_at HO.out (n := j + 1) (by omega))
        rw [show ((j + 1 : Nat) : Int) = (j : Int) + 1 from by omega] at d1
        have d2 : wr.cell? ⟨w.heap.size, 1 + j, none⟩ = some (.int .i64 (atO o ((j : Int) + 1))) := by rw [Nat.add_comm]; exact d1
        have k0 : (0 : Int) ≤ j := by omega
        have k1 : (j : Int) < 15 := by omega
        by_cases h1 : atO o ((j : Int) + 1) = 1
        · have HG := Lib.hid (show decide (atO o ((j : Int) + 1) = 1 ∨ atO o ((j : Int) + 1) = 2) = true from decide_eq_true (.inl h1))
          rw [h1] at d1 d2
          go_wp2_with fail
          go_roundw
          case rel => exact ⟨j + 1, by omega, by go_num, by first | rfl | trivial, by rw [HT.out, HST.out, HG.out]; rfl⟩
          case measure => simp only [intOf]; omega
        by_cases h2 : atO o ((j : Int) + 1) = 2
        · have HG := Lib.hid (show decide (atO o ((j : Int) + 1) = 1 ∨ atO o ((j : Int) + 1) = 2) = true from decide_eq_true (.inr h2))
          rw [h2] at d1 d2
          go_wp2_with fail
          go_roundw
          case rel => exact ⟨j + 1, by omega, by go_num, by first | rfl | trivial, by rw [HT.out, HST.out, HG.out]; rfl⟩
          case measure => simp only [intOf]; omega
        · have HG := Lib.hid (show decide (atO o ((j : Int) + 1) = 1 ∨ atO o ((j : Int) + 1) = 2) = false from decide_eq_false (fun h => h.elim h1 h2))
          have q1 : (atO o ((j : Int) + 1) != 1) = true := by simpa using h1
          have q2 : (atO o ((j : Int) + 1) != 2) = true := by simpa using h2
          go_wp2_with fail
          go_ret
          exact ⟨ret_bool (by rw [HT.out, HST.out, HG.out]; rfl), HK.out⟩
      · go_wp2_with fail
        go_ret
        exact ⟨ret_bool (by rw [HT.out, List.drop_eq_nil_of_le (by simp; omega)]; rfl), HK.out⟩
  · have HQ := Lib.hid hq
    have q0 : (atO o 0 != 0) = true := by simpa using hq
    clear hq
    go_enter Try.func23, Try.ntmps23
    go_wp2_with fail
    go_ret
    exact ⟨ret_bool (by rw [HS.out, decide_eq_false HQ.out]; rfl), HK.out⟩

theorem side_cases (i : Ins) (o : List Int) : True := trivial
end Go.Proofs.Ytehelfmpcbejeaa.Words

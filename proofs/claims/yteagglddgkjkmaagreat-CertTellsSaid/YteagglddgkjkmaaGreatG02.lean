/- Several texts in one: Kept, OnrSmall, Lin, OnrSide, OnrSideR, PData, Flat. -/
import Derived.Test.YteagglddgkjkmaaGreatG00
import Derived.Test.YteagglddgkjkmaaGreatG01
import Derived.LoopTactic
import Derived.Deep.RegionHeld3

/- 'Kept W x': below the heap of W nothing has turned. The condition for chains of calls that make memory. Nothing here speaks of one program. -/
namespace Go.Proofs.YteagglddgkjkmaaGreat.Words
set_option maxRecDepth 100000
open Go.RowKit
/-- Nothing that was there has turned. -/
def Kept (W x : World) : Prop := Below W.heap.size W x
theorem Kept.refl (W : World) : Kept W W := Below.refl _ _
theorem Kept.to {W x y : World} (h : Kept W x) (hb : Below x.heap.size x y) : Kept W y := Below.trans h (hb.mono (Below.size h))
theorem Kept.drewN {W x : World} (h : Kept W x) (k : Nat) : Kept W (x.drewN k) := Below.drewN_ h k
theorem Kept.drew {W x : World} (h : Kept W x) : Kept W x.drew := Below.drew h
theorem Kept.alloc {W x : World} (h : Kept W x) (o : Obj) : Kept W (x.alloc o) := Below.alloc h (Below.size h) o
theorem Kept.cell {W x : World} (h : Kept W x) {b o : Nat} {v : Value} (hb : b < W.heap.size) (hv : W.cell? ⟨b, o, none⟩ = some v) : x.cell? ⟨b, o, none⟩ = some v := by
  rw [Below.cell (p := ⟨b, o, none⟩) h hb]; exact hv
theorem Kept.size {W x : World} (h : Kept W x) : W.heap.size ≤ x.heap.size := Below.size h
theorem Kept.row {W x : World} (h : Kept W x) {s n : Nat} {v : Value} {xs : List Value} (hr : Row W W.heap.size s v n xs) : Row x x.heap.size s v n xs := (hr.below h).more h.size
theorem Kept.trans {W x y : World} (h : Kept W x) (g : Kept x y) : Kept W y := h.to g
end Go.Proofs.YteagglddgkjkmaaGreat.Words

/- Contracts of package owner's and the document's own small functions of chapter 11: what reckons, whether a register is on E, what an instruction needs. -/
namespace Go.Proofs.YteagglddgkjkmaaGreat.Words
set_option maxRecDepth 100000
open Go.RowKit
set_option linter.unusedVariables false
set_option linter.unusedSimpArgs false

/-- Registers as cells. -/
def oV (o : List Int) : List Value := o.map (Value.int .i64)
theorem oV_len (o : List Int) : (oV o).length = o.length := by simp [oV]
theorem oV_at {o : List Int} (h : o.length = 16) {n : Nat} (hn : n ≤ 15) : (oV o)[n]? = some (.int .i64 (atO o n)) := by
  unfold oV; rw [List.getElem?_map, atO_nat, List.getD_eq_getElem?_getD, List.getElem?_eq_getElem (show n < o.length by omega)]; rfl
theorem oV_set (o : List Int) (n : Nat) (x : Int) : (oV o).set n (.int .i64 x) = oV (o.set n x) := by unfold oV; rw [List.map_set]
theorem oV_one (o : List Int) : ∀ u ∈ oV o, u.oneCell' = true := by
  intro u hu
  obtain ⟨x, _, rfl⟩ := List.mem_map.1 hu; rfl
theorem ints_get {zs : List Int} {j : Nat} (h : j < zs.length) : (zs.map (Value.int .i64))[j]? = some (.int .i64 (zs.getD j 0)) := by
  rw [List.getElem?_map, List.getD_eq_getElem?_getD, List.getElem?_eq_getElem h]; rfl
theorem getD_mem {zs : List Int} {j : Nat} (h : j < zs.length) : zs.getD j 0 ∈ zs := by
  rw [List.getD_eq_getElem?_getD, List.getElem?_eq_getElem h]; exact List.getElem_mem h
theorem any_step {zs : List Int} {o : List Int} {j : Nat} (h : j < zs.length) : anyEB (zs.drop j) o = (decide (atO o (zs.getD j 0) = 2) || anyEB (zs.drop (j + 1)) o) := by
  rw [List.drop_eq_getElem_cons h, List.getD_eq_getElem?_getD, List.getElem?_eq_getElem h]; rfl

set_option maxHeartbeats 400000 in
theorem reckons_any (op : Int) (w : World) :
    Calls Tryz.prog 84 #[.int .i64 op] w fun e w' => e = .returned (.bool (recB op)) ∧ w = w' := by
  have hF := formZ_range op
  have HJ := Lib.hid (show recB op = decide (1 ≤ formZ op ∧ formZ op ≤ 3) from rfl)
  go_enter Tryz.func84, Tryz.ntmps84
  go_wp2_with fail
  refine (form_any _ _).mono ?_; rintro e w1 ⟨rfl, rfl⟩
  generalize formZ op = f at *
  by_cases h1 : 1 ≤ f
  · by_cases h3 : f ≤ 3
    · have g := Lib.hid (⟨h1, h3⟩ : 1 ≤ f ∧ f ≤ 3)
      go_wp2_with fail
      go_ret
      exact ⟨ret_bool (by rw [HJ.out, decide_eq_true g.out]), rfl⟩
    · have g := Lib.hid (fun h => h3 h.2 : ¬ (1 ≤ f ∧ f ≤ 3))
      have g3 : decide (f ≤ 3) = false := decide_eq_false h3
      go_wp2_with fail
      go_ret
      exact ⟨ret_bool (by rw [HJ.out, decide_eq_false g.out]), rfl⟩
  · have g := Lib.hid (fun h => h1 h.1 : ¬ (1 ≤ f ∧ f ≤ 3))
    go_wp2_with fail
    go_ret
    exact ⟨ret_bool (by rw [HJ.out, decide_eq_false g.out]), rfl⟩

set_option maxHeartbeats 1000000 in
theorem anyOnE_any (A : Option Addr) (c : Nat) (zs : List Int) (o : List Int) (w : World) (ho : o.length = 16) (hr : Row w w.heap.size 1 (.slice A zs.length c) zs.length (zs.map (Value.int .i64))) (hz : ∀ r ∈ zs, 0 ≤ r ∧ r ≤ 15) (hs : zs.length ≤ 8) :
    Calls Tryz.prog 56 #[.slice A zs.length c, .agg (oV o).toArray] w fun e w' => e = .returned (.bool (anyEB zs o)) ∧ Below w.heap.size w w' := by
  have HB := Lib.hid (Box.new w (oV o) 30)
  have HK := Lib.hid ((Below.refl w.heap.size w).alloc (Nat.le_refl _) (.cells (oV o).toArray 30))
  have HR := Lib.hid (hr.alloc (Nat.le_refl _) (.cells (oV o).toArray 30))
  have HZ := Lib.hid hz
  have HO := Lib.hid ho
  have H0 := Lib.hid (show anyEB zs o = anyEB (zs.drop 0) o by rw [List.drop_zero])
  have HN := Lib.hid (rfl : zs.length = zs.length)
  clear hr hz ho
  go_enter Tryz.func56, Tryz.ntmps56
  go_wp2_with fail
  generalize w.alloc (.cells (oV o).toArray 30) = W at *
  generalize hn : zs.length = n at HR hs ⊢
  have Hn := Lib.hid hn
  clear hn
  go_loopw [9] (fun i wr => ∃ j : Nat, j ≤ n ∧ i = .int .i64 j ∧ wr = W ∧ anyEB zs o = anyEB (zs.drop j) o) (fun i _ => n - (intOf i).toNat)
  case atStart => exact ⟨0, Nat.zero_le _, rfl, rfl, H0.out⟩
  case round =>
    obtain ⟨j, hj, rfl, rfl, hT⟩ := hrel
    have HT := Lib.hid hT
    clear hT
    by_cases hlt : j < n
    · have hl : j < zs.length := by rw [Hn.out]; exact hlt
      obtain ⟨b, off, rfl, hb, hcells⟩ := HR.out.at_ (by omega)
      have d0 := hcells j _ (ints_get hl)
      have HS := Lib.hid (any_step (o := o) hl)
      obtain ⟨r, hre⟩ : ∃ r, r = zs.getD j 0 := ⟨_, rfl⟩
      rw [← hre] at d0 HS
      obtain ⟨x, hx, hx15⟩ := nat_of (HZ.out r (by rw [hre]; exact getD_mem hl))
      have d1 := HB.out.cell (oV_at HO.out hx15)
      clear hcells hre hl
      subst hx
      have k0 : (0 : Int) ≤ j := by omega
      have k1 : (j : Int) < n := by omega
      have k2 : (x : Int) ≤ 15 := by omega
      have k3 : (0 : Int) ≤ x := by omega
      cases hq : (atO o x == 2)
      · go_wp2_with fail
        go_roundw
        case rel => exact ⟨j + 1, by omega, by go_num, by first | rfl | trivial, by rw [HT.out, HS.out, decide_eq_false (by simpa using hq)]; rfl⟩
        case measure => simp only [intOf]; omega
      · go_wp2_with fail
        go_ret
        exact ⟨ret_bool (by rw [HT.out, HS.out, decide_eq_true (by simpa using hq)]; rfl), HK.out⟩
    · go_wp2_with fail
      go_ret
      exact ⟨ret_bool (by rw [HT.out, List.drop_eq_nil_of_le (by rw [Hn.out]; omega)]; rfl), HK.out⟩

/-- A new row of one number. -/
theorem one_listed {w W : World} {t : TypeId} {x : Int} {zs : List Int} {B : Nat} (hB : W.heap.size = B) (hz : zs = [x]) (hb : Below w.heap.size w W) : ListedN w zs (.returned (.slice (some ⟨B, 0, none⟩) 1 1)) (W.alloc (.cells #[.int .i64 x] t)) := by
  subst hz hB
  refine ⟨_, rfl, ⟨rfl, _, _, rfl, Nat.le_refl _, by decide, (fun h => by cases h), fun _ => ⟨W.heap.size, 0, rfl, by simp, fun j u hu => ?_⟩⟩, fun a n c h => ?_, hb.alloc hb.size _⟩
  · have := new_cells W #[.int .i64 x] t [.int .i64 x] rfl j u hu
    rwa [add_spot] at this
  · injection h with h1 _ _
    injection h1 with h1
    subst h1; exact hb.size

set_option maxHeartbeats 1000000 in
theorem needs_any (i : Ins) (o : List Int) (w : World) (ho : o.length = 16) (hi : rightB i = true) :
    Calls Tryz.prog 57 #[.agg #[.int .i64 i.op, .int .i64 i.d, .int .i64 i.a, .int .i64 i.b, .int .i64 i.imm], .agg (oV o).toArray] w (ListedN w (needZ i o)) := by
  obtain ⟨W1, hW1⟩ : ∃ W1, W1 = w.alloc (.cells #[.int .i64 i.op, .int .i64 i.d, .int .i64 i.a, .int .i64 i.b, .int .i64 i.imm] 44) := ⟨_, rfl⟩
  obtain ⟨W2, hW2⟩ : ∃ W2, W2 = W1.alloc (.cells (oV o).toArray 30) := ⟨_, rfl⟩
  have hz1 : W1.heap.size = w.heap.size + 1 := by rw [hW1]; simp
  have hz2 : W2.heap.size = w.heap.size + 2 := by rw [hW2]; simp [hz1]
  have hK : Below w.heap.size w W2 := by rw [hW2, hW1]; exact ((Below.refl w.heap.size w).alloc (Nat.le_refl _) _).alloc (by simp) _
  have HB : Box W2 (w.heap.size + 1) (oV o) := by rw [hW2, ← hz1]; exact Box.new W1 (oV o) _
  have HI : Box W2 w.heap.size [.int .i64 i.op, .int .i64 i.d, .int .i64 i.a, .int .i64 i.b, .int .i64 i.imm] := by
    rw [hW2]; refine Box.alloc ?_ _; rw [hW1]; exact Box.new w [.int .i64 i.op, .int .i64 i.d, .int .i64 i.a, .int .i64 i.b, .int .i64 i.imm] _
  have c0 := HI.cell (k := 0) rfl
  have c1 := HI.cell (k := 1) rfl
  have c2 := HI.cell (k := 2) rfl
  have c3 := HI.cell (k := 3) rfl
  have c4 := HI.cell (k := 4) rfl
  have hr := right_range hi
  obtain ⟨nd, hd, hd15⟩ := nat_of hr.2.1
  have d1 := HB.cell (oV_at ho hd15)
  have HD := Lib.hid hd
  have HM : Hid (memB i.op = decide (formZ i.op = 4 ∨ formZ i.op = 5)) := rfl
  have HN := Lib.hid (show needZ i o = if memB i.op = true then [i.a] else if recB i.op = true ∧ atO o i.d = 1 then readsZ i else [] from rfl)
  have HKK := Lib.hid hK
  have k2 : i.d ≤ 15 := hr.2.1.2
  have k3 : 0 ≤ i.d := hr.2.1.1
  have e4 : i.d.toNat = nd := by omega
  rw [← e4] at d1
  have hF := formZ_range i.op
  clear hr hi HI HB hK hd
  go_enter Tryz.func57, Tryz.ntmps57
  go_wp2_with fail
  rw [← hW1, ← hW2]
  clear hW1 hW2
  refine (form_any _ _).mono ?_; rintro e w1 ⟨rfl, rfl⟩
  try dsimp only
  have HRD := Lib.hid (fun (h : memB i.op = true) => (show needZ i o = [i.a] by rw [HN.out, if_pos h]))
  by_cases h4 : formZ i.op = 4
  · have HM4 := Lib.hid (HRD.out (decide_eq_true (.inl h4)))
    rw [h4]
    go_wp2_with fail
    go_ret
    exact one_listed hz2 HM4.out HKK.out
  by_cases h5 : formZ i.op = 5
  · have HM4 := Lib.hid (HRD.out (decide_eq_true (.inr h5)))
    rw [h5]
    go_wp2_with fail
    go_ret
    exact one_listed hz2 HM4.out HKK.out
  · have q4 : (formZ i.op == 4) = false := by simpa using h4
    have q5 : (formZ i.op == 5) = false := by simpa using h5
    have HMN := Lib.hid (show memB i.op ≠ true by rw [HM.out]; simp [h4, h5])
    go_wp2_with fail
    refine (reckons_any _ _).mono ?_; rintro e w1 ⟨rfl, rfl⟩
    try dsimp only
    cases hrb : recB i.op
    · have HL := Lib.hid (show needZ i o = [] by rw [HN.out, if_neg HMN.out, if_neg (by rw [hrb]; simp)])
      go_wp2_with fail
      go_ret
      exact ListedN.nil HL.out HKK.out
    · have HQ := Lib.hid hrb
      have e5 : ((i.d.toNat : Nat) : Int) = i.d := by omega
      rw [e5] at d1
      clear e4 e5
      cases hq : (atO o i.d == 1)
      · have HL := Lib.hid (show needZ i o = [] by rw [HN.out, if_neg HMN.out, if_neg (by simp at hq; simp [hq])])
        go_wp2_with fail
        go_ret
        exact ListedN.nil HL.out HKK.out
      · have HL := Lib.hid (show needZ i o = readsZ i by rw [HN.out, if_neg HMN.out, if_pos ⟨HQ.out, by simpa using hq⟩])
        go_wp2_with fail
        refine (readsN_any i _).mono ?_; rintro e w1 ⟨v, rfl, hrow, hnew, hb1⟩
        go_wp2_with fail
        go_ret
        exact ⟨_, rfl, by rw [HL.out]; exact hrow, fun a n c h => Nat.le_trans (by omega) (hnew a n c h), HKK.out.trans (hb1.mono (by omega))⟩

/-- A part of an array as a row. -/
theorem box_row {w : World} {b : Nat} {o : List Int} (h : Box w b (oV o)) (ho : o.length = 16) : Row w w.heap.size 1 (.slice (some ⟨b, 1, none⟩) 15 15) 15 ((o.drop 1).map (Value.int .i64)) := by
  refine ⟨by simp [ho], _, _, rfl, Nat.le_refl _, by decide, (fun h => by cases h), fun _ => ⟨b, 1, rfl, h.lt, fun j u hu => h.cell ?_⟩⟩
  rw [show oV o = (o.map (Value.int .i64)) from rfl, ← hu, List.getElem?_map, List.getElem?_map, List.getElem?_drop]

theorem owners_step {o : List Int} (ho : o.length = 16) (j : Nat) (hj : j < 15) (f : Nat → Bool) : ((List.range 15).drop j).all f = (f j && ((List.range 15).drop (j + 1)).all f) := by
  rw [List.drop_eq_getElem_cons (by simpa using hj)]
  simp

set_option maxHeartbeats 1000000 in
theorem owners_any (o : List Int) (w : World) (ho : o.length = 16) :
    Calls Tryz.prog 54 #[.agg (oV o).toArray] w fun e w' => e = .returned (.bool (ownersB o)) ∧ Below w.heap.size w w' := by
  have HB := Lib.hid (Box.new w (oV o) 30)
  have HK := Lib.hid ((Below.refl w.heap.size w).alloc (Nat.le_refl _) (.cells (oV o).toArray 30))
  have c0 := HB.out.cell (oV_at ho (n := 0) (by omega))
  have HO := Lib.hid ho
  have HS := Lib.hid (show ownersB o = (decide (atO o 0 = 0) && ((List.range 15).drop 0).all fun k => decide (atO o ((k : Int) + 1) = 1 ∨ atO o ((k : Int) + 1) = 2)) by rw [List.drop_zero]; rfl)
  clear ho
  rw [show (((0 : Nat) : Int)) = 0 from rfl] at c0
  by_cases hq : atO o 0 = 0
  · have HQ := Lib.hid hq
    rw [hq] at c0
    clear hq
    go_enter Tryz.func54, Tryz.ntmps54
    go_wp2_with fail
    generalize w.alloc (.cells (oV o).toArray 30) = W at *
    go_loopw [10] (fun i wr => ∃ j : Nat, j ≤ 15 ∧ i = .int .i64 j ∧ wr = W ∧ ownersB o = ((List.range 15).drop j).all fun k => decide (atO o ((k : Int) + 1) = 1 ∨ atO o ((k : Int) + 1) = 2)) (fun i _ => 15 - (intOf i).toNat)
    case atStart => exact ⟨0, Nat.zero_le _, rfl, rfl, by rw [HS.out, decide_eq_true HQ.out]; rfl⟩
    case round =>
      obtain ⟨j, hj, rfl, rfl, hT⟩ := hrel
      have HT := Lib.hid hT
      clear hT
      by_cases hlt : j < 15
      · have HST := Lib.hid (owners_step HO.out j hlt (fun k => decide (atO o ((k : Int) + 1) = 1 ∨ atO o ((k : Int) + 1) = 2)))
        have d1 := HB.out.cell (oV_at HO.out (n := j + 1) (by omega))
        rw [show ((j + 1 : Nat) : Int) = (j : Int) + 1 from by omega] at d1
        have d2 : wr.cell? ⟨w.heap.size, 1 + j, none⟩ = some (.int .i64 (atO o ((j : Int) + 1))) := by rw [Nat.add_comm]; exact d1
        have k0 : (0 : Int) ≤ j := by omega
        have k1 : (j : Int) < 15 := by omega
        by_cases h1 : atO o ((j : Int) + 1) = 1
        · have HG := Lib.hid (show decide (atO o ((j : Int) + 1) = 1 ∨ atO o ((j : Int) + 1) = 2) = true from decide_eq_true (.inl h1))
          rw [h1] at d1 d2
          go_wp2_with fail
          go_roundw
          case rel => exact ⟨j + 1, by omega, by go_num, by first | rfl | trivial, by rw [HT.out, HST.out, HG.out]; rfl⟩
          case measure => simp only [intOf]; omega
        by_cases h2 : atO o ((j : Int) + 1) = 2
        · have HG := Lib.hid (show decide (atO o ((j : Int) + 1) = 1 ∨ atO o ((j : Int) + 1) = 2) = true from decide_eq_true (.inr h2))
          rw [h2] at d1 d2
          go_wp2_with fail
          go_roundw
          case rel => exact ⟨j + 1, by omega, by go_num, by first | rfl | trivial, by rw [HT.out, HST.out, HG.out]; rfl⟩
          case measure => simp only [intOf]; omega
        · have HG := Lib.hid (show decide (atO o ((j : Int) + 1) = 1 ∨ atO o ((j : Int) + 1) = 2) = false from decide_eq_false (fun h => h.elim h1 h2))
          have q1 : (atO o ((j : Int) + 1) != 1) = true := by simpa using h1
          have q2 : (atO o ((j : Int) + 1) != 2) = true := by simpa using h2
          go_wp2_with fail
          go_ret
          exact ⟨ret_bool (by rw [HT.out, HST.out, HG.out]; rfl), HK.out⟩
      · go_wp2_with fail
        go_ret
        exact ⟨ret_bool (by rw [HT.out, List.drop_eq_nil_of_le (by simp; omega)]; rfl), HK.out⟩
  · have HQ := Lib.hid hq
    have q0 : (atO o 0 != 0) = true := by simpa using hq
    clear hq
    go_enter Tryz.func54, Tryz.ntmps54
    go_wp2_with fail
    go_ret
    exact ⟨ret_bool (by rw [HS.out, decide_eq_false HQ.out]; rfl), HK.out⟩

theorem side_cases (i : Ins) (o : List Int) : True := trivial
end Go.Proofs.YteagglddgkjkmaaGreat.Words

/- A law of no one program: A REGION THAT DRAWS ITS ORDER, WALKED IN ONE ORDER. 'linOk' (reckoned by the kernel) says of an order: an operation that is marked (it only reads) may come up at its time and waits for nobody it could disturb; one that is not marked is alone in being able to come up.
   The condition S on the world may be made stronger on the way ('lin_more'): so what a callee has just made may be read by an operation that Go may carry out later. -/
namespace Go.Proofs.YteagglddgkjkmaaGreat.Words
set_option maxRecDepth 100000
open Go.RowKit

def linOk (md : Region.Mode) (ops : Array Oper) : List (Nat × Bool) → Array Bool → Bool
  | [], listed => (Region.ready md ops listed).isEmpty
  | (i, true) :: rest, listed => (Region.ready md ops listed).contains i && Region.free md ops listed i && linOk md ops rest (listed.setIfInBounds i true)
  | (i, false) :: rest, listed => (Region.ready md ops listed == [i]) && linOk md ops rest (listed.setIfInBounds i true)

section
variable {P : Program} {ops : Array Oper} {Q : Exit → Act → World → Prop} {md : Region.Mode}

/-- One operation that may turn the world. -/
def linStep (P : Program) (ops : Array Oper) (Q : Exit → Act → World → Prop) (o : Oper) (K : Act → World → Prop) (a : Act) (w : World) : Prop :=
  if Region.wanted o (yielded ops a.tmps) = true then o.wp P a w K Q else K (a.put o.dst undef) w

def wpLin (P : Program) (ops : Array Oper) (Q : Exit → Act → World → Prop) : List (Option Oper × Bool) → (World → Prop) → Act → World → Prop
  | [], _, a, w => Q .normal a w
  | (none, _) :: _, _, _, _ => False
  | (some o, true) :: rest, S, a, w => ∃ S' : World → Prop, (∀ x, S' x → S x) ∧ S' w ∧ ∃ v, YieldsIf P ops S' o v a ∧ wpLin P ops Q rest S' (a.put o.dst v) w
  | (some o, false) :: rest, S, a, w => ∃ S' : World → Prop, (∀ x, S' x → S x) ∧ S' w ∧ linStep P ops Q o (fun a' w' => S' w' ∧ wpLin P ops Q rest S' a' w') a w

theorem held_weaken {S S' : World → Prop} (hS : ∀ x, S' x → S x) : ∀ (fuel : Nat) (listed : Array Bool) (a : Act) (w : World), wpAnyH P md ops Q S' fuel listed a w → wpAnyH P md ops Q S fuel listed a w
  | 0, _, _, _, h => h
  | fuel + 1, _, _, _, h => ⟨h.1, fun i hi => wpOp_mono (fun a' w' h' => ⟨hS _ h'.1, held_weaken hS fuel _ a' w' h'.2⟩) (h.2 i hi)⟩

theorem held_lin (hs : Region.noSelect ops = true) (hQ : ∀ d v c a w, Q (.panic c) (a.put d v) w → Q (.panic c) a w) :
    ∀ (order : List (Nat × Bool)) (listed : Array Bool) (S : World → Prop) (a : Act) (w : World), linOk md ops order listed = true →
      wpLin P ops Q (order.map fun p => (ops[p.1]?, p.2)) S a w → wpAnyH P md ops Q S order.length listed a w
  | [], listed, S, a, w, hok, h => ⟨by simpa [linOk] using hok, h⟩
  | (i, true) :: rest, listed, S, a, w, hok, h => by
    simp only [linOk, Bool.and_eq_true] at hok
    obtain ⟨⟨h1, h2⟩, h3⟩ := hok
    rcases ho : ops[i]? with _ | o
    · simp only [List.map_cons, ho, wpLin] at h
    · simp only [List.map_cons, ho, wpLin] at h
      obtain ⟨S', k1, k2, v, k3, k4⟩ := h
      exact held_weaken k1 _ _ _ _ (wpAnyH_take ho hs h2 h1 (hQ _ _) k3 k2 (held_lin hs hQ rest _ S' _ w h3 k4))
  | (i, false) :: rest, listed, S, a, w, hok, h => by
    simp only [linOk, Bool.and_eq_true, beq_iff_eq] at hok
    obtain ⟨h1, h3⟩ := hok
    rcases ho : ops[i]? with _ | o
    · simp only [List.map_cons, ho, wpLin] at h
    · simp only [List.map_cons, ho, wpLin] at h
      obtain ⟨S', k1, k2, k3⟩ := h
      refine held_weaken k1 _ _ _ _ (wpAnyH_all h1 (by simp) fun j hj => ?_)
      have hji : j = i := by simpa using hj
      subst hji
      unfold wpOp
      simp only [ho]
      unfold linStep at k3
      split at k3
      · rename_i hw
        rw [if_pos hw]
        exact .inl (Oper.wp_mono (fun a' w' hk => ⟨hk.1, held_lin hs hQ rest _ S' a' w' h3 hk.2⟩) k3)
      · rename_i hw
        rw [if_neg hw]
        exact ⟨k3.1, held_lin hs hQ rest _ S' _ _ h3 k3.2⟩

/-- THE REGION. -/
theorem wp_region_lin {id : Nat} {a : Act} {w : World} (order : List (Nat × Bool)) (hm : P.follows .mixedOrders = true) (hs : Region.noSelect ops = true) (hl : order.length = ops.size)
    (hok : linOk .any ops order (Array.replicate ops.size false) = true) (S : World → Prop)
    (h : wpLin P ops (NoPanic Q) (order.map fun p => (ops[p.1]?, p.2)) S a w.drew) : (Code.region id ops true).wp P Q a w := by
  refine wp_region_noPanic (wp_region_held hm (S := S) ?_)
  have hh := held_lin hs (fun _ _ _ _ _ h => h) order _ S a w.drew hok h
  rw [hl] at hh
  exact hh

theorem lin_take {o : Oper} {rest : List (Option Oper × Bool)} {S : World → Prop} {a : Act} {w : World} {v : Value} (hS : S w)
    (hw : Region.wanted o (yielded ops a.tmps) = true) (hy : ∀ x, S x → (execOp a.eval o).run P x = .ok (.value v) x)
    (h : wpLin P ops Q rest S (a.put o.dst v) w) : wpLin P ops Q ((some o, true) :: rest) S a w := ⟨S, fun _ h => h, hS, v, .inl ⟨hw, hy⟩, h⟩
theorem lin_skip {o : Oper} {rest : List (Option Oper × Bool)} {S : World → Prop} {a : Act} {w : World} (hS : S w)
    (hw : Region.wanted o (yielded ops a.tmps) = false) (h : wpLin P ops Q rest S (a.put o.dst undef) w) : wpLin P ops Q ((some o, true) :: rest) S a w := ⟨S, fun _ h => h, hS, undef, .inr ⟨hw, rfl⟩, h⟩
theorem lin_call {o : Oper} {rest : List (Option Oper × Bool)} {S : World → Prop} {a : Act} {w : World} (hS : S w) (hw : Region.wanted o (yielded ops a.tmps) = true)
    (h : ∀ K : Act → World → Prop, Shut (∀ a w, S w → (S w → wpLin P ops Q rest S a w) → K a w) → Oper.wp P o a w K Q) : wpLin P ops Q ((some o, false) :: rest) S a w :=
  ⟨S, fun _ h => h, hS, by unfold linStep; rw [if_pos hw]; exact h _ (fun _ _ h1 h2 => ⟨h1, h2 h1⟩)⟩
theorem lin_more {l : List (Option Oper × Bool)} {S S' : World → Prop} {a : Act} {w : World} (h1 : ∀ x, S' x → S x) (h : wpLin P ops Q l S' a w) : wpLin P ops Q l S a w := by
  rcases l with _ | ⟨⟨o, b⟩, rest⟩
  · exact h
  · rcases o with _ | o
    · exact h
    · cases b
      · obtain ⟨S2, k1, k2⟩ := h
        exact ⟨S2, fun x hx => h1 x (k1 x hx), k2⟩
      · obtain ⟨S2, k1, k2⟩ := h
        exact ⟨S2, fun x hx => h1 x (k1 x hx), k2⟩
theorem lin_done {S : World → Prop} {a : Act} {w : World} (h : Q .normal a w) : wpLin P ops (NoPanic Q) [] S a w := h
end
end Go.Proofs.YteagglddgkjkmaaGreat.Words

/- Contracts of the side that does an instruction: package owner's and the document's own; of the document's small functions of chapter 11. -/
namespace Go.Proofs.YteagglddgkjkmaaGreat.Words
set_option maxRecDepth 100000
open Go.RowKit
set_option linter.unusedVariables false
set_option linter.unusedSimpArgs false

section
variable {P : Program} {ops : Array Oper} {rest : List (Option Oper × Bool)} {op : Oper} {a : Act} {Q : Exit → Act → World → Prop} {S : World → Prop} {w : World}
/-- In a region that draws its order: a variable of many cells is read. -/
theorem lin_take_box (hS : S w) (hw : Region.wanted op (yielded ops a.tmps) = true) (ty : TypeId) (x : Operand) (ho : op.op = .load ty x)
    (b k : Nat) (hx : a.eval x = .pointer (some ⟨b, k, none⟩)) (l cs : List Value) (hb : ∀ y, S y → Box y b l) (hc : ∀ j v, cs[j]? = some v → l[k + j]? = some v) (d : TypeDesc)
    (hu : P.underlying ty = some d) (hd : d.isRow = true) (n : Nat) (hi : (P.info? ty).map (·.size) = some n) (hn : cs.length = n)
    (h : wpLin P ops Q rest S (a.put op.dst (.agg cs.toArray)) w) : wpLin P ops Q ((some op, true) :: rest) S a w :=
  ⟨S, fun _ h => h, hS, _, yieldsIf_load_mid hw ty x ho b k hx cs d (fun y hy => (hb y hy).range hc) hu hd (by rw [hn]; exact hi), h⟩
end
theorem reads_len (i : Ins) : (readsZ i).length ≤ 2 := by
  unfold readsZ
  repeat' split
  all_goals simp
theorem whole_at {l : List Value} : ∀ j v, l[j]? = some v → l[0 + j]? = some v := fun j v h => by rw [Nat.zero_add]; exact h
/-- An instruction's cells. -/
def insV (i : Ins) : List Value := [.int .i64 i.op, .int .i64 i.d, .int .i64 i.a, .int .i64 i.b, .int .i64 i.imm]
theorem Box.kept {W x : World} {b : Nat} {l : List Value} (h : Box W b l) (hk : Kept W x) : Box x b l := h.below hk h.lt

def sideZ (i : Ins) (o : List Int) : Int := if recB i.op = false then 0 else if (if i.d = 0 then anyEB (readsZ i) o = false else (0 < i.d ∧ i.d < 16 ∧ atO o i.d = 1)) then 1 else 2
theorem sideZ_no {i : Ins} {o : List Int} (h : recB i.op = false) : sideZ i o = 0 := by unfold sideZ; rw [if_pos h]
theorem sideZ_0 {i : Ins} {o : List Int} (h : recB i.op = true) (hd : i.d = 0) : sideZ i o = if anyEB (readsZ i) o = false then 1 else 2 := by
  unfold sideZ; rw [if_neg (by rw [h]; decide)]; simp only [hd, if_true]
theorem sideZ_d {i : Ins} {o : List Int} (h : recB i.op = true) (hd : ¬ i.d = 0) : sideZ i o = if 0 < i.d ∧ i.d < 16 ∧ atO o i.d = 1 then 1 else 2 := by
  unfold sideZ; rw [if_neg (by rw [h]; decide)]; simp only [hd, if_false]

set_option maxHeartbeats 2000000 in
theorem side_any (i : Ins) (o : List Int) (w : World) (ho : o.length = 16) :
    Calls Tryz.prog 110 #[.agg #[.int .i64 i.op, .int .i64 i.d, .int .i64 i.a, .int .i64 i.b, .int .i64 i.imm], .agg (oV o).toArray] w fun e w' => e = .returned (.int .i64 (sideZ i o)) ∧ Below w.heap.size w w' := by
  obtain ⟨W1, hW1⟩ : ∃ W1, W1 = w.alloc (.cells #[.int .i64 i.op, .int .i64 i.d, .int .i64 i.a, .int .i64 i.b, .int .i64 i.imm] 44) := ⟨_, rfl⟩
  obtain ⟨W2, hW2⟩ : ∃ W2, W2 = W1.alloc (.cells (oV o).toArray 30) := ⟨_, rfl⟩
  have hz1 : W1.heap.size = w.heap.size + 1 := by rw [hW1]; simp
  have hz2 : W2.heap.size = w.heap.size + 2 := by rw [hW2]; simp [hz1]
  have hK : Below w.heap.size w W2 := by rw [hW2, hW1]; exact ((Below.refl w.heap.size w).alloc (Nat.le_refl _) _).alloc (by simp) _
  have HB0 : Box W2 (w.heap.size + 1) (oV o) := by rw [hW2, ← hz1]; exact Box.new W1 (oV o) _
  have HI : Box W2 w.heap.size [.int .i64 i.op, .int .i64 i.d, .int .i64 i.a, .int .i64 i.b, .int .i64 i.imm] := by
    rw [hW2]; refine Box.alloc ?_ _; rw [hW1]; exact Box.new w [.int .i64 i.op, .int .i64 i.d, .int .i64 i.a, .int .i64 i.b, .int .i64 i.imm] _
  have c0 := HI.cell (k := 0) rfl
  have c1 := HI.cell (k := 1) rfl
  have HB := Lib.hid HB0
  have HIB := Lib.hid HI
  have HO := Lib.hid ho
  have HKK := Lib.hid hK
  clear HI HB0 hK ho
  go_enter Tryz.func110, Tryz.ntmps110
  go_wp2_with fail
  rw [← hW1, ← hW2]
  clear hW1 hW2
  refine (reckons_any _ _).mono ?_; rintro e w1 ⟨rfl, rfl⟩
  try dsimp only
  cases hrb : recB i.op
  · have HL := Lib.hid (sideZ_no (o := o) hrb)
    clear hrb
    go_wp2_with fail
    go_ret
    exact ⟨ret_int HL.out.symm, HKK.out⟩
  by_cases hd0 : i.d = 0
  · have HL := Lib.hid (sideZ_0 (o := o) hrb hd0)
    rw [hd0] at c1
    have HRL := Lib.hid (reads_len i)
    clear hrb hd0
    go_wp2_with fail
    refine wp_region_lin [(0, true), (2, true), (1, false), (3, false), (4, true), (5, true)]
      (by kernel_rfl) (by kernel_rfl) rfl (by kernel_rfl) (Kept W2) ?_
    have k0 : Kept W2 W2.drew := (Kept.refl W2).drew
    simp only [List.map_cons, List.map_nil, List.getElem?_toArray, List.getElem?_cons_succ, List.getElem?_cons_zero]
    refine lin_take_box k0 rfl 44 (.tmp 2) rfl w.heap.size 0 rfl (insV i) (insV i) (fun y hy => HIB.out.kept hy) whole_at _ Tryz.underlying44 rfl 5 (by kernel_rfl) rfl ?_
    refine lin_take_box k0 rfl 30 (.tmp 3) rfl (w.heap.size + 1) 0 rfl (oV o) (oV o) (fun y hy => HB.out.kept hy) whole_at _ Tryz.underlying30 rfl 16 (by kernel_rfl) ((oV_len o).trans HO.out) ?_
    simp only [Act.put, List.setIfInBounds_toArray, List.set_cons_zero, List.set_cons_succ]
    refine lin_call k0 (by rfl) (fun K hK => ?_)
    go_simp
    refine (readsN_any i _).mono ?_; rintro e w1 ⟨v, rfl, hrow, hnew, hb1⟩
    go_wp2_with fail
    have k1 := k0.to hb1
    refine hK.out _ _ k1 (fun _ => ?_)
    clear hK K hb1
    obtain ⟨A1, c1', rfl⟩ := hrow.form
    try simp only [Act.put, List.setIfInBounds_toArray, List.set_cons_zero, List.set_cons_succ]
    refine lin_call k1 (by rfl) (fun K hK => ?_)
    go_simp
    refine (anyOnE_any A1 c1' (readsZ i) o _ HO.out hrow (fun r hr => by have := reads_mem hr; omega) (by have := HRL.out; omega)).mono ?_; rintro e w2 ⟨rfl, hb2⟩
    go_wp2_with fail
    have k2 := k1.to hb2
    refine hK.out _ _ k2 (fun _ => ?_)
    clear hK K hb2
    try simp only [Act.put, List.setIfInBounds_toArray, List.set_cons_zero, List.set_cons_succ]
    have HK2 := Lib.hid (HKK.out.trans (Below.mono k2 (by omega)))
    cases hq : anyEB (readsZ i) o
    · have HE := Lib.hid (HL.out.trans (if_pos hq))
      iterate 2 (refine lin_take (v := ?_) (by assumption) (by rfl) ?_ ?_; rotate_left; (intro x hx; (try dsimp only at hx); go_simp; try (with_reducible rfl)); (try simp only [Act.put, List.setIfInBounds_toArray, List.set_cons_zero, List.set_cons_succ]))
      refine lin_done ?_
      go_wp2_with fail
      go_ret
      exact ⟨ret_int HE.out.symm, HK2.out⟩
    · have HE := Lib.hid (HL.out.trans (if_neg (by rw [hq]; decide)))
      iterate 2 (refine lin_take (v := ?_) (by assumption) (by rfl) ?_ ?_; rotate_left; (intro x hx; (try dsimp only at hx); go_simp; try (with_reducible rfl)); (try simp only [Act.put, List.setIfInBounds_toArray, List.set_cons_zero, List.set_cons_succ]))
      refine lin_done ?_
      go_wp2_with fail
      go_ret
      exact ⟨ret_int HE.out.symm, HK2.out⟩
  · have HL := Lib.hid (sideZ_d (o := o) hrb hd0)
    have q0 : (i.d == 0) = false := by simpa using hd0
    clear hrb hd0
    by_cases h1 : 0 < i.d
    · by_cases h2 : i.d < 16
      · have d1 := HB.out.cell (oV_at HO.out (n := i.d.toNat) (by omega))
        have e5 : ((i.d.toNat : Nat) : Int) = i.d := by omega
        rw [e5] at d1
        clear e5
        have e6 := Lib.hid h1
        have e7 := Lib.hid h2
        have e8 : 0 ≤ i.d := by omega
        cases hq : (atO o i.d == 1)
        · have HE := Lib.hid (HL.out.trans (if_neg (fun h => by rw [h.2.2] at hq; exact absurd hq (by decide))))
          go_wp2_with fail
          go_ret
          exact ⟨ret_int HE.out.symm, HKK.out⟩
        · have HE := Lib.hid (HL.out.trans (if_pos ⟨h1, h2, by simpa using hq⟩))
          go_wp2_with fail
          go_ret
          exact ⟨ret_int HE.out.symm, HKK.out⟩
      · have HE := Lib.hid (HL.out.trans (if_neg (fun h => h2 h.2.1)))
        go_wp2_with fail
        go_ret
        exact ⟨ret_int HE.out.symm, HKK.out⟩
    · have HE := Lib.hid (HL.out.trans (if_neg (fun h => h1 h.1)))
      go_wp2_with fail
      go_ret
      exact ⟨ret_int HE.out.symm, HKK.out⟩
end Go.Proofs.YteagglddgkjkmaaGreat.Words

/- Contracts of the document's own small functions of chapter 11: is a register on E, is any, whose is it, which side. -/
namespace Go.Proofs.YteagglddgkjkmaaGreat.Words
set_option maxRecDepth 100000
open Go.RowKit
set_option linter.unusedVariables false
set_option linter.unusedSimpArgs false

/-- Raw: is a register on E? -/
def onEB (o : List Int) (r : Int) : Bool := decide (0 < r) && decide (atO o r = 2)
set_option maxHeartbeats 1000000 in
theorem refOnE_any (o : List Int) (r : Int) (w : World) (ho : o.length = 16) (hr : r ≤ 15) :
    Calls Tryz.prog 65 #[.agg (oV o).toArray, .int .i64 r] w fun e w' => e = .returned (.bool (onEB o r)) ∧ Below w.heap.size w w' := by
  have HB := Lib.hid (Box.new w (oV o) 30)
  have HK := Lib.hid ((Below.refl w.heap.size w).alloc (Nat.le_refl _) (.cells (oV o).toArray 30))
  have HL := Lib.hid (show onEB o r = (decide (0 < r) && decide (atO o r = 2)) from rfl)
  by_cases h0 : 0 < r
  · have d1 := HB.out.cell (oV_at ho (n := r.toNat) (by omega))
    have e5 : ((r.toNat : Nat) : Int) = r := by omega
    rw [e5] at d1
    have H0 := Lib.hid h0
    clear e5 ho
    have e8 : 0 ≤ r := by omega
    go_enter Tryz.func65, Tryz.ntmps65
    cases hq : (atO o r == 2)
    · have HE := Lib.hid (show onEB o r = false by rw [HL.out, decide_eq_false (p := atO o r = 2) (by simpa using hq)]; simp)
      go_wp2_with fail
      go_ret
      exact ⟨ret_bool HE.out.symm, HK.out⟩
    · have HE := Lib.hid (show onEB o r = true by rw [HL.out, decide_eq_true (p := atO o r = 2) (by simpa using hq), decide_eq_true h0]; rfl)
      go_wp2_with fail
      go_ret
      exact ⟨ret_bool HE.out.symm, HK.out⟩
  · have HE := Lib.hid (show onEB o r = false by rw [HL.out, decide_eq_false h0]; rfl)
    go_enter Tryz.func65, Tryz.ntmps65
    go_wp2_with fail
    go_ret
    exact ⟨ret_bool HE.out.symm, HK.out⟩

theorem anyR_eq {zs : List Int} (o : List Int) (hz : ∀ r ∈ zs, 1 ≤ r ∧ r ≤ 15) : zs.any (onEB o) = anyEB zs o := by
  induction zs with
  | nil => rfl
  | cons z zs ih =>
    have := hz z (by simp)
    unfold anyEB at *
    rw [List.any_cons, List.any_cons, ih (fun r hr => hz r (by simp [hr]))]
    unfold onEB
    rw [decide_eq_true (p := 0 < z) (by omega)]; rfl

set_option maxHeartbeats 2000000 in
theorem refAnyE_any (A : Option Addr) (c : Nat) (zs : List Int) (o : List Int) (w : World) (ho : o.length = 16) (hr : Row w w.heap.size 1 (.slice A zs.length c) zs.length (zs.map (Value.int .i64))) (hz : ∀ r ∈ zs, 1 ≤ r ∧ r ≤ 15) (hs : zs.length ≤ 8) :
    Calls Tryz.prog 66 #[.agg (oV o).toArray, .slice A zs.length c] w fun e w' => e = .returned (.bool (anyEB zs o)) ∧ Below w.heap.size w w' := by
  have HB := Lib.hid (Box.new w (oV o) 30)
  have HK := Lib.hid ((Below.refl w.heap.size w).alloc (Nat.le_refl _) (.cells (oV o).toArray 30))
  have hW : w.heap.size < (w.alloc (.cells (oV o).toArray 30)).heap.size := by simp
  have HR := Lib.hid ((hr.alloc (Nat.le_refl _) (.cells (oV o).toArray 30)).more (Nat.le_of_lt hW))
  have HZ := Lib.hid hz
  have HO := Lib.hid ho
  have H0 := Lib.hid (show anyEB zs o = anyEB (zs.drop 0) o by rw [List.drop_zero])
  clear hr hz ho
  go_enter Tryz.func66, Tryz.ntmps66
  go_wp2_with fail
  generalize w.alloc (.cells (oV o).toArray 30) = W at *
  generalize hn : zs.length = n at HR hs ⊢
  have Hn := Lib.hid hn
  clear hn
  go_loopw [5] (fun i wr => ∃ j : Nat, j ≤ n ∧ i = .int .i64 j ∧ Kept W wr ∧ anyEB zs o = anyEB (zs.drop j) o) (fun i _ => n - (intOf i).toNat)
  case atStart => exact ⟨0, Nat.zero_le _, rfl, Kept.refl _, H0.out⟩
  case round =>
    obtain ⟨j, hj, rfl, hk, hT⟩ := hrel
    have HT := Lib.hid hT
    have HKW := Lib.hid hk
    clear hT hk
    by_cases hlt : j < n
    · have hl : j < zs.length := by rw [Hn.out]; exact hlt
      have HRr := HKW.out.row HR.out
      obtain ⟨b, off, rfl, hb, hcells⟩ := HRr.at_ (by omega)
      have d0 := hcells j _ (ints_get hl)
      have HS := Lib.hid (any_step (o := o) hl)
      obtain ⟨r, hre⟩ : ∃ r, r = zs.getD j 0 := ⟨_, rfl⟩
      rw [← hre] at d0 HS
      have h115 := HZ.out r (by rw [hre]; exact getD_mem hl)
      have HBX := Lib.hid (HB.out.kept HKW.out)
      have D0 := Lib.hid (fun (y : World) (h : Kept wr y) => h.cell hb d0)
      have HOE := Lib.hid (show onEB o r = decide (atO o r = 2) by unfold onEB; rw [decide_eq_true (p := 0 < r) (by omega)]; rfl)
      clear hcells hre hl HRr d0
      have k0 : (0 : Int) ≤ j := by omega
      have k1 : (j : Int) < n := by omega
      go_wp2_with fail
      refine wp_region_lin [(0, true), (1, true), (2, true), (3, true), (4, true), (5, false)]
        (by kernel_rfl) (by kernel_rfl) rfl (by kernel_rfl) (Kept wr) ?_
      have k9 : Kept wr wr.drew := (Kept.refl wr).drew
      simp only [List.map_cons, List.map_nil, List.getElem?_toArray, List.getElem?_cons_succ, List.getElem?_cons_zero]
      refine lin_take_box k9 rfl 30 (.tmp 2) rfl w.heap.size 0 rfl (oV o) (oV o) (fun y hy => HBX.out.kept hy) whole_at _ Tryz.underlying30 rfl 16 (by kernel_rfl) ((oV_len o).trans HO.out) ?_
      simp only [Act.put, List.setIfInBounds_toArray, List.set_cons_zero, List.set_cons_succ]
      iterate 4 (refine lin_take (v := ?_) (by assumption) (by rfl) ?_ ?_; rotate_left; (intro x hx; (try dsimp only at hx); (try have d0 := D0.out x hx); go_simp; try (with_reducible rfl)); (try simp only [Act.put, List.setIfInBounds_toArray, List.set_cons_zero, List.set_cons_succ]))
      refine lin_call k9 (by rfl) (fun K hK => ?_)
      go_simp
      refine (refOnE_any o r _ HO.out h115.2).mono ?_; rintro e w2 ⟨rfl, hb2⟩
      go_wp2_with fail
      have k10 := k9.to hb2
      refine hK.out _ _ k10 (fun _ => ?_)
      clear hK K hb2
      try simp only [Act.put, List.setIfInBounds_toArray, List.set_cons_zero, List.set_cons_succ]
      refine lin_done ?_
      have HK10 := Lib.hid (HKW.out.trans k10)
      have HKE := Lib.hid (HK.out.trans (Below.mono HK10.out (Nat.le_of_lt hW)))
      rw [HOE.out]
      cases hq : decide (atO o r = 2)
      · rw [hq] at HS
        go_wp2_with fail
        go_roundw
        case rel => exact ⟨j + 1, by omega, by go_num, HK10.out, by rw [HT.out, HS.out]; rfl⟩
        case measure => simp only [intOf]; omega
      · rw [hq] at HS
        go_wp2_with fail
        go_ret
        exact ⟨ret_bool (by rw [HT.out, HS.out]; rfl), HKE.out⟩
    · have HKE := Lib.hid (HK.out.trans (Below.mono HKW.out (Nat.le_of_lt hW)))
      go_wp2_with fail
      go_ret
      exact ⟨ret_bool (by rw [HT.out, List.drop_eq_nil_of_le (by rw [Hn.out]; omega)]; rfl), HKE.out⟩
def ownedZ (o : List Int) (r : Int) : Int := if r < 1 ∨ 15 < r then 0 else atO o r
set_option maxHeartbeats 1000000 in
theorem refOwned_any (o : List Int) (r : Int) (w : World) (ho : o.length = 16) :
    Calls Tryz.prog 74 #[.agg (oV o).toArray, .int .i64 r] w fun e w' => e = .returned (.int .i64 (ownedZ o r)) ∧ Below w.heap.size w w' := by
  have HB := Lib.hid (Box.new w (oV o) 30)
  have HK := Lib.hid ((Below.refl w.heap.size w).alloc (Nat.le_refl _) (.cells (oV o).toArray 30))
  have HL := Lib.hid (show ownedZ o r = if r < 1 ∨ 15 < r then 0 else atO o r from rfl)
  by_cases h0 : r < 1
  · have HE := Lib.hid (HL.out.trans (if_pos (.inl h0)))
    go_enter Tryz.func74, Tryz.ntmps74
    go_wp2_with fail
    go_ret
    exact ⟨ret_int HE.out.symm, HK.out⟩
  by_cases h1 : 15 < r
  · have HE := Lib.hid (HL.out.trans (if_pos (.inr h1)))
    go_enter Tryz.func74, Tryz.ntmps74
    go_wp2_with fail
    go_ret
    exact ⟨ret_int HE.out.symm, HK.out⟩
  · have HE := Lib.hid (HL.out.trans (if_neg (fun h => h.elim h0 h1)))
    have d1 := HB.out.cell (oV_at ho (n := r.toNat) (by omega))
    have e5 : ((r.toNat : Nat) : Int) = r := by omega
    rw [e5] at d1
    clear e5 ho
    have e8 : 0 ≤ r := by omega
    have e9 : r < 16 := by omega
    go_enter Tryz.func74, Tryz.ntmps74
    go_wp2_with fail
    go_ret
    exact ⟨ret_int HE.out.symm, HK.out⟩
/-- The document's words for the side. -/
theorem side_doc (i : Ins) (o : List Int) : sideZ i o = if formZ i.op < 1 ∨ 3 < formZ i.op then 0 else if ownedZ o i.d = 1 ∨ (i.d = 0 ∧ anyEB (readsZ i) o = false) then 1 else 2 := by
  unfold sideZ
  have hF := formZ_range i.op
  by_cases h : formZ i.op < 1 ∨ 3 < formZ i.op
  · rw [if_pos h, if_pos (by unfold recB; rw [decide_eq_false_iff_not]; omega)]
  · rw [if_neg h, if_neg (by unfold recB; rw [decide_eq_false_iff_not]; omega)]
    by_cases hd : i.d = 0
    · simp only [hd, if_true, true_and]
      have : ownedZ o 0 ≠ 1 := by unfold ownedZ; rw [if_pos (.inl (by decide))]; decide
      simp only [this, false_or]
    · simp only [hd, if_false, false_and, or_false]
      unfold ownedZ
      by_cases hh : i.d < 1 ∨ 15 < i.d
      · rw [if_pos hh]
        rw [if_neg (by omega), if_neg (by decide)]
      · rw [if_neg hh]
        by_cases ha : atO o i.d = 1
        · rw [if_pos ⟨by omega, by omega, ha⟩, if_pos ha]
        · rw [if_neg (fun c => ha c.2.2), if_neg ha]

set_option maxHeartbeats 2000000 in
theorem refSide_any (i : Ins) (o : List Int) (w : World) (ho : o.length = 16) :
    Calls Tryz.prog 70 #[.agg #[.int .i64 i.op, .int .i64 i.d, .int .i64 i.a, .int .i64 i.b, .int .i64 i.imm], .agg (oV o).toArray] w fun e w' => e = .returned (.int .i64 (sideZ i o)) ∧ Below w.heap.size w w' := by
  obtain ⟨W1, hW1⟩ : ∃ W1, W1 = w.alloc (.cells #[.int .i64 i.op, .int .i64 i.d, .int .i64 i.a, .int .i64 i.b, .int .i64 i.imm] 44) := ⟨_, rfl⟩
  obtain ⟨W2, hW2⟩ : ∃ W2, W2 = W1.alloc (.cells (oV o).toArray 30) := ⟨_, rfl⟩
  have hz1 : W1.heap.size = w.heap.size + 1 := by rw [hW1]; simp
  have hz2 : W2.heap.size = w.heap.size + 2 := by rw [hW2]; simp [hz1]
  have hK : Below w.heap.size w W2 := by rw [hW2, hW1]; exact ((Below.refl w.heap.size w).alloc (Nat.le_refl _) _).alloc (by simp) _
  have HB0 : Box W2 (w.heap.size + 1) (oV o) := by rw [hW2, ← hz1]; exact Box.new W1 (oV o) _
  have HI : Box W2 w.heap.size (insV i) := by
    rw [hW2]; refine Box.alloc ?_ _; rw [hW1]; exact Box.new w (insV i) _
  have c0 := HI.cell (k := 0) rfl
  have HB := Lib.hid HB0
  have HIB := Lib.hid HI
  have HO := Lib.hid ho
  have HKK := Lib.hid hK
  have HL := Lib.hid (side_doc i o)
  have HRL := Lib.hid (reads_len i)
  have hF := formZ_range i.op
  clear HI HB0 hK ho
  go_enter Tryz.func70, Tryz.ntmps70
  go_wp2_with fail
  rw [← hW1, ← hW2]
  clear hW1 hW2
  refine (refForm_any _ _).mono ?_; rintro e w1 ⟨rfl, rfl⟩
  try dsimp only
  generalize formZ i.op = f at *
  by_cases h1 : f < 1
  · have HE := Lib.hid (HL.out.trans (if_pos (.inl h1)))
    go_wp2_with fail
    go_ret
    exact ⟨ret_int HE.out.symm, HKK.out⟩
  by_cases h3 : 3 < f
  · have HE := Lib.hid (HL.out.trans (if_pos (.inr h3)))
    go_wp2_with fail
    go_ret
    exact ⟨ret_int HE.out.symm, HKK.out⟩
  have HS := Lib.hid (HL.out.trans (if_neg (fun h => h.elim h1 h3)))
  have k0 := Kept.refl W2
  go_wp2_with (first
    | (refine wpList_load_box rfl 44 (.tmp 2) rfl w.heap.size 0 rfl (insV i) (insV i) HIB.out whole_at _ Tryz.underlying44 rfl 5 (by kernel_rfl) rfl ?_)
    | (refine wpList_load_box rfl 30 (.tmp 3) rfl (w.heap.size + 1) 0 rfl (oV o) (oV o) HB.out whole_at _ Tryz.underlying30 rfl 16 (by kernel_rfl) ((oV_len o).trans HO.out) ?_))
  refine (refReadsN_any i _).mono ?_; rintro e w2 ⟨v, rfl, hrow, hnew, hb2⟩
  have k2 := k0.to hb2
  have HB2 := Lib.hid (HB.out.kept k2)
  have HI2 := Lib.hid (HIB.out.kept k2)
  have c1 := HI2.out.cell (k := 1) rfl
  have HR2 := Lib.hid hrow
  obtain ⟨A1, c1', rfl⟩ := hrow.form
  have hz : w.heap.size + 2 ≤ w2.heap.size := by have := hb2.size; omega
  have HK2 := Lib.hid (HKK.out.trans (hb2.mono (by omega)))
  clear hrow hb2 c0 k0 k2
  go_wp2_with (first
    | (refine wpList_load_box rfl 30 (.tmp 3) rfl (w.heap.size + 1) 0 rfl (oV o) (oV o) HB2.out whole_at _ Tryz.underlying30 rfl 16 (by kernel_rfl) ((oV_len o).trans HO.out) ?_))
  refine (refOwned_any o i.d _ HO.out).mono ?_; rintro e w3 ⟨rfl, hb3⟩
  have HB3 := Lib.hid (HB2.out.below hb3 (by omega))
  have HI3 := Lib.hid (HI2.out.below hb3 (by omega))
  have c1 := HI3.out.cell (k := 1) rfl
  have HR3 := Lib.hid ((HR2.out.below hb3).more hb3.size)
  have hz3 : w.heap.size + 2 ≤ w3.heap.size := by have := hb3.size; omega
  have HK3 := Lib.hid (HK2.out.trans (hb3.mono (by omega)))
  clear hb3
  cases hq : (ownedZ o i.d == 1)
  rotate_left
  · have HE := Lib.hid (HS.out.trans (if_pos (.inl (by simpa using hq))))
    try dsimp only
    go_wp2_with fail
    go_ret
    exact ⟨ret_int HE.out.symm, HK3.out⟩
  have hq1 : ¬ ownedZ o i.d = 1 := by simpa using hq
  have HQ1 := Lib.hid hq1
  clear hq1
  by_cases hd : i.d = 0
  · have HD := Lib.hid hd
    have q0 : (i.d == 0) = true := by simpa using hd
    clear hd
    try dsimp only
    go_wp2_with (first
      | (refine wpList_load_box rfl 30 (.tmp 3) rfl (w.heap.size + 1) 0 rfl (oV o) (oV o) HB3.out whole_at _ Tryz.underlying30 rfl 16 (by kernel_rfl) ((oV_len o).trans HO.out) ?_))
    refine (refAnyE_any A1 c1' (readsZ i) o _ HO.out HR3.out (fun r hr => by have := reads_mem hr; omega) (by have := HRL.out; omega)).mono ?_; rintro e w4 ⟨rfl, hb4⟩
    have HK4 := Lib.hid (HK3.out.trans (hb4.mono (by omega)))
    clear hb4
    cases hr : anyEB (readsZ i) o
    · have HE := Lib.hid (HS.out.trans (if_pos (.inr ⟨HD.out, hr⟩)))
      go_wp2_with fail
      go_ret
      exact ⟨ret_int HE.out.symm, HK4.out⟩
    · have HE := Lib.hid (HS.out.trans (if_neg (fun h => h.elim HQ1.out (fun h => by rw [hr] at h; exact absurd h.2 (by decide)))))
      go_wp2_with fail
      go_ret
      exact ⟨ret_int HE.out.symm, HK4.out⟩
  · have q0 : (i.d == 0) = false := by simpa using hd
    have HE := Lib.hid (HS.out.trans (if_neg (fun h => h.elim HQ1.out (fun h => hd h.1))))
    clear hd
    try dsimp only
    go_wp2_with fail
    go_ret
    exact ⟨ret_int HE.out.symm, HK3.out⟩
end Go.Proofs.YteagglddgkjkmaaGreat.Words

/- Programs as plain data: a program's value (two slices and a size), what its rows read as, cell by cell. Nothing here speaks of one program text. -/
namespace Go.Proofs.YteagglddgkjkmaaGreat.Words
set_option maxRecDepth 100000
open Go.RowKit

/-- The five cells of an instruction. -/
def insCells (i : Ins) : List Value := [.int .i64 i.op, .int .i64 i.d, .int .i64 i.a, .int .i64 i.b, .int .i64 i.imm]
/-- The cells of a list of instructions. -/
def codeCells (l : List Ins) : List Value := l.flatMap insCells
theorem codeCells_nil : codeCells [] = [] := rfl
theorem codeCells_cons (i : Ins) (l : List Ins) : codeCells (i :: l) = insCells i ++ codeCells l := by simp [codeCells]
theorem codeCells_append (l m : List Ins) : codeCells (l ++ m) = codeCells l ++ codeCells m := by simp [codeCells]
theorem codeCells_length (l : List Ins) : (codeCells l).length = l.length * 5 := by
  induction l with
  | nil => rfl
  | cons i l ih => rw [codeCells_cons, List.length_append, ih]; simp [insCells]; omega
theorem codeCells_at (l : List Ins) (k : Nat) (i : Ins) (h : l[k]? = some i) (j : Nat) (hj : j < 5) : (codeCells l)[k * 5 + j]? = (insCells i)[j]? := by
  induction l generalizing k with
  | nil => simp at h
  | cons x l ih =>
    rw [codeCells_cons]
    cases k with
    | zero =>
      simp at h; subst h
      rw [List.getElem?_append_left (by simp [insCells]; omega), Nat.zero_mul, Nat.zero_add]
    | succ k =>
      simp at h
      have h5 : (insCells x).length = 5 := rfl
      rw [List.getElem?_append_right (by omega), h5, show (k + 1) * 5 + j - 5 = k * 5 + j by omega]
      exact ih k h

/-- A program's plain data. -/
structure Prog where
  code : List Ins
  size : Int
  data : List Int
deriving DecidableEq
theorem Prog.eq_iff (p q : Prog) : p = q ↔ p.code = q.code ∧ p.size = q.size ∧ p.data = q.data := by cases p; cases q; simp
def Prog.Fits (p : Prog) : Prop :=
  (∀ i ∈ p.code, i.Fits) ∧ (-9223372036854775808 ≤ p.size ∧ p.size ≤ 9223372036854775807) ∧ (∀ b ∈ p.data, 0 ≤ b ∧ b ≤ 255)
/-- The two rows of a program's value. -/
structure ProgV (w : World) (B : Nat) (vc vd : Value) (p : Prog) : Prop where
  code : Row w B 5 vc p.code.length (codeCells p.code)
  data : Row w B 1 vd p.data.length (p.data.map (Value.int .u8))
section
variable {w w' : World} {B : Nat} {vc vd : Value} {p : Prog}
theorem ProgV.keep (h : ProgV w B vc vd p) (hk : ∀ a : Addr, a.block < B → w'.cell? a = w.cell? a) : ProgV w' B vc vd p := ⟨h.code.keep hk, h.data.keep hk⟩
theorem ProgV.more {B' : Nat} (h : ProgV w B vc vd p) (hB : B ≤ B') : ProgV w B' vc vd p := ⟨h.code.more hB, h.data.more hB⟩
theorem ProgV.below (h : ProgV w B vc vd p) (hb : Below B w w') : ProgV w' B vc vd p := ⟨h.code.below hb, h.data.below hb⟩
theorem ProgV.drewN (h : ProgV w B vc vd p) (k : Nat) : ProgV (w.drewN k) B vc vd p := ⟨h.code, h.data⟩
theorem ProgV.alloc (h : ProgV w B vc vd p) (hB : B ≤ w.heap.size) (o : Obj) : ProgV (w.alloc o) B vc vd p := ⟨h.code.alloc hB o, h.data.alloc hB o⟩
end
/-- The five cells of an instruction of a row. -/
theorem Row.ins {w : World} {B n c : Nat} {b off : Nat} {l : List Ins} (h : Row w B 5 (.slice (some ⟨b, off, none⟩) n c) n (codeCells l)) {k : Nat} {i : Ins} (hi : l[k]? = some i) :
    w.cell? ⟨b, off + k * 5, none⟩ = some (.int .i64 i.op) ∧ w.cell? ⟨b, off + k * 5 + 1, none⟩ = some (.int .i64 i.d) ∧ w.cell? ⟨b, off + k * 5 + 2, none⟩ = some (.int .i64 i.a) ∧
    w.cell? ⟨b, off + k * 5 + 3, none⟩ = some (.int .i64 i.b) ∧ w.cell? ⟨b, off + k * 5 + 4, none⟩ = some (.int .i64 i.imm) := by
  have g : ∀ j u, j < 5 → (insCells i)[j]? = some u → w.cell? ⟨b, off + k * 5 + j, none⟩ = some u := by
    intro j u hj hu
    have := h.cells ⟨b, off, none⟩ rfl (k * 5 + j) u ((codeCells_at l k i hi j hj).trans hu)
    rwa [add_spot, ← Nat.add_assoc] at this
  exact ⟨g 0 _ (by omega) rfl, g 1 _ (by omega) rfl, g 2 _ (by omega) rfl, g 3 _ (by omega) rfl, g 4 _ (by omega) rfl⟩

/-- Where an instruction leads to, below 0: nowhere in the code. -/
def isJump (i : Ins) : Bool := decide (34 ≤ i.op ∧ i.op ≤ 40)
def targetZ (n : Nat) (k : Nat) (i : Ins) : Int :=
  if isJump i = false ∨ i.imm < -8192 ∨ 8191 < i.imm ∨ (k : Int) + i.imm < 0 ∨ (n : Int) ≤ k + i.imm then -1 else k + i.imm
theorem isJump_form (i : Ins) : isJump i = true ↔ formZ i.op = 6 ∨ formZ i.op = 7 := by
  have := formZ_cases i.op
  unfold isJump; rw [decide_eq_true_iff]; omega
/-- Is some target not in the code? -/
def badTarget (n k : Nat) (i : Ins) : Bool := isJump i && decide (targetZ n k i < 0)
def targetsOk (n : Nat) : Nat → List Ins → Bool
  | _, [] => true
  | k, i :: l => !badTarget n k i && targetsOk n (k + 1) l
def Prog.targets (p : Prog) : Bool := targetsOk p.code.length 0 p.code
def Prog.right (p : Prog) : Bool :=
  decide (1 ≤ p.code.length ∧ p.code.length ≤ 2000 ∧ 0 ≤ p.size ∧ p.size ≤ 65536 ∧ (p.data.length : Int) ≤ p.size) && p.code.all rightB && p.targets
end Go.Proofs.YteagglddgkjkmaaGreat.Words

/- Rows of records: each record's cells one behind the other. Nothing here speaks of one program text. -/
namespace Go.Proofs.YteagglddgkjkmaaGreat.Words
set_option maxRecDepth 100000
open Go.RowKit
section
variable {α : Type} {f : α → List Value} {s : Nat}
def flat (f : α → List Value) (l : List α) : List Value := l.flatMap f
theorem flat_nil : flat f [] = [] := rfl
theorem flat_cons (x : α) (l : List α) : flat f (x :: l) = f x ++ flat f l := by simp [flat]
theorem flat_append (l m : List α) : flat f (l ++ m) = flat f l ++ flat f m := by simp [flat]
theorem flat_one (x : α) : flat f [x] = f x := by simp [flat]
theorem flat_snoc (l : List α) (x : α) : flat f (l ++ [x]) = flat f l ++ f x := by rw [flat_append, flat_one]
theorem flat_len (hf : ∀ x, (f x).length = s) (l : List α) : (flat f l).length = l.length * s := by
  induction l with
  | nil => simp [flat]
  | cons x l ih => rw [flat_cons, List.length_append, ih, hf, List.length_cons, Nat.add_mul, Nat.one_mul, Nat.add_comm]
theorem flat_at (hf : ∀ x, (f x).length = s) (l : List α) (k : Nat) (x : α) (h : l[k]? = some x) (j : Nat) (hj : j < s) : (flat f l)[k * s + j]? = (f x)[j]? := by
  induction l generalizing k with
  | nil => simp at h
  | cons y l ih =>
    rw [flat_cons]
    cases k with
    | zero =>
      simp at h; subst h
      rw [List.getElem?_append_left (by rw [hf]; omega), Nat.zero_mul, Nat.zero_add]
    | succ k =>
      simp at h
      have e : (k + 1) * s = s + k * s := by rw [Nat.add_mul, Nat.one_mul, Nat.add_comm]
      rw [List.getElem?_append_right (by rw [hf, e]; omega), hf, show (k + 1) * s + j - s = k * s + j by omega]
      exact ih k h
theorem Row.flat_cell {w : World} {B n c b off : Nat} {l : List α} (hf : ∀ x, (f x).length = s) (h : Row w B s (.slice (some ⟨b, off, none⟩) n c) n (flat f l)) {k : Nat} {x : α} (hx : l[k]? = some x) {j : Nat} {u : Value} (hj : j < s) (hu : (f x)[j]? = some u) :
    w.cell? ⟨b, off + k * s + j, none⟩ = some u := by
  have := h.cells ⟨b, off, none⟩ rfl (k * s + j) u ((flat_at hf l k x hx j hj).trans hu)
  rwa [add_spot, ← Nat.add_assoc] at this
theorem Row.flat_count {w : World} {B n : Nat} {v : Value} {l : List α} (hf : ∀ x, (f x).length = s) (hs : 0 < s) (h : Row w B s v n (flat f l)) : l.length = n := by
  have := h.1
  rw [flat_len hf] at this
  exact Nat.eq_of_mul_eq_mul_right hs this
end
end Go.Proofs.YteagglddgkjkmaaGreat.Words

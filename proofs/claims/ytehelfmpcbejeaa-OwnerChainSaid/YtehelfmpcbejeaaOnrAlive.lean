/- The law's own helper 'alive' of chapter 11; two owners compared. -/
import Derived.Test.YtehelfmpcbejeaaOnrOf
import Derived.Test.YtehelfmpcbejeaaOnrClosed
import Derived.Test.YtehelfmpcbejeaaArrEq
namespace Go.Proofs.Ytehelfmpcbejeaa.Words
set_option maxRecDepth 100000
open Go.RowKit
set_option linter.unusedVariables false
set_option linter.unusedSimpArgs false

theorem eqIn_onr (l m : List Int) (w : World) (hl : l.length = 16) (hm : m.length = 16) : (Op.equalIn 10000 26 (.agg (oV l).toArray) (.agg (oV m).toArray)).run Try.prog w = .ok (decide (l = m)) w := by
  obtain ⟨i, hi, _⟩ := info_parts info_int
  have hc : Try.prog.cellsOf 3 = 1 := by kernel_rfl
  unfold oV
  rw [show (10000 : Nat) = 9999 + 1 from rfl, run_equalIn_array w 9999 _ _ Try.underlying26 hi, hc, show (9999 : Nat) = 9998 + 1 from rfl,
    items_num w 9998 Try.underlying3 l m (List.range 16) (fun i h => by rw [List.mem_range] at h; omega), show (16 : Nat) = l.length from hl.symm, all_getD l m (hl.trans hm.symm)]
theorem eql_onr (l m : List Int) (w : World) (hl : l.length = 16) (hm : m.length = 16) : (binOp .eql 26 (.agg (oV l).toArray) (.agg (oV m).toArray)).run Try.prog w = .ok (.bool (decide (l = m))) w := by
  rw [run_eql_struct, eqIn_onr l m w hl hm]
  rfl
theorem row_code (w : World) (l : List Ins) (t : TypeId) (cs : Array Value) (n : Nat) (h : cs.toList = codeCells l) (hn : l.length = n) (hm : n ≤ 9223372036854775807) : Row (w.alloc (.cells cs t)) (w.alloc (.cells cs t)).heap.size 5 (.slice (some ⟨w.heap.size, 0, none⟩) n n) n (codeCells l) := by
  refine ⟨by rw [codeCells_length, hn], _, _, rfl, Nat.le_refl _, hm, (fun h => by cases h), fun _ => ⟨w.heap.size, 0, rfl, by simp, fun j u hu => ?_⟩⟩
  have := new_cells w cs t _ h j u hu
  rwa [add_spot] at this
section
variable {P : Program} {ops : Array Oper} {rest : List (Option Oper × Bool)} {op : Oper} {a : Act} {Q : Exit → Act → World → Prop} {S : World → Prop} {w : World}
/-- In a region that draws its order: two owners are compared. -/
theorem lin_take_eql (hS : S w) (hw : Region.wanted op (yielded ops a.tmps) = true) (v : Value) (hy : ∀ x, S x → (execOp a.eval op).run P x = .ok (.value v) x)
    (h : wpLin P ops Q rest S (a.put op.dst v) w) : wpLin P ops Q ((some op, true) :: rest) S a w := lin_take hS hw hy h
end

def tenCode : List Ins := [⟨17, 2, 1, 0, 4⟩, ⟨26, 3, 2, 0, 0⟩, ⟨41, 0, 0, 0, 0⟩]
def tenO : List Int := [0, 1, 1, 2, 2, 2, 2, 2, 2, 2, 2, 2, 2, 2, 2, 2]
theorem ten_of : ofZ tenCode 0 0 = tenO := by decide +kernel
theorem ten_closed : closedZ tenCode 0 0 tenO = true := by decide +kernel
theorem ten_none : ofZ [] 0 0 = zeroO := by decide +kernel
theorem ten_ins : freeB tenO ⟨17, 2, 1, 0, 4⟩ = true := by decide +kernel
theorem ten_side : sideZ ⟨17, 2, 1, 0, 4⟩ tenO = 1 := by decide +kernel

set_option maxHeartbeats 4000000 in
theorem alive11_any (w : World) :
    Calls Try.prog 8 #[] w fun e w' => e = .returned (.bool true) ∧ Below w.heap.size w w' := by
  obtain ⟨W1, hW1⟩ : ∃ W1, W1 = w.alloc (.cells #[.int .i64 17, .int .i64 2, .int .i64 1, .int .i64 0, .int .i64 4, .int .i64 26, .int .i64 3, .int .i64 2, .int .i64 0, .int .i64 0, .int .i64 41, .int .i64 0, .int .i64 0, .int .i64 0, .int .i64 0] 28) := ⟨_, rfl⟩
  have hz1 : W1.heap.size = w.heap.size + 1 := by rw [hW1]; simp
  have HR0 := row_code w tenCode 28 #[.int .i64 17, .int .i64 2, .int .i64 1, .int .i64 0, .int .i64 4, .int .i64 26, .int .i64 3, .int .i64 2, .int .i64 0, .int .i64 0, .int .i64 41, .int .i64 0, .int .i64 0, .int .i64 0, .int .i64 0] 3 rfl rfl (by omega)
  rw [← hW1] at HR0
  have HR := Lib.hid HR0
  have HK0 : Hid (Below w.heap.size w W1) := by rw [hW1]; exact (Below.refl _ _).alloc (Nat.le_refl _) _
  clear HR0
  go_enter Try.func8, Try.ntmps8
  go_wp2_with fail
  rw [← hW1]
  obtain ⟨W2, hW2⟩ : ∃ W2, W2 = W1.alloc (.cells #[.slice (some ⟨w.heap.size, 0, none⟩) 3 3, .int .i64 0, .slice none 0 0] 25) := ⟨_, rfl⟩
  have hz2 : W2.heap.size = w.heap.size + 2 := by rw [hW2]; simp [hz1]
  have HP2 : Hid (Box W2 (w.heap.size + 1) [.slice (some ⟨w.heap.size, 0, none⟩) 3 3, .int .i64 0, .slice none 0 0]) := by rw [hW2, ← hz1]; exact Box.new W1 [.slice (some ⟨w.heap.size, 0, none⟩) 3 3, .int .i64 0, .slice none 0 0] _
  have HK2 : Hid (Below w.heap.size w W2) := by rw [hW2]; exact HK0.out.alloc (by omega) _
  have HR2 : Hid (Row W2 W2.heap.size 5 (.slice (some ⟨w.heap.size, 0, none⟩) 3 3) 3 (codeCells tenCode)) := by rw [hW2]; exact (HR.out.alloc (Nat.le_refl _) _).more (by simp)
  rw [← hW2]
  clear hW1 hW2 hz1 HK0 HR
  refine (of_any' (some ⟨w.heap.size, 0, none⟩) 3 0 none 0 0 tenCode W2 HR2.out (by omega) (by omega)).mono ?_; rintro e w3 ⟨rfl, hb3⟩
  rw [ten_of]
  have hz3 : w.heap.size + 2 ≤ w3.heap.size := by have := hb3.size; omega
  have HP3 := Lib.hid (HP2.out.below hb3 (by omega))
  have HR3 := Lib.hid ((HR2.out.below hb3).more hb3.size)
  have HK3 := Lib.hid (HK2.out.trans (hb3.mono (by omega)))
  have HBN := Lib.hid (Box.new w3 (oV zeroO) 26)
  have HKN : Hid (Below w3.heap.size w3 (w3.alloc (.cells (oV zeroO).toArray 26))) := (Below.refl _ _).alloc (Nat.le_refl _) _
  clear hb3 hz2 HP2 HR2 HK2
  obtain ⟨OB, hOB⟩ : ∃ OB, OB = w3.heap.size := ⟨_, rfl⟩
  have HOB := Lib.hid hOB
  go_wp2_with (first
    | (refine wpList_store_box rfl 26 (.tmp 2) (.tmp 9) rfl w3.heap.size 0 (oV tenO) rfl rfl (oV zeroO) HBN.out (by decide) 16 (by kernel_rfl) (by decide) (oV_one _) ?_; intro w4 B4 hg4; rw [splice_whole _ _ (by decide)] at B4))
  have HB4 := Lib.hid B4
  have HK4 : Hid (Below w3.heap.size w3 w4) := HKN.out.grown hg4 (by simp) (fun i hi => by injection hi with hi; omega)
  rw [← hOB] at HB4 HK4 ⊢
  have HP4 := Lib.hid (HP3.out.below HK4.out (by omega))
  have HR4 := Lib.hid ((HR3.out.below (by rw [← hOB]; exact HK4.out)).more HK4.out.size)
  have HKK := Lib.hid (HK3.out.trans (HK4.out.mono (by omega)))
  have hz4 := HB4.out.lt
  clear B4 hg4 HP3 HR3 HK3 HBN HKN HK4 hOB
  have D1 := Lib.hid (fun (x : World) (h : Kept w4 x) => h.cell hz4 (HB4.out.cell (k := 1) (v := .int .i64 1) rfl))
  have D2 := Lib.hid (fun (x : World) (h : Kept w4 x) => h.cell hz4 (HB4.out.cell (k := 2) (v := .int .i64 1) rfl))
  have D3 := Lib.hid (fun (x : World) (h : Kept w4 x) => h.cell hz4 (HB4.out.cell (k := 3) (v := .int .i64 2) rfl))
  have hzp := HP4.out.lt
  have D4 := Lib.hid (fun (x : World) (h : Kept w4 x) => h.cell hzp (HP4.out.cell (k := 0) rfl))
  obtain ⟨ee0, ee1, ee2, ee3, ee4⟩ := HR4.out.ins (k := 0) (i := ⟨17, 2, 1, 0, 4⟩) rfl
  have hzw : w.heap.size < w4.heap.size := by omega
  have E0 := Lib.hid (fun (x : World) (h : Kept w4 x) => h.cell hzw ee0)
  have E1 := Lib.hid (fun (x : World) (h : Kept w4 x) => h.cell hzw ee1)
  have E2 := Lib.hid (fun (x : World) (h : Kept w4 x) => h.cell hzw ee2)
  have E3 := Lib.hid (fun (x : World) (h : Kept w4 x) => h.cell hzw ee3)
  have E4 := Lib.hid (fun (x : World) (h : Kept w4 x) => h.cell hzw ee4)
  clear ee0 ee1 ee2 ee3 ee4
  go_wp2_with fail
  refine wp_region_lin [(0, true), (2, true), (1, false), (3, true), (4, true), (5, true), (6, true), (7, true), (8, true), (9, true), (10, true), (11, true), (12, true), (13, true), (14, true), (15, true), (16, true), (17, true), (18, true), (19, true), (20, true), (21, true), (22, false), (23, true), (24, true), (25, true), (26, true), (27, true), (28, true), (29, true), (30, false), (31, true), (32, true), (33, true)]
    (by kernel_rfl) (by kernel_rfl) rfl (by kernel_rfl) (Kept w4) ?_
  have k9 : Kept w4 w4.drew := (Kept.refl w4).drew
  simp only [List.map_cons, List.map_nil, List.getElem?_toArray, List.getElem?_cons_succ, List.getElem?_cons_zero]
  iterate 2 (refine lin_take (v := ?_) k9 (by rfl) ?_ ?_; rotate_left; (intro x hx; (try dsimp only at hx); (try have d1 := D1.out x hx); (try have d2 := D2.out x hx); (try have d3 := D3.out x hx); (try have d4 := D4.out x hx); (try have dd0 := E0.out x hx); (try have dd1 := E1.out x hx); (try have dd2 := E2.out x hx); (try have dd3 := E3.out x hx); (try have dd4 := E4.out x hx); go_simp; try (with_reducible rfl)); (try simp only [Act.put, List.setIfInBounds_toArray, List.set_cons_zero, List.set_cons_succ]))
  refine lin_call k9 (by rfl) (fun K hK => ?_)
  go_simp
  refine (of_any' none 0 0 none 0 0 [] _ (Row.nil _ _ _) (by omega) (by omega)).mono ?_; rintro e w5 ⟨rfl, hb⟩
  rw [ten_none]
  go_wp2_with fail
  have k5 := k9.to hb
  refine hK.out _ _ k5 (fun _ => ?_)
  clear hK K hb
  (try simp only [Act.put, List.setIfInBounds_toArray, List.set_cons_zero, List.set_cons_succ])
  refine lin_take (v := .bool true) k5 (by rfl) (fun x hx => ?_) ?_
  · have q := eqIn_onr zeroO zeroO x rfl rfl
    rw [decide_eq_true rfl] at q
    (try dsimp only)
    go_simp
    change (Result.andThen (Result.andThen ((Op.equalIn 10000 26 (.agg (oV zeroO).toArray) (.agg (oV zeroO).toArray)).run Try.prog x) _) _) = _
    rw [q]; rfl
  (try simp only [Act.put, List.setIfInBounds_toArray, List.set_cons_zero, List.set_cons_succ])
  iterate 16 (refine lin_take (v := ?_) k5 (by rfl) ?_ ?_; rotate_left; (intro x hx; (try dsimp only at hx); (try have d1 := D1.out x hx); (try have d2 := D2.out x hx); (try have d3 := D3.out x hx); (try have d4 := D4.out x hx); (try have dd0 := E0.out x hx); (try have dd1 := E1.out x hx); (try have dd2 := E2.out x hx); (try have dd3 := E3.out x hx); (try have dd4 := E4.out x hx); go_simp; try (with_reducible rfl)); (try simp only [Act.put, List.setIfInBounds_toArray, List.set_cons_zero, List.set_cons_succ]))
  refine lin_take_box k5 rfl 25 (.tmp 1) rfl (w.heap.size + 1) 0 rfl [.slice (some ⟨w.heap.size, 0, none⟩) 3 3, .int .i64 0, .slice none 0 0] [.slice (some ⟨w.heap.size, 0, none⟩) 3 3, .int .i64 0, .slice none 0 0] (fun y hy => HP4.out.kept hy) whole_at _ Try.underlying25 rfl 3 (by kernel_rfl) rfl ?_
  (try simp only [Act.put, List.setIfInBounds_toArray, List.set_cons_zero, List.set_cons_succ])
  refine lin_take_box k5 rfl 26 (.tmp 2) rfl OB 0 rfl (oV tenO) (oV tenO) (fun y hy => HB4.out.kept hy) whole_at _ Try.underlying26 rfl 16 (by kernel_rfl) rfl ?_
  (try simp only [Act.put, List.setIfInBounds_toArray, List.set_cons_zero, List.set_cons_succ])
  refine lin_call k5 (by rfl) (fun K hK => ?_)
  go_simp
  refine (closed_any (some ⟨w.heap.size, 0, none⟩) 3 0 none 0 0 tenCode tenO _ (k5.row HR4.out) (by omega) (by omega) rfl).mono ?_; rintro e w6 ⟨rfl, hb⟩
  rw [ten_closed]
  go_wp2_with fail
  have k6 := k5.to hb
  refine hK.out _ _ k6 (fun _ => ?_)
  clear hK K hb
  (try simp only [Act.put, List.setIfInBounds_toArray, List.set_cons_zero, List.set_cons_succ])
  iterate 6 (refine lin_take (v := ?_) k6 (by rfl) ?_ ?_; rotate_left; (intro x hx; (try dsimp only at hx); (try have d1 := D1.out x hx); (try have d2 := D2.out x hx); (try have d3 := D3.out x hx); (try have d4 := D4.out x hx); (try have dd0 := E0.out x hx); (try have dd1 := E1.out x hx); (try have dd2 := E2.out x hx); (try have dd3 := E3.out x hx); (try have dd4 := E4.out x hx); go_simp; try (with_reducible rfl)); (try simp only [Act.put, List.setIfInBounds_toArray, List.set_cons_zero, List.set_cons_succ]))
  refine lin_take_box k6 rfl 26 (.tmp 2) rfl OB 0 rfl (oV tenO) (oV tenO) (fun y hy => HB4.out.kept hy) whole_at _ Try.underlying26 rfl 16 (by kernel_rfl) rfl ?_
  (try simp only [Act.put, List.setIfInBounds_toArray, List.set_cons_zero, List.set_cons_succ])
  refine lin_call k6 (by rfl) (fun K hK => ?_)
  go_simp
  refine (side_any ⟨17, 2, 1, 0, 4⟩ tenO _ rfl).mono ?_; rintro e w7 ⟨rfl, hb⟩
  rw [ten_side]
  go_wp2_with fail
  have k7 := k6.to hb
  refine hK.out _ _ k7 (fun _ => ?_)
  clear hK K hb
  (try simp only [Act.put, List.setIfInBounds_toArray, List.set_cons_zero, List.set_cons_succ])
  have HKZ := Lib.hid (HKK.out.trans (Below.mono k7 (by omega)))
  iterate 3 (refine lin_take (v := ?_) k7 (by rfl) ?_ ?_; rotate_left; (intro x hx; (try dsimp only at hx); (try have d1 := D1.out x hx); (try have d2 := D2.out x hx); (try have d3 := D3.out x hx); (try have d4 := D4.out x hx); (try have dd0 := E0.out x hx); (try have dd1 := E1.out x hx); (try have dd2 := E2.out x hx); (try have dd3 := E3.out x hx); (try have dd4 := E4.out x hx); go_simp; try (with_reducible rfl)); (try simp only [Act.put, List.setIfInBounds_toArray, List.set_cons_zero, List.set_cons_succ]))
  refine lin_done ?_
  go_wp2_with fail
  go_ret
  exact ⟨rfl, HKZ.out⟩
end Go.Proofs.Ytehelfmpcbejeaa.Words

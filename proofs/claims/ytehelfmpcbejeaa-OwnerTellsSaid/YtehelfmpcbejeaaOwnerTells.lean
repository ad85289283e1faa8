/- The walk of law 11's OwnerTells. -/
import Derived.Test.YtehelfmpcbejeaaOnrAlive
import Derived.Test.YtehelfmpcbejeaaOnrRefOwner
import Derived.Test.YtehelfmpcbejeaaOnrRefClosed
import Derived.Test.YtehelfmpcbejeaaImageHelp
namespace Go.Proofs.Ytehelfmpcbejeaa.Words
set_option maxRecDepth 100000
open Go.RowKit
set_option linter.unusedVariables false
set_option linter.unusedSimpArgs false

theorem few_parts {n m : Nat} (h : fewB n m = true) : n ≤ 200 ∧ m ≤ 500 := of_decide_eq_true h

set_option maxHeartbeats 4000000 in
theorem ownerTells_walk (A : Option Addr) (c : Nat) (D : Option Addr) (d : Nat) (p : Prog) (o : List Int) (i : Ins) (w : World) (hf : p.Fits) (hp : ProgV w w.heap.size (.slice A p.code.length c) (.slice D p.data.length d) p) (ho : o.length = 16) (hi : i.Fits) :
    Calls Try.prog 3 #[.agg #[.slice A p.code.length c, .int .i64 p.size, .slice D p.data.length d], .agg (oV o).toArray, .agg #[.int .i64 i.op, .int .i64 i.d, .int .i64 i.a, .int .i64 i.b, .int .i64 i.imm]] w fun e w' => e = .returned (.bool true) ∧ Below w.heap.size w w' := by
  obtain ⟨u1, u2⟩ := hp.code.cap
  obtain ⟨u3, u4⟩ := hp.data.cap
  obtain ⟨W, hW⟩ : ∃ W, W = ((w.alloc (.cells #[.slice A p.code.length c, .int .i64 p.size, .slice D p.data.length d] 25)).alloc (.cells (oV o).toArray 26)).alloc (.cells #[.int .i64 i.op, .int .i64 i.d, .int .i64 i.a, .int .i64 i.b, .int .i64 i.imm] 28) := ⟨_, rfl⟩
  obtain ⟨W1, hW1⟩ : ∃ W1, W1 = w.alloc (.cells #[.slice A p.code.length c, .int .i64 p.size, .slice D p.data.length d] 25) := ⟨_, rfl⟩
  obtain ⟨W2, hW2⟩ : ∃ W2, W2 = W1.alloc (.cells (oV o).toArray 26) := ⟨_, rfl⟩
  have hz1 : W1.heap.size = w.heap.size + 1 := by rw [hW1]; simp
  have hz2 : W2.heap.size = w.heap.size + 2 := by rw [hW2]; simp [hz1]
  have hWW : W = W2.alloc (.cells (insV i).toArray 28) := by rw [hW, hW2, hW1]; rfl
  have hz3 : W.heap.size = w.heap.size + 3 := by rw [hWW]; simp [hz2]
  have b0 : Below w.heap.size w W := by rw [hW]; exact (((Below.refl w.heap.size w).alloc (Nat.le_refl _) _).alloc (by simp) _).alloc (by simp; omega) _
  have HI : Hid (Box W (w.heap.size + 2) (insV i)) := by rw [hWW, ← hz2]; exact Box.new W2 (insV i) _
  have HO : Hid (Box W (w.heap.size + 1) (oV o)) := by rw [hWW, hW2, ← hz1]; exact (Box.new W1 (oV o) _).alloc _
  have HP : Hid (Box W w.heap.size [.slice A p.code.length c, .int .i64 p.size, .slice D p.data.length d]) := by rw [hWW, hW2, hW1]; exact ((Box.new w [.slice A p.code.length c, .int .i64 p.size, .slice D p.data.length d] _).alloc _).alloc _
  have HR : Hid (Row W W.heap.size 5 (.slice A p.code.length c) p.code.length (codeCells p.code)) := (hp.code.below b0).more (by omega)
  have HK := Lib.hid (fun (x : World) (h : Kept W x) => b0.trans (Below.mono h (by omega)))
  have HOL := Lib.hid ho
  clear hz1 hz2 hz3 hWW hW1 hW2 b0 hp ho hi W1 W2
  go_enter Try.func3, Try.ntmps3
  go_wp2_with fail
  rw [← hW]
  clear hW
  have k0 := Kept.refl W
  refine (alive11_any _).mono ?_; rintro e w1 ⟨rfl, hb1⟩
  have k1 := k0.to hb1
  have HP1 := Lib.hid (HP.out.kept k1)
  clear hb1 k0
  go_wp2_with (first
    | (refine wpList_load_box rfl 25 (.tmp 3) rfl w.heap.size 0 rfl [.slice A p.code.length c, .int .i64 p.size, .slice D p.data.length d] [.slice A p.code.length c, .int .i64 p.size, .slice D p.data.length d] HP1.out whole_at _ Try.underlying25 rfl 3 (by kernel_rfl) rfl ?_))
  refine (few_any A D p.code.length c p.data.length d p.size _ (by omega) (by omega)).mono ?_; rintro e w2 ⟨rfl, hb2⟩
  have k2 := k1.to hb2
  clear hb2 k1 HP1
  cases hfew : fewB p.code.length p.data.length
  · go_wp2_with fail
    go_ret
    exact ⟨rfl, HK.out _ k2⟩
  clear hfew
  go_wp2_with fail
  refine wp_region_lin [(0, true), (2, true), (1, false), (3, false), (4, true), (5, true), (6, true), (7, true), (9, true), (10, true), (8, false), (11, false), (12, true), (13, true), (14, true), (15, true), (16, true), (18, true), (19, true), (17, false), (20, false), (21, true), (22, true), (23, true)]
    (by kernel_rfl) (by kernel_rfl) rfl (by kernel_rfl) (Kept W) ?_
  have k5 := k2.drew
  simp only [List.map_cons, List.map_nil, List.getElem?_toArray, List.getElem?_cons_succ, List.getElem?_cons_zero]
  refine lin_take_box k5 rfl 25 (.tmp 3) rfl w.heap.size 0 rfl [.slice A p.code.length c, .int .i64 p.size, .slice D p.data.length d] [.slice A p.code.length c, .int .i64 p.size, .slice D p.data.length d] (fun y hy => HP.out.kept hy) whole_at _ Try.underlying25 rfl 3 (by kernel_rfl) rfl ?_
  (try simp only [Act.put, List.setIfInBounds_toArray, List.set_cons_zero, List.set_cons_succ])
  refine lin_take_box k5 rfl 25 (.tmp 3) rfl w.heap.size 0 rfl [.slice A p.code.length c, .int .i64 p.size, .slice D p.data.length d] [.slice A p.code.length c, .int .i64 p.size, .slice D p.data.length d] (fun y hy => HP.out.kept hy) whole_at _ Try.underlying25 rfl 3 (by kernel_rfl) rfl ?_
  (try simp only [Act.put, List.setIfInBounds_toArray, List.set_cons_zero, List.set_cons_succ])
  refine lin_call k5 (by rfl) (fun K hK => ?_)
  go_simp
  refine (of_any' A c p.size D p.data.length d p.code _ (k5.row HR.out) u3 u4).mono ?_; rintro e w9 ⟨rfl, hb⟩
  go_wp2_with fail
  have k6 := k5.to hb
  refine hK.out _ _ k6 (fun _ => ?_)
  clear hK K hb
  (try simp only [Act.put, List.setIfInBounds_toArray, List.set_cons_zero, List.set_cons_succ])
  refine lin_call k6 (by rfl) (fun K hK => ?_)
  go_simp
  refine (refOwner_any A c p.size D p.data.length d p.code _ (k6.row HR.out) u3 u4).mono ?_; rintro e w9 ⟨rfl, hb⟩
  go_wp2_with fail
  have k7 := k6.to hb
  refine hK.out _ _ k7 (fun _ => ?_)
  clear hK K hb
  (try simp only [Act.put, List.setIfInBounds_toArray, List.set_cons_zero, List.set_cons_succ])
  refine lin_take (v := .bool true) k7 (by rfl) (fun x hx => ?_) ?_
  · have q := eqIn_onr (ofZ p.code p.size p.data.length) (ofZ p.code p.size p.data.length) x ofZ_len ofZ_len
    rw [decide_eq_true rfl] at q
    (try dsimp only)
    go_simp
  (try simp only [Act.put, List.setIfInBounds_toArray, List.set_cons_zero, List.set_cons_succ])
  iterate 1 (refine lin_take (v := ?_) k7 (by rfl) ?_ ?_; rotate_left; (intro x hx; (try dsimp only at hx); go_simp; try (with_reducible rfl)); (try simp only [Act.put, List.setIfInBounds_toArray, List.set_cons_zero, List.set_cons_succ]))
  refine lin_take_box k7 rfl 25 (.tmp 3) rfl w.heap.size 0 rfl [.slice A p.code.length c, .int .i64 p.size, .slice D p.data.length d] [.slice A p.code.length c, .int .i64 p.size, .slice D p.data.length d] (fun y hy => HP.out.kept hy) whole_at _ Try.underlying25 rfl 3 (by kernel_rfl) rfl ?_
  (try simp only [Act.put, List.setIfInBounds_toArray, List.set_cons_zero, List.set_cons_succ])
  refine lin_take_box k7 rfl 26 (.tmp 4) rfl (w.heap.size + 1) 0 rfl (oV o) (oV o) (fun y hy => HO.out.kept hy) whole_at _ Try.underlying26 rfl 16 (by kernel_rfl) ((oV_len o).trans HOL.out) ?_
  (try simp only [Act.put, List.setIfInBounds_toArray, List.set_cons_zero, List.set_cons_succ])
  refine lin_take_box k7 rfl 25 (.tmp 3) rfl w.heap.size 0 rfl [.slice A p.code.length c, .int .i64 p.size, .slice D p.data.length d] [.slice A p.code.length c, .int .i64 p.size, .slice D p.data.length d] (fun y hy => HP.out.kept hy) whole_at _ Try.underlying25 rfl 3 (by kernel_rfl) rfl ?_
  (try simp only [Act.put, List.setIfInBounds_toArray, List.set_cons_zero, List.set_cons_succ])
  refine lin_take_box k7 rfl 26 (.tmp 4) rfl (w.heap.size + 1) 0 rfl (oV o) (oV o) (fun y hy => HO.out.kept hy) whole_at _ Try.underlying26 rfl 16 (by kernel_rfl) ((oV_len o).trans HOL.out) ?_
  (try simp only [Act.put, List.setIfInBounds_toArray, List.set_cons_zero, List.set_cons_succ])
  refine lin_call k7 (by rfl) (fun K hK => ?_)
  go_simp
  refine (closed_any A c p.size D p.data.length d p.code o _ (k7.row HR.out) u3 u4 HOL.out).mono ?_; rintro e w9 ⟨rfl, hb⟩
  go_wp2_with fail
  have k8 := k7.to hb
  refine hK.out _ _ k8 (fun _ => ?_)
  clear hK K hb
  (try simp only [Act.put, List.setIfInBounds_toArray, List.set_cons_zero, List.set_cons_succ])
  refine lin_call k8 (by rfl) (fun K hK => ?_)
  go_simp
  refine (refClosed_any A c p.size D p.data.length d p.code o _ (k8.row HR.out) u3 u4 HOL.out).mono ?_; rintro e w9 ⟨rfl, hb⟩
  go_wp2_with fail
  have k9 := k8.to hb
  refine hK.out _ _ k9 (fun _ => ?_)
  clear hK K hb
  (try simp only [Act.put, List.setIfInBounds_toArray, List.set_cons_zero, List.set_cons_succ])
  generalize closedZ p.code p.size p.data.length o = CB
  have hcb : (CB == CB) = true := by simp
  iterate 3 (refine lin_take (v := ?_) k9 (by rfl) ?_ ?_; rotate_left; (intro x hx; (try dsimp only at hx); go_simp; try (with_reducible rfl)); (try simp only [Act.put, List.setIfInBounds_toArray, List.set_cons_zero, List.set_cons_succ]))
  refine lin_take_box k9 rfl 28 (.tmp 5) rfl (w.heap.size + 2) 0 rfl (insV i) (insV i) (fun y hy => HI.out.kept hy) whole_at _ Try.underlying28 rfl 5 (by kernel_rfl) rfl ?_
  (try simp only [Act.put, List.setIfInBounds_toArray, List.set_cons_zero, List.set_cons_succ])
  refine lin_take_box k9 rfl 26 (.tmp 4) rfl (w.heap.size + 1) 0 rfl (oV o) (oV o) (fun y hy => HO.out.kept hy) whole_at _ Try.underlying26 rfl 16 (by kernel_rfl) ((oV_len o).trans HOL.out) ?_
  (try simp only [Act.put, List.setIfInBounds_toArray, List.set_cons_zero, List.set_cons_succ])
  refine lin_take_box k9 rfl 28 (.tmp 5) rfl (w.heap.size + 2) 0 rfl (insV i) (insV i) (fun y hy => HI.out.kept hy) whole_at _ Try.underlying28 rfl 5 (by kernel_rfl) rfl ?_
  (try simp only [Act.put, List.setIfInBounds_toArray, List.set_cons_zero, List.set_cons_succ])
  refine lin_take_box k9 rfl 26 (.tmp 4) rfl (w.heap.size + 1) 0 rfl (oV o) (oV o) (fun y hy => HO.out.kept hy) whole_at _ Try.underlying26 rfl 16 (by kernel_rfl) ((oV_len o).trans HOL.out) ?_
  (try simp only [Act.put, List.setIfInBounds_toArray, List.set_cons_zero, List.set_cons_succ])
  refine lin_call k9 (by rfl) (fun K hK => ?_)
  go_simp
  refine (side_any i o _ HOL.out).mono ?_; rintro e w9 ⟨rfl, hb⟩
  go_wp2_with fail
  have k10 := k9.to hb
  refine hK.out _ _ k10 (fun _ => ?_)
  clear hK K hb
  (try simp only [Act.put, List.setIfInBounds_toArray, List.set_cons_zero, List.set_cons_succ])
  refine lin_call k10 (by rfl) (fun K hK => ?_)
  go_simp
  refine (refSide_any i o _ HOL.out).mono ?_; rintro e w9 ⟨rfl, hb⟩
  go_wp2_with fail
  have k11 := k10.to hb
  refine hK.out _ _ k11 (fun _ => ?_)
  clear hK K hb
  (try simp only [Act.put, List.setIfInBounds_toArray, List.set_cons_zero, List.set_cons_succ])
  generalize sideZ i o = SB
  have hsb : (SB == SB) = true := by simp
  iterate 3 (refine lin_take (v := ?_) k11 (by rfl) ?_ ?_; rotate_left; (intro x hx; (try dsimp only at hx); go_simp; try (with_reducible rfl)); (try simp only [Act.put, List.setIfInBounds_toArray, List.set_cons_zero, List.set_cons_succ]))
  refine lin_done ?_
  go_wp2_with fail
  go_ret
  exact ⟨rfl, HK.out _ k11⟩
end Go.Proofs.Ytehelfmpcbejeaa.Words

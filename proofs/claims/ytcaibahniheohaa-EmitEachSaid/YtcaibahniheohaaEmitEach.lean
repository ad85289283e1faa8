/- The walk of the law EmitEach. -/
import Derived.Test.YtcaibahniheohaaEmtKinds
import Derived.Deep.Cut
namespace Go.Proofs.Ytcaibahniheohaa.Words
set_option maxRecDepth 100000
open Go.RowKit
set_option linter.unusedVariables false
set_option linter.unusedSimpArgs false

def eachO : List Int := [0, 1, 1, 1, 1, 1, 1, 1, 2, 2, 2, 2, 2, 2, 2, 2]
def eachI : List Ins := [⟨1, 1, 2, 3, 0⟩, ⟨1, 9, 2, 3, 0⟩, ⟨1, 9, 2, 2, 0⟩, ⟨1, 9, 8, 10, 0⟩, ⟨1, 0, 2, 3, 0⟩, ⟨13, 0, 2, 9, 0⟩, ⟨25, 9, 0, 0, 0⟩, ⟨25, 1, 0, 0, 0⟩, ⟨26, 1, 2, 0, 0⟩, ⟨26, 9, 2, 0, 0⟩, ⟨26, 0, 2, 0, 0⟩, ⟨31, 0, 1, 2, 0⟩, ⟨31, 0, 1, 9, 0⟩, ⟨31, 0, 1, 0, 0⟩, ⟨34, 0, 1, 2, 0⟩, ⟨34, 0, 1, 9, 0⟩, ⟨34, 0, 9, 10, 0⟩, ⟨34, 0, 0, 0, 0⟩, ⟨40, 0, 0, 0, 0⟩, ⟨41, 0, 0, 0, 0⟩]
def eachKA : List (List Int) := [[1], [5, 5], [5], [], [1], [5], [], [1], [2], [3], [2], [5, 4], [4], [4], [9], [5, 10], [10], [9], [11], [12]]
def eachKE : List (List Int) := [[], [6, 6, 1], [6, 1], [1], [], [6, 1], [1], [], [], [7], [], [6, 8], [8], [8], [10], [6, 9], [9], [10], [11], [12]]
theorem each_all : (List.range 20).all (fun j => match eachI[j]?, eachKA[j]?, eachKE[j]? with | some i, some a, some e => decide ((emitA (zeroed eachO) i 0 0).map Cel.kind = a) && decide ((emitE (zeroed eachO) i 0 0).map Cel.kind = e) && decide (a.length ≤ 3) && decide (e.length ≤ 3) | _, _, _ => false) = true := by decide +kernel
theorem each_at {j : Nat} (h : j < 20) : ∃ i a e, eachI[j]? = some i ∧ eachKA[j]? = some a ∧ eachKE[j]? = some e ∧ (emitA (zeroed eachO) i 0 0).map Cel.kind = a ∧ (emitE (zeroed eachO) i 0 0).map Cel.kind = e ∧ a.length ≤ 3 ∧ e.length ≤ 3 := by
  have := List.all_eq_true.1 each_all j (List.mem_range.2 h)
  split at this
  · rename_i i a e h1 h2 h3
    simp only [Bool.and_eq_true, decide_eq_true_iff] at this
    exact ⟨i, a, e, h1, h2, h3, this.1.1.1, this.1.1.2, this.1.2, this.2⟩
  · cases this

set_option maxHeartbeats 16000000 in
theorem emitEach_walk (k : Int) (w : World) (hk : -9223372036854775808 ≤ k ∧ k ≤ 9223372036854775807) :
    Calls Try.prog 6 #[.int .i64 k] w fun e w' => e = .returned (.bool true) ∧ Below w.heap.size w w' := by
  go_enter Try.func6, Try.ntmps6
  go_wp2_with fail
  refine (alive12_any _).mono ?_; rintro e w1 ⟨rfl, hb⟩
  have HK1 := Lib.hid hb
  clear hb
  go_wp2_with fail
  refine wp_loop_rounds 16 ?_
  iterate 16 (rw [rounds_succ]; go_upto_region 9 with (fail))
  obtain ⟨w2, hw2⟩ : ∃ w2, w2 = w1.alloc (.cells (oV eachO).toArray 24) := ⟨_, rfl⟩
  have HO2 : Hid (Box w2 w1.heap.size (oV eachO)) := by rw [hw2]; exact Box.new w1 _ _
  have HB2 : Hid (Below w1.heap.size w1 w2) := by rw [hw2]; exact (Below.refl _ _).alloc (Nat.le_refl _) _
  change Code.wp _ _ _ _ (w1.alloc (.cells (oV eachO).toArray 24))
  rw [← hw2]
  obtain ⟨BO, hBO⟩ : ∃ BO, BO = w1.heap.size := ⟨_, rfl⟩
  rw [← hBO] at HO2 HB2 ⊢
  have HBO := Lib.hid hBO
  clear hw2 hBO
  go_upto_region 10 with (fail)
  obtain ⟨w3, hw3⟩ : ∃ w3, w3 = w2.alloc (.cells (codeCells eachI).toArray 23) := ⟨_, rfl⟩
  have HI3 : Hid (Row w3 w3.heap.size 5 (.slice (some ⟨w2.heap.size, 0, none⟩) 20 20) 20 (codeCells eachI)) := by
    rw [hw3]
    exact row_insN w2 eachI 23 20 rfl (by omega)
  have HB3 : Hid (Below w2.heap.size w2 w3) := by rw [hw3]; exact (Below.refl _ _).alloc (Nat.le_refl _) _
  change Code.wp _ _ _ _ (w2.alloc (.cells (codeCells eachI).toArray 23))
  rw [← hw3]
  obtain ⟨BI, hBI⟩ : ∃ BI, BI = w2.heap.size := ⟨_, rfl⟩
  rw [← hBI] at HI3 HB3 ⊢
  have HBI := Lib.hid hBI
  clear hw3 hBI
  go_upto_region 11 with (fail)
  obtain ⟨w4, hw4⟩ : ∃ w4, w4 = (allocI w3 eachKA).alloc (.cells (intsAt w3.heap.size eachKA).toArray 34) := ⟨_, rfl⟩
  have HSA : Hid (Box w4 (w3.heap.size + 1 + 1 + 1 + 1 + 1 + 1 + 1 + 1 + 1 + 1 + 1 + 1 + 1 + 1 + 1 + 1 + 1 + 1 + 1 + 1) (intsAt w3.heap.size eachKA)) := by
    rw [hw4, show w3.heap.size + 1 + 1 + 1 + 1 + 1 + 1 + 1 + 1 + 1 + 1 + 1 + 1 + 1 + 1 + 1 + 1 + 1 + 1 + 1 + 1 = (allocI w3 eachKA).heap.size from ((allocI_below eachKA w3).2.trans rfl).symm]; exact Box.new _ _ _
  have HRA : Hid (∀ (j : Nat) (ks : List Int), eachKA[j]? = some ks → ks.length ≤ 100 → Row w4 w4.heap.size 1 (.slice (some ⟨w3.heap.size + j, 0, none⟩) ks.length ks.length) ks.length (ks.map (Value.int .i64))) := by
    intro j ks h1 h2
    rw [hw4]
    exact ((allocI_row eachKA w3 j ks h1 h2).2.alloc (Nat.le_refl _) _).more (by simp)
  have HVA : Hid (∀ (j : Nat) (ks : List Int), eachKA[j]? = some ks → ks.length ≤ 100 → (intsAt w3.heap.size eachKA)[j]? = some (.slice (some ⟨w3.heap.size + j, 0, none⟩) ks.length ks.length)) := fun j ks h1 h2 => (allocI_row eachKA w3 j ks h1 h2).1
  have HBA : Hid (Below w3.heap.size w3 w4) := by
    rw [hw4]; exact (allocI_below eachKA w3).1.alloc (by rw [(allocI_below eachKA w3).2]; omega) _
  change Code.wp _ _ _ _ ((allocI w3 eachKA).alloc (.cells (intsAt w3.heap.size eachKA).toArray 34))
  rw [← hw4]
  obtain ⟨BA, hBA⟩ : ∃ BA, BA = w3.heap.size + 1 + 1 + 1 + 1 + 1 + 1 + 1 + 1 + 1 + 1 + 1 + 1 + 1 + 1 + 1 + 1 + 1 + 1 + 1 + 1 := ⟨_, rfl⟩
  rw [← hBA] at HSA ⊢
  clear hw4 hBA
  go_upto_region 12 with (fail)
  obtain ⟨w5, hw5⟩ : ∃ w5, w5 = (allocI w4 eachKE).alloc (.cells (intsAt w4.heap.size eachKE).toArray 34) := ⟨_, rfl⟩
  have HSE : Hid (Box w5 (w4.heap.size + 1 + 1 + 1 + 1 + 1 + 1 + 1 + 1 + 1 + 1 + 1 + 1 + 1 + 1 + 1 + 1 + 1 + 1 + 1 + 1) (intsAt w4.heap.size eachKE)) := by
    rw [hw5, show w4.heap.size + 1 + 1 + 1 + 1 + 1 + 1 + 1 + 1 + 1 + 1 + 1 + 1 + 1 + 1 + 1 + 1 + 1 + 1 + 1 + 1 = (allocI w4 eachKE).heap.size from ((allocI_below eachKE w4).2.trans rfl).symm]; exact Box.new _ _ _
  have HRE : Hid (∀ (j : Nat) (ks : List Int), eachKE[j]? = some ks → ks.length ≤ 100 → Row w5 w5.heap.size 1 (.slice (some ⟨w4.heap.size + j, 0, none⟩) ks.length ks.length) ks.length (ks.map (Value.int .i64))) := by
    intro j ks h1 h2
    rw [hw5]
    exact ((allocI_row eachKE w4 j ks h1 h2).2.alloc (Nat.le_refl _) _).more (by simp)
  have HVE : Hid (∀ (j : Nat) (ks : List Int), eachKE[j]? = some ks → ks.length ≤ 100 → (intsAt w4.heap.size eachKE)[j]? = some (.slice (some ⟨w4.heap.size + j, 0, none⟩) ks.length ks.length)) := fun j ks h1 h2 => (allocI_row eachKE w4 j ks h1 h2).1
  have HBE : Hid (Below w4.heap.size w4 w5) := by
    rw [hw5]; exact (allocI_below eachKE w4).1.alloc (by rw [(allocI_below eachKE w4).2]; omega) _
  change Code.wp _ _ _ _ ((allocI w4 eachKE).alloc (.cells (intsAt w4.heap.size eachKE).toArray 34))
  rw [← hw5]
  obtain ⟨BE, hBE⟩ : ∃ BE, BE = w4.heap.size + 1 + 1 + 1 + 1 + 1 + 1 + 1 + 1 + 1 + 1 + 1 + 1 + 1 + 1 + 1 + 1 + 1 + 1 + 1 + 1 := ⟨_, rfl⟩
  rw [← hBE] at HSE ⊢
  clear hw5 hBE
  have HZ2 : Hid (w.heap.size ≤ w2.heap.size) := by have h1 := HK1.out.size; have h2 := HB2.out.size; have h3 := HBO.out; show _ ≤ _; omega
  have HB23 : Hid (Below w2.heap.size w2 w3) := by rw [← HBI.out]; exact HB3.out
  have HB12 : Hid (Below w1.heap.size w1 w2) := by rw [← HBO.out]; exact HB2.out
  have HK5 : Hid (Below w.heap.size w w5) := (((HK1.out.trans (HB12.out.mono HK1.out.size)).trans (HB23.out.mono HZ2.out)).trans (HBA.out.mono (Nat.le_trans HZ2.out HB23.out.size))).trans (HBE.out.mono (Nat.le_trans HZ2.out (Nat.le_trans HB23.out.size HBA.out.size)))
  have HO3 := Lib.hid ((HO2.out.below HB23.out HO2.out.lt).below HBA.out (HO2.out.below HB23.out HO2.out.lt).lt)
  have HO5 := Lib.hid (HO3.out.below HBE.out HO3.out.lt)
  have HI4 := Lib.hid ((HI3.out.below HBA.out).more HBA.out.size)
  have HI5 := Lib.hid ((HI4.out.below HBE.out).more HBE.out.size)
  have HSA5 := Lib.hid (HSA.out.below HBE.out HSA.out.lt)
  have HRA5 := Lib.hid (fun (j : Nat) (ks : List Int) h1 h2 => ((HRA.out j ks h1 h2).below HBE.out).more HBE.out.size)
  clear HO2 HO3 HI3 HI4 HSA HRA HB2 HB3
  by_cases h0 : 0 ≤ k
  rotate_left
  · have g0 : decide (k < 0) = true := decide_eq_true (by omega)
    go_wp2_with fail
    go_ret
    exact ⟨by first | rfl | trivial, HK5.out⟩
  by_cases h20 : k < 20
  rotate_left
  · have g0 : decide (k < 0) = false := decide_eq_false (by omega)
    have g1 : decide (20 ≤ k) = true := decide_eq_true (by omega)
    go_wp2_with fail
    go_ret
    exact ⟨by first | rfl | trivial, HK5.out⟩
  obtain ⟨j, rfl⟩ : ∃ j : Nat, k = j := ⟨k.toNat, by omega⟩
  have hj : j < 20 := by omega
  obtain ⟨ii, ka, ke, p1, p2, p3, p4, p5, p6, p7⟩ := each_at hj
  obtain ⟨i0, i1, i2, i3, i4⟩ := HI5.out.ins p1
  simp only [Nat.zero_add] at i0 i1 i2 i3 i4
  have HCA := Lib.hid (HSA5.out.cell (HVA.out j ka p2 (by omega)))
  have HCE := Lib.hid (HSE.out.cell (HVE.out j ke p3 (by omega)))
  have HRA6 := Lib.hid (HRA5.out j ka p2 (by omega))
  have HRE6 := Lib.hid (HRE.out j ke p3 (by omega))
  obtain ⟨PA, hPA⟩ : ∃ PA, PA = w3.heap.size + j := ⟨_, rfl⟩
  obtain ⟨PE, hPE⟩ : ∃ PE, PE = w4.heap.size + j := ⟨_, rfl⟩
  rw [← hPA] at HCA HRA6
  rw [← hPE] at HCE HRE6
  have HP4 := Lib.hid p4
  have HP5 := Lib.hid p5
  have HNA : Hid ((emitA (zeroed eachO) ii 0 0).length = ka.length) := by show _ = _; rw [← p4, List.length_map]
  have HNE : Hid ((emitE (zeroed eachO) ii 0 0).length = ke.length) := by show _ = _; rw [← p5, List.length_map]
  have HLA : Hid (ka.length ≤ 100) := by show _ ≤ _; omega
  have HLE : Hid (ke.length ≤ 100) := by show _ ≤ _; omega
  have hb1 := HSA5.out.lt
  have hb2 := HSE.out.lt
  have hb3 : BI < w5.heap.size := by have h1 := HBI.out; have h2 := HB23.out.size; have h3 := HBA.out.size; have h4 := HBE.out.size; have h5 := HI5.out.at_ (by decide); obtain ⟨g, o, e, h6, _⟩ := h5; injection e with e; injection e with e1 e2; omega
  have D0 := Lib.hid (fun (y : World) (h : Kept w5 y) => h.cell hb3 i0)
  have D1 := Lib.hid (fun (y : World) (h : Kept w5 y) => h.cell hb3 i1)
  have D2 := Lib.hid (fun (y : World) (h : Kept w5 y) => h.cell hb3 i2)
  have D3 := Lib.hid (fun (y : World) (h : Kept w5 y) => h.cell hb3 i3)
  have D4 := Lib.hid (fun (y : World) (h : Kept w5 y) => h.cell hb3 i4)
  have D5 := Lib.hid (fun (y : World) (h : Kept w5 y) => h.cell hb1 HCA.out)
  have D6 := Lib.hid (fun (y : World) (h : Kept w5 y) => h.cell hb2 HCE.out)
  have g0 : decide ((j : Int) < 0) = false := decide_eq_false (by omega)
  have g1 : decide (20 ≤ (j : Int)) = false := decide_eq_false (by omega)
  have g2 : (j : Int) < 20 := by omega
  clear p1 p2 p3 p4 p5 p6 p7 i0 i1 i2 i3 i4 hPA hPE hb1 hb2 hb3 HVA HVE
  go_wp2_with fail
  refine wp_region_lin [(0, true), (1, true), (2, true), (3, true), (4, true), (6, true), (7, true), (8, true), (9, true), (5, false), (10, false), (11, true), (12, true), (13, true), (14, true), (15, true), (16, true), (18, true), (19, true), (20, true), (21, true), (17, false), (22, false), (23, true), (24, true)]
    (by kernel_rfl) (by kernel_rfl) rfl (by kernel_rfl) (Kept w5) ?_
  have k0 : Kept w5 w5.drew := (Kept.refl w5).drew
  simp only [List.map_cons, List.map_nil, List.getElem?_toArray, List.getElem?_cons_succ, List.getElem?_cons_zero]
  iterate 4 (refine lin_take (v := ?_) k0 (by rfl) ?_ ?_; rotate_left; (intro x hx; (try dsimp only at hx); (try have d0 := D0.out x hx); (try have d1 := D1.out x hx); (try have d2 := D2.out x hx); (try have d3 := D3.out x hx); (try have d4 := D4.out x hx); (try have d5 := D5.out x hx); (try have d6 := D6.out x hx); go_simp; try (with_reducible rfl)); (try simp only [Act.put, List.setIfInBounds_toArray, List.set_cons_zero, List.set_cons_succ]))
  refine lin_take_box k0 rfl 24 (.tmp 4) rfl BO 0 rfl (oV eachO) (oV eachO) (fun y hy => HO5.out.kept hy) whole_at _ Try.underlying24 rfl 16 (by kernel_rfl) rfl ?_
  simp only [Act.put, List.setIfInBounds_toArray, List.set_cons_zero, List.set_cons_succ]
  iterate 4 (refine lin_take (v := ?_) k0 (by rfl) ?_ ?_; rotate_left; (intro x hx; (try dsimp only at hx); (try have d0 := D0.out x hx); (try have d1 := D1.out x hx); (try have d2 := D2.out x hx); (try have d3 := D3.out x hx); (try have d4 := D4.out x hx); (try have d5 := D5.out x hx); (try have d6 := D6.out x hx); go_simp; try (with_reducible rfl)); (try simp only [Act.put, List.setIfInBounds_toArray, List.set_cons_zero, List.set_cons_succ]))
  refine lin_call k0 (by rfl) (fun K hK => ?_)
  go_simp
  refine (emitA_any ii eachO 0 0 _ rfl).mono ?_; rintro e waa ⟨v, rfl, hr, hn, hb⟩
  go_wp2_with fail
  have kaa := k0.to hb
  obtain ⟨AA, cA, rfl⟩ := hr.form
  have HRA7 : Hid (Row waa waa.heap.size 9 (.slice AA (emitA (zeroed eachO) ii 0 0).length cA) (emitA (zeroed eachO) ii 0 0).length (flat celCells (emitA (zeroed eachO) ii 0 0))) := hr
  have HKA7 := Lib.hid ((HRA6.out.below kaa).more kaa.size)
  clear hr hn
  refine hK.out _ _ kaa (fun _ => ?_)
  clear hK K hb
  try simp only [Act.put, List.setIfInBounds_toArray, List.set_cons_zero, List.set_cons_succ]
  refine lin_call kaa (by rfl) (fun K hK => ?_)
  go_simp
  refine (kinds_any AA (some ⟨PA, 0, none⟩) _ _ cA _ (emitA (zeroed eachO) ii 0 0) ka _ rfl HNA.out.symm (by rw [HNA.out]; exact HLA.out) HP4.out HRA7.out HKA7.out).mono ?_; rintro e wac ⟨rfl, hb⟩
  go_wp2_with fail
  have kac := kaa.to hb
  refine hK.out _ _ kac (fun _ => ?_)
  clear hK K hb
  try simp only [Act.put, List.setIfInBounds_toArray, List.set_cons_zero, List.set_cons_succ]
  iterate 5 (refine lin_take (v := ?_) kac (by rfl) ?_ ?_; rotate_left; (intro x hx; (try dsimp only at hx); (try have d0 := D0.out x hx); (try have d1 := D1.out x hx); (try have d2 := D2.out x hx); (try have d3 := D3.out x hx); (try have d4 := D4.out x hx); (try have d5 := D5.out x hx); (try have d6 := D6.out x hx); go_simp; try (with_reducible rfl)); (try simp only [Act.put, List.setIfInBounds_toArray, List.set_cons_zero, List.set_cons_succ]))
  refine lin_take_box kac rfl 24 (.tmp 4) rfl BO 0 rfl (oV eachO) (oV eachO) (fun y hy => HO5.out.kept hy) whole_at _ Try.underlying24 rfl 16 (by kernel_rfl) rfl ?_
  simp only [Act.put, List.setIfInBounds_toArray, List.set_cons_zero, List.set_cons_succ]
  iterate 4 (refine lin_take (v := ?_) kac (by rfl) ?_ ?_; rotate_left; (intro x hx; (try dsimp only at hx); (try have d0 := D0.out x hx); (try have d1 := D1.out x hx); (try have d2 := D2.out x hx); (try have d3 := D3.out x hx); (try have d4 := D4.out x hx); (try have d5 := D5.out x hx); (try have d6 := D6.out x hx); go_simp; try (with_reducible rfl)); (try simp only [Act.put, List.setIfInBounds_toArray, List.set_cons_zero, List.set_cons_succ]))
  refine lin_call kac (by rfl) (fun K hK => ?_)
  go_simp
  refine (emitE_any ii eachO 0 0 _ rfl).mono ?_; rintro e wea ⟨v, rfl, hr, hn, hb⟩
  go_wp2_with fail
  have kea := kac.to hb
  obtain ⟨AE, cE, rfl⟩ := hr.form
  have HRE7 : Hid (Row wea wea.heap.size 9 (.slice AE (emitE (zeroed eachO) ii 0 0).length cE) (emitE (zeroed eachO) ii 0 0).length (flat celCells (emitE (zeroed eachO) ii 0 0))) := hr
  have HKE7 := Lib.hid ((HRE6.out.below kea).more kea.size)
  clear hr hn
  refine hK.out _ _ kea (fun _ => ?_)
  clear hK K hb
  try simp only [Act.put, List.setIfInBounds_toArray, List.set_cons_zero, List.set_cons_succ]
  refine lin_call kea (by rfl) (fun K hK => ?_)
  go_simp
  refine (kinds_any AE (some ⟨PE, 0, none⟩) _ _ cE _ (emitE (zeroed eachO) ii 0 0) ke _ rfl HNE.out.symm (by rw [HNE.out]; exact HLE.out) HP5.out HRE7.out HKE7.out).mono ?_; rintro e wec ⟨rfl, hb⟩
  go_wp2_with fail
  have kec := kea.to hb
  refine hK.out _ _ kec (fun _ => ?_)
  clear hK K hb
  try simp only [Act.put, List.setIfInBounds_toArray, List.set_cons_zero, List.set_cons_succ]
  iterate 2 (refine lin_take (v := ?_) kec (by rfl) ?_ ?_; rotate_left; (intro x hx; (try dsimp only at hx); (try have d0 := D0.out x hx); (try have d1 := D1.out x hx); (try have d2 := D2.out x hx); (try have d3 := D3.out x hx); (try have d4 := D4.out x hx); (try have d5 := D5.out x hx); (try have d6 := D6.out x hx); go_simp; try (with_reducible rfl)); (try simp only [Act.put, List.setIfInBounds_toArray, List.set_cons_zero, List.set_cons_succ]))
  refine lin_done ?_
  have HKE := Lib.hid (HK5.out.trans (Below.mono kec HK5.out.size))
  go_wp2_with fail
  go_ret
  exact ⟨by first | rfl | trivial, HKE.out⟩
end Go.Proofs.Ytcaibahniheohaa.Words

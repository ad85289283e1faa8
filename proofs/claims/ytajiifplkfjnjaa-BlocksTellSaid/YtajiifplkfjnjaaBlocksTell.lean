/- The walk of law 10's BlocksTell. -/
import Derived.Test.YtajiifplkfjnjaaBlkAlive
import Derived.Test.YtajiifplkfjnjaaImageHelp
import Derived.Test.YtajiifplkfjnjaaBlkRefCut
import Derived.Test.YtajiifplkfjnjaaRefSameSpl
namespace Go.Proofs.Ytajiifplkfjnjaa.Words
set_option maxRecDepth 100000
open Go.RowKit
set_option linter.unusedVariables false

theorem few_parts {n m : Nat} (h : fewB n m = true) : n ≤ 200 ∧ m ≤ 500 := of_decide_eq_true h

set_option maxHeartbeats 4000000 in
theorem blocksTell_walk (A : Option Addr) (c : Nat) (D : Option Addr) (d : Nat) (p : Prog) (w : World) (hf : p.Fits) (hp : ProgV w w.heap.size (.slice A p.code.length c) (.slice D p.data.length d) p) :
    Calls Try.prog 3 #[.agg #[.slice A p.code.length c, .int .i64 p.size, .slice D p.data.length d]] w fun e w' => e = .returned (.bool true) ∧ Below w.heap.size w w' := by
  obtain ⟨u1, u2⟩ := hp.code.cap
  obtain ⟨u3, u4⟩ := hp.data.cap
  have HK := Lib.hid (fun (x : World) (h : Kept (w.alloc (.cells #[.slice A p.code.length c, .int .i64 p.size, .slice D p.data.length d] 25)) x) => ((Below.refl w.heap.size w).alloc (Nat.le_refl _) _).trans (h.mono (by simp)))
  have hB : w.heap.size < (w.alloc (.cells #[.slice A p.code.length c, .int .i64 p.size, .slice D p.data.length d] 25)).heap.size := by simp
  have HR := Lib.hid ((hp.code.alloc (Nat.le_refl _) (.cells #[.slice A p.code.length c, .int .i64 p.size, .slice D p.data.length d] 25)).more (Nat.le_of_lt hB))
  have c0 : (w.alloc (.cells #[.slice A p.code.length c, .int .i64 p.size, .slice D p.data.length d] 25)).cell? ⟨w.heap.size, 0, none⟩ = some (.slice A p.code.length c) := by go_simp
  have c1 : (w.alloc (.cells #[.slice A p.code.length c, .int .i64 p.size, .slice D p.data.length d] 25)).cell? ⟨w.heap.size, 1, none⟩ = some (.int .i64 p.size) := by go_simp
  have c2 : (w.alloc (.cells #[.slice A p.code.length c, .int .i64 p.size, .slice D p.data.length d] 25)).cell? ⟨w.heap.size, 2, none⟩ = some (.slice D p.data.length d) := by go_simp
  clear hp
  go_enter Try.func3, Try.ntmps3
  go_wp2_with fail
  generalize w.alloc (.cells #[.slice A p.code.length c, .int .i64 p.size, .slice D p.data.length d] 25) = W at *
  have C0 := Lib.hid (fun (x : World) (h : Kept W x) => h.cell hB c0)
  have C1 := Lib.hid (fun (x : World) (h : Kept W x) => h.cell hB c1)
  have C2 := Lib.hid (fun (x : World) (h : Kept W x) => h.cell hB c2)
  clear c0 c1 c2
  have k0 := Kept.refl W
  refine (alive10_any _).mono ?_; rintro e w1 ⟨rfl, hb1⟩
  have k1 := k0.to hb1
  have c0 := C0.out _ k1
  have c1 := C1.out _ k1
  have c2 := C2.out _ k1
  clear hb1 k0
  go_wp2_with fail
  refine (few_any A D p.code.length c p.data.length d p.size _ (by omega) (by omega)).mono ?_; rintro e w2 ⟨rfl, hb2⟩
  have k2 := k1.to hb2
  have c0 := C0.out _ k2
  have c1 := C1.out _ k2
  have c2 := C2.out _ k2
  clear hb2 k1
  cases hfew : fewB p.code.length p.data.length
  · go_wp2_with fail
    go_ret
    exact ⟨rfl, HK.out _ k2⟩
  obtain ⟨f1, f2⟩ := few_parts hfew
  clear hfew
  obtain ⟨CS, hCS⟩ : ∃ CS, CS = (cutR p.code p.size p.data.length).map bareB := ⟨_, rfl⟩
  have HCS := Lib.hid hCS
  clear hCS
  go_wp2_with fail
  refine (blkLeaders_any A c p.size D p.data.length d p.code _ (k2.row HR.out) (by omega) (by omega)).mono ?_; rintro e w3 ⟨v3, rfl, own3, hb3⟩
  have k3 := k2.to hb3
  have c0 := C0.out _ k3
  have c1 := C1.out _ k3
  have c2 := C2.out _ k3
  obtain ⟨A3, c3, rfl⟩ := (Row.of_own own3).form
  have R3 := Lib.hid (Row.of_own own3)
  clear hb3 k2 own3
  go_wp2_with fail
  refine (refLeaders_any A c p.size D p.data.length d p.code _ (k3.row HR.out) (by omega) (by omega)).mono ?_; rintro e w4 ⟨v4, rfl, own4, hb4⟩
  have k4 := k3.to hb4
  have R3 := Lib.hid ((R3.out.below hb4).more hb4.size)
  have R4 := Lib.hid (Row.of_own own4)
  obtain ⟨A4, c4, rfl⟩ := (Row.of_own own4).form
  clear hb4 k3 own4 c0 c1 c2
  generalize hLL : leadsR p.code p.size p.data.length = L at *
  have hLle : L.length ≤ p.code.length := by rw [← hLL]; exact leadsR_le _ _ _
  clear hLL
  have HA := Lib.hid (fun (h : L.length ≠ 0) => (⟨R3.out.at_ h, R4.out.at_ h⟩ : (∃ b off, A3 = some ⟨b, off, none⟩ ∧ b < w4.heap.size ∧ ∀ j u, (natL L)[j]? = some u → w4.cell? ⟨b, off + j, none⟩ = some u) ∧ (∃ b off, A4 = some ⟨b, off, none⟩ ∧ b < w4.heap.size ∧ ∀ j u, (natL L)[j]? = some u → w4.cell? ⟨b, off + j, none⟩ = some u)))
  have HG := Lib.hid (fun j (h : j < L.length) => natL_get h)
  clear R3 R4
  generalize hN : L.length = n at *
  have hn2 : n ≤ 200 := by omega
  clear hN
  go_wp2_with fail
  go_loopw [6] (fun i wr => ∃ j m : Nat, j ≤ n ∧ i = .int .i64 j ∧ wr = w4.drewN m) (fun i _ => n - (intOf i).toNat)
  case atStart => exact ⟨0, 0, Nat.zero_le _, rfl, rfl⟩
  case round =>
    obtain ⟨j, m, hj, rfl, rfl⟩ := hrel
    by_cases hlt : j < n
    · obtain ⟨⟨b3, o3, rfl, _, h3⟩, ⟨b4, o4, rfl, _, h4⟩⟩ := HA.out (by omega)
      have a3 := h3 j _ (HG.out j hlt)
      have a4 := h4 j _ (HG.out j hlt)
      have j0 : (0 : Int) ≤ j := by omega
      have j1 : (j : Int) < n := by omega
      clear h3 h4
      go_wp2_with fail
      go_quiet (fail)
      go_wp2_with fail
      go_roundw
      case rel => exact ⟨j + 1, _, by omega, by go_num, rfl⟩
      case measure => simp [intOf]; omega
    · have k5 := Lib.hid (Kept.drew (k4.drewN m))
      have c0 := C0.out
      have c1 := C1.out
      have c2 := C2.out
      go_wp2_with fail
      refine wp_region_lin [(0, true), (3, true), (1, false), (2, true), (4, false), (5, true), (6, false), (7, true)]
        (by kernel_rfl) (by kernel_rfl) rfl (by kernel_rfl) (Kept W) ?_
      have k5 := k5.out
      simp only [List.map_cons, List.map_nil, List.getElem?_toArray, List.getElem?_cons_succ, List.getElem?_cons_zero]
      iterate 2 (refine lin_take (v := ?_) (by assumption) (by rfl) ?_ ?_; rotate_left; (intro x hx; (try dsimp only at hx); go_simp; try (with_reducible rfl)); (try simp only [Act.put, List.setIfInBounds_toArray, List.set_cons_zero, List.set_cons_succ]))
      refine lin_call (by assumption) (by rfl) (fun K hK => ?_)
      go_simp
      refine (blkCut_any A c p.size D p.data.length d p.code _ (k5.row HR.out) (by omega) (by omega)).mono ?_; rintro e w6 ⟨v6, rfl, own6, hb6⟩
      have k6 := Lib.hid (Kept.to k5 hb6)
      have R6 : Hid (BlksV w6 w6.heap.size v6 CS) := by rw [HCS.out]; exact BlksV.bare (Row.of_own own6)
      obtain ⟨A6, c6, rfl⟩ := R6.out.form
      clear c0 c1 c2
      go_wp2_with fail
      refine hK.out _ _ k6.out (fun _ => ?_)
      clear hK K hb6 k5 own6
      try simp only [Act.put, List.setIfInBounds_toArray, List.set_cons_zero, List.set_cons_succ]
      (refine lin_take (v := ?_) (by assumption) (by rfl) ?_ ?_; rotate_left; (intro x hx; (try dsimp only at hx); go_simp; try (with_reducible rfl)); (try simp only [Act.put, List.setIfInBounds_toArray, List.set_cons_zero, List.set_cons_succ]))
      refine lin_more (S' := Kept w6) (fun x h => k6.out.trans h) ?_
      have kk6 := Kept.refl w6
      refine lin_call (by assumption) (by rfl) (fun K hK => ?_)
      go_simp
      refine (refCut_any A c p.size D p.data.length d p.code _ (k6.out.row HR.out) (by omega) (by omega)).mono ?_; rintro e w7 ⟨v7, rfl, own7, hb7⟩
      have k7 := k6.out.to hb7
      have R7 : Hid (BlksV w7 w7.heap.size v7 CS) := by rw [HCS.out]; exact BlksV.bare (Row.of_own own7)
      obtain ⟨A7, c7, rfl⟩ := R7.out.form
      have R67 := Lib.hid ((R6.out.below hb7).more hb7.size)
      go_wp2_with fail
      refine hK.out _ _ (kk6.to hb7) (fun _ => ?_)
      have kk7 := kk6.to hb7
      clear hK K hb7 own7 kk6
      try simp only [Act.put, List.setIfInBounds_toArray, List.set_cons_zero, List.set_cons_succ]
      (refine lin_take (v := ?_) (by assumption) (by rfl) ?_ ?_; rotate_left; (intro x hx; (try dsimp only at hx); go_simp; try (with_reducible rfl)); (try simp only [Act.put, List.setIfInBounds_toArray, List.set_cons_zero, List.set_cons_succ]))
      refine lin_more (S' := Kept w7) (fun x h => kk7.trans h) ?_
      have kw := Kept.refl w7
      refine lin_call (by assumption) (by rfl) (fun K hK => ?_)
      go_simp
      have hS := refSameSpl_any A6 A7 c6 c7 CS CS (List.replicate 16 0) (List.replicate 16 0) w7 rfl rfl R67.out R7.out
      rw [decide_eq_true (show CS = CS ∧ List.replicate 16 (0 : Int) = List.replicate 16 0 from ⟨rfl, rfl⟩)] at hS
      have e6 : (splV (.slice A6 CS.length c6) (List.replicate 16 0)).toArray = #[.slice A6 CS.length c6, .int .i64 0, .int .i64 0, .int .i64 0, .int .i64 0, .int .i64 0, .int .i64 0, .int .i64 0, .int .i64 0, .int .i64 0, .int .i64 0, .int .i64 0, .int .i64 0, .int .i64 0, .int .i64 0, .int .i64 0, .int .i64 0] := rfl
      have e7 : (splV (.slice A7 CS.length c7) (List.replicate 16 0)).toArray = #[.slice A7 CS.length c7, .int .i64 0, .int .i64 0, .int .i64 0, .int .i64 0, .int .i64 0, .int .i64 0, .int .i64 0, .int .i64 0, .int .i64 0, .int .i64 0, .int .i64 0, .int .i64 0, .int .i64 0, .int .i64 0, .int .i64 0, .int .i64 0] := rfl
      rw [e6, e7] at hS
      refine hS.mono ?_; rintro e w8 ⟨rfl, hb8⟩
      have k8 := k7.to hb8
      go_wp2_with fail
      refine hK.out _ _ (kw.to hb8) (fun _ => ?_)
      clear hK K
      try simp only [Act.put, List.setIfInBounds_toArray, List.set_cons_zero, List.set_cons_succ]
      (refine lin_take (v := ?_) (by assumption) (by rfl) ?_ ?_; rotate_left; (intro x hx; (try dsimp only at hx); go_simp; try (with_reducible rfl)); (try simp only [Act.put, List.setIfInBounds_toArray, List.set_cons_zero, List.set_cons_succ]))
      refine lin_done ?_
      go_wp2_with fail
      go_ret
      exact ⟨rfl, HK.out _ k8⟩
end Go.Proofs.Ytajiifplkfjnjaa.Words

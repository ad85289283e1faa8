/- The walk of ShowBack: a program's text is that program. -/
import Derived.Test.YtcaibahniheohaaDoorBG30
import Derived.Test.YtcaibahniheohaaDoorBG31
import Derived.Test.YtcaibahniheohaaDoorBG24
import Derived.Test.YtcaibahniheohaaDoorBG25
namespace Go.Proofs.YtcaibahniheohaaDoor.Words
set_option maxRecDepth 100000
open Go.RowKit Go.Shelf Go.Lib
set_option linter.unusedVariables false
set_option linter.unusedSimpArgs false
theorem few_partsS {n m : Nat} (h : fewB n m = true) : n ≤ 200 ∧ m ≤ 500 := of_decide_eq_true h
theorem showT_len {p : Prog} (hr : p.right = true) (hd : ∀ b ∈ p.data, 0 ≤ b ∧ b ≤ 255) (h : p.code.length ≤ 200 ∧ p.data.length ≤ 500) : (showT p).length ≤ 19000 := by
  have := txtC_len hr hd p.code.length (Nat.le_refl _)
  have e : showT p = txtC p p.code.length := rfl
  rw [e]; omega
theorem box_kept {W x : World} {b : Nat} {l : List Value} (h : Box W b l) (hk : Kept W x) : Box x b l := h.below hk h.lt
theorem whole_is {l : List Value} : ∀ j v, l[j]? = some v → l[0 + j]? = some v := fun j v h => by rw [Nat.zero_add]; exact h
set_option maxHeartbeats 4000000 in
theorem showBack_walk (A : Option Addr) (c : Nat) (D : Option Addr) (d : Nat) (p : Prog) (w : World) (hT : TabsS w ∧ TabsL w) (hf : p.Fits) (hp : ProgV w w.heap.size (.slice A p.code.length c) (.slice D p.data.length d) p) :
    Calls Tryd.prog 4 #[.agg #[.slice A p.code.length c, .int .i64 p.size, .slice D p.data.length d]] w fun e w' => e = .returned (.bool true) ∧ Below w.heap.size w w' := by
  obtain ⟨u1, u2⟩ := hp.code.cap
  obtain ⟨u3, u4⟩ := hp.data.cap
  obtain ⟨W, hW⟩ : ∃ W, W = w.alloc (.cells #[.slice A p.code.length c, .int .i64 p.size, .slice D p.data.length d] 26) := ⟨_, rfl⟩
  have hz0 : W.heap.size = w.heap.size + 1 := by rw [hW]; simp
  have b0 : Below w.heap.size w W := by rw [hW]; exact (Below.refl w.heap.size w).alloc (Nat.le_refl _) _
  have HP : Hid (Box W w.heap.size [.slice A p.code.length c, .int .i64 p.size, .slice D p.data.length d]) := by rw [hW]; exact Box.new w [.slice A p.code.length c, .int .i64 p.size, .slice D p.data.length d] _
  have HV : Hid (ProgV W W.heap.size (.slice A p.code.length c) (.slice D p.data.length d) p) := by rw [hW]; exact (hp.alloc (Nat.le_refl _) _).more (by simp)
  have HK := Lib.hid (fun (x : World) (h : Kept W x) => b0.trans (Below.mono h (by omega)))
  have HV2 := Lib.hid (fun (x : World) (h : Kept W x) => (HV.out.below h).more h.size)
  have HTS : Hid (TabsS W) := hT.1.below b0
  have HTL : Hid (TabsL W) := hT.2.below b0
  have HFI := Lib.hid hf
  have hzW : w.heap.size < W.heap.size := by omega
  clear hz0 b0 hp hT hf
  go_enter Tryd.func4, Tryd.ntmps4
  go_wp2_with fail
  rw [← hW]
  clear hW
  have k0 := Kept.refl W
  refine (alive9_any _ HTS.out).mono ?_; rintro e w1 ⟨rfl, hb1⟩
  have k1 := k0.to hb1
  have HP1 := Lib.hid (box_kept HP.out k1)
  clear hb1 k0
  go_wp2_with (first
    | (refine wpList_load_box rfl 26 (.tmp 1) rfl w.heap.size 0 rfl [.slice A p.code.length c, .int .i64 p.size, .slice D p.data.length d] [.slice A p.code.length c, .int .i64 p.size, .slice D p.data.length d] HP1.out whole_is _ Tryd.underlying26 rfl 3 (by kernel_rfl) rfl ?_))
  refine (few_any A D p.code.length c p.data.length d p.size _ (by omega) (by omega)).mono ?_; rintro e w2 ⟨rfl, hb2⟩
  have k2 := k1.to hb2
  have HP2 := Lib.hid (box_kept HP.out k2)
  clear hb2 k1 HP1
  cases hfew : fewB p.code.length p.data.length
  · go_wp2_with fail
    go_ret
    exact ⟨rfl, HK.out _ k2⟩
  have HFE := Lib.hid (few_partsS hfew)
  clear hfew
  go_wp2_with (first
    | (refine wpList_load_box rfl 26 (.tmp 1) rfl w.heap.size 0 rfl [.slice A p.code.length c, .int .i64 p.size, .slice D p.data.length d] [.slice A p.code.length c, .int .i64 p.size, .slice D p.data.length d] HP2.out whole_is _ Tryd.underlying26 rfl 3 (by kernel_rfl) rfl ?_))
  refine (refRight_any A c p.size D p.data.length d p.code _ (HV2.out _ k2).code u3 u4).mono ?_; rintro e w3 ⟨rfl, hb3⟩
  have k3 := k2.to hb3
  have HP3 := Lib.hid (box_kept HP.out k3)
  clear hb3 k2 HP2
  cases hri : rightZ p.code p.size p.data.length
  · go_wp2_with fail
    go_ret
    exact ⟨rfl, HK.out _ k3⟩
  have HRI : Hid (p.right = true) := hri
  have HTX : Hid (textS p = showT p) := by show _ = _; unfold textS; rw [if_pos HRI.out]
  have HLN := Lib.hid (showT_len HRI.out HFI.out.2.2 HFE.out)
  have HAS := Lib.hid (show_asm HRI.out HFI.out.2.2 (by have := HLN.out; omega))
  clear hri
  go_wp2_with (first
    | (refine wpList_load_box rfl 26 (.tmp 1) rfl w.heap.size 0 rfl [.slice A p.code.length c, .int .i64 p.size, .slice D p.data.length d] [.slice A p.code.length c, .int .i64 p.size, .slice D p.data.length d] HP3.out whole_is _ Tryd.underlying26 rfl 3 (by kernel_rfl) rfl ?_))
  refine (showText_any A D c d p _ (HTS.out.below k3) (HV2.out _ k3) HFI.out (fun _ => ⟨by have := HFE.out; omega, by have := HFE.out; omega⟩)).mono ?_; rintro e w4 ⟨rfl, hb4⟩
  rw [HTX.out]
  have k4 := k3.to hb4
  clear hb4 k3 HP3
  go_wp2_with fail
  refine (refAsm_any (showT p) _ HLN.out (HTL.out.below k4)).mono ?_
  rintro e w5 ⟨ho, hb5⟩
  rw [HAS.out] at ho
  obtain ⟨vc, vd, rfl, ho1, ho2⟩ := ho
  obtain ⟨A2, c2, rfl⟩ := (Row.of_own ho1).form
  obtain ⟨D2, d2, rfl⟩ := (Row.of_own ho2).form
  have k5 := k4.to hb5
  have HPQ : Hid (ProgV w5 w5.heap.size (.slice A2 p.code.length c2) (.slice D2 p.data.length d2) p) := ⟨Row.of_own ho1, Row.of_own ho2⟩
  clear hb5 k4 ho1 ho2
  have hsz : (txt (showT p)).size = (showT p).length := txt_sz _
  have s0 : ((showT p).length : Int) ≤ 19000 := by have := HLN.out; omega
  have q1 : decide (20000 < ((showT p).length : Int)) = false := decide_eq_false (by omega)
  have q2 : decide (20000 < (showT p).length) = false := decide_eq_false (by omega)
  have HPO := Lib.hid (fun (o : Obj) => box_kept HP.out (k5.alloc o))
  have HSM := Lib.hid (fun (o : Obj) => refSame_any A D A2 D2 c d c2 d2 p p (w5.alloc o) (HV2.out _ (k5.alloc o)) ((HPQ.out.alloc (Nat.le_refl _) o).more (by simp)) HFI.out.2.2 HFI.out.2.2)
  have HE := Lib.hid (decide_eq_true (rfl : p = p))
  have K5 := Lib.hid k5
  clear k5 HTX HLN HAS
  generalize txt (showT p) = ST at *
  go_wp2_with (first
    | (refine wpList_load_box rfl 26 (.tmp 1) rfl w.heap.size 0 rfl [.slice A p.code.length c, .int .i64 p.size, .slice D p.data.length d] [.slice A p.code.length c, .int .i64 p.size, .slice D p.data.length d] (HPO.out _) whole_is _ Tryd.underlying26 rfl 3 (by kernel_rfl) rfl ?_))
  refine (HSM.out _).mono ?_
  rintro e w6 ⟨rfl, hb6⟩
  rw [HE.out]
  have k6 := (K5.out.alloc _).to hb6
  clear hb6
  go_wp2_with fail
  go_ret
  exact ⟨rfl, HK.out _ k6⟩
end Go.Proofs.YtcaibahniheohaaDoor.Words

/- The walk of law 11's OwnerLeast. -/
import Derived.Test.YtehelfmpcbejeaaOnrAlive
import Derived.Test.YtehelfmpcbejeaaOnrMake
import Derived.Test.YtehelfmpcbejeaaRefRight
import Derived.Test.YtehelfmpcbejeaaImageHelp
namespace Go.Proofs.Ytehelfmpcbejeaa.Words
set_option maxRecDepth 100000
open Go.RowKit
set_option linter.unusedVariables false
set_option linter.unusedSimpArgs false

theorem closed_iff {l : List Ins} {sz : Int} {m : Nat} {o : List Int} (ho : o.length = 16) : closedZ l sz m o = true ↔ OkO o ∧ rightZ l sz m = true ∧ AllO l o := by
  unfold closedZ
  rw [Bool.and_eq_true, Bool.and_eq_true, ownersB_ok ho, all_free, and_assoc]
theorem closed_least {l : List Ins} {sz : Int} {m : Nat} (h : rightZ l sz m = true) : closedZ l sz m (ofZ l sz m) = true := by
  rw [closed_iff ofZ_len]
  have hc := (rightZ_parts h).2
  have e : ofZ l sz m = leastO l := by unfold ofZ; rw [if_pos h]
  rw [e]
  exact ⟨least_ok l hc, h, least_all hc⟩
theorem least_on {l : List Ins} {sz : Int} {m : Nat} {o : List Int} (ho : o.length = 16) (h : closedZ l sz m o = true) : ∀ k : Nat, k ≤ 15 → atO (ofZ l sz m) k = 1 → atO o k = 1 := by
  obtain ⟨h1, h2, h3⟩ := (closed_iff ho).1 h
  have e : ofZ l sz m = leastO l := by unfold ofZ; rw [if_pos h2]
  rw [e]
  exact least_sub (rightZ_parts h2).2 h1 h3

set_option maxHeartbeats 4000000 in
theorem ownerLeast_walk (A : Option Addr) (c : Nat) (D : Option Addr) (d : Nat) (p : Prog) (pick : Int) (w : World) (hf : p.Fits) (hp : ProgV w w.heap.size (.slice A p.code.length c) (.slice D p.data.length d) p) (hk : -9223372036854775808 ≤ pick ∧ pick ≤ 9223372036854775807) :
    Calls Try.prog 4 #[.agg #[.slice A p.code.length c, .int .i64 p.size, .slice D p.data.length d], .int .i64 pick] w fun e w' => e = .returned (.bool true) ∧ Below w.heap.size w w' := by
  obtain ⟨u1, u2⟩ := hp.code.cap
  obtain ⟨u3, u4⟩ := hp.data.cap
  obtain ⟨W, hW⟩ : ∃ W, W = w.alloc (.cells #[.slice A p.code.length c, .int .i64 p.size, .slice D p.data.length d] 25) := ⟨_, rfl⟩
  have hz0 : W.heap.size = w.heap.size + 1 := by rw [hW]; simp
  have b0 : Below w.heap.size w W := by rw [hW]; exact (Below.refl w.heap.size w).alloc (Nat.le_refl _) _
  have HP : Hid (Box W w.heap.size [.slice A p.code.length c, .int .i64 p.size, .slice D p.data.length d]) := by rw [hW]; exact Box.new w [.slice A p.code.length c, .int .i64 p.size, .slice D p.data.length d] _
  have HR : Hid (Row W W.heap.size 5 (.slice A p.code.length c) p.code.length (codeCells p.code)) := (hp.code.below b0).more (by omega)
  have HK := Lib.hid (fun (x : World) (h : Kept W x) => b0.trans (Below.mono h (by omega)))
  have hzW : w.heap.size < W.heap.size := by omega
  clear hz0 b0 hp
  go_enter Try.func4, Try.ntmps4
  go_wp2_with fail
  rw [← hW]
  clear hW
  have k0 := Kept.refl W
  refine (alive11_any _).mono ?_; rintro e w1 ⟨rfl, hb1⟩
  have k1 := k0.to hb1
  have HP1 := Lib.hid (HP.out.kept k1)
  clear hb1 k0
  go_wp2_with (first
    | (refine wpList_load_box rfl 25 (.tmp 2) rfl w.heap.size 0 rfl [.slice A p.code.length c, .int .i64 p.size, .slice D p.data.length d] [.slice A p.code.length c, .int .i64 p.size, .slice D p.data.length d] HP1.out whole_at _ Try.underlying25 rfl 3 (by kernel_rfl) rfl ?_))
  refine (few_any A D p.code.length c p.data.length d p.size _ (by omega) (by omega)).mono ?_; rintro e w2 ⟨rfl, hb2⟩
  have k2 := k1.to hb2
  have HP2 := Lib.hid (HP.out.kept k2)
  clear hb2 k1 HP1
  cases hfew : fewB p.code.length p.data.length
  · go_wp2_with fail
    go_ret
    exact ⟨rfl, HK.out _ k2⟩
  clear hfew
  go_wp2_with (first
    | (refine wpList_load_box rfl 25 (.tmp 2) rfl w.heap.size 0 rfl [.slice A p.code.length c, .int .i64 p.size, .slice D p.data.length d] [.slice A p.code.length c, .int .i64 p.size, .slice D p.data.length d] HP2.out whole_at _ Try.underlying25 rfl 3 (by kernel_rfl) rfl ?_))
  refine (refRight_any A c p.size D p.data.length d p.code _ (k2.row HR.out) u3 u4).mono ?_; rintro e w3 ⟨rfl, hb3⟩
  have k3 := k2.to hb3
  have HP3 := Lib.hid (HP.out.kept k3)
  clear hb3 k2 HP2
  cases hri : rightZ p.code p.size p.data.length
  · go_wp2_with fail
    go_ret
    exact ⟨rfl, HK.out _ k3⟩
  have HRI := Lib.hid hri
  clear hri
  go_wp2_with (first
    | (refine wpList_load_box rfl 25 (.tmp 2) rfl w.heap.size 0 rfl [.slice A p.code.length c, .int .i64 p.size, .slice D p.data.length d] [.slice A p.code.length c, .int .i64 p.size, .slice D p.data.length d] HP3.out whole_at _ Try.underlying25 rfl 3 (by kernel_rfl) rfl ?_))
  refine (of_any' A c p.size D p.data.length d p.code _ (k3.row HR.out) u3 u4).mono ?_; rintro e w4 ⟨rfl, hb4⟩
  have k4 := k3.to hb4
  clear hb4 k3 HP3
  obtain ⟨LO, hLO⟩ : ∃ LO, LO = ofZ p.code p.size p.data.length := ⟨_, rfl⟩
  have HLO := Lib.hid hLO
  rw [← hLO]
  have HLL : Hid (LO.length = 16) := by rw [hLO]; exact ofZ_len
  clear hLO
  have HNB1 := Lib.hid (Box.new w4 (oV zeroO) 26)
  have HMB1 : Hid (Below w4.heap.size w4 (w4.alloc (.cells (oV zeroO).toArray 26))) := (Below.refl _ _).alloc (Nat.le_refl _) _
  obtain ⟨B1, hB1⟩ : ∃ B1, B1 = w4.heap.size := ⟨_, rfl⟩
  have HEB1 := Lib.hid hB1
  clear hB1
  have HLB1 : Hid ((oV LO).length = 16) := (oV_len _).trans HLL.out
  go_wp2_with (first
    | (refine wpList_store_box rfl 26 (.tmp 6) (.tmp 24) rfl w4.heap.size 0 (oV LO) rfl rfl (oV zeroO) HNB1.out (by rw [HLB1.out]; decide) 16 (by kernel_rfl) HLB1.out (oV_one _) ?_; intro w5 B4 hg4; rw [splice_whole _ _ (by rw [HLB1.out]; rfl)] at B4; have HX1 := Lib.hid B4; have hk4 : Below w4.heap.size w4 w5 := HMB1.out.grown hg4 (by simp) (fun i hi => by injection hi with hi; omega); have k5 := Kept.to k4 hk4; clear B4 hg4 hk4; rw [← HEB1.out] at HX1 ⊢))
  refine (owners_make pick _ hk).mono ?_; rintro e w6 ⟨rfl, hb6⟩
  have k6 := k5.to hb6
  have HX1 := Lib.hid (HX1.out.below hb6 HX1.out.lt)
  obtain ⟨OO, hOO⟩ : ∃ OO, OO = ownO pick := ⟨_, rfl⟩
  rw [← hOO]
  have HOL : Hid (OO.length = 16) := by rw [hOO]; exact ownO_len pick
  have HOK : Hid (OkO OO) := by rw [hOO]; exact ownO_ok pick
  clear hb6 k5 k4 hOO
  have hlt1 := HX1.out.lt
  have HNB2 := Lib.hid (Box.new w6 (oV zeroO) 26)
  have HMB2 : Hid (Below w6.heap.size w6 (w6.alloc (.cells (oV zeroO).toArray 26))) := (Below.refl _ _).alloc (Nat.le_refl _) _
  obtain ⟨B2, hB2⟩ : ∃ B2, B2 = w6.heap.size := ⟨_, rfl⟩
  have HEB2 := Lib.hid hB2
  clear hB2
  have HLB2 : Hid ((oV OO).length = 16) := (oV_len _).trans HOL.out
  go_wp2_with (first
    | (refine wpList_load_box rfl 25 (.tmp 2) rfl w.heap.size 0 rfl [.slice A p.code.length c, .int .i64 p.size, .slice D p.data.length d] [.slice A p.code.length c, .int .i64 p.size, .slice D p.data.length d] HP7.out whole_at _ Try.underlying25 rfl 3 (by kernel_rfl) rfl ?_)
    | (refine wpList_load_box rfl 26 (.tmp 6) rfl B1 0 rfl (oV LO) (oV LO) HX1.out whole_at _ Try.underlying26 rfl 16 (by kernel_rfl) ((oV_len LO).trans HLL.out) ?_)
    | (refine wpList_store_box rfl 26 (.tmp 7) (.tmp 26) rfl w6.heap.size 0 (oV OO) rfl rfl (oV zeroO) HNB2.out (by rw [HLB2.out]; decide) 16 (by kernel_rfl) HLB2.out (oV_one _) ?_; intro w7 B4 hg4; rw [splice_whole _ _ (by rw [HLB2.out]; rfl)] at B4; have HX2 := Lib.hid B4; have hk4 : Below w6.heap.size w6 w7 := HMB2.out.grown hg4 (by simp) (fun i hi => by injection hi with hi; omega); have k7 := Kept.to k6 hk4; have HX1 := Lib.hid (HX1.out.below hk4 HX1.out.lt); have HP7 := Lib.hid (HP.out.kept k7); clear B4 hg4 hk4; rw [← HEB2.out] at HX2 ⊢))
  refine (closed_any A c p.size D p.data.length d p.code LO _ (k7.row HR.out) u3 u4 HLL.out).mono ?_; rintro e w8 ⟨rfl, hb8⟩
  rw [show closedZ p.code p.size p.data.length LO = true from by rw [HLO.out]; exact closed_least HRI.out]
  have k8 := k7.to hb8
  have HX1 := Lib.hid (HX1.out.below hb8 HX1.out.lt)
  have HX2 := Lib.hid (HX2.out.below hb8 HX2.out.lt)
  have HP8 := Lib.hid (HP.out.kept k8)
  clear hb8 k7 k6 HP7
  go_wp2_with (first
    | (refine wpList_load_box rfl 25 (.tmp 2) rfl w.heap.size 0 rfl [.slice A p.code.length c, .int .i64 p.size, .slice D p.data.length d] [.slice A p.code.length c, .int .i64 p.size, .slice D p.data.length d] HP8.out whole_at _ Try.underlying25 rfl 3 (by kernel_rfl) rfl ?_)
    | (refine wpList_load_box rfl 26 (.tmp 7) rfl B2 0 rfl (oV OO) (oV OO) HX2.out whole_at _ Try.underlying26 rfl 16 (by kernel_rfl) ((oV_len OO).trans HOL.out) ?_))
  refine (closed_any A c p.size D p.data.length d p.code OO _ (k8.row HR.out) u3 u4 HOL.out).mono ?_; rintro e w9 ⟨rfl, hb9⟩
  have k9 := k8.to hb9
  have HX1 := Lib.hid (HX1.out.below hb9 HX1.out.lt)
  have HX2 := Lib.hid (HX2.out.below hb9 HX2.out.lt)
  clear hb9 k8 HP8
  have HKZ := Lib.hid (HK.out _ k9)
  cases hcl : closedZ p.code p.size p.data.length OO
  · go_wp2_with fail
    go_ret
    exact ⟨rfl, HKZ.out⟩
  have HON := Lib.hid (fun (k : Nat) (h : k ≤ 15) (h1 : atO LO k = 1) => least_on HOK.out.1 hcl k h (by rw [← HLO.out]; exact h1))
  clear hcl k9
  go_wp2_with fail
  go_loopw [8] (fun ii wr => ∃ k : Nat, 1 ≤ k ∧ k ≤ 16 ∧ ii = .int .i64 k ∧ wr = w9) (fun ii _ => 16 - (intOf ii).toNat)
  case atStart => exact ⟨1, by omega, by omega, rfl, rfl⟩
  case round =>
    obtain ⟨k, hk1, hk2, rfl, rfl⟩ := hrel
    by_cases hlt : k < 16
    · have f1 := HX1.out.cell (oV_at HLL.out (n := k) (by omega))
      have f2 := HX2.out.cell (oV_at HOL.out (n := k) (by omega))
      have g0 : (0 : Int) ≤ k := by omega
      have g1 : (k : Int) < 16 := by omega
      by_cases hq : atO LO k = 1
      · rw [HON.out k (by omega) hq] at f2
        rw [hq] at f1
        clear hq
        go_wp2_with fail
        go_roundw
        case rel => exact ⟨k + 1, by omega, by omega, by go_num, by first | rfl | trivial⟩
        case measure => simp only [intOf]; omega
      · have q0 : (atO LO k == 1) = false := by simpa using hq
        clear hq
        go_wp2_with fail
        go_roundw
        case rel => exact ⟨k + 1, by omega, by omega, by go_num, by first | rfl | trivial⟩
        case measure => simp only [intOf]; omega
    · have g1 : ¬ (k : Int) < 16 := by omega
      go_wp2_with fail
      go_ret
      exact ⟨rfl, HKZ.out⟩
end Go.Proofs.Ytehelfmpcbejeaa.Words

/- The law SlotsOrder walked. -/
import Derived.Test.YtpoigbgdaiopmaaSltSame
import Derived.Test.YtpoigbgdaiopmaaSltOrdMath
import Derived.Test.YtpoigbgdaiopmaaBoolRow
import Derived.Test.YtpoigbgdaiopmaaOwnMore
import Derived.Test.YtpoigbgdaiopmaaOwnPut1
import Derived.Deep.Cut
namespace Go.Proofs.Ytpoigbgdaiopmaa.Words
set_option maxRecDepth 100000
open Go.RowKit
set_option linter.unusedVariables false
set_option linter.unusedSimpArgs false

theorem Row.step {w w' : World} {B s n : Nat} {v : Value} {xs : List Value} (h : Row w B s v n xs) (hB : B ≤ w.heap.size) (hb : Below w.heap.size w w') : Row w' w'.heap.size s v n xs := (h.below (hb.mono hB)).more (Nat.le_trans hB hb.size)
theorem and_1023O (n : Int) : bits .and .i64 n 1023 = n % 1024 := by
  have h : (BitVec.ofInt 64 1023).toNat = 2 ^ 10 - 1 := by decide
  have key : (BitVec.ofInt 64 n &&& BitVec.ofInt 64 1023).toNat = (n % ((2 ^ 64 : Nat) : Int)).toNat % 2 ^ 10 := by
    rw [BitVec.toNat_and, BitVec.toNat_ofInt, h, Nat.and_two_pow_sub_one_eq_mod]
  show IntKind.i64.wrap ((BitVec.ofInt 64 n &&& BitVec.ofInt 64 1023).toNat : Nat) = n % 1024
  rw [key, IntKind.wrap_i64]
  omega
theorem parts_bool : ∃ i, Try.prog.info? 4 = some i ∧ i.zero = some (.bool false) ∧ i.size = 1 ∧ i.bytes = 1 := by
  have h := info_bool
  cases hi : Try.prog.info? 4 with
  | none => rw [hi] at h; cases h
  | some i =>
    rw [hi] at h
    simp only [Option.map_some, Option.some.injEq, Prod.mk.injEq] at h
    exact ⟨i, rfl, h.1, h.2.1, h.2.2⟩
/-- What stands while places are filled and taken. -/
structure OrdS (w : World) (g n : Nat) (Z : List Int) (H : List Bool) (nx m : Nat) (A : Option Addr) (c : Nat) (X : World) : Prop where
  hl : H.length = n
  hm : m + nx = n
  ol : X.ownsRow w.heap.size 37 3 (.slice A m c) m (flat sltL (ordL H Z nx))
  oh : X.ownsRow w.heap.size 4 1 (.slice (some ⟨g, 0, none⟩) n n) n (bools H)
  bl : Below w.heap.size w X
  tr : ∀ j, j < nx → H.getD j false = true
section
variable {w X Y : World} {g n : Nat} {Z : List Int} {H : List Bool} {nx m : Nat} {A : Option Addr} {c : Nat}
theorem OrdS.below (h : OrdS w g n Z H nx m A c X) (hb : Below X.heap.size X Y) : OrdS w g n Z H nx m A c Y :=
  ⟨h.hl, h.hm, own_below h.ol hb, own_below h.oh hb, on_belowS h.bl hb, h.tr⟩
theorem OrdS.len (h : OrdS w g n Z H nx m A c X) : (ordL H Z nx).length = m := by rw [ordL_len, h.hl]; have := h.hm; omega
theorem OrdS.setH (h : OrdS w g n Z H nx m A c X) (k : Nat) :
    (X.setCell ⟨g, k, none⟩ (.bool true)).ownsRow w.heap.size 37 3 (.slice A m c) m (flat sltL (ordL H Z nx)) ∧ (X.setCell ⟨g, k, none⟩ (.bool true)).ownsRow w.heap.size 4 1 (.slice (some ⟨g, 0, none⟩) n n) n (bools (H.set k true)) ∧ Below w.heap.size w (X.setCell ⟨g, k, none⟩ (.bool true)) := by
  have hg := h.oh.lt g rfl
  have hgr := grown_setCell X g k (.bool true) hg.2
  refine ⟨own_grown h.ol hgr (fun q hq => ?_), own_bset h.oh k, Below.grown h.bl hgr h.bl.size (fun q hq => by injection hq with hq; rw [← hq]; exact hg.1)⟩
  have := own_apart h.ol h.oh (by decide) hq
  rw [hq] at this
  exact this
end
set_option maxHeartbeats 4000000 in
theorem slotsOrder_walk (v0 : Value) (n : Nat) (z : List Int) (v1 : Value) (n1 : Nat) (z1 : List Int) (w : World)
    (hr : Row w w.heap.size 1 v0 n (z.map (Value.int .u32))) (hz : ∀ x ∈ z, 0 ≤ x ∧ x ≤ 4294967295) (hr1 : Row w w.heap.size 1 v1 n1 (z1.map (Value.int .i64))) (hz1 : ∀ x ∈ z1, -9223372036854775808 ≤ x ∧ x ≤ 9223372036854775807) :
    Calls Try.prog 4 #[v0, v1] w fun e w' => e = .returned (.bool true) ∧ Below w.heap.size w w' := by
  obtain ⟨i0, hi, hq0, hq1, hq2⟩ := parts_bool
  have HI := Lib.hid hi
  have HZ0 := Lib.hid hq0
  have HZ1 := Lib.hid hq1
  have HZ2 := Lib.hid hq2
  clear hi hq0 hq1 hq2
  obtain ⟨A, c, rfl⟩ := hr.form
  obtain ⟨A1, c1, rfl⟩ := hr1.form
  have HL : Hid (z.length = n) := by have h : z.length = n := by (have := hr.len; simpa using this)
                                     exact h
  have HL1 : Hid (z1.length = n1) := by have h : z1.length = n1 := by (have := hr1.len; simpa using this)
                                        exact h
  have HR : Hid (Row w w.heap.size 1 (.slice A n c) n (z.map (Value.int .u32))) := hr
  have HR1 : Hid (Row w w.heap.size 1 (.slice A1 n1 c1) n1 (z1.map (Value.int .i64))) := hr1
  have u1 := hr.cap
  have u2 := hr1.cap
  clear hr hz hr1 hz1
  by_cases hA : 30 < n ∨ n1 < n
  · have HA := Lib.hid hA
    clear hA
    go_enter Try.func4, Try.ntmps4
    go_wp2_with fail
    refine (alive16_any w).mono ?_
    rintro e w1 ⟨rfl, b1⟩
    have B1 := Lib.hid b1
    clear b1
    rcases HA.out with h1 | h1
    all_goals (by_cases g1 : (30 : Int) < n <;> by_cases g2 : (n1 : Int) < n)
    all_goals (first | (exfalso; omega) | (go_wp2_with fail; go_ret; exact ⟨rfl, B1.out⟩))
  go_enter Try.func4, Try.ntmps4
  go_wp2_with fail
  refine (alive16_any w).mono ?_
  rintro e w1 ⟨rfl, b1⟩
  have B1 := Lib.hid b1
  clear b1
  have k1 : decide ((30 : Int) < n) = false := decide_eq_false (by omega)
  have k2 : decide (n1 < n) = false := decide_eq_false (by omega)
  have k3 : n ≤ 30 := by omega
  have k4 : n ≤ n1 := by omega
  have K3 := Lib.hid k3
  have K4 := Lib.hid k4
  clear hA k4
  go_wp2_with fail
  go_loopw [6, 7, 8] (fun vl vo vi wr => ∃ (i : Nat) (A3 : Option Addr) (c3 : Nat), i ≤ n ∧ vi = .int .i64 i ∧ vo = .bool true ∧ vl = .slice A3 i c3 ∧ wr.ownsRow w.heap.size 37 3 (.slice A3 i c3) i (flat sltL (ordL (List.replicate i false) z 0)) ∧ Below w.heap.size w wr) (fun _ _ vi _ => n - (intOf vi).toNat)
  case atStart => exact ⟨0, none, 0, Nat.zero_le _, rfl, rfl, rfl, World.ownsRow_nil _ _ _ _, B1.out⟩
  case round =>
    obtain ⟨i, A3, c3, hi, rfl, rfl, rfl, ho, hb⟩ := hrel
    have HO := Lib.hid ho
    have HB := Lib.hid hb
    clear ho hb
    have HLN := Lib.hid (show (ordL (List.replicate i false) z 0).length = i by rw [ordL_len, List.length_replicate]; rfl)
    by_cases hlt : i < n
    · have k10 : (0 : Int) ≤ i := by omega
      have k11 : (i : Int) < n := by omega
      have HLT := Lib.hid hlt
      have HQ := Lib.hid (ord_reserve i z (by omega))
      have HLN2 := Lib.hid (show (ordL (List.replicate (i + 1) false) z 0).length = i + 1 by rw [ordL_len, List.length_replicate]; rfl)
      have HC := Lib.hid (reserve_any A3 c3 (ordL (List.replicate i false) z 0) 30 (100 + i) wr (by rw [HLN.out]; exact Row.of_own HO.out) (by rw [HLN.out]; omega))
      rw [HLN.out] at HC
      go_wp2_with fail
      refine HC.out.mono ?_
      rintro e w2 ho
      obtain ⟨A2, c2, rfl, _, hr2, hb2⟩ := ho.row
      rw [HQ.out.1, HLN2.out] at hr2 ⊢
      rw [HQ.out.2]
      have R2 := Lib.hid (own_base hr2 HB.out.size)
      have B2 := Lib.hid (on_belowS HB.out hb2)
      clear ho hr2 hb2
      go_wp2_with fail
      go_roundw
      case rel => exact ⟨i + 1, A2, c2, HLT.out, by go_num, by go_num, by go_num, R2.out, B2.out⟩
      case measure => simp [intOf]; omega
    · have hin : i = n := by omega
      have k12 : ¬ (i : Int) < n := by omega
      have HIN := Lib.hid hin
      clear hlt hin
      go_wp2_with (first
        | (at_make; refine wpList_make_full _ rfl _ _ 34 rfl w.heap.size 4 i0 (.bool false) 1 Try.underlying34 HI.out HZ0.out HZ1.out .i64 .i64 _ _ n rfl rfl (by omega) (by omega) (by rw [HZ2.out]; omega) (by unfold maxLen; omega) HB.out.size ?_; rotate_right; intro w2 hown hg2; rw [bools_made] at hown; have HOH := Lib.hid hown; have HG2 := Lib.hid hg2; clear hown hg2))
      have HKH := Lib.hid (Below.grown (Below.refl wr.heap.size wr) HG2.out (Nat.le_refl _) (fun q hq => nomatch hq))
      have HORD := Lib.hid (show OrdS w wr.heap.size n z (List.replicate n false) 0 n A3 c3 w2 from ⟨by simp, by omega, by have := own_below HO.out HKH.out; rw [HIN.out] at this; exact this, HOH.out, on_belowS HB.out HKH.out, fun j hj => by omega⟩)
      obtain ⟨g, hg⟩ : ∃ g, g = wr.heap.size := ⟨_, rfl⟩
      rw [← hg] at HORD ⊢
      clear HO HB HLN HOH HG2 HKH hg
      rw [show Value.slice A3 i c3 = Value.slice A3 n c3 by rw [HIN.out]]
      go_loopw [6, 10, 11] (fun vl vx vi wr => ∃ (i nx m : Nat) (H : List Bool) (A4 : Option Addr) (c4 : Nat), i ≤ n ∧ vi = .int .i64 i ∧ vx = .int .i64 nx ∧ vl = .slice A4 m c4 ∧ H.count true = i ∧ (nx < n → H.getD nx false = false) ∧ OrdS w g n z H nx m A4 c4 wr) (fun _ _ vi _ => n - (intOf vi).toNat)
      case atStart => exact ⟨0, 0, n, _, A3, c3, Nat.zero_le _, rfl, rfl, rfl, by simp [List.count_replicate], fun _ => getD_repl _ _, HORD.out⟩
      case round =>
        obtain ⟨i, nx, m, H, A4, c4, hi, rfl, rfl, rfl, hct, hfr, hR⟩ := hrel
        have HC := Lib.hid hct
        have HFR := Lib.hid hfr
        have HO := Lib.hid hR
        clear hct hfr hR
        by_cases hlt : i < n
        · have HLT := Lib.hid hlt
          have hn0 : n ≠ 0 := by omega
          obtain ⟨gz, oz, rfl, hgz, _⟩ := HR.out.at_ hn0
          obtain ⟨go, oo, rfl, hgo, _⟩ := HR1.out.at_ (by have := K4.out; omega)
          obtain ⟨g0, g1⟩ := HO.out.oh.lt g rfl
          have HGZ := Lib.hid hgz
          obtain ⟨x, hx⟩ : ∃ x, x = z1.getD i 0 := ⟨_, rfl⟩
          have d1 := (HR1.out.below HO.out.bl).cells _ rfl i (.int .i64 x) (by rw [List.getElem?_map, hx, List.getD_eq_getElem?_getD, List.getElem?_eq_getElem (by rw [HL1.out]; have := K4.out; omega)]; rfl)
          rw [add_spot] at d1
          clear hx
          have hand : bits .and .i64 x 1023 = x % 1024 := and_1023O x
          obtain ⟨a, ha⟩ : ∃ a : Nat, x % 1024 = a := ⟨(x % 1024).toNat, by omega⟩
          have k20 : (0 : Int) ≤ i := by omega
          have k21 : (i : Int) < n := by omega
          have k22 : (i : Int) < n1 := by have := K4.out; omega
          have k23 : (n == 0) = false := by simpa using hn0
          have k24 : ¬ ((n : Int) = 0) := by omega
          obtain ⟨k, hk⟩ : ∃ k : Nat, k = a % n := ⟨_, rfl⟩
          have hkn : k < n := by rw [hk]; exact Nat.mod_lt _ (by omega)
          have hrem : Int.tmod (a : Int) (n : Int) = (k : Int) := by rw [Int.tmod_eq_emod_of_nonneg (by omega), hk]; exact (Int.natCast_emod a n).symm
          have HKN := Lib.hid hkn
          clear hk hkn hlt
          go_wp2_with fail
          obtain ⟨f, hf1, hf2⟩ := some_free (H := H) (by rw [HC.out, HO.out.hl]; exact HLT.out)
          rw [HO.out.hl] at hf1
          have HF1 := Lib.hid hf1
          have HF2 := Lib.hid hf2
          obtain ⟨X, hX⟩ : ∃ X, X = wr := ⟨_, rfl⟩
          rw [← hX] at HO d1 g1 ⊢
          clear hX hf1 hf2
          go_loopw [12] (fun vk wq => ∃ k : Nat, k < n ∧ vk = .int .i64 k ∧ wq = X) (fun vk _ => roundTo n f (intOf vk).toNat)
          case atStart => exact ⟨k, HKN.out, rfl, rfl⟩
          case round =>
            obtain ⟨k, hkn, rfl, rfl⟩ := hrel
            have HKN := Lib.hid hkn
            have dh := own_bcell HO.out.oh (k := k) (by rw [HO.out.hl]; exact hkn)
            have k30 : (0 : Int) ≤ k := by omega
            have k31 : (k : Int) < n := by omega
            cases hq : H.getD k false
            · rw [hq] at dh
              have HQ := Lib.hid hq
              clear hq
              have ft := HO.out.oh.frozenAt k
              obtain ⟨y, hy⟩ : ∃ y, y = z.getD k 0 := ⟨_, rfl⟩
              have d2 := fun (Y : World) (hb : Below w.heap.size w Y) => (show Y.cell? ⟨gz, oz + k, none⟩ = some (.int .u32 y) from by
                have := (HR.out.below hb).cells _ rfl k (.int .u32 y) (by rw [List.getElem?_map, hy, List.getD_eq_getElem?_getD, List.getElem?_eq_getElem (by rw [HL.out]; exact hkn)]; rfl)
                rwa [add_spot] at this)
              have D2 := Lib.hid d2
              have hnk : nx ≤ k := by
                rcases Nat.lt_or_ge k nx with h | h
                · have := HO.out.tr k h; rw [HQ.out] at this; cases this
                · exact h
              have HQF := Lib.hid (ord_fill (W := z) hnk (by rw [HO.out.hl]; exact hkn) HQ.out)
              have hi1 : (Try.prog.info? 4).map (·.size) = some 1 := by kernel_rfl
              rw [← hy] at HQF
              have HYV := Lib.hid hy
              clear d2 hnk hy
              go_wp2_with (first
                | (refine wpList_set_own (by rfl) _ _ _ rfl w.heap.size 4 1 g n n (bools H) k (.bool true) rfl rfl rfl HO.out.oh (by omega) hi1 ?_; intro Y hY; have HS3 := Lib.hid (HO.out.setH k); rw [← hY] at HS3; have d2 := D2.out Y HS3.out.2.2; have hzY : gz < Y.heap.size := Nat.lt_of_lt_of_le HGZ.out HS3.out.2.2.size; clear hY dh; go_wp2_with fail))
              have HCT := Lib.hid (count_more (by rw [HO.out.hl]; exact HKN.out) HQ.out)
              rw [HC.out] at HCT
              have HTR := Lib.hid (fun (j : Nat) (hj : j < nx) => (show (H.set k true).getD j false = true from by
                rw [getD_set_ne _ _ (fun e => by have := HO.out.tr j hj; rw [e, HQ.out] at this; cases this)]; exact HO.out.tr j hj))
              have HLE := Lib.hid (show (ordL (H.set k true) z nx).length = m by rw [ordL_len, List.length_set, HO.out.hl]; have := HO.out.hm; omega)
              have HHL := Lib.hid (show (H.set k true).length = n by rw [List.length_set]; exact HO.out.hl)
              have HCL := Lib.hid (fillS_any A4 c4 (ordL H z nx) (100 + k) y Y (by rw [HO.out.len]; exact Row.of_own HS3.out.1) (by rw [HO.out.len]; have := HO.out.hm; have := K3.out; omega))
              rw [HO.out.len] at HCL
              refine HCL.out.mono ?_
              rintro e w5 ho
              obtain ⟨A5, c5, rfl, _, hr5, hb5⟩ := ho.row
              rw [HQF.out.1, HLE.out] at hr5 ⊢
              rw [HQF.out.2]
              obtain ⟨H', hH'⟩ : ∃ H', H' = H.set k true := ⟨_, rfl⟩
              rw [← hH'] at HCT HTR HHL hr5 HS3
              have HO5 := Lib.hid (show OrdS w g n z H' nx m A5 c5 w5 from ⟨HHL.out, HO.out.hm, own_base hr5 HS3.out.2.2.size, own_below HS3.out.2.1 hb5, on_belowS HS3.out.2.2 hb5, HTR.out⟩)
              clear ho hr5 hb5 HS3 HCL HLE HTR HQF hH' d2
              go_wp2_with fail
              go_loopw [6, 10] (fun vl vx wr => ∃ (nx m : Nat) (A4 : Option Addr) (c4 : Nat), vx = .int .i64 nx ∧ vl = .slice A4 m c4 ∧ OrdS w g n z H' nx m A4 c4 wr) (fun _ vx _ => n - (intOf vx).toNat)
              case atStart => exact ⟨nx, m, A5, c5, rfl, rfl, HO5.out⟩
              case round =>
                obtain ⟨nx, m, A6, c6, rfl, rfl, hR⟩ := hrel
                have HO6 := Lib.hid hR
                have hm6 := hR.hm
                clear hR
                by_cases hxn : nx < n
                · have k40 : (0 : Int) ≤ nx := by omega
                  have k41 : (nx : Int) < n := by omega
                  have HXN := Lib.hid hxn
                  have dh := own_bcell HO6.out.oh (k := nx) (by rw [HO6.out.hl]; exact hxn)
                  cases hq : H'.getD nx false
                  · rw [hq] at dh
                    have HQ := Lib.hid hq
                    clear hq hxn
                    have HST := Lib.hid (ord_stays (H := H') (W := z) (nx := nx) (fun _ => HQ.out))
                    have HPP := Lib.hid (popSlot_any A6 c6 (ordL H' z nx) wr (by rw [HO6.out.len]; exact Row.of_own HO6.out.ol) (by rw [HO6.out.len]; have := K3.out; omega))
                    rw [HO6.out.len] at HPP
                    go_wp2_with fail
                    refine HPP.out.mono ?_
                    rintro e w7 ho
                    obtain ⟨A7, c7, rfl, _, _, hb7⟩ := ho.row
                    rw [HST.out]
                    have HO7 := Lib.hid (HO6.out.below hb7)
                    clear ho hb7
                    go_wp2_with fail
                    go_roundw
                    case rel => exact ⟨i + 1, nx, m, H', A6, c6, HLT.out, by go_num, rfl, rfl, HCT.out, fun _ => HQ.out, HO7.out⟩
                    case measure => simp [intOf]; have := HLT.out; omega
                  · rw [hq] at dh
                    have HQ := Lib.hid hq
                    obtain ⟨y, hy⟩ : ∃ y, y = z.getD nx 0 := ⟨_, rfl⟩
                    have D2 := Lib.hid (fun (Y : World) (hb : Below w.heap.size w Y) => (show Y.cell? ⟨gz, oz + nx, none⟩ = some (.int .u32 y) from by
                      have := (HR.out.below hb).cells _ rfl nx (.int .u32 y) (by rw [List.getElem?_map, hy, List.getD_eq_getElem?_getD, List.getElem?_eq_getElem (by rw [HL.out]; exact hxn)]; rfl)
                      rwa [add_spot] at this))
                    have HQP := Lib.hid (ord_pop (W := z) (show nx < H'.length by rw [HO6.out.hl]; exact hxn) hq)
                    rw [← hy] at HQP
                    have HPP := Lib.hid (popSlot_any A6 c6 (ordL H' z nx) wr (by rw [HO6.out.len]; exact Row.of_own HO6.out.ol) (by rw [HO6.out.len]; have := K3.out; omega))
                    rw [HO6.out.len] at HPP
                    obtain ⟨m', hm'⟩ : ∃ m', m = m' + 1 := ⟨m - 1, by omega⟩
                    have HM' := Lib.hid hm'
                    have HLE := Lib.hid (show (ordL H' z (nx + 1)).length = m' by rw [ordL_len, HO6.out.hl]; omega)
                    clear hq hxn hy hm'
                    go_wp2_with fail
                    refine HPP.out.mono ?_
                    rintro e w7 ho
                    obtain ⟨A7, c7, rfl, _, hr7, hb7⟩ := ho.row
                    rw [HQP.out.1, HLE.out] at hr7 ⊢
                    rw [HQP.out.2.1, HQP.out.2.2]
                    have d2 := D2.out w7 (on_belowS HO6.out.bl hb7)
                    have hzY : gz < w7.heap.size := Nat.lt_of_lt_of_le HGZ.out (on_belowS HO6.out.bl hb7).size
                    have HO7 := Lib.hid (show OrdS w g n z H' (nx + 1) m' A7 c7 w7 from ⟨HHL.out, by have := HM'.out; have := HO6.out.hm; omega, own_base hr7 HO6.out.bl.size, own_below HO6.out.oh hb7, on_belowS HO6.out.bl hb7, fun j hj => by
                      by_cases e : j = nx
                      · rw [e]; exact HQ.out
                      · exact HO6.out.tr j (by omega)⟩)
                    clear ho hr7 hb7
                    go_wp2_with fail
                    go_roundw
                    case rel => exact ⟨nx + 1, m', A7, c7, by go_num, rfl, HO7.out⟩
                    case measure => simp [intOf]; have := HXN.out; omega
                · have k42 : ¬ (nx : Int) < n := by omega
                  have HST := Lib.hid (ord_stays (H := H') (W := z) (nx := nx) (fun h => by rw [HO6.out.hl] at h; omega))
                  have HPP := Lib.hid (popSlot_any A6 c6 (ordL H' z nx) wr (by rw [HO6.out.len]; exact Row.of_own HO6.out.ol) (by rw [HO6.out.len]; have := K3.out; omega))
                  rw [HO6.out.len] at HPP
                  go_wp2_with fail
                  refine HPP.out.mono ?_
                  rintro e w7 ho
                  obtain ⟨A7, c7, rfl, _, _, hb7⟩ := ho.row
                  rw [HST.out]
                  have HO7 := Lib.hid (HO6.out.below hb7)
                  clear ho hb7
                  go_wp2_with fail
                  go_roundw
                  case rel => exact ⟨i + 1, nx, m, H', A6, c6, HLT.out, by go_num, rfl, rfl, HCT.out, fun h => by omega, HO7.out⟩
                  case measure => simp [intOf]; have := HLT.out; omega
            · rw [hq] at dh
              have hkf : k ≠ f := by intro e; rw [e, HF2.out] at hq; cases hq
              have HLS := Lib.hid (roundTo_less HF1.out hkn hkf)
              obtain ⟨k', hk'⟩ : ∃ k' : Nat, k' = (k + 1) % n := ⟨_, rfl⟩
              have HKN' : Hid (k' < n) := by have h : k' < n := by (rw [hk']; exact Nat.mod_lt _ (by omega))
                                             exact h
              have hrem : Int.tmod ((k : Int) + 1) (n : Int) = (k' : Int) := by rw [Int.tmod_eq_emod_of_nonneg (by omega), hk']; exact (Int.natCast_emod (k + 1) n).symm
              rw [← hk'] at HLS
              clear hq hkn hkf hk'
              go_wp2_with fail
              go_roundw
              case rel => exact ⟨k', HKN'.out, rfl, by first | rfl | trivial⟩
              case measure => exact HLS.out
        · have hin : i = n := by omega
          have hxn : nx = n := by
            rcases Nat.lt_or_ge nx n with h | h
            · have h1 := all_true (H := H) (by rw [HC.out, HO.out.hl]; exact hin) (k := nx) (by rw [HO.out.hl]; exact h)
              rw [HFR.out h] at h1; cases h1
            · have := HO.out.hm; omega
          have hm0 : m = 0 := by have := HO.out.hm; omega
          subst hm0
          have k50 : ¬ (i : Int) < n := by omega
          have k51 : ((nx : Int) == (n : Int)) = true := by rw [hxn]; simp
          have HBL := Lib.hid HO.out.bl
          clear hin hlt
          rw [hxn]
          clear hxn k51
          go_wp2_with fail
          go_ret
          exact ⟨rfl, HBL.out⟩
end Go.Proofs.Ytpoigbgdaiopmaa.Words

/- The law SlotsFirst walked. -/
import Derived.Test.YtpoigbgdaiopmaaSltSame
import Derived.Test.YtpoigbgdaiopmaaSltOrdMath
namespace Go.Proofs.Ytpoigbgdaiopmaa.Words
set_option maxRecDepth 100000
open Go.RowKit
set_option linter.unusedVariables false
set_option linter.unusedSimpArgs false

theorem Row.step {w w' : World} {B s n : Nat} {v : Value} {xs : List Value} (h : Row w B s v n xs) (hB : B ≤ w.heap.size) (hb : Below w.heap.size w w') : Row w' w'.heap.size s v n xs := (h.below (hb.mono hB)).more (Nat.le_trans hB hb.size)
set_option maxHeartbeats 4000000 in
theorem slotsFirst_walk (n many u v : Int) (w : World) (hn : -9223372036854775808 ≤ n ∧ n ≤ 9223372036854775807) (hm : -9223372036854775808 ≤ many ∧ many ≤ 9223372036854775807) (hu : 0 ≤ u ∧ u ≤ 4294967295) (hv : 0 ≤ v ∧ v ≤ 4294967295) :
    Calls Try.prog 5 #[.int .i64 n, .int .i64 many, .int .u32 u, .int .u32 v] w fun e w' => e = .returned (.bool true) ∧ Below w.heap.size w w' := by
  clear hn hm hv
  obtain ⟨fv, hfv⟩ : ∃ fv : Nat → Int, fv = fun (j : Nat) => (u + (j : Int)) % 4294967296 := ⟨_, rfl⟩
  have HF := Lib.hid hfv
  clear hfv
  by_cases hA : n < 1 ∨ 20 < n ∨ many < 0 ∨ 30 < many
  · have HA := Lib.hid hA
    clear hA
    go_enter Try.func5, Try.ntmps5
    go_wp2_with fail
    refine (alive16_any w).mono ?_
    rintro e w1 ⟨rfl, b1⟩
    have B1 := Lib.hid b1
    clear b1
    rcases HA.out with h1 | h1 | h1 | h1
    all_goals (by_cases g1 : n < 1 <;> by_cases g2 : 20 < n <;> by_cases g3 : many < 0 <;> by_cases g4 : 30 < many)
    all_goals (first | (exfalso; omega) | (go_wp2_with fail; go_ret; exact ⟨rfl, B1.out⟩))
  obtain ⟨N, rfl⟩ : ∃ m : Nat, n = m := ⟨n.toNat, by omega⟩
  obtain ⟨M, rfl⟩ : ∃ m : Nat, many = m := ⟨many.toNat, by omega⟩
  go_enter Try.func5, Try.ntmps5
  go_wp2_with fail
  refine (alive16_any w).mono ?_
  rintro e w1 ⟨rfl, b1⟩
  have B1 := Lib.hid b1
  clear b1
  have k1 : ¬ (N : Int) < 1 := by omega
  have k2 : ¬ 20 < (N : Int) := by omega
  have k3 : ¬ (M : Int) < 0 := by omega
  have k4 : ¬ 30 < (M : Int) := by omega
  have k7 : N ≤ 20 := by omega
  have k8 : M ≤ 30 := by omega
  clear hA
  go_wp2_with fail
  go_loopw [10, 11, 12] (fun vl vi vk wr => ∃ (k i : Nat) (A : Option Addr) (c : Nat), k ≤ M ∧ i ≤ N ∧ vk = .int .i64 k ∧ vi = .int .i64 i ∧ vl = .slice A i c ∧ Row wr wr.heap.size 3 (.slice A i c) i (flat sltL (List.replicate i e7)) ∧ Below w.heap.size w wr) (fun _ _ vk _ => M - (intOf vk).toNat)
  case atStart => exact ⟨0, 0, none, 0, Nat.zero_le _, Nat.zero_le _, rfl, rfl, rfl, Row.nil _ _ _, B1.out⟩
  case round =>
    obtain ⟨k, i, A, c, hk, hi, rfl, rfl, rfl, hr, hb⟩ := hrel
    have HR := Lib.hid hr
    have HB := Lib.hid hb
    clear hr hb
    by_cases hlt : k < M
    · have k10 : (0 : Int) ≤ k := by omega
      have k11 : (k : Int) < M := by omega
      by_cases hin : i < N
      · have k12 : (i : Int) < N := by omega
        have HIN := Lib.hid hin
        have HQ := Lib.hid (fst_reserve i N k12)
        have HC := Lib.hid (reserve_any A c (List.replicate i e7) N 7 wr (by rw [List.length_replicate]; exact HR.out) (by rw [List.length_replicate]; omega))
        rw [List.length_replicate] at HC
        go_wp2_with fail
        refine HC.out.mono ?_
        rintro e w2 ho
        obtain ⟨A2, c2, rfl, hr2, _, hb2⟩ := ho.row
        rw [HQ.out.1, List.length_replicate] at hr2 ⊢
        rw [HQ.out.2]
        have R2 := Lib.hid hr2
        have B2 := Lib.hid (on_belowS HB.out hb2)
        clear ho hr2 hb2
        go_wp2_with fail
        go_roundw
        case rel => exact ⟨k + 1, i + 1, A2, c2, by omega, HIN.out, by go_num, by go_num, by go_num, R2.out, B2.out⟩
        case measure => simp [intOf]; omega
      · have k12 : ¬ (i : Int) < N := by omega
        have HQ := Lib.hid (fst_full i N k12)
        have HC := Lib.hid (reserve_any A c (List.replicate i e7) N 7 wr (by rw [List.length_replicate]; exact HR.out) (by rw [List.length_replicate]; omega))
        rw [List.length_replicate] at HC
        go_wp2_with fail
        refine HC.out.mono ?_
        rintro e w2 ho
        obtain ⟨A2, c2, rfl, hr2, _, hb2⟩ := ho.row
        rw [HQ.out.1, List.length_replicate] at hr2 ⊢
        rw [HQ.out.2]
        have R2 := Lib.hid hr2
        have B2 := Lib.hid (on_belowS HB.out hb2)
        clear ho hr2 hb2
        go_wp2_with fail
        go_roundw
        case rel => exact ⟨k + 1, i, A2, c2, by omega, by omega, by go_num, by go_num, by go_num, R2.out, B2.out⟩
        case measure => simp [intOf]; omega
    · have HI := Lib.hid hi
      have k13 : ¬ (k : Int) < M := by omega
      clear hlt
      go_wp2_with fail
      go_loopw [10, 15] (fun vl vj wr => ∃ (j : Nat) (A : Option Addr) (c : Nat), j ≤ i ∧ vj = .int .i64 j ∧ vl = .slice A i c ∧ Row wr wr.heap.size 3 (.slice A i c) i (flat sltL (fstL fv j (i - j))) ∧ Below w.heap.size w wr) (fun _ vj _ => i - (intOf vj).toNat)
      case atStart => exact ⟨0, A, c, Nat.zero_le _, rfl, rfl, by rw [Nat.sub_zero, fstL_zero]; exact HR.out, HB.out⟩
      case round =>
        obtain ⟨j, A2, c2, hj, rfl, rfl, hr, hb⟩ := hrel
        have HR2 := Lib.hid hr
        have HB2 := Lib.hid hb
        clear hr hb
        by_cases hlt : j < i
        · have k20 : (0 : Int) ≤ j := by omega
          have k21 : (j : Int) < i := by omega
          have HQ := Lib.hid (fst_fill fv j (i - j - 1))
          rw [show i - j - 1 + 1 = i - j by omega, show i - j - 1 = i - (j + 1) by omega] at HQ
          have HL := Lib.hid (show (fstL fv j (i - j)).length = i by rw [fstL_len]; omega)
          have HC := Lib.hid (fillS_any A2 c2 (fstL fv j (i - j)) 7 (fv j) wr (by rw [HL.out]; exact HR2.out) (by rw [HL.out]; omega))
          rw [HL.out] at HC
          have HL2 := Lib.hid (show (fstL fv (j + 1) (i - (j + 1))).length = i by rw [fstL_len]; omega)
          have HFJ := Lib.hid (show fv j = (u + (j : Int)) % 4294967296 by rw [HF.out])
          go_wp2_with fail
          rw [← HFJ.out]
          refine HC.out.mono ?_
          rintro e w2 ho
          obtain ⟨A3, c3, rfl, hr3, _, hb3⟩ := ho.row
          rw [HQ.out.1, HL2.out] at hr3 ⊢
          rw [HQ.out.2]
          have HR3 := Lib.hid hr3
          have HB3 := Lib.hid (on_belowS HB2.out hb3)
          have HHA := Lib.hid (fstL_old fv (j + 1) (i - (j + 1)) j (by omega))
          clear ho hr3 hb3
          obtain ⟨g3, o3, rfl, hg3, _⟩ := HR3.out.at_ (by omega)
          obtain ⟨d0, d1, d2⟩ := HR3.out.slt HHA.out
          rw [HFJ.out] at d2
          by_cases hj1 : j + 1 < i
          · have k22 : (j : Int) + 1 < i := by omega
            obtain ⟨e0, e1, e2⟩ := HR3.out.slt (fstL_new fv (j + 1) (i - (j + 1)) (j + 1) (Nat.le_refl _) (by omega))
            go_wp2_with fail
            go_roundw
            case rel => exact ⟨j + 1, some ⟨g3, o3, none⟩, c3, by omega, by go_num, rfl, HR3.out, HB3.out⟩
            case measure => simp [intOf]; omega
          · have k22 : ¬ (j : Int) + 1 < i := by omega
            go_wp2_with fail
            go_roundw
            case rel => exact ⟨j + 1, some ⟨g3, o3, none⟩, c3, by omega, by go_num, rfl, HR3.out, HB3.out⟩
            case measure => simp [intOf]; omega
        · have hji : j = i := by omega
          have k30 : ¬ (j : Int) < i := by omega
          rw [hji, Nat.sub_self] at HR2
          have HL := Lib.hid (show (fstL fv i 0).length = i by rw [fstL_len, Nat.add_zero])
          have HQ7 := Lib.hid (fst_none fv i 7 v)
          have HQ8 := Lib.hid (fst_none fv i 8 v)
          have HC := Lib.hid (fillS_any A2 c2 (fstL fv i 0) 7 v wr (by rw [HL.out]; exact HR2.out) (by rw [HL.out]; have := HI.out; omega))
          rw [HL.out] at HC
          clear hlt hji
          go_wp2_with fail
          refine HC.out.mono ?_
          rintro e w2 ho
          obtain ⟨A3, c3, rfl, hr3, _, hb3⟩ := ho.row
          rw [HQ7.out.1, HL.out] at hr3 ⊢
          rw [HQ7.out.2]
          have HR3 := Lib.hid hr3
          have HB3 := Lib.hid (on_belowS HB2.out hb3)
          have HR4 := Lib.hid (HR2.out.step (Nat.le_refl _) hb3)
          have HC8 := Lib.hid (fillS_any A2 c2 (fstL fv i 0) 8 v w2 (by rw [HL.out]; exact HR4.out) (by rw [HL.out]; have := HI.out; omega))
          rw [HL.out] at HC8
          clear ho hr3 hb3
          go_wp2_with fail
          refine HC8.out.mono ?_
          rintro e w3 ho
          obtain ⟨A5, c5, rfl, hr5, _, hb5⟩ := ho.row
          rw [HQ8.out.2]
          have HB5 := Lib.hid (on_belowS HB3.out hb5)
          have HC9 := Lib.hid (same_yes16 _ _ w3 _ _ HL.out (HR3.out.step (Nat.le_refl _) hb5) (HR4.out.step (Nat.le_refl _) hb5))
          clear ho hr5 hb5
          go_wp2_with fail
          refine HC9.out.mono ?_
          rintro e w4 ⟨rfl, hb6⟩
          have HB6 := Lib.hid (on_belowS HB5.out hb6)
          clear hb6
          try dsimp only
          go_wp2_with fail
          go_ret
          exact ⟨rfl, HB6.out⟩
end Go.Proofs.Ytpoigbgdaiopmaa.Words

/- Contract of the document's own Leaders. -/
import Derived.Test.YtajiifplkfjnjaaBlkLeads
import Derived.Test.YtajiifplkfjnjaaRefRight
namespace Go.Proofs.Ytajiifplkfjnjaa.Words
set_option maxRecDepth 100000
open Go.RowKit
set_option linter.unusedVariables false

theorem targetZ_jump {n k : Nat} {i : Ins} (hj : isJump i = true) (h0 : 0 ≤ (k : Int) + i.imm) (h1 : (k : Int) + i.imm < n) (hn : n ≤ 8192) (hk : k < n) : targetZ n k i = (k : Int) + i.imm := targetZ_yes hj (by omega) (by omega) h0 h1
theorem set_none {m : List Bool} {k : Nat} (h : m.length ≤ k) : m.set k true = m := List.set_eq_of_length_le h

set_option maxHeartbeats 4000000 in
theorem refLeaders_any (A : Option Addr) (c : Nat) (sz : Int) (A' : Option Addr) (m c' : Nat) (l : List Ins) (w : World) (hr : Row w w.heap.size 5 (.slice A l.length c) l.length (codeCells l)) (hm : m ≤ c') (hc' : c' ≤ 9223372036854775807) :
    Calls Try.prog 10 #[.agg #[.slice A l.length c, .int .i64 sz, .slice A' m c']] w fun e w' => ∃ v, e = .returned v ∧ w'.ownsRow w.heap.size 3 1 v (leadsR l sz m).length (natL (leadsR l sz m)) ∧ Below w.heap.size w w' := by
  obtain ⟨i0, hi, hz0, hz1, hz2⟩ := info_parts info_bool
  have HZ2 := Lib.hid hz2
  clear hz2
  obtain ⟨i1, hi', hz0', hz1', hz2'⟩ := info_parts info_intB
  have HZ2' := Lib.hid hz2'
  clear hz2'
  obtain ⟨hcl, hcm⟩ := hr.cap
  have HK := Lib.hid (fun (x : World) (h : Kept (w.alloc (.cells #[.slice A l.length c, .int .i64 sz, .slice A' m c'] 25)) x) => ((Below.refl w.heap.size w).alloc (Nat.le_refl _) _).trans (h.mono (by simp)))
  have hB : w.heap.size < (w.alloc (.cells #[.slice A l.length c, .int .i64 sz, .slice A' m c'] 25)).heap.size := by simp
  have HR := Lib.hid (hr.alloc (Nat.le_refl _) (.cells #[.slice A l.length c, .int .i64 sz, .slice A' m c'] 25) |>.more (Nat.le_of_lt hB))
  have c0 : (w.alloc (.cells #[.slice A l.length c, .int .i64 sz, .slice A' m c'] 25)).cell? ⟨w.heap.size, 0, none⟩ = some (.slice A l.length c) := by go_simp
  have c1 : (w.alloc (.cells #[.slice A l.length c, .int .i64 sz, .slice A' m c'] 25)).cell? ⟨w.heap.size, 1, none⟩ = some (.int .i64 sz) := by go_simp
  have c2 : (w.alloc (.cells #[.slice A l.length c, .int .i64 sz, .slice A' m c'] 25)).cell? ⟨w.heap.size, 2, none⟩ = some (.slice A' m c') := by go_simp
  have HRP := Lib.hid (fun h => rightZ_parts (l := l) (sz := sz) (m := m) h)
  have hw0 : (w.alloc (.cells #[.slice A l.length c, .int .i64 sz, .slice A' m c'] 25)).heap.size = w.heap.size + 1 := by simp
  go_enter Try.func10, Try.ntmps10
  go_wp2_with fail
  generalize w.alloc (.cells #[.slice A l.length c, .int .i64 sz, .slice A' m c'] 25) = W at *
  have C0 := Lib.hid (fun (x : World) (h : Kept W x) => h.cell hB c0)
  have C1 := Lib.hid (fun (x : World) (h : Kept W x) => h.cell hB c1)
  have C2 := Lib.hid (fun (x : World) (h : Kept W x) => h.cell hB c2)
  have HX := Lib.hid (refRight_any A c sz A' m c' l W HR.out hm hc')
  clear c0 c1 c2 hr
  refine HX.out.mono ?_; rintro e w1 ⟨rfl, hb1⟩
  have k1 : Kept W w1 := hb1
  have c0 := C0.out _ k1
  have hs1 := hb1.size
  clear hb1
  cases hri : rightZ l sz m
  · go_wp2_with fail
    go_ret
    have hl : leadsR l sz m = [] := by unfold leadsR; rw [hri]; rfl
    rw [hl]
    exact ⟨_, rfl, World.ownsRow_nil _ _ _ _, HK.out _ k1⟩
  obtain ⟨⟨n0, n1⟩, hto⟩ := HRP.out hri
  have HL := Lib.hid (show leadsR l sz m = leadsTo l l.length l.length by unfold leadsR; rw [if_pos hri, leadsTo_all (Nat.le_refl _)])
  have HT := Lib.hid (fun (j : Nat) (i : Ins) (h : l[j]? = some i) (hj : isJump i = true) => (by have := target_in hto h hj; simpa using this : 0 ≤ (j : Int) + i.imm ∧ (j : Int) + i.imm < l.length))
  have HMS := Lib.hid (fun (j : Nat) (i : Ins) (h : l[j]? = some i) (m : List Bool) => marksF_step h m)
  have HA := Lib.hid (fun j h => at_some (l := l) (j := j) h)
  have HE := Lib.hid (fun (k : Nat) (h : l.length ≤ k) => List.drop_eq_nil_of_le h)
  have HD0 := Lib.hid (show l.drop 0 = l from rfl)
  have hn0 : l.length ≠ 0 := by omega
  obtain ⟨b, off, rfl, hbb, _⟩ := HR.out.at_ hn0
  have HC := Lib.hid (fun (x : World) (h : Kept W x) (k : Nat) (i : Ins) (hi : l[k]? = some i) => (h.row HR.out).ins hi)
  have HTG := Lib.hid (fun (x : World) (h : Kept W x) (k : Nat) (i : Ins) (hi : l[k]? = some i) => refTarget_any b off c k sz (.slice A' m c') l i x (h.row HR.out) hi (by omega))
  clear HR HX hto HRP hri
  have hne : w.heap.size < w1.heap.size := by omega
  go_wp2_with (at_make; refine wpList_make_full _ rfl _ _ 46 rfl W.heap.size 4 i0 (.bool false) 1 Try.underlying46 hi hz0 hz1 .i64 .i64 _ _ l.length rfl rfl (by omega) (by omega) (by rw [HZ2.out]; omega) (by unfold maxLen; omega) hs1 ?_; rotate_right; intro w2 hown hg2; rw [bools_made] at hown; have k2 := k1.trans (Below.grown (Below.refl _ _) hg2 (Nat.le_refl _) (fun k hk => nomatch hk)); have c0 := C0.out _ k2; have fz := hown.frozenAt 0; have cz := own_bcell (k := 0) hown (by simp; omega))
  have hg1 : W.heap.size ≤ w1.heap.size := hs1
  have hO1 := own_bset hown 0
  have hP : RoundM l W (w2.setCell ⟨w1.heap.size, 0, none⟩ (.bool true)) w1.heap.size l.length 0 ((List.replicate l.length false).set 0 true) :=
    ⟨Below.setCell k2 hg1 _, hO1, by simp, by rw [HD0.out]; rfl⟩
  clear cz fz hown hg2 k1 hO1 c0
  generalize hG : w1.heap.size = g at *
  clear hG
  generalize w2.setCell ⟨g, 0, none⟩ (.bool true) = w3 at *
  generalize hN : l.length = n at *
  have HN := Lib.hid hN
  clear hN k2
  go_loopw [4] (fun i wr => ∃ (j : Nat) (m : List Bool), j ≤ n ∧ i = .int .i64 j ∧ RoundM l W wr g n j m) (fun i _ => n - (intOf i).toNat)
  case atStart => exact ⟨0, _, Nat.zero_le _, rfl, hP⟩
  case round =>
    obtain ⟨j, ms, hj, rfl, hK⟩ := hrel
    have hk := hK.kept
    have hO := hK.own
    have hml := hK.len
    have HDN := Lib.hid hK.done
    clear hK hP
    have c0 := C0.out _ hk
    by_cases hlt : j < n
    · obtain ⟨i, hi⟩ := HA.out j hlt
      have HS := Lib.hid (fun m => HMS.out j i hi m)
      have HTT := Lib.hid (HT.out j i hi)
      have c1 := C1.out _ hk
      have c2 := C2.out _ hk
      have HTGx := Lib.hid (HTG.out _ hk j i hi)
      have j0 : (0 : Int) ≤ j := by omega
      have j1 : (j : Int) < n := by omega
      have hzg : g < wr.heap.size := (hO.lt _ rfl).2
      have HCi := Lib.hid (fun x hx => HC.out x hx j i hi)
      clear hi
      go_wp2_with fail
      refine HTGx.out.mono ?_; rintro e w4 ⟨rfl, hb4⟩
      have k4 := hk.to hb4
      have hO4 := own_below hO hb4
      have hzg4 : g < w4.heap.size := by have := hb4.size; omega
      clear hb4 hk hO hzg c0 c1 c2
      cases hjm : isJump i
      · obtain ⟨MJ, hMJ⟩ : ∃ MJ, MJ = ms := ⟨_, rfl⟩
        have MJH : markJ j i ms = MJ := by rw [markJ_no hjm, hMJ]
        have MJL : MJ.length = n := by rw [hMJ]; exact hml
        rw [← hMJ] at hO4
        have htz : targetZ n j i = -1 := targetZ_no (.inl hjm)
        rw [htz]
        clear hMJ htz
        have HCx := HCi.out _ k4
        obtain ⟨d0, d1, d2, d3, d4⟩ := HCx
        have c0 := C0.out _ k4
        go_wp2_with fail
        refine (refEnds_any i _).mono ?_; rintro e w5 ⟨rfl, hb5⟩
        have k5 := k4.to hb5
        have hO5 := own_below hO4 hb5
        have c0 := C0.out _ k5
        have hzg5 : g < w5.heap.size := (hO5.lt _ rfl).2
        clear hb5 d0 d1 d2 d3 d4
        cases he : isEnd i
        · have hres := Lib.hid (show marksN n l = marksF (j + 1) (l.drop (j + 1)) MJ by rw [HDN.out, HS.out, MJH, markE_no he])
          go_wp2_with fail
          go_roundw
          case rel => exact ⟨j + 1, _, by omega, by go_num, ⟨k5, hO5, MJL, hres.out⟩⟩
          case measure => simp [intOf]; omega
        · have HR0 := Lib.hid (show marksN n l = marksF (j + 1) (l.drop (j + 1)) (MJ.set (j + 1) true) by rw [HDN.out, HS.out, MJH, markE_yes he])
          by_cases hj2 : j + 1 < n
          · have fz := hO5.frozenAt (j + 1)
            have cz := own_bcell (k := j + 1) hO5 (by rw [MJL]; omega)
            have hO6 := Lib.hid (own_bset hO5 (j + 1))
            have j2 : (j : Int) + 1 < n := by omega
            go_wp2_with fail
            go_roundw
            case rel => exact ⟨j + 1, _, by omega, by go_num, ⟨Below.setCell k5 hg1 _, hO6.out, by simpa using MJL, HR0.out⟩⟩
            case measure => simp [intOf]; omega
          · have hres := Lib.hid (show marksN n l = marksF (j + 1) (l.drop (j + 1)) MJ by rw [HR0.out, set_none (by omega)])
            have j2 : ¬ (j : Int) + 1 < n := by omega
            go_wp2_with fail
            go_roundw
            case rel => exact ⟨j + 1, _, by omega, by go_num, ⟨k5, hO5, MJL, hres.out⟩⟩
            case measure => simp [intOf]; omega
      · obtain ⟨t0, t1⟩ := HTT.out hjm
        have htz : targetZ n j i = (j : Int) + i.imm := targetZ_jump hjm t0 t1 (by omega) hlt
        obtain ⟨T, hT⟩ : ∃ T : Nat, (j : Int) + i.imm = T := ⟨((j : Int) + i.imm).toNat, by omega⟩
        have HJY := Lib.hid (fun m => markJ_yes (m := m) hjm hT)
        have hTn : T < n := by omega
        have fz := hO4.frozenAt T
        have cz := own_bcell (k := T) hO4 (by omega)
        have hO4X := own_bset hO4 T
        have k4X : Kept W (w4.setCell ⟨g, T, none⟩ (.bool true)) := Below.setCell k4 hg1 _
        obtain ⟨MJ, hMJ⟩ : ∃ MJ, MJ = ms.set T true := ⟨_, rfl⟩
        have MJH : markJ j i ms = MJ := by rw [HJY.out, hMJ]
        have MJL : MJ.length = n := by rw [hMJ]; simpa using hml
        rw [← hMJ] at hO4X
        have hO4X := Lib.hid hO4X
        have k4X := Lib.hid k4X
        rw [htz, hT]
        have T0 : (0 : Int) ≤ T := by omega
        have T1 : (T : Int) < n := by omega
        obtain ⟨d0, d1, d2, d3, d4⟩ := HCi.out _ k4
        have c0 := C0.out _ k4
        have hbg : b < g := by omega
        have hwg : w.heap.size < g := by omega
        clear hMJ hO4 htz hT t0 t1
        go_wp2_with fail
        refine (refEnds_any i _).mono ?_; rintro e w5 ⟨rfl, hb5⟩
        have k5 := k4X.out.to hb5
        have hO5 := own_below hO4X.out hb5
        have c0 := C0.out _ k5
        have hzg5 : g < w5.heap.size := (hO5.lt _ rfl).2
        clear hb5 d0 d1 d2 d3 d4
        cases he : isEnd i
        · have hres := Lib.hid (show marksN n l = marksF (j + 1) (l.drop (j + 1)) MJ by rw [HDN.out, HS.out, MJH, markE_no he])
          go_wp2_with fail
          go_roundw
          case rel => exact ⟨j + 1, _, by omega, by go_num, ⟨k5, hO5, MJL, hres.out⟩⟩
          case measure => simp [intOf]; omega
        · have HR0 := Lib.hid (show marksN n l = marksF (j + 1) (l.drop (j + 1)) (MJ.set (j + 1) true) by rw [HDN.out, HS.out, MJH, markE_yes he])
          by_cases hj2 : j + 1 < n
          · have fz := hO5.frozenAt (j + 1)
            have cz := own_bcell (k := j + 1) hO5 (by rw [MJL]; omega)
            have hO6 := Lib.hid (own_bset hO5 (j + 1))
            have j2 : (j : Int) + 1 < n := by omega
            go_wp2_with fail
            go_roundw
            case rel => exact ⟨j + 1, _, by omega, by go_num, ⟨Below.setCell k5 hg1 _, hO6.out, by simpa using MJL, HR0.out⟩⟩
            case measure => simp [intOf]; omega
          · have hres := Lib.hid (show marksN n l = marksF (j + 1) (l.drop (j + 1)) MJ by rw [HR0.out, set_none (by omega)])
            have j2 : ¬ (j : Int) + 1 < n := by omega
            go_wp2_with fail
            go_roundw
            case rel => exact ⟨j + 1, _, by omega, by go_num, ⟨k5, hO5, MJL, hres.out⟩⟩
            case measure => simp [intOf]; omega
    · have hjn : j = n := by omega
      subst hjn
      have hms : ms = marksN j l := by rw [HDN.out, HE.out j (Nat.le_refl _)]; rfl
      have HMG := Lib.hid (fun k => congrArg (fun x : List Bool => x.getD k false) hms)
      have hP : RoundO l W wr g j 0 ms (.slice none 0 0) := ⟨hk, hO, World.ownsRow_nil _ _ _ _⟩
      clear hms HDN hk hO HT HMS HA HE HD0 HC HTG
      go_wp2_with fail
      go_loopw [6, 7] (fun v i wr => ∃ k : Nat, k ≤ j ∧ i = .int .i64 k ∧ RoundO l W wr g j k ms v) (fun _ i _ => j - (intOf i).toNat)
      case atStart => exact ⟨0, Nat.zero_le _, rfl, hP⟩
      case round =>
        obtain ⟨k, hkj, rfl, hK⟩ := hrel
        have hk := hK.kept
        have hM := hK.marks
        have hU := hK.out
        clear hK hP
        have HSU := Lib.hid (leadsTo_succ l j k)
        have hle := leadsTo_le l j k
        by_cases hlt : k < j
        · have cz := own_bcell (k := k) hM (by omega)
          have hG := Lib.hid (HMG.out k)
          have k0 : (0 : Int) ≤ k := by omega
          have k1 : (k : Int) < j := by omega
          cases hb : ms.getD k false
          · have hres := Lib.hid (show leadsTo l j (k + 1) = leadsTo l j k by rw [HSU.out, if_neg (by have := hG.out; rw [← this, hb]; simp)])
            rw [hb] at cz
            clear hb hle
            go_wp2_with fail
            go_roundw
            case rel => exact ⟨k + 1, by omega, by go_num, ⟨hk, hM, by rw [hres.out]; exact hU⟩⟩
            case measure => simp [intOf]; omega
          · have hres := Lib.hid (show leadsTo l j (k + 1) = leadsTo l j k ++ [k] by rw [HSU.out, if_pos (by have := hG.out; rw [← this, hb])])
            rw [hb] at cz
            have hUH := Lib.hid hU
            generalize hcnt : (leadsTo l j k).length = cnt at *
            have HCN := Lib.hid hcnt
            clear hb hU hcnt
            go_wp2_with (at_builtin; refine wpList_append_own _ rfl (.tmp 60) (.tmp 62) 28 rfl W.heap.size 3 i1 (.int .i64 0) 1 8 Try.underlying28 hi' hz0' hz1' HZ2'.out rfl (by omega) _ cnt (natL (leadsTo l j k)) rfl (hUH.out.alloc _) ⟨wr.heap.size, 0, none⟩ 1 1 (natL [k]) rfl rfl (new_cells wr _ _ _ rfl) (natL_one [k]) (by unfold maxLen; omega) (by omega) (by have := hk.size; simp; omega) ?_; intro v2 w5 hO5 hg5 _)
            have k5 : Kept W w5 := Below.grown (hk.alloc _) hg5 (by have := hk.size; simp; omega) (fun q hq => (hUH.out.lt q hq).1)
            have hM5 := own_grown (hM.alloc _) hg5 (fun q hq => by rw [← hq]; exact own_apart hM hUH.out (by decide) hq)
            clear hg5
            go_roundw
            case rel =>
              refine ⟨k + 1, by omega, by go_num, ⟨k5, hM5, ?_⟩⟩
              rw [hres.out, List.length_append, HCN.out, natL_snoc]
              exact hO5
            case measure => simp [intOf]; omega
        · have hkj2 : k = j := by omega
          subst hkj2
          go_wp2_with fail
          go_ret
          exact ⟨_, rfl, by rw [HL.out]; exact own_base hU (by omega), HK.out _ hk⟩
end Go.Proofs.Ytajiifplkfjnjaa.Words

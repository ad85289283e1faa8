/- Contract of package owner's Of: the least owner. -/
import Derived.Test.YtehelfmpcbejeaaOnrMove
import Derived.Test.YtehelfmpcbejeaaOnrMath2
namespace Go.Proofs.Ytehelfmpcbejeaa.Words
set_option maxRecDepth 100000
open Go.RowKit
set_option linter.unusedVariables false
set_option linter.unusedSimpArgs false

/-- What Of answers. -/
def ofZ (l : List Ins) (sz : Int) (m : Nat) : List Int := if rightZ l sz m = true then leastO l else zeroO
theorem rightZ_parts {l : List Ins} {sz : Int} {m : Nat} (h : rightZ l sz m = true) : l.length ≤ 2000 ∧ ∀ i ∈ l, rightB i = true := by
  rw [rightZ_fit, Bool.and_eq_true, Bool.and_eq_true] at h
  obtain ⟨⟨h1, h2⟩, _⟩ := h
  have := of_decide_eq_true h1
  exact ⟨by omega, List.all_eq_true.1 h2⟩
theorem ofZ_len {l : List Ins} {sz : Int} {m : Nat} : (ofZ l sz m).length = 16 := by
  unfold ofZ
  split
  · rename_i h; exact (least_ok l (rightZ_parts h).2).1
  · rfl
theorem load_own {w : World} {b : Nat} {o : List Int} (h : Box w b (oV o)) (ho : o.length = 16) : (loadVar 26 ⟨b, 0, none⟩).run Try.prog w = .ok (.agg (oV o).toArray) w :=
  run_loadVar_mid w b 0 26 (oV o) _ h.whole Try.underlying26 rfl (by rw [oV_len, ho]; kernel_rfl)
/-- The registers while they are put on E. -/
def startO (k : Nat) : List Int := funO fun j => if 1 ≤ j ∧ j < k then 2 else 0
theorem startO_1 : startO 1 = zeroO := by decide
theorem startO_16 : startO 16 = firstO := by decide
theorem startO_set {k : Nat} (h : 1 ≤ k) : (startO k).set k 2 = startO (k + 1) := by
  unfold startO
  rw [funO_set]
  refine funO_ext fun j hj => ?_
  by_cases e : j = k
  · subst e; rw [if_pos rfl, if_pos ⟨h, by omega⟩]
  · rw [if_neg e]
    by_cases c : 1 ≤ j ∧ j < k
    · rw [if_pos c, if_pos ⟨c.1, by omega⟩]
    · rw [if_neg c, if_neg (by omega)]
/-- The registers in a block. -/
def decO (w : World) (b : Nat) : List Int := (List.range 16).map fun k => match w.cell? ⟨b, k, none⟩ with | some (.int _ x) => x | _ => 0
theorem decO_eq {w : World} {b : Nat} {o : List Int} (h : Box w b (oV o)) (ho : o.length = 16) : decO w b = o := by
  refine List.ext_getElem (by simp [decO, ho]) fun k h1 h2 => ?_
  simp only [decO, List.getElem_map, List.getElem_range]
  rw [h.cell (oV_at ho (n := k) (by omega))]
  simp only
  rw [atO_nat, List.getD_eq_getElem?_getD, List.getElem?_eq_getElem h2]; rfl
def bitV (v : Value) : Nat := match v with | .bool true => 1 | _ => 0

set_option maxHeartbeats 8000000 in
theorem of_any' (A : Option Addr) (c : Nat) (sz : Int) (A' : Option Addr) (m c' : Nat) (l : List Ins) (w : World) (hr : Row w w.heap.size 5 (.slice A l.length c) l.length (codeCells l)) (hm : m ≤ c') (hc' : c' ≤ 9223372036854775807) :
    Calls Try.prog 10 #[.agg #[.slice A l.length c, .int .i64 sz, .slice A' m c']] w fun e w' => e = .returned (.agg (oV (ofZ l sz m)).toArray) ∧ Below w.heap.size w w' := by
  obtain ⟨W1, hW1⟩ : ∃ W1, W1 = w.alloc (.cells #[.slice A l.length c, .int .i64 sz, .slice A' m c'] 25) := ⟨_, rfl⟩
  obtain ⟨W2, hW2⟩ : ∃ W2, W2 = W1.alloc (.cells #[.int .i64 0, .int .i64 0, .int .i64 0, .int .i64 0, .int .i64 0, .int .i64 0, .int .i64 0, .int .i64 0, .int .i64 0, .int .i64 0, .int .i64 0, .int .i64 0, .int .i64 0, .int .i64 0, .int .i64 0, .int .i64 0] 26) := ⟨_, rfl⟩
  have hz1 : W1.heap.size = w.heap.size + 1 := by rw [hW1]; simp
  have hz2 : W2.heap.size = w.heap.size + 2 := by rw [hW2]; simp [hz1]
  have hK : Below w.heap.size w W2 := by rw [hW2, hW1]; exact ((Below.refl w.heap.size w).alloc (Nat.le_refl _) _).alloc (by simp) _
  have HB0 : Box W2 (w.heap.size + 1) (oV zeroO) := by rw [hW2, ← hz1]; exact Box.new W1 (oV zeroO) _
  have HI : Box W2 w.heap.size [.slice A l.length c, .int .i64 sz, .slice A' m c'] := by
    rw [hW2]; refine Box.alloc ?_ _; rw [hW1]; exact Box.new w [.slice A l.length c, .int .i64 sz, .slice A' m c'] _
  have HR : Row W2 W2.heap.size 5 (.slice A l.length c) l.length (codeCells l) := (hr.below hK).more (by omega)
  have c0 := HI.cell (k := 0) rfl
  have c1 := HI.cell (k := 1) rfl
  have c2 := HI.cell (k := 2) rfl
  have HB := Lib.hid HB0
  have HIB := Lib.hid HI
  have HRR := Lib.hid HR
  have HKK := Lib.hid hK
  obtain ⟨hcl, hcm⟩ := hr.cap
  clear HI HB0 hK hr HR
  go_enter Try.func10, Try.ntmps10
  go_wp2_with fail
  rw [← hW1, ← hW2]
  clear hW1 hW2
  refine (imgRight_any A c sz A' m c' l _ HRR.out hm hc').mono ?_; rintro e w1 ⟨rfl, hb1⟩
  have HBX := Lib.hid (HB.out.below hb1 HB.out.lt)
  have HIX := Lib.hid (HIB.out.below hb1 HIB.out.lt)
  have HRX := Lib.hid ((HRR.out.below hb1).more hb1.size)
  have HKX := Lib.hid (HKK.out.trans (hb1.mono (by omega)))
  have hz3 : w.heap.size + 2 ≤ w1.heap.size := by have := hb1.size; omega
  clear hb1 c0 c1 c2 HB HIB HRR HKK hz1 hz2
  cases hri : rightZ l sz m
  · have HL := Lib.hid (show ofZ l sz m = zeroO by unfold ofZ; rw [if_neg (by rw [hri]; decide)])
    clear hri
    go_wp2_with (first
      | (refine wpList_store_box rfl 26 (.tmp 2) (.tmp 9) rfl (w.heap.size + 1) 0 (oV zeroO) rfl rfl (oV zeroO) HBX.out (Nat.le_refl _) 16 (by kernel_rfl) rfl (oV_one _) ?_; intro w3 B3 hg3; rw [splice_whole _ _ rfl] at B3))
    refine bodyPost_ret (v := .agg (oV zeroO).toArray) ?_ rfl ⟨by rw [HL.out], ?_⟩
    · exact results_cell Try.results10 _ _ _ ⟨w.heap.size + 1, 0, none⟩ _ rfl (load_own B3 rfl)
    · exact Below.grown HKX.out hg3 (by omega) (fun i hi => by injection hi with hi; omega)
  have HL := Lib.hid (show ofZ l sz m = leastO l by unfold ofZ; rw [if_pos hri])
  have hp := rightZ_parts hri
  have HPR := Lib.hid hp.2
  have hl2 : l.length ≤ 2000 := hp.1
  clear hri hp
  have HO0 : Hid (Box (w1.alloc (.cells (oV zeroO).toArray 26)) w1.heap.size (oV (startO 1))) := by rw [startO_1]; exact Box.new w1 (oV zeroO) 26
  have HK1 : Hid (Below w1.heap.size w1 (w1.alloc (.cells (oV zeroO).toArray 26))) := (Below.refl _ _).alloc (Nat.le_refl _) _
  go_wp2_with fail
  change Code.wp _ _ _ _ (w1.alloc (.cells (oV zeroO).toArray 26))
  obtain ⟨b, hb⟩ : ∃ b, b = w1.heap.size := ⟨_, rfl⟩
  rw [← hb] at HO0 HK1 hz3 ⊢
  have HBE := Lib.hid hb
  clear hb
  generalize w1.alloc (.cells (oV zeroO).toArray 26) = Y at *
  go_loopw [4] (fun ii wr => ∃ k : Nat, 1 ≤ k ∧ k ≤ 16 ∧ ii = .int .i64 k ∧ Box wr b (oV (startO k)) ∧ Below b w1 wr) (fun ii _ => 16 - (intOf ii).toNat)
  case atStart => exact ⟨1, by omega, by omega, rfl, HO0.out, HK1.out⟩
  case round =>
    obtain ⟨k, hk1, hk, rfl, hbx, hbl⟩ := hrel
    have HX := Lib.hid hbx
    have HKY := Lib.hid hbl
    clear hbx hbl
    by_cases hlt : k < 16
    · have f1 := HX.out.cell (oV_at (funO_len _) (n := k) (by omega))
      have f2 := HX.out.frozen k
      have hbz := HX.out.lt
      have g0 : (0 : Int) ≤ k := by omega
      have g1 : (k : Int) < 16 := by omega
      have HN : Hid (Box (wr.setCell ⟨b, k, none⟩ (.int .i64 2)) b (oV (startO (k + 1)))) := by
        have := HX.out.setCell k (.int .i64 2)
        rwa [oV_set, startO_set hk1] at this
      have HKN : Hid (Below b w1 (wr.setCell ⟨b, k, none⟩ (.int .i64 2))) := HKY.out.setCell (p := ⟨b, k, none⟩) (Nat.le_refl _) _
      go_wp2_with fail
      go_roundw
      case rel => exact ⟨k + 1, by omega, by omega, by go_num, HN.out, HKN.out⟩
      case measure => simp only [intOf]; omega
    · have HX : Hid (Box wr b (oV firstO)) := by rw [← startO_16, show 16 = k from by omega]; exact HX.out
      have g1 : ¬ (k : Int) < 16 := by omega
      have HB0 := Lib.hid (show Row w1 b 5 (.slice A l.length c) l.length (codeCells l) from by rw [HBE.out]; exact HRX.out)
      have HP0 := Lib.hid (HIX.out.below HKY.out (by omega))
      go_wp2_with fail
      go_loopw [5] (fun mm wx => ∃ (k : Nat) (p : List Int) (mv : Bool), mm = .bool mv ∧ Below b w1 wx ∧ Box wx b (oV p) ∧ OkO p ∧ p = iterO l k firstO ∧ (mv = true → k + cntE p ≤ 15) ∧ (mv = false → k ≤ 17 ∧ roundO l p = p)) (fun mm wx => 2 * cntE (decO wx b) + bitV mm)
      case atStart => exact ⟨0, firstO, true, rfl, HKY.out, HX.out, firstO_ok, rfl, fun _ => by decide, fun h => by cases h⟩
      case round =>
        obtain ⟨k, p, mv, rfl, hbl, hbx, hok, hit, hy, hn⟩ := hrel
        have HX2 := Lib.hid hbx
        have HKY2 := Lib.hid hbl
        have HOK := Lib.hid hok
        have HIT := Lib.hid hit
        clear hbx hbl hok hit
        cases mv
        · obtain ⟨h17, hfix⟩ := hn rfl
          have HE := Lib.hid (HL.out.trans (least_of l HIT.out h17 hfix))
          have HPL := Lib.hid HOK.out.1
          have HRB := Lib.hid (HBX.out.below HKY2.out (by omega))
          clear hfix hy hn h17
          go_wp2_with (first
            | (refine wpList_load_box rfl 26 (.tmp 3) rfl b 0 rfl (oV p) (oV p) HX2.out whole_at _ Try.underlying26 rfl 16 (by kernel_rfl) ((oV_len p).trans HPL.out) ?_)
            | (refine wpList_store_box rfl 26 (.tmp 2) (.tmp 20) rfl (w.heap.size + 1) 0 (oV p) rfl rfl (oV zeroO) HRB.out (by rw [oV_len, HPL.out]; exact Nat.le_refl _) 16 (by kernel_rfl) ((oV_len p).trans HPL.out) (oV_one _) ?_; intro w3 B3 hg3; rw [splice_whole _ _ (by rw [oV_len, HPL.out]; rfl)] at B3))
          refine bodyPost_ret (v := .agg (oV p).toArray) ?_ rfl ⟨by rw [HE.out], ?_⟩
          · exact results_cell Try.results10 _ _ _ ⟨w.heap.size + 1, 0, none⟩ _ rfl (load_own B3 HPL.out)
          · exact Below.grown (HKX.out.trans (HKY2.out.mono (by omega))) hg3 (by have := HKX.out.size; have := HKY2.out.size; omega) (fun i hi => by injection hi with hi; omega)
        · have HY := Lib.hid (hy rfl)
          have HPB := Lib.hid (HIX.out.below HKY2.out (by omega))
          have c0 := HPB.out.cell (k := 0) rfl
          have HRW := Lib.hid (HB0.out.below HKY2.out)
          have hbz := HX2.out.lt
          clear hy hn
          go_wp2_with fail
          refine (move_any A c l b p _ HRW.out (by omega) HPR.out HOK.out HX2.out).mono ?_; rintro e w5 ⟨mv, rfl, hS⟩
          have HS := Lib.hid hS
          clear hS
          go_wp2_with fail
          go_roundw
          case rel =>
            refine ⟨k + 1, roundO l p, mv, rfl, HKY2.out.trans HS.out.below, HS.out.box, HS.out.mv.ok, by rw [iter_succ, ← HIT.out], fun h => ?_, fun h => ?_⟩
            · have := HS.out.mv.yes h
              have := HY.out
              omega
            · have e := HS.out.mv.no h
              have := HY.out
              exact ⟨by omega, by rw [e]; exact e⟩
          case measure =>
            rw [decO_eq HS.out.box HS.out.mv.ok.1, decO_eq HX2.out HOK.out.1]
            cases mv
            · have := HS.out.mv.no rfl
              rw [this]; simp [bitV]
            · have := HS.out.mv.yes rfl
              simp only [bitV]; omega
end Go.Proofs.Ytehelfmpcbejeaa.Words

/- Contract of package blocks: Leaders. -/
import Derived.Test.YtajiifplkfjnjaaBlkNum
import Derived.Test.YtajiifplkfjnjaaOwn
import Derived.Test.YtajiifplkfjnjaaOwnMore
import Derived.Test.YtajiifplkfjnjaaImgRight2
import Derived.OwnWalk
namespace Go.Proofs.Ytajiifplkfjnjaa.Words
set_option maxRecDepth 100000
open Go.RowKit
set_option linter.unusedVariables false

theorem info_bool : (Try.prog.info? 4).map (fun i => (i.zero, i.size, i.bytes)) = some (some (.bool false), 1, 1) := by kernel_rfl
theorem info_intB : (Try.prog.info? 3).map (fun i => (i.zero, i.size, i.bytes)) = some (some (.int .i64 0), 1, 8) := by kernel_rfl
def bools (m : List Bool) : List Value := m.map Value.bool
theorem bools_set (m : List Bool) (k : Nat) (b : Bool) : (bools m).set k (.bool b) = bools (m.set k b) := by simp [bools, List.map_set]
theorem bools_get {m : List Bool} {k : Nat} (h : k < m.length) : (bools m)[k]? = some (.bool (m.getD k false)) := by
  unfold bools; rw [List.getElem?_map, List.getD_eq_getElem?_getD, List.getElem?_eq_getElem h]; rfl
theorem bools_made (n : Nat) : (madeCells (Value.bool false).cells (n * 1)).toList = bools (List.replicate n false) := by
  rw [Nat.mul_one, show (Value.bool false).cells = #[Value.bool false] from rfl, toList_madeCells_one]; simp [bools]
theorem natL_one (L : List Nat) : ∀ u ∈ natL L, u.oneCell' = true := by
  intro u hu
  obtain ⟨x, _, rfl⟩ := List.mem_map.1 hu
  rfl
theorem natL_len (L : List Nat) : (natL L).length = L.length := by simp [natL]
/-- The five cells of an instruction that was laid, behind a call. -/
theorem ins_kept {w x : World} {i : Ins} {t : TypeId} (hb : Below (w.alloc (.cells #[.int .i64 i.op, .int .i64 i.d, .int .i64 i.a, .int .i64 i.b, .int .i64 i.imm] t)).heap.size (w.alloc (.cells #[.int .i64 i.op, .int .i64 i.d, .int .i64 i.a, .int .i64 i.b, .int .i64 i.imm] t)) x) :
    w.heap.size < x.heap.size ∧ x.cell? ⟨w.heap.size, 0, none⟩ = some (.int .i64 i.op) ∧ x.cell? ⟨w.heap.size, 1, none⟩ = some (.int .i64 i.d) ∧ x.cell? ⟨w.heap.size, 2, none⟩ = some (.int .i64 i.a) ∧ x.cell? ⟨w.heap.size, 3, none⟩ = some (.int .i64 i.b) ∧ x.cell? ⟨w.heap.size, 4, none⟩ = some (.int .i64 i.imm) := by
  refine ⟨by have := hb.size; simp at this; omega, ?_, ?_, ?_, ?_, ?_⟩
  all_goals exact ((bcell hb).1 _ _ (by simp)).trans (by go_simp)
/-- Targets lie in the code. -/
theorem target_in {n : Nat} : ∀ {l : List Ins} {k0 j : Nat} {i : Ins}, targetsOk n k0 l = true → l[j]? = some i → isJump i = true → 0 ≤ ((k0 + j : Nat) : Int) + i.imm ∧ ((k0 + j : Nat) : Int) + i.imm < n := by
  intro l
  induction l with
  | nil => intro k0 j i h hi; simp at hi
  | cons x l ih =>
    intro k0 j i h hi hj
    rw [targetsOk, Bool.and_eq_true] at h
    cases j with
    | zero =>
      simp at hi; subst hi
      have h1 := h.1
      unfold badTarget at h1
      rw [hj] at h1
      simp only [Bool.true_and, Bool.not_eq_true', decide_eq_false_iff_not] at h1
      by_cases hb : (k0 : Int) + x.imm < 0 ∨ (n : Int) ≤ k0 + x.imm
      · exact absurd (by rw [targetZ_no (by rcases hb with h | h <;> omega)]; omega) h1
      · simp only [Nat.add_zero]; omega
    | succ j =>
      simp at hi
      have := ih (k0 := k0 + 1) (j := j) h.2 hi hj
      rw [show k0 + (j + 1) = k0 + 1 + j by omega]; exact this
theorem rightZ_parts {l : List Ins} {sz : Int} {m : Nat} (h : rightZ l sz m = true) : (1 ≤ l.length ∧ l.length ≤ 2000) ∧ targetsOk l.length 0 l = true := by
  rw [rightZ_fit, Bool.and_eq_true, Bool.and_eq_true] at h
  have := of_decide_eq_true h.1.1
  exact ⟨by omega, h.2⟩

/-- What Leaders answers. -/
def leadsR (l : List Ins) (sz : Int) (m : Nat) : List Nat := if rightZ l sz m = true then leadsZ l else []
def leadsTo (l : List Ins) (N j : Nat) : List Nat := (List.range j).filter fun k => (marksN N l).getD k false
theorem leadsTo_succ (l : List Ins) (N j : Nat) : leadsTo l N (j + 1) = if (marksN N l).getD j false = true then leadsTo l N j ++ [j] else leadsTo l N j := by
  unfold leadsTo
  rw [List.range_succ, List.filter_append]
  by_cases h : (marksN N l).getD j false = true
  · rw [if_pos h, List.filter_cons, if_pos h, List.filter_nil]
  · rw [if_neg h, List.filter_cons, if_neg h, List.filter_nil, List.append_nil]
theorem leadsTo_le (l : List Ins) (N j : Nat) : (leadsTo l N j).length ≤ j := by
  unfold leadsTo
  exact Nat.le_trans (List.length_filter_le _ _) (by simp)
theorem leadsTo_all {l : List Ins} {N : Nat} (h : l.length ≤ N) : leadsTo l N l.length = leadsZ l := by
  unfold leadsTo leadsZ
  refine List.filter_congr fun k hk => ?_
  rw [marksN_get h (List.mem_range.1 hk)]

/-- What holds ahead of each round of the marks. -/
structure RoundM (l : List Ins) (W wr : World) (g N j : Nat) (m : List Bool) : Prop where
  kept : Kept W wr
  own : wr.ownsRow W.heap.size 4 1 (.slice (some ⟨g, 0, none⟩) N N) N (bools m)
  len : m.length = N
  done : marksN N l = marksF j (l.drop j) m

theorem own_bset {w : World} {base g N : Nat} {m : List Bool} (h : w.ownsRow base 4 1 (.slice (some ⟨g, 0, none⟩) N N) N (bools m)) (k : Nat) : (w.setCell ⟨g, k, none⟩ (.bool true)).ownsRow base 4 1 (.slice (some ⟨g, 0, none⟩) N N) N (bools (m.set k true)) := by
  have := (h.stored k (.bool true)).1
  rwa [bools_set] at this
theorem own_bcell {w : World} {base g N : Nat} {m : List Bool} (h : w.ownsRow base 4 1 (.slice (some ⟨g, 0, none⟩) N N) N (bools m)) {k : Nat} (hk : k < m.length) : w.cell? ⟨g, k, none⟩ = some (.bool (m.getD k false)) := by
  have hl : m.length = N := by have := h.1; simpa [bools] using this
  rw [h.cellAt k (by omega), bools_get hk]

/-- What holds ahead of each round of the list. -/
structure RoundO (l : List Ins) (W wr : World) (g N k : Nat) (ms : List Bool) (v : Value) : Prop where
  kept : Kept W wr
  marks : wr.ownsRow W.heap.size 4 1 (.slice (some ⟨g, 0, none⟩) N N) N (bools ms)
  out : wr.ownsRow W.heap.size 3 1 v (leadsTo l N k).length (natL (leadsTo l N k))

theorem markE_no {k : Nat} {i : Ins} {m : List Bool} (h : isEnd i = false) : markE k i m = m := by unfold markE; rw [h]; rfl
theorem markE_yes {k : Nat} {i : Ins} {m : List Bool} (h : isEnd i = true) : markE k i m = m.set (k + 1) true := by unfold markE; rw [if_pos h]
theorem markJ_no {k : Nat} {i : Ins} {m : List Bool} (h : isJump i = false) : markJ k i m = m := by unfold markJ; rw [h]; rfl
theorem markJ_yes {k T : Nat} {i : Ins} {m : List Bool} (h : isJump i = true) (hT : (k : Int) + i.imm = T) : markJ k i m = m.set T true := by unfold markJ; rw [if_pos h, hT]; rfl

set_option maxHeartbeats 2000000 in
theorem blkLeaders_any (A : Option Addr) (c : Nat) (sz : Int) (A' : Option Addr) (m c' : Nat) (l : List Ins) (w : World) (hr : Row w w.heap.size 5 (.slice A l.length c) l.length (codeCells l)) (hm : m ≤ c') (hc' : c' ≤ 9223372036854775807) :
    Calls Try.prog 9 #[.agg #[.slice A l.length c, .int .i64 sz, .slice A' m c']] w fun e w' => ∃ v, e = .returned v ∧ w'.ownsRow w.heap.size 3 1 v (leadsR l sz m).length (natL (leadsR l sz m)) ∧ Below w.heap.size w w' := by
  obtain ⟨i0, hi, hz0, hz1, hz2⟩ := info_parts info_bool
  have HZ2 := Lib.hid hz2
  clear hz2
  obtain ⟨i1, hi', hz0', hz1', hz2'⟩ := info_parts info_intB
  have HZ2' := Lib.hid hz2'
  clear hz2'
  obtain ⟨hcl, hcm⟩ := hr.cap
  have HK := Lib.hid (fun (x : World) (h : Kept (w.alloc (.cells #[.slice A l.length c, .int .i64 sz, .slice A' m c'] 25)) x) => ((Below.refl w.heap.size w).alloc (Nat.le_refl _) _).trans (h.mono (by simp)))
  have hB : w.heap.size < (w.alloc (.cells #[.slice A l.length c, .int .i64 sz, .slice A' m c'] 25)).heap.size := by simp
  have HR := Lib.hid (hr.alloc (Nat.le_refl _) (.cells #[.slice A l.length c, .int .i64 sz, .slice A' m c'] 25) |>.more (Nat.le_of_lt hB))
  have c0 : (w.alloc (.cells #[.slice A l.length c, .int .i64 sz, .slice A' m c'] 25)).cell? ⟨w.heap.size, 0, none⟩ = some (.slice A l.length c) := by go_simp
  have HRP := Lib.hid (fun h => rightZ_parts (l := l) (sz := sz) (m := m) h)
  have hw0 : (w.alloc (.cells #[.slice A l.length c, .int .i64 sz, .slice A' m c'] 25)).heap.size = w.heap.size + 1 := by simp
  go_enter Try.func9, Try.ntmps9
  go_wp2_with fail
  generalize w.alloc (.cells #[.slice A l.length c, .int .i64 sz, .slice A' m c'] 25) = W at *
  have C0 := Lib.hid (fun (x : World) (h : Kept W x) => h.cell hB c0)
  have HX := Lib.hid (imgRight_any A c sz A' m c' l W HR.out hm hc')
  clear c0 hr
  refine HX.out.mono ?_; rintro e w1 ⟨rfl, hb1⟩
  have k1 : Kept W w1 := hb1
  have c0 := C0.out _ k1
  have hs1 := hb1.size
  clear hb1
  cases hri : rightZ l sz m
  · go_wp2_with fail
    go_ret
    have hl : leadsR l sz m = [] := by unfold leadsR; rw [hri]; rfl
    rw [hl]
    exact ⟨_, rfl, World.ownsRow_nil _ _ _ _, HK.out _ k1⟩
  obtain ⟨⟨n0, n1⟩, hto⟩ := HRP.out hri
  have HL := Lib.hid (show leadsR l sz m = leadsTo l (l.length + 1) l.length by unfold leadsR; rw [if_pos hri, leadsTo_all (by omega)])
  have HT := Lib.hid (fun (j : Nat) (i : Ins) (h : l[j]? = some i) (hj : isJump i = true) => (by have := target_in hto h hj; simpa using this : 0 ≤ (j : Int) + i.imm ∧ (j : Int) + i.imm < l.length))
  have HMS := Lib.hid (fun (j : Nat) (i : Ins) (h : l[j]? = some i) (m : List Bool) => marksF_step h m)
  have HA := Lib.hid (fun j h => at_some (l := l) (j := j) h)
  have HE := Lib.hid (fun (k : Nat) (h : l.length ≤ k) => List.drop_eq_nil_of_le h)
  have HD0 := Lib.hid (show l.drop 0 = l from rfl)
  have hn0 : l.length ≠ 0 := by omega
  obtain ⟨b, off, rfl, hbb, _⟩ := HR.out.at_ hn0
  have HC := Lib.hid (fun (x : World) (h : Kept W x) (k : Nat) (i : Ins) (hi : l[k]? = some i) => (h.row HR.out).ins hi)
  clear HR HX hto hbb HRP hri
  have hne : w.heap.size < w1.heap.size := by omega
  go_wp2_with (at_make; refine wpList_make_full _ rfl _ _ 46 rfl W.heap.size 4 i0 (.bool false) 1 Try.underlying46 hi hz0 hz1 .i64 .i64 _ _ (l.length + 1) rfl rfl (by omega) (by omega) (by rw [HZ2.out]; omega) (by unfold maxLen; omega) hs1 ?_; rotate_right; intro w2 hown hg2; rw [bools_made] at hown; have k2 := k1.trans (Below.grown (Below.refl _ _) hg2 (Nat.le_refl _) (fun k hk => nomatch hk)); have c0 := C0.out _ k2; have fz := hown.frozenAt 0; have cz := own_bcell (k := 0) hown (by simp))
  have hg1 : W.heap.size ≤ w1.heap.size := hs1
  have hO1 := own_bset hown 0
  have hP : RoundM l W (w2.setCell ⟨w1.heap.size, 0, none⟩ (.bool true)) w1.heap.size (l.length + 1) 0 ((List.replicate (l.length + 1) false).set 0 true) :=
    ⟨Below.setCell k2 hg1 _, hO1, by simp, by rw [HD0.out]; rfl⟩
  clear cz fz hown hg2 k1 hO1
  generalize hG : w1.heap.size = g at *
  clear hG
  generalize w2.setCell ⟨g, 0, none⟩ (.bool true) = w3 at *
  generalize hN : l.length = n at *
  have HN := Lib.hid hN
  clear hN k2
  go_loopw [21] (fun i wr => ∃ (j : Nat) (m : List Bool), j ≤ n ∧ i = .int .i64 j ∧ RoundM l W wr g (n + 1) j m) (fun i _ => n - (intOf i).toNat)
  case atStart => exact ⟨0, _, Nat.zero_le _, rfl, hP⟩
  case round =>
    obtain ⟨j, ms, hj, rfl, hK⟩ := hrel
    have hk := hK.kept
    have hO := hK.own
    have hml := hK.len
    have HDN := Lib.hid hK.done
    clear hK hP
    by_cases hlt : j < n
    · obtain ⟨i, hi⟩ := HA.out j hlt
      have HS := Lib.hid (fun m => HMS.out j i hi m)
      have HTT := Lib.hid (HT.out j i hi)
      obtain ⟨d0, d1, d2, d3, d4⟩ := HC.out _ hk j i hi
      have j0 : (0 : Int) ≤ j := by omega
      have j1 : (j : Int) < n := by omega
      clear hi
      go_wp2_with fail
      refine (blkHas_any i _).mono ?_; rintro e w4 ⟨rfl, hb4⟩
      obtain ⟨hz4, q0, q1, q2, q3, q4⟩ := ins_kept hb4
      have k4 := (hk.alloc _).to hb4
      have hO4 := own_below (hO.alloc _) hb4
      have hzg : g < wr.heap.size := (hO.lt _ rfl).2
      clear hb4 hk hO
      cases hjm : isJump i
      · obtain ⟨MJ, hMJ⟩ : ∃ MJ, MJ = ms := ⟨_, rfl⟩
        have MJH : markJ j i ms = MJ := by rw [markJ_no hjm, hMJ]
        have MJL : MJ.length = n + 1 := by rw [hMJ]; exact hml
        rw [← hMJ] at hO4
        have k4X := k4
        have hO4X := hO4
        clear hMJ
        go_wp2_with fail
        refine (blkEnds_any i _).mono ?_; rintro e w5 ⟨rfl, hb5⟩
        have k5 := k4X.to hb5
        have hO5 := own_below hO4X hb5
        clear hb5
        cases he : isEnd i
        · have hres := Lib.hid (show marksN (n + 1) l = marksF (j + 1) (l.drop (j + 1)) MJ by rw [HDN.out, HS.out, MJH, markE_no he])
          go_wp2_with fail
          go_roundw
          case rel => exact ⟨j + 1, _, by omega, by go_num, ⟨k5, hO5, MJL, hres.out⟩⟩
          case measure => simp [intOf]; omega
        · have hres := Lib.hid (show marksN (n + 1) l = marksF (j + 1) (l.drop (j + 1)) (MJ.set (j + 1) true) by rw [HDN.out, HS.out, MJH, markE_yes he])
          have fz := hO5.frozenAt (j + 1)
          have cz := own_bcell (k := j + 1) hO5 (by rw [MJL]; omega)
          have hO6 := Lib.hid (own_bset hO5 (j + 1))
          go_wp2_with fail
          go_roundw
          case rel => exact ⟨j + 1, _, by omega, by go_num, ⟨Below.setCell k5 hg1 _, hO6.out, by simpa using MJL, hres.out⟩⟩
          case measure => simp [intOf]; omega
      · obtain ⟨t0, t1⟩ := HTT.out hjm
        obtain ⟨T, hT⟩ : ∃ T : Nat, (j : Int) + i.imm = T := ⟨((j : Int) + i.imm).toNat, by omega⟩
        have HJY := Lib.hid (fun m => markJ_yes (m := m) hjm hT)
        have hTn : T < n := by omega
        have fz := hO4.frozenAt T
        have cz := own_bcell (k := T) hO4 (by omega)
        have hO4X := own_bset hO4 T
        have k4X : Kept W (w4.setCell ⟨g, T, none⟩ (.bool true)) := Below.setCell k4 hg1 _
        obtain ⟨MJ, hMJ⟩ : ∃ MJ, MJ = ms.set T true := ⟨_, rfl⟩
        have MJH : markJ j i ms = MJ := by rw [HJY.out, hMJ]
        have MJL : MJ.length = n + 1 := by rw [hMJ]; simpa using hml
        rw [← hMJ] at hO4X
        have hO4X := Lib.hid hO4X
        have k4X := Lib.hid k4X
        clear hMJ hO4 k4
        go_wp2_with fail
        refine (blkEnds_any i _).mono ?_; rintro e w5 ⟨rfl, hb5⟩
        have k5 := k4X.out.to hb5
        have hO5 := own_below hO4X.out hb5
        clear hb5
        cases he : isEnd i
        · have hres := Lib.hid (show marksN (n + 1) l = marksF (j + 1) (l.drop (j + 1)) MJ by rw [HDN.out, HS.out, MJH, markE_no he])
          go_wp2_with fail
          go_roundw
          case rel => exact ⟨j + 1, _, by omega, by go_num, ⟨k5, hO5, MJL, hres.out⟩⟩
          case measure => simp [intOf]; omega
        · have hres := Lib.hid (show marksN (n + 1) l = marksF (j + 1) (l.drop (j + 1)) (MJ.set (j + 1) true) by rw [HDN.out, HS.out, MJH, markE_yes he])
          have fz := hO5.frozenAt (j + 1)
          have cz := own_bcell (k := j + 1) hO5 (by rw [MJL]; omega)
          have hO6 := Lib.hid (own_bset hO5 (j + 1))
          go_wp2_with fail
          go_roundw
          case rel => exact ⟨j + 1, _, by omega, by go_num, ⟨Below.setCell k5 hg1 _, hO6.out, by simpa using MJL, hres.out⟩⟩
          case measure => simp [intOf]; omega
    · have hjn : j = n := by omega
      subst hjn
      have hms : ms = marksN (j + 1) l := by rw [HDN.out, HE.out j (Nat.le_refl _)]; rfl
      have HMG := Lib.hid (fun k => congrArg (fun x : List Bool => x.getD k false) hms)
      have c0 := C0.out _ hk
      have hP : RoundO l W wr g (j + 1) 0 ms (.slice none 0 0) := ⟨hk, hO, World.ownsRow_nil _ _ _ _⟩
      clear hms HDN hk hO HT HMS HA HE HD0 HC
      go_wp2_with fail
      go_loopw [6, 44] (fun v i wr => ∃ k : Nat, k ≤ j ∧ i = .int .i64 k ∧ RoundO l W wr g (j + 1) k ms v) (fun _ i _ => j - (intOf i).toNat)
      case atStart => exact ⟨0, Nat.zero_le _, rfl, hP⟩
      case round =>
        obtain ⟨k, hkj, rfl, hK⟩ := hrel
        have hk := hK.kept
        have hM := hK.marks
        have hU := hK.out
        clear hK hP
        have HSU := Lib.hid (leadsTo_succ l (j + 1) k)
        have hle := leadsTo_le l (j + 1) k
        by_cases hlt : k < j
        · have cz := own_bcell (k := k) hM (by omega)
          have hG := Lib.hid (HMG.out k)
          have k0 : (0 : Int) ≤ k := by omega
          have k1 : (k : Int) < j := by omega
          cases hb : ms.getD k false
          · have hres := Lib.hid (show leadsTo l (j + 1) (k + 1) = leadsTo l (j + 1) k by rw [HSU.out, if_neg (by have := hG.out; rw [← this, hb]; simp)])
            rw [hb] at cz
            clear hb hle
            go_wp2_with fail
            go_roundw
            case rel => exact ⟨k + 1, by omega, by go_num, ⟨hk, hM, by rw [hres.out]; exact hU⟩⟩
            case measure => simp [intOf]; omega
          · have hres := Lib.hid (show leadsTo l (j + 1) (k + 1) = leadsTo l (j + 1) k ++ [k] by rw [HSU.out, if_pos (by have := hG.out; rw [← this, hb])])
            rw [hb] at cz
            have hUH := Lib.hid hU
            generalize hcnt : (leadsTo l (j + 1) k).length = cnt at *
            have HCN := Lib.hid hcnt
            clear hb hU hcnt
            go_wp2_with (at_builtin; refine wpList_append_own _ rfl (.tmp 51) (.tmp 53) 28 rfl W.heap.size 3 i1 (.int .i64 0) 1 8 Try.underlying28 hi' hz0' hz1' HZ2'.out rfl (by omega) _ cnt (natL (leadsTo l (j + 1) k)) rfl (hUH.out.alloc _) ⟨wr.heap.size, 0, none⟩ 1 1 (natL [k]) rfl rfl (new_cells wr _ _ _ rfl) (natL_one [k]) (by unfold maxLen; omega) (by omega) (by have := hk.size; simp; omega) ?_; intro v2 w5 hO5 hg5 _)
            have k5 : Kept W w5 := Below.grown (hk.alloc _) hg5 (by have := hk.size; simp; omega) (fun q hq => (hUH.out.lt q hq).1)
            have hM5 := own_grown (hM.alloc _) hg5 (fun q hq => by rw [← hq]; exact own_apart hM hUH.out (by decide) hq)
            clear hg5
            go_roundw
            case rel =>
              refine ⟨k + 1, by omega, by go_num, ⟨k5, hM5, ?_⟩⟩
              rw [hres.out, List.length_append, HCN.out, natL_snoc]
              exact hO5
            case measure => simp [intOf]; omega
        · have hkj2 : k = j := by omega
          subst hkj2
          go_wp2_with fail
          go_ret
          exact ⟨_, rfl, by rw [HL.out]; exact own_base hU (by omega), HK.out _ hk⟩
end Go.Proofs.Ytajiifplkfjnjaa.Words

/- The walk of the law EmitPairs. -/
import Derived.Test.YtcaibahniheohaaEmtAlive
import Derived.Test.YtcaibahniheohaaEmtPairMath
import Derived.LoopN
import Derived.Deep.Cut
import Derived.Deep.QuietTactic
import Derived.BigQuiet
namespace Go.Proofs.Ytcaibahniheohaa.Words
set_option maxRecDepth 100000
open Go.RowKit
set_option linter.unusedVariables false
set_option linter.unusedSimpArgs false

def zero13 : List Int := [0, 0, 0, 0, 0, 0, 0, 0, 0, 0, 0, 0, 0]
theorem cntK_nat (k : Int) (l : List Cel) : 0 ≤ cntK k l ∧ cntK k l ≤ l.length := by
  unfold cntK
  have := List.length_filter_le (fun c : Cel => decide (c.kind = k)) l
  omega
theorem oV_get {l : List Int} {k : Nat} {x : Int} (h : l[k]? = some x) : (oV l)[k]? = some (.int .i64 x) := by unfold oV; rw [List.getElem?_map, h]; rfl

theorem pair_facts {f : Int} {a e : Int → Int} (h : PairCase f a e) : (∀ k, 0 ≤ a k ∧ a k ≤ 1) ∧ (∀ k, 0 ≤ e k ∧ e k ≤ 1) ∧ ((a 2 + a 3 == 1) == (f == 4)) = true ∧ (a 3 == e 7) = true ∧ ((a 4 == 1) == (f == 5)) = true ∧ (a 4 == e 8) = true ∧
    (a 9 + e 9 == a 10 + e 10) = true ∧ ((a 9 + e 9 == 1) == (f == 6)) = true ∧ ((a 1 + e 1 == 1) == decide (f ≤ 3)) = true ∧ (a 11 == e 11) = true ∧ ((a 11 == 1) == (f == 7)) = true ∧ (a 12 == e 12) = true ∧ ((a 12 == 1) == (f == 8)) = true := by
  have h1 : ∀ q k, 0 ≤ one q k ∧ one q k ≤ 1 := fun q k => by unfold one; split <;> omega
  have h0 : ∀ k, 0 ≤ nought k ∧ nought k ≤ 1 := fun k => by unfold nought; omega
  cases h with
  | c1a _ h =>
    refine ⟨h1 _, h0, ?_⟩
    rcases h with rfl | rfl | rfl <;> decide
  | c1e _ h =>
    refine ⟨h0, h1 _, ?_⟩
    rcases h with rfl | rfl | rfl <;> decide
  | c4a => exact ⟨h1 _, h0, by decide⟩
  | _ => exact ⟨h1 _, h1 _, by decide⟩
section
variable {P : Program} {ops : Array Oper} {Q : Exit → Act → World → Prop} {a : Act} {w : World} {rest : List Oper} {o : Oper} {v : Value}
theorem list_take (hw : Region.wanted o (yielded ops a.tmps) = true) (hy : (execOp a.eval o).run P w = .ok (.value v) w) (h : wpList P ops Q rest (a.put o.dst v) w) : wpList P ops Q (o :: rest) a w :=
  wpList_step fun K hK => by rw [if_pos hw]; unfold Oper.wp; rw [hy]; exact hK _ _ h
theorem list_skip (hw : Region.wanted o (yielded ops a.tmps) = false) (h : wpList P ops Q rest (a.put o.dst undef) w) : wpList P ops Q (o :: rest) a w :=
  wpList_step fun K hK => by rw [if_neg (by rw [hw]; decide)]; exact hK _ _ h
end
set_option maxHeartbeats 16000000 in
theorem emitPairs_walk (i : Ins) (o : List Int) (pc off : Int) (w : World) (hi : i.Fits) (ho : o.length = 16) (h1 : -9223372036854775808 ≤ pc ∧ pc ≤ 9223372036854775807) (h2 : -9223372036854775808 ≤ off ∧ off ≤ 9223372036854775807) :
    Calls Try.prog 4 #[.agg #[.int .i64 i.op, .int .i64 i.d, .int .i64 i.a, .int .i64 i.b, .int .i64 i.imm], .agg (oV o).toArray, .int .i64 pc, .int .i64 off] w fun e w' => e = .returned (.bool true) ∧ Below w.heap.size w w' := by
  obtain ⟨W1, hW1⟩ : ∃ W1, W1 = w.alloc (.cells (insV i).toArray 23) := ⟨_, rfl⟩
  obtain ⟨W2, hW2⟩ : ∃ W2, W2 = W1.alloc (.cells (oV o).toArray 24) := ⟨_, rfl⟩
  have hz1 : W1.heap.size = w.heap.size + 1 := by rw [hW1]; simp
  have HK0 : Hid (Below w.heap.size w W2) := by rw [hW2, hW1]; exact ((Below.refl w.heap.size w).alloc (Nat.le_refl _) _).alloc (by simp) _
  have HX0 : Hid (Box W2 w.heap.size (insV i)) := by rw [hW2, hW1]; exact (Box.new w (insV i) _).alloc _
  have HY0 : Hid (Box W2 (w.heap.size + 1) (oV o)) := by rw [hW2, ← hz1]; exact Box.new W1 (oV o) _
  have HOL := Lib.hid ho
  clear hi ho h1 h2 hz1
  go_enter Try.func4, Try.ntmps4
  go_wp2_with fail
  change Calls _ _ _ ((w.alloc (.cells (insV i).toArray 23)).alloc (.cells (oV o).toArray 24)) _
  rw [← hW1, ← hW2]
  clear hW1 hW2
  refine (alive12_any _).mono ?_; rintro e w1 ⟨rfl, hb⟩
  have HK1 := Lib.hid (HK0.out.trans (hb.mono HK0.out.size))
  have HX1 := Lib.hid (HX0.out.below hb HX0.out.lt)
  have HY1 := Lib.hid (HY0.out.below hb HY0.out.lt)
  clear hb
  go_wp2_with (first
    | (refine wpList_load_box rfl 23 (.tmp 4) rfl w.heap.size 0 rfl (insV i) (insV i) HX1.out whole_at _ Try.underlying23 rfl 5 size_ins5 rfl ?_)
    | (refine wpList_load_box rfl 24 (.tmp 5) rfl (w.heap.size + 1) 0 rfl (oV o) (oV o) HY1.out whole_at _ Try.underlying24 rfl 16 (by kernel_rfl) ((oV_len o).trans HOL.out) ?_))
  refine (rightIns_any i _).mono ?_; rintro e w2 ⟨rfl, hb⟩
  have HK2 := Lib.hid (HK1.out.trans (hb.mono HK1.out.size))
  have HX2 := Lib.hid (HX1.out.below hb HX1.out.lt)
  have HY2 := Lib.hid (HY1.out.below hb HY1.out.lt)
  clear hb
  cases hr : rightB i
  · try dsimp only
    go_wp2_with fail
    go_ret
    exact ⟨by first | rfl | trivial, HK2.out⟩
  obtain ⟨fa, fe, hcase, hok⟩ := pairs_all HOL.out hr pc off
  have HC := Lib.hid hcase
  have HP := Lib.hid hok
  clear hr hcase hok
  try dsimp only
  go_wp2_with (first
    | (refine wpList_load_box rfl 23 (.tmp 4) rfl w.heap.size 0 rfl (insV i) (insV i) HX2.out whole_at _ Try.underlying23 rfl 5 size_ins5 rfl ?_)
    | (refine wpList_load_box rfl 24 (.tmp 5) rfl (w.heap.size + 1) 0 rfl (oV o) (oV o) HY2.out whole_at _ Try.underlying24 rfl 16 (by kernel_rfl) ((oV_len o).trans HOL.out) ?_))
  refine (emitA_any i o pc off _ HOL.out).mono ?_; rintro e w3 ⟨v, rfl, hr, hn, hb⟩
  obtain ⟨Aa, ca, rfl⟩ := hr.form
  have HA3 := Lib.hid hr
  have HK3 := Lib.hid (HK2.out.trans (hb.mono HK2.out.size))
  have HX3 := Lib.hid (HX2.out.below hb HX2.out.lt)
  have HY3 := Lib.hid (HY2.out.below hb HY2.out.lt)
  clear hr hn hb
  go_wp2_with (first
    | (refine wpList_load_box rfl 23 (.tmp 4) rfl w.heap.size 0 rfl (insV i) (insV i) HX3.out whole_at _ Try.underlying23 rfl 5 size_ins5 rfl ?_)
    | (refine wpList_load_box rfl 24 (.tmp 5) rfl (w.heap.size + 1) 0 rfl (oV o) (oV o) HY3.out whole_at _ Try.underlying24 rfl 16 (by kernel_rfl) ((oV_len o).trans HOL.out) ?_))
  refine (emitE_any i o pc off _ HOL.out).mono ?_; rintro e w4 ⟨v, rfl, hr, hn, hb⟩
  obtain ⟨Ae, ce, rfl⟩ := hr.form
  have HE4 := Lib.hid hr
  have HA4 := Lib.hid ((HA3.out.below hb).more hb.size)
  have HK4 := Lib.hid (HK3.out.trans (hb.mono HK3.out.size))
  have HX4 := Lib.hid (HX3.out.below hb HX3.out.lt)
  have HY4 := Lib.hid (HY3.out.below hb HY3.out.lt)
  clear hr hn hb HA3 HK3 HX3 HY3 HX2 HY2 HX1 HY1 HX0 HY0 HK0 HK1 HK2
  obtain ⟨la, hla⟩ : ∃ la, la = emitA (zeroed o) i pc off := ⟨_, rfl⟩
  obtain ⟨le, hle⟩ : ∃ le, le = emitE (zeroed o) i pc off := ⟨_, rfl⟩
  rw [← hla] at HA4 HP ⊢
  rw [← hle] at HE4 HP ⊢
  clear hla hle
  obtain ⟨na, hna⟩ : ∃ na, na = la.length := ⟨_, rfl⟩
  obtain ⟨nl, hnl⟩ : ∃ nl, nl = le.length := ⟨_, rfl⟩
  rw [← hna] at HA4 ⊢
  rw [← hnl] at HE4 ⊢
  have HNA := Lib.hid hna
  have HNE := Lib.hid hnl
  have ha3 : na ≤ 3 := by rw [hna]; exact HP.out.lenA
  have he3 : nl ≤ 3 := by rw [hnl]; exact HP.out.lenE
  clear hna hnl
  obtain ⟨W5, hW5⟩ : ∃ W5, W5 = w4.alloc (.cells (oV zero13).toArray 33) := ⟨_, rfl⟩
  obtain ⟨W6, hW6⟩ : ∃ W6, W6 = W5.alloc (.cells (oV zero13).toArray 33) := ⟨_, rfl⟩
  have hz5 : W5.heap.size = w4.heap.size + 1 := by rw [hW5]; simp
  have hz6 : W6.heap.size = w4.heap.size + 2 := by rw [hW6]; simp [hz5]
  have HK6 : Hid (Below w4.heap.size w4 W6) := by rw [hW6, hW5]; exact ((Below.refl _ _).alloc (Nat.le_refl _) _).alloc (by simp) _
  have HN6 : Hid (Box W6 w4.heap.size (oV zero13)) := by rw [hW6, hW5]; exact (Box.new w4 _ _).alloc _
  have HM6 : Hid (Box W6 (w4.heap.size + 1) (oV zero13)) := by rw [hW6, ← hz5]; exact Box.new W5 _ _
  have HA6 := Lib.hid (HA4.out.below HK6.out)
  have HE6 := Lib.hid (HE4.out.below HK6.out)
  have HX6 := Lib.hid (HX4.out.below HK6.out HX4.out.lt)
  have HY6 := Lib.hid (HY4.out.below HK6.out HY4.out.lt)
  have hX4l := HX4.out.lt
  have hY4l := HY4.out.lt
  have HXL : Hid (w.heap.size < w4.heap.size) := hX4l
  have HYL : Hid (w.heap.size + 1 < w4.heap.size) := hY4l
  have HZ6 : Hid (W6.heap.size = w4.heap.size + 2) := hz6
  obtain ⟨i0, hi, hq0, hq1, hq2⟩ := info_parts info_int
  have HI := Lib.hid hi
  have HQ0 := Lib.hid hq0
  have HQ1 := Lib.hid hq1
  have HQ2 := Lib.hid hq2
  clear hi hq0 hq1 hq2 HA4 HE4 hz5 hz6 hX4l hY4l
  go_upto_region 7 with (fail)
  change Code.wp _ _ _ _ ((w4.alloc (.cells (oV zero13).toArray 33)).alloc (.cells (oV zero13).toArray 33))
  rw [← hW5, ← hW6]
  clear hW5 hW6
  obtain ⟨bn, hbn⟩ : ∃ bn, bn = w4.heap.size := ⟨_, rfl⟩
  obtain ⟨bm, hbm⟩ : ∃ bm, bm = w4.heap.size + 1 := ⟨_, rfl⟩
  rw [← hbm] at HM6 ⊢
  rw [← hbn] at HN6 HA6 HE6 ⊢
  have HBN := Lib.hid hbn
  have HBM := Lib.hid hbm
  clear hbn hbm
  go_wp2_with fail
  go_loopw [14, 16] (fun vx ii wr => ∃ j : Nat, j ≤ na ∧ ii = .int .i64 j ∧ Box wr bn (oV (cntL (la.take j))) ∧ KeepS (fun q => q = bn) W6 wr ∧ wr.ownsRow W6.heap.size 3 1 vx (pickR 5 (la.take j)).length ((pickR 5 (la.take j)).map (Value.int .i64))) (fun _ ii _ => na - (intOf ii).toNat)
  case atStart => exact ⟨0, Nat.zero_le _, rfl, by rw [List.take_zero, cntL_nil]; exact HN6.out, KeepS.refl _ _, World.ownsRow_nil _ _ _ _⟩
  case round =>
    obtain ⟨j, hj, rfl, hbx, hkp, hO⟩ := hrel
    obtain ⟨A2, c2, rfl⟩ := (Row.of_own hO).form
    have HBX := Lib.hid hbx
    have HKP := Lib.hid hkp
    have HO := Lib.hid hO
    have hbl := hbx.lt
    have HBL : Hid (bn < wr.heap.size) := hbl
    clear hbx hkp hO hbl
    by_cases hlt : j < na
    · have hl : j < la.length := by rw [← HNA.out]; exact hlt
      obtain ⟨x, hx⟩ := at_someG hl
      have hin := HP.out.inA x (List.mem_of_getElem? hx)
      have HRr := Lib.hid (HA6.out.keepS HKP.out (by have h1 := HBN.out; have h2 := HZ6.out; omega) (fun k e => by have h1 := HBN.out; have h2 := HBM.out; omega))
      obtain ⟨g, f, rfl, hg, _⟩ := HRr.out.at_ (by omega)
      obtain ⟨a0, a1, a2, a3, a4, a5, a6, a7, a8⟩ := HRr.out.cel hx
      obtain ⟨m, hm⟩ : ∃ m : Nat, x.kind = m := ⟨x.kind.toNat, by omega⟩
      have hm1 : 1 ≤ m := by omega
      have hm12 : m ≤ 12 := by omega
      have HST := Lib.hid (cntL_step hx hm (by omega))
      have HPK := Lib.hid (pick_step 5 hx)
      rw [hm] at a0 HPK
      rw [hin.2.1] at a7
      rw [hin.2.2] at a8
      have cn : wr.cell? ⟨bn, m, none⟩ = some (.int .i64 (cntK m (la.take j))) := HBX.out.cell (oV_get (cntL_at _ (by omega)))
      have fn : wr.frozen? ⟨bn, m, none⟩ = false := HBX.out.frozen m
      have hcn := cntK_nat (m : Int) (la.take j)
      have hcl : (la.take j).length ≤ 3 := by simp; omega
      have hgn : g ≠ bn := by have h1 := HBN.out; have h2 := HBM.out; omega
      have HPL : Hid ((pickR 5 (la.take j)).length ≤ 3) := Nat.le_trans (pick_len _ _) hcl
      obtain ⟨C, hC⟩ : ∃ C, C = cntK m (la.take j) := ⟨_, rfl⟩
      rw [← hC] at cn hcn HST
      obtain ⟨p, hp⟩ : ∃ p, p = (pickR 5 (la.take j)).length := ⟨_, rfl⟩
      rw [← hp] at HO HPL ⊢
      have HPP := Lib.hid hp
      have hp3 : p ≤ 3 := HPL.out
      have hC0 : 0 ≤ C := hcn.1
      have hC3 : C ≤ 100 := by omega
      have HCAP := Lib.hid (Row.of_own HO.out).cap
      have HNX : Hid (Box (wr.setCell ⟨bn, m, none⟩ (.int .i64 (C + 1))) bn (oV (cntL (la.take (j + 1))))) := by
        have := HBX.out.setCell m (.int .i64 (C + 1)); rw [oV_set] at this; rw [HST.out]; exact this
      have HKX : Hid (KeepS (fun q => q = bn) W6 (wr.setCell ⟨bn, m, none⟩ (.int .i64 (C + 1)))) := HKP.out.setCell rfl m _
      have HON : Hid ((wr.setCell ⟨bn, m, none⟩ (.int .i64 (C + 1))).ownsRow W6.heap.size 3 1 (.slice A2 p c2) p ((pickR 5 (la.take j)).map (Value.int .i64))) :=
        ownsRow_setCell_other HO.out (fun e => by have h1 : W6.heap.size ≤ bn := (HO.out.lt _ e).1; have h2 := HBN.out; have h3 := HBM.out; have h4 := HZ6.out; omega) _
      have hq1 : (1 : Int) ≤ m := by omega
      have hq2 : (m : Int) ≤ 12 := by omega
      have k0 : (0 : Int) ≤ j := by omega
      have k1 : (j : Int) < na := by omega
      have HSZ : Hid ((wr.setCell ⟨bn, m, none⟩ (.int .i64 (C + 1))).heap.size = wr.heap.size) := by show _ = _; simp [World.setCell]
      have HWS := Lib.hid HKP.out.size
      clear hx hin hm hcn hcl hC hp hl
      by_cases h5 : m = 5
      · subst h5
        rw [if_pos (by rfl)] at HPK
        go_wp2_with (at_builtin; refine wpList_append_own _ rfl (.tmp 93) (.tmp 99) 34 rfl W6.heap.size 3 i0 (.int .i64 0) 1 8 Try.underlying34 HI.out HQ0.out HQ1.out HQ2.out rfl (by omega) (.slice A2 p c2) p ((pickR 5 (la.take j)).map (Value.int .i64)) rfl (HON.out.alloc _) ⟨wr.heap.size, 0, none⟩ 1 1 [.int .i64 x.reg] rfl rfl (by rw [← HSZ.out]; exact new_cells (wr.setCell ⟨bn, 5, none⟩ (.int .i64 (C + 1))) _ _ _ rfl) (one_int _) (by unfold maxLen; omega) (by omega) (by have := HWS.out; simp; omega) ?_; intro v3 w9 hown3 hg3 _)
        have HO3 := Lib.hid hown3
        have HK9 : Hid (KeepS (fun q => q = bn) W6 w9) := (HKX.out.alloc _).on (KeepS.of_grown (S := fun q => (Value.slice A2 p c2).ownBlock = some q) hg3 (fun q e => e)) (fun q e => .inr (HON.out.lt q e).1)
        have HB9 : Hid (Box w9 bn (oV (cntL (la.take (j + 1))))) := (HNX.out.alloc _).grown hg3 (fun e => by have h1 := (HON.out.lt _ e.symm).1; have h2 := HBN.out; have h3 := HBM.out; have h4 := HZ6.out; omega)
        clear hown3 hg3
        go_wp2_with fail
        go_roundw
        case rel => exact ⟨j + 1, by omega, by go_num, HB9.out, HK9.out, by rw [HPK.out, List.length_append, ← HPP.out, List.map_append]; exact HO3.out⟩
        case measure => simp only [intOf]; omega
      · rw [if_neg (by omega), List.append_nil] at HPK
        have q5 : ((m : Int) == 5) = false := by simp; omega
        go_wp2_with fail
        go_roundw
        case rel => exact ⟨j + 1, by omega, by go_num, HNX.out, HKX.out, by rw [HPK.out, ← HPP.out]; exact HON.out⟩
        case measure => simp only [intOf]; omega
    · have HT := Lib.hid (show la.take j = la from List.take_of_length_le (by rw [← HNA.out]; omega))
      rw [HT.out] at HBX HO ⊢
      obtain ⟨W7, hW7⟩ : ∃ W7, W7 = wr := ⟨_, rfl⟩
      rw [← hW7] at HBX HKP HO ⊢
      clear hW7
      have HN7 := HBX
      have HK7 := HKP
      have HV7 := HO
      obtain ⟨px, hpx⟩ : ∃ px, px = (pickR 5 la).length := ⟨_, rfl⟩
      rw [← hpx] at HV7 ⊢
      have HPX := Lib.hid hpx
      have hpx3 : px ≤ 3 := by rw [hpx]; exact Nat.le_trans (pick_len _ _) HP.out.lenA
      have HXF : Hid (∃ A c, Value.slice A2 (pickR 5 la).length c2 = .slice A px c) := ⟨A2, c2, by rw [hpx]⟩
      clear hpx HBX HKP HO HBL HT
      have HM7 := Lib.hid (HM6.out.keepS HK7.out (by have h1 := HBN.out; have h2 := HBM.out; omega))
      have HE7 := Lib.hid (HE6.out.keepS HK7.out (by have h1 := HBN.out; have h2 := HZ6.out; omega) (fun k e => by omega))
      have HX7 := Lib.hid (HX6.out.keepS HK7.out (by have h1 := HBN.out; have h2 := HXL.out; omega))
      have HY7 := Lib.hid (HY6.out.keepS HK7.out (by have h1 := HBN.out; have h2 := HYL.out; omega))
      have HZ7 : Hid (w4.heap.size + 2 ≤ W7.heap.size) := by have h1 := HK7.out.size; have h2 := HZ6.out; show _ ≤ _; omega
      go_wp2_with fail
      clear hlt hj
      go_loopw [15, 17] (fun vx ii wr => ∃ j : Nat, j ≤ nl ∧ ii = .int .i64 j ∧ Box wr bm (oV (cntL (le.take j))) ∧ KeepS (fun q => q = bm) W7 wr ∧ wr.ownsRow W7.heap.size 3 1 vx (pickR 6 (le.take j)).length ((pickR 6 (le.take j)).map (Value.int .i64))) (fun _ ii _ => nl - (intOf ii).toNat)
      case atStart => exact ⟨0, Nat.zero_le _, rfl, by rw [List.take_zero, cntL_nil]; exact HM7.out, KeepS.refl _ _, World.ownsRow_nil _ _ _ _⟩
      case round =>
        obtain ⟨j, hj, rfl, hbx, hkp, hO⟩ := hrel
        obtain ⟨A3, c3, rfl⟩ := (Row.of_own hO).form
        have HBX := Lib.hid hbx
        have HKP := Lib.hid hkp
        have HO := Lib.hid hO
        have hbl := hbx.lt
        have HBL : Hid (bm < wr.heap.size) := hbl
        clear hbx hkp hO hbl
        by_cases hlt : j < nl
        · have hl : j < le.length := by rw [← HNE.out]; exact hlt
          obtain ⟨x, hx⟩ := at_someG hl
          have hin := HP.out.inE x (List.mem_of_getElem? hx)
          have HRr := Lib.hid (HE7.out.keepS HKP.out (by have h1 := HBN.out; have h2 := HZ7.out; omega) (fun k e => by have h1 := HBN.out; have h2 := HBM.out; omega))
          obtain ⟨g, f, rfl, hg, _⟩ := HRr.out.at_ (by omega)
          obtain ⟨a0, a1, a2, a3, a4, a5, a6, a7, a8⟩ := HRr.out.cel hx
          obtain ⟨m, hm⟩ : ∃ m : Nat, x.kind = m := ⟨x.kind.toNat, by omega⟩
          have hm1 : 1 ≤ m := by omega
          have hm12 : m ≤ 12 := by omega
          have HST := Lib.hid (cntL_step hx hm (by omega))
          have HPK := Lib.hid (pick_step 6 hx)
          rw [hm] at a0 HPK
          rw [hin.2.1] at a7
          rw [hin.2.2] at a8
          have cn : wr.cell? ⟨bm, m, none⟩ = some (.int .i64 (cntK m (le.take j))) := HBX.out.cell (oV_get (cntL_at _ (by omega)))
          have fn : wr.frozen? ⟨bm, m, none⟩ = false := HBX.out.frozen m
          have hcn := cntK_nat (m : Int) (le.take j)
          have hcl : (le.take j).length ≤ 3 := by simp; omega
          have hgn : g ≠ bm := by have h1 := HBN.out; have h2 := HBM.out; omega
          have HPL : Hid ((pickR 6 (le.take j)).length ≤ 3) := Nat.le_trans (pick_len _ _) hcl
          obtain ⟨C, hC⟩ : ∃ C, C = cntK m (le.take j) := ⟨_, rfl⟩
          rw [← hC] at cn hcn HST
          obtain ⟨p, hp⟩ : ∃ p, p = (pickR 6 (le.take j)).length := ⟨_, rfl⟩
          rw [← hp] at HO HPL ⊢
          have HPP := Lib.hid hp
          have hp3 : p ≤ 3 := HPL.out
          have hC0 : 0 ≤ C := hcn.1
          have hC3 : C ≤ 100 := by omega
          have HCAP := Lib.hid (Row.of_own HO.out).cap
          have HNX : Hid (Box (wr.setCell ⟨bm, m, none⟩ (.int .i64 (C + 1))) bm (oV (cntL (le.take (j + 1))))) := by
            have := HBX.out.setCell m (.int .i64 (C + 1)); rw [oV_set] at this; rw [HST.out]; exact this
          have HKX : Hid (KeepS (fun q => q = bm) W7 (wr.setCell ⟨bm, m, none⟩ (.int .i64 (C + 1)))) := HKP.out.setCell rfl m _
          have HON : Hid ((wr.setCell ⟨bm, m, none⟩ (.int .i64 (C + 1))).ownsRow W7.heap.size 3 1 (.slice A3 p c3) p ((pickR 6 (le.take j)).map (Value.int .i64))) :=
            ownsRow_setCell_other HO.out (fun e => by have h1 : W7.heap.size ≤ bm := (HO.out.lt _ e).1; have h2 := HBN.out; have h3 := HBM.out; have h4 := HZ7.out; omega) _
          have hq1 : (1 : Int) ≤ m := by omega
          have hq2 : (m : Int) ≤ 12 := by omega
          have k0 : (0 : Int) ≤ j := by omega
          have k1 : (j : Int) < nl := by omega
          have HSZ : Hid ((wr.setCell ⟨bm, m, none⟩ (.int .i64 (C + 1))).heap.size = wr.heap.size) := by show _ = _; simp [World.setCell]
          have HWS := Lib.hid HKP.out.size
          clear hx hin hm hcn hcl hC hp hl
          by_cases h5 : m = 6
          · subst h5
            rw [if_pos (by rfl)] at HPK
            go_wp2_with (at_builtin; refine wpList_append_own _ rfl (.tmp 154) (.tmp 160) 34 rfl W7.heap.size 3 i0 (.int .i64 0) 1 8 Try.underlying34 HI.out HQ0.out HQ1.out HQ2.out rfl (by omega) (.slice A3 p c3) p ((pickR 6 (le.take j)).map (Value.int .i64)) rfl (HON.out.alloc _) ⟨wr.heap.size, 0, none⟩ 1 1 [.int .i64 x.reg] rfl rfl (by rw [← HSZ.out]; exact new_cells (wr.setCell ⟨bm, 6, none⟩ (.int .i64 (C + 1))) _ _ _ rfl) (one_int _) (by unfold maxLen; omega) (by omega) (by have := HWS.out; simp; omega) ?_; intro v3 w9 hown3 hg3 _)
            have HO3 := Lib.hid hown3
            have HK9 : Hid (KeepS (fun q => q = bm) W7 w9) := (HKX.out.alloc _).on (KeepS.of_grown (S := fun q => (Value.slice A3 p c3).ownBlock = some q) hg3 (fun q e => e)) (fun q e => .inr (HON.out.lt q e).1)
            have HB9 : Hid (Box w9 bm (oV (cntL (le.take (j + 1))))) := (HNX.out.alloc _).grown hg3 (fun e => by have h1 := (HON.out.lt _ e.symm).1; have h2 := HBN.out; have h3 := HBM.out; have h4 := HZ7.out; omega)
            clear hown3 hg3
            go_wp2_with fail
            go_roundw
            case rel => exact ⟨j + 1, by omega, by go_num, HB9.out, HK9.out, by rw [HPK.out, List.length_append, ← HPP.out, List.map_append]; exact HO3.out⟩
            case measure => simp only [intOf]; omega
          · rw [if_neg (by omega), List.append_nil] at HPK
            have q5 : ((m : Int) == 6) = false := by simp; omega
            go_wp2_with fail
            go_roundw
            case rel => exact ⟨j + 1, by omega, by go_num, HNX.out, HKX.out, by rw [HPK.out, ← HPP.out]; exact HON.out⟩
            case measure => simp only [intOf]; omega
        · have HT := Lib.hid (show le.take j = le from List.take_of_length_le (by rw [← HNE.out]; omega))
          rw [HT.out] at HBX HO ⊢
          obtain ⟨W8, hW8⟩ : ∃ W8, W8 = wr := ⟨_, rfl⟩
          rw [← hW8] at HBX HKP HO ⊢
          clear hW8
          have HM8 := HBX
          have HK8 := HKP
          have HN8 := Lib.hid (HN7.out.keepS HK8.out (by have h1 := HBN.out; have h2 := HBM.out; omega))
          have HX8 := Lib.hid (HX7.out.keepS HK8.out (by have h1 := HBM.out; have h2 := HXL.out; omega))
          have HY8 := Lib.hid (HY7.out.keepS HK8.out (by have h1 := HBM.out; have h2 := HYL.out; omega))
          have HVX : Hid (Row W8 W8.heap.size 1 (.slice A2 px c2) px ((pickR 5 la).map (Value.int .i64))) := Row.of_own (own_keepS HV7.out HK8.out (fun g hg e => by have h1 := (HV7.out.lt g hg).1; have h2 := HZ6.out; have h3 := HBM.out; omega))
          have HEQ : Hid ((pickR 6 le).length = px) := by show _ = _; rw [← HP.out.same]; exact HPX.out.symm
          rw [HEQ.out] at HO ⊢
          have HVY : Hid (Row W8 W8.heap.size 1 (.slice A3 px c3) px ((pickR 5 la).map (Value.int .i64))) := by rw [HP.out.same]; exact Row.of_own HO.out
          have HKW : Hid (Below w.heap.size w W8) := by
            have h1 := HK4.out.trans (HK6.out.mono HK4.out.size)
            have h2 := h1.trans (HK7.out.below h1.size (fun k e => by have h1 := HBN.out; have h2 := HXL.out; omega))
            exact h2.trans (HK8.out.below h2.size (fun k e => by have h1 := HBM.out; have h2 := HXL.out; omega))
          clear HBX HKP HO HBL HT
          go_wp2_with fail
          clear hlt hj
          go_loopw [18] (fun ii wr => ∃ j m : Nat, j ≤ px ∧ ii = .int .i64 j ∧ wr = W8.drewN m) (fun ii _ => px - (intOf ii).toNat)
          case atStart => exact ⟨0, 0, Nat.zero_le _, rfl, rfl⟩
          case round =>
            obtain ⟨j, m, hj, rfl, rfl⟩ := hrel
            by_cases hlt : j < px
            · have hl : j < (pickR 5 la).length := by rw [← HPX.out]; exact hlt
              obtain ⟨b1, o1, rfl, hb1, hc1⟩ := HVX.out.at_ (by omega)
              obtain ⟨b2, o2, rfl, hb2, hc2⟩ := HVY.out.at_ (by omega)
              have d1 := hc1 j _ (ints_get hl)
              have d2 := hc2 j _ (ints_get hl)
              have hon := HP.out.onA _ (getD_mem hl)
              obtain ⟨r, hre⟩ : ∃ r, r = (pickR 5 la).getD j 0 := ⟨_, rfl⟩
              rw [← hre] at d1 d2 hon
              obtain ⟨rn, hrn, hr15⟩ := nat_of ⟨hon.2.1, hon.2.2⟩
              have hoo : atO o rn = 1 := by
                have h1 := hon.1
                rw [zeroed_at HOL.out hon.2.1 hon.2.2, hrn] at h1
                unfold ownedZ at h1
                split at h1
                · omega
                · exact h1
              have d3 : W8.cell? ⟨w.heap.size + 1, rn, none⟩ = some (.int .i64 1) := by have := HY8.out.cell (oV_at HOL.out hr15); rwa [hoo] at this
              rw [hrn] at d1 d2
              have k0 : (0 : Int) ≤ j := by omega
              have k1 : (j : Int) < px := by omega
              have k2 : (rn : Int) ≤ 15 := by omega
              clear hc1 hc2 hon hre hl hoo hrn
              go_wp2_with fail
              go_quiet (fail)
              go_wp2_with fail
              go_roundw
              case rel => exact ⟨j + 1, _, by omega, by go_num, rfl⟩
              case measure => simp only [intOf]; omega
            · have cop : W8.cell? ⟨w.heap.size, 0, none⟩ = some (.int .i64 i.op) := HX8.out.cell (k := 0) rfl
              go_wp2_with fail
              refine (refForm_any _ _).mono ?_; rintro e w9 ⟨rfl, rfl⟩
              have HBn := Lib.hid (fun (k : Nat) (h : k < 13) => HN8.out.cell (oV_get (cntL_at la h)))
              have HBm := Lib.hid (fun (k : Nat) (h : k < 13) => HM8.out.cell (oV_get (cntL_at le h)))
              have hF := pair_facts HC.out
              clear HC cop
              generalize formZ i.op = ff at *
              try dsimp only
              have n1 : W8.cell? ⟨bn, 1, none⟩ = some (.int .i64 (fa 1)) := (HBn.out 1 (by omega)).trans (congrArg (fun t => some (Value.int .i64 t)) (HP.out.cA 1 (by omega)))
              have n2 : W8.cell? ⟨bn, 2, none⟩ = some (.int .i64 (fa 2)) := (HBn.out 2 (by omega)).trans (congrArg (fun t => some (Value.int .i64 t)) (HP.out.cA 2 (by omega)))
              have n3 : W8.cell? ⟨bn, 3, none⟩ = some (.int .i64 (fa 3)) := (HBn.out 3 (by omega)).trans (congrArg (fun t => some (Value.int .i64 t)) (HP.out.cA 3 (by omega)))
              have n4 : W8.cell? ⟨bn, 4, none⟩ = some (.int .i64 (fa 4)) := (HBn.out 4 (by omega)).trans (congrArg (fun t => some (Value.int .i64 t)) (HP.out.cA 4 (by omega)))
              have n9 : W8.cell? ⟨bn, 9, none⟩ = some (.int .i64 (fa 9)) := (HBn.out 9 (by omega)).trans (congrArg (fun t => some (Value.int .i64 t)) (HP.out.cA 9 (by omega)))
              have n10 : W8.cell? ⟨bn, 10, none⟩ = some (.int .i64 (fa 10)) := (HBn.out 10 (by omega)).trans (congrArg (fun t => some (Value.int .i64 t)) (HP.out.cA 10 (by omega)))
              have n11 : W8.cell? ⟨bn, 11, none⟩ = some (.int .i64 (fa 11)) := (HBn.out 11 (by omega)).trans (congrArg (fun t => some (Value.int .i64 t)) (HP.out.cA 11 (by omega)))
              have n12 : W8.cell? ⟨bn, 12, none⟩ = some (.int .i64 (fa 12)) := (HBn.out 12 (by omega)).trans (congrArg (fun t => some (Value.int .i64 t)) (HP.out.cA 12 (by omega)))
              have m1 : W8.cell? ⟨bm, 1, none⟩ = some (.int .i64 (fe 1)) := (HBm.out 1 (by omega)).trans (congrArg (fun t => some (Value.int .i64 t)) (HP.out.cE 1 (by omega)))
              have m7 : W8.cell? ⟨bm, 7, none⟩ = some (.int .i64 (fe 7)) := (HBm.out 7 (by omega)).trans (congrArg (fun t => some (Value.int .i64 t)) (HP.out.cE 7 (by omega)))
              have m8 : W8.cell? ⟨bm, 8, none⟩ = some (.int .i64 (fe 8)) := (HBm.out 8 (by omega)).trans (congrArg (fun t => some (Value.int .i64 t)) (HP.out.cE 8 (by omega)))
              have m9 : W8.cell? ⟨bm, 9, none⟩ = some (.int .i64 (fe 9)) := (HBm.out 9 (by omega)).trans (congrArg (fun t => some (Value.int .i64 t)) (HP.out.cE 9 (by omega)))
              have m10 : W8.cell? ⟨bm, 10, none⟩ = some (.int .i64 (fe 10)) := (HBm.out 10 (by omega)).trans (congrArg (fun t => some (Value.int .i64 t)) (HP.out.cE 10 (by omega)))
              have m11 : W8.cell? ⟨bm, 11, none⟩ = some (.int .i64 (fe 11)) := (HBm.out 11 (by omega)).trans (congrArg (fun t => some (Value.int .i64 t)) (HP.out.cE 11 (by omega)))
              have m12 : W8.cell? ⟨bm, 12, none⟩ = some (.int .i64 (fe 12)) := (HBm.out 12 (by omega)).trans (congrArg (fun t => some (Value.int .i64 t)) (HP.out.cE 12 (by omega)))
              obtain ⟨hab, heb, F1, F2, F3, F4, F5, F6, F7, F8, F9, F10, F11⟩ := hF
              have w1' : IntKind.i64.wrap (fa 2 + fa 3) = fa 2 + fa 3 := IntWalk.i64_in _ (by have := hab 2; have := hab 3; omega)
              have w2' : IntKind.i64.wrap (fa 9 + fe 9) = fa 9 + fe 9 := IntWalk.i64_in _ (by have := hab 9; have := heb 9; omega)
              have w3' : IntKind.i64.wrap (fa 10 + fe 10) = fa 10 + fe 10 := IntWalk.i64_in _ (by have := hab 10; have := heb 10; omega)
              have w4' : IntKind.i64.wrap (fa 1 + fe 1) = fa 1 + fe 1 := IntWalk.i64_in _ (by have := hab 1; have := heb 1; omega)
              have W1' := Lib.hid w1'
              have W2' := Lib.hid w2'
              have W3' := Lib.hid w3'
              have W4' := Lib.hid w4'
              have G1 := Lib.hid F1
              have G2 := Lib.hid F2
              have G3 := Lib.hid F3
              have G4 := Lib.hid F4
              have G5 := Lib.hid F5
              have G6 := Lib.hid F6
              have G7 := Lib.hid F7
              have G8 := Lib.hid F8
              have G9 := Lib.hid F9
              have G10 := Lib.hid F10
              have G11 := Lib.hid F11
              clear hab heb w1' w2' w3' w4' F1 F2 F3 F4 F5 F6 F7 F8 F9 F10 F11
              go_upto_region 32 with (fail)
              refine wp_region_list ?_
              iterate 5 (refine list_take (v := ?_) (by rfl) ?_ ?_; rotate_left; (go_simp; try (with_reducible rfl)); (try simp only [Act.put, List.setIfInBounds_toArray, List.set_cons_zero, List.set_cons_succ]))
              try rw [W1'.out]
              iterate 1 (refine list_take (v := ?_) (by rfl) ?_ ?_; rotate_left; (go_simp; try (with_reducible rfl)); (try simp only [Act.put, List.setIfInBounds_toArray, List.set_cons_zero, List.set_cons_succ]))
              go_upto_region 33 with (fail)
              refine wp_region_list ?_
              iterate 5 (refine list_take (v := ?_) (by rfl) ?_ ?_; rotate_left; (go_simp; try (with_reducible rfl)); (try simp only [Act.put, List.setIfInBounds_toArray, List.set_cons_zero, List.set_cons_succ]))
              rw [G1.out]
              iterate 6 (refine list_take (v := ?_) (by rfl) ?_ ?_; rotate_left; (go_simp; try (with_reducible rfl)); (try simp only [Act.put, List.setIfInBounds_toArray, List.set_cons_zero, List.set_cons_succ]))
              rw [G2.out]
              iterate 8 (refine list_take (v := ?_) (by rfl) ?_ ?_; rotate_left; (go_simp; try (with_reducible rfl)); (try simp only [Act.put, List.setIfInBounds_toArray, List.set_cons_zero, List.set_cons_succ]))
              rw [G3.out]
              iterate 7 (refine list_take (v := ?_) (by rfl) ?_ ?_; rotate_left; (go_simp; try (with_reducible rfl)); (try simp only [Act.put, List.setIfInBounds_toArray, List.set_cons_zero, List.set_cons_succ]))
              rw [G4.out]
              iterate 7 (refine list_take (v := ?_) (by rfl) ?_ ?_; rotate_left; (go_simp; try (with_reducible rfl)); (try simp only [Act.put, List.setIfInBounds_toArray, List.set_cons_zero, List.set_cons_succ]))
              rw [W2'.out]
              iterate 5 (refine list_take (v := ?_) (by rfl) ?_ ?_; rotate_left; (go_simp; try (with_reducible rfl)); (try simp only [Act.put, List.setIfInBounds_toArray, List.set_cons_zero, List.set_cons_succ]))
              rw [W3'.out]
              iterate 1 (refine list_take (v := ?_) (by rfl) ?_ ?_; rotate_left; (go_simp; try (with_reducible rfl)); (try simp only [Act.put, List.setIfInBounds_toArray, List.set_cons_zero, List.set_cons_succ]))
              rw [G5.out]
              iterate 7 (refine list_take (v := ?_) (by rfl) ?_ ?_; rotate_left; (go_simp; try (with_reducible rfl)); (try simp only [Act.put, List.setIfInBounds_toArray, List.set_cons_zero, List.set_cons_succ]))
              rw [W2'.out]
              iterate 4 (refine list_take (v := ?_) (by rfl) ?_ ?_; rotate_left; (go_simp; try (with_reducible rfl)); (try simp only [Act.put, List.setIfInBounds_toArray, List.set_cons_zero, List.set_cons_succ]))
              rw [G6.out]
              iterate 7 (refine list_take (v := ?_) (by rfl) ?_ ?_; rotate_left; (go_simp; try (with_reducible rfl)); (try simp only [Act.put, List.setIfInBounds_toArray, List.set_cons_zero, List.set_cons_succ]))
              rw [W4'.out]
              iterate 4 (refine list_take (v := ?_) (by rfl) ?_ ?_; rotate_left; (go_simp; try (with_reducible rfl)); (try simp only [Act.put, List.setIfInBounds_toArray, List.set_cons_zero, List.set_cons_succ]))
              rw [G7.out]
              iterate 7 (refine list_take (v := ?_) (by rfl) ?_ ?_; rotate_left; (go_simp; try (with_reducible rfl)); (try simp only [Act.put, List.setIfInBounds_toArray, List.set_cons_zero, List.set_cons_succ]))
              rw [G8.out]
              iterate 8 (refine list_take (v := ?_) (by rfl) ?_ ?_; rotate_left; (go_simp; try (with_reducible rfl)); (try simp only [Act.put, List.setIfInBounds_toArray, List.set_cons_zero, List.set_cons_succ]))
              rw [G9.out]
              iterate 7 (refine list_take (v := ?_) (by rfl) ?_ ?_; rotate_left; (go_simp; try (with_reducible rfl)); (try simp only [Act.put, List.setIfInBounds_toArray, List.set_cons_zero, List.set_cons_succ]))
              rw [G10.out]
              iterate 8 (refine list_take (v := ?_) (by rfl) ?_ ?_; rotate_left; (go_simp; try (with_reducible rfl)); (try simp only [Act.put, List.setIfInBounds_toArray, List.set_cons_zero, List.set_cons_succ]))
              rw [G11.out]
              iterate 2 (refine list_take (v := ?_) (by rfl) ?_ ?_; rotate_left; (go_simp; try (with_reducible rfl)); (try simp only [Act.put, List.setIfInBounds_toArray, List.set_cons_zero, List.set_cons_succ]))
              go_wp2_with fail
              go_ret
              exact ⟨by first | rfl | trivial, Below.drewN_ HKW.out _⟩

end Go.Proofs.Ytcaibahniheohaa.Words

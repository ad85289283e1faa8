/- Several texts in one: OnrRefOwner, SplOf, RefSameSpl, SplSame, SplEqF, SplSameAny, SplAlive. -/
import Derived.Test.YtbibfpopkcekdaaG11
import Derived.Test.YtbibfpopkcekdaaG02
import Derived.Test.YtbibfpopkcekdaaG04
import Derived.Test.YtbibfpopkcekdaaG10
import Derived.Test.YtbibfpopkcekdaaG07
import Derived.LoopTactic
import Derived.LoopN

/- Contract of the document's own Owner: seventeen rounds. -/
namespace Go.Proofs.Ytbibfpopkcekdaa.Words
set_option maxRecDepth 100000
open Go.RowKit
set_option linter.unusedVariables false
set_option linter.unusedSimpArgs false

/-- What stands while the document's code is gone through. -/
structure RnS (w0 wr : World) (b : Nat) (o : List Int) : Prop where
  below : Below b w0 wr
  box : Box wr b (oV o)
  ok : OkO o
theorem RnS.to {w0 wr x : World} {b : Nat} {o : List Int} (h : RnS w0 wr b o) (hb : Below wr.heap.size wr x) : RnS w0 x b o :=
  ⟨h.below.trans (hb.mono (by have := h.box.lt; omega)), h.box.below hb h.box.lt, h.ok⟩
theorem RnS.put {w0 wr : World} {b : Nat} {o : List Int} (h : RnS w0 wr b o) {r : Nat} (h1 : 1 ≤ r) (hr : r ≤ 15) : RnS w0 (wr.setCell ⟨b, r, none⟩ (.int .i64 1)) b (setA o r) :=
  ⟨h.below.setCell (p := ⟨b, r, none⟩) (Nat.le_refl _) _, by have := h.box.setCell r (.int .i64 1); rwa [oV_set] at this, by rw [set_put h.ok ⟨by omega, by omega⟩]; exact putA_ok h.ok ⟨by omega, by omega⟩⟩
theorem stepR_mem {o : List Int} {i : Ins} (hm : formZ i.op = 4 ∨ formZ i.op = 5) : stepR o i = if 0 < i.a then setA o i.a else o := by unfold stepR; rw [if_pos (show memB i.op = true from decide_eq_true hm)]
theorem stepR_rec {o : List Int} {i : Ins} (h1 : 1 ≤ formZ i.op) (h3 : formZ i.op ≤ 3) : stepR o i = if 0 < i.d ∧ atO o i.d = 1 then (readsZ i).foldl setA o else o := by
  unfold stepR
  rw [if_neg (by unfold memB; rw [decide_eq_true_eq]; omega)]
  have : recB i.op = true := decide_eq_true ⟨h1, h3⟩
  simp only [this, true_and]
theorem stepR_no {o : List Int} {i : Ins} (h : 6 ≤ formZ i.op) : stepR o i = o := by
  unfold stepR
  rw [if_neg (by unfold memB; rw [decide_eq_true_eq]; omega), if_neg (by unfold recB; rw [decide_eq_true_eq]; omega)]

set_option maxHeartbeats 16000000 in
theorem refOwner_any (A : Option Addr) (c : Nat) (sz : Int) (A' : Option Addr) (m c' : Nat) (l : List Ins) (w : World) (hr : Row w w.heap.size 5 (.slice A l.length c) l.length (codeCells l)) (hm : m ≤ c') (hc' : c' ≤ 9223372036854775807) :
    Calls Try.prog 22 #[.agg #[.slice A l.length c, .int .i64 sz, .slice A' m c']] w fun e w' => e = .returned (.agg (oV (ofZ l sz m)).toArray) ∧ Below w.heap.size w w' := by
  obtain ⟨W1, hW1⟩ : ∃ W1, W1 = w.alloc (.cells #[.slice A l.length c, .int .i64 sz, .slice A' m c'] 25) := ⟨_, rfl⟩
  obtain ⟨W2, hW2⟩ : ∃ W2, W2 = W1.alloc (.cells #[.int .i64 0, .int .i64 0, .int .i64 0, .int .i64 0, .int .i64 0, .int .i64 0, .int .i64 0, .int .i64 0, .int .i64 0, .int .i64 0, .int .i64 0, .int .i64 0, .int .i64 0, .int .i64 0, .int .i64 0, .int .i64 0] 26) := ⟨_, rfl⟩
  obtain ⟨W3, hW3⟩ : ∃ W3, W3 = W2.alloc (.cells #[.int .i64 0, .int .i64 0, .int .i64 0, .int .i64 0, .int .i64 0, .int .i64 0, .int .i64 0, .int .i64 0, .int .i64 0, .int .i64 0, .int .i64 0, .int .i64 0, .int .i64 0, .int .i64 0, .int .i64 0, .int .i64 0] 26) := ⟨_, rfl⟩
  have hz1 : W1.heap.size = w.heap.size + 1 := by rw [hW1]; simp
  have hz2 : W2.heap.size = w.heap.size + 2 := by rw [hW2]; simp [hz1]
  have hz3 : W3.heap.size = w.heap.size + 3 := by rw [hW3]; simp [hz2]
  have hK : Below w.heap.size w W3 := by rw [hW3, hW2, hW1]; exact (((Below.refl w.heap.size w).alloc (Nat.le_refl _) _).alloc (by simp) _).alloc (by simp; omega) _
  have HB0 : Box W3 (w.heap.size + 1) (oV zeroO) := by rw [hW3]; refine Box.alloc ?_ _; rw [hW2, ← hz1]; exact Box.new W1 (oV zeroO) _
  have HX0 : Box W3 (w.heap.size + 2) (oV zeroO) := by rw [hW3, ← hz2]; exact Box.new W2 (oV zeroO) _
  have HI : Box W3 w.heap.size [.slice A l.length c, .int .i64 sz, .slice A' m c'] := by
    rw [hW3]; refine Box.alloc ?_ _; rw [hW2]; refine Box.alloc ?_ _; rw [hW1]; exact Box.new w [.slice A l.length c, .int .i64 sz, .slice A' m c'] _
  have HR : Row W3 W3.heap.size 5 (.slice A l.length c) l.length (codeCells l) := (hr.below hK).more (by omega)
  have HR0 := Lib.hid (show Row W3 (w.heap.size + 2) 5 (.slice A l.length c) l.length (codeCells l) from (hr.below hK).more (by omega))
  have c0 := HI.cell (k := 0) rfl
  have c1 := HI.cell (k := 1) rfl
  have c2 := HI.cell (k := 2) rfl
  have HB := Lib.hid HB0
  have HX := Lib.hid HX0
  have HIB := Lib.hid HI
  have HRR := Lib.hid HR
  have HKK := Lib.hid hK
  obtain ⟨hcl, hcm⟩ := hr.cap
  clear HI HB0 HX0 hK hr HR
  go_enter Try.func22, Try.ntmps22
  go_wp2_with fail
  rw [← hW1, ← hW2, ← hW3]
  clear hW1 hW2 hW3
  refine (refRight_any A c sz A' m c' l _ HRR.out hm hc').mono ?_; rintro e w1 ⟨rfl, hb1⟩
  have HBX := Lib.hid (HB.out.below hb1 HB.out.lt)
  have HXX := Lib.hid (HX.out.below hb1 HX.out.lt)
  have HIX := Lib.hid (HIB.out.below hb1 HIB.out.lt)
  have HRX := Lib.hid (show Row w1 (w.heap.size + 2) 5 (.slice A l.length c) l.length (codeCells l) from HR0.out.below (hb1.mono (by omega)))
  have HKX := Lib.hid (HKK.out.trans (hb1.mono (by omega)))
  have hz4 : w.heap.size + 3 ≤ w1.heap.size := by have := hb1.size; omega
  clear hb1 c0 c1 c2 HB HIB HX HRR HR0 HKK hz1 hz2 hz3
  cases hri : rightZ l sz m
  · have HL := Lib.hid (show ofZ l sz m = zeroO by unfold ofZ; rw [if_neg (by rw [hri]; decide)])
    clear hri
    go_wp2_with (first
      | (refine wpList_load_box rfl 26 (.tmp 3) rfl (w.heap.size + 2) 0 rfl (oV zeroO) (oV zeroO) HXX.out whole_at _ Try.underlying26 rfl 16 (by kernel_rfl) rfl ?_)
      | (refine wpList_store_box rfl 26 (.tmp 2) (.tmp 14) rfl (w.heap.size + 1) 0 (oV zeroO) rfl rfl (oV zeroO) HBX.out (Nat.le_refl _) 16 (by kernel_rfl) rfl (oV_one _) ?_; intro w3 B3 hg3; rw [splice_whole _ _ rfl] at B3))
    refine bodyPost_ret (v := .agg (oV zeroO).toArray) ?_ rfl ⟨by rw [HL.out], ?_⟩
    · exact results_cell Try.results22 _ _ _ ⟨w.heap.size + 1, 0, none⟩ _ rfl (load_own B3 rfl)
    · exact Below.grown HKX.out hg3 (by omega) (fun i hi => by injection hi with hi; omega)
  have HL := Lib.hid (show ofZ l sz m = iterO l 17 firstO by unfold ofZ; rw [if_pos hri]; rfl)
  have hp := rightZ_insO hri
  have HPR := Lib.hid hp.2
  have hl2 : l.length ≤ 2000 := hp.1
  clear hri hp
  generalize hn : l.length = n at HIX hl2 hcl ⊢
  have Hn := Lib.hid hn
  clear hn
  rw [← startO_1] at HXX
  obtain ⟨b, hb⟩ : ∃ b, b = w.heap.size + 2 := ⟨_, rfl⟩
  rw [← hb] at HXX HRX
  have HBE := Lib.hid hb
  go_wp2_with fail
  rw [← hb]
  clear hb
  go_loopw [4] (fun ii wr => ∃ k : Nat, 1 ≤ k ∧ k ≤ 16 ∧ ii = .int .i64 k ∧ Box wr b (oV (startO k)) ∧ Below b w1 wr) (fun ii _ => 16 - (intOf ii).toNat)
  case atStart => exact ⟨1, by omega, by omega, rfl, HXX.out, Below.refl _ _⟩
  case round =>
    obtain ⟨k, hk1, hk, rfl, hbx, hbl⟩ := hrel
    have HX := Lib.hid hbx
    have HKY := Lib.hid hbl
    clear hbx hbl
    by_cases hlt : k < 16
    · have f1 := HX.out.cell (oV_at (funO_len _) (n := k) (by omega))
      have f2 := HX.out.frozen k
      have hbz := HX.out.lt
      have g0 : (0 : Int) ≤ k := by omega
      have g1 : (k : Int) < 16 := by omega
      have HN : Hid (Box (wr.setCell ⟨b, k, none⟩ (.int .i64 2)) b (oV (startO (k + 1)))) := by
        have := HX.out.setCell k (.int .i64 2)
        rwa [oV_set, startO_set hk1] at this
      have HKN : Hid (Below b w1 (wr.setCell ⟨b, k, none⟩ (.int .i64 2))) := HKY.out.setCell (p := ⟨b, k, none⟩) (Nat.le_refl _) _
      go_wp2_with fail
      go_roundw
      case rel => exact ⟨k + 1, by omega, by omega, by go_num, HN.out, HKN.out⟩
      case measure => simp only [intOf]; omega
    · have H0 : Hid (RnS w1 wr b firstO) := ⟨HKY.out, by rw [← startO_16, show 16 = k from by omega]; exact HX.out, firstO_ok⟩
      have g1 : ¬ (k : Int) < 16 := by omega
      clear HX HKY
      go_wp2_with fail
      go_loopw [5] (fun ii wx => ∃ k : Nat, k ≤ 17 ∧ ii = .int .i64 k ∧ RnS w1 wx b (iterO l k firstO)) (fun ii _ => 17 - (intOf ii).toNat)
      case atStart => exact ⟨0, by omega, rfl, H0.out⟩
      case round =>
        obtain ⟨k, hk, rfl, hs⟩ := hrel
        have HS := Lib.hid hs
        clear hs
        by_cases hlt : k < 17
        · obtain ⟨p, hpp⟩ : ∃ p, p = iterO l k firstO := ⟨_, rfl⟩
          have HIT := Lib.hid (show iterO l (k + 1) firstO = l.foldl stepR p by rw [iter_succ, ← hpp, round_same l p (by rw [hpp]; exact HS.out.ok) HPR.out])
          rw [← hpp] at HS
          clear hpp
          have HF0 := Lib.hid (show l.foldl stepR p = (l.drop 0).foldl stepR p by rw [List.drop_zero])
          have HFA := Lib.hid (fun (j : Nat) (i : Ins) (q : List Int) (h : l[j]? = some i) => fold_at (f := stepR) h q)
          have HFE := Lib.hid (fun (j : Nat) (q : List Int) (h : l.length ≤ j) => (show (l.drop j).foldl stepR q = q by rw [List.drop_eq_nil_of_le h]; rfl))
          have g2 : (k : Int) < 17 := by omega
          go_wp2_with fail
          go_loopw [6] (fun ii wy => ∃ (j : Nat) (q : List Int), j ≤ n ∧ ii = .int .i64 j ∧ RnS w1 wy b q ∧ l.foldl stepR p = (l.drop j).foldl stepR q) (fun ii _ => n - (intOf ii).toNat)
          case atStart => exact ⟨0, p, Nat.zero_le _, rfl, HS.out, HF0.out⟩
          case round =>
            obtain ⟨j, q, hj, rfl, hs, hF⟩ := hrel
            have HS := Lib.hid hs
            have HF := Lib.hid hF
            have HPB := Lib.hid (HIX.out.below HS.out.below (by have := HBE.out; omega))
            have c0 := HPB.out.cell (k := 0) rfl
            clear hs hF
            by_cases hlj : j < n
            · have hl : j < l.length := by rw [Hn.out]; exact hlj
              obtain ⟨i, hi⟩ : ∃ i, l[j]? = some i := ⟨_, List.getElem?_eq_getElem hl⟩
              have HRI := Lib.hid (HPR.out i (List.mem_of_getElem? hi))
              have hrow : Row wr b 5 (.slice A l.length c) l.length (codeCells l) := HRX.out.below HS.out.below
              obtain ⟨g, off, rfl, hg, _⟩ := hrow.at_ (by omega)
              obtain ⟨d0, d1, d2, d3, d4⟩ := hrow.ins hi
              have HST := Lib.hid (HF.out.trans (HFA.out j i q hi))
              have k0 : (0 : Int) ≤ j := by omega
              have k1 : (j : Int) < n := by omega
              have HSA := Lib.hid (HS.out.to ((Below.refl wr.heap.size wr).alloc (Nat.le_refl _) (.cells (insV i).toArray 51)))
              have HXI := Lib.hid (Box.new wr (insV i) 51)
              have hbr := HS.out.box.lt
              have hpl := HS.out.ok.1
              clear hi hl hrow
              go_wp2_with fail
              change Calls _ _ _ (wr.alloc (.cells (insV i).toArray 51)) _
              obtain ⟨xb, hxb⟩ : ∃ xb, xb = wr.heap.size := ⟨_, rfl⟩
              rw [← hxb] at HXI hbr ⊢
              clear hxb d0 d1 d2 d3 d4 c0
              generalize wr.alloc (.cells (insV i).toArray 51) = Y at *
              refine (refForm_any _ _).mono ?_; rintro e w5 ⟨rfl, rfl⟩
              try dsimp only
              have HSY := Lib.hid HSA.out
              have HF8 := Lib.hid (formZ_range i.op)
              have HRR := right_range HRI.out
              have hbz := HSA.out.box.lt
              have e0 := HXI.out.cell (k := 0) rfl
              have e1 := HXI.out.cell (k := 1) rfl
              have e2 := HXI.out.cell (k := 2) rfl
              have HF1 := Lib.hid (show formZ i.op ≠ 0 from by
                have h := HRI.out
                unfold rightB at h
                simp only [Bool.and_eq_true, decide_eq_true_eq] at h
                exact h.1.1.1.1)
              have HM := Lib.hid (fun h => stepR_mem (o := q) (i := i) h)
              have HRC := Lib.hid (fun h1 h3 => stepR_rec (o := q) (i := i) h1 h3)
              have HNO := Lib.hid (fun h => stepR_no (o := q) (i := i) h)
              generalize hf : formZ i.op = f at *
              have Hf := Lib.hid hf
              clear hf
              have a0 : 0 ≤ i.a := HRR.2.2.1.1
              have a15 : i.a ≤ 15 := HRR.2.2.1.2
              have b0 : 0 ≤ i.d := HRR.2.1.1
              have b15 : i.d ≤ 15 := HRR.2.1.2
              clear HRR
              by_cases hf4 : f = 4
              · subst hf4
                by_cases ha : 0 < i.a
                · have HE := Lib.hid (HST.out.trans (congrArg (fun z => (l.drop (j + 1)).foldl stepR z) ((HM.out (by decide)).trans (if_pos ha))))
                  obtain ⟨x, hx, hx15⟩ := nat_of (r := i.a) ⟨a0, a15⟩
                  rw [hx] at e2 ha HE
                  have f1 := HSY.out.box.cell (oV_at HSY.out.ok.1 hx15)
                  have f2 := HSY.out.box.frozen x
                  have HSP := Lib.hid (HSY.out.put (r := x) (by omega) hx15)
                  have g3 : (x : Int) ≤ 15 := by omega
                  have g4 : (0 : Int) ≤ x := by omega
                  clear hx a0 a15 HXI HRI HST HM
                  go_wp2_with fail
                  go_roundw
                  case rel => exact ⟨j + 1, _, by omega, by go_num, HSP.out, HE.out⟩
                  case measure => simp only [intOf]; omega
                · have HE := Lib.hid (HST.out.trans (congrArg (fun z => (l.drop (j + 1)).foldl stepR z) ((HM.out (by decide)).trans (if_neg ha))))
                  go_wp2_with fail
                  go_roundw
                  case rel => exact ⟨j + 1, _, by omega, by go_num, HSY.out, HE.out⟩
                  case measure => simp only [intOf]; omega
              by_cases hf5 : f = 5
              · subst hf5
                by_cases ha : 0 < i.a
                · have HE := Lib.hid (HST.out.trans (congrArg (fun z => (l.drop (j + 1)).foldl stepR z) ((HM.out (by decide)).trans (if_pos ha))))
                  obtain ⟨x, hx, hx15⟩ := nat_of (r := i.a) ⟨a0, a15⟩
                  rw [hx] at e2 ha HE
                  have f1 := HSY.out.box.cell (oV_at HSY.out.ok.1 hx15)
                  have f2 := HSY.out.box.frozen x
                  have HSP := Lib.hid (HSY.out.put (r := x) (by omega) hx15)
                  have g3 : (x : Int) ≤ 15 := by omega
                  have g4 : (0 : Int) ≤ x := by omega
                  clear hx a0 a15 HXI HRI HST HM
                  go_wp2_with fail
                  go_roundw
                  case rel => exact ⟨j + 1, _, by omega, by go_num, HSP.out, HE.out⟩
                  case measure => simp only [intOf]; omega
                · have HE := Lib.hid (HST.out.trans (congrArg (fun z => (l.drop (j + 1)).foldl stepR z) ((HM.out (by decide)).trans (if_neg ha))))
                  go_wp2_with fail
                  go_roundw
                  case rel => exact ⟨j + 1, _, by omega, by go_num, HSY.out, HE.out⟩
                  case measure => simp only [intOf]; omega
              have q4 : (f == 4) = false := by simpa using hf4
              have q5 : (f == 5) = false := by simpa using hf5
              have HF8 := HF8.out
              have HF1 := HF1.out
              by_cases h3 : f ≤ 3
              rotate_left
              · have HE := Lib.hid (HST.out.trans (congrArg (fun z => (l.drop (j + 1)).foldl stepR z) (HNO.out (by omega))))
                have g5 : (1 : Int) ≤ f := by omega
                have g6 : ¬ f ≤ 3 := h3
                clear hf4 hf5 HF8 HF1 h3
                go_wp2_with fail
                go_roundw
                case rel => exact ⟨j + 1, _, by omega, by go_num, HSY.out, HE.out⟩
                case measure => simp only [intOf]; omega
              have g5 : (1 : Int) ≤ f := by omega
              have HRC2 := Lib.hid (HRC.out g5 h3)
              clear hf4 hf5 HF8 HF1
              by_cases hd : 0 < i.d
              rotate_left
              · have HE := Lib.hid (HST.out.trans (congrArg (fun z => (l.drop (j + 1)).foldl stepR z) (HRC2.out.trans (if_neg (fun h => hd h.1)))))
                go_wp2_with fail
                go_roundw
                case rel => exact ⟨j + 1, _, by omega, by go_num, HSY.out, HE.out⟩
                case measure => simp only [intOf]; omega
              obtain ⟨x, hx, hx15⟩ := nat_of (r := i.d) ⟨b0, b15⟩
              have f1 := HSY.out.box.cell (oV_at HSY.out.ok.1 hx15)
              rw [← hx] at f1
              have hx' : x = i.d.toNat := by omega
              subst hx'
              clear hx hx15
              cases hq : (atO q i.d == 1)
              · have HE := Lib.hid (HST.out.trans (congrArg (fun z => (l.drop (j + 1)).foldl stepR z) (HRC2.out.trans (if_neg (fun h => by rw [h.2] at hq; exact absurd hq (by decide))))))
                go_wp2_with fail
                go_roundw
                case rel => exact ⟨j + 1, _, by omega, by go_num, HSY.out, HE.out⟩
                case measure => simp only [intOf]; omega
              have HSTP := Lib.hid (HRC2.out.trans (if_pos ⟨hd, by simpa using hq⟩))
              go_wp2_with (first
                | (refine wpList_load_box rfl 51 (.tmp 7) rfl xb 0 rfl (insV i) (insV i) HXI.out whole_at _ Try.underlying51 rfl 5 (by kernel_rfl) rfl ?_))
              refine (refReadsN_any i _).mono ?_; rintro e w6 ⟨v, rfl, hrow6, hnew, hb6⟩
              have HS6 := Lib.hid (HSY.out.to hb6)
              have HN6 : Hid (NewV (b + 1) v) := fun a n c h => by
                have h1 := hnew a n c h
                omega
              have HR6 := Lib.hid hrow6
              obtain ⟨A6, c6, rfl⟩ := hrow6.form
              have HNR := Lib.hid (fun r (h : r ∈ readsZ i) => (⟨(reads_mem h).2.1, (reads_mem h).2.2.1⟩ : 1 ≤ r ∧ r ≤ 15))
              have HNL := Lib.hid (reads_len i)
              have HP0 := Lib.hid (show (readsZ i).foldl setA q = ((readsZ i).drop 0).foldl setA q by rw [List.drop_zero])
              have HZE := Lib.hid (fun (k : Nat) (q : List Int) (h : (readsZ i).length ≤ k) => (show ((readsZ i).drop k).foldl setA q = q by rw [List.drop_eq_nil_of_le h]; rfl))
              have HZA := Lib.hid (fun (k : Nat) (r : Int) (q : List Int) (h : (readsZ i)[k]? = some r) => fold_at (f := setA) h q)
              clear hrow6 hnew hb6 HXI HSA hbz hbr f1 hpl
              generalize hzs : readsZ i = zs at HNR HNL HR6 HN6 HP0 HZE HZA HSTP ⊢
              clear hzs
              generalize hnz : zs.length = N at HR6 HN6 ⊢
              have HNZ := Lib.hid hnz
              clear hnz
              go_wp2_with fail
              go_loopw [10] (fun ii wx => ∃ (k : Nat) (r : List Int), k ≤ N ∧ ii = .int .i64 k ∧ RnS w1 wx b r ∧ Row wx wx.heap.size 1 (.slice A6 N c6) N (zs.map (Value.int .i64)) ∧ zs.foldl setA q = (zs.drop k).foldl setA r) (fun ii _ => N - (intOf ii).toNat)
              case atStart => exact ⟨0, q, Nat.zero_le _, rfl, HS6.out, HR6.out, HP0.out⟩
              case round =>
                obtain ⟨k, r, hk, rfl, hS3, hrow3, hF3⟩ := hrel
                have HS3 := Lib.hid hS3
                have HR3 := Lib.hid hrow3
                have HF3 := Lib.hid hF3
                clear hS3 hF3
                have hN2 : N ≤ 2 := by have := HNL.out; have := HNZ.out; omega
                by_cases hlk : k < N
                · have hl : k < zs.length := by rw [HNZ.out]; exact hlk
                  obtain ⟨bb, off2, rfl, hbb, hcells⟩ := hrow3.at_ (by omega)
                  have f0 := hcells k _ (ints_get hl)
                  obtain ⟨y, hre⟩ : ∃ y, y = zs.getD k 0 := ⟨_, rfl⟩
                  have hzr : zs[k]? = some y := by rw [hre, List.getD_eq_getElem?_getD, List.getElem?_eq_getElem hl]; rfl
                  rw [← hre] at f0
                  have hr15 := HNR.out y (by rw [hre]; exact getD_mem hl)
                  have HST3 := Lib.hid (HF3.out.trans (HZA.out k y r hzr))
                  obtain ⟨x, rfl, hx15⟩ := nat_of (r := y) ⟨by omega, hr15.2⟩
                  have f1 := HS3.out.box.cell (oV_at HS3.out.ok.1 hx15)
                  have f2 := HS3.out.box.frozen x
                  have hne : bb ≠ b := by have := HN6.out _ _ _ rfl; simp only at this; omega
                  have g0 : (0 : Int) ≤ k := by omega
                  have g1 : (k : Int) < N := by omega
                  have g2 : (x : Int) ≤ 15 := by omega
                  have g3 : (0 : Int) ≤ x := by omega
                  have hbz := HS3.out.box.lt
                  have HSP := Lib.hid (HS3.out.put (r := x) (by omega) hx15)
                  have HRP := Lib.hid (row_other HR3.out hne x (.int .i64 1))
                  clear hcells hre hzr hl hr15 a0 a15 b0 b15 hrow3
                  go_wp2_with fail
                  go_roundw
                  case rel => exact ⟨k + 1, _, by omega, by go_num, HSP.out, HRP.out, HST3.out⟩
                  case measure => simp only [intOf]; omega
                · have HFE := Lib.hid (HF3.out.trans (HZE.out k r (by rw [HNZ.out]; omega)))
                  have HE := Lib.hid (HST.out.trans (congrArg (fun z => (l.drop (j + 1)).foldl stepR z) (HSTP.out.trans HFE.out)))
                  clear hrow3
                  go_wp2_with fail
                  go_roundw
                  case rel => exact ⟨j + 1, _, by omega, by go_num, HS3.out, HE.out⟩
                  case measure => simp only [intOf]; omega
            · go_wp2_with fail
              go_roundw
              case rel => exact ⟨k + 1, by omega, by go_num, by rw [HIT.out, HF.out, HFE.out j q (by rw [Hn.out]; omega)]; exact HS.out⟩
              case measure => simp only [intOf]; omega
        · have g2 : ¬ (k : Int) < 17 := by omega
          have HE : Hid (RnS w1 wr b (iterO l 17 firstO)) := by rw [show 17 = k from by omega]; exact HS.out
          have HRB := Lib.hid (HBX.out.below HE.out.below (by have := HBE.out; omega))
          have HBB := Lib.hid HE.out.box
          have HPL := Lib.hid HE.out.ok.1
          have HKB := Lib.hid HE.out.below
          generalize iterO l 17 firstO = p at *
          go_wp2_with (first
            | (refine wpList_load_box rfl 26 (.tmp 3) rfl b 0 rfl (oV p) (oV p) HBB.out whole_at _ Try.underlying26 rfl 16 (by kernel_rfl) ((oV_len p).trans HPL.out) ?_)
            | (refine wpList_store_box rfl 26 (.tmp 2) (.tmp 85) rfl (w.heap.size + 1) 0 (oV p) rfl rfl (oV zeroO) HRB.out (by rw [oV_len, HPL.out]; exact Nat.le_refl _) 16 (by kernel_rfl) ((oV_len p).trans HPL.out) (oV_one _) ?_; intro w3 B3 hg3; rw [splice_whole _ _ (by rw [oV_len, HPL.out]; rfl)] at B3))
          refine bodyPost_ret (v := .agg (oV p).toArray) ?_ rfl ⟨by rw [HL.out], ?_⟩
          · exact results_cell Try.results22 _ _ _ ⟨w.heap.size + 1, 0, none⟩ _ rfl (load_own B3 HPL.out)
          · exact Below.grown (HKX.out.trans (HKB.out.mono (by have := HBE.out; omega))) hg3 (by have := HKX.out.size; have := HKB.out.size; omega) (fun i hi => by injection hi with hi; omega)
end Go.Proofs.Ytbibfpopkcekdaa.Words

/- Contracts of package split's Of and of the document's own Split: the split by the least owner. -/
namespace Go.Proofs.Ytbibfpopkcekdaa.Words
set_option maxRecDepth 100000
open Go.RowKit
set_option linter.unusedVariables false
set_option linter.unusedSimpArgs false

theorem field_spl (v : Value) (o : List Int) (k : Int) (y : World) : (Instr.extract (.tuple #[.agg (splV v o).toArray, .int .i64 k]) 0).run Try.prog y = .ok (.agg (splV v o).toArray) y := by rfl
set_option maxHeartbeats 2000000 in
theorem splOf_any (A : Option Addr) (c : Nat) (sz : Int) (A' : Option Addr) (m c' : Nat) (l : List Ins) (w : World) (hr : Row w w.heap.size 5 (.slice A l.length c) l.length (codeCells l)) (hm : m ≤ c') (hc' : c' ≤ 9223372036854775807) :
    Calls Try.prog 10 #[.agg #[.slice A l.length c, .int .i64 sz, .slice A' m c']] w (WithOut w (withZ l sz m (ofZ l sz m)) (ownW l sz m (ofZ l sz m)) (errW l sz m (ofZ l sz m))) := by
  obtain ⟨W, hW⟩ : ∃ W, W = (w.alloc (.cells #[.slice A l.length c, .int .i64 sz, .slice A' m c'] 25)).alloc (.cells zeroSpl.toArray 29) := ⟨_, rfl⟩
  have HB : Hid (Below w.heap.size w W) := by rw [hW]; exact ((Below.refl w.heap.size w).alloc (Nat.le_refl _) _).alloc (by simp) _
  have X1 : Hid (Box W w.heap.size [.slice A l.length c, .int .i64 sz, .slice A' m c']) := by rw [hW]; exact (Box.new w _ _).alloc _
  have X2 : Hid (Box W (w.heap.size + 1) zeroSpl) := by
    rw [hW]
    have := Box.new (w.alloc (.cells #[.slice A l.length c, .int .i64 sz, .slice A' m c'] 25)) zeroSpl 29
    rw [show (w.alloc (.cells #[.slice A l.length c, .int .i64 sz, .slice A' m c'] 25)).heap.size = w.heap.size + 1 by simp] at this
    exact this
  have HR := Lib.hid (hr.below HB.out)
  have HZ : Hid (W.heap.size = w.heap.size + 2) := by show _ = _; rw [hW]; simp
  have HCAP := Lib.hid (⟨hm, hc'⟩ : m ≤ c' ∧ c' ≤ 9223372036854775807)
  have HOL := Lib.hid (ofZ_len (l := l) (sz := sz) (m := m))
  clear hr hm hc'
  go_enter Try.func10, Try.ntmps10
  go_upto_region 1 with (fail)
  change Code.wp _ _ _ _ ((w.alloc (.cells #[.slice A l.length c, .int .i64 sz, .slice A' m c'] 25)).alloc (.cells zeroSpl.toArray 29))
  rw [← hW]
  clear hW
  have k0 : KeepS (fun j => j = w.heap.size + 1) W W.drew := (KeepS.refl _ W).drew
  refine wp_region_lin [(0, true), (1, true), (2, false), (3, false), (4, true), (5, true), (6, false), (7, true)]
    (by kernel_rfl) (by kernel_rfl) rfl (by kernel_rfl) (KeepS (fun j => j = w.heap.size + 1) W) ?_
  simp only [List.map_cons, List.map_nil, List.getElem?_toArray, List.getElem?_cons_succ, List.getElem?_cons_zero]
  iterate 2 (refine lin_take_box k0 rfl 25 (.tmp 1) rfl w.heap.size 0 rfl [.slice A l.length c, .int .i64 sz, .slice A' m c'] [.slice A l.length c, .int .i64 sz, .slice A' m c'] (fun y hy => X1.out.keepS hy (by omega)) whole_at _ Try.underlying25 rfl 3 size_prg rfl ?_; (try simp only [Act.put, List.setIfInBounds_toArray, List.set_cons_zero, List.set_cons_succ]))
  refine lin_call k0 (by rfl) (fun K hK => ?_)
  go_simp
  refine (of_any' A c sz A' m c' l _ (HR.out.more (B' := W.heap.size) (by have := HZ.out; omega)).drew HCAP.out.1 HCAP.out.2).mono ?_; rintro e w2 ⟨rfl, hb2⟩
  go_wp2_with fail
  have k2 := k0.go hb2
  have HX2 := Lib.hid (X2.out.drew.below hb2 X2.out.lt)
  have HR2 := Lib.hid (HR.out.below (w' := w2) ((Below.refl _ W).drew.trans (hb2.mono (by have := HZ.out; show _ ≤ W.heap.size; omega))))
  have HZ2 : Hid (w.heap.size + 2 ≤ w2.heap.size) := by have := hb2.size; have := HZ.out; have h3 : W.drew.heap.size = W.heap.size := rfl; show _ ≤ _; omega
  have HB2 : Hid (Below w.heap.size w w2) := HB.out.trans ((Below.refl _ W).drew.trans (hb2.mono (by have := HZ.out; show _ ≤ W.heap.size; omega)))
  refine hK.out _ _ k2 (fun _ => ?_)
  clear hK K hb2 k0
  (try simp only [Act.put, List.setIfInBounds_toArray, List.set_cons_zero, List.set_cons_succ])
  refine lin_call k2 (by rfl) (fun K hK => ?_)
  go_simp
  refine (with_any A c sz A' m c' l (ofZ l sz m) _ (HR2.out.more (by have := HZ2.out; omega)) HCAP.out.1 HCAP.out.2 HOL.out).mono ?_; rintro e w3 ⟨v, rfl, hv, hb3⟩
  go_wp2_with fail
  have k3 := k2.go hb3
  have HX3 := Lib.hid (HX2.out.below hb3 HX2.out.lt)
  have HV := Lib.hid hv
  have HW : Hid ((ownW l sz m (ofZ l sz m)).length = 16) := by unfold ownW; split; exact HOL.out; rfl
  have HB3 : Hid (Below w.heap.size w w3) := HB2.out.trans (hb3.mono (by have := HZ2.out; omega))
  have HZ3 : Hid (w2.heap.size ≤ w3.heap.size) := hb3.size
  refine hK.out _ _ k3 (fun _ => ?_)
  clear hK K hb3 k2 hv
  obtain ⟨O, hO⟩ : ∃ O, O = ownW l sz m (ofZ l sz m) := ⟨_, rfl⟩
  rw [← hO] at HW ⊢
  have HO := Lib.hid hO
  clear hO
  (try simp only [Act.put, List.setIfInBounds_toArray, List.set_cons_zero, List.set_cons_succ])
  refine lin_take (v := .agg (splV v O).toArray) k3 (by rfl) (fun y hy => by rfl) ?_
  (try simp only [Act.put, List.setIfInBounds_toArray, List.set_cons_zero, List.set_cons_succ])
  refine lin_take (v := .int .i64 (errW l sz m (ofZ l sz m))) k3 (by rfl) (fun y hy => by rfl) ?_
  (try simp only [Act.put, List.setIfInBounds_toArray, List.set_cons_zero, List.set_cons_succ])
  obtain ⟨Av, cv, hvf⟩ := HV.out.blks.form
  subst hvf
  refine lin_put_cells k3 (by rfl) 29 (.tmp 2) (.tmp 8) rfl (w.heap.size + 1) 0 (splV (.slice Av (withZ l sz m (ofZ l sz m)).length cv) O) rfl rfl zeroSpl HX3.out (by rw [splV_len HW.out]; decide) 17 size_spl (splV_len HW.out) (splV_one rfl) (fun y hy hg => k3.trans (KeepS.of_grown hg (fun q hq => by injection hq with hq; exact hq.symm))) ?_
  intro w4 B4 hg4
  rw [splice_whole zeroSpl (splV (.slice Av (withZ l sz m (ofZ l sz m)).length cv) O) (by rw [splV_len HW.out]; rfl)] at B4
  have HV4 := Lib.hid (HV.out.keepS (KeepS.of_grown (S := fun j => j = w.heap.size + 1) hg4 (fun q hq => by injection hq with hq; exact hq.symm)) (fun j e => by have := HZ2.out; omega))
  have HB4 := Lib.hid (Below.grown HB3.out hg4 (by have := HX3.out.lt; omega) (fun q hq => by injection hq with hq; omega))
  have k4 := k3.trans (KeepS.of_grown (S := fun j => j = w.heap.size + 1) hg4 (fun q hq => by injection hq with hq; exact hq.symm))
  (try simp only [Act.put, List.setIfInBounds_toArray, List.set_cons_zero, List.set_cons_succ])
  refine lin_take (v := .int .i64 (errW l sz m (ofZ l sz m))) k4 (by rfl) (fun y hy => by rfl) ?_
  (try simp only [Act.put, List.setIfInBounds_toArray, List.set_cons_zero, List.set_cons_succ])
  refine lin_done ?_
  have HL := Lib.hid (load_spl HW.out B4)
  clear B4 hg4 k3 k4
  go_wp2_with fail
  refine bodyPost_ret (v := .tuple #[.agg (splV (.slice Av (withZ l sz m (ofZ l sz m)).length cv) O).toArray, .int .i64 (errW l sz m (ofZ l sz m))]) (results_cell_tmp' Try.results10 _ _ _ ⟨w.heap.size + 1, 0, none⟩ _ _ rfl HL.out rfl) rfl ⟨.slice Av (withZ l sz m (ofZ l sz m)).length cv, by rw [HO.out], HV4.out.less (by have := HZ2.out; omega), HB4.out⟩

set_option maxHeartbeats 2000000 in
theorem refSplitP_any (A : Option Addr) (c : Nat) (sz : Int) (A' : Option Addr) (m c' : Nat) (l : List Ins) (w : World) (hr : Row w w.heap.size 5 (.slice A l.length c) l.length (codeCells l)) (hm : m ≤ c') (hc' : c' ≤ 9223372036854775807) :
    Calls Try.prog 11 #[.agg #[.slice A l.length c, .int .i64 sz, .slice A' m c']] w (WithOut w (withZ l sz m (ofZ l sz m)) (ownW l sz m (ofZ l sz m)) (errW l sz m (ofZ l sz m))) := by
  obtain ⟨W, hW⟩ : ∃ W, W = (w.alloc (.cells #[.slice A l.length c, .int .i64 sz, .slice A' m c'] 25)).alloc (.cells zeroSpl.toArray 29) := ⟨_, rfl⟩
  have HB : Hid (Below w.heap.size w W) := by rw [hW]; exact ((Below.refl w.heap.size w).alloc (Nat.le_refl _) _).alloc (by simp) _
  have X1 : Hid (Box W w.heap.size [.slice A l.length c, .int .i64 sz, .slice A' m c']) := by rw [hW]; exact (Box.new w _ _).alloc _
  have X2 : Hid (Box W (w.heap.size + 1) zeroSpl) := by
    rw [hW]
    have := Box.new (w.alloc (.cells #[.slice A l.length c, .int .i64 sz, .slice A' m c'] 25)) zeroSpl 29
    rw [show (w.alloc (.cells #[.slice A l.length c, .int .i64 sz, .slice A' m c'] 25)).heap.size = w.heap.size + 1 by simp] at this
    exact this
  have HR := Lib.hid (hr.below HB.out)
  have HZ : Hid (W.heap.size = w.heap.size + 2) := by show _ = _; rw [hW]; simp
  have HCAP := Lib.hid (⟨hm, hc'⟩ : m ≤ c' ∧ c' ≤ 9223372036854775807)
  have HOL := Lib.hid (ofZ_len (l := l) (sz := sz) (m := m))
  clear hr hm hc'
  go_enter Try.func11, Try.ntmps11
  go_upto_region 1 with (fail)
  change Code.wp _ _ _ _ ((w.alloc (.cells #[.slice A l.length c, .int .i64 sz, .slice A' m c'] 25)).alloc (.cells zeroSpl.toArray 29))
  rw [← hW]
  clear hW
  have k0 : KeepS (fun j => j = w.heap.size + 1) W W.drew := (KeepS.refl _ W).drew
  refine wp_region_lin [(0, true), (1, true), (2, false), (3, false), (4, true), (5, true), (6, false), (7, true)]
    (by kernel_rfl) (by kernel_rfl) rfl (by kernel_rfl) (KeepS (fun j => j = w.heap.size + 1) W) ?_
  simp only [List.map_cons, List.map_nil, List.getElem?_toArray, List.getElem?_cons_succ, List.getElem?_cons_zero]
  iterate 2 (refine lin_take_box k0 rfl 25 (.tmp 1) rfl w.heap.size 0 rfl [.slice A l.length c, .int .i64 sz, .slice A' m c'] [.slice A l.length c, .int .i64 sz, .slice A' m c'] (fun y hy => X1.out.keepS hy (by omega)) whole_at _ Try.underlying25 rfl 3 size_prg rfl ?_; (try simp only [Act.put, List.setIfInBounds_toArray, List.set_cons_zero, List.set_cons_succ]))
  refine lin_call k0 (by rfl) (fun K hK => ?_)
  go_simp
  refine (refOwner_any A c sz A' m c' l _ (HR.out.more (B' := W.heap.size) (by have := HZ.out; omega)).drew HCAP.out.1 HCAP.out.2).mono ?_; rintro e w2 ⟨rfl, hb2⟩
  go_wp2_with fail
  have k2 := k0.go hb2
  have HX2 := Lib.hid (X2.out.drew.below hb2 X2.out.lt)
  have HR2 := Lib.hid (HR.out.below (w' := w2) ((Below.refl _ W).drew.trans (hb2.mono (by have := HZ.out; show _ ≤ W.heap.size; omega))))
  have HZ2 : Hid (w.heap.size + 2 ≤ w2.heap.size) := by have := hb2.size; have := HZ.out; have h3 : W.drew.heap.size = W.heap.size := rfl; show _ ≤ _; omega
  have HB2 : Hid (Below w.heap.size w w2) := HB.out.trans ((Below.refl _ W).drew.trans (hb2.mono (by have := HZ.out; show _ ≤ W.heap.size; omega)))
  refine hK.out _ _ k2 (fun _ => ?_)
  clear hK K hb2 k0
  (try simp only [Act.put, List.setIfInBounds_toArray, List.set_cons_zero, List.set_cons_succ])
  refine lin_call k2 (by rfl) (fun K hK => ?_)
  go_simp
  refine (refWith_any A c sz A' m c' l (ofZ l sz m) _ (HR2.out.more (by have := HZ2.out; omega)) HCAP.out.1 HCAP.out.2 HOL.out).mono ?_; rintro e w3 ⟨v, rfl, hv, hb3⟩
  go_wp2_with fail
  have k3 := k2.go hb3
  have HX3 := Lib.hid (HX2.out.below hb3 HX2.out.lt)
  have HV := Lib.hid hv
  have HW : Hid ((ownW l sz m (ofZ l sz m)).length = 16) := by unfold ownW; split; exact HOL.out; rfl
  have HB3 : Hid (Below w.heap.size w w3) := HB2.out.trans (hb3.mono (by have := HZ2.out; omega))
  have HZ3 : Hid (w2.heap.size ≤ w3.heap.size) := hb3.size
  refine hK.out _ _ k3 (fun _ => ?_)
  clear hK K hb3 k2 hv
  obtain ⟨O, hO⟩ : ∃ O, O = ownW l sz m (ofZ l sz m) := ⟨_, rfl⟩
  rw [← hO] at HW ⊢
  have HO := Lib.hid hO
  clear hO
  (try simp only [Act.put, List.setIfInBounds_toArray, List.set_cons_zero, List.set_cons_succ])
  refine lin_take (v := .agg (splV v O).toArray) k3 (by rfl) (fun y hy => by rfl) ?_
  (try simp only [Act.put, List.setIfInBounds_toArray, List.set_cons_zero, List.set_cons_succ])
  refine lin_take (v := .int .i64 (errW l sz m (ofZ l sz m))) k3 (by rfl) (fun y hy => by rfl) ?_
  (try simp only [Act.put, List.setIfInBounds_toArray, List.set_cons_zero, List.set_cons_succ])
  obtain ⟨Av, cv, hvf⟩ := HV.out.blks.form
  subst hvf
  refine lin_put_cells k3 (by rfl) 29 (.tmp 2) (.tmp 8) rfl (w.heap.size + 1) 0 (splV (.slice Av (withZ l sz m (ofZ l sz m)).length cv) O) rfl rfl zeroSpl HX3.out (by rw [splV_len HW.out]; decide) 17 size_spl (splV_len HW.out) (splV_one rfl) (fun y hy hg => k3.trans (KeepS.of_grown hg (fun q hq => by injection hq with hq; exact hq.symm))) ?_
  intro w4 B4 hg4
  rw [splice_whole zeroSpl (splV (.slice Av (withZ l sz m (ofZ l sz m)).length cv) O) (by rw [splV_len HW.out]; rfl)] at B4
  have HV4 := Lib.hid (HV.out.keepS (KeepS.of_grown (S := fun j => j = w.heap.size + 1) hg4 (fun q hq => by injection hq with hq; exact hq.symm)) (fun j e => by have := HZ2.out; omega))
  have HB4 := Lib.hid (Below.grown HB3.out hg4 (by have := HX3.out.lt; omega) (fun q hq => by injection hq with hq; omega))
  have k4 := k3.trans (KeepS.of_grown (S := fun j => j = w.heap.size + 1) hg4 (fun q hq => by injection hq with hq; exact hq.symm))
  (try simp only [Act.put, List.setIfInBounds_toArray, List.set_cons_zero, List.set_cons_succ])
  refine lin_take (v := .int .i64 (errW l sz m (ofZ l sz m))) k4 (by rfl) (fun y hy => by rfl) ?_
  (try simp only [Act.put, List.setIfInBounds_toArray, List.set_cons_zero, List.set_cons_succ])
  refine lin_done ?_
  have HL := Lib.hid (load_spl HW.out B4)
  clear B4 hg4 k3 k4
  go_wp2_with fail
  refine bodyPost_ret (v := .tuple #[.agg (splV (.slice Av (withZ l sz m (ofZ l sz m)).length cv) O).toArray, .int .i64 (errW l sz m (ofZ l sz m))]) (results_cell_tmp' Try.results11 _ _ _ ⟨w.heap.size + 1, 0, none⟩ _ _ rfl HL.out rfl) rfl ⟨.slice Av (withZ l sz m (ofZ l sz m)).length cv, by rw [HO.out], HV4.out.less (by have := HZ2.out; omega), HB4.out⟩

end Go.Proofs.Ytbibfpopkcekdaa.Words

/- Contract of the document's own SameSplit: are two splits one? -/
namespace Go.Proofs.Ytbibfpopkcekdaa.Words
set_option maxRecDepth 100000
open Go.RowKit
set_option linter.unusedVariables false

theorem spl_own {v : Value} {o : List Int} : ∀ j u, (o.map (Value.int .i64))[j]? = some u → (splV v o)[1 + j]? = some u := by
  intro j u hu
  rw [splV, Nat.add_comm, List.getElem?_cons_succ]; exact hu
theorem BlksV.at_ {w : World} {B n c b off : Nat} {l : List BlkC} (h : BlksV w B (.slice (some ⟨b, off, none⟩) n c) l) {k : Nat} {x : BlkC} (hx : l[k]? = some x) :
    ∃ A3 c3 A5 c5, w.cell? ⟨b, off + k * 6, none⟩ = some (.int .i64 x.from_) ∧ w.cell? ⟨b, off + k * 6 + 1, none⟩ = some (.int .i64 x.to) ∧ w.cell? ⟨b, off + k * 6 + 2, none⟩ = some (.int .i64 x.next) ∧ w.cell? ⟨b, off + k * 6 + 3, none⟩ = some (.int .i64 x.taken) ∧
      w.cell? ⟨b, off + k * 6 + 4, none⟩ = some (.slice A3 x.a.length c3) ∧ w.cell? ⟨b, off + k * 6 + 5, none⟩ = some (.slice A5 x.e.length c5) ∧ Row w B 9 (.slice A3 x.a.length c3) x.a.length (flat celCells x.a) ∧ Row w B 9 (.slice A5 x.e.length c5) x.e.length (flat celCells x.e) := by
  obtain ⟨rs, h1, h2, h3⟩ := h
  obtain ⟨A, c', e⟩ := h1.form
  injection e with e1 e2 e3
  subst e2
  have hlt : k < l.length := (List.getElem?_eq_some_iff.1 hx).1
  obtain ⟨r, hr⟩ : ∃ r, rs[k]? = some r := ⟨_, List.getElem?_eq_getElem (by omega)⟩
  obtain ⟨q0, q1, q2, q3, qa, qe⟩ := h3 k r x hr hx
  obtain ⟨A3, c3, ea⟩ := qa.form
  obtain ⟨A5, c5, ee⟩ := qe.form
  have g : ∀ j u, j < 6 → (blkRL r)[j]? = some u → w.cell? ⟨b, off + k * 6 + j, none⟩ = some u := fun j u hj hu => h1.flat_cell blkRL_len hr hj hu
  rw [ea] at qa
  rw [ee] at qe
  refine ⟨A3, c3, A5, c5, ?_, ?_, ?_, ?_, ?_, ?_, qa, qe⟩
  · rw [← q0]; exact g 0 _ (by omega) rfl
  · rw [← q1]; exact g 1 _ (by omega) rfl
  · rw [← q2]; exact g 2 _ (by omega) rfl
  · rw [← q3]; exact g 3 _ (by omega) rfl
  · rw [← ea]; exact g 4 _ (by omega) rfl
  · rw [← ee]; exact g 5 _ (by omega) rfl
theorem BlksV.spot {w : World} {B n c : Nat} {A : Option Addr} {l : List BlkC} (h : BlksV w B (.slice A n c) l) (hn : l.length ≠ 0) : ∃ b off, A = some ⟨b, off, none⟩ := by
  obtain ⟨rs, h1, h2, h3⟩ := h
  obtain ⟨A', c', e⟩ := h1.form
  injection e with e1 e2 e3
  subst e1 e2 e3
  obtain ⟨b, off, e, _⟩ := h1.at_ hn
  exact ⟨b, off, e⟩
theorem BlksV.cap {w : World} {B n c : Nat} {A : Option Addr} {l : List BlkC} (h : BlksV w B (.slice A n c) l) : l.length ≤ 9223372036854775807 := by
  obtain ⟨rs, h1, h2, h3⟩ := h
  obtain ⟨A', c', e⟩ := h1.form
  injection e with e1 e2 e3
  subst e1 e2 e3
  have := h1.cap; omega

set_option maxHeartbeats 4000000 in
theorem refSameSpl_any (A1 A2 : Option Addr) (c1 c2 : Nat) (l1 l2 : List BlkC) (o1 o2 : List Int) (w : World) (m1 : o1.length = 16) (m2 : o2.length = 16)
    (h1 : BlksV w w.heap.size (.slice A1 l1.length c1) l1) (h2 : BlksV w w.heap.size (.slice A2 l2.length c2) l2) :
    Calls Try.prog 14 #[.agg (splV (.slice A1 l1.length c1) o1).toArray, .agg (splV (.slice A2 l2.length c2) o2).toArray] w fun e w' => e = .returned (.bool (decide (l1 = l2 ∧ o1 = o2))) ∧ Below w.heap.size w w' := by
  have hK := Lib.hid (fun (x : World) (h : Kept ((w.alloc (.cells (splV (.slice A1 l1.length c1) o1).toArray 29)).alloc (.cells (splV (.slice A2 l2.length c2) o2).toArray 29)) x) => (((Below.refl w.heap.size w).alloc (Nat.le_refl _) (.cells (splV (.slice A1 l1.length c1) o1).toArray 29)).alloc (by simp) (.cells (splV (.slice A2 l2.length c2) o2).toArray 29)).trans (h.mono (by simp; omega)))
  have hW1 : w.heap.size < ((w.alloc (.cells (splV (.slice A1 l1.length c1) o1).toArray 29)).alloc (.cells (splV (.slice A2 l2.length c2) o2).toArray 29)).heap.size := by simp; omega
  have hW2 : w.heap.size + 1 < ((w.alloc (.cells (splV (.slice A1 l1.length c1) o1).toArray 29)).alloc (.cells (splV (.slice A2 l2.length c2) o2).toArray 29)).heap.size := by simp
  have X1 := Lib.hid ((Box.new w (splV (.slice A1 l1.length c1) o1) 29).alloc (.cells (splV (.slice A2 l2.length c2) o2).toArray 29))
  have X2 : Hid (Box ((w.alloc (.cells (splV (.slice A1 l1.length c1) o1).toArray 29)).alloc (.cells (splV (.slice A2 l2.length c2) o2).toArray 29)) (w.heap.size + 1) (splV (.slice A2 l2.length c2) o2)) := by
    have := Box.new (w.alloc (.cells (splV (.slice A1 l1.length c1) o1).toArray 29)) (splV (.slice A2 l2.length c2) o2) 29
    have e : (w.alloc (.cells (splV (.slice A1 l1.length c1) o1).toArray 29)).heap.size = w.heap.size + 1 := by simp
    rw [e] at this
    exact this
  have s1 : ((w.alloc (.cells (splV (.slice A1 l1.length c1) o1).toArray 29)).alloc (.cells (splV (.slice A2 l2.length c2) o2).toArray 29)).cell? ⟨w.heap.size, 0, none⟩ = some (.slice A1 l1.length c1) := X1.out.cell (k := 0) rfl
  have s2 : ((w.alloc (.cells (splV (.slice A1 l1.length c1) o1).toArray 29)).alloc (.cells (splV (.slice A2 l2.length c2) o2).toArray 29)).cell? ⟨w.heap.size + 1, 0, none⟩ = some (.slice A2 l2.length c2) := X2.out.cell (k := 0) rfl
  have q := eqIn_own o1 o2 ((w.alloc (.cells (splV (.slice A1 l1.length c1) o1).toArray 29)).alloc (.cells (splV (.slice A2 l2.length c2) o2).toArray 29)) m1 m2
  have u1 := h1.cap
  have u2 := h2.cap
  have V1 := Lib.hid (((h1.alloc (Nat.le_refl _) (.cells (splV (.slice A1 l1.length c1) o1).toArray 29)).alloc (by simp) (.cells (splV (.slice A2 l2.length c2) o2).toArray 29)).more (Nat.le_of_lt hW1))
  have V2 := Lib.hid (((h2.alloc (Nat.le_refl _) (.cells (splV (.slice A1 l1.length c1) o1).toArray 29)).alloc (by simp) (.cells (splV (.slice A2 l2.length c2) o2).toArray 29)).more (Nat.le_of_lt hW1))
  have m1 := Lib.hid m1
  have m2 := Lib.hid m2
  clear h1 h2
  go_enter Try.func14, Try.ntmps14
  by_cases ho : o1 = o2
  rotate_left
  · rw [decide_eq_false ho] at q
    have hres := Lib.hid (show decide (l1 = l2 ∧ o1 = o2) = false by rw [decide_eq_false_iff_not]; exact fun h => ho h.2)
    clear ho s1 s2
    go_wp2_with (first
  | (refine wpList_load_box rfl 26 (.tmp 8) rfl w.heap.size 1 rfl (splV (.slice A1 l1.length c1) o1) (o1.map (Value.int .i64)) X1.out (spl_own) _ Try.underlying26 rfl 16 (by kernel_rfl) (by simp [m1.out]) ?_)
  | (refine wpList_load_box rfl 26 (.tmp 10) rfl (w.heap.size + 1) 1 rfl (splV (.slice A2 l2.length c2) o2) (o2.map (Value.int .i64)) X2.out (spl_own) _ Try.underlying26 rfl 16 (by kernel_rfl) (by simp [m2.out]) ?_))
    go_ret
    exact ⟨ret_bool hres.out.symm, hK.out _ (Kept.refl _)⟩
  rw [decide_eq_true ho] at q
  have HO := Lib.hid ho
  clear ho
  by_cases hn : l1.length = l2.length
  rotate_left
  · have hres := Lib.hid (show decide (l1 = l2 ∧ o1 = o2) = false by rw [decide_eq_false_iff_not]; exact fun h => hn (by rw [h.1]))
    have hb : ((l1.length : Int) != l2.length) = true := by simp; omega
    clear hn
    go_wp2_with (first
  | (refine wpList_load_box rfl 26 (.tmp 8) rfl w.heap.size 1 rfl (splV (.slice A1 l1.length c1) o1) (o1.map (Value.int .i64)) X1.out (spl_own) _ Try.underlying26 rfl 16 (by kernel_rfl) (by simp [m1.out]) ?_)
  | (refine wpList_load_box rfl 26 (.tmp 10) rfl (w.heap.size + 1) 1 rfl (splV (.slice A2 l2.length c2) o2) (o2.map (Value.int .i64)) X2.out (spl_own) _ Try.underlying26 rfl 16 (by kernel_rfl) (by simp [m2.out]) ?_))
    go_ret
    exact ⟨ret_bool hres.out.symm, hK.out _ (Kept.refl _)⟩
  have hb : ((l1.length : Int) != l2.length) = false := by simp; omega
  have HNN := Lib.hid hn
  clear hn
  go_wp2_with (first
  | (refine wpList_load_box rfl 26 (.tmp 8) rfl w.heap.size 1 rfl (splV (.slice A1 l1.length c1) o1) (o1.map (Value.int .i64)) X1.out (spl_own) _ Try.underlying26 rfl 16 (by kernel_rfl) (by simp [m1.out]) ?_)
  | (refine wpList_load_box rfl 26 (.tmp 10) rfl (w.heap.size + 1) 1 rfl (splV (.slice A2 l2.length c2) o2) (o2.map (Value.int .i64)) X2.out (spl_own) _ Try.underlying26 rfl 16 (by kernel_rfl) (by simp [m2.out]) ?_))
  clear q hb
  have hn := HNN.out
  clear HNN
  generalize ((w.alloc (.cells (splV (.slice A1 l1.length c1) o1).toArray 29)).alloc (.cells (splV (.slice A2 l2.length c2) o2).toArray 29)) = W at *
  have S1 := Lib.hid (fun (x : World) (h : Kept W x) => h.cell hW1 s1)
  have S2 := Lib.hid (fun (x : World) (h : Kept W x) => h.cell hW2 s2)
  clear s1 s2 X1 X2 m1 m2
  have HA1 := Lib.hid (fun j (h : j < l1.length) => at_someG (l := l1) (j := j) h)
  have HA2 := Lib.hid (fun j (h : j < l1.length) => at_someG (l := l2) (j := j) (by omega))
  have HS := Lib.hid (fun (j : Nat) (x y : BlkC) (hx : l1[j]? = some x) (hy : l2[j]? = some y) => drop_eqG hx hy)
  have HE1 := Lib.hid (fun (k : Nat) (h : l1.length ≤ k) => (show l1.drop k = [] from List.drop_eq_nil_of_le (by omega)))
  have HE2 := Lib.hid (fun (k : Nat) (h : l1.length ≤ k) => (show l2.drop k = [] from List.drop_eq_nil_of_le (by omega)))
  have H0 := Lib.hid (show (l1 = l2) ↔ (l1.drop 0 = l2.drop 0) by rw [List.drop_zero, List.drop_zero])
  have HAt1 := Lib.hid (fun (x : World) (h : Kept W x) b off (e : A1 = some ⟨b, off, none⟩) k c (hc : l1[k]? = some c) => (e ▸ (V1.out.below (w' := x) h).more h.size : BlksV x x.heap.size (.slice (some ⟨b, off, none⟩) l1.length c1) l1).at_ hc)
  have HAt2 := Lib.hid (fun (x : World) (h : Kept W x) b off (e : A2 = some ⟨b, off, none⟩) k c (hc : l2[k]? = some c) => (e ▸ (V2.out.below (w' := x) h).more h.size : BlksV x x.heap.size (.slice (some ⟨b, off, none⟩) l2.length c2) l2).at_ hc)
  have HSp1 := Lib.hid (fun (h : l1.length ≠ 0) => V1.out.spot h)
  have HSp2 := Lib.hid (fun (h : l2.length ≠ 0) => V2.out.spot h)
  clear V1 V2
  generalize hN : l1.length = n at *
  have HN := Lib.hid hN
  have HM := Lib.hid hn
  rw [← hn] at HSp2 S2
  try rw [← hn] at HAt2
  clear hN hn u2
  go_loopw [5] (fun i wr => ∃ j : Nat, j ≤ n ∧ i = .int .i64 j ∧ Kept W wr ∧ ((l1 = l2) ↔ (l1.drop j = l2.drop j))) (fun i _ => n - (intOf i).toNat)
  case atStart => exact ⟨0, Nat.zero_le _, rfl, Kept.refl _, H0.out⟩
  case round =>
    obtain ⟨j, hj, rfl, hk, hT⟩ := hrel
    have HT := Lib.hid hT
    clear hT
    have s1 := S1.out _ hk
    have s2 := S2.out _ hk
    have hwz := hk.size
    by_cases hlt : j < n
    · obtain ⟨x, hx⟩ := HA1.out j hlt
      obtain ⟨y, hy⟩ := HA2.out j hlt
      obtain ⟨b1, o3, rfl⟩ := HSp1.out (by omega)
      obtain ⟨b2, o4, rfl⟩ := HSp2.out (by omega)
      have hs := Lib.hid (HS.out j x y hx hy)
      obtain ⟨A3, c3, A5, c5, a0, a1, a2, a3, a4, a5, RXA, RXE⟩ := HAt1.out _ hk _ _ rfl j x hx
      obtain ⟨A4, c4, A6, c6, b0, b1', b2', b3, b4, b5, RYA, RYE⟩ := HAt2.out _ hk _ _ rfl j y hy
      have k0 : (0 : Int) ≤ j := by omega
      have k1 : (j : Int) < n := by omega
      have k2 : (j : Int) < l2.length := by have := HM.out; omega
      have hz1 : w.heap.size < wr.heap.size := by omega
      have hz2 : w.heap.size + 1 < wr.heap.size := by omega
      have hb1 : b1 < wr.heap.size := World.block_lt_of_cell? _ _ a0
      have hb2 : b2 < wr.heap.size := World.block_lt_of_cell? _ _ b0
      have RXA := Lib.hid (fun (z : World) (h : Kept wr z) => h.row RXA)
      have RXE := Lib.hid (fun (z : World) (h : Kept wr z) => h.row RXE)
      have RYA := Lib.hid (fun (z : World) (h : Kept wr z) => h.row RYA)
      have RYE := Lib.hid (fun (z : World) (h : Kept wr z) => h.row RYE)
      clear hx hy
      by_cases h_from_ : x.from_ = y.from_
      rotate_left
      · have hb_from_ : (x.from_ != y.from_) = true := by simpa using h_from_
        have hres := Lib.hid (show decide (l1 = l2 ∧ o1 = o2) = false by rw [decide_eq_false_iff_not]; exact fun h => h_from_ (by rw [(hs.out.1 (HT.out.1 h.1)).1]))
        clear h_from_
        go_wp2_with fail
        go_ret
        exact ⟨ret_bool hres.out.symm, hK.out _ ((hk.alloc _).alloc _)⟩
      have hb_from_ : (x.from_ != y.from_) = false := by simpa using h_from_
      have H_from_ := Lib.hid h_from_
      clear h_from_
      by_cases h_to : x.to = y.to
      rotate_left
      · have hb_to : (x.to != y.to) = true := by simpa using h_to
        have hres := Lib.hid (show decide (l1 = l2 ∧ o1 = o2) = false by rw [decide_eq_false_iff_not]; exact fun h => h_to (by rw [(hs.out.1 (HT.out.1 h.1)).1]))
        clear h_to
        go_wp2_with fail
        go_ret
        exact ⟨ret_bool hres.out.symm, hK.out _ ((hk.alloc _).alloc _)⟩
      have hb_to : (x.to != y.to) = false := by simpa using h_to
      have H_to := Lib.hid h_to
      clear h_to
      by_cases h_next : x.next = y.next
      rotate_left
      · have hb_next : (x.next != y.next) = true := by simpa using h_next
        have hres := Lib.hid (show decide (l1 = l2 ∧ o1 = o2) = false by rw [decide_eq_false_iff_not]; exact fun h => h_next (by rw [(hs.out.1 (HT.out.1 h.1)).1]))
        clear h_next
        go_wp2_with fail
        go_ret
        exact ⟨ret_bool hres.out.symm, hK.out _ ((hk.alloc _).alloc _)⟩
      have hb_next : (x.next != y.next) = false := by simpa using h_next
      have H_next := Lib.hid h_next
      clear h_next
      by_cases h_taken : x.taken = y.taken
      rotate_left
      · have hb_taken : (x.taken != y.taken) = true := by simpa using h_taken
        have hres := Lib.hid (show decide (l1 = l2 ∧ o1 = o2) = false by rw [decide_eq_false_iff_not]; exact fun h => h_taken (by rw [(hs.out.1 (HT.out.1 h.1)).1]))
        clear h_taken
        go_wp2_with fail
        go_ret
        exact ⟨ret_bool hres.out.symm, hK.out _ ((hk.alloc _).alloc _)⟩
      have hb_taken : (x.taken != y.taken) = false := by simpa using h_taken
      have H_taken := Lib.hid h_taken
      clear h_taken
      go_wp2_with fail
      refine (refSameCells_any A3 A4 x.a.length y.a.length c3 c4 x.a y.a _ rfl rfl (RXA.out _ (((Kept.refl _).alloc _).alloc _)) (RYA.out _ (((Kept.refl _).alloc _).alloc _))).mono ?_; rintro e w3 ⟨rfl, q3, rfl⟩
      by_cases h_a : x.a = y.a
      rotate_left
      · rw [decide_eq_false h_a]
        have hres := Lib.hid (show decide (l1 = l2 ∧ o1 = o2) = false by rw [decide_eq_false_iff_not]; exact fun h => h_a (by rw [(hs.out.1 (HT.out.1 h.1)).1]))
        clear h_a
        go_wp2_with fail
        go_ret
        exact ⟨ret_bool hres.out.symm, hK.out _ (((hk.alloc _).alloc _).drewN q3)⟩
      rw [decide_eq_true h_a]
      have H_a := Lib.hid h_a
      clear h_a
      go_wp2_with fail
      refine (refSameCells_any A5 A6 x.e.length y.e.length c5 c6 x.e y.e _ rfl rfl (RXE.out _ ((((Kept.refl _).alloc _).alloc _).drewN q3)) (RYE.out _ ((((Kept.refl _).alloc _).alloc _).drewN q3))).mono ?_; rintro e w4 ⟨rfl, q4, rfl⟩
      by_cases h_e : x.e = y.e
      rotate_left
      · rw [decide_eq_false h_e]
        have hres := Lib.hid (show decide (l1 = l2 ∧ o1 = o2) = false by rw [decide_eq_false_iff_not]; exact fun h => h_e (by rw [(hs.out.1 (HT.out.1 h.1)).1]))
        clear h_e
        go_wp2_with fail
        go_ret
        exact ⟨ret_bool hres.out.symm, hK.out _ (((hk.alloc _).alloc _).drewN _)⟩
      rw [decide_eq_true h_e]
      have hxy : x = y := by
        have e1 := H_from_.out; have e2 := H_to.out; have e3 := H_next.out; have e4 := H_taken.out; have e5 := H_a.out
        cases x; cases y; simp at e1 e2 e3 e4 e5 h_e; simp [e1, e2, e3, e4, e5, h_e]
      have hres := Lib.hid (show (l1 = l2) ↔ (l1.drop (j + 1) = l2.drop (j + 1)) by rw [HT.out, hs.out]; simp [hxy])
      clear hxy h_e
      go_wp2_with fail
      go_roundw
      case rel => exact ⟨j + 1, by omega, by go_num, ((hk.alloc _).alloc _).drewN _, hres.out⟩
      case measure => simp [intOf]; omega
    · have hres := Lib.hid (show decide (l1 = l2 ∧ o1 = o2) = true by rw [decide_eq_true_iff]; exact ⟨by rw [HT.out, HE1.out j (by omega), HE2.out j (by omega)], HO.out⟩)
      go_wp2_with fail
      go_ret
      exact ⟨ret_bool hres.out.symm, hK.out _ hk⟩
end Go.Proofs.Ytbibfpopkcekdaa.Words

/- Contracts of slices.Equal over cells, of package split's sameBlock, of slices.EqualFunc over blocks, and of Same. -/
namespace Go.Proofs.Ytbibfpopkcekdaa.Words
set_option maxRecDepth 100000
open Go.RowKit
set_option linter.unusedVariables false
set_option linter.unusedSimpArgs false

set_option maxHeartbeats 2000000 in
theorem eqCells_any (A1 A2 : Option Addr) (n1 n2 c1 c2 : Nat) (l1 l2 : List Cel) (w : World) (e1 : l1.length = n1) (e2 : l2.length = n2)
    (h1 : Row w w.heap.size 9 (.slice A1 n1 c1) n1 (flat celCells l1)) (h2 : Row w w.heap.size 9 (.slice A2 n2 c2) n2 (flat celCells l2)) :
    Calls Try.prog 57 #[.slice A1 n1 c1, .slice A2 n2 c2] w fun e w' => e = .returned (.bool (decide (l1 = l2))) ∧ ∃ q, w' = w.drewN q := by
  obtain ⟨u1, u2⟩ := h1.cap
  obtain ⟨u5, u6⟩ := h2.cap
  by_cases hn : n1 = n2
  rotate_left
  · rw [decide_eq_false (fun h => hn (by rw [← e1, ← e2, h]))]
    have hb : ((n1 : Int) != n2) = true := by simp; omega
    clear h1 h2 e1 e2
    go_enter Try.func57, Try.ntmps57
    go_wp2_with fail
    go_ret
    exact ⟨rfl, 0, rfl⟩
  subst hn
  have E1 := Lib.hid e1
  have E2 := Lib.hid e2
  by_cases h0 : n1 = 0
  · have z1 : l1 = [] := List.eq_nil_of_length_eq_zero (by omega)
    have z2 : l2 = [] := List.eq_nil_of_length_eq_zero (by omega)
    subst h0 z1 z2
    clear h1 h2 e1 e2
    go_enter Try.func57, Try.ntmps57
    go_wp2_with fail
    refine wp_loop_rounds 1 ?_
    rw [rounds_succ]
    go_wp2_with fail
    go_ret
    exact ⟨rfl, 0, rfl⟩
  obtain ⟨b1, o1, rfl, hb1, _⟩ := h1.at_ h0
  obtain ⟨b2, o2, rfl, hb2, _⟩ := h2.at_ h0
  have HC1 := Lib.hid (fun (k : Nat) (i : Cel) (hi : l1[k]? = some i) => h1.cel hi)
  have HC2 := Lib.hid (fun (k : Nat) (i : Cel) (hi : l2[k]? = some i) => h2.cel hi)
  have HA1 := Lib.hid (fun j (h : j < n1) => at_someG (l := l1) (j := j) (by omega))
  have HA2 := Lib.hid (fun j (h : j < n1) => at_someG (l := l2) (j := j) (by omega))
  have HS := Lib.hid (fun (j : Nat) (x y : Cel) (hx : l1[j]? = some x) (hy : l2[j]? = some y) => drop_eqG hx hy)
  have HE1 := Lib.hid (fun (k : Nat) (h : n1 ≤ k) => (show l1.drop k = [] from List.drop_eq_nil_of_le (by omega)))
  have HE2 := Lib.hid (fun (k : Nat) (h : n1 ≤ k) => (show l2.drop k = [] from List.drop_eq_nil_of_le (by omega)))
  have H0 := Lib.hid (show (l1 = l2) ↔ (l1.drop 0 = l2.drop 0) by rw [List.drop_zero, List.drop_zero])
  clear h1 h2 e1 e2
  go_enter Try.func57, Try.ntmps57
  go_wp2_with fail
  go_loopw [13] (fun i wr => ∃ j m : Nat, j ≤ n1 ∧ i = .int .i64 j ∧ wr = w.drewN m ∧ ((l1 = l2) ↔ (l1.drop j = l2.drop j))) (fun i _ => n1 - (intOf i).toNat)
  case atStart => exact ⟨0, 0, Nat.zero_le _, rfl, rfl, H0.out⟩
  case round =>
    obtain ⟨j, m, hj, rfl, rfl, hT⟩ := hrel
    have HT := Lib.hid hT
    clear hT
    by_cases hlt : j < n1
    · obtain ⟨x, hx⟩ := HA1.out j hlt
      obtain ⟨y, hy⟩ := HA2.out j hlt
      have hs := Lib.hid (HS.out j x y hx hy)
      obtain ⟨a0, a1, a2, a3, a4, a5, a6, a7, a8⟩ := HC1.out j x hx
      obtain ⟨b0, b1', b2', b3, b4, b5, b6, b7, b8⟩ := HC2.out j y hy
      have k0 : (0 : Int) ≤ j := by omega
      have k1 : (j : Int) < n1 := by omega
      clear hx hy
      have q := neq_cel x y
      unfold celV at q
      by_cases hxy : x = y
      · subst hxy
        have hd : decide (x = x) = true := by simp
        rw [hd] at q
        have hres := Lib.hid (show (l1 = l2) ↔ (l1.drop (j + 1) = l2.drop (j + 1)) by rw [HT.out, hs.out]; simp)
        clear hd
        go_wp2_with fail
        go_quiet (fail)
        go_wp2_with fail
        go_roundw
        case rel => exact ⟨j + 1, _, by omega, by go_num, rfl, hres.out⟩
        case measure => simp [intOf]; omega
      · have hd : decide (x = y) = false := by simpa using hxy
        rw [hd] at q
        have hres := Lib.hid (show decide (l1 = l2) = false by rw [decide_eq_false_iff_not, HT.out, hs.out]; exact fun h => hxy h.1)
        clear hd hxy
        go_wp2_with fail
        go_quiet (fail)
        go_wp2_with fail
        go_ret
        exact ⟨ret_bool hres.out.symm, _, by rw [World.drewN_drewN]⟩
    · have hres := Lib.hid (show decide (l1 = l2) = true by rw [decide_eq_true_iff, HT.out, HE1.out j (by omega), HE2.out j (by omega)])
      go_wp2_with fail
      go_ret
      exact ⟨ret_bool hres.out.symm, m, rfl⟩
theorem blkC_ne {x y : BlkC} (h : x ≠ y) : True := trivial
set_option maxHeartbeats 4000000 in
theorem sameBlock_any (x y : BlkC) (A3 A4 A5 A6 : Option Addr) (c3 c4 c5 c6 : Nat) (w : World) (h3 : Row w w.heap.size 9 (.slice A3 x.a.length c3) x.a.length (flat celCells x.a)) (h4 : Row w w.heap.size 9 (.slice A4 y.a.length c4) y.a.length (flat celCells y.a))
    (h5 : Row w w.heap.size 9 (.slice A5 x.e.length c5) x.e.length (flat celCells x.e)) (h6 : Row w w.heap.size 9 (.slice A6 y.e.length c6) y.e.length (flat celCells y.e)) :
    Calls Try.prog 30 #[.agg #[.int .i64 x.from_, .int .i64 x.to, .int .i64 x.next, .int .i64 x.taken, .slice A3 x.a.length c3, .slice A5 x.e.length c5], .agg #[.int .i64 y.from_, .int .i64 y.to, .int .i64 y.next, .int .i64 y.taken, .slice A4 y.a.length c4, .slice A6 y.e.length c6]] w fun e w' => e = .returned (.bool (decide (x = y))) ∧ Below w.heap.size w w' := by
  obtain ⟨W, hW⟩ : ∃ W, W = (w.alloc (.cells #[.int .i64 x.from_, .int .i64 x.to, .int .i64 x.next, .int .i64 x.taken, .slice A3 x.a.length c3, .slice A5 x.e.length c5] 47)).alloc (.cells #[.int .i64 y.from_, .int .i64 y.to, .int .i64 y.next, .int .i64 y.taken, .slice A4 y.a.length c4, .slice A6 y.e.length c6] 47) := ⟨_, rfl⟩
  have HB : Hid (Below w.heap.size w W) := by rw [hW]; exact ((Below.refl w.heap.size w).alloc (Nat.le_refl _) _).alloc (by simp) _
  have X1 : Hid (Box W w.heap.size [.int .i64 x.from_, .int .i64 x.to, .int .i64 x.next, .int .i64 x.taken, .slice A3 x.a.length c3, .slice A5 x.e.length c5]) := by rw [hW]; exact (Box.new w _ _).alloc _
  have X2 : Hid (Box W (w.heap.size + 1) [.int .i64 y.from_, .int .i64 y.to, .int .i64 y.next, .int .i64 y.taken, .slice A4 y.a.length c4, .slice A6 y.e.length c6]) := by
    rw [hW]
    have := Box.new (w.alloc (.cells #[.int .i64 x.from_, .int .i64 x.to, .int .i64 x.next, .int .i64 x.taken, .slice A3 x.a.length c3, .slice A5 x.e.length c5] 47)) [.int .i64 y.from_, .int .i64 y.to, .int .i64 y.next, .int .i64 y.taken, .slice A4 y.a.length c4, .slice A6 y.e.length c6] 47
    rw [show (w.alloc (.cells #[.int .i64 x.from_, .int .i64 x.to, .int .i64 x.next, .int .i64 x.taken, .slice A3 x.a.length c3, .slice A5 x.e.length c5] 47)).heap.size = w.heap.size + 1 by simp] at this
    exact this
  have HX := Lib.hid (fun (q : Nat) => eqCells_any A3 A4 x.a.length y.a.length c3 c4 x.a y.a (W.drewN q) rfl rfl ((h3.below HB.out).more HB.out.size) ((h4.below HB.out).more HB.out.size))
  have HY := Lib.hid (fun (q : Nat) => eqCells_any A5 A6 x.e.length y.e.length c5 c6 x.e y.e (W.drewN q) rfl rfl ((h5.below HB.out).more HB.out.size) ((h6.below HB.out).more HB.out.size))
  clear h3 h4 h5 h6
  go_enter Try.func30, Try.ntmps30
  go_upto_region 1 with (fail)
  change Code.wp _ _ _ _ ((w.alloc (.cells #[.int .i64 x.from_, .int .i64 x.to, .int .i64 x.next, .int .i64 x.taken, .slice A3 x.a.length c3, .slice A5 x.e.length c5] 47)).alloc (.cells #[.int .i64 y.from_, .int .i64 y.to, .int .i64 y.next, .int .i64 y.taken, .slice A4 y.a.length c4, .slice A6 y.e.length c6] 47))
  rw [← hW]
  clear hW
  have x0 : W.cell? ⟨w.heap.size, 0, none⟩ = some _ := X1.out.cell (k := 0) rfl
  have y0 : W.cell? ⟨w.heap.size + 1, 0, none⟩ = some _ := X2.out.cell (k := 0) rfl
  have x1 : W.cell? ⟨w.heap.size, 1, none⟩ = some _ := X1.out.cell (k := 1) rfl
  have y1 : W.cell? ⟨w.heap.size + 1, 1, none⟩ = some _ := X2.out.cell (k := 1) rfl
  have x2 : W.cell? ⟨w.heap.size, 2, none⟩ = some _ := X1.out.cell (k := 2) rfl
  have y2 : W.cell? ⟨w.heap.size + 1, 2, none⟩ = some _ := X2.out.cell (k := 2) rfl
  have x3 : W.cell? ⟨w.heap.size, 3, none⟩ = some _ := X1.out.cell (k := 3) rfl
  have y3 : W.cell? ⟨w.heap.size + 1, 3, none⟩ = some _ := X2.out.cell (k := 3) rfl
  have x4 : W.cell? ⟨w.heap.size, 4, none⟩ = some _ := X1.out.cell (k := 4) rfl
  have y4 : W.cell? ⟨w.heap.size + 1, 4, none⟩ = some _ := X2.out.cell (k := 4) rfl
  have x5 : W.cell? ⟨w.heap.size, 5, none⟩ = some _ := X1.out.cell (k := 5) rfl
  have y5 : W.cell? ⟨w.heap.size + 1, 5, none⟩ = some _ := X2.out.cell (k := 5) rfl
  by_cases h_from_ : x.from_ = y.from_
  rotate_left
  · have hb : (x.from_ == y.from_) = false := by simpa using h_from_
    have hres := Lib.hid (show decide (x = y) = false from decide_eq_false (fun h => h_from_ (by rw [h])))
    clear h_from_ HX HY X1 X2
    go_wp2_with fail
    go_ret
    exact ⟨ret_bool hres.out.symm, HB.out⟩
  have b_from_ : (x.from_ == y.from_) = true := by simpa using h_from_
  have H_from_ := Lib.hid h_from_
  clear h_from_
  by_cases h_to : x.to = y.to
  rotate_left
  · have hb : (x.to == y.to) = false := by simpa using h_to
    have hres := Lib.hid (show decide (x = y) = false from decide_eq_false (fun h => h_to (by rw [h])))
    clear h_to HX HY X1 X2
    go_wp2_with fail
    go_ret
    exact ⟨ret_bool hres.out.symm, HB.out⟩
  have b_to : (x.to == y.to) = true := by simpa using h_to
  have H_to := Lib.hid h_to
  clear h_to
  by_cases h_next : x.next = y.next
  rotate_left
  · have hb : (x.next == y.next) = false := by simpa using h_next
    have hres := Lib.hid (show decide (x = y) = false from decide_eq_false (fun h => h_next (by rw [h])))
    clear h_next HX HY X1 X2
    go_wp2_with fail
    go_ret
    exact ⟨ret_bool hres.out.symm, HB.out⟩
  have b_next : (x.next == y.next) = true := by simpa using h_next
  have H_next := Lib.hid h_next
  clear h_next
  by_cases h_taken : x.taken = y.taken
  rotate_left
  · have hb : (x.taken == y.taken) = false := by simpa using h_taken
    have hres := Lib.hid (show decide (x = y) = false from decide_eq_false (fun h => h_taken (by rw [h])))
    clear h_taken HX HY X1 X2
    go_wp2_with fail
    go_ret
    exact ⟨ret_bool hres.out.symm, HB.out⟩
  have b_taken : (x.taken == y.taken) = true := by simpa using h_taken
  have H_taken := Lib.hid h_taken
  clear h_taken
  go_wp2_with fail
  refine (HX.out 0).mono ?_; rintro e w3 ⟨rfl, q3, rfl⟩
  by_cases h_a : x.a = y.a
  rotate_left
  · rw [decide_eq_false h_a]
    have hres := Lib.hid (show decide (x = y) = false from decide_eq_false (fun h => h_a (by rw [h])))
    clear h_a HX HY X1 X2
    try dsimp only
    go_wp2_with fail
    go_ret
    exact ⟨ret_bool hres.out.symm, (HB.out.trans (Below.drewN_ (Below.refl _ _) _))⟩
  rw [decide_eq_true h_a]
  have H_a := Lib.hid h_a
  clear h_a
  try dsimp only
  go_wp2_with fail
  refine (HY.out q3).mono ?_; rintro e w4 ⟨rfl, q4, rfl⟩
  have hres : Hid (decide (x.e = y.e) = decide (x = y)) := by
    show _ = _
    have e1 := H_from_.out; have e2 := H_to.out; have e3 := H_next.out; have e4 := H_taken.out; have e5 := H_a.out
    by_cases h : x.e = y.e
    · rw [decide_eq_true h, decide_eq_true]; cases x; cases y; simp at e1 e2 e3 e4 e5 h; simp [e1, e2, e3, e4, e5, h]
    · rw [decide_eq_false h, decide_eq_false]; exact fun hh => h (by rw [hh])
  cases hd : decide (x.e = y.e)
  all_goals
    rw [hd] at hres
    clear hd HX HY X1 X2
    try dsimp only
    go_wp2_with fail
    go_ret
    exact ⟨ret_bool hres.out, (HB.out.trans (Below.drewN_ (Below.refl _ _) _))⟩
end Go.Proofs.Ytbibfpopkcekdaa.Words

/- Contracts of slices.EqualFunc over blocks, and of package split's Same. -/
namespace Go.Proofs.Ytbibfpopkcekdaa.Words
set_option maxRecDepth 100000
open Go.RowKit
set_option linter.unusedVariables false
set_option linter.unusedSimpArgs false

set_option maxHeartbeats 4000000 in
theorem eqFunc_any (A1 A2 : Option Addr) (c1 c2 : Nat) (l1 l2 : List BlkC) (w : World) (h1 : BlksV w w.heap.size (.slice A1 l1.length c1) l1) (h2 : BlksV w w.heap.size (.slice A2 l2.length c2) l2) :
    Calls Try.prog 29 #[.slice A1 l1.length c1, .slice A2 l2.length c2, .func (.func 30) #[] #[]] w fun e w' => e = .returned (.bool (decide (l1 = l2))) ∧ Below w.heap.size w w' := by
  have u1 := h1.cap
  have u2 := h2.cap
  by_cases hn : l1.length = l2.length
  rotate_left
  · rw [decide_eq_false (fun h => hn (by rw [h]))]
    have hb : ((l1.length : Int) != l2.length) = true := by simp; omega
    clear h1 h2
    go_enter Try.func29, Try.ntmps29
    go_wp2_with fail
    go_ret
    exact ⟨rfl, Below.refl _ _⟩
  have V1 := Lib.hid h1
  have V2 := Lib.hid h2
  have HSp1 := Lib.hid (fun (h : l1.length ≠ 0) => h1.spot h)
  have HSp2 := Lib.hid (fun (h : l2.length ≠ 0) => h2.spot h)
  have HS := Lib.hid (fun (j : Nat) (x y : BlkC) (hx : l1[j]? = some x) (hy : l2[j]? = some y) => drop_eqG hx hy)
  have HA1 := Lib.hid (fun j (h : j < l1.length) => at_someG (l := l1) (j := j) h)
  have HA2 := Lib.hid (fun j (h : j < l2.length) => at_someG (l := l2) (j := j) h)
  have HE1 := Lib.hid (fun (k : Nat) (h : l1.length ≤ k) => (show l1.drop k = [] from List.drop_eq_nil_of_le h))
  have HE2 := Lib.hid (fun (k : Nat) (h : l2.length ≤ k) => (show l2.drop k = [] from List.drop_eq_nil_of_le h))
  have H0 := Lib.hid (show (l1 = l2) ↔ (l1.drop 0 = l2.drop 0) by rw [List.drop_zero, List.drop_zero])
  have hz2 : l2.length = 0 → l2 = [] := List.eq_nil_of_length_eq_zero
  have hz1 : l1.length = 0 → l1 = [] := List.eq_nil_of_length_eq_zero
  clear h1 h2
  rw [← hn] at V2 HSp2 HA2 HE2 hz2 u2 ⊢
  clear hn
  generalize l1.length = n at *
  by_cases h0 : n = 0
  · subst h0
    rw [hz1 rfl, hz2 rfl]
    clear hz1 hz2 V1 V2 HSp1 HSp2 HS HA1 HA2 HE1 HE2 H0
    go_enter Try.func29, Try.ntmps29
    go_wp2_with fail
    refine wp_loop_rounds 1 ?_
    rw [rounds_succ]
    go_wp2_with fail
    go_ret
    exact ⟨rfl, Below.refl _ _⟩
  obtain ⟨b1, o1, rfl⟩ := HSp1.out h0
  obtain ⟨b2, o2, rfl⟩ := HSp2.out h0
  have HAt1 := Lib.hid (fun (y : World) (h : Kept w y) k c (hc : l1[k]? = some c) => ((V1.out.below (w' := y) h).more h.size).at_ hc)
  have HAt2 := Lib.hid (fun (y : World) (h : Kept w y) k c (hc : l2[k]? = some c) => ((V2.out.below (w' := y) h).more h.size).at_ hc)
  clear hz1 hz2 V1 V2 HSp1 HSp2 h0
  go_enter Try.func29, Try.ntmps29
  go_wp2_with fail
  go_loopw [17] (fun i wr => ∃ j : Nat, j ≤ n ∧ i = .int .i64 j ∧ Kept w wr ∧ ((l1 = l2) ↔ (l1.drop j = l2.drop j))) (fun i _ => n - (intOf i).toNat)
  case atStart => exact ⟨0, Nat.zero_le _, rfl, Kept.refl _, H0.out⟩
  case round =>
    obtain ⟨j, hj, rfl, hk, hT⟩ := hrel
    have HT := Lib.hid hT
    have HK := Lib.hid hk
    clear hT
    by_cases hlt : j < n
    · obtain ⟨x, hx⟩ := HA1.out j hlt
      obtain ⟨y, hy⟩ := HA2.out j hlt
      have hs := Lib.hid (HS.out j x y hx hy)
      obtain ⟨A3, c3, A5, c5, a0, a1, a2, a3, a4, a5, ra, re⟩ := HAt1.out wr hk j x hx
      obtain ⟨A4, c4, A6, c6, d0, d1, d2, d3, d4, d5, sa, se⟩ := HAt2.out wr hk j y hy
      have HRA := Lib.hid ra
      have HRE := Lib.hid re
      have HSA := Lib.hid sa
      have HSE := Lib.hid se
      have k0 : (0 : Int) ≤ j := by omega
      have k1 : (j : Int) < n := by omega
      have z1 : b1 < wr.heap.size := by
        rcases Nat.lt_or_ge b1 wr.heap.size with h | h
        · exact h
        · simp only [World.cell?] at a0; rw [Array.getElem?_eq_none h] at a0; simp at a0
      have z2 : b2 < wr.heap.size := by
        rcases Nat.lt_or_ge b2 wr.heap.size with h | h
        · exact h
        · simp only [World.cell?] at d0; rw [Array.getElem?_eq_none h] at d0; simp at d0
      clear hx hy ra re sa se hk
      have hQ := fun (W : World) (hW : Kept wr W) => sameBlock_any x y A3 A4 A5 A6 c3 c4 c5 c6 W ((HRA.out.below hW).more hW.size) ((HSA.out.below hW).more hW.size) ((HRE.out.below hW).more hW.size) ((HSE.out.below hW).more hW.size)
      have HQ := Lib.hid hQ
      clear hQ
      go_wp2_with fail
      refine (HQ.out _ (((Kept.refl wr).alloc _).alloc _)).mono ?_; rintro e w5 ⟨rfl, hb5⟩
      have HK5 := Lib.hid (((HK.out.alloc (.cells #[.int .i64 x.from_, .int .i64 x.to, .int .i64 x.next, .int .i64 x.taken, .slice A3 x.a.length c3, .slice A5 x.e.length c5] 47)).alloc (.cells #[.int .i64 y.from_, .int .i64 y.to, .int .i64 y.next, .int .i64 y.taken, .slice A4 y.a.length c4, .slice A6 y.e.length c6] 47)).to hb5)
      clear hb5 HQ a0 a1 a2 a3 a4 a5 d0 d1 d2 d3 d4 d5 z1 z2
      by_cases hxy : x = y
      · rw [decide_eq_true hxy]
        have hres := Lib.hid (show (l1 = l2) ↔ (l1.drop (j + 1) = l2.drop (j + 1)) by rw [HT.out, hs.out]; simp [hxy])
        clear hxy
        go_wp2_with fail
        go_roundw
        case rel => exact ⟨j + 1, by omega, by go_num, HK5.out, hres.out⟩
        case measure => simp [intOf]; omega
      · rw [decide_eq_false hxy]
        have hres := Lib.hid (show decide (l1 = l2) = false by rw [decide_eq_false_iff_not, HT.out, hs.out]; exact fun h => hxy h.1)
        clear hxy
        go_wp2_with fail
        go_ret
        exact ⟨ret_bool hres.out.symm, HK5.out⟩
    · have hres := Lib.hid (show decide (l1 = l2) = true by rw [decide_eq_true_iff, HT.out, HE1.out j (by omega), HE2.out j (by omega)])
      go_wp2_with fail
      go_ret
      exact ⟨ret_bool hres.out.symm, HK.out⟩
end Go.Proofs.Ytbibfpopkcekdaa.Words

/- Contract of package split's Same: are two splits one? -/
namespace Go.Proofs.Ytbibfpopkcekdaa.Words
set_option maxRecDepth 100000
open Go.RowKit
set_option linter.unusedVariables false
set_option linter.unusedSimpArgs false

set_option maxHeartbeats 4000000 in
theorem splSame_any (A1 A2 : Option Addr) (c1 c2 : Nat) (l1 l2 : List BlkC) (o1 o2 : List Int) (w : World) (m1 : o1.length = 16) (m2 : o2.length = 16)
    (h1 : BlksV w w.heap.size (.slice A1 l1.length c1) l1) (h2 : BlksV w w.heap.size (.slice A2 l2.length c2) l2) :
    Calls Try.prog 16 #[.agg (splV (.slice A1 l1.length c1) o1).toArray, .agg (splV (.slice A2 l2.length c2) o2).toArray] w fun e w' => e = .returned (.bool (decide (l1 = l2 ∧ o1 = o2))) ∧ Below w.heap.size w w' := by
  obtain ⟨W, hW⟩ : ∃ W, W = (w.alloc (.cells (splV (.slice A1 l1.length c1) o1).toArray 29)).alloc (.cells (splV (.slice A2 l2.length c2) o2).toArray 29) := ⟨_, rfl⟩
  have HB : Hid (Below w.heap.size w W) := by rw [hW]; exact ((Below.refl w.heap.size w).alloc (Nat.le_refl _) _).alloc (by simp) _
  have X1 : Hid (Box W w.heap.size (splV (.slice A1 l1.length c1) o1)) := by rw [hW]; exact (Box.new w _ _).alloc _
  have X2 : Hid (Box W (w.heap.size + 1) (splV (.slice A2 l2.length c2) o2)) := by
    rw [hW]
    have := Box.new (w.alloc (.cells (splV (.slice A1 l1.length c1) o1).toArray 29)) (splV (.slice A2 l2.length c2) o2) 29
    rw [show (w.alloc (.cells (splV (.slice A1 l1.length c1) o1).toArray 29)).heap.size = w.heap.size + 1 by simp] at this
    exact this
  have q := eqIn_own o1 o2 W m1 m2
  have HQ := Lib.hid (eqFunc_any A1 A2 c1 c2 l1 l2 W ((h1.below HB.out).more HB.out.size) ((h2.below HB.out).more HB.out.size))
  have M1 := Lib.hid m1
  have M2 := Lib.hid m2
  clear h1 h2 m1 m2
  go_enter Try.func16, Try.ntmps16
  go_upto_region 1 with (fail)
  change Code.wp _ _ _ _ ((w.alloc (.cells (splV (.slice A1 l1.length c1) o1).toArray 29)).alloc (.cells (splV (.slice A2 l2.length c2) o2).toArray 29))
  rw [← hW]
  clear hW
  have s1 : W.cell? ⟨w.heap.size, 0, none⟩ = some (.slice A1 l1.length c1) := X1.out.cell (k := 0) rfl
  have s2 : W.cell? ⟨w.heap.size + 1, 0, none⟩ = some (.slice A2 l2.length c2) := X2.out.cell (k := 0) rfl
  by_cases ho : o1 = o2
  rotate_left
  · rw [decide_eq_false ho] at q
    have hres := Lib.hid (show decide (l1 = l2 ∧ o1 = o2) = false by rw [decide_eq_false_iff_not]; exact fun h => ho h.2)
    clear ho s1 s2
    go_wp2_with (first
      | (refine wpList_load_box rfl 26 (.tmp 5) rfl w.heap.size 1 rfl (splV (.slice A1 l1.length c1) o1) (o1.map (Value.int .i64)) X1.out (spl_own) _ Try.underlying26 rfl 16 (by kernel_rfl) (by simp [M1.out]) ?_)
      | (refine wpList_load_box rfl 26 (.tmp 7) rfl (w.heap.size + 1) 1 rfl (splV (.slice A2 l2.length c2) o2) (o2.map (Value.int .i64)) X2.out (spl_own) _ Try.underlying26 rfl 16 (by kernel_rfl) (by simp [M2.out]) ?_))
    go_ret
    exact ⟨ret_bool hres.out.symm, HB.out⟩
  rw [decide_eq_true ho] at q
  have HO := Lib.hid ho
  clear ho
  go_wp2_with (first
      | (refine wpList_load_box rfl 26 (.tmp 5) rfl w.heap.size 1 rfl (splV (.slice A1 l1.length c1) o1) (o1.map (Value.int .i64)) X1.out (spl_own) _ Try.underlying26 rfl 16 (by kernel_rfl) (by simp [M1.out]) ?_)
      | (refine wpList_load_box rfl 26 (.tmp 7) rfl (w.heap.size + 1) 1 rfl (splV (.slice A2 l2.length c2) o2) (o2.map (Value.int .i64)) X2.out (spl_own) _ Try.underlying26 rfl 16 (by kernel_rfl) (by simp [M2.out]) ?_))
  refine HQ.out.mono ?_; rintro e w5 ⟨rfl, hb5⟩
  have HB5 := Lib.hid (HB.out.trans (hb5.mono HB.out.size))
  have hres : Hid (decide (l1 = l2) = decide (l1 = l2 ∧ o1 = o2)) := by
    show _ = _
    have := HO.out
    simp [this]
  cases hd : decide (l1 = l2)
  all_goals
    rw [hd] at hres
    clear hd hb5 q s1 s2 HQ X1 X2
    try dsimp only
    go_wp2_with fail
    go_ret
    exact ⟨ret_bool hres.out, HB5.out⟩
end Go.Proofs.Ytbibfpopkcekdaa.Words

/- The law's own helpers of chapter 13: num and alive. -/
namespace Go.Proofs.Ytbibfpopkcekdaa.Words
set_option maxRecDepth 100000
open Go.RowKit
set_option linter.unusedVariables false
set_option linter.unusedSimpArgs false

theorem num13_any (k : Int) (w : World) : Calls Try.prog 15 #[.int .i64 k] w fun e w' => e = .returned (.int .i64 k) ∧ w = w' := by
  go_enter Try.func15, Try.ntmps15
  go_wp2_with fail
  go_ret
  exact ⟨by first | rfl | trivial, by first | rfl | trivial⟩
def haltI : Ins := ⟨41, 0, 0, 0, 0⟩
theorem split_halt : withZ [haltI] 0 0 (ofZ [haltI] 0 0) = [⟨0, 1, -1, -1, [bareC 12 0 0], [bareC 12 0 0]⟩] := by decide +kernel
theorem err_halt : errW [haltI] 0 0 (ofZ [haltI] 0 0) = 0 := by decide +kernel
theorem err_none : errW [] 0 0 (ofZ [] 0 0) = 1 := by decide +kernel

theorem ownW_len {l : List Ins} {sz : Int} {m : Nat} {o : List Int} (h : o.length = 16) : (ownW l sz m o).length = 16 := by unfold ownW; split; exact h; rfl
/-- A split that a call answers is put into a box of its own: what stood, stands. -/
theorem box_stored {w2 w3 : World} {v : List Value} {t : TypeId} (hg : (w2.alloc (.cells v.toArray t)).grownBy w3 (some w2.heap.size)) : Below w2.heap.size w2 w3 :=
  Below.grown ((Below.refl _ _).alloc (Nat.le_refl _) _) hg (by simp) (fun q hq => by injection hq with hq; omega)
set_option maxHeartbeats 4000000 in
theorem alive13_any (w : World) :
    Calls Try.prog 7 #[] w fun e w' => e = .returned (.bool true) ∧ Below w.heap.size w w' := by
  go_enter Try.func7, Try.ntmps7
  go_wp2_with fail
  refine (splOf_any none 0 0 none 0 0 [] _ (Row.nil _ _ _) (Nat.le_refl _) (by decide)).mono ?_; rintro e w1 ⟨v1, rfl, hv1, hb1⟩
  rw [err_none]
  obtain ⟨O1, hO1⟩ : ∃ O1, O1 = ownW [] 0 0 (ofZ [] 0 0) := ⟨_, rfl⟩
  have HO1 : Hid (O1.length = 16) := by rw [hO1]; exact ownW_len ofZ_len
  rw [← hO1]
  clear hO1
  obtain ⟨A1, c1, rfl⟩ := hv1.blks.form
  have HB1 := Lib.hid hb1
  clear hv1 hb1
  go_wp2_with (first
    | (refine wpList_store_box rfl 29 (.tmp 1) (.tmp 8) rfl w1.heap.size 0 (splV (.slice A1 (withZ [] 0 0 (ofZ [] 0 0)).length c1) O1) rfl rfl zeroSpl (Box.new w1 zeroSpl 29) (by rw [splV_len HO1.out]; decide) 17 size_spl (splV_len HO1.out) (splV_one rfl) ?_; intro w2 B2 hg2; have HB2 := Lib.hid (HB1.out.trans ((box_stored hg2).mono HB1.out.size)); clear B2 hg2))
  refine (splOf_any (some ⟨w2.heap.size, 0, none⟩) 1 0 none 0 0 [haltI] _ ?_ (Nat.le_refl _) (by decide)).mono ?_
  · exact (row_new w2 (codeCells [haltI]) 5 rfl (by omega) _).more (by simp)
  rintro e w3 ⟨v3, rfl, hv3, hb3⟩
  rw [err_halt, split_halt] at *
  obtain ⟨O3, hO3⟩ : ∃ O3, O3 = ownW [haltI] 0 0 (ofZ [haltI] 0 0) := ⟨_, rfl⟩
  have HO3 : Hid (O3.length = 16) := by rw [hO3]; exact ownW_len ofZ_len
  rw [← hO3]
  clear hO3
  obtain ⟨A3, c3, rfl⟩ := hv3.blks.form
  have HV3 := Lib.hid hv3.blks
  have HB3 : Hid (Below w.heap.size w w3) := HB2.out.trans (((Below.refl _ w2).alloc (Nat.le_refl _) _).trans (hb3.mono (by simp)) |>.mono HB2.out.size)
  clear hv3 hb3
  go_upto_region 3 with (first
    | (refine wpList_store_box rfl 29 (.tmp 3) (.tmp 15) rfl w3.heap.size 0 (splV (.slice A3 1 c3) O3) rfl rfl zeroSpl (Box.new w3 zeroSpl 29) (by rw [splV_len HO3.out]; decide) 17 size_spl (splV_len HO3.out) (splV_one rfl) ?_; intro w4 B4 hg4; rw [splice_whole zeroSpl (splV (.slice A3 1 c3) O3) (by rw [splV_len HO3.out]; rfl)] at B4; have HX4 : Hid (Box w4 w3.heap.size (splV (.slice A3 1 c3) O3)) := B4; have HB4 := Lib.hid (HB3.out.trans ((box_stored hg4).mono HB3.out.size)); have HV4 := Lib.hid ((HV3.out.below (box_stored hg4)).more (box_stored hg4).size); clear B4 hg4))
  obtain ⟨b4, o4, rfl⟩ := HV4.out.spot (by decide)
  obtain ⟨A5, c5, A6, c6, x0, x1, x2, x3, x4, x5, _, _⟩ := HV4.out.at_ (k := 0) rfl
  have q0 : w4.cell? ⟨w3.heap.size, 0, none⟩ = some (.slice (some ⟨b4, o4, none⟩) 1 c3) := HX4.out.cell (k := 0) rfl
  simp only [List.length_cons, List.length_nil, Nat.zero_add, Nat.zero_mul, Nat.add_zero] at x4
  clear x0 x1 x2 x3 x5
  go_wp2_with fail
  refine (num13_any 1 _).mono ?_; rintro e _ ⟨rfl, rfl⟩
  try dsimp only
  go_wp2_with fail
  refine (num13_any 0 _).mono ?_; rintro e _ ⟨rfl, rfl⟩
  try dsimp only
  go_wp2_with (first
    | (refine wpList_load_box rfl 29 (.tmp 3) rfl w3.heap.size 0 rfl (splV (.slice (some ⟨b4, o4, none⟩) 1 c3) O3) (splV (.slice (some ⟨b4, o4, none⟩) 1 c3) O3) HX4.out whole_at _ Try.underlying29 rfl 17 size_spl (splV_len HO3.out) ?_))
  refine (splSame_any (some ⟨b4, o4, none⟩) (some ⟨b4, o4, none⟩) c3 c3 [⟨0, 1, -1, -1, [bareC 12 0 0], [bareC 12 0 0]⟩] [⟨0, 1, -1, -1, [bareC 12 0 0], [bareC 12 0 0]⟩] O3 O3 w4 HO3.out HO3.out HV4.out HV4.out).mono ?_; rintro e w5 ⟨rfl, hb5⟩
  rw [decide_eq_true ⟨rfl, rfl⟩]
  have HB5 := Lib.hid (HB4.out.trans (hb5.mono HB4.out.size))
  clear hb5 x4 q0
  try dsimp only
  go_wp2_with fail
  go_ret
  exact ⟨by first | rfl | trivial, HB5.out⟩
end Go.Proofs.Ytbibfpopkcekdaa.Words

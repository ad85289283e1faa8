/- Contract of the document's own Owner: seventeen rounds. -/
import Derived.Test.YtehelfmpcbejeaaOnrOf
import Derived.Test.YtehelfmpcbejeaaOnrSideR
import Derived.Test.YtehelfmpcbejeaaRefRight
namespace Go.Proofs.Ytehelfmpcbejeaa.Words
set_option maxRecDepth 100000
open Go.RowKit
set_option linter.unusedVariables false
set_option linter.unusedSimpArgs false

/-- What stands while the document's code is gone through. -/
structure RnS (w0 wr : World) (b : Nat) (o : List Int) : Prop where
  below : Below b w0 wr
  box : Box wr b (oV o)
  ok : OkO o
theorem RnS.to {w0 wr x : World} {b : Nat} {o : List Int} (h : RnS w0 wr b o) (hb : Below wr.heap.size wr x) : RnS w0 x b o :=
  ⟨h.below.trans (hb.mono (by have := h.box.lt; omega)), h.box.below hb h.box.lt, h.ok⟩
theorem RnS.put {w0 wr : World} {b : Nat} {o : List Int} (h : RnS w0 wr b o) {r : Nat} (h1 : 1 ≤ r) (hr : r ≤ 15) : RnS w0 (wr.setCell ⟨b, r, none⟩ (.int .i64 1)) b (setA o r) :=
  ⟨h.below.setCell (p := ⟨b, r, none⟩) (Nat.le_refl _) _, by have := h.box.setCell r (.int .i64 1); rwa [oV_set] at this, by rw [set_put h.ok ⟨by omega, by omega⟩]; exact putA_ok h.ok ⟨by omega, by omega⟩⟩
theorem stepR_mem {o : List Int} {i : Ins} (hm : formZ i.op = 4 ∨ formZ i.op = 5) : stepR o i = if 0 < i.a then setA o i.a else o := by unfold stepR; rw [if_pos (show memB i.op = true from decide_eq_true hm)]
theorem stepR_rec {o : List Int} {i : Ins} (h1 : 1 ≤ formZ i.op) (h3 : formZ i.op ≤ 3) : stepR o i = if 0 < i.d ∧ atO o i.d = 1 then (readsZ i).foldl setA o else o := by
  unfold stepR
  rw [if_neg (by unfold memB; rw [decide_eq_true_eq]; omega)]
  have : recB i.op = true := decide_eq_true ⟨h1, h3⟩
  simp only [this, true_and]
theorem stepR_no {o : List Int} {i : Ins} (h : 6 ≤ formZ i.op) : stepR o i = o := by
  unfold stepR
  rw [if_neg (by unfold memB; rw [decide_eq_true_eq]; omega), if_neg (by unfold recB; rw [decide_eq_true_eq]; omega)]

set_option maxHeartbeats 16000000 in
theorem refOwner_any (A : Option Addr) (c : Nat) (sz : Int) (A' : Option Addr) (m c' : Nat) (l : List Ins) (w : World) (hr : Row w w.heap.size 5 (.slice A l.length c) l.length (codeCells l)) (hm : m ≤ c') (hc' : c' ≤ 9223372036854775807) :
    Calls Try.prog 11 #[.agg #[.slice A l.length c, .int .i64 sz, .slice A' m c']] w fun e w' => e = .returned (.agg (oV (ofZ l sz m)).toArray) ∧ Below w.heap.size w w' := by
  obtain ⟨W1, hW1⟩ : ∃ W1, W1 = w.alloc (.cells #[.slice A l.length c, .int .i64 sz, .slice A' m c'] 25) := ⟨_, rfl⟩
  obtain ⟨W2, hW2⟩ : ∃ W2, W2 = W1.alloc (.cells #[.int .i64 0, .int .i64 0, .int .i64 0, .int .i64 0, .int .i64 0, .int .i64 0, .int .i64 0, .int .i64 0, .int .i64 0, .int .i64 0, .int .i64 0, .int .i64 0, .int .i64 0, .int .i64 0, .int .i64 0, .int .i64 0] 26) := ⟨_, rfl⟩
  obtain ⟨W3, hW3⟩ : ∃ W3, W3 = W2.alloc (.cells #[.int .i64 0, .int .i64 0, .int .i64 0, .int .i64 0, .int .i64 0, .int .i64 0, .int .i64 0, .int .i64 0, .int .i64 0, .int .i64 0, .int .i64 0, .int .i64 0, .int .i64 0, .int .i64 0, .int .i64 0, .int .i64 0] 26) := ⟨_, rfl⟩
  have hz1 : W1.heap.size = w.heap.size + 1 := by rw [hW1]; simp
  have hz2 : W2.heap.size = w.heap.size + 2 := by rw [hW2]; simp [hz1]
  have hz3 : W3.heap.size = w.heap.size + 3 := by rw [hW3]; simp [hz2]
  have hK : Below w.heap.size w W3 := by rw [hW3, hW2, hW1]; exact (((Below.refl w.heap.size w).alloc (Nat.le_refl _) _).alloc (by simp) _).alloc (by simp; omega) _
  have HB0 : Box W3 (w.heap.size + 1) (oV zeroO) := by rw [hW3]; refine Box.alloc ?_ _; rw [hW2, ← hz1]; exact Box.new W1 (oV zeroO) _
  have HX0 : Box W3 (w.heap.size + 2) (oV zeroO) := by rw [hW3, ← hz2]; exact Box.new W2 (oV zeroO) _
  have HI : Box W3 w.heap.size [.slice A l.length c, .int .i64 sz, .slice A' m c'] := by
    rw [hW3]; refine Box.alloc ?_ _; rw [hW2]; refine Box.alloc ?_ _; rw [hW1]; exact Box.new w [.slice A l.length c, .int .i64 sz, .slice A' m c'] _
  have HR : Row W3 W3.heap.size 5 (.slice A l.length c) l.length (codeCells l) := (hr.below hK).more (by omega)
  have HR0 := Lib.hid (show Row W3 (w.heap.size + 2) 5 (.slice A l.length c) l.length (codeCells l) from (hr.below hK).more (by omega))
  have c0 := HI.cell (k := 0) rfl
  have c1 := HI.cell (k := 1) rfl
  have c2 := HI.cell (k := 2) rfl
  have HB := Lib.hid HB0
  have HX := Lib.hid HX0
  have HIB := Lib.hid HI
  have HRR := Lib.hid HR
  have HKK := Lib.hid hK
  obtain ⟨hcl, hcm⟩ := hr.cap
  clear HI HB0 HX0 hK hr HR
  go_enter Try.func11, Try.ntmps11
  go_wp2_with fail
  rw [← hW1, ← hW2, ← hW3]
  clear hW1 hW2 hW3
  refine (refRight_any A c sz A' m c' l _ HRR.out hm hc').mono ?_; rintro e w1 ⟨rfl, hb1⟩
  have HBX := Lib.hid (HB.out.below hb1 HB.out.lt)
  have HXX := Lib.hid (HX.out.below hb1 HX.out.lt)
  have HIX := Lib.hid (HIB.out.below hb1 HIB.out.lt)
  have HRX := Lib.hid (show Row w1 (w.heap.size + 2) 5 (.slice A l.length c) l.length (codeCells l) from HR0.out.below (hb1.mono (by omega)))
  have HKX := Lib.hid (HKK.out.trans (hb1.mono (by omega)))
  have hz4 : w.heap.size + 3 ≤ w1.heap.size := by have := hb1.size; omega
  clear hb1 c0 c1 c2 HB HIB HX HRR HR0 HKK hz1 hz2 hz3
  cases hri : rightZ l sz m
  · have HL := Lib.hid (show ofZ l sz m = zeroO by unfold ofZ; rw [if_neg (by rw [hri]; decide)])
    clear hri
    go_wp2_with (first
      | (refine wpList_load_box rfl 26 (.tmp 3) rfl (w.heap.size + 2) 0 rfl (oV zeroO) (oV zeroO) HXX.out whole_at _ Try.underlying26 rfl 16 (by kernel_rfl) rfl ?_)
      | (refine wpList_store_box rfl 26 (.tmp 2) (.tmp 14) rfl (w.heap.size + 1) 0 (oV zeroO) rfl rfl (oV zeroO) HBX.out (Nat.le_refl _) 16 (by kernel_rfl) rfl (oV_one _) ?_; intro w3 B3 hg3; rw [splice_whole _ _ rfl] at B3))
    refine bodyPost_ret (v := .agg (oV zeroO).toArray) ?_ rfl ⟨by rw [HL.out], ?_⟩
    · exact results_cell Try.results11 _ _ _ ⟨w.heap.size + 1, 0, none⟩ _ rfl (load_own B3 rfl)
    · exact Below.grown HKX.out hg3 (by omega) (fun i hi => by injection hi with hi; omega)
  have HL := Lib.hid (show ofZ l sz m = iterO l 17 firstO by unfold ofZ; rw [if_pos hri]; rfl)
  have hp := rightZ_parts hri
  have HPR := Lib.hid hp.2
  have hl2 : l.length ≤ 2000 := hp.1
  clear hri hp
  generalize hn : l.length = n at HIX hl2 hcl ⊢
  have Hn := Lib.hid hn
  clear hn
  rw [← startO_1] at HXX
  obtain ⟨b, hb⟩ : ∃ b, b = w.heap.size + 2 := ⟨_, rfl⟩
  rw [← hb] at HXX HRX
  have HBE := Lib.hid hb
  go_wp2_with fail
  rw [← hb]
  clear hb
  go_loopw [4] (fun ii wr => ∃ k : Nat, 1 ≤ k ∧ k ≤ 16 ∧ ii = .int .i64 k ∧ Box wr b (oV (startO k)) ∧ Below b w1 wr) (fun ii _ => 16 - (intOf ii).toNat)
  case atStart => exact ⟨1, by omega, by omega, rfl, HXX.out, Below.refl _ _⟩
  case round =>
    obtain ⟨k, hk1, hk, rfl, hbx, hbl⟩ := hrel
    have HX := Lib.hid hbx
    have HKY := Lib.hid hbl
    clear hbx hbl
    by_cases hlt : k < 16
    · have f1 := HX.out.cell (oV_at (funO_len _) (n := k) (by omega))
      have f2 := HX.out.frozen k
      have hbz := HX.out.lt
      have g0 : (0 : Int) ≤ k := by omega
      have g1 : (k : Int) < 16 := by omega
      have HN : Hid (Box (wr.setCell ⟨b, k, none⟩ (.int .i64 2)) b (oV (startO (k + 1)))) := by
        have := HX.out.setCell k (.int .i64 2)
        rwa [oV_set, startO_set hk1] at this
      have HKN : Hid (Below b w1 (wr.setCell ⟨b, k, none⟩ (.int .i64 2))) := HKY.out.setCell (p := ⟨b, k, none⟩) (Nat.le_refl _) _
      go_wp2_with fail
      go_roundw
      case rel => exact ⟨k + 1, by omega, by omega, by go_num, HN.out, HKN.out⟩
      case measure => simp only [intOf]; omega
    · have H0 : Hid (RnS w1 wr b firstO) := ⟨HKY.out, by rw [← startO_16, show 16 = k from by omega]; exact HX.out, firstO_ok⟩
      have g1 : ¬ (k : Int) < 16 := by omega
      clear HX HKY
      go_wp2_with fail
      go_loopw [5] (fun ii wx => ∃ k : Nat, k ≤ 17 ∧ ii = .int .i64 k ∧ RnS w1 wx b (iterO l k firstO)) (fun ii _ => 17 - (intOf ii).toNat)
      case atStart => exact ⟨0, by omega, rfl, H0.out⟩
      case round =>
        obtain ⟨k, hk, rfl, hs⟩ := hrel
        have HS := Lib.hid hs
        clear hs
        by_cases hlt : k < 17
        · obtain ⟨p, hpp⟩ : ∃ p, p = iterO l k firstO := ⟨_, rfl⟩
          have HIT := Lib.hid (show iterO l (k + 1) firstO = l.foldl stepR p by rw [iter_succ, ← hpp, round_same l p (by rw [hpp]; exact HS.out.ok) HPR.out])
          rw [← hpp] at HS
          clear hpp
          have HF0 := Lib.hid (show l.foldl stepR p = (l.drop 0).foldl stepR p by rw [List.drop_zero])
          have HFA := Lib.hid (fun (j : Nat) (i : Ins) (q : List Int) (h : l[j]? = some i) => fold_at (f := stepR) h q)
          have HFE := Lib.hid (fun (j : Nat) (q : List Int) (h : l.length ≤ j) => (show (l.drop j).foldl stepR q = q by rw [List.drop_eq_nil_of_le h]; rfl))
          have g2 : (k : Int) < 17 := by omega
          go_wp2_with fail
          go_loopw [6] (fun ii wy => ∃ (j : Nat) (q : List Int), j ≤ n ∧ ii = .int .i64 j ∧ RnS w1 wy b q ∧ l.foldl stepR p = (l.drop j).foldl stepR q) (fun ii _ => n - (intOf ii).toNat)
          case atStart => exact ⟨0, p, Nat.zero_le _, rfl, HS.out, HF0.out⟩
          case round =>
            obtain ⟨j, q, hj, rfl, hs, hF⟩ := hrel
            have HS := Lib.hid hs
            have HF := Lib.hid hF
            have HPB := Lib.hid (HIX.out.below HS.out.below (by have := HBE.out; omega))
            have c0 := HPB.out.cell (k := 0) rfl
            clear hs hF
            by_cases hlj : j < n
            · have hl : j < l.length := by rw [Hn.out]; exact hlj
              obtain ⟨i, hi⟩ : ∃ i, l[j]? = some i := ⟨_, List.getElem?_eq_getElem hl⟩
              have HRI := Lib.hid (HPR.out i (List.mem_of_getElem? hi))
              have hrow : Row wr b 5 (.slice A l.length c) l.length (codeCells l) := HRX.out.below HS.out.below
              obtain ⟨g, off, rfl, hg, _⟩ := hrow.at_ (by omega)
              obtain ⟨d0, d1, d2, d3, d4⟩ := hrow.ins hi
              have HST := Lib.hid (HF.out.trans (HFA.out j i q hi))
              have k0 : (0 : Int) ≤ j := by omega
              have k1 : (j : Int) < n := by omega
              have HSA := Lib.hid (HS.out.to ((Below.refl wr.heap.size wr).alloc (Nat.le_refl _) (.cells (insV i).toArray 28)))
              have HXI := Lib.hid (Box.new wr (insV i) 28)
              have hbr := HS.out.box.lt
              have hpl := HS.out.ok.1
              clear hi hl hrow
              go_wp2_with fail
              change Calls _ _ _ (wr.alloc (.cells (insV i).toArray 28)) _
              obtain ⟨xb, hxb⟩ : ∃ xb, xb = wr.heap.size := ⟨_, rfl⟩
              rw [← hxb] at HXI hbr ⊢
              clear hxb d0 d1 d2 d3 d4 c0
              generalize wr.alloc (.cells (insV i).toArray 28) = Y at *
              refine (refForm_any _ _).mono ?_; rintro e w5 ⟨rfl, rfl⟩
              try dsimp only
              have HSY := Lib.hid HSA.out
              have HF8 := Lib.hid (formZ_range i.op)
              have HRR := right_range HRI.out
              have hbz := HSA.out.box.lt
              have e0 := HXI.out.cell (k := 0) rfl
              have e1 := HXI.out.cell (k := 1) rfl
              have e2 := HXI.out.cell (k := 2) rfl
              have HF1 := Lib.hid (show formZ i.op ≠ 0 from by
                have h := HRI.out
                unfold rightB at h
                simp only [Bool.and_eq_true, decide_eq_true_eq] at h
                exact h.1.1.1.1)
              have HM := Lib.hid (fun h => stepR_mem (o := q) (i := i) h)
              have HRC := Lib.hid (fun h1 h3 => stepR_rec (o := q) (i := i) h1 h3)
              have HNO := Lib.hid (fun h => stepR_no (o := q) (i := i) h)
              generalize hf : formZ i.op = f at *
              have Hf := Lib.hid hf
              clear hf
              have a0 : 0 ≤ i.a := HRR.2.2.1.1
              have a15 : i.a ≤ 15 := HRR.2.2.1.2
              have b0 : 0 ≤ i.d := HRR.2.1.1
              have b15 : i.d ≤ 15 := HRR.2.1.2
              clear HRR
              by_cases hf4 : f = 4
              · subst hf4
                by_cases ha : 0 < i.a
                · have HE := Lib.hid (HST.out.trans (congrArg (fun z => (l.drop (j + 1)).foldl stepR z) ((HM.out (by decide)).trans (if_pos ha))))
                  obtain ⟨x, hx, hx15⟩ := nat_of (r := i.a) ⟨a0, a15⟩
                  rw [hx] at e2 ha HE
                  have f1 := HSY.out.box.cell (oV_at HSY.out.ok.1 hx15)
                  have f2 := HSY.out.box.frozen x
                  have HSP := Lib.hid (HSY.out.put (r := x) (by omega) hx15)
                  have g3 : (x : Int) ≤ 15 := by omega
                  have g4 : (0 : Int) ≤ x := by omega
                  clear hx a0 a15 HXI HRI HST HM
                  go_wp2_with fail
                  go_roundw
                  case rel => exact ⟨j + 1, _, by omega, by go_num, HSP.out, HE.out⟩
                  case measure => simp only [intOf]; omega
                · have HE := Lib.hid (HST.out.trans (congrArg (fun z => (l.drop (j + 1)).foldl stepR z) ((HM.out (by decide)).trans (if_neg ha))))
                  go_wp2_with fail
                  go_roundw
                  case rel => exact ⟨j + 1, _, by omega, by go_num, HSY.out, HE.out⟩
                  case measure => simp only [intOf]; omega
              by_cases hf5 : f = 5
              · subst hf5
                by_cases ha : 0 < i.a
                · have HE := Lib.hid (HST.out.trans (congrArg (fun z => (l.drop (j + 1)).foldl stepR z) ((HM.out (by decide)).trans (if_pos ha))))
                  obtain ⟨x, hx, hx15⟩ := nat_of (r := i.a) ⟨a0, a15⟩
                  rw [hx] at e2 ha HE
                  have f1 := HSY.out.box.cell (oV_at HSY.out.ok.1 hx15)
                  have f2 := HSY.out.box.frozen x
                  have HSP := Lib.hid (HSY.out.put (r := x) (by omega) hx15)
                  have g3 : (x : Int) ≤ 15 := by omega
                  have g4 : (0 : Int) ≤ x := by omega
                  clear hx a0 a15 HXI HRI HST HM
                  go_wp2_with fail
                  go_roundw
                  case rel => exact ⟨j + 1, _, by omega, by go_num, HSP.out, HE.out⟩
                  case measure => simp only [intOf]; omega
                · have HE := Lib.hid (HST.out.trans (congrArg (fun z => (l.drop (j + 1)).foldl stepR z) ((HM.out (by decide)).trans (if_neg ha))))
                  go_wp2_with fail
                  go_roundw
                  case rel => exact ⟨j + 1, _, by omega, by go_num, HSY.out, HE.out⟩
                  case measure => simp only [intOf]; omega
              have q4 : (f == 4) = false := by simpa using hf4
              have q5 : (f == 5) = false := by simpa using hf5
              have HF8 := HF8.out
              have HF1 := HF1.out
              by_cases h3 : f ≤ 3
              rotate_left
              · have HE := Lib.hid (HST.out.trans (congrArg (fun z => (l.drop (j + 1)).foldl stepR z) (HNO.out (by omega))))
                have g5 : (1 : Int) ≤ f := by omega
                have g6 : ¬ f ≤ 3 := h3
                clear hf4 hf5 HF8 HF1 h3
                go_wp2_with fail
                go_roundw
                case rel => exact ⟨j + 1, _, by omega, by go_num, HSY.out, HE.out⟩
                case measure => simp only [intOf]; omega
              have g5 : (1 : Int) ≤ f := by omega
              have HRC2 := Lib.hid (HRC.out g5 h3)
              clear hf4 hf5 HF8 HF1
              by_cases hd : 0 < i.d
              rotate_left
              · have HE := Lib.hid (HST.out.trans (congrArg (fun z => (l.drop (j + 1)).foldl stepR z) (HRC2.out.trans (if_neg (fun h => hd h.1)))))
                go_wp2_with fail
                go_roundw
                case rel => exact ⟨j + 1, _, by omega, by go_num, HSY.out, HE.out⟩
                case measure => simp only [intOf]; omega
              obtain ⟨x, hx, hx15⟩ := nat_of (r := i.d) ⟨b0, b15⟩
              have f1 := HSY.out.box.cell (oV_at HSY.out.ok.1 hx15)
              rw [← hx] at f1
              have hx' : x = i.d.toNat := by omega
              subst hx'
              clear hx hx15
              cases hq : (atO q i.d == 1)
              · have HE := Lib.hid (HST.out.trans (congrArg (fun z => (l.drop (j + 1)).foldl stepR z) (HRC2.out.trans (if_neg (fun h => by rw [h.2] at hq; exact absurd hq (by decide))))))
                go_wp2_with fail
                go_roundw
                case rel => exact ⟨j + 1, _, by omega, by go_num, HSY.out, HE.out⟩
                case measure => simp only [intOf]; omega
              have HSTP := Lib.hid (HRC2.out.trans (if_pos ⟨hd, by simpa using hq⟩))
              go_wp2_with (first
                | (refine wpList_load_box rfl 28 (.tmp 7) rfl xb 0 rfl (insV i) (insV i) HXI.out whole_at _ Try.underlying28 rfl 5 (by kernel_rfl) rfl ?_))
              refine (refReadsN_any i _).mono ?_; rintro e w6 ⟨v, rfl, hrow6, hnew, hb6⟩
              have HS6 := Lib.hid (HSY.out.to hb6)
              have HN6 : Hid (NewV (b + 1) v) := fun a n c h => by
                have h1 := hnew a n c h
                omega
              have HR6 := Lib.hid hrow6
              obtain ⟨A6, c6, rfl⟩ := hrow6.form
              have HNR := Lib.hid (fun r (h : r ∈ readsZ i) => (⟨(reads_mem h).2.1, (reads_mem h).2.2.1⟩ : 1 ≤ r ∧ r ≤ 15))
              have HNL := Lib.hid (reads_len i)
              have HP0 := Lib.hid (show (readsZ i).foldl setA q = ((readsZ i).drop 0).foldl setA q by rw [List.drop_zero])
              have HZE := Lib.hid (fun (k : Nat) (q : List Int) (h : (readsZ i).length ≤ k) => (show ((readsZ i).drop k).foldl setA q = q by rw [List.drop_eq_nil_of_le h]; rfl))
              have HZA := Lib.hid (fun (k : Nat) (r : Int) (q : List Int) (h : (readsZ i)[k]? = some r) => fold_at (f := setA) h q)
              clear hrow6 hnew hb6 HXI HSA hbz hbr f1 hpl
              generalize hzs : readsZ i = zs at HNR HNL HR6 HN6 HP0 HZE HZA HSTP ⊢
              clear hzs
              generalize hnz : zs.length = N at HR6 HN6 ⊢
              have HNZ := Lib.hid hnz
              clear hnz
              go_wp2_with fail
              go_loopw [10] (fun ii wx => ∃ (k : Nat) (r : List Int), k ≤ N ∧ ii = .int .i64 k ∧ RnS w1 wx b r ∧ Row wx wx.heap.size 1 (.slice A6 N c6) N (zs.map (Value.int .i64)) ∧ zs.foldl setA q = (zs.drop k).foldl setA r) (fun ii _ => N - (intOf ii).toNat)
              case atStart => exact ⟨0, q, Nat.zero_le _, rfl, HS6.out, HR6.out, HP0.out⟩
              case round =>
                obtain ⟨k, r, hk, rfl, hS3, hrow3, hF3⟩ := hrel
                have HS3 := Lib.hid hS3
                have HR3 := Lib.hid hrow3
                have HF3 := Lib.hid hF3
                clear hS3 hF3
                have hN2 : N ≤ 2 := by have := HNL.out; have := HNZ.out; omega
                by_cases hlk : k < N
                · have hl : k < zs.length := by rw [HNZ.out]; exact hlk
                  obtain ⟨bb, off2, rfl, hbb, hcells⟩ := hrow3.at_ (by omega)
                  have f0 := hcells k _ (ints_get hl)
                  obtain ⟨y, hre⟩ : ∃ y, y = zs.getD k 0 := ⟨_, rfl⟩
                  have hzr : zs[k]? = some y := by rw [hre, List.getD_eq_getElem?_getD, List.getElem?_eq_getElem hl]; rfl
                  rw [← hre] at f0
                  have hr15 := HNR.out y (by rw [hre]; exact getD_mem hl)
                  have HST3 := Lib.hid (HF3.out.trans (HZA.out k y r hzr))
                  obtain ⟨x, rfl, hx15⟩ := nat_of (r := y) ⟨by omega, hr15.2⟩
                  have f1 := HS3.out.box.cell (oV_at HS3.out.ok.1 hx15)
                  have f2 := HS3.out.box.frozen x
                  have hne : bb ≠ b := by have := HN6.out _ _ _ rfl; simp only at this; omega
                  have g0 : (0 : Int) ≤ k := by omega
                  have g1 : (k : Int) < N := by omega
                  have g2 : (x : Int) ≤ 15 := by omega
                  have g3 : (0 : Int) ≤ x := by omega
                  have hbz := HS3.out.box.lt
                  have HSP := Lib.hid (HS3.out.put (r := x) (by omega) hx15)
                  have HRP := Lib.hid (row_other HR3.out hne x (.int .i64 1))
                  clear hcells hre hzr hl hr15 a0 a15 b0 b15 hrow3
                  go_wp2_with fail
                  go_roundw
                  case rel => exact ⟨k + 1, _, by omega, by go_num, HSP.out, HRP.out, HST3.out⟩
                  case measure => simp only [intOf]; omega
                · have HFE := Lib.hid (HF3.out.trans (HZE.out k r (by rw [HNZ.out]; omega)))
                  have HE := Lib.hid (HST.out.trans (congrArg (fun z => (l.drop (j + 1)).foldl stepR z) (HSTP.out.trans HFE.out)))
                  clear hrow3
                  go_wp2_with fail
                  go_roundw
                  case rel => exact ⟨j + 1, _, by omega, by go_num, HS3.out, HE.out⟩
                  case measure => simp only [intOf]; omega
            · go_wp2_with fail
              go_roundw
              case rel => exact ⟨k + 1, by omega, by go_num, by rw [HIT.out, HF.out, HFE.out j q (by rw [Hn.out]; omega)]; exact HS.out⟩
              case measure => simp only [intOf]; omega
        · have g2 : ¬ (k : Int) < 17 := by omega
          have HE : Hid (RnS w1 wr b (iterO l 17 firstO)) := by rw [show 17 = k from by omega]; exact HS.out
          have HRB := Lib.hid (HBX.out.below HE.out.below (by have := HBE.out; omega))
          have HBB := Lib.hid HE.out.box
          have HPL := Lib.hid HE.out.ok.1
          have HKB := Lib.hid HE.out.below
          generalize iterO l 17 firstO = p at *
          go_wp2_with (first
            | (refine wpList_load_box rfl 26 (.tmp 3) rfl b 0 rfl (oV p) (oV p) HBB.out whole_at _ Try.underlying26 rfl 16 (by kernel_rfl) ((oV_len p).trans HPL.out) ?_)
            | (refine wpList_store_box rfl 26 (.tmp 2) (.tmp 85) rfl (w.heap.size + 1) 0 (oV p) rfl rfl (oV zeroO) HRB.out (by rw [oV_len, HPL.out]; exact Nat.le_refl _) 16 (by kernel_rfl) ((oV_len p).trans HPL.out) (oV_one _) ?_; intro w3 B3 hg3; rw [splice_whole _ _ (by rw [oV_len, HPL.out]; rfl)] at B3))
          refine bodyPost_ret (v := .agg (oV p).toArray) ?_ rfl ⟨by rw [HL.out], ?_⟩
          · exact results_cell Try.results11 _ _ _ ⟨w.heap.size + 1, 0, none⟩ _ rfl (load_own B3 HPL.out)
          · exact Below.grown (HKX.out.trans (HKB.out.mono (by have := HBE.out; omega))) hg3 (by have := HKX.out.size; have := HKB.out.size; omega) (fun i hi => by injection hi with hi; omega)
end Go.Proofs.Ytehelfmpcbejeaa.Words

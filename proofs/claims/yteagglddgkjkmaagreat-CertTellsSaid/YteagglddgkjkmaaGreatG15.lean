/- Several texts in one: OnrOf, OnrRefOwner, SplOf, CertAlive, RefCert3, RefBal, RefBalW. -/
import Derived.Test.YteagglddgkjkmaaGreatG05
import Derived.Test.YteagglddgkjkmaaGreatG14
import Derived.Test.YteagglddgkjkmaaGreatG02
import Derived.Test.YteagglddgkjkmaaGreatG04
import Derived.Test.YteagglddgkjkmaaGreatG13
import Derived.Test.YteagglddgkjkmaaGreatG12
import Derived.Test.YteagglddgkjkmaaGreatG09
import Derived.Test.YteagglddgkjkmaaGreatG10

/- Contract of package owner's Of: the least owner. -/
namespace Go.Proofs.YteagglddgkjkmaaGreat.Words
set_option maxRecDepth 100000
open Go.RowKit
set_option linter.unusedVariables false
set_option linter.unusedSimpArgs false

/-- What Of answers. -/
def ofZ (l : List Ins) (sz : Int) (m : Nat) : List Int := if rightZ l sz m = true then leastO l else zeroO
theorem rightZ_insO {l : List Ins} {sz : Int} {m : Nat} (h : rightZ l sz m = true) : l.length ≤ 2000 ∧ ∀ i ∈ l, rightB i = true := by
  rw [rightZ_fit, Bool.and_eq_true, Bool.and_eq_true] at h
  obtain ⟨⟨h1, h2⟩, _⟩ := h
  have := of_decide_eq_true h1
  exact ⟨by omega, List.all_eq_true.1 h2⟩
theorem ofZ_len {l : List Ins} {sz : Int} {m : Nat} : (ofZ l sz m).length = 16 := by
  unfold ofZ
  split
  · rename_i h; exact (least_ok l (rightZ_insO h).2).1
  · rfl
theorem load_own {w : World} {b : Nat} {o : List Int} (h : Box w b (oV o)) (ho : o.length = 16) : (loadVar 30 ⟨b, 0, none⟩).run Tryz.prog w = .ok (.agg (oV o).toArray) w :=
  run_loadVar_mid w b 0 30 (oV o) _ h.whole Tryz.underlying30 rfl (by rw [oV_len, ho]; kernel_rfl)
/-- The registers while they are put on E. -/
def startO (k : Nat) : List Int := funO fun j => if 1 ≤ j ∧ j < k then 2 else 0
theorem startO_1 : startO 1 = zeroO := by decide
theorem startO_16 : startO 16 = firstO := by decide
theorem startO_set {k : Nat} (h : 1 ≤ k) : (startO k).set k 2 = startO (k + 1) := by
  unfold startO
  rw [funO_set]
  refine funO_ext fun j hj => ?_
  by_cases e : j = k
  · subst e; rw [if_pos rfl, if_pos ⟨h, by omega⟩]
  · rw [if_neg e]
    by_cases c : 1 ≤ j ∧ j < k
    · rw [if_pos c, if_pos ⟨c.1, by omega⟩]
    · rw [if_neg c, if_neg (by omega)]
/-- The registers in a block. -/
def decO (w : World) (b : Nat) : List Int := (List.range 16).map fun k => match w.cell? ⟨b, k, none⟩ with | some (.int _ x) => x | _ => 0
theorem decO_eq {w : World} {b : Nat} {o : List Int} (h : Box w b (oV o)) (ho : o.length = 16) : decO w b = o := by
  refine List.ext_getElem (by simp [decO, ho]) fun k h1 h2 => ?_
  simp only [decO, List.getElem_map, List.getElem_range]
  rw [h.cell (oV_at ho (n := k) (by omega))]
  simp only
  rw [atO_nat, List.getD_eq_getElem?_getD, List.getElem?_eq_getElem h2]; rfl
def bitV (v : Value) : Nat := match v with | .bool true => 1 | _ => 0

end Go.Proofs.YteagglddgkjkmaaGreat.Words

/- Contract of the document's own Owner: seventeen rounds. -/
namespace Go.Proofs.YteagglddgkjkmaaGreat.Words
set_option maxRecDepth 100000
open Go.RowKit
set_option linter.unusedVariables false
set_option linter.unusedSimpArgs false

/-- What stands while the document's code is gone through. -/
structure RnS (w0 wr : World) (b : Nat) (o : List Int) : Prop where
  below : Below b w0 wr
  box : Box wr b (oV o)
  ok : OkO o
theorem RnS.to {w0 wr x : World} {b : Nat} {o : List Int} (h : RnS w0 wr b o) (hb : Below wr.heap.size wr x) : RnS w0 x b o :=
  ⟨h.below.trans (hb.mono (by have := h.box.lt; omega)), h.box.below hb h.box.lt, h.ok⟩
theorem RnS.put {w0 wr : World} {b : Nat} {o : List Int} (h : RnS w0 wr b o) {r : Nat} (h1 : 1 ≤ r) (hr : r ≤ 15) : RnS w0 (wr.setCell ⟨b, r, none⟩ (.int .i64 1)) b (setA o r) :=
  ⟨h.below.setCell (p := ⟨b, r, none⟩) (Nat.le_refl _) _, by have := h.box.setCell r (.int .i64 1); rwa [oV_set] at this, by rw [set_put h.ok ⟨by omega, by omega⟩]; exact putA_ok h.ok ⟨by omega, by omega⟩⟩
theorem stepR_mem {o : List Int} {i : Ins} (hm : formZ i.op = 4 ∨ formZ i.op = 5) : stepR o i = if 0 < i.a then setA o i.a else o := by unfold stepR; rw [if_pos (show memB i.op = true from decide_eq_true hm)]
theorem stepR_rec {o : List Int} {i : Ins} (h1 : 1 ≤ formZ i.op) (h3 : formZ i.op ≤ 3) : stepR o i = if 0 < i.d ∧ atO o i.d = 1 then (readsZ i).foldl setA o else o := by
  unfold stepR
  rw [if_neg (by unfold memB; rw [decide_eq_true_eq]; omega)]
  have : recB i.op = true := decide_eq_true ⟨h1, h3⟩
  simp only [this, true_and]
theorem stepR_no {o : List Int} {i : Ins} (h : 6 ≤ formZ i.op) : stepR o i = o := by
  unfold stepR
  rw [if_neg (by unfold memB; rw [decide_eq_true_eq]; omega), if_neg (by unfold recB; rw [decide_eq_true_eq]; omega)]

set_option maxHeartbeats 16000000 in
theorem refOwner_any (A : Option Addr) (c : Nat) (sz : Int) (A' : Option Addr) (m c' : Nat) (l : List Ins) (w : World) (hr : Row w w.heap.size 5 (.slice A l.length c) l.length (codeCells l)) (hm : m ≤ c') (hc' : c' ≤ 9223372036854775807) :
    Calls Tryz.prog 35 #[.agg #[.slice A l.length c, .int .i64 sz, .slice A' m c']] w fun e w' => e = .returned (.agg (oV (ofZ l sz m)).toArray) ∧ Below w.heap.size w w' := by
  obtain ⟨W1, hW1⟩ : ∃ W1, W1 = w.alloc (.cells #[.slice A l.length c, .int .i64 sz, .slice A' m c'] 28) := ⟨_, rfl⟩
  obtain ⟨W2, hW2⟩ : ∃ W2, W2 = W1.alloc (.cells #[.int .i64 0, .int .i64 0, .int .i64 0, .int .i64 0, .int .i64 0, .int .i64 0, .int .i64 0, .int .i64 0, .int .i64 0, .int .i64 0, .int .i64 0, .int .i64 0, .int .i64 0, .int .i64 0, .int .i64 0, .int .i64 0] 30) := ⟨_, rfl⟩
  obtain ⟨W3, hW3⟩ : ∃ W3, W3 = W2.alloc (.cells #[.int .i64 0, .int .i64 0, .int .i64 0, .int .i64 0, .int .i64 0, .int .i64 0, .int .i64 0, .int .i64 0, .int .i64 0, .int .i64 0, .int .i64 0, .int .i64 0, .int .i64 0, .int .i64 0, .int .i64 0, .int .i64 0] 30) := ⟨_, rfl⟩
  have hz1 : W1.heap.size = w.heap.size + 1 := by rw [hW1]; simp
  have hz2 : W2.heap.size = w.heap.size + 2 := by rw [hW2]; simp [hz1]
  have hz3 : W3.heap.size = w.heap.size + 3 := by rw [hW3]; simp [hz2]
  have hK : Below w.heap.size w W3 := by rw [hW3, hW2, hW1]; exact (((Below.refl w.heap.size w).alloc (Nat.le_refl _) _).alloc (by simp) _).alloc (by simp; omega) _
  have HB0 : Box W3 (w.heap.size + 1) (oV zeroO) := by rw [hW3]; refine Box.alloc ?_ _; rw [hW2, ← hz1]; exact Box.new W1 (oV zeroO) _
  have HX0 : Box W3 (w.heap.size + 2) (oV zeroO) := by rw [hW3, ← hz2]; exact Box.new W2 (oV zeroO) _
  have HI : Box W3 w.heap.size [.slice A l.length c, .int .i64 sz, .slice A' m c'] := by
    rw [hW3]; refine Box.alloc ?_ _; rw [hW2]; refine Box.alloc ?_ _; rw [hW1]; exact Box.new w [.slice A l.length c, .int .i64 sz, .slice A' m c'] _
  have HR : Row W3 W3.heap.size 5 (.slice A l.length c) l.length (codeCells l) := (hr.below hK).more (by omega)
  have HR0 := Lib.hid (show Row W3 (w.heap.size + 2) 5 (.slice A l.length c) l.length (codeCells l) from (hr.below hK).more (by omega))
  have c0 := HI.cell (k := 0) rfl
  have c1 := HI.cell (k := 1) rfl
  have c2 := HI.cell (k := 2) rfl
  have HB := Lib.hid HB0
  have HX := Lib.hid HX0
  have HIB := Lib.hid HI
  have HRR := Lib.hid HR
  have HKK := Lib.hid hK
  obtain ⟨hcl, hcm⟩ := hr.cap
  clear HI HB0 HX0 hK hr HR
  go_enter Tryz.func35, Tryz.ntmps35
  go_wp2_with fail
  rw [← hW1, ← hW2, ← hW3]
  clear hW1 hW2 hW3
  refine (refRight_any A c sz A' m c' l _ HRR.out hm hc').mono ?_; rintro e w1 ⟨rfl, hb1⟩
  have HBX := Lib.hid (HB.out.below hb1 HB.out.lt)
  have HXX := Lib.hid (HX.out.below hb1 HX.out.lt)
  have HIX := Lib.hid (HIB.out.below hb1 HIB.out.lt)
  have HRX := Lib.hid (show Row w1 (w.heap.size + 2) 5 (.slice A l.length c) l.length (codeCells l) from HR0.out.below (hb1.mono (by omega)))
  have HKX := Lib.hid (HKK.out.trans (hb1.mono (by omega)))
  have hz4 : w.heap.size + 3 ≤ w1.heap.size := by have := hb1.size; omega
  clear hb1 c0 c1 c2 HB HIB HX HRR HR0 HKK hz1 hz2 hz3
  cases hri : rightZ l sz m
  · have HL := Lib.hid (show ofZ l sz m = zeroO by unfold ofZ; rw [if_neg (by rw [hri]; decide)])
    clear hri
    go_wp2_with (first
      | (refine wpList_load_box rfl 30 (.tmp 3) rfl (w.heap.size + 2) 0 rfl (oV zeroO) (oV zeroO) HXX.out whole_at _ Tryz.underlying30 rfl 16 (by kernel_rfl) rfl ?_)
      | (refine wpList_store_box rfl 30 (.tmp 2) (.tmp 14) rfl (w.heap.size + 1) 0 (oV zeroO) rfl rfl (oV zeroO) HBX.out (Nat.le_refl _) 16 (by kernel_rfl) rfl (oV_one _) ?_; intro w3 B3 hg3; rw [splice_whole _ _ rfl] at B3))
    refine bodyPost_ret (v := .agg (oV zeroO).toArray) ?_ rfl ⟨by rw [HL.out], ?_⟩
    · exact results_cell Tryz.results35 _ _ _ ⟨w.heap.size + 1, 0, none⟩ _ rfl (load_own B3 rfl)
    · exact Below.grown HKX.out hg3 (by omega) (fun i hi => by injection hi with hi; omega)
  have HL := Lib.hid (show ofZ l sz m = iterO l 17 firstO by unfold ofZ; rw [if_pos hri]; rfl)
  have hp := rightZ_insO hri
  have HPR := Lib.hid hp.2
  have hl2 : l.length ≤ 2000 := hp.1
  clear hri hp
  generalize hn : l.length = n at HIX hl2 hcl ⊢
  have Hn := Lib.hid hn
  clear hn
  rw [← startO_1] at HXX
  obtain ⟨b, hb⟩ : ∃ b, b = w.heap.size + 2 := ⟨_, rfl⟩
  rw [← hb] at HXX HRX
  have HBE := Lib.hid hb
  go_wp2_with fail
  rw [← hb]
  clear hb
  go_loopw [4] (fun ii wr => ∃ k : Nat, 1 ≤ k ∧ k ≤ 16 ∧ ii = .int .i64 k ∧ Box wr b (oV (startO k)) ∧ Below b w1 wr) (fun ii _ => 16 - (intOf ii).toNat)
  case atStart => exact ⟨1, by omega, by omega, rfl, HXX.out, Below.refl _ _⟩
  case round =>
    obtain ⟨k, hk1, hk, rfl, hbx, hbl⟩ := hrel
    have HX := Lib.hid hbx
    have HKY := Lib.hid hbl
    clear hbx hbl
    by_cases hlt : k < 16
    · have f1 := HX.out.cell (oV_at (funO_len _) (n := k) (by omega))
      have f2 := HX.out.frozen k
      have hbz := HX.out.lt
      have g0 : (0 : Int) ≤ k := by omega
      have g1 : (k : Int) < 16 := by omega
      have HN : Hid (Box (wr.setCell ⟨b, k, none⟩ (.int .i64 2)) b (oV (startO (k + 1)))) := by
        have := HX.out.setCell k (.int .i64 2)
        rwa [oV_set, startO_set hk1] at this
      have HKN : Hid (Below b w1 (wr.setCell ⟨b, k, none⟩ (.int .i64 2))) := HKY.out.setCell (p := ⟨b, k, none⟩) (Nat.le_refl _) _
      go_wp2_with fail
      go_roundw
      case rel => exact ⟨k + 1, by omega, by omega, by go_num, HN.out, HKN.out⟩
      case measure => simp only [intOf]; omega
    · have H0 : Hid (RnS w1 wr b firstO) := ⟨HKY.out, by rw [← startO_16, show 16 = k from by omega]; exact HX.out, firstO_ok⟩
      have g1 : ¬ (k : Int) < 16 := by omega
      clear HX HKY
      go_wp2_with fail
      go_loopw [5] (fun ii wx => ∃ k : Nat, k ≤ 17 ∧ ii = .int .i64 k ∧ RnS w1 wx b (iterO l k firstO)) (fun ii _ => 17 - (intOf ii).toNat)
      case atStart => exact ⟨0, by omega, rfl, H0.out⟩
      case round =>
        obtain ⟨k, hk, rfl, hs⟩ := hrel
        have HS := Lib.hid hs
        clear hs
        by_cases hlt : k < 17
        · obtain ⟨p, hpp⟩ : ∃ p, p = iterO l k firstO := ⟨_, rfl⟩
          have HIT := Lib.hid (show iterO l (k + 1) firstO = l.foldl stepR p by rw [iter_succ, ← hpp, round_same l p (by rw [hpp]; exact HS.out.ok) HPR.out])
          rw [← hpp] at HS
          clear hpp
          have HF0 := Lib.hid (show l.foldl stepR p = (l.drop 0).foldl stepR p by rw [List.drop_zero])
          have HFA := Lib.hid (fun (j : Nat) (i : Ins) (q : List Int) (h : l[j]? = some i) => fold_at (f := stepR) h q)
          have HFE := Lib.hid (fun (j : Nat) (q : List Int) (h : l.length ≤ j) => (show (l.drop j).foldl stepR q = q by rw [List.drop_eq_nil_of_le h]; rfl))
          have g2 : (k : Int) < 17 := by omega
          go_wp2_with fail
          go_loopw [6] (fun ii wy => ∃ (j : Nat) (q : List Int), j ≤ n ∧ ii = .int .i64 j ∧ RnS w1 wy b q ∧ l.foldl stepR p = (l.drop j).foldl stepR q) (fun ii _ => n - (intOf ii).toNat)
          case atStart => exact ⟨0, p, Nat.zero_le _, rfl, HS.out, HF0.out⟩
          case round =>
            obtain ⟨j, q, hj, rfl, hs, hF⟩ := hrel
            have HS := Lib.hid hs
            have HF := Lib.hid hF
            have HPB := Lib.hid (HIX.out.below HS.out.below (by have := HBE.out; omega))
            have c0 := HPB.out.cell (k := 0) rfl
            clear hs hF
            by_cases hlj : j < n
            · have hl : j < l.length := by rw [Hn.out]; exact hlj
              obtain ⟨i, hi⟩ : ∃ i, l[j]? = some i := ⟨_, List.getElem?_eq_getElem hl⟩
              have HRI := Lib.hid (HPR.out i (List.mem_of_getElem? hi))
              have hrow : Row wr b 5 (.slice A l.length c) l.length (codeCells l) := HRX.out.below HS.out.below
              obtain ⟨g, off, rfl, hg, _⟩ := hrow.at_ (by omega)
              obtain ⟨d0, d1, d2, d3, d4⟩ := hrow.ins hi
              have HST := Lib.hid (HF.out.trans (HFA.out j i q hi))
              have k0 : (0 : Int) ≤ j := by omega
              have k1 : (j : Int) < n := by omega
              have HSA := Lib.hid (HS.out.to ((Below.refl wr.heap.size wr).alloc (Nat.le_refl _) (.cells (insV i).toArray 44)))
              have HXI := Lib.hid (Box.new wr (insV i) 44)
              have hbr := HS.out.box.lt
              have hpl := HS.out.ok.1
              clear hi hl hrow
              go_wp2_with fail
              change Calls _ _ _ (wr.alloc (.cells (insV i).toArray 44)) _
              obtain ⟨xb, hxb⟩ : ∃ xb, xb = wr.heap.size := ⟨_, rfl⟩
              rw [← hxb] at HXI hbr ⊢
              clear hxb d0 d1 d2 d3 d4 c0
              generalize wr.alloc (.cells (insV i).toArray 44) = Y at *
              refine (refForm_any _ _).mono ?_; rintro e w5 ⟨rfl, rfl⟩
              try dsimp only
              have HSY := Lib.hid HSA.out
              have HF8 := Lib.hid (formZ_range i.op)
              have HRR := right_range HRI.out
              have hbz := HSA.out.box.lt
              have e0 := HXI.out.cell (k := 0) rfl
              have e1 := HXI.out.cell (k := 1) rfl
              have e2 := HXI.out.cell (k := 2) rfl
              have HF1 := Lib.hid (show formZ i.op ≠ 0 from by
                have h := HRI.out
                unfold rightB at h
                simp only [Bool.and_eq_true, decide_eq_true_eq] at h
                exact h.1.1.1.1)
              have HM := Lib.hid (fun h => stepR_mem (o := q) (i := i) h)
              have HRC := Lib.hid (fun h1 h3 => stepR_rec (o := q) (i := i) h1 h3)
              have HNO := Lib.hid (fun h => stepR_no (o := q) (i := i) h)
              generalize hf : formZ i.op = f at *
              have Hf := Lib.hid hf
              clear hf
              have a0 : 0 ≤ i.a := HRR.2.2.1.1
              have a15 : i.a ≤ 15 := HRR.2.2.1.2
              have b0 : 0 ≤ i.d := HRR.2.1.1
              have b15 : i.d ≤ 15 := HRR.2.1.2
              clear HRR
              by_cases hf4 : f = 4
              · subst hf4
                by_cases ha : 0 < i.a
                · have HE := Lib.hid (HST.out.trans (congrArg (fun z => (l.drop (j + 1)).foldl stepR z) ((HM.out (by decide)).trans (if_pos ha))))
                  obtain ⟨x, hx, hx15⟩ := nat_of (r := i.a) ⟨a0, a15⟩
                  rw [hx] at e2 ha HE
                  have f1 := HSY.out.box.cell (oV_at HSY.out.ok.1 hx15)
                  have f2 := HSY.out.box.frozen x
                  have HSP := Lib.hid (HSY.out.put (r := x) (by omega) hx15)
                  have g3 : (x : Int) ≤ 15 := by omega
                  have g4 : (0 : Int) ≤ x := by omega
                  clear hx a0 a15 HXI HRI HST HM
                  go_wp2_with fail
                  go_roundw
                  case rel => exact ⟨j + 1, _, by omega, by go_num, HSP.out, HE.out⟩
                  case measure => simp only [intOf]; omega
                · have HE := Lib.hid (HST.out.trans (congrArg (fun z => (l.drop (j + 1)).foldl stepR z) ((HM.out (by decide)).trans (if_neg ha))))
                  go_wp2_with fail
                  go_roundw
                  case rel => exact ⟨j + 1, _, by omega, by go_num, HSY.out, HE.out⟩
                  case measure => simp only [intOf]; omega
              by_cases hf5 : f = 5
              · subst hf5
                by_cases ha : 0 < i.a
                · have HE := Lib.hid (HST.out.trans (congrArg (fun z => (l.drop (j + 1)).foldl stepR z) ((HM.out (by decide)).trans (if_pos ha))))
                  obtain ⟨x, hx, hx15⟩ := nat_of (r := i.a) ⟨a0, a15⟩
                  rw [hx] at e2 ha HE
                  have f1 := HSY.out.box.cell (oV_at HSY.out.ok.1 hx15)
                  have f2 := HSY.out.box.frozen x
                  have HSP := Lib.hid (HSY.out.put (r := x) (by omega) hx15)
                  have g3 : (x : Int) ≤ 15 := by omega
                  have g4 : (0 : Int) ≤ x := by omega
                  clear hx a0 a15 HXI HRI HST HM
                  go_wp2_with fail
                  go_roundw
                  case rel => exact ⟨j + 1, _, by omega, by go_num, HSP.out, HE.out⟩
                  case measure => simp only [intOf]; omega
                · have HE := Lib.hid (HST.out.trans (congrArg (fun z => (l.drop (j + 1)).foldl stepR z) ((HM.out (by decide)).trans (if_neg ha))))
                  go_wp2_with fail
                  go_roundw
                  case rel => exact ⟨j + 1, _, by omega, by go_num, HSY.out, HE.out⟩
                  case measure => simp only [intOf]; omega
              have q4 : (f == 4) = false := by simpa using hf4
              have q5 : (f == 5) = false := by simpa using hf5
              have HF8 := HF8.out
              have HF1 := HF1.out
              by_cases h3 : f ≤ 3
              rotate_left
              · have HE := Lib.hid (HST.out.trans (congrArg (fun z => (l.drop (j + 1)).foldl stepR z) (HNO.out (by omega))))
                have g5 : (1 : Int) ≤ f := by omega
                have g6 : ¬ f ≤ 3 := h3
                clear hf4 hf5 HF8 HF1 h3
                go_wp2_with fail
                go_roundw
                case rel => exact ⟨j + 1, _, by omega, by go_num, HSY.out, HE.out⟩
                case measure => simp only [intOf]; omega
              have g5 : (1 : Int) ≤ f := by omega
              have HRC2 := Lib.hid (HRC.out g5 h3)
              clear hf4 hf5 HF8 HF1
              by_cases hd : 0 < i.d
              rotate_left
              · have HE := Lib.hid (HST.out.trans (congrArg (fun z => (l.drop (j + 1)).foldl stepR z) (HRC2.out.trans (if_neg (fun h => hd h.1)))))
                go_wp2_with fail
                go_roundw
                case rel => exact ⟨j + 1, _, by omega, by go_num, HSY.out, HE.out⟩
                case measure => simp only [intOf]; omega
              obtain ⟨x, hx, hx15⟩ := nat_of (r := i.d) ⟨b0, b15⟩
              have f1 := HSY.out.box.cell (oV_at HSY.out.ok.1 hx15)
              rw [← hx] at f1
              have hx' : x = i.d.toNat := by omega
              subst hx'
              clear hx hx15
              cases hq : (atO q i.d == 1)
              · have HE := Lib.hid (HST.out.trans (congrArg (fun z => (l.drop (j + 1)).foldl stepR z) (HRC2.out.trans (if_neg (fun h => by rw [h.2] at hq; exact absurd hq (by decide))))))
                go_wp2_with fail
                go_roundw
                case rel => exact ⟨j + 1, _, by omega, by go_num, HSY.out, HE.out⟩
                case measure => simp only [intOf]; omega
              have HSTP := Lib.hid (HRC2.out.trans (if_pos ⟨hd, by simpa using hq⟩))
              go_wp2_with (first
                | (refine wpList_load_box rfl 44 (.tmp 7) rfl xb 0 rfl (insV i) (insV i) HXI.out whole_at _ Tryz.underlying44 rfl 5 (by kernel_rfl) rfl ?_))
              refine (refReadsN_any i _).mono ?_; rintro e w6 ⟨v, rfl, hrow6, hnew, hb6⟩
              have HS6 := Lib.hid (HSY.out.to hb6)
              have HN6 : Hid (NewV (b + 1) v) := fun a n c h => by
                have h1 := hnew a n c h
                omega
              have HR6 := Lib.hid hrow6
              obtain ⟨A6, c6, rfl⟩ := hrow6.form
              have HNR := Lib.hid (fun r (h : r ∈ readsZ i) => (⟨(reads_mem h).2.1, (reads_mem h).2.2.1⟩ : 1 ≤ r ∧ r ≤ 15))
              have HNL := Lib.hid (reads_len i)
              have HP0 := Lib.hid (show (readsZ i).foldl setA q = ((readsZ i).drop 0).foldl setA q by rw [List.drop_zero])
              have HZE := Lib.hid (fun (k : Nat) (q : List Int) (h : (readsZ i).length ≤ k) => (show ((readsZ i).drop k).foldl setA q = q by rw [List.drop_eq_nil_of_le h]; rfl))
              have HZA := Lib.hid (fun (k : Nat) (r : Int) (q : List Int) (h : (readsZ i)[k]? = some r) => fold_at (f := setA) h q)
              clear hrow6 hnew hb6 HXI HSA hbz hbr f1 hpl
              generalize hzs : readsZ i = zs at HNR HNL HR6 HN6 HP0 HZE HZA HSTP ⊢
              clear hzs
              generalize hnz : zs.length = N at HR6 HN6 ⊢
              have HNZ := Lib.hid hnz
              clear hnz
              go_wp2_with fail
              go_loopw [10] (fun ii wx => ∃ (k : Nat) (r : List Int), k ≤ N ∧ ii = .int .i64 k ∧ RnS w1 wx b r ∧ Row wx wx.heap.size 1 (.slice A6 N c6) N (zs.map (Value.int .i64)) ∧ zs.foldl setA q = (zs.drop k).foldl setA r) (fun ii _ => N - (intOf ii).toNat)
              case atStart => exact ⟨0, q, Nat.zero_le _, rfl, HS6.out, HR6.out, HP0.out⟩
              case round =>
                obtain ⟨k, r, hk, rfl, hS3, hrow3, hF3⟩ := hrel
                have HS3 := Lib.hid hS3
                have HR3 := Lib.hid hrow3
                have HF3 := Lib.hid hF3
                clear hS3 hF3
                have hN2 : N ≤ 2 := by have := HNL.out; have := HNZ.out; omega
                by_cases hlk : k < N
                · have hl : k < zs.length := by rw [HNZ.out]; exact hlk
                  obtain ⟨bb, off2, rfl, hbb, hcells⟩ := hrow3.at_ (by omega)
                  have f0 := hcells k _ (ints_get hl)
                  obtain ⟨y, hre⟩ : ∃ y, y = zs.getD k 0 := ⟨_, rfl⟩
                  have hzr : zs[k]? = some y := by rw [hre, List.getD_eq_getElem?_getD, List.getElem?_eq_getElem hl]; rfl
                  rw [← hre] at f0
                  have hr15 := HNR.out y (by rw [hre]; exact getD_mem hl)
                  have HST3 := Lib.hid (HF3.out.trans (HZA.out k y r hzr))
                  obtain ⟨x, rfl, hx15⟩ := nat_of (r := y) ⟨by omega, hr15.2⟩
                  have f1 := HS3.out.box.cell (oV_at HS3.out.ok.1 hx15)
                  have f2 := HS3.out.box.frozen x
                  have hne : bb ≠ b := by have := HN6.out _ _ _ rfl; simp only at this; omega
                  have g0 : (0 : Int) ≤ k := by omega
                  have g1 : (k : Int) < N := by omega
                  have g2 : (x : Int) ≤ 15 := by omega
                  have g3 : (0 : Int) ≤ x := by omega
                  have hbz := HS3.out.box.lt
                  have HSP := Lib.hid (HS3.out.put (r := x) (by omega) hx15)
                  have HRP := Lib.hid (row_other HR3.out hne x (.int .i64 1))
                  clear hcells hre hzr hl hr15 a0 a15 b0 b15 hrow3
                  go_wp2_with fail
                  go_roundw
                  case rel => exact ⟨k + 1, _, by omega, by go_num, HSP.out, HRP.out, HST3.out⟩
                  case measure => simp only [intOf]; omega
                · have HFE := Lib.hid (HF3.out.trans (HZE.out k r (by rw [HNZ.out]; omega)))
                  have HE := Lib.hid (HST.out.trans (congrArg (fun z => (l.drop (j + 1)).foldl stepR z) (HSTP.out.trans HFE.out)))
                  clear hrow3
                  go_wp2_with fail
                  go_roundw
                  case rel => exact ⟨j + 1, _, by omega, by go_num, HS3.out, HE.out⟩
                  case measure => simp only [intOf]; omega
            · go_wp2_with fail
              go_roundw
              case rel => exact ⟨k + 1, by omega, by go_num, by rw [HIT.out, HF.out, HFE.out j q (by rw [Hn.out]; omega)]; exact HS.out⟩
              case measure => simp only [intOf]; omega
        · have g2 : ¬ (k : Int) < 17 := by omega
          have HE : Hid (RnS w1 wr b (iterO l 17 firstO)) := by rw [show 17 = k from by omega]; exact HS.out
          have HRB := Lib.hid (HBX.out.below HE.out.below (by have := HBE.out; omega))
          have HBB := Lib.hid HE.out.box
          have HPL := Lib.hid HE.out.ok.1
          have HKB := Lib.hid HE.out.below
          generalize iterO l 17 firstO = p at *
          go_wp2_with (first
            | (refine wpList_load_box rfl 30 (.tmp 3) rfl b 0 rfl (oV p) (oV p) HBB.out whole_at _ Tryz.underlying30 rfl 16 (by kernel_rfl) ((oV_len p).trans HPL.out) ?_)
            | (refine wpList_store_box rfl 30 (.tmp 2) (.tmp 85) rfl (w.heap.size + 1) 0 (oV p) rfl rfl (oV zeroO) HRB.out (by rw [oV_len, HPL.out]; exact Nat.le_refl _) 16 (by kernel_rfl) ((oV_len p).trans HPL.out) (oV_one _) ?_; intro w3 B3 hg3; rw [splice_whole _ _ (by rw [oV_len, HPL.out]; rfl)] at B3))
          refine bodyPost_ret (v := .agg (oV p).toArray) ?_ rfl ⟨by rw [HL.out], ?_⟩
          · exact results_cell Tryz.results35 _ _ _ ⟨w.heap.size + 1, 0, none⟩ _ rfl (load_own B3 HPL.out)
          · exact Below.grown (HKX.out.trans (HKB.out.mono (by have := HBE.out; omega))) hg3 (by have := HKX.out.size; have := HKB.out.size; omega) (fun i hi => by injection hi with hi; omega)
end Go.Proofs.YteagglddgkjkmaaGreat.Words

/- Contracts of package split's Of and of the document's own Split: the split by the least owner. -/
namespace Go.Proofs.YteagglddgkjkmaaGreat.Words
set_option maxRecDepth 100000
open Go.RowKit
set_option linter.unusedVariables false
set_option linter.unusedSimpArgs false

theorem field_spl (v : Value) (o : List Int) (k : Int) (y : World) : (Instr.extract (.tuple #[.agg (splV v o).toArray, .int .i64 k]) 0).run Tryz.prog y = .ok (.agg (splV v o).toArray) y := by rfl
set_option maxHeartbeats 2000000 in
theorem refSplitP_any (A : Option Addr) (c : Nat) (sz : Int) (A' : Option Addr) (m c' : Nat) (l : List Ins) (w : World) (hr : Row w w.heap.size 5 (.slice A l.length c) l.length (codeCells l)) (hm : m ≤ c') (hc' : c' ≤ 9223372036854775807) :
    Calls Tryz.prog 15 #[.agg #[.slice A l.length c, .int .i64 sz, .slice A' m c']] w (WithOut w (withZ l sz m (ofZ l sz m)) (ownW l sz m (ofZ l sz m)) (errW l sz m (ofZ l sz m))) := by
  obtain ⟨W, hW⟩ : ∃ W, W = (w.alloc (.cells #[.slice A l.length c, .int .i64 sz, .slice A' m c'] 28)).alloc (.cells zeroSpl.toArray 32) := ⟨_, rfl⟩
  have HB : Hid (Below w.heap.size w W) := by rw [hW]; exact ((Below.refl w.heap.size w).alloc (Nat.le_refl _) _).alloc (by simp) _
  have X1 : Hid (Box W w.heap.size [.slice A l.length c, .int .i64 sz, .slice A' m c']) := by rw [hW]; exact (Box.new w _ _).alloc _
  have X2 : Hid (Box W (w.heap.size + 1) zeroSpl) := by
    rw [hW]
    have := Box.new (w.alloc (.cells #[.slice A l.length c, .int .i64 sz, .slice A' m c'] 28)) zeroSpl 32
    rw [show (w.alloc (.cells #[.slice A l.length c, .int .i64 sz, .slice A' m c'] 28)).heap.size = w.heap.size + 1 by simp] at this
    exact this
  have HR := Lib.hid (hr.below HB.out)
  have HZ : Hid (W.heap.size = w.heap.size + 2) := by show _ = _; rw [hW]; simp
  have HCAP := Lib.hid (⟨hm, hc'⟩ : m ≤ c' ∧ c' ≤ 9223372036854775807)
  have HOL := Lib.hid (ofZ_len (l := l) (sz := sz) (m := m))
  clear hr hm hc'
  go_enter Tryz.func15, Tryz.ntmps15
  go_upto_region 1 with (fail)
  change Code.wp _ _ _ _ ((w.alloc (.cells #[.slice A l.length c, .int .i64 sz, .slice A' m c'] 28)).alloc (.cells zeroSpl.toArray 32))
  rw [← hW]
  clear hW
  have k0 : KeepS (fun j => j = w.heap.size + 1) W W.drew := (KeepS.refl _ W).drew
  refine wp_region_lin [(0, true), (1, true), (2, false), (3, false), (4, true), (5, true), (6, false), (7, true)]
    (by kernel_rfl) (by kernel_rfl) rfl (by kernel_rfl) (KeepS (fun j => j = w.heap.size + 1) W) ?_
  simp only [List.map_cons, List.map_nil, List.getElem?_toArray, List.getElem?_cons_succ, List.getElem?_cons_zero]
  iterate 2 (refine lin_take_box k0 rfl 28 (.tmp 1) rfl w.heap.size 0 rfl [.slice A l.length c, .int .i64 sz, .slice A' m c'] [.slice A l.length c, .int .i64 sz, .slice A' m c'] (fun y hy => X1.out.keepS hy (by omega)) whole_at _ Tryz.underlying28 rfl 3 size_prg rfl ?_; (try simp only [Act.put, List.setIfInBounds_toArray, List.set_cons_zero, List.set_cons_succ]))
  refine lin_call k0 (by rfl) (fun K hK => ?_)
  go_simp
  refine (refOwner_any A c sz A' m c' l _ (HR.out.more (B' := W.heap.size) (by have := HZ.out; omega)).drew HCAP.out.1 HCAP.out.2).mono ?_; rintro e w2 ⟨rfl, hb2⟩
  go_wp2_with fail
  have k2 := k0.go hb2
  have HX2 := Lib.hid (X2.out.drew.below hb2 X2.out.lt)
  have HR2 := Lib.hid (HR.out.below (w' := w2) ((Below.refl _ W).drew.trans (hb2.mono (by have := HZ.out; show _ ≤ W.heap.size; omega))))
  have HZ2 : Hid (w.heap.size + 2 ≤ w2.heap.size) := by have := hb2.size; have := HZ.out; have h3 : W.drew.heap.size = W.heap.size := rfl; show _ ≤ _; omega
  have HB2 : Hid (Below w.heap.size w w2) := HB.out.trans ((Below.refl _ W).drew.trans (hb2.mono (by have := HZ.out; show _ ≤ W.heap.size; omega)))
  refine hK.out _ _ k2 (fun _ => ?_)
  clear hK K hb2 k0
  (try simp only [Act.put, List.setIfInBounds_toArray, List.set_cons_zero, List.set_cons_succ])
  refine lin_call k2 (by rfl) (fun K hK => ?_)
  go_simp
  refine (refWith_any A c sz A' m c' l (ofZ l sz m) _ (HR2.out.more (by have := HZ2.out; omega)) HCAP.out.1 HCAP.out.2 HOL.out).mono ?_; rintro e w3 ⟨v, rfl, hv, hb3⟩
  go_wp2_with fail
  have k3 := k2.go hb3
  have HX3 := Lib.hid (HX2.out.below hb3 HX2.out.lt)
  have HV := Lib.hid hv
  have HW : Hid ((ownW l sz m (ofZ l sz m)).length = 16) := by unfold ownW; split; exact HOL.out; rfl
  have HB3 : Hid (Below w.heap.size w w3) := HB2.out.trans (hb3.mono (by have := HZ2.out; omega))
  have HZ3 : Hid (w2.heap.size ≤ w3.heap.size) := hb3.size
  refine hK.out _ _ k3 (fun _ => ?_)
  clear hK K hb3 k2 hv
  obtain ⟨O, hO⟩ : ∃ O, O = ownW l sz m (ofZ l sz m) := ⟨_, rfl⟩
  rw [← hO] at HW ⊢
  have HO := Lib.hid hO
  clear hO
  (try simp only [Act.put, List.setIfInBounds_toArray, List.set_cons_zero, List.set_cons_succ])
  refine lin_take (v := .agg (splV v O).toArray) k3 (by rfl) (fun y hy => by rfl) ?_
  (try simp only [Act.put, List.setIfInBounds_toArray, List.set_cons_zero, List.set_cons_succ])
  refine lin_take (v := .int .i64 (errW l sz m (ofZ l sz m))) k3 (by rfl) (fun y hy => by rfl) ?_
  (try simp only [Act.put, List.setIfInBounds_toArray, List.set_cons_zero, List.set_cons_succ])
  obtain ⟨Av, cv, hvf⟩ := HV.out.blks.form
  subst hvf
  refine lin_put_cells k3 (by rfl) 32 (.tmp 2) (.tmp 8) rfl (w.heap.size + 1) 0 (splV (.slice Av (withZ l sz m (ofZ l sz m)).length cv) O) rfl rfl zeroSpl HX3.out (by rw [splV_len HW.out]; decide) 17 size_spl (splV_len HW.out) (splV_one rfl) (fun y hy hg => k3.trans (KeepS.of_grown hg (fun q hq => by injection hq with hq; exact hq.symm))) ?_
  intro w4 B4 hg4
  rw [splice_whole zeroSpl (splV (.slice Av (withZ l sz m (ofZ l sz m)).length cv) O) (by rw [splV_len HW.out]; rfl)] at B4
  have HV4 := Lib.hid (HV.out.keepS (KeepS.of_grown (S := fun j => j = w.heap.size + 1) hg4 (fun q hq => by injection hq with hq; exact hq.symm)) (fun j e => by have := HZ2.out; omega))
  have HB4 := Lib.hid (Below.grown HB3.out hg4 (by have := HX3.out.lt; omega) (fun q hq => by injection hq with hq; omega))
  have k4 := k3.trans (KeepS.of_grown (S := fun j => j = w.heap.size + 1) hg4 (fun q hq => by injection hq with hq; exact hq.symm))
  (try simp only [Act.put, List.setIfInBounds_toArray, List.set_cons_zero, List.set_cons_succ])
  refine lin_take (v := .int .i64 (errW l sz m (ofZ l sz m))) k4 (by rfl) (fun y hy => by rfl) ?_
  (try simp only [Act.put, List.setIfInBounds_toArray, List.set_cons_zero, List.set_cons_succ])
  refine lin_done ?_
  have HL := Lib.hid (load_spl HW.out B4)
  clear B4 hg4 k3 k4
  go_wp2_with fail
  refine bodyPost_ret (v := .tuple #[.agg (splV (.slice Av (withZ l sz m (ofZ l sz m)).length cv) O).toArray, .int .i64 (errW l sz m (ofZ l sz m))]) (results_cell_tmp' Tryz.results15 _ _ _ ⟨w.heap.size + 1, 0, none⟩ _ _ rfl HL.out rfl) rfl ⟨.slice Av (withZ l sz m (ofZ l sz m)).length cv, by rw [HO.out], HV4.out.less (by have := HZ2.out; omega), HB4.out⟩

end Go.Proofs.YteagglddgkjkmaaGreat.Words

/- The law's own helper of chapter 14: alive. -/
namespace Go.Proofs.YteagglddgkjkmaaGreat.Words
set_option maxRecDepth 100000
open Go.RowKit
set_option linter.unusedVariables false
set_option linter.unusedSimpArgs false

def hltI : Ins := ⟨41, 0, 0, 0, 0⟩
def hltB : BlkC := ⟨0, 1, -1, -1, [bareC 12 0 0], [bareC 12 0 0]⟩
theorem hlt_split : withZ [hltI] 0 0 (ofZ [hltI] 0 0) = [hltB] := by decide +kernel
theorem hlt_err : errW [hltI] 0 0 (ofZ [hltI] 0 0) = 0 := by decide +kernel
theorem hlt_own : ownW [hltI] 0 0 (ofZ [hltI] 0 0) = ofZ [hltI] 0 0 := by decide +kernel
theorem hlt_right : rightS [hltI] 0 0 [hltB] (ofZ [hltI] 0 0) = true := by decide +kernel
theorem hlt_none : rightS [hltI] 0 0 [] zeroO = false := by decide +kernel
theorem hlt_most : mostS [hltB] = 1 := by decide +kernel
theorem hlt_bal : balZ [] [] = true := by decide +kernel
theorem hlt_cnt : (countsZ [bareC 12 0 0])[11]? = some 1 := by decide +kernel

theorem c24_idx0_aux (a0 a1 a2 a3 a4 a5 a6 a7 a8 a9 a10 a11 e0 e1 e2 e3 e4 e5 e6 e7 e8 e9 e10 e11 : Int) (w : World) :
    (Instr.index 37 (.agg (c24 [a0, a1, a2, a3, a4, a5, a6, a7, a8, a9, a10, a11] [e0, e1, e2, e3, e4, e5, e6, e7, e8, e9, e10, e11]).toArray) (.int .i64 0)).run Tryz.prog w = .ok (.agg (oV [a0, a1, a2, a3, a4, a5, a6, a7, a8, a9, a10, a11]).toArray) w := by kernel_rfl
theorem c24_idx0 (a e : List Int) (ha : a.length = 12) (he : e.length = 12) (w : World) : (Instr.index 37 (.agg (c24 a e).toArray) (.int .i64 0)).run Tryz.prog w = .ok (.agg (oV a).toArray) w := by
  match a, e, ha, he with
  | [a0, a1, a2, a3, a4, a5, a6, a7, a8, a9, a10, a11], [e0, e1, e2, e3, e4, e5, e6, e7, e8, e9, e10, e11], _, _ => exact c24_idx0_aux ..
theorem c12_idx11_aux (a0 a1 a2 a3 a4 a5 a6 a7 a8 a9 a10 a11 : Int) (w : World) :
    (Instr.index 36 (.agg (oV [a0, a1, a2, a3, a4, a5, a6, a7, a8, a9, a10, a11]).toArray) (.int .i64 11)).run Tryz.prog w = .ok (.int .i64 a11) w := by kernel_rfl
theorem c12_idx11 (a : List Int) (ha : a.length = 12) (k : Int) (hk : a[11]? = some k) (w : World) : (Instr.index 36 (.agg (oV a).toArray) (.int .i64 11)).run Tryz.prog w = .ok (.int .i64 k) w := by
  match a, ha with
  | [a0, a1, a2, a3, a4, a5, a6, a7, a8, a9, a10, a11], _ =>
    have : a11 = k := by simpa using hk
    subst this
    exact c12_idx11_aux ..
set_option maxHeartbeats 4000000 in
theorem alive14_any (w : World) :
    Calls Tryz.prog 4 #[] w fun e w' => e = .returned (.bool true) ∧ Below w.heap.size w w' := by
  obtain ⟨W, hW⟩ : ∃ W, W = ((w.alloc (.cells #[.int .i64 41, .int .i64 0, .int .i64 0, .int .i64 0, .int .i64 0] 44)).alloc (.cells #[.slice (some ⟨w.heap.size, 0, none⟩) 1 1, .int .i64 0, .slice none 0 0] 28)) := ⟨_, rfl⟩
  have HB0 : Hid (Below w.heap.size w W) := by rw [hW]; exact ((Below.refl w.heap.size w).alloc (Nat.le_refl _) _).alloc (by simp) _
  have XP0 : Hid (Box W (w.heap.size + 1) [.slice (some ⟨w.heap.size, 0, none⟩) 1 1, .int .i64 0, .slice none 0 0]) := by
    have := Box.new (w.alloc (.cells #[.int .i64 41, .int .i64 0, .int .i64 0, .int .i64 0, .int .i64 0] 44)) [.slice (some ⟨w.heap.size, 0, none⟩) 1 1, .int .i64 0, .slice none 0 0] 28
    rw [hW]; show Box _ _ _; simpa using this
  have RC0 : Hid (Row W W.heap.size 5 (.slice (some ⟨w.heap.size, 0, none⟩) 1 1) 1 (codeCells [hltI])) := by
    rw [hW]
    exact ((row_new w (codeCells [hltI]) 5 rfl (by omega) 44).alloc (by simp) _).more (by simp)
  obtain ⟨O, hO⟩ : ∃ O, O = ofZ [hltI] 0 0 := ⟨_, rfl⟩
  have NO : Hid (O.length = 16) := by rw [hO]; exact ofZ_len
  have HR1 : Hid (rightS [hltI] 0 0 [hltB] O = true) := by rw [hO]; exact hlt_right
  have HOW : Hid (ownW [hltI] 0 0 (ofZ [hltI] 0 0) = O) := hlt_own.trans hO.symm
  clear hO
  go_enter Tryz.func4, Tryz.ntmps4
  go_upto_region 2 with (fail)
  change Code.wp _ _ _ _ ((w.alloc (.cells #[.int .i64 41, .int .i64 0, .int .i64 0, .int .i64 0, .int .i64 0] 44)).alloc (.cells #[.slice (some ⟨w.heap.size, 0, none⟩) 1 1, .int .i64 0, .slice none 0 0] 28))
  rw [← hW]
  clear hW
  go_wp2_with (first
    | (refine wpList_load_box rfl 28 (.tmp 1) rfl (w.heap.size + 1) 0 rfl [.slice (some ⟨w.heap.size, 0, none⟩) 1 1, .int .i64 0, .slice none 0 0] [.slice (some ⟨w.heap.size, 0, none⟩) 1 1, .int .i64 0, .slice none 0 0] XP0.out whole_at _ Tryz.underlying28 rfl 3 size_prg rfl ?_))
  refine (refSplitP_any (some ⟨w.heap.size, 0, none⟩) 1 0 none 0 0 [hltI] W RC0.out (Nat.le_refl _) (by decide)).mono ?_; rintro e w3 ⟨v3, rfl, hv3, hb⟩
  rw [hlt_err, hlt_split, HOW.out] at *
  obtain ⟨A3, c3, rfl⟩ := hv3.blks.form
  have HV3 := Lib.hid hv3.blks
  have XP3 := Lib.hid (XP0.out.below hb XP0.out.lt)
  have RC3 := Lib.hid ((RC0.out.below hb).more hb.size)
  have HB3 := Lib.hid (HB0.out.trans (hb.mono HB0.out.size))
  clear hv3 hb XP0 RC0 HB0
  go_upto_region 3 with (first
    | (refine wpList_store_box rfl 32 (.tmp 2) (.tmp 10) rfl w3.heap.size 0 (splV (.slice A3 1 c3) O) rfl rfl zeroSpl (Box.new w3 zeroSpl 32) (by rw [splV_len NO.out]; decide) 17 size_spl (splV_len NO.out) (splV_one rfl) ?_; intro w4 B4 hg4; rw [splice_whole zeroSpl (splV (.slice A3 1 c3) O) (by rw [splV_len NO.out]; rfl)] at B4; have HX4 : Hid (Box w4 w3.heap.size (splV (.slice A3 1 c3) O)) := B4; have HS4 := Lib.hid (box_stored hg4); clear B4 hg4))
  have HV4 := Lib.hid ((HV3.out.below HS4.out).more HS4.out.size)
  have XP4 := Lib.hid (XP3.out.below HS4.out XP3.out.lt)
  have RC4 := Lib.hid ((RC3.out.below HS4.out).more HS4.out.size)
  have HB4 := Lib.hid (HB3.out.trans (HS4.out.mono HB3.out.size))
  clear HV3 XP3 RC3 HB3 HS4
  obtain ⟨b4, o4, rfl⟩ := HV4.out.spot (by decide)
  go_wp2_with fail
  refine (balanced_any 0 0 0 0 none none 0 0 [] [] w4 (Row.nil _ _ _) (Row.nil _ _ _) (Nat.zero_le _) (Nat.zero_le _)).mono ?_; rintro e w5 ⟨rfl, hb⟩
  have XP5 := Lib.hid (XP4.out.below hb XP4.out.lt)
  have RC5 := Lib.hid ((RC4.out.below hb).more hb.size)
  have HX5 := Lib.hid (HX4.out.below hb HX4.out.lt)
  have HV5 := Lib.hid ((HV4.out.below hb).more hb.size)
  have HB5 := Lib.hid (HB4.out.trans (hb.mono HB4.out.size))
  clear hb XP4 RC4 HX4 HV4 HB4
  rw [hlt_bal]
  try dsimp only
  go_wp2_with (first
    | (refine wpList_load_box rfl 28 (.tmp 1) rfl (w.heap.size + 1) 0 rfl [.slice (some ⟨w.heap.size, 0, none⟩) 1 1, .int .i64 0, .slice none 0 0] [.slice (some ⟨w.heap.size, 0, none⟩) 1 1, .int .i64 0, .slice none 0 0] XP5.out whole_at _ Tryz.underlying28 rfl 3 size_prg rfl ?_)
    | (refine wpList_load_box rfl 32 (.tmp 2) rfl w3.heap.size 0 rfl (splV (.slice (some ⟨b4, o4, none⟩) 1 c3) O) (splV (.slice (some ⟨b4, o4, none⟩) 1 c3) O) HX5.out whole_at _ Tryz.underlying32 rfl 17 size_spl (splV_len NO.out) ?_))
  refine (rightS_any (some ⟨w.heap.size, 0, none⟩) 1 0 none 0 0 [hltI] (some ⟨b4, o4, none⟩) c3 [hltB] O w5 RC5.out (Nat.le_refl _) (by decide) HV5.out NO.out).mono ?_; rintro e w6 ⟨rfl, hb⟩
  have XP6 := Lib.hid (XP5.out.below hb XP5.out.lt)
  have RC6 := Lib.hid ((RC5.out.below hb).more hb.size)
  have HX6 := Lib.hid (HX5.out.below hb HX5.out.lt)
  have HV6 := Lib.hid ((HV5.out.below hb).more hb.size)
  have HB6 := Lib.hid (HB5.out.trans (hb.mono HB5.out.size))
  clear hb XP5 RC5 HX5 HV5 HB5
  rw [HR1.out]
  try dsimp only
  go_wp2_with (first
    | (refine wpList_load_box rfl 28 (.tmp 1) rfl (w.heap.size + 1) 0 rfl [.slice (some ⟨w.heap.size, 0, none⟩) 1 1, .int .i64 0, .slice none 0 0] [.slice (some ⟨w.heap.size, 0, none⟩) 1 1, .int .i64 0, .slice none 0 0] XP6.out whole_at _ Tryz.underlying28 rfl 3 size_prg rfl ?_)
    | (refine wpList_load_box rfl 32 (.tmp 2) rfl w3.heap.size 0 rfl (splV (.slice (some ⟨b4, o4, none⟩) 1 c3) O) (splV (.slice (some ⟨b4, o4, none⟩) 1 c3) O) HX6.out whole_at _ Tryz.underlying32 rfl 17 size_spl (splV_len NO.out) ?_))
  refine (mostS_any (some ⟨b4, o4, none⟩) c3 [hltB] O w6 HV6.out (fun b hb => by rw [List.mem_singleton] at hb; subst hb; refine ⟨fun x hx => ?_, fun x hx => ?_⟩ <;> (rw [List.mem_singleton.1 hx]; exact ⟨by decide, by decide⟩))).mono ?_; rintro e w7 ⟨rfl, hb⟩
  have XP7 := Lib.hid (XP6.out.below hb XP6.out.lt)
  have RC7 := Lib.hid ((RC6.out.below hb).more hb.size)
  have HX7 := Lib.hid (HX6.out.below hb HX6.out.lt)
  have HV7 := Lib.hid ((HV6.out.below hb).more hb.size)
  have HB7 := Lib.hid (HB6.out.trans (hb.mono HB6.out.size))
  clear hb XP6 RC6 HX6 HV6 HB6
  rw [hlt_most]
  obtain ⟨A5, c5, A6, c6, x0, x1, x2, x3, x4, x5, ra, re⟩ := HV7.out.at_ (k := 0) rfl
  have RA := Lib.hid ra
  have RE := Lib.hid re
  have q0 : w7.cell? ⟨w3.heap.size, 0, none⟩ = some (.slice (some ⟨b4, o4, none⟩) 1 c3) := HX7.out.cell (k := 0) rfl
  simp only [hltB, List.length_cons, List.length_nil, Nat.zero_add, Nat.zero_mul, Nat.add_zero] at x0 x1 x2 x3 x4 x5
  clear ra re
  try dsimp only
  go_wp2_with fail
  refine (counts_any 0 1 (-1) (-1) A5 A6 c5 c6 [bareC 12 0 0] [bareC 12 0 0] w7 RA.out RE.out).mono ?_; rintro e w8 ⟨rfl, hb⟩
  clear x0 x1 x2 x3 x4 x5 q0 RA RE
  have XP8 := Lib.hid (XP7.out.below hb XP7.out.lt)
  have RC8 := Lib.hid ((RC7.out.below hb).more hb.size)
  have HX8 := Lib.hid (HX7.out.below hb HX7.out.lt)
  have HV8 := Lib.hid ((HV7.out.below hb).more hb.size)
  have HB8 := Lib.hid (HB7.out.trans (hb.mono HB7.out.size))
  clear hb XP7 RC7 HX7 HV7 HB7
  obtain ⟨zc, hzc⟩ : ∃ zc, zc = countsZ [bareC 12 0 0] := ⟨_, rfl⟩
  have n12 : zc.length = 12 := by rw [hzc]; exact countsZ_len _
  have n11 : zc[11]? = some 1 := by rw [hzc]; exact hlt_cnt
  rw [← hzc]
  have ix0 := c24_idx0 zc zc n12 n12
  have ix1 := c12_idx11 zc n12 1 n11
  clear n12 n11 hzc
  try dsimp only
  go_wp2_with (first
    | (refine wpList_load_box rfl 28 (.tmp 1) rfl (w.heap.size + 1) 0 rfl [.slice (some ⟨w.heap.size, 0, none⟩) 1 1, .int .i64 0, .slice none 0 0] [.slice (some ⟨w.heap.size, 0, none⟩) 1 1, .int .i64 0, .slice none 0 0] XP8.out whole_at _ Tryz.underlying28 rfl 3 size_prg rfl ?_)
    | (refine wpList_load_box rfl 32 (.tmp 2) rfl w3.heap.size 0 rfl (splV (.slice (some ⟨b4, o4, none⟩) 1 c3) O) (splV (.slice (some ⟨b4, o4, none⟩) 1 c3) O) HX8.out whole_at _ Tryz.underlying32 rfl 17 size_spl (splV_len NO.out) ?_))
  refine (rightS_any (some ⟨w.heap.size, 0, none⟩) 1 0 none 0 0 [hltI] none 0 [] zeroO w8 RC8.out (Nat.le_refl _) (by decide) ⟨[], Row.nil _ _ _, rfl, fun k r c h => by simp at h⟩ rfl).mono ?_; rintro e w9 ⟨rfl, hb⟩
  have HB9 := Lib.hid (HB8.out.trans (hb.mono HB8.out.size))
  clear hb
  rw [hlt_none]
  try dsimp only
  go_wp2_with fail
  go_ret
  exact ⟨by first | rfl | trivial, HB9.out⟩
end Go.Proofs.YteagglddgkjkmaaGreat.Words

/- Contracts of the document's own some and Most of chapter 14. -/
namespace Go.Proofs.YteagglddgkjkmaaGreat.Words
set_option maxRecDepth 100000
open Go.RowKit
set_option linter.unusedVariables false
set_option linter.unusedSimpArgs false

theorem someZ_le (k : Int) (l : List Cel) : (someZ k l).length ≤ l.length := List.length_filter_le _ _

set_option maxHeartbeats 2000000 in
theorem refSome_any (A : Option Addr) (c n : Nat) (l : List Cel) (k : Int) (w : World) (e1 : l.length = n) (h1 : Row w w.heap.size 9 (.slice A n c) n (flat celCells l)) (hs : n ≤ 2000000) :
    Calls Tryz.prog 27 #[.slice A n c, .int .i64 k] w (CelsN w (someZ k l)) := by
  obtain ⟨i0, hi, hq0, hq1, hq2⟩ := info_parts info_cel
  have HI := Lib.hid hi
  have HZ0 := Lib.hid hq0
  have HZ1 := Lib.hid hq1
  have HZ2 := Lib.hid hq2
  clear hi hq0 hq1 hq2
  have H1 := Lib.hid h1
  have HA := Lib.hid (fun j (h : j < n) => at_someG (l := l) (j := j) (by omega))
  have HST := Lib.hid (fun (j : Nat) (x : Cel) (hx : l[j]? = some x) => some_step (k := k) hx)
  have HE := Lib.hid (fun (j : Nat) (h : n ≤ j) => (show l.take j = l from List.take_of_length_le (by omega)))
  have HLN := Lib.hid (fun (j : Nat) => (show (someZ k (l.take j)).length ≤ 2000000 from Nat.le_trans (someZ_le _ _) (by rw [List.length_take]; omega)))
  have e0 : someZ k (l.take 0) = [] := rfl
  have HE0 := Lib.hid e0
  clear h1 e1 e0
  go_enter Tryz.func27, Tryz.ntmps27
  go_wp2_with fail
  go_loopw [5, 6] (fun v i wr => ∃ j : Nat, j ≤ n ∧ i = .int .i64 j ∧ wr.ownsRow w.heap.size 49 9 v (someZ k (l.take j)).length (flat celCells (someZ k (l.take j))) ∧ Kept w wr) (fun _ i _ => n - (intOf i).toNat)
  case atStart => exact ⟨0, Nat.zero_le _, rfl, by rw [HE0.out]; exact World.ownsRow_nil _ _ _ _, Kept.refl _⟩
  case round =>
    obtain ⟨j, hj, rfl, hO, hK⟩ := hrel
    obtain ⟨out, hout⟩ : ∃ out, out = someZ k (l.take j) := ⟨_, rfl⟩
    have hol := HLN.out j
    rw [← hout] at hO hol
    have HOUT := Lib.hid hout
    have HOW := Lib.hid hO
    have HK := Lib.hid hK
    have HOL := Lib.hid hol
    obtain ⟨m, hm⟩ : ∃ m, m = out.length := ⟨_, rfl⟩
    rw [← hm] at HOW hO HOL
    have HM := Lib.hid hm
    obtain ⟨Ao, co, hv⟩ := (Row.of_own hO).form
    subst hv
    clear hout hO hol hm
    by_cases hlt : j < n
    · obtain ⟨x, hx⟩ := HA.out j hlt
      have hrow := H1.out.below (w' := wr) hK
      obtain ⟨b, off, rfl, hb, _⟩ := hrow.at_ (by omega)
      obtain ⟨d0, d1, d2, d3, d4, d5, d6, d7, d8⟩ := hrow.cel hx
      have HS := Lib.hid (HST.out j x hx)
      have k0 : (0 : Int) ≤ j := by omega
      have k1 : (j : Int) < n := by omega
      have hbz : b < wr.heap.size := by have := hK.size; omega
      clear hx hrow hK
      by_cases hk : x.kind = k
      · have hb1 : (x.kind == k) = true := by simpa using hk
        have hres := Lib.hid (show someZ k (l.take (j + 1)) = out ++ [x] by rw [HS.out, if_pos hk, ← HOUT.out])
        subst hk
        go_wp2_with (first
          | (refine wpList_append_new _ rfl (.tmp 20) (.tmp 25) 22 rfl w.heap.size 49 i0 _ 9 72 Tryz.underlying22 HI.out HZ0.out HZ1.out HZ2.out rfl (by omega) (.slice Ao m co) m (flat celCells out) rfl (own_below HOW.out ((Below.refl _ _).alloc (Nat.le_refl _) _)) _ (.slice (some ⟨wr.heap.size, 0, none⟩) 1 1) 1 (celCells x) rfl (row_new wr (celCells x) 9 rfl (by omega) _) (celCells_one x) (by unfold maxLen; have := HOL.out; omega) (by have := HOL.out; omega) (by have := HK.out.size; simp; omega) ?_; intro v2 w2 hO hg hn2; have HO2 := Lib.hid hO; have HK2 : Hid (Kept w w2) := Below.grown ((HK.out.alloc _)) hg (HK.out.alloc _).size (fun q hq => (HOW.out.lt q hq).1); clear hO hg hn2))
        go_roundw
        case rel =>
          refine ⟨j + 1, by omega, by go_num, ?_, HK2.out⟩
          rw [hres.out, List.length_append, ← HM.out, flat_snoc]
          exact HO2.out
        case measure => simp [intOf]; omega
      · have hb1 : (x.kind == k) = false := by simpa using hk
        have hres := Lib.hid (show someZ k (l.take (j + 1)) = out by rw [HS.out, if_neg hk, ← HOUT.out])
        clear hk
        go_wp2_with fail
        go_roundw
        case rel =>
          refine ⟨j + 1, by omega, by go_num, ?_, HK.out⟩
          rw [hres.out, ← HM.out]
          exact HOW.out
        case measure => simp [intOf]; omega
    · have hres := Lib.hid (show someZ k l = out by rw [HOUT.out, HE.out j (by omega)])
      go_wp2_with fail
      go_ret
      rw [hres.out]
      exact ⟨_, rfl, by rw [← HM.out]; exact Row.of_own HOW.out, NewV.own HOW.out, HK.out⟩
end Go.Proofs.YteagglddgkjkmaaGreat.Words

/- Contract of the document's own Balanced of chapter 14. -/
namespace Go.Proofs.YteagglddgkjkmaaGreat.Words
set_option maxRecDepth 100000
open Go.RowKit
set_option linter.unusedVariables false
set_option linter.unusedSimpArgs false

theorem row_ints (w : World) (zs : List Int) (n : Nat) (hn : zs.length = n) (hm : n ≤ 1000) (t : TypeId) : Row (w.alloc (.cells (zs.map (Value.int .i64)).toArray t)) (w.alloc (.cells (zs.map (Value.int .i64)).toArray t)).heap.size 1 (.slice (some ⟨w.heap.size, 0, none⟩) n n) n (zs.map (Value.int .i64)) := by
  have := World.ownsRow_lit (base := 0) (e := t) (size := 1) w (zs.map (Value.int .i64)).toArray n (Nat.zero_le _) (by unfold maxLen; omega) (by simp [hn])
  exact Row.of_own this
theorem bal_no1 {a e : List Cel} (h : onlyZ kindsA a = false) : balZ a e = false := by unfold balZ; rw [h]; rfl
theorem bal_no2 {a e : List Cel} (h : onlyZ kindsE e = false) : balZ a e = false := by unfold balZ; rw [h]; simp
theorem bal_no3 {a e : List Cel} (h : (someZ 5 a).length ≠ (someZ 6 e).length ∨ (someZ 3 a).length ≠ (someZ 7 e).length ∨ (someZ 4 a).length ≠ (someZ 8 e).length) : balZ a e = false := by
  rw [← Bool.not_eq_true]
  intro hb
  unfold balZ at hb
  simp only [Bool.and_eq_true, decide_eq_true_eq] at hb
  obtain ⟨⟨⟨⟨⟨_, _⟩, h3⟩, h4⟩, h5⟩, _⟩ := hb
  have e1 := congrArg List.length h3
  have e2 := congrArg List.length h4
  rw [List.length_map, List.length_map] at e1 e2
  rcases h with h | h | h
  · exact h e1
  · exact h e2
  · exact h h5
theorem bal_no4 {a e : List Cel} (h : (someZ 5 a).map Cel.reg ≠ (someZ 6 e).map Cel.reg) : balZ a e = false := by unfold balZ; rw [decide_eq_false h]; simp
theorem bal_no5 {a e : List Cel} (h : (someZ 3 a).map Cel.ins ≠ (someZ 7 e).map Cel.ins) : balZ a e = false := by unfold balZ; rw [decide_eq_false h]; simp
theorem bal_yes {a e : List Cel} (h1 : onlyZ kindsA a = true) (h2 : onlyZ kindsE e = true) (h3 : (someZ 5 a).map Cel.reg = (someZ 6 e).map Cel.reg) (h4 : (someZ 3 a).map Cel.ins = (someZ 7 e).map Cel.ins) (h5 : (someZ 4 a).length = (someZ 8 e).length) : balZ a e = joinB (lastK a) (lastK e) := by
  unfold balZ; rw [h1, h2, decide_eq_true h3, decide_eq_true h4, decide_eq_true h5]; rfl
theorem map_step {β : Type} (g : Cel → β) {l m : List Cel} {j : Nat} {x y : Cel} (hx : l[j]? = some x) (hy : m[j]? = some y) : ((l.drop j).map g = (m.drop j).map g) ↔ (g x = g y ∧ (l.drop (j + 1)).map g = (m.drop (j + 1)).map g) := by
  obtain ⟨h1, rfl⟩ := List.getElem?_eq_some_iff.1 hx
  obtain ⟨h2, rfl⟩ := List.getElem?_eq_some_iff.1 hy
  rw [List.drop_eq_getElem_cons h1, List.drop_eq_getElem_cons h2, List.map_cons, List.map_cons, List.cons.injEq]
end Go.Proofs.YteagglddgkjkmaaGreat.Words

/- Contract of the document's own Balanced of chapter 14: the walk. -/
namespace Go.Proofs.YteagglddgkjkmaaGreat.Words
set_option maxRecDepth 100000
open Go.RowKit
set_option linter.unusedVariables false
set_option linter.unusedSimpArgs false

set_option maxHeartbeats 8000000 in
theorem refBal_any (f t x1 x2 : Int) (A3 A5 : Option Addr) (na c3 ne c5 : Nat) (la le : List Cel) (w : World) (hna : la.length = na) (hne : le.length = ne) (ha : Row w w.heap.size 9 (.slice A3 na c3) na (flat celCells la)) (he : Row w w.heap.size 9 (.slice A5 ne c5) ne (flat celCells le)) (hs1 : na ≤ 2000000) (hs2 : ne ≤ 2000000) :
    Calls Tryz.prog 10 #[.agg #[.int .i64 f, .int .i64 t, .int .i64 x1, .int .i64 x2, .slice A3 na c3, .slice A5 ne c5]] w fun e w' => e = .returned (.bool (balZ la le)) ∧ Below w.heap.size w w' := by
  obtain ⟨W, hW⟩ : ∃ W, W = w.alloc (.cells #[.int .i64 f, .int .i64 t, .int .i64 x1, .int .i64 x2, .slice A3 na c3, .slice A5 ne c5] 24) := ⟨_, rfl⟩
  have HK0 : Hid (Below w.heap.size w W) := by rw [hW]; exact (Below.refl w.heap.size w).alloc (Nat.le_refl _) _
  have XB0 : Hid (Box W w.heap.size [.int .i64 f, .int .i64 t, .int .i64 x1, .int .i64 x2, .slice A3 na c3, .slice A5 ne c5]) := by rw [hW]; exact Box.new w _ _
  have RA0 := Lib.hid ((ha.below HK0.out).more HK0.out.size)
  have RE0 := Lib.hid ((he.below HK0.out).more HK0.out.size)
  have HNA := Lib.hid hna
  have HNE := Lib.hid hne
  have HS1 := Lib.hid hs1
  have HS2 := Lib.hid hs2
  clear ha he hna hne
  go_enter Tryz.func10, Tryz.ntmps10
  go_upto_region 1 with (fail)
  change Code.wp _ _ _ _ (w.alloc (.cells #[.int .i64 f, .int .i64 t, .int .i64 x1, .int .i64 x2, .slice A3 na c3, .slice A5 ne c5] 24))
  rw [← hW]
  clear hW
  have s4 : W.cell? ⟨w.heap.size, 4, none⟩ = some (.slice A3 na c3) := XB0.out.cell (k := 4) rfl
  have s5 : W.cell? ⟨w.heap.size, 5, none⟩ = some (.slice A5 ne c5) := XB0.out.cell (k := 5) rfl
  go_wp2_with fail
  obtain ⟨w1, hw1⟩ : ∃ w1, w1 = W.alloc (.cells (kindsA.map (Value.int .i64)).toArray 3) := ⟨_, rfl⟩
  have hbw1 : Below W.heap.size W w1 := by rw [hw1]; exact (Below.refl _ _).alloc (Nat.le_refl _) _
  have HRw1 : Hid (Row w1 w1.heap.size 1 (.slice (some ⟨W.heap.size, 0, none⟩) 5 5) 5 (kindsA.map (Value.int .i64))) := by rw [hw1]; exact row_ints W kindsA 5 rfl (by omega) _
  have HK1 := Lib.hid (HK0.out.trans ((hbw1).mono HK0.out.size))
  have XB1 := Lib.hid (XB0.out.below (hbw1) XB0.out.lt)
  have RA1 := Lib.hid ((RA0.out.below (hbw1)).more (hbw1).size)
  have RE1 := Lib.hid ((RE0.out.below (hbw1)).more (hbw1).size)
  clear XB0 RA0 RE0 HK0
  have hO := refOnly_any A3 c3 na la (some ⟨W.heap.size, 0, none⟩) 5 5 kindsA w1 HNA.out RA1.out rfl HRw1.out (by omega)
  rw [hw1] at hO
  refine hO.mono ?_; rintro e _ ⟨rfl, rfl⟩
  rw [← hw1]
  clear hO hw1 hbw1 s4 s5
  cases ho1 : onlyZ kindsA la
  · have hres := Lib.hid (bal_no1 (e := le) ho1)
    clear ho1
    try dsimp only
    go_wp2_with fail
    go_ret
    exact ⟨ret_bool hres.out.symm, HK1.out⟩
  have HO1 := Lib.hid ho1
  clear ho1
  try dsimp only
  have s4 : w1.cell? ⟨w.heap.size, 4, none⟩ = some (.slice A3 na c3) := XB1.out.cell (k := 4) rfl
  have s5 : w1.cell? ⟨w.heap.size, 5, none⟩ = some (.slice A5 ne c5) := XB1.out.cell (k := 5) rfl
  go_wp2_with fail
  obtain ⟨w2, hw2⟩ : ∃ w2, w2 = w1.alloc (.cells (kindsE.map (Value.int .i64)).toArray 3) := ⟨_, rfl⟩
  have hbw2 : Below w1.heap.size w1 w2 := by rw [hw2]; exact (Below.refl _ _).alloc (Nat.le_refl _) _
  have HRw2 : Hid (Row w2 w2.heap.size 1 (.slice (some ⟨w1.heap.size, 0, none⟩) 4 4) 4 (kindsE.map (Value.int .i64))) := by rw [hw2]; exact row_ints w1 kindsE 4 rfl (by omega) _
  have HK2 := Lib.hid (HK1.out.trans ((hbw2).mono HK1.out.size))
  have XB2 := Lib.hid (XB1.out.below (hbw2) XB1.out.lt)
  have RA2 := Lib.hid ((RA1.out.below (hbw2)).more (hbw2).size)
  have RE2 := Lib.hid ((RE1.out.below (hbw2)).more (hbw2).size)
  clear XB1 RA1 RE1 HK1
  have hO := refOnly_any A5 c5 ne le (some ⟨w1.heap.size, 0, none⟩) 4 4 kindsE w2 HNE.out RE2.out rfl HRw2.out (by omega)
  rw [hw2] at hO
  refine hO.mono ?_; rintro e _ ⟨rfl, rfl⟩
  rw [← hw2]
  clear hO hw2 hbw2 s4 s5
  cases ho2 : onlyZ kindsE le
  · have hres := Lib.hid (bal_no2 (a := la) ho2)
    clear ho2
    try dsimp only
    go_wp2_with fail
    go_ret
    exact ⟨ret_bool hres.out.symm, HK2.out⟩
  have HO2 := Lib.hid ho2
  clear ho2
  try dsimp only
  have s4 : w2.cell? ⟨w.heap.size, 4, none⟩ = some (.slice A3 na c3) := XB2.out.cell (k := 4) rfl
  have s5 : w2.cell? ⟨w.heap.size, 5, none⟩ = some (.slice A5 ne c5) := XB2.out.cell (k := 5) rfl
  go_wp2_with fail
  refine (refSome_any A3 c3 na la 5 w2 HNA.out RA2.out HS1.out).mono ?_; rintro e w3 ⟨vx, rfl, hrx, hnx, hbw3⟩
  obtain ⟨Ax, kx, rfl⟩ := hrx.form
  obtain ⟨mx, hmx⟩ : ∃ mx, mx = (someZ 5 la).length := ⟨_, rfl⟩
  rw [← hmx] at hrx ⊢
  have HMx := Lib.hid hmx
  have HBx := Lib.hid (show (mx : Int) ≤ 2000000 from Int.ofNat_le.2 (Nat.le_trans (Nat.le_trans (Nat.le_of_eq HMx.out) (List.length_filter_le _ _)) (Nat.le_trans (Nat.le_of_eq HNA.out) HS1.out)))
  have HK3 := Lib.hid (HK2.out.trans ((hbw3).mono HK2.out.size))
  have XB3 := Lib.hid (XB2.out.below (hbw3) XB2.out.lt)
  have RA3 := Lib.hid ((RA2.out.below (hbw3)).more (hbw3).size)
  have RE3 := Lib.hid ((RE2.out.below (hbw3)).more (hbw3).size)
  clear XB2 RA2 RE2 HK2
  have Vx3 := Lib.hid hrx
  clear hrx hnx hbw3 hmx s4 s5
  try dsimp only
  have s4 : w3.cell? ⟨w.heap.size, 4, none⟩ = some (.slice A3 na c3) := XB3.out.cell (k := 4) rfl
  have s5 : w3.cell? ⟨w.heap.size, 5, none⟩ = some (.slice A5 ne c5) := XB3.out.cell (k := 5) rfl
  go_wp2_with fail
  refine (refSome_any A5 c5 ne le 6 w3 HNE.out RE3.out HS2.out).mono ?_; rintro e w4 ⟨vy, rfl, hry, hny, hbw4⟩
  obtain ⟨Ay, ky, rfl⟩ := hry.form
  obtain ⟨my, hmy⟩ : ∃ my, my = (someZ 6 le).length := ⟨_, rfl⟩
  rw [← hmy] at hry ⊢
  have HMy := Lib.hid hmy
  have HBy := Lib.hid (show (my : Int) ≤ 2000000 from Int.ofNat_le.2 (Nat.le_trans (Nat.le_trans (Nat.le_of_eq HMy.out) (List.length_filter_le _ _)) (Nat.le_trans (Nat.le_of_eq HNE.out) HS2.out)))
  have HK4 := Lib.hid (HK3.out.trans ((hbw4).mono HK3.out.size))
  have XB4 := Lib.hid (XB3.out.below (hbw4) XB3.out.lt)
  have RA4 := Lib.hid ((RA3.out.below (hbw4)).more (hbw4).size)
  have RE4 := Lib.hid ((RE3.out.below (hbw4)).more (hbw4).size)
  have Vx4 := Lib.hid ((Vx3.out.below (hbw4)).more (hbw4).size)
  clear XB3 RA3 RE3 Vx3 HK3
  have Vy4 := Lib.hid hry
  clear hry hny hbw4 hmy s4 s5
  try dsimp only
  have s4 : w4.cell? ⟨w.heap.size, 4, none⟩ = some (.slice A3 na c3) := XB4.out.cell (k := 4) rfl
  have s5 : w4.cell? ⟨w.heap.size, 5, none⟩ = some (.slice A5 ne c5) := XB4.out.cell (k := 5) rfl
  go_wp2_with fail
  refine (refSome_any A3 c3 na la 3 w4 HNA.out RA4.out HS1.out).mono ?_; rintro e w5 ⟨vu, rfl, hru, hnu, hbw5⟩
  obtain ⟨Au, ku, rfl⟩ := hru.form
  obtain ⟨mu, hmu⟩ : ∃ mu, mu = (someZ 3 la).length := ⟨_, rfl⟩
  rw [← hmu] at hru ⊢
  have HMu := Lib.hid hmu
  have HBu := Lib.hid (show (mu : Int) ≤ 2000000 from Int.ofNat_le.2 (Nat.le_trans (Nat.le_trans (Nat.le_of_eq HMu.out) (List.length_filter_le _ _)) (Nat.le_trans (Nat.le_of_eq HNA.out) HS1.out)))
  have HK5 := Lib.hid (HK4.out.trans ((hbw5).mono HK4.out.size))
  have XB5 := Lib.hid (XB4.out.below (hbw5) XB4.out.lt)
  have RA5 := Lib.hid ((RA4.out.below (hbw5)).more (hbw5).size)
  have RE5 := Lib.hid ((RE4.out.below (hbw5)).more (hbw5).size)
  have Vx5 := Lib.hid ((Vx4.out.below (hbw5)).more (hbw5).size)
  have Vy5 := Lib.hid ((Vy4.out.below (hbw5)).more (hbw5).size)
  clear XB4 RA4 RE4 Vx4 Vy4 HK4
  have Vu5 := Lib.hid hru
  clear hru hnu hbw5 hmu s4 s5
  try dsimp only
  have s4 : w5.cell? ⟨w.heap.size, 4, none⟩ = some (.slice A3 na c3) := XB5.out.cell (k := 4) rfl
  have s5 : w5.cell? ⟨w.heap.size, 5, none⟩ = some (.slice A5 ne c5) := XB5.out.cell (k := 5) rfl
  go_wp2_with fail
  refine (refSome_any A5 c5 ne le 7 w5 HNE.out RE5.out HS2.out).mono ?_; rintro e w6 ⟨vv, rfl, hrv, hnv, hbw6⟩
  obtain ⟨Av, kv, rfl⟩ := hrv.form
  obtain ⟨mv, hmv⟩ : ∃ mv, mv = (someZ 7 le).length := ⟨_, rfl⟩
  rw [← hmv] at hrv ⊢
  have HMv := Lib.hid hmv
  have HBv := Lib.hid (show (mv : Int) ≤ 2000000 from Int.ofNat_le.2 (Nat.le_trans (Nat.le_trans (Nat.le_of_eq HMv.out) (List.length_filter_le _ _)) (Nat.le_trans (Nat.le_of_eq HNE.out) HS2.out)))
  have HK6 := Lib.hid (HK5.out.trans ((hbw6).mono HK5.out.size))
  have XB6 := Lib.hid (XB5.out.below (hbw6) XB5.out.lt)
  have RA6 := Lib.hid ((RA5.out.below (hbw6)).more (hbw6).size)
  have RE6 := Lib.hid ((RE5.out.below (hbw6)).more (hbw6).size)
  have Vx6 := Lib.hid ((Vx5.out.below (hbw6)).more (hbw6).size)
  have Vy6 := Lib.hid ((Vy5.out.below (hbw6)).more (hbw6).size)
  have Vu6 := Lib.hid ((Vu5.out.below (hbw6)).more (hbw6).size)
  clear XB5 RA5 RE5 Vx5 Vy5 Vu5 HK5
  have Vv6 := Lib.hid hrv
  clear hrv hnv hbw6 hmv s4 s5
  try dsimp only
  go_upto_region 7 with (fail)
  by_cases hxy : mx = my
  rotate_left
  · have hb1 : ((mx : Int) != my) = true := by simp; omega
    refine wp_region_lin [(0, true), (1, true), (2, true), (3, true), (4, true), (5, true), (6, true), (7, true), (8, true), (9, true), (10, true), (11, true), (12, true), (13, true), (14, true), (17, true), (18, true), (15, false), (16, true), (19, false), (20, true), (21, true), (22, true)]
      (by kernel_rfl) (by kernel_rfl) rfl (by kernel_rfl) (Kept w6) ?_
    simp only [List.map_cons, List.map_nil, List.getElem?_toArray, List.getElem?_cons_succ, List.getElem?_cons_zero]
    have k0 : Kept w6 w6.drew := (Kept.refl w6).drew
    have ct := fun (y : World) (hy : Kept w6 y) => XB6.out.kept hy
    iterate 6 (refine lin_take (v := ?_) k0 (by rfl) ?_ ?_; rotate_left; (intro y hy; have ct4 := (ct y hy).cell (k := 4) rfl; have ct5 := (ct y hy).cell (k := 5) rfl; go_simp; try (with_reducible rfl)); (try simp only [Act.put, List.setIfInBounds_toArray, List.set_cons_zero, List.set_cons_succ]))
    refine lin_skip k0 (by rfl) ?_
    (try simp only [Act.put, List.setIfInBounds_toArray, List.set_cons_zero, List.set_cons_succ])
    refine lin_skip k0 (by rfl) ?_
    (try simp only [Act.put, List.setIfInBounds_toArray, List.set_cons_zero, List.set_cons_succ])
    refine lin_skip k0 (by rfl) ?_
    (try simp only [Act.put, List.setIfInBounds_toArray, List.set_cons_zero, List.set_cons_succ])
    refine lin_skip k0 (by rfl) ?_
    (try simp only [Act.put, List.setIfInBounds_toArray, List.set_cons_zero, List.set_cons_succ])
    refine lin_skip k0 (by rfl) ?_
    (try simp only [Act.put, List.setIfInBounds_toArray, List.set_cons_zero, List.set_cons_succ])
    iterate 2 (refine lin_take (v := ?_) k0 (by rfl) ?_ ?_; rotate_left; (intro y hy; have ct4 := (ct y hy).cell (k := 4) rfl; have ct5 := (ct y hy).cell (k := 5) rfl; go_simp; try (with_reducible rfl)); (try simp only [Act.put, List.setIfInBounds_toArray, List.set_cons_zero, List.set_cons_succ]))
    refine lin_skip k0 (by rfl) ?_
    (try simp only [Act.put, List.setIfInBounds_toArray, List.set_cons_zero, List.set_cons_succ])
    refine lin_skip k0 (by rfl) ?_
    (try simp only [Act.put, List.setIfInBounds_toArray, List.set_cons_zero, List.set_cons_succ])
    refine lin_skip k0 (by rfl) ?_
    (try simp only [Act.put, List.setIfInBounds_toArray, List.set_cons_zero, List.set_cons_succ])
    refine lin_skip k0 (by rfl) ?_
    (try simp only [Act.put, List.setIfInBounds_toArray, List.set_cons_zero, List.set_cons_succ])
    refine lin_void k0 (by rfl) ?_
    (try simp only [Act.put, List.setIfInBounds_toArray, List.set_cons_zero, List.set_cons_succ])
    refine lin_skip k0 (by rfl) ?_
    (try simp only [Act.put, List.setIfInBounds_toArray, List.set_cons_zero, List.set_cons_succ])
    refine lin_void k0 (by rfl) ?_
    (try simp only [Act.put, List.setIfInBounds_toArray, List.set_cons_zero, List.set_cons_succ])
    refine lin_skip k0 (by rfl) ?_
    (try simp only [Act.put, List.setIfInBounds_toArray, List.set_cons_zero, List.set_cons_succ])
    refine lin_skip k0 (by rfl) ?_
    (try simp only [Act.put, List.setIfInBounds_toArray, List.set_cons_zero, List.set_cons_succ])
    iterate 1 (refine lin_take (v := ?_) k0 (by rfl) ?_ ?_; rotate_left; (intro y hy; have ct4 := (ct y hy).cell (k := 4) rfl; have ct5 := (ct y hy).cell (k := 5) rfl; go_simp; try (with_reducible rfl)); (try simp only [Act.put, List.setIfInBounds_toArray, List.set_cons_zero, List.set_cons_succ]))
    refine lin_done ?_
    have HE := Lib.hid (HK6.out.trans ((show Below w6.heap.size w6 _ from k0).mono HK6.out.size))
    clear k0 ct
    have hres := Lib.hid (show balZ la le = false from bal_no3 (.inl (by rw [← HMx.out, ← HMy.out]; exact hxy)))
    go_wp2_with fail
    go_ret
    exact ⟨ret_bool hres.out.symm, HE.out⟩
  have hb1 : ((mx : Int) != my) = false := by simp; omega
  by_cases huv : mu = mv
  rotate_left
  · have hb2 : ((mu : Int) != mv) = true := by simp; omega
    refine wp_region_lin [(0, true), (1, true), (2, true), (3, true), (4, true), (5, true), (6, true), (7, true), (8, true), (9, true), (10, true), (11, true), (12, true), (13, true), (14, true), (17, true), (18, true), (15, false), (16, true), (19, false), (20, true), (21, true), (22, true)]
      (by kernel_rfl) (by kernel_rfl) rfl (by kernel_rfl) (Kept w6) ?_
    simp only [List.map_cons, List.map_nil, List.getElem?_toArray, List.getElem?_cons_succ, List.getElem?_cons_zero]
    have k0 : Kept w6 w6.drew := (Kept.refl w6).drew
    have ct := fun (y : World) (hy : Kept w6 y) => XB6.out.kept hy
    iterate 13 (refine lin_take (v := ?_) k0 (by rfl) ?_ ?_; rotate_left; (intro y hy; have ct4 := (ct y hy).cell (k := 4) rfl; have ct5 := (ct y hy).cell (k := 5) rfl; go_simp; try (with_reducible rfl)); (try simp only [Act.put, List.setIfInBounds_toArray, List.set_cons_zero, List.set_cons_succ]))
    refine lin_skip k0 (by rfl) ?_
    (try simp only [Act.put, List.setIfInBounds_toArray, List.set_cons_zero, List.set_cons_succ])
    refine lin_skip k0 (by rfl) ?_
    (try simp only [Act.put, List.setIfInBounds_toArray, List.set_cons_zero, List.set_cons_succ])
    refine lin_skip k0 (by rfl) ?_
    (try simp only [Act.put, List.setIfInBounds_toArray, List.set_cons_zero, List.set_cons_succ])
    refine lin_skip k0 (by rfl) ?_
    (try simp only [Act.put, List.setIfInBounds_toArray, List.set_cons_zero, List.set_cons_succ])
    refine lin_void k0 (by rfl) ?_
    (try simp only [Act.put, List.setIfInBounds_toArray, List.set_cons_zero, List.set_cons_succ])
    refine lin_skip k0 (by rfl) ?_
    (try simp only [Act.put, List.setIfInBounds_toArray, List.set_cons_zero, List.set_cons_succ])
    refine lin_void k0 (by rfl) ?_
    (try simp only [Act.put, List.setIfInBounds_toArray, List.set_cons_zero, List.set_cons_succ])
    refine lin_skip k0 (by rfl) ?_
    (try simp only [Act.put, List.setIfInBounds_toArray, List.set_cons_zero, List.set_cons_succ])
    refine lin_skip k0 (by rfl) ?_
    (try simp only [Act.put, List.setIfInBounds_toArray, List.set_cons_zero, List.set_cons_succ])
    iterate 1 (refine lin_take (v := ?_) k0 (by rfl) ?_ ?_; rotate_left; (intro y hy; have ct4 := (ct y hy).cell (k := 4) rfl; have ct5 := (ct y hy).cell (k := 5) rfl; go_simp; try (with_reducible rfl)); (try simp only [Act.put, List.setIfInBounds_toArray, List.set_cons_zero, List.set_cons_succ]))
    refine lin_done ?_
    have HE := Lib.hid (HK6.out.trans ((show Below w6.heap.size w6 _ from k0).mono HK6.out.size))
    clear k0 ct
    have hres := Lib.hid (show balZ la le = false from bal_no3 (.inr (.inl (by rw [← HMu.out, ← HMv.out]; exact huv))))
    go_wp2_with fail
    go_ret
    exact ⟨ret_bool hres.out.symm, HE.out⟩
  have hb2 : ((mu : Int) != mv) = false := by simp; omega
  refine wp_region_lin [(0, true), (1, true), (2, true), (3, true), (4, true), (5, true), (6, true), (7, true), (8, true), (9, true), (10, true), (11, true), (12, true), (13, true), (14, true), (17, true), (18, true), (15, false), (16, true), (19, false), (20, true), (21, true), (22, true)]
    (by kernel_rfl) (by kernel_rfl) rfl (by kernel_rfl) (Kept w6) ?_
  simp only [List.map_cons, List.map_nil, List.getElem?_toArray, List.getElem?_cons_succ, List.getElem?_cons_zero]
  have k0 : Kept w6 w6.drew := (Kept.refl w6).drew
  have ct := fun (y : World) (hy : Kept w6 y) => XB6.out.kept hy
  iterate 17 (refine lin_take (v := ?_) k0 (by rfl) ?_ ?_; rotate_left; (intro y hy; have ct4 := (ct y hy).cell (k := 4) rfl; have ct5 := (ct y hy).cell (k := 5) rfl; go_simp; try (with_reducible rfl)); (try simp only [Act.put, List.setIfInBounds_toArray, List.set_cons_zero, List.set_cons_succ]))
  refine lin_call k0 (by rfl) (fun K hK => ?_)
  go_simp
  refine (refSome_any A3 c3 na la 4 _ HNA.out ((RA6.out.below k0).more k0.size) HS1.out).mono ?_; rintro e z1 ⟨vp, rfl, hrp, hnp, hbp⟩
  obtain ⟨Ap, kp, rfl⟩ := hrp.form
  obtain ⟨mp, hmp⟩ : ∃ mp, mp = (someZ 4 la).length := ⟨_, rfl⟩
  rw [← hmp]
  have HMp := Lib.hid hmp
  clear hmp
  go_wp2_with fail
  have k1 := k0.to hbp
  refine hK.out _ _ k1 (fun _ => ?_)
  clear hK K hrp hnp hbp
  (try simp only [Act.put, List.setIfInBounds_toArray, List.set_cons_zero, List.set_cons_succ])
  iterate 1 (refine lin_take (v := ?_) k1 (by rfl) ?_ ?_; rotate_left; (intro y hy; have ct4 := (ct y hy).cell (k := 4) rfl; have ct5 := (ct y hy).cell (k := 5) rfl; go_simp; try (with_reducible rfl)); (try simp only [Act.put, List.setIfInBounds_toArray, List.set_cons_zero, List.set_cons_succ]))
  refine lin_call k1 (by rfl) (fun K hK => ?_)
  go_simp
  refine (refSome_any A5 c5 ne le 8 _ HNE.out ((RE6.out.below k1).more k1.size) HS2.out).mono ?_; rintro e z2 ⟨vq, rfl, hrq, hnq, hbq⟩
  obtain ⟨Aq, kq, rfl⟩ := hrq.form
  obtain ⟨mq, hmq⟩ : ∃ mq, mq = (someZ 8 le).length := ⟨_, rfl⟩
  rw [← hmq]
  have HMq := Lib.hid hmq
  clear hmq
  go_wp2_with fail
  have k2 := k1.to hbq
  refine hK.out _ _ k2 (fun _ => ?_)
  clear hK K hrq hnq hbq
  (try simp only [Act.put, List.setIfInBounds_toArray, List.set_cons_zero, List.set_cons_succ])
  by_cases hpq : mp = mq
  rotate_left
  · have hb3 : ((mp : Int) != mq) = true := by simp; omega
    iterate 3 (refine lin_take (v := ?_) k2 (by rfl) ?_ ?_; rotate_left; (intro y hy; have ct4 := (ct y hy).cell (k := 4) rfl; have ct5 := (ct y hy).cell (k := 5) rfl; go_simp; try (with_reducible rfl)); (try simp only [Act.put, List.setIfInBounds_toArray, List.set_cons_zero, List.set_cons_succ]))
    refine lin_done ?_
    have hk2 : Below w6.heap.size w6 z2 := k2
    have HE := Lib.hid (HK6.out.trans (hk2.mono HK6.out.size))
    clear k0 k1 k2 ct hk2
    have hres := Lib.hid (show balZ la le = false from bal_no3 (.inr (.inr (by rw [← HMp.out, ← HMq.out]; exact hpq))))
    go_wp2_with fail
    go_ret
    exact ⟨ret_bool hres.out.symm, HE.out⟩
  have hb3 : ((mp : Int) != mq) = false := by simp; omega
  iterate 3 (refine lin_take (v := ?_) k2 (by rfl) ?_ ?_; rotate_left; (intro y hy; have ct4 := (ct y hy).cell (k := 4) rfl; have ct5 := (ct y hy).cell (k := 5) rfl; go_simp; try (with_reducible rfl)); (try simp only [Act.put, List.setIfInBounds_toArray, List.set_cons_zero, List.set_cons_succ]))
  refine lin_done ?_
  have hk2 : Below w6.heap.size w6 z2 := k2
  have HK7 := Lib.hid (HK6.out.trans ((hk2).mono HK6.out.size))
  have XB7 := Lib.hid (XB6.out.below (hk2) XB6.out.lt)
  have RA7 := Lib.hid ((RA6.out.below (hk2)).more (hk2).size)
  have RE7 := Lib.hid ((RE6.out.below (hk2)).more (hk2).size)
  have Vx7 := Lib.hid ((Vx6.out.below (hk2)).more (hk2).size)
  have Vy7 := Lib.hid ((Vy6.out.below (hk2)).more (hk2).size)
  have Vu7 := Lib.hid ((Vu6.out.below (hk2)).more (hk2).size)
  have Vv7 := Lib.hid ((Vv6.out.below (hk2)).more (hk2).size)
  clear XB6 RA6 RE6 Vx6 Vy6 Vu6 Vv6 HK6
  have HPQ : Hid ((someZ 4 la).length = (someZ 8 le).length) := by show _ = _; rw [← HMp.out, ← HMq.out]; exact hpq
  clear k0 k1 k2 ct hk2 hpq hb1 hb2 hb3
  subst hxy huv
  have HAx := Lib.hid (fun j (h : j < mx) => at_someG (l := (someZ 5 la)) (j := j) (by rw [← HMx.out]; exact h))
  have HAy := Lib.hid (fun j (h : j < mx) => at_someG (l := (someZ 6 le)) (j := j) (by rw [← HMy.out]; exact h))
  have HSx := Lib.hid (fun (j : Nat) (a b : Cel) (h1 : (someZ 5 la)[j]? = some a) (h2 : (someZ 6 le)[j]? = some b) => map_step Cel.reg h1 h2)
  have H0x := Lib.hid (show ((someZ 5 la).map Cel.reg = (someZ 6 le).map Cel.reg) ↔ (((someZ 5 la).drop 0).map Cel.reg = ((someZ 6 le).drop 0).map Cel.reg) by rw [List.drop_zero, List.drop_zero])
  have HEx := Lib.hid (fun (k : Nat) (h : mx ≤ k) => (show ((someZ 5 la).drop k).map Cel.reg = ((someZ 6 le).drop k).map Cel.reg by rw [List.drop_eq_nil_of_le (by rw [← HMx.out]; exact h), List.drop_eq_nil_of_le (by rw [← HMy.out]; exact h)]))
  go_wp2_with fail
  go_loopw [7] (fun i wr => ∃ j q : Nat, j ≤ mx ∧ i = .int .i64 j ∧ wr = z2.drewN q ∧ (((someZ 5 la).map Cel.reg = (someZ 6 le).map Cel.reg) ↔ (((someZ 5 la).drop j).map Cel.reg = ((someZ 6 le).drop j).map Cel.reg))) (fun i _ => mx - (intOf i).toNat)
  case atStart => exact ⟨0, 0, Nat.zero_le _, rfl, rfl, H0x.out⟩
  case round =>
    obtain ⟨j, q, hj, rfl, rfl, hT⟩ := hrel
    have HT := Lib.hid hT
    clear hT
    by_cases hlt : j < mx
    · obtain ⟨a, hxa⟩ := HAx.out j hlt
      obtain ⟨b, hxb⟩ := HAy.out j hlt
      have hs := Lib.hid (HSx.out j a b hxa hxb)
      obtain ⟨ba, oa, rfl, _, _⟩ := Vx7.out.at_ (by omega)
      obtain ⟨bb, ob, rfl, _, _⟩ := Vy7.out.at_ (by omega)
      obtain ⟨_, a1, a2, a3, a4, a5, a6, _, _⟩ := Vx7.out.cel hxa
      obtain ⟨_, b1, b2, b3, b4, b5, b6, _, _⟩ := Vy7.out.cel hxb
      have k0 : (0 : Int) ≤ j := by omega
      have k1 : (j : Int) < mx := by omega
      have k2 := HBx.out
      clear hxa hxb
      by_cases heq : a.reg = b.reg
      · have hb1 : (a.reg != b.reg) = false := by simpa using heq
        have hres := Lib.hid (hs.out.trans ⟨fun h => h.2, fun h => ⟨heq, h⟩⟩)
        clear heq
        go_wp2_with fail
        go_quiet (fail)
        go_wp2_with fail
        go_roundw
        case rel => exact ⟨j + 1, _, by omega, by go_num, rfl, HT.out.trans hres.out⟩
        case measure => simp [intOf]; omega
      · have hb1 : (a.reg != b.reg) = true := by simpa using heq
        have hres := Lib.hid (show balZ la le = false from bal_no4 (fun h => heq (hs.out.1 (HT.out.1 h)).1))
        clear heq
        go_wp2_with fail
        go_quiet (fail)
        go_wp2_with fail
        go_ret
        exact ⟨ret_bool hres.out.symm, (HK7.out.trans ((Below.drewN_ (Below.drewN_ (Below.refl _ z2) _) _)))⟩
    · have hreg := Lib.hid (HT.out.2 (HEx.out j (by omega)))
      have hkq : Below z2.heap.size z2 (z2.drewN q) := Below.drewN_ (Below.refl _ z2) _
      obtain ⟨z3, hz3⟩ : ∃ z3, z3 = z2.drewN q := ⟨_, rfl⟩
      rw [← hz3] at hkq ⊢
      clear hz3
      have HK8 := Lib.hid (HK7.out.trans ((hkq).mono HK7.out.size))
      have XB8 := Lib.hid (XB7.out.below (hkq) XB7.out.lt)
      have RA8 := Lib.hid ((RA7.out.below (hkq)).more (hkq).size)
      have RE8 := Lib.hid ((RE7.out.below (hkq)).more (hkq).size)
      have Vx8 := Lib.hid ((Vx7.out.below (hkq)).more (hkq).size)
      have Vy8 := Lib.hid ((Vy7.out.below (hkq)).more (hkq).size)
      have Vu8 := Lib.hid ((Vu7.out.below (hkq)).more (hkq).size)
      have Vv8 := Lib.hid ((Vv7.out.below (hkq)).more (hkq).size)
      clear XB7 RA7 RE7 Vx7 Vy7 Vu7 Vv7 HK7
      clear hkq
      have HAu := Lib.hid (fun j (h : j < mu) => at_someG (l := (someZ 3 la)) (j := j) (by rw [← HMu.out]; exact h))
      have HAv := Lib.hid (fun j (h : j < mu) => at_someG (l := (someZ 7 le)) (j := j) (by rw [← HMv.out]; exact h))
      have HSu := Lib.hid (fun (j : Nat) (a b : Cel) (h1 : (someZ 3 la)[j]? = some a) (h2 : (someZ 7 le)[j]? = some b) => map_step Cel.ins h1 h2)
      have H0u := Lib.hid (show ((someZ 3 la).map Cel.ins = (someZ 7 le).map Cel.ins) ↔ (((someZ 3 la).drop 0).map Cel.ins = ((someZ 7 le).drop 0).map Cel.ins) by rw [List.drop_zero, List.drop_zero])
      have HEu := Lib.hid (fun (k : Nat) (h : mu ≤ k) => (show ((someZ 3 la).drop k).map Cel.ins = ((someZ 7 le).drop k).map Cel.ins by rw [List.drop_eq_nil_of_le (by rw [← HMu.out]; exact h), List.drop_eq_nil_of_le (by rw [← HMv.out]; exact h)]))
      go_wp2_with fail
      go_loopw [8] (fun i wr => ∃ j q : Nat, j ≤ mu ∧ i = .int .i64 j ∧ wr = z3.drewN q ∧ (((someZ 3 la).map Cel.ins = (someZ 7 le).map Cel.ins) ↔ (((someZ 3 la).drop j).map Cel.ins = ((someZ 7 le).drop j).map Cel.ins))) (fun i _ => mu - (intOf i).toNat)
      case atStart => exact ⟨0, 0, Nat.zero_le _, rfl, rfl, H0u.out⟩
      case round =>
        obtain ⟨j, q, hj, rfl, rfl, hT⟩ := hrel
        have HT := Lib.hid hT
        clear hT
        by_cases hlt : j < mu
        · obtain ⟨a, hxa⟩ := HAu.out j hlt
          obtain ⟨b, hxb⟩ := HAv.out j hlt
          have hs := Lib.hid (HSu.out j a b hxa hxb)
          obtain ⟨ba, oa, rfl, _, _⟩ := Vu8.out.at_ (by omega)
          obtain ⟨bb, ob, rfl, _, _⟩ := Vv8.out.at_ (by omega)
          obtain ⟨_, a1, a2, a3, a4, a5, a6, _, _⟩ := Vu8.out.cel hxa
          obtain ⟨_, b1, b2, b3, b4, b5, b6, _, _⟩ := Vv8.out.cel hxb
          have k0 : (0 : Int) ≤ j := by omega
          have k1 : (j : Int) < mu := by omega
          have k2 := HBu.out
          clear hxa hxb
          by_cases heq : a.ins = b.ins
          · have qq := neq_ins a.ins b.ins
            rw [decide_eq_true heq] at qq
            have hres := Lib.hid (hs.out.trans ⟨fun h => h.2, fun h => ⟨heq, h⟩⟩)
            clear heq
            go_wp2_with fail
            go_quiet (fail)
            go_wp2_with fail
            go_roundw
            case rel => exact ⟨j + 1, _, by omega, by go_num, rfl, HT.out.trans hres.out⟩
            case measure => simp [intOf]; omega
          · have qq := neq_ins a.ins b.ins
            rw [decide_eq_false heq] at qq
            have hres := Lib.hid (show balZ la le = false from bal_no5 (fun h => heq (hs.out.1 (HT.out.1 h)).1))
            clear heq
            go_wp2_with fail
            go_quiet (fail)
            go_wp2_with fail
            go_ret
            exact ⟨ret_bool hres.out.symm, (HK8.out.trans ((Below.drewN_ (Below.drewN_ (Below.refl _ z3) _) _)))⟩
        · have hins := Lib.hid (HT.out.2 (HEu.out j (by omega)))
          have hkq2 : Below z3.heap.size z3 (z3.drewN q) := Below.drewN_ (Below.refl _ z3) _
          obtain ⟨z4, hz4⟩ : ∃ z4, z4 = z3.drewN q := ⟨_, rfl⟩
          rw [← hz4] at hkq2 ⊢
          clear hz4
          have HK9 := Lib.hid (HK8.out.trans ((hkq2).mono HK8.out.size))
          have XB9 := Lib.hid (XB8.out.below (hkq2) XB8.out.lt)
          have RA9 := Lib.hid ((RA8.out.below (hkq2)).more (hkq2).size)
          have RE9 := Lib.hid ((RE8.out.below (hkq2)).more (hkq2).size)
          have Vx9 := Lib.hid ((Vx8.out.below (hkq2)).more (hkq2).size)
          have Vy9 := Lib.hid ((Vy8.out.below (hkq2)).more (hkq2).size)
          have Vu9 := Lib.hid ((Vu8.out.below (hkq2)).more (hkq2).size)
          have Vv9 := Lib.hid ((Vv8.out.below (hkq2)).more (hkq2).size)
          clear XB8 RA8 RE8 Vx8 Vy8 Vu8 Vv8 HK8
          clear hkq2
          have HY := Lib.hid (bal_yes HO1.out HO2.out hreg.out hins.out HPQ.out)
          have s4 : z4.cell? ⟨w.heap.size, 4, none⟩ = some (.slice A3 na c3) := XB9.out.cell (k := 4) rfl
          have s5 : z4.cell? ⟨w.heap.size, 5, none⟩ = some (.slice A5 ne c5) := XB9.out.cell (k := 5) rfl
          go_wp2_with fail
          refine (refLast_any A3 c3 na la z4 HNA.out RA9.out).mono ?_; rintro e _ ⟨rfl, rfl⟩
          try dsimp only
          go_wp2_with fail
          refine (refLast_any A5 c5 ne le _ HNE.out RE9.out).mono ?_; rintro e _ ⟨rfl, rfl⟩
          clear s4 s5
          obtain ⟨P, hP⟩ : ∃ P, P = lastK la := ⟨_, rfl⟩
          obtain ⟨QQ, hQ⟩ : ∃ QQ, QQ = lastK le := ⟨_, rfl⟩
          rw [← hP, ← hQ] at HY
          rw [← hP, ← hQ]
          clear hP hQ
          try dsimp only
          by_cases h9 : P = 9
          · have g9 : (P == 9) = true := by simpa using h9
            have hres := Lib.hid (show balZ la le = decide (QQ = 10) by rw [HY.out]; unfold joinB; rw [if_pos h9])
            subst h9
            go_wp2_with fail
            go_ret
            exact ⟨by rw [hres.out]; first | rfl | (congr 3) , HK9.out⟩
          have g9 : (P == 9) = false := by simpa using h9
          by_cases h10 : P = 10
          · have g10 : (P == 10) = true := by simpa using h10
            have hres := Lib.hid (show balZ la le = decide (QQ = 9) by rw [HY.out]; unfold joinB; rw [if_neg h9, if_pos h10])
            subst h10
            clear h9
            go_wp2_with fail
            go_ret
            exact ⟨by rw [hres.out]; first | rfl | (congr 3), HK9.out⟩
          have g10 : (P == 10) = false := by simpa using h10
          have hres := Lib.hid (show balZ la le = decide (P = QQ) by rw [HY.out]; unfold joinB; rw [if_neg h9, if_neg h10])
          clear h9 h10
          go_wp2_with fail
          go_ret
          exact ⟨by rw [hres.out]; first | rfl | (congr 3), HK9.out⟩

end Go.Proofs.YteagglddgkjkmaaGreat.Words

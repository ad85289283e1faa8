/- Several texts in one: OnrOf, OnrRefOwner, SplOf, CertAlive, CertMath2, OnrMake, SplClosed. -/
import Derived.Test.YteagglddgkjkmaaG05
import Derived.Test.YteagglddgkjkmaaG14
import Derived.Test.YteagglddgkjkmaaG02
import Derived.Test.YteagglddgkjkmaaG04
import Derived.Test.YteagglddgkjkmaaG13
import Derived.Test.YteagglddgkjkmaaG12

/- Contract of package owner's Of: the least owner. -/
namespace Go.Proofs.Yteagglddgkjkmaa.Words
set_option maxRecDepth 100000
open Go.RowKit
set_option linter.unusedVariables false
set_option linter.unusedSimpArgs false

/-- What Of answers. -/
def ofZ (l : List Ins) (sz : Int) (m : Nat) : List Int := if rightZ l sz m = true then leastO l else zeroO
theorem rightZ_insO {l : List Ins} {sz : Int} {m : Nat} (h : rightZ l sz m = true) : l.length ≤ 2000 ∧ ∀ i ∈ l, rightB i = true := by
  rw [rightZ_fit, Bool.and_eq_true, Bool.and_eq_true] at h
  obtain ⟨⟨h1, h2⟩, _⟩ := h
  have := of_decide_eq_true h1
  exact ⟨by omega, List.all_eq_true.1 h2⟩
theorem ofZ_len {l : List Ins} {sz : Int} {m : Nat} : (ofZ l sz m).length = 16 := by
  unfold ofZ
  split
  · rename_i h; exact (least_ok l (rightZ_insO h).2).1
  · rfl
theorem load_own {w : World} {b : Nat} {o : List Int} (h : Box w b (oV o)) (ho : o.length = 16) : (loadVar 28 ⟨b, 0, none⟩).run Try.prog w = .ok (.agg (oV o).toArray) w :=
  run_loadVar_mid w b 0 28 (oV o) _ h.whole Try.underlying28 rfl (by rw [oV_len, ho]; kernel_rfl)
/-- The registers while they are put on E. -/
def startO (k : Nat) : List Int := funO fun j => if 1 ≤ j ∧ j < k then 2 else 0
theorem startO_1 : startO 1 = zeroO := by decide
theorem startO_16 : startO 16 = firstO := by decide
theorem startO_set {k : Nat} (h : 1 ≤ k) : (startO k).set k 2 = startO (k + 1) := by
  unfold startO
  rw [funO_set]
  refine funO_ext fun j hj => ?_
  by_cases e : j = k
  · subst e; rw [if_pos rfl, if_pos ⟨h, by omega⟩]
  · rw [if_neg e]
    by_cases c : 1 ≤ j ∧ j < k
    · rw [if_pos c, if_pos ⟨c.1, by omega⟩]
    · rw [if_neg c, if_neg (by omega)]
/-- The registers in a block. -/
def decO (w : World) (b : Nat) : List Int := (List.range 16).map fun k => match w.cell? ⟨b, k, none⟩ with | some (.int _ x) => x | _ => 0
theorem decO_eq {w : World} {b : Nat} {o : List Int} (h : Box w b (oV o)) (ho : o.length = 16) : decO w b = o := by
  refine List.ext_getElem (by simp [decO, ho]) fun k h1 h2 => ?_
  simp only [decO, List.getElem_map, List.getElem_range]
  rw [h.cell (oV_at ho (n := k) (by omega))]
  simp only
  rw [atO_nat, List.getD_eq_getElem?_getD, List.getElem?_eq_getElem h2]; rfl
def bitV (v : Value) : Nat := match v with | .bool true => 1 | _ => 0

end Go.Proofs.Yteagglddgkjkmaa.Words

/- Contract of the document's own Owner: seventeen rounds. -/
namespace Go.Proofs.Yteagglddgkjkmaa.Words
set_option maxRecDepth 100000
open Go.RowKit
set_option linter.unusedVariables false
set_option linter.unusedSimpArgs false

/-- What stands while the document's code is gone through. -/
structure RnS (w0 wr : World) (b : Nat) (o : List Int) : Prop where
  below : Below b w0 wr
  box : Box wr b (oV o)
  ok : OkO o
theorem RnS.to {w0 wr x : World} {b : Nat} {o : List Int} (h : RnS w0 wr b o) (hb : Below wr.heap.size wr x) : RnS w0 x b o :=
  ⟨h.below.trans (hb.mono (by have := h.box.lt; omega)), h.box.below hb h.box.lt, h.ok⟩
theorem RnS.put {w0 wr : World} {b : Nat} {o : List Int} (h : RnS w0 wr b o) {r : Nat} (h1 : 1 ≤ r) (hr : r ≤ 15) : RnS w0 (wr.setCell ⟨b, r, none⟩ (.int .i64 1)) b (setA o r) :=
  ⟨h.below.setCell (p := ⟨b, r, none⟩) (Nat.le_refl _) _, by have := h.box.setCell r (.int .i64 1); rwa [oV_set] at this, by rw [set_put h.ok ⟨by omega, by omega⟩]; exact putA_ok h.ok ⟨by omega, by omega⟩⟩
theorem stepR_mem {o : List Int} {i : Ins} (hm : formZ i.op = 4 ∨ formZ i.op = 5) : stepR o i = if 0 < i.a then setA o i.a else o := by unfold stepR; rw [if_pos (show memB i.op = true from decide_eq_true hm)]
theorem stepR_rec {o : List Int} {i : Ins} (h1 : 1 ≤ formZ i.op) (h3 : formZ i.op ≤ 3) : stepR o i = if 0 < i.d ∧ atO o i.d = 1 then (readsZ i).foldl setA o else o := by
  unfold stepR
  rw [if_neg (by unfold memB; rw [decide_eq_true_eq]; omega)]
  have : recB i.op = true := decide_eq_true ⟨h1, h3⟩
  simp only [this, true_and]
theorem stepR_no {o : List Int} {i : Ins} (h : 6 ≤ formZ i.op) : stepR o i = o := by
  unfold stepR
  rw [if_neg (by unfold memB; rw [decide_eq_true_eq]; omega), if_neg (by unfold recB; rw [decide_eq_true_eq]; omega)]

set_option maxHeartbeats 16000000 in
theorem refOwner_any (A : Option Addr) (c : Nat) (sz : Int) (A' : Option Addr) (m c' : Nat) (l : List Ins) (w : World) (hr : Row w w.heap.size 5 (.slice A l.length c) l.length (codeCells l)) (hm : m ≤ c') (hc' : c' ≤ 9223372036854775807) :
    Calls Try.prog 18 #[.agg #[.slice A l.length c, .int .i64 sz, .slice A' m c']] w fun e w' => e = .returned (.agg (oV (ofZ l sz m)).toArray) ∧ Below w.heap.size w w' := by
  obtain ⟨W1, hW1⟩ : ∃ W1, W1 = w.alloc (.cells #[.slice A l.length c, .int .i64 sz, .slice A' m c'] 25) := ⟨_, rfl⟩
  obtain ⟨W2, hW2⟩ : ∃ W2, W2 = W1.alloc (.cells #[.int .i64 0, .int .i64 0, .int .i64 0, .int .i64 0, .int .i64 0, .int .i64 0, .int .i64 0, .int .i64 0, .int .i64 0, .int .i64 0, .int .i64 0, .int .i64 0, .int .i64 0, .int .i64 0, .int .i64 0, .int .i64 0] 28) := ⟨_, rfl⟩
  obtain ⟨W3, hW3⟩ : ∃ W3, W3 = W2.alloc (.cells #[.int .i64 0, .int .i64 0, .int .i64 0, .int .i64 0, .int .i64 0, .int .i64 0, .int .i64 0, .int .i64 0, .int .i64 0, .int .i64 0, .int .i64 0, .int .i64 0, .int .i64 0, .int .i64 0, .int .i64 0, .int .i64 0] 28) := ⟨_, rfl⟩
  have hz1 : W1.heap.size = w.heap.size + 1 := by rw [hW1]; simp
  have hz2 : W2.heap.size = w.heap.size + 2 := by rw [hW2]; simp [hz1]
  have hz3 : W3.heap.size = w.heap.size + 3 := by rw [hW3]; simp [hz2]
  have hK : Below w.heap.size w W3 := by rw [hW3, hW2, hW1]; exact (((Below.refl w.heap.size w).alloc (Nat.le_refl _) _).alloc (by simp) _).alloc (by simp; omega) _
  have HB0 : Box W3 (w.heap.size + 1) (oV zeroO) := by rw [hW3]; refine Box.alloc ?_ _; rw [hW2, ← hz1]; exact Box.new W1 (oV zeroO) _
  have HX0 : Box W3 (w.heap.size + 2) (oV zeroO) := by rw [hW3, ← hz2]; exact Box.new W2 (oV zeroO) _
  have HI : Box W3 w.heap.size [.slice A l.length c, .int .i64 sz, .slice A' m c'] := by
    rw [hW3]; refine Box.alloc ?_ _; rw [hW2]; refine Box.alloc ?_ _; rw [hW1]; exact Box.new w [.slice A l.length c, .int .i64 sz, .slice A' m c'] _
  have HR : Row W3 W3.heap.size 5 (.slice A l.length c) l.length (codeCells l) := (hr.below hK).more (by omega)
  have HR0 := Lib.hid (show Row W3 (w.heap.size + 2) 5 (.slice A l.length c) l.length (codeCells l) from (hr.below hK).more (by omega))
  have c0 := HI.cell (k := 0) rfl
  have c1 := HI.cell (k := 1) rfl
  have c2 := HI.cell (k := 2) rfl
  have HB := Lib.hid HB0
  have HX := Lib.hid HX0
  have HIB := Lib.hid HI
  have HRR := Lib.hid HR
  have HKK := Lib.hid hK
  obtain ⟨hcl, hcm⟩ := hr.cap
  clear HI HB0 HX0 hK hr HR
  go_enter Try.func18, Try.ntmps18
  go_wp2_with fail
  rw [← hW1, ← hW2, ← hW3]
  clear hW1 hW2 hW3
  refine (refRight_any A c sz A' m c' l _ HRR.out hm hc').mono ?_; rintro e w1 ⟨rfl, hb1⟩
  have HBX := Lib.hid (HB.out.below hb1 HB.out.lt)
  have HXX := Lib.hid (HX.out.below hb1 HX.out.lt)
  have HIX := Lib.hid (HIB.out.below hb1 HIB.out.lt)
  have HRX := Lib.hid (show Row w1 (w.heap.size + 2) 5 (.slice A l.length c) l.length (codeCells l) from HR0.out.below (hb1.mono (by omega)))
  have HKX := Lib.hid (HKK.out.trans (hb1.mono (by omega)))
  have hz4 : w.heap.size + 3 ≤ w1.heap.size := by have := hb1.size; omega
  clear hb1 c0 c1 c2 HB HIB HX HRR HR0 HKK hz1 hz2 hz3
  cases hri : rightZ l sz m
  · have HL := Lib.hid (show ofZ l sz m = zeroO by unfold ofZ; rw [if_neg (by rw [hri]; decide)])
    clear hri
    go_wp2_with (first
      | (refine wpList_load_box rfl 28 (.tmp 3) rfl (w.heap.size + 2) 0 rfl (oV zeroO) (oV zeroO) HXX.out whole_at _ Try.underlying28 rfl 16 (by kernel_rfl) rfl ?_)
      | (refine wpList_store_box rfl 28 (.tmp 2) (.tmp 14) rfl (w.heap.size + 1) 0 (oV zeroO) rfl rfl (oV zeroO) HBX.out (Nat.le_refl _) 16 (by kernel_rfl) rfl (oV_one _) ?_; intro w3 B3 hg3; rw [splice_whole _ _ rfl] at B3))
    refine bodyPost_ret (v := .agg (oV zeroO).toArray) ?_ rfl ⟨by rw [HL.out], ?_⟩
    · exact results_cell Try.results18 _ _ _ ⟨w.heap.size + 1, 0, none⟩ _ rfl (load_own B3 rfl)
    · exact Below.grown HKX.out hg3 (by omega) (fun i hi => by injection hi with hi; omega)
  have HL := Lib.hid (show ofZ l sz m = iterO l 17 firstO by unfold ofZ; rw [if_pos hri]; rfl)
  have hp := rightZ_insO hri
  have HPR := Lib.hid hp.2
  have hl2 : l.length ≤ 2000 := hp.1
  clear hri hp
  generalize hn : l.length = n at HIX hl2 hcl ⊢
  have Hn := Lib.hid hn
  clear hn
  rw [← startO_1] at HXX
  obtain ⟨b, hb⟩ : ∃ b, b = w.heap.size + 2 := ⟨_, rfl⟩
  rw [← hb] at HXX HRX
  have HBE := Lib.hid hb
  go_wp2_with fail
  rw [← hb]
  clear hb
  go_loopw [4] (fun ii wr => ∃ k : Nat, 1 ≤ k ∧ k ≤ 16 ∧ ii = .int .i64 k ∧ Box wr b (oV (startO k)) ∧ Below b w1 wr) (fun ii _ => 16 - (intOf ii).toNat)
  case atStart => exact ⟨1, by omega, by omega, rfl, HXX.out, Below.refl _ _⟩
  case round =>
    obtain ⟨k, hk1, hk, rfl, hbx, hbl⟩ := hrel
    have HX := Lib.hid hbx
    have HKY := Lib.hid hbl
    clear hbx hbl
    by_cases hlt : k < 16
    · have f1 := HX.out.cell (oV_at (funO_len _) (n := k) (by omega))
      have f2 := HX.out.frozen k
      have hbz := HX.out.lt
      have g0 : (0 : Int) ≤ k := by omega
      have g1 : (k : Int) < 16 := by omega
      have HN : Hid (Box (wr.setCell ⟨b, k, none⟩ (.int .i64 2)) b (oV (startO (k + 1)))) := by
        have := HX.out.setCell k (.int .i64 2)
        rwa [oV_set, startO_set hk1] at this
      have HKN : Hid (Below b w1 (wr.setCell ⟨b, k, none⟩ (.int .i64 2))) := HKY.out.setCell (p := ⟨b, k, none⟩) (Nat.le_refl _) _
      go_wp2_with fail
      go_roundw
      case rel => exact ⟨k + 1, by omega, by omega, by go_num, HN.out, HKN.out⟩
      case measure => simp only [intOf]; omega
    · have H0 : Hid (RnS w1 wr b firstO) := ⟨HKY.out, by rw [← startO_16, show 16 = k from by omega]; exact HX.out, firstO_ok⟩
      have g1 : ¬ (k : Int) < 16 := by omega
      clear HX HKY
      go_wp2_with fail
      go_loopw [5] (fun ii wx => ∃ k : Nat, k ≤ 17 ∧ ii = .int .i64 k ∧ RnS w1 wx b (iterO l k firstO)) (fun ii _ => 17 - (intOf ii).toNat)
      case atStart => exact ⟨0, by omega, rfl, H0.out⟩
      case round =>
        obtain ⟨k, hk, rfl, hs⟩ := hrel
        have HS := Lib.hid hs
        clear hs
        by_cases hlt : k < 17
        · obtain ⟨p, hpp⟩ : ∃ p, p = iterO l k firstO := ⟨_, rfl⟩
          have HIT := Lib.hid (show iterO l (k + 1) firstO = l.foldl stepR p by rw [iter_succ, ← hpp, round_same l p (by rw [hpp]; exact HS.out.ok) HPR.out])
          rw [← hpp] at HS
          clear hpp
          have HF0 := Lib.hid (show l.foldl stepR p = (l.drop 0).foldl stepR p by rw [List.drop_zero])
          have HFA := Lib.hid (fun (j : Nat) (i : Ins) (q : List Int) (h : l[j]? = some i) => fold_at (f := stepR) h q)
          have HFE := Lib.hid (fun (j : Nat) (q : List Int) (h : l.length ≤ j) => (show (l.drop j).foldl stepR q = q by rw [List.drop_eq_nil_of_le h]; rfl))
          have g2 : (k : Int) < 17 := by omega
          go_wp2_with fail
          go_loopw [6] (fun ii wy => ∃ (j : Nat) (q : List Int), j ≤ n ∧ ii = .int .i64 j ∧ RnS w1 wy b q ∧ l.foldl stepR p = (l.drop j).foldl stepR q) (fun ii _ => n - (intOf ii).toNat)
          case atStart => exact ⟨0, p, Nat.zero_le _, rfl, HS.out, HF0.out⟩
          case round =>
            obtain ⟨j, q, hj, rfl, hs, hF⟩ := hrel
            have HS := Lib.hid hs
            have HF := Lib.hid hF
            have HPB := Lib.hid (HIX.out.below HS.out.below (by have := HBE.out; omega))
            have c0 := HPB.out.cell (k := 0) rfl
            clear hs hF
            by_cases hlj : j < n
            · have hl : j < l.length := by rw [Hn.out]; exact hlj
              obtain ⟨i, hi⟩ : ∃ i, l[j]? = some i := ⟨_, List.getElem?_eq_getElem hl⟩
              have HRI := Lib.hid (HPR.out i (List.mem_of_getElem? hi))
              have hrow : Row wr b 5 (.slice A l.length c) l.length (codeCells l) := HRX.out.below HS.out.below
              obtain ⟨g, off, rfl, hg, _⟩ := hrow.at_ (by omega)
              obtain ⟨d0, d1, d2, d3, d4⟩ := hrow.ins hi
              have HST := Lib.hid (HF.out.trans (HFA.out j i q hi))
              have k0 : (0 : Int) ≤ j := by omega
              have k1 : (j : Int) < n := by omega
              have HSA := Lib.hid (HS.out.to ((Below.refl wr.heap.size wr).alloc (Nat.le_refl _) (.cells (insV i).toArray 47)))
              have HXI := Lib.hid (Box.new wr (insV i) 47)
              have hbr := HS.out.box.lt
              have hpl := HS.out.ok.1
              clear hi hl hrow
              go_wp2_with fail
              change Calls _ _ _ (wr.alloc (.cells (insV i).toArray 47)) _
              obtain ⟨xb, hxb⟩ : ∃ xb, xb = wr.heap.size := ⟨_, rfl⟩
              rw [← hxb] at HXI hbr ⊢
              clear hxb d0 d1 d2 d3 d4 c0
              generalize wr.alloc (.cells (insV i).toArray 47) = Y at *
              refine (refForm_any _ _).mono ?_; rintro e w5 ⟨rfl, rfl⟩
              try dsimp only
              have HSY := Lib.hid HSA.out
              have HF8 := Lib.hid (formZ_range i.op)
              have HRR := right_range HRI.out
              have hbz := HSA.out.box.lt
              have e0 := HXI.out.cell (k := 0) rfl
              have e1 := HXI.out.cell (k := 1) rfl
              have e2 := HXI.out.cell (k := 2) rfl
              have HF1 := Lib.hid (show formZ i.op ≠ 0 from by
                have h := HRI.out
                unfold rightB at h
                simp only [Bool.and_eq_true, decide_eq_true_eq] at h
                exact h.1.1.1.1)
              have HM := Lib.hid (fun h => stepR_mem (o := q) (i := i) h)
              have HRC := Lib.hid (fun h1 h3 => stepR_rec (o := q) (i := i) h1 h3)
              have HNO := Lib.hid (fun h => stepR_no (o := q) (i := i) h)
              generalize hf : formZ i.op = f at *
              have Hf := Lib.hid hf
              clear hf
              have a0 : 0 ≤ i.a := HRR.2.2.1.1
              have a15 : i.a ≤ 15 := HRR.2.2.1.2
              have b0 : 0 ≤ i.d := HRR.2.1.1
              have b15 : i.d ≤ 15 := HRR.2.1.2
              clear HRR
              by_cases hf4 : f = 4
              · subst hf4
                by_cases ha : 0 < i.a
                · have HE := Lib.hid (HST.out.trans (congrArg (fun z => (l.drop (j + 1)).foldl stepR z) ((HM.out (by decide)).trans (if_pos ha))))
                  obtain ⟨x, hx, hx15⟩ := nat_of (r := i.a) ⟨a0, a15⟩
                  rw [hx] at e2 ha HE
                  have f1 := HSY.out.box.cell (oV_at HSY.out.ok.1 hx15)
                  have f2 := HSY.out.box.frozen x
                  have HSP := Lib.hid (HSY.out.put (r := x) (by omega) hx15)
                  have g3 : (x : Int) ≤ 15 := by omega
                  have g4 : (0 : Int) ≤ x := by omega
                  clear hx a0 a15 HXI HRI HST HM
                  go_wp2_with fail
                  go_roundw
                  case rel => exact ⟨j + 1, _, by omega, by go_num, HSP.out, HE.out⟩
                  case measure => simp only [intOf]; omega
                · have HE := Lib.hid (HST.out.trans (congrArg (fun z => (l.drop (j + 1)).foldl stepR z) ((HM.out (by decide)).trans (if_neg ha))))
                  go_wp2_with fail
                  go_roundw
                  case rel => exact ⟨j + 1, _, by omega, by go_num, HSY.out, HE.out⟩
                  case measure => simp only [intOf]; omega
              by_cases hf5 : f = 5
              · subst hf5
                by_cases ha : 0 < i.a
                · have HE := Lib.hid (HST.out.trans (congrArg (fun z => (l.drop (j + 1)).foldl stepR z) ((HM.out (by decide)).trans (if_pos ha))))
                  obtain ⟨x, hx, hx15⟩ := nat_of (r := i.a) ⟨a0, a15⟩
                  rw [hx] at e2 ha HE
                  have f1 := HSY.out.box.cell (oV_at HSY.out.ok.1 hx15)
                  have f2 := HSY.out.box.frozen x
                  have HSP := Lib.hid (HSY.out.put (r := x) (by omega) hx15)
                  have g3 : (x : Int) ≤ 15 := by omega
                  have g4 : (0 : Int) ≤ x := by omega
                  clear hx a0 a15 HXI HRI HST HM
                  go_wp2_with fail
                  go_roundw
                  case rel => exact ⟨j + 1, _, by omega, by go_num, HSP.out, HE.out⟩
                  case measure => simp only [intOf]; omega
                · have HE := Lib.hid (HST.out.trans (congrArg (fun z => (l.drop (j + 1)).foldl stepR z) ((HM.out (by decide)).trans (if_neg ha))))
                  go_wp2_with fail
                  go_roundw
                  case rel => exact ⟨j + 1, _, by omega, by go_num, HSY.out, HE.out⟩
                  case measure => simp only [intOf]; omega
              have q4 : (f == 4) = false := by simpa using hf4
              have q5 : (f == 5) = false := by simpa using hf5
              have HF8 := HF8.out
              have HF1 := HF1.out
              by_cases h3 : f ≤ 3
              rotate_left
              · have HE := Lib.hid (HST.out.trans (congrArg (fun z => (l.drop (j + 1)).foldl stepR z) (HNO.out (by omega))))
                have g5 : (1 : Int) ≤ f := by omega
                have g6 : ¬ f ≤ 3 := h3
                clear hf4 hf5 HF8 HF1 h3
                go_wp2_with fail
                go_roundw
                case rel => exact ⟨j + 1, _, by omega, by go_num, HSY.out, HE.out⟩
                case measure => simp only [intOf]; omega
              have g5 : (1 : Int) ≤ f := by omega
              have HRC2 := Lib.hid (HRC.out g5 h3)
              clear hf4 hf5 HF8 HF1
              by_cases hd : 0 < i.d
              rotate_left
              · have HE := Lib.hid (HST.out.trans (congrArg (fun z => (l.drop (j + 1)).foldl stepR z) (HRC2.out.trans (if_neg (fun h => hd h.1)))))
                go_wp2_with fail
                go_roundw
                case rel => exact ⟨j + 1, _, by omega, by go_num, HSY.out, HE.out⟩
                case measure => simp only [intOf]; omega
              obtain ⟨x, hx, hx15⟩ := nat_of (r := i.d) ⟨b0, b15⟩
              have f1 := HSY.out.box.cell (oV_at HSY.out.ok.1 hx15)
              rw [← hx] at f1
              have hx' : x = i.d.toNat := by omega
              subst hx'
              clear hx hx15
              cases hq : (atO q i.d == 1)
              · have HE := Lib.hid (HST.out.trans (congrArg (fun z => (l.drop (j + 1)).foldl stepR z) (HRC2.out.trans (if_neg (fun h => by rw [h.2] at hq; exact absurd hq (by decide))))))
                go_wp2_with fail
                go_roundw
                case rel => exact ⟨j + 1, _, by omega, by go_num, HSY.out, HE.out⟩
                case measure => simp only [intOf]; omega
              have HSTP := Lib.hid (HRC2.out.trans (if_pos ⟨hd, by simpa using hq⟩))
              go_wp2_with (first
                | (refine wpList_load_box rfl 47 (.tmp 7) rfl xb 0 rfl (insV i) (insV i) HXI.out whole_at _ Try.underlying47 rfl 5 (by kernel_rfl) rfl ?_))
              refine (refReadsN_any i _).mono ?_; rintro e w6 ⟨v, rfl, hrow6, hnew, hb6⟩
              have HS6 := Lib.hid (HSY.out.to hb6)
              have HN6 : Hid (NewV (b + 1) v) := fun a n c h => by
                have h1 := hnew a n c h
                omega
              have HR6 := Lib.hid hrow6
              obtain ⟨A6, c6, rfl⟩ := hrow6.form
              have HNR := Lib.hid (fun r (h : r ∈ readsZ i) => (⟨(reads_mem h).2.1, (reads_mem h).2.2.1⟩ : 1 ≤ r ∧ r ≤ 15))
              have HNL := Lib.hid (reads_len i)
              have HP0 := Lib.hid (show (readsZ i).foldl setA q = ((readsZ i).drop 0).foldl setA q by rw [List.drop_zero])
              have HZE := Lib.hid (fun (k : Nat) (q : List Int) (h : (readsZ i).length ≤ k) => (show ((readsZ i).drop k).foldl setA q = q by rw [List.drop_eq_nil_of_le h]; rfl))
              have HZA := Lib.hid (fun (k : Nat) (r : Int) (q : List Int) (h : (readsZ i)[k]? = some r) => fold_at (f := setA) h q)
              clear hrow6 hnew hb6 HXI HSA hbz hbr f1 hpl
              generalize hzs : readsZ i = zs at HNR HNL HR6 HN6 HP0 HZE HZA HSTP ⊢
              clear hzs
              generalize hnz : zs.length = N at HR6 HN6 ⊢
              have HNZ := Lib.hid hnz
              clear hnz
              go_wp2_with fail
              go_loopw [10] (fun ii wx => ∃ (k : Nat) (r : List Int), k ≤ N ∧ ii = .int .i64 k ∧ RnS w1 wx b r ∧ Row wx wx.heap.size 1 (.slice A6 N c6) N (zs.map (Value.int .i64)) ∧ zs.foldl setA q = (zs.drop k).foldl setA r) (fun ii _ => N - (intOf ii).toNat)
              case atStart => exact ⟨0, q, Nat.zero_le _, rfl, HS6.out, HR6.out, HP0.out⟩
              case round =>
                obtain ⟨k, r, hk, rfl, hS3, hrow3, hF3⟩ := hrel
                have HS3 := Lib.hid hS3
                have HR3 := Lib.hid hrow3
                have HF3 := Lib.hid hF3
                clear hS3 hF3
                have hN2 : N ≤ 2 := by have := HNL.out; have := HNZ.out; omega
                by_cases hlk : k < N
                · have hl : k < zs.length := by rw [HNZ.out]; exact hlk
                  obtain ⟨bb, off2, rfl, hbb, hcells⟩ := hrow3.at_ (by omega)
                  have f0 := hcells k _ (ints_get hl)
                  obtain ⟨y, hre⟩ : ∃ y, y = zs.getD k 0 := ⟨_, rfl⟩
                  have hzr : zs[k]? = some y := by rw [hre, List.getD_eq_getElem?_getD, List.getElem?_eq_getElem hl]; rfl
                  rw [← hre] at f0
                  have hr15 := HNR.out y (by rw [hre]; exact getD_mem hl)
                  have HST3 := Lib.hid (HF3.out.trans (HZA.out k y r hzr))
                  obtain ⟨x, rfl, hx15⟩ := nat_of (r := y) ⟨by omega, hr15.2⟩
                  have f1 := HS3.out.box.cell (oV_at HS3.out.ok.1 hx15)
                  have f2 := HS3.out.box.frozen x
                  have hne : bb ≠ b := by have := HN6.out _ _ _ rfl; simp only at this; omega
                  have g0 : (0 : Int) ≤ k := by omega
                  have g1 : (k : Int) < N := by omega
                  have g2 : (x : Int) ≤ 15 := by omega
                  have g3 : (0 : Int) ≤ x := by omega
                  have hbz := HS3.out.box.lt
                  have HSP := Lib.hid (HS3.out.put (r := x) (by omega) hx15)
                  have HRP := Lib.hid (row_other HR3.out hne x (.int .i64 1))
                  clear hcells hre hzr hl hr15 a0 a15 b0 b15 hrow3
                  go_wp2_with fail
                  go_roundw
                  case rel => exact ⟨k + 1, _, by omega, by go_num, HSP.out, HRP.out, HST3.out⟩
                  case measure => simp only [intOf]; omega
                · have HFE := Lib.hid (HF3.out.trans (HZE.out k r (by rw [HNZ.out]; omega)))
                  have HE := Lib.hid (HST.out.trans (congrArg (fun z => (l.drop (j + 1)).foldl stepR z) (HSTP.out.trans HFE.out)))
                  clear hrow3
                  go_wp2_with fail
                  go_roundw
                  case rel => exact ⟨j + 1, _, by omega, by go_num, HS3.out, HE.out⟩
                  case measure => simp only [intOf]; omega
            · go_wp2_with fail
              go_roundw
              case rel => exact ⟨k + 1, by omega, by go_num, by rw [HIT.out, HF.out, HFE.out j q (by rw [Hn.out]; omega)]; exact HS.out⟩
              case measure => simp only [intOf]; omega
        · have g2 : ¬ (k : Int) < 17 := by omega
          have HE : Hid (RnS w1 wr b (iterO l 17 firstO)) := by rw [show 17 = k from by omega]; exact HS.out
          have HRB := Lib.hid (HBX.out.below HE.out.below (by have := HBE.out; omega))
          have HBB := Lib.hid HE.out.box
          have HPL := Lib.hid HE.out.ok.1
          have HKB := Lib.hid HE.out.below
          generalize iterO l 17 firstO = p at *
          go_wp2_with (first
            | (refine wpList_load_box rfl 28 (.tmp 3) rfl b 0 rfl (oV p) (oV p) HBB.out whole_at _ Try.underlying28 rfl 16 (by kernel_rfl) ((oV_len p).trans HPL.out) ?_)
            | (refine wpList_store_box rfl 28 (.tmp 2) (.tmp 85) rfl (w.heap.size + 1) 0 (oV p) rfl rfl (oV zeroO) HRB.out (by rw [oV_len, HPL.out]; exact Nat.le_refl _) 16 (by kernel_rfl) ((oV_len p).trans HPL.out) (oV_one _) ?_; intro w3 B3 hg3; rw [splice_whole _ _ (by rw [oV_len, HPL.out]; rfl)] at B3))
          refine bodyPost_ret (v := .agg (oV p).toArray) ?_ rfl ⟨by rw [HL.out], ?_⟩
          · exact results_cell Try.results18 _ _ _ ⟨w.heap.size + 1, 0, none⟩ _ rfl (load_own B3 HPL.out)
          · exact Below.grown (HKX.out.trans (HKB.out.mono (by have := HBE.out; omega))) hg3 (by have := HKX.out.size; have := HKB.out.size; omega) (fun i hi => by injection hi with hi; omega)
end Go.Proofs.Yteagglddgkjkmaa.Words

/- Contracts of package split's Of and of the document's own Split: the split by the least owner. -/
namespace Go.Proofs.Yteagglddgkjkmaa.Words
set_option maxRecDepth 100000
open Go.RowKit
set_option linter.unusedVariables false
set_option linter.unusedSimpArgs false

theorem field_spl (v : Value) (o : List Int) (k : Int) (y : World) : (Instr.extract (.tuple #[.agg (splV v o).toArray, .int .i64 k]) 0).run Try.prog y = .ok (.agg (splV v o).toArray) y := by rfl
set_option maxHeartbeats 2000000 in
theorem refSplitP_any (A : Option Addr) (c : Nat) (sz : Int) (A' : Option Addr) (m c' : Nat) (l : List Ins) (w : World) (hr : Row w w.heap.size 5 (.slice A l.length c) l.length (codeCells l)) (hm : m ≤ c') (hc' : c' ≤ 9223372036854775807) :
    Calls Try.prog 9 #[.agg #[.slice A l.length c, .int .i64 sz, .slice A' m c']] w (WithOut w (withZ l sz m (ofZ l sz m)) (ownW l sz m (ofZ l sz m)) (errW l sz m (ofZ l sz m))) := by
  obtain ⟨W, hW⟩ : ∃ W, W = (w.alloc (.cells #[.slice A l.length c, .int .i64 sz, .slice A' m c'] 25)).alloc (.cells zeroSpl.toArray 30) := ⟨_, rfl⟩
  have HB : Hid (Below w.heap.size w W) := by rw [hW]; exact ((Below.refl w.heap.size w).alloc (Nat.le_refl _) _).alloc (by simp) _
  have X1 : Hid (Box W w.heap.size [.slice A l.length c, .int .i64 sz, .slice A' m c']) := by rw [hW]; exact (Box.new w _ _).alloc _
  have X2 : Hid (Box W (w.heap.size + 1) zeroSpl) := by
    rw [hW]
    have := Box.new (w.alloc (.cells #[.slice A l.length c, .int .i64 sz, .slice A' m c'] 25)) zeroSpl 30
    rw [show (w.alloc (.cells #[.slice A l.length c, .int .i64 sz, .slice A' m c'] 25)).heap.size = w.heap.size + 1 by simp] at this
    exact this
  have HR := Lib.hid (hr.below HB.out)
  have HZ : Hid (W.heap.size = w.heap.size + 2) := by show _ = _; rw [hW]; simp
  have HCAP := Lib.hid (⟨hm, hc'⟩ : m ≤ c' ∧ c' ≤ 9223372036854775807)
  have HOL := Lib.hid (ofZ_len (l := l) (sz := sz) (m := m))
  clear hr hm hc'
  go_enter Try.func9, Try.ntmps9
  go_upto_region 1 with (fail)
  change Code.wp _ _ _ _ ((w.alloc (.cells #[.slice A l.length c, .int .i64 sz, .slice A' m c'] 25)).alloc (.cells zeroSpl.toArray 30))
  rw [← hW]
  clear hW
  have k0 : KeepS (fun j => j = w.heap.size + 1) W W.drew := (KeepS.refl _ W).drew
  refine wp_region_lin [(0, true), (1, true), (2, false), (3, false), (4, true), (5, true), (6, false), (7, true)]
    (by kernel_rfl) (by kernel_rfl) rfl (by kernel_rfl) (KeepS (fun j => j = w.heap.size + 1) W) ?_
  simp only [List.map_cons, List.map_nil, List.getElem?_toArray, List.getElem?_cons_succ, List.getElem?_cons_zero]
  iterate 2 (refine lin_take_box k0 rfl 25 (.tmp 1) rfl w.heap.size 0 rfl [.slice A l.length c, .int .i64 sz, .slice A' m c'] [.slice A l.length c, .int .i64 sz, .slice A' m c'] (fun y hy => X1.out.keepS hy (by omega)) whole_at _ Try.underlying25 rfl 3 size_prg rfl ?_; (try simp only [Act.put, List.setIfInBounds_toArray, List.set_cons_zero, List.set_cons_succ]))
  refine lin_call k0 (by rfl) (fun K hK => ?_)
  go_simp
  refine (refOwner_any A c sz A' m c' l _ (HR.out.more (B' := W.heap.size) (by have := HZ.out; omega)).drew HCAP.out.1 HCAP.out.2).mono ?_; rintro e w2 ⟨rfl, hb2⟩
  go_wp2_with fail
  have k2 := k0.go hb2
  have HX2 := Lib.hid (X2.out.drew.below hb2 X2.out.lt)
  have HR2 := Lib.hid (HR.out.below (w' := w2) ((Below.refl _ W).drew.trans (hb2.mono (by have := HZ.out; show _ ≤ W.heap.size; omega))))
  have HZ2 : Hid (w.heap.size + 2 ≤ w2.heap.size) := by have := hb2.size; have := HZ.out; have h3 : W.drew.heap.size = W.heap.size := rfl; show _ ≤ _; omega
  have HB2 : Hid (Below w.heap.size w w2) := HB.out.trans ((Below.refl _ W).drew.trans (hb2.mono (by have := HZ.out; show _ ≤ W.heap.size; omega)))
  refine hK.out _ _ k2 (fun _ => ?_)
  clear hK K hb2 k0
  (try simp only [Act.put, List.setIfInBounds_toArray, List.set_cons_zero, List.set_cons_succ])
  refine lin_call k2 (by rfl) (fun K hK => ?_)
  go_simp
  refine (refWith_any A c sz A' m c' l (ofZ l sz m) _ (HR2.out.more (by have := HZ2.out; omega)) HCAP.out.1 HCAP.out.2 HOL.out).mono ?_; rintro e w3 ⟨v, rfl, hv, hb3⟩
  go_wp2_with fail
  have k3 := k2.go hb3
  have HX3 := Lib.hid (HX2.out.below hb3 HX2.out.lt)
  have HV := Lib.hid hv
  have HW : Hid ((ownW l sz m (ofZ l sz m)).length = 16) := by unfold ownW; split; exact HOL.out; rfl
  have HB3 : Hid (Below w.heap.size w w3) := HB2.out.trans (hb3.mono (by have := HZ2.out; omega))
  have HZ3 : Hid (w2.heap.size ≤ w3.heap.size) := hb3.size
  refine hK.out _ _ k3 (fun _ => ?_)
  clear hK K hb3 k2 hv
  obtain ⟨O, hO⟩ : ∃ O, O = ownW l sz m (ofZ l sz m) := ⟨_, rfl⟩
  rw [← hO] at HW ⊢
  have HO := Lib.hid hO
  clear hO
  (try simp only [Act.put, List.setIfInBounds_toArray, List.set_cons_zero, List.set_cons_succ])
  refine lin_take (v := .agg (splV v O).toArray) k3 (by rfl) (fun y hy => by rfl) ?_
  (try simp only [Act.put, List.setIfInBounds_toArray, List.set_cons_zero, List.set_cons_succ])
  refine lin_take (v := .int .i64 (errW l sz m (ofZ l sz m))) k3 (by rfl) (fun y hy => by rfl) ?_
  (try simp only [Act.put, List.setIfInBounds_toArray, List.set_cons_zero, List.set_cons_succ])
  obtain ⟨Av, cv, hvf⟩ := HV.out.blks.form
  subst hvf
  refine lin_put_cells k3 (by rfl) 30 (.tmp 2) (.tmp 8) rfl (w.heap.size + 1) 0 (splV (.slice Av (withZ l sz m (ofZ l sz m)).length cv) O) rfl rfl zeroSpl HX3.out (by rw [splV_len HW.out]; decide) 17 size_spl (splV_len HW.out) (splV_one rfl) (fun y hy hg => k3.trans (KeepS.of_grown hg (fun q hq => by injection hq with hq; exact hq.symm))) ?_
  intro w4 B4 hg4
  rw [splice_whole zeroSpl (splV (.slice Av (withZ l sz m (ofZ l sz m)).length cv) O) (by rw [splV_len HW.out]; rfl)] at B4
  have HV4 := Lib.hid (HV.out.keepS (KeepS.of_grown (S := fun j => j = w.heap.size + 1) hg4 (fun q hq => by injection hq with hq; exact hq.symm)) (fun j e => by have := HZ2.out; omega))
  have HB4 := Lib.hid (Below.grown HB3.out hg4 (by have := HX3.out.lt; omega) (fun q hq => by injection hq with hq; omega))
  have k4 := k3.trans (KeepS.of_grown (S := fun j => j = w.heap.size + 1) hg4 (fun q hq => by injection hq with hq; exact hq.symm))
  (try simp only [Act.put, List.setIfInBounds_toArray, List.set_cons_zero, List.set_cons_succ])
  refine lin_take (v := .int .i64 (errW l sz m (ofZ l sz m))) k4 (by rfl) (fun y hy => by rfl) ?_
  (try simp only [Act.put, List.setIfInBounds_toArray, List.set_cons_zero, List.set_cons_succ])
  refine lin_done ?_
  have HL := Lib.hid (load_spl HW.out B4)
  clear B4 hg4 k3 k4
  go_wp2_with fail
  refine bodyPost_ret (v := .tuple #[.agg (splV (.slice Av (withZ l sz m (ofZ l sz m)).length cv) O).toArray, .int .i64 (errW l sz m (ofZ l sz m))]) (results_cell_tmp' Try.results9 _ _ _ ⟨w.heap.size + 1, 0, none⟩ _ _ rfl HL.out rfl) rfl ⟨.slice Av (withZ l sz m (ofZ l sz m)).length cv, by rw [HO.out], HV4.out.less (by have := HZ2.out; omega), HB4.out⟩

end Go.Proofs.Yteagglddgkjkmaa.Words

/- The law's own helper of chapter 14: alive. -/
namespace Go.Proofs.Yteagglddgkjkmaa.Words
set_option maxRecDepth 100000
open Go.RowKit
set_option linter.unusedVariables false
set_option linter.unusedSimpArgs false

def hltI : Ins := ⟨41, 0, 0, 0, 0⟩
def hltB : BlkC := ⟨0, 1, -1, -1, [bareC 12 0 0], [bareC 12 0 0]⟩
theorem hlt_split : withZ [hltI] 0 0 (ofZ [hltI] 0 0) = [hltB] := by decide +kernel
theorem hlt_err : errW [hltI] 0 0 (ofZ [hltI] 0 0) = 0 := by decide +kernel
theorem hlt_own : ownW [hltI] 0 0 (ofZ [hltI] 0 0) = ofZ [hltI] 0 0 := by decide +kernel
theorem hlt_right : rightS [hltI] 0 0 [hltB] (ofZ [hltI] 0 0) = true := by decide +kernel
theorem hlt_none : rightS [hltI] 0 0 [] zeroO = false := by decide +kernel
theorem hlt_most : mostS [hltB] = 1 := by decide +kernel
theorem hlt_bal : balZ [] [] = true := by decide +kernel
theorem hlt_cnt : (countsZ [bareC 12 0 0])[11]? = some 1 := by decide +kernel

theorem c24_idx0_aux (a0 a1 a2 a3 a4 a5 a6 a7 a8 a9 a10 a11 e0 e1 e2 e3 e4 e5 e6 e7 e8 e9 e10 e11 : Int) (w : World) :
    (Instr.index 41 (.agg (c24 [a0, a1, a2, a3, a4, a5, a6, a7, a8, a9, a10, a11] [e0, e1, e2, e3, e4, e5, e6, e7, e8, e9, e10, e11]).toArray) (.int .i64 0)).run Try.prog w = .ok (.agg (oV [a0, a1, a2, a3, a4, a5, a6, a7, a8, a9, a10, a11]).toArray) w := by kernel_rfl
theorem c24_idx0 (a e : List Int) (ha : a.length = 12) (he : e.length = 12) (w : World) : (Instr.index 41 (.agg (c24 a e).toArray) (.int .i64 0)).run Try.prog w = .ok (.agg (oV a).toArray) w := by
  match a, e, ha, he with
  | [a0, a1, a2, a3, a4, a5, a6, a7, a8, a9, a10, a11], [e0, e1, e2, e3, e4, e5, e6, e7, e8, e9, e10, e11], _, _ => exact c24_idx0_aux ..
theorem c12_idx11_aux (a0 a1 a2 a3 a4 a5 a6 a7 a8 a9 a10 a11 : Int) (w : World) :
    (Instr.index 40 (.agg (oV [a0, a1, a2, a3, a4, a5, a6, a7, a8, a9, a10, a11]).toArray) (.int .i64 11)).run Try.prog w = .ok (.int .i64 a11) w := by kernel_rfl
theorem c12_idx11 (a : List Int) (ha : a.length = 12) (k : Int) (hk : a[11]? = some k) (w : World) : (Instr.index 40 (.agg (oV a).toArray) (.int .i64 11)).run Try.prog w = .ok (.int .i64 k) w := by
  match a, ha with
  | [a0, a1, a2, a3, a4, a5, a6, a7, a8, a9, a10, a11], _ =>
    have : a11 = k := by simpa using hk
    subst this
    exact c12_idx11_aux ..
set_option maxHeartbeats 4000000 in
theorem alive14_any (w : World) :
    Calls Try.prog 6 #[] w fun e w' => e = .returned (.bool true) ∧ Below w.heap.size w w' := by
  obtain ⟨W, hW⟩ : ∃ W, W = ((w.alloc (.cells #[.int .i64 41, .int .i64 0, .int .i64 0, .int .i64 0, .int .i64 0] 47)).alloc (.cells #[.slice (some ⟨w.heap.size, 0, none⟩) 1 1, .int .i64 0, .slice none 0 0] 25)) := ⟨_, rfl⟩
  have HB0 : Hid (Below w.heap.size w W) := by rw [hW]; exact ((Below.refl w.heap.size w).alloc (Nat.le_refl _) _).alloc (by simp) _
  have XP0 : Hid (Box W (w.heap.size + 1) [.slice (some ⟨w.heap.size, 0, none⟩) 1 1, .int .i64 0, .slice none 0 0]) := by
    have := Box.new (w.alloc (.cells #[.int .i64 41, .int .i64 0, .int .i64 0, .int .i64 0, .int .i64 0] 47)) [.slice (some ⟨w.heap.size, 0, none⟩) 1 1, .int .i64 0, .slice none 0 0] 25
    rw [hW]; show Box _ _ _; simpa using this
  have RC0 : Hid (Row W W.heap.size 5 (.slice (some ⟨w.heap.size, 0, none⟩) 1 1) 1 (codeCells [hltI])) := by
    rw [hW]
    exact ((row_new w (codeCells [hltI]) 5 rfl (by omega) 47).alloc (by simp) _).more (by simp)
  obtain ⟨O, hO⟩ : ∃ O, O = ofZ [hltI] 0 0 := ⟨_, rfl⟩
  have NO : Hid (O.length = 16) := by rw [hO]; exact ofZ_len
  have HR1 : Hid (rightS [hltI] 0 0 [hltB] O = true) := by rw [hO]; exact hlt_right
  have HOW : Hid (ownW [hltI] 0 0 (ofZ [hltI] 0 0) = O) := hlt_own.trans hO.symm
  clear hO
  go_enter Try.func6, Try.ntmps6
  go_upto_region 2 with (fail)
  change Code.wp _ _ _ _ ((w.alloc (.cells #[.int .i64 41, .int .i64 0, .int .i64 0, .int .i64 0, .int .i64 0] 47)).alloc (.cells #[.slice (some ⟨w.heap.size, 0, none⟩) 1 1, .int .i64 0, .slice none 0 0] 25))
  rw [← hW]
  clear hW
  go_wp2_with (first
    | (refine wpList_load_box rfl 25 (.tmp 1) rfl (w.heap.size + 1) 0 rfl [.slice (some ⟨w.heap.size, 0, none⟩) 1 1, .int .i64 0, .slice none 0 0] [.slice (some ⟨w.heap.size, 0, none⟩) 1 1, .int .i64 0, .slice none 0 0] XP0.out whole_at _ Try.underlying25 rfl 3 size_prg rfl ?_))
  refine (refSplitP_any (some ⟨w.heap.size, 0, none⟩) 1 0 none 0 0 [hltI] W RC0.out (Nat.le_refl _) (by decide)).mono ?_; rintro e w3 ⟨v3, rfl, hv3, hb⟩
  rw [hlt_err, hlt_split, HOW.out] at *
  obtain ⟨A3, c3, rfl⟩ := hv3.blks.form
  have HV3 := Lib.hid hv3.blks
  have XP3 := Lib.hid (XP0.out.below hb XP0.out.lt)
  have RC3 := Lib.hid ((RC0.out.below hb).more hb.size)
  have HB3 := Lib.hid (HB0.out.trans (hb.mono HB0.out.size))
  clear hv3 hb XP0 RC0 HB0
  go_upto_region 3 with (first
    | (refine wpList_store_box rfl 30 (.tmp 2) (.tmp 10) rfl w3.heap.size 0 (splV (.slice A3 1 c3) O) rfl rfl zeroSpl (Box.new w3 zeroSpl 30) (by rw [splV_len NO.out]; decide) 17 size_spl (splV_len NO.out) (splV_one rfl) ?_; intro w4 B4 hg4; rw [splice_whole zeroSpl (splV (.slice A3 1 c3) O) (by rw [splV_len NO.out]; rfl)] at B4; have HX4 : Hid (Box w4 w3.heap.size (splV (.slice A3 1 c3) O)) := B4; have HS4 := Lib.hid (box_stored hg4); clear B4 hg4))
  have HV4 := Lib.hid ((HV3.out.below HS4.out).more HS4.out.size)
  have XP4 := Lib.hid (XP3.out.below HS4.out XP3.out.lt)
  have RC4 := Lib.hid ((RC3.out.below HS4.out).more HS4.out.size)
  have HB4 := Lib.hid (HB3.out.trans (HS4.out.mono HB3.out.size))
  clear HV3 XP3 RC3 HB3 HS4
  obtain ⟨b4, o4, rfl⟩ := HV4.out.spot (by decide)
  go_wp2_with fail
  refine (balanced_any 0 0 0 0 none none 0 0 [] [] w4 (Row.nil _ _ _) (Row.nil _ _ _) (Nat.zero_le _) (Nat.zero_le _)).mono ?_; rintro e w5 ⟨rfl, hb⟩
  have XP5 := Lib.hid (XP4.out.below hb XP4.out.lt)
  have RC5 := Lib.hid ((RC4.out.below hb).more hb.size)
  have HX5 := Lib.hid (HX4.out.below hb HX4.out.lt)
  have HV5 := Lib.hid ((HV4.out.below hb).more hb.size)
  have HB5 := Lib.hid (HB4.out.trans (hb.mono HB4.out.size))
  clear hb XP4 RC4 HX4 HV4 HB4
  rw [hlt_bal]
  try dsimp only
  go_wp2_with (first
    | (refine wpList_load_box rfl 25 (.tmp 1) rfl (w.heap.size + 1) 0 rfl [.slice (some ⟨w.heap.size, 0, none⟩) 1 1, .int .i64 0, .slice none 0 0] [.slice (some ⟨w.heap.size, 0, none⟩) 1 1, .int .i64 0, .slice none 0 0] XP5.out whole_at _ Try.underlying25 rfl 3 size_prg rfl ?_)
    | (refine wpList_load_box rfl 30 (.tmp 2) rfl w3.heap.size 0 rfl (splV (.slice (some ⟨b4, o4, none⟩) 1 c3) O) (splV (.slice (some ⟨b4, o4, none⟩) 1 c3) O) HX5.out whole_at _ Try.underlying30 rfl 17 size_spl (splV_len NO.out) ?_))
  refine (rightS_any (some ⟨w.heap.size, 0, none⟩) 1 0 none 0 0 [hltI] (some ⟨b4, o4, none⟩) c3 [hltB] O w5 RC5.out (Nat.le_refl _) (by decide) HV5.out NO.out).mono ?_; rintro e w6 ⟨rfl, hb⟩
  have XP6 := Lib.hid (XP5.out.below hb XP5.out.lt)
  have RC6 := Lib.hid ((RC5.out.below hb).more hb.size)
  have HX6 := Lib.hid (HX5.out.below hb HX5.out.lt)
  have HV6 := Lib.hid ((HV5.out.below hb).more hb.size)
  have HB6 := Lib.hid (HB5.out.trans (hb.mono HB5.out.size))
  clear hb XP5 RC5 HX5 HV5 HB5
  rw [HR1.out]
  try dsimp only
  go_wp2_with (first
    | (refine wpList_load_box rfl 25 (.tmp 1) rfl (w.heap.size + 1) 0 rfl [.slice (some ⟨w.heap.size, 0, none⟩) 1 1, .int .i64 0, .slice none 0 0] [.slice (some ⟨w.heap.size, 0, none⟩) 1 1, .int .i64 0, .slice none 0 0] XP6.out whole_at _ Try.underlying25 rfl 3 size_prg rfl ?_)
    | (refine wpList_load_box rfl 30 (.tmp 2) rfl w3.heap.size 0 rfl (splV (.slice (some ⟨b4, o4, none⟩) 1 c3) O) (splV (.slice (some ⟨b4, o4, none⟩) 1 c3) O) HX6.out whole_at _ Try.underlying30 rfl 17 size_spl (splV_len NO.out) ?_))
  refine (mostS_any (some ⟨b4, o4, none⟩) c3 [hltB] O w6 HV6.out (fun b hb => by rw [List.mem_singleton] at hb; subst hb; refine ⟨fun x hx => ?_, fun x hx => ?_⟩ <;> (rw [List.mem_singleton.1 hx]; exact ⟨by decide, by decide⟩))).mono ?_; rintro e w7 ⟨rfl, hb⟩
  have XP7 := Lib.hid (XP6.out.below hb XP6.out.lt)
  have RC7 := Lib.hid ((RC6.out.below hb).more hb.size)
  have HX7 := Lib.hid (HX6.out.below hb HX6.out.lt)
  have HV7 := Lib.hid ((HV6.out.below hb).more hb.size)
  have HB7 := Lib.hid (HB6.out.trans (hb.mono HB6.out.size))
  clear hb XP6 RC6 HX6 HV6 HB6
  rw [hlt_most]
  obtain ⟨A5, c5, A6, c6, x0, x1, x2, x3, x4, x5, ra, re⟩ := HV7.out.at_ (k := 0) rfl
  have RA := Lib.hid ra
  have RE := Lib.hid re
  have q0 : w7.cell? ⟨w3.heap.size, 0, none⟩ = some (.slice (some ⟨b4, o4, none⟩) 1 c3) := HX7.out.cell (k := 0) rfl
  simp only [hltB, List.length_cons, List.length_nil, Nat.zero_add, Nat.zero_mul, Nat.add_zero] at x0 x1 x2 x3 x4 x5
  clear ra re
  try dsimp only
  go_wp2_with fail
  refine (counts_any 0 1 (-1) (-1) A5 A6 c5 c6 [bareC 12 0 0] [bareC 12 0 0] w7 RA.out RE.out).mono ?_; rintro e w8 ⟨rfl, hb⟩
  clear x0 x1 x2 x3 x4 x5 q0 RA RE
  have XP8 := Lib.hid (XP7.out.below hb XP7.out.lt)
  have RC8 := Lib.hid ((RC7.out.below hb).more hb.size)
  have HX8 := Lib.hid (HX7.out.below hb HX7.out.lt)
  have HV8 := Lib.hid ((HV7.out.below hb).more hb.size)
  have HB8 := Lib.hid (HB7.out.trans (hb.mono HB7.out.size))
  clear hb XP7 RC7 HX7 HV7 HB7
  obtain ⟨zc, hzc⟩ : ∃ zc, zc = countsZ [bareC 12 0 0] := ⟨_, rfl⟩
  have n12 : zc.length = 12 := by rw [hzc]; exact countsZ_len _
  have n11 : zc[11]? = some 1 := by rw [hzc]; exact hlt_cnt
  rw [← hzc]
  have ix0 := c24_idx0 zc zc n12 n12
  have ix1 := c12_idx11 zc n12 1 n11
  clear n12 n11 hzc
  try dsimp only
  go_wp2_with (first
    | (refine wpList_load_box rfl 25 (.tmp 1) rfl (w.heap.size + 1) 0 rfl [.slice (some ⟨w.heap.size, 0, none⟩) 1 1, .int .i64 0, .slice none 0 0] [.slice (some ⟨w.heap.size, 0, none⟩) 1 1, .int .i64 0, .slice none 0 0] XP8.out whole_at _ Try.underlying25 rfl 3 size_prg rfl ?_)
    | (refine wpList_load_box rfl 30 (.tmp 2) rfl w3.heap.size 0 rfl (splV (.slice (some ⟨b4, o4, none⟩) 1 c3) O) (splV (.slice (some ⟨b4, o4, none⟩) 1 c3) O) HX8.out whole_at _ Try.underlying30 rfl 17 size_spl (splV_len NO.out) ?_))
  refine (rightS_any (some ⟨w.heap.size, 0, none⟩) 1 0 none 0 0 [hltI] none 0 [] zeroO w8 RC8.out (Nat.le_refl _) (by decide) ⟨[], Row.nil _ _ _, rfl, fun k r c h => by simp at h⟩ rfl).mono ?_; rintro e w9 ⟨rfl, hb⟩
  have HB9 := Lib.hid (HB8.out.trans (hb.mono HB8.out.size))
  clear hb
  rw [hlt_none]
  try dsimp only
  go_wp2_with fail
  go_ret
  exact ⟨by first | rfl | trivial, HB9.out⟩
end Go.Proofs.Yteagglddgkjkmaa.Words

/- Plain mathematics of chapter 14: a cell that is gone, there twice, another one, or swapped. -/
namespace Go.Proofs.Yteagglddgkjkmaa.Words
set_option maxRecDepth 100000
open Go.RowKit
set_option linter.unusedVariables false
set_option linter.unusedSimpArgs false

theorem bal_lens {a e : List Cel} (h : balZ a e = true) : (someZ 5 a).length = (someZ 6 e).length ∧ (someZ 3 a).length = (someZ 7 e).length ∧ (someZ 4 a).length = (someZ 8 e).length ∧ joinB (lastK a) (lastK e) = true := by
  unfold balZ at h
  simp only [Bool.and_eq_true, decide_eq_true_eq] at h
  obtain ⟨⟨⟨⟨⟨_, _⟩, h3⟩, h4⟩, h5⟩, h6⟩ := h
  refine ⟨?_, ?_, h5, h6⟩
  · have := congrArg List.length h3; rwa [List.length_map, List.length_map] at this
  · have := congrArg List.length h4; rwa [List.length_map, List.length_map] at this
/-- A list with one place left out. -/
def gone {α : Type} (l : List α) (i : Nat) : List α := l.take i ++ l.drop (i + 1)
theorem some_gone {l : List Cel} {i : Nat} {x : Cel} (h : l[i]? = some x) (k : Int) : (someZ k l).length = (someZ k (gone l i)).length + (if x.kind = k then 1 else 0) := by
  obtain ⟨hi, hx⟩ := List.getElem?_eq_some_iff.1 h
  have e : l = l.take i ++ ([x] ++ l.drop (i + 1)) := by
    rw [← hx, List.singleton_append, ← List.drop_eq_getElem_cons hi, List.take_append_drop]
  unfold gone
  rw [someZ_append, List.length_append]
  conv => lhs; rw [e]
  rw [someZ_append, someZ_append, some_one, List.length_append, List.length_append]
  by_cases hk : x.kind = k
  · rw [if_pos hk, if_pos hk]; simp; omega
  · rw [if_neg hk, if_neg hk]; simp
theorem ctl_last {ks : List Int} (hk : ∀ k ∈ ks, ctlB k = false) {pa : List Cel} (hp : ∀ c ∈ pa, c.kind ∈ ks) {c x : Cel} {i : Nat} (h : (pa ++ [c])[i]? = some x) (hx : ctlB x.kind = true) : x = c ∧ i = pa.length := by
  rcases Nat.lt_or_ge i pa.length with hi | hi
  · rw [List.getElem?_append_left hi] at h
    have := hk _ (hp x (List.mem_of_getElem? h))
    rw [this] at hx; cases hx
  · rw [List.getElem?_append_right hi] at h
    have hz : i - pa.length = 0 := by
      rcases Nat.eq_zero_or_pos (i - pa.length) with e | e
      · exact e
      · rw [List.getElem?_eq_none (by simp; omega)] at h; cases h
    rw [hz] at h
    simp at h
    exact ⟨h.symm, by omega⟩
theorem gone_last (pa : List Cel) (c : Cel) : gone (pa ++ [c]) pa.length = pa := by
  unfold gone
  rw [List.take_left, List.drop_of_length_le (by simp), List.append_nil]
theorem join_0l {q : Int} (h : 9 ≤ q) : joinB 0 q = false := by unfold joinB; rw [if_neg (by decide), if_neg (by decide)]; simp; omega
theorem join_0r {p : Int} (h : 9 ≤ p) : joinB p 0 = false := by
  unfold joinB
  by_cases h9 : p = 9
  · rw [if_pos h9]; rfl
  · rw [if_neg h9]
    by_cases h10 : p = 10
    · rw [if_pos h10]; rfl
    · rw [if_neg h10]; simp; omega
theorem ends_kinds {c d : Cel} (h : (c.kind = 9 ∧ d.kind = 10) ∨ (c.kind = 10 ∧ d.kind = 9) ∨ (c.kind = 11 ∧ d.kind = 11) ∨ (c.kind = 12 ∧ d.kind = 12)) : (9 ≤ c.kind ∧ c.kind ≤ 12) ∧ 9 ≤ d.kind ∧ d.kind ≤ 12 := by
  rcases h with ⟨h1, h2⟩ | ⟨h1, h2⟩ | ⟨h1, h2⟩ | ⟨h1, h2⟩ <;> omega
theorem ctl_of {k : Int} (h : 9 ≤ k ∧ k ≤ 12) : ctlB k = true := by unfold ctlB; simp [h.1, h.2]
/-- A's cell that joins both sides is gone: balanced no more. -/
theorem unbal_a {a e ta te : List Cel} (h : Plain a e) (g : Ends ta te) {i : Nat} {x : Cel} (hx : (a ++ ta)[i]? = some x) (h1 : x.kind ≠ 1) (h2 : x.kind ≠ 2) : balZ (gone (a ++ ta) i) (e ++ te) = false := by
  have hA : ∀ k ∈ kindsA, ctlB k = false := fun k hk => kindsA_no hk
  have hE : ∀ k ∈ kindsE, ctlB k = false := fun k hk => kindsE_no hk
  rw [← Bool.not_eq_true]
  intro hb
  obtain ⟨b1, b2, b3, b4⟩ := bal_lens hb
  obtain ⟨c1, c2, c3, c4⟩ := bal_lens (bal_of h g)
  have s5 := some_gone hx 5
  have s3 := some_gone hx 3
  have s4 := some_gone hx 4
  have hm : x ∈ a ++ ta := List.mem_of_getElem? hx
  by_cases hc : ctlB x.kind = true
  · cases g with
    | no =>
      rw [List.append_nil] at hm
      rw [hA _ (h.ka x hm)] at hc; cases hc
    | c c d hk =>
      obtain ⟨rfl, rfl⟩ := ctl_last hA h.ka hx hc
      rw [gone_last, last_plain hA h.ka, last_one _ _ (ctl_of (ends_kinds hk).2), join_0l (ends_kinds hk).2.1] at b4
      cases b4
  · have hka : x.kind ∈ kindsA := by
      rcases List.mem_append.1 hm with q | q
      · exact h.ka x q
      · cases g with
        | no => cases q
        | c c d hk => rw [List.mem_singleton] at q; subst q; exact absurd (ctl_of (ends_kinds hk).1) hc
    simp only [kindsA, List.mem_cons, List.not_mem_nil, or_false] at hka
    rcases hka with k | k | k | k | k
    · exact h1 k
    · exact h2 k
    · rw [if_pos k] at s3; omega
    · rw [if_pos k] at s4; omega
    · rw [if_pos k] at s5; omega
/-- E's cell that joins both sides is gone: balanced no more. -/
theorem unbal_e {a e ta te : List Cel} (h : Plain a e) (g : Ends ta te) {i : Nat} {x : Cel} (hx : (e ++ te)[i]? = some x) (h1 : x.kind ≠ 1) : balZ (a ++ ta) (gone (e ++ te) i) = false := by
  have hA : ∀ k ∈ kindsA, ctlB k = false := fun k hk => kindsA_no hk
  have hE : ∀ k ∈ kindsE, ctlB k = false := fun k hk => kindsE_no hk
  rw [← Bool.not_eq_true]
  intro hb
  obtain ⟨b1, b2, b3, b4⟩ := bal_lens hb
  obtain ⟨c1, c2, c3, c4⟩ := bal_lens (bal_of h g)
  have s6 := some_gone hx 6
  have s7 := some_gone hx 7
  have s8 := some_gone hx 8
  have hm : x ∈ e ++ te := List.mem_of_getElem? hx
  by_cases hc : ctlB x.kind = true
  · cases g with
    | no =>
      rw [List.append_nil] at hm
      rw [hE _ (h.ke x hm)] at hc; cases hc
    | c c d hk =>
      obtain ⟨rfl, rfl⟩ := ctl_last hE h.ke hx hc
      rw [gone_last, last_plain hE h.ke, last_one _ _ (ctl_of (ends_kinds hk).1), join_0r (ends_kinds hk).1.1] at b4
      cases b4
  · have hke : x.kind ∈ kindsE := by
      rcases List.mem_append.1 hm with q | q
      · exact h.ke x q
      · cases g with
        | no => cases q
        | c c d hk => rw [List.mem_singleton] at q; subst q; exact absurd (ctl_of (ends_kinds hk).2) hc
    simp only [kindsE, List.mem_cons, List.not_mem_nil, or_false] at hke
    rcases hke with k | k | k | k
    · exact h1 k
    · rw [if_pos k] at s6; omega
    · rw [if_pos k] at s7; omega
    · rw [if_pos k] at s8; omega
theorem gone_ne {α : Type} {l : List α} {i : Nat} (h : i < l.length) : gone l i ≠ l := by
  intro e
  have := congrArg List.length e
  unfold gone at this
  rw [List.length_append, List.length_take, List.length_drop] at this
  omega
/-- A place there twice. -/
def twice {α : Type} (l : List α) (i : Nat) (x : α) : List α := l.take i ++ [x] ++ l.drop i
theorem twice_ne {α : Type} {l : List α} {i : Nat} {x : α} : twice l i x ≠ l := by
  intro e
  have := congrArg List.length e
  unfold twice at this
  rw [List.length_append, List.length_append, List.length_take, List.length_drop] at this
  simp at this
  omega
theorem set_ne {α : Type} {l : List α} {i : Nat} {x y : α} (h : l[i]? = some x) (hxy : y ≠ x) : l.set i y ≠ l := by
  intro e
  have hi := (List.getElem?_eq_some_iff.1 h).1
  have : (l.set i y)[i]? = some y := List.getElem?_set_self hi
  rw [e, h] at this
  injection this with this
  exact hxy this.symm
/-- Two places swapped: as it was just if they are one. -/
theorem swap_eq {α : Type} {l : List α} {i j : Nat} {x y : α} (hx : l[i]? = some x) (hy : l[j]? = some y) : ((l.set i y).set j x = l) ↔ x = y := by
  have hi := (List.getElem?_eq_some_iff.1 hx).1
  have hj := (List.getElem?_eq_some_iff.1 hy).1
  constructor
  · intro e
    have h1 : ((l.set i y).set j x)[j]? = some x := List.getElem?_set_self (by simpa using hj)
    rw [e, hy] at h1
    injection h1 with h1
    exact h1.symm
  · rintro rfl
    apply List.ext_getElem?
    intro k
    by_cases hk : j = k
    · subst hk; rw [List.getElem?_set_self (by simpa using hj), hy]
    · rw [List.getElem?_set_ne hk]
      by_cases hk' : i = k
      · subst hk'; rw [List.getElem?_set_self hi, hx]
      · rw [List.getElem?_set_ne hk']
end Go.Proofs.Yteagglddgkjkmaa.Words

/- Contracts of the laws' own helpers of chapter 11 that make owners. -/
namespace Go.Proofs.Yteagglddgkjkmaa.Words
set_option maxRecDepth 100000
open Go.RowKit
set_option linter.unusedVariables false
set_option linter.unusedSimpArgs false

/-- By the bits of a number, from 1 on. -/
def bitP (pick : Int) (k : Nat) : Bool := bits BinOp.and IntKind.i64 (pick / 2 ^ k) 1 == 1
def pickO (pick : Int) (n : Nat) : List Int := funO fun j => if 1 ≤ j ∧ j < n then (if bitP pick j = true then 1 else 2) else 0
theorem pickO_1 (pick : Int) : pickO pick 1 = zeroO := by
  unfold pickO
  rw [show (fun j => if 1 ≤ j ∧ j < 1 then (if bitP pick j = true then 1 else 2) else 0) = (fun _ : Nat => (0 : Int)) from by funext j; rw [if_neg (by omega)]]
  decide
theorem pickO_set {pick : Int} {k : Nat} (h : 1 ≤ k) : (pickO pick k).set k (if bitP pick k = true then 1 else 2) = pickO pick (k + 1) := by
  unfold pickO
  rw [funO_set]
  refine funO_ext fun j hj => ?_
  by_cases e : j = k
  · subst e; rw [if_pos rfl, if_pos (show 1 ≤ j ∧ j < j + 1 from ⟨h, by omega⟩)]
  · rw [if_neg e]
    by_cases c : 1 ≤ j ∧ j < k
    · rw [if_pos c, if_pos (show 1 ≤ j ∧ j < k + 1 from ⟨c.1, by omega⟩)]
    · rw [if_neg c, if_neg (by omega)]
theorem set_twice (o : List Int) (k : Nat) (x y : Int) : (o.set k x).set k y = o.set k y := List.set_set ..
/-- What Owners makes. -/
def ownO (pick : Int) : List Int := pickO pick 16
theorem ownO_ok (pick : Int) : OkO (ownO pick) := funO_ok (by rw [if_neg (by omega)]) fun k h1 h2 => by
  rw [if_pos ⟨h1, by omega⟩]
  split <;> simp
theorem ownO_len (pick : Int) : (ownO pick).length = 16 := (ownO_ok pick).1
theorem ownO_all : ownO 65534 = allA := by decide +kernel

set_option maxHeartbeats 4000000 in
theorem owners_make (pick : Int) (w : World) (hp : -9223372036854775808 ≤ pick ∧ pick ≤ 9223372036854775807) :
    Calls Try.prog 8 #[.int .i64 pick] w fun e w' => e = .returned (.agg (oV (ownO pick)).toArray) ∧ Below w.heap.size w w' := by
  have HB0 : Hid (Box ((w.alloc (.cells (oV zeroO).toArray 28)).alloc (.cells (oV zeroO).toArray 28)) w.heap.size (oV zeroO)) := (Box.new w (oV zeroO) _).alloc _
  have HX0 : Hid (Box ((w.alloc (.cells (oV zeroO).toArray 28)).alloc (.cells (oV zeroO).toArray 28)) (w.heap.size + 1) (oV zeroO)) := by
    have := Box.new (w.alloc (.cells (oV zeroO).toArray 28)) (oV zeroO) 28
    have e : (w.alloc (.cells (oV zeroO).toArray 28)).heap.size = w.heap.size + 1 := by simp
    rw [e] at this
    exact this
  have HK0 : Hid (Below w.heap.size w ((w.alloc (.cells (oV zeroO).toArray 28)).alloc (.cells (oV zeroO).toArray 28))) := ((Below.refl w.heap.size w).alloc (Nat.le_refl _) _).alloc (by simp) _
  go_enter Try.func8, Try.ntmps8
  go_wp2_with fail
  change Code.wp _ _ _ _ ((w.alloc (.cells (oV zeroO).toArray 28)).alloc (.cells (oV zeroO).toArray 28))
  generalize (w.alloc (.cells (oV zeroO).toArray 28)).alloc (.cells (oV zeroO).toArray 28) = W at *
  rw [← pickO_1 pick] at HX0
  go_loopw [4] (fun ii wr => ∃ k : Nat, 1 ≤ k ∧ k ≤ 16 ∧ ii = .int .i64 k ∧ Box wr (w.heap.size + 1) (oV (pickO pick k)) ∧ Below (w.heap.size + 1) W wr) (fun ii _ => 16 - (intOf ii).toNat)
  case atStart => exact ⟨1, by omega, by omega, rfl, HX0.out, Below.refl _ _⟩
  case round =>
    obtain ⟨k, hk1, hk, rfl, hbx, hbl⟩ := hrel
    have HX := Lib.hid hbx
    have HKY := Lib.hid hbl
    clear hbx hbl
    by_cases hlt : k < 16
    · have f1 := HX.out.cell (oV_at (funO_len _) (n := k) (by omega))
      have f2 := HX.out.frozen k
      have hz := HX.out.lt
      have g0 : (0 : Int) ≤ k := by omega
      have g1 : (k : Int) < 16 := by omega
      have HST := Lib.hid (pickO_set (pick := pick) hk1)
      have HSB := Lib.hid (show bitP pick k = (bits BinOp.and IntKind.i64 (pick / 2 ^ k) 1 == 1) from rfl)
      cases hq : (bits BinOp.and IntKind.i64 (pick / 2 ^ k) 1 == 1)
      · have HE := Lib.hid (HST.out.symm.trans (congrArg (fun z => (pickO pick k).set k z) (if_neg (by rw [HSB.out, hq]; decide))))
        have HN : Hid (Box (wr.setCell ⟨w.heap.size + 1, k, none⟩ (.int .i64 2)) (w.heap.size + 1) (oV (pickO pick (k + 1)))) := by
          have := HX.out.setCell k (.int .i64 2)
          rw [oV_set] at this
          rw [HE.out]; exact this
        have HKN : Hid (Below (w.heap.size + 1) W (wr.setCell ⟨w.heap.size + 1, k, none⟩ (.int .i64 2))) := HKY.out.setCell (p := ⟨w.heap.size + 1, k, none⟩) (Nat.le_refl _) _
        go_wp2_with fail
        go_roundw
        case rel => exact ⟨k + 1, by omega, by omega, by go_num, HN.out, HKN.out⟩
        case measure => simp only [intOf]; omega
      · have HE := Lib.hid (HST.out.symm.trans (congrArg (fun z => (pickO pick k).set k z) (if_pos (by rw [HSB.out, hq]))))
        have HN : Hid (Box ((wr.setCell ⟨w.heap.size + 1, k, none⟩ (.int .i64 2)).setCell ⟨w.heap.size + 1, k, none⟩ (.int .i64 1)) (w.heap.size + 1) (oV (pickO pick (k + 1)))) := by
          have := (HX.out.setCell k (.int .i64 2)).setCell k (.int .i64 1)
          rw [oV_set, oV_set, set_twice] at this
          rw [HE.out]; exact this
        have HKN : Hid (Below (w.heap.size + 1) W ((wr.setCell ⟨w.heap.size + 1, k, none⟩ (.int .i64 2)).setCell ⟨w.heap.size + 1, k, none⟩ (.int .i64 1))) := (HKY.out.setCell (p := ⟨w.heap.size + 1, k, none⟩) (Nat.le_refl _) _).setCell (p := ⟨w.heap.size + 1, k, none⟩) (Nat.le_refl _) _
        go_wp2_with fail
        go_roundw
        case rel => exact ⟨k + 1, by omega, by omega, by go_num, HN.out, HKN.out⟩
        case measure => simp only [intOf]; omega
    · have HE : Hid (Box wr (w.heap.size + 1) (oV (ownO pick))) := by unfold ownO; rw [show 16 = k from by omega]; exact HX.out
      have HRB := Lib.hid (HB0.out.below HKY.out (by omega))
      have HPL := Lib.hid (ownO_len pick)
      have g1 : ¬ (k : Int) < 16 := by omega
      have HZ : Hid (w.heap.size + 1 ≤ wr.heap.size) := Nat.le_of_lt HX.out.lt
      clear HX
      obtain ⟨p, hpe⟩ : ∃ p, p = ownO pick := ⟨_, rfl⟩
      rw [← hpe] at HE HPL
      have HPE := Lib.hid hpe
      clear hpe
      go_wp2_with (first
        | (refine wpList_load_box rfl 28 (.tmp 3) rfl (w.heap.size + 1) 0 rfl (oV p) (oV p) HE.out whole_at _ Try.underlying28 rfl 16 (by kernel_rfl) ((oV_len p).trans HPL.out) ?_)
        | (refine wpList_store_box rfl 28 (.tmp 2) (.tmp 19) rfl w.heap.size 0 (oV p) rfl rfl (oV zeroO) HRB.out (by rw [oV_len, HPL.out]; exact Nat.le_refl _) 16 (by kernel_rfl) ((oV_len p).trans HPL.out) (oV_one _) ?_; intro w3 B3 hg3; rw [splice_whole _ _ (by rw [oV_len, HPL.out]; rfl)] at B3))
      refine bodyPost_ret (v := .agg (oV p).toArray) ?_ rfl ⟨by rw [HPE.out], ?_⟩
      · exact results_cell Try.results8 _ _ _ ⟨w.heap.size, 0, none⟩ _ rfl (load_own B3 HPL.out)
      · exact Below.grown (HK0.out.trans (HKY.out.mono (by omega))) hg3 (by have := HZ.out; omega) (fun i hi => by injection hi with hi; omega)
end Go.Proofs.Yteagglddgkjkmaa.Words

/- Plain mathematics of chapter 13: the least owner may be; what a split of either owner has. -/
namespace Go.Proofs.Yteagglddgkjkmaa.Words
set_option maxRecDepth 100000
open Go.RowKit
set_option linter.unusedVariables false

theorem closedS_iff {l : List Ins} {sz : Int} {m : Nat} {o : List Int} (ho : o.length = 16) : closedZ l sz m o = true ↔ OkO o ∧ rightZ l sz m = true ∧ AllO l o := by
  unfold closedZ
  rw [Bool.and_eq_true, Bool.and_eq_true, ownersB_ok ho, all_free, and_assoc]
theorem closedS_least {l : List Ins} {sz : Int} {m : Nat} (h : rightZ l sz m = true) : closedZ l sz m (ofZ l sz m) = true := by
  rw [closedS_iff ofZ_len]
  have hc := (rightZ_insO h).2
  have e : ofZ l sz m = leastO l := by unfold ofZ; rw [if_pos h]
  rw [e]
  exact ⟨least_ok l hc, h, least_all hc⟩
/-- Each block of a split has the bounds of Cut's block. -/
theorem fill_at {z : List Int} {l : List Ins} {bs : List Blk} {k : Nat} {b : Blk} (h : bs[k]? = some b) : (bs.map (fillB z l))[k]? = some (fillB z l b) := by rw [List.getElem?_map, h]; rfl
end Go.Proofs.Yteagglddgkjkmaa.Words

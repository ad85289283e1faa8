/- The law BanksServe walked. -/
import Derived.Test.YthhoigkmmlkfcaaSBnkHold
import Derived.Test.YthhoigkmmlkfcaaSBnkServe2
import Derived.Test.YthhoigkmmlkfcaaSAdvLim
import Derived.Test.YthhoigkmmlkfcaaG12
import Derived.Test.YthhoigkmmlkfcaaG07
import Derived.BigQuiet
import Derived.Deep.Cut
namespace Go.Proofs.Ythhoigkmmlkfcaa.Words
set_option maxRecDepth 100000
open Go.RowKit
set_option linter.unusedVariables false
set_option linter.unusedSimpArgs false

theorem quiet_mineS {P : Program} {f : FuncId} {args : Array Value} {w : World} {n : Nat} {v : Value} (h : Calls P f args (w.drewN n) fun e w' => e = .returned v ∧ w.drewN n = w') :
    Calls P f args (w.drewN n) fun e w'' => e = .returned v ∧ ∃ m, w'' = w.drewN m := h.mono fun _ _ ⟨he, hm⟩ => ⟨he, n, hm.symm⟩
theorem vs_one {v : Vs} {w : World} {B : Nat} {x : Sta} (h : StaV w B v x) : ∀ u ∈ staL x v, u.oneCell' = true := staL_one (by
  intro u hu
  simp only [vsL, List.mem_cons, List.not_mem_nil, or_false] at hu
  rcases hu with rfl | rfl | rfl | rfl | rfl | rfl | rfl | rfl | rfl
  · obtain ⟨a, b, e⟩ := h.ldq.form; rw [e]; rfl
  · obtain ⟨a, b, e⟩ := h.sdq.form; rw [e]; rfl
  · obtain ⟨a, b, e⟩ := h.aeq.form; rw [e]; rfl
  · obtain ⟨a, b, e⟩ := h.abq.form; rw [e]; rfl
  · obtain ⟨a, b, e⟩ := h.ebq.form; rw [e]; rfl
  · obtain ⟨a, b, e⟩ := h.saq.form; rw [e]; rfl
  · obtain ⟨a, b, e⟩ := h.table.form; rw [e]; rfl
  · obtain ⟨a, b, e⟩ := h.mem.form; rw [e]; rfl
  · obtain ⟨a, b, e⟩ := h.ws.form; rw [e]; rfl)
theorem info_rqsS : (Try.prog.info? 54).map (fun i => (i.zero, i.size, i.bytes)) = some (some (.agg #[.bool false, .int .i64 0, .int .i64 0, .int .i64 0, .int .u32 0, .int .i64 0, .int .i64 0, .int .i64 0]), 8, 64) := by kernel_rfl
theorem parts_rqsS : ∃ i, Try.prog.info? 54 = some i ∧ i.zero = some (.agg #[.bool false, .int .i64 0, .int .i64 0, .int .i64 0, .int .u32 0, .int .i64 0, .int .i64 0, .int .i64 0]) ∧ i.size = 8 ∧ i.bytes = 64 := by
  have h := info_rqsS
  cases hi : Try.prog.info? 54 with
  | none => rw [hi] at h; cases h
  | some i =>
    rw [hi] at h
    simp only [Option.map_some, Option.some.injEq, Prod.mk.injEq] at h
    exact ⟨i, rfl, h.1, h.2.1, h.2.2⟩
/-- What a served table is. -/
structure TabS (c : Cfg) (l : List Rqs) : Prop where
  lo : ∀ (i : Nat) q, l[i]? = some q → 0 ≤ q.left ∧ q.left ≤ c.lat ∧ q.Fits
  ap : ∀ (i k : Nat) q r, k < i → l[i]? = some q → l[k]? = some r → 0 < q.left → 0 < r.left → (bankZ q.addr c.banks == bankZ r.addr c.banks) = false
theorem tab_of {c : Cfg} {n s : Int} {x : Sta} (h : SrvI c n s x) (hf : ∀ q ∈ x.table, q.Fits) : TabS c x.table := by
  refine ⟨fun i q hq => ⟨(h.lo q (List.mem_of_getElem? hq)).1, (h.lo q (List.mem_of_getElem? hq)).2, hf q (List.mem_of_getElem? hq)⟩, fun i k q r hk hq hr h1 h2 => ?_⟩
  have ho := h.one
  unfold OneB at ho
  rw [List.pairwise_iff_getElem] at ho
  obtain ⟨l1, e1⟩ := List.getElem?_eq_some_iff.1 hq
  obtain ⟨l2, e2⟩ := List.getElem?_eq_some_iff.1 hr
  have := ho k i l2 l1 hk
  dsimp only at this
  rw [e1, e2] at this
  have hne := this h2 h1
  simp only [beq_eq_false_iff_ne, ne_eq]
  exact fun e => hne e.symm
set_option maxHeartbeats 16000000 in
theorem banksServe_in (c : Cfg) (A B : Option Addr) (ca cb : Nat) (lats picks : List Int) (M : Option Addr) (mc n : Nat) (zs : List Int) (R : Option Addr) (rc L : Nat) (l : List Rqs) (w : World) (hc : c.Fits) (hl : Row w w.heap.size 1 (.slice A lats.length ca) lats.length (lats.map (Value.int .i64))) (hp : Row w w.heap.size 1 (.slice B picks.length cb) picks.length (picks.map (Value.int .i64))) (hr : Row w w.heap.size 1 (.slice M n mc) n (zs.map (Value.int .u8))) (hz : ∀ x ∈ zs, 0 ≤ x ∧ x ≤ 255) (hq : Row w w.heap.size 8 (.slice R L rc) L (flat rqsL l)) (hL : l.length = L) (hf : ∀ q ∈ l, q.Fits)
    (g1 : ¬ (20 : Int) < L) (g2 : ¬ (300 : Int) < n) (g3 : ¬ (60 : Int) < lats.length) (g4 : ¬ (60 : Int) < picks.length) (g5 : ¬ c.banks < 1) (g6 : ¬ 16 < c.banks) (g7 : ¬ c.lat < 1) (g8 : ¬ 30 < c.lat) :
    Calls Try.prog 4 #[.agg #[.int .i64 c.ldq, .int .i64 c.sdq, .int .i64 c.aeq, .int .i64 c.abq, .int .i64 c.ebq, .int .i64 c.saq, .int .i64 c.banks, .int .i64 c.flight, .int .i64 c.slip, .int .i64 c.lat, .int .i64 c.mul, .int .i64 c.div], .agg #[.slice A lats.length ca, .slice B picks.length cb], .slice M n mc, .slice R L rc] w fun e w' => e = .returned (.bool true) ∧ Below w.heap.size w w' := by
  obtain ⟨W, hW⟩ : ∃ W, W = (w.alloc (.cells #[.int .i64 c.ldq, .int .i64 c.sdq, .int .i64 c.aeq, .int .i64 c.abq, .int .i64 c.ebq, .int .i64 c.saq, .int .i64 c.banks, .int .i64 c.flight, .int .i64 c.slip, .int .i64 c.lat, .int .i64 c.mul, .int .i64 c.div] 23)).alloc (.cells #[.slice A lats.length ca, .slice B picks.length cb] 26) := ⟨_, rfl⟩
  have HBW : Hid (Below w.heap.size w W) := Lib.hid (by rw [hW]; exact ((Below.refl _ _).alloc (Nat.le_refl _) _).alloc (by simp) _)
  have HCW : Hid (Box W w.heap.size (cfgCells c)) := Lib.hid (by rw [hW]; exact (Box.new w (cfgCells c) _).alloc _)
  have HSW : Hid (Box W (w.heap.size + 1) [.slice A lats.length ca, .slice B picks.length cb]) := Lib.hid (by rw [hW]; have := (Box.new (w.alloc (.cells #[.int .i64 c.ldq, .int .i64 c.sdq, .int .i64 c.aeq, .int .i64 c.abq, .int .i64 c.ebq, .int .i64 c.saq, .int .i64 c.banks, .int .i64 c.flight, .int .i64 c.slip, .int .i64 c.lat, .int .i64 c.mul, .int .i64 c.div] 23)) [.slice A lats.length ca, .slice B picks.length cb] 26); simpa using this)
  have HLL := Lib.hid hl
  have HP := Lib.hid hp
  have HR := Lib.hid hr
  have HQ := Lib.hid hq
  have HLN := Lib.hid hL
  have HFQ := Lib.hid hf
  have HEW : Hid (EnvB w c [.slice A lats.length ca, .slice B picks.length cb] 0 W) := Lib.hid ⟨HCW.out, HSW.out, HBW.out⟩
  have hzl : zs.length = n := by have := hr.len; simpa using this
  have HZL := Lib.hid hzl
  have HZ := Lib.hid hz
  have HCF := Lib.hid hc
  have hruns : runsB c = true := by unfold runsB withinB; simp only [Bool.and_eq_true, decide_eq_true_eq]; omega
  have HRUN := Lib.hid hruns
  obtain ⟨i8, hi8, q0, q1, q2⟩ := parts_u8
  have HI := Lib.hid hi8
  have HZ0 := Lib.hid q0
  have HZ1 := Lib.hid q1
  have HZ2 := Lib.hid q2
  obtain ⟨iq, hiq, q3, q4, q5⟩ := parts_rqsS
  have HIQ := Lib.hid hiq
  have HQ0 := Lib.hid q3
  have HQ1 := Lib.hid q4
  have HQ2 := Lib.hid q5
  clear hl hp hr hz hzl hc hruns hi8 q0 q1 q2 hiq q3 q4 q5 hq hL hf
  have p1 : decide ((20 : Int) < L) = false := decide_eq_false g1
  have p2 : decide ((300 : Int) < n) = false := decide_eq_false g2
  have p3 : decide ((60 : Int) < lats.length) = false := decide_eq_false g3
  have p4 : decide ((60 : Int) < picks.length) = false := decide_eq_false g4
  have p5 : decide (c.banks < 1) = false := decide_eq_false g5
  have p6 : decide (16 < c.banks) = false := decide_eq_false g6
  have p7 : decide (c.lat < 1) = false := decide_eq_false g7
  have p8 : decide (30 < c.lat) = false := decide_eq_false g8
  obtain ⟨K, hK⟩ : ∃ K : Int, ((L : Int) + 1) * (c.lat + 1) = K := ⟨_, rfl⟩
  have hK2 : (c.lat + 1) * (L : Int) < K := by
    rw [← hK, show ((L : Int) + 1) * (c.lat + 1) = (L : Int) * (c.lat + 1) + 1 * (c.lat + 1) from Int.add_mul _ _ _, Int.mul_comm (L : Int) (c.lat + 1)]
    omega
  have hK3 : 0 ≤ (c.lat + 1) * (L : Int) := Int.mul_nonneg (by omega) (by omega)
  have hK1 : K ≤ 1000 := by
    rw [← hK]
    have e1 : ((L : Int) + 1) * (c.lat + 1) ≤ 21 * (c.lat + 1) := Int.mul_le_mul_of_nonneg_right (by omega) (by omega)
    omega
  have HK2 := Lib.hid hK2
  have hKp : 1 ≤ K := by omega
  clear hK2 hK3
  obtain ⟨K, rfl⟩ : ∃ m : Nat, K = m := ⟨K.toNat, by omega⟩
  go_enter Try.func4, Try.ntmps4
  go_wp2_with (first | (rw [← hW]; clear hW))
  refine (alive18_any _).mono ?_
  rintro e w1 ⟨rfl, hb⟩
  have E1 := Lib.hid (HEW.out.below hb)
  clear hb HCW HSW HBW HEW
  have c0 : w1.cell? ⟨w.heap.size + 1, 0, none⟩ = some (.slice A lats.length ca) := E1.out.sc.cell rfl
  have c1 : w1.cell? ⟨w.heap.size + 1, 1, none⟩ = some (.slice B picks.length cb) := E1.out.sc.cell rfl
  have c6 : w1.cell? ⟨w.heap.size, 6, none⟩ = some (.int .i64 c.banks) := E1.out.cf.cell rfl
  have c9 : w1.cell? ⟨w.heap.size, 9, none⟩ = some (.int .i64 c.lat) := E1.out.cf.cell rfl
  try dsimp only
  go_upto_region 5 with (first
    | (refine wpList_append_new _ rfl (.const (.slice none 0 0)) (.tmp 64) 39 rfl w1.heap.size 5 i8 _ 1 1 Try.underlying39 HI.out HZ0.out HZ1.out HZ2.out rfl (by omega) (.slice none 0 0) 0 [] rfl (World.ownsRow_nil _ _ _ _) _ (.slice M n mc) n (zs.map (Value.int .u8)) rfl (E1.out.row HR.out) (bytesL_one zs) (by unfold maxLen; omega) (by omega) (Nat.le_refl _) ?_; intro v2 w2 hO hg hn2; rw [Nat.zero_add, List.nil_append] at hO; obtain ⟨D2, e2, hv2⟩ := (Row.of_own hO).form; subst hv2; have hb2 : Below w1.heap.size w1 w2 := Below.grown (Below.refl _ _) hg (Nat.le_refl _) (fun q hq => by cases hq); have HM2 := Lib.hid (Row.of_own hO); have E2 := Lib.hid (E1.out.below hb2); clear hO hg hn2 hb2 E1 c0 c1 c6 c9)
    | (refine wpList_built_at _ rfl 44 _ rfl _ (by simp only [List.map_toArray, List.map_cons, List.map_nil]; exact built_mem _ _ _) ?_)
    | (refine wpList_store_box rfl 44 (.tmp 10) (.tmp 66) rfl w2.heap.size 0 (staL sta0 { vs0 with mem := .slice D2 n e2 }) rfl rfl Try.zeroCells44.toList (Box.new w2 Try.zeroCells44.toList 44) (by rw [sta_len' sta0_ok, Array.length_toList, zero_size]; omega) 92 (by kernel_rfl) (sta_len' sta0_ok) (staL_one (by intro u hu; simp only [vsL, vs0, nilV, List.mem_cons, List.not_mem_nil, or_false] at hu; rcases hu with rfl | rfl | rfl | rfl | rfl | rfl | rfl | rfl | rfl <;> rfl)) ?_; intro w7 hX2 hg2; rw [splice_all _ _ (by rw [sta_len' sta0_ok, Array.length_toList, zero_size])] at hX2))
  have h27 : Below w2.heap.size w2 w7 := box_storedS hg2
  have rm : Row w7 w2.heap.size 1 (.slice D2 n e2) n (zs.map (Value.int .u8)) := HM2.out.below h27
  have E7 := Lib.hid (E2.out.below h27)
  have hbk0 : w.heap.size + 0 + 1 < w2.heap.size := by have := E2.out.sc.lt; omega
  have hbk7 : w2.heap.size < w7.heap.size := Box.lt hX2
  generalize hbk : w2.heap.size = bk at *
  have HBK := Lib.hid hbk0
  have HBK7 := Lib.hid hbk7
  have RM := Lib.hid rm
  have HLAY : Hid (LayS w7 bk (.slice D2 n e2) nilV [] w7) := Lib.hid ⟨hX2, World.ownsRow_nil _ _ _ _, Below.refl _ _, Nat.le_refl _⟩
  clear h27 rm hX2 hg2 hbk hbk0 hbk7 HM2 E2
  try dsimp only
  go_wp2_with fail
  go_loopw [11] (fun iv wr => ∃ (i : Nat) (T : Value), i ≤ L ∧ iv = .int .i64 i ∧ LayS w7 bk (.slice D2 n e2) T ((l.take i).map zeroQ) wr ∧ EnvB w c [.slice A lats.length ca, .slice B picks.length cb] 0 wr) (fun iv _ => L - (intOf iv).toNat)
  case atStart => exact ⟨0, nilV, Nat.zero_le _, rfl, HLAY.out, E7.out⟩
  case round =>
    obtain ⟨i, T, hi, rfl, hLY, hE⟩ := hrel
    have HLY := Lib.hid hLY
    have HE := Lib.hid hE
    clear hLY hE
    by_cases hlt : i < L
    · have k0 : (0 : Int) ≤ i := by omega
      have k1 : (i : Int) < L := by omega
      obtain ⟨q, hq⟩ : ∃ q, l[i]? = some q := ⟨_, List.getElem?_eq_getElem (by rw [HLN.out]; exact hlt)⟩
      have hrow := HE.out.row HQ.out
      obtain ⟨g, off, rfl, hg, _⟩ := hrow.at_ (by omega)
      have d0 := hrow.flat_cell rqsL_len (k := i) (x := q) hq (j := 0) (by omega) rfl
      have d1 := hrow.flat_cell rqsL_len (k := i) (x := q) hq (j := 1) (by omega) rfl
      have d2 := hrow.flat_cell rqsL_len (k := i) (x := q) hq (j := 2) (by omega) rfl
      have d3 := hrow.flat_cell rqsL_len (k := i) (x := q) hq (j := 3) (by omega) rfl
      have d4 := hrow.flat_cell rqsL_len (k := i) (x := q) hq (j := 4) (by omega) rfl
      have d5 := hrow.flat_cell rqsL_len (k := i) (x := q) hq (j := 5) (by omega) rfl
      have d6 := hrow.flat_cell rqsL_len (k := i) (x := q) hq (j := 6) (by omega) rfl
      have d7 := hrow.flat_cell rqsL_len (k := i) (x := q) hq (j := 7) (by omega) rfl
      rw [Nat.add_zero] at d0
      have HTK : Hid ((l.take (i + 1)).map zeroQ = (l.take i).map zeroQ ++ [zeroQ q]) := Lib.hid (by rw [List.take_add_one, hq, List.map_append]; rfl)
      have HTL : Hid (((l.take i).map zeroQ).length = i) := Lib.hid (by rw [List.length_map, List.length_take, HLN.out]; omega)
      clear hrow hq
      go_upto_region 11 with (first
        | (refine wpList_store_box rfl 54 (.tmp 12) (.tmp 76) rfl wr.heap.size 0 [.bool q.store, .int .i64 q.op, .int .i64 q.addr, .int .i64 q.size, .int .u32 q.val, .int .i64 q.left, .int .i64 q.reg, .int .i64 q.tag] rfl rfl _ (Box.new wr (rqsL ⟨false, 0, 0, 0, 0, 0, 0, 0⟩) 54) (Nat.le_refl 8) 8 (by kernel_rfl) rfl (rqsL_one q) ?_; intro wa hX2 hg2; have hba := box_storedS hg2; have HXA : Hid (Box wa wr.heap.size (rqsL q)) := Lib.hid hX2; have BA := Lib.hid hba; clear hX2 hg2 hba d0 d1 d2 d3 d4 d5 d6 d7)
        | (refine wpList_put_cell rfl 3 (.tmp 77) (.const (.int .i64 0)) rfl wr.heap.size 5 (.int .i64 0) rfl rfl rfl (rqsL q) HXA.out (by show 5 < 8; omega) (by kernel_rfl) ?_; intro wb hX2 hg2; have HXB : Hid (Box wb wr.heap.size (rqsL { q with left := 0 })) := Lib.hid hX2; have BB := Lib.hid (Below.grown BA.out hg2 BA.out.size (fun q hq => by injection hq with hq; omega)); clear hX2 hg2)
        | (refine wpList_put_cell rfl 3 (.tmp 78) (.const (.int .i64 0)) rfl wr.heap.size 6 (.int .i64 0) rfl rfl rfl (rqsL { q with left := 0 }) HXB.out (by show 6 < 8; omega) (by kernel_rfl) ?_; intro wc hX2 hg2; have HXC : Hid (Box wc wr.heap.size (rqsL (zeroQ q))) := Lib.hid hX2; have BC := Lib.hid (Below.grown BB.out hg2 BB.out.size (fun q hq => by injection hq with hq; omega)); clear hX2 hg2))
      have HLYc := Lib.hid (HLY.out.below BC.out)
      have HEc := Lib.hid (HE.out.below BC.out)
      have ct : wc.cell? ⟨bk, 83, none⟩ = some T := HLYc.out.box.cell (sta_table sta0_ok)
      obtain ⟨TA, tc, hT⟩ := (Row.of_own HLYc.out.own).form
      rw [HTL.out] at hT
      obtain ⟨W5, hW5⟩ : ∃ W5, W5 = wc.alloc (.cells #[.bool q.store, .int .i64 q.op, .int .i64 q.addr, .int .i64 q.size, .int .u32 q.val, .int .i64 0, .int .i64 0, .int .i64 q.tag] 54) := ⟨_, rfl⟩
      have b5 : Below wc.heap.size wc W5 := by rw [hW5]; exact (Below.refl _ _).alloc (Nat.le_refl _) _
      have HLY5 := Lib.hid (HLYc.out.below b5)
      have HE5 := Lib.hid (HEc.out.below b5)
      have rn : Row W5 (wc.heap.size + 1) 8 (.slice (some ⟨wc.heap.size, 0, none⟩) 1 1) 1 (flat rqsL [zeroQ q]) := by rw [hW5]; exact row_rqs wc (zeroQ q)
      have RN := Lib.hid rn
      have HTT := Lib.hid hT
      have HO5 := Lib.hid HLY5.out.own
      rw [HTL.out] at HO5
      clear b5 rn HLYc HEc
      rw [hT] at ct
      try dsimp only
      go_upto_region 7 with (first
        | (refine wpList_load_box rfl 54 (.tmp 12) rfl wr.heap.size 0 rfl (rqsL (zeroQ q)) [.bool q.store, .int .i64 q.op, .int .i64 q.addr, .int .i64 q.size, .int .u32 q.val, .int .i64 0, .int .i64 0, .int .i64 q.tag] HXC.out wholeB _ Try.underlying54 rfl 8 (by kernel_rfl) rfl ?_)
        | (rw [← hW5]; clear hW5)
        | (refine wpList_append_new _ rfl (.tmp 80) (.tmp 82) 38 rfl w7.heap.size 54 iq _ 8 64 Try.underlying38 HIQ.out HQ0.out HQ1.out HQ2.out rfl (by omega) (.slice TA i tc) i (flat rqsL ((l.take i).map zeroQ)) rfl (by rw [← HTT.out]; exact HO5.out) _ (.slice (some ⟨wc.heap.size, 0, none⟩) 1 1) 1 (flat rqsL [zeroQ q]) rfl RN.out (flat_oneC rqsL_one _) (by unfold maxLen; omega) (by omega) HLY5.out.le ?_; intro vd wd hO hg hn2; have HOD := Lib.hid hO; have HGD := Lib.hid hg; have HND := Lib.hid hn2; clear hO hg hn2; have hkd := Lib.hid (KeepS.of_grown (S := fun j => w7.heap.size ≤ j) HGD.out (fun k e => by rw [← HTT.out] at e; exact (HLY5.out.own.lt k e).1)); have HXD := Lib.hid (HLY5.out.box.keepS hkd.out (by have := HBK7.out; omega)))
        | (refine wpList_put_cell rfl 38 (.tmp 84) (.tmp 83) rfl bk 83 vd rfl rfl (by obtain ⟨a, b, e⟩ := (Row.of_own HOD.out).form; rw [e]; rfl) (staL sta0 { vs0 with mem := .slice D2 n e2, table := T }) HXD.out (by rw [sta_len' sta0_ok]; omega) (by kernel_rfl) ?_; intro we hX2 hg2; rw [set_table sta0_ok] at hX2; have HXE := Lib.hid hX2; have HGE := Lib.hid hg2; clear hX2 hg2))
      have HNX := Lib.hid (HLY5.out.next HBK7.out (by rw [HTL.out]; exact HOD.out) hkd.out HXE.out HGE.out)
      have HEX := Lib.hid ((HE5.out.keepS hkd.out (fun j e => by have := HBK.out; have := HBK7.out; omega)).put HGE.out HBK.out)
      go_wp2_with fail
      go_roundw
      case rel => exact ⟨i + 1, vd, by omega, by go_num, by rw [HTK.out]; exact HNX.out, HEX.out⟩
      case measure => simp only [intOf]; omega
    · skip
      have hin : i = L := by omega
      subst hin
      have HTA : Hid ((l.take i).map zeroQ = l.map zeroQ) := Lib.hid (by rw [List.take_of_length_le (by rw [HLN.out]; omega)])
      rw [HTA.out] at HLY
      have HH0 := Lib.hid (HLY.out.hold RM.out HZL.out)
      generalize ({ vs0 with mem := .slice D2 n e2, table := T } : Vs) = v0 at *
      have hsb := srv_begin (c := c) (zs := zs) (l := l) (by omega) HZ.out (by rw [HZL.out]; omega) (by rw [HLN.out]; omega) HFQ.out
      have hcs := (cntS_pos l).2
      rw [HLN.out] at hsb hcs
      have HALL := Lib.hid (fun m => hsb.all HRUN.out (lats := lats) (picks := picks) (by omega) (by omega) m)
      have HAD := Lib.hid (fun (m : Nat) (v : Vs) (z : World) (h1 : EnvB w c [.slice A lats.length ca, .slice B picks.length cb] 0 z) (h2 : HoldR bk z v (advsZ c lats picks (staS zs l) m)) => advance_any c HCF.out A B ca cb lats picks (advsZ c lats picks (staS zs l) m) v z (h1.row HLL.out) (h1.row HP.out) (HALL.out m).lim h2.read (HALL.out m).fits (HALL.out m).num)
      clear hsb hcs HLAY HLY RM HTA
      have hw1 : wrap64 (((i : Int) + 1) * (c.lat + 1)) = K := by rw [hK]; unfold wrap64; omega
      have cc9 : wr.cell? ⟨w.heap.size, 9, none⟩ = some (.int .i64 c.lat) := HE.out.cf.cell rfl
      try dsimp only
      go_wp2_with fail
      clear cc9
      go_loopw [13] (fun mv wx => ∃ (m : Nat) (v : Vs), m ≤ K ∧ mv = .int .i64 m ∧ HoldR bk wx v (advsZ c lats picks (staS zs l) m) ∧ EnvB w c [.slice A lats.length ca, .slice B picks.length cb] 0 wx) (fun mv _ => K - (intOf mv).toNat)
      case atStart => exact ⟨0, v0, Nat.zero_le _, rfl, HH0.out, HE.out⟩
      case round =>
        obtain ⟨m, v, hm, rfl, hH, hE⟩ := hrel
        have HHr := Lib.hid hH
        have HEr := Lib.hid hE
        have cc9 := HEr.out.cf.cell (k := 9) rfl
        rw [Nat.add_zero] at cc9
        clear hH hE HE HH0
        by_cases hmk : m < K
        · have k0 : (0 : Int) ≤ m := by omega
          have k1 : (m : Int) < K := by omega
          have HA2 : Hid (∀ z, EnvB w c [.slice A lats.length ca, .slice B picks.length cb] 0 z → HoldR bk z v (advsZ c lats picks (staS zs l) m) → Calls Try.prog 17 #[.agg #[.int .i64 c.ldq, .int .i64 c.sdq, .int .i64 c.aeq, .int .i64 c.abq, .int .i64 c.ebq, .int .i64 c.saq, .int .i64 c.banks, .int .i64 c.flight, .int .i64 c.slip, .int .i64 c.lat, .int .i64 c.mul, .int .i64 c.div], .agg #[.slice A lats.length ca, .slice B picks.length cb], .agg (staL (advsZ c lats picks (staS zs l) m) v).toArray] z (AdvOut z (advsZ c lats picks (staS zs l) (m + 1)))) := Lib.hid (fun z h1 h2 => HAD.out m v z h1 h2)
          have HSY := Lib.hid (HALL.out (m + 1))
          have F2 : Hid (advsZ c lats picks (staS zs l) m).Ok := Lib.hid HHr.out.ok
          generalize hY : advsZ c lats picks (staS zs l) (m + 1) = Y at HA2 HSY
          have HYE := Lib.hid hY
          clear hY
          go_wp2_with (first
            | (refine wpList_load_box rfl 23 (.tmp 4) rfl w.heap.size 0 rfl (cfgCells c) (cfgCells c) HEr.out.cf wholeB _ Try.underlying23 rfl 12 (by kernel_rfl) rfl ?_)
            | (refine wpList_load_box rfl 26 (.tmp 5) rfl (w.heap.size + 1) 0 rfl [.slice A lats.length ca, .slice B picks.length cb] [.slice A lats.length ca, .slice B picks.length cb] HEr.out.sc wholeB _ Try.underlying26 rfl 2 (by kernel_rfl) rfl ?_)
            | (refine wpList_load_box rfl 44 (.tmp 10) rfl bk 0 rfl (staL (advsZ c lats picks (staS zs l) m) v) (staL (advsZ c lats picks (staS zs l) m) v) HHr.out.box wholeB _ Try.underlying44 rfl 92 (by kernel_rfl) (sta_len' F2.out) ?_))
          refine (HA2.out _ HEr.out HHr.out).mono ?_
          rintro e wa ⟨va, rfl, hoa, hba⟩
          have HOA := Lib.hid hoa
          have EA := Lib.hid (HEr.out.below hba)
          have HXA := Lib.hid (HHr.out.box.below hba HHr.out.box.lt)
          have HLT := Lib.hid HHr.out.box.lt
          have HOKY : Hid Y.Ok := Lib.hid HSY.out.lim.ok
          clear hoa hba cc9
          try dsimp only
          go_upto_region 16 with (first
            | (refine wpList_store_box rfl 44 (.tmp 10) (.tmp 99) rfl bk 0 (staL Y va) rfl rfl (staL (advsZ c lats picks (staS zs l) m) v) HXA.out (by rw [sta_len' HOKY.out, sta_len' F2.out]; omega) 92 (by kernel_rfl) (sta_len' HOKY.out) HOA.out.one ?_; intro wb hX2 hg2; rw [splice_all _ _ (by rw [sta_len' HOKY.out, sta_len' F2.out])] at hX2; have HSB := Lib.hid (HoldS.stored HLT.out HOA.out HOKY.out hX2 hg2); have EB := Lib.hid (EA.out.put hg2 HBK.out); clear hX2 hg2))
          obtain ⟨TA, tc, hta⟩ := HSB.out.read.table.form
          have HRT := Lib.hid HSB.out.read.table
          have hTB := tab_of HSY.out.inv HSY.out.fits
          have hTM := HSY.out.lim.table
          have HCT := Lib.hid (HSB.out.box.cell (sta_table HSB.out.ok))
          rw [hta] at HRT HCT
          generalize htb : Y.table = tb at HRT HCT hTB hTM
          generalize htl : tb.length = tl at *
          have HTB := Lib.hid hTB
          have HTL := Lib.hid htl
          clear hta htb hTB htl HOA EA HXA HA2 F2
          try dsimp only
          go_wp2_with fail
          go_loopw [14] (fun iv wx => ∃ j : Nat, j ≤ tl ∧ iv = .int .i64 j ∧ Below wb.heap.size wb wx) (fun iv _ => tl - (intOf iv).toNat)
          case atStart => exact ⟨0, Nat.zero_le _, rfl, Below.refl _ _⟩
          case round =>
            obtain ⟨j, hj, rfl, hB⟩ := hrel
            have HB := Lib.hid hB
            have ct := (HB.out.cell (p := ⟨bk, 83, none⟩) HSB.out.box.lt).trans HCT.out
            clear hB
            by_cases hjt : j < tl
            · have k2 : (0 : Int) ≤ j := by omega
              have k3 : (j : Int) < tl := by omega
              obtain ⟨x, hx⟩ : ∃ x, tb[j]? = some x := ⟨_, List.getElem?_eq_getElem (by rw [HTL.out]; exact hjt)⟩
              obtain ⟨g, off, rfl, hg, _⟩ := HRT.out.at_ (by omega)
              have HX := Lib.hid hx
              have hlo := HTB.out.lo j x hx
              have HFX := Lib.hid hlo.2.2
              obtain ⟨lo1, lo2, _⟩ := hlo
              clear hx
              go_wp2_with fail
              go_loopw [15] (fun kv wy => ∃ k : Nat, k ≤ j ∧ kv = .int .i64 k ∧ Below wb.heap.size wb wy) (fun kv _ => j - (intOf kv).toNat)
              case atStart => exact ⟨0, Nat.zero_le _, rfl, HB.out⟩
              case round =>
                obtain ⟨k, hk, rfl, hB2⟩ := hrel
                have HB2 := Lib.hid hB2
                have et := (HB2.out.cell (p := ⟨bk, 83, none⟩) HSB.out.box.lt).trans HCT.out
                have hrow := HRT.out.below HB2.out
                have ee := EB.out.below HB2.out
                have e6 := ee.cf.cell (k := 6) rfl
                have e9 := ee.cf.cell (k := 9) rfl
                rw [Nat.add_zero] at e6 e9
                have hgy := Nat.lt_of_lt_of_le hg HB2.out.size
                have x2 := hrow.flat_cell rqsL_len (k := j) (x := x) HX.out (j := 2) (by omega) rfl
                have x5 := hrow.flat_cell rqsL_len (k := j) (x := x) HX.out (j := 5) (by omega) rfl
                clear hB2 ee ct
                by_cases hkj : k < j
                · have k4 : (0 : Int) ≤ k := by omega
                  have k5 : (k : Int) < j := by omega
                  have k6 : (k : Int) < tl := by omega
                  obtain ⟨y, hy⟩ : ∃ y, tb[k]? = some y := ⟨_, List.getElem?_eq_getElem (by rw [HTL.out]; omega)⟩
                  have y2 := hrow.flat_cell rqsL_len (k := k) (x := y) hy (j := 2) (by omega) rfl
                  have y5 := hrow.flat_cell rqsL_len (k := k) (x := y) hy (j := 5) (by omega) rfl
                  have HFY := Lib.hid (HTB.out.lo k y hy).2.2
                  have HAP := Lib.hid (HTB.out.ap j k x y hkj HX.out hy)
                  clear hrow hy
                  by_cases c1 : 0 < x.left
                  · by_cases c2 : 0 < y.left
                    · have qb := HAP.out c1 c2
                      go_wp2_with fail
                      go_quiet ((go_at_call 10; refine quiet_mineS (bank_any _ _ _ (by first | exact HFX.out.2.1 | exact HFY.out.2.1) HCF.out.2.2.2.2.2.2.1)))
                      go_wp2_with fail
                      go_roundw
                      case rel => exact ⟨k + 1, by omega, by go_num, Below.drewN_ HB2.out _⟩
                      case measure => simp only [intOf]; omega
                    · have q2 : decide (0 < y.left) = false := decide_eq_false c2
                      go_wp2_with fail
                      go_quiet (fail)
                      go_wp2_with fail
                      go_roundw
                      case rel => exact ⟨k + 1, by omega, by go_num, Below.drewN_ HB2.out _⟩
                      case measure => simp only [intOf]; omega
                  · have q1 : decide (0 < x.left) = false := decide_eq_false c1
                    go_wp2_with fail
                    go_quiet (fail)
                    go_wp2_with fail
                    go_roundw
                    case rel => exact ⟨k + 1, by omega, by go_num, Below.drewN_ HB2.out _⟩
                    case measure => simp only [intOf]; omega
                · have q1 : decide (x.left < 0) = false := decide_eq_false (by omega)
                  have q2 : decide (c.lat < x.left) = false := decide_eq_false (by omega)
                  clear hrow x2 e6
                  go_wp2_with fail
                  go_quiet (fail)
                  go_wp2_with fail
                  go_roundw
                  case rel => exact ⟨j + 1, by omega, by go_num, Below.drewN_ HB2.out _⟩
                  case measure => simp only [intOf]; omega
            · go_wp2_with fail
              go_roundw
              case rel => exact ⟨m + 1, va, by omega, by go_num, by rw [HYE.out]; exact HSB.out.hold.below HB.out, EB.out.below HB.out⟩
              case measure => simp only [intOf]; omega
        · have hmK : m = K := by omega
          subst hmK
          have hsb2 := (HALL.out 0).inv
          have hdn := advs_done HRUN.out (lats := lats) (picks := picks) (x := staS zs l) (s := cntS l) (by show (((l.map zeroQ).length : Nat) : Int) ≤ 1000; rw [List.length_map, HLN.out]; omega) (by show SrvI c (((l.map zeroQ).length : Nat) : Int) _ _; rw [List.length_map, HLN.out]; exact hsb2) (k := m) (by show (c.lat + 1) * (((l.map zeroQ).length : Nat) : Int) < _; rw [List.length_map, HLN.out]; exact HK2.out)
          rw [show (((staS zs l).table.length : Nat) : Int) = i by show (((l.map zeroQ).length : Nat) : Int) = i; rw [List.length_map, HLN.out]] at hdn
          obtain ⟨dn1, dn2, dn3⟩ := hdn
          obtain ⟨TA, tc, hta⟩ := HHr.out.read.table.form
          obtain ⟨TW, wc, htw⟩ := HHr.out.read.ws.form
          have z1 := HHr.out.box.cell (sta_table HHr.out.ok)
          have z2 := HHr.out.box.cell (sta_ws HHr.out.ok)
          have z3 := HHr.out.box.cell (sta_lats HHr.out.ok)
          rw [hta, dn1] at z1
          rw [htw] at z2
          rw [dn3] at z3
          generalize (advsZ c lats picks (staS zs l) m).ws.length = nw at *
          have Z1 := Lib.hid z1
          have Z2 := Lib.hid z2
          have Z3 := Lib.hid z3
          have DN := Lib.hid dn2
          have HLTr := Lib.hid HHr.out.box.lt
          clear z1 z2 z3 hta htw dn1 dn2 dn3 hsb2
          go_wp2_with fail
          clear cc9
          go_loopw [16, 17] (fun sv iv wx => ∃ j : Nat, j ≤ i ∧ iv = .int .i64 j ∧ sv = .int .i64 (cntS (l.take j)) ∧ Below wr.heap.size wr wx) (fun _ iv _ => i - (intOf iv).toNat)
          case atStart => exact ⟨0, Nat.zero_le _, rfl, rfl, Below.refl _ _⟩
          case round =>
            obtain ⟨j, hj, rfl, rfl, hB⟩ := hrel
            have HB := Lib.hid hB
            have hcp := cntS_pos (l.take j)
            have hlt := List.length_take_le j l
            clear hB
            by_cases hji : j < i
            · have k2 : (0 : Int) ≤ j := by omega
              have k3 : (j : Int) < i := by omega
              obtain ⟨x, hx⟩ : ∃ x, l[j]? = some x := ⟨_, List.getElem?_eq_getElem (by rw [HLN.out]; exact hji)⟩
              have hrow := (HEr.out.below HB.out).row HQ.out
              obtain ⟨g, off, rfl, hg, _⟩ := hrow.at_ (by omega)
              have x0 := hrow.flat_cell rqsL_len (k := j) (x := x) hx (j := 0) (by omega) rfl
              rw [Nat.add_zero] at x0
              have hct := cntS_take hx
              clear hrow hx
              cases hst : x.store
              · rw [hst] at x0 hct
                have HC : Hid (cntS (l.take (j + 1)) = cntS (l.take j)) := Lib.hid (by rw [hct]; simp)
                clear hct
                generalize cntS (l.take j) = sc at *
                go_wp2_with fail
                go_roundw
                case rel => exact ⟨j + 1, by omega, by go_num, by rw [HC.out], HB.out⟩
                case measure => simp only [intOf]; omega
              · rw [hst] at x0 hct
                have HC : Hid (cntS (l.take (j + 1)) = cntS (l.take j) + 1) := Lib.hid (by rw [hct]; simp)
                clear hct
                generalize cntS (l.take j) = sc at *
                go_wp2_with fail
                go_roundw
                case rel => exact ⟨j + 1, by omega, by go_num, by rw [HC.out], HB.out⟩
                case measure => simp only [intOf]; omega
            · have hjl : j = i := by omega
              have y1 := (HB.out.cell (p := ⟨bk, 83, none⟩) HLTr.out).trans Z1.out
              have y2 := (HB.out.cell (p := ⟨bk, 85, none⟩) HLTr.out).trans Z2.out
              have y3 := (HB.out.cell (p := ⟨bk, 89, none⟩) HLTr.out).trans Z3.out
              have hcn : cntS (l.take j) = cntS l := by rw [List.take_of_length_le (by rw [HLN.out]; omega)]
              rw [hcn]
              have hdn := DN.out
              have qd : ((nw : Int) == cntS l) = true := by rw [hdn]; simp
              have HBE := Lib.hid ((HEr.out.below HB.out).bl)
              clear hcn hcp hdn
              generalize cntS l = sc at *
              go_wp2_with fail
              go_ret
              exact ⟨by first | rfl | simp, HBE.out⟩
end Go.Proofs.Ythhoigkmmlkfcaa.Words

/- The law BanksAnswer walked: loads of 2 bytes. -/
import Derived.Test.YthhoigkmmlkfcaaSBnkAnsB
namespace Go.Proofs.Ythhoigkmmlkfcaa.Words
set_option maxRecDepth 100000
open Go.RowKit
set_option linter.unusedVariables false
set_option linter.unusedSimpArgs false

set_option maxHeartbeats 8000000 in
theorem banksAnswer_2 (c : Cfg) (A B : Option Addr) (ca cb : Nat) (lats picks : List Int) (M : Option Addr) (mc n : Nat) (zs : List Int) (op at_ reg : Int) (w : World) (hc : c.Fits) (hl : Row w w.heap.size 1 (.slice A lats.length ca) lats.length (lats.map (Value.int .i64))) (hp : Row w w.heap.size 1 (.slice B picks.length cb) picks.length (picks.map (Value.int .i64))) (hr : Row w w.heap.size 1 (.slice M n mc) n (zs.map (Value.int .u8))) (hz : ∀ x ∈ zs, 0 ≤ x ∧ x ≤ 255) (ha : at_ ≤ 9223372036854775807)
    (g1 : ¬ (200 : Int) < n) (g2 : ¬ (60 : Int) < lats.length) (g3 : ¬ c.banks < 1) (g4 : ¬ 16 < c.banks) (g5 : ¬ c.lat < 1) (g6 : ¬ 30 < c.lat) (h4 : formZ op = 4) (g7 : ¬ at_ < 0) (hsz : sizeZ op = 2) (g8 : ¬ (n : Int) < 2) (g9 : ¬ reg < -1) (g10 : ¬ 15 < reg) (g11 : (reg == 0) = false) :
    Calls Try.prog 5 #[.agg #[.int .i64 c.ldq, .int .i64 c.sdq, .int .i64 c.aeq, .int .i64 c.abq, .int .i64 c.ebq, .int .i64 c.saq, .int .i64 c.banks, .int .i64 c.flight, .int .i64 c.slip, .int .i64 c.lat, .int .i64 c.mul, .int .i64 c.div], .agg #[.slice A lats.length ca, .slice B picks.length cb], .slice M n mc, .int .i64 op, .int .i64 at_, .int .i64 reg] w fun e w' => e = .returned (.bool true) ∧ Below w.heap.size w w' := by
  obtain ⟨W, hW⟩ : ∃ W, W = (w.alloc (.cells #[.int .i64 c.ldq, .int .i64 c.sdq, .int .i64 c.aeq, .int .i64 c.abq, .int .i64 c.ebq, .int .i64 c.saq, .int .i64 c.banks, .int .i64 c.flight, .int .i64 c.slip, .int .i64 c.lat, .int .i64 c.mul, .int .i64 c.div] 23)).alloc (.cells #[.slice A lats.length ca, .slice B picks.length cb] 26) := ⟨_, rfl⟩
  have HBW : Hid (Below w.heap.size w W) := Lib.hid (by rw [hW]; exact ((Below.refl _ _).alloc (Nat.le_refl _) _).alloc (by simp) _)
  have HCW : Hid (Box W w.heap.size (cfgCells c)) := Lib.hid (by rw [hW]; exact (Box.new w (cfgCells c) _).alloc _)
  have HSW : Hid (Box W (w.heap.size + 1) [.slice A lats.length ca, .slice B picks.length cb]) := Lib.hid (by rw [hW]; have := (Box.new (w.alloc (.cells #[.int .i64 c.ldq, .int .i64 c.sdq, .int .i64 c.aeq, .int .i64 c.abq, .int .i64 c.ebq, .int .i64 c.saq, .int .i64 c.banks, .int .i64 c.flight, .int .i64 c.slip, .int .i64 c.lat, .int .i64 c.mul, .int .i64 c.div] 23)) [.slice A lats.length ca, .slice B picks.length cb] 26); simpa using this)
  have HL := Lib.hid hl
  have HP := Lib.hid hp
  have HR := Lib.hid hr
  have HEW : Hid (EnvB w c [.slice A lats.length ca, .slice B picks.length cb] 0 W) := Lib.hid ⟨HCW.out, HSW.out, HBW.out⟩
  have hzl : zs.length = n := by have := hr.len; simpa using this
  have HZL := Lib.hid hzl
  have HZ := Lib.hid hz
  have H4 := Lib.hid h4
  have HSZ := Lib.hid hsz
  have HCF := Lib.hid hc
  have hop : 26 ≤ op ∧ op ≤ 30 := by have := formZ_cases op; omega
  have HOP := Lib.hid hop
  obtain ⟨k, hk⟩ : ∃ k : Int, at_ % ((n : Int) / 2) * 2 = k := ⟨_, rfl⟩
  have hq1 : 1 ≤ (n : Int) / 2 := by omega
  have hq0 : ((n : Int) / 2 == 0) = false := by simp; omega
  have hkr : 0 ≤ k ∧ k + 2 ≤ n ∧ k % 2 = 0 := by
    have e1 := Int.emod_nonneg at_ (show (n : Int) / 2 ≠ 0 by omega)
    have e2 := Int.emod_lt_of_pos at_ (show 0 < (n : Int) / 2 by omega)
    have e3 : (at_ % ((n : Int) / 2) + 1) * 2 ≤ (n : Int) / 2 * 2 := Int.mul_le_mul_of_nonneg_right (by omega) (by omega)
    have e4 : (n : Int) / 2 * 2 ≤ n := Int.ediv_mul_le _ (by omega)
    rw [Int.add_mul] at e3
    refine ⟨by rw [← hk]; exact Int.mul_nonneg e1 (by omega), by omega, by rw [← hk]; exact Int.mul_emod_left _ _⟩
  obtain ⟨k0, k1, k2⟩ := hkr
  obtain ⟨N, hN⟩ : ∃ N : Nat, (N : Int) = latsZ lats 0 c.lat := ⟨(latsZ lats 0 c.lat).toNat, by have := latsZ_range lats 0 c.lat (by omega); omega⟩
  have hN1 : 1 ≤ N ∧ N ≤ 1000 := by have := latsZ_range lats 0 c.lat (by omega); omega
  have HN := Lib.hid hN
  obtain ⟨n1, n2⟩ := hN1
  have hruns : runsB c = true := by unfold runsB withinB; simp only [Bool.and_eq_true, decide_eq_true_eq]; omega
  have HRUN := Lib.hid hruns
  have HQF : Hid ((⟨false, op, k, 2, 0, 0, reg, 7⟩ : Rqs).Fits) := Lib.hid (by unfold Rqs.Fits; dsimp only; omega)
  obtain ⟨i8, hi8, q0, q1, q2⟩ := parts_u8
  have HI := Lib.hid hi8
  have HZ0 := Lib.hid q0
  have HZ1 := Lib.hid q1
  have HZ2 := Lib.hid q2
  have HOPF : Hid ((formZ op == 4) = true) := Lib.hid (by simpa using h4)
  clear hl hp hr hz hzl h4 hsz hc hop hN hruns hi8 q0 q1 q2
  have p1 : decide ((200 : Int) < n) = false := decide_eq_false g1
  have p2 : decide ((60 : Int) < lats.length) = false := decide_eq_false g2
  have p3 : decide (c.banks < 1) = false := decide_eq_false g3
  have p4 : decide (16 < c.banks) = false := decide_eq_false g4
  have p5 : decide (c.lat < 1) = false := decide_eq_false g5
  have p6 : decide (30 < c.lat) = false := decide_eq_false g6
  have p7 : decide (at_ < 0) = false := decide_eq_false g7
  have p8 : decide ((n : Int) < 2) = false := decide_eq_false g8
  have p9 : decide (reg < -1) = false := decide_eq_false g9
  have p10 : decide (15 < reg) = false := decide_eq_false g10
  go_enter Try.func5, Try.ntmps5
  go_wp2_with (first | (rw [← hW]; clear hW))
  refine (alive18_any _).mono ?_
  rintro e w1 ⟨rfl, hb⟩
  have E1 := Lib.hid (HEW.out.below hb)
  clear hb HCW HSW HBW HEW
  have c0 : w1.cell? ⟨w.heap.size + 1, 0, none⟩ = some (.slice A lats.length ca) := E1.out.sc.cell rfl
  have c6 : w1.cell? ⟨w.heap.size, 6, none⟩ = some (.int .i64 c.banks) := E1.out.cf.cell rfl
  have c9 : w1.cell? ⟨w.heap.size, 9, none⟩ = some (.int .i64 c.lat) := E1.out.cf.cell rfl
  try dsimp only
  go_wp2_with fail
  refine (refSize_any op _).mono ?_
  rintro e _ ⟨rfl, rfl⟩
  rw [HSZ.out]
  try dsimp only
  go_wp2_with fail
  refine (refForm_any op _).mono ?_
  rintro e _ ⟨rfl, rfl⟩
  rw [H4.out]
  try dsimp only
  go_upto_region 7 with (first
    | (refine wpList_append_new _ rfl (.const (.slice none 0 0)) (.tmp 92) 39 rfl w1.heap.size 5 i8 _ 1 1 Try.underlying39 HI.out HZ0.out HZ1.out HZ2.out rfl (by omega) (.slice none 0 0) 0 [] rfl (World.ownsRow_nil _ _ _ _) _ (.slice M n mc) n (zs.map (Value.int .u8)) rfl (E1.out.row HR.out) (bytesL_one zs) (by unfold maxLen; omega) (by omega) (Nat.le_refl _) ?_; intro v2 w2 hO hg hn2; rw [Nat.zero_add, List.nil_append] at hO; obtain ⟨D2, e2, hv2⟩ := (Row.of_own hO).form; subst hv2; have hb2 : Below w1.heap.size w1 w2 := Below.grown (Below.refl _ _) hg (Nat.le_refl _) (fun q hq => by cases hq); have HM2 := Lib.hid (Row.of_own hO); have E2 := Lib.hid (E1.out.below hb2); clear hO hg hn2 hb2 E1 c0 c6 c9; obtain ⟨W5, hW5⟩ : ∃ W5, W5 = w2.alloc (.cells #[.int .i64 7, .bool false, .int .u32 0] 58) := ⟨_, rfl⟩; obtain ⟨W6, hW6⟩ : ∃ W6, W6 = W5.alloc (.cells #[.bool false, .int .i64 op, .int .i64 k, .int .i64 2, .int .u32 0, .int .i64 0, .int .i64 reg, .int .i64 7] 54) := ⟨_, rfl⟩; have hs6 : W6.heap.size = w2.heap.size + 1 + 1 := by rw [hW6, hW5]; simp)
    | (rw [← hW5])
    | (rw [← hW6])
    | (refine wpList_built_at _ rfl 44 _ rfl _ (by simp only [List.map_toArray, List.map_cons, List.map_nil]; exact built_ans _ _ _ _ _ _ _ _ _) ?_)
    | (refine wpList_store_box rfl 44 (.tmp 16) (.tmp 102) rfl (w2.heap.size + 1 + 1) 0 (staL sta0 { vs0 with mem := .slice D2 n e2, ldq := .slice (some ⟨w2.heap.size, 0, none⟩) 1 1, table := .slice (some ⟨w2.heap.size + 1, 0, none⟩) 1 1 }) rfl rfl Try.zeroCells44.toList (by rw [← hs6]; exact Box.new W6 Try.zeroCells44.toList 44) (by rw [sta_len' sta0_ok, Array.length_toList, zero_size]; omega) 92 (by kernel_rfl) (sta_len' sta0_ok) (staL_one (by intro u hu; simp only [vsL, vs0, nilV, List.mem_cons, List.not_mem_nil, or_false] at hu; rcases hu with rfl | rfl | rfl | rfl | rfl | rfl | rfl | rfl | rfl <;> rfl)) ?_; intro w7 hX2 hg2; rw [splice_all _ _ (by rw [sta_len' sta0_ok, Array.length_toList, zero_size])] at hX2))
  have h67 : Below W6.heap.size W6 w7 := by rw [← hs6] at hg2; exact box_storedS hg2
  have h56 : Below W5.heap.size W5 W6 := by rw [hW6]; exact (Below.refl _ _).alloc (Nat.le_refl _) _
  have h25 : Below w2.heap.size w2 W5 := by rw [hW5]; exact (Below.refl _ _).alloc (Nat.le_refl _) _
  have hs5 : W5.heap.size = w2.heap.size + 1 := by rw [hW5]; simp
  have rl : Row W5 W5.heap.size 3 (.slice (some ⟨w2.heap.size, 0, none⟩) 1 1) 1 (flat sltL [slt7]) := by rw [hs5, hW5]; exact row_sltN w2 slt7
  have rt : Row W6 W6.heap.size 8 (.slice (some ⟨w2.heap.size + 1, 0, none⟩) 1 1) 1 (flat rqsL [(⟨false, op, k, 2, 0, 0, reg, 7⟩ : Rqs)]) := by rw [hs6, ← hs5, hW6]; exact row_rqs W5 (⟨false, op, k, 2, 0, 0, reg, 7⟩ : Rqs)
  have h57 := h56.trans (h67.mono h56.size)
  have h27 := h25.trans (h57.mono h25.size)
  have rm : Row w7 w7.heap.size 1 (.slice D2 n e2) n (zs.map (Value.int .u8)) := (HM2.out.below h27).more h27.size
  have E7 := Lib.hid (E2.out.below h27)
  have hbk0 : w.heap.size + 0 + 1 < w2.heap.size + 1 + 1 := by have := E2.out.sc.lt; omega
  have HH7 : Hid (HoldR (w2.heap.size + 1 + 1) w7 { vs0 with mem := .slice D2 n e2, ldq := .slice (some ⟨w2.heap.size, 0, none⟩) 1 1, table := .slice (some ⟨w2.heap.size + 1, 0, none⟩) 1 1 } (ansZ (staA zs) (⟨false, op, k, 2, 0, 0, reg, 7⟩ : Rqs) N 0)) := Lib.hid ⟨hX2, ⟨(rl.below h57).more h57.size, Row.nil _ _ _, Row.nil _ _ _, Row.nil _ _ _, Row.nil _ _ _, Row.nil _ _ _, (rt.below h67).more h67.size, by show Row w7 w7.heap.size 1 (.slice D2 n e2) zs.length (bytesL zs); rw [HZL.out]; exact rm, Row.nil _ _ _⟩, ⟨sid0_ok, sid0_ok⟩⟩
  generalize hbk : w2.heap.size + 1 + 1 = bk at *
  generalize ({ vs0 with mem := .slice D2 n e2, ldq := .slice (some ⟨w2.heap.size, 0, none⟩) 1 1, table := .slice (some ⟨w2.heap.size + 1, 0, none⟩) 1 1 } : Vs) = v7 at *
  have HBK := Lib.hid hbk0
  clear h67 h56 h25 hs5 rl rt h57 h27 rm hX2 hg2 hbk hbk0 HM2 E2 hs6
  have c9 : w7.cell? ⟨w.heap.size, 9, none⟩ = some (.int .i64 c.lat) := E7.out.cf.cell rfl
  try dsimp only
  go_wp2_with (first
    | (refine wpList_load_box rfl 26 (.tmp 7) rfl (w.heap.size + 1) 0 rfl [.slice A lats.length ca, .slice B picks.length cb] [.slice A lats.length ca, .slice B picks.length cb] E7.out.sc wholeB _ Try.underlying26 rfl 2 (by kernel_rfl) rfl ?_))
  refine (refLat_any A B ca cb lats.length picks.length lats picks 0 c.lat _ rfl (E7.out.row HL.out) (by omega) (by omega)).mono ?_
  rintro e w8 ⟨rfl, hb⟩
  rw [← HN.out]
  have E8 := Lib.hid (E7.out.below hb)
  have HH8 := Lib.hid (HH7.out.below hb)
  clear hb E7 HH7 c9
  try dsimp only
  go_wp2_with fail
  go_loopw [18] (fun iv wr => ∃ (i : Nat) (v : Vs), i ≤ N ∧ iv = .int .i64 i ∧ HoldR bk wr v (ansZ (staA zs) (⟨false, op, k, 2, 0, 0, reg, 7⟩ : Rqs) N i) ∧ EnvB w c [.slice A lats.length ca, .slice B picks.length cb] 0 wr) (fun iv _ => N - (intOf iv).toNat)
  case atStart => exact ⟨0, v7, Nat.zero_le _, rfl, HH8.out, E8.out⟩
  case round =>
    obtain ⟨i, v, hi, rfl, hH, hE⟩ := hrel
    have HHr := Lib.hid hH
    have HEr := Lib.hid hE
    clear hH hE
    obtain ⟨f1, f2, f3, f4, f5⟩ := ans_facts zs (⟨false, op, k, 2, 0, 0, reg, 7⟩ : Rqs) N i
    have F1 := Lib.hid f1
    have F2 := Lib.hid f2
    have F3 := Lib.hid f3
    have HAD := Lib.hid (fun z (h1 : EnvB w c [.slice A lats.length ca, .slice B picks.length cb] 0 z) (h2 : HoldR bk z v (ansZ (staA zs) (⟨false, op, k, 2, 0, 0, reg, 7⟩ : Rqs) N i)) => advance_any c HCF.out A B ca cb lats picks (ansZ (staA zs) (⟨false, op, k, 2, 0, 0, reg, 7⟩ : Rqs) N i) v z (h1.row HL.out) (h1.row HP.out) (ans_lim (⟨false, op, k, 2, 0, 0, reg, 7⟩ : Rqs) N i HZ.out (by rw [HZL.out]; omega)) h2.read (ans_fits HQF.out (by omega) (by omega) i (by omega)) (ans_num zs (⟨false, op, k, 2, 0, 0, reg, 7⟩ : Rqs) N i))
    clear f1 f2 f3 f4 f5
    by_cases hlt : i < N
    · have k10 : (0 : Int) ≤ i := by omega
      have k11 : (i : Int) < N := by omega
      have hst := ans_step (lats := lats) (picks := picks) (x := staA zs) (q := (⟨false, op, k, 2, 0, 0, reg, 7⟩ : Rqs)) HRUN.out rfl rfl rfl (i := i) (by rw [← HN.out]; exact k11)
      rw [← HN.out] at hst
      obtain ⟨_, _, g3, _, _⟩ := ans_facts zs (⟨false, op, k, 2, 0, 0, reg, 7⟩ : Rqs) N (i + 1)
      rw [← hst] at g3
      have hcy : (advanceZ c lats picks (ansZ (staA zs) (⟨false, op, k, 2, 0, 0, reg, 7⟩ : Rqs) N i)).cycle = i := by rw [adv_cycle]; exact F1.out
      have hok : (advanceZ c lats picks (ansZ (staA zs) (⟨false, op, k, 2, 0, 0, reg, 7⟩ : Rqs) N i)).Ok := (advance_lim (ans_lim (⟨false, op, k, 2, 0, 0, reg, 7⟩ : Rqs) N i HZ.out (by rw [HZL.out]; omega))).1.ok
      generalize hY : advanceZ c lats picks (ansZ (staA zs) (⟨false, op, k, 2, 0, 0, reg, 7⟩ : Rqs) N i) = Y at *
      have HST := Lib.hid hst
      have G3 : Hid (Y.table.length = 1) := Lib.hid g3
      have HCY := Lib.hid hcy
      have HOKY := Lib.hid hok
      clear hst g3 hcy hok hY
      go_wp2_with (first
        | (refine wpList_load_box rfl 23 (.tmp 6) rfl w.heap.size 0 rfl (cfgCells c) (cfgCells c) HEr.out.cf wholeB _ Try.underlying23 rfl 12 (by kernel_rfl) rfl ?_)
        | (refine wpList_load_box rfl 26 (.tmp 7) rfl (w.heap.size + 1) 0 rfl [.slice A lats.length ca, .slice B picks.length cb] [.slice A lats.length ca, .slice B picks.length cb] HEr.out.sc wholeB _ Try.underlying26 rfl 2 (by kernel_rfl) rfl ?_)
        | (refine wpList_load_box rfl 44 (.tmp 16) rfl bk 0 rfl (staL (ansZ (staA zs) (⟨false, op, k, 2, 0, 0, reg, 7⟩ : Rqs) N i) v) (staL (ansZ (staA zs) (⟨false, op, k, 2, 0, 0, reg, 7⟩ : Rqs) N i) v) HHr.out.box wholeB _ Try.underlying44 rfl 92 (by kernel_rfl) (sta_len' F2.out) ?_))
      refine (HAD.out _ HEr.out HHr.out).mono ?_
      rintro e wa ⟨va, rfl, hoa, hba⟩
      have HOA := Lib.hid hoa
      have EA := Lib.hid (HEr.out.below hba)
      have HXA := Lib.hid (HHr.out.box.below hba HHr.out.box.lt)
      have HLT := Lib.hid HHr.out.box.lt
      obtain ⟨TA, tc, hta⟩ := hoa.row.table.form
      rw [G3.out] at hta
      have HTA := Lib.hid hta
      clear hoa hba hta
      try dsimp only
      go_wp2_with (first
        | (refine wpList_store_box rfl 44 (.tmp 16) (.tmp 115) rfl bk 0 (staL Y va) rfl rfl (staL (ansZ (staA zs) (⟨false, op, k, 2, 0, 0, reg, 7⟩ : Rqs) N i) v) HXA.out (by rw [sta_len' HOKY.out, sta_len' F2.out]; omega) 92 (by kernel_rfl) (sta_len' HOKY.out) HOA.out.one ?_; intro wb hX2 hg2; rw [splice_all _ _ (by rw [sta_len' HOKY.out, sta_len' F2.out])] at hX2; have HSB := Lib.hid (HoldS.stored HLT.out HOA.out HOKY.out hX2 hg2); have EB := Lib.hid (EA.out.put hg2 HBK.out); clear hX2 hg2; have cy := HSB.out.box.cell (k := 0) sta_cycle; rw [HCY.out] at cy)
        | (refine wpList_put_cell rfl 3 (.tmp 119) (.tmp 118) rfl bk 0 (.int .i64 ((i : Int) + 1)) rfl rfl rfl (staL Y va) HSB.out.box (by rw [sta_len' HOKY.out]; omega) (by kernel_rfl) ?_; intro wc hX2 hg2; have HSC := Lib.hid (HSB.out.cycle ((i : Int) + 1) hX2 hg2); rw [HST.out] at HSC; have EC := Lib.hid (EB.out.put hg2 HBK.out); clear hX2 hg2 cy; have ct := HSC.out.box.cell (sta_table HSC.out.ok); rw [HTA.out] at ct))
      go_roundw
      case rel => exact ⟨i + 1, va, by omega, by go_num, HSC.out.hold, EC.out⟩
      case measure => simp only [intOf]; omega
    · have hin : i = N := by omega
      subst hin
      have HLIM := Lib.hid (ans_lim (⟨false, op, k, 2, 0, 0, reg, 7⟩ : Rqs) (i : Int) i HZ.out (by rw [HZL.out]; omega))
      have hend := ans_end (lats := lats) (picks := picks) (x := staA zs) (q := (⟨false, op, k, 2, 0, 0, reg, 7⟩ : Rqs)) HRUN.out rfl rfl rfl HN.out
      have hok : (advanceZ c lats picks (ansZ (staA zs) (⟨false, op, k, 2, 0, 0, reg, 7⟩ : Rqs) (i : Int) i)).Ok := (advance_lim HLIM.out).1.ok
      have hld : loadZ zs op k = broughtZ (staA zs).mem { (⟨false, op, k, 2, 0, 0, reg, 7⟩ : Rqs) with left := 0 } := by unfold broughtZ; rw [if_pos ⟨k0, by show k < 4294967296; omega⟩]; rfl
      have HLD := Lib.hid hld
      generalize hY : advanceZ c lats picks (ansZ (staA zs) (⟨false, op, k, 2, 0, 0, reg, 7⟩ : Rqs) (i : Int) i) = Y at *
      have HEND := Lib.hid hend
      have HOKY := Lib.hid hok
      clear hend hok hY hld
      go_wp2_with (first
        | (refine wpList_load_box rfl 23 (.tmp 6) rfl w.heap.size 0 rfl (cfgCells c) (cfgCells c) HEr.out.cf wholeB _ Try.underlying23 rfl 12 (by kernel_rfl) rfl ?_)
        | (refine wpList_load_box rfl 26 (.tmp 7) rfl (w.heap.size + 1) 0 rfl [.slice A lats.length ca, .slice B picks.length cb] [.slice A lats.length ca, .slice B picks.length cb] HEr.out.sc wholeB _ Try.underlying26 rfl 2 (by kernel_rfl) rfl ?_)
        | (refine wpList_load_box rfl 44 (.tmp 16) rfl bk 0 rfl (staL (ansZ (staA zs) (⟨false, op, k, 2, 0, 0, reg, 7⟩ : Rqs) (i : Int) i) v) (staL (ansZ (staA zs) (⟨false, op, k, 2, 0, 0, reg, 7⟩ : Rqs) (i : Int) i) v) HHr.out.box wholeB _ Try.underlying44 rfl 92 (by kernel_rfl) (sta_len' F2.out) ?_))
      refine (HAD.out _ HEr.out HHr.out).mono ?_
      rintro e wa ⟨va, rfl, hoa, hba⟩
      have HOA := Lib.hid hoa
      have EA := Lib.hid (HEr.out.below hba)
      have HXA := Lib.hid (HHr.out.box.below hba HHr.out.box.lt)
      have HLT := Lib.hid HHr.out.box.lt
      clear hoa hba
      try dsimp only
      go_wp2_with (first
        | (refine wpList_store_box rfl 44 (.tmp 16) (.tmp 127) rfl bk 0 (staL Y va) rfl rfl (staL (ansZ (staA zs) (⟨false, op, k, 2, 0, 0, reg, 7⟩ : Rqs) (i : Int) i) v) HXA.out (by rw [sta_len' HOKY.out, sta_len' F2.out]; omega) 92 (by kernel_rfl) (sta_len' HOKY.out) HOA.out.one ?_; intro wb hX2 hg2; rw [splice_all _ _ (by rw [sta_len' HOKY.out, sta_len' F2.out])] at hX2; have HSB := Lib.hid (HoldS.stored HLT.out HOA.out HOKY.out hX2 hg2); have EB := Lib.hid (EA.out.put hg2 HBK.out); clear hX2 hg2))
      have hwk : IntKind.u32.wrap k = k := by show k % 4294967296 = k; omega
      refine (refLoad_any M mc n _ zs op k _ (EB.out.row HR.out) HZ.out k0 (by omega)).mono ?_
      rintro e _ ⟨rfl, rfl⟩
      obtain ⟨TL, tl, htl⟩ := HSB.out.read.ldq.form
      obtain ⟨TA, tc, hta⟩ := HSB.out.read.table.form
      have ct := HSB.out.box.cell (sta_table HSB.out.ok)
      have cl := HSB.out.box.cell (sta_ldq HSB.out.ok)
      rw [hta] at ct
      rw [htl] at cl
      have hrl := HSB.out.read.ldq
      rw [htl] at hrl
      by_cases hrg : reg < 0
      · have hyd : Y = { staA zs with cycle := (i : Int), lats := 1, ldq := [⟨7, true, loadZ zs op k⟩], table := [] } := by
          rw [HEND.out, done_slot rfl (by exact hrg), HLD.out]
          rfl
        rw [show Y.table.length = 0 by rw [hyd]; rfl] at ct
        rw [show Y.ldq = [⟨7, true, loadZ zs op k⟩] by rw [hyd]] at cl hrl
        obtain ⟨g, off, rfl, hg, _⟩ := hrl.at_ (by show 1 ≠ 0; omega)
        have x0 := hrl.flat_cell sltL_len (k := 0) (x := ⟨7, true, loadZ zs op k⟩) rfl (j := 0) (by omega) rfl
        have x1 := hrl.flat_cell sltL_len (k := 0) (x := ⟨7, true, loadZ zs op k⟩) rfl (j := 1) (by omega) rfl
        have x2 := hrl.flat_cell sltL_len (k := 0) (x := ⟨7, true, loadZ zs op k⟩) rfl (j := 2) (by omega) rfl
        rw [Nat.zero_mul, Nat.add_zero] at x0 x1 x2
        clear hrl hyd hta htl HEND HLD
        generalize loadZ zs op k = ld at *
        try dsimp only
        go_wp2_with fail
        go_ret
        exact ⟨by first | rfl | simp, EB.out.bl⟩
      · obtain ⟨r, hr⟩ : ∃ r : Nat, reg = r := ⟨reg.toNat, by omega⟩
        subst hr
        have hr1 : 1 ≤ r := by have : (r : Int) ≠ 0 := by simpa using g11
                               omega
        have hr15 : r < 16 := by omega
        have hyd : Y = { staA zs with cycle := (i : Int), lats := 1, a := { sid0 with regs := sid0.regs.set r (loadZ zs op k), ready := sid0.ready.set r (i + 1) }, table := [] } := by
          rw [HEND.out, done_reg rfl (by show (1 : Int) ≤ r; omega) (by show (r : Int) ≤ 15; omega), HLD.out, show wrap64 (({ staA zs with cycle := (i : Int), lats := 1, table := [{ (⟨false, op, k, 2, 0, 0, (r : Int), 7⟩ : Rqs) with left := 1 }] } : Sta).cycle + 1) = (i : Int) + 1 by unfold wrap64; dsimp only; omega]
          rfl
        rw [show Y.table.length = 0 by rw [hyd]; rfl] at ct
        rw [show Y.ldq = [slt7] by rw [hyd]; rfl] at cl hrl
        obtain ⟨g, off, rfl, hg, _⟩ := hrl.at_ (by decide)
        have x1 := hrl.flat_cell sltL_len (k := 0) (x := slt7) rfl (j := 1) (by omega) rfl
        rw [Nat.zero_mul, Nat.add_zero] at x1
        have y0 := HSB.out.box.cell (sta_areg HSB.out.ok hr15)
        have y1 := HSB.out.box.cell (sta_aready HSB.out.ok hr15)
        have e0 : Y.a.regs.getD r 0 = loadZ zs op k := by rw [hyd]; show (sid0.regs.set r _).getD r 0 = _; rw [List.getD_eq_getElem?_getD, List.getElem?_set_self (by show r < 16; exact hr15)]; rfl
        have e1 : Y.a.ready.getD r 0 = (i : Int) + 1 := by rw [hyd]; show (sid0.ready.set r _).getD r 0 = _; rw [List.getD_eq_getElem?_getD, List.getElem?_set_self (by show r < 16; exact hr15)]; rfl
        rw [e0] at y0
        rw [e1] at y1
        clear hrl hyd hta htl HEND HLD e0 e1
        generalize loadZ zs op k = ld at *
        try dsimp only
        go_wp2_with fail
        go_ret
        exact ⟨by first | rfl | simp, EB.out.bl⟩
end Go.Proofs.Ythhoigkmmlkfcaa.Words

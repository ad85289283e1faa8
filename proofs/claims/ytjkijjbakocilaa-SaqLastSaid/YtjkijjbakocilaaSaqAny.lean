/- Contracts of package saq: Push, Search, Bypass, Mask. -/
import Derived.Test.YtjkijjbakocilaaRefSaq
import Derived.Test.YtjkijjbakocilaaRefMask
import Derived.Test.YtjkijjbakocilaaBytesSmall
namespace Go.Proofs.Ytjkijjbakocilaa.Words
set_option maxRecDepth 100000
open Go.RowKit
set_option linter.unusedVariables false
set_option linter.unusedSimpArgs false

set_option maxHeartbeats 1000000 in
theorem push_any17 (A : Option Addr) (c : Nat) (l : List Ent) (n : Int) (x : Ent) (w : World) (h : Row w w.heap.size 5 (.slice A l.length c) l.length (flat entL l)) (hs : l.length ≤ 1000000) :
    Calls Try.prog 8 #[.slice A l.length c, .int .i64 n, .agg #[.int .i64 x.addr, .int .i64 x.size, .int .i64 x.step, .bool x.known, .int .u32 x.val]] w (EntsOut w (pushE l n x) fun v => .tuple #[v, .bool (roomE l n)]) := by
  obtain ⟨i0, hi, hq0, hq1, hq2⟩ := parts_ent
  have HI := Lib.hid hi
  have HZ0 := Lib.hid hq0
  have HZ1 := Lib.hid hq1
  have HZ2 := Lib.hid hq2
  clear hi hq0 hq1 hq2
  obtain ⟨W, hW⟩ : ∃ W, W = w.alloc (.cells #[.int .i64 x.addr, .int .i64 x.size, .int .i64 x.step, .bool x.known, .int .u32 x.val] 25) := ⟨_, rfl⟩
  have HBX : Hid (Box W w.heap.size (entL x)) := by rw [hW]; exact Box.new w (entL x) _
  have HBW : Hid (Below w.heap.size w W) := by rw [hW]; exact (Below.refl _ _).alloc (Nat.le_refl _) _
  have hsz : W.heap.size = w.heap.size + 1 := by rw [hW]; simp
  have HR := Lib.hid ((h.below HBW.out).more HBW.out.size)
  clear h
  by_cases hl : (l.length : Int) < n
  · rw [pushE_yes x hl, roomE_yes hl]
    generalize hn : l.length = m at *
    have HN := Lib.hid hn
    clear hn
    go_enter Try.func8, Try.ntmps8
    go_wp2_with (first
      | (rw [← hW]; clear hW)
      | (refine wpList_append_new _ rfl (.const (.slice none 0 0)) (.tmp 9) 22 rfl w.heap.size 25 i0 _ 5 32 Try.underlying22 HI.out HZ0.out HZ1.out HZ2.out rfl (by omega) (.slice none 0 0) 0 [] rfl (World.ownsRow_nil _ _ _ _) _ (.slice A m c) m (flat entL l) rfl HR.out (flat_oneC entL_one l) (by unfold maxLen; omega) (by omega) (by omega) ?_; intro v1 w1 hO hg hn2; obtain ⟨A1, c1, hv1⟩ := (Row.of_own hO).form; rw [Nat.zero_add, List.nil_append] at hO; rw [Nat.zero_add] at hv1; subst hv1; have HO1 := Lib.hid hO; have HB1 : Hid (Below w.heap.size w w1) := Below.grown HBW.out hg HBW.out.size (fun q hq => by cases hq); have HX1 := Lib.hid (HBX.out.grown hg (fun e => by cases e)); have hs1 : w.heap.size < w1.heap.size := HX1.out.lt; have HO2 := Lib.hid (own_below HO1.out ((Below.refl w1.heap.size w1).alloc (Nat.le_refl _) (.cells #[.int .i64 x.addr, .int .i64 x.size, .int .i64 x.step, .bool x.known, .int .u32 x.val] 25))); have HB2 := Lib.hid (HB1.out.alloc HB1.out.size (.cells #[.int .i64 x.addr, .int .i64 x.size, .int .i64 x.step, .bool x.known, .int .u32 x.val] 25)); have HRN := Lib.hid (row_ent w1 x); have HLT := Lib.hid (fun g hg => (HO1.out.lt g hg).1); clear hO hg hn2)
      | (refine wpList_load_box rfl 25 (.tmp 5) rfl w.heap.size 0 rfl (entL x) [.int .i64 x.addr, .int .i64 x.size, .int .i64 x.step, .bool x.known, .int .u32 x.val] HX1.out (fun j v hv => by rw [Nat.zero_add]; exact hv) _ Try.underlying25 rfl 5 (by kernel_rfl) rfl ?_)
      | (refine wpList_append_new _ rfl (.tmp 16) (.tmp 18) 22 rfl w.heap.size 25 i0 _ 5 32 Try.underlying22 HI.out HZ0.out HZ1.out HZ2.out rfl (by omega) (.slice A1 m c1) m (flat entL l) rfl HO2.out _ (.slice (some ⟨w1.heap.size, 0, none⟩) 1 1) 1 (flat entL [x]) rfl HRN.out (flat_oneC entL_one _) (by unfold maxLen; omega) (by omega) (by simp; omega) ?_; intro v2 w2 hO hg hn2; have HO3 := Lib.hid hO; have HB3 : Hid (Below w.heap.size w w2) := Below.grown HB2.out hg HB2.out.size (fun q hq => HLT.out q hq); clear hO hg hn2))
    refine bodyPost_ret (v := .tuple #[v2, .bool true]) (by simp [results, Try.results8, go_sem]) rfl ⟨v2, rfl, ?_, HB3.out⟩
    rw [List.length_append, HN.out, flat_append]
    exact HO3.out
  · rw [pushE_no x hl, roomE_no hl]
    generalize hn : l.length = m at *
    have HN := Lib.hid hn
    clear hn
    go_enter Try.func8, Try.ntmps8
    go_wp2_with (first
      | (rw [← hW]; clear hW)
      | (refine wpList_append_new _ rfl (.const (.slice none 0 0)) (.tmp 9) 22 rfl w.heap.size 25 i0 _ 5 32 Try.underlying22 HI.out HZ0.out HZ1.out HZ2.out rfl (by omega) (.slice none 0 0) 0 [] rfl (World.ownsRow_nil _ _ _ _) _ (.slice A m c) m (flat entL l) rfl HR.out (flat_oneC entL_one l) (by unfold maxLen; omega) (by omega) (by omega) ?_; intro v1 w1 hO hg hn2; obtain ⟨A1, c1, hv1⟩ := (Row.of_own hO).form; rw [Nat.zero_add, List.nil_append] at hO; rw [Nat.zero_add] at hv1; subst hv1; have HO1 := Lib.hid hO; have HB1 : Hid (Below w.heap.size w w1) := Below.grown HBW.out hg HBW.out.size (fun q hq => by cases hq); have HX1 := Lib.hid (HBX.out.grown hg (fun e => by cases e)); have hs1 : w.heap.size < w1.heap.size := HX1.out.lt; skip; clear hO hg hn2))
    refine bodyPost_ret (v := .tuple #[.slice A1 m c1, .bool false]) (by simp [results, Try.results8, go_sem]) rfl ⟨_, rfl, ?_, HB1.out⟩
    rw [HN.out]; exact HO1.out

set_option maxHeartbeats 1000000 in
theorem search_any17 (A : Option Addr) (c : Nat) (l : List Ent) (addr size : Int) (w : World) (h : Row w w.heap.size 5 (.slice A l.length c) l.length (flat entL l)) (hf : ∀ x ∈ l, x.Fits) (hs : l.length ≤ 1000000)
    (ha : -9223372036854775808 ≤ addr ∧ addr ≤ 9223372036854775807) (hz : -9223372036854775808 ≤ size ∧ size ≤ 9223372036854775807) :
    Calls Try.prog 10 #[.slice A l.length c, .int .i64 addr, .int .i64 size] w fun e w' => e = .returned (foundZ l addr size) ∧ Below w.heap.size w w' := by
  obtain ⟨W, hW⟩ : ∃ W, W = w.alloc (.cells #[.int .i64 0, .int .i64 0, .int .i64 0, .bool false, .int .u32 0] 25) := ⟨_, rfl⟩
  have HBX : Hid (Box W w.heap.size (entL noE)) := by rw [hW]; exact Box.new w (entL noE) _
  have HBW : Hid (Below w.heap.size w W) := by rw [hW]; exact (Below.refl _ _).alloc (Nat.le_refl _) _
  have hsz : W.heap.size = w.heap.size + 1 := by rw [hW]; simp
  have HR := Lib.hid h
  have HF := Lib.hid hf
  clear h hf
  generalize hn : l.length = m at *
  have HN := Lib.hid hn
  clear hn
  go_enter Try.func10, Try.ntmps10
  go_wp2_with (first | (rw [← hW]; clear hW))
  go_loopw [8] (fun i wr => ∃ j : Nat, j ≤ m ∧ i = .int .i64 ((j : Int) - 1) ∧ Box wr w.heap.size (entL noE) ∧ Below w.heap.size w wr ∧ (∀ (k : Nat) x, j ≤ k → l[k]? = some x → meetsE addr size x = false)) (fun i _ => (intOf i + 1).toNat)
  case atStart => exact ⟨m, Nat.le_refl _, rfl, HBX.out, HBW.out, fun k x hk hx => by have := (List.getElem?_eq_some_iff.1 hx).1; have := HN.out; omega⟩
  case round =>
    obtain ⟨j, hj, rfl, hX, hB, hP⟩ := hrel
    have HX := Lib.hid hX
    have HB := Lib.hid hB
    have HP := Lib.hid hP
    have hxl := hX.lt
    clear hX hB hP
    cases j with
    | zero =>
      have HE := Lib.hid (search_none (addr := addr) (size := size) (fun k x hx => HP.out k x (by omega) hx))
      go_wp2_with (first
        | (refine wpList_store_box rfl 25 (.tmp 6) (.tmp 33) rfl w.heap.size 0 [.int .i64 0, .int .i64 0, .int .i64 0, .bool false, .int .u32 0] rfl rfl _ HX.out (by decide) 5 (by kernel_rfl) rfl (by simp [Value.oneCell']) ?_; intro w2 hX2 hg2; have HX2 := Lib.hid hX2; have HB2 : Hid (Below w.heap.size w w2) := Below.grown HB.out hg2 HB.out.size (fun q hq => by injection hq with hq; omega); clear hX2 hg2))
      refine bodyPost_ret (v := .tuple #[.agg (entL noE).toArray, .bool false]) (results_cell_tmp' (p := 6) (u := 7) Try.results10 _ _ _ ⟨w.heap.size, 0, none⟩ _ _ rfl (load_ent HX2.out) rfl) rfl ⟨?_, HB2.out⟩
      unfold foundZ
      rw [HE.out.1, HE.out.2]
    | succ p =>
      rw [show (((p + 1 : Nat) : Int) - 1) = (p : Int) by omega]
      obtain ⟨x, hx⟩ : ∃ x, l[p]? = some x := ⟨_, List.getElem?_eq_getElem (by rw [HN.out]; omega)⟩
      obtain ⟨g, o, rfl, hg, _⟩ := HR.out.at_ (by omega)
      have hgz : g < wr.heap.size := Nat.lt_of_lt_of_le hg HB.out.size
      have hrow := HR.out.below HB.out
      obtain ⟨d0, d1, d2, d3, d4⟩ := hrow.ent hx
      have HROW := Lib.hid hrow
      have hfit := HF.out x (List.mem_of_getElem? hx)
      have k0 : (0 : Int) ≤ p := by omega
      have k1 : (p : Int) < m := by omega
      have HXX := Lib.hid hx
      have HFIT := Lib.hid hfit
      clear hx hrow hfit
      cases hq : meetsE addr size x
      · have HQ := Lib.hid hq
        unfold meetsE at hq
        go_wp2_with fail
        go_quiet ((go_at_call 22; refine quiet_mine17 (overlap_any _ _ _ _ _ HFIT.out.1 HFIT.out.2.1 ha hz)))
        rw [hq]
        go_wp2_with fail
        go_roundw
        case rel => exact ⟨p, by omega, by first | rfl | go_num, HX.out.drewN _, Below.drewN_ HB.out _, meets_more HP.out HXX.out HQ.out⟩
        case measure => simp [intOf]
      · have HFD := Lib.hid (search_at (fun k y hk hy => HP.out k y (by omega) hy) HXX.out hq)
        unfold meetsE at hq
        go_wp2_with fail
        go_quiet ((go_at_call 22; refine quiet_mine17 (overlap_any _ _ _ _ _ HFIT.out.1 HFIT.out.2.1 ha hz)))
        rw [hq]
        have HX1 := Lib.hid (HX.out.drewN nq)
        have HB1 := Lib.hid (Below.drewN_ HB.out nq)
        go_wp2_with (first
          | (refine wpList_store_box rfl 25 (.tmp 6) (.tmp 32) rfl w.heap.size 0 [.int .i64 x.addr, .int .i64 x.size, .int .i64 x.step, .bool x.known, .int .u32 x.val] rfl rfl _ HX1.out (Nat.le_refl 5) 5 (by kernel_rfl) rfl (by simp [Value.oneCell']) ?_; intro w2 hX2 hg2; have HX2 := Lib.hid hX2; have HB2 : Hid (Below w.heap.size w w2) := Below.grown HB1.out hg2 HB1.out.size (fun q hq => by injection hq with hq; omega); clear hX2 hg2))
        refine bodyPost_ret (v := .tuple #[.agg (entL x).toArray, .bool true]) (results_cell_tmp' (p := 6) (u := 7) Try.results10 _ _ _ ⟨w.heap.size, 0, none⟩ _ _ rfl (load_ent HX2.out) rfl) rfl ⟨?_, HB2.out⟩
        unfold foundZ
        rw [HFD.out.1, HFD.out.2]

set_option maxHeartbeats 400000 in
theorem loaded_any (op x : Int) (w : World) (h0 : 0 ≤ x) (h1 : x < 4294967296) :
    Calls Try.prog 25 #[.int .i64 op, .int .u32 x] w fun e w' => e = .returned (.tuple #[.int .u32 (if formZ op = 4 then extendZ op x else 0), .bool (decide (formZ op = 4))]) ∧ w = w' := by
  have hc : formZ op = 4 ↔ (op = 26 ∨ op = 27 ∨ op = 28 ∨ op = 29 ∨ op = 30) := by unfold formZ; omega
  by_cases a1 : op = 26
  · subst a1
    go_enter Try.func25, Try.ntmps25
    go_wp2_with fail
    refine bodyPost_ret (v := .tuple #[.int .u32 x, .bool true]) (by simp [results, Try.results25, go_sem]) rfl ⟨rfl, rfl⟩
  by_cases a2 : op = 28
  · subst a2
    go_enter Try.func25, Try.ntmps25
    go_wp2_with fail
    refine bodyPost_ret (v := .tuple #[.int .u32 x, .bool true]) (by simp [results, Try.results25, go_sem]) rfl ⟨rfl, rfl⟩
  by_cases a3 : op = 30
  · subst a3
    go_enter Try.func25, Try.ntmps25
    go_wp2_with fail
    refine bodyPost_ret (v := .tuple #[.int .u32 x, .bool true]) (by simp [results, Try.results25, go_sem]) rfl ⟨rfl, rfl⟩
  by_cases a4 : op = 27
  · subst a4
    have e : IntKind.u32.wrap (IntKind.i16.wrap x) = extendZ 27 x := by
      rw [wrapi16]
      show (if x % 65536 < 32768 then x % 65536 else x % 65536 - 65536) % 4294967296 = _
      rw [show extendZ 27 x = (if x % 65536 < 32768 then x % 65536 else x % 65536 + 4294901760) by simp [extendZ]]
      repeat' split
      all_goals omega
    go_enter Try.func25, Try.ntmps25
    go_wp2_with fail
    refine bodyPost_ret (v := .tuple #[.int .u32 (extendZ 27 x), .bool true]) (by simp [results, Try.results25, go_sem]) rfl ⟨rfl, rfl⟩
  by_cases a5 : op = 29
  · subst a5
    have e : IntKind.u32.wrap (IntKind.i8.wrap x) = extendZ 29 x := by
      rw [wrapi8]
      show (if x % 256 < 128 then x % 256 else x % 256 - 256) % 4294967296 = _
      rw [show extendZ 29 x = (if x % 256 < 128 then x % 256 else x % 256 + 4294967040) by simp [extendZ]]
      repeat' split
      all_goals omega
    go_enter Try.func25, Try.ntmps25
    go_wp2_with fail
    refine bodyPost_ret (v := .tuple #[.int .u32 (extendZ 29 x), .bool true]) (by simp [results, Try.results25, go_sem]) rfl ⟨rfl, rfl⟩
  have hn := Lib.hid (show ¬ formZ op = 4 by rw [hc]; omega)
  have q1 : (op == 26) = false := by simp; exact a1
  have q2 : (op == 28) = false := by simp; exact a2
  have q3 : (op == 30) = false := by simp; exact a3
  have q4 : (op == 27) = false := by simp; exact a4
  have q5 : (op == 29) = false := by simp; exact a5
  clear a1 a2 a3 a4 a5 hc
  go_enter Try.func25, Try.ntmps25
  go_wp2_with fail
  refine bodyPost_ret (v := .tuple #[.int .u32 0, .bool false]) (by simp [results, Try.results25, go_sem]) rfl ⟨by simp [hn.out], rfl⟩

set_option maxHeartbeats 400000 in
theorem mask_any17 (v size : Int) (w : World) (h0 : 0 ≤ v) (h1 : v < 4294967296) :
    Calls Try.prog 15 #[.int .u32 v, .int .i64 size] w fun e w' => e = .returned (.int .u32 (maskZ v size)) ∧ w = w' := by
  have e1 := and_255 v h0 h1
  have e2 := and_65535 v h0 h1
  by_cases a : size = 1
  · subst a
    go_enter Try.func15, Try.ntmps15
    go_wp2_with fail
    go_ret
    exact ⟨rfl, rfl⟩
  by_cases b : size = 2
  · subst b
    go_enter Try.func15, Try.ntmps15
    go_wp2_with fail
    go_ret
    exact ⟨rfl, rfl⟩
  by_cases c : size = 4
  · subst c
    go_enter Try.func15, Try.ntmps15
    go_wp2_with fail
    go_ret
    exact ⟨rfl, rfl⟩
  · have t := Lib.hid (show maskZ v size = 0 by unfold maskZ; rw [if_neg a, if_neg b, if_neg c])
    have q1 : (size == 1) = false := by simp; exact a
    have q2 : (size == 2) = false := by simp; exact b
    have q4 : (size == 4) = false := by simp; exact c
    clear a b c e1 e2
    go_enter Try.func15, Try.ntmps15
    go_wp2_with fail
    go_ret
    exact ⟨ret_int t.out.symm, rfl⟩
set_option maxHeartbeats 1000000 in
theorem bypass_any17 (x : Ent) (op addr : Int) (w : World) (hf : x.Fits) :
    Calls Try.prog 12 #[.agg #[.int .i64 x.addr, .int .i64 x.size, .int .i64 x.step, .bool x.known, .int .u32 x.val], .int .i64 op, .int .i64 addr] w fun e w' => e = .returned (.tuple #[.int .u32 (bypV x op addr), .bool (bypB x op addr)]) ∧ Below w.heap.size w w' := by
  obtain ⟨W, hW⟩ : ∃ W, W = w.alloc (.cells #[.int .i64 x.addr, .int .i64 x.size, .int .i64 x.step, .bool x.known, .int .u32 x.val] 25) := ⟨_, rfl⟩
  have hbx : Box W w.heap.size (entL x) := by rw [hW]; exact Box.new w (entL x) _
  have HBW : Hid (Below w.heap.size w W) := by rw [hW]; exact (Below.refl _ _).alloc (Nat.le_refl _) _
  have d0 : W.cell? ⟨w.heap.size, 0, none⟩ = some (.int .i64 x.addr) := hbx.cell rfl
  have d1 : W.cell? ⟨w.heap.size, 1, none⟩ = some (.int .i64 x.size) := hbx.cell rfl
  have d3 : W.cell? ⟨w.heap.size, 3, none⟩ = some (.bool x.known) := hbx.cell rfl
  have d4 : W.cell? ⟨w.heap.size, 4, none⟩ = some (.int .u32 x.val) := hbx.cell rfl
  have HF := Lib.hid hf
  clear hbx hf
  have hsc := sizeZ_cases op
  cases b : x.known
  · rw [b] at d3
    have HN : Hid (bypB x op addr = false) := by
      have : bypB x op addr = false := by unfold bypB; simp [b]
      exact this
    go_enter Try.func12, Try.ntmps12
    go_wp2_with (first | (rw [← hW]; clear hW))
    go_quiet (first | (go_at_call 24; refine quiet_mine17 (size_any _ _)))
    go_wp2_with fail
    refine bodyPost_ret (v := .tuple #[.int .u32 0, .bool false]) (by simp [results, Try.results12, go_sem]) rfl ⟨?_, by first | exact Below.drewN_ HBW.out _ | exact Below.drewN_ ((Below.refl w.heap.size w).alloc (Nat.le_refl _) _) _⟩
    rw [show bypV x op addr = 0 by unfold bypV; rw [HN.out]; rfl, HN.out]
  · rw [b] at d3
    by_cases c : x.addr = addr
    · have qc : (x.addr == addr) = true := by simpa using c
      by_cases d : x.size = sizeZ op
      · have qd : (x.size == sizeZ op) = true := by simpa using d
        by_cases a : formZ op = 4
        · have HA := Lib.hid a
          have HN : Hid (bypB x op addr = true) := by
            have : bypB x op addr = true := by unfold bypB; simp [a, b, c, d]
            exact this
          clear a
          go_enter Try.func12, Try.ntmps12
          go_wp2_with (first | (rw [← hW]; clear hW))
          go_quiet (first | (go_at_call 24; refine quiet_mine17 (size_any _ _)))
          go_wp2_with fail
          refine (loaded_any _ _ _ HF.out.2.2.2.1 (by have := HF.out.2.2.2.2; omega)).mono ?_
          rintro e w1 ⟨rfl, rfl⟩
          rw [if_pos HA.out, decide_eq_true HA.out]
          try dsimp only
          go_wp2_with fail
          refine bodyPost_ret (v := .tuple #[.int .u32 (extendZ op x.val), .bool true]) (by simp [results, Try.results12, go_sem]) rfl ⟨?_, by first | exact Below.drewN_ HBW.out _ | exact Below.drewN_ ((Below.refl w.heap.size w).alloc (Nat.le_refl _) _) _⟩
          rw [show bypV x op addr = extendZ op x.val by unfold bypV; rw [HN.out]; rfl, HN.out]
        · have HA := Lib.hid a
          have HN : Hid (bypB x op addr = false) := by
            have : bypB x op addr = false := by unfold bypB; simp [a]
            exact this
          clear a
          go_enter Try.func12, Try.ntmps12
          go_wp2_with (first | (rw [← hW]; clear hW))
          go_quiet (first | (go_at_call 24; refine quiet_mine17 (size_any _ _)))
          go_wp2_with fail
          refine (loaded_any _ _ _ HF.out.2.2.2.1 (by have := HF.out.2.2.2.2; omega)).mono ?_
          rintro e w1 ⟨rfl, rfl⟩
          rw [if_neg HA.out, decide_eq_false HA.out]
          try dsimp only
          go_wp2_with fail
          refine bodyPost_ret (v := .tuple #[.int .u32 0, .bool false]) (by simp [results, Try.results12, go_sem]) rfl ⟨?_, by first | exact Below.drewN_ HBW.out _ | exact Below.drewN_ ((Below.refl w.heap.size w).alloc (Nat.le_refl _) _) _⟩
          rw [show bypV x op addr = 0 by unfold bypV; rw [HN.out]; rfl, HN.out]
      · have qd : (x.size == sizeZ op) = false := by simpa using d
        have HN : Hid (bypB x op addr = false) := by
          have : bypB x op addr = false := by unfold bypB; simp [b, c, d]
          exact this
        go_enter Try.func12, Try.ntmps12
        go_wp2_with (first | (rw [← hW]; clear hW))
        go_quiet (first | (go_at_call 24; refine quiet_mine17 (size_any _ _)))
        go_wp2_with fail
        refine bodyPost_ret (v := .tuple #[.int .u32 0, .bool false]) (by simp [results, Try.results12, go_sem]) rfl ⟨?_, by first | exact Below.drewN_ HBW.out _ | exact Below.drewN_ ((Below.refl w.heap.size w).alloc (Nat.le_refl _) _) _⟩
        rw [show bypV x op addr = 0 by unfold bypV; rw [HN.out]; rfl, HN.out]
    · have qc : (x.addr == addr) = false := by simpa using c
      have HN : Hid (bypB x op addr = false) := by
        have : bypB x op addr = false := by unfold bypB; simp [b, c]
        exact this
      go_enter Try.func12, Try.ntmps12
      go_wp2_with (first | (rw [← hW]; clear hW))
      go_quiet (first | (go_at_call 24; refine quiet_mine17 (size_any _ _)))
      go_wp2_with fail
      refine bodyPost_ret (v := .tuple #[.int .u32 0, .bool false]) (by simp [results, Try.results12, go_sem]) rfl ⟨?_, by first | exact Below.drewN_ HBW.out _ | exact Below.drewN_ ((Below.refl w.heap.size w).alloc (Nat.le_refl _) _) _⟩
      rw [show bypV x op addr = 0 by unfold bypV; rw [HN.out]; rfl, HN.out]
end Go.Proofs.Ytjkijjbakocilaa.Words

/- Contracts of the document's own PushEntry, Search, Bypass of chapter 17. -/
import Derived.Test.YtjkijjbakocilaaSltMath
import Derived.Test.YtjkijjbakocilaaOwnSet
import Derived.Test.YtjkijjbakocilaaLin
import Derived.Test.YtjkijjbakocilaaRefBytes
import Derived.Test.YtjkijjbakocilaaRefForm
import Derived.Test.YtjkijjbakocilaaRefLoad
import Derived.LoopTactic
namespace Go.Proofs.Ytjkijjbakocilaa.Words
set_option maxRecDepth 100000
open Go.RowKit
set_option linter.unusedVariables false
set_option linter.unusedSimpArgs false

def Ent.Fits (i : Ent) : Prop :=
  (-9223372036854775808 ≤ i.addr ∧ i.addr ≤ 9223372036854775807) ∧ (-9223372036854775808 ≤ i.size ∧ i.size ≤ 9223372036854775807) ∧ (-9223372036854775808 ≤ i.step ∧ i.step ≤ 9223372036854775807) ∧ (0 ≤ i.val ∧ i.val ≤ 4294967295)
theorem info_ent : (Try.prog.info? 25).map (fun i => (i.zero, i.size, i.bytes)) = some (some (.agg #[.int .i64 0, .int .i64 0, .int .i64 0, .bool false, .int .u32 0]), 5, 32) := by kernel_rfl
theorem parts_ent : ∃ i, Try.prog.info? 25 = some i ∧ i.zero = some (.agg #[.int .i64 0, .int .i64 0, .int .i64 0, .bool false, .int .u32 0]) ∧ i.size = 5 ∧ i.bytes = 32 := by
  have h := info_ent
  cases hi : Try.prog.info? 25 with
  | none => rw [hi] at h; cases h
  | some i =>
    rw [hi] at h
    simp only [Option.map_some, Option.some.injEq, Prod.mk.injEq] at h
    exact ⟨i, rfl, h.1, h.2.1, h.2.2⟩
def EntsOut (w : World) (l : List Ent) (mk : Value → Value) (e : Ending) (w' : World) : Prop :=
  ∃ v, e = .returned (mk v) ∧ w'.ownsRow w.heap.size 25 5 v l.length (flat entL l) ∧ Below w.heap.size w w'
theorem Row.ent {w : World} {B n c b off : Nat} {l : List Ent} (h : Row w B 5 (.slice (some ⟨b, off, none⟩) n c) n (flat entL l)) {k : Nat} {x : Ent} (hx : l[k]? = some x) :
    w.cell? ⟨b, off + k * 5, none⟩ = some (.int .i64 x.addr) ∧ w.cell? ⟨b, off + k * 5 + 1, none⟩ = some (.int .i64 x.size) ∧ w.cell? ⟨b, off + k * 5 + 2, none⟩ = some (.int .i64 x.step) ∧ w.cell? ⟨b, off + k * 5 + 3, none⟩ = some (.bool x.known) ∧ w.cell? ⟨b, off + k * 5 + 4, none⟩ = some (.int .u32 x.val) :=
  ⟨h.flat_cell entL_len hx (j := 0) (by omega) rfl, h.flat_cell entL_len hx (j := 1) (by omega) rfl, h.flat_cell entL_len hx (j := 2) (by omega) rfl, h.flat_cell entL_len hx (j := 3) (by omega) rfl, h.flat_cell entL_len hx (j := 4) (by omega) rfl⟩
theorem row_ent (w : World) (x : Ent) : Row (w.alloc (.cells #[.int .i64 x.addr, .int .i64 x.size, .int .i64 x.step, .bool x.known, .int .u32 x.val] 25)) (w.heap.size + 1) 5 (.slice (some ⟨w.heap.size, 0, none⟩) 1 1) 1 (flat entL [x]) := by
  rw [flat_one]; exact row_new w (entL x) 5 rfl (by omega) _
theorem pushE_yes {l : List Ent} {n : Int} (e : Ent) (h : (l.length : Int) < n) : pushE l n e = l ++ [e] := if_pos h
theorem pushE_no {l : List Ent} {n : Int} (e : Ent) (h : ¬ (l.length : Int) < n) : pushE l n e = l := if_neg h
theorem roomE_yes {l : List Ent} {n : Int} (h : (l.length : Int) < n) : roomE l n = true := decide_eq_true h
theorem roomE_no {l : List Ent} {n : Int} (h : ¬ (l.length : Int) < n) : roomE l n = false := decide_eq_false h

set_option maxHeartbeats 1000000 in
theorem refPushEntry_any (A : Option Addr) (c : Nat) (l : List Ent) (n : Int) (x : Ent) (w : World) (h : Row w w.heap.size 5 (.slice A l.length c) l.length (flat entL l)) (hs : l.length ≤ 1000000) :
    Calls Try.prog 9 #[.slice A l.length c, .int .i64 n, .agg #[.int .i64 x.addr, .int .i64 x.size, .int .i64 x.step, .bool x.known, .int .u32 x.val]] w (EntsOut w (pushE l n x) fun v => .tuple #[v, .bool (roomE l n)]) := by
  obtain ⟨i0, hi, hq0, hq1, hq2⟩ := parts_ent
  have HI := Lib.hid hi
  have HZ0 := Lib.hid hq0
  have HZ1 := Lib.hid hq1
  have HZ2 := Lib.hid hq2
  clear hi hq0 hq1 hq2
  obtain ⟨W, hW⟩ : ∃ W, W = w.alloc (.cells #[.int .i64 x.addr, .int .i64 x.size, .int .i64 x.step, .bool x.known, .int .u32 x.val] 25) := ⟨_, rfl⟩
  have HBX : Hid (Box W w.heap.size (entL x)) := by rw [hW]; exact Box.new w (entL x) _
  have HBW : Hid (Below w.heap.size w W) := by rw [hW]; exact (Below.refl _ _).alloc (Nat.le_refl _) _
  have hsz : W.heap.size = w.heap.size + 1 := by rw [hW]; simp
  have HR := Lib.hid ((h.below HBW.out).more HBW.out.size)
  clear h
  by_cases hl : (l.length : Int) < n
  · rw [pushE_yes x hl, roomE_yes hl]
    generalize hn : l.length = m at *
    have HN := Lib.hid hn
    clear hn
    go_enter Try.func9, Try.ntmps9
    go_wp2_with (first
      | (rw [← hW]; clear hW)
      | (refine wpList_append_new _ rfl (.const (.slice none 0 0)) (.tmp 8) 22 rfl w.heap.size 25 i0 _ 5 32 Try.underlying22 HI.out HZ0.out HZ1.out HZ2.out rfl (by omega) (.slice none 0 0) 0 [] rfl (World.ownsRow_nil _ _ _ _) _ (.slice A m c) m (flat entL l) rfl HR.out (flat_oneC entL_one l) (by unfold maxLen; omega) (by omega) (by omega) ?_; intro v1 w1 hO hg hn2; obtain ⟨A1, c1, hv1⟩ := (Row.of_own hO).form; rw [Nat.zero_add, List.nil_append] at hO; rw [Nat.zero_add] at hv1; subst hv1; have HO1 := Lib.hid hO; have HB1 : Hid (Below w.heap.size w w1) := Below.grown HBW.out hg HBW.out.size (fun q hq => by cases hq); have HX1 := Lib.hid (HBX.out.grown hg (fun e => by cases e)); have hs1 : w.heap.size < w1.heap.size := HX1.out.lt; have HO2 := Lib.hid (own_below HO1.out ((Below.refl w1.heap.size w1).alloc (Nat.le_refl _) (.cells #[.int .i64 x.addr, .int .i64 x.size, .int .i64 x.step, .bool x.known, .int .u32 x.val] 25))); have HB2 := Lib.hid (HB1.out.alloc HB1.out.size (.cells #[.int .i64 x.addr, .int .i64 x.size, .int .i64 x.step, .bool x.known, .int .u32 x.val] 25)); have HRN := Lib.hid (row_ent w1 x); have HLT := Lib.hid (fun g hg => (HO1.out.lt g hg).1); clear hO hg hn2)
      | (refine wpList_load_box rfl 25 (.tmp 5) rfl w.heap.size 0 rfl (entL x) [.int .i64 x.addr, .int .i64 x.size, .int .i64 x.step, .bool x.known, .int .u32 x.val] HX1.out (fun j v hv => by rw [Nat.zero_add]; exact hv) _ Try.underlying25 rfl 5 (by kernel_rfl) rfl ?_)
      | (refine wpList_append_new _ rfl (.tmp 15) (.tmp 17) 22 rfl w.heap.size 25 i0 _ 5 32 Try.underlying22 HI.out HZ0.out HZ1.out HZ2.out rfl (by omega) (.slice A1 m c1) m (flat entL l) rfl HO2.out _ (.slice (some ⟨w1.heap.size, 0, none⟩) 1 1) 1 (flat entL [x]) rfl HRN.out (flat_oneC entL_one _) (by unfold maxLen; omega) (by omega) (by simp; omega) ?_; intro v2 w2 hO hg hn2; have HO3 := Lib.hid hO; have HB3 : Hid (Below w.heap.size w w2) := Below.grown HB2.out hg HB2.out.size (fun q hq => HLT.out q hq); clear hO hg hn2))
    refine bodyPost_ret (v := .tuple #[v2, .bool true]) (by simp [results, Try.results9, go_sem]) rfl ⟨v2, rfl, ?_, HB3.out⟩
    rw [List.length_append, HN.out, flat_append]
    exact HO3.out
  · rw [pushE_no x hl, roomE_no hl]
    generalize hn : l.length = m at *
    have HN := Lib.hid hn
    clear hn
    go_enter Try.func9, Try.ntmps9
    go_wp2_with (first
      | (rw [← hW]; clear hW)
      | (refine wpList_append_new _ rfl (.const (.slice none 0 0)) (.tmp 8) 22 rfl w.heap.size 25 i0 _ 5 32 Try.underlying22 HI.out HZ0.out HZ1.out HZ2.out rfl (by omega) (.slice none 0 0) 0 [] rfl (World.ownsRow_nil _ _ _ _) _ (.slice A m c) m (flat entL l) rfl HR.out (flat_oneC entL_one l) (by unfold maxLen; omega) (by omega) (by omega) ?_; intro v1 w1 hO hg hn2; obtain ⟨A1, c1, hv1⟩ := (Row.of_own hO).form; rw [Nat.zero_add, List.nil_append] at hO; rw [Nat.zero_add] at hv1; subst hv1; have HO1 := Lib.hid hO; have HB1 : Hid (Below w.heap.size w w1) := Below.grown HBW.out hg HBW.out.size (fun q hq => by cases hq); have HX1 := Lib.hid (HBX.out.grown hg (fun e => by cases e)); have hs1 : w.heap.size < w1.heap.size := HX1.out.lt; skip; clear hO hg hn2))
    refine bodyPost_ret (v := .tuple #[.slice A1 m c1, .bool false]) (by simp [results, Try.results9, go_sem]) rfl ⟨_, rfl, ?_, HB1.out⟩
    rw [HN.out]; exact HO1.out

theorem quiet_mine17 {P : Program} {f : FuncId} {args : Array Value} {w : World} {n : Nat} {v : Value} (h : Calls P f args (w.drewN n) fun e w' => e = .returned v ∧ w.drewN n = w') :
    Calls P f args (w.drewN n) fun e w'' => e = .returned v ∧ ∃ m, w'' = w.drewN m := h.mono fun _ _ ⟨he, hm⟩ => ⟨he, n, hm.symm⟩
theorem load_ent {w : World} {b : Nat} {x : Ent} (h : Box w b (entL x)) : (loadVar 25 ⟨b, 0, none⟩).run Try.prog w = .ok (.agg (entL x).toArray) w :=
  run_loadVar_mid w b 0 25 _ _ h.whole Try.underlying25 rfl (by kernel_rfl)
theorem meets_more {l : List Ent} {addr size : Int} {p : Nat} {x : Ent} (h : ∀ (k : Nat) x, p + 1 ≤ k → l[k]? = some x → meetsE addr size x = false) (hx : l[p]? = some x) (hq : meetsE addr size x = false) : ∀ (k : Nat) x, p ≤ k → l[k]? = some x → meetsE addr size x = false := by
  intro k y hk hy
  by_cases e : k = p
  · subst e; rw [hx] at hy; injection hy with hy; rw [← hy]; exact hq
  · exact h k y (by omega) hy
/-- What Search answers. -/
def foundZ (l : List Ent) (addr size : Int) : Value := .tuple #[.agg (entL (searchL addr size l)).toArray, .bool (thereE addr size l)]
set_option maxHeartbeats 1000000 in
theorem refSearch_any (A : Option Addr) (c : Nat) (l : List Ent) (addr size : Int) (w : World) (h : Row w w.heap.size 5 (.slice A l.length c) l.length (flat entL l)) (hf : ∀ x ∈ l, x.Fits) (hs : l.length ≤ 1000000)
    (ha : -9223372036854775808 ≤ addr ∧ addr ≤ 9223372036854775807) (hz : -9223372036854775808 ≤ size ∧ size ≤ 9223372036854775807) :
    Calls Try.prog 11 #[.slice A l.length c, .int .i64 addr, .int .i64 size] w fun e w' => e = .returned (foundZ l addr size) ∧ Below w.heap.size w w' := by
  obtain ⟨W, hW⟩ : ∃ W, W = w.alloc (.cells #[.int .i64 0, .int .i64 0, .int .i64 0, .bool false, .int .u32 0] 25) := ⟨_, rfl⟩
  have HBX : Hid (Box W w.heap.size (entL noE)) := by rw [hW]; exact Box.new w (entL noE) _
  have HBW : Hid (Below w.heap.size w W) := by rw [hW]; exact (Below.refl _ _).alloc (Nat.le_refl _) _
  have hsz : W.heap.size = w.heap.size + 1 := by rw [hW]; simp
  have HR := Lib.hid h
  have HF := Lib.hid hf
  clear h hf
  generalize hn : l.length = m at *
  have HN := Lib.hid hn
  clear hn
  go_enter Try.func11, Try.ntmps11
  go_wp2_with (first | (rw [← hW]; clear hW))
  go_loopw [8] (fun i wr => ∃ j : Nat, j ≤ m ∧ i = .int .i64 ((j : Int) - 1) ∧ Box wr w.heap.size (entL noE) ∧ Below w.heap.size w wr ∧ (∀ (k : Nat) x, j ≤ k → l[k]? = some x → meetsE addr size x = false)) (fun i _ => (intOf i + 1).toNat)
  case atStart => exact ⟨m, Nat.le_refl _, rfl, HBX.out, HBW.out, fun k x hk hx => by have := (List.getElem?_eq_some_iff.1 hx).1; have := HN.out; omega⟩
  case round =>
    obtain ⟨j, hj, rfl, hX, hB, hP⟩ := hrel
    have HX := Lib.hid hX
    have HB := Lib.hid hB
    have HP := Lib.hid hP
    have hxl := hX.lt
    clear hX hB hP
    cases j with
    | zero =>
      have HE := Lib.hid (search_none (addr := addr) (size := size) (fun k x hx => HP.out k x (by omega) hx))
      go_wp2_with (first
        | (refine wpList_store_box rfl 25 (.tmp 6) (.tmp 33) rfl w.heap.size 0 [.int .i64 0, .int .i64 0, .int .i64 0, .bool false, .int .u32 0] rfl rfl _ HX.out (by decide) 5 (by kernel_rfl) rfl (by simp [Value.oneCell']) ?_; intro w2 hX2 hg2; have HX2 := Lib.hid hX2; have HB2 : Hid (Below w.heap.size w w2) := Below.grown HB.out hg2 HB.out.size (fun q hq => by injection hq with hq; omega); clear hX2 hg2))
      refine bodyPost_ret (v := .tuple #[.agg (entL noE).toArray, .bool false]) (results_cell_tmp' (p := 6) (u := 7) Try.results11 _ _ _ ⟨w.heap.size, 0, none⟩ _ _ rfl (load_ent HX2.out) rfl) rfl ⟨?_, HB2.out⟩
      unfold foundZ
      rw [HE.out.1, HE.out.2]
    | succ p =>
      rw [show (((p + 1 : Nat) : Int) - 1) = (p : Int) by omega]
      obtain ⟨x, hx⟩ : ∃ x, l[p]? = some x := ⟨_, List.getElem?_eq_getElem (by rw [HN.out]; omega)⟩
      obtain ⟨g, o, rfl, hg, _⟩ := HR.out.at_ (by omega)
      have hgz : g < wr.heap.size := Nat.lt_of_lt_of_le hg HB.out.size
      have hrow := HR.out.below HB.out
      obtain ⟨d0, d1, d2, d3, d4⟩ := hrow.ent hx
      have HROW := Lib.hid hrow
      have hfit := HF.out x (List.mem_of_getElem? hx)
      have k0 : (0 : Int) ≤ p := by omega
      have k1 : (p : Int) < m := by omega
      have HXX := Lib.hid hx
      have HFIT := Lib.hid hfit
      clear hx hrow hfit
      cases hq : meetsE addr size x
      · have HQ := Lib.hid hq
        unfold meetsE at hq
        go_wp2_with fail
        go_quiet ((go_at_call 23; refine quiet_mine17 (refOverlap_any _ _ _ _ _ HFIT.out.1 HFIT.out.2.1 ha hz)))
        rw [hq]
        go_wp2_with fail
        go_roundw
        case rel => exact ⟨p, by omega, by first | rfl | go_num, HX.out.drewN _, Below.drewN_ HB.out _, meets_more HP.out HXX.out HQ.out⟩
        case measure => simp [intOf]
      · have HFD := Lib.hid (search_at (fun k y hk hy => HP.out k y (by omega) hy) HXX.out hq)
        unfold meetsE at hq
        go_wp2_with fail
        go_quiet ((go_at_call 23; refine quiet_mine17 (refOverlap_any _ _ _ _ _ HFIT.out.1 HFIT.out.2.1 ha hz)))
        rw [hq]
        have HX1 := Lib.hid (HX.out.drewN nq)
        have HB1 := Lib.hid (Below.drewN_ HB.out nq)
        go_wp2_with (first
          | (refine wpList_store_box rfl 25 (.tmp 6) (.tmp 32) rfl w.heap.size 0 [.int .i64 x.addr, .int .i64 x.size, .int .i64 x.step, .bool x.known, .int .u32 x.val] rfl rfl _ HX1.out (Nat.le_refl 5) 5 (by kernel_rfl) rfl (by simp [Value.oneCell']) ?_; intro w2 hX2 hg2; have HX2 := Lib.hid hX2; have HB2 : Hid (Below w.heap.size w w2) := Below.grown HB1.out hg2 HB1.out.size (fun q hq => by injection hq with hq; omega); clear hX2 hg2))
        refine bodyPost_ret (v := .tuple #[.agg (entL x).toArray, .bool true]) (results_cell_tmp' (p := 6) (u := 7) Try.results11 _ _ _ ⟨w.heap.size, 0, none⟩ _ _ rfl (load_ent HX2.out) rfl) rfl ⟨?_, HB2.out⟩
        unfold foundZ
        rw [HFD.out.1, HFD.out.2]

set_option maxHeartbeats 1000000 in
theorem refBypass_any (x : Ent) (op addr : Int) (w : World) (hf : x.Fits) :
    Calls Try.prog 13 #[.agg #[.int .i64 x.addr, .int .i64 x.size, .int .i64 x.step, .bool x.known, .int .u32 x.val], .int .i64 op, .int .i64 addr] w fun e w' => e = .returned (.tuple #[.int .u32 (bypV x op addr), .bool (bypB x op addr)]) ∧ Below w.heap.size w w' := by
  obtain ⟨W, hW⟩ : ∃ W, W = w.alloc (.cells #[.int .i64 x.addr, .int .i64 x.size, .int .i64 x.step, .bool x.known, .int .u32 x.val] 25) := ⟨_, rfl⟩
  have hbx : Box W w.heap.size (entL x) := by rw [hW]; exact Box.new w (entL x) _
  have HBW : Hid (Below w.heap.size w W) := by rw [hW]; exact (Below.refl _ _).alloc (Nat.le_refl _) _
  have d0 : W.cell? ⟨w.heap.size, 0, none⟩ = some (.int .i64 x.addr) := hbx.cell rfl
  have d1 : W.cell? ⟨w.heap.size, 1, none⟩ = some (.int .i64 x.size) := hbx.cell rfl
  have d3 : W.cell? ⟨w.heap.size, 3, none⟩ = some (.bool x.known) := hbx.cell rfl
  have d4 : W.cell? ⟨w.heap.size, 4, none⟩ = some (.int .u32 x.val) := hbx.cell rfl
  have HF := Lib.hid hf
  clear hbx hf
  have hfc := formZ_cases op
  have hsc := sizeZ_cases op
  by_cases a : formZ op = 4
  · have qa : (formZ op == 4) = true := by simpa using a
    cases b : x.known
    · rw [b] at d3
      have HN : Hid (bypB x op addr = false) := by
        have : bypB x op addr = false := by unfold bypB; simp [b]
        exact this
      go_enter Try.func13, Try.ntmps13
      go_wp2_with (first | (rw [← hW]; clear hW))
      go_quiet (first
      | (go_at_call 21; refine quiet_mine17 (refForm_any _ _))
      | (go_at_call 20; refine quiet_mine17 (refSize_any _ _)))
      go_wp2_with fail
      refine bodyPost_ret (v := .tuple #[.int .u32 0, .bool false]) (by simp [results, Try.results13, go_sem]) rfl ⟨?_, by first | exact Below.drewN_ HBW.out _ | exact Below.drewN_ ((Below.refl w.heap.size w).alloc (Nat.le_refl _) _) _⟩
      rw [show bypV x op addr = 0 by unfold bypV; rw [HN.out]; rfl, HN.out]
    · rw [b] at d3
      by_cases c : x.addr = addr
      · have qc : (x.addr == addr) = true := by simpa using c
        by_cases d : x.size = sizeZ op
        · have qd : (x.size == sizeZ op) = true := by simpa using d
          have HN : Hid (bypB x op addr = true) := by
            have : bypB x op addr = true := by unfold bypB; simp [a, b, c, d]
            exact this
          go_enter Try.func13, Try.ntmps13
          go_wp2_with (first | (rw [← hW]; clear hW))
          go_quiet (first
      | (go_at_call 21; refine quiet_mine17 (refForm_any _ _))
      | (go_at_call 20; refine quiet_mine17 (refSize_any _ _)))
          go_wp2_with fail
          refine (refExtend_any _ _ _ HF.out.2.2.2.1 (by have := HF.out.2.2.2.2; omega)).mono ?_
          rintro e w1 ⟨rfl, rfl⟩
          go_wp2_with fail
          refine bodyPost_ret (v := .tuple #[.int .u32 (extendZ op x.val), .bool true]) (by simp [results, Try.results13, go_sem]) rfl ⟨?_, by first | exact Below.drewN_ HBW.out _ | exact Below.drewN_ ((Below.refl w.heap.size w).alloc (Nat.le_refl _) _) _⟩
          rw [show bypV x op addr = extendZ op x.val by unfold bypV; rw [HN.out]; rfl, HN.out]
        · have qd : (x.size == sizeZ op) = false := by simpa using d
          have HN : Hid (bypB x op addr = false) := by
            have : bypB x op addr = false := by unfold bypB; simp [a, b, c, d]
            exact this
          go_enter Try.func13, Try.ntmps13
          go_wp2_with (first | (rw [← hW]; clear hW))
          go_quiet (first
      | (go_at_call 21; refine quiet_mine17 (refForm_any _ _))
      | (go_at_call 20; refine quiet_mine17 (refSize_any _ _)))
          go_wp2_with fail
          refine bodyPost_ret (v := .tuple #[.int .u32 0, .bool false]) (by simp [results, Try.results13, go_sem]) rfl ⟨?_, by first | exact Below.drewN_ HBW.out _ | exact Below.drewN_ ((Below.refl w.heap.size w).alloc (Nat.le_refl _) _) _⟩
          rw [show bypV x op addr = 0 by unfold bypV; rw [HN.out]; rfl, HN.out]
      · have qc : (x.addr == addr) = false := by simpa using c
        have HN : Hid (bypB x op addr = false) := by
          have : bypB x op addr = false := by unfold bypB; simp [a, b, c]
          exact this
        go_enter Try.func13, Try.ntmps13
        go_wp2_with (first | (rw [← hW]; clear hW))
        go_quiet (first
      | (go_at_call 21; refine quiet_mine17 (refForm_any _ _))
      | (go_at_call 20; refine quiet_mine17 (refSize_any _ _)))
        go_wp2_with fail
        refine bodyPost_ret (v := .tuple #[.int .u32 0, .bool false]) (by simp [results, Try.results13, go_sem]) rfl ⟨?_, by first | exact Below.drewN_ HBW.out _ | exact Below.drewN_ ((Below.refl w.heap.size w).alloc (Nat.le_refl _) _) _⟩
        rw [show bypV x op addr = 0 by unfold bypV; rw [HN.out]; rfl, HN.out]
  · have qa : (formZ op == 4) = false := by simpa using a
    have HN : Hid (bypB x op addr = false) := by
      have : bypB x op addr = false := by unfold bypB; simp [a]
      exact this
    go_enter Try.func13, Try.ntmps13
    go_wp2_with (first | (rw [← hW]; clear hW))
    go_quiet (first
      | (go_at_call 21; refine quiet_mine17 (refForm_any _ _))
      | (go_at_call 20; refine quiet_mine17 (refSize_any _ _)))
    go_wp2_with fail
    refine bodyPost_ret (v := .tuple #[.int .u32 0, .bool false]) (by simp [results, Try.results13, go_sem]) rfl ⟨?_, by first | exact Below.drewN_ HBW.out _ | exact Below.drewN_ ((Below.refl w.heap.size w).alloc (Nat.le_refl _) _) _⟩
    rw [show bypV x op addr = 0 by unfold bypV; rw [HN.out]; rfl, HN.out]
end Go.Proofs.Ytjkijjbakocilaa.Words

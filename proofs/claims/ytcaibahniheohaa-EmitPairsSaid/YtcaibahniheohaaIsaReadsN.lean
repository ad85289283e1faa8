/- Contracts of isa.Reads and of the document's own: the registers that an instruction reads, in memory of the call's own; of 'same': two equal lists are one. No conditions. -/
import Derived.Test.YtcaibahniheohaaIsaWrites
import Derived.Test.YtcaibahniheohaaRowLaws
import Derived.LoopN
namespace Go.Proofs.Ytcaibahniheohaa.Words
set_option maxRecDepth 100000
open Go.RowKit

theorem info_int : (Try.prog.info? 3).map (fun i => (i.zero, i.size, i.bytes)) = some (some (.int .i64 0), 1, 8) := by kernel_rfl
/-- A row of one number. -/
theorem one_int (x : Int) : ∀ u ∈ [Value.int .i64 x], u.oneCell' = true := by
  intro u hu
  simp only [List.mem_cons, List.not_mem_nil, or_false] at hu
  subst hu; rfl
theorem alloc_lt (w : World) (o : Obj) : w.heap.size < (w.alloc o).heap.size := by simp
/-- It lies in memory that was not there before. -/
def NewV (B : Nat) (v : Value) : Prop := ∀ a n c, v = .slice (some a) n c → B ≤ a.block
theorem NewV.none (B : Nat) {n c : Nat} : NewV B (.slice none n c) := fun a n c h => by cases h
theorem NewV.own {w : World} {base : Nat} {e : TypeId} {size : Nat} {v : Value} {n : Nat} {xs : List Value} (h : w.ownsRow base e size v n xs) : NewV base v := by
  intro a k c hv
  rcases h.2 with ⟨rfl, _⟩ | ⟨g, cap, cur, rfl, hb, _⟩
  · cases hv
  · injection hv with h1 _ _
    injection h1 with h1
    subst h1; exact hb
/-- What Reads leaves: the list, in memory that was not there before. -/
def ListedN (w : World) (zs : List Int) (e : Ending) (w' : World) : Prop :=
  ∃ v, e = .returned v ∧ Row w' w'.heap.size 1 v zs.length (zs.map (Value.int .i64)) ∧ NewV w.heap.size v ∧ Below w.heap.size w w'
theorem ListedN.nil {w w' : World} {zs : List Int} (hz : zs = []) (hb : Below w.heap.size w w') : ListedN w zs (.returned (.slice none 0 0)) w' := by
  subst hz; exact ⟨_, rfl, Row.nil _ _ _, NewV.none _, hb⟩
theorem ListedN.own {w w' : World} {zs : List Int} {v : Value} {n : Nat} {e : TypeId} {xs : List Value} (h : w'.ownsRow w.heap.size e 1 v n xs) (hn : n = zs.length) (hx : xs = zs.map (Value.int .i64)) (hb : Below w.heap.size w w') :
    ListedN w zs (.returned v) w' := by
  subst hn hx; exact ⟨_, rfl, Row.of_own h, NewV.own h, hb⟩

set_option maxHeartbeats 1000000 in
theorem readsN_no (i : Ins) (w : World) (h : rightB i = false) :
    Calls Try.prog 43 #[.agg #[.int .i64 i.op, .int .i64 i.d, .int .i64 i.a, .int .i64 i.b, .int .i64 i.imm]] w (ListedN w (readsZ i)) := by
  have hz := Lib.hid (readsZ_no h)
  go_enter Try.func43, Try.ntmps43
  go_wp2_with fail
  refine (right_any _ _).mono ?_; rintro e w1 ⟨rfl, hb1⟩
  rw [h]
  go_wp2_with fail
  go_ret
  exact ListedN.nil hz.out (((Below.refl w.heap.size w).alloc (Nat.le_refl _) _).trans (hb1.mono (by simp)))

set_option maxHeartbeats 1000000 in
theorem readsN_00 (i : Ins) (w : World) (h : rightB i = true) (ha : i.a = 0) (hb : i.b = 0) :
    Calls Try.prog 43 #[.agg #[.int .i64 i.op, .int .i64 i.d, .int .i64 i.a, .int .i64 i.b, .int .i64 i.imm]] w (ListedN w (readsZ i)) := by
  have hl := Lib.hid (show readsZ i = [] by rw [readsZ_yes h]; simp [ha, hb])
  have ha' : (i.a != 0) = false := by simpa using ha
  have hb' : (i.b != 0) = false := by simpa using hb
  have HR := Lib.hid h
  obtain ⟨i0, hi, hz0, hz1, hz2⟩ := info_parts info_int
  have HZ := Lib.hid hz2
  clear hz2 h ha hb
  go_enter Try.func43, Try.ntmps43
  go_wp2_with fail
  refine (right_any _ _).mono ?_; rintro e w1 ⟨rfl, hb1⟩
  rw [HR.out]
  obtain ⟨hc1, hf1⟩ := bcell hb1
  have hz := hb1.size
  simp at hz
  have hB1 : Below w.heap.size w w1 := ((Below.refl w.heap.size w).alloc (Nat.le_refl _) _).trans (hb1.mono (by simp))
  go_wp2_with fail
  go_ret; exact ListedN.nil hl.out hB1

set_option maxHeartbeats 1000000 in
theorem readsN_01 (i : Ins) (w : World) (h : rightB i = true) (ha : i.a = 0) (hb : i.b ≠ 0) :
    Calls Try.prog 43 #[.agg #[.int .i64 i.op, .int .i64 i.d, .int .i64 i.a, .int .i64 i.b, .int .i64 i.imm]] w (ListedN w (readsZ i)) := by
  have hl := Lib.hid (show readsZ i = [i.b] by rw [readsZ_yes h]; simp [ha, hb])
  have ha' : (i.a != 0) = false := by simpa using ha
  have hb' : (i.b != 0) = true := by simpa using hb
  have HR := Lib.hid h
  obtain ⟨i0, hi, hz0, hz1, hz2⟩ := info_parts info_int
  have HZ := Lib.hid hz2
  clear hz2 h ha hb
  go_enter Try.func43, Try.ntmps43
  go_wp2_with fail
  refine (right_any _ _).mono ?_; rintro e w1 ⟨rfl, hb1⟩
  rw [HR.out]
  obtain ⟨hc1, hf1⟩ := bcell hb1
  have hz := hb1.size
  simp at hz
  have hB1 : Below w.heap.size w w1 := ((Below.refl w.heap.size w).alloc (Nat.le_refl _) _).trans (hb1.mono (by simp))
  go_wp2_with (at_builtin; refine wpList_append_own _ rfl (.tmp 18) (.tmp 21) 34 rfl w.heap.size 3 i0 (.int .i64 0) 1 8 Try.underlying34 hi hz0 hz1 HZ.out rfl (by omega) (.slice none 0 0) 0 [] rfl (World.ownsRow_nil _ _ _ _) ⟨w1.heap.size, 0, none⟩ 1 1 [.int .i64 i.b] rfl rfl (new_cells w1 _ _ _ rfl) (one_int _) (by unfold maxLen; omega) (by omega) (by simp; omega) ?_; intro v2 w2 hown2 hg2 _)
  simp only [Nat.zero_add, List.nil_append] at hown2
  have hB2 : Below w.heap.size w w2 := (hB1.alloc (by omega) _).grown hg2 (by simp; omega) (fun k hk => (own_none k hk).elim)
  go_wp2_with fail
  go_ret; exact ListedN.own hown2 (by rw [hl.out]; rfl) (by rw [hl.out]; rfl) hB2

set_option maxHeartbeats 1000000 in
theorem readsN_10 (i : Ins) (w : World) (h : rightB i = true) (ha : i.a ≠ 0) (hb : i.b = 0) :
    Calls Try.prog 43 #[.agg #[.int .i64 i.op, .int .i64 i.d, .int .i64 i.a, .int .i64 i.b, .int .i64 i.imm]] w (ListedN w (readsZ i)) := by
  have hl := Lib.hid (show readsZ i = [i.a] by rw [readsZ_yes h]; simp [ha, hb])
  have ha' : (i.a != 0) = true := by simpa using ha
  have hb' : (i.b != 0) = false := by simpa using hb
  have HR := Lib.hid h
  obtain ⟨i0, hi, hz0, hz1, hz2⟩ := info_parts info_int
  have HZ := Lib.hid hz2
  clear hz2 h ha hb
  go_enter Try.func43, Try.ntmps43
  go_wp2_with fail
  refine (right_any _ _).mono ?_; rintro e w1 ⟨rfl, hb1⟩
  rw [HR.out]
  obtain ⟨hc1, hf1⟩ := bcell hb1
  have hz := hb1.size
  simp at hz
  have hB1 : Below w.heap.size w w1 := ((Below.refl w.heap.size w).alloc (Nat.le_refl _) _).trans (hb1.mono (by simp))
  have CB := Lib.hid (show w1.cell? ⟨w.heap.size, 3, none⟩ = some (.int .i64 i.b) by rw [hc1 _ _ (by simp)]; go_simp)
  go_wp2_with (at_builtin; refine wpList_append_own _ rfl (.tmp 10) (.tmp 13) 34 rfl w.heap.size 3 i0 (.int .i64 0) 1 8 Try.underlying34 hi hz0 hz1 HZ.out rfl (by omega) (.slice none 0 0) 0 [] rfl (World.ownsRow_nil _ _ _ _) ⟨w1.heap.size, 0, none⟩ 1 1 [.int .i64 i.a] rfl rfl (new_cells w1 _ _ _ rfl) (one_int _) (by unfold maxLen; omega) (by omega) (by simp; omega) ?_; intro v2 w2 hown2 hg2 _; simp only [Nat.zero_add, List.nil_append] at hown2; have hB2 := (hB1.alloc (Nat.le_of_lt hz) _).grown hg2 (Nat.le_trans (Nat.le_of_lt hz) (Nat.le_of_lt (alloc_lt _ _))) (fun k hk => (own_none k hk).elim); have hsz2 := grown_size hg2; have cb := (grown_cell hg2 3 hz own_not).trans CB.out)
  go_wp2_with fail
  go_ret; exact ListedN.own hown2 (by rw [hl.out]; rfl) (by rw [hl.out]; rfl) hB2

set_option maxHeartbeats 1000000 in
theorem readsN_11 (i : Ins) (w : World) (h : rightB i = true) (ha : i.a ≠ 0) (hb : i.b ≠ 0) :
    Calls Try.prog 43 #[.agg #[.int .i64 i.op, .int .i64 i.d, .int .i64 i.a, .int .i64 i.b, .int .i64 i.imm]] w (ListedN w (readsZ i)) := by
  have hl := Lib.hid (show readsZ i = [i.a, i.b] by rw [readsZ_yes h]; simp [ha, hb])
  have ha' : (i.a != 0) = true := by simpa using ha
  have hb' : (i.b != 0) = true := by simpa using hb
  have HR := Lib.hid h
  obtain ⟨i0, hi, hz0, hz1, hz2⟩ := info_parts info_int
  have HZ := Lib.hid hz2
  clear hz2 h ha hb
  go_enter Try.func43, Try.ntmps43
  go_wp2_with fail
  refine (right_any _ _).mono ?_; rintro e w1 ⟨rfl, hb1⟩
  rw [HR.out]
  obtain ⟨hc1, hf1⟩ := bcell hb1
  have hz := hb1.size
  simp at hz
  have hB1 : Below w.heap.size w w1 := ((Below.refl w.heap.size w).alloc (Nat.le_refl _) _).trans (hb1.mono (by simp))
  have CB := Lib.hid (show w1.cell? ⟨w.heap.size, 3, none⟩ = some (.int .i64 i.b) by rw [hc1 _ _ (by simp)]; go_simp)
  go_wp2_with (first | (at_builtin; refine wpList_append_own _ rfl (.tmp 10) (.tmp 13) 34 rfl w.heap.size 3 i0 (.int .i64 0) 1 8 Try.underlying34 hi hz0 hz1 HZ.out rfl (by omega) (.slice none 0 0) 0 [] rfl (World.ownsRow_nil _ _ _ _) ⟨w1.heap.size, 0, none⟩ 1 1 [.int .i64 i.a] rfl rfl (new_cells w1 _ _ _ rfl) (one_int _) (by unfold maxLen; omega) (by omega) (by simp; omega) ?_; intro v2 w2 hown2 hg2 _; simp only [Nat.zero_add, List.nil_append] at hown2; have hB2 := (hB1.alloc (Nat.le_of_lt hz) _).grown hg2 (Nat.le_trans (Nat.le_of_lt hz) (Nat.le_of_lt (alloc_lt _ _))) (fun k hk => (own_none k hk).elim); have hsz2 := grown_size hg2; have cb := (grown_cell hg2 3 hz own_not).trans CB.out; have HG := Lib.hid (fun k hk => (hown2.lt k hk).1 : ∀ k, v2.ownBlock = some k → w.heap.size ≤ k)) | (at_builtin; refine wpList_append_own _ rfl (.tmp 18) (.tmp 21) 34 rfl w.heap.size 3 i0 (.int .i64 0) 1 8 Try.underlying34 hi hz0 hz1 HZ.out rfl (by omega) v2 1 [.int .i64 i.a] rfl (hown2.alloc _) ⟨w2.heap.size, 0, none⟩ 1 1 [.int .i64 i.b] rfl rfl (new_cells w2 _ _ _ rfl) (one_int _) (by unfold maxLen; omega) (by omega) (by simp; omega) ?_; intro v3 w3 hown3 hg3 _))
  simp only [List.cons_append, List.nil_append] at hown3
  have hB3 : Below w.heap.size w w3 := (hB2.alloc (by omega) _).grown hg3 (by simp; omega) HG.out
  go_wp2_with fail
  go_ret; exact ListedN.own hown3 (by rw [hl.out]; rfl) (by rw [hl.out]; rfl) hB3

theorem readsN_any (i : Ins) (w : World) :
    Calls Try.prog 43 #[.agg #[.int .i64 i.op, .int .i64 i.d, .int .i64 i.a, .int .i64 i.b, .int .i64 i.imm]] w (ListedN w (readsZ i)) := by
  cases h : rightB i
  · exact readsN_no i w h
  · by_cases ha : i.a = 0 <;> by_cases hb : i.b = 0
    · exact readsN_00 i w h ha hb
    · exact readsN_01 i w h ha hb
    · exact readsN_10 i w h ha hb
    · exact readsN_11 i w h ha hb

set_option maxHeartbeats 1000000 in
theorem refReadsN_no (i : Ins) (w : World) (h : rightB i = false) :
    Calls Try.prog 24 #[.agg #[.int .i64 i.op, .int .i64 i.d, .int .i64 i.a, .int .i64 i.b, .int .i64 i.imm]] w (ListedN w (readsZ i)) := by
  have hz := Lib.hid (readsZ_no h)
  go_enter Try.func24, Try.ntmps24
  go_wp2_with fail
  refine (rightIns_any _ _).mono ?_; rintro e w1 ⟨rfl, hb1⟩
  rw [h]
  go_wp2_with fail
  go_ret
  exact ListedN.nil hz.out (((Below.refl w.heap.size w).alloc (Nat.le_refl _) _).trans (hb1.mono (by simp)))

set_option maxHeartbeats 1000000 in
theorem refReadsN_00 (i : Ins) (w : World) (h : rightB i = true) (ha : i.a = 0) (hb : i.b = 0) :
    Calls Try.prog 24 #[.agg #[.int .i64 i.op, .int .i64 i.d, .int .i64 i.a, .int .i64 i.b, .int .i64 i.imm]] w (ListedN w (readsZ i)) := by
  have hl := Lib.hid (show readsZ i = [] by rw [readsZ_yes h]; simp [ha, hb])
  have ha' : (i.a != 0) = false := by simpa using ha
  have hb' : (i.b != 0) = false := by simpa using hb
  have hr := (rightB_iff i).1 h
  have hc := formZ_cases i.op
  clear hr hc
  have HR := Lib.hid h
  obtain ⟨i0, hi, hz0, hz1, hz2⟩ := info_parts info_int
  have HZ := Lib.hid hz2
  clear hz2 h ha hb
  go_enter Try.func24, Try.ntmps24
  go_wp2_with fail
  refine (rightIns_any _ _).mono ?_; rintro e w1 ⟨rfl, hb1⟩
  rw [HR.out]
  obtain ⟨hc1, hf1⟩ := bcell hb1
  have hz := hb1.size
  simp at hz
  have hB1 : Below w.heap.size w w1 := ((Below.refl w.heap.size w).alloc (Nat.le_refl _) _).trans (hb1.mono (by simp))
  go_wp2_with fail
  refine (refForm_any _ _).mono ?_; rintro e w2 ⟨rfl, rfl⟩
  go_wp2_with fail
  refine (has_any _ _).mono ?_; rintro e w2 ⟨rfl, rfl⟩
  generalize hasA (formZ i.op) = hA
  generalize hasB (formZ i.op) = hBB
  go_wp2_with fail
  all_goals (go_ret; exact ListedN.nil hl.out hB1)

set_option maxHeartbeats 1000000 in
theorem refReadsN_01 (i : Ins) (w : World) (h : rightB i = true) (ha : i.a = 0) (hb : i.b ≠ 0) :
    Calls Try.prog 24 #[.agg #[.int .i64 i.op, .int .i64 i.d, .int .i64 i.a, .int .i64 i.b, .int .i64 i.imm]] w (ListedN w (readsZ i)) := by
  have hl := Lib.hid (show readsZ i = [i.b] by rw [readsZ_yes h]; simp [ha, hb])
  have ha' : (i.a != 0) = false := by simpa using ha
  have hb' : (i.b != 0) = true := by simpa using hb
  have hr := (rightB_iff i).1 h
  have hc := formZ_cases i.op
  have hBB : hasB (formZ i.op) = true := by
    have h2 := hr.2.2.2.1
    unfold hasB; rw [decide_eq_true_iff]
    split at h2 <;> omega
  clear hr hc
  rcases hA : hasA (formZ i.op) with _ | _
  all_goals
    have HR := Lib.hid h
    obtain ⟨i0, hi, hz0, hz1, hz2⟩ := info_parts info_int
    have HZ := Lib.hid hz2
    clear hz2 h ha hb
    go_enter Try.func24, Try.ntmps24
    go_wp2_with fail
    refine (rightIns_any _ _).mono ?_; rintro e w1 ⟨rfl, hb1⟩
    rw [HR.out]
    obtain ⟨hc1, hf1⟩ := bcell hb1
    have hz := hb1.size
    simp at hz
    have hB1 : Below w.heap.size w w1 := ((Below.refl w.heap.size w).alloc (Nat.le_refl _) _).trans (hb1.mono (by simp))
    go_wp2_with fail
    refine (refForm_any _ _).mono ?_; rintro e w2 ⟨rfl, rfl⟩
    go_wp2_with fail
    refine (has_any _ _).mono ?_; rintro e w2 ⟨rfl, rfl⟩
    rw [hA]
    rw [hBB]
    go_wp2_with (at_builtin; refine wpList_append_own _ rfl (.tmp 37) (.tmp 40) 34 rfl w.heap.size 3 i0 (.int .i64 0) 1 8 Try.underlying34 hi hz0 hz1 HZ.out rfl (by omega) (.slice none 0 0) 0 [] rfl (World.ownsRow_nil _ _ _ _) ⟨w1.heap.size, 0, none⟩ 1 1 [.int .i64 i.b] rfl rfl (new_cells w1 _ _ _ rfl) (one_int _) (by unfold maxLen; omega) (by omega) (by simp; omega) ?_; intro v2 w2 hown2 hg2 _)
    simp only [Nat.zero_add, List.nil_append] at hown2
    have hB2 : Below w.heap.size w w2 := (hB1.alloc (by omega) _).grown hg2 (by simp; omega) (fun k hk => (own_none k hk).elim)
    go_wp2_with fail
    all_goals (go_ret; exact ListedN.own hown2 (by rw [hl.out]; rfl) (by rw [hl.out]; rfl) hB2)

set_option maxHeartbeats 1000000 in
theorem refReadsN_10 (i : Ins) (w : World) (h : rightB i = true) (ha : i.a ≠ 0) (hb : i.b = 0) :
    Calls Try.prog 24 #[.agg #[.int .i64 i.op, .int .i64 i.d, .int .i64 i.a, .int .i64 i.b, .int .i64 i.imm]] w (ListedN w (readsZ i)) := by
  have hl := Lib.hid (show readsZ i = [i.a] by rw [readsZ_yes h]; simp [ha, hb])
  have ha' : (i.a != 0) = true := by simpa using ha
  have hb' : (i.b != 0) = false := by simpa using hb
  have hr := (rightB_iff i).1 h
  have hc := formZ_cases i.op
  have hA : hasA (formZ i.op) = true := by
    have h2 := hr.2.2.1
    unfold hasA; rw [decide_eq_true_iff]
    split at h2 <;> omega
  clear hr hc
  have HR := Lib.hid h
  obtain ⟨i0, hi, hz0, hz1, hz2⟩ := info_parts info_int
  have HZ := Lib.hid hz2
  clear hz2 h ha hb
  go_enter Try.func24, Try.ntmps24
  go_wp2_with fail
  refine (rightIns_any _ _).mono ?_; rintro e w1 ⟨rfl, hb1⟩
  rw [HR.out]
  obtain ⟨hc1, hf1⟩ := bcell hb1
  have hz := hb1.size
  simp at hz
  have hB1 : Below w.heap.size w w1 := ((Below.refl w.heap.size w).alloc (Nat.le_refl _) _).trans (hb1.mono (by simp))
  go_wp2_with fail
  refine (refForm_any _ _).mono ?_; rintro e w2 ⟨rfl, rfl⟩
  go_wp2_with fail
  refine (has_any _ _).mono ?_; rintro e w2 ⟨rfl, rfl⟩
  rw [hA]
  generalize hasB (formZ i.op) = hBB
  have CB := Lib.hid (show w1.cell? ⟨w.heap.size, 3, none⟩ = some (.int .i64 i.b) by rw [hc1 _ _ (by simp)]; go_simp)
  go_wp2_with (at_builtin; refine wpList_append_own _ rfl (.tmp 26) (.tmp 29) 34 rfl w.heap.size 3 i0 (.int .i64 0) 1 8 Try.underlying34 hi hz0 hz1 HZ.out rfl (by omega) (.slice none 0 0) 0 [] rfl (World.ownsRow_nil _ _ _ _) ⟨w1.heap.size, 0, none⟩ 1 1 [.int .i64 i.a] rfl rfl (new_cells w1 _ _ _ rfl) (one_int _) (by unfold maxLen; omega) (by omega) (by simp; omega) ?_; intro v2 w2 hown2 hg2 _; simp only [Nat.zero_add, List.nil_append] at hown2; have hB2 := (hB1.alloc (Nat.le_of_lt hz) _).grown hg2 (Nat.le_trans (Nat.le_of_lt hz) (Nat.le_of_lt (alloc_lt _ _))) (fun k hk => (own_none k hk).elim); have hsz2 := grown_size hg2; have cb := (grown_cell hg2 3 hz own_not).trans CB.out)
  go_wp2_with fail
  all_goals (go_ret; exact ListedN.own hown2 (by rw [hl.out]; rfl) (by rw [hl.out]; rfl) hB2)

set_option maxHeartbeats 1000000 in
theorem refReadsN_11 (i : Ins) (w : World) (h : rightB i = true) (ha : i.a ≠ 0) (hb : i.b ≠ 0) :
    Calls Try.prog 24 #[.agg #[.int .i64 i.op, .int .i64 i.d, .int .i64 i.a, .int .i64 i.b, .int .i64 i.imm]] w (ListedN w (readsZ i)) := by
  have hl := Lib.hid (show readsZ i = [i.a, i.b] by rw [readsZ_yes h]; simp [ha, hb])
  have ha' : (i.a != 0) = true := by simpa using ha
  have hb' : (i.b != 0) = true := by simpa using hb
  have hr := (rightB_iff i).1 h
  have hc := formZ_cases i.op
  have hA : hasA (formZ i.op) = true := by
    have h2 := hr.2.2.1
    unfold hasA; rw [decide_eq_true_iff]
    split at h2 <;> omega
  have hBB : hasB (formZ i.op) = true := by
    have h2 := hr.2.2.2.1
    unfold hasB; rw [decide_eq_true_iff]
    split at h2 <;> omega
  clear hr hc
  have HR := Lib.hid h
  obtain ⟨i0, hi, hz0, hz1, hz2⟩ := info_parts info_int
  have HZ := Lib.hid hz2
  clear hz2 h ha hb
  go_enter Try.func24, Try.ntmps24
  go_wp2_with fail
  refine (rightIns_any _ _).mono ?_; rintro e w1 ⟨rfl, hb1⟩
  rw [HR.out]
  obtain ⟨hc1, hf1⟩ := bcell hb1
  have hz := hb1.size
  simp at hz
  have hB1 : Below w.heap.size w w1 := ((Below.refl w.heap.size w).alloc (Nat.le_refl _) _).trans (hb1.mono (by simp))
  go_wp2_with fail
  refine (refForm_any _ _).mono ?_; rintro e w2 ⟨rfl, rfl⟩
  go_wp2_with fail
  refine (has_any _ _).mono ?_; rintro e w2 ⟨rfl, rfl⟩
  rw [hA]
  rw [hBB]
  have CB := Lib.hid (show w1.cell? ⟨w.heap.size, 3, none⟩ = some (.int .i64 i.b) by rw [hc1 _ _ (by simp)]; go_simp)
  go_wp2_with (first | (at_builtin; refine wpList_append_own _ rfl (.tmp 26) (.tmp 29) 34 rfl w.heap.size 3 i0 (.int .i64 0) 1 8 Try.underlying34 hi hz0 hz1 HZ.out rfl (by omega) (.slice none 0 0) 0 [] rfl (World.ownsRow_nil _ _ _ _) ⟨w1.heap.size, 0, none⟩ 1 1 [.int .i64 i.a] rfl rfl (new_cells w1 _ _ _ rfl) (one_int _) (by unfold maxLen; omega) (by omega) (by simp; omega) ?_; intro v2 w2 hown2 hg2 _; simp only [Nat.zero_add, List.nil_append] at hown2; have hB2 := (hB1.alloc (Nat.le_of_lt hz) _).grown hg2 (Nat.le_trans (Nat.le_of_lt hz) (Nat.le_of_lt (alloc_lt _ _))) (fun k hk => (own_none k hk).elim); have hsz2 := grown_size hg2; have cb := (grown_cell hg2 3 hz own_not).trans CB.out; have HG := Lib.hid (fun k hk => (hown2.lt k hk).1 : ∀ k, v2.ownBlock = some k → w.heap.size ≤ k)) | (at_builtin; refine wpList_append_own _ rfl (.tmp 37) (.tmp 40) 34 rfl w.heap.size 3 i0 (.int .i64 0) 1 8 Try.underlying34 hi hz0 hz1 HZ.out rfl (by omega) v2 1 [.int .i64 i.a] rfl (hown2.alloc _) ⟨w2.heap.size, 0, none⟩ 1 1 [.int .i64 i.b] rfl rfl (new_cells w2 _ _ _ rfl) (one_int _) (by unfold maxLen; omega) (by omega) (by simp; omega) ?_; intro v3 w3 hown3 hg3 _))
  simp only [List.cons_append, List.nil_append] at hown3
  have hB3 : Below w.heap.size w w3 := (hB2.alloc (by omega) _).grown hg3 (by simp; omega) HG.out
  go_wp2_with fail
  all_goals (go_ret; exact ListedN.own hown3 (by rw [hl.out]; rfl) (by rw [hl.out]; rfl) hB3)

theorem refReadsN_any (i : Ins) (w : World) :
    Calls Try.prog 24 #[.agg #[.int .i64 i.op, .int .i64 i.d, .int .i64 i.a, .int .i64 i.b, .int .i64 i.imm]] w (ListedN w (readsZ i)) := by
  cases h : rightB i
  · exact refReadsN_no i w h
  · by_cases ha : i.a = 0 <;> by_cases hb : i.b = 0
    · exact refReadsN_00 i w h ha hb
    · exact refReadsN_01 i w h ha hb
    · exact refReadsN_10 i w h ha hb
    · exact refReadsN_11 i w h ha hb

end Go.Proofs.Ytcaibahniheohaa.Words

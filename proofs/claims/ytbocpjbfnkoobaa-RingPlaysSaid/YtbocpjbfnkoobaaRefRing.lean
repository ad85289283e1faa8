/- Contracts of the document's own queue of chapter 15. -/
import Derived.Test.YtbocpjbfnkoobaaRingAll
import Derived.Test.YtbocpjbfnkoobaaQueRow
namespace Go.Proofs.Ytbocpjbfnkoobaa.Words
set_option maxRecDepth 100000
open Go.RowKit
set_option linter.unusedVariables false
set_option linter.unusedSimpArgs false

/-- Block b is the document's queue of at most m words, and holds q; what it lists lies behind b. -/
def Rf (w : World) (b m : Nat) (q : List Int) : Prop := ∃ v, Box w b [.int .i64 m, v] ∧ QRow w (b + 1) 30 v (w32 q) ∧ m ≤ 64 ∧ q.length ≤ m
section
variable {w w' : World} {b m : Nat} {q : List Int}
theorem Rf.lt (h : Rf w b m q) : b < w.heap.size := by obtain ⟨v, h, _⟩ := h; exact h.lt
theorem Rf.ql (h : Rf w b m q) : q.length ≤ m := by obtain ⟨v, _, _, _, h⟩ := h; exact h
theorem Rf.below (h : Rf w b m q) (hk : Below w.heap.size w w') : Rf w' b m q := by
  obtain ⟨v, h1, h2, h3, h4⟩ := h
  exact ⟨v, h1.below hk h1.lt, h2.below hk, h3, h4⟩
/-- What lies ahead of b may turn. -/
theorem Rf.keepS {T : Nat → Prop} (h : Rf w b m q) (hk : KeepS T w w') (hb : ∀ j, T j → j < b) : Rf w' b m q := by
  obtain ⟨v, h1, h2, h3, h4⟩ := h
  exact ⟨v, h1.keepS hk (fun e => by have := hb _ e; omega), h2.keepS hk (fun g hg e => by have := hb _ e; have := (h2.lt g hg).1; omega), h3, h4⟩
end
set_option maxHeartbeats 400000 in
theorem refCap64_any (n : Int) (w : World) :
    Calls Try.prog 19 #[.int .i64 n, .int .i64 1, .int .i64 64] w fun e w' => e = .returned (.int .i64 (capQ n)) ∧ w = w' := by
  by_cases h1 : n < 1
  · have e : ((capQ n : Nat) : Int) = 1 := by unfold capQ; rw [if_pos h1]; rfl
    rw [e]
    go_enter Try.func19, Try.ntmps19
    go_wp2_with fail
    go_ret
    exact ⟨rfl, rfl⟩
  · by_cases h2 : 64 < n
    · have e : ((capQ n : Nat) : Int) = 64 := by unfold capQ; rw [if_neg h1, if_pos h2]; rfl
      rw [e]
      go_enter Try.func19, Try.ntmps19
      go_wp2_with fail
      go_ret
      exact ⟨rfl, rfl⟩
    · have e : ((capQ n : Nat) : Int) = n := by unfold capQ; rw [if_neg h1, if_neg h2]; omega
      rw [e]
      go_enter Try.func19, Try.ntmps19
      go_wp2_with fail
      go_ret
      exact ⟨rfl, rfl⟩
theorem ref_made (w : World) (m : Nat) (h2 : m ≤ 64) : Rf (w.alloc (.cells #[.int .i64 m, .slice none 0 0] 45)) w.heap.size m [] :=
  ⟨_, Box.new w [.int .i64 m, .slice none 0 0] _, QRow.nil _ _ _, h2, by simp⟩
set_option maxHeartbeats 400000 in
theorem refNew_any (n : Int) (w : World) :
    Calls Try.prog 9 #[.int .i64 n] w fun e w' => e = .returned (.pointer (some ⟨w.heap.size, 0, none⟩)) ∧ Rf w' w.heap.size (capQ n) [] ∧ Below w.heap.size w w' := by
  have HM := Lib.hid (ref_made w (capQ n) (capQ_64 n))
  go_enter Try.func9, Try.ntmps9
  go_wp2_with fail
  refine (refCap64_any n w).mono ?_
  rintro e w1 ⟨rfl, rfl⟩
  go_wp2_with fail
  go_ret
  exact ⟨rfl, HM.out, (Below.refl _ _).alloc (Nat.le_refl _) _⟩

set_option maxHeartbeats 400000 in
theorem refRoom_any (b m : Nat) (q : List Int) (w : World) (h : Rf w b m q) :
    Calls Try.prog 15 #[.pointer (some ⟨b, 0, none⟩)] w fun e w' => e = .returned (.int .i64 ((m - q.length : Nat) : Int)) ∧ Below w.heap.size w w' := by
  obtain ⟨v, hB, hq, h2, h3⟩ := h
  obtain ⟨A, c, rfl⟩ := hq.form
  rw [w32_len] at hB
  have d0 : w.cell? ⟨b, 0, none⟩ = some (.int .i64 m) := hB.cell rfl
  have d1 : w.cell? ⟨b, 1, none⟩ = some (.slice A q.length c) := hB.cell rfl
  have HE := Lib.hid (show (m : Int) - q.length = ((m - q.length : Nat) : Int) by omega)
  clear hB hq
  generalize q.length = n at *
  go_enter Try.func15, Try.ntmps15
  go_wp2_with fail
  go_quiet (fail)
  go_wp2_with fail
  go_ret
  exact ⟨ret_int HE.out, Below.drewN_ (Below.refl _ _) _⟩

set_option maxHeartbeats 400000 in
theorem refAll_any (b m : Nat) (q : List Int) (w : World) (h : Rf w b m q) :
    Calls Try.prog 18 #[.pointer (some ⟨b, 0, none⟩)] w fun e w' => ∃ v, e = .returned v ∧ w'.ownsRow w.heap.size 30 1 v q.length (w32 q) ∧ Below w.heap.size w w' := by
  obtain ⟨i0, hi, hq0, hq1, hq2⟩ := parts_u32
  have HI := Lib.hid hi
  have HZ0 := Lib.hid hq0
  have HZ1 := Lib.hid hq1
  have HZ2 := Lib.hid hq2
  clear hi hq0 hq1 hq2
  obtain ⟨v, hB, hq, h2, h3⟩ := h
  have hr := hq.row
  obtain ⟨A, c, rfl⟩ := hq.form
  rw [w32_len] at hB hr
  have d1 : w.cell? ⟨b, 1, none⟩ = some (.slice A q.length c) := hB.cell rfl
  have HR := Lib.hid hr
  clear hB hq hr
  generalize hqn : q.length = n at *
  have HQ := Lib.hid hqn
  clear hqn
  go_enter Try.func18, Try.ntmps18
  go_wp2_with (first
    | (refine wpList_append_new _ rfl (.const (.slice none 0 0)) (.tmp 6) 23 rfl w.heap.size 30 i0 _ 1 4 Try.underlying23 HI.out HZ0.out HZ1.out HZ2.out rfl (by omega) (.slice none 0 0) 0 [] rfl (World.ownsRow_nil _ _ _ _) _ (.slice A n c) n (w32 q) rfl HR.out (w32_one _) (by unfold maxLen; omega) (by omega) (Nat.le_refl _) ?_; intro v2 w2 hO hg hn2; have HO2 := Lib.hid hO; have HK2 : Hid (Below w.heap.size w w2) := Below.grown (Below.refl _ _) hg (Nat.le_refl _) (fun q hq => by cases hq); clear hO hg hn2))
  go_ret
  refine ⟨_, rfl, ?_, HK2.out⟩
  have := HO2.out
  rwa [Nat.zero_add, List.nil_append] at this

set_option maxHeartbeats 400000 in
theorem refPush_any (b m : Nat) (q : List Int) (x : Int) (w : World) (h : Rf w b m q) :
    Calls Try.prog 11 #[.pointer (some ⟨b, 0, none⟩), .int .u32 x] w fun e w' => e = .returned (.bool (goesQ m q)) ∧ Rf w' b m (pushQ m q x) ∧ KeepS (fun j => b ≤ j) w w' := by
  obtain ⟨i0, hi, hq0, hq1, hq2⟩ := parts_u32
  have HI := Lib.hid hi
  have HZ0 := Lib.hid hq0
  have HZ1 := Lib.hid hq1
  have HZ2 := Lib.hid hq2
  clear hi hq0 hq1 hq2
  obtain ⟨v, hB, hq, h2, h3⟩ := h
  have hbl := hB.lt
  obtain ⟨A, c, rfl⟩ := hq.form
  rw [w32_len] at hB hq
  have d0 : w.cell? ⟨b, 0, none⟩ = some (.int .i64 m) := hB.cell rfl
  have d1 : w.cell? ⟨b, 1, none⟩ = some (.slice A q.length c) := hB.cell rfl
  have HB := Lib.hid hB
  have HQ := Lib.hid hq
  clear hB hq
  by_cases hl : q.length < m
  · have HG := Lib.hid (show goesQ m q = true from decide_eq_true hl)
    have HP := Lib.hid (show pushQ m q x = q ++ [x] from if_pos hl)
    obtain ⟨n, hn⟩ : ∃ n, n = q.length := ⟨_, rfl⟩
    rw [← hn] at HB HQ d1 hl h3
    have HN := Lib.hid hn
    clear hn
    have k0 : ¬ (m : Int) ≤ n := by omega
    go_enter Try.func11, Try.ntmps11
    go_wp2_with fail
    go_quiet (fail)
    have HB1 := Lib.hid ((HB.out.drewN nq).alloc (.cells #[.int .u32 x] 30))
    have HY1 : Hid (Below w.heap.size w ((w.drewN nq).alloc (.cells #[.int .u32 x] 30))) := (Below.drewN_ (Below.refl _ _) nq).alloc (by simp) _
    have HQ1 := Lib.hid (HQ.out.below HY1.out)
    have HC := Lib.hid (show ((w.drewN nq).alloc (.cells #[.int .u32 x] 30)).cell? ⟨w.heap.size, 0, none⟩ = some (.int .u32 x) from new_cells (w.drewN nq) #[.int .u32 x] 30 [.int .u32 x] rfl 0 _ rfl)
    have HLT := Lib.hid (fun k hk => (HQ1.out.lt k hk).1)
    have kn : ¬ m ≤ n := by omega
    go_wp2_with (first
      | (refine wpList_append_q _ rfl (.tmp 19) (.tmp 21) 23 rfl (b + 1) 30 i0 _ 4 Try.underlying23 HI.out HZ0.out HZ1.out HZ2.out rfl (.slice A n c) (w32 q) rfl HQ1.out ⟨w.heap.size, 0, none⟩ 1 (.int .u32 x) rfl HC.out rfl (by rw [w32_len, ← HN.out]; unfold maxLen; omega) (by rw [w32_len, ← HN.out]; omega) (by simp; omega) ?_; intro v2 w2 hq2 hg2; obtain ⟨A2, n2, c2, rfl⟩ := hq2.shape; have hlt2 := hq2.lt; have hrow2 := Lib.hid hq2; have HB2 := HB1.out.grown hg2 (fun e => by have := HLT.out b e.symm; omega); have e1 : w2.cell? ⟨b, 1, none⟩ = some (.slice A n c) := HB2.cell rfl; have e2 := HB2.frozen 1; have e3 := HB2.lt; have HBX := Lib.hid HB2; have HKX : Hid (KeepS (fun j => b ≤ j) w w2) := (KeepS.of_below HY1.out).trans (KeepS.of_grown hg2 (fun k e => by have := HLT.out k e; omega)); have HL2 := Lib.hid hlt2; clear hg2 HB2 hlt2 hq2))
    go_ret
    refine ⟨ret_bool HG.out.symm, ?_, HKX.out.setCell (Nat.le_refl _) _ _⟩
    rw [HP.out]
    refine ⟨_, HBX.out.setCell 1 (.slice A2 n2 c2), ?_, h2, by rw [List.length_append, ← HN.out]; exact hl⟩
    rw [← w32_app]
    exact hrow2.out.keepS ((KeepS.refl (fun j => j = b) w2).setCell rfl 1 _) (fun g hg e => by have := (HL2.out g hg).1; omega)
  · have HG := Lib.hid (show goesQ m q = false from decide_eq_false hl)
    have HP := Lib.hid (show pushQ m q x = q from if_neg hl)
    have hql : q.length = m := by omega
    rw [hql] at d1 HB HQ
    have HE := Lib.hid hql
    clear hql hl h3
    go_enter Try.func11, Try.ntmps11
    go_wp2_with fail
    go_quiet (fail)
    go_wp2_with fail
    go_ret
    refine ⟨ret_bool HG.out.symm, ?_, (KeepS.refl _ w).drewN _⟩
    rw [HP.out]
    exact ⟨_, HB.out.drewN _, HQ.out.below (Below.drewN_ (Below.refl _ _) _), h2, by rw [HE.out]; exact Nat.le_refl _⟩

set_option maxHeartbeats 400000 in
theorem refPop_any (b m : Nat) (q : List Int) (w : World) (h : Rf w b m q) :
    Calls Try.prog 13 #[.pointer (some ⟨b, 0, none⟩)] w fun e w' => e = .returned (.tuple #[.int .u32 (headQ q), .bool (anyQ q)]) ∧ Rf w' b m q.tail ∧ KeepS (fun j => b ≤ j) w w' := by
  obtain ⟨v, hB, hq, h2, h3⟩ := h
  have hbl := hB.lt
  obtain ⟨A, c, rfl⟩ := hq.form
  cases q with
  | nil =>
    have d1 : w.cell? ⟨b, 1, none⟩ = some (.slice A 0 c) := hB.cell rfl
    have HB := Lib.hid hB
    have HQ := Lib.hid hq
    clear hB hq
    go_enter Try.func13, Try.ntmps13
    go_wp2_with fail
    exact bodyPost_ret (v := .tuple #[.int .u32 0, .bool false]) (by simp [results, Try.results13, go_sem]) rfl ⟨rfl, ⟨_, HB.out, HQ.out, h2, h3⟩, KeepS.refl _ w⟩
  | cons x q =>
    have hw : (w32 (x :: q)).length = q.length + 1 := by rw [w32_len]; rfl
    rw [hw] at hB hq
    obtain ⟨g, off, hA, hg⟩ : ∃ g off, A = some ⟨g, off, none⟩ ∧ w.cell? ⟨g, off, none⟩ = some (.int .u32 x) := by
      have hr := hq.row
      rw [hw] at hr
      obtain ⟨g, off, h1, _, h4⟩ := hr.at_ (by omega)
      exact ⟨g, off, h1, h4 0 _ rfl⟩
    subst hA
    have hcap : q.length + 1 ≤ c ∧ c ≤ 9223372036854775807 := by
      have hr := hq.row
      rw [hw] at hr
      exact hr.cap
    have d1 : w.cell? ⟨b, 1, none⟩ = some (.slice (some ⟨g, off, none⟩) (q.length + 1) c) := hB.cell rfl
    have f1 := hB.frozen 1
    have hlt := (hq.lt g rfl).1
    have HB := Lib.hid hB
    have HQ := Lib.hid hq
    clear hB hq hw
    have HN := Lib.hid h3
    simp only [List.length_cons] at h3
    obtain ⟨n, hn⟩ : ∃ n, n = q.length := ⟨_, rfl⟩
    rw [← hn] at HB HQ d1 hcap h3
    have HE := Lib.hid hn
    clear hn
    by_cases hc : c = 1
    · subst hc
      have hn0 : n = 0 := by omega
      subst hn0
      go_enter Try.func13, Try.ntmps13
      go_wp2_with fail
      have hq0 : q = [] := List.eq_nil_of_length_eq_zero HE.out.symm
      subst hq0
      refine bodyPost_ret (v := .tuple #[.int .u32 x, .bool true]) (by simp [results, Try.results13, go_sem]) rfl ⟨rfl, ?_, (KeepS.refl _ w).setCell (Nat.le_refl _) _ _⟩
      exact ⟨_, HB.out.setCell 1 (.slice (some ⟨g, off, none⟩) 0 0), HQ.out.tail1.2.keepS ((KeepS.refl (fun j => j = b) w).setCell rfl 1 _) (fun k hk e => by simp [Value.ownBlock] at hk; omega), h2, by simp⟩
    · have hc1 : 1 < c := by omega
      have hc2 : (1 : Int) < c := by omega
      go_enter Try.func13, Try.ntmps13
      go_wp2_with fail
      refine bodyPost_ret (v := .tuple #[.int .u32 x, .bool true]) (by simp [results, Try.results13, go_sem]) rfl ⟨rfl, ?_, (KeepS.refl _ w).setCell (Nat.le_refl _) _ _⟩
      have hqt := HQ.out.tail (xs := w32 q)
      rw [w32_len, ← HE.out] at hqt
      exact ⟨_, HB.out.setCell 1 (.slice (some ⟨g, off + 1, none⟩) n (c - 1)), hqt.keepS ((KeepS.refl (fun j => j = b) w).setCell rfl 1 _) (fun k hk e => by simp [Value.ownBlock] at hk; omega), h2, by show q.length ≤ m; rw [← HE.out]; omega⟩
end Go.Proofs.Ytbocpjbfnkoobaa.Words

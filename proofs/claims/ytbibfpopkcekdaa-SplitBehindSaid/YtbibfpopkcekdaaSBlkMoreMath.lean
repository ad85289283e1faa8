/- Plain mathematics of chapter 10: code behind a halt. Nothing here speaks of one program text. -/
import Derived.Test.YtbibfpopkcekdaaSBlkCovMath
namespace Go.Proofs.Ytbibfpopkcekdaa.Words
set_option maxRecDepth 100000
set_option linter.unusedVariables false
open Go.RowKit

def shiftZ (n m : Int) : Int := if n < 0 then -1 else n + m
theorem getD_left {L M : List Nat} {k : Nat} (h : k < L.length) : (L ++ M).getD k 0 = L.getD k 0 := by
  rw [List.getD_eq_getElem?_getD, List.getD_eq_getElem?_getD, List.getElem?_append_left h]
theorem getD_right {L M : List Nat} {n k : Nat} (h : k < M.length) : (L ++ M.map (· + n)).getD (L.length + k) 0 = M.getD k 0 + n := by
  rw [List.getD_eq_getElem?_getD, List.getD_eq_getElem?_getD, List.getElem?_append_right (by omega), Nat.add_sub_cancel_left, List.getElem?_map, List.getElem?_eq_getElem h]; rfl
section
variable {P Q : List Ins}
/-- What is asked of the two programs. -/
structure TwoP (P Q : List Ins) : Prop where
  np : 0 < P.length
  nq : 0 < Q.length
  last : ∃ i, P[P.length - 1]? = some i ∧ i.op = 41
  tp : ∀ (j : Nat) (i : Ins), P[j]? = some i → isJump i = true → 0 ≤ (j : Int) + i.imm ∧ (j : Int) + i.imm < P.length
  tq : ∀ (j : Nat) (i : Ins), Q[j]? = some i → isJump i = true → 0 ≤ (j : Int) + i.imm ∧ (j : Int) + i.imm < Q.length
theorem halt_end {i : Ins} (h : i.op = 41) : isEnd i = true ∧ isJump i = false ∧ goesB i = false := by
  refine ⟨by unfold isEnd; simp [h], by unfold isJump; simp [h], goesB_halt h⟩
where goesB_halt {i : Ins} (h : i.op = 41) : goesB i = false := by unfold goesB; simp [h]
theorem at_left {j : Nat} (h : j < P.length) : (P ++ Q)[j]? = P[j]? := List.getElem?_append_left h
theorem at_right {j : Nat} : (P ++ Q)[P.length + j]? = Q[j]? := by rw [List.getElem?_append_right (by omega), Nat.add_sub_cancel_left]
theorem lead_left (T : TwoP P Q) {x : Nat} (hx : x < P.length) : IsLead (P ++ Q) x ↔ IsLead P x := by
  constructor
  · rintro (h | ⟨j, i, h1, h2, h3⟩ | ⟨j, i, h1, h2, h3⟩)
    · exact .inl h
    · by_cases hj : j < P.length
      · rw [at_left hj] at h1; exact .inr (.inl ⟨j, i, h1, h2, h3⟩)
      · obtain ⟨k, rfl⟩ : ∃ k, j = P.length + k := ⟨j - P.length, by omega⟩
        rw [at_right] at h1
        have := T.tq k i h1 h2
        omega
    · rw [at_left (by omega)] at h1; exact .inr (.inr ⟨j, i, h1, h2, h3⟩)
  · rintro (h | ⟨j, i, h1, h2, h3⟩ | ⟨j, i, h1, h2, h3⟩)
    · exact .inl h
    · have hj : j < P.length := (List.getElem?_eq_some_iff.1 h1).1
      exact .inr (.inl ⟨j, i, by rw [at_left hj]; exact h1, h2, h3⟩)
    · have hj : j < P.length := (List.getElem?_eq_some_iff.1 h1).1
      exact .inr (.inr ⟨j, i, by rw [at_left hj]; exact h1, h2, h3⟩)
theorem lead_right (T : TwoP P Q) {y : Nat} (hy : y < Q.length) : IsLead (P ++ Q) (P.length + y) ↔ IsLead Q y := by
  have hnp := T.np
  constructor
  · rintro (h | ⟨j, i, h1, h2, h3⟩ | ⟨j, i, h1, h2, h3⟩)
    · omega
    · by_cases hj : j < P.length
      · rw [at_left hj] at h1
        have := T.tp j i h1 h2
        omega
      · obtain ⟨k, rfl⟩ : ∃ k, j = P.length + k := ⟨j - P.length, by omega⟩
        rw [at_right] at h1
        have := T.tq k i h1 h2
        exact .inr (.inl ⟨k, i, h1, h2, by omega⟩)
    · by_cases hj : j < P.length
      · exact .inl (by omega)
      · obtain ⟨k, rfl⟩ : ∃ k, j = P.length + k := ⟨j - P.length, by omega⟩
        rw [at_right] at h1
        exact .inr (.inr ⟨k, i, h1, h2, by omega⟩)
  · rintro (h | ⟨j, i, h1, h2, h3⟩ | ⟨j, i, h1, h2, h3⟩)
    · obtain ⟨i, h1, h2⟩ := T.last
      exact .inr (.inr ⟨P.length - 1, i, by rw [at_left (by omega)]; exact h1, (halt_end h2).1, by omega⟩)
    · have := T.tq j i h1 h2
      exact .inr (.inl ⟨P.length + j, i, by rw [at_right]; exact h1, h2, by omega⟩)
    · exact .inr (.inr ⟨P.length + j, i, by rw [at_right]; exact h1, h2, by omega⟩)
theorem leads_two (T : TwoP P Q) : leadsZ (P ++ Q) = leadsZ P ++ (leadsZ Q).map (· + P.length) := by
  refine sorted_ext (leads_sorted _) ?_ fun x => ?_
  · rw [List.pairwise_append]
    refine ⟨leads_sorted P, ?_, fun a ha b hb => ?_⟩
    · rw [List.pairwise_map]; exact (leads_sorted Q).imp fun h => by omega
    · have := (mem_leads.1 ha).1
      obtain ⟨y, _, rfl⟩ := List.mem_map.1 hb
      omega
  · rw [mem_leads, List.mem_append, List.mem_map, mem_leads, List.length_append]
    constructor
    · rintro ⟨h1, h2⟩
      by_cases hx : x < P.length
      · exact .inl ⟨hx, (lead_left T hx).1 h2⟩
      · obtain ⟨y, rfl⟩ : ∃ y, x = P.length + y := ⟨x - P.length, by omega⟩
        exact .inr ⟨y, mem_leads.2 ⟨by omega, (lead_right T (by omega)).1 h2⟩, by omega⟩
    · rintro (⟨h1, h2⟩ | ⟨y, h1, rfl⟩)
      · exact ⟨by omega, (lead_left T h1).2 h2⟩
      · obtain ⟨h1, h2⟩ := mem_leads.1 h1
        rw [Nat.add_comm y]
        exact ⟨by omega, (lead_right T h1).2 h2⟩
theorem two_len (T : TwoP P Q) : (leadsZ (P ++ Q)).length = (leadsZ P).length + (leadsZ Q).length := by rw [leads_two T]; simp
theorem num_left (T : TwoP P Q) {x : Int} (hx : x < P.length) : numZ (leadsZ (P ++ Q)) x = numZ (leadsZ P) x := by
  by_cases h : ∃ q, q < (leadsZ P).length ∧ (((leadsZ P).getD q 0 : Nat) : Int) = x
  · obtain ⟨q, hq, e⟩ := h
    rw [numZ_idx (leads_sorted P) hq e]
    refine numZ_idx (leads_sorted _) (by rw [two_len T]; omega) ?_
    rw [leads_two T, getD_left hq]; exact e
  · rw [numZ_none (fun j hj e => h ⟨j, hj, e⟩)]
    refine numZ_none fun j hj e => ?_
    rw [two_len T] at hj
    rw [leads_two T] at e
    by_cases hjp : j < (leadsZ P).length
    · rw [getD_left hjp] at e; exact h ⟨j, hjp, e⟩
    · obtain ⟨k, rfl⟩ : ∃ k, j = (leadsZ P).length + k := ⟨j - (leadsZ P).length, by omega⟩
      rw [getD_right (by omega)] at e
      omega
theorem num_right (T : TwoP P Q) {y : Int} (hy : 0 ≤ y) : numZ (leadsZ (P ++ Q)) ((P.length : Int) + y) = shiftZ (numZ (leadsZ Q) y) (leadsZ P).length := by
  by_cases h : ∃ q, q < (leadsZ Q).length ∧ (((leadsZ Q).getD q 0 : Nat) : Int) = y
  · obtain ⟨q, hq, e⟩ := h
    rw [numZ_idx (leads_sorted Q) hq e]
    rw [numZ_idx (j := (leadsZ P).length + q) (leads_sorted _) (by rw [two_len T]; omega) (by rw [leads_two T, getD_right hq]; omega)]
    unfold shiftZ; rw [if_neg (by omega)]; omega
  · rw [numZ_none (fun j hj e => h ⟨j, hj, e⟩)]
    rw [numZ_none fun j hj e => ?_]
    · rfl
    · rw [two_len T] at hj
      rw [leads_two T] at e
      by_cases hjp : j < (leadsZ P).length
      · rw [getD_left hjp] at e
        have := (mem_leads.1 (leadD_mem hjp)).1
        omega
      · obtain ⟨k, rfl⟩ : ∃ k, j = (leadsZ P).length + k := ⟨j - (leadsZ P).length, by omega⟩
        rw [getD_right (by omega)] at e
        exact h ⟨k, by omega, by omega⟩
theorem to_left (T : TwoP P Q) {k : Nat} (hk : k < (leadsZ P).length) : blkToZ (leadsZ (P ++ Q)) (P ++ Q).length k = blkToZ (leadsZ P) P.length k := by
  obtain ⟨h0, h1⟩ := leads_first T.nq
  unfold blkToZ
  rw [two_len T, if_pos (by omega)]
  split
  · rename_i h; rw [leads_two T, getD_left h]
  · rename_i h
    have : k + 1 = (leadsZ P).length + 0 := by omega
    rw [leads_two T, this, getD_right h0, h1, Nat.zero_add]
theorem to_right (T : TwoP P Q) {k : Nat} (hk : k < (leadsZ Q).length) : blkToZ (leadsZ (P ++ Q)) (P ++ Q).length ((leadsZ P).length + k) = P.length + blkToZ (leadsZ Q) Q.length k := by
  unfold blkToZ
  rw [two_len T]
  by_cases h : k + 1 < (leadsZ Q).length
  · rw [if_pos (by omega), if_pos h, leads_two T, Nat.add_assoc, getD_right h, Nat.add_comm]
  · rw [if_neg (by omega), if_neg h, List.length_append]
theorem ins_left {j : Nat} (h : j < P.length) : insAtZ (P ++ Q) j = insAtZ P j := by
  unfold insAtZ; rw [List.getD_eq_getElem?_getD, List.getD_eq_getElem?_getD, at_left h]
theorem ins_right {j : Nat} : insAtZ (P ++ Q) (P.length + j) = insAtZ Q j := by
  unfold insAtZ; rw [List.getD_eq_getElem?_getD, List.getD_eq_getElem?_getD, at_right]
theorem ins_some {l : List Ins} {j : Nat} (h : j < l.length) : l[j]? = some (insAtZ l j) := by
  unfold insAtZ; rw [List.getD_eq_getElem?_getD, List.getElem?_eq_getElem h]; rfl
/-- The blocks ahead are as they were. -/
theorem blk_left (T : TwoP P Q) {k : Nat} (hk : k < (leadsZ P).length) : blkZ (P ++ Q) (leadsZ (P ++ Q)) k = blkZ P (leadsZ P) k := by
  have hr := blkTo_range (n := P.length) (leads_sorted P) (fun x hx => (mem_leads.1 hx).1) hk
  unfold blkZ
  rw [to_left T hk, ins_left (by omega)]
  have e1 : (leadsZ (P ++ Q)).getD k 0 = (leadsZ P).getD k 0 := by rw [leads_two T, getD_left hk]
  rw [e1]
  generalize hTO : blkToZ (leadsZ P) P.length k = TO at *
  congr 1
  · cases hg : goesB (insAtZ P (TO - 1))
    · rfl
    · rw [if_pos rfl, if_pos rfl]
      refine num_left T ?_
      by_cases hn : TO = P.length
      · subst hn
        obtain ⟨i, h1, h2⟩ := T.last
        rw [ins_some (by omega)] at h1
        injection h1 with h1
        rw [h1, (halt_end h2).2.2] at hg
        cases hg
      · omega
  · cases hj : isJump (insAtZ P (TO - 1))
    · rfl
    · rw [if_pos rfl, if_pos rfl]
      have := T.tp (TO - 1) _ (ins_some (by omega)) hj
      exact num_left T (by omega)
/-- And those behind are further on. -/
theorem blk_right (T : TwoP P Q) {k : Nat} (hk : k < (leadsZ Q).length) : blkZ (P ++ Q) (leadsZ (P ++ Q)) ((leadsZ P).length + k) =
    ⟨(blkZ Q (leadsZ Q) k).from_ + P.length, (blkZ Q (leadsZ Q) k).to + P.length, shiftZ (blkZ Q (leadsZ Q) k).next (leadsZ P).length, shiftZ (blkZ Q (leadsZ Q) k).taken (leadsZ P).length⟩ := by
  have hr := blkTo_range (n := Q.length) (leads_sorted Q) (fun x hx => (mem_leads.1 hx).1) hk
  unfold blkZ
  rw [to_right T hk]
  have e1 : (leadsZ (P ++ Q)).getD ((leadsZ P).length + k) 0 = (leadsZ Q).getD k 0 + P.length := by rw [leads_two T, getD_right hk]
  rw [e1]
  generalize hTO : blkToZ (leadsZ Q) Q.length k = TO at *
  have e2 : P.length + TO - 1 = P.length + (TO - 1) := by omega
  rw [e2, ins_right]
  dsimp only
  have hs : shiftZ (-1) ((leadsZ P).length : Int) = -1 := rfl
  refine (Blk.mk.injEq ..).mpr ⟨by omega, by omega, ?_, ?_⟩
  · cases hg : goesB (insAtZ Q (TO - 1))
    · simp [hs]
    · rw [if_pos rfl, if_pos rfl, ← num_right T (by omega)]; congr 1
  · cases hj : isJump (insAtZ Q (TO - 1))
    · simp [hs]
    · rw [if_pos rfl, if_pos rfl]
      have := T.tq (TO - 1) _ (ins_some (by omega)) hj
      rw [← num_right T (by omega)]; congr 1; omega
theorem targets_of {l : List Ins} {n : Nat} : ∀ {k0 : Nat}, (∀ (j : Nat) (i : Ins), l[j]? = some i → isJump i = true → 0 ≤ ((k0 + j : Nat) : Int) + i.imm ∧ ((k0 + j : Nat) : Int) + i.imm < n) → n ≤ 8192 → k0 + l.length ≤ n → targetsOk n k0 l = true := by
  induction l with
  | nil => intro k0 h hn hk; rfl
  | cons x l ih =>
    intro k0 h hn hk
    rw [List.length_cons] at hk
    rw [targetsOk, Bool.and_eq_true]
    constructor
    · unfold badTarget
      cases hj : isJump x
      · rfl
      · have := h 0 x rfl hj
        rw [Nat.add_zero] at this
        rw [targetZ_yes hj (by omega) (by omega) this.1 this.2]
        simp; omega
    · refine ih (fun j i hi hj => ?_) hn (by omega)
      have := h (j + 1) i (by simpa using hi) hj
      rw [show k0 + 1 + j = k0 + (j + 1) by omega]; exact this
theorem two_of {sp sq : Int} {mp mq : Nat} (hp : rightZ P sp mp = true) (hq : rightZ Q sq mq = true) (hl : ∃ i, P[P.length - 1]? = some i ∧ i.op = 41) : TwoP P Q := by
  obtain ⟨⟨n0, n1⟩, h1⟩ := rightZ_parts hp
  obtain ⟨⟨n2, n3⟩, h2⟩ := rightZ_parts hq
  exact ⟨by omega, by omega, hl, fun j i h hj => by have := target_in h1 h hj; simpa using this, fun j i h hj => by have := target_in h2 h hj; simpa using this⟩
theorem two_right {sp sq : Int} {mp mq : Nat} (hp : rightZ P sp mp = true) (hq : rightZ Q sq mq = true) (T : TwoP P Q) (hlen : P.length + Q.length ≤ 2000) : rightZ (P ++ Q) sp mp = true := by
  rw [rightZ_fit, Bool.and_eq_true, Bool.and_eq_true] at hp hq ⊢
  refine ⟨⟨?_, ?_⟩, ?_⟩
  · have h1 := of_decide_eq_true hp.1.1
    unfold fitN
    rw [decide_eq_true_iff, List.length_append]
    omega
  · rw [List.all_append, hp.1.2, hq.1.2]; rfl
  · refine targets_of (fun j i hi hj => ?_) (by rw [List.length_append]; omega) (by omega)
    rw [List.length_append, Nat.zero_add]
    by_cases hjp : j < P.length
    · rw [at_left hjp] at hi
      have := T.tp j i hi hj
      omega
    · obtain ⟨k, rfl⟩ : ∃ k, j = P.length + k := ⟨j - P.length, by omega⟩
      rw [at_right] at hi
      have := T.tq k i hi hj
      omega
end
end Go.Proofs.Ytbibfpopkcekdaa.Words

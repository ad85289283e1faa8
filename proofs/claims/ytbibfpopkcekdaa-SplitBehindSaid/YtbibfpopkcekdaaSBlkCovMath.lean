/- Plain mathematics of chapter 10: blocks cover the code. Nothing here speaks of one program text. -/
import Derived.Test.YtbibfpopkcekdaaG04
namespace Go.Proofs.Ytbibfpopkcekdaa.Words
set_option maxRecDepth 100000
set_option linter.unusedVariables false
open Go.RowKit

theorem mem_getD {L : List Nat} {x : Nat} (h : x ∈ L) : ∃ q, q < L.length ∧ L.getD q 0 = x := by
  obtain ⟨q, hq, he⟩ := List.getElem_of_mem h
  exact ⟨q, hq, by rw [List.getD_eq_getElem?_getD, List.getElem?_eq_getElem hq]; exact he⟩
theorem lead_next {L : List Nat} {n k x : Nat} (hs : L.Pairwise (· < ·)) (hk : k < L.length) (hx : x ∈ L) (h : L.getD k 0 < x) : blkToZ L n k ≤ x := by
  obtain ⟨q, hq, rfl⟩ := mem_getD hx
  have hkq : k < q := by
    by_cases hh : q < k
    · have := sorted_at hs hh hk; omega
    · by_cases he : q = k
      · subst he; omega
      · omega
  unfold blkToZ
  rw [if_pos (by omega)]
  by_cases he : q = k + 1
  · subst he; exact Nat.le_refl _
  · exact Nat.le_of_lt (sorted_at hs (by omega) hq)
section
variable {l : List Ins} {k : Nat}
theorem end_inside (hk : k < (leadsZ l).length) {j : Nat} {i : Ins} (h1 : (leadsZ l).getD k 0 ≤ j) (h2 : j + 1 < blkToZ (leadsZ l) l.length k) (hi : l[j]? = some i) : isEnd i = false := by
  cases he : isEnd i
  · rfl
  · have hr := blkTo_range (n := l.length) (leads_sorted l) (fun x hx => (mem_leads.1 hx).1) hk
    have hm : j + 1 ∈ leadsZ l := mem_leads.2 ⟨by omega, .inr (.inr ⟨j, i, hi, he, rfl⟩)⟩
    have := lead_next (n := l.length) (leads_sorted l) hk hm (by omega)
    omega
theorem jump_end {i : Ins} (h : isEnd i = false) : isJump i = false := by
  unfold isEnd at h; rw [Bool.or_eq_false_iff] at h; exact h.1
theorem end_form {i : Ins} (h : isEnd i = false) : formZ i.op < 6 := by
  have h0 := formZ_range i.op
  have h1 : ¬ formZ i.op = 6 := fun e => by
    have := (isJump_form i).2 (.inl e); rw [jump_end h] at this; cases this
  have h2 : ¬ formZ i.op = 7 := fun e => by
    have := (isJump_form i).2 (.inr e); rw [jump_end h] at this; cases this
  have h3 : ¬ formZ i.op = 8 := fun e => by
    rw [isEnd_eq, e] at h; simp at h
  omega
theorem taken_at {j T : Nat} {i : Ins} (hi : l[j]? = some i) (hj : isJump i = true) (hT : (j : Int) + i.imm = T) (hn : T < l.length) :
    ∃ q, q < (leadsZ l).length ∧ (leadsZ l).getD q 0 = T ∧ numZ (leadsZ l) (T : Int) = q := by
  have hm : T ∈ leadsZ l := mem_leads.2 ⟨hn, .inr (.inl ⟨j, i, hi, hj, by rw [hT]; rfl⟩)⟩
  obtain ⟨q, hq, he⟩ := mem_getD hm
  exact ⟨q, hq, he, numZ_idx (leads_sorted l) hq (by rw [he])⟩
theorem num_to (hk : k < (leadsZ l).length) : numZ (leadsZ l) (blkToZ (leadsZ l) l.length k : Nat) = if k + 1 < (leadsZ l).length then ((k + 1 : Nat) : Int) else -1 := by
  unfold blkToZ
  split
  · rename_i h; exact numZ_idx (leads_sorted l) h rfl
  · refine numZ_none fun j hj => ?_
    have := (mem_leads.1 (leadD_mem hj)).1
    omega
theorem blk_next (hk : k < (leadsZ l).length) : (blkZ l (leadsZ l) k).next = -1 ∨ ((blkZ l (leadsZ l) k).next = ((k + 1 : Nat) : Int) ∧ k + 1 < (leadsZ l).length) := by
  show (if _ then numZ _ _ else _) = _ ∨ (if _ then numZ _ _ else _) = _ ∧ _
  split
  · rw [num_to hk]
    split
    · exact .inr ⟨rfl, by assumption⟩
    · exact .inl rfl
  · exact .inl rfl
theorem leads_first (h : 0 < l.length) : 0 < (leadsZ l).length ∧ (leadsZ l).getD 0 0 = 0 := by
  obtain ⟨q, hq, he⟩ := mem_getD (leads_zero h)
  refine ⟨by omega, ?_⟩
  by_cases h0 : q = 0
  · subst h0; exact he
  · have := sorted_at (leads_sorted l) (a := 0) (b := q) (by omega) hq; omega
/-- Where the k-th block begins, or where the code ends. -/
def atBC (L : List Nat) (n k : Nat) : Nat := if k < L.length then L.getD k 0 else n
theorem atBC_to (L : List Nat) (n k : Nat) : blkToZ L n k = atBC L n (k + 1) := rfl
theorem atBC_lt {L : List Nat} {n k : Nat} (h : k < L.length) : atBC L n k = L.getD k 0 := by unfold atBC; rw [if_pos h]
theorem atBC_end {L : List Nat} {n : Nat} : atBC L n L.length = n := by unfold atBC; rw [if_neg (by omega)]
end
end Go.Proofs.Ytbibfpopkcekdaa.Words

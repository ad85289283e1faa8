/- Plain mathematics of chapter 10: code without branches. Nothing here speaks of one program text. -/
import Derived.Test.YtajiifplkfjnjaaBlkCovMath
namespace Go.Proofs.Ytajiifplkfjnjaa.Words
set_option maxRecDepth 100000
set_option linter.unusedVariables false
open Go.RowKit

theorem targetsOk_none {n : Nat} : ∀ {l : List Ins} {k : Nat}, (∀ i ∈ l, isJump i = false) → targetsOk n k l = true := by
  intro l
  induction l with
  | nil => intro k h; rfl
  | cons x l ih =>
    intro k h
    rw [targetsOk, ih (fun i hi => h i (by simp [hi]))]
    have := h x (by simp)
    simp [badTarget, this]
/-- Code of which just the last instruction may end a block, and none leads anywhere, is one block. -/
theorem cut_one {l : List Ins} (hn : 0 < l.length) (hj : ∀ i ∈ l, isJump i = false) (he : ∀ (j : Nat) (i : Ins), l[j]? = some i → j + 1 < l.length → isEnd i = false) :
    cutZ l = [⟨0, (l.length : Nat), -1, -1⟩] := by
  have hL : leadsZ l = [0] := by
    refine sorted_ext (leads_sorted l) (by simp) fun x => ?_
    rw [mem_leads]
    constructor
    · rintro ⟨h1, h | ⟨j, i, h2, h3, h4⟩ | ⟨j, i, h2, h3, h4⟩⟩
      · simp [h]
      · rw [hj i (List.mem_of_getElem? h2)] at h3; cases h3
      · have := he j i h2 (by omega); rw [this] at h3; cases h3
    · intro h
      have h0 : x = 0 := by simpa using h
      subst h0
      exact ⟨hn, .inl rfl⟩
  unfold cutZ cutTo
  rw [hL]
  have hlast : isJump (insAtZ l (l.length - 1)) = false := by
    unfold insAtZ
    rw [List.getD_eq_getElem?_getD, List.getElem?_eq_getElem (by omega)]
    exact hj _ (List.getElem_mem _)
  have hnum : numZ [0] (l.length : Nat) = -1 := numZ_none fun j hj => by
    have : j = 0 := by simpa using hj
    subst this
    show ((0 : Nat) : Int) ≠ _
    omega
  show [blkZ l [0] 0] = _
  have ht : blkToZ [0] l.length 0 = l.length := rfl
  unfold blkZ
  rw [ht, hlast, hnum]
  simp

/-- Sums, one with each number. -/
def addTo (n : Nat) : List Ins := (List.range n).map fun k => ⟨17, 1, 1, 0, (k : Nat)⟩
theorem addTo_len (n : Nat) : (addTo n).length = n := by simp [addTo]
theorem addTo_succ (n : Nat) : addTo (n + 1) = addTo n ++ [⟨17, 1, 1, 0, (n : Nat)⟩] := by simp [addTo, List.range_succ]
def strCode (n : Nat) (h : Bool) : List Ins := if h = true then addTo n ++ [⟨41, 0, 0, 0, 0⟩] else addTo n
theorem strCode_len (n : Nat) (h : Bool) : (strCode n h).length = if h = true then n + 1 else n := by cases h <;> simp [strCode, addTo_len]
theorem addTo_mem {n : Nat} {i : Ins} (h : i ∈ addTo n) : ∃ k : Nat, k < n ∧ i = ⟨17, 1, 1, 0, (k : Nat)⟩ := by
  unfold addTo at h
  obtain ⟨k, hk, rfl⟩ := List.mem_map.1 h
  exact ⟨k, List.mem_range.1 hk, rfl⟩
theorem add_right {k : Nat} (h : k < 100) : rightB ⟨17, 1, 1, 0, (k : Nat)⟩ = true := by
  have : ∀ k : Fin 100, rightB ⟨17, 1, 1, 0, (k.val : Nat)⟩ = true := by decide
  exact this ⟨k, h⟩
theorem strCode_mem {n : Nat} {b : Bool} {i : Ins} (h : i ∈ strCode n b) : (∃ k : Nat, k < n ∧ i = ⟨17, 1, 1, 0, (k : Nat)⟩) ∨ i = ⟨41, 0, 0, 0, 0⟩ := by
  unfold strCode at h
  split at h
  · rcases List.mem_append.1 h with h | h
    · exact .inl (addTo_mem h)
    · exact .inr (by simpa using h)
  · exact .inl (addTo_mem h)
theorem strCode_right {n : Nat} {b : Bool} (h1 : 1 ≤ n) (h2 : n ≤ 100) : rightZ (strCode n b) 0 0 = true := by
  rw [rightZ_fit, Bool.and_eq_true, Bool.and_eq_true]
  refine ⟨⟨?_, ?_⟩, ?_⟩
  · unfold fitN
    rw [decide_eq_true_iff, strCode_len]
    split <;> omega
  · rw [List.all_eq_true]
    intro i hi
    rcases strCode_mem hi with ⟨k, hk, rfl⟩ | rfl
    · exact add_right (by omega)
    · decide
  · refine targetsOk_none fun i hi => ?_
    rcases strCode_mem hi with ⟨k, hk, rfl⟩ | rfl <;> rfl
theorem strCode_cut {n : Nat} {b : Bool} (h1 : 1 ≤ n) (h2 : n ≤ 100) : cutR (strCode n b) 0 0 = [⟨0, ((strCode n b).length : Nat), -1, -1⟩] := by
  unfold cutR
  rw [if_pos (strCode_right h1 h2)]
  refine cut_one (by rw [strCode_len]; split <;> omega) (fun i hi => ?_) (fun j i hi hj => ?_)
  · rcases strCode_mem hi with ⟨k, hk, rfl⟩ | rfl <;> rfl
  · cases b
    · obtain ⟨k, hk, rfl⟩ := addTo_mem (List.mem_of_getElem? hi); rfl
    · have hj' : j < n := by rw [strCode_len] at hj; simp at hj; omega
      have : (addTo n ++ [(⟨41, 0, 0, 0, 0⟩ : Ins)])[j]? = some i := hi
      rw [List.getElem?_append_left (by rw [addTo_len]; exact hj')] at this
      obtain ⟨k, hk, rfl⟩ := addTo_mem (List.mem_of_getElem? this); rfl
end Go.Proofs.Ytajiifplkfjnjaa.Words

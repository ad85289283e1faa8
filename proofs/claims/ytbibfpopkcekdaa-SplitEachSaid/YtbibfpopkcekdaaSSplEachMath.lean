/- Plain mathematics of chapter 13: which cells a block has, where they stand, and how many each instruction has. -/
import Derived.Test.YtbibfpopkcekdaaG05
namespace Go.Proofs.Ytbibfpopkcekdaa.Words
set_option maxRecDepth 100000
open Go.RowKit
set_option linter.unusedVariables false

theorem regsC_pc {k pc off : Int} {l : List Int} : ∀ c ∈ regsC k pc off l, c.pc = pc ∧ c.off = off := by
  intro c hc
  unfold regsC at hc
  obtain ⟨r, _, rfl⟩ := List.mem_map.1 hc
  exact ⟨rfl, rfl⟩
theorem one_pc {P : Cel → Prop} {a : Cel} (h : P a) : ∀ c ∈ [a], P c := by
  intro c hc; rw [List.mem_singleton] at hc; subst hc; exact h
theorem app_pc {P : Cel → Prop} {l m : List Cel} (h : ∀ c ∈ l, P c) (g : ∀ c ∈ m, P c) : ∀ c ∈ l ++ m, P c := by
  intro c hc
  rcases List.mem_append.1 hc with h1 | h1
  · exact h c h1
  · exact g c h1
theorem emitA_pc (z : List Int) (i : Ins) (pc off : Int) : ∀ c ∈ emitA z i pc off, c.pc = pc ∧ c.off = off := by
  unfold emitA
  repeat' split
  all_goals first
    | exact fun c hc => absurd hc List.not_mem_nil
    | exact one_pc ⟨rfl, rfl⟩
    | exact regsC_pc
    | exact app_pc regsC_pc (one_pc ⟨rfl, rfl⟩)
theorem emitE_pc (z : List Int) (i : Ins) (pc off : Int) : ∀ c ∈ emitE z i pc off, c.pc = pc ∧ c.off = off := by
  unfold emitE
  repeat' split
  all_goals first
    | exact fun c hc => absurd hc List.not_mem_nil
    | exact one_pc ⟨rfl, rfl⟩
    | exact regsC_pc
    | exact app_pc regsC_pc (one_pc ⟨rfl, rfl⟩)
theorem emit_some {z : List Int} {i : Ins} {pc off : Int} (h : rightB i = true) : 1 ≤ (emitA z i pc off).length + (emitE z i pc off).length := by
  have hF := formZ_range i.op
  by_cases h4 : formZ i.op = 4
  · by_cases hd : atO z i.d = 2
    · have e := emit_4e (z := z) (pc := pc) (off := off) h h4 hd; rw [e.1, e.2]; simp
    · have e := emit_4a (z := z) (pc := pc) (off := off) h h4 hd; rw [e.1, e.2]; simp
  by_cases h5 : formZ i.op = 5
  · have e := emit_5 (z := z) (pc := pc) (off := off) h h5; rw [e.1, e.2]; simp only [List.length_append, List.length_cons, List.length_nil]; omega
  by_cases h6 : formZ i.op = 6
  · cases ha : anyEB (readsZ i) z
    · have e := emit_6a (z := z) (pc := pc) (off := off) h h6 ha; rw [e.1, e.2]; simp
    · have e := emit_6e (z := z) (pc := pc) (off := off) h h6 ha; rw [e.1, e.2]; simp only [List.length_append, List.length_cons, List.length_nil]; omega
  by_cases h7 : formZ i.op = 7
  · have e := emit_7 (z := z) (pc := pc) (off := off) h h7; rw [e.1, e.2]; simp
  by_cases h8 : formZ i.op = 8
  · have e := emit_8 (z := z) (pc := pc) (off := off) h h8; rw [e.1, e.2]; simp
  by_cases hs : sideZ i z = 1
  · have e := emit_1a (z := z) (pc := pc) (off := off) h (by omega) hs; rw [e.1, e.2]; simp
  · have e := emit_1e (z := z) (pc := pc) (off := off) h (by omega) hs; rw [e.1, e.2]; simp only [List.length_append, List.length_cons, List.length_nil]; omega
/-- The cells of k instructions from f on: where they stand. -/
theorem fillA_pc (z : List Int) (l : List Ins) (f k : Nat) : ∀ c ∈ fillA z l f k, ∃ j : Nat, j < k ∧ c.pc = ((f + j : Nat) : Int) ∧ c.off = (j : Int) := by
  induction k with
  | zero => intro c hc; cases hc
  | succ k ih =>
    intro c hc
    rcases List.mem_append.1 hc with h | h
    · obtain ⟨j, h1, h2⟩ := ih c h; exact ⟨j, by omega, h2⟩
    · exact ⟨k, by omega, emitA_pc _ _ _ _ c h⟩
theorem fillE_pc (z : List Int) (l : List Ins) (f k : Nat) : ∀ c ∈ fillE z l f k, ∃ j : Nat, j < k ∧ c.pc = ((f + j : Nat) : Int) ∧ c.off = (j : Int) := by
  induction k with
  | zero => intro c hc; cases hc
  | succ k ih =>
    intro c hc
    rcases List.mem_append.1 hc with h | h
    · obtain ⟨j, h1, h2⟩ := ih c h; exact ⟨j, by omega, h2⟩
    · exact ⟨k, by omega, emitE_pc _ _ _ _ c h⟩
theorem pair_same {l : List Cel} {pc : Int} (h : ∀ c ∈ l, c.pc = pc) : l.Pairwise (fun c d => c.pc ≤ d.pc) := by
  induction l with
  | nil => exact List.Pairwise.nil
  | cons a l ih =>
    refine List.Pairwise.cons (fun d hd => ?_) (ih (fun c hc => h c (by simp [hc])))
    rw [h a (by simp), h d (by simp [hd])]; exact Int.le_refl _
theorem fillA_sorted (z : List Int) (l : List Ins) (f k : Nat) : (fillA z l f k).Pairwise (fun c d => c.pc ≤ d.pc) := by
  induction k with
  | zero => exact List.Pairwise.nil
  | succ k ih =>
    refine List.pairwise_append.2 ⟨ih, pair_same (fun c hc => (emitA_pc _ _ _ _ c hc).1), fun c hc d hd => ?_⟩
    obtain ⟨j, h1, h2, _⟩ := fillA_pc z l f k c hc
    rw [h2, (emitA_pc _ _ _ _ d hd).1]; omega
theorem fillE_sorted (z : List Int) (l : List Ins) (f k : Nat) : (fillE z l f k).Pairwise (fun c d => c.pc ≤ d.pc) := by
  induction k with
  | zero => exact List.Pairwise.nil
  | succ k ih =>
    refine List.pairwise_append.2 ⟨ih, pair_same (fun c hc => (emitE_pc _ _ _ _ c hc).1), fun c hc d hd => ?_⟩
    obtain ⟨j, h1, h2, _⟩ := fillE_pc z l f k c hc
    rw [h2, (emitE_pc _ _ _ _ d hd).1]; omega
/-- How many cells stand at a place. -/
def cntZ (cs : List Cel) (j : Nat) : Nat := cs.countP fun c => decide (c.pc = (j : Int))
theorem cntZ_nil (j : Nat) : cntZ [] j = 0 := rfl
theorem cntZ_append (l m : List Cel) (j : Nat) : cntZ (l ++ m) j = cntZ l j + cntZ m j := List.countP_append ..
theorem cntZ_le (l : List Cel) (j : Nat) : cntZ l j ≤ l.length := List.countP_le_length
theorem cntZ_all {l : List Cel} {j : Nat} (h : ∀ c ∈ l, c.pc = (j : Int)) : cntZ l j = l.length := List.countP_eq_length.2 fun c hc => by simp [h c hc]
theorem cntZ_none {l : List Cel} {j : Nat} (h : ∀ c ∈ l, c.pc ≠ (j : Int)) : cntZ l j = 0 := List.countP_eq_zero.2 fun c hc => by simp [h c hc]
theorem fillA_cnt (z : List Int) (l : List Ins) (f k j : Nat) : cntZ (fillA z l f k) j = if f ≤ j ∧ j < f + k then (emitA z (insAtZ l j) (j : Int) ((j - f : Nat) : Int)).length else 0 := by
  induction k with
  | zero => rw [if_neg (by omega)]; rfl
  | succ k ih =>
    rw [fillA, cntZ_append, ih]
    by_cases e : j = f + k
    · subst e
      rw [if_neg (by omega), if_pos (by omega), cntZ_all (fun c hc => (emitA_pc _ _ _ _ c hc).1), show f + k - f = k by omega, Nat.zero_add]
    · rw [cntZ_none (l := emitA z (insAtZ l (f + k)) ((f + k : Nat) : Int) (k : Int)) (fun c hc h => e (by have := (emitA_pc _ _ _ _ c hc).1; omega)), Nat.add_zero]
      by_cases c : f ≤ j ∧ j < f + k
      · rw [if_pos c, if_pos (by omega)]
      · rw [if_neg c, if_neg (by omega)]
theorem fillE_cnt (z : List Int) (l : List Ins) (f k j : Nat) : cntZ (fillE z l f k) j = if f ≤ j ∧ j < f + k then (emitE z (insAtZ l j) (j : Int) ((j - f : Nat) : Int)).length else 0 := by
  induction k with
  | zero => rw [if_neg (by omega)]; rfl
  | succ k ih =>
    rw [fillE, cntZ_append, ih]
    by_cases e : j = f + k
    · subst e
      rw [if_neg (by omega), if_pos (by omega), cntZ_all (fun c hc => (emitE_pc _ _ _ _ c hc).1), show f + k - f = k by omega, Nat.zero_add]
    · rw [cntZ_none (l := emitE z (insAtZ l (f + k)) ((f + k : Nat) : Int) (k : Int)) (fun c hc h => e (by have := (emitE_pc _ _ _ _ c hc).1; omega)), Nat.add_zero]
      by_cases c : f ≤ j ∧ j < f + k
      · rw [if_pos c, if_pos (by omega)]
      · rw [if_neg c, if_neg (by omega)]
def blkCs (b : BlkC) : List Cel := b.a ++ b.e
def allCs (bs : List BlkC) : List Cel := bs.flatMap blkCs
theorem allCs_take {bs : List BlkC} {k : Nat} {b : BlkC} (h : bs[k]? = some b) : allCs (bs.take (k + 1)) = allCs (bs.take k) ++ blkCs b := by
  unfold allCs
  rw [List.take_add_one, h, List.flatMap_append]; simp
/-- Where the k-th block begins; behind the last one: where the code ends. -/
def startZ (l : List Ins) (k : Nat) : Nat := if k < (leadsZ l).length then (leadsZ l).getD k 0 else l.length
theorem startZ_succ (l : List Ins) (k : Nat) : blkToZ (leadsZ l) l.length k = startZ l (k + 1) := rfl
theorem startZ_0 {l : List Ins} (h : 0 < l.length) : startZ l 0 = 0 := by
  have hm := leads_zero h
  have hp := List.length_pos_of_mem hm
  unfold startZ
  rw [if_pos hp]
  obtain ⟨i, hi, he⟩ := List.getElem_of_mem hm
  rw [List.getD_eq_getElem?_getD, List.getElem?_eq_getElem hp]
  rcases Nat.eq_zero_or_pos i with rfl | hi0
  · exact he
  · have := List.pairwise_iff_getElem.1 (leads_sorted l) 0 i hp hi hi0
    rw [he] at this; omega
theorem startZ_all (l : List Ins) : startZ l (leadsZ l).length = l.length := by unfold startZ; rw [if_neg (by omega)]
/-- The k-th block's cells. -/
theorem blk_cnt (z : List Int) {l : List Ins} {k : Nat} (hk : k < (leadsZ l).length) (j : Nat) : cntZ (blkCs (fillB z l (blkZ l (leadsZ l) k))) j = if startZ l k ≤ j ∧ j < startZ l (k + 1) then (emitA z (insAtZ l j) (j : Int) ((j - startZ l k : Nat) : Int)).length + (emitE z (insAtZ l j) (j : Int) ((j - startZ l k : Nat) : Int)).length else 0 := by
  have h1 : (blkZ l (leadsZ l) k).from_ = (startZ l k : Int) := by unfold startZ; rw [if_pos hk]; rfl
  have h2 : (blkZ l (leadsZ l) k).to = (startZ l (k + 1) : Int) := rfl
  have hle : startZ l k ≤ startZ l (k + 1) := by
    have := (blkTo_range (n := l.length) (leads_sorted l) (fun x hx => (mem_leads.1 hx).1) hk).1
    rw [startZ_succ] at this
    have e : startZ l k = (leadsZ l).getD k 0 := by unfold startZ; rw [if_pos hk]
    omega
  rw [fillB_part z l h1 h2]
  unfold blkCs partB
  rw [cntZ_append, fillA_cnt, fillE_cnt, h1]
  simp only [Int.toNat_natCast]
  rw [show startZ l k + (startZ l (k + 1) - startZ l k) = startZ l (k + 1) by omega]
  by_cases c : startZ l k ≤ j ∧ j < startZ l (k + 1)
  · rw [if_pos c, if_pos c, if_pos c]
  · rw [if_neg c, if_neg c, if_neg c]
theorem take_cnt (z : List Int) {l : List Ins} (hi : ∀ i ∈ l, rightB i = true) (h0 : 0 < l.length) (k : Nat) (hk : k ≤ (leadsZ l).length) : ∀ j, j < l.length →
    if j < startZ l k then 1 ≤ cntZ (allCs (((cutZ l).map (fillB z l)).take k)) j ∧ cntZ (allCs (((cutZ l).map (fillB z l)).take k)) j ≤ 6 else cntZ (allCs (((cutZ l).map (fillB z l)).take k)) j = 0 := by
  induction k with
  | zero =>
    intro j hj
    rw [startZ_0 h0, if_neg (by omega), List.take_zero]; rfl
  | succ k ih =>
    intro j hj
    have hk' : k < (leadsZ l).length := by omega
    have hb : ((cutZ l).map (fillB z l))[k]? = some (fillB z l (blkZ l (leadsZ l) k)) := by rw [List.getElem?_map, cutZ_get hk']; rfl
    rw [allCs_take hb, cntZ_append, blk_cnt z hk']
    have h1 := ih (by omega) j hj
    have hle : startZ l k < startZ l (k + 1) := by
      have := (blkTo_range (n := l.length) (leads_sorted l) (fun x hx => (mem_leads.1 hx).1) hk').1
      rw [startZ_succ] at this
      have e : startZ l k = (leadsZ l).getD k 0 := by unfold startZ; rw [if_pos hk']
      omega
    by_cases c1 : j < startZ l k
    · rw [if_pos c1] at h1
      rw [if_pos (by omega), if_neg (by omega)]
      omega
    · rw [if_neg c1] at h1
      rw [h1]
      by_cases c2 : j < startZ l (k + 1)
      · rw [if_pos c2, if_pos ⟨by omega, c2⟩]
        have hr : rightB (insAtZ l j) = true := hi _ (by unfold insAtZ; rw [List.getD_eq_getElem?_getD, List.getElem?_eq_getElem hj]; exact List.getElem_mem hj)
        have := emit_some (z := z) (pc := (j : Int)) (off := ((j - startZ l k : Nat) : Int)) hr
        have := emitA_le3 z (insAtZ l j) (j : Int) ((j - startZ l k : Nat) : Int)
        have := emitE_le3 z (insAtZ l j) (j : Int) ((j - startZ l k : Nat) : Int)
        omega
      · rw [if_neg c2, if_neg (by omega)]
theorem all_cnt (z : List Int) {l : List Ins} {sz : Int} {m : Nat} (h : rightZ l sz m = true) : ∀ j, j < l.length → 1 ≤ cntZ (allCs ((cutR l sz m).map (fillB z l))) j ∧ cntZ (allCs ((cutR l sz m).map (fillB z l))) j ≤ 6 := by
  intro j hj
  have hi := (rightZ_ins h).2
  have := take_cnt z hi (by omega) (leadsZ l).length (Nat.le_refl _) j hj
  rw [startZ_all, if_pos hj, List.take_of_length_le (by rw [List.length_map, cutZ_len]; exact Nat.le_refl _)] at this
  unfold cutR
  rw [if_pos h]; exact this
/-- The counts of all places. -/
def cntV (n : Nat) (cs : List Cel) : List Int := (List.range n).map fun j => (cntZ cs j : Int)
theorem cntV_len (n : Nat) (cs : List Cel) : (cntV n cs).length = n := by simp [cntV]
theorem cntV_at {n : Nat} (cs : List Cel) {j : Nat} (h : j < n) : (cntV n cs)[j]? = some (cntZ cs j : Int) := by unfold cntV; rw [List.getElem?_map, List.getElem?_range h]; rfl
theorem cntV_nil (n : Nat) : cntV n [] = List.replicate n 0 := by
  apply List.ext_getElem?
  intro j
  rcases Nat.lt_or_ge j n with h | h
  · rw [cntV_at _ h, List.getElem?_replicate, if_pos h]; rfl
  · rw [List.getElem?_eq_none (by rw [cntV_len]; exact h), List.getElem?_eq_none (by simpa using h)]
theorem cntV_set {n q : Nat} {cs : List Cel} {x : Cel} (hq : q < n) (hx : x.pc = (q : Int)) : (cntV n cs).set q ((cntZ cs q : Int) + 1) = cntV n (cs ++ [x]) := by
  apply List.ext_getElem?
  intro j
  rcases Nat.lt_or_ge j n with h | h
  · rw [cntV_at _ h, cntZ_append]
    by_cases e : q = j
    · subst e
      rw [List.getElem?_set_self (by rw [cntV_len]; exact h), cntZ_all (l := [x]) (one_pc (P := fun c => c.pc = (q : Int)) hx)]
      simp
    · rw [List.getElem?_set_ne e, cntV_at _ h, cntZ_none (l := [x]) (one_pc (P := fun c => c.pc ≠ (j : Int)) (by rw [hx]; omega))]
      simp
  · rw [List.getElem?_eq_none (by simpa [cntV_len] using h), List.getElem?_eq_none (by rw [cntV_len]; exact h)]
/-- A cell of a block. -/
theorem blk_cell (z : List Int) {l : List Ins} {b : Blk} {f t : Nat} (h1 : b.from_ = f) (h2 : b.to = t) (hft : f < t) {k : Nat} {x : Cel} (hx : (blkCs (fillB z l b))[k]? = some x) : ∃ q : Nat, f ≤ q ∧ q < t ∧ x.pc = (q : Int) ∧ x.off = (q : Int) - (f : Int) := by
  rw [fillB_part z l h1 h2] at hx
  have hm := List.mem_of_getElem? hx
  unfold blkCs partB at hm
  rw [h1] at hm
  simp only [Int.toNat_natCast] at hm
  have key : ∃ j : Nat, j < t - f ∧ x.pc = ((f + j : Nat) : Int) ∧ x.off = (j : Int) := by
    rcases List.mem_append.1 hm with h | h
    · exact fillA_pc _ _ _ _ x h
    · exact fillE_pc _ _ _ _ x h
  obtain ⟨j, j1, j2, j3⟩ := key
  exact ⟨f + j, by omega, by omega, j2, by omega⟩
theorem blk_order (z : List Int) {l : List Ins} {b : Blk} {f t : Nat} (h1 : b.from_ = f) (h2 : b.to = t) {k : Nat} {x y : Cel} (hk : 0 < k) (hn : k ≠ (fillB z l b).a.length) (hx : (blkCs (fillB z l b))[k]? = some x) (hy : (blkCs (fillB z l b))[k - 1]? = some y) : y.pc ≤ x.pc := by
  rw [fillB_part z l h1 h2] at hx hy hn
  unfold blkCs partB at hx hy
  unfold partB at hn
  simp only at hx hy hn
  rcases Nat.lt_or_ge k (fillA z l b.from_.toNat (t - f)).length with h | h
  · rw [List.getElem?_append_left h] at hx
    rw [List.getElem?_append_left (by omega)] at hy
    obtain ⟨a1, rfl⟩ := List.getElem?_eq_some_iff.1 hx
    obtain ⟨a2, rfl⟩ := List.getElem?_eq_some_iff.1 hy
    exact List.pairwise_iff_getElem.1 (fillA_sorted z l b.from_.toNat (t - f)) (k - 1) k a2 a1 (by omega)
  · rw [List.getElem?_append_right h] at hx
    rw [List.getElem?_append_right (by omega)] at hy
    obtain ⟨a1, rfl⟩ := List.getElem?_eq_some_iff.1 hx
    obtain ⟨a2, rfl⟩ := List.getElem?_eq_some_iff.1 hy
    exact List.pairwise_iff_getElem.1 (fillE_sorted z l b.from_.toNat (t - f)) _ _ a2 a1 (by omega)
theorem allCs_append (l m : List BlkC) : allCs (l ++ m) = allCs l ++ allCs m := by unfold allCs; exact List.flatMap_append
theorem each_le {bs : List BlkC} {k k2 : Nat} {b : BlkC} (h : bs[k]? = some b) (j : Nat) : cntZ (allCs (bs.take k) ++ (blkCs b).take k2) j ≤ cntZ (allCs bs) j := by
  have e : allCs bs = allCs (bs.take k) ++ ((blkCs b).take k2 ++ ((blkCs b).drop k2 ++ allCs (bs.drop (k + 1)))) := by
    rw [← List.append_assoc ((blkCs b).take k2), List.take_append_drop, ← List.append_assoc, ← allCs_take h, ← allCs_append, List.take_append_drop]
  rw [e, cntZ_append, cntZ_append, cntZ_append]
  omega
theorem allCs_end {bs : List BlkC} {k k2 : Nat} {b : BlkC} (h : bs[k]? = some b) (hk : (blkCs b).length ≤ k2) : allCs (bs.take k) ++ (blkCs b).take k2 = allCs (bs.take (k + 1)) := by
  rw [allCs_take h, List.take_of_length_le hk]
theorem take_snoc {α : Type} {l : List α} {k : Nat} {x : α} (h : l[k]? = some x) : l.take (k + 1) = l.take k ++ [x] := by rw [List.take_add_one, h]; rfl
end Go.Proofs.Ytbibfpopkcekdaa.Words

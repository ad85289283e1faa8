/- Plain mathematics of chapter 13: code behind a halt leaves the cells ahead as they are. -/
import Derived.Test.YtbibfpopkcekdaaSBlkMoreMath
import Derived.Test.YtbibfpopkcekdaaG07
namespace Go.Proofs.Ytbibfpopkcekdaa.Words
set_option maxRecDepth 100000
open Go.RowKit
set_option linter.unusedVariables false

theorem fillA_left (z : List Int) {P Q : List Ins} (f : Nat) : ∀ k, f + k ≤ P.length → fillA z (P ++ Q) f k = fillA z P f k
  | 0, _ => rfl
  | k + 1, h => by rw [fillA, fillA, fillA_left z f k (by omega), ins_left (by omega)]
theorem fillE_left (z : List Int) {P Q : List Ins} (f : Nat) : ∀ k, f + k ≤ P.length → fillE z (P ++ Q) f k = fillE z P f k
  | 0, _ => rfl
  | k + 1, h => by rw [fillE, fillE, fillE_left z f k (by omega), ins_left (by omega)]
theorem cutZ_ends {l : List Ins} {k : Nat} (hk : k < (leadsZ l).length) : ∃ f t : Nat, (blkZ l (leadsZ l) k).from_ = f ∧ (blkZ l (leadsZ l) k).to = t ∧ f < t ∧ t ≤ l.length := by
  have := blkTo_range (n := l.length) (leads_sorted l) (fun x hx => (mem_leads.1 hx).1) hk
  exact ⟨_, _, rfl, rfl, this.1, this.2⟩
theorem fillB_left (z : List Int) {P Q : List Ins} {k : Nat} (hk : k < (leadsZ P).length) : fillB z (P ++ Q) (blkZ P (leadsZ P) k) = fillB z P (blkZ P (leadsZ P) k) := by
  obtain ⟨f, t, h1, h2, h3, h4⟩ := cutZ_ends hk
  rw [fillB_part z _ h1 h2, fillB_part z _ h1 h2]
  unfold partB
  rw [h1]
  simp only [Int.toNat_natCast]
  rw [fillA_left z f (t - f) (by omega), fillE_left z f (t - f) (by omega)]
theorem cut_left (z : List Int) {P Q : List Ins} (T : TwoP P Q) : ((cutZ (P ++ Q)).map (fillB z (P ++ Q))).take (cutZ P).length = (cutZ P).map (fillB z P) := by
  apply List.ext_getElem?
  intro k
  rw [List.getElem?_take]
  by_cases h : k < (cutZ P).length
  · rw [if_pos h]
    rw [cutZ_len] at h
    rw [List.getElem?_map, List.getElem?_map, cutZ_get h, cutZ_get (by rw [two_len T]; omega)]
    simp only [Option.map_some]
    rw [blk_left T h, fillB_left z h]
  · rw [if_neg h, List.getElem?_eq_none (by rw [List.length_map]; omega)]
theorem leads_one (x : Ins) : (leadsZ [x]).length = 1 := by
  have h1 : (leadsZ [x]).length ≤ 1 := by unfold leadsZ; exact Nat.le_trans (List.length_filter_le _ _) (by simp)
  have h2 := List.length_pos_of_mem (leads_zero (l := [x]) (by simp))
  omega
/-- Both may be, and the code behind does not lead back: the two are apart. -/
theorem behind_two {P : List Ins} {x : Ins} {sz : Int} {m : Nat} {o : List Int} (h1 : closedZ P sz m o = true) (h2 : closedZ (P ++ [x]) sz m o = true) (hl : ∃ i, P[P.length - 1]? = some i ∧ i.op = 41) (hn : P.length ≤ 80)
    (ht : ¬ (0 ≤ targetZ (P.length + 1) P.length x ∧ targetZ (P.length + 1) P.length x < P.length)) : TwoP P [x] := by
  have r1 : rightZ P sz m = true := by unfold closedZ at h1; simp only [Bool.and_eq_true] at h1; exact h1.1.2
  have r2 : rightZ (P ++ [x]) sz m = true := by unfold closedZ at h2; simp only [Bool.and_eq_true] at h2; exact h2.1.2
  obtain ⟨⟨n0, n1⟩, t1⟩ := rightZ_parts r1
  obtain ⟨_, t2⟩ := rightZ_parts r2
  refine ⟨by omega, by simp, hl, fun j i h hj => by have := target_in t1 h hj; simpa using this, fun j i h hj => ?_⟩
  have hj0 : j = 0 := by
    have := (List.getElem?_eq_some_iff.1 h).1
    simpa using this
  subst hj0
  have hi : x = i := by simpa using h
  subst hi
  have := target_in t2 (show (P ++ [x])[P.length]? = some x by simp) hj
  simp only [List.length_append, List.length_cons, List.length_nil] at this
  have e : targetZ (P.length + 1) P.length x = (P.length : Int) + x.imm := by
    unfold targetZ
    rw [if_neg]
    rintro (c | c | c | c | c)
    · rw [hj] at c; cases c
    · omega
    · omega
    · omega
    · omega
  rw [e] at ht
  simp only [List.length_cons, List.length_nil]
  omega
theorem behind_with {P : List Ins} {x : Ins} {sz : Int} {m : Nat} {o : List Int} (h1 : closedZ P sz m o = true) (h2 : closedZ (P ++ [x]) sz m o = true) (hl : ∃ i, P[P.length - 1]? = some i ∧ i.op = 41) (hn : P.length ≤ 80)
    (ht : ¬ (0 ≤ targetZ (P.length + 1) P.length x ∧ targetZ (P.length + 1) P.length x < P.length)) :
    (withZ (P ++ [x]) sz m o).length = (withZ P sz m o).length + 1 ∧ (withZ (P ++ [x]) sz m o).take (withZ P sz m o).length = withZ P sz m o := by
  have T := behind_two h1 h2 hl hn ht
  have r1 : rightZ P sz m = true := by unfold closedZ at h1; simp only [Bool.and_eq_true] at h1; exact h1.1.2
  have r2 : rightZ (P ++ [x]) sz m = true := by unfold closedZ at h2; simp only [Bool.and_eq_true] at h2; exact h2.1.2
  rw [(with_yes h1).1, (with_yes h2).1]
  unfold cutR
  rw [if_pos r1, if_pos r2]
  refine ⟨?_, ?_⟩
  · rw [List.length_map, List.length_map, cutZ_len, cutZ_len, two_len T, leads_one]
  · rw [List.length_map]; exact cut_left _ T
/-- A row of blocks cut short. -/
theorem Row.front {w : World} {B s n c k : Nat} {A : Option Addr} {xs : List Value} (h : Row w B s (.slice A n c) n xs) (hk : k ≤ n) (hn : n ≠ 0) : Row w B s (.slice A k c) k (xs.take (k * s)) := by
  obtain ⟨h0, A', c', h1, h2, h3, h4, h5⟩ := h
  injection h1 with e1 _ e2
  subst e1 e2
  obtain ⟨b, off, e, hb, hc⟩ := h5 hn
  refine ⟨by rw [List.length_take, h0]; exact Nat.min_eq_left (Nat.mul_le_mul_right _ hk), _, _, rfl, by omega, h3, h4, fun _ => ⟨b, off, e, hb, fun j u hu => hc j u ?_⟩⟩
  rw [List.getElem?_take] at hu
  split at hu
  · exact hu
  · cases hu
theorem flat_take {α : Type} {f : α → List Value} {s : Nat} (hf : ∀ x, (f x).length = s) (l : List α) (k : Nat) : (flat f l).take (k * s) = flat f (l.take k) := by
  induction l generalizing k with
  | nil => simp [flat]
  | cons x l ih =>
    cases k with
    | zero => simp [flat]
    | succ k =>
      rw [flat_cons, List.take_succ_cons, flat_cons, List.take_append, hf, show (k + 1) * s - s = k * s by rw [Nat.add_mul, Nat.one_mul]; omega, ih, List.take_of_length_le (by rw [hf, Nat.add_mul, Nat.one_mul]; omega)]
theorem BlksV.front {w : World} {B n c k : Nat} {A : Option Addr} {l : List BlkC} (h : BlksV w B (.slice A n c) l) (hl : l.length = n) (hk : k ≤ n) (hn : n ≠ 0) : BlksV w B (.slice A k c) (l.take k) := by
  obtain ⟨rs, h1, h2, h3⟩ := h
  refine ⟨rs.take k, ?_, by rw [List.length_take, List.length_take, h2], fun j r c hr hc => ?_⟩
  · rw [← flat_take blkRL_len, List.length_take, hl, Nat.min_eq_left hk]
    rw [hl] at h1
    exact h1.front hk hn
  · rw [List.getElem?_take] at hr hc
    split at hr
    · rename_i hj
      rw [if_pos hj] at hc
      exact h3 j r c hr hc
    · cases hr
end Go.Proofs.Ytbibfpopkcekdaa.Words

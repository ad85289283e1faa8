/- What the laws SlotsOrder and SlotsFirst run through, as plain mathematics. -/
import Derived.Test.YtpoigbgdaiopmaaSltMath
namespace Go.Proofs.Ytpoigbgdaiopmaa.Words
set_option maxRecDepth 100000
open Go.RowKit
set_option linter.unusedVariables false
set_option linter.unusedSimpArgs false

def ordS (H : List Bool) (W : List Int) (j : Nat) : Slt := ⟨100 + j, H.getD j false, if H.getD j false = true then W.getD j 0 else 0⟩
/-- The places from nx on: each is full just if H says so. -/
def ordL (H : List Bool) (W : List Int) (nx : Nat) : List Slt := ((List.range H.length).drop nx).map (ordS H W)
theorem ordL_at (H : List Bool) (W : List Int) (nx j : Nat) : (ordL H W nx)[j]? = if nx + j < H.length then some (ordS H W (nx + j)) else none := by
  unfold ordL
  rw [List.getElem?_map, List.getElem?_drop]
  by_cases h : nx + j < H.length
  · rw [if_pos h, List.getElem?_range h]; rfl
  · rw [if_neg h, List.getElem?_eq_none (by simp; omega)]; rfl
theorem ordL_len (H : List Bool) (W : List Int) (nx : Nat) : (ordL H W nx).length = H.length - nx := by simp [ordL]
theorem getD_set_self {α : Type} {l : List α} {k : Nat} (d v : α) (h : k < l.length) : (l.set k v).getD k d = v := by simp [List.getD_eq_getElem?_getD, h]
theorem getD_set_ne {α : Type} {l : List α} {k j : Nat} (d v : α) (h : j ≠ k) : (l.set k v).getD j d = l.getD j d := by simp [List.getD_eq_getElem?_getD, List.getElem?_set, Ne.symm h]
theorem ordL_nil (i : Nat) (W : List Int) : ordL (List.replicate 0 false) W 0 = [] := by simp [ordL]
theorem getD_repl (m j : Nat) : (List.replicate m false).getD j false = false := by
  rw [List.getD_eq_getElem?_getD, List.getElem?_replicate]; split <;> rfl
theorem ordS_repl (m : Nat) (W : List Int) (j : Nat) : ordS (List.replicate m false) W j = ⟨100 + j, false, 0⟩ := by unfold ordS; rw [getD_repl]; rfl
theorem ord_reserve (i : Nat) (W : List Int) (h : i < 30) : reserveZ (ordL (List.replicate i false) W 0) 30 (100 + i) = ordL (List.replicate (i + 1) false) W 0 ∧ roomZ (ordL (List.replicate i false) W 0) 30 = true := by
  have hl : (ordL (List.replicate i false) W 0).length = i := by simp [ordL]
  refine ⟨?_, room_yes (by rw [hl]; omega)⟩
  rw [reserve_yes _ (by rw [hl]; omega)]
  unfold ordL
  simp only [List.length_replicate, List.drop_zero]
  rw [List.range_succ, List.map_append]
  congr 1
  · apply List.map_congr_left
    intro j _
    rw [ordS_repl, ordS_repl]
  · rw [List.map_singleton, ordS_repl]
theorem ord_fill {H : List Bool} {W : List Int} {nx k : Nat} (h1 : nx ≤ k) (h2 : k < H.length) (hf : H.getD k false = false) :
    fillZ (100 + k) (W.getD k 0) (ordL H W nx) = ordL (H.set k true) W nx ∧ hasZ (100 + k) (ordL H W nx) = true := by
  have hx : (ordL H W nx)[k - nx]? = some (ordS H W k) := by rw [ordL_at, show nx + (k - nx) = k by omega, if_pos h2]
  have hw : waits (100 + k) (ordS H W k) = true := by unfold waits ordS; rw [hf]; simp
  obtain ⟨e1, e2⟩ := fill_at (w := W.getD k 0) (tag := 100 + k) (l := ordL H W nx) (j := k - nx) (fun j x hj hx => by
    rw [ordL_at] at hx
    split at hx
    · injection hx with hx; rw [← hx]; unfold waits ordS; simp; omega
    · cases hx) hx hw
  refine ⟨?_, e2⟩
  rw [e1]
  apply List.ext_getElem?
  intro j
  rw [List.getElem?_set, ordL_at, ordL_at, List.length_set, ordL_len]
  by_cases hj : k - nx = j
  · rw [if_pos hj, if_pos (by omega), show nx + j = k by omega, if_pos h2]
    unfold ordS
    rw [getD_set_self _ _ h2]; rfl
  · rw [if_neg hj]
    split
    · unfold ordS
      rw [getD_set_ne _ _ (by omega)]
    · rfl
theorem ord_pop {H : List Bool} {W : List Int} {nx : Nat} (h : nx < H.length) (ht : H.getD nx false = true) : popZ (ordL H W nx) = ordL H W (nx + 1) ∧ popV (ordL H W nx) = W.getD nx 0 ∧ canZ (ordL H W nx) = true := by
  have e : ordL H W nx = ordS H W nx :: ordL H W (nx + 1) := by
    unfold ordL
    rw [List.drop_eq_getElem_cons (by simpa using h), List.map_cons]; simp
  have hf : (ordS H W nx).full = true := ht
  rw [e]
  unfold popZ popV canZ
  simp only [hf, if_true]
  refine ⟨trivial, ?_, trivial⟩
  unfold ordS
  simp only [ht, if_true]
theorem ord_stays {H : List Bool} {W : List Int} {nx : Nat} (h : nx < H.length → H.getD nx false = false) : canZ (ordL H W nx) = false := by
  by_cases hn : nx < H.length
  · have e : ordL H W nx = ordS H W nx :: ordL H W (nx + 1) := by
      unfold ordL
      rw [List.drop_eq_getElem_cons (by simpa using hn), List.map_cons]; simp
    rw [e]
    exact h hn
  · have e : ordL H W nx = [] := List.eq_nil_of_length_eq_zero (by rw [ordL_len]; omega)
    rw [e]; rfl
theorem some_free {H : List Bool} (h : H.count true < H.length) : ∃ f, f < H.length ∧ H.getD f false = false := by
  induction H with
  | nil => simp at h
  | cons x r ih =>
    cases x
    · exact ⟨0, by simp, rfl⟩
    · simp at h
      obtain ⟨f, h1, h2⟩ := ih h
      exact ⟨f + 1, by simpa using h1, by simpa using h2⟩
theorem count_more {H : List Bool} {k : Nat} (h : k < H.length) (hf : H.getD k false = false) : (H.set k true).count true = H.count true + 1 := by
  induction H generalizing k with
  | nil => simp at h
  | cons x r ih =>
    cases k with
    | zero => simp at hf; subst hf; simp
    | succ k =>
      simp at h hf
      rw [List.set_cons_succ, List.count_cons, List.count_cons, ih h (by simpa using hf)]; omega
theorem all_true {H : List Bool} (h : H.count true = H.length) {k : Nat} (hk : k < H.length) : H.getD k false = true := by
  induction H generalizing k with
  | nil => simp at hk
  | cons x r ih =>
    have hle := List.count_le_length (a := true) (l := r)
    cases x
    · simp at h; omega
    · cases k with
      | zero => rfl
      | succ k => simp at h hk; simpa using ih h hk
/-- How far it is to f, going round. -/
def roundTo (n f k : Nat) : Nat := if k ≤ f then f - k else f + n - k
theorem roundTo_less {n f k : Nat} (hf : f < n) (hk : k < n) (h : k ≠ f) : roundTo n f ((k + 1) % n) < roundTo n f k := by
  unfold roundTo
  by_cases h1 : k + 1 = n
  · rw [h1, Nat.mod_self]; split <;> split <;> omega
  · rw [Nat.mod_eq_of_lt (by omega)]; split <;> split <;> omega

/- SlotsFirst -/
def e7 : Slt := ⟨7, false, 0⟩
def fstL (f : Nat → Int) (i k : Nat) : List Slt := (List.range i).map (fun j => ⟨7, true, f j⟩) ++ List.replicate k e7
theorem fstL_len (f : Nat → Int) (i k : Nat) : (fstL f i k).length = i + k := by simp [fstL]
theorem fst_reserve (k : Nat) (n : Int) (h : (k : Int) < n) : reserveZ (List.replicate k e7) n 7 = List.replicate (k + 1) e7 ∧ roomZ (List.replicate k e7) n = true := by
  refine ⟨?_, room_yes (by simpa using h)⟩
  rw [reserve_yes _ (by simpa using h), List.replicate_succ']; rfl
theorem fst_full (k : Nat) (n : Int) (h : ¬ (k : Int) < n) : reserveZ (List.replicate k e7) n 7 = List.replicate k e7 ∧ roomZ (List.replicate k e7) n = false :=
  ⟨reserve_no _ (by simpa using h), room_no (by simpa using h)⟩
theorem fstL_old (f : Nat → Int) (i k j : Nat) (h : j < i) : (fstL f i k)[j]? = some ⟨7, true, f j⟩ := by
  unfold fstL
  rw [List.getElem?_append_left (by simpa using h), List.getElem?_map, List.getElem?_range h]; rfl
theorem fstL_new (f : Nat → Int) (i k j : Nat) (h1 : i ≤ j) (h2 : j < i + k) : (fstL f i k)[j]? = some e7 := by
  unfold fstL
  rw [List.getElem?_append_right (by simpa using h1), List.getElem?_replicate, if_pos (by simp; omega)]
theorem fst_fill (f : Nat → Int) (i k : Nat) : fillZ 7 (f i) (fstL f i (k + 1)) = fstL f (i + 1) k ∧ hasZ 7 (fstL f i (k + 1)) = true := by
  obtain ⟨e1, e2⟩ := fill_at (w := f i) (tag := 7) (l := fstL f i (k + 1)) (j := i) (x := e7) (fun j x hj hx => by
    rw [fstL_old f i (k + 1) j hj] at hx
    injection hx with hx; rw [← hx]; rfl) (fstL_new f i (k + 1) i (Nat.le_refl _) (by omega)) rfl
  refine ⟨?_, e2⟩
  rw [e1]
  unfold fstL
  rw [List.set_append_right _ _ (by simp), List.range_succ, List.map_append, List.append_assoc]
  congr 1
  simp [List.replicate_succ, e7]
theorem fst_none (f : Nat → Int) (i : Nat) (tag v : Int) : fillZ tag v (fstL f i 0) = fstL f i 0 ∧ hasZ tag (fstL f i 0) = false := by
  refine fill_none (fun k x hk hx => ?_)
  rw [fstL_len] at hk
  rw [fstL_old f i 0 k (by omega)] at hx
  injection hx with hx; rw [← hx]; unfold waits; simp
theorem fstL_zero (f : Nat → Int) (k : Nat) : fstL f 0 k = List.replicate k e7 := rfl
end Go.Proofs.Ytpoigbgdaiopmaa.Words

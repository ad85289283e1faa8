/- Rows of records: each record's cells one behind the other. Nothing here speaks of one program text. -/
import Derived.Test.YtjkijjbakocilaaBase
namespace Go.Proofs.Ytjkijjbakocilaa.Words
set_option maxRecDepth 100000
open Go.RowKit
section
variable {α : Type} {f : α → List Value} {s : Nat}
def flat (f : α → List Value) (l : List α) : List Value := l.flatMap f
theorem flat_nil : flat f [] = [] := rfl
theorem flat_cons (x : α) (l : List α) : flat f (x :: l) = f x ++ flat f l := by simp [flat]
theorem flat_append (l m : List α) : flat f (l ++ m) = flat f l ++ flat f m := by simp [flat]
theorem flat_one (x : α) : flat f [x] = f x := by simp [flat]
theorem flat_snoc (l : List α) (x : α) : flat f (l ++ [x]) = flat f l ++ f x := by rw [flat_append, flat_one]
theorem flat_len (hf : ∀ x, (f x).length = s) (l : List α) : (flat f l).length = l.length * s := by
  induction l with
  | nil => simp [flat]
  | cons x l ih => rw [flat_cons, List.length_append, ih, hf, List.length_cons, Nat.add_mul, Nat.one_mul, Nat.add_comm]
theorem flat_at (hf : ∀ x, (f x).length = s) (l : List α) (k : Nat) (x : α) (h : l[k]? = some x) (j : Nat) (hj : j < s) : (flat f l)[k * s + j]? = (f x)[j]? := by
  induction l generalizing k with
  | nil => simp at h
  | cons y l ih =>
    rw [flat_cons]
    cases k with
    | zero =>
      simp at h; subst h
      rw [List.getElem?_append_left (by rw [hf]; omega), Nat.zero_mul, Nat.zero_add]
    | succ k =>
      simp at h
      have e : (k + 1) * s = s + k * s := by rw [Nat.add_mul, Nat.one_mul, Nat.add_comm]
      rw [List.getElem?_append_right (by rw [hf, e]; omega), hf, show (k + 1) * s + j - s = k * s + j by omega]
      exact ih k h
theorem Row.flat_cell {w : World} {B n c b off : Nat} {l : List α} (hf : ∀ x, (f x).length = s) (h : Row w B s (.slice (some ⟨b, off, none⟩) n c) n (flat f l)) {k : Nat} {x : α} (hx : l[k]? = some x) {j : Nat} {u : Value} (hj : j < s) (hu : (f x)[j]? = some u) :
    w.cell? ⟨b, off + k * s + j, none⟩ = some u := by
  have := h.cells ⟨b, off, none⟩ rfl (k * s + j) u ((flat_at hf l k x hx j hj).trans hu)
  rwa [add_spot, ← Nat.add_assoc] at this
theorem Row.flat_count {w : World} {B n : Nat} {v : Value} {l : List α} (hf : ∀ x, (f x).length = s) (hs : 0 < s) (h : Row w B s v n (flat f l)) : l.length = n := by
  have := h.1
  rw [flat_len hf] at this
  exact Nat.eq_of_mul_eq_mul_right hs this
end
end Go.Proofs.Ytjkijjbakocilaa.Words

/- A whole record is written into a row of the call's own: what the row reads as then. Laws of no one program. -/
import Derived.Test.YtpoigbgdaiopmaaOwnSet
import Derived.Test.YtpoigbgdaiopmaaBoxes
namespace Go.Proofs.Ytpoigbgdaiopmaa.Words
set_option maxRecDepth 100000
open Go.RowKit
set_option linter.unusedVariables false
theorem own_form0 {w : World} {base : Nat} {e : TypeId} {s n c : Nat} {A : Option Addr} {xs : List Value} (h : w.ownsRow base e s (.slice A n c) n xs) (h0 : n ≠ 0) : ∃ g, A = some ⟨g, 0, none⟩ ∧ base ≤ g ∧ g < w.heap.size := by
  obtain ⟨g, cap, he, h1, h2⟩ := own_form h h0
  injection he with hA _ _
  exact ⟨g, hA, h1, h2⟩
theorem own_boxL {w : World} {base : Nat} {e : TypeId} {s g n cap : Nat} {xs : List Value} (h : w.ownsRow base e s (.slice (some ⟨g, 0, none⟩) n cap) n xs) : ∃ ys, Box w g (xs ++ ys) := by
  obtain ⟨h0, h1⟩ := h
  rcases h1 with ⟨h', _⟩ | ⟨g', cap', cur, h', h1, h2, h3, h4, h5, h6⟩
  · simp at h'
  · simp only [Value.slice.injEq, Option.some.injEq, Addr.mk.injEq, and_true, true_and] at h'
    obtain ⟨rfl, rfl⟩ := h'
    refine ⟨cur.toList.drop (n * s), ⟨e, ?_⟩⟩
    rw [← h6, List.take_append_drop]
    simpa using h2
theorem own_setsAt {base : Nat} {e : TypeId} {s g n cap : Nat} : ∀ {cs : List Value} {w : World} {xs : List Value} (k : Nat), w.ownsRow base e s (.slice (some ⟨g, 0, none⟩) n cap) n xs → k + cs.length ≤ n * s → (w.setCells g k cs).ownsRow base e s (.slice (some ⟨g, 0, none⟩) n cap) n (splice xs k cs)
  | [], w, xs, k, h, _ => by rw [splice_nil]; exact h
  | v :: r, w, xs, k, h, hk => by
    simp at hk
    rw [World.setCells, splice_cons _ _ _ _ (by have := h.1; omega)]
    exact own_setsAt (k + 1) (own_setAt h k (by omega) v) (by omega)
theorem splice_at (A B : List Value) {X Y : List Value} (h : X.length = Y.length) : splice (A ++ X ++ B) A.length Y = A ++ Y ++ B := by
  unfold splice
  simp [h, List.drop_append]
theorem splice_flatG {α : Type} {f : α → List Value} {s : Nat} (hf : ∀ x, (f x).length = s) (l : List α) (k : Nat) (r : α) (hk : k < l.length) : splice (flat f l) (k * s) (f r) = flat f (l.set k r) := by
  have e1 : l = l.take k ++ [l[k]] ++ l.drop (k + 1) := by rw [← List.take_succ_eq_append_getElem hk, List.take_append_drop]
  have e2 : l.set k r = l.take k ++ [r] ++ l.drop (k + 1) := by rw [List.set_eq_take_append_cons_drop, if_pos hk]; simp
  have e3 : flat f l = flat f (l.take k) ++ f l[k] ++ flat f (l.drop (k + 1)) := by conv => lhs; rw [e1]; rw [flat_append, flat_append, flat_one]
  rw [e2, e3, flat_append, flat_append, flat_one]
  have := splice_at (flat f (l.take k)) (flat f (l.drop (k + 1))) (X := f l[k]) (Y := f r) (by rw [hf, hf])
  rw [flat_len hf, List.length_take, Nat.min_eq_left (Nat.le_of_lt hk)] at this
  exact this
section
variable {P : Program} {w : World} {ops : Array Oper} {rest : List Oper} {op : Oper} {a : Act} {Q : Exit → Act → World → Prop}
/-- A record is written whole, in its place of a row of the call's own. -/
theorem wpList_store_own {α : Type} {f : α → List Value} {s : Nat} (hf : ∀ x, (f x).length = s) (hw : Region.wanted op (yielded ops a.tmps) = true) (ty : TypeId) (x y : Operand) (ho : op.op = .store ty x y)
    (base : Nat) (e : TypeId) (g n cap : Nat) (l : List α) (k : Nat) (r : α) (hx : a.eval x = .pointer (some ⟨g, k * s, none⟩)) (hy : a.eval y = .agg (f r).toArray) (hO : w.ownsRow base e s (.slice (some ⟨g, 0, none⟩) n cap) n (flat f l)) (hn : l.length = n) (hk : k < n)
    (hi : (P.info? ty).map (·.size) = some s) (h1 : ∀ v ∈ f r, v.oneCell' = true)
    (h : ∀ w', w'.ownsRow base e s (.slice (some ⟨g, 0, none⟩) n cap) n (flat f (l.set k r)) → w.grownBy w' (some g) → wpList P ops Q rest (a.put op.dst undef) w') : wpList P ops Q (op :: rest) a w :=
  wpList_step fun K hK => by
    obtain ⟨ys, hb⟩ := own_boxL hO
    have hks : k * s + s ≤ n * s := by rw [← Nat.succ_mul]; exact Nat.mul_le_mul_right _ hk
    rw [if_pos hw]
    refine wp_store_mid ty x y ho g (k * s) (f r).toArray hx hy (hb.there (by simp [hf]; have := hO.1; omega)) (by rw [hi]; simp [hf]) (all_oneCell_toArray h1) (hK _ _ <| h _ ?_ (by simpa using grown_setCells w g (f r) (k * s) hb.lt))
    have := own_setsAt (w := w) (cs := f r) (k * s) hO (by rw [hf]; exact hks)
    rw [splice_flatG hf l k r (by omega)] at this
    simpa using this
end
end Go.Proofs.Ytpoigbgdaiopmaa.Words

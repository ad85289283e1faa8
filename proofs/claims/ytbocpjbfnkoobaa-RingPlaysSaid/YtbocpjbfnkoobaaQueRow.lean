/- A row in a block of the call's own that may begin anywhere in it: what a queue is that is cut at its front and grows at its end. Laws of no one program. -/
import Derived.Test.YtbocpjbfnkoobaaKeepS
import Derived.Test.YtbocpjbfnkoobaaRowLaws
namespace Go.Proofs.Ytbocpjbfnkoobaa.Words
set_option maxRecDepth 100000
open Go.RowKit
set_option linter.unusedVariables false
set_option linter.unusedSimpArgs false

/-- v reads as xs, each a cell, in a block at or behind base, from wherever in it. -/
def QRow (w : World) (base : Nat) (e : TypeId) (v : Value) (xs : List Value) : Prop :=
  (v = .slice none 0 0 ∧ xs = []) ∨
  ∃ g off cap cur, v = .slice (some ⟨g, off, none⟩) xs.length cap ∧ base ≤ g ∧ w.heap[g]? = some (.cells cur e (0, 0)) ∧ xs.length ≤ cap ∧ cap ≤ maxLen ∧ off + cap ≤ cur.size ∧ (cur.toList.drop off).take xs.length = xs
section
variable {w w' : World} {base : Nat} {e : TypeId} {v : Value} {xs : List Value}
theorem QRow.nil (w : World) (base : Nat) (e : TypeId) : QRow w base e (.slice none 0 0) [] := .inl ⟨rfl, rfl⟩
theorem QRow.form (h : QRow w base e v xs) : ∃ A c, v = .slice A xs.length c := by
  rcases h with ⟨rfl, rfl⟩ | ⟨g, off, cap, cur, rfl, _⟩
  · exact ⟨_, _, rfl⟩
  · exact ⟨_, _, rfl⟩
theorem QRow.shape (h : QRow w base e v xs) : ∃ A n c, v = .slice A n c := by
  obtain ⟨A, c, h⟩ := h.form
  exact ⟨_, _, _, h⟩
theorem QRow.cells {g off cap : Nat} {cur : Array Value} (hg : w.heap[g]? = some (.cells cur e (0, 0))) (hx : (cur.toList.drop off).take xs.length = xs) : ∀ j u, xs[j]? = some u → w.cell? ⟨g, off + j, none⟩ = some u := by
  intro j u hu
  rw [cell_of_row w g (off + j) cur e (0, 0) hg]
  rw [← hx, List.getElem?_take] at hu
  split at hu
  · rw [List.getElem?_drop] at hu; simpa using hu
  · cases hu
theorem QRow.row (h : QRow w base e v xs) : Row w w.heap.size 1 v xs.length xs := by
  rcases h with ⟨rfl, rfl⟩ | ⟨g, off, cap, cur, rfl, hb, hg, h1, h2, h3, h4⟩
  · exact Row.nil _ _ _
  · refine ⟨by simp, _, _, rfl, h1, by simpa [maxLen] using h2, (fun h => by cases h), fun _ => ⟨g, off, rfl, (Array.getElem?_eq_some_iff.1 hg).1, ?_⟩⟩
    exact QRow.cells (cap := cap) hg h4
theorem QRow.lt (h : QRow w base e v xs) : ∀ k, v.ownBlock = some k → base ≤ k ∧ k < w.heap.size := by
  intro k hk
  rcases h with ⟨rfl, _⟩ | ⟨g, off, cap, cur, rfl, hb, hg, _⟩
  · simp [Value.ownBlock] at hk
  · simp [Value.ownBlock] at hk
    subst hk
    exact ⟨hb, (Array.getElem?_eq_some_iff.1 hg).1⟩
theorem QRow.keepS {S : Nat → Prop} (h : QRow w base e v xs) (hk : KeepS S w w') (hn : ∀ g, v.ownBlock = some g → ¬ S g) : QRow w' base e v xs := by
  rcases h with h | ⟨g, off, cap, cur, rfl, hb, hg, h1⟩
  · exact .inl h
  · exact .inr ⟨g, off, cap, cur, rfl, hb, (hk.block g (Array.getElem?_eq_some_iff.1 hg).1 (hn g rfl)).trans hg, h1⟩
theorem QRow.below (h : QRow w base e v xs) (hk : Below w.heap.size w w') : QRow w' base e v xs := h.keepS (KeepS.of_below (S := fun _ => False) hk) (fun _ _ e => e)
/-- Without its first. -/
theorem QRow.tail {g off cap n : Nat} {x : Value} (h : QRow w base e (.slice (some ⟨g, off, none⟩) n cap) (x :: xs)) : QRow w base e (.slice (some ⟨g, off + 1, none⟩) xs.length (cap - 1)) xs := by
  rcases h with ⟨h, _⟩ | ⟨g', off', cap', cur, he, hb, hg, h1, h2, h3, h4⟩
  · simp at h
  · simp only [Value.slice.injEq, Option.some.injEq, Addr.mk.injEq, and_true] at he
    obtain ⟨⟨rfl, rfl⟩, rfl, rfl⟩ := he
    simp only [List.length_cons] at h1 h4
    refine .inr ⟨_, _, _, cur, rfl, hb, hg, by omega, by omega, by omega, ?_⟩
    rcases hd : cur.toList.drop off with _ | ⟨y, r⟩
    · rw [hd] at h4; simp at h4
    · rw [hd, List.take_succ_cons] at h4
      injection h4 with h5 h6
      have : cur.toList.drop (off + 1) = r := by rw [← List.drop_drop, hd]; rfl
      rw [this]; exact h6
theorem QRow.tail1 {g off n : Nat} {x : Value} (h : QRow w base e (.slice (some ⟨g, off, none⟩) n 1) (x :: xs)) : xs = [] ∧ QRow w base e (.slice (some ⟨g, off, none⟩) 0 0) [] := by
  rcases h with ⟨h, _⟩ | ⟨g', off', cap', cur, he, hb, hg, h1, h2, h3, h4⟩
  · simp at h
  · simp only [Value.slice.injEq, Option.some.injEq, Addr.mk.injEq, and_true] at he
    obtain ⟨⟨rfl, rfl⟩, rfl, rfl⟩ := he
    simp only [List.length_cons] at h1
    refine ⟨List.eq_nil_of_length_eq_zero (by omega), .inr ⟨_, _, _, cur, rfl, hb, hg, by simp, by simp [maxLen], by omega, by simp⟩⟩
end
section
variable {P : Program} (w : World)
theorem run_append_room_at (t ty e : TypeId) (i : TypeInfo) (ht : P.underlying t = some (.slice e)) (hi : P.info? e = some i) (hs : i.size = 1)
    (g off n cap : Nat) (cur : Array Value) (hg : w.heap[g]? = some (.cells cur e (0, 0)))
    (a : Addr) (c : Nat) (u : Value) (hu : w.cell? a = some u) (h1 : u.oneCell' = true) (hroom : n + 1 ≤ cap) (hfit : off + cap ≤ cur.size) :
    (Builtin.append_ #[t, t] ty #[.slice (some ⟨g, off, none⟩) n cap, .slice (some a) 1 c]).run P w =
      .ok (.slice (some ⟨g, off, none⟩) (n + 1) cap) (w.setRow g (cur.toList.take (off + n) ++ [u] ++ cur.toList.drop (off + n + 1)).toArray) := by
  have hf := run_firstCells_some (P := P) w 1 1 a 1 c [u] rfl (fun j v hv => by
    cases j with
    | zero =>
      simp only [List.getElem?_cons_zero, Option.some.injEq] at hv
      subst hv
      have : a.add 0 = a := by unfold Addr.add; simp
      rw [this]; exact hu
    | succ j => simp at hv)
  have hst := run_storeCells_at P g (off + n) e [u] 0 cur w hg (by simp; omega) (by simpa using h1)
  simp only [Nat.add_zero, List.length_singleton] at hst
  have hadd : (⟨g, off, none⟩ : Addr).add n = ⟨g, off + n, none⟩ := add_spot g off n
  simp [Builtin.append_, run_underlying ht, sizeOf, typeInfo, hi, hs, Builtin.lenOf, hroom, hf, hadd, hst]

theorem run_append_q (base : Nat) (t ty e : TypeId) (i : TypeInfo) (z : Value) (bytes : Nat) (ht : P.underlying t = some (.slice e)) (hi : P.info? e = some i) (hz : i.zero = some z)
    (hs : i.size = 1) (hby : i.bytes = bytes) (hzs : z.cells.size = 1) (v : Value) (xs : List Value) (hq : QRow w base e v xs)
    (a : Addr) (c : Nat) (u : Value) (hu : w.cell? a = some u) (h1 : u.oneCell' = true) (h63 : xs.length + 1 ≤ maxLen) (hbytes : (xs.length + 1) * bytes ≤ 140737488355328) (hbase : base ≤ w.heap.size) :
    ∃ v' w', (Builtin.append_ #[t, t] ty #[v, .slice (some a) 1 c]).run P w = .ok v' w' ∧ QRow w' base e v' (xs ++ [u]) ∧ w.grownBy w' v.ownBlock := by
  subst hby
  have hnews : ∀ j x, [u][j]? = some x → w.cell? (a.add j) = some x := fun j x hx => by
    cases j with
    | zero =>
      simp only [List.getElem?_cons_zero, Option.some.injEq] at hx
      subst hx
      have : a.add 0 = a := by unfold Addr.add; simp
      rw [this]; exact hu
    | succ j => simp at hx
  have hsmall : xs.length + 1 ≤ 9223372036854775807 := by simp only [maxLen] at h63; omega
  rcases hq with ⟨rfl, rfl⟩ | ⟨g, off, cap, cur, rfl, hb, hg, hn, hcm, hcs, htake⟩
  · obtain ⟨v', w', k1, k2, k3, _⟩ := run_append_own (P := P) w base t ty e i z 1 i.bytes ht hi hz hs rfl hzs (by omega) (.slice none 0 0) 0 [] (World.ownsRow_nil _ _ _ _) a 1 c [u] rfl hnews (by simpa using h1) (by simpa using h63) (by simpa using hbytes) hbase
    refine ⟨v', w', k1, ?_, k3⟩
    rcases k2.2 with ⟨rfl, h⟩ | ⟨g, cap, cur, rfl, h1, h2, h3, h4, h5, h6⟩
    · omega
    · exact .inr ⟨g, 0, cap, cur, rfl, h1, h2, by simpa using h3, h4, by omega, by simpa using h6⟩
  · by_cases hroom : xs.length + 1 ≤ cap
    · have hr := run_append_room_at (P := P) w t ty e i ht hi hs g off xs.length cap cur hg a c u hu h1 hroom hcs
      refine ⟨_, _, hr, .inr ⟨g, off, cap, _, by simp, hb, setRow_heap w g cur _ e _ hg, by simpa using hroom, hcm, ?_, ?_⟩, ⟨rfl, rfl, rfl, by simp, fun k _ hk => setRow_other w g k _ (fun e => hk (by simp [Value.ownBlock, e]))⟩⟩
      · simp only [List.size_toArray, List.length_append, List.length_take, List.length_drop, Array.length_toList, List.length_singleton]
        omega
      · have hl : (cur.toList.take (off + xs.length)).length = off + xs.length := by simp; omega
        rw [List.append_assoc, List.drop_append_of_le_length (by rw [hl]; omega), List.drop_take, show off + xs.length - off = xs.length by omega, htake, ← List.append_assoc]
        exact List.take_left
    · have hr := run_append_grow (P := P) w t ty e i z ht hi hz ⟨g, off, none⟩ xs.length cap xs (by rw [hs]; simp) (fun j x hx => by rw [add_spot]; exact QRow.cells (cap := cap) hg htake j x hx) a 1 c [u] (by rw [hs]; rfl) hnews (by omega) (by omega) (growslice_fits (by omega) hbytes)
      have hge := grownCap_ge w (xs.length + 1) cap e
      have hcm2 : grownCap w (xs.length + 1) cap e ≤ maxLen := grownCap_le_maxLen w (xs.length + 1) cap e h63
      refine ⟨_, _, hr, .inr ⟨w.heap.size, 0, _, _, by simp, hbase, heap_alloc_new w.drew _, by simpa using hge, hcm2, ?_, ?_⟩, ⟨rfl, rfl, rfl, by simp, fun k hk _ => heap_alloc_old (w := w.drew) _ hk⟩⟩
      · simp only [Array.size_append, List.size_toArray, size_zeroCells, hzs, List.length_singleton]
        omega
      · simp only [Array.toList_append, List.drop_zero]
        exact List.take_left
theorem wpList_append_q {ops : Array Oper} {rest : List Oper} {o : Oper} {a : Act} {Q : Exit → Act → World → Prop} (hgd : o.guard = none) (s x : Operand) (t : TypeId)
    (ho : o.op = .call { callee := .builtin .append, args := #[s, x], argTypes := #[t, t] })
    (base : Nat) (e : TypeId) (i : TypeInfo) (z : Value) (bytes : Nat) (ht : P.underlying t = some (.slice e)) (hi : P.info? e = some i) (hz : i.zero = some z)
    (hs : i.size = 1) (hby : i.bytes = bytes) (hzs : z.cells.size = 1) (v : Value) (xs : List Value) (hv : a.eval s = v) (hq : QRow w base e v xs)
    (ad : Addr) (c : Nat) (u : Value) (hx : a.eval x = .slice (some ad) 1 c) (hu : w.cell? ad = some u) (h1 : u.oneCell' = true) (h63 : xs.length + 1 ≤ maxLen) (hbytes : (xs.length + 1) * bytes ≤ 140737488355328) (hbase : base ≤ w.heap.size)
    (h : ∀ v' w', QRow w' base e v' (xs ++ [u]) → w.grownBy w' v.ownBlock → wpList P ops Q rest (a.put o.dst v') w') : wpList P ops Q (o :: rest) a w := by
  refine wpList_plain hgd fun K hK => ?_
  obtain ⟨v', w', hr, h2, h3⟩ := run_append_q (P := P) w base t o.type e i z bytes ht hi hz hs hby hzs v xs hq ad c u hu h1 h63 hbytes hbase
  unfold Oper.wp execOp
  simp only [ho, resolve, invoke, builtin, Sem.run_bind, Sem.run_pure, Result.andThen_ok, List.map_toArray, List.map_cons, List.map_nil, hv, hx, hr]
  exact hK _ _ (h v' w' h2 h3)
end
end Go.Proofs.Ytbocpjbfnkoobaa.Words

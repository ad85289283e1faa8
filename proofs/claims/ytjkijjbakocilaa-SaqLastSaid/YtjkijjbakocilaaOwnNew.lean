/- append onto a row of the call's own: its block is the row's, or a new one. A law of no one program. -/
import Derived.Test.YtjkijjbakocilaaRowLaws
import Derived.Test.YtjkijjbakocilaaOwn
namespace Go.Proofs.Ytjkijjbakocilaa.Words
set_option maxRecDepth 100000
open Go.RowKit
section
variable {P : Program} (w : World)
theorem run_append_new (base : Nat) (t ty e : TypeId) (i : TypeInfo) (z : Value) (size bytes : Nat) (ht : P.underlying t = some (.slice e)) (hi : P.info? e = some i) (hz : i.zero = some z)
    (hsize : i.size = size) (hby : i.bytes = bytes) (hzs : z.cells.size = size) (hsz : 0 < size)
    (v : Value) (n : Nat) (xs : List Value) (hown : w.ownsRow base e size v n xs) (B : Nat) (x : Value) (m : Nat) (news : List Value) (hr : Row w B size x m news) (h1 : ∀ u ∈ news, u.oneCell' = true)
    (h63 : n + m ≤ maxLen) (hbytes : (n + m) * bytes ≤ 140737488355328) (hbase : base ≤ w.heap.size) :
    ∃ v' w', (Builtin.append_ #[t, t] ty #[v, x]).run P w = .ok v' w' ∧ w'.ownsRow base e size v' (n + m) (xs ++ news) ∧ w.grownBy w' v.ownBlock ∧ (∀ g, v'.ownBlock = some g → v.ownBlock = some g ∨ w.heap.size ≤ g) := by
  obtain ⟨v', w', r1, r2, r3⟩ := run_append_row (P := P) w base t ty e i z size bytes ht hi hz hsize hby hzs hsz v n xs hown B x m news hr h1 h63 hbytes hbase
  refine ⟨v', w', r1, r2, r3, fun g hg => ?_⟩
  rcases hown.2 with ⟨rfl, rfl⟩ | ⟨g0, cap, cur, rfl, hbg, hh, hnc, hcm, hcs, htake⟩
  · have hx : xs = [] := List.eq_nil_of_length_eq_zero (by simpa using hown.1)
    subst hx
    obtain ⟨v2, w2, k1, k2, _⟩ := run_append_row (P := P) w w.heap.size t ty e i z size bytes ht hi hz hsize hby hzs hsz _ 0 [] (World.ownsRow_nil _ _ _ _) B x m news hr h1 h63 hbytes (Nat.le_refl _)
    have := r1.symm.trans k1
    injection this with e1 e2
    subst e1
    exact .inr (k2.lt g hg).1
  · obtain ⟨A, c, rfl⟩ := hr.form
    cases A with
    | none =>
      obtain ⟨rfl, rfl⟩ := hr.bare rfl
      have k1 := run_append_owned_none (P := P) w base t ty e i size ht hi _ n xs hown
      have := r1.symm.trans k1
      injection this with e1 e2
      subst e1
      exact .inl hg
    | some ad =>
      by_cases hroom : n + m ≤ cap
      · have k1 := run_append_room (P := P) w t ty e i ht hi g0 n cap cur hh ad m c news (by rw [hsize]; exact hr.len) (hr.cells ad rfl) h1 hroom (by
          have := hr.len
          rw [hsize, this, ← Nat.add_mul]
          have h2 : cur.size = cap * size := by simpa using hcs
          rw [h2]
          exact Nat.mul_le_mul_right _ hroom)
        have := r1.symm.trans k1
        injection this with e1 e2
        rw [e1] at hg
        exact .inl hg
      · have k1 := run_append_grow (P := P) w t ty e i z ht hi hz ⟨g0, 0, none⟩ n cap xs (by rw [hsize]; exact hown.1) (hown.cells (g := g0) rfl) ad m c news (by rw [hsize]; exact hr.len) (hr.cells ad rfl) (by omega) (by unfold maxLen at h63; omega)
          (by rw [hby]; exact growslice_fits (by omega) (by omega))
        have := r1.symm.trans k1
        injection this with e1 e2
        rw [e1] at hg
        simp only [Value.ownBlock, Option.some.injEq] at hg
        exact .inr (Nat.le_of_eq hg)
theorem wpList_append_new {ops : Array Oper} {rest : List Oper} {o : Oper} {a : Act} {Q : Exit → Act → World → Prop} (hgd : o.guard = none) (s y : Operand) (t : TypeId)
    (ho : o.op = .call { callee := .builtin .append, args := #[s, y], argTypes := #[t, t] })
    (base : Nat) (e : TypeId) (i : TypeInfo) (z : Value) (size bytes : Nat) (ht : P.underlying t = some (.slice e)) (hi : P.info? e = some i) (hz : i.zero = some z)
    (hsize : i.size = size) (hby : i.bytes = bytes) (hzs : z.cells.size = size) (hsz : 0 < size)
    (v : Value) (n : Nat) (xs : List Value) (hs : a.eval s = v) (hown : w.ownsRow base e size v n xs) (B : Nat) (x : Value) (m : Nat) (news : List Value) (hx : a.eval y = x) (hr : Row w B size x m news) (h1 : ∀ u ∈ news, u.oneCell' = true)
    (h63 : n + m ≤ maxLen) (hbytes : (n + m) * bytes ≤ 140737488355328) (hbase : base ≤ w.heap.size)
    (h : ∀ v' w', w'.ownsRow base e size v' (n + m) (xs ++ news) → w.grownBy w' v.ownBlock → (∀ g, v'.ownBlock = some g → v.ownBlock = some g ∨ w.heap.size ≤ g) → wpList P ops Q rest (a.put o.dst v') w') : wpList P ops Q (o :: rest) a w := by
  refine wpList_plain hgd fun K hK => ?_
  obtain ⟨v', w', hrun, h2, h3, h4⟩ := run_append_new (P := P) w base t o.type e i z size bytes ht hi hz hsize hby hzs hsz v n xs hown B x m news hr h1 h63 hbytes hbase
  unfold Oper.wp execOp
  simp only [ho, resolve, invoke, builtin, Sem.run_bind, Sem.run_pure, Result.andThen_ok, List.map_toArray, List.map_cons, List.map_nil, hs, hx, hrun]
  exact hK _ _ (h v' w' h2 h3 h4)
end
end Go.Proofs.Ytjkijjbakocilaa.Words

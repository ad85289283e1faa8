/- Laws of no one program: a part of a row; 'copy' of any row into a row of the call's own, as one operation and in a plain region. -/
import Derived.Test.YtjkijjbakocilaaOwn
import Derived.Laws.CopyOwn
namespace Go.Proofs.Ytjkijjbakocilaa.Words
set_option maxRecDepth 100000
open Go.RowKit
set_option linter.unusedVariables false

theorem Row.cut {w : World} {B n c k m : Nat} {b off : Nat} {xs : List Value} (h : Row w B 1 (.slice (some ⟨b, off, none⟩) n c) n xs) (hk : k + m ≤ n) (hm : 0 < n) :
    Row w B 1 (.slice (some ⟨b, off + k, none⟩) m (c - k)) m ((xs.drop k).take m) := by
  have hl : xs.length = n := by have := h.len; omega
  obtain ⟨h2, h3⟩ := h.cap
  obtain ⟨b', off', e, hb, hc⟩ := h.at_ (by omega)
  simp only [Option.some.injEq, Addr.mk.injEq, and_true] at e
  obtain ⟨rfl, rfl⟩ := e
  refine ⟨by simp; omega, _, _, rfl, by omega, by omega, (fun h => by cases h), fun _ => ⟨b, off + k, rfl, hb, fun j u hu => ?_⟩⟩
  have hj : (xs.drop k)[j]? = some u := by
    rw [List.getElem?_take] at hu
    split at hu
    · exact hu
    · cases hu
  rw [List.getElem?_drop] at hj
  rw [show off + k + j = off + (k + j) by omega]
  exact hc _ _ hj

theorem own_block {w : World} {base : Nat} {e : TypeId} {g n cap : Nat} {xs : List Value} (h : w.ownsRow base e 1 (.slice (some ⟨g, 0, none⟩) n cap) n xs) :
    ∃ cur : List Value, w.heap[g]? = some (.cells cur.toArray e (0, 0)) ∧ base ≤ g ∧ n ≤ cap ∧ cap ≤ maxLen ∧ cur.length = cap ∧ cur.take n = xs := by
  rcases h.2 with ⟨h', _⟩ | ⟨g', cap', cur, h', h1, h2, h3, h4, h5, h6⟩
  · simp at h'
  · simp only [Value.slice.injEq, Option.some.injEq, Addr.mk.injEq, and_true, true_and] at h'
    obtain ⟨rfl, rfl⟩ := h'
    exact ⟨cur.toList, by simpa using h2, h1, h3, h4, by simpa using h5, by simpa using h6⟩

theorem take_splice {α : Type} (L : List α) (off n : Nat) (cs : List α) (h : off + cs.length ≤ n) (hn : n ≤ L.length) : (splice L off cs).take n = splice (L.take n) off cs := by
  have e1 : (L.take off).length = off := by simp; omega
  unfold splice
  rw [List.take_append, List.take_of_length_le (by omega : (L.take off).length ≤ n), e1, List.take_append, List.take_of_length_le (by omega : cs.length ≤ n - off), List.take_take, Nat.min_eq_left (by omega : off ≤ n), List.drop_take]
  congr 3; omega

theorem splice_nil {α : Type} (L : List α) (k : Nat) : splice L k [] = L := by simp [splice]
theorem splice_cons {α : Type} (L : List α) (k : Nat) (x : α) (cs : List α) (h : k < L.length) : splice L k (x :: cs) = splice (L.set k x) (k + 1) cs := by
  unfold splice
  rw [List.take_add_one, List.getElem?_set_self h, List.take_set_of_le (Nat.le_refl _), List.drop_set_of_lt (by omega)]
  simp only [Option.toList_some, List.append_assoc, List.cons_append, List.nil_append, List.length_cons]
  rw [show k + (cs.length + 1) = k + 1 + cs.length by omega]

section
variable {P : Program} {w : World}

theorem wp_copy_rows {o : Oper} {a : Act} {K : Act → World → Prop} {Q : Exit → Act → World → Prop} (d s : Operand) (dT sT : TypeId)
    (ho : o.op = .call { callee := .builtin .copy, args := #[d, s], argTypes := #[dT, sT] }) (elem : TypeId) (hu : P.underlying dT = some (.slice elem)) (hsz : (P.info? elem).map (·.size) = some 1)
    (base g n cap off dLen dCap : Nat) (xs : List Value) (hown : w.ownsRow base elem 1 (.slice (some ⟨g, 0, none⟩) n cap) n xs) (hd : a.eval d = .slice (some ⟨g, off, none⟩) dLen dCap)
    (A : Option Addr) (m c B : Nat) (ys : List Value) (hs : a.eval s = .slice A m c) (hr : Row w B 1 (.slice A m c) m ys) (h1 : ∀ v ∈ ys, v.oneCell' = true) (hfit : off + min m dLen ≤ n)
    (h : ∀ w', w'.ownsRow base elem 1 (.slice (some ⟨g, 0, none⟩) n cap) n (splice xs off (ys.take dLen)) → Below g w w' → K (a.put o.dst (goInt ((min m dLen : Nat) : Int))) w') :
    Oper.wp P o a w K Q := by
  obtain ⟨cur, hg, hb, hn, hm, hcl, hx⟩ := own_block hown
  have hl : ys.length = m := by have := hr.len; omega
  have hcs : (ys.take dLen).length = min m dLen := by rw [List.length_take, hl, Nat.min_comm]
  by_cases h0 : min m dLen = 0
  · have hrun := run_copy_none (P := P) w dT sT o.type elem (some ⟨g, off, none⟩) A dLen dCap m c hu hsz h0
    have he : ys.take dLen = [] := List.eq_nil_of_length_eq_zero (hcs.trans h0)
    unfold Oper.wp
    simp [execOp, ho, resolve, invoke, builtin, hd, hs, hrun, Result.andThen]
    have := h w (by rw [he]; simpa [splice] using hown) (Below.refl _ _)
    rw [h0] at this
    exact this
  · obtain ⟨b, o2, rfl, hlt, hc⟩ := hr.at_ (show m ≠ 0 by omega)
    have hcell : ∀ j v, (ys.take dLen)[j]? = some v → w.cell? ((⟨b, o2, none⟩ : Addr).add j) = some v := by
      intro j v hv
      rw [add_spot]
      refine hc j v ?_
      rw [List.getElem?_take] at hv
      split at hv
      · exact hv
      · cases hv
    have hrun := run_copy_row (P := P) w dT sT o.type elem g off dLen dCap ⟨b, o2, none⟩ m c cur.toArray elem (ys.take dLen) hu hsz hg hcs hcell (by simp only [List.size_toArray]; omega) (fun v hv => h1 v (List.mem_of_mem_take hv))
    unfold Oper.wp
    simp [execOp, ho, resolve, invoke, builtin, hd, hs, hrun, Result.andThen]
    have hk : a.put o.dst (goInt (min dLen ys.length : Nat)) = a.put o.dst (goInt ((min m dLen : Nat) : Int)) := by rw [hl, Nat.min_comm]
    have := h (w.setRow g (splice cur off (ys.take dLen)).toArray) (by
      refine ⟨?_, .inr ⟨g, cap, (splice cur off (ys.take dLen)).toArray, rfl, hb, setRow_heap w g _ _ elem _ hg, hn, hm, ?_, ?_⟩⟩
      · have hxl : xs.length = n := by have := hown.1; omega
        rw [length_splice _ _ _ (by rw [hcs]; omega)]; omega
      · simp only [List.size_toArray]; rw [length_splice _ _ _ (by rw [hcs]; omega)]; omega
      · rw [Nat.mul_one]
        show (splice cur off (ys.take dLen)).take n = _
        rw [take_splice _ _ _ _ (by rw [hcs]; omega) (by omega), hx])
      (below_setRow (Below.refl _ _) (Nat.le_refl _) _)
    rw [← hk] at this
    unfold splice at this
    simp only [List.length_take] at this
    exact this

theorem wpList_copy_rows {ops : Array Oper} {rest : List Oper} {o : Oper} {a : Act} {Q : Exit → Act → World → Prop} (hgd : o.guard = none) (d s : Operand) (dT sT : TypeId)
    (ho : o.op = .call { callee := .builtin .copy, args := #[d, s], argTypes := #[dT, sT] }) (elem : TypeId) (hu : P.underlying dT = some (.slice elem)) (hsz : (P.info? elem).map (·.size) = some 1)
    (base g n cap off dLen dCap : Nat) (xs : List Value) (hown : w.ownsRow base elem 1 (.slice (some ⟨g, 0, none⟩) n cap) n xs) (hd : a.eval d = .slice (some ⟨g, off, none⟩) dLen dCap)
    (A : Option Addr) (m c B : Nat) (ys : List Value) (hs : a.eval s = .slice A m c) (hr : Row w B 1 (.slice A m c) m ys) (h1 : ∀ v ∈ ys, v.oneCell' = true) (hfit : off + min m dLen ≤ n)
    (h : ∀ w', w'.ownsRow base elem 1 (.slice (some ⟨g, 0, none⟩) n cap) n (splice xs off (ys.take dLen)) → Below g w w' → wpList P ops Q rest (a.put o.dst (goInt ((min m dLen : Nat) : Int))) w') :
    wpList P ops Q (o :: rest) a w :=
  wpList_plain hgd fun K hK => wp_copy_rows d s dT sT ho elem hu hsz base g n cap off dLen dCap xs hown hd A m c B ys hs hr h1 hfit fun w' h2 h3 => hK _ _ (h w' h2 h3)
end
end Go.Proofs.Ytjkijjbakocilaa.Words

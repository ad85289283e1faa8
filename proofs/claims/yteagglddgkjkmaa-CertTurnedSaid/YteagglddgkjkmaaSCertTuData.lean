/- What CertTurned needs besides: parts of a row of cells, and blocks that are balanced no more. -/
import Derived.Test.YteagglddgkjkmaaSCertSwData
namespace Go.Proofs.Yteagglddgkjkmaa.Words
set_option maxRecDepth 100000
open Go.RowKit
set_option linter.unusedVariables false
set_option linter.unusedSimpArgs false

theorem and3_i64 (n : Int) : bits .and .i64 n 3 = n % 4 := by
  have h : (BitVec.ofInt 64 3).toNat = 2 ^ 2 - 1 := by decide
  have key : (BitVec.ofInt 64 n &&& BitVec.ofInt 64 3).toNat = (n % ((2 ^ 64 : Nat) : Int)).toNat % 2 ^ 2 := by
    rw [BitVec.toNat_and, BitVec.toNat_ofInt, h, Nat.and_two_pow_sub_one_eq_mod]
  show IntKind.i64.wrap ((BitVec.ofInt 64 n &&& BitVec.ofInt 64 3).toNat : Nat) = n % 4
  rw [key, IntKind.wrap_i64]
  omega
theorem flat_dropC {α : Type} {f : α → List Value} {s : Nat} (hf : ∀ x, (f x).length = s) (l : List α) (k : Nat) : (flat f l).drop (k * s) = flat f (l.drop k) := by
  induction l generalizing k with
  | nil => simp [flat]
  | cons x l ih =>
    cases k with
    | zero => simp [flat]
    | succ k =>
      rw [flat_cons, List.drop_succ_cons, List.drop_append, hf, List.drop_of_length_le (by rw [hf, Nat.succ_mul]; omega), show (k + 1) * s - s = k * s by rw [Nat.succ_mul]; omega, ih]
      rfl
/-- A part of a row of cells that is a box. -/
theorem box_cutC {w : World} {B g nl cl lo hi : Nat} {l : List Cel} {ys : List Value} (h : Box w g (flat celCells l ++ ys)) (hl : l.length = nl) (h1 : nl ≤ cl) (h2 : cl ≤ 9223372036854775807) (hB : g < B) (hlo : lo ≤ hi) (hhi : hi ≤ nl) :
    Row w B 9 (.slice (some ⟨g, lo * 9, none⟩) (hi - lo) (cl - lo)) (hi - lo) (flat celCells ((l.take hi).drop lo)) := by
  refine ⟨by rw [flat_len celCells_len, List.length_drop, List.length_take]; congr 1; omega, _, _, rfl, by omega, by omega, (fun e => by cases e), fun _ => ⟨g, lo * 9, rfl, hB, fun j u hu => ?_⟩⟩
  refine h.cell ?_
  rw [← flat_dropC celCells_len, ← flat_takeC celCells_len, List.getElem?_drop] at hu
  have hj : lo * 9 + j < hi * 9 := by
    have := (List.getElem?_eq_some_iff.1 hu).1
    rw [List.length_take] at this; omega
  rw [List.getElem?_take_of_lt hj] at hu
  rw [List.getElem?_append_left (List.getElem?_eq_some_iff.1 hu).1]; exact hu
theorem row_emptyC (w : World) (B : Nat) (a : Addr) (c : Nat) (hc : c ≤ 9223372036854775807) : Row w B 9 (.slice (some a) 0 c) 0 (flat celCells []) := ⟨rfl, _, _, rfl, Nat.zero_le _, hc, (fun e => by cases e), fun e => absurd rfl e⟩
/-- The end of a row of cells, as a slice expression leaves it. -/
theorem row_fromC {w : World} {B g nl cl lo : Nat} {l : List Cel} {ys : List Value} (h : Box w g (flat celCells l ++ ys)) (hl : l.length = nl) (h1 : nl ≤ cl) (h2 : cl ≤ 9223372036854775807) (hB : g < B) (hlo : lo ≤ nl) :
    Row w B 9 (.slice (if cl = lo then some ⟨g, 0, none⟩ else some ⟨g, lo * 9, none⟩) (nl - lo) (cl - lo)) (nl - lo) (flat celCells (l.drop lo)) := by
  by_cases e : cl = lo
  · rw [if_pos e, List.drop_of_length_le (by omega), show nl - lo = 0 by omega]
    exact row_emptyC w B _ _ (by omega)
  · rw [if_neg e]
    have := box_cutC (lo := lo) (hi := nl) h hl h1 h2 hB hlo (Nat.le_refl _)
    rw [List.take_of_length_le (by omega)] at this
    exact this
theorem gone_flat (l : List Cel) (i : Nat) : flat celCells (l.take i) ++ flat celCells (l.drop (i + 1)) = flat celCells (gone l i) := by unfold gone; rw [flat_append]
theorem gone_len {α : Type} {l : List α} {i : Nat} (h : i < l.length) : (gone l i).length = l.length - 1 := by unfold gone; rw [List.length_append, List.length_take, List.length_drop]; omega
theorem twice_flat (l : List Cel) (i : Nat) (x : Cel) : flat celCells (l.take i) ++ celCells x ++ flat celCells (l.drop i) = flat celCells (twice l i x) := by unfold twice; rw [flat_append, flat_append, flat_one]
theorem twice_len {α : Type} {l : List α} {i : Nat} {x : α} (h : i < l.length) : (twice l i x).length = l.length + 1 := by unfold twice; rw [List.length_append, List.length_append, List.length_take, List.length_drop]; simp; omega
/-- The parts of a block of a split. -/
theorem with_parts {l : List Ins} {sz : Int} {m : Nat} {o : List Int} {x : BlkC} (hx : x ∈ withZ l sz m o) : ∃ a e ta te, x.a = a ++ ta ∧ x.e = e ++ te ∧ Plain a e ∧ Ends ta te := by
  unfold withZ at hx
  split at hx
  · obtain ⟨b, hb, rfl⟩ := List.mem_map.1 hx
    obtain ⟨k, hk, rfl⟩ := List.mem_iff_getElem.1 hb
    obtain ⟨hr, hk', e⟩ := cut_at (List.getElem?_eq_getElem hk)
    rw [e]
    exact blk_parts _ (rightZ_insO hr).2 hk'
  · cases hx
theorem unbal_A {l : List Ins} {sz : Int} {m : Nat} {o : List Int} {x : BlkC} (hx : x ∈ withZ l sz m o) {i : Nat} {c : Cel} (hc : x.a[i]? = some c) (h1 : c.kind ≠ 1) (h2 : c.kind ≠ 2) : balZ (gone x.a i) x.e = false := by
  obtain ⟨a, e, ta, te, ha, he, h, g⟩ := with_parts hx
  rw [ha] at hc ⊢
  rw [he]
  exact unbal_a h g hc h1 h2
theorem unbal_E {l : List Ins} {sz : Int} {m : Nat} {o : List Int} {x : BlkC} (hx : x ∈ withZ l sz m o) {i : Nat} {c : Cel} (hc : x.e[i]? = some c) (h1 : c.kind ≠ 1) : balZ x.a (gone x.e i) = false := by
  obtain ⟨a, e, ta, te, ha, he, h, g⟩ := with_parts hx
  rw [he] at hc ⊢
  rw [ha]
  exact unbal_e h g hc h1
theorem with_offs {l : List Ins} {sz : Int} {m : Nat} {o : List Int} {x : BlkC} (hx : x ∈ withZ l sz m o) : (∀ c ∈ x.a, 0 ≤ c.off ∧ c.off ≤ 100000) ∧ ∀ c ∈ x.e, 0 ≤ c.off ∧ c.off ≤ 100000 := by
  unfold withZ at hx
  split at hx
  · obtain ⟨b, hb, rfl⟩ := List.mem_map.1 hx
    obtain ⟨k, hk, rfl⟩ := List.mem_iff_getElem.1 hb
    have hb' : (cutR l sz m)[k]? = some (cutR l sz m)[k] := List.getElem?_eq_getElem hk
    obtain ⟨hr, hk', e⟩ := cut_at hb'
    obtain ⟨f, t, h1, h2, h3, h4⟩ := blk_ends hb'
    have hl := (rightZ_insO hr).1
    have hlen : ((cutR l sz m)[k].to - (cutR l sz m)[k].from_).toNat ≤ 2000 := by rw [h1, h2]; omega
    refine ⟨fun c hc => ?_, fun c hc => ?_⟩
    · obtain ⟨j, hj, _, ho⟩ := fillA_pc _ _ _ _ c hc
      rw [ho]; omega
    · obtain ⟨j, hj, _, ho⟩ := fillE_pc _ _ _ _ c hc
      rw [ho]; omega
  · cases hx
theorem celOff_set {x : Cel} : (celCells x).set 8 (.int .i64 (x.off + 1)) = celCells { x with off := x.off + 1 } := rfl
theorem set_flat9 {l : List Cel} {ys : List Value} {k : Nat} {x y : Cel} {j : Nat} {u : Value} (h : l[k]? = some x) (hs : (celCells x).set j u = celCells y) (hj : j < 9) : (flat celCells l ++ ys).set (k * 9 + j) u = flat celCells (l.set k y) ++ ys := by
  have hk := (List.getElem?_eq_some_iff.1 h).1
  rw [List.set_append_left _ _ (by rw [flat_len celCells_len]; omega)]
  congr 1
  induction l generalizing k with
  | nil => simp at hk
  | cons z l ih =>
    cases k with
    | zero =>
      simp at h; subst h
      rw [flat_cons, List.set_cons_zero, flat_cons, Nat.zero_mul, Nat.zero_add, List.set_append_left _ _ (by rw [celCells_len]; exact hj), hs]
    | succ k =>
      simp at h
      rw [flat_cons, List.set_cons_succ, flat_cons, List.set_append_right _ _ (by rw [celCells_len]; omega), celCells_len, show (k + 1) * 9 + j - 9 = k * 9 + j by omega, ih h (List.getElem?_eq_some_iff.1 h).1]
end Go.Proofs.Yteagglddgkjkmaa.Words

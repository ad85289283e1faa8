/- The labels of a text as a map of the call's own: what it holds, looked up and stored into. -/
import Derived.Test.YtimdojeagkbgbaaDoorAsmLine
import Derived.Maps.OwnSet
import Derived.Maps.OwnOps
import Derived.WalkKit
namespace Go.Proofs.YtimdojeagkbgbaaDoor.Words
set_option maxRecDepth 100000
open Go.RowKit Go.Shelf Go.Lib
open Go.Maps (Keyed)
set_option linter.unusedVariables false
set_option linter.unusedSimpArgs false

/-- The first label of a name: where it begins, and its place. -/
def firstL (t : List UInt8) : List PartZ → Int → Option (Int × Int)
  | [], _ => none
  | x :: xs, n => if x.kind = 1 ∧ x.name = t then some ((x.at_ : Int), n) else firstL t xs (if x.kind = 2 then n + 1 else n)
def nIns (l : List PartZ) : Nat := (l.filter (fun x => decide (x.kind = 2))).length
theorem nIns_cons (x : PartZ) (l : List PartZ) : nIns (x :: l) = (if x.kind = 2 then 1 else 0) + nIns l := by
  unfold nIns
  by_cases h : x.kind = 2
  · rw [List.filter_cons_of_pos (by simp [h]), if_pos h]; simp; omega
  · rw [List.filter_cons_of_neg (by simp [h]), if_neg h]; omega
theorem nIns_append (l m : List PartZ) : nIns (l ++ m) = nIns l + nIns m := by unfold nIns; rw [List.filter_append, List.length_append]
theorem nIns_le (l : List PartZ) : nIns l ≤ l.length := List.length_filter_le _ _
theorem firstL_cons (t : List UInt8) (x : PartZ) (xs : List PartZ) (n : Int) : firstL t (x :: xs) n = if x.kind = 1 ∧ x.name = t then some ((x.at_ : Int), n) else firstL t xs (if x.kind = 2 then n + 1 else n) := rfl
theorem firstL_append (t : List UInt8) (m : List PartZ) : ∀ (l : List PartZ) (n : Int), firstL t (l ++ m) n = match firstL t l n with | some r => some r | none => firstL t m (n + nIns l)
  | [], n => by simp [firstL, nIns]
  | x :: xs, n => by
    rw [List.cons_append, firstL_cons, firstL_cons]
    by_cases h : x.kind = 1 ∧ x.name = t
    · rw [if_pos h, if_pos h]
    · rw [if_neg h, if_neg h, firstL_append t m xs, nIns_cons]
      by_cases h2 : x.kind = 2
      · have e : n + 1 + (nIns xs : Int) = n + ((1 + nIns xs : Nat) : Int) := by omega
        rw [if_pos h2, if_pos h2, e]
      · have e : n + (nIns xs : Int) = n + ((0 + nIns xs : Nat) : Int) := by omega
        rw [if_neg h2, if_neg h2, e]
theorem firstL_place (t : List UInt8) : ∀ (l : List PartZ) (n : Int), placeF t l n = (firstL t l n).map (·.2)
  | [], n => rfl
  | x :: xs, n => by
    unfold placeF firstL
    by_cases h : x.kind = 1 ∧ x.name = t
    · rw [if_pos h, if_pos h]; rfl
    · rw [if_neg h, if_neg h]; exact firstL_place t xs _
theorem firstL_has (t : List UInt8) : ∀ (l : List PartZ) (n : Int), (firstL t l n).isSome = hasL t l
  | [], n => rfl
  | x :: xs, n => by
    have e : hasL t (x :: xs) = (decide (x.kind = 1 ∧ x.name = t) || hasL t xs) := rfl
    rw [e]
    unfold firstL
    by_cases h : x.kind = 1 ∧ x.name = t
    · rw [if_pos h, decide_eq_true h]; rfl
    · rw [if_neg h, decide_eq_false h, Bool.false_or]; exact firstL_has t xs _
theorem firstL_in {t : List UInt8} {a p : Int} : ∀ {l : List PartZ} {n : Int}, firstL t l n = some (a, p) → n ≤ p ∧ p ≤ n + nIns l ∧ ∃ x ∈ l, x.kind = 1 ∧ x.name = t ∧ (x.at_ : Int) = a
  | [], n, h => by cases h
  | x :: xs, n, h => by
    unfold firstL at h
    rw [nIns_cons]
    by_cases h1 : x.kind = 1 ∧ x.name = t
    · rw [if_pos h1] at h
      injection h with h
      injection h with h2 h3
      subst h3
      exact ⟨Int.le_refl _, by omega, x, by simp, h1.1, h1.2, h2⟩
    · rw [if_neg h1] at h
      obtain ⟨q1, q2, y, q3, q4⟩ := firstL_in h
      by_cases h2 : x.kind = 2
      · rw [if_pos h2] at q1 q2 ⊢
        exact ⟨by omega, by omega, y, List.mem_cons_of_mem _ q3, q4⟩
      · rw [if_neg h2] at q1 q2 ⊢
        exact ⟨by omega, by omega, y, List.mem_cons_of_mem _ q3, q4⟩

/-- What a label reads as. -/
abbrev labD (a p : Int) : DataW Unit := .agg [.lit (.int .i64 a), .lit (.int .i64 p)]
def labR (v : Value) : Option (DataW Unit × List MemPlace) :=
  match v with
  | .agg cs => match cs.toList with
    | [.int .i64 a, .int .i64 p] => some (labD a p, [])
    | _ => none
  | _ => none
theorem labR_mk (a p : Int) : labR (.agg #[.int .i64 a, .int .i64 p]) = some (labD a p, []) := rfl
theorem labR_inv {v : Value} {a p : Int} {ps : List MemPlace} (h : labR v = some (labD a p, ps)) : v = .agg #[.int .i64 a, .int .i64 p] := by
  unfold labR at h
  split at h
  · rename_i cs
    split at h
    · rename_i a' p' hc
      simp only [Option.some.injEq, Prod.mk.injEq, DataW.agg.injEq, List.cons.injEq, DataW.lit.injEq, Lit.int.injEq] at h
      obtain ⟨⟨⟨_, rfl⟩, ⟨_, rfl⟩, _⟩, _⟩ := h
      have := congrArg List.toArray hc
      rw [Array.toArray_toList] at this
      rw [this]
    · cases h
  · cases h
/-- Block m is the map of labels that f tells. -/
def LabM (w : World) (m n : Nat) (f : List UInt8 → Option (Int × Int)) : Prop :=
  ∃ D : DataW Unit, w.ownsMap Tryd.prog 9 labR m n D ∧ ∀ t : List UInt8, (∀ a p, f t = some (a, p) → ∀ z, D.atKey (.string t) z = labD a p) ∧ (f t = none → ∀ z, D.atKey (.string t) z = z)
theorem keyS : Keyed Tryd.prog 9 := Maps.string_keyed Tryd.underlying9
theorem keyT {t : List UInt8} (h : t.length ≤ 1000000) : keyOf Tryd.prog 9 (.string (txt t)) = some (.string t) := by
  have := WideMaps.keyOf_string_mk (P := Tryd.prog) Tryd.underlying9 (s := txt t) (by rw [txt_sz]; unfold maxLen; omega)
  rwa [txt_data] at this
theorem zeroLab (w : World) : (zeroValue 100).run Tryd.prog w = .ok (.agg #[.int .i64 0, .int .i64 0]) w := by kernel_rfl
section
variable {w w' : World} {m n : Nat} {f : List UInt8 → Option (Int × Int)}
theorem LabM.lt (h : LabM w m n f) : m < w.heap.size := by obtain ⟨D, h, _⟩ := h; exact h.lt
theorem LabM.keepS {S : Nat → Prop} (h : LabM w m n f) (hk : KeepS S w w') (hm : ¬ S m) : LabM w' m n f := by
  have hlt := h.lt
  obtain ⟨D, ⟨es, clock, hb, F, hs, hD⟩, h2⟩ := h
  exact ⟨D, ⟨es, clock, (hk.block m hlt hm).trans hb, F, hs, hD⟩, h2⟩
theorem LabM.go (h : LabM w m n f) (hb : Below w.heap.size w w') : LabM w' m n f := h.keepS (S := fun _ => False) (KeepS.of_below hb) (fun e => e)
theorem LabM.look_ok (h : LabM w m n f) {t : List UInt8} (ht : t.length ≤ 1000000) : (Instr.lookup 72 (.map (some m)) (.string (txt t)) true).run Tryd.prog w = .ok (.tuple #[.agg #[.int .i64 ((f t).getD (0, 0)).1, .int .i64 ((f t).getD (0, 0)).2], .bool (f t).isSome]) w := by
  obtain ⟨D, hown, h2⟩ := h
  obtain ⟨v, ps, hrun, hv⟩ := hown.look_ok keyS (e := 100) Tryd.underlying72 (zeroLab w) (labR_mk 0 0) (keyT ht)
  obtain ⟨q1, q2⟩ := h2 t
  cases hf : f t with
  | none =>
    have q3 := q2 hf
    rw [q3] at hv
    rw [hrun, labR_inv hv, Maps.has_false_of_atKey q3]
    rfl
  | some r =>
    obtain ⟨a, p⟩ := r
    have q3 := q1 a p hf
    rw [q3] at hv
    rw [hrun, labR_inv hv, Maps.has_true_of_atKey q3]
    rfl
theorem LabM.look (h : LabM w m n f) {t : List UInt8} (ht : t.length ≤ 1000000) : (Instr.lookup 72 (.map (some m)) (.string (txt t)) false).run Tryd.prog w = .ok (.agg #[.int .i64 ((f t).getD (0, 0)).1, .int .i64 ((f t).getD (0, 0)).2]) w := by
  obtain ⟨D, hown, h2⟩ := h
  obtain ⟨v, ps, hrun, hv⟩ := hown.lookup keyS (e := 100) Tryd.underlying72 (zeroLab w) (labR_mk 0 0) (keyT ht)
  obtain ⟨q1, q2⟩ := h2 t
  cases hf : f t with
  | none =>
    rw [q2 hf] at hv
    rw [hrun, labR_inv hv]
    rfl
  | some r =>
    obtain ⟨a, p⟩ := r
    rw [q1 a p hf] at hv
    rw [hrun, labR_inv hv]
    rfl
theorem labM_made (w : World) : LabM (w.alloc (.map #[] 0)) w.heap.size 0 (fun _ => none) :=
  ⟨.map [], World.ownsMap_made w _ _ _, fun t => ⟨fun a p h => (by cases h), fun _ z => rfl⟩⟩
theorem LabM.ext (h : LabM w m n f) {g : List UInt8 → Option (Int × Int)} (hg : ∀ t, f t = g t) : LabM w m n g := by
  obtain rfl : f = g := funext hg
  exact h
/-- A label more. -/
theorem labM_put {D : DataW Unit} {t : List UInt8} {a p : Int} {g : List UInt8 → Option (Int × Int)} (h : ∀ t : List UInt8, (∀ a p, f t = some (a, p) → ∀ z, D.atKey (.string t) z = labD a p) ∧ (f t = none → ∀ z, D.atKey (.string t) z = z))
    (hD : Maps.IsMap D) (h1 : g t = some (a, p)) (h2 : ∀ u, u ≠ t → g u = f u) (ho : w'.ownsMap Tryd.prog 9 labR m n (D.put (.string t) (labD a p))) : LabM w' m n g := by
  refine ⟨_, ho, fun u => ?_⟩
  by_cases hu : u = t
  · subst hu
    refine ⟨fun a' p' h' z => ?_, fun h' => by rw [h1] at h'; cases h'⟩
    rw [h1] at h'
    injection h' with h'
    injection h' with h3 h4
    subst h3; subst h4
    exact Maps.atKey_put_same hD (show WideAt.IsKeyLit (.string u) from trivial) _ z
  · rw [h2 u hu]
    obtain ⟨q1, q2⟩ := h u
    have hne : (Lit.string u) ≠ .string t := fun e => hu (by injection e)
    exact ⟨fun a' p' h' z => (Maps.atKey_put_other hne _ z).trans (q1 a' p' h' z), fun h' z => (Maps.atKey_put_other hne _ z).trans (q2 h' z)⟩
end
end Go.Proofs.YtimdojeagkbgbaaDoor.Words

/- Several texts in one: OpenFlat, OpenEnt, OpenSlt, OpenSta. -/
import Derived.Test.YthhoigkmmlkfcaaG01
import Derived.Test.YthhoigkmmlkfcaaRows
import Derived.ProofKit
import Derived.OpenShut
import Derived.Deep.Slices
import Derived.Test.YthhoigkmmlkfcaaG02
import Derived.Test.YthhoigkmmlkfcaaG09
import Derived.Test.YthhoigkmmlkfcaaG06

/- An argument that is a slice of records: its plain data, for any record. -/
namespace Go.Proofs.Ythhoigkmmlkfcaa.Words
set_option maxRecDepth 100000
open Go.ChangeShapes Go.WideShapes Go.ChangeAt Go.RowKit
set_option linter.unusedVariables false
set_option linter.unusedSimpArgs false

section
variable {H : Type} {enc : TypeId × Value → H} {w : World} {base : Nat} {spare : Nat → Bool} {held : Bool}
/-- A slice of records: each reads as its cells say. -/
theorem open_flat {α : Type} [Inhabited α] {e t : TypeId} {s : Nat} (hs : 0 < s) (f : α → List Value) (hf : ∀ x, (f x).length = s) (Q : α → Prop) (hC : Try.prog.cellsOf e = s)
    (hel : ∀ (fuel : Nat) (cs : List Value) (x : DataW H × List MemPlace), DataW.trod enc Try.prog w base spare held fuel e cs = some x → ∃ v, Q v ∧ cs = f v)
    (ht : Try.prog.underlying t = some (.slice e)) {fuel : Nat} {cs : List Value} {x : DataW H × List MemPlace} (h : DataW.trod enc Try.prog w base spare held fuel t cs = some x) :
    ∃ (A : Option Addr) (c : Nat) (l : List α), cs = [.slice A l.length c] ∧ Row w w.heap.size s (.slice A l.length c) l.length (flat f l) ∧ ∀ v ∈ l, Q v := by
  rcases Deep.open_slice ht h with ⟨rfl, _⟩ | ⟨a, len, cap, m, n, D, Pl, rfl, hb, hl, hm, hmm, _, hx⟩
  · exact ⟨none, 0, [], rfl, Row.nil _ _ _, by simp⟩
  rw [hC] at hx
  have hlm : len ≤ m := by rw [hmm]; split <;> omega
  obtain ⟨g, hg⟩ := Deep.choose_lt (α := α) (n := len) (p := fun i v => Q v ∧ w.cells? base (a.add (i * s)) s = some (f v)) (fun i hi => by
    obtain ⟨cs', h1, h2⟩ := hx i (by omega)
    obtain ⟨v, hv, rfl⟩ := hel _ _ _ h2
    exact ⟨v, hv, h1⟩)
  have hlen : ((List.range len).map g).length = len := by simp
  have hget : ∀ k, k < len → ((List.range len).map g)[k]? = some (g k) := fun k hk => by rw [List.getElem?_map, List.getElem?_range hk]; rfl
  refine ⟨some a, cap, (List.range len).map g, by rw [hlen], ?_, ?_⟩
  · rw [hlen]
    refine ⟨by rw [flat_len hf, hlen], some a, cap, rfl, hl, by simpa [maxLen] using hm, (fun h => by cases h), fun hn => ?_⟩
    have hcell : ∀ k j u, k < len → j < s → (f (g k))[j]? = some u → w.cell? (a.add (k * s + j)) = some u := by
      intro k j u hk hj hu
      have h1 := (hg k hk).2
      obtain ⟨_, h2, h3⟩ := World.cells?_some h1
      have := h3 j hj
      rwa [Deep.add_add, hu] at this
    obtain ⟨u0, hu0⟩ : ∃ u0, (f (g 0))[0]? = some u0 := ⟨_, List.getElem?_eq_getElem (by rw [hf]; exact hs)⟩
    have h00 := hcell 0 0 u0 (by omega) hs hu0
    obtain ⟨b, off, spot⟩ := a
    have hsp : spot = none := by simpa [Addr.add] using World.cell?_spot h00
    subst hsp
    refine ⟨b, off, rfl, ?_, fun j u hu => ?_⟩
    · rw [add_spot] at h00
      unfold World.cell? at h00
      rcases hh : w.heap[b]? with _ | o
      · simp [hh] at h00
      · exact (Array.getElem?_eq_some_iff.1 hh).1
    · have hj : j < len * s := by
        rw [List.getElem?_eq_some_iff] at hu
        obtain ⟨h, _⟩ := hu
        rw [flat_len hf, hlen] at h; exact h
      have hk : j / s < len := Nat.div_lt_of_lt_mul (by rw [Nat.mul_comm]; exact hj)
      have hr : j % s < s := Nat.mod_lt _ hs
      have e : j / s * s + j % s = j := by rw [Nat.mul_comm]; exact Nat.div_add_mod _ _
      have h5 := flat_at hf ((List.range len).map g) (j / s) (g (j / s)) (hget _ hk) (j % s) hr
      rw [e, hu] at h5
      have := hcell (j / s) (j % s) u hk hr h5.symm
      rwa [e, add_spot] at this
  · intro i hi
    obtain ⟨k, hk, rfl⟩ := List.mem_map.1 hi
    exact (hg k (List.mem_range.1 hk)).1
/-- The same of an argument by value. -/
theorem open_flatA {α : Type} [Inhabited α] {e t : TypeId} {s : Nat} (hs : 0 < s) (f : α → List Value) (hf : ∀ x, (f x).length = s) (Q : α → Prop) (hC : Try.prog.cellsOf e = s)
    (hel : ∀ (fuel : Nat) (cs : List Value) (x : DataW H × List MemPlace), DataW.trod enc Try.prog w base spare held fuel e cs = some x → ∃ v, Q v ∧ cs = f v)
    (ht : Try.prog.underlying t = some (.slice e)) {r : Reach} {b0 : Nat} {v : Value} {d : DataW H} {ps : List MemPlace} (hval : Value.okWide Try.prog w r b0 t v) (hd : DataW.Trod enc Try.prog w base spare held t v d ps) :
    ∃ (A : Option Addr) (c : Nat) (l : List α), v = .slice A l.length c ∧ Row w w.heap.size s (.slice A l.length c) l.length (flat f l) ∧ ∀ v ∈ l, Q v := by
  obtain ⟨A1, n1, c1, rfl⟩ := okWide_slice ht hval
  obtain ⟨fuel, hfu⟩ := hd
  have hc : (Value.slice A1 n1 c1).cells.toList = [.slice A1 n1 c1] := by simp [Value.cells]
  rw [hc] at hfu
  obtain ⟨A, c, l, h1, h2, h3⟩ := open_flat hs f hf Q hC hel ht hfu
  simp only [List.cons.injEq, and_true] at h1
  exact ⟨A, c, l, h1, h2, h3⟩
end
end Go.Proofs.Ythhoigkmmlkfcaa.Words

/- An argument that is an entry of a queue of stores, or a slice of them: its plain data. -/
namespace Go.Proofs.Ythhoigkmmlkfcaa.Words
set_option maxRecDepth 100000
open Go.ChangeShapes Go.WideShapes Go.ChangeAt Go.RowKit
set_option linter.unusedVariables false
set_option linter.unusedSimpArgs false

section
variable {H : Type} {enc : TypeId × Value → H} {w : World} {base : Nat} {spare : Nat → Bool} {held : Bool}
instance : Inhabited Ent := ⟨⟨0, 0, 0, false, 0⟩⟩
theorem ent_cells {fuel : Nat} {cs : List Value} {x : DataW H × List MemPlace} (h : DataW.trod enc Try.prog w base spare held fuel 66 cs = some x) :
    ∃ c : Ent, c.Fits ∧ cs = entL c := by
  obtain ⟨xs, n, _, _, hlen, hxl, hg⟩ := DataW.trod_struct Try.underlying66 h
  have hC : Try.prog.cellsOf 66 = 5 := by kernel_rfl
  have hc1 : Try.prog.cellsOf 3 = 1 := by kernel_rfl
  have hc2 : Try.prog.cellsOf 4 = 1 := by kernel_rfl
  have hc3 : Try.prog.cellsOf 27 = 1 := by kernel_rfl
  rw [hC] at hlen
  have hxl' : xs.length = 5 := hxl
  match cs, hlen with
  | [c0, c1, c2, c3, c4], _ =>
    have g0 : DataW.trod enc Try.prog w base spare held n 3 [c0] = some xs[0] := by
      have e := hg 0 _ rfl
      rw [List.getElem?_eq_getElem (by omega)] at e
      rw [← e]
      simp [hc1, hc2, hc3]
    have g1 : DataW.trod enc Try.prog w base spare held n 3 [c1] = some xs[1] := by
      have e := hg 1 _ rfl
      rw [List.getElem?_eq_getElem (by omega)] at e
      rw [← e]
      simp [hc1, hc2, hc3]
    have g2 : DataW.trod enc Try.prog w base spare held n 3 [c2] = some xs[2] := by
      have e := hg 2 _ rfl
      rw [List.getElem?_eq_getElem (by omega)] at e
      rw [← e]
      simp [hc1, hc2, hc3]
    have g3 : DataW.trod enc Try.prog w base spare held n 4 [c3] = some xs[3] := by
      have e := hg 3 _ rfl
      rw [List.getElem?_eq_getElem (by omega)] at e
      rw [← e]
      simp [hc1, hc2, hc3]
    have g4 : DataW.trod enc Try.prog w base spare held n 27 [c4] = some xs[4] := by
      have e := hg 4 _ rfl
      rw [List.getElem?_eq_getElem (by omega)] at e
      rw [← e]
      simp [hc1, hc2, hc3]
    obtain ⟨n0, e0, _, f0⟩ := DataW.trod_int Try.underlying3 g0
    obtain ⟨n1, e1, _, f1⟩ := DataW.trod_int Try.underlying3 g1
    obtain ⟨n2, e2, _, f2⟩ := DataW.trod_int Try.underlying3 g2
    obtain ⟨n3, e3, _⟩ := DataW.trod_bool Try.underlying4 g3
    obtain ⟨n4, e4, _, f4⟩ := DataW.trod_int Try.underlying27 g4
    simp only [List.cons.injEq, and_true] at e0 e1 e2 e3 e4
    subst e0 e1 e2 e3 e4
    exact ⟨⟨n0, n1, n2, n3, n4⟩, ⟨bounds_i64 f0, bounds_i64 f1, bounds_i64 f2, bounds_u32 f4⟩, rfl⟩
theorem open_ents {t : TypeId} (ht : Try.prog.underlying t = some (.slice 66)) {r : Reach} {b0 : Nat} {v : Value} {d : DataW H} {ps : List MemPlace} (hval : Value.okWide Try.prog w r b0 t v) (hd : DataW.Trod enc Try.prog w base spare held t v d ps) :
    ∃ (A : Option Addr) (c : Nat) (l : List Ent), v = .slice A l.length c ∧ Row w w.heap.size 5 (.slice A l.length c) l.length (flat entL l) ∧ ∀ v ∈ l, v.Fits :=
  open_flatA (by omega) entL entL_len Ent.Fits (by kernel_rfl) (fun _ _ _ h => ent_cells h) ht hval hd
theorem open_ent {r : Reach} {b0 : Nat} {v : Value} {d : DataW H} {ps : List MemPlace} (hval : Value.okWide Try.prog w r b0 66 v) (hd : DataW.Trod enc Try.prog w base spare held 66 v d ps) :
    ∃ x : Ent, x.Fits ∧ v = .agg #[.int .i64 x.addr, .int .i64 x.size, .int .i64 x.step, .bool x.known, .int .u32 x.val] := by
  obtain ⟨cs, rfl, _⟩ := okWide_struct Try.underlying66 hval
  obtain ⟨fuel, hf⟩ := hd
  obtain ⟨i, hi, hc⟩ := ent_cells hf
  refine ⟨i, hi, ?_⟩
  obtain ⟨l⟩ := cs
  have : l = entL i := by simpa [Value.cells] using hc
  rw [this]; rfl
end
end Go.Proofs.Ythhoigkmmlkfcaa.Words

/- An argument that is a slice of places: its plain data. -/
namespace Go.Proofs.Ythhoigkmmlkfcaa.Words
set_option maxRecDepth 100000
open Go.ChangeShapes Go.WideShapes Go.ChangeAt Go.RowKit
set_option linter.unusedVariables false
set_option linter.unusedSimpArgs false

section
variable {H : Type} {enc : TypeId × Value → H} {w : World} {base : Nat} {spare : Nat → Bool} {held : Bool}
instance : Inhabited Slt := ⟨⟨0, false, 0⟩⟩
def Slt.Fits (x : Slt) : Prop := (-9223372036854775808 ≤ x.tag ∧ x.tag ≤ 9223372036854775807) ∧ 0 ≤ x.val ∧ x.val ≤ 4294967295
theorem slt_cells {fuel : Nat} {cs : List Value} {x : DataW H × List MemPlace} (h : DataW.trod enc Try.prog w base spare held fuel 58 cs = some x) :
    ∃ c : Slt, c.Fits ∧ cs = sltL c := by
  obtain ⟨xs, n, _, _, hlen, hxl, hg⟩ := DataW.trod_struct Try.underlying58 h
  have hC : Try.prog.cellsOf 58 = 3 := by kernel_rfl
  have hc1 : Try.prog.cellsOf 3 = 1 := by kernel_rfl
  have hc2 : Try.prog.cellsOf 4 = 1 := by kernel_rfl
  have hc3 : Try.prog.cellsOf 27 = 1 := by kernel_rfl
  rw [hC] at hlen
  have hxl' : xs.length = 3 := hxl
  match cs, hlen with
  | [c0, c1, c2], _ =>
    have g0 : DataW.trod enc Try.prog w base spare held n 3 [c0] = some xs[0] := by
      have e := hg 0 _ rfl
      rw [List.getElem?_eq_getElem (by omega)] at e
      rw [← e]
      simp [hc1]
    have g1 : DataW.trod enc Try.prog w base spare held n 4 [c1] = some xs[1] := by
      have e := hg 1 _ rfl
      rw [List.getElem?_eq_getElem (by omega)] at e
      rw [← e]
      simp [hc2]
    have g2 : DataW.trod enc Try.prog w base spare held n 27 [c2] = some xs[2] := by
      have e := hg 2 _ rfl
      rw [List.getElem?_eq_getElem (by omega)] at e
      rw [← e]
      simp [hc3]
    obtain ⟨n0, e0, _, f0⟩ := DataW.trod_int Try.underlying3 g0
    obtain ⟨n1, e1, _⟩ := DataW.trod_bool Try.underlying4 g1
    obtain ⟨n2, e2, _, f2⟩ := DataW.trod_int Try.underlying27 g2
    simp only [List.cons.injEq, and_true] at e0 e1 e2
    subst e0 e1 e2
    exact ⟨⟨n0, n1, n2⟩, ⟨bounds_i64 f0, bounds_u32 f2⟩, rfl⟩
theorem open_slts {t : TypeId} (ht : Try.prog.underlying t = some (.slice 58)) {r : Reach} {b0 : Nat} {v : Value} {d : DataW H} {ps : List MemPlace} (hval : Value.okWide Try.prog w r b0 t v) (hd : DataW.Trod enc Try.prog w base spare held t v d ps) :
    ∃ (A : Option Addr) (c : Nat) (l : List Slt), v = .slice A l.length c ∧ Row w w.heap.size 3 (.slice A l.length c) l.length (flat sltL l) ∧ ∀ v ∈ l, v.Fits :=
  open_flatA (by omega) sltL sltL_len Slt.Fits (by kernel_rfl) (fun _ _ _ h => slt_cells h) ht hval hd
end
end Go.Proofs.Ythhoigkmmlkfcaa.Words

/- Arguments that are a state of the core, a script, or requests: their plain data. -/
namespace Go.Proofs.Ythhoigkmmlkfcaa.Words
set_option maxRecDepth 100000
open Go.ChangeShapes Go.WideShapes Go.ChangeAt Go.RowKit
set_option linter.unusedVariables false
set_option linter.unusedSimpArgs false

theorem seg {α : Type} (l : List α) (a k b : Nat) (hb : b = a + k) : l.drop a = (l.drop a).take k ++ l.drop b := by
  subst hb
  rw [← List.drop_drop, List.take_append_drop]
theorem flat_map1 {α : Type} (g : α → Value) (l : List α) : flat (fun x => [g x]) l = l.map g := by
  induction l with
  | nil => rfl
  | cons x l ih => rw [flat_cons, ih]; rfl
section
variable {H : Type} {enc : TypeId × Value → H} {w : World} {base : Nat} {spare : Nat → Bool} {held : Bool}
/-- An array of whole numbers. -/
theorem arr_ints {t e : TypeId} {k : IntKind} {n : Nat} (ht : Try.prog.underlying t = some (.array n e)) (he : Try.prog.underlying e = some (.int k)) (hc : Try.prog.cellsOf e = 1) (hC : Try.prog.cellsOf t = n)
    {fuel : Nat} {cs : List Value} {x : DataW H × List MemPlace} (h : DataW.trod enc Try.prog w base spare held fuel t cs = some x) :
    ∃ l : List Int, l.length = n ∧ (∀ x ∈ l, (Lit.int k x).wf = true) ∧ cs = l.map (Value.int k) := by
  obtain ⟨xs, m, _, _, hlen, hxl, hg⟩ := DataW.trod_array ht h
  rw [hC] at hlen
  rw [hc] at hg
  obtain ⟨f, hf⟩ := Deep.choose_lt (α := Int) (n := n) (p := fun i z => (Lit.int k z).wf = true ∧ (cs.drop i).take 1 = [.int k z]) (fun i hi => by
    have g := hg i hi
    rw [List.getElem?_eq_getElem (by omega), Nat.mul_one] at g
    obtain ⟨z, e0, _, f0⟩ := DataW.trod_int he g
    exact ⟨z, f0, e0⟩)
  refine ⟨(List.range n).map f, by simp, ?_, ?_⟩
  · intro z hz
    obtain ⟨i, hi, rfl⟩ := List.mem_map.1 hz
    exact (hf i (List.mem_range.1 hi)).1
  · apply List.ext_getElem?
    intro i
    by_cases hi : i < n
    · have e1 := (hf i hi).2
      have e2 : ((cs.drop i).take 1)[0]? = cs[i]? := by rw [List.getElem?_take, if_pos (by omega), List.getElem?_drop, Nat.add_zero]
      rw [← e2, e1, List.map_map, List.getElem?_map, List.getElem?_range hi]; rfl
    · rw [List.getElem?_eq_none (by omega), List.getElem?_eq_none (by simp; omega)]
instance : Inhabited Rqs := ⟨⟨false, 0, 0, 0, 0, 0, 0, 0⟩⟩
instance : Inhabited Wr := ⟨⟨0, 0, 0⟩⟩
/-- A slice of whole numbers, as an argument or a part of one. -/
theorem open_row_ints {t e : TypeId} {k : IntKind} (ht : Try.prog.underlying t = some (.slice e)) (he : Try.prog.underlying e = some (.int k)) (hc : Try.prog.cellsOf e = 1)
    {fuel : Nat} {cs : List Value} {x : DataW H × List MemPlace} (h : DataW.trod enc Try.prog w base spare held fuel t cs = some x) :
    ∃ (A : Option Addr) (c : Nat) (l : List Int), cs = [.slice A l.length c] ∧ Row w w.heap.size 1 (.slice A l.length c) l.length (l.map (Value.int k)) ∧ ∀ v ∈ l, (Lit.int k v).wf = true := by
  obtain ⟨A, c, l, h1, h2, h3⟩ := open_flat (s := 1) (by omega) (fun z : Int => [Value.int k z]) (fun _ => rfl) (fun z => (Lit.int k z).wf = true) hc (fun _ _ _ h => by
    obtain ⟨z, e0, _, f0⟩ := DataW.trod_int he h
    exact ⟨z, f0, e0⟩) ht h
  rw [flat_map1] at h2
  exact ⟨A, c, l, h1, h2, h3⟩
theorem open_row_bools {t e : TypeId} (ht : Try.prog.underlying t = some (.slice e)) (he : Try.prog.underlying e = some .bool) (hc : Try.prog.cellsOf e = 1)
    {fuel : Nat} {cs : List Value} {x : DataW H × List MemPlace} (h : DataW.trod enc Try.prog w base spare held fuel t cs = some x) :
    ∃ (A : Option Addr) (c : Nat) (l : List Bool), cs = [.slice A l.length c] ∧ Row w w.heap.size 1 (.slice A l.length c) l.length (boolsL l) := by
  obtain ⟨A, c, l, h1, h2, h3⟩ := open_flat (s := 1) (by omega) (fun z : Bool => [Value.bool z]) (fun _ => rfl) (fun z => True) hc (fun _ _ _ h => by
    obtain ⟨z, e0, _⟩ := DataW.trod_bool he h
    exact ⟨z, trivial, e0⟩) ht h
  rw [flat_map1] at h2
  exact ⟨A, c, l, h1, h2⟩
theorem rqs_cells {fuel : Nat} {cs : List Value} {x : DataW H × List MemPlace} (h : DataW.trod enc Try.prog w base spare held fuel 54 cs = some x) :
    ∃ c : Rqs, c.Fits ∧ cs = rqsL c := by
  obtain ⟨xs, n, _, _, hlen, hxl, hg⟩ := DataW.trod_struct Try.underlying54 h
  have hC : Try.prog.cellsOf 54 = 8 := by kernel_rfl
  have hc1 : Try.prog.cellsOf 3 = 1 := by kernel_rfl
  have hc2 : Try.prog.cellsOf 4 = 1 := by kernel_rfl
  have hc3 : Try.prog.cellsOf 27 = 1 := by kernel_rfl
  rw [hC] at hlen
  have hxl' : xs.length = 8 := hxl
  match cs, hlen with
  | [c0, c1, c2, c3, c4, c5, c6, c7], _ =>
    have g0 : DataW.trod enc Try.prog w base spare held n 4 [c0] = some xs[0] := by
      have e := hg 0 _ rfl
      rw [List.getElem?_eq_getElem (by omega)] at e
      rw [← e]
      simp [hc1, hc2, hc3]
    have g1 : DataW.trod enc Try.prog w base spare held n 3 [c1] = some xs[1] := by
      have e := hg 1 _ rfl
      rw [List.getElem?_eq_getElem (by omega)] at e
      rw [← e]
      simp [hc1, hc2, hc3]
    have g2 : DataW.trod enc Try.prog w base spare held n 3 [c2] = some xs[2] := by
      have e := hg 2 _ rfl
      rw [List.getElem?_eq_getElem (by omega)] at e
      rw [← e]
      simp [hc1, hc2, hc3]
    have g3 : DataW.trod enc Try.prog w base spare held n 3 [c3] = some xs[3] := by
      have e := hg 3 _ rfl
      rw [List.getElem?_eq_getElem (by omega)] at e
      rw [← e]
      simp [hc1, hc2, hc3]
    have g4 : DataW.trod enc Try.prog w base spare held n 27 [c4] = some xs[4] := by
      have e := hg 4 _ rfl
      rw [List.getElem?_eq_getElem (by omega)] at e
      rw [← e]
      simp [hc1, hc2, hc3]
    have g5 : DataW.trod enc Try.prog w base spare held n 3 [c5] = some xs[5] := by
      have e := hg 5 _ rfl
      rw [List.getElem?_eq_getElem (by omega)] at e
      rw [← e]
      simp [hc1, hc2, hc3]
    have g6 : DataW.trod enc Try.prog w base spare held n 3 [c6] = some xs[6] := by
      have e := hg 6 _ rfl
      rw [List.getElem?_eq_getElem (by omega)] at e
      rw [← e]
      simp [hc1, hc2, hc3]
    have g7 : DataW.trod enc Try.prog w base spare held n 3 [c7] = some xs[7] := by
      have e := hg 7 _ rfl
      rw [List.getElem?_eq_getElem (by omega)] at e
      rw [← e]
      simp [hc1, hc2, hc3]
    obtain ⟨n0, e0, _⟩ := DataW.trod_bool Try.underlying4 g0
    obtain ⟨n1, e1, _, f1⟩ := DataW.trod_int Try.underlying3 g1
    obtain ⟨n2, e2, _, f2⟩ := DataW.trod_int Try.underlying3 g2
    obtain ⟨n3, e3, _, f3⟩ := DataW.trod_int Try.underlying3 g3
    obtain ⟨n4, e4, _, f4⟩ := DataW.trod_int Try.underlying27 g4
    obtain ⟨n5, e5, _, f5⟩ := DataW.trod_int Try.underlying3 g5
    obtain ⟨n6, e6, _, f6⟩ := DataW.trod_int Try.underlying3 g6
    obtain ⟨n7, e7, _, f7⟩ := DataW.trod_int Try.underlying3 g7
    simp only [List.cons.injEq, and_true] at e0 e1 e2 e3 e4 e5 e6 e7
    subst e0 e1 e2 e3 e4 e5 e6 e7
    have b1 := bounds_i64 f1
    have b2 := bounds_i64 f2
    have b3 := bounds_i64 f3
    have b4 := bounds_u32 f4
    have b5 := bounds_i64 f5
    have b6 := bounds_i64 f6
    have b7 := bounds_i64 f7
    exact ⟨⟨n0, n1, n2, n3, n4, n5, n6, n7⟩, by unfold Rqs.Fits; simp only; omega, rfl⟩
theorem open_rqss {t : TypeId} (ht : Try.prog.underlying t = some (.slice 54)) {r : Reach} {b0 : Nat} {v : Value} {d : DataW H} {ps : List MemPlace} (hval : Value.okWide Try.prog w r b0 t v) (hd : DataW.Trod enc Try.prog w base spare held t v d ps) :
    ∃ (A : Option Addr) (c : Nat) (l : List Rqs), v = .slice A l.length c ∧ Row w w.heap.size 8 (.slice A l.length c) l.length (flat rqsL l) ∧ ∀ v ∈ l, v.Fits :=
  open_flatA (by omega) rqsL rqsL_len Rqs.Fits (by kernel_rfl) (fun _ _ _ h => rqs_cells h) ht hval hd
/-- A side. -/
def Sid.Fits (s : Sid) : Prop := (∀ x ∈ s.regs, 0 ≤ x ∧ x ≤ 4294967295) ∧ (∀ x ∈ s.ready, -9223372036854775808 ≤ x ∧ x ≤ 9223372036854775807) ∧ (-9223372036854775808 ≤ s.blk ∧ s.blk ≤ 9223372036854775807) ∧ (-9223372036854775808 ≤ s.idx ∧ s.idx ≤ 9223372036854775807) ∧ (-9223372036854775808 ≤ s.base ∧ s.base ≤ 9223372036854775807) ∧ (-9223372036854775808 ≤ s.wait ∧ s.wait ≤ 9223372036854775807) ∧ (-9223372036854775808 ≤ s.done ∧ s.done ≤ 9223372036854775807)
theorem pos_cells {fuel : Nat} {cs : List Value} {x : DataW H × List MemPlace} (h : DataW.trod enc Try.prog w base spare held fuel 31 cs = some x) :
    ∃ a b c : Int, (-9223372036854775808 ≤ a ∧ a ≤ 9223372036854775807) ∧ (-9223372036854775808 ≤ b ∧ b ≤ 9223372036854775807) ∧ (-9223372036854775808 ≤ c ∧ c ≤ 9223372036854775807) ∧ cs = [.int .i64 a, .int .i64 b, .int .i64 c] := by
  obtain ⟨xs, n, _, _, hlen, hxl, hg⟩ := DataW.trod_struct Try.underlying31 h
  have hC : Try.prog.cellsOf 31 = 3 := by kernel_rfl
  have hc1 : Try.prog.cellsOf 3 = 1 := by kernel_rfl
  rw [hC] at hlen
  have hxl' : xs.length = 3 := hxl
  match cs, hlen with
  | [c0, c1, c2], _ =>
    have g0 : DataW.trod enc Try.prog w base spare held n 3 [c0] = some xs[0] := by
      have e := hg 0 _ rfl
      rw [List.getElem?_eq_getElem (by omega)] at e
      rw [← e]
      simp [hc1]
    have g1 : DataW.trod enc Try.prog w base spare held n 3 [c1] = some xs[1] := by
      have e := hg 1 _ rfl
      rw [List.getElem?_eq_getElem (by omega)] at e
      rw [← e]
      simp [hc1]
    have g2 : DataW.trod enc Try.prog w base spare held n 3 [c2] = some xs[2] := by
      have e := hg 2 _ rfl
      rw [List.getElem?_eq_getElem (by omega)] at e
      rw [← e]
      simp [hc1]
    obtain ⟨n0, e0, _, f0⟩ := DataW.trod_int Try.underlying3 g0
    obtain ⟨n1, e1, _, f1⟩ := DataW.trod_int Try.underlying3 g1
    obtain ⟨n2, e2, _, f2⟩ := DataW.trod_int Try.underlying3 g2
    simp only [List.cons.injEq, and_true] at e0 e1 e2
    subst e0 e1 e2
    exact ⟨n0, n1, n2, bounds_i64 f0, bounds_i64 f1, bounds_i64 f2, rfl⟩
theorem trapS_cells {fuel : Nat} {cs : List Value} {x : DataW H × List MemPlace} (h : DataW.trod enc Try.prog w base spare held fuel 42 cs = some x) :
    ∃ a b c : Int, (-9223372036854775808 ≤ a ∧ a ≤ 9223372036854775807) ∧ (-9223372036854775808 ≤ b ∧ b ≤ 9223372036854775807) ∧ (-9223372036854775808 ≤ c ∧ c ≤ 9223372036854775807) ∧ cs = [.int .i64 a, .int .i64 b, .int .i64 c] := by
  obtain ⟨xs, n, _, _, hlen, hxl, hg⟩ := DataW.trod_struct Try.underlying42 h
  have hC : Try.prog.cellsOf 42 = 3 := by kernel_rfl
  have hc1 : Try.prog.cellsOf 3 = 1 := by kernel_rfl
  rw [hC] at hlen
  have hxl' : xs.length = 3 := hxl
  match cs, hlen with
  | [c0, c1, c2], _ =>
    have g0 : DataW.trod enc Try.prog w base spare held n 3 [c0] = some xs[0] := by
      have e := hg 0 _ rfl
      rw [List.getElem?_eq_getElem (by omega)] at e
      rw [← e]
      simp [hc1]
    have g1 : DataW.trod enc Try.prog w base spare held n 3 [c1] = some xs[1] := by
      have e := hg 1 _ rfl
      rw [List.getElem?_eq_getElem (by omega)] at e
      rw [← e]
      simp [hc1]
    have g2 : DataW.trod enc Try.prog w base spare held n 3 [c2] = some xs[2] := by
      have e := hg 2 _ rfl
      rw [List.getElem?_eq_getElem (by omega)] at e
      rw [← e]
      simp [hc1]
    obtain ⟨n0, e0, _, f0⟩ := DataW.trod_int Try.underlying3 g0
    obtain ⟨n1, e1, _, f1⟩ := DataW.trod_int Try.underlying3 g1
    obtain ⟨n2, e2, _, f2⟩ := DataW.trod_int Try.underlying3 g2
    simp only [List.cons.injEq, and_true] at e0 e1 e2
    subst e0 e1 e2
    exact ⟨n0, n1, n2, bounds_i64 f0, bounds_i64 f1, bounds_i64 f2, rfl⟩
theorem sid_cells {fuel : Nat} {cs : List Value} {x : DataW H × List MemPlace} (h : DataW.trod enc Try.prog w base spare held fuel 33 cs = some x) :
    ∃ s : Sid, s.Fits ∧ s.Ok ∧ cs = sidL s := by
  obtain ⟨xs, n, _, _, hlen, hxl, hg⟩ := DataW.trod_struct Try.underlying33 h
  rw [show Try.prog.cellsOf 33 = 38 by kernel_rfl] at hlen
  have hxl' : xs.length = 6 := hxl
  have g0 : DataW.trod enc Try.prog w base spare held n 28 ((cs.drop 0).take 16) = some (xs[0]'(by omega)) := by
    have e : DataW.trod enc Try.prog w base spare held n 28 ((cs.drop 0).take (Try.prog.cellsOf 28)) = xs[0]? := hg 0 _ rfl
    rw [show Try.prog.cellsOf 28 = 16 by kernel_rfl, List.getElem?_eq_getElem (by omega)] at e
    exact e
  have g1 : DataW.trod enc Try.prog w base spare held n 29 ((cs.drop 16).take 16) = some (xs[1]'(by omega)) := by
    have e : DataW.trod enc Try.prog w base spare held n 29 ((cs.drop 16).take (Try.prog.cellsOf 29)) = xs[1]? := hg 1 _ rfl
    rw [show Try.prog.cellsOf 29 = 16 by kernel_rfl, List.getElem?_eq_getElem (by omega)] at e
    exact e
  have g2 : DataW.trod enc Try.prog w base spare held n 31 ((cs.drop 32).take 3) = some (xs[2]'(by omega)) := by
    have e : DataW.trod enc Try.prog w base spare held n 31 ((cs.drop 32).take (Try.prog.cellsOf 31)) = xs[2]? := hg 2 _ rfl
    rw [show Try.prog.cellsOf 31 = 3 by kernel_rfl, List.getElem?_eq_getElem (by omega)] at e
    exact e
  have g3 : DataW.trod enc Try.prog w base spare held n 3 ((cs.drop 35).take 1) = some (xs[3]'(by omega)) := by
    have e : DataW.trod enc Try.prog w base spare held n 3 ((cs.drop 35).take (Try.prog.cellsOf 3)) = xs[3]? := hg 3 _ rfl
    rw [show Try.prog.cellsOf 3 = 1 by kernel_rfl, List.getElem?_eq_getElem (by omega)] at e
    exact e
  have g4 : DataW.trod enc Try.prog w base spare held n 4 ((cs.drop 36).take 1) = some (xs[4]'(by omega)) := by
    have e : DataW.trod enc Try.prog w base spare held n 4 ((cs.drop 36).take (Try.prog.cellsOf 4)) = xs[4]? := hg 4 _ rfl
    rw [show Try.prog.cellsOf 4 = 1 by kernel_rfl, List.getElem?_eq_getElem (by omega)] at e
    exact e
  have g5 : DataW.trod enc Try.prog w base spare held n 3 ((cs.drop 37).take 1) = some (xs[5]'(by omega)) := by
    have e : DataW.trod enc Try.prog w base spare held n 3 ((cs.drop 37).take (Try.prog.cellsOf 3)) = xs[5]? := hg 5 _ rfl
    rw [show Try.prog.cellsOf 3 = 1 by kernel_rfl, List.getElem?_eq_getElem (by omega)] at e
    exact e
  have hs0 : cs = (cs.drop 0).take 16 ++ cs.drop 16 := by rw [List.drop_zero, List.take_append_drop]
  have hs1 := seg cs 16 16 32 rfl
  have hs2 := seg cs 32 3 35 rfl
  have hs3 := seg cs 35 1 36 rfl
  have hs4 := seg cs 36 1 37 rfl
  have hs5 := seg cs 37 1 38 rfl
  have hend : cs.drop 38 = [] := List.drop_eq_nil_of_le (by omega)
  obtain ⟨rg, l0, f0, e0⟩ := arr_ints Try.underlying28 Try.underlying27 (by kernel_rfl) (by kernel_rfl) g0
  obtain ⟨rd, l1, f1, e1⟩ := arr_ints Try.underlying29 Try.underlying3 (by kernel_rfl) (by kernel_rfl) g1
  obtain ⟨p0, p1, p2, b0, b1, b2, e2⟩ := pos_cells g2
  obtain ⟨wt, e3, _, f3⟩ := DataW.trod_int Try.underlying3 g3
  obtain ⟨ht, e4, _⟩ := DataW.trod_bool Try.underlying4 g4
  obtain ⟨dn, e5, _, f5⟩ := DataW.trod_int Try.underlying3 g5
  refine ⟨⟨rg, rd, p0, p1, p2, wt, ht, dn⟩, ⟨fun x hx => bounds_u32 (f0 x hx), fun x hx => bounds_i64 (f1 x hx), b0, b1, b2, bounds_i64 f3, bounds_i64 f5⟩, ⟨l0, l1⟩, ?_⟩
  rw [hs0, hs1, hs2, hs3, hs4, hs5, hend, e0, e1, e2, e3, e4, e5]
  unfold sidL
  simp only [List.append_assoc, List.cons_append, List.nil_append, List.append_nil]
/-- A state's numbers. -/
structure Sta.Fits (x : Sta) : Prop where
  cycle : -9223372036854775808 ≤ x.cycle ∧ x.cycle ≤ 9223372036854775807
  a : x.a.Fits
  e : x.e.Fits
  ldq : ∀ v ∈ x.ldq, v.Fits
  sdq : ∀ v ∈ x.sdq, 0 ≤ v ∧ v ≤ 4294967295
  aeq : ∀ v ∈ x.aeq, 0 ≤ v ∧ v ≤ 4294967295
  saq : ∀ v ∈ x.saq, v.Fits
  table : ∀ v ∈ x.table, v.Fits
  mem : ∀ v ∈ x.mem, 0 ≤ v ∧ v ≤ 255
  ws : ∀ v ∈ x.ws, v.Fits
  trap : (-9223372036854775808 ≤ x.tk ∧ x.tk ≤ 9223372036854775807) ∧ (-9223372036854775808 ≤ x.ts ∧ x.ts ≤ 9223372036854775807) ∧ (-9223372036854775808 ≤ x.tp ∧ x.tp ≤ 9223372036854775807)
  lats : -9223372036854775808 ≤ x.lats ∧ x.lats ≤ 9223372036854775807
  picks : -9223372036854775808 ≤ x.picks ∧ x.picks ≤ 9223372036854775807
  tags : -9223372036854775808 ≤ x.tags ∧ x.tags ≤ 9223372036854775807
theorem open_sta {r : Reach} {b0 : Nat} {v : Value} {d : DataW H} {ps : List MemPlace} (hval : Value.okWide Try.prog w r b0 44 v) (hd : DataW.Trod enc Try.prog w base spare held 44 v d ps) :
    ∃ (u : Vs) (x : Sta), x.Fits ∧ x.Ok ∧ StaV w w.heap.size u x ∧ v = .agg (staL x u).toArray := by
  obtain ⟨csA, rfl, _⟩ := okWide_struct Try.underlying44 hval
  obtain ⟨fuel, hf⟩ := hd
  obtain ⟨cs⟩ := csA
  have hcs : (Value.agg ⟨cs⟩).cells.toList = cs := by simp [Value.cells]
  rw [hcs] at hf
  obtain ⟨xs, n, _, _, hlen, hxl, hg⟩ := DataW.trod_struct Try.underlying44 hf
  rw [show Try.prog.cellsOf 44 = 92 by kernel_rfl] at hlen
  have hxl' : xs.length = 16 := hxl
  have g0 : DataW.trod enc Try.prog w base spare held n 3 ((cs.drop 0).take 1) = some (xs[0]'(by omega)) := by
    have e : DataW.trod enc Try.prog w base spare held n 3 ((cs.drop 0).take (Try.prog.cellsOf 3)) = xs[0]? := hg 0 _ rfl
    rw [show Try.prog.cellsOf 3 = 1 by kernel_rfl, List.getElem?_eq_getElem (by omega)] at e
    exact e
  have g1 : DataW.trod enc Try.prog w base spare held n 33 ((cs.drop 1).take 38) = some (xs[1]'(by omega)) := by
    have e : DataW.trod enc Try.prog w base spare held n 33 ((cs.drop 1).take (Try.prog.cellsOf 33)) = xs[1]? := hg 1 _ rfl
    rw [show Try.prog.cellsOf 33 = 38 by kernel_rfl, List.getElem?_eq_getElem (by omega)] at e
    exact e
  have g2 : DataW.trod enc Try.prog w base spare held n 33 ((cs.drop 39).take 38) = some (xs[2]'(by omega)) := by
    have e : DataW.trod enc Try.prog w base spare held n 33 ((cs.drop 39).take (Try.prog.cellsOf 33)) = xs[2]? := hg 2 _ rfl
    rw [show Try.prog.cellsOf 33 = 38 by kernel_rfl, List.getElem?_eq_getElem (by omega)] at e
    exact e
  have g3 : DataW.trod enc Try.prog w base spare held n 34 ((cs.drop 77).take 1) = some (xs[3]'(by omega)) := by
    have e : DataW.trod enc Try.prog w base spare held n 34 ((cs.drop 77).take (Try.prog.cellsOf 34)) = xs[3]? := hg 3 _ rfl
    rw [show Try.prog.cellsOf 34 = 1 by kernel_rfl, List.getElem?_eq_getElem (by omega)] at e
    exact e
  have g4 : DataW.trod enc Try.prog w base spare held n 35 ((cs.drop 78).take 1) = some (xs[4]'(by omega)) := by
    have e : DataW.trod enc Try.prog w base spare held n 35 ((cs.drop 78).take (Try.prog.cellsOf 35)) = xs[4]? := hg 4 _ rfl
    rw [show Try.prog.cellsOf 35 = 1 by kernel_rfl, List.getElem?_eq_getElem (by omega)] at e
    exact e
  have g5 : DataW.trod enc Try.prog w base spare held n 35 ((cs.drop 79).take 1) = some (xs[5]'(by omega)) := by
    have e : DataW.trod enc Try.prog w base spare held n 35 ((cs.drop 79).take (Try.prog.cellsOf 35)) = xs[5]? := hg 5 _ rfl
    rw [show Try.prog.cellsOf 35 = 1 by kernel_rfl, List.getElem?_eq_getElem (by omega)] at e
    exact e
  have g6 : DataW.trod enc Try.prog w base spare held n 36 ((cs.drop 80).take 1) = some (xs[6]'(by omega)) := by
    have e : DataW.trod enc Try.prog w base spare held n 36 ((cs.drop 80).take (Try.prog.cellsOf 36)) = xs[6]? := hg 6 _ rfl
    rw [show Try.prog.cellsOf 36 = 1 by kernel_rfl, List.getElem?_eq_getElem (by omega)] at e
    exact e
  have g7 : DataW.trod enc Try.prog w base spare held n 36 ((cs.drop 81).take 1) = some (xs[7]'(by omega)) := by
    have e : DataW.trod enc Try.prog w base spare held n 36 ((cs.drop 81).take (Try.prog.cellsOf 36)) = xs[7]? := hg 7 _ rfl
    rw [show Try.prog.cellsOf 36 = 1 by kernel_rfl, List.getElem?_eq_getElem (by omega)] at e
    exact e
  have g8 : DataW.trod enc Try.prog w base spare held n 37 ((cs.drop 82).take 1) = some (xs[8]'(by omega)) := by
    have e : DataW.trod enc Try.prog w base spare held n 37 ((cs.drop 82).take (Try.prog.cellsOf 37)) = xs[8]? := hg 8 _ rfl
    rw [show Try.prog.cellsOf 37 = 1 by kernel_rfl, List.getElem?_eq_getElem (by omega)] at e
    exact e
  have g9 : DataW.trod enc Try.prog w base spare held n 38 ((cs.drop 83).take 1) = some (xs[9]'(by omega)) := by
    have e : DataW.trod enc Try.prog w base spare held n 38 ((cs.drop 83).take (Try.prog.cellsOf 38)) = xs[9]? := hg 9 _ rfl
    rw [show Try.prog.cellsOf 38 = 1 by kernel_rfl, List.getElem?_eq_getElem (by omega)] at e
    exact e
  have g10 : DataW.trod enc Try.prog w base spare held n 39 ((cs.drop 84).take 1) = some (xs[10]'(by omega)) := by
    have e : DataW.trod enc Try.prog w base spare held n 39 ((cs.drop 84).take (Try.prog.cellsOf 39)) = xs[10]? := hg 10 _ rfl
    rw [show Try.prog.cellsOf 39 = 1 by kernel_rfl, List.getElem?_eq_getElem (by omega)] at e
    exact e
  have g11 : DataW.trod enc Try.prog w base spare held n 40 ((cs.drop 85).take 1) = some (xs[11]'(by omega)) := by
    have e : DataW.trod enc Try.prog w base spare held n 40 ((cs.drop 85).take (Try.prog.cellsOf 40)) = xs[11]? := hg 11 _ rfl
    rw [show Try.prog.cellsOf 40 = 1 by kernel_rfl, List.getElem?_eq_getElem (by omega)] at e
    exact e
  have g12 : DataW.trod enc Try.prog w base spare held n 42 ((cs.drop 86).take 3) = some (xs[12]'(by omega)) := by
    have e : DataW.trod enc Try.prog w base spare held n 42 ((cs.drop 86).take (Try.prog.cellsOf 42)) = xs[12]? := hg 12 _ rfl
    rw [show Try.prog.cellsOf 42 = 3 by kernel_rfl, List.getElem?_eq_getElem (by omega)] at e
    exact e
  have g13 : DataW.trod enc Try.prog w base spare held n 3 ((cs.drop 89).take 1) = some (xs[13]'(by omega)) := by
    have e : DataW.trod enc Try.prog w base spare held n 3 ((cs.drop 89).take (Try.prog.cellsOf 3)) = xs[13]? := hg 13 _ rfl
    rw [show Try.prog.cellsOf 3 = 1 by kernel_rfl, List.getElem?_eq_getElem (by omega)] at e
    exact e
  have g14 : DataW.trod enc Try.prog w base spare held n 3 ((cs.drop 90).take 1) = some (xs[14]'(by omega)) := by
    have e : DataW.trod enc Try.prog w base spare held n 3 ((cs.drop 90).take (Try.prog.cellsOf 3)) = xs[14]? := hg 14 _ rfl
    rw [show Try.prog.cellsOf 3 = 1 by kernel_rfl, List.getElem?_eq_getElem (by omega)] at e
    exact e
  have g15 : DataW.trod enc Try.prog w base spare held n 3 ((cs.drop 91).take 1) = some (xs[15]'(by omega)) := by
    have e : DataW.trod enc Try.prog w base spare held n 3 ((cs.drop 91).take (Try.prog.cellsOf 3)) = xs[15]? := hg 15 _ rfl
    rw [show Try.prog.cellsOf 3 = 1 by kernel_rfl, List.getElem?_eq_getElem (by omega)] at e
    exact e
  have hs0 : cs = (cs.drop 0).take 1 ++ cs.drop 1 := by rw [List.drop_zero, List.take_append_drop]
  have hs1 := seg cs 1 38 39 rfl
  have hs2 := seg cs 39 38 77 rfl
  have hs3 := seg cs 77 1 78 rfl
  have hs4 := seg cs 78 1 79 rfl
  have hs5 := seg cs 79 1 80 rfl
  have hs6 := seg cs 80 1 81 rfl
  have hs7 := seg cs 81 1 82 rfl
  have hs8 := seg cs 82 1 83 rfl
  have hs9 := seg cs 83 1 84 rfl
  have hs10 := seg cs 84 1 85 rfl
  have hs11 := seg cs 85 1 86 rfl
  have hs12 := seg cs 86 3 89 rfl
  have hs13 := seg cs 89 1 90 rfl
  have hs14 := seg cs 90 1 91 rfl
  have hs15 := seg cs 91 1 92 rfl
  have hend : cs.drop 92 = [] := List.drop_eq_nil_of_le (by omega)
  obtain ⟨cy, e0, _, f0⟩ := DataW.trod_int Try.underlying3 g0
  obtain ⟨sa, fa, oa, e1⟩ := sid_cells g1
  obtain ⟨se, fe, oe, e2⟩ := sid_cells g2
  obtain ⟨A3, c3, l3, e3, r3, f3⟩ := open_flat (by omega) sltL sltL_len Slt.Fits (by kernel_rfl) (fun _ _ _ h => slt_cells h) Try.underlying34 g3
  obtain ⟨A4, c4, l4, e4, r4, f4⟩ := open_row_ints Try.underlying35 Try.underlying27 (by kernel_rfl) g4
  obtain ⟨A5, c5, l5, e5, r5, f5⟩ := open_row_ints Try.underlying35 Try.underlying27 (by kernel_rfl) g5
  obtain ⟨A6, c6, l6, e6, r6⟩ := open_row_bools Try.underlying36 Try.underlying4 (by kernel_rfl) g6
  obtain ⟨A7, c7, l7, e7, r7⟩ := open_row_bools Try.underlying36 Try.underlying4 (by kernel_rfl) g7
  obtain ⟨A8, c8, l8, e8, r8, f8⟩ := open_flat (by omega) entL entL_len Ent.Fits (by kernel_rfl) (fun _ _ _ h => ent_cells h) Try.underlying37 g8
  obtain ⟨A9, c9, l9, e9, r9, f9⟩ := open_flat (by omega) rqsL rqsL_len Rqs.Fits (by kernel_rfl) (fun _ _ _ h => rqs_cells h) Try.underlying38 g9
  obtain ⟨A10, c10, l10, e10, r10, f10⟩ := open_row_ints Try.underlying39 Try.underlying5 (by kernel_rfl) g10
  obtain ⟨A11, c11, l11, e11, r11, f11⟩ := open_flat (s := 3) (by omega) wrL (fun _ => rfl) Wr.Fits (by kernel_rfl) (fun _ _ _ h => wr_cells h) Try.underlying40 g11
  obtain ⟨tk, ts, tp, b1, b2, b3, e12⟩ := trapS_cells g12
  obtain ⟨nl, e13, _, f13⟩ := DataW.trod_int Try.underlying3 g13
  obtain ⟨np, e14, _, f14⟩ := DataW.trod_int Try.underlying3 g14
  obtain ⟨nt, e15, _, f15⟩ := DataW.trod_int Try.underlying3 g15
  refine ⟨⟨.slice A3 l3.length c3, .slice A4 l4.length c4, .slice A5 l5.length c5, .slice A6 l6.length c6, .slice A7 l7.length c7, .slice A8 l8.length c8, .slice A9 l9.length c9, .slice A10 l10.length c10, .slice A11 l11.length c11⟩, ⟨cy, sa, se, l3, l4, l5, l6, l7, l8, l9, l10, l11, tk, ts, tp, nl, np, nt⟩, ⟨bounds_i64 f0, fa, fe, f3, fun x hx => bounds_u32 (f4 x hx), fun x hx => bounds_u32 (f5 x hx), f8, f9, fun x hx => bounds_u8 (f10 x hx), f11, ⟨b1, b2, b3⟩, bounds_i64 f13, bounds_i64 f14, bounds_i64 f15⟩, ⟨oa, oe⟩, ⟨r3, r4, r5, r6, r7, r8, r9, r10, r11⟩, ?_⟩
  rw [hs0, hs1, hs2, hs3, hs4, hs5, hs6, hs7, hs8, hs9, hs10, hs11, hs12, hs13, hs14, hs15, hend, e0, e1, e2, e3, e4, e5, e6, e7, e8, e9, e10, e11, e12, e13, e14, e15]
  unfold staL vsL endL
  simp only [List.append_assoc, List.cons_append, List.nil_append, List.append_nil]
/-- A script. -/
theorem open_scr {r : Reach} {b0 : Nat} {v : Value} {d : DataW H} {ps : List MemPlace} (hval : Value.okWide Try.prog w r b0 26 v) (hd : DataW.Trod enc Try.prog w base spare held 26 v d ps) :
    ∃ (A B : Option Addr) (ca cb : Nat) (lats picks : List Int), v = .agg #[.slice A lats.length ca, .slice B picks.length cb] ∧ Row w w.heap.size 1 (.slice A lats.length ca) lats.length (lats.map (Value.int .i64)) ∧ Row w w.heap.size 1 (.slice B picks.length cb) picks.length (picks.map (Value.int .i64)) ∧ (∀ x ∈ lats, -9223372036854775808 ≤ x ∧ x ≤ 9223372036854775807) ∧ (∀ x ∈ picks, -9223372036854775808 ≤ x ∧ x ≤ 9223372036854775807) := by
  obtain ⟨csA, rfl, _⟩ := okWide_struct Try.underlying26 hval
  obtain ⟨fuel, hf⟩ := hd
  obtain ⟨cs⟩ := csA
  have hcs : (Value.agg ⟨cs⟩).cells.toList = cs := by simp [Value.cells]
  rw [hcs] at hf
  obtain ⟨xs, n, _, _, hlen, hxl, hg⟩ := DataW.trod_struct Try.underlying26 hf
  rw [show Try.prog.cellsOf 26 = 2 by kernel_rfl] at hlen
  have hxl' : xs.length = 2 := hxl
  have g0 : DataW.trod enc Try.prog w base spare held n 24 ((cs.drop 0).take 1) = some (xs[0]'(by omega)) := by
    have e : DataW.trod enc Try.prog w base spare held n 24 ((cs.drop 0).take (Try.prog.cellsOf 24)) = xs[0]? := hg 0 _ rfl
    rw [show Try.prog.cellsOf 24 = 1 by kernel_rfl, List.getElem?_eq_getElem (by omega)] at e
    exact e
  have g1 : DataW.trod enc Try.prog w base spare held n 24 ((cs.drop 1).take 1) = some (xs[1]'(by omega)) := by
    have e : DataW.trod enc Try.prog w base spare held n 24 ((cs.drop 1).take (Try.prog.cellsOf 24)) = xs[1]? := hg 1 _ rfl
    rw [show Try.prog.cellsOf 24 = 1 by kernel_rfl, List.getElem?_eq_getElem (by omega)] at e
    exact e
  have hs0 : cs = (cs.drop 0).take 1 ++ cs.drop 1 := by rw [List.drop_zero, List.take_append_drop]
  have hs1 := seg cs 1 1 2 rfl
  have hend : cs.drop 2 = [] := List.drop_eq_nil_of_le (by omega)
  obtain ⟨A, ca, la, e0, r0, f0⟩ := open_row_ints Try.underlying24 Try.underlying3 (by kernel_rfl) g0
  obtain ⟨B, cb, lb, e1, r1, f1⟩ := open_row_ints Try.underlying24 Try.underlying3 (by kernel_rfl) g1
  refine ⟨A, B, ca, cb, la, lb, ?_, r0, r1, fun x hx => bounds_i64 (f0 x hx), fun x hx => bounds_i64 (f1 x hx)⟩
  rw [hs0, hs1, hend, e0, e1]
  rfl
end
end Go.Proofs.Ythhoigkmmlkfcaa.Words

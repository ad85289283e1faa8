/- An argument that is a split (a struct of a slice of blocks, each with two slices of cells, and an array of sixteen ints, by value): its plain data. -/
import Derived.Test.YtbibfpopkcekdaaG13
import Derived.Test.YtbibfpopkcekdaaSOpenOnr
import Derived.Test.YtbibfpopkcekdaaG04
import Derived.Deep.Slices
namespace Go.Proofs.Ytbibfpopkcekdaa.Words
set_option maxRecDepth 100000
open Go.ChangeShapes Go.WideShapes Go.ChangeAt Go.RowKit
set_option linter.unusedVariables false
set_option linter.unusedSimpArgs false

section
variable {H : Type} {enc : TypeId × Value → H} {w : World} {base : Nat} {spare : Nat → Bool} {held : Bool}

theorem celS_cells {fuel : Nat} {cs : List Value} {x : DataW H × List MemPlace} (h : DataW.trod enc Try.prog w base spare held fuel 53 cs = some x) :
    ∃ c : Cel, c.Fits ∧ cs = celCells c := by
  obtain ⟨xs, n, _, _, hlen, hxl, hg⟩ := DataW.trod_struct Try.underlying53 h
  have hC : Try.prog.cellsOf 53 = 9 := by kernel_rfl
  have hc1 : Try.prog.cellsOf 3 = 1 := by kernel_rfl
  have hc5 : Try.prog.cellsOf 51 = 5 := by kernel_rfl
  rw [hC] at hlen
  have hxl' : xs.length = 5 := hxl
  match cs, hlen with
  | [c0, c1, c2, c3, c4, c5, c6, c7, c8], _ =>
    have g0 : DataW.trod enc Try.prog w base spare held n 3 [c0] = some xs[0] := by
      have e := hg 0 _ rfl
      rw [List.getElem?_eq_getElem (by omega)] at e
      rw [← e]
      simp [hc1]
    have g1 : DataW.trod enc Try.prog w base spare held n 51 [c1, c2, c3, c4, c5] = some xs[1] := by
      have e := hg 1 _ rfl
      rw [List.getElem?_eq_getElem (by omega)] at e
      rw [← e]
      simp [hc1, hc5]
    have g2 : DataW.trod enc Try.prog w base spare held n 3 [c6] = some xs[2] := by
      have e := hg 2 _ rfl
      rw [List.getElem?_eq_getElem (by omega)] at e
      rw [← e]
      simp [hc1, hc5]
    have g3 : DataW.trod enc Try.prog w base spare held n 3 [c7] = some xs[3] := by
      have e := hg 3 _ rfl
      rw [List.getElem?_eq_getElem (by omega)] at e
      rw [← e]
      simp [hc1, hc5]
    have g4 : DataW.trod enc Try.prog w base spare held n 3 [c8] = some xs[4] := by
      have e := hg 4 _ rfl
      rw [List.getElem?_eq_getElem (by omega)] at e
      rw [← e]
      simp [hc1, hc5]
    obtain ⟨n0, e0, _, f0⟩ := DataW.trod_int Try.underlying3 g0
    obtain ⟨i, f1, e1⟩ := ins_cells g1
    obtain ⟨n2, e2, _, f2⟩ := DataW.trod_int Try.underlying3 g2
    obtain ⟨n3, e3, _, f3⟩ := DataW.trod_int Try.underlying3 g3
    obtain ⟨n4, e4, _, f4⟩ := DataW.trod_int Try.underlying3 g4
    simp only [insCells, List.cons.injEq, and_true] at e0 e1 e2 e3 e4
    obtain ⟨rfl, rfl, rfl, rfl, rfl⟩ := e1
    subst e0 e2 e3 e4
    exact ⟨⟨n0, i, n2, n3, n4⟩, ⟨bounds_i64 f0, f1, bounds_i64 f2, bounds_i64 f3, bounds_i64 f4⟩, rfl⟩

/-- A slice of records: each reads as its cells say. -/
theorem open_flat {α : Type} [Inhabited α] {e t : TypeId} {s : Nat} (hs : 0 < s) (f : α → List Value) (hf : ∀ x, (f x).length = s) (Q : α → Prop) (hC : Try.prog.cellsOf e = s)
    (hel : ∀ (fuel : Nat) (cs : List Value) (x : DataW H × List MemPlace), DataW.trod enc Try.prog w base spare held fuel e cs = some x → ∃ v, Q v ∧ cs = f v)
    (ht : Try.prog.underlying t = some (.slice e)) {fuel : Nat} {cs : List Value} {x : DataW H × List MemPlace} (h : DataW.trod enc Try.prog w base spare held fuel t cs = some x) :
    ∃ (A : Option Addr) (c : Nat) (l : List α), cs = [.slice A l.length c] ∧ Row w w.heap.size s (.slice A l.length c) l.length (flat f l) ∧ ∀ v ∈ l, Q v := by
  rcases Deep.open_slice ht h with ⟨rfl, _⟩ | ⟨a, len, cap, m, n, D, Pl, rfl, hb, hl, hm, hmm, _, hx⟩
  · exact ⟨none, 0, [], rfl, Row.nil _ _ _, by simp⟩
  rw [hC] at hx
  have hlm : len ≤ m := by rw [hmm]; split <;> omega
  obtain ⟨g, hg⟩ := Deep.choose_lt (α := α) (n := len) (p := fun i v => Q v ∧ w.cells? base (a.add (i * s)) s = some (f v)) (fun i hi => by
    obtain ⟨cs', h1, h2⟩ := hx i (by omega)
    obtain ⟨v, hv, rfl⟩ := hel _ _ _ h2
    exact ⟨v, hv, h1⟩)
  have hlen : ((List.range len).map g).length = len := by simp
  have hget : ∀ k, k < len → ((List.range len).map g)[k]? = some (g k) := fun k hk => by rw [List.getElem?_map, List.getElem?_range hk]; rfl
  refine ⟨some a, cap, (List.range len).map g, by rw [hlen], ?_, ?_⟩
  · rw [hlen]
    refine ⟨by rw [flat_len hf, hlen], some a, cap, rfl, hl, by simpa [maxLen] using hm, (fun h => by cases h), fun hn => ?_⟩
    have hcell : ∀ k j u, k < len → j < s → (f (g k))[j]? = some u → w.cell? (a.add (k * s + j)) = some u := by
      intro k j u hk hj hu
      have h1 := (hg k hk).2
      obtain ⟨_, h2, h3⟩ := World.cells?_some h1
      have := h3 j hj
      rwa [Deep.add_add, hu] at this
    obtain ⟨u0, hu0⟩ : ∃ u0, (f (g 0))[0]? = some u0 := ⟨_, List.getElem?_eq_getElem (by rw [hf]; exact hs)⟩
    have h00 := hcell 0 0 u0 (by omega) hs hu0
    obtain ⟨b, off, spot⟩ := a
    have hsp : spot = none := by simpa [Addr.add] using World.cell?_spot h00
    subst hsp
    refine ⟨b, off, rfl, ?_, fun j u hu => ?_⟩
    · rw [add_spot] at h00
      unfold World.cell? at h00
      rcases hh : w.heap[b]? with _ | o
      · simp [hh] at h00
      · exact (Array.getElem?_eq_some_iff.1 hh).1
    · have hj : j < len * s := by
        rw [List.getElem?_eq_some_iff] at hu
        obtain ⟨h, _⟩ := hu
        rw [flat_len hf, hlen] at h; exact h
      have hk : j / s < len := Nat.div_lt_of_lt_mul (by rw [Nat.mul_comm]; exact hj)
      have hr : j % s < s := Nat.mod_lt _ hs
      have e : j / s * s + j % s = j := by rw [Nat.mul_comm]; exact Nat.div_add_mod _ _
      have h5 := flat_at hf ((List.range len).map g) (j / s) (g (j / s)) (hget _ hk) (j % s) hr
      rw [e, hu] at h5
      have := hcell (j / s) (j % s) u hk hr h5.symm
      rwa [e, add_spot] at this
  · intro i hi
    obtain ⟨k, hk, rfl⟩ := List.mem_map.1 hi
    exact (hg k (List.mem_range.1 hk)).1
instance : Inhabited Cel := ⟨⟨0, ⟨0, 0, 0, 0, 0⟩, 0, 0, 0⟩⟩
instance : Inhabited BlkR := ⟨⟨0, 0, 0, 0, .slice none 0 0, .slice none 0 0⟩⟩
theorem open_cels {t : TypeId} (ht : Try.prog.underlying t = some (.slice 53)) {fuel : Nat} {cs : List Value} {x : DataW H × List MemPlace} (h : DataW.trod enc Try.prog w base spare held fuel t cs = some x) :
    ∃ (A : Option Addr) (c : Nat) (l : List Cel), cs = [.slice A l.length c] ∧ Row w w.heap.size 9 (.slice A l.length c) l.length (flat celCells l) ∧ ∀ v ∈ l, v.Fits :=
  open_flat (by omega) celCells celCells_len Cel.Fits (by kernel_rfl) (fun _ _ _ h => celS_cells h) ht h
def BlkC.Fits (b : BlkC) : Prop := (-9223372036854775808 ≤ b.from_ ∧ b.from_ ≤ 9223372036854775807) ∧ (-9223372036854775808 ≤ b.to ∧ b.to ≤ 9223372036854775807) ∧ (-9223372036854775808 ≤ b.next ∧ b.next ≤ 9223372036854775807) ∧ (-9223372036854775808 ≤ b.taken ∧ b.taken ≤ 9223372036854775807) ∧ (∀ c ∈ b.a, c.Fits) ∧ ∀ c ∈ b.e, c.Fits
theorem blkS_cells {fuel : Nat} {cs : List Value} {x : DataW H × List MemPlace} (h : DataW.trod enc Try.prog w base spare held fuel 47 cs = some x) :
    ∃ r : BlkR, (∃ c : BlkC, c.Fits ∧ BlkV w w.heap.size r c) ∧ cs = blkRL r := by
  obtain ⟨xs, n, _, _, hlen, hxl, hg⟩ := DataW.trod_struct Try.underlying47 h
  have hC : Try.prog.cellsOf 47 = 6 := by kernel_rfl
  have hc1 : Try.prog.cellsOf 3 = 1 := by kernel_rfl
  have hc2 : Try.prog.cellsOf 45 = 1 := by kernel_rfl
  rw [hC] at hlen
  have hxl' : xs.length = 6 := hxl
  match cs, hlen with
  | [c0, c1, c2, c3, c4, c5], _ =>
    have g : ∀ (j : Nat) (t : TypeId), (hj : j < 6) → Try.prog.cellsOf t = 1 → DataW.trod enc Try.prog w base spare held n t (([c0, c1, c2, c3, c4, c5].drop j).take (Try.prog.cellsOf t)) = xs[j]? → DataW.trod enc Try.prog w base spare held n t (([c0, c1, c2, c3, c4, c5].drop j).take 1) = some (xs[j]'(by omega)) := by
      intro j t hj h1 h2
      rw [h1] at h2
      rw [h2, List.getElem?_eq_getElem (by omega)]
    have g0 : DataW.trod enc Try.prog w base spare held n 3 [c0] = some xs[0] := by
      have e := hg 0 _ rfl
      rw [List.getElem?_eq_getElem (by omega)] at e
      rw [← e]
      simp [hc1]
    have g1 : DataW.trod enc Try.prog w base spare held n 3 [c1] = some xs[1] := by
      have e := hg 1 _ rfl
      rw [List.getElem?_eq_getElem (by omega)] at e
      rw [← e]
      simp [hc1]
    have g2 : DataW.trod enc Try.prog w base spare held n 3 [c2] = some xs[2] := by
      have e := hg 2 _ rfl
      rw [List.getElem?_eq_getElem (by omega)] at e
      rw [← e]
      simp [hc1]
    have g3 : DataW.trod enc Try.prog w base spare held n 3 [c3] = some xs[3] := by
      have e := hg 3 _ rfl
      rw [List.getElem?_eq_getElem (by omega)] at e
      rw [← e]
      simp [hc1]
    have g4 : DataW.trod enc Try.prog w base spare held n 45 [c4] = some xs[4] := by
      have e := hg 4 _ rfl
      rw [List.getElem?_eq_getElem (by omega)] at e
      rw [← e]
      simp [hc1, hc2]
    have g5 : DataW.trod enc Try.prog w base spare held n 45 [c5] = some xs[5] := by
      have e := hg 5 _ rfl
      rw [List.getElem?_eq_getElem (by omega)] at e
      rw [← e]
      simp [hc1, hc2]
    obtain ⟨n0, e0, _, f0⟩ := DataW.trod_int Try.underlying3 g0
    obtain ⟨n1, e1, _, f1⟩ := DataW.trod_int Try.underlying3 g1
    obtain ⟨n2, e2, _, f2⟩ := DataW.trod_int Try.underlying3 g2
    obtain ⟨n3, e3, _, f3⟩ := DataW.trod_int Try.underlying3 g3
    obtain ⟨A4, k4, l4, e4, h4, f4⟩ := open_cels Try.underlying45 g4
    obtain ⟨A5, k5, l5, e5, h5, f5⟩ := open_cels Try.underlying45 g5
    simp only [List.cons.injEq, and_true] at e0 e1 e2 e3 e4 e5
    subst e0 e1 e2 e3 e4 e5
    exact ⟨⟨n0, n1, n2, n3, .slice A4 l4.length k4, .slice A5 l5.length k5⟩, ⟨⟨n0, n1, n2, n3, l4, l5⟩, ⟨bounds_i64 f0, bounds_i64 f1, bounds_i64 f2, bounds_i64 f3, f4, f5⟩, ⟨rfl, rfl, rfl, rfl, h4, h5⟩⟩, rfl⟩
theorem blks_choose {w : World} {B : Nat} : ∀ rs : List BlkR, (∀ r ∈ rs, ∃ c : BlkC, c.Fits ∧ BlkV w B r c) → ∃ l : List BlkC, rs.length = l.length ∧ (∀ c ∈ l, c.Fits) ∧ ∀ (k : Nat) (r : BlkR) (c : BlkC), rs[k]? = some r → l[k]? = some c → BlkV w B r c := by
  intro rs
  induction rs with
  | nil => intro _; exact ⟨[], rfl, by simp, fun k r c h => by simp at h⟩
  | cons r rs ih =>
    intro h
    obtain ⟨c, hc1, hc2⟩ := h r (by simp)
    obtain ⟨l, h1, h2, h3⟩ := ih (fun r hr => h r (by simp [hr]))
    refine ⟨c :: l, by simp [h1], ?_, ?_⟩
    · intro x hx
      rcases List.mem_cons.1 hx with rfl | hx
      · exact hc1
      · exact h2 x hx
    · intro k r' c' hr hc
      cases k with
      | zero => simp at hr hc; subst hr hc; exact hc2
      | succ k => simp at hr hc; exact h3 k r' c' hr hc
theorem open_spl {r : Reach} {b0 : Nat} {v : Value} {d : DataW H} {ps : List MemPlace} (hval : Value.okWide Try.prog w r b0 29 v) (hd : DataW.Trod enc Try.prog w base spare held 29 v d ps) :
    ∃ (u : Value) (l : List BlkC) (o : List Int), o.length = 16 ∧ v = .agg (splV u o).toArray ∧ BlksV w w.heap.size u l ∧ ∀ c ∈ l, c.Fits := by
  obtain ⟨cs, rfl, _⟩ := okWide_struct Try.underlying29 hval
  obtain ⟨fuel, hf⟩ := hd
  obtain ⟨xs, n, _, _, hlen, hxl, hg⟩ := DataW.trod_struct Try.underlying29 hf
  have hC : Try.prog.cellsOf 29 = 17 := by kernel_rfl
  have k0 : Try.prog.cellsOf 27 = 1 := by kernel_rfl
  have k1 : Try.prog.cellsOf 26 = 16 := by kernel_rfl
  rw [hC] at hlen
  have hxl' : xs.length = 2 := hxl
  obtain ⟨l⟩ := cs
  have hl : (Value.agg ⟨l⟩).cells.toList = l := by simp [Value.cells]
  rw [hl] at hlen hg
  obtain ⟨c0, t, rfl⟩ : ∃ c0 t, l = c0 :: t := by
    cases l with
    | nil => simp at hlen
    | cons a t => exact ⟨a, t, rfl⟩
  have ht : t.length = 16 := by simpa using hlen
  have g0 : DataW.trod enc Try.prog w base spare held n 27 [c0] = some xs[0] := by
    have := hg 0 _ rfl
    rw [List.getElem?_eq_getElem (by omega)] at this
    simpa [k0] using this
  have g1 : DataW.trod enc Try.prog w base spare held n 26 t = some xs[1] := by
    have := hg 1 _ rfl
    rw [List.getElem?_eq_getElem (by omega)] at this
    rw [← this]
    simp [k0, k1, List.take_of_length_le (Nat.le_of_eq ht)]
  obtain ⟨A, c, rs, e0, h0, f0⟩ := open_flat (s := 6) (by omega) blkRL blkRL_len (fun r => ∃ c : BlkC, c.Fits ∧ BlkV w w.heap.size r c) (by kernel_rfl) (fun _ _ _ h => blkS_cells h) Try.underlying27 g0
  obtain ⟨o, ho, e1⟩ := onr_cells g1
  obtain ⟨bl, b1, b2, b3⟩ := blks_choose rs f0
  simp only [List.cons.injEq, and_true] at e0
  subst e0 e1
  refine ⟨.slice A rs.length c, bl, o, ho, rfl, ⟨rs, ?_, b1, b3⟩, b2⟩
  rw [← b1]; exact h0
end
end Go.Proofs.Ytbibfpopkcekdaa.Words

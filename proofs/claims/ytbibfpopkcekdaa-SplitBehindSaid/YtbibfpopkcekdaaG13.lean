/- Several texts in one: ImageHelp, OpenIns, OpenProg. -/
import Derived.Test.YtbibfpopkcekdaaRows
import Derived.Test.YtbibfpopkcekdaaG02
import Derived.Test.YtbibfpopkcekdaaG00
import Derived.ProofKit
import Derived.OpenShut
import Derived.ChangeOld
import Derived.Deep.Slices

/- Contracts of the laws' own helpers of chapter 4 that call nothing of the program: num, Few. -/
namespace Go.Proofs.Ytbibfpopkcekdaa.Words
set_option maxRecDepth 100000
open Go.RowKit
set_option linter.unusedVariables false

/-- Is a program short enough? -/
def fewB (n m : Nat) : Bool := decide (n ≤ 200 ∧ m ≤ 500)
set_option maxHeartbeats 400000 in
theorem few_any (A A' : Option Addr) (n c m c' : Nat) (sz : Int) (w : World) (hn : n ≤ 9223372036854775807) (hm : m ≤ 9223372036854775807) :
    Calls Try.prog 8 #[.agg #[.slice A n c, .int .i64 sz, .slice A' m c']] w fun e w' => e = .returned (.bool (fewB n m)) ∧ Below w.heap.size w w' := by
  by_cases h1 : n ≤ 200
  · by_cases h2 : m ≤ 500
    · have hr : fewB n m = true := decide_eq_true ⟨h1, h2⟩
      rw [hr]
      go_enter Try.func8, Try.ntmps8
      go_wp2_with fail
      go_ret
      exact ⟨by simp <;> omega, (Below.refl _ _).alloc (Nat.le_refl _) _⟩
    · have hr : fewB n m = false := decide_eq_false (fun h => h2 h.2)
      rw [hr]
      go_enter Try.func8, Try.ntmps8
      go_wp2_with fail
      go_ret
      exact ⟨by simp <;> omega, (Below.refl _ _).alloc (Nat.le_refl _) _⟩
  · have hr : fewB n m = false := decide_eq_false (fun h => h1 h.1)
    rw [hr]
    go_enter Try.func8, Try.ntmps8
    go_wp2_with fail
    go_ret
    exact ⟨by simp <;> omega, (Below.refl _ _).alloc (Nat.le_refl _) _⟩
end Go.Proofs.Ytbibfpopkcekdaa.Words

/- An argument that is an instruction (a struct of five ints by value): its five numbers. -/
namespace Go.Proofs.Ytbibfpopkcekdaa.Words
set_option maxRecDepth 100000
open Go.ChangeShapes Go.WideShapes Go.ChangeAt Go.RowKit

section
variable {H : Type} {enc : TypeId × Value → H} {w : World} {base : Nat} {spare : Nat → Bool} {held : Bool}


theorem ins_cells {fuel : Nat} {cs : List Value} {x : DataW H × List MemPlace} (h : DataW.trod enc Try.prog w base spare held fuel 51 cs = some x) :
    ∃ i : Ins, i.Fits ∧ cs = insCells i := by
  obtain ⟨xs, n, _, _, hlen, hxl, hg⟩ := DataW.trod_struct Try.underlying51 h
  have hC : Try.prog.cellsOf 51 = 5 := by kernel_rfl
  have hc1 : Try.prog.cellsOf 3 = 1 := by kernel_rfl
  rw [hC] at hlen
  have hxl' : xs.length = 5 := hxl
  match cs, hlen with
  | [c0, c1, c2, c3, c4], _ =>
    have g : ∀ (j : Nat) (hj : j < 5), DataW.trod enc Try.prog w base spare held n 3 (([c0, c1, c2, c3, c4].drop j).take 1) = some xs[j] := by
      intro j hj
      rw [← List.getElem?_eq_getElem (by omega), ← hc1]
      match j, hj with
      | 0, _ => exact hg 0 _ rfl
      | 1, _ => exact hg 1 _ rfl
      | 2, _ => exact hg 2 _ rfl
      | 3, _ => exact hg 3 _ rfl
      | 4, _ => exact hg 4 _ rfl
    obtain ⟨n0, e0, _, f0⟩ := DataW.trod_int Try.underlying3 (g 0 (by omega))
    obtain ⟨n1, e1, _, f1⟩ := DataW.trod_int Try.underlying3 (g 1 (by omega))
    obtain ⟨n2, e2, _, f2⟩ := DataW.trod_int Try.underlying3 (g 2 (by omega))
    obtain ⟨n3, e3, _, f3⟩ := DataW.trod_int Try.underlying3 (g 3 (by omega))
    obtain ⟨n4, e4, _, f4⟩ := DataW.trod_int Try.underlying3 (g 4 (by omega))
    simp only [List.drop_zero, List.take_succ_cons, List.take_zero, List.drop_succ_cons, List.cons.injEq, and_true] at e0 e1 e2 e3 e4
    subst e0 e1 e2 e3 e4
    exact ⟨⟨n0, n1, n2, n3, n4⟩, ⟨bounds_i64 f0, bounds_i64 f1, bounds_i64 f2, bounds_i64 f3, bounds_i64 f4⟩, rfl⟩

theorem open_ins {r : Reach} {b0 : Nat} {v : Value} {d : DataW H} {ps : List MemPlace} (hval : Value.okWide Try.prog w r b0 51 v) (hd : DataW.Trod enc Try.prog w base spare held 51 v d ps) :
    ∃ i : Ins, i.Fits ∧ v = .agg #[.int .i64 i.op, .int .i64 i.d, .int .i64 i.a, .int .i64 i.b, .int .i64 i.imm] := by
  obtain ⟨cs, rfl, _⟩ := okWide_struct Try.underlying51 hval
  obtain ⟨fuel, hf⟩ := hd
  obtain ⟨i, hi, hc⟩ := ins_cells hf
  refine ⟨i, hi, ?_⟩
  obtain ⟨l⟩ := cs
  have : l = insCells i := by simpa [Value.cells] using hc
  rw [this]; rfl
end
end Go.Proofs.Ytbibfpopkcekdaa.Words

/- An argument that is a program (a struct of a slice of instructions, an int and a slice of bytes, by value): its plain data. -/
namespace Go.Proofs.Ytbibfpopkcekdaa.Words
set_option maxRecDepth 100000
open Go.ChangeShapes Go.WideShapes Go.ChangeAt Go.RowKit

instance : Inhabited Ins := ⟨⟨0, 0, 0, 0, 0⟩⟩

section
variable {H : Type} {enc : TypeId × Value → H} {w : World} {base : Nat} {spare : Nat → Bool} {held : Bool}

theorem range_map_get {α : Type} (f : Nat → α) (n k : Nat) (h : k < n) : ((List.range n).map f)[k]? = some (f k) := by
  rw [List.getElem?_map, List.getElem?_range h]; rfl

/-- A slice of instructions. -/
theorem open_code {t : TypeId} (ht : Try.prog.underlying t = some (.slice 51)) {fuel : Nat} {cs : List Value} {x : DataW H × List MemPlace} (h : DataW.trod enc Try.prog w base spare held fuel t cs = some x) :
    ∃ (A : Option Addr) (c : Nat) (l : List Ins), cs = [.slice A l.length c] ∧ Row w w.heap.size 5 (.slice A l.length c) l.length (codeCells l) ∧ ∀ i ∈ l, i.Fits := by
  have hC : Try.prog.cellsOf 51 = 5 := by kernel_rfl
  rcases Deep.open_slice ht h with ⟨rfl, _⟩ | ⟨a, len, cap, m, n, D, Pl, rfl, hb, hl, hm, hmm, _, hx⟩
  · exact ⟨none, 0, [], rfl, Row.nil _ _ _, by simp⟩
  rw [hC] at hx
  have hlm : len ≤ m := by rw [hmm]; split <;> omega
  obtain ⟨f, hf⟩ := Deep.choose_lt (α := Ins) (n := len) (p := fun i v => v.Fits ∧ w.cells? base (a.add (i * 5)) 5 = some (insCells v)) (fun i hi => by
    obtain ⟨cs', h1, h2⟩ := hx i (by omega)
    obtain ⟨v, hv, rfl⟩ := ins_cells h2
    exact ⟨v, hv, h1⟩)
  have hlen : ((List.range len).map f).length = len := by simp
  refine ⟨some a, cap, (List.range len).map f, by rw [hlen], ?_, ?_⟩
  · rw [hlen]
    refine ⟨by rw [codeCells_length, hlen], some a, cap, rfl, hl, by simpa [maxLen] using hm, (fun h => by cases h), fun hn => ?_⟩
    have hcell : ∀ k j u, k < len → j < 5 → (insCells (f k))[j]? = some u → w.cell? (a.add (k * 5 + j)) = some u := by
      intro k j u hk hj hu
      have h1 := (hf k hk).2
      obtain ⟨_, h2, h3⟩ := World.cells?_some h1
      have := h3 j hj
      rwa [Deep.add_add, hu] at this
    have h00 := hcell 0 0 (.int .i64 (f 0).op) (by omega) (by omega) rfl
    obtain ⟨b, off, spot⟩ := a
    have hs : spot = none := by simpa [Addr.add] using World.cell?_spot h00
    subst hs
    refine ⟨b, off, rfl, ?_, fun j u hu => ?_⟩
    · rw [add_spot] at h00
      unfold World.cell? at h00
      rcases hh : w.heap[b]? with _ | o
      · simp [hh] at h00
      · exact (Array.getElem?_eq_some_iff.1 hh).1
    · have hj : j < len * 5 := by
        rw [List.getElem?_eq_some_iff] at hu
        obtain ⟨h, _⟩ := hu
        rw [codeCells_length, hlen] at h; exact h
      have hk : j / 5 < len := by omega
      have hr : j % 5 < 5 := by omega
      have e : j / 5 * 5 + j % 5 = j := by omega
      have h5 := codeCells_at ((List.range len).map f) (j / 5) (f (j / 5)) (range_map_get f len _ hk) (j % 5) hr
      rw [e, hu] at h5
      have := hcell (j / 5) (j % 5) u hk hr h5.symm
      rwa [e, add_spot] at this
  · intro i hi
    obtain ⟨k, hk, rfl⟩ := List.mem_map.1 hi
    exact (hf k (List.mem_range.1 hk)).1

/-- A slice of bytes. -/
theorem open_bytes {t : TypeId} (ht : Try.prog.underlying t = some (.slice 5)) {fuel : Nat} {cs : List Value} {x : DataW H × List MemPlace} (h : DataW.trod enc Try.prog w base (fun _ => true) held fuel t cs = some x) :
    ∃ (A : Option Addr) (c : Nat) (l : List Int), cs = [.slice A l.length c] ∧ Row w w.heap.size 1 (.slice A l.length c) l.length (l.map (Value.int .u8)) ∧ ∀ b ∈ l, 0 ≤ b ∧ b ≤ 255 := by
  rcases open_ints ht Try.underlying5 (by kernel_rfl) h with ⟨rfl, _⟩ | ⟨x, l, c, zs, rfl, _, hl, hm, hz, _, hcell, hwz⟩
  · exact ⟨none, 0, [], rfl, Row.nil _ _ _, by simp⟩
  · have hzl : zs.length = c := by simpa using hz
    have hlen : (zs.take l).length = l := by rw [List.length_take]; omega
    refine ⟨some x, c, zs.take l, by rw [hlen], ?_, fun b hb => bounds_u8 (hwz b (List.mem_of_mem_take hb))⟩
    rw [hlen]
    exact Row.of_ints hl hm hzl hcell

theorem open_prog {r : Reach} {b0 : Nat} {v : Value} {d : DataW H} {ps : List MemPlace} (hval : Value.okWide Try.prog w r b0 25 v) (hd : DataW.Trod enc Try.prog w base (fun _ => true) held 25 v d ps) :
    ∃ (A : Option Addr) (c : Nat) (A' : Option Addr) (c' : Nat) (p : Prog), p.Fits ∧ v = .agg #[.slice A p.code.length c, .int .i64 p.size, .slice A' p.data.length c'] ∧ ProgV w w.heap.size (.slice A p.code.length c) (.slice A' p.data.length c') p := by
  obtain ⟨cs, rfl, _⟩ := okWide_struct Try.underlying25 hval
  obtain ⟨fuel, hf⟩ := hd
  obtain ⟨xs, n, _, _, hlen, hxl, hg⟩ := DataW.trod_struct Try.underlying25 hf
  have hC : Try.prog.cellsOf 25 = 3 := by kernel_rfl
  have k0 : Try.prog.cellsOf 22 = 1 := by kernel_rfl
  have k1 : Try.prog.cellsOf 3 = 1 := by kernel_rfl
  have k2 : Try.prog.cellsOf 23 = 1 := by kernel_rfl
  rw [hC] at hlen
  have hxl' : xs.length = 3 := hxl
  obtain ⟨l⟩ := cs
  have hl : (Value.agg ⟨l⟩).cells.toList = l := by simp [Value.cells]
  rw [hl] at hlen hg
  match l, hlen with
  | [c0, c1, c2], _ =>
    have g0 : DataW.trod enc Try.prog w base (fun _ => true) held n 22 [c0] = some xs[0] := by
      have := hg 0 _ rfl
      rw [List.getElem?_eq_getElem (by omega)] at this
      simpa [k0] using this
    have g1 : DataW.trod enc Try.prog w base (fun _ => true) held n 3 [c1] = some xs[1] := by
      have := hg 1 _ rfl
      rw [List.getElem?_eq_getElem (by omega)] at this
      simpa [k1] using this
    have g2 : DataW.trod enc Try.prog w base (fun _ => true) held n 23 [c2] = some xs[2] := by
      have := hg 2 _ rfl
      rw [List.getElem?_eq_getElem (by omega)] at this
      simpa [k2] using this
    obtain ⟨A, c, code, e0, h0, f0⟩ := open_code Try.underlying22 g0
    obtain ⟨sz, e1, _, f1⟩ := DataW.trod_int Try.underlying3 g1
    obtain ⟨A', c', data, e2, h2, f2⟩ := open_bytes Try.underlying23 g2
    simp only [List.cons.injEq, and_true] at e0 e1 e2
    subst e0 e1 e2
    exact ⟨A, c, A', c', ⟨code, sz, data⟩, ⟨f0, bounds_i64 f1, f2⟩, rfl, ⟨h0, h2⟩⟩
end
end Go.Proofs.Ytbibfpopkcekdaa.Words

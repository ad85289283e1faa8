/- An argument that is a program (a struct of a slice of instructions, an int and a slice of bytes, by value): its plain data. -/
import Derived.Test.YtcaibahniheohaaDoorBSOpenIns
import Derived.Deep.Slices
namespace Go.Proofs.YtcaibahniheohaaDoor.Words
set_option maxRecDepth 100000
open Go.ChangeShapes Go.WideShapes Go.ChangeAt Go.RowKit
instance : Inhabited Ins := ⟨⟨0, 0, 0, 0, 0⟩⟩
section
variable {H : Type} {enc : TypeId × Value → H} {w : World} {base : Nat} {spare : Nat → Bool} {held : Bool}
theorem range_map_get {α : Type} (f : Nat → α) (n k : Nat) (h : k < n) : ((List.range n).map f)[k]? = some (f k) := by
  rw [List.getElem?_map, List.getElem?_range h]; rfl
theorem open_code {t : TypeId} (ht : Tryd.prog.underlying t = some (.slice 38)) {fuel : Nat} {cs : List Value} {x : DataW H × List MemPlace} (h : DataW.trod enc Tryd.prog w base spare held fuel t cs = some x) :
    ∃ (A : Option Addr) (c : Nat) (l : List Ins), cs = [.slice A l.length c] ∧ Row w w.heap.size 5 (.slice A l.length c) l.length (codeCells l) ∧ ∀ i ∈ l, i.Fits := by
  have hC : Tryd.prog.cellsOf 38 = 5 := by kernel_rfl
  rcases Deep.open_slice ht h with ⟨rfl, _⟩ | ⟨a, len, cap, m, n, D, Pl, rfl, hb, hl, hm, hmm, _, hx⟩
  · exact ⟨none, 0, [], rfl, Row.nil _ _ _, by simp⟩
  rw [hC] at hx
  have hlm : len ≤ m := by rw [hmm]; split <;> omega
  obtain ⟨f, hf⟩ := Deep.choose_lt (α := Ins) (n := len) (p := fun i v => v.Fits ∧ w.cells? base (a.add (i * 5)) 5 = some (insCells v)) (fun i hi => by
    obtain ⟨cs', h1, h2⟩ := hx i (by omega)
    obtain ⟨v, hv, rfl⟩ := ins_cells h2
    exact ⟨v, hv, h1⟩)
  have hlen : ((List.range len).map f).length = len := by simp
  refine ⟨some a, cap, (List.range len).map f, by rw [hlen], ?_, ?_⟩
  · rw [hlen]
    refine ⟨by rw [codeCells_length, hlen], some a, cap, rfl, hl, by simpa [maxLen] using hm, (fun h => by cases h), fun hn => ?_⟩
    have hcell : ∀ k j u, k < len → j < 5 → (insCells (f k))[j]? = some u → w.cell? (a.add (k * 5 + j)) = some u := by
      intro k j u hk hj hu
      have h1 := (hf k hk).2
      obtain ⟨_, h2, h3⟩ := World.cells?_some h1
      have := h3 j hj
      rwa [Deep.add_add, hu] at this
    have h00 := hcell 0 0 (.int .i64 (f 0).op) (by omega) (by omega) rfl
    obtain ⟨b, off, spot⟩ := a
    have hs : spot = none := by simpa [Addr.add] using World.cell?_spot h00
    subst hs
    refine ⟨b, off, rfl, ?_, fun j u hu => ?_⟩
    · rw [add_spot] at h00
      unfold World.cell? at h00
      rcases hh : w.heap[b]? with _ | o
      · simp [hh] at h00
      · exact (Array.getElem?_eq_some_iff.1 hh).1
    · have hj : j < len * 5 := by
        rw [List.getElem?_eq_some_iff] at hu
        obtain ⟨h, _⟩ := hu
        rw [codeCells_length, hlen] at h; exact h
      have hk : j / 5 < len := by omega
      have hr : j % 5 < 5 := by omega
      have e : j / 5 * 5 + j % 5 = j := by omega
      have h5 := codeCells_at ((List.range len).map f) (j / 5) (f (j / 5)) (range_map_get f len _ hk) (j % 5) hr
      rw [e, hu] at h5
      have := hcell (j / 5) (j % 5) u hk hr h5.symm
      rwa [e, add_spot] at this
  · intro i hi
    obtain ⟨k, hk, rfl⟩ := List.mem_map.1 hi
    exact (hf k (List.mem_range.1 hk)).1
theorem open_bytes {t : TypeId} (ht : Tryd.prog.underlying t = some (.slice 5)) {fuel : Nat} {cs : List Value} {x : DataW H × List MemPlace} (h : DataW.trod enc Tryd.prog w base (fun _ => true) held fuel t cs = some x) :
    ∃ (A : Option Addr) (c : Nat) (l : List Int), cs = [.slice A l.length c] ∧ Row w w.heap.size 1 (.slice A l.length c) l.length (l.map (Value.int .u8)) ∧ ∀ b ∈ l, 0 ≤ b ∧ b ≤ 255 := by
  rcases open_ints ht Tryd.underlying5 (by kernel_rfl) h with ⟨rfl, _⟩ | ⟨x, l, c, zs, rfl, _, hl, hm, hz, _, hcell, hwz⟩
  · exact ⟨none, 0, [], rfl, Row.nil _ _ _, by simp⟩
  · have hzl : zs.length = c := by simpa using hz
    have hlen : (zs.take l).length = l := by rw [List.length_take]; omega
    refine ⟨some x, c, zs.take l, by rw [hlen], ?_, fun b hb => bounds_u8 (hwz b (List.mem_of_mem_take hb))⟩
    rw [hlen]
    exact Row.of_ints hl hm hzl hcell
theorem open_prog {r : Reach} {b0 : Nat} {v : Value} {d : DataW H} {ps : List MemPlace} (hval : Value.okWide Tryd.prog w r b0 26 v) (hd : DataW.Trod enc Tryd.prog w base (fun _ => true) held 26 v d ps) :
    ∃ (A : Option Addr) (c : Nat) (A' : Option Addr) (c' : Nat) (p : Prog), p.Fits ∧ v = .agg #[.slice A p.code.length c, .int .i64 p.size, .slice A' p.data.length c'] ∧ ProgV w w.heap.size (.slice A p.code.length c) (.slice A' p.data.length c') p := by
  obtain ⟨cs, rfl, _⟩ := okWide_struct Tryd.underlying26 hval
  obtain ⟨fuel, hf⟩ := hd
  obtain ⟨xs, n, _, _, hlen, hxl, hg⟩ := DataW.trod_struct Tryd.underlying26 hf
  have hC : Tryd.prog.cellsOf 26 = 3 := by kernel_rfl
  have k0 : Tryd.prog.cellsOf 23 = 1 := by kernel_rfl
  have k1 : Tryd.prog.cellsOf 3 = 1 := by kernel_rfl
  have k2 : Tryd.prog.cellsOf 24 = 1 := by kernel_rfl
  rw [hC] at hlen
  have hxl' : xs.length = 3 := hxl
  obtain ⟨l⟩ := cs
  have hl : (Value.agg ⟨l⟩).cells.toList = l := by simp [Value.cells]
  rw [hl] at hlen hg
  match l, hlen with
  | [c0, c1, c2], _ =>
    have g0 : DataW.trod enc Tryd.prog w base (fun _ => true) held n 23 [c0] = some xs[0] := by
      have := hg 0 _ rfl
      rw [List.getElem?_eq_getElem (by omega)] at this
      simpa [k0] using this
    have g1 : DataW.trod enc Tryd.prog w base (fun _ => true) held n 3 [c1] = some xs[1] := by
      have := hg 1 _ rfl
      rw [List.getElem?_eq_getElem (by omega)] at this
      simpa [k1] using this
    have g2 : DataW.trod enc Tryd.prog w base (fun _ => true) held n 24 [c2] = some xs[2] := by
      have := hg 2 _ rfl
      rw [List.getElem?_eq_getElem (by omega)] at this
      simpa [k2] using this
    obtain ⟨A, c, code, e0, h0, f0⟩ := open_code Tryd.underlying23 g0
    obtain ⟨sz, e1, _, f1⟩ := DataW.trod_int Tryd.underlying3 g1
    obtain ⟨A', c', data, e2, h2, f2⟩ := open_bytes Tryd.underlying24 g2
    simp only [List.cons.injEq, and_true] at e0 e1 e2
    subst e0 e1 e2
    exact ⟨A, c, A', c', ⟨code, sz, data⟩, ⟨f0, bounds_i64 f1, f2⟩, rfl, ⟨h0, h2⟩⟩
end
end Go.Proofs.YtcaibahniheohaaDoor.Words

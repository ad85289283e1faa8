/- An argument that is a split, or a block, with the form's own reach: its plain data, and how long its slices may be. -/
import Derived.Test.YteagglddgkjkmaaGreatG16
import Derived.SizedLaws
namespace Go.Proofs.YteagglddgkjkmaaGreat.Words
set_option maxRecDepth 100000
open Go.ChangeShapes Go.WideShapes Go.ChangeAt Go.RowKit
set_option linter.unusedVariables false
set_option linter.unusedSimpArgs false

section
variable {H : Type} {enc : TypeId × Value → H} {w : World} {base : Nat} {spare : Nat → Bool} {held : Bool}

/-- All that is weighed in a datum is within the reach. -/
def LightW (t : TypeId) (d : DataW H) : Prop := ∀ n ∈ d.weights Tryz.prog t, n ≤ reachBytes
theorem weights_all {P : Program} {e : TypeId} {d : DataW H} {l : List (DataW H)} (h : d ∈ l) {n : Nat} (hn : n ∈ d.weights P e) : n ∈ DataW.weightsAll P e l := by
  induction l with
  | nil => cases h
  | cons x l ih =>
    unfold DataW.weightsAll
    rcases List.mem_cons.1 h with rfl | h
    · exact List.mem_append_left _ hn
    · exact List.mem_append_right _ (ih h)
/-- A slice of records: each reads as its cells say; and its bytes. -/
theorem open_flatZ {α : Type} [Inhabited α] {e t : TypeId} {s : Nat} (hs : 0 < s) (f : α → List Value) (hf : ∀ x, (f x).length = s) (Q : α → Prop) (hC : Tryz.prog.cellsOf e = s)
    (hel : ∀ (fuel : Nat) (cs : List Value) (x : DataW H × List MemPlace), DataW.trod enc Tryz.prog w base spare held fuel e cs = some x → LightW e x.1 → ∃ v, Q v ∧ cs = f v)
    (ht : Tryz.prog.underlying t = some (.slice e)) {fuel : Nat} {cs : List Value} {x : DataW H × List MemPlace} (h : DataW.trod enc Tryz.prog w base spare held fuel t cs = some x) (hl8 : LightW t x.1) :
    ∃ (A : Option Addr) (c : Nat) (l : List α), cs = [.slice A l.length c] ∧ Row w w.heap.size s (.slice A l.length c) l.length (flat f l) ∧ (∀ v ∈ l, Q v) ∧ l.length * Tryz.prog.bytesOf e ≤ reachBytes := by
  rcases Deep.open_slice ht h with ⟨rfl, _⟩ | ⟨a, len, cap, m, n, D, Pl, rfl, hb, hl, hm, hmm, hxx, hx⟩
  · exact ⟨none, 0, [], rfl, Row.nil _ _ _, by simp, by simp⟩
  rw [hC] at hx
  have hlm : len ≤ m := by rw [hmm]; split <;> omega
  have hw : ∀ n ∈ (DataW.slice ((List.range len).map D) ((List.range (m - len)).map fun j => D (len + j))).weights Tryz.prog t, n ≤ reachBytes := by
    have := hl8
    unfold LightW at this
    rw [hxx] at this
    exact this
  have hlenB : len * Tryz.prog.bytesOf e ≤ reachBytes := by
    have := hw ((((List.range len).map D).length + ((List.range (m - len)).map fun j => D (len + j)).length) * Tryz.prog.bytesOf e) (by simp [DataW.weights, ht])
    refine Nat.le_trans (Nat.mul_le_mul_right _ ?_) this
    simp
  have hD : ∀ i, i < len → LightW e (D i) := by
    intro i hi n hn
    refine hw n ?_
    unfold DataW.weights
    rw [ht]
    refine List.mem_cons_of_mem _ (List.mem_append_left _ (weights_all (d := D i) ?_ hn))
    exact List.mem_map.2 ⟨i, List.mem_range.2 hi, rfl⟩
  obtain ⟨g, hg⟩ := Deep.choose_lt (α := α) (n := len) (p := fun i v => Q v ∧ w.cells? base (a.add (i * s)) s = some (f v)) (fun i hi => by
    obtain ⟨cs', h1, h2⟩ := hx i (by omega)
    obtain ⟨v, hv, rfl⟩ := hel _ _ _ h2 (hD i hi)
    exact ⟨v, hv, h1⟩)
  have hlen : ((List.range len).map g).length = len := by simp
  have hget : ∀ k, k < len → ((List.range len).map g)[k]? = some (g k) := fun k hk => by rw [List.getElem?_map, List.getElem?_range hk]; rfl
  refine ⟨some a, cap, (List.range len).map g, by rw [hlen], ?_, ?_, by rw [hlen]; exact hlenB⟩
  · rw [hlen]
    refine ⟨by rw [flat_len hf, hlen], some a, cap, rfl, hl, by simpa [maxLen] using hm, (fun h => by cases h), fun hn => ?_⟩
    have hcell : ∀ k j u, k < len → j < s → (f (g k))[j]? = some u → w.cell? (a.add (k * s + j)) = some u := by
      intro k j u hk hj hu
      have h1 := (hg k hk).2
      obtain ⟨_, h2, h3⟩ := World.cells?_some h1
      have := h3 j hj
      rwa [Deep.add_add, hu] at this
    obtain ⟨u0, hu0⟩ : ∃ u0, (f (g 0))[0]? = some u0 := ⟨_, List.getElem?_eq_getElem (by rw [hf]; exact hs)⟩
    have h00 := hcell 0 0 u0 (by omega) hs hu0
    obtain ⟨b, off, spot⟩ := a
    have hsp : spot = none := by simpa [Addr.add] using World.cell?_spot h00
    subst hsp
    refine ⟨b, off, rfl, ?_, fun j u hu => ?_⟩
    · rw [add_spot] at h00
      unfold World.cell? at h00
      rcases hh : w.heap[b]? with _ | o
      · simp [hh] at h00
      · exact (Array.getElem?_eq_some_iff.1 hh).1
    · have hj : j < len * s := by
        rw [List.getElem?_eq_some_iff] at hu
        obtain ⟨h, _⟩ := hu
        rw [flat_len hf, hlen] at h; exact h
      have hk : j / s < len := Nat.div_lt_of_lt_mul (by rw [Nat.mul_comm]; exact hj)
      have hr : j % s < s := Nat.mod_lt _ hs
      have e : j / s * s + j % s = j := by rw [Nat.mul_comm]; exact Nat.div_add_mod _ _
      have h5 := flat_at hf ((List.range len).map g) (j / s) (g (j / s)) (hget _ hk) (j % s) hr
      rw [e, hu] at h5
      have := hcell (j / s) (j % s) u hk hr h5.symm
      rwa [e, add_spot] at this
  · intro i hi
    obtain ⟨k, hk, rfl⟩ := List.mem_map.1 hi
    exact (hg k (List.mem_range.1 hk)).1
theorem cell_bytes : Tryz.prog.bytesOf 49 = 72 := by kernel_rfl
theorem reach_cells {n : Nat} (h : n * Tryz.prog.bytesOf 49 ≤ reachBytes) : n ≤ 2000000000000 := by
  rw [cell_bytes] at h
  unfold reachBytes at h
  omega
theorem open_celsZ {t : TypeId} (ht : Tryz.prog.underlying t = some (.slice 49)) {fuel : Nat} {cs : List Value} {x : DataW H × List MemPlace} (h : DataW.trod enc Tryz.prog w base spare held fuel t cs = some x) (hl8 : LightW t x.1) :
    ∃ (A : Option Addr) (c : Nat) (l : List Cel), cs = [.slice A l.length c] ∧ Row w w.heap.size 9 (.slice A l.length c) l.length (flat celCells l) ∧ (∀ v ∈ l, v.Fits) ∧ l.length ≤ 2000000000000 := by
  obtain ⟨A, c, l, h1, h2, h3, h4⟩ := open_flatZ (by omega) celCells celCells_len Cel.Fits (by kernel_rfl) (fun _ _ _ h _ => celS_cells h) ht h hl8
  exact ⟨A, c, l, h1, h2, h3, reach_cells h4⟩
/-- No side is longer than the reach lets it be. -/
def BlkC.Short (c : BlkC) : Prop := c.a.length ≤ 2000000000000 ∧ c.e.length ≤ 2000000000000
theorem agg_light {t ty : TypeId} {fs : Array Field} {parts : List (DataW H)} {d : DataW H} {j : Nat} (hu : Tryz.prog.underlying t = some (.struct fs)) (h : LightW t (.agg parts)) (ht : (fs.toList.map (·.type))[j]? = some ty) (hd : parts[j]? = some d) : LightW ty d := by
  intro n hn
  refine h n ?_
  unfold DataW.weights
  rw [hu]
  exact DataW.weights_mem_each ht hd n hn
theorem blkS_cellsZ {fuel : Nat} {cs : List Value} {x : DataW H × List MemPlace} (h : DataW.trod enc Tryz.prog w base spare held fuel 24 cs = some x) (hl8 : LightW 24 x.1) :
    ∃ r : BlkR, (∃ c : BlkC, (c.Fits ∧ c.Short) ∧ BlkV w w.heap.size r c) ∧ cs = blkRL r := by
  obtain ⟨xs, n, _, hxe, hlen, hxl, hg⟩ := DataW.trod_struct Tryz.underlying24 h
  have hC : Tryz.prog.cellsOf 24 = 6 := by kernel_rfl
  have hc1 : Tryz.prog.cellsOf 3 = 1 := by kernel_rfl
  have hc2 : Tryz.prog.cellsOf 22 = 1 := by kernel_rfl
  rw [hC] at hlen
  have hxl' : xs.length = 6 := hxl
  have w4 : LightW 22 (xs[4]'(by omega)).1 := agg_light (j := 4) Tryz.underlying24 (by rw [hxe] at hl8; exact hl8) rfl (by rw [List.getElem?_map, List.getElem?_eq_getElem (by omega)]; rfl)
  have w5 : LightW 22 (xs[5]'(by omega)).1 := agg_light (j := 5) Tryz.underlying24 (by rw [hxe] at hl8; exact hl8) rfl (by rw [List.getElem?_map, List.getElem?_eq_getElem (by omega)]; rfl)
  obtain ⟨c0, c1, c2, c3, c4, c5, rfl⟩ : ∃ c0 c1 c2 c3 c4 c5, cs = [c0, c1, c2, c3, c4, c5] := by
    match cs, hlen with
    | [c0, c1, c2, c3, c4, c5], _ => exact ⟨_, _, _, _, _, _, rfl⟩
  have g : ∀ (j : Nat) (t : TypeId), (hj : j < 6) → Tryz.prog.cellsOf t = 1 → DataW.trod enc Tryz.prog w base spare held n t (([c0, c1, c2, c3, c4, c5].drop j).take (Tryz.prog.cellsOf t)) = xs[j]? → DataW.trod enc Tryz.prog w base spare held n t (([c0, c1, c2, c3, c4, c5].drop j).take 1) = some (xs[j]'(by omega)) := by
    intro j t hj h1 h2
    rw [h1] at h2
    rw [h2, List.getElem?_eq_getElem (by omega)]
  have g0 : DataW.trod enc Tryz.prog w base spare held n 3 [c0] = some xs[0] := by
    have e := hg 0 _ rfl
    rw [List.getElem?_eq_getElem (by omega)] at e
    rw [← e]
    simp [hc1]
  have g1 : DataW.trod enc Tryz.prog w base spare held n 3 [c1] = some xs[1] := by
    have e := hg 1 _ rfl
    rw [List.getElem?_eq_getElem (by omega)] at e
    rw [← e]
    simp [hc1]
  have g2 : DataW.trod enc Tryz.prog w base spare held n 3 [c2] = some xs[2] := by
    have e := hg 2 _ rfl
    rw [List.getElem?_eq_getElem (by omega)] at e
    rw [← e]
    simp [hc1]
  have g3 : DataW.trod enc Tryz.prog w base spare held n 3 [c3] = some xs[3] := by
    have e := hg 3 _ rfl
    rw [List.getElem?_eq_getElem (by omega)] at e
    rw [← e]
    simp [hc1]
  have g4 : DataW.trod enc Tryz.prog w base spare held n 22 [c4] = some xs[4] := by
    have e := hg 4 _ rfl
    rw [List.getElem?_eq_getElem (by omega)] at e
    rw [← e]
    simp [hc1, hc2]
  have g5 : DataW.trod enc Tryz.prog w base spare held n 22 [c5] = some xs[5] := by
    have e := hg 5 _ rfl
    rw [List.getElem?_eq_getElem (by omega)] at e
    rw [← e]
    simp [hc1, hc2]
  obtain ⟨n0, e0, _, f0⟩ := DataW.trod_int Tryz.underlying3 g0
  obtain ⟨n1, e1, _, f1⟩ := DataW.trod_int Tryz.underlying3 g1
  obtain ⟨n2, e2, _, f2⟩ := DataW.trod_int Tryz.underlying3 g2
  obtain ⟨n3, e3, _, f3⟩ := DataW.trod_int Tryz.underlying3 g3
  obtain ⟨A4, k4, l4, e4, h4, f4, b4⟩ := open_celsZ Tryz.underlying22 g4 w4
  obtain ⟨A5, k5, l5, e5, h5, f5, b5⟩ := open_celsZ Tryz.underlying22 g5 w5
  simp only [List.cons.injEq, and_true] at e0 e1 e2 e3 e4 e5
  subst e0 e1 e2 e3 e4 e5
  exact ⟨⟨n0, n1, n2, n3, .slice A4 l4.length k4, .slice A5 l5.length k5⟩, ⟨⟨n0, n1, n2, n3, l4, l5⟩, ⟨⟨bounds_i64 f0, bounds_i64 f1, bounds_i64 f2, bounds_i64 f3, f4, f5⟩, ⟨b4, b5⟩⟩, ⟨rfl, rfl, rfl, rfl, h4, h5⟩⟩, rfl⟩
theorem blks_chooseZ {w : World} {B : Nat} : ∀ rs : List BlkR, (∀ r ∈ rs, ∃ c : BlkC, (c.Fits ∧ c.Short) ∧ BlkV w B r c) → ∃ l : List BlkC, rs.length = l.length ∧ (∀ c ∈ l, c.Fits ∧ c.Short) ∧ ∀ (k : Nat) (r : BlkR) (c : BlkC), rs[k]? = some r → l[k]? = some c → BlkV w B r c := by
  intro rs
  induction rs with
  | nil => intro _; exact ⟨[], rfl, by simp, fun k r c h => by simp at h⟩
  | cons r rs ih =>
    intro h
    obtain ⟨c, hc1, hc2⟩ := h r (by simp)
    obtain ⟨l, h1, h2, h3⟩ := ih (fun r hr => h r (by simp [hr]))
    refine ⟨c :: l, by simp [h1], ?_, ?_⟩
    · intro x hx
      rcases List.mem_cons.1 hx with rfl | hx
      · exact hc1
      · exact h2 x hx
    · intro k r' c' hr hc
      cases k with
      | zero => simp at hr hc; subst hr hc; exact hc2
      | succ k => simp at hr hc; exact h3 k r' c' hr hc
theorem open_splZ {r : Reach} {b0 : Nat} {v : Value} {d : DataW H} {ps : List MemPlace} (hval : Value.okWide Tryz.prog w r b0 32 v) (hd : DataW.Trod enc Tryz.prog w base spare held 32 v d ps) (hl8 : LightW 32 d) :
    ∃ (u : Value) (l : List BlkC) (o : List Int), o.length = 16 ∧ v = .agg (splV u o).toArray ∧ BlksV w w.heap.size u l ∧ ∀ c ∈ l, c.Fits ∧ c.Short := by
  obtain ⟨cs, rfl, _⟩ := okWide_struct Tryz.underlying32 hval
  obtain ⟨fuel, hf⟩ := hd
  obtain ⟨xs, n, _, hxe, hlen, hxl, hg⟩ := DataW.trod_struct Tryz.underlying32 hf
  have hC : Tryz.prog.cellsOf 32 = 17 := by kernel_rfl
  have k0 : Tryz.prog.cellsOf 29 = 1 := by kernel_rfl
  have k1 : Tryz.prog.cellsOf 30 = 16 := by kernel_rfl
  rw [hC] at hlen
  have hxl' : xs.length = 2 := hxl
  have w0 : LightW 29 (xs[0]'(by omega)).1 := agg_light (j := 0) Tryz.underlying32 (by have h9 := (Prod.mk.injEq ..).mp hxe; rw [h9.1] at hl8; exact hl8) rfl (by rw [List.getElem?_map, List.getElem?_eq_getElem (by omega)]; rfl)
  obtain ⟨l⟩ := cs
  have hl : (Value.agg ⟨l⟩).cells.toList = l := by simp [Value.cells]
  rw [hl] at hlen hg
  obtain ⟨c0, t, rfl⟩ : ∃ c0 t, l = c0 :: t := by
    cases l with
    | nil => simp at hlen
    | cons a t => exact ⟨a, t, rfl⟩
  have ht : t.length = 16 := by simpa using hlen
  have g0 : DataW.trod enc Tryz.prog w base spare held n 29 [c0] = some xs[0] := by
    have := hg 0 _ rfl
    rw [List.getElem?_eq_getElem (by omega)] at this
    simpa [k0] using this
  have g1 : DataW.trod enc Tryz.prog w base spare held n 30 t = some xs[1] := by
    have := hg 1 _ rfl
    rw [List.getElem?_eq_getElem (by omega)] at this
    rw [← this]
    simp [k0, k1, List.take_of_length_le (Nat.le_of_eq ht)]
  obtain ⟨A, c, rs, e0, h0, f0, _⟩ := open_flatZ (s := 6) (by omega) blkRL blkRL_len (fun r => ∃ c : BlkC, (c.Fits ∧ c.Short) ∧ BlkV w w.heap.size r c) (by kernel_rfl) (fun _ _ _ h h8 => blkS_cellsZ h h8) Tryz.underlying29 g0 w0
  obtain ⟨o, ho, e1⟩ := onr_cells g1
  obtain ⟨bl, b1, b2, b3⟩ := blks_chooseZ rs f0
  simp only [List.cons.injEq, and_true] at e0
  subst e0 e1
  refine ⟨.slice A rs.length c, bl, o, ho, rfl, ⟨rs, ?_, b1, b3⟩, b2⟩
  rw [← b1]; exact h0
theorem open_blkZ {r : Reach} {b0 : Nat} {v : Value} {d : DataW H} {ps : List MemPlace} (hval : Value.okWide Tryz.prog w r b0 24 v) (hd : DataW.Trod enc Tryz.prog w base spare held 24 v d ps) (hl8 : LightW 24 d) :
    ∃ (rr : BlkR) (c : BlkC), v = .agg (blkRL rr).toArray ∧ BlkV w w.heap.size rr c ∧ c.Fits ∧ c.Short := by
  obtain ⟨cs, rfl, _⟩ := okWide_struct Tryz.underlying24 hval
  obtain ⟨fuel, hf⟩ := hd
  obtain ⟨rr, ⟨c, ⟨h1, h2⟩, h3⟩, e⟩ := blkS_cellsZ hf hl8
  obtain ⟨l⟩ := cs
  have hl : (Value.agg ⟨l⟩).cells.toList = l := by simp [Value.cells]
  rw [hl] at e
  subst e
  exact ⟨rr, c, rfl, h3, h1, h2⟩
end
end Go.Proofs.YteagglddgkjkmaaGreat.Words

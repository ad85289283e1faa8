/- Several texts in one: CertHMath, ImageHelp, OpenIns, OpenProg. -/
import Derived.Test.YteagglddgkjkmaaG15
import Derived.Test.YteagglddgkjkmaaG13
import Derived.Test.YteagglddgkjkmaaRows
import Derived.Test.YteagglddgkjkmaaG02
import Derived.Test.YteagglddgkjkmaaG00
import Derived.ProofKit
import Derived.OpenShut
import Derived.ChangeOld
import Derived.Deep.Slices

/- Plain mathematics of chapter 14 for the splits of programs: each block is balanced, its kinds are kinds, its Offs small numbers. -/
namespace Go.Proofs.Yteagglddgkjkmaa.Words
set_option maxRecDepth 100000
open Go.RowKit
set_option linter.unusedVariables false
set_option linter.unusedSimpArgs false

theorem only_kinds {ks : List Int} (hk : ∀ k ∈ ks, 1 ≤ k ∧ k ≤ 12) : ∀ {l : List Cel}, onlyZ ks l = true → ∀ c ∈ l, 1 ≤ c.kind ∧ c.kind ≤ 12
  | [], _, c, hc => by cases hc
  | d :: l, h, c, hc => by
    rw [onlyZ] at h
    by_cases hd : ctlB d.kind = true
    · rw [if_pos hd] at h
      have hl : l = [] := by simpa using h
      subst hl
      rw [List.mem_singleton] at hc
      subst hc
      unfold ctlB at hd
      simp only [Bool.and_eq_true, decide_eq_true_eq] at hd
      omega
    · rw [if_neg hd, Bool.and_eq_true] at h
      rcases List.mem_cons.1 hc with rfl | hc
      · exact hk _ (by simpa using h.1)
      · exact only_kinds hk h.2 c hc
theorem bal_kinds {a e : List Cel} (h : balZ a e = true) : (∀ c ∈ a, 1 ≤ c.kind ∧ c.kind ≤ 12) ∧ ∀ c ∈ e, 1 ≤ c.kind ∧ c.kind ≤ 12 := by
  unfold balZ at h
  simp only [Bool.and_eq_true] at h
  refine ⟨only_kinds (fun k hk => ?_) h.1.1.1.1.1, only_kinds (fun k hk => ?_) h.1.1.1.1.2⟩
  · simp only [kindsA, List.mem_cons, List.not_mem_nil, or_false] at hk; omega
  · simp only [kindsE, List.mem_cons, List.not_mem_nil, or_false] at hk; omega
structure BlkGood (x : BlkC) : Prop where
  bal : balZ x.a x.e = true
  la : x.a.length ≤ 6000
  le : x.e.length ≤ 6000
  oa : ∀ c ∈ x.a, offOk c.off
  oe : ∀ c ∈ x.e, offOk c.off
theorem cut_at {l : List Ins} {sz : Int} {m k : Nat} {b : Blk} (h : (cutR l sz m)[k]? = some b) : rightZ l sz m = true ∧ k < (leadsZ l).length ∧ b = blkZ l (leadsZ l) k := by
  unfold cutR at h
  split at h
  · rename_i hr
    unfold cutZ cutTo at h
    rw [List.getElem?_map] at h
    rcases Nat.lt_or_ge k (leadsZ l).length with hk | hk
    · rw [List.getElem?_range hk] at h
      injection h with h
      exact ⟨hr, hk, h.symm⟩
    · rw [List.getElem?_eq_none (by simpa using hk)] at h; cases h
  · cases h
theorem with_good {l : List Ins} {sz : Int} {m : Nat} {o : List Int} : ∀ x ∈ withZ l sz m o, BlkGood x := by
  intro x hx
  unfold withZ at hx
  split at hx
  · obtain ⟨b, hb, rfl⟩ := List.mem_map.1 hx
    obtain ⟨k, hk, rfl⟩ := List.mem_iff_getElem.1 hb
    have hb' : (cutR l sz m)[k]? = some (cutR l sz m)[k] := List.getElem?_eq_getElem hk
    obtain ⟨hr, hk', e⟩ := cut_at hb'
    obtain ⟨f, t, h1, h2, h3, h4⟩ := blk_ends hb'
    have hl := (rightZ_insO hr).1
    have hi := (rightZ_insO hr).2
    have hlen : ((cutR l sz m)[k].to - (cutR l sz m)[k].from_).toNat ≤ 2000 := by rw [h1, h2]; omega
    refine ⟨by rw [e]; exact blk_bal _ hi hk', ?_, ?_, ?_, ?_⟩
    · exact Nat.le_trans (fillA_len _ _ _ _) (by omega)
    · exact Nat.le_trans (fillE_len _ _ _ _) (by omega)
    · intro c hc
      obtain ⟨j, hj, _, ho⟩ := fillA_pc _ _ _ _ c hc
      unfold offOk; rw [ho]; omega
    · intro c hc
      obtain ⟨j, hj, _, ho⟩ := fillE_pc _ _ _ _ c hc
      unfold offOk; rw [ho]; omega
  · cases hx
theorem with_most (l : List Ins) (sz : Int) (m : Nat) (o : List Int) : mostS (withZ l sz m o) ≤ 3 := by
  unfold withZ
  split
  · exact fill_most _ _ _
  · exact Nat.zero_le _
theorem with_right {l : List Ins} {sz : Int} {m : Nat} {o : List Int} (h : closedZ l sz m o = true) : rightS l sz m (withZ l sz m o) o = true := by unfold rightS; rw [h]; simp
/-- The counts added up, as far as k. -/
def sumK (a e : List Int) : Nat → Int
  | 0 => 0
  | k + 1 => sumK a e k + a.getD k 0 + e.getD k 0
theorem cnt_getD (l : List Cel) {k : Nat} (h : k < 12) : (countsZ l).getD k 0 = (kindN l k : Int) := by rw [List.getD_eq_getElem?_getD, countsZ_at l h]; rfl
theorem kindN_len (l : List Cel) (k : Nat) : kindN l k ≤ l.length := List.countP_le_length
theorem sumK_bound (a e : List Cel) (ha : a.length ≤ 6000) (he : e.length ≤ 6000) : ∀ k : Nat, k ≤ 12 → 0 ≤ sumK (countsZ a) (countsZ e) k ∧ sumK (countsZ a) (countsZ e) k ≤ 12000 * k
  | 0, _ => by unfold sumK; omega
  | k + 1, h => by
    have h1 := sumK_bound a e ha he k (by omega)
    have h2 := kindN_len a k
    have h3 := kindN_len e k
    unfold sumK
    rw [cnt_getD a (by omega), cnt_getD e (by omega)]
    omega
theorem sumK_all {a e : List Cel} (h : balZ a e = true) : sumK (countsZ a) (countsZ e) 12 = (a.length : Int) + (e.length : Int) := by
  obtain ⟨ka, ke⟩ := bal_kinds h
  have h1 := sum_all ka
  have h2 := sum_all ke
  unfold sumN at h1 h2
  simp only [sumK]
  rw [cnt_getD a (by omega), cnt_getD a (by omega), cnt_getD a (by omega), cnt_getD a (by omega), cnt_getD a (by omega), cnt_getD a (by omega), cnt_getD a (by omega), cnt_getD a (by omega), cnt_getD a (by omega), cnt_getD a (by omega), cnt_getD a (by omega), cnt_getD a (by omega),
    cnt_getD e (by omega), cnt_getD e (by omega), cnt_getD e (by omega), cnt_getD e (by omega), cnt_getD e (by omega), cnt_getD e (by omega), cnt_getD e (by omega), cnt_getD e (by omega), cnt_getD e (by omega), cnt_getD e (by omega), cnt_getD e (by omega), cnt_getD e (by omega)]
  omega
theorem joins_same {a e : List Cel} (h : balZ a e = true) : kindN a 4 = kindN e 5 ∧ kindN a 2 = kindN e 6 ∧ kindN a 3 = kindN e 7 := by
  obtain ⟨h1, h2, h3, _⟩ := bal_lens h
  rw [kindN_some, kindN_some, kindN_some, kindN_some, kindN_some, kindN_some]
  exact ⟨h1, h2, h3⟩
end Go.Proofs.Yteagglddgkjkmaa.Words

/- Contracts of the laws' own helpers of chapter 4 that call nothing of the program: num, Few. -/
namespace Go.Proofs.Yteagglddgkjkmaa.Words
set_option maxRecDepth 100000
open Go.RowKit
set_option linter.unusedVariables false

/-- Is a program short enough? -/
def fewB (n m : Nat) : Bool := decide (n ≤ 200 ∧ m ≤ 500)
set_option maxHeartbeats 400000 in
theorem few_any (A A' : Option Addr) (n c m c' : Nat) (sz : Int) (w : World) (hn : n ≤ 9223372036854775807) (hm : m ≤ 9223372036854775807) :
    Calls Try.prog 10 #[.agg #[.slice A n c, .int .i64 sz, .slice A' m c']] w fun e w' => e = .returned (.bool (fewB n m)) ∧ Below w.heap.size w w' := by
  by_cases h1 : n ≤ 200
  · by_cases h2 : m ≤ 500
    · have hr : fewB n m = true := decide_eq_true ⟨h1, h2⟩
      rw [hr]
      go_enter Try.func10, Try.ntmps10
      go_wp2_with fail
      go_ret
      exact ⟨by simp <;> omega, (Below.refl _ _).alloc (Nat.le_refl _) _⟩
    · have hr : fewB n m = false := decide_eq_false (fun h => h2 h.2)
      rw [hr]
      go_enter Try.func10, Try.ntmps10
      go_wp2_with fail
      go_ret
      exact ⟨by simp <;> omega, (Below.refl _ _).alloc (Nat.le_refl _) _⟩
  · have hr : fewB n m = false := decide_eq_false (fun h => h1 h.1)
    rw [hr]
    go_enter Try.func10, Try.ntmps10
    go_wp2_with fail
    go_ret
    exact ⟨by simp <;> omega, (Below.refl _ _).alloc (Nat.le_refl _) _⟩
end Go.Proofs.Yteagglddgkjkmaa.Words

/- An argument that is an instruction (a struct of five ints by value): its five numbers. -/
namespace Go.Proofs.Yteagglddgkjkmaa.Words
set_option maxRecDepth 100000
open Go.ChangeShapes Go.WideShapes Go.ChangeAt Go.RowKit

section
variable {H : Type} {enc : TypeId × Value → H} {w : World} {base : Nat} {spare : Nat → Bool} {held : Bool}


theorem ins_cells {fuel : Nat} {cs : List Value} {x : DataW H × List MemPlace} (h : DataW.trod enc Try.prog w base spare held fuel 47 cs = some x) :
    ∃ i : Ins, i.Fits ∧ cs = insCells i := by
  obtain ⟨xs, n, _, _, hlen, hxl, hg⟩ := DataW.trod_struct Try.underlying47 h
  have hC : Try.prog.cellsOf 47 = 5 := by kernel_rfl
  have hc1 : Try.prog.cellsOf 3 = 1 := by kernel_rfl
  rw [hC] at hlen
  have hxl' : xs.length = 5 := hxl
  match cs, hlen with
  | [c0, c1, c2, c3, c4], _ =>
    have g : ∀ (j : Nat) (hj : j < 5), DataW.trod enc Try.prog w base spare held n 3 (([c0, c1, c2, c3, c4].drop j).take 1) = some xs[j] := by
      intro j hj
      rw [← List.getElem?_eq_getElem (by omega), ← hc1]
      match j, hj with
      | 0, _ => exact hg 0 _ rfl
      | 1, _ => exact hg 1 _ rfl
      | 2, _ => exact hg 2 _ rfl
      | 3, _ => exact hg 3 _ rfl
      | 4, _ => exact hg 4 _ rfl
    obtain ⟨n0, e0, _, f0⟩ := DataW.trod_int Try.underlying3 (g 0 (by omega))
    obtain ⟨n1, e1, _, f1⟩ := DataW.trod_int Try.underlying3 (g 1 (by omega))
    obtain ⟨n2, e2, _, f2⟩ := DataW.trod_int Try.underlying3 (g 2 (by omega))
    obtain ⟨n3, e3, _, f3⟩ := DataW.trod_int Try.underlying3 (g 3 (by omega))
    obtain ⟨n4, e4, _, f4⟩ := DataW.trod_int Try.underlying3 (g 4 (by omega))
    simp only [List.drop_zero, List.take_succ_cons, List.take_zero, List.drop_succ_cons, List.cons.injEq, and_true] at e0 e1 e2 e3 e4
    subst e0 e1 e2 e3 e4
    exact ⟨⟨n0, n1, n2, n3, n4⟩, ⟨bounds_i64 f0, bounds_i64 f1, bounds_i64 f2, bounds_i64 f3, bounds_i64 f4⟩, rfl⟩

theorem open_ins {r : Reach} {b0 : Nat} {v : Value} {d : DataW H} {ps : List MemPlace} (hval : Value.okWide Try.prog w r b0 47 v) (hd : DataW.Trod enc Try.prog w base spare held 47 v d ps) :
    ∃ i : Ins, i.Fits ∧ v = .agg #[.int .i64 i.op, .int .i64 i.d, .int .i64 i.a, .int .i64 i.b, .int .i64 i.imm] := by
  obtain ⟨cs, rfl, _⟩ := okWide_struct Try.underlying47 hval
  obtain ⟨fuel, hf⟩ := hd
  obtain ⟨i, hi, hc⟩ := ins_cells hf
  refine ⟨i, hi, ?_⟩
  obtain ⟨l⟩ := cs
  have : l = insCells i := by simpa [Value.cells] using hc
  rw [this]; rfl
end
end Go.Proofs.Yteagglddgkjkmaa.Words

/- An argument that is a program (a struct of a slice of instructions, an int and a slice of bytes, by value): its plain data. -/
namespace Go.Proofs.Yteagglddgkjkmaa.Words
set_option maxRecDepth 100000
open Go.ChangeShapes Go.WideShapes Go.ChangeAt Go.RowKit

instance : Inhabited Ins := ⟨⟨0, 0, 0, 0, 0⟩⟩

section
variable {H : Type} {enc : TypeId × Value → H} {w : World} {base : Nat} {spare : Nat → Bool} {held : Bool}

theorem range_map_get {α : Type} (f : Nat → α) (n k : Nat) (h : k < n) : ((List.range n).map f)[k]? = some (f k) := by
  rw [List.getElem?_map, List.getElem?_range h]; rfl

/-- A slice of instructions. -/
theorem open_code {t : TypeId} (ht : Try.prog.underlying t = some (.slice 47)) {fuel : Nat} {cs : List Value} {x : DataW H × List MemPlace} (h : DataW.trod enc Try.prog w base spare held fuel t cs = some x) :
    ∃ (A : Option Addr) (c : Nat) (l : List Ins), cs = [.slice A l.length c] ∧ Row w w.heap.size 5 (.slice A l.length c) l.length (codeCells l) ∧ ∀ i ∈ l, i.Fits := by
  have hC : Try.prog.cellsOf 47 = 5 := by kernel_rfl
  rcases Deep.open_slice ht h with ⟨rfl, _⟩ | ⟨a, len, cap, m, n, D, Pl, rfl, hb, hl, hm, hmm, _, hx⟩
  · exact ⟨none, 0, [], rfl, Row.nil _ _ _, by simp⟩
  rw [hC] at hx
  have hlm : len ≤ m := by rw [hmm]; split <;> omega
  obtain ⟨f, hf⟩ := Deep.choose_lt (α := Ins) (n := len) (p := fun i v => v.Fits ∧ w.cells? base (a.add (i * 5)) 5 = some (insCells v)) (fun i hi => by
    obtain ⟨cs', h1, h2⟩ := hx i (by omega)
    obtain ⟨v, hv, rfl⟩ := ins_cells h2
    exact ⟨v, hv, h1⟩)
  have hlen : ((List.range len).map f).length = len := by simp
  refine ⟨some a, cap, (List.range len).map f, by rw [hlen], ?_, ?_⟩
  · rw [hlen]
    refine ⟨by rw [codeCells_length, hlen], some a, cap, rfl, hl, by simpa [maxLen] using hm, (fun h => by cases h), fun hn => ?_⟩
    have hcell : ∀ k j u, k < len → j < 5 → (insCells (f k))[j]? = some u → w.cell? (a.add (k * 5 + j)) = some u := by
      intro k j u hk hj hu
      have h1 := (hf k hk).2
      obtain ⟨_, h2, h3⟩ := World.cells?_some h1
      have := h3 j hj
      rwa [Deep.add_add, hu] at this
    have h00 := hcell 0 0 (.int .i64 (f 0).op) (by omega) (by omega) rfl
    obtain ⟨b, off, spot⟩ := a
    have hs : spot = none := by simpa [Addr.add] using World.cell?_spot h00
    subst hs
    refine ⟨b, off, rfl, ?_, fun j u hu => ?_⟩
    · rw [add_spot] at h00
      unfold World.cell? at h00
      rcases hh : w.heap[b]? with _ | o
      · simp [hh] at h00
      · exact (Array.getElem?_eq_some_iff.1 hh).1
    · have hj : j < len * 5 := by
        rw [List.getElem?_eq_some_iff] at hu
        obtain ⟨h, _⟩ := hu
        rw [codeCells_length, hlen] at h; exact h
      have hk : j / 5 < len := by omega
      have hr : j % 5 < 5 := by omega
      have e : j / 5 * 5 + j % 5 = j := by omega
      have h5 := codeCells_at ((List.range len).map f) (j / 5) (f (j / 5)) (range_map_get f len _ hk) (j % 5) hr
      rw [e, hu] at h5
      have := hcell (j / 5) (j % 5) u hk hr h5.symm
      rwa [e, add_spot] at this
  · intro i hi
    obtain ⟨k, hk, rfl⟩ := List.mem_map.1 hi
    exact (hf k (List.mem_range.1 hk)).1

/-- A slice of bytes. -/
theorem open_bytes {t : TypeId} (ht : Try.prog.underlying t = some (.slice 5)) {fuel : Nat} {cs : List Value} {x : DataW H × List MemPlace} (h : DataW.trod enc Try.prog w base (fun _ => true) held fuel t cs = some x) :
    ∃ (A : Option Addr) (c : Nat) (l : List Int), cs = [.slice A l.length c] ∧ Row w w.heap.size 1 (.slice A l.length c) l.length (l.map (Value.int .u8)) ∧ ∀ b ∈ l, 0 ≤ b ∧ b ≤ 255 := by
  rcases open_ints ht Try.underlying5 (by kernel_rfl) h with ⟨rfl, _⟩ | ⟨x, l, c, zs, rfl, _, hl, hm, hz, _, hcell, hwz⟩
  · exact ⟨none, 0, [], rfl, Row.nil _ _ _, by simp⟩
  · have hzl : zs.length = c := by simpa using hz
    have hlen : (zs.take l).length = l := by rw [List.length_take]; omega
    refine ⟨some x, c, zs.take l, by rw [hlen], ?_, fun b hb => bounds_u8 (hwz b (List.mem_of_mem_take hb))⟩
    rw [hlen]
    exact Row.of_ints hl hm hzl hcell

theorem open_prog {r : Reach} {b0 : Nat} {v : Value} {d : DataW H} {ps : List MemPlace} (hval : Value.okWide Try.prog w r b0 25 v) (hd : DataW.Trod enc Try.prog w base (fun _ => true) held 25 v d ps) :
    ∃ (A : Option Addr) (c : Nat) (A' : Option Addr) (c' : Nat) (p : Prog), p.Fits ∧ v = .agg #[.slice A p.code.length c, .int .i64 p.size, .slice A' p.data.length c'] ∧ ProgV w w.heap.size (.slice A p.code.length c) (.slice A' p.data.length c') p := by
  obtain ⟨cs, rfl, _⟩ := okWide_struct Try.underlying25 hval
  obtain ⟨fuel, hf⟩ := hd
  obtain ⟨xs, n, _, _, hlen, hxl, hg⟩ := DataW.trod_struct Try.underlying25 hf
  have hC : Try.prog.cellsOf 25 = 3 := by kernel_rfl
  have k0 : Try.prog.cellsOf 22 = 1 := by kernel_rfl
  have k1 : Try.prog.cellsOf 3 = 1 := by kernel_rfl
  have k2 : Try.prog.cellsOf 23 = 1 := by kernel_rfl
  rw [hC] at hlen
  have hxl' : xs.length = 3 := hxl
  obtain ⟨l⟩ := cs
  have hl : (Value.agg ⟨l⟩).cells.toList = l := by simp [Value.cells]
  rw [hl] at hlen hg
  match l, hlen with
  | [c0, c1, c2], _ =>
    have g0 : DataW.trod enc Try.prog w base (fun _ => true) held n 22 [c0] = some xs[0] := by
      have := hg 0 _ rfl
      rw [List.getElem?_eq_getElem (by omega)] at this
      simpa [k0] using this
    have g1 : DataW.trod enc Try.prog w base (fun _ => true) held n 3 [c1] = some xs[1] := by
      have := hg 1 _ rfl
      rw [List.getElem?_eq_getElem (by omega)] at this
      simpa [k1] using this
    have g2 : DataW.trod enc Try.prog w base (fun _ => true) held n 23 [c2] = some xs[2] := by
      have := hg 2 _ rfl
      rw [List.getElem?_eq_getElem (by omega)] at this
      simpa [k2] using this
    obtain ⟨A, c, code, e0, h0, f0⟩ := open_code Try.underlying22 g0
    obtain ⟨sz, e1, _, f1⟩ := DataW.trod_int Try.underlying3 g1
    obtain ⟨A', c', data, e2, h2, f2⟩ := open_bytes Try.underlying23 g2
    simp only [List.cons.injEq, and_true] at e0 e1 e2
    subst e0 e1 e2
    exact ⟨A, c, A', c', ⟨code, sz, data⟩, ⟨f0, bounds_i64 f1, f2⟩, rfl, ⟨h0, h2⟩⟩
end
end Go.Proofs.Yteagglddgkjkmaa.Words

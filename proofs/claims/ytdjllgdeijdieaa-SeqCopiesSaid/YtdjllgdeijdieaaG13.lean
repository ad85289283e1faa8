/- Several texts in one: OpenRes, ImageHelp, RefSizes, RefStore, WordGets, WordPuts. -/
import Derived.Test.YtdjllgdeijdieaaG12
import Derived.Test.YtdjllgdeijdieaaG01
import Derived.Test.YtdjllgdeijdieaaRows
import Derived.Test.YtdjllgdeijdieaaG00
import Derived.Test.YtdjllgdeijdieaaG02
import Derived.LoopTactic
import Derived.LoopN
import Derived.Test.YtdjllgdeijdieaaG05
import Derived.Test.YtdjllgdeijdieaaG06

/- An argument that is a result (a struct of ints, sixteen words and two slices, by value): its plain data. -/
namespace Go.Proofs.Ytdjllgdeijdieaa.Words
set_option maxRecDepth 100000
open Go.ChangeShapes Go.WideShapes Go.ChangeAt Go.RowKit
set_option linter.unusedVariables false

instance : Inhabited Wr := ⟨⟨0, 0, 0⟩⟩

section
variable {H : Type} {enc : TypeId × Value → H} {w : World} {base : Nat} {spare : Nat → Bool} {held : Bool}

theorem wr_cells' {fuel : Nat} {cs : List Value} {x : DataW H × List MemPlace} (h : DataW.trod enc Try.prog w base spare held fuel 38 cs = some x) : ∃ i : Wr, i.Fits ∧ cs = wrL i := wr_cells h

/-- A slice of writes. -/
theorem open_writes {t : TypeId} (ht : Try.prog.underlying t = some (.slice 38)) {fuel : Nat} {cs : List Value} {x : DataW H × List MemPlace} (h : DataW.trod enc Try.prog w base spare held fuel t cs = some x) :
    ∃ (A : Option Addr) (c : Nat) (l : List Wr), cs = [.slice A l.length c] ∧ Row w w.heap.size 3 (.slice A l.length c) l.length (wsL l) ∧ ∀ i ∈ l, i.Fits := by
  have hC : Try.prog.cellsOf 38 = 3 := by kernel_rfl
  rcases Deep.open_slice ht h with ⟨rfl, _⟩ | ⟨a, len, cap, m, n, D, Pl, rfl, hb, hl, hm, hmm, _, hx⟩
  · exact ⟨none, 0, [], rfl, Row.nil _ _ _, by simp⟩
  rw [hC] at hx
  have hlm : len ≤ m := by rw [hmm]; split <;> omega
  obtain ⟨f, hf⟩ := Deep.choose_lt (α := Wr) (n := len) (p := fun i v => v.Fits ∧ w.cells? base (a.add (i * 3)) 3 = some (wrL v)) (fun i hi => by
    obtain ⟨cs', h1, h2⟩ := hx i (by omega)
    obtain ⟨v, hv, rfl⟩ := wr_cells' h2
    exact ⟨v, hv, h1⟩)
  have hlen : ((List.range len).map f).length = len := by simp
  refine ⟨some a, cap, (List.range len).map f, by rw [hlen], ?_, ?_⟩
  · rw [hlen]
    refine ⟨by rw [wsL_length, hlen], some a, cap, rfl, hl, by simpa [maxLen] using hm, (fun h => by cases h), fun hn => ?_⟩
    have hcell : ∀ k j u, k < len → j < 3 → (wrL (f k))[j]? = some u → w.cell? (a.add (k * 3 + j)) = some u := by
      intro k j u hk hj hu
      have h1 := (hf k hk).2
      obtain ⟨_, h2, h3⟩ := World.cells?_some h1
      have := h3 j hj
      rwa [Deep.add_add, hu] at this
    have h00 := hcell 0 0 (.int .i64 (f 0).addr) (by omega) (by omega) rfl
    obtain ⟨b, off, spot⟩ := a
    have hs : spot = none := by simpa [Addr.add] using World.cell?_spot h00
    subst hs
    refine ⟨b, off, rfl, ?_, fun j u hu => ?_⟩
    · rw [add_spot] at h00
      unfold World.cell? at h00
      rcases hh : w.heap[b]? with _ | o
      · simp [hh] at h00
      · exact (Array.getElem?_eq_some_iff.1 hh).1
    · have hj : j < len * 3 := by
        rw [List.getElem?_eq_some_iff] at hu
        obtain ⟨h, _⟩ := hu
        rw [wsL_length, hlen] at h; exact h
      have hk : j / 3 < len := by omega
      have hr : j % 3 < 3 := by omega
      have e : j / 3 * 3 + j % 3 = j := by omega
      have h5 := wsL_at ((List.range len).map f) (j / 3) (f (j / 3)) (range_map_get f len _ hk) (j % 3) hr
      rw [e, hu] at h5
      have := hcell (j / 3) (j % 3) u hk hr h5.symm
      rwa [e, add_spot] at this
  · intro i hi
    obtain ⟨k, hk, rfl⟩ := List.mem_map.1 hi
    exact (hf k (List.mem_range.1 hk)).1


theorem trap_cells {fuel : Nat} {cs : List Value} {x : DataW H × List MemPlace} (h : DataW.trod enc Try.prog w base spare held fuel 29 cs = some x) :
    ∃ a b c : Int, (-9223372036854775808 ≤ a ∧ a ≤ 9223372036854775807) ∧ (-9223372036854775808 ≤ b ∧ b ≤ 9223372036854775807) ∧ (-9223372036854775808 ≤ c ∧ c ≤ 9223372036854775807) ∧ cs = [.int .i64 a, .int .i64 b, .int .i64 c] := by
  obtain ⟨xs, n, _, _, hlen, hxl, hg⟩ := DataW.trod_struct Try.underlying29 h
  have hC : Try.prog.cellsOf 29 = 3 := by kernel_rfl
  have hc_int : Try.prog.cellsOf 3 = 1 := by kernel_rfl
  rw [hC] at hlen
  have hxl' : xs.length = 3 := hxl
  match cs, hlen with
  | [c0, c1, c2], _ =>
    have g0 : DataW.trod enc Try.prog w base spare held n 3 (([c0, c1, c2].drop 0).take 1) = some (xs[0]'(by omega)) := by rw [← List.getElem?_eq_getElem (by omega), ← hc_int]; exact hg 0 _ rfl
    obtain ⟨n0, e0, _, f0⟩ := DataW.trod_int Try.underlying3 g0
    have g1 : DataW.trod enc Try.prog w base spare held n 3 (([c0, c1, c2].drop 1).take 1) = some (xs[1]'(by omega)) := by rw [← List.getElem?_eq_getElem (by omega), ← hc_int]; exact hg 1 _ rfl
    obtain ⟨n1, e1, _, f1⟩ := DataW.trod_int Try.underlying3 g1
    have g2 : DataW.trod enc Try.prog w base spare held n 3 (([c0, c1, c2].drop 2).take 1) = some (xs[2]'(by omega)) := by rw [← List.getElem?_eq_getElem (by omega), ← hc_int]; exact hg 2 _ rfl
    obtain ⟨n2, e2, _, f2⟩ := DataW.trod_int Try.underlying3 g2
    simp only [List.drop_zero, List.take_succ_cons, List.take_zero, List.drop_succ_cons, List.cons.injEq, and_true] at e0 e1 e2
    subst e0 e1 e2
    exact ⟨n0, n1, n2, bounds_i64 f0, bounds_i64 f1, bounds_i64 f2, rfl⟩

theorem regs_cells {fuel : Nat} {cs : List Value} {x : DataW H × List MemPlace} (h : DataW.trod enc Try.prog w base spare held fuel 31 cs = some x) :
    ∃ l : List Int, l.length = 16 ∧ (∀ x ∈ l, 0 ≤ x ∧ x ≤ 4294967295) ∧ cs = l.map (Value.int .u32) := by
  obtain ⟨xs, n, _, _, hlen, hxl, hg⟩ := DataW.trod_array Try.underlying31 h
  have hC : Try.prog.cellsOf 31 = 16 := by kernel_rfl
  have hc : Try.prog.cellsOf 30 = 1 := by kernel_rfl
  rw [hC] at hlen
  have hxl' : xs.length = 16 := hxl
  match cs, hlen with
  | [r0, r1, r2, r3, r4, r5, r6, r7, r8, r9, r10, r11, r12, r13, r14, r15], _ =>
    have g0 : DataW.trod enc Try.prog w base spare held n 30 (([r0, r1, r2, r3, r4, r5, r6, r7, r8, r9, r10, r11, r12, r13, r14, r15].drop 0).take 1) = some (xs[0]'(by omega)) := by
      have := hg 0 (by omega)
      rw [hc] at this
      rwa [List.getElem?_eq_getElem (by omega)] at this
    obtain ⟨n0, e0, _, f0⟩ := DataW.trod_int Try.underlying30 g0
    have g1 : DataW.trod enc Try.prog w base spare held n 30 (([r0, r1, r2, r3, r4, r5, r6, r7, r8, r9, r10, r11, r12, r13, r14, r15].drop 1).take 1) = some (xs[1]'(by omega)) := by
      have := hg 1 (by omega)
      rw [hc] at this
      rwa [List.getElem?_eq_getElem (by omega)] at this
    obtain ⟨n1, e1, _, f1⟩ := DataW.trod_int Try.underlying30 g1
    have g2 : DataW.trod enc Try.prog w base spare held n 30 (([r0, r1, r2, r3, r4, r5, r6, r7, r8, r9, r10, r11, r12, r13, r14, r15].drop 2).take 1) = some (xs[2]'(by omega)) := by
      have := hg 2 (by omega)
      rw [hc] at this
      rwa [List.getElem?_eq_getElem (by omega)] at this
    obtain ⟨n2, e2, _, f2⟩ := DataW.trod_int Try.underlying30 g2
    have g3 : DataW.trod enc Try.prog w base spare held n 30 (([r0, r1, r2, r3, r4, r5, r6, r7, r8, r9, r10, r11, r12, r13, r14, r15].drop 3).take 1) = some (xs[3]'(by omega)) := by
      have := hg 3 (by omega)
      rw [hc] at this
      rwa [List.getElem?_eq_getElem (by omega)] at this
    obtain ⟨n3, e3, _, f3⟩ := DataW.trod_int Try.underlying30 g3
    have g4 : DataW.trod enc Try.prog w base spare held n 30 (([r0, r1, r2, r3, r4, r5, r6, r7, r8, r9, r10, r11, r12, r13, r14, r15].drop 4).take 1) = some (xs[4]'(by omega)) := by
      have := hg 4 (by omega)
      rw [hc] at this
      rwa [List.getElem?_eq_getElem (by omega)] at this
    obtain ⟨n4, e4, _, f4⟩ := DataW.trod_int Try.underlying30 g4
    have g5 : DataW.trod enc Try.prog w base spare held n 30 (([r0, r1, r2, r3, r4, r5, r6, r7, r8, r9, r10, r11, r12, r13, r14, r15].drop 5).take 1) = some (xs[5]'(by omega)) := by
      have := hg 5 (by omega)
      rw [hc] at this
      rwa [List.getElem?_eq_getElem (by omega)] at this
    obtain ⟨n5, e5, _, f5⟩ := DataW.trod_int Try.underlying30 g5
    have g6 : DataW.trod enc Try.prog w base spare held n 30 (([r0, r1, r2, r3, r4, r5, r6, r7, r8, r9, r10, r11, r12, r13, r14, r15].drop 6).take 1) = some (xs[6]'(by omega)) := by
      have := hg 6 (by omega)
      rw [hc] at this
      rwa [List.getElem?_eq_getElem (by omega)] at this
    obtain ⟨n6, e6, _, f6⟩ := DataW.trod_int Try.underlying30 g6
    have g7 : DataW.trod enc Try.prog w base spare held n 30 (([r0, r1, r2, r3, r4, r5, r6, r7, r8, r9, r10, r11, r12, r13, r14, r15].drop 7).take 1) = some (xs[7]'(by omega)) := by
      have := hg 7 (by omega)
      rw [hc] at this
      rwa [List.getElem?_eq_getElem (by omega)] at this
    obtain ⟨n7, e7, _, f7⟩ := DataW.trod_int Try.underlying30 g7
    have g8 : DataW.trod enc Try.prog w base spare held n 30 (([r0, r1, r2, r3, r4, r5, r6, r7, r8, r9, r10, r11, r12, r13, r14, r15].drop 8).take 1) = some (xs[8]'(by omega)) := by
      have := hg 8 (by omega)
      rw [hc] at this
      rwa [List.getElem?_eq_getElem (by omega)] at this
    obtain ⟨n8, e8, _, f8⟩ := DataW.trod_int Try.underlying30 g8
    have g9 : DataW.trod enc Try.prog w base spare held n 30 (([r0, r1, r2, r3, r4, r5, r6, r7, r8, r9, r10, r11, r12, r13, r14, r15].drop 9).take 1) = some (xs[9]'(by omega)) := by
      have := hg 9 (by omega)
      rw [hc] at this
      rwa [List.getElem?_eq_getElem (by omega)] at this
    obtain ⟨n9, e9, _, f9⟩ := DataW.trod_int Try.underlying30 g9
    have g10 : DataW.trod enc Try.prog w base spare held n 30 (([r0, r1, r2, r3, r4, r5, r6, r7, r8, r9, r10, r11, r12, r13, r14, r15].drop 10).take 1) = some (xs[10]'(by omega)) := by
      have := hg 10 (by omega)
      rw [hc] at this
      rwa [List.getElem?_eq_getElem (by omega)] at this
    obtain ⟨n10, e10, _, f10⟩ := DataW.trod_int Try.underlying30 g10
    have g11 : DataW.trod enc Try.prog w base spare held n 30 (([r0, r1, r2, r3, r4, r5, r6, r7, r8, r9, r10, r11, r12, r13, r14, r15].drop 11).take 1) = some (xs[11]'(by omega)) := by
      have := hg 11 (by omega)
      rw [hc] at this
      rwa [List.getElem?_eq_getElem (by omega)] at this
    obtain ⟨n11, e11, _, f11⟩ := DataW.trod_int Try.underlying30 g11
    have g12 : DataW.trod enc Try.prog w base spare held n 30 (([r0, r1, r2, r3, r4, r5, r6, r7, r8, r9, r10, r11, r12, r13, r14, r15].drop 12).take 1) = some (xs[12]'(by omega)) := by
      have := hg 12 (by omega)
      rw [hc] at this
      rwa [List.getElem?_eq_getElem (by omega)] at this
    obtain ⟨n12, e12, _, f12⟩ := DataW.trod_int Try.underlying30 g12
    have g13 : DataW.trod enc Try.prog w base spare held n 30 (([r0, r1, r2, r3, r4, r5, r6, r7, r8, r9, r10, r11, r12, r13, r14, r15].drop 13).take 1) = some (xs[13]'(by omega)) := by
      have := hg 13 (by omega)
      rw [hc] at this
      rwa [List.getElem?_eq_getElem (by omega)] at this
    obtain ⟨n13, e13, _, f13⟩ := DataW.trod_int Try.underlying30 g13
    have g14 : DataW.trod enc Try.prog w base spare held n 30 (([r0, r1, r2, r3, r4, r5, r6, r7, r8, r9, r10, r11, r12, r13, r14, r15].drop 14).take 1) = some (xs[14]'(by omega)) := by
      have := hg 14 (by omega)
      rw [hc] at this
      rwa [List.getElem?_eq_getElem (by omega)] at this
    obtain ⟨n14, e14, _, f14⟩ := DataW.trod_int Try.underlying30 g14
    have g15 : DataW.trod enc Try.prog w base spare held n 30 (([r0, r1, r2, r3, r4, r5, r6, r7, r8, r9, r10, r11, r12, r13, r14, r15].drop 15).take 1) = some (xs[15]'(by omega)) := by
      have := hg 15 (by omega)
      rw [hc] at this
      rwa [List.getElem?_eq_getElem (by omega)] at this
    obtain ⟨n15, e15, _, f15⟩ := DataW.trod_int Try.underlying30 g15
    simp only [List.drop_zero, List.take_succ_cons, List.take_zero, List.drop_succ_cons, List.cons.injEq, and_true] at e0 e1 e2 e3 e4 e5 e6 e7 e8 e9 e10 e11 e12 e13 e14 e15
    subst e0 e1 e2 e3 e4 e5 e6 e7 e8 e9 e10 e11 e12 e13 e14 e15
    refine ⟨[n0, n1, n2, n3, n4, n5, n6, n7, n8, n9, n10, n11, n12, n13, n14, n15], rfl, ?_, rfl⟩
    intro x hx
    simp only [List.mem_cons, List.not_mem_nil, or_false] at hx
    rcases hx with rfl | rfl | rfl | rfl | rfl | rfl | rfl | rfl | rfl | rfl | rfl | rfl | rfl | rfl | rfl | rfl
    · exact bounds_u32 f0
    · exact bounds_u32 f1
    · exact bounds_u32 f2
    · exact bounds_u32 f3
    · exact bounds_u32 f4
    · exact bounds_u32 f5
    · exact bounds_u32 f6
    · exact bounds_u32 f7
    · exact bounds_u32 f8
    · exact bounds_u32 f9
    · exact bounds_u32 f10
    · exact bounds_u32 f11
    · exact bounds_u32 f12
    · exact bounds_u32 f13
    · exact bounds_u32 f14
    · exact bounds_u32 f15

theorem open_res {r : Reach} {b0 : Nat} {v : Value} {d : DataW H} {ps : List MemPlace} (hval : Value.okWide Try.prog w r b0 34 v) (hd : DataW.Trod enc Try.prog w base (fun _ => true) held 34 v d ps) :
    ∃ (M : Option Addr) (m : Nat) (U : Option Addr) (u : Nat) (z : Res), z.Fits ∧ v = .agg (resL z (.slice M z.mem.length m) (.slice U z.ws.length u)).toArray ∧ ResV w w.heap.size (.slice M z.mem.length m) (.slice U z.ws.length u) z := by
  obtain ⟨cs, rfl, _⟩ := okWide_struct Try.underlying34 hval
  obtain ⟨fuel, hf⟩ := hd
  obtain ⟨xs, n, _, _, hlen, hxl, hg⟩ := DataW.trod_struct Try.underlying34 hf
  have hC : Try.prog.cellsOf 34 = 23 := by kernel_rfl
  have k1 : Try.prog.cellsOf 3 = 1 := by kernel_rfl
  have k3 : Try.prog.cellsOf 29 = 3 := by kernel_rfl
  have k16 : Try.prog.cellsOf 31 = 16 := by kernel_rfl
  have km : Try.prog.cellsOf 23 = 1 := by kernel_rfl
  have kw : Try.prog.cellsOf 32 = 1 := by kernel_rfl
  rw [hC] at hlen
  have hxl' : xs.length = 6 := hxl
  obtain ⟨l⟩ := cs
  have hl : (Value.agg ⟨l⟩).cells.toList = l := by simp [Value.cells]
  rw [hl] at hlen hg
  have g0 : DataW.trod enc Try.prog w base (fun _ => true) held n 3 ((l.drop 0).take 1) = some xs[0] := by
    have this : DataW.trod enc Try.prog w base (fun _ => true) held n 3 ((l.drop 0).take (Try.prog.cellsOf 3)) = xs[0]? := hg 0 _ rfl
    rwa [List.getElem?_eq_getElem (by omega), k1] at this
  have g1 : DataW.trod enc Try.prog w base (fun _ => true) held n 29 ((l.drop 1).take 3) = some xs[1] := by
    have this : DataW.trod enc Try.prog w base (fun _ => true) held n 29 ((l.drop 1).take (Try.prog.cellsOf 29)) = xs[1]? := hg 1 _ rfl
    rwa [List.getElem?_eq_getElem (by omega), k3] at this
  have g2 : DataW.trod enc Try.prog w base (fun _ => true) held n 3 ((l.drop 4).take 1) = some xs[2] := by
    have this : DataW.trod enc Try.prog w base (fun _ => true) held n 3 ((l.drop 4).take (Try.prog.cellsOf 3)) = xs[2]? := hg 2 _ rfl
    rwa [List.getElem?_eq_getElem (by omega), k1] at this
  have g3 : DataW.trod enc Try.prog w base (fun _ => true) held n 31 ((l.drop 5).take 16) = some xs[3] := by
    have this : DataW.trod enc Try.prog w base (fun _ => true) held n 31 ((l.drop 5).take (Try.prog.cellsOf 31)) = xs[3]? := hg 3 _ rfl
    rwa [List.getElem?_eq_getElem (by omega), k16] at this
  have g4 : DataW.trod enc Try.prog w base (fun _ => true) held n 23 ((l.drop 21).take 1) = some xs[4] := by
    have this : DataW.trod enc Try.prog w base (fun _ => true) held n 23 ((l.drop 21).take (Try.prog.cellsOf 23)) = xs[4]? := hg 4 _ rfl
    rwa [List.getElem?_eq_getElem (by omega), km] at this
  have g5 : DataW.trod enc Try.prog w base (fun _ => true) held n 32 ((l.drop 22).take 1) = some xs[5] := by
    have this : DataW.trod enc Try.prog w base (fun _ => true) held n 32 ((l.drop 22).take (Try.prog.cellsOf 32)) = xs[5]? := hg 5 _ rfl
    rwa [List.getElem?_eq_getElem (by omega), kw] at this
  obtain ⟨e, q0, _, f0⟩ := DataW.trod_int Try.underlying3 g0
  obtain ⟨tk, ts, tp, b1, b2, b3, q1⟩ := trap_cells g1
  obtain ⟨st, q2, _, f2⟩ := DataW.trod_int Try.underlying3 g2
  obtain ⟨regs, h16, br, q3⟩ := regs_cells g3
  obtain ⟨M, m, mem, q4, hM, bm⟩ := open_bytes Try.underlying23 g4
  obtain ⟨U, u, ws, q5, hU, bw⟩ := open_writes Try.underlying32 g5
  refine ⟨M, m, U, u, ⟨e, tk, ts, tp, st, regs, mem, ws⟩, ⟨bounds_i64 f0, b1, b2, b3, bounds_i64 f2, br, bm, bw⟩, ?_, ⟨hM, hU, h16⟩⟩
  have hsplit : l = (l.drop 0).take 1 ++ ((l.drop 1).take 3 ++ ((l.drop 4).take 1 ++ ((l.drop 5).take 16 ++ ((l.drop 21).take 1 ++ (l.drop 22).take 1)))) := by
    have e6 : (l.drop 22).take 1 = l.drop 22 := List.take_of_length_le (by simp; omega)
    rw [e6]
    rw [show l.drop 22 = (l.drop 21).drop 1 by rw [List.drop_drop], List.take_append_drop, show l.drop 21 = (l.drop 5).drop 16 by rw [List.drop_drop], List.take_append_drop, show l.drop 5 = (l.drop 4).drop 1 by rw [List.drop_drop], List.take_append_drop, show l.drop 4 = (l.drop 1).drop 3 by rw [List.drop_drop], List.take_append_drop, show l.drop 1 = (l.drop 0).drop 1 by rw [List.drop_drop], List.take_append_drop, List.drop_zero]
  rw [q0, q1, q2, q3, q4, q5] at hsplit
  show Value.agg ⟨l⟩ = Value.agg ⟨_⟩
  congr 2
end
end Go.Proofs.Ytdjllgdeijdieaa.Words

/- Contracts of the laws' own helpers of chapter 4 that call nothing of the program: num, Few. -/
namespace Go.Proofs.Ytdjllgdeijdieaa.Words
set_option maxRecDepth 100000
open Go.RowKit
set_option linter.unusedVariables false

/-- Is a program short enough? -/
def fewB (n m : Nat) : Bool := decide (n ≤ 200 ∧ m ≤ 500)
set_option maxHeartbeats 400000 in
theorem few_any (A A' : Option Addr) (n c m c' : Nat) (sz : Int) (w : World) (hn : n ≤ 9223372036854775807) (hm : m ≤ 9223372036854775807) :
    Calls Try.prog 8 #[.agg #[.slice A n c, .int .i64 sz, .slice A' m c']] w fun e w' => e = .returned (.bool (fewB n m)) ∧ Below w.heap.size w w' := by
  by_cases h1 : n ≤ 200
  · by_cases h2 : m ≤ 500
    · have hr : fewB n m = true := decide_eq_true ⟨h1, h2⟩
      rw [hr]
      go_enter Try.func8, Try.ntmps8
      go_wp2_with fail
      go_ret
      exact ⟨by simp <;> omega, (Below.refl _ _).alloc (Nat.le_refl _) _⟩
    · have hr : fewB n m = false := decide_eq_false (fun h => h2 h.2)
      rw [hr]
      go_enter Try.func8, Try.ntmps8
      go_wp2_with fail
      go_ret
      exact ⟨by simp <;> omega, (Below.refl _ _).alloc (Nat.le_refl _) _⟩
  · have hr : fewB n m = false := decide_eq_false (fun h => h1 h.1)
    rw [hr]
    go_enter Try.func8, Try.ntmps8
    go_wp2_with fail
    go_ret
    exact ⟨by simp <;> omega, (Below.refl _ _).alloc (Nat.le_refl _) _⟩
end Go.Proofs.Ytdjllgdeijdieaa.Words

/- Contracts of the document's own Size and Check. -/
namespace Go.Proofs.Ytdjllgdeijdieaa.Words
set_option maxRecDepth 100000
open Go.RowKit
set_option linter.unusedVariables false

set_option maxHeartbeats 1000000 in
theorem refCheck_any (size addr n : Int) (w : World) (h0 : 0 ≤ addr) (h1 : addr ≤ 4294967295) (hs : -9223372036854775808 ≤ size ∧ size ≤ 9223372036854775807) (hn : -9223372036854775808 ≤ n ∧ n ≤ 9223372036854775807) :
    Calls Try.prog 12 #[.int .i64 size, .int .u32 addr, .int .i64 n] w fun e w' => e = .returned (.int .i64 (checkZ size addr n)) ∧ w = w' := by
  obtain ⟨s0, s1⟩ := hs
  obtain ⟨n0, n1⟩ := hn
  by_cases hs : size < 1
  · by_cases hr : n < addr + size
    · have t := Lib.hid (checkZ_range (n := n) (addr := addr) (.inl hs) hr)
      go_enter Try.func12, Try.ntmps12
      go_wp2_with fail
      go_ret
      exact ⟨ret_int t.out.symm, rfl⟩
    · have t := Lib.hid (checkZ_ok (n := n) (addr := addr) (.inl hs) (by omega))
      go_enter Try.func12, Try.ntmps12
      go_wp2_with fail
      go_ret
      exact ⟨ret_int t.out.symm, rfl⟩
  have hm0 : 0 ≤ addr % size := Int.emod_nonneg _ (by omega)
  have hm1 : addr % size < size := Int.emod_lt_of_pos _ (by omega)
  by_cases hm : addr % size = 0
  · have HM := Lib.hid hm
    by_cases hr : n < size
    · have t := Lib.hid (checkZ_range (n := n) (addr := addr) (.inr hm) (by omega))
      go_enter Try.func12, Try.ntmps12
      go_wp2_with fail
      go_ret
      exact ⟨ret_int t.out.symm, rfl⟩
    by_cases hq : n < addr + size
    · have t := Lib.hid (checkZ_range (n := n) (addr := addr) (.inr hm) hq)
      go_enter Try.func12, Try.ntmps12
      go_wp2_with fail
      go_ret
      exact ⟨ret_int t.out.symm, rfl⟩
    · have t := Lib.hid (checkZ_ok (n := n) (addr := addr) (.inr hm) (by omega))
      go_enter Try.func12, Try.ntmps12
      go_wp2_with fail
      go_ret
      exact ⟨ret_int t.out.symm, rfl⟩
  · have t := Lib.hid (checkZ_mis (n := n) (show 1 ≤ size by omega) hm)
    have hq : (addr % size != 0) = true := by simp [hm]
    go_enter Try.func12, Try.ntmps12
    go_wp2_with fail
    go_ret
    exact ⟨ret_int t.out.symm, rfl⟩
end Go.Proofs.Ytdjllgdeijdieaa.Words

/- Contract of the document's own Store: a memory of the call's own. -/
namespace Go.Proofs.Ytdjllgdeijdieaa.Words
set_option maxRecDepth 100000
open Go.RowKit
set_option linter.unusedVariables false

section
variable (A : Option Addr) (c n : Nat) (zs : List Int) (v : Int) (w : World)

set_option maxHeartbeats 2000000 in
theorem refStore_size (size addr : Int) (h : Row w w.heap.size 1 (.slice A n c) n (zs.map (Value.int .u8))) (hn : n ≤ 140737488355328) (hs : -9223372036854775808 ≤ size ∧ size ≤ 9223372036854775807) (hq : size ≠ 1 ∧ size ≠ 2 ∧ size ≠ 4) :
    Calls Try.prog 14 #[.slice A n c, .agg #[.int .i64 addr, .int .i64 size, .int .u32 v]] w fun e w' => ∃ v', e = .returned v' ∧ w'.ownsRow w.heap.size 5 1 v' n ((zs).map (Value.int .u8)) ∧ Below w.heap.size w w' := by
  obtain ⟨i0, hi, hz0, hz1, hz2⟩ := info_parts info_u8
  have HZ2 := Lib.hid hz2
  clear hz2
  have hl : zs.length = n := by have := h.len; simpa using this
  obtain ⟨u1, u2⟩ := h.cap
  have hR := h.alloc (Nat.le_refl _) (.cells #[.int .i64 addr, .int .i64 size, .int .u32 v] 38)
  have hbase : w.heap.size + 1 ≤ (w.alloc (.cells #[.int .i64 addr, .int .i64 size, .int .u32 v] 38)).heap.size := by simp
  have HW := Lib.hid ((Below.refl w.heap.size w).alloc (Nat.le_refl _) (.cells #[.int .i64 addr, .int .i64 size, .int .u32 v] 38))
  have c0 : (w.alloc (.cells #[.int .i64 addr, .int .i64 size, .int .u32 v] 38)).cell? ⟨w.heap.size, 0, none⟩ = some (.int .i64 addr) := by go_simp
  have c1 : (w.alloc (.cells #[.int .i64 addr, .int .i64 size, .int .u32 v] 38)).cell? ⟨w.heap.size, 1, none⟩ = some (.int .i64 size) := by go_simp
  have c2 : (w.alloc (.cells #[.int .i64 addr, .int .i64 size, .int .u32 v] 38)).cell? ⟨w.heap.size, 2, none⟩ = some (.int .u32 v) := by go_simp
  obtain ⟨q1, q2, q3⟩ := hq
  have e1 : (size != 1) = true := by simp; exact q1
  have e2 : (size != 2) = true := by simp; exact q2
  have e3 : (size != 4) = true := by simp; exact q3
  go_enter Try.func14, Try.ntmps14
  go_wp2_with (at_builtin; refine wpList_append_row _ rfl (.const (.slice none 0 0)) (.tmp 7) 23 rfl (w.heap.size + 1) 5 i0 (.int .u8 0) 1 1 Try.underlying23 hi hz0 hz1 HZ2.out rfl (by omega) (.slice none 0 0) 0 [] rfl (World.ownsRow_nil _ _ _ _) _ _ n _ rfl hR (u8_one _) (by unfold maxLen; omega) (by omega) hbase ?_; intro v1 w1 hown1 hg1; simp only [Nat.zero_add, List.nil_append] at hown1; have k1 : Below (w.heap.size + 1) (w.alloc (.cells #[.int .i64 addr, .int .i64 size, .int .u32 v] 38)) w1 := Below.grown (Below.refl _ _) hg1 hbase (fun k hk => by cases hk); have d0 := below_cell k1 (Nat.lt_succ_self _) c0; have d1 := below_cell k1 (Nat.lt_succ_self _) c1; have d2 := below_cell k1 (Nat.lt_succ_self _) c2)
  go_ret
  exact ⟨_, rfl, own_base hown1 (Nat.le_succ _), HW.out.trans (k1.mono (Nat.le_succ _))⟩

set_option maxHeartbeats 2000000 in
theorem refStore_low1 (addr : Int) (h : Row w w.heap.size 1 (.slice A n c) n (zs.map (Value.int .u8))) (hn : n ≤ 140737488355328) (ha : addr < 0) :
    Calls Try.prog 14 #[.slice A n c, .agg #[.int .i64 addr, .int .i64 1, .int .u32 v]] w fun e w' => ∃ v', e = .returned v' ∧ w'.ownsRow w.heap.size 5 1 v' n ((zs).map (Value.int .u8)) ∧ Below w.heap.size w w' := by
  obtain ⟨i0, hi, hz0, hz1, hz2⟩ := info_parts info_u8
  have HZ2 := Lib.hid hz2
  clear hz2
  have hl : zs.length = n := by have := h.len; simpa using this
  obtain ⟨u1, u2⟩ := h.cap
  have hR := h.alloc (Nat.le_refl _) (.cells #[.int .i64 addr, .int .i64 1, .int .u32 v] 38)
  have hbase : w.heap.size + 1 ≤ (w.alloc (.cells #[.int .i64 addr, .int .i64 1, .int .u32 v] 38)).heap.size := by simp
  have HW := Lib.hid ((Below.refl w.heap.size w).alloc (Nat.le_refl _) (.cells #[.int .i64 addr, .int .i64 1, .int .u32 v] 38))
  have c0 : (w.alloc (.cells #[.int .i64 addr, .int .i64 1, .int .u32 v] 38)).cell? ⟨w.heap.size, 0, none⟩ = some (.int .i64 addr) := by go_simp
  have c1 : (w.alloc (.cells #[.int .i64 addr, .int .i64 1, .int .u32 v] 38)).cell? ⟨w.heap.size, 1, none⟩ = some (.int .i64 1) := by go_simp
  have c2 : (w.alloc (.cells #[.int .i64 addr, .int .i64 1, .int .u32 v] 38)).cell? ⟨w.heap.size, 2, none⟩ = some (.int .u32 v) := by go_simp
  go_enter Try.func14, Try.ntmps14
  go_wp2_with (at_builtin; refine wpList_append_row _ rfl (.const (.slice none 0 0)) (.tmp 7) 23 rfl (w.heap.size + 1) 5 i0 (.int .u8 0) 1 1 Try.underlying23 hi hz0 hz1 HZ2.out rfl (by omega) (.slice none 0 0) 0 [] rfl (World.ownsRow_nil _ _ _ _) _ _ n _ rfl hR (u8_one _) (by unfold maxLen; omega) (by omega) hbase ?_; intro v1 w1 hown1 hg1; simp only [Nat.zero_add, List.nil_append] at hown1; have k1 : Below (w.heap.size + 1) (w.alloc (.cells #[.int .i64 addr, .int .i64 1, .int .u32 v] 38)) w1 := Below.grown (Below.refl _ _) hg1 hbase (fun k hk => by cases hk); have d0 := below_cell k1 (Nat.lt_succ_self _) c0; have d1 := below_cell k1 (Nat.lt_succ_self _) c1; have d2 := below_cell k1 (Nat.lt_succ_self _) c2)
  go_ret
  exact ⟨_, rfl, own_base hown1 (Nat.le_succ _), HW.out.trans (k1.mono (Nat.le_succ _))⟩

set_option maxHeartbeats 2000000 in
theorem refStore_high1 (addr : Int) (h : Row w w.heap.size 1 (.slice A n c) n (zs.map (Value.int .u8))) (hn : n ≤ 140737488355328) (ha : 4294967295 < addr) :
    Calls Try.prog 14 #[.slice A n c, .agg #[.int .i64 addr, .int .i64 1, .int .u32 v]] w fun e w' => ∃ v', e = .returned v' ∧ w'.ownsRow w.heap.size 5 1 v' n ((zs).map (Value.int .u8)) ∧ Below w.heap.size w w' := by
  obtain ⟨i0, hi, hz0, hz1, hz2⟩ := info_parts info_u8
  have HZ2 := Lib.hid hz2
  clear hz2
  have hl : zs.length = n := by have := h.len; simpa using this
  obtain ⟨u1, u2⟩ := h.cap
  have hR := h.alloc (Nat.le_refl _) (.cells #[.int .i64 addr, .int .i64 1, .int .u32 v] 38)
  have hbase : w.heap.size + 1 ≤ (w.alloc (.cells #[.int .i64 addr, .int .i64 1, .int .u32 v] 38)).heap.size := by simp
  have HW := Lib.hid ((Below.refl w.heap.size w).alloc (Nat.le_refl _) (.cells #[.int .i64 addr, .int .i64 1, .int .u32 v] 38))
  have c0 : (w.alloc (.cells #[.int .i64 addr, .int .i64 1, .int .u32 v] 38)).cell? ⟨w.heap.size, 0, none⟩ = some (.int .i64 addr) := by go_simp
  have c1 : (w.alloc (.cells #[.int .i64 addr, .int .i64 1, .int .u32 v] 38)).cell? ⟨w.heap.size, 1, none⟩ = some (.int .i64 1) := by go_simp
  have c2 : (w.alloc (.cells #[.int .i64 addr, .int .i64 1, .int .u32 v] 38)).cell? ⟨w.heap.size, 2, none⟩ = some (.int .u32 v) := by go_simp
  go_enter Try.func14, Try.ntmps14
  go_wp2_with (at_builtin; refine wpList_append_row _ rfl (.const (.slice none 0 0)) (.tmp 7) 23 rfl (w.heap.size + 1) 5 i0 (.int .u8 0) 1 1 Try.underlying23 hi hz0 hz1 HZ2.out rfl (by omega) (.slice none 0 0) 0 [] rfl (World.ownsRow_nil _ _ _ _) _ _ n _ rfl hR (u8_one _) (by unfold maxLen; omega) (by omega) hbase ?_; intro v1 w1 hown1 hg1; simp only [Nat.zero_add, List.nil_append] at hown1; have k1 : Below (w.heap.size + 1) (w.alloc (.cells #[.int .i64 addr, .int .i64 1, .int .u32 v] 38)) w1 := Below.grown (Below.refl _ _) hg1 hbase (fun k hk => by cases hk); have d0 := below_cell k1 (Nat.lt_succ_self _) c0; have d1 := below_cell k1 (Nat.lt_succ_self _) c1; have d2 := below_cell k1 (Nat.lt_succ_self _) c2)
  go_ret
  exact ⟨_, rfl, own_base hown1 (Nat.le_succ _), HW.out.trans (k1.mono (Nat.le_succ _))⟩

set_option maxHeartbeats 2000000 in
theorem refStore_bad1 (addr : Int) (h : Row w w.heap.size 1 (.slice A n c) n (zs.map (Value.int .u8))) (hn : n ≤ 140737488355328) (h0 : 0 ≤ addr) (h1 : addr ≤ 4294967295) (hck : checkZ 1 addr n ≠ 0) :
    Calls Try.prog 14 #[.slice A n c, .agg #[.int .i64 addr, .int .i64 1, .int .u32 v]] w fun e w' => ∃ v', e = .returned v' ∧ w'.ownsRow w.heap.size 5 1 v' n ((zs).map (Value.int .u8)) ∧ Below w.heap.size w w' := by
  obtain ⟨i0, hi, hz0, hz1, hz2⟩ := info_parts info_u8
  have HZ2 := Lib.hid hz2
  clear hz2
  have hl : zs.length = n := by have := h.len; simpa using this
  obtain ⟨u1, u2⟩ := h.cap
  have hR := h.alloc (Nat.le_refl _) (.cells #[.int .i64 addr, .int .i64 1, .int .u32 v] 38)
  have hbase : w.heap.size + 1 ≤ (w.alloc (.cells #[.int .i64 addr, .int .i64 1, .int .u32 v] 38)).heap.size := by simp
  have HW := Lib.hid ((Below.refl w.heap.size w).alloc (Nat.le_refl _) (.cells #[.int .i64 addr, .int .i64 1, .int .u32 v] 38))
  have c0 : (w.alloc (.cells #[.int .i64 addr, .int .i64 1, .int .u32 v] 38)).cell? ⟨w.heap.size, 0, none⟩ = some (.int .i64 addr) := by go_simp
  have c1 : (w.alloc (.cells #[.int .i64 addr, .int .i64 1, .int .u32 v] 38)).cell? ⟨w.heap.size, 1, none⟩ = some (.int .i64 1) := by go_simp
  have c2 : (w.alloc (.cells #[.int .i64 addr, .int .i64 1, .int .u32 v] 38)).cell? ⟨w.heap.size, 2, none⟩ = some (.int .u32 v) := by go_simp
  have e1 : (checkZ 1 addr n != 0) = true := by simp; exact hck
  have e2 : addr % 4294967296 = addr := by omega
  clear hck
  go_enter Try.func14, Try.ntmps14
  go_wp2_with (at_builtin; refine wpList_append_row _ rfl (.const (.slice none 0 0)) (.tmp 7) 23 rfl (w.heap.size + 1) 5 i0 (.int .u8 0) 1 1 Try.underlying23 hi hz0 hz1 HZ2.out rfl (by omega) (.slice none 0 0) 0 [] rfl (World.ownsRow_nil _ _ _ _) _ _ n _ rfl hR (u8_one _) (by unfold maxLen; omega) (by omega) hbase ?_; intro v1 w1 hown1 hg1; simp only [Nat.zero_add, List.nil_append] at hown1; have k1 : Below (w.heap.size + 1) (w.alloc (.cells #[.int .i64 addr, .int .i64 1, .int .u32 v] 38)) w1 := Below.grown (Below.refl _ _) hg1 hbase (fun k hk => by cases hk); have d0 := below_cell k1 (Nat.lt_succ_self _) c0; have d1 := below_cell k1 (Nat.lt_succ_self _) c1; have d2 := below_cell k1 (Nat.lt_succ_self _) c2)
  refine (refCheck_any 1 addr n _ h0 h1 (by omega) (by omega)).mono ?_; rintro e w2 ⟨rfl, rfl⟩
  go_wp2_with fail
  go_ret
  exact ⟨_, rfl, own_base hown1 (Nat.le_succ _), HW.out.trans (k1.mono (Nat.le_succ _))⟩

set_option maxHeartbeats 4000000 in
theorem refStore_yes1 (k : Nat) (h : Row w w.heap.size 1 (.slice A n c) n (zs.map (Value.int .u8))) (hn : n ≤ 140737488355328) (hk : (k : Int) ≤ 4294967295) (hv : 0 ≤ v ∧ v ≤ 4294967295) (hck : checkZ 1 k n = 0) :
    Calls Try.prog 14 #[.slice A n c, .agg #[.int .i64 (k : Int), .int .i64 1, .int .u32 v]] w fun e w' => ∃ v', e = .returned v' ∧ w'.ownsRow w.heap.size 5 1 v' n ((put1 zs k v).map (Value.int .u8)) ∧ Below w.heap.size w w' := by
  obtain ⟨_, hr⟩ := checkZ_zero hck
  have HCK := Lib.hid hck
  have hkn : k + 0 < n := by omega
  have hk0 : (0 : Int) ≤ k := by omega
  obtain ⟨v0, v9⟩ := hv
  clear hck
  obtain ⟨i0, hi, hz0, hz1, hz2⟩ := info_parts info_u8
  have HZ2 := Lib.hid hz2
  clear hz2
  have hl : zs.length = n := by have := h.len; simpa using this
  obtain ⟨u1, u2⟩ := h.cap
  have hR := h.alloc (Nat.le_refl _) (.cells #[.int .i64 (k : Int), .int .i64 1, .int .u32 v] 38)
  have hbase : w.heap.size + 1 ≤ (w.alloc (.cells #[.int .i64 (k : Int), .int .i64 1, .int .u32 v] 38)).heap.size := by simp
  have HW := Lib.hid ((Below.refl w.heap.size w).alloc (Nat.le_refl _) (.cells #[.int .i64 (k : Int), .int .i64 1, .int .u32 v] 38))
  have c0 : (w.alloc (.cells #[.int .i64 (k : Int), .int .i64 1, .int .u32 v] 38)).cell? ⟨w.heap.size, 0, none⟩ = some (.int .i64 (k : Int)) := by go_simp
  have c1 : (w.alloc (.cells #[.int .i64 (k : Int), .int .i64 1, .int .u32 v] 38)).cell? ⟨w.heap.size, 1, none⟩ = some (.int .i64 1) := by go_simp
  have c2 : (w.alloc (.cells #[.int .i64 (k : Int), .int .i64 1, .int .u32 v] 38)).cell? ⟨w.heap.size, 2, none⟩ = some (.int .u32 v) := by go_simp
  have e2 : (k : Int) % 4294967296 = k := by omega
  go_enter Try.func14, Try.ntmps14
  go_wp2_with (at_builtin; refine wpList_append_row _ rfl (.const (.slice none 0 0)) (.tmp 7) 23 rfl (w.heap.size + 1) 5 i0 (.int .u8 0) 1 1 Try.underlying23 hi hz0 hz1 HZ2.out rfl (by omega) (.slice none 0 0) 0 [] rfl (World.ownsRow_nil _ _ _ _) _ _ n _ rfl hR (u8_one _) (by unfold maxLen; omega) (by omega) hbase ?_; intro v1 w1 hown1 hg1; simp only [Nat.zero_add, List.nil_append] at hown1; have k1 : Below (w.heap.size + 1) (w.alloc (.cells #[.int .i64 (k : Int), .int .i64 1, .int .u32 v] 38)) w1 := Below.grown (Below.refl _ _) hg1 hbase (fun k hk => by cases hk); have d0 := below_cell k1 (Nat.lt_succ_self _) c0; have d1 := below_cell k1 (Nat.lt_succ_self _) c1; have d2 := below_cell k1 (Nat.lt_succ_self _) c2; obtain ⟨g, cap, rfl, hg0, hgs⟩ := own_form hown1 (by omega); have q0 := own_u8 hown1 k (by omega); have f0 := hown1.frozenAt k)
  refine (refCheck_any 1 k n _ (by omega) hk (by omega) (by omega)).mono ?_; rintro e w2 ⟨rfl, rfl⟩
  rw [HCK.out]
  go_wp2_with fail
  refine wp_loop_rounds 2 ?_
  iterate 2 (rw [rounds_succ]; go_wp2_with fail)
  go_ret
  have o0 := (hown1.stored k (.int .u8 (v % 256))).1
  rw [← List.map_set] at o0
  refine ⟨_, rfl, own_base o0 (Nat.le_succ _), ?_⟩
  exact HW.out.trans (Below.setCell (k1.mono (Nat.le_succ _)) (by simp; omega) _)

set_option maxHeartbeats 2000000 in
theorem refStore_low2 (addr : Int) (h : Row w w.heap.size 1 (.slice A n c) n (zs.map (Value.int .u8))) (hn : n ≤ 140737488355328) (ha : addr < 0) :
    Calls Try.prog 14 #[.slice A n c, .agg #[.int .i64 addr, .int .i64 2, .int .u32 v]] w fun e w' => ∃ v', e = .returned v' ∧ w'.ownsRow w.heap.size 5 1 v' n ((zs).map (Value.int .u8)) ∧ Below w.heap.size w w' := by
  obtain ⟨i0, hi, hz0, hz1, hz2⟩ := info_parts info_u8
  have HZ2 := Lib.hid hz2
  clear hz2
  have hl : zs.length = n := by have := h.len; simpa using this
  obtain ⟨u1, u2⟩ := h.cap
  have hR := h.alloc (Nat.le_refl _) (.cells #[.int .i64 addr, .int .i64 2, .int .u32 v] 38)
  have hbase : w.heap.size + 1 ≤ (w.alloc (.cells #[.int .i64 addr, .int .i64 2, .int .u32 v] 38)).heap.size := by simp
  have HW := Lib.hid ((Below.refl w.heap.size w).alloc (Nat.le_refl _) (.cells #[.int .i64 addr, .int .i64 2, .int .u32 v] 38))
  have c0 : (w.alloc (.cells #[.int .i64 addr, .int .i64 2, .int .u32 v] 38)).cell? ⟨w.heap.size, 0, none⟩ = some (.int .i64 addr) := by go_simp
  have c1 : (w.alloc (.cells #[.int .i64 addr, .int .i64 2, .int .u32 v] 38)).cell? ⟨w.heap.size, 1, none⟩ = some (.int .i64 2) := by go_simp
  have c2 : (w.alloc (.cells #[.int .i64 addr, .int .i64 2, .int .u32 v] 38)).cell? ⟨w.heap.size, 2, none⟩ = some (.int .u32 v) := by go_simp
  go_enter Try.func14, Try.ntmps14
  go_wp2_with (at_builtin; refine wpList_append_row _ rfl (.const (.slice none 0 0)) (.tmp 7) 23 rfl (w.heap.size + 1) 5 i0 (.int .u8 0) 1 1 Try.underlying23 hi hz0 hz1 HZ2.out rfl (by omega) (.slice none 0 0) 0 [] rfl (World.ownsRow_nil _ _ _ _) _ _ n _ rfl hR (u8_one _) (by unfold maxLen; omega) (by omega) hbase ?_; intro v1 w1 hown1 hg1; simp only [Nat.zero_add, List.nil_append] at hown1; have k1 : Below (w.heap.size + 1) (w.alloc (.cells #[.int .i64 addr, .int .i64 2, .int .u32 v] 38)) w1 := Below.grown (Below.refl _ _) hg1 hbase (fun k hk => by cases hk); have d0 := below_cell k1 (Nat.lt_succ_self _) c0; have d1 := below_cell k1 (Nat.lt_succ_self _) c1; have d2 := below_cell k1 (Nat.lt_succ_self _) c2)
  go_ret
  exact ⟨_, rfl, own_base hown1 (Nat.le_succ _), HW.out.trans (k1.mono (Nat.le_succ _))⟩

set_option maxHeartbeats 2000000 in
theorem refStore_high2 (addr : Int) (h : Row w w.heap.size 1 (.slice A n c) n (zs.map (Value.int .u8))) (hn : n ≤ 140737488355328) (ha : 4294967295 < addr) :
    Calls Try.prog 14 #[.slice A n c, .agg #[.int .i64 addr, .int .i64 2, .int .u32 v]] w fun e w' => ∃ v', e = .returned v' ∧ w'.ownsRow w.heap.size 5 1 v' n ((zs).map (Value.int .u8)) ∧ Below w.heap.size w w' := by
  obtain ⟨i0, hi, hz0, hz1, hz2⟩ := info_parts info_u8
  have HZ2 := Lib.hid hz2
  clear hz2
  have hl : zs.length = n := by have := h.len; simpa using this
  obtain ⟨u1, u2⟩ := h.cap
  have hR := h.alloc (Nat.le_refl _) (.cells #[.int .i64 addr, .int .i64 2, .int .u32 v] 38)
  have hbase : w.heap.size + 1 ≤ (w.alloc (.cells #[.int .i64 addr, .int .i64 2, .int .u32 v] 38)).heap.size := by simp
  have HW := Lib.hid ((Below.refl w.heap.size w).alloc (Nat.le_refl _) (.cells #[.int .i64 addr, .int .i64 2, .int .u32 v] 38))
  have c0 : (w.alloc (.cells #[.int .i64 addr, .int .i64 2, .int .u32 v] 38)).cell? ⟨w.heap.size, 0, none⟩ = some (.int .i64 addr) := by go_simp
  have c1 : (w.alloc (.cells #[.int .i64 addr, .int .i64 2, .int .u32 v] 38)).cell? ⟨w.heap.size, 1, none⟩ = some (.int .i64 2) := by go_simp
  have c2 : (w.alloc (.cells #[.int .i64 addr, .int .i64 2, .int .u32 v] 38)).cell? ⟨w.heap.size, 2, none⟩ = some (.int .u32 v) := by go_simp
  go_enter Try.func14, Try.ntmps14
  go_wp2_with (at_builtin; refine wpList_append_row _ rfl (.const (.slice none 0 0)) (.tmp 7) 23 rfl (w.heap.size + 1) 5 i0 (.int .u8 0) 1 1 Try.underlying23 hi hz0 hz1 HZ2.out rfl (by omega) (.slice none 0 0) 0 [] rfl (World.ownsRow_nil _ _ _ _) _ _ n _ rfl hR (u8_one _) (by unfold maxLen; omega) (by omega) hbase ?_; intro v1 w1 hown1 hg1; simp only [Nat.zero_add, List.nil_append] at hown1; have k1 : Below (w.heap.size + 1) (w.alloc (.cells #[.int .i64 addr, .int .i64 2, .int .u32 v] 38)) w1 := Below.grown (Below.refl _ _) hg1 hbase (fun k hk => by cases hk); have d0 := below_cell k1 (Nat.lt_succ_self _) c0; have d1 := below_cell k1 (Nat.lt_succ_self _) c1; have d2 := below_cell k1 (Nat.lt_succ_self _) c2)
  go_ret
  exact ⟨_, rfl, own_base hown1 (Nat.le_succ _), HW.out.trans (k1.mono (Nat.le_succ _))⟩

set_option maxHeartbeats 2000000 in
theorem refStore_bad2 (addr : Int) (h : Row w w.heap.size 1 (.slice A n c) n (zs.map (Value.int .u8))) (hn : n ≤ 140737488355328) (h0 : 0 ≤ addr) (h1 : addr ≤ 4294967295) (hck : checkZ 2 addr n ≠ 0) :
    Calls Try.prog 14 #[.slice A n c, .agg #[.int .i64 addr, .int .i64 2, .int .u32 v]] w fun e w' => ∃ v', e = .returned v' ∧ w'.ownsRow w.heap.size 5 1 v' n ((zs).map (Value.int .u8)) ∧ Below w.heap.size w w' := by
  obtain ⟨i0, hi, hz0, hz1, hz2⟩ := info_parts info_u8
  have HZ2 := Lib.hid hz2
  clear hz2
  have hl : zs.length = n := by have := h.len; simpa using this
  obtain ⟨u1, u2⟩ := h.cap
  have hR := h.alloc (Nat.le_refl _) (.cells #[.int .i64 addr, .int .i64 2, .int .u32 v] 38)
  have hbase : w.heap.size + 1 ≤ (w.alloc (.cells #[.int .i64 addr, .int .i64 2, .int .u32 v] 38)).heap.size := by simp
  have HW := Lib.hid ((Below.refl w.heap.size w).alloc (Nat.le_refl _) (.cells #[.int .i64 addr, .int .i64 2, .int .u32 v] 38))
  have c0 : (w.alloc (.cells #[.int .i64 addr, .int .i64 2, .int .u32 v] 38)).cell? ⟨w.heap.size, 0, none⟩ = some (.int .i64 addr) := by go_simp
  have c1 : (w.alloc (.cells #[.int .i64 addr, .int .i64 2, .int .u32 v] 38)).cell? ⟨w.heap.size, 1, none⟩ = some (.int .i64 2) := by go_simp
  have c2 : (w.alloc (.cells #[.int .i64 addr, .int .i64 2, .int .u32 v] 38)).cell? ⟨w.heap.size, 2, none⟩ = some (.int .u32 v) := by go_simp
  have e1 : (checkZ 2 addr n != 0) = true := by simp; exact hck
  have e2 : addr % 4294967296 = addr := by omega
  clear hck
  go_enter Try.func14, Try.ntmps14
  go_wp2_with (at_builtin; refine wpList_append_row _ rfl (.const (.slice none 0 0)) (.tmp 7) 23 rfl (w.heap.size + 1) 5 i0 (.int .u8 0) 1 1 Try.underlying23 hi hz0 hz1 HZ2.out rfl (by omega) (.slice none 0 0) 0 [] rfl (World.ownsRow_nil _ _ _ _) _ _ n _ rfl hR (u8_one _) (by unfold maxLen; omega) (by omega) hbase ?_; intro v1 w1 hown1 hg1; simp only [Nat.zero_add, List.nil_append] at hown1; have k1 : Below (w.heap.size + 1) (w.alloc (.cells #[.int .i64 addr, .int .i64 2, .int .u32 v] 38)) w1 := Below.grown (Below.refl _ _) hg1 hbase (fun k hk => by cases hk); have d0 := below_cell k1 (Nat.lt_succ_self _) c0; have d1 := below_cell k1 (Nat.lt_succ_self _) c1; have d2 := below_cell k1 (Nat.lt_succ_self _) c2)
  refine (refCheck_any 2 addr n _ h0 h1 (by omega) (by omega)).mono ?_; rintro e w2 ⟨rfl, rfl⟩
  go_wp2_with fail
  go_ret
  exact ⟨_, rfl, own_base hown1 (Nat.le_succ _), HW.out.trans (k1.mono (Nat.le_succ _))⟩

set_option maxHeartbeats 4000000 in
theorem refStore_yes2 (k : Nat) (h : Row w w.heap.size 1 (.slice A n c) n (zs.map (Value.int .u8))) (hn : n ≤ 140737488355328) (hk : (k : Int) ≤ 4294967295) (hv : 0 ≤ v ∧ v ≤ 4294967295) (hck : checkZ 2 k n = 0) :
    Calls Try.prog 14 #[.slice A n c, .agg #[.int .i64 (k : Int), .int .i64 2, .int .u32 v]] w fun e w' => ∃ v', e = .returned v' ∧ w'.ownsRow w.heap.size 5 1 v' n ((put2 zs k v).map (Value.int .u8)) ∧ Below w.heap.size w w' := by
  obtain ⟨_, hr⟩ := checkZ_zero hck
  have HCK := Lib.hid hck
  have hkn : k + 1 < n := by omega
  have hk0 : (0 : Int) ≤ k := by omega
  obtain ⟨v0, v9⟩ := hv
  clear hck
  obtain ⟨i0, hi, hz0, hz1, hz2⟩ := info_parts info_u8
  have HZ2 := Lib.hid hz2
  clear hz2
  have hl : zs.length = n := by have := h.len; simpa using this
  obtain ⟨u1, u2⟩ := h.cap
  have hR := h.alloc (Nat.le_refl _) (.cells #[.int .i64 (k : Int), .int .i64 2, .int .u32 v] 38)
  have hbase : w.heap.size + 1 ≤ (w.alloc (.cells #[.int .i64 (k : Int), .int .i64 2, .int .u32 v] 38)).heap.size := by simp
  have HW := Lib.hid ((Below.refl w.heap.size w).alloc (Nat.le_refl _) (.cells #[.int .i64 (k : Int), .int .i64 2, .int .u32 v] 38))
  have c0 : (w.alloc (.cells #[.int .i64 (k : Int), .int .i64 2, .int .u32 v] 38)).cell? ⟨w.heap.size, 0, none⟩ = some (.int .i64 (k : Int)) := by go_simp
  have c1 : (w.alloc (.cells #[.int .i64 (k : Int), .int .i64 2, .int .u32 v] 38)).cell? ⟨w.heap.size, 1, none⟩ = some (.int .i64 2) := by go_simp
  have c2 : (w.alloc (.cells #[.int .i64 (k : Int), .int .i64 2, .int .u32 v] 38)).cell? ⟨w.heap.size, 2, none⟩ = some (.int .u32 v) := by go_simp
  have e2 : (k : Int) % 4294967296 = k := by omega
  go_enter Try.func14, Try.ntmps14
  go_wp2_with (at_builtin; refine wpList_append_row _ rfl (.const (.slice none 0 0)) (.tmp 7) 23 rfl (w.heap.size + 1) 5 i0 (.int .u8 0) 1 1 Try.underlying23 hi hz0 hz1 HZ2.out rfl (by omega) (.slice none 0 0) 0 [] rfl (World.ownsRow_nil _ _ _ _) _ _ n _ rfl hR (u8_one _) (by unfold maxLen; omega) (by omega) hbase ?_; intro v1 w1 hown1 hg1; simp only [Nat.zero_add, List.nil_append] at hown1; have k1 : Below (w.heap.size + 1) (w.alloc (.cells #[.int .i64 (k : Int), .int .i64 2, .int .u32 v] 38)) w1 := Below.grown (Below.refl _ _) hg1 hbase (fun k hk => by cases hk); have d0 := below_cell k1 (Nat.lt_succ_self _) c0; have d1 := below_cell k1 (Nat.lt_succ_self _) c1; have d2 := below_cell k1 (Nat.lt_succ_self _) c2; obtain ⟨g, cap, rfl, hg0, hgs⟩ := own_form hown1 (by omega); have q0 := own_u8 hown1 k (by omega); have f0 := hown1.frozenAt k; have q1 := own_u8 hown1 (k + 1) (by omega); have f1 := hown1.frozenAt (k + 1))
  refine (refCheck_any 2 k n _ (by omega) hk (by omega) (by omega)).mono ?_; rintro e w2 ⟨rfl, rfl⟩
  rw [HCK.out]
  go_wp2_with fail
  refine wp_loop_rounds 3 ?_
  iterate 3 (rw [rounds_succ]; go_wp2_with fail)
  go_ret
  have o0 := (hown1.stored k (.int .u8 (v % 256))).1
  rw [← List.map_set] at o0
  have o1 := (o0.stored (k + 1) (.int .u8 (v / 256 % 256))).1
  rw [← List.map_set] at o1
  refine ⟨_, rfl, own_base o1 (Nat.le_succ _), ?_⟩
  exact HW.out.trans (Below.setCell (Below.setCell (k1.mono (Nat.le_succ _)) (by simp; omega) _) (by simp; omega) _)

set_option maxHeartbeats 2000000 in
theorem refStore_low4 (addr : Int) (h : Row w w.heap.size 1 (.slice A n c) n (zs.map (Value.int .u8))) (hn : n ≤ 140737488355328) (ha : addr < 0) :
    Calls Try.prog 14 #[.slice A n c, .agg #[.int .i64 addr, .int .i64 4, .int .u32 v]] w fun e w' => ∃ v', e = .returned v' ∧ w'.ownsRow w.heap.size 5 1 v' n ((zs).map (Value.int .u8)) ∧ Below w.heap.size w w' := by
  obtain ⟨i0, hi, hz0, hz1, hz2⟩ := info_parts info_u8
  have HZ2 := Lib.hid hz2
  clear hz2
  have hl : zs.length = n := by have := h.len; simpa using this
  obtain ⟨u1, u2⟩ := h.cap
  have hR := h.alloc (Nat.le_refl _) (.cells #[.int .i64 addr, .int .i64 4, .int .u32 v] 38)
  have hbase : w.heap.size + 1 ≤ (w.alloc (.cells #[.int .i64 addr, .int .i64 4, .int .u32 v] 38)).heap.size := by simp
  have HW := Lib.hid ((Below.refl w.heap.size w).alloc (Nat.le_refl _) (.cells #[.int .i64 addr, .int .i64 4, .int .u32 v] 38))
  have c0 : (w.alloc (.cells #[.int .i64 addr, .int .i64 4, .int .u32 v] 38)).cell? ⟨w.heap.size, 0, none⟩ = some (.int .i64 addr) := by go_simp
  have c1 : (w.alloc (.cells #[.int .i64 addr, .int .i64 4, .int .u32 v] 38)).cell? ⟨w.heap.size, 1, none⟩ = some (.int .i64 4) := by go_simp
  have c2 : (w.alloc (.cells #[.int .i64 addr, .int .i64 4, .int .u32 v] 38)).cell? ⟨w.heap.size, 2, none⟩ = some (.int .u32 v) := by go_simp
  go_enter Try.func14, Try.ntmps14
  go_wp2_with (at_builtin; refine wpList_append_row _ rfl (.const (.slice none 0 0)) (.tmp 7) 23 rfl (w.heap.size + 1) 5 i0 (.int .u8 0) 1 1 Try.underlying23 hi hz0 hz1 HZ2.out rfl (by omega) (.slice none 0 0) 0 [] rfl (World.ownsRow_nil _ _ _ _) _ _ n _ rfl hR (u8_one _) (by unfold maxLen; omega) (by omega) hbase ?_; intro v1 w1 hown1 hg1; simp only [Nat.zero_add, List.nil_append] at hown1; have k1 : Below (w.heap.size + 1) (w.alloc (.cells #[.int .i64 addr, .int .i64 4, .int .u32 v] 38)) w1 := Below.grown (Below.refl _ _) hg1 hbase (fun k hk => by cases hk); have d0 := below_cell k1 (Nat.lt_succ_self _) c0; have d1 := below_cell k1 (Nat.lt_succ_self _) c1; have d2 := below_cell k1 (Nat.lt_succ_self _) c2)
  go_ret
  exact ⟨_, rfl, own_base hown1 (Nat.le_succ _), HW.out.trans (k1.mono (Nat.le_succ _))⟩

set_option maxHeartbeats 2000000 in
theorem refStore_high4 (addr : Int) (h : Row w w.heap.size 1 (.slice A n c) n (zs.map (Value.int .u8))) (hn : n ≤ 140737488355328) (ha : 4294967295 < addr) :
    Calls Try.prog 14 #[.slice A n c, .agg #[.int .i64 addr, .int .i64 4, .int .u32 v]] w fun e w' => ∃ v', e = .returned v' ∧ w'.ownsRow w.heap.size 5 1 v' n ((zs).map (Value.int .u8)) ∧ Below w.heap.size w w' := by
  obtain ⟨i0, hi, hz0, hz1, hz2⟩ := info_parts info_u8
  have HZ2 := Lib.hid hz2
  clear hz2
  have hl : zs.length = n := by have := h.len; simpa using this
  obtain ⟨u1, u2⟩ := h.cap
  have hR := h.alloc (Nat.le_refl _) (.cells #[.int .i64 addr, .int .i64 4, .int .u32 v] 38)
  have hbase : w.heap.size + 1 ≤ (w.alloc (.cells #[.int .i64 addr, .int .i64 4, .int .u32 v] 38)).heap.size := by simp
  have HW := Lib.hid ((Below.refl w.heap.size w).alloc (Nat.le_refl _) (.cells #[.int .i64 addr, .int .i64 4, .int .u32 v] 38))
  have c0 : (w.alloc (.cells #[.int .i64 addr, .int .i64 4, .int .u32 v] 38)).cell? ⟨w.heap.size, 0, none⟩ = some (.int .i64 addr) := by go_simp
  have c1 : (w.alloc (.cells #[.int .i64 addr, .int .i64 4, .int .u32 v] 38)).cell? ⟨w.heap.size, 1, none⟩ = some (.int .i64 4) := by go_simp
  have c2 : (w.alloc (.cells #[.int .i64 addr, .int .i64 4, .int .u32 v] 38)).cell? ⟨w.heap.size, 2, none⟩ = some (.int .u32 v) := by go_simp
  go_enter Try.func14, Try.ntmps14
  go_wp2_with (at_builtin; refine wpList_append_row _ rfl (.const (.slice none 0 0)) (.tmp 7) 23 rfl (w.heap.size + 1) 5 i0 (.int .u8 0) 1 1 Try.underlying23 hi hz0 hz1 HZ2.out rfl (by omega) (.slice none 0 0) 0 [] rfl (World.ownsRow_nil _ _ _ _) _ _ n _ rfl hR (u8_one _) (by unfold maxLen; omega) (by omega) hbase ?_; intro v1 w1 hown1 hg1; simp only [Nat.zero_add, List.nil_append] at hown1; have k1 : Below (w.heap.size + 1) (w.alloc (.cells #[.int .i64 addr, .int .i64 4, .int .u32 v] 38)) w1 := Below.grown (Below.refl _ _) hg1 hbase (fun k hk => by cases hk); have d0 := below_cell k1 (Nat.lt_succ_self _) c0; have d1 := below_cell k1 (Nat.lt_succ_self _) c1; have d2 := below_cell k1 (Nat.lt_succ_self _) c2)
  go_ret
  exact ⟨_, rfl, own_base hown1 (Nat.le_succ _), HW.out.trans (k1.mono (Nat.le_succ _))⟩

set_option maxHeartbeats 2000000 in
theorem refStore_bad4 (addr : Int) (h : Row w w.heap.size 1 (.slice A n c) n (zs.map (Value.int .u8))) (hn : n ≤ 140737488355328) (h0 : 0 ≤ addr) (h1 : addr ≤ 4294967295) (hck : checkZ 4 addr n ≠ 0) :
    Calls Try.prog 14 #[.slice A n c, .agg #[.int .i64 addr, .int .i64 4, .int .u32 v]] w fun e w' => ∃ v', e = .returned v' ∧ w'.ownsRow w.heap.size 5 1 v' n ((zs).map (Value.int .u8)) ∧ Below w.heap.size w w' := by
  obtain ⟨i0, hi, hz0, hz1, hz2⟩ := info_parts info_u8
  have HZ2 := Lib.hid hz2
  clear hz2
  have hl : zs.length = n := by have := h.len; simpa using this
  obtain ⟨u1, u2⟩ := h.cap
  have hR := h.alloc (Nat.le_refl _) (.cells #[.int .i64 addr, .int .i64 4, .int .u32 v] 38)
  have hbase : w.heap.size + 1 ≤ (w.alloc (.cells #[.int .i64 addr, .int .i64 4, .int .u32 v] 38)).heap.size := by simp
  have HW := Lib.hid ((Below.refl w.heap.size w).alloc (Nat.le_refl _) (.cells #[.int .i64 addr, .int .i64 4, .int .u32 v] 38))
  have c0 : (w.alloc (.cells #[.int .i64 addr, .int .i64 4, .int .u32 v] 38)).cell? ⟨w.heap.size, 0, none⟩ = some (.int .i64 addr) := by go_simp
  have c1 : (w.alloc (.cells #[.int .i64 addr, .int .i64 4, .int .u32 v] 38)).cell? ⟨w.heap.size, 1, none⟩ = some (.int .i64 4) := by go_simp
  have c2 : (w.alloc (.cells #[.int .i64 addr, .int .i64 4, .int .u32 v] 38)).cell? ⟨w.heap.size, 2, none⟩ = some (.int .u32 v) := by go_simp
  have e1 : (checkZ 4 addr n != 0) = true := by simp; exact hck
  have e2 : addr % 4294967296 = addr := by omega
  clear hck
  go_enter Try.func14, Try.ntmps14
  go_wp2_with (at_builtin; refine wpList_append_row _ rfl (.const (.slice none 0 0)) (.tmp 7) 23 rfl (w.heap.size + 1) 5 i0 (.int .u8 0) 1 1 Try.underlying23 hi hz0 hz1 HZ2.out rfl (by omega) (.slice none 0 0) 0 [] rfl (World.ownsRow_nil _ _ _ _) _ _ n _ rfl hR (u8_one _) (by unfold maxLen; omega) (by omega) hbase ?_; intro v1 w1 hown1 hg1; simp only [Nat.zero_add, List.nil_append] at hown1; have k1 : Below (w.heap.size + 1) (w.alloc (.cells #[.int .i64 addr, .int .i64 4, .int .u32 v] 38)) w1 := Below.grown (Below.refl _ _) hg1 hbase (fun k hk => by cases hk); have d0 := below_cell k1 (Nat.lt_succ_self _) c0; have d1 := below_cell k1 (Nat.lt_succ_self _) c1; have d2 := below_cell k1 (Nat.lt_succ_self _) c2)
  refine (refCheck_any 4 addr n _ h0 h1 (by omega) (by omega)).mono ?_; rintro e w2 ⟨rfl, rfl⟩
  go_wp2_with fail
  go_ret
  exact ⟨_, rfl, own_base hown1 (Nat.le_succ _), HW.out.trans (k1.mono (Nat.le_succ _))⟩

set_option maxHeartbeats 4000000 in
theorem refStore_yes4 (k : Nat) (h : Row w w.heap.size 1 (.slice A n c) n (zs.map (Value.int .u8))) (hn : n ≤ 140737488355328) (hk : (k : Int) ≤ 4294967295) (hv : 0 ≤ v ∧ v ≤ 4294967295) (hck : checkZ 4 k n = 0) :
    Calls Try.prog 14 #[.slice A n c, .agg #[.int .i64 (k : Int), .int .i64 4, .int .u32 v]] w fun e w' => ∃ v', e = .returned v' ∧ w'.ownsRow w.heap.size 5 1 v' n ((put4 zs k v).map (Value.int .u8)) ∧ Below w.heap.size w w' := by
  obtain ⟨_, hr⟩ := checkZ_zero hck
  have HCK := Lib.hid hck
  have hkn : k + 3 < n := by omega
  have hk0 : (0 : Int) ≤ k := by omega
  obtain ⟨v0, v9⟩ := hv
  clear hck
  obtain ⟨i0, hi, hz0, hz1, hz2⟩ := info_parts info_u8
  have HZ2 := Lib.hid hz2
  clear hz2
  have hl : zs.length = n := by have := h.len; simpa using this
  obtain ⟨u1, u2⟩ := h.cap
  have hR := h.alloc (Nat.le_refl _) (.cells #[.int .i64 (k : Int), .int .i64 4, .int .u32 v] 38)
  have hbase : w.heap.size + 1 ≤ (w.alloc (.cells #[.int .i64 (k : Int), .int .i64 4, .int .u32 v] 38)).heap.size := by simp
  have HW := Lib.hid ((Below.refl w.heap.size w).alloc (Nat.le_refl _) (.cells #[.int .i64 (k : Int), .int .i64 4, .int .u32 v] 38))
  have c0 : (w.alloc (.cells #[.int .i64 (k : Int), .int .i64 4, .int .u32 v] 38)).cell? ⟨w.heap.size, 0, none⟩ = some (.int .i64 (k : Int)) := by go_simp
  have c1 : (w.alloc (.cells #[.int .i64 (k : Int), .int .i64 4, .int .u32 v] 38)).cell? ⟨w.heap.size, 1, none⟩ = some (.int .i64 4) := by go_simp
  have c2 : (w.alloc (.cells #[.int .i64 (k : Int), .int .i64 4, .int .u32 v] 38)).cell? ⟨w.heap.size, 2, none⟩ = some (.int .u32 v) := by go_simp
  have e2 : (k : Int) % 4294967296 = k := by omega
  go_enter Try.func14, Try.ntmps14
  go_wp2_with (at_builtin; refine wpList_append_row _ rfl (.const (.slice none 0 0)) (.tmp 7) 23 rfl (w.heap.size + 1) 5 i0 (.int .u8 0) 1 1 Try.underlying23 hi hz0 hz1 HZ2.out rfl (by omega) (.slice none 0 0) 0 [] rfl (World.ownsRow_nil _ _ _ _) _ _ n _ rfl hR (u8_one _) (by unfold maxLen; omega) (by omega) hbase ?_; intro v1 w1 hown1 hg1; simp only [Nat.zero_add, List.nil_append] at hown1; have k1 : Below (w.heap.size + 1) (w.alloc (.cells #[.int .i64 (k : Int), .int .i64 4, .int .u32 v] 38)) w1 := Below.grown (Below.refl _ _) hg1 hbase (fun k hk => by cases hk); have d0 := below_cell k1 (Nat.lt_succ_self _) c0; have d1 := below_cell k1 (Nat.lt_succ_self _) c1; have d2 := below_cell k1 (Nat.lt_succ_self _) c2; obtain ⟨g, cap, rfl, hg0, hgs⟩ := own_form hown1 (by omega); have q0 := own_u8 hown1 k (by omega); have f0 := hown1.frozenAt k; have q1 := own_u8 hown1 (k + 1) (by omega); have f1 := hown1.frozenAt (k + 1); have q2 := own_u8 hown1 (k + 2) (by omega); have f2 := hown1.frozenAt (k + 2); have q3 := own_u8 hown1 (k + 3) (by omega); have f3 := hown1.frozenAt (k + 3))
  refine (refCheck_any 4 k n _ (by omega) hk (by omega) (by omega)).mono ?_; rintro e w2 ⟨rfl, rfl⟩
  rw [HCK.out]
  go_wp2_with fail
  refine wp_loop_rounds 5 ?_
  iterate 5 (rw [rounds_succ]; go_wp2_with fail)
  go_ret
  have o0 := (hown1.stored k (.int .u8 (v % 256))).1
  rw [← List.map_set] at o0
  have o1 := (o0.stored (k + 1) (.int .u8 (v / 256 % 256))).1
  rw [← List.map_set] at o1
  have o2 := (o1.stored (k + 2) (.int .u8 (v / 65536 % 256))).1
  rw [← List.map_set] at o2
  have o3 := (o2.stored (k + 3) (.int .u8 (v / 16777216))).1
  rw [← List.map_set] at o3
  rw [show put4 zs k v = ((put2 zs k v).set (k + 2) (v / 65536 % 256)).set (k + 3) (v / 16777216) by unfold put4; rw [show v / 16777216 % 256 = v / 16777216 by omega]]
  refine ⟨_, rfl, own_base o3 (Nat.le_succ _), ?_⟩
  exact HW.out.trans (Below.setCell (Below.setCell (Below.setCell (Below.setCell (k1.mono (Nat.le_succ _)) (by simp; omega) _) (by simp; omega) _) (by simp; omega) _) (by simp; omega) _)

theorem refStore_any (size addr : Int) (h : Row w w.heap.size 1 (.slice A n c) n (zs.map (Value.int .u8))) (hn : n ≤ 140737488355328) (hs : -9223372036854775808 ≤ size ∧ size ≤ 9223372036854775807) (ha : -9223372036854775808 ≤ addr ∧ addr ≤ 9223372036854775807) (hv : 0 ≤ v ∧ v ≤ 4294967295) :
    Calls Try.prog 14 #[.slice A n c, .agg #[.int .i64 addr, .int .i64 size, .int .u32 v]] w fun e w' => ∃ v', e = .returned v' ∧ w'.ownsRow w.heap.size 5 1 v' n ((storeZ zs size addr v).map (Value.int .u8)) ∧ Below w.heap.size w w' := by
  have hl : zs.length = n := by have := h.len; simpa using this
  by_cases hq : size ≠ 1 ∧ size ≠ 2 ∧ size ≠ 4
  · rw [storeZ_no (storeOk_no (by omega))]
    exact refStore_size A c n zs v w size addr h hn hs hq
  have hsz : size = 1 ∨ size = 2 ∨ size = 4 := by omega
  by_cases hlow : addr < 0
  · rw [storeZ_no (storeOk_no (by omega))]
    rcases hsz with rfl | rfl | rfl
    · exact refStore_low1 A c n zs v w addr h hn hlow
    · exact refStore_low2 A c n zs v w addr h hn hlow
    · exact refStore_low4 A c n zs v w addr h hn hlow
  by_cases hhigh : 4294967295 < addr
  · rw [storeZ_no (storeOk_no (by omega))]
    rcases hsz with rfl | rfl | rfl
    · exact refStore_high1 A c n zs v w addr h hn hhigh
    · exact refStore_high2 A c n zs v w addr h hn hhigh
    · exact refStore_high4 A c n zs v w addr h hn hhigh
  by_cases hck : checkZ size addr n = 0
  · have hok : storeOk size addr zs.length = true := decide_eq_true ⟨hsz, by omega, by omega, by rw [hl]; exact hck⟩
    obtain ⟨k, rfl⟩ := Int.eq_ofNat_of_zero_le (show 0 ≤ addr by omega)
    unfold storeZ
    rw [if_pos hok]
    rcases hsz with rfl | rfl | rfl
    · exact refStore_yes1 A c n zs v w k h hn (by omega) hv hck
    · exact refStore_yes2 A c n zs v w k h hn (by omega) hv hck
    · exact refStore_yes4 A c n zs v w k h hn (by omega) hv hck
  · rw [storeZ_no (storeOk_no (by rw [hl]; exact fun g => hck g.2.2.2))]
    rcases hsz with rfl | rfl | rfl
    · exact refStore_bad1 A c n zs v w addr h hn (by omega) (by omega) hck
    · exact refStore_bad2 A c n zs v w addr h hn (by omega) (by omega) hck
    · exact refStore_bad4 A c n zs v w addr h hn (by omega) (by omega) hck
end
end Go.Proofs.Ytdjllgdeijdieaa.Words

/- Contract of the document's own Get. -/
namespace Go.Proofs.Ytdjllgdeijdieaa.Words
set_option maxRecDepth 100000
open Go.RowKit

end Go.Proofs.Ytdjllgdeijdieaa.Words

/- Contract of the document's own Put. -/
namespace Go.Proofs.Ytdjllgdeijdieaa.Words
set_option maxRecDepth 100000
open Go.RowKit

/-- The document's own Put appends to what it is handed: here to a slice of the caller's own blocks (from 'base' on). -/
theorem refPut_any {w : World} {base : Nat} {v : Value} {n : Nat} {xs : List Value} (x : Int) (h0 : 0 ≤ x) (h1 : x < 4294967296)
    (hown : w.ownsRow base 5 1 v n xs) (hbase : base ≤ w.heap.size) (hb : n + 4 ≤ 140737488355328) :
    Calls Try.prog 15 #[v, .int .u32 x] w fun e w' =>
      ∃ v', e = .returned v' ∧ w'.ownsRow base 5 1 v' (n + 4) (xs ++ quad x) ∧ Below base w w' := by
  obtain ⟨i0, hi, hz0, hz1, hz2⟩ := info_parts info_u8
  have HZ := Lib.hid hz2
  clear hz2
  have hge : ∀ k, v.ownBlock = some k → base ≤ k := fun k hk => (hown.lt k hk).1
  have HG := Lib.hid hge
  clear hge
  go_enter Try.func15, Try.ntmps15
  go_wp2_with (at_builtin; refine wpList_append_own _ rfl (.tmp 5) (.tmp 17) 23 rfl base 5 i0 (.int .u8 0) 1 1 Try.underlying23 hi hz0 hz1 HZ.out rfl (by omega) v n xs rfl (hown.alloc _) ⟨w.heap.size, 0, none⟩ 4 4 (quad x) rfl (quad_len x) (new_cells w _ _ _ rfl) (quad_one x) (by unfold maxLen; omega) (by omega) (by simp; omega) ?_; intro v' w1 hown1 hg1 _)
  go_ret
  exact ⟨_, rfl, hown1, ((Below.refl _ _).alloc hbase _).grown hg1 (by simp; omega) HG.out⟩
end Go.Proofs.Ytdjllgdeijdieaa.Words

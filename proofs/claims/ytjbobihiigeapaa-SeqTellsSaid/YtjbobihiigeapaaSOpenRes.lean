/- An argument that is a result (a struct of ints, sixteen words and two slices, by value): its plain data. -/
import Derived.Test.YtjbobihiigeapaaSOpenProg
import Derived.Test.YtjbobihiigeapaaG01
namespace Go.Proofs.Ytjbobihiigeapaa.Words
set_option maxRecDepth 100000
open Go.ChangeShapes Go.WideShapes Go.ChangeAt Go.RowKit
set_option linter.unusedVariables false

instance : Inhabited Wr := ⟨⟨0, 0, 0⟩⟩

section
variable {H : Type} {enc : TypeId × Value → H} {w : World} {base : Nat} {spare : Nat → Bool} {held : Bool}

theorem wr_cells' {fuel : Nat} {cs : List Value} {x : DataW H × List MemPlace} (h : DataW.trod enc Try.prog w base spare held fuel 45 cs = some x) : ∃ i : Wr, i.Fits ∧ cs = wrL i := wr_cells h

/-- A slice of writes. -/
theorem open_writes {t : TypeId} (ht : Try.prog.underlying t = some (.slice 45)) {fuel : Nat} {cs : List Value} {x : DataW H × List MemPlace} (h : DataW.trod enc Try.prog w base spare held fuel t cs = some x) :
    ∃ (A : Option Addr) (c : Nat) (l : List Wr), cs = [.slice A l.length c] ∧ Row w w.heap.size 3 (.slice A l.length c) l.length (wsL l) ∧ ∀ i ∈ l, i.Fits := by
  have hC : Try.prog.cellsOf 45 = 3 := by kernel_rfl
  rcases Deep.open_slice ht h with ⟨rfl, _⟩ | ⟨a, len, cap, m, n, D, Pl, rfl, hb, hl, hm, hmm, _, hx⟩
  · exact ⟨none, 0, [], rfl, Row.nil _ _ _, by simp⟩
  rw [hC] at hx
  have hlm : len ≤ m := by rw [hmm]; split <;> omega
  obtain ⟨f, hf⟩ := Deep.choose_lt (α := Wr) (n := len) (p := fun i v => v.Fits ∧ w.cells? base (a.add (i * 3)) 3 = some (wrL v)) (fun i hi => by
    obtain ⟨cs', h1, h2⟩ := hx i (by omega)
    obtain ⟨v, hv, rfl⟩ := wr_cells' h2
    exact ⟨v, hv, h1⟩)
  have hlen : ((List.range len).map f).length = len := by simp
  refine ⟨some a, cap, (List.range len).map f, by rw [hlen], ?_, ?_⟩
  · rw [hlen]
    refine ⟨by rw [wsL_length, hlen], some a, cap, rfl, hl, by simpa [maxLen] using hm, (fun h => by cases h), fun hn => ?_⟩
    have hcell : ∀ k j u, k < len → j < 3 → (wrL (f k))[j]? = some u → w.cell? (a.add (k * 3 + j)) = some u := by
      intro k j u hk hj hu
      have h1 := (hf k hk).2
      obtain ⟨_, h2, h3⟩ := World.cells?_some h1
      have := h3 j hj
      rwa [Deep.add_add, hu] at this
    have h00 := hcell 0 0 (.int .i64 (f 0).addr) (by omega) (by omega) rfl
    obtain ⟨b, off, spot⟩ := a
    have hs : spot = none := by simpa [Addr.add] using World.cell?_spot h00
    subst hs
    refine ⟨b, off, rfl, ?_, fun j u hu => ?_⟩
    · rw [add_spot] at h00
      unfold World.cell? at h00
      rcases hh : w.heap[b]? with _ | o
      · simp [hh] at h00
      · exact (Array.getElem?_eq_some_iff.1 hh).1
    · have hj : j < len * 3 := by
        rw [List.getElem?_eq_some_iff] at hu
        obtain ⟨h, _⟩ := hu
        rw [wsL_length, hlen] at h; exact h
      have hk : j / 3 < len := by omega
      have hr : j % 3 < 3 := by omega
      have e : j / 3 * 3 + j % 3 = j := by omega
      have h5 := wsL_at ((List.range len).map f) (j / 3) (f (j / 3)) (range_map_get f len _ hk) (j % 3) hr
      rw [e, hu] at h5
      have := hcell (j / 3) (j % 3) u hk hr h5.symm
      rwa [e, add_spot] at this
  · intro i hi
    obtain ⟨k, hk, rfl⟩ := List.mem_map.1 hi
    exact (hf k (List.mem_range.1 hk)).1


theorem trap_cells {fuel : Nat} {cs : List Value} {x : DataW H × List MemPlace} (h : DataW.trod enc Try.prog w base spare held fuel 27 cs = some x) :
    ∃ a b c : Int, (-9223372036854775808 ≤ a ∧ a ≤ 9223372036854775807) ∧ (-9223372036854775808 ≤ b ∧ b ≤ 9223372036854775807) ∧ (-9223372036854775808 ≤ c ∧ c ≤ 9223372036854775807) ∧ cs = [.int .i64 a, .int .i64 b, .int .i64 c] := by
  obtain ⟨xs, n, _, _, hlen, hxl, hg⟩ := DataW.trod_struct Try.underlying27 h
  have hC : Try.prog.cellsOf 27 = 3 := by kernel_rfl
  have hc_int : Try.prog.cellsOf 3 = 1 := by kernel_rfl
  rw [hC] at hlen
  have hxl' : xs.length = 3 := hxl
  match cs, hlen with
  | [c0, c1, c2], _ =>
    have g0 : DataW.trod enc Try.prog w base spare held n 3 (([c0, c1, c2].drop 0).take 1) = some (xs[0]'(by omega)) := by rw [← List.getElem?_eq_getElem (by omega), ← hc_int]; exact hg 0 _ rfl
    obtain ⟨n0, e0, _, f0⟩ := DataW.trod_int Try.underlying3 g0
    have g1 : DataW.trod enc Try.prog w base spare held n 3 (([c0, c1, c2].drop 1).take 1) = some (xs[1]'(by omega)) := by rw [← List.getElem?_eq_getElem (by omega), ← hc_int]; exact hg 1 _ rfl
    obtain ⟨n1, e1, _, f1⟩ := DataW.trod_int Try.underlying3 g1
    have g2 : DataW.trod enc Try.prog w base spare held n 3 (([c0, c1, c2].drop 2).take 1) = some (xs[2]'(by omega)) := by rw [← List.getElem?_eq_getElem (by omega), ← hc_int]; exact hg 2 _ rfl
    obtain ⟨n2, e2, _, f2⟩ := DataW.trod_int Try.underlying3 g2
    simp only [List.drop_zero, List.take_succ_cons, List.take_zero, List.drop_succ_cons, List.cons.injEq, and_true] at e0 e1 e2
    subst e0 e1 e2
    exact ⟨n0, n1, n2, bounds_i64 f0, bounds_i64 f1, bounds_i64 f2, rfl⟩

theorem regs_cells {fuel : Nat} {cs : List Value} {x : DataW H × List MemPlace} (h : DataW.trod enc Try.prog w base spare held fuel 29 cs = some x) :
    ∃ l : List Int, l.length = 16 ∧ (∀ x ∈ l, 0 ≤ x ∧ x ≤ 4294967295) ∧ cs = l.map (Value.int .u32) := by
  obtain ⟨xs, n, _, _, hlen, hxl, hg⟩ := DataW.trod_array Try.underlying29 h
  have hC : Try.prog.cellsOf 29 = 16 := by kernel_rfl
  have hc : Try.prog.cellsOf 28 = 1 := by kernel_rfl
  rw [hC] at hlen
  have hxl' : xs.length = 16 := hxl
  match cs, hlen with
  | [r0, r1, r2, r3, r4, r5, r6, r7, r8, r9, r10, r11, r12, r13, r14, r15], _ =>
    have g0 : DataW.trod enc Try.prog w base spare held n 28 (([r0, r1, r2, r3, r4, r5, r6, r7, r8, r9, r10, r11, r12, r13, r14, r15].drop 0).take 1) = some (xs[0]'(by omega)) := by
      have := hg 0 (by omega)
      rw [hc] at this
      rwa [List.getElem?_eq_getElem (by omega)] at this
    obtain ⟨n0, e0, _, f0⟩ := DataW.trod_int Try.underlying28 g0
    have g1 : DataW.trod enc Try.prog w base spare held n 28 (([r0, r1, r2, r3, r4, r5, r6, r7, r8, r9, r10, r11, r12, r13, r14, r15].drop 1).take 1) = some (xs[1]'(by omega)) := by
      have := hg 1 (by omega)
      rw [hc] at this
      rwa [List.getElem?_eq_getElem (by omega)] at this
    obtain ⟨n1, e1, _, f1⟩ := DataW.trod_int Try.underlying28 g1
    have g2 : DataW.trod enc Try.prog w base spare held n 28 (([r0, r1, r2, r3, r4, r5, r6, r7, r8, r9, r10, r11, r12, r13, r14, r15].drop 2).take 1) = some (xs[2]'(by omega)) := by
      have := hg 2 (by omega)
      rw [hc] at this
      rwa [List.getElem?_eq_getElem (by omega)] at this
    obtain ⟨n2, e2, _, f2⟩ := DataW.trod_int Try.underlying28 g2
    have g3 : DataW.trod enc Try.prog w base spare held n 28 (([r0, r1, r2, r3, r4, r5, r6, r7, r8, r9, r10, r11, r12, r13, r14, r15].drop 3).take 1) = some (xs[3]'(by omega)) := by
      have := hg 3 (by omega)
      rw [hc] at this
      rwa [List.getElem?_eq_getElem (by omega)] at this
    obtain ⟨n3, e3, _, f3⟩ := DataW.trod_int Try.underlying28 g3
    have g4 : DataW.trod enc Try.prog w base spare held n 28 (([r0, r1, r2, r3, r4, r5, r6, r7, r8, r9, r10, r11, r12, r13, r14, r15].drop 4).take 1) = some (xs[4]'(by omega)) := by
      have := hg 4 (by omega)
      rw [hc] at this
      rwa [List.getElem?_eq_getElem (by omega)] at this
    obtain ⟨n4, e4, _, f4⟩ := DataW.trod_int Try.underlying28 g4
    have g5 : DataW.trod enc Try.prog w base spare held n 28 (([r0, r1, r2, r3, r4, r5, r6, r7, r8, r9, r10, r11, r12, r13, r14, r15].drop 5).take 1) = some (xs[5]'(by omega)) := by
      have := hg 5 (by omega)
      rw [hc] at this
      rwa [List.getElem?_eq_getElem (by omega)] at this
    obtain ⟨n5, e5, _, f5⟩ := DataW.trod_int Try.underlying28 g5
    have g6 : DataW.trod enc Try.prog w base spare held n 28 (([r0, r1, r2, r3, r4, r5, r6, r7, r8, r9, r10, r11, r12, r13, r14, r15].drop 6).take 1) = some (xs[6]'(by omega)) := by
      have := hg 6 (by omega)
      rw [hc] at this
      rwa [List.getElem?_eq_getElem (by omega)] at this
    obtain ⟨n6, e6, _, f6⟩ := DataW.trod_int Try.underlying28 g6
    have g7 : DataW.trod enc Try.prog w base spare held n 28 (([r0, r1, r2, r3, r4, r5, r6, r7, r8, r9, r10, r11, r12, r13, r14, r15].drop 7).take 1) = some (xs[7]'(by omega)) := by
      have := hg 7 (by omega)
      rw [hc] at this
      rwa [List.getElem?_eq_getElem (by omega)] at this
    obtain ⟨n7, e7, _, f7⟩ := DataW.trod_int Try.underlying28 g7
    have g8 : DataW.trod enc Try.prog w base spare held n 28 (([r0, r1, r2, r3, r4, r5, r6, r7, r8, r9, r10, r11, r12, r13, r14, r15].drop 8).take 1) = some (xs[8]'(by omega)) := by
      have := hg 8 (by omega)
      rw [hc] at this
      rwa [List.getElem?_eq_getElem (by omega)] at this
    obtain ⟨n8, e8, _, f8⟩ := DataW.trod_int Try.underlying28 g8
    have g9 : DataW.trod enc Try.prog w base spare held n 28 (([r0, r1, r2, r3, r4, r5, r6, r7, r8, r9, r10, r11, r12, r13, r14, r15].drop 9).take 1) = some (xs[9]'(by omega)) := by
      have := hg 9 (by omega)
      rw [hc] at this
      rwa [List.getElem?_eq_getElem (by omega)] at this
    obtain ⟨n9, e9, _, f9⟩ := DataW.trod_int Try.underlying28 g9
    have g10 : DataW.trod enc Try.prog w base spare held n 28 (([r0, r1, r2, r3, r4, r5, r6, r7, r8, r9, r10, r11, r12, r13, r14, r15].drop 10).take 1) = some (xs[10]'(by omega)) := by
      have := hg 10 (by omega)
      rw [hc] at this
      rwa [List.getElem?_eq_getElem (by omega)] at this
    obtain ⟨n10, e10, _, f10⟩ := DataW.trod_int Try.underlying28 g10
    have g11 : DataW.trod enc Try.prog w base spare held n 28 (([r0, r1, r2, r3, r4, r5, r6, r7, r8, r9, r10, r11, r12, r13, r14, r15].drop 11).take 1) = some (xs[11]'(by omega)) := by
      have := hg 11 (by omega)
      rw [hc] at this
      rwa [List.getElem?_eq_getElem (by omega)] at this
    obtain ⟨n11, e11, _, f11⟩ := DataW.trod_int Try.underlying28 g11
    have g12 : DataW.trod enc Try.prog w base spare held n 28 (([r0, r1, r2, r3, r4, r5, r6, r7, r8, r9, r10, r11, r12, r13, r14, r15].drop 12).take 1) = some (xs[12]'(by omega)) := by
      have := hg 12 (by omega)
      rw [hc] at this
      rwa [List.getElem?_eq_getElem (by omega)] at this
    obtain ⟨n12, e12, _, f12⟩ := DataW.trod_int Try.underlying28 g12
    have g13 : DataW.trod enc Try.prog w base spare held n 28 (([r0, r1, r2, r3, r4, r5, r6, r7, r8, r9, r10, r11, r12, r13, r14, r15].drop 13).take 1) = some (xs[13]'(by omega)) := by
      have := hg 13 (by omega)
      rw [hc] at this
      rwa [List.getElem?_eq_getElem (by omega)] at this
    obtain ⟨n13, e13, _, f13⟩ := DataW.trod_int Try.underlying28 g13
    have g14 : DataW.trod enc Try.prog w base spare held n 28 (([r0, r1, r2, r3, r4, r5, r6, r7, r8, r9, r10, r11, r12, r13, r14, r15].drop 14).take 1) = some (xs[14]'(by omega)) := by
      have := hg 14 (by omega)
      rw [hc] at this
      rwa [List.getElem?_eq_getElem (by omega)] at this
    obtain ⟨n14, e14, _, f14⟩ := DataW.trod_int Try.underlying28 g14
    have g15 : DataW.trod enc Try.prog w base spare held n 28 (([r0, r1, r2, r3, r4, r5, r6, r7, r8, r9, r10, r11, r12, r13, r14, r15].drop 15).take 1) = some (xs[15]'(by omega)) := by
      have := hg 15 (by omega)
      rw [hc] at this
      rwa [List.getElem?_eq_getElem (by omega)] at this
    obtain ⟨n15, e15, _, f15⟩ := DataW.trod_int Try.underlying28 g15
    simp only [List.drop_zero, List.take_succ_cons, List.take_zero, List.drop_succ_cons, List.cons.injEq, and_true] at e0 e1 e2 e3 e4 e5 e6 e7 e8 e9 e10 e11 e12 e13 e14 e15
    subst e0 e1 e2 e3 e4 e5 e6 e7 e8 e9 e10 e11 e12 e13 e14 e15
    refine ⟨[n0, n1, n2, n3, n4, n5, n6, n7, n8, n9, n10, n11, n12, n13, n14, n15], rfl, ?_, rfl⟩
    intro x hx
    simp only [List.mem_cons, List.not_mem_nil, or_false] at hx
    rcases hx with rfl | rfl | rfl | rfl | rfl | rfl | rfl | rfl | rfl | rfl | rfl | rfl | rfl | rfl | rfl | rfl
    · exact bounds_u32 f0
    · exact bounds_u32 f1
    · exact bounds_u32 f2
    · exact bounds_u32 f3
    · exact bounds_u32 f4
    · exact bounds_u32 f5
    · exact bounds_u32 f6
    · exact bounds_u32 f7
    · exact bounds_u32 f8
    · exact bounds_u32 f9
    · exact bounds_u32 f10
    · exact bounds_u32 f11
    · exact bounds_u32 f12
    · exact bounds_u32 f13
    · exact bounds_u32 f14
    · exact bounds_u32 f15

theorem open_res {r : Reach} {b0 : Nat} {v : Value} {d : DataW H} {ps : List MemPlace} (hval : Value.okWide Try.prog w r b0 32 v) (hd : DataW.Trod enc Try.prog w base (fun _ => true) held 32 v d ps) :
    ∃ (M : Option Addr) (m : Nat) (U : Option Addr) (u : Nat) (z : Res), z.Fits ∧ v = .agg (resL z (.slice M z.mem.length m) (.slice U z.ws.length u)).toArray ∧ ResV w w.heap.size (.slice M z.mem.length m) (.slice U z.ws.length u) z := by
  obtain ⟨cs, rfl, _⟩ := okWide_struct Try.underlying32 hval
  obtain ⟨fuel, hf⟩ := hd
  obtain ⟨xs, n, _, _, hlen, hxl, hg⟩ := DataW.trod_struct Try.underlying32 hf
  have hC : Try.prog.cellsOf 32 = 23 := by kernel_rfl
  have k1 : Try.prog.cellsOf 3 = 1 := by kernel_rfl
  have k3 : Try.prog.cellsOf 27 = 3 := by kernel_rfl
  have k16 : Try.prog.cellsOf 29 = 16 := by kernel_rfl
  have km : Try.prog.cellsOf 23 = 1 := by kernel_rfl
  have kw : Try.prog.cellsOf 30 = 1 := by kernel_rfl
  rw [hC] at hlen
  have hxl' : xs.length = 6 := hxl
  obtain ⟨l⟩ := cs
  have hl : (Value.agg ⟨l⟩).cells.toList = l := by simp [Value.cells]
  rw [hl] at hlen hg
  have g0 : DataW.trod enc Try.prog w base (fun _ => true) held n 3 ((l.drop 0).take 1) = some xs[0] := by
    have this : DataW.trod enc Try.prog w base (fun _ => true) held n 3 ((l.drop 0).take (Try.prog.cellsOf 3)) = xs[0]? := hg 0 _ rfl
    rwa [List.getElem?_eq_getElem (by omega), k1] at this
  have g1 : DataW.trod enc Try.prog w base (fun _ => true) held n 27 ((l.drop 1).take 3) = some xs[1] := by
    have this : DataW.trod enc Try.prog w base (fun _ => true) held n 27 ((l.drop 1).take (Try.prog.cellsOf 27)) = xs[1]? := hg 1 _ rfl
    rwa [List.getElem?_eq_getElem (by omega), k3] at this
  have g2 : DataW.trod enc Try.prog w base (fun _ => true) held n 3 ((l.drop 4).take 1) = some xs[2] := by
    have this : DataW.trod enc Try.prog w base (fun _ => true) held n 3 ((l.drop 4).take (Try.prog.cellsOf 3)) = xs[2]? := hg 2 _ rfl
    rwa [List.getElem?_eq_getElem (by omega), k1] at this
  have g3 : DataW.trod enc Try.prog w base (fun _ => true) held n 29 ((l.drop 5).take 16) = some xs[3] := by
    have this : DataW.trod enc Try.prog w base (fun _ => true) held n 29 ((l.drop 5).take (Try.prog.cellsOf 29)) = xs[3]? := hg 3 _ rfl
    rwa [List.getElem?_eq_getElem (by omega), k16] at this
  have g4 : DataW.trod enc Try.prog w base (fun _ => true) held n 23 ((l.drop 21).take 1) = some xs[4] := by
    have this : DataW.trod enc Try.prog w base (fun _ => true) held n 23 ((l.drop 21).take (Try.prog.cellsOf 23)) = xs[4]? := hg 4 _ rfl
    rwa [List.getElem?_eq_getElem (by omega), km] at this
  have g5 : DataW.trod enc Try.prog w base (fun _ => true) held n 30 ((l.drop 22).take 1) = some xs[5] := by
    have this : DataW.trod enc Try.prog w base (fun _ => true) held n 30 ((l.drop 22).take (Try.prog.cellsOf 30)) = xs[5]? := hg 5 _ rfl
    rwa [List.getElem?_eq_getElem (by omega), kw] at this
  obtain ⟨e, q0, _, f0⟩ := DataW.trod_int Try.underlying3 g0
  obtain ⟨tk, ts, tp, b1, b2, b3, q1⟩ := trap_cells g1
  obtain ⟨st, q2, _, f2⟩ := DataW.trod_int Try.underlying3 g2
  obtain ⟨regs, h16, br, q3⟩ := regs_cells g3
  obtain ⟨M, m, mem, q4, hM, bm⟩ := open_bytes Try.underlying23 g4
  obtain ⟨U, u, ws, q5, hU, bw⟩ := open_writes Try.underlying30 g5
  refine ⟨M, m, U, u, ⟨e, tk, ts, tp, st, regs, mem, ws⟩, ⟨bounds_i64 f0, b1, b2, b3, bounds_i64 f2, br, bm, bw⟩, ?_, ⟨hM, hU, h16⟩⟩
  have hsplit : l = (l.drop 0).take 1 ++ ((l.drop 1).take 3 ++ ((l.drop 4).take 1 ++ ((l.drop 5).take 16 ++ ((l.drop 21).take 1 ++ (l.drop 22).take 1)))) := by
    have e6 : (l.drop 22).take 1 = l.drop 22 := List.take_of_length_le (by simp; omega)
    rw [e6]
    rw [show l.drop 22 = (l.drop 21).drop 1 by rw [List.drop_drop], List.take_append_drop, show l.drop 21 = (l.drop 5).drop 16 by rw [List.drop_drop], List.take_append_drop, show l.drop 5 = (l.drop 4).drop 1 by rw [List.drop_drop], List.take_append_drop, show l.drop 4 = (l.drop 1).drop 3 by rw [List.drop_drop], List.take_append_drop, show l.drop 1 = (l.drop 0).drop 1 by rw [List.drop_drop], List.take_append_drop, List.drop_zero]
  rw [q0, q1, q2, q3, q4, q5] at hsplit
  show Value.agg ⟨l⟩ = Value.agg ⟨_⟩
  congr 2
end
end Go.Proofs.Ytjbobihiigeapaa.Words

/- Tokens as cells; which blocks a splitter's calls leave as they were. -/
import Derived.Test.YtimdojeagkbgbaaDoorLexScan
import Derived.Test.YtimdojeagkbgbaaDoorRowLaws
import Derived.Test.YtimdojeagkbgbaaDoorOwn
import Derived.Test.YtimdojeagkbgbaaDoorLin
import Derived.Test.YtimdojeagkbgbaaDoorBoxes
namespace Go.Proofs.YtimdojeagkbgbaaDoor.Words
set_option maxRecDepth 100000
open Go.RowKit Go.Shelf Go.Lib
set_option linter.unusedVariables false

/-- A text of these bytes. -/
abbrev txt (l : List UInt8) : ByteArray := ⟨l.toArray⟩
theorem txt_eq {s : ByteArray} {l : List UInt8} (h : s.data.toList = l) : s = txt l := by
  cases s with
  | mk d => subst h; simp
theorem txt_cut (s : ByteArray) (p n : Nat) : s.extract p (p + n) = txt ((s.data.toList.drop p).take n) := by
  apply txt_eq
  rw [Lib.extract_data, Nat.add_sub_cancel_left]
/-- The four cells of a token. -/
def tokL (t : Tok) : List Value := [.int .i64 t.kind, .int .i64 t.num, .int .i64 (t.at_ : Int), .string (txt t.text)]
def toksL (l : List Tok) : List Value := l.flatMap tokL
theorem toksL_nil : toksL [] = [] := rfl
theorem toksL_cons (i : Tok) (l : List Tok) : toksL (i :: l) = tokL i ++ toksL l := by simp [toksL]
theorem toksL_append (l m : List Tok) : toksL (l ++ m) = toksL l ++ toksL m := by simp [toksL]
theorem toksL_length (l : List Tok) : (toksL l).length = l.length * 4 := by
  induction l with
  | nil => rfl
  | cons i l ih => rw [toksL_cons, List.length_append, ih]; simp [tokL]; omega
theorem tokL_one (i : Tok) : ∀ u ∈ tokL i, u.oneCell' = true := by
  intro u hu
  simp only [tokL, List.mem_cons, List.not_mem_nil, or_false] at hu
  rcases hu with rfl | rfl | rfl | rfl <;> rfl
theorem toksL_at (l : List Tok) (k : Nat) (i : Tok) (h : l[k]? = some i) (j : Nat) (hj : j < 4) : (toksL l)[k * 4 + j]? = (tokL i)[j]? := by
  induction l generalizing k with
  | nil => simp at h
  | cons x l ih =>
    rw [toksL_cons]
    cases k with
    | zero =>
      simp at h; subst h
      rw [List.getElem?_append_left (by simp [tokL]; omega), Nat.zero_mul, Nat.zero_add]
    | succ k =>
      simp at h
      have h5 : (tokL x).length = 4 := rfl
      rw [List.getElem?_append_right (by omega), h5, show (k + 1) * 4 + j - 4 = k * 4 + j by omega]
      exact ih k h
theorem Row.tok {w : World} {B n c : Nat} {b off : Nat} {l : List Tok} (h : Row w B 4 (.slice (some ⟨b, off, none⟩) n c) n (toksL l)) {k : Nat} {i : Tok} (hi : l[k]? = some i) :
    w.cell? ⟨b, off + k * 4, none⟩ = some (.int .i64 i.kind) ∧ w.cell? ⟨b, off + k * 4 + 1, none⟩ = some (.int .i64 i.num) ∧ w.cell? ⟨b, off + k * 4 + 2, none⟩ = some (.int .i64 (i.at_ : Int)) ∧ w.cell? ⟨b, off + k * 4 + 3, none⟩ = some (.string (txt i.text)) := by
  have g : ∀ j u, j < 4 → (tokL i)[j]? = some u → w.cell? ⟨b, off + k * 4 + j, none⟩ = some u := by
    intro j u hj hu
    have := h.cells ⟨b, off, none⟩ rfl (k * 4 + j) u ((toksL_at l k i hi j hj).trans hu)
    rwa [add_spot, ← Nat.add_assoc] at this
  exact ⟨g 0 _ (by omega) rfl, g 1 _ (by omega) rfl, g 2 _ (by omega) rfl, g 3 _ (by omega) rfl⟩
theorem row_one4 (w : World) (a b c d : Value) (t : TypeId) : Row (w.alloc (.cells #[a, b, c, d] t)) (w.heap.size + 1) 4 (.slice (some ⟨w.heap.size, 0, none⟩) 1 1) 1 [a, b, c, d] := by
  refine ⟨rfl, _, _, rfl, Nat.le_refl _, by omega, (fun h => by cases h), fun _ => ⟨w.heap.size, 0, rfl, Nat.lt_succ_self _, fun j u hu => ?_⟩⟩
  have := new_cells w #[a, b, c, d] t [a, b, c, d] rfl j u hu
  rwa [add_spot] at this
theorem info_tok : (Tryd.prog.info? 33).map (fun i => (i.zero, i.size, i.bytes)) = some (some (.agg #[.int .i64 0, .int .i64 0, .int .i64 0, .string ⟨#[]⟩]), 4, 40) := by kernel_rfl

/-- Blocks ahead of b, and those between b and Bt, stand. -/
structure TurnB (b Bt : Nat) (w w' : World) : Prop where
  bel : Below b w w'
  mid : ∀ k, b < k → k < Bt → w'.heap[k]? = w.heap[k]?
section
variable {b Bt : Nat} {w w' w'' : World}
theorem TurnB.refl (b Bt : Nat) (w : World) : TurnB b Bt w w := ⟨Below.refl _ _, fun _ _ _ => rfl⟩
theorem TurnB.trans (h : TurnB b Bt w w') (g : TurnB b Bt w' w'') : TurnB b Bt w w'' := ⟨h.bel.trans g.bel, fun k h1 h2 => (g.mid k h1 h2).trans (h.mid k h1 h2)⟩
theorem TurnB.of_below (h : Below w.heap.size w w') (hB : b ≤ w.heap.size) (hBt : Bt ≤ w.heap.size) : TurnB b Bt w w' := ⟨h.mono hB, fun k _ h2 => h.block k (by omega)⟩
theorem TurnB.setCell (b Bt : Nat) (w : World) (k : Nat) (v : Value) : TurnB b Bt w (w.setCell ⟨b, k, none⟩ v) := ⟨(Below.refl _ _).setCell (p := ⟨b, k, none⟩) (Nat.le_refl _) v, fun j h1 _ => Below.heap_setCell w ⟨b, k, none⟩ v j (by show j ≠ b; omega)⟩
theorem TurnB.grown {row : Option Nat} (h : w.grownBy w' row) (hB : b ≤ w.heap.size) (hBt : Bt ≤ w.heap.size) (hr : ∀ k, row = some k → Bt ≤ k) (hb : b < Bt) : TurnB b Bt w w' :=
  ⟨Below.grown (Below.refl _ _) h hB (fun k hk => by have := hr k hk; omega), fun k _ h2 => h.block k (by omega) (fun e => by have := hr k e.symm; omega)⟩
theorem TurnB.drew (h : TurnB b Bt w w') : TurnB b Bt w w'.drew := ⟨h.bel.drew, h.mid⟩
theorem TurnB.size (h : TurnB b Bt w w') : w.heap.size ≤ w'.heap.size := h.bel.size
end
/-- A splitter's cells. -/
abbrev splL (s : ByteArray) (vt : Value) (bh : Int) (rm : Bool) : List Value := [.string s, vt, .int .i64 bh, .bool rm]

theorem clone_any (s : ByteArray) (w : World) (h : s.size ≤ 281474976710656) : Calls Tryd.prog 66 #[.string s] w fun e w' => e = .returned (.string s) ∧ Below w.heap.size w w' := by
  have c := fun y => Tryd.stringslite_Clone s y h
  go_enter Tryd.func66, Tryd.ntmps66
  go_wp2_with (go_at_call 83; refine (c _).mono ?_; rintro e w1 ⟨rfl, hb⟩)
  go_ret
  exact ⟨rfl, hb⟩

set_option maxHeartbeats 1000000 in
theorem add_any (s : ByteArray) (vt : Value) (bh kind num : Int) (rm : Bool) (p size b Bt : Nat) (t : List Tok) (w : World) (hb : Box w b (splL s vt bh rm)) (hB : b < Bt) (hBt : Bt ≤ w.heap.size)
    (ho : w.ownsRow Bt 33 4 vt t.length (toksL t)) (hp : p + size ≤ s.size) (hs : s.size ≤ 1000000) (ht : t.length ≤ 1000000) :
    Calls Tryd.prog 49 #[.pointer (some ⟨b, 0, none⟩), .int .i64 kind, .int .i64 num, .int .i64 (p : Int), .int .i64 (size : Int)] w fun e w' => e = .returned (.tuple #[]) ∧
      ∃ vt', Box w' b (splL s vt' ((p + size : Nat) : Int) rm) ∧ w'.ownsRow Bt 33 4 vt' (t.length + 1) (toksL (t ++ [⟨kind, num, p, (s.data.toList.drop p).take size⟩])) ∧ TurnB b Bt w w' := by
  have z2 := hb.cell (k := 2) rfl
  have f2 := hb.frozen 2
  have hlt := hb.lt
  have B1 : Hid (Box (w.setCell ⟨b, 2, none⟩ (.int .i64 ((p : Int) + size))) b (splL s vt ((p : Int) + size) rm)) := hb.setCell 2 _
  have O1 := Lib.hid (ownsRow_setCell_below ho (a := ⟨b, 2, none⟩) (show b < Bt from hB) (.int .i64 ((p : Int) + size)))
  have T1 := Lib.hid (TurnB.setCell b Bt w 2 (.int .i64 ((p : Int) + size)))
  have hsz1 : (w.setCell ⟨b, 2, none⟩ (.int .i64 ((p : Int) + size))).heap.size = w.heap.size := by simp [World.setCell]
  have HT := Lib.hid ht
  have hp0 : (0 : Int) ≤ p := by omega
  have hp1 : (0 : Int) ≤ size := by omega
  have hp2 : (p : Int) + size ≤ s.size := by omega
  have hp3 : (s.size : Int) ≤ 1000000 := by omega
  have HCUT := Lib.hid (txt_cut s p size)
  have cC := Lib.hid (fun y => clone_any (s.extract p (p + size)) y (by rw [ByteArray.size_extract]; omega))
  clear hb ho ht
  go_enter Tryd.func49, Tryd.ntmps49
  go_wp2_with fail
  generalize w.setCell ⟨b, 2, none⟩ (.int .i64 ((p : Int) + size)) = w1 at *
  clear z2 f2
  refine wp_region_lin [(0, true), (1, true), (2, true), (3, true), (4, true), (5, true), (6, true), (7, true), (8, true), (9, true), (10, false), (11, true)]
    (by kernel_rfl) (by kernel_rfl) rfl (by kernel_rfl) (fun x => x.cell? ⟨b, 0, none⟩ = some (.string s) ∧ x.cell? ⟨b, 2, none⟩ = some (.int .i64 ((p : Int) + size))) ?_
  simp only [List.map_cons, List.map_nil, List.getElem?_toArray, List.getElem?_cons_succ, List.getElem?_cons_zero]
  have hS : w1.drew.cell? ⟨b, 0, none⟩ = some (.string s) ∧ w1.drew.cell? ⟨b, 2, none⟩ = some (.int .i64 ((p : Int) + size)) := ⟨B1.out.cell (k := 0) rfl, B1.out.cell (k := 2) rfl⟩
  iterate 9 (refine lin_take (v := ?_) hS (by rfl) ?_ ?_; rotate_left; (intro x hx; obtain ⟨x0, x2⟩ := hx; go_simp; try (with_reducible rfl)); (simp only [Act.put, List.setIfInBounds_toArray, List.set_cons_zero, List.set_cons_succ]))
  refine lin_take (v := .string (s.extract p (p + size))) hS (by rfl) (fun x hx => ?_) ?_
  · have h1 : (p : Int) ≤ p + size := by omega
    have h2 : ((p : Int) + size).toNat = p + size := by omega
    obtain ⟨x0, x2⟩ := hx
    go_simp
  simp only [Act.put, List.setIfInBounds_toArray, List.set_cons_zero, List.set_cons_succ]
  refine lin_call hS (by rfl) (fun K hK => ?_)
  go_simp
  refine (cC.out _).mono ?_
  rintro e w2 ⟨rfl, hb2⟩
  have B2 := Lib.hid ((B1.out.drew).below hb2 (by have := hb2.size; simp at this ⊢; omega))
  have O2 := Lib.hid (own_below (show w1.drew.ownsRow Bt 33 4 vt t.length (toksL t) from O1.out) hb2)
  have T2 := Lib.hid (T1.out.drew.trans (TurnB.of_below hb2 (by simp; omega) (by simp; omega)))
  have hsz2 : w.heap.size ≤ w2.heap.size := by have := hb2.size; simp at this; omega
  have hS2 : w2.cell? ⟨b, 0, none⟩ = some (.string s) ∧ w2.cell? ⟨b, 2, none⟩ = some (.int .i64 ((p : Int) + size)) := ⟨B2.out.cell (k := 0) rfl, B2.out.cell (k := 2) rfl⟩
  clear hb2
  go_wp2_with fail
  refine hK.out _ _ hS2 (fun _ => ?_)
  clear hK K
  try simp only [Act.put, List.setIfInBounds_toArray, List.set_cons_zero, List.set_cons_succ]
  (refine lin_take (v := ?_) hS2 (by rfl) ?_ ?_; rotate_left; (intro x hx; obtain ⟨x0, x2⟩ := hx; go_simp; try (with_reducible rfl)); (simp only [Act.put, List.setIfInBounds_toArray, List.set_cons_zero, List.set_cons_succ]))
  refine lin_done ?_
  obtain ⟨i0, hi, hz0, hz1, hz2⟩ := info_parts info_tok
  have HI := Lib.hid hz2
  have y1 := B2.out.cell (k := 1) rfl
  have y0 := hS2.1
  have hob : ∀ g, vt.ownBlock = some g → Bt ≤ g := fun g hg => (O2.out.lt g hg).1
  have HOB := Lib.hid hob
  clear hS hS2 hz2 hob
  go_wp2_with (at_builtin; refine wpList_append_row _ rfl (.tmp 32) (.tmp 38) 23 rfl Bt 33 i0 (.agg #[.int .i64 0, .int .i64 0, .int .i64 0, .string ⟨#[]⟩]) 4 40 Tryd.underlying23 hi hz0 hz1 HI.out rfl (by omega) vt t.length (toksL t) rfl (O2.out.alloc _) (w2.heap.size + 1) (.slice (some ⟨w2.heap.size, 0, none⟩) 1 1) 1 [.int .i64 kind, .int .i64 num, .int .i64 (p : Int), .string (s.extract p (p + size))] rfl (row_one4 _ _ _ _ _ _) (by simp [Value.oneCell']) (by have := HT.out; unfold maxLen; omega) (by have := HT.out; omega) (by simp; omega) ?_; intro v3 w3 hO3 hg3; obtain ⟨A3, c3, rfl⟩ := (Row.of_own hO3).form; have B3 := Lib.hid ((B2.out.alloc (.cells #[.int .i64 kind, .int .i64 num, .int .i64 (p : Int), .string (s.extract p (p + size))] 33)).grown hg3 (fun e => by have := HOB.out b e.symm; omega)); have T3 := Lib.hid (T2.out.trans ((TurnB.of_below ((Below.refl _ w2).alloc (Nat.le_refl _) (.cells #[.int .i64 kind, .int .i64 num, .int .i64 (p : Int), .string (s.extract p (p + size))] 33)) (by omega) (by omega)).trans (TurnB.grown hg3 (by simp; omega) (by simp; omega) (fun k hk => HOB.out k hk) hB))); have O3 := Lib.hid hO3; have x1 := B3.out.cell (k := 1) rfl; have g1 := B3.out.frozen 1; clear hO3 hg3 y1 y0)
  have B4 : Hid (Box (w3.setCell ⟨b, 1, none⟩ (.slice A3 (t.length + 1) c3)) b (splL s (.slice A3 (t.length + 1) c3) ((p : Int) + size) rm)) := B3.out.setCell 1 _
  have O4 := ownsRow_setCell_below O3.out (a := ⟨b, 1, none⟩) (show b < Bt from hB) (.slice A3 (t.length + 1) c3)
  have T4 := T3.out.trans (TurnB.setCell b Bt w3 1 (.slice A3 (t.length + 1) c3))
  refine bodyPost_end (v := .tuple #[]) (by simp [results, Tryd.results49]) rfl ⟨rfl, .slice A3 (t.length + 1) c3, ?_, ?_, T4⟩
  · have e : ((p + size : Nat) : Int) = (p : Int) + size := by omega
    rw [e]
    exact B4.out
  · rw [toksL_append]
    have e : toksL [⟨kind, num, p, (s.data.toList.drop p).take size⟩] = [.int .i64 kind, .int .i64 num, .int .i64 (p : Int), .string (s.extract p (p + size))] := by rw [HCUT.out]; rfl
    rw [e]
    exact O4
end Go.Proofs.YtimdojeagkbgbaaDoor.Words

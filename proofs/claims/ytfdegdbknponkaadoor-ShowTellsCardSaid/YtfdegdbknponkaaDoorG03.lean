/- Several texts in one: LexData, AsmData, AsmSmall, AsmReg, AsmField, LinT, AsmApp. -/
import Derived.Test.YtfdegdbknponkaaDoorG02
import Derived.Test.YtfdegdbknponkaaDoorG01

/- Tokens as cells; which blocks a splitter's calls leave as they were. -/
namespace Go.Proofs.YtfdegdbknponkaaDoor.Words
set_option maxRecDepth 100000
open Go.RowKit Go.Shelf Go.Lib
set_option linter.unusedVariables false

/-- A text of these bytes. -/
abbrev txt (l : List UInt8) : ByteArray := ⟨l.toArray⟩
theorem txt_eq {s : ByteArray} {l : List UInt8} (h : s.data.toList = l) : s = txt l := by
  cases s with
  | mk d => subst h; simp
theorem txt_cut (s : ByteArray) (p n : Nat) : s.extract p (p + n) = txt ((s.data.toList.drop p).take n) := by
  apply txt_eq
  rw [Lib.extract_data, Nat.add_sub_cancel_left]
/-- The four cells of a token. -/
def tokL (t : Tok) : List Value := [.int .i64 t.kind, .int .i64 t.num, .int .i64 (t.at_ : Int), .string (txt t.text)]
def toksL (l : List Tok) : List Value := l.flatMap tokL
theorem toksL_nil : toksL [] = [] := rfl
theorem toksL_cons (i : Tok) (l : List Tok) : toksL (i :: l) = tokL i ++ toksL l := by simp [toksL]
theorem toksL_append (l m : List Tok) : toksL (l ++ m) = toksL l ++ toksL m := by simp [toksL]
theorem toksL_length (l : List Tok) : (toksL l).length = l.length * 4 := by
  induction l with
  | nil => rfl
  | cons i l ih => rw [toksL_cons, List.length_append, ih]; simp [tokL]; omega
theorem tokL_one (i : Tok) : ∀ u ∈ tokL i, u.oneCell' = true := by
  intro u hu
  simp only [tokL, List.mem_cons, List.not_mem_nil, or_false] at hu
  rcases hu with rfl | rfl | rfl | rfl <;> rfl
theorem toksL_at (l : List Tok) (k : Nat) (i : Tok) (h : l[k]? = some i) (j : Nat) (hj : j < 4) : (toksL l)[k * 4 + j]? = (tokL i)[j]? := by
  induction l generalizing k with
  | nil => simp at h
  | cons x l ih =>
    rw [toksL_cons]
    cases k with
    | zero =>
      simp at h; subst h
      rw [List.getElem?_append_left (by simp [tokL]; omega), Nat.zero_mul, Nat.zero_add]
    | succ k =>
      simp at h
      have h5 : (tokL x).length = 4 := rfl
      rw [List.getElem?_append_right (by omega), h5, show (k + 1) * 4 + j - 4 = k * 4 + j by omega]
      exact ih k h
theorem Row.tok {w : World} {B n c : Nat} {b off : Nat} {l : List Tok} (h : Row w B 4 (.slice (some ⟨b, off, none⟩) n c) n (toksL l)) {k : Nat} {i : Tok} (hi : l[k]? = some i) :
    w.cell? ⟨b, off + k * 4, none⟩ = some (.int .i64 i.kind) ∧ w.cell? ⟨b, off + k * 4 + 1, none⟩ = some (.int .i64 i.num) ∧ w.cell? ⟨b, off + k * 4 + 2, none⟩ = some (.int .i64 (i.at_ : Int)) ∧ w.cell? ⟨b, off + k * 4 + 3, none⟩ = some (.string (txt i.text)) := by
  have g : ∀ j u, j < 4 → (tokL i)[j]? = some u → w.cell? ⟨b, off + k * 4 + j, none⟩ = some u := by
    intro j u hj hu
    have := h.cells ⟨b, off, none⟩ rfl (k * 4 + j) u ((toksL_at l k i hi j hj).trans hu)
    rwa [add_spot, ← Nat.add_assoc] at this
  exact ⟨g 0 _ (by omega) rfl, g 1 _ (by omega) rfl, g 2 _ (by omega) rfl, g 3 _ (by omega) rfl⟩
theorem row_one4 (w : World) (a b c d : Value) (t : TypeId) : Row (w.alloc (.cells #[a, b, c, d] t)) (w.heap.size + 1) 4 (.slice (some ⟨w.heap.size, 0, none⟩) 1 1) 1 [a, b, c, d] := by
  refine ⟨rfl, _, _, rfl, Nat.le_refl _, by omega, (fun h => by cases h), fun _ => ⟨w.heap.size, 0, rfl, Nat.lt_succ_self _, fun j u hu => ?_⟩⟩
  have := new_cells w #[a, b, c, d] t [a, b, c, d] rfl j u hu
  rwa [add_spot] at this
theorem info_tok : (Tryd.prog.info? 62).map (fun i => (i.zero, i.size, i.bytes)) = some (some (.agg #[.int .i64 0, .int .i64 0, .int .i64 0, .string ⟨#[]⟩]), 4, 40) := by kernel_rfl

/-- Blocks ahead of b, and those between b and Bt, stand. -/
structure TurnB (b Bt : Nat) (w w' : World) : Prop where
  bel : Below b w w'
  mid : ∀ k, b < k → k < Bt → w'.heap[k]? = w.heap[k]?
section
variable {b Bt : Nat} {w w' w'' : World}
theorem TurnB.refl (b Bt : Nat) (w : World) : TurnB b Bt w w := ⟨Below.refl _ _, fun _ _ _ => rfl⟩
theorem TurnB.trans (h : TurnB b Bt w w') (g : TurnB b Bt w' w'') : TurnB b Bt w w'' := ⟨h.bel.trans g.bel, fun k h1 h2 => (g.mid k h1 h2).trans (h.mid k h1 h2)⟩
theorem TurnB.of_below (h : Below w.heap.size w w') (hB : b ≤ w.heap.size) (hBt : Bt ≤ w.heap.size) : TurnB b Bt w w' := ⟨h.mono hB, fun k _ h2 => h.block k (by omega)⟩
theorem TurnB.setCell (b Bt : Nat) (w : World) (k : Nat) (v : Value) : TurnB b Bt w (w.setCell ⟨b, k, none⟩ v) := ⟨(Below.refl _ _).setCell (p := ⟨b, k, none⟩) (Nat.le_refl _) v, fun j h1 _ => Below.heap_setCell w ⟨b, k, none⟩ v j (by show j ≠ b; omega)⟩
theorem TurnB.grown {row : Option Nat} (h : w.grownBy w' row) (hB : b ≤ w.heap.size) (hBt : Bt ≤ w.heap.size) (hr : ∀ k, row = some k → Bt ≤ k) (hb : b < Bt) : TurnB b Bt w w' :=
  ⟨Below.grown (Below.refl _ _) h hB (fun k hk => by have := hr k hk; omega), fun k _ h2 => h.block k (by omega) (fun e => by have := hr k e.symm; omega)⟩
theorem TurnB.drew (h : TurnB b Bt w w') : TurnB b Bt w w'.drew := ⟨h.bel.drew, h.mid⟩
theorem TurnB.size (h : TurnB b Bt w w') : w.heap.size ≤ w'.heap.size := h.bel.size
end
/-- A splitter's cells. -/
abbrev splL (s : ByteArray) (vt : Value) (bh : Int) (rm : Bool) : List Value := [.string s, vt, .int .i64 bh, .bool rm]

theorem clone_any (s : ByteArray) (w : World) (h : s.size ≤ 281474976710656) : Calls Tryd.prog 85 #[.string s] w fun e w' => e = .returned (.string s) ∧ Below w.heap.size w w' := by
  have c := fun y => Tryd.stringslite_Clone s y h
  go_enter Tryd.func85, Tryd.ntmps85
  go_wp2_with (go_at_call 105; refine (c _).mono ?_; rintro e w1 ⟨rfl, hb⟩)
  go_ret
  exact ⟨rfl, hb⟩

set_option maxHeartbeats 1000000 in
theorem add_any (s : ByteArray) (vt : Value) (bh kind num : Int) (rm : Bool) (p size b Bt : Nat) (t : List Tok) (w : World) (hb : Box w b (splL s vt bh rm)) (hB : b < Bt) (hBt : Bt ≤ w.heap.size)
    (ho : w.ownsRow Bt 62 4 vt t.length (toksL t)) (hp : p + size ≤ s.size) (hs : s.size ≤ 1000000) (ht : t.length ≤ 1000000) :
    Calls Tryd.prog 65 #[.pointer (some ⟨b, 0, none⟩), .int .i64 kind, .int .i64 num, .int .i64 (p : Int), .int .i64 (size : Int)] w fun e w' => e = .returned (.tuple #[]) ∧
      ∃ vt', Box w' b (splL s vt' ((p + size : Nat) : Int) rm) ∧ w'.ownsRow Bt 62 4 vt' (t.length + 1) (toksL (t ++ [⟨kind, num, p, (s.data.toList.drop p).take size⟩])) ∧ TurnB b Bt w w' := by
  have z2 := hb.cell (k := 2) rfl
  have f2 := hb.frozen 2
  have hlt := hb.lt
  have B1 : Hid (Box (w.setCell ⟨b, 2, none⟩ (.int .i64 ((p : Int) + size))) b (splL s vt ((p : Int) + size) rm)) := hb.setCell 2 _
  have O1 := Lib.hid (ownsRow_setCell_below ho (a := ⟨b, 2, none⟩) (show b < Bt from hB) (.int .i64 ((p : Int) + size)))
  have T1 := Lib.hid (TurnB.setCell b Bt w 2 (.int .i64 ((p : Int) + size)))
  have hsz1 : (w.setCell ⟨b, 2, none⟩ (.int .i64 ((p : Int) + size))).heap.size = w.heap.size := by simp [World.setCell]
  have HT := Lib.hid ht
  have hp0 : (0 : Int) ≤ p := by omega
  have hp1 : (0 : Int) ≤ size := by omega
  have hp2 : (p : Int) + size ≤ s.size := by omega
  have hp3 : (s.size : Int) ≤ 1000000 := by omega
  have HCUT := Lib.hid (txt_cut s p size)
  have cC := Lib.hid (fun y => clone_any (s.extract p (p + size)) y (by rw [ByteArray.size_extract]; omega))
  clear hb ho ht
  go_enter Tryd.func65, Tryd.ntmps65
  go_wp2_with fail
  generalize w.setCell ⟨b, 2, none⟩ (.int .i64 ((p : Int) + size)) = w1 at *
  clear z2 f2
  refine wp_region_lin [(0, true), (1, true), (2, true), (3, true), (4, true), (5, true), (6, true), (7, true), (8, true), (9, true), (10, false), (11, true)]
    (by kernel_rfl) (by kernel_rfl) rfl (by kernel_rfl) (fun x => x.cell? ⟨b, 0, none⟩ = some (.string s) ∧ x.cell? ⟨b, 2, none⟩ = some (.int .i64 ((p : Int) + size))) ?_
  simp only [List.map_cons, List.map_nil, List.getElem?_toArray, List.getElem?_cons_succ, List.getElem?_cons_zero]
  have hS : w1.drew.cell? ⟨b, 0, none⟩ = some (.string s) ∧ w1.drew.cell? ⟨b, 2, none⟩ = some (.int .i64 ((p : Int) + size)) := ⟨B1.out.cell (k := 0) rfl, B1.out.cell (k := 2) rfl⟩
  iterate 9 (refine lin_take (v := ?_) hS (by rfl) ?_ ?_; rotate_left; (intro x hx; obtain ⟨x0, x2⟩ := hx; go_simp; try (with_reducible rfl)); (simp only [Act.put, List.setIfInBounds_toArray, List.set_cons_zero, List.set_cons_succ]))
  refine lin_take (v := .string (s.extract p (p + size))) hS (by rfl) (fun x hx => ?_) ?_
  · have h1 : (p : Int) ≤ p + size := by omega
    have h2 : ((p : Int) + size).toNat = p + size := by omega
    obtain ⟨x0, x2⟩ := hx
    go_simp
  simp only [Act.put, List.setIfInBounds_toArray, List.set_cons_zero, List.set_cons_succ]
  refine lin_call hS (by rfl) (fun K hK => ?_)
  go_simp
  refine (cC.out _).mono ?_
  rintro e w2 ⟨rfl, hb2⟩
  have B2 := Lib.hid ((B1.out.drew).below hb2 (by have := hb2.size; simp at this ⊢; omega))
  have O2 := Lib.hid (own_below (show w1.drew.ownsRow Bt 62 4 vt t.length (toksL t) from O1.out) hb2)
  have T2 := Lib.hid (T1.out.drew.trans (TurnB.of_below hb2 (by simp; omega) (by simp; omega)))
  have hsz2 : w.heap.size ≤ w2.heap.size := by have := hb2.size; simp at this; omega
  have hS2 : w2.cell? ⟨b, 0, none⟩ = some (.string s) ∧ w2.cell? ⟨b, 2, none⟩ = some (.int .i64 ((p : Int) + size)) := ⟨B2.out.cell (k := 0) rfl, B2.out.cell (k := 2) rfl⟩
  clear hb2
  go_wp2_with fail
  refine hK.out _ _ hS2 (fun _ => ?_)
  clear hK K
  try simp only [Act.put, List.setIfInBounds_toArray, List.set_cons_zero, List.set_cons_succ]
  (refine lin_take (v := ?_) hS2 (by rfl) ?_ ?_; rotate_left; (intro x hx; obtain ⟨x0, x2⟩ := hx; go_simp; try (with_reducible rfl)); (simp only [Act.put, List.setIfInBounds_toArray, List.set_cons_zero, List.set_cons_succ]))
  refine lin_done ?_
  obtain ⟨i0, hi, hz0, hz1, hz2⟩ := info_parts info_tok
  have HI := Lib.hid hz2
  have y1 := B2.out.cell (k := 1) rfl
  have y0 := hS2.1
  have hob : ∀ g, vt.ownBlock = some g → Bt ≤ g := fun g hg => (O2.out.lt g hg).1
  have HOB := Lib.hid hob
  clear hS hS2 hz2 hob
  go_wp2_with (at_builtin; refine wpList_append_row _ rfl (.tmp 32) (.tmp 38) 55 rfl Bt 62 i0 (.agg #[.int .i64 0, .int .i64 0, .int .i64 0, .string ⟨#[]⟩]) 4 40 Tryd.underlying55 hi hz0 hz1 HI.out rfl (by omega) vt t.length (toksL t) rfl (O2.out.alloc _) (w2.heap.size + 1) (.slice (some ⟨w2.heap.size, 0, none⟩) 1 1) 1 [.int .i64 kind, .int .i64 num, .int .i64 (p : Int), .string (s.extract p (p + size))] rfl (row_one4 _ _ _ _ _ _) (by simp [Value.oneCell']) (by have := HT.out; unfold maxLen; omega) (by have := HT.out; omega) (by simp; omega) ?_; intro v3 w3 hO3 hg3; obtain ⟨A3, c3, rfl⟩ := (Row.of_own hO3).form; have B3 := Lib.hid ((B2.out.alloc (.cells #[.int .i64 kind, .int .i64 num, .int .i64 (p : Int), .string (s.extract p (p + size))] 62)).grown hg3 (fun e => by have := HOB.out b e.symm; omega)); have T3 := Lib.hid (T2.out.trans ((TurnB.of_below ((Below.refl _ w2).alloc (Nat.le_refl _) (.cells #[.int .i64 kind, .int .i64 num, .int .i64 (p : Int), .string (s.extract p (p + size))] 62)) (by omega) (by omega)).trans (TurnB.grown hg3 (by simp; omega) (by simp; omega) (fun k hk => HOB.out k hk) hB))); have O3 := Lib.hid hO3; have x1 := B3.out.cell (k := 1) rfl; have g1 := B3.out.frozen 1; clear hO3 hg3 y1 y0)
  have B4 : Hid (Box (w3.setCell ⟨b, 1, none⟩ (.slice A3 (t.length + 1) c3)) b (splL s (.slice A3 (t.length + 1) c3) ((p : Int) + size) rm)) := B3.out.setCell 1 _
  have O4 := ownsRow_setCell_below O3.out (a := ⟨b, 1, none⟩) (show b < Bt from hB) (.slice A3 (t.length + 1) c3)
  have T4 := T3.out.trans (TurnB.setCell b Bt w3 1 (.slice A3 (t.length + 1) c3))
  refine bodyPost_end (v := .tuple #[]) (by simp [results, Tryd.results65]) rfl ⟨rfl, .slice A3 (t.length + 1) c3, ?_, ?_, T4⟩
  · have e : ((p + size : Nat) : Int) = (p : Int) + size := by omega
    rw [e]
    exact B4.out
  · rw [toksL_append]
    have e : toksL [⟨kind, num, p, (s.data.toList.drop p).take size⟩] = [.int .i64 kind, .int .i64 num, .int .i64 (p : Int), .string (s.extract p (p + size))] := by rw [HCUT.out]; rfl
    rw [e]
    exact O4
end Go.Proofs.YtfdegdbknponkaaDoor.Words

/- A parser's block, its tokens and its parts as cells; which blocks a call leaves as they were. -/
namespace Go.Proofs.YtfdegdbknponkaaDoor.Words
set_option maxRecDepth 100000
open Go.RowKit Go.Shelf Go.Lib
set_option linter.unusedVariables false

/-- All blocks but those of S stand. -/
structure KeepS (S : Nat → Prop) (w w' : World) : Prop where
  os : w'.os = w.os
  tape : w'.tape = w.tape
  output : w'.output = w.output
  size : w.heap.size ≤ w'.heap.size
  block : ∀ k, k < w.heap.size → ¬ S k → w'.heap[k]? = w.heap[k]?
section
variable {S S' : Nat → Prop} {w w' w'' : World}
theorem KeepS.refl (S : Nat → Prop) (w : World) : KeepS S w w := ⟨rfl, rfl, rfl, Nat.le_refl _, fun _ _ _ => rfl⟩
theorem KeepS.trans (h : KeepS S w w') (g : KeepS S w' w'') : KeepS S w w'' :=
  ⟨g.os.trans h.os, g.tape.trans h.tape, g.output.trans h.output, Nat.le_trans h.size g.size, fun k hk hs => (g.block k (Nat.lt_of_lt_of_le hk h.size) hs).trans (h.block k hk hs)⟩
theorem KeepS.mono (h : KeepS S w w') (hs : ∀ k, S k → S' k) : KeepS S' w w' := ⟨h.os, h.tape, h.output, h.size, fun k hk hn => h.block k hk (fun e => hn (hs k e))⟩
theorem KeepS.of_below (h : Below w.heap.size w w') : KeepS S w w' := ⟨h.os, h.tape, h.output, h.size, fun k hk _ => h.block k hk⟩
theorem KeepS.of_grown {row : Option Nat} (h : w.grownBy w' row) (hr : ∀ k, row = some k → S k) : KeepS S w w' := ⟨h.os, h.tape, h.output, h.size, fun k hk hn => h.block k hk (fun e => hn (hr k e.symm))⟩
theorem KeepS.alloc (h : KeepS S w w') (o : Obj) : KeepS S w (w'.alloc o) := h.trans (KeepS.of_below ((Below.refl _ _).alloc (Nat.le_refl _) o))
theorem KeepS.drew (h : KeepS S w w') : KeepS S w w'.drew := ⟨h.os, h.tape, h.output, h.size, h.block⟩
theorem KeepS.drewN (h : KeepS S w w') (k : Nat) : KeepS S w (w'.drewN k) := h.trans (KeepS.of_below (Below.drewN_ (Below.refl _ _) k))
theorem KeepS.setCell (h : KeepS S w w') {b : Nat} (hb : S b) (k : Nat) (v : Value) : KeepS S w (w'.setCell ⟨b, k, none⟩ v) :=
  h.trans ⟨rfl, rfl, rfl, by simp [World.setCell], fun j _ hn => Below.heap_setCell w' ⟨b, k, none⟩ v j (fun e => hn (by rw [e]; exact hb))⟩
theorem KeepS.go (h : KeepS S w w') (hb : Below w'.heap.size w' w'') : KeepS S w w'' := h.trans (KeepS.of_below hb)
/-- What lies below all of S stands. -/
theorem KeepS.below (h : KeepS S w w') {B : Nat} (hB : B ≤ w.heap.size) (hs : ∀ k, S k → B ≤ k) : Below B w w' :=
  ⟨h.os, h.tape, h.output, h.size, fun k hk => h.block k (Nat.lt_of_lt_of_le hk hB) (fun e => by have := hs k e; omega)⟩
theorem KeepS.cell (h : KeepS S w w') {b k : Nat} {v : Value} (hb : b < w.heap.size) (hn : ¬ S b) (hv : w.cell? ⟨b, k, none⟩ = some v) : w'.cell? ⟨b, k, none⟩ = some v :=
  (World.cell?_of_block (w := w) (a := ⟨b, k, none⟩) (h.block b hb hn)).trans hv
theorem Box.keepS {b : Nat} {l : List Value} (h : Box w b l) (hk : KeepS S w w') (hn : ¬ S b) : Box w' b l := by
  have hb := h.lt
  obtain ⟨t, h⟩ := h
  exact ⟨t, (hk.block b hb hn).trans h⟩
theorem own_keepS {base : Nat} {e : TypeId} {size : Nat} {v : Value} {n : Nat} {xs : List Value} (h : w.ownsRow base e size v n xs) (hk : KeepS S w w') (hn : ∀ g, v.ownBlock = some g → ¬ S g) : w'.ownsRow base e size v n xs := by
  obtain ⟨h0, h1⟩ := h
  refine ⟨h0, ?_⟩
  rcases h1 with ⟨rfl, h2⟩ | ⟨g, c, cur, rfl, h3, h4, h5⟩
  · exact .inl ⟨rfl, h2⟩
  · have hlt : g < w.heap.size := (Array.getElem?_eq_some_iff.1 h4).1
    exact .inr ⟨g, c, cur, rfl, h3, (hk.block g hlt (hn g rfl)).trans h4, h5⟩
theorem Row.keepS {B size n : Nat} {v : Value} {xs : List Value} (h : Row w B size v n xs) (hk : KeepS S w w') (hB : B ≤ w.heap.size) (hs : ∀ k, S k → B ≤ k) : Row w' B size v n xs := h.below (hk.below hB hs)
end

/-- The thirteen cells of a part. -/
def partL (x : PartZ) : List Value := [.int .i64 x.kind, .int .i64 (x.at_ : Int), .int .i64 x.num, .string (txt x.name), .int .i64 x.ins.op, .int .i64 x.ins.d, .int .i64 x.ins.a, .int .i64 x.ins.b, .int .i64 x.ins.imm,
  .int .i64 x.target.kind, .int .i64 x.target.num, .int .i64 (x.target.at_ : Int), .string (txt x.target.text)]
def partsL (l : List PartZ) : List Value := l.flatMap partL
theorem partsL_nil : partsL [] = [] := rfl
theorem partsL_cons (i : PartZ) (l : List PartZ) : partsL (i :: l) = partL i ++ partsL l := by simp [partsL]
theorem partsL_append (l m : List PartZ) : partsL (l ++ m) = partsL l ++ partsL m := by simp [partsL]
theorem partsL_one (x : PartZ) : partsL [x] = partL x := by simp [partsL]
theorem partL_cell (x : PartZ) : ∀ u ∈ partL x, u.oneCell' = true := by
  intro u hu
  simp only [partL, List.mem_cons, List.not_mem_nil, or_false] at hu
  rcases hu with rfl | rfl | rfl | rfl | rfl | rfl | rfl | rfl | rfl | rfl | rfl | rfl | rfl <;> rfl
theorem partsL_at (l : List PartZ) (k : Nat) (i : PartZ) (h : l[k]? = some i) (j : Nat) (hj : j < 13) : (partsL l)[k * 13 + j]? = (partL i)[j]? := by
  induction l generalizing k with
  | nil => simp at h
  | cons x l ih =>
    rw [partsL_cons]
    cases k with
    | zero =>
      simp at h; subst h
      rw [List.getElem?_append_left (by simp [partL]; omega), Nat.zero_mul, Nat.zero_add]
    | succ k =>
      simp at h
      have h5 : (partL x).length = 13 := rfl
      rw [List.getElem?_append_right (by omega), h5, show (k + 1) * 13 + j - 13 = k * 13 + j by omega]
      exact ih k h
theorem info_part : (Tryd.prog.info? 69).map (fun i => (i.zero, i.size, i.bytes)) = some (some (.agg #[.int .i64 0, .int .i64 0, .int .i64 0, .string ⟨#[]⟩, .int .i64 0, .int .i64 0, .int .i64 0, .int .i64 0, .int .i64 0, .int .i64 0, .int .i64 0, .int .i64 0, .string ⟨#[]⟩]), 13, 120) := by kernel_rfl
/-- The names as cells. -/
def namesL : List Value := namesZ.map (fun t => Value.string (txt t))
/-- A token's numbers and text are small. -/
structure TokIn (t : Tok) : Prop where
  text : t.text.length ≤ 1000000
  at_ : t.at_ ≤ 1000000
  low : -4294967296 ≤ t.num
  high : t.num ≤ 4294967296
/-- A parser in block b: its tokens, the text's end, the names, its parts (vp: these as a slice). -/
def Par (w : World) (b e : Nat) (r : List Tok) (vp : Value) (ps : List PartZ) : Prop :=
  ∃ vt vn, Box w b [vt, .int .i64 (e : Int), vn, vp] ∧ Row w b 4 vt r.length (toksL r) ∧ Row w b 1 vn 41 namesL ∧ w.ownsRow (b + 1) 69 13 vp ps.length (partsL ps) ∧ (∀ t ∈ r, TokIn t)
section
variable {w w' : World} {b e : Nat} {r : List Tok} {vp : Value} {ps : List PartZ}
theorem Par.lt (h : Par w b e r vp ps) : b < w.heap.size := by obtain ⟨_, _, hb, _⟩ := h; exact hb.lt
theorem Par.own (h : Par w b e r vp ps) : w.ownsRow (b + 1) 69 13 vp ps.length (partsL ps) := by obtain ⟨_, _, _, _, _, h, _⟩ := h; exact h
theorem Par.toks (h : Par w b e r vp ps) : ∀ t ∈ r, TokIn t := by obtain ⟨_, _, _, _, _, _, h⟩ := h; exact h
theorem Par.go (h : Par w b e r vp ps) (hb : Below w.heap.size w w') : Par w' b e r vp ps := by
  have hlt := h.lt
  obtain ⟨vt, vn, h1, h2, h3, h4, h5⟩ := h
  exact ⟨vt, vn, h1.below hb hlt, h2.below (hb.mono (Nat.le_of_lt hlt)), h3.below (hb.mono (Nat.le_of_lt hlt)), own_below h4 hb, h5⟩
theorem Par.alloc (h : Par w b e r vp ps) (o : Obj) : Par (w.alloc o) b e r vp ps := h.go ((Below.refl _ _).alloc (Nat.le_refl _) o)
theorem Par.drewN (h : Par w b e r vp ps) (k : Nat) : Par (w.drewN k) b e r vp ps := h.go (Below.drewN_ (Below.refl _ _) k)
theorem Par.keepS {S : Nat → Prop} (h : Par w b e r vp ps) (hk : KeepS S w w') (hs : ∀ k, S k → b < k) (hp : ∀ g, vp.ownBlock = some g → ¬ S g) : Par w' b e r vp ps := by
  have hlt := h.lt
  obtain ⟨vt, vn, h1, h2, h3, h4, h5⟩ := h
  exact ⟨vt, vn, h1.keepS hk (fun e => by have := hs _ e; omega), h2.keepS hk (Nat.le_of_lt hlt) (fun j hj => by have := hs _ hj; omega), h3.keepS hk (Nat.le_of_lt hlt) (fun j hj => by have := hs _ hj; omega), own_keepS h4 hk hp, h5⟩
/-- A write into a block behind a parser's that is not its parts'. -/
theorem Par.set (h : Par w b e r vp ps) {x : Nat} (hx : b < x) (hp : vp.ownBlock ≠ some x) (k : Nat) (v : Value) : Par (w.setCell ⟨x, k, none⟩ v) b e r vp ps :=
  h.keepS ((KeepS.refl (fun j => j = x) w).setCell rfl k v) (fun j hj => by omega) (fun g hg e => hp (by rw [hg, e]))
end
end Go.Proofs.YtfdegdbknponkaaDoor.Words

/- Contracts of package asm's smallest: next, skip, isSign, sign, immediate. -/
namespace Go.Proofs.YtfdegdbknponkaaDoor.Words
set_option maxRecDepth 100000
open Go.RowKit Go.Shelf Go.Lib
set_option linter.unusedVariables false
set_option linter.unusedSimpArgs false

/-- A token as a value. -/
abbrev tokV (t : Tok) : Value := .agg #[.int .i64 t.kind, .int .i64 t.num, .int .i64 (t.at_ : Int), .string (txt t.text)]
theorem field_kind (t : Tok) (y : World) : (Instr.field 62 (tokV t) 0).run Tryd.prog y = .ok (.int .i64 t.kind) y := by kernel_rfl
theorem field_num (t : Tok) (y : World) : (Instr.field 62 (tokV t) 1).run Tryd.prog y = .ok (.int .i64 t.num) y := by kernel_rfl
theorem field_at (t : Tok) (y : World) : (Instr.field 62 (tokV t) 2).run Tryd.prog y = .ok (.int .i64 (t.at_ : Int)) y := by kernel_rfl
theorem field_text (t : Tok) (y : World) : (Instr.field 62 (tokV t) 3).run Tryd.prog y = .ok (.string (txt t.text)) y := by kernel_rfl
theorem Row.tok0 {w : World} {B n c : Nat} {b off : Nat} {i : Tok} {l : List Tok} (h : Row w B 4 (.slice (some ⟨b, off, none⟩) n c) n (toksL (i :: l))) :
    w.cell? ⟨b, off, none⟩ = some (.int .i64 i.kind) ∧ w.cell? ⟨b, off + 1, none⟩ = some (.int .i64 i.num) ∧ w.cell? ⟨b, off + 2, none⟩ = some (.int .i64 (i.at_ : Int)) ∧ w.cell? ⟨b, off + 3, none⟩ = some (.string (txt i.text)) := by
  have := h.tok (k := 0) (i := i) rfl
  simpa only [Nat.zero_mul, Nat.add_zero] using this

set_option maxHeartbeats 1000000 in
theorem next_any (w : World) (b e : Nat) (r : List Tok) (vp : Value) (ps : List PartZ) (hP : Par w b e r vp ps) :
    Calls Tryd.prog 32 #[.pointer (some ⟨b, 0, none⟩)] w fun en w' => en = .returned (tokV (nextT r e)) ∧ Below w.heap.size w w' := by
  have hlt := hP.lt
  obtain ⟨vt, vn, hbox, ht, hn, hp, htk⟩ := hP
  obtain ⟨A, c, rfl⟩ := ht.form
  have z0 := hbox.cell (k := 0) rfl
  have z1 := hbox.cell (k := 1) rfl
  cases r with
  | nil =>
    clear hbox ht hn hp
    go_enter Tryd.func32, Tryd.ntmps32
    go_wp2_with fail
    refine bodyPost_ret (v := tokV (nextT [] e)) (by simp [results, Tryd.results32, go_sem, nextT]) rfl ⟨rfl, ?_⟩
    exact (Below.refl w.heap.size w).alloc (Nat.le_refl _) _
  | cons t ts =>
    obtain ⟨g, off, rfl, hg, _⟩ := ht.at_ (by simp)
    obtain ⟨c0, c1, c2, c3⟩ := ht.tok0
    have hcap := ht.cap
    simp only [List.length_cons] at hcap
    have hgw : g < w.heap.size := by omega
    have l0 : ((ts.length + 1 : Nat) : Int) ≠ 0 := by omega
    have l1 : (0 : Int) < ((ts.length + 1 : Nat) : Int) := by omega
    have l2 : ((ts.length : Int) + 1 == 0) = false := by simp; omega
    simp only [List.length_cons] at z0
    clear hbox ht hn hp
    go_enter Tryd.func32, Tryd.ntmps32
    go_wp2_with fail
    refine bodyPost_ret (v := tokV t) (by simp [results, Tryd.results32, go_sem]) rfl ⟨rfl, ?_⟩
    exact (Below.refl w.heap.size w).alloc (Nat.le_refl _) _

/-- A row without its first. -/
theorem Row.behind {w : World} {B c : Nat} {b off : Nat} {i : Tok} {l : List Tok} (h : Row w B 4 (.slice (some ⟨b, off, none⟩) (l.length + 1) c) (l.length + 1) (toksL (i :: l))) :
    Row w B 4 (.slice (some ⟨b, if c = 1 then off else off + 4, none⟩) l.length (c - 1)) l.length (toksL l) := by
  obtain ⟨b', o', he, hb, hc⟩ := h.at_ (by omega)
  obtain ⟨h1, h2⟩ := h.cap
  injection he with he
  injection he with he1 he2
  subst he1; subst he2
  refine ⟨toksL_length l, _, _, rfl, by omega, by omega, (fun h => by cases h), fun _ => ⟨b, _, rfl, hb, fun j u hu => ?_⟩⟩
  have hj : j < (toksL l).length := (List.getElem?_eq_some_iff.1 hu).1
  rw [toksL_length] at hj
  rw [if_neg (by omega)]
  have := hc (4 + j) u (by rw [toksL_cons, List.getElem?_append_right (by simp [tokL])]; simpa [tokL] using hu)
  rwa [show off + 4 + j = off + (4 + j) by omega]

set_option maxHeartbeats 1000000 in
theorem skip_any (w : World) (b e : Nat) (t : Tok) (r : List Tok) (vp : Value) (ps : List PartZ) (hP : Par w b e (t :: r) vp ps) :
    Calls Tryd.prog 90 #[.pointer (some ⟨b, 0, none⟩)] w fun en w' => en = .returned (.tuple #[]) ∧ Par w' b e r vp ps ∧ KeepS (fun k => k = b) w w' := by
  have hlt := hP.lt
  obtain ⟨vt, vn, hbox, ht, hn, hp, htk⟩ := hP
  obtain ⟨A, c, rfl⟩ := ht.form
  obtain ⟨g, off, rfl, hg, _⟩ := ht.at_ (by simp)
  have z0 := hbox.cell (k := 0) rfl
  have f0 := hbox.frozen 0
  have hcap := ht.cap
  simp only [List.length_cons] at hcap z0
  have HR := Lib.hid ht.behind
  have HBX := Lib.hid hbox
  have HN := Lib.hid hn
  have HP := Lib.hid hp
  have l1 : (1 : Int) ≤ (r.length : Int) + 1 := by omega
  have l2 : (r.length : Int) + 1 ≤ c := by omega
  clear hbox ht hn hp
  by_cases hc1 : c = 1
  · subst hc1
    have hr0 : r.length = 0 := by omega
    have HK := Lib.hid ((KeepS.refl (fun k => k = b) w).setCell rfl 0 (.slice (some ⟨g, off, none⟩) 0 0))
    have hr : r = [] := List.eq_nil_of_length_eq_zero hr0
    subst hr
    go_enter Tryd.func90, Tryd.ntmps90
    go_wp2_with fail
    refine bodyPost_end (v := .tuple #[]) (by simp [results, Tryd.results90]) rfl ⟨rfl, ?_, HK.out⟩
    exact ⟨_, _, HBX.out.setCell 0 _, HR.out.keepS HK.out (Nat.le_of_lt hlt) (fun k hk => by omega), HN.out.keepS HK.out (Nat.le_of_lt hlt) (fun k hk => by omega), own_keepS HP.out HK.out (fun g hg e => by have := (HP.out.lt g hg).1; omega), fun x hx => htk x (List.mem_cons_of_mem _ hx)⟩
  · have HK := Lib.hid ((KeepS.refl (fun k => k = b) w).setCell rfl 0 (.slice (some ⟨g, off + 4, none⟩) r.length (c - 1)))
    have hc2 : (1 : Int) < c := by omega
    have HR2 := HR.out
    rw [if_neg hc1] at HR2
    have HR3 := Lib.hid HR2
    clear HR2 HR
    go_enter Tryd.func90, Tryd.ntmps90
    go_wp2_with fail
    refine bodyPost_end (v := .tuple #[]) (by simp [results, Tryd.results90]) rfl ⟨rfl, ?_, HK.out⟩
    exact ⟨_, _, HBX.out.setCell 0 _, HR3.out.keepS HK.out (Nat.le_of_lt hlt) (fun k hk => by omega), HN.out.keepS HK.out (Nat.le_of_lt hlt) (fun k hk => by omega), own_keepS HP.out HK.out (fun g hg e => by have := (HP.out.lt g hg).1; omega), fun x hx => htk x (List.mem_cons_of_mem _ hx)⟩

theorem txt_eqB (a b : List UInt8) : ((txt a).toList == (txt b).toList) = decide (a = b) := by
  rw [Lib.toList_data, Lib.toList_data, Bool.eq_iff_iff]; simp
set_option maxHeartbeats 1000000 in
theorem tokSign_any (t : Tok) (s : List UInt8) (w : World) :
    Calls Tryd.prog 88 #[tokV t, .string (txt s)] w fun en w' => en = .returned (.bool (isS t s)) ∧ Below w.heap.size w w' := by
  have hb := Lib.hid (txt_eqB t.text s)
  unfold isS
  by_cases h1 : t.kind = 3
  · have e : decide ((3 : Int) = 3 ∧ t.text = s) = (t.text == s) := by rw [Bool.eq_iff_iff]; simp
    rw [h1, e]
    clear e
    go_enter Tryd.func88, Tryd.ntmps88
    go_wp2_with fail
    go_ret
    exact ⟨rfl, (Below.refl w.heap.size w).alloc (Nat.le_refl _) _⟩
  · have h2 : (t.kind == 3) = false := by simpa using h1
    go_enter Tryd.func88, Tryd.ntmps88
    go_wp2_with fail
    go_ret
    refine ⟨?_, (Below.refl w.heap.size w).alloc (Nat.le_refl _) _⟩
    simp [h1]

theorem isS_next {r : List Tok} {e : Nat} {c : List UInt8} : isS (nextT r e) c = (signT c r).1 := by
  cases r with
  | nil => simp [nextT, signT, isS]
  | cons t ts => unfold nextT signT; by_cases h : isS t c = true <;> simp [h]
theorem signT_yes {r : List Tok} {c : List UInt8} (h : (signT c r).1 = true) : ∃ t, r = t :: (signT c r).2 := by
  cases r with
  | nil => simp [signT] at h
  | cons t ts => unfold signT at h ⊢; by_cases h1 : isS t c = true <;> simp [h1] at h ⊢
theorem signT_no {r : List Tok} {c : List UInt8} (h : (signT c r).1 = false) : (signT c r).2 = r := by
  cases r with
  | nil => rfl
  | cons t ts => unfold signT at h ⊢; by_cases h1 : isS t c = true <;> simp [h1] at h ⊢
set_option maxHeartbeats 1000000 in
theorem sign_any (w : World) (b e : Nat) (r : List Tok) (vp : Value) (ps : List PartZ) (s : List UInt8) (hP : Par w b e r vp ps) :
    Calls Tryd.prog 110 #[.pointer (some ⟨b, 0, none⟩), .string (txt s)] w fun en w' => en = .returned (.bool (signT s r).1) ∧ Par w' b e (signT s r).2 vp ps ∧ KeepS (fun k => k = b) w w' := by
  have HP := Lib.hid hP
  have hN := next_any w b e r vp ps hP
  have HI := Lib.hid (isS_next (r := r) (e := e) (c := s))
  cases hs : (signT s r).1
  · have HS := Lib.hid (signT_no hs)
    clear hP
    go_enter Tryd.func110, Tryd.ntmps110
    go_wp2_with fail
    refine hN.mono ?_; rintro en w1 ⟨rfl, hb1⟩
    have HB1 := Lib.hid hb1
    clear hb1
    go_wp2_with fail
    refine (tokSign_any _ _ _).mono ?_; rintro en w2 ⟨rfl, hb2⟩
    have HB2 := Lib.hid (HB1.out.trans (hb2.mono HB1.out.size))
    rw [HI.out, hs]
    clear hb2
    go_wp2_with fail
    go_ret
    exact ⟨rfl, by rw [HS.out]; exact HP.out.go HB2.out, KeepS.of_below HB2.out⟩
  · obtain ⟨t, ht⟩ := signT_yes hs
    have HS := Lib.hid ht
    clear hP ht
    go_enter Tryd.func110, Tryd.ntmps110
    go_wp2_with fail
    refine hN.mono ?_; rintro en w1 ⟨rfl, hb1⟩
    have HB1 := Lib.hid hb1
    clear hb1
    go_wp2_with fail
    refine (tokSign_any _ _ _).mono ?_; rintro en w2 ⟨rfl, hb2⟩
    have HB2 := Lib.hid (HB1.out.trans (hb2.mono HB1.out.size))
    rw [HI.out, hs]
    clear hb2
    have HP2 := HP.out.go HB2.out
    rw [HS.out] at HP2
    have HP3 := Lib.hid HP2
    clear HP2
    go_wp2_with fail
    refine (skip_any _ _ _ _ _ _ _ HP3.out).mono ?_; rintro en w3 ⟨rfl, hp3, hk3⟩
    have H3 := Lib.hid hp3
    have HK3 := Lib.hid ((KeepS.of_below HB2.out).trans hk3)
    clear hp3 hk3
    go_wp2_with fail
    go_ret
    exact ⟨rfl, H3.out, HK3.out⟩

theorem immT_none {r : List Tok} (e : Nat) (h : (immT r).1 = none) : (nextT r e).kind ≠ 2 ∧ (immT r).2 = r := by
  cases r with
  | nil => simp [nextT, immT]
  | cons t ts => unfold immT at h ⊢; by_cases h1 : t.kind = 2 <;> simp [h1, nextT] at h ⊢
theorem immT_some {r : List Tok} (e : Nat) {n : Int} (h : (immT r).1 = some n) : (nextT r e).kind = 2 ∧ (nextT r e).num = n ∧ r = nextT r e :: (immT r).2 := by
  cases r with
  | nil => simp [immT] at h
  | cons t ts => unfold immT at h ⊢; by_cases h1 : t.kind = 2 <;> simp [h1, nextT] at h ⊢ ; exact h
set_option maxHeartbeats 2000000 in
theorem immediate_any (w : World) (b e : Nat) (r : List Tok) (vp : Value) (ps : List PartZ) (x k : Nat) (l : List Value) (hP : Par w b e r vp ps) (hx : Box w x l) (hk : k < l.length) (hbx : b < x) (hpx : vp.ownBlock ≠ some x) :
    Calls Tryd.prog 109 #[.pointer (some ⟨b, 0, none⟩), .pointer (some ⟨x, k, none⟩)] w fun en w' => en = .returned (.bool (immT r).1.isSome) ∧ Par w' b e (immT r).2 vp ps ∧
      Box w' x (match (immT r).1 with | some n => l.set k (.int .i64 n) | none => l) ∧ KeepS (fun j => j = b ∨ j = x) w w' := by
  have HP := Lib.hid hP
  have HX := Lib.hid hx
  have hN := next_any w b e r vp ps hP
  have hlt := hP.lt
  have hxl := hx.lt
  cases hs : (immT r).1 with
  | none =>
    obtain ⟨h1, h2⟩ := immT_none e hs
    have HS := Lib.hid h2
    generalize nextT r e = t at *
    have h3 : (t.kind != 2) = true := by simpa using h1
    clear hP hx h1 h2
    go_enter Tryd.func109, Tryd.ntmps109
    go_wp2_with fail
    refine hN.mono ?_; rintro en w1 ⟨rfl, hb1⟩
    have HB1 := Lib.hid hb1
    clear hb1
    go_wp2_with fail
    go_ret
    refine ⟨rfl, ?_, ?_, ?_⟩
    · rw [HS.out]; exact (HP.out.go HB1.out).alloc _
    · exact (HX.out.below HB1.out hxl).alloc _
    · exact KeepS.of_below (HB1.out.alloc HB1.out.size _)
  | some n =>
    obtain ⟨h1, h2, h3⟩ := immT_some e hs
    have HS := Lib.hid h3
    generalize nextT r e = t at *
    have h4 : (t.kind != 2) = false := by simp [h1]
    have H2 := Lib.hid h2
    clear hP hx h3 h1 h2
    go_enter Tryd.func109, Tryd.ntmps109
    go_wp2_with fail
    refine hN.mono ?_; rintro en w1 ⟨rfl, hb1⟩
    have HB1 := Lib.hid hb1
    have hx1 : Hid (Box w1 x l) := HX.out.below hb1 hxl
    have hs1 := hb1.size
    clear hb1
    have X2 := Lib.hid (hx1.out.alloc (.cells #[.int .i64 t.kind, .int .i64 t.num, .int .i64 (t.at_ : Int), .string (txt t.text)] 62))
    obtain ⟨v0, hv0⟩ : ∃ v0, l[k]? = some v0 := ⟨_, List.getElem?_eq_getElem hk⟩
    have y0 := X2.out.cell hv0
    have fy := X2.out.frozen k
    have P2 := Lib.hid ((HP.out.go HB1.out).alloc (.cells #[.int .i64 t.kind, .int .i64 t.num, .int .i64 (t.at_ : Int), .string (txt t.text)] 62))
    have K2 := Lib.hid ((KeepS.of_below (S := fun j => j = b ∨ j = x) HB1.out).alloc (.cells #[.int .i64 t.kind, .int .i64 t.num, .int .i64 (t.at_ : Int), .string (txt t.text)] 62))
    go_wp2_with fail
    have X3 : Hid (Box ((w1.alloc (.cells #[.int .i64 t.kind, .int .i64 t.num, .int .i64 (t.at_ : Int), .string (txt t.text)] 62)).setCell ⟨x, k, none⟩ (.int .i64 t.num)) x (l.set k (.int .i64 t.num))) := X2.out.setCell k _
    have P3 := P2.out.set hbx hpx k (.int .i64 t.num)
    rw [HS.out] at P3
    have P4 := Lib.hid P3
    have K3 := Lib.hid (K2.out.setCell (.inr rfl) k (.int .i64 t.num))
    clear P3
    refine (skip_any _ _ _ _ _ _ _ P4.out).mono ?_; rintro en w3 ⟨rfl, hp3, hk3⟩
    have H3 := Lib.hid hp3
    have HK3 := Lib.hid hk3
    clear hp3 hk3
    go_wp2_with fail
    go_ret
    obtain rfl := H2.out
    exact ⟨rfl, H3.out, X3.out.keepS HK3.out (by omega), K3.out.trans (HK3.out.mono (fun j hj => .inl hj))⟩
end Go.Proofs.YtfdegdbknponkaaDoor.Words

/- Contract of package asm's registerOf: the number of a register's name. -/
namespace Go.Proofs.YtfdegdbknponkaaDoor.Words
set_option maxRecDepth 100000
open Go.RowKit Go.Shelf Go.Lib
set_option linter.unusedVariables false

/-- What registerOf answers. -/
def RegOut (Z : Option Int) (e : Ending) : Prop := ∃ m, e = .returned (.tuple #[.int .i64 m, .bool Z.isSome]) ∧ ∀ n, Z = some n → m = n
theorem RegOut.no {Z : Option Int} (h : Z = none) (m : Int) : RegOut Z (.returned (.tuple #[.int .i64 m, .bool false])) := by subst h; exact ⟨m, rfl, fun n h => by cases h⟩
theorem RegOut.yes {Z : Option Int} {n : Int} (h : Z = some n) : RegOut Z (.returned (.tuple #[.int .i64 n, .bool true])) := by subst h; exact ⟨n, rfl, fun k h => by injection h⟩

set_option maxHeartbeats 2000000 in
theorem registerOf_any (s : ByteArray) (w : World) (hs : s.size ≤ 9223372036854775807) :
    Calls Tryd.prog 124 #[.string s] w fun e w' => RegOut (regZ s.data.toList) e ∧ Below w.heap.size w w' := by
  have HL := Lib.hid (data_len s)
  obtain ⟨l, hl⟩ : ∃ l, l = s.data.toList := ⟨_, rfl⟩
  rw [← hl] at HL ⊢
  have HS := Lib.hid hl
  obtain ⟨Z, hZ⟩ : ∃ Z, Z = regZ l := ⟨_, rfl⟩
  rw [← hZ]
  have HZ := Lib.hid hZ
  clear hZ hl
  go_enter Tryd.func124, Tryd.ntmps124
  go_wp2
  go_loopw [4] (fun q wr => ∃ (pos fuel : Nat) (n : Int), q = .int .i64 n ∧ wr.heap[w.heap.size]? = some (.stringIter s pos) ∧ Below w.heap.size w wr ∧ regF l fuel pos n = Z ∧ l.length ≤ pos + fuel ∧ pos ≤ l.length ∧ 0 ≤ n ∧ n ≤ 15) (fun _ wr => s.size - wr.iterPos w.heap.size)
  case atStart =>
    exact ⟨0, l.length, 0, rfl, World.iter_heap w s 0, (Below.refl _ w).alloc (Nat.le_refl _) _, HZ.out.symm, by omega, Nat.zero_le _, Int.le_refl _, by omega⟩
  case round =>
    obtain ⟨pos, fuel, n, rfl, hit, hbw, hn, hf, hp, n0, n1⟩ := hrel
    have HIT := Lib.hid hit
    have HN := Lib.hid hn
    have hsz : w.heap.size < wr.heap.size := (Array.getElem?_eq_some_iff.1 hit).1
    have hll := HL.out
    by_cases hlt : pos < s.size
    · have hnx := fun ty => next_rune (P := Tryd.prog) hit hlt ty
      rw [← HS.out] at hnx
      obtain ⟨f, rfl⟩ : ∃ f, fuel = f + 1 := ⟨fuel - 1, by omega⟩
      have hR := runeR_range (l.drop pos)
      have HWD := Lib.hid (wideR_pos (l.drop pos))
      have HWI := Lib.hid (wide_in (l := l) (p := pos) (by omega))
      have HST : Hid (regF l (f + 1) pos n = if pos = 0 ∧ runeR (l.drop pos) = 114 then regF l f (pos + wideR (l.drop pos)) n
       else if pos = 0 ∨ runeR (l.drop pos) < 48 ∨ 57 < runeR (l.drop pos) ∨ (1 < pos ∧ n = 0) then none
       else if 15 < n * 10 + (runeR (l.drop pos) - 48) then none
       else regF l f (pos + wideR (l.drop pos)) (n * 10 + (runeR (l.drop pos) - 48))) := by
        show _ = _
        conv => lhs; unfold regF
        rw [if_pos (by omega)]
      generalize runeR (l.drop pos) = R at *
      generalize wideR (l.drop pos) = WD at *
      have hit2 := Lib.iterAt_heap wr w.heap.size s pos (pos + WD) hit
      have HIT2 := Lib.hid hit2
      have hbw2 := Lib.below_iterAt hbw (k := w.heap.size) (Nat.le_refl _) s (pos + WD)
      have HBW2 := Lib.hid hbw2
      have hsz2 : (wr.iterAt w.heap.size s (pos + WD)).heap.size = wr.heap.size := Lib.iterAt_size _ _ _ _
      have HSZ2 := Lib.hid hsz2
      have pi : ((pos : Int) == 0) = decide (pos = 0) := by rw [Bool.eq_iff_iff]; simp
      clear hit hn hit2 hbw2 hsz2 hbw
      have n15 : decide (15 < n) = false := decide_eq_false (by omega)
      by_cases h0 : pos = 0
      · rw [decide_eq_true h0] at pi
        have H0 := Lib.hid h0
        clear h0
        by_cases hr : R = 114
        · subst hr
          go_wp2_with fail
          go_roundw
          case rel => exact ⟨pos + WD, f, n, rfl, HIT2.out, HBW2.out, by rw [← HN.out, HST.out, if_pos ⟨H0.out, rfl⟩], by have := HWD.out; omega, HWI.out, n0, n1⟩
          case measure =>
            simp only [World.iterPos, HIT2.out, HIT.out]
            have := HWD.out; omega
        · have hr2 : (R == 114) = false := by simpa using hr
          have hz : Hid (Z = none) := by show _ = _; rw [← HN.out, HST.out, if_neg (fun e => hr e.2), if_pos (.inl H0.out)]
          go_wp2_with fail
          refine bodyPost_ret (v := .tuple #[.int .i64 0, .bool false]) (by simp [results, Tryd.results124, go_sem]) rfl ⟨RegOut.no hz.out 0, HBW2.out⟩
      · rw [decide_eq_false h0] at pi
        by_cases hd : R < 48 ∨ 57 < R ∨ (1 < pos ∧ n = 0)
        · have hz : Hid (Z = none) := by show _ = _; rw [← HN.out, HST.out, if_neg (fun e => h0 e.1), if_pos (.inr hd)]
          by_cases c1 : R < 48
          · have c1' : decide (R < 48) = true := decide_eq_true c1
            go_wp2_with fail
            refine bodyPost_ret (v := .tuple #[.int .i64 0, .bool false]) (by simp [results, Tryd.results124, go_sem]) rfl ⟨RegOut.no hz.out 0, HBW2.out⟩
          by_cases c2 : 57 < R
          · have c1' : decide (R < 48) = false := decide_eq_false c1
            have c2' : decide (57 < R) = true := decide_eq_true c2
            go_wp2_with fail
            refine bodyPost_ret (v := .tuple #[.int .i64 0, .bool false]) (by simp [results, Tryd.results124, go_sem]) rfl ⟨RegOut.no hz.out 0, HBW2.out⟩
          · obtain ⟨c3, c4⟩ : 1 < pos ∧ n = 0 := by omega
            have c1' : decide (R < 48) = false := decide_eq_false c1
            have c2' : decide (57 < R) = false := decide_eq_false c2
            have c3' : decide ((1 : Int) < pos) = true := decide_eq_true (by omega)
            have c5' : decide (1 < pos) = true := decide_eq_true c3
            subst c4
            go_wp2_with fail
            refine bodyPost_ret (v := .tuple #[.int .i64 0, .bool false]) (by simp [results, Tryd.results124, go_sem]) rfl ⟨RegOut.no hz.out 0, HBW2.out⟩
        · have c1' : decide (R < 48) = false := decide_eq_false (by omega)
          have c2' : decide (57 < R) = false := decide_eq_false (by omega)
          have r0 : 48 ≤ R := by omega
          have r1 : R ≤ 57 := by omega
          have HSS := HST.out
          rw [if_neg (fun e => h0 e.1), if_neg (by omega)] at HSS
          have HSS2 := Lib.hid HSS
          clear HSS HST
          have go_on : (decide ((1 : Int) < pos) = false ∧ decide (1 < pos) = false) ∨ ((decide ((1 : Int) < pos) = true ∧ decide (1 < pos) = true) ∧ (n == 0) = false) := by
            by_cases h1 : 1 < pos
            · right
              exact ⟨⟨decide_eq_true (by omega), decide_eq_true h1⟩, by simp; omega⟩
            · left
              exact ⟨decide_eq_false (by omega), decide_eq_false h1⟩
          clear hd
          by_cases hbig : 15 < n * 10 + (R - 48)
          · have hz : Hid (Z = none) := by show _ = _; rw [← HN.out, HSS2.out, if_pos hbig]
            have c6 : decide (15 < n * 10 + (R - 48)) = true := decide_eq_true hbig
            rcases go_on with ⟨g1, g2⟩ | ⟨⟨g1, g2⟩, g3⟩
            · go_wp2_with fail
              refine bodyPost_ret (v := .tuple #[.int .i64 0, .bool false]) (by simp [results, Tryd.results124, go_sem]) rfl ⟨RegOut.no hz.out 0, HBW2.out⟩
            · go_wp2_with fail
              refine bodyPost_ret (v := .tuple #[.int .i64 0, .bool false]) (by simp [results, Tryd.results124, go_sem]) rfl ⟨RegOut.no hz.out 0, HBW2.out⟩
          · have HNX : Hid (regF l f (pos + WD) (n * 10 + (R - 48)) = Z) := by show _ = _; rw [← HN.out, HSS2.out, if_neg hbig]
            have c6 : decide (15 < n * 10 + (R - 48)) = false := decide_eq_false hbig
            rcases go_on with ⟨g1, g2⟩ | ⟨⟨g1, g2⟩, g3⟩
            · go_wp2_with fail
              go_roundw
              case rel => exact ⟨pos + WD, f, n * 10 + (R - 48), rfl, HIT2.out, HBW2.out, HNX.out, by have := HWD.out; omega, HWI.out, by omega, by omega⟩
              case measure =>
                simp only [World.iterPos, HIT2.out, HIT.out]
                have := HWD.out; omega
            · go_wp2_with fail
              go_roundw
              case rel => exact ⟨pos + WD, f, n * 10 + (R - 48), rfl, HIT2.out, HBW2.out, HNX.out, by have := HWD.out; omega, HWI.out, by omega, by omega⟩
              case measure =>
                simp only [World.iterPos, HIT2.out, HIT.out]
                have := HWD.out; omega
    · have hnx := fun ty => next_none (P := Tryd.prog) hit hlt ty
      have hres : Hid (Z = if 1 < l.length then some n else none) := by
        show _ = _
        rw [← hn]
        cases fuel with
        | zero => unfold regF; rfl
        | succ f => unfold regF; rw [if_neg (by omega)]
      by_cases h1 : 1 < s.size
      · have q1 : decide ((1 : Int) < s.size) = true := decide_eq_true (by omega)
        have q2 : decide (1 < s.size) = true := decide_eq_true h1
        have hz : Hid (Z = some n) := by show _ = _; rw [hres.out, if_pos (by omega)]
        clear hn hit
        go_wp2
        refine bodyPost_ret (v := .tuple #[.int .i64 n, .bool true]) (by simp [results, Tryd.results124, go_sem]) rfl ⟨RegOut.yes hz.out, hbw⟩
      · have q1 : decide ((1 : Int) < s.size) = false := decide_eq_false (by omega)
        have q2 : decide (1 < s.size) = false := decide_eq_false h1
        have hz : Hid (Z = none) := by show _ = _; rw [hres.out, if_neg (by omega)]
        clear hn hit
        go_wp2
        refine bodyPost_ret (v := .tuple #[.int .i64 n, .bool false]) (by simp [results, Tryd.results124, go_sem]) rfl ⟨RegOut.no hz.out n, hbw⟩
end Go.Proofs.YtfdegdbknponkaaDoor.Words

/- Contracts of package asm's register, target and field. -/
namespace Go.Proofs.YtfdegdbknponkaaDoor.Words
set_option maxRecDepth 100000
open Go.RowKit Go.Shelf Go.Lib
set_option linter.unusedVariables false
set_option linter.unusedSimpArgs false

theorem regT_cons (t : Tok) (ts : List Tok) : regT (t :: ts) = match regZ t.text with | some n => (some n, ts) | none => (none, t :: ts) := rfl
theorem regT_none {r : List Tok} (e : Nat) (h : (regT r).1 = none) : regZ (nextT r e).text = none ∧ (regT r).2 = r := by
  cases r with
  | nil => exact ⟨rfl, rfl⟩
  | cons t ts =>
    rw [regT_cons] at h ⊢
    cases h1 : regZ t.text with
    | none => exact ⟨h1, rfl⟩
    | some n => rw [h1] at h; cases h
theorem regT_some {r : List Tok} (e : Nat) {n : Int} (h : (regT r).1 = some n) : regZ (nextT r e).text = some n ∧ r = nextT r e :: (regT r).2 := by
  cases r with
  | nil => cases h
  | cons t ts =>
    rw [regT_cons] at h ⊢
    cases h1 : regZ t.text with
    | none => rw [h1] at h; cases h
    | some k => rw [h1] at h; exact ⟨h1.trans h, rfl⟩
theorem next_in {r : List Tok} {e : Nat} (h : ∀ t ∈ r, TokIn t) : (nextT r e).text.length ≤ 1000000 := by
  cases r with
  | nil => simp [nextT]
  | cons t ts => exact (h t (by simp)).text
theorem txt_data (l : List UInt8) : (txt l).data.toList = l := by simp
theorem txt_sz (l : List UInt8) : (txt l).size = l.length := by rw [← data_len, txt_data]

set_option maxHeartbeats 2000000 in
theorem register_any (w : World) (b e : Nat) (r : List Tok) (vp : Value) (ps : List PartZ) (x k : Nat) (l : List Value) (hP : Par w b e r vp ps) (hx : Box w x l) (hk : k < l.length) (hbx : b < x) (hpx : vp.ownBlock ≠ some x) :
    Calls Tryd.prog 117 #[.pointer (some ⟨b, 0, none⟩), .pointer (some ⟨x, k, none⟩)] w fun en w' => en = .returned (.bool (regT r).1.isSome) ∧ Par w' b e (regT r).2 vp ps ∧
      Box w' x (match (regT r).1 with | some n => l.set k (.int .i64 n) | none => l) ∧ KeepS (fun j => j = b ∨ j = x) w w' := by
  have HP := Lib.hid hP
  have HX := Lib.hid hx
  have hN := next_any w b e r vp ps hP
  have hlt := hP.lt
  have hxl := hx.lt
  have hti := next_in (e := e) hP.toks
  have cR := Lib.hid (fun y => registerOf_any (txt (nextT r e).text) y (by rw [txt_sz]; omega))
  rw [txt_data] at cR
  cases hs : (regT r).1 with
  | none =>
    obtain ⟨h1, h2⟩ := regT_none e hs
    rw [h1] at cR
    have HS := Lib.hid h2
    generalize nextT r e = t at *
    clear hP hx h1 h2 hti
    have fd := field_text t
    go_enter Tryd.func117, Tryd.ntmps117
    go_wp2_with fail
    refine hN.mono ?_; rintro en w1 ⟨rfl, hb1⟩
    have HB1 := Lib.hid hb1
    clear hb1
    go_wp2_with fail
    refine (cR.out _).mono ?_; rintro en w2 ⟨⟨m, rfl, _⟩, hb2⟩
    have HB2 := Lib.hid (HB1.out.trans (hb2.mono HB1.out.size))
    clear hb2
    simp only [Option.isSome_none]
    go_wp2_with fail
    go_ret
    refine ⟨rfl, ?_, ?_, ?_⟩
    · rw [HS.out]; exact HP.out.go HB2.out
    · exact HX.out.below HB2.out hxl
    · exact KeepS.of_below HB2.out
  | some n =>
    obtain ⟨h1, h2⟩ := regT_some e hs
    rw [h1] at cR
    have HS := Lib.hid h2
    generalize nextT r e = t at *
    clear hP hx h2 h1 hti
    have fd := field_text t
    go_enter Tryd.func117, Tryd.ntmps117
    go_wp2_with fail
    refine hN.mono ?_; rintro en w0 ⟨rfl, hb0⟩
    have HB0 := Lib.hid hb0
    clear hb0
    go_wp2_with fail
    refine (cR.out _).mono ?_; rintro en w1 ⟨⟨m, rfl, hm⟩, hb2⟩
    obtain rfl := hm n rfl
    have hb1 := HB0.out.trans (hb2.mono HB0.out.size)
    have HB1 := Lib.hid hb1
    have hx1 : Hid (Box w1 x l) := HX.out.below hb1 hxl
    have hs1 := hb1.size
    clear hb1 hb2
    obtain ⟨v0, hv0⟩ : ∃ v0, l[k]? = some v0 := ⟨_, List.getElem?_eq_getElem hk⟩
    have y0 := hx1.out.cell hv0
    have fy := hx1.out.frozen k
    have P2 := Lib.hid (HP.out.go HB1.out)
    have K2 := Lib.hid (KeepS.of_below (S := fun j => j = b ∨ j = x) HB1.out)
    simp only [Option.isSome_some]
    go_wp2_with fail
    have X3 : Hid (Box (w1.setCell ⟨x, k, none⟩ (.int .i64 m)) x (l.set k (.int .i64 m))) := hx1.out.setCell k _
    have P3 := P2.out.set hbx hpx k (.int .i64 m)
    rw [HS.out] at P3
    have P4 := Lib.hid P3
    have K3 := Lib.hid (K2.out.setCell (.inr rfl) k (.int .i64 m))
    have hs3 : (w1.setCell ⟨x, k, none⟩ (.int .i64 m)).heap.size = w1.heap.size := by simp [World.setCell]
    clear P3
    refine (skip_any _ _ _ _ _ _ _ P4.out).mono ?_; rintro en w3 ⟨rfl, hp3, hk3⟩
    have H3 := Lib.hid hp3
    have HK3 := Lib.hid hk3
    clear hp3 hk3
    go_wp2_with fail
    go_ret
    exact ⟨rfl, H3.out, X3.out.keepS HK3.out (by omega), K3.out.trans (HK3.out.mono (fun j hj => .inl hj))⟩

theorem partL_set5 (x : PartZ) (n : Int) : (partL x).set 5 (.int .i64 n) = partL { x with ins := { x.ins with d := n } } := rfl
theorem partL_set6 (x : PartZ) (n : Int) : (partL x).set 6 (.int .i64 n) = partL { x with ins := { x.ins with a := n } } := rfl
theorem partL_set7 (x : PartZ) (n : Int) : (partL x).set 7 (.int .i64 n) = partL { x with ins := { x.ins with b := n } } := rfl
theorem partL_set8 (x : PartZ) (n : Int) : (partL x).set 8 (.int .i64 n) = partL { x with ins := { x.ins with imm := n } } := rfl
theorem partL_set2 (x : PartZ) (n : Int) : (partL x).set 2 (.int .i64 n) = partL { x with num := n } := rfl
theorem partL_target (x : PartZ) (t : Tok) : (((((partL x).set 9 (.int .i64 t.kind)).set 10 (.int .i64 t.num)).set 11 (.int .i64 (t.at_ : Int))).set 12 (.string (txt t.text))) = partL { x with target := t } := rfl
/-- What a field's call leaves. -/
def FieldOut (w : World) (b e : Nat) (vp : Value) (ps : List PartZ) (x : Nat) (Z : Bool × PartZ × List Tok) (en : Ending) (w' : World) : Prop :=
  en = .returned (.bool Z.1) ∧ Par w' b e Z.2.2 vp ps ∧ Box w' x (partL Z.2.1) ∧ KeepS (fun j => j = b ∨ j = x) w w'
theorem FieldOut.reg {w w' : World} {b e x k : Nat} {r : List Tok} {vp : Value} {ps : List PartZ} {Z : Bool × PartZ × List Tok} {l : List Value} {en : Ending}
    (h : en = .returned (.bool (regT r).1.isSome) ∧ Par w' b e (regT r).2 vp ps ∧ Box w' x (match (regT r).1 with | some n => l.set k (.int .i64 n) | none => l) ∧ KeepS (fun j => j = b ∨ j = x) w w')
    (h1 : Z.1 = (regT r).1.isSome) (h2 : Z.2.2 = (regT r).2) (h3 : partL Z.2.1 = match (regT r).1 with | some n => l.set k (.int .i64 n) | none => l) : FieldOut w b e vp ps x Z en w' := by
  unfold FieldOut; rw [h1, h2, h3]; exact h
theorem FieldOut.imm {w w' : World} {b e x k : Nat} {r : List Tok} {vp : Value} {ps : List PartZ} {Z : Bool × PartZ × List Tok} {l : List Value} {en : Ending}
    (h : en = .returned (.bool (immT r).1.isSome) ∧ Par w' b e (immT r).2 vp ps ∧ Box w' x (match (immT r).1 with | some n => l.set k (.int .i64 n) | none => l) ∧ KeepS (fun j => j = b ∨ j = x) w w')
    (h1 : Z.1 = (immT r).1.isSome) (h2 : Z.2.2 = (immT r).2) (h3 : partL Z.2.1 = match (immT r).1 with | some n => l.set k (.int .i64 n) | none => l) : FieldOut w b e vp ps x Z en w' := by
  unfold FieldOut; rw [h1, h2, h3]; exact h
theorem fieldT_68 (x : PartZ) (r : List Tok) : fieldT 68 x r = (match regT r with | (some n, ts) => (true, { x with ins := { x.ins with d := n } }, ts) | (none, ts) => (false, x, ts)) := by unfold fieldT; rw [if_pos rfl] <;> rfl
theorem fieldT_65 (x : PartZ) (r : List Tok) : fieldT 65 x r = (match regT r with | (some n, ts) => (true, { x with ins := { x.ins with a := n } }, ts) | (none, ts) => (false, x, ts)) := by unfold fieldT; rw [if_neg (by decide), if_pos rfl] <;> rfl
theorem fieldT_66 (x : PartZ) (r : List Tok) : fieldT 66 x r = (match regT r with | (some n, ts) => (true, { x with ins := { x.ins with b := n } }, ts) | (none, ts) => (false, x, ts)) := by unfold fieldT; rw [if_neg (by decide), if_neg (by decide), if_pos rfl] <;> rfl
theorem fieldT_78 (x : PartZ) (r : List Tok) : fieldT 78 x r = (match immT r with | (some n, ts) => (true, { x with ins := { x.ins with imm := n } }, ts) | (none, ts) => (false, x, ts)) := by unfold fieldT; rw [if_neg (by decide), if_neg (by decide), if_neg (by decide), if_pos rfl] <;> rfl
theorem fieldT_84 (x : PartZ) (r : List Tok) : fieldT 84 x r = (match r with
    | t :: ts => if t.kind = 1 then (true, { x with target := t }, ts) else (match immT (t :: ts) with | (some n, ts) => (true, { x with ins := { x.ins with imm := n } }, ts) | (none, ts) => (false, x, ts))
    | [] => (false, x, [])) := by unfold fieldT; rw [if_neg (by decide), if_neg (by decide), if_neg (by decide), if_neg (by decide), if_pos rfl] <;> rfl
theorem fieldT_sign {c : Int} (h : c = 44 ∨ c = 40 ∨ c = 41) (x : PartZ) (r : List Tok) : fieldT c x r = ((signT [UInt8.ofNat c.toNat] r).1, x, (signT [UInt8.ofNat c.toNat] r).2) := by
  unfold fieldT
  rw [if_neg (by omega), if_neg (by omega), if_neg (by omega), if_neg (by omega), if_neg (by omega)]
/-- A label's target, or none. -/
theorem target_next {r : List Tok} (e : Nat) (x : PartZ) (h : (nextT r e).kind = 1) : r = nextT r e :: (fieldT 84 x r).2.2 ∧ (fieldT 84 x r).1 = true ∧ (fieldT 84 x r).2.1 = { x with target := nextT r e } := by
  rw [fieldT_84]
  cases r with
  | nil => exact absurd h (by simp [nextT])
  | cons t ts =>
    have h2 : t.kind = 1 := h
    simp [h2, nextT]
theorem target_imm {r : List Tok} (e : Nat) (x : PartZ) (h : (nextT r e).kind ≠ 1) : (fieldT 84 x r).1 = (immT r).1.isSome ∧ (fieldT 84 x r).2.2 = (immT r).2 ∧ partL (fieldT 84 x r).2.1 = match (immT r).1 with | some n => (partL x).set 8 (.int .i64 n) | none => partL x := by
  rw [fieldT_84]
  cases r with
  | nil => exact ⟨rfl, rfl, rfl⟩
  | cons t ts =>
    have h2 : ¬ t.kind = 1 := h
    simp only [h2, if_false]
    generalize immT (t :: ts) = Q
    obtain ⟨o, ts2⟩ := Q
    cases o <;> exact ⟨rfl, rfl, rfl⟩

set_option maxHeartbeats 2000000 in
theorem target_any (w : World) (b e : Nat) (r : List Tok) (vp : Value) (ps : List PartZ) (x : Nat) (xz : PartZ) (hP : Par w b e r vp ps) (hx : Box w x (partL xz)) (hbx : b < x) (hpx : vp.ownBlock ≠ some x) :
    Calls Tryd.prog 118 #[.pointer (some ⟨b, 0, none⟩), .pointer (some ⟨x, 0, none⟩)] w (FieldOut w b e vp ps x (fieldT 84 xz r)) := by
  have HP := Lib.hid hP
  have HX := Lib.hid hx
  have hN := next_any w b e r vp ps hP
  have hlt := hP.lt
  have hxl := hx.lt
  by_cases hk : (nextT r e).kind = 1
  · obtain ⟨h1, h2, h3⟩ := target_next e xz hk
    have H1 := Lib.hid h1
    have HZ : Hid (∀ en w', (en = .returned (.bool true) ∧ Par w' b e (fieldT 84 xz r).2.2 vp ps ∧ Box w' x (partL { xz with target := nextT r e }) ∧ KeepS (fun j => j = b ∨ j = x) w w') → FieldOut w b e vp ps x (fieldT 84 xz r) en w') := by
      intro en w' h; unfold FieldOut; rw [h2, h3]; exact h
    generalize fieldT 84 xz r = Z at *
    generalize nextT r e = t at *
    have h4 : (t.kind != 1) = false := by simp [hk]
    clear hP hx h1 h2 h3 hk
    go_enter Tryd.func118, Tryd.ntmps118
    go_wp2_with fail
    refine hN.mono ?_; rintro en w1 ⟨rfl, hb1⟩
    have HB1 := Lib.hid hb1
    have hx1 : Hid (Box w1 x (partL xz)) := HX.out.below hb1 hxl
    have hs1 := hb1.size
    clear hb1
    have X2 := Lib.hid (hx1.out.alloc (.cells #[.int .i64 t.kind, .int .i64 t.num, .int .i64 (t.at_ : Int), .string (txt t.text)] 62))
    have P2 := Lib.hid ((HP.out.go HB1.out).alloc (.cells #[.int .i64 t.kind, .int .i64 t.num, .int .i64 (t.at_ : Int), .string (txt t.text)] 62))
    have K2 := Lib.hid ((KeepS.of_below (S := fun j => j = b ∨ j = x) HB1.out).alloc (.cells #[.int .i64 t.kind, .int .i64 t.num, .int .i64 (t.at_ : Int), .string (txt t.text)] 62))
    have y9 := X2.out.cell (k := 9) rfl
    have y10 := X2.out.cell (k := 10) rfl
    have y11 := X2.out.cell (k := 11) rfl
    have y12 := X2.out.cell (k := 12) rfl
    have g9 := X2.out.frozen 9
    have g10 := X2.out.frozen 10
    have g11 := X2.out.frozen 11
    have g12 := X2.out.frozen 12
    go_wp2_with fail
    have hk4 : KeepS (fun j => j = x) (w1.alloc (.cells #[.int .i64 t.kind, .int .i64 t.num, .int .i64 (t.at_ : Int), .string (txt t.text)] 62)) (((((w1.alloc (.cells #[.int .i64 t.kind, .int .i64 t.num, .int .i64 (t.at_ : Int), .string (txt t.text)] 62)).setCell ⟨x, 9, none⟩ (.int .i64 t.kind)).setCell ⟨x, 10, none⟩ (.int .i64 t.num)).setCell ⟨x, 11, none⟩ (.int .i64 (t.at_ : Int))).setCell ⟨x, 12, none⟩ (.string (txt t.text))) :=
      ((((KeepS.refl (fun j => j = x) _).setCell rfl _ _).setCell rfl _ _).setCell rfl _ _).setCell rfl _ _
    have X3 : Hid (Box (((((w1.alloc (.cells #[.int .i64 t.kind, .int .i64 t.num, .int .i64 (t.at_ : Int), .string (txt t.text)] 62)).setCell ⟨x, 9, none⟩ (.int .i64 t.kind)).setCell ⟨x, 10, none⟩ (.int .i64 t.num)).setCell ⟨x, 11, none⟩ (.int .i64 (t.at_ : Int))).setCell ⟨x, 12, none⟩ (.string (txt t.text))) x (partL { xz with target := t })) := by
      rw [← partL_target]
      exact (((X2.out.setCell 9 _).setCell 10 _).setCell 11 _).setCell 12 _
    have P3 := P2.out.keepS hk4 (fun j hj => by omega) (fun g hg e => hpx (by rw [hg, e]))
    rw [H1.out] at P3
    have P4 := Lib.hid P3
    have K3 := Lib.hid (K2.out.trans (hk4.mono (fun j hj => .inr hj)))
    clear P3 hk4
    refine (skip_any _ _ _ _ _ _ _ P4.out).mono ?_; rintro en w3 ⟨rfl, hp3, hk3⟩
    have H3 := Lib.hid hp3
    have HK3 := Lib.hid hk3
    clear hp3 hk3
    go_wp2_with fail
    go_ret
    exact HZ.out _ _ ⟨rfl, H3.out, X3.out.keepS HK3.out (by omega), K3.out.trans (HK3.out.mono (fun j hj => .inl hj))⟩
  · obtain ⟨h1, h2, h3⟩ := target_imm e xz hk
    have HZ : Hid (∀ en w', (en = .returned (.bool (immT r).1.isSome) ∧ Par w' b e (immT r).2 vp ps ∧ Box w' x (match (immT r).1 with | some n => (partL xz).set 8 (.int .i64 n) | none => partL xz) ∧ KeepS (fun j => j = b ∨ j = x) w w') → FieldOut w b e vp ps x (fieldT 84 xz r) en w') :=
      fun en w' h => FieldOut.imm h h1 h2 h3
    generalize fieldT 84 xz r = Z at *
    have h4 : ((nextT r e).kind != 1) = true := by simpa using hk
    clear h1 h2 h3 hk hP hx
    generalize hT : nextT r e = t at *
    clear hT
    go_enter Tryd.func118, Tryd.ntmps118
    go_wp2_with fail
    refine hN.mono ?_; rintro en w1 ⟨rfl, hb1⟩
    have HB1 := Lib.hid hb1
    have hx1 : Hid (Box w1 x (partL xz)) := HX.out.below hb1 hxl
    have hs1 := hb1.size
    clear hb1
    have X2 := Lib.hid (hx1.out.alloc (.cells #[.int .i64 t.kind, .int .i64 t.num, .int .i64 (t.at_ : Int), .string (txt t.text)] 62))
    have P2 := Lib.hid ((HP.out.go HB1.out).alloc (.cells #[.int .i64 t.kind, .int .i64 t.num, .int .i64 (t.at_ : Int), .string (txt t.text)] 62))
    have K2 := Lib.hid ((KeepS.of_below (S := fun j => j = b ∨ j = x) HB1.out).alloc (.cells #[.int .i64 t.kind, .int .i64 t.num, .int .i64 (t.at_ : Int), .string (txt t.text)] 62))
    go_wp2_with fail
    refine (immediate_any _ b e r vp ps x 8 (partL xz) P2.out X2.out (show 8 < 13 by decide) hbx hpx).mono ?_; rintro en w3 ⟨rfl, hp3, hx3, hk3⟩
    have H3 := Lib.hid hp3
    have HX3 := Lib.hid hx3
    have HK3 := Lib.hid (K2.out.trans hk3)
    clear hp3 hk3 hx3
    go_wp2_with fail
    go_ret
    exact HZ.out _ _ ⟨rfl, H3.out, HX3.out, HK3.out⟩

set_option maxHeartbeats 2000000 in
theorem field_68 (w : World) (b e : Nat) (r : List Tok) (vp : Value) (ps : List PartZ) (x : Nat) (xz : PartZ) (hP : Par w b e r vp ps) (hx : Box w x (partL xz)) (hbx : b < x) (hpx : vp.ownBlock ≠ some x) :
    Calls Tryd.prog 108 #[.pointer (some ⟨b, 0, none⟩), .int .i32 68, .pointer (some ⟨x, 0, none⟩)] w (FieldOut w b e vp ps x (fieldT 68 xz r)) := by
  have hN := register_any w b e r vp ps x 5 (partL xz) hP hx (show 5 < 13 by decide) hbx hpx
  have HZ : Hid (∀ en w', (en = .returned (.bool (regT r).1.isSome) ∧ Par w' b e (regT r).2 vp ps ∧ Box w' x (match (regT r).1 with | some n => (partL xz).set 5 (.int .i64 n) | none => partL xz) ∧ KeepS (fun j => j = b ∨ j = x) w w') → FieldOut w b e vp ps x (fieldT 68 xz r) en w') := by
    intro en w' h
    refine FieldOut.reg h ?_ ?_ ?_ <;> (rw [fieldT_68]; generalize regT r = Q; obtain ⟨o, ts⟩ := Q; cases o <;> rfl)
  clear hP hx
  go_enter Tryd.func108, Tryd.ntmps108
  go_wp2_with fail
  refine hN.mono ?_; rintro en w1 ⟨rfl, h⟩
  have H := Lib.hid h
  clear h
  go_wp2_with fail
  go_ret
  exact HZ.out _ _ ⟨rfl, H.out⟩

set_option maxHeartbeats 2000000 in
theorem field_65 (w : World) (b e : Nat) (r : List Tok) (vp : Value) (ps : List PartZ) (x : Nat) (xz : PartZ) (hP : Par w b e r vp ps) (hx : Box w x (partL xz)) (hbx : b < x) (hpx : vp.ownBlock ≠ some x) :
    Calls Tryd.prog 108 #[.pointer (some ⟨b, 0, none⟩), .int .i32 65, .pointer (some ⟨x, 0, none⟩)] w (FieldOut w b e vp ps x (fieldT 65 xz r)) := by
  have hN := register_any w b e r vp ps x 6 (partL xz) hP hx (show 6 < 13 by decide) hbx hpx
  have HZ : Hid (∀ en w', (en = .returned (.bool (regT r).1.isSome) ∧ Par w' b e (regT r).2 vp ps ∧ Box w' x (match (regT r).1 with | some n => (partL xz).set 6 (.int .i64 n) | none => partL xz) ∧ KeepS (fun j => j = b ∨ j = x) w w') → FieldOut w b e vp ps x (fieldT 65 xz r) en w') := by
    intro en w' h
    refine FieldOut.reg h ?_ ?_ ?_ <;> (rw [fieldT_65]; generalize regT r = Q; obtain ⟨o, ts⟩ := Q; cases o <;> rfl)
  clear hP hx
  go_enter Tryd.func108, Tryd.ntmps108
  go_wp2_with fail
  refine hN.mono ?_; rintro en w1 ⟨rfl, h⟩
  have H := Lib.hid h
  clear h
  go_wp2_with fail
  go_ret
  exact HZ.out _ _ ⟨rfl, H.out⟩

set_option maxHeartbeats 2000000 in
theorem field_66 (w : World) (b e : Nat) (r : List Tok) (vp : Value) (ps : List PartZ) (x : Nat) (xz : PartZ) (hP : Par w b e r vp ps) (hx : Box w x (partL xz)) (hbx : b < x) (hpx : vp.ownBlock ≠ some x) :
    Calls Tryd.prog 108 #[.pointer (some ⟨b, 0, none⟩), .int .i32 66, .pointer (some ⟨x, 0, none⟩)] w (FieldOut w b e vp ps x (fieldT 66 xz r)) := by
  have hN := register_any w b e r vp ps x 7 (partL xz) hP hx (show 7 < 13 by decide) hbx hpx
  have HZ : Hid (∀ en w', (en = .returned (.bool (regT r).1.isSome) ∧ Par w' b e (regT r).2 vp ps ∧ Box w' x (match (regT r).1 with | some n => (partL xz).set 7 (.int .i64 n) | none => partL xz) ∧ KeepS (fun j => j = b ∨ j = x) w w') → FieldOut w b e vp ps x (fieldT 66 xz r) en w') := by
    intro en w' h
    refine FieldOut.reg h ?_ ?_ ?_ <;> (rw [fieldT_66]; generalize regT r = Q; obtain ⟨o, ts⟩ := Q; cases o <;> rfl)
  clear hP hx
  go_enter Tryd.func108, Tryd.ntmps108
  go_wp2_with fail
  refine hN.mono ?_; rintro en w1 ⟨rfl, h⟩
  have H := Lib.hid h
  clear h
  go_wp2_with fail
  go_ret
  exact HZ.out _ _ ⟨rfl, H.out⟩

set_option maxHeartbeats 2000000 in
theorem field_78 (w : World) (b e : Nat) (r : List Tok) (vp : Value) (ps : List PartZ) (x : Nat) (xz : PartZ) (hP : Par w b e r vp ps) (hx : Box w x (partL xz)) (hbx : b < x) (hpx : vp.ownBlock ≠ some x) :
    Calls Tryd.prog 108 #[.pointer (some ⟨b, 0, none⟩), .int .i32 78, .pointer (some ⟨x, 0, none⟩)] w (FieldOut w b e vp ps x (fieldT 78 xz r)) := by
  have hN := immediate_any w b e r vp ps x 8 (partL xz) hP hx (show 8 < 13 by decide) hbx hpx
  have HZ : Hid (∀ en w', (en = .returned (.bool (immT r).1.isSome) ∧ Par w' b e (immT r).2 vp ps ∧ Box w' x (match (immT r).1 with | some n => (partL xz).set 8 (.int .i64 n) | none => partL xz) ∧ KeepS (fun j => j = b ∨ j = x) w w') → FieldOut w b e vp ps x (fieldT 78 xz r) en w') := by
    intro en w' h
    refine FieldOut.imm h ?_ ?_ ?_ <;> (rw [fieldT_78]; generalize immT r = Q; obtain ⟨o, ts⟩ := Q; cases o <;> rfl)
  clear hP hx
  go_enter Tryd.func108, Tryd.ntmps108
  go_wp2_with fail
  refine hN.mono ?_; rintro en w1 ⟨rfl, h⟩
  have H := Lib.hid h
  clear h
  go_wp2_with fail
  go_ret
  exact HZ.out _ _ ⟨rfl, H.out⟩

set_option maxHeartbeats 2000000 in
theorem field_84 (w : World) (b e : Nat) (r : List Tok) (vp : Value) (ps : List PartZ) (x : Nat) (xz : PartZ) (hP : Par w b e r vp ps) (hx : Box w x (partL xz)) (hbx : b < x) (hpx : vp.ownBlock ≠ some x) :
    Calls Tryd.prog 108 #[.pointer (some ⟨b, 0, none⟩), .int .i32 84, .pointer (some ⟨x, 0, none⟩)] w (FieldOut w b e vp ps x (fieldT 84 xz r)) := by
  have hN := target_any w b e r vp ps x xz hP hx hbx hpx
  generalize fieldT 84 xz r = Z at *
  clear hP hx
  go_enter Tryd.func108, Tryd.ntmps108
  go_wp2_with fail
  refine hN.mono ?_; rintro en w1 ⟨rfl, h⟩
  have H := Lib.hid h
  clear h
  go_wp2_with fail
  go_ret
  exact ⟨rfl, H.out⟩

set_option maxHeartbeats 2000000 in
theorem field_44 (w : World) (b e : Nat) (r : List Tok) (vp : Value) (ps : List PartZ) (x : Nat) (xz : PartZ) (hP : Par w b e r vp ps) (hx : Box w x (partL xz)) (hbx : b < x) (hpx : vp.ownBlock ≠ some x) :
    Calls Tryd.prog 108 #[.pointer (some ⟨b, 0, none⟩), .int .i32 44, .pointer (some ⟨x, 0, none⟩)] w (FieldOut w b e vp ps x (fieldT 44 xz r)) := by
  have hN := sign_any w b e r vp ps [44] hP
  have hxl := hx.lt
  have HZ : Hid (∀ en w', (en = .returned (.bool (signT [44] r).1) ∧ Par w' b e (signT [44] r).2 vp ps ∧ KeepS (fun j => j = b) w w') → FieldOut w b e vp ps x (fieldT 44 xz r) en w') := by
    intro en w' h
    have e2 : fieldT 44 xz r = ((signT [44] r).1, xz, (signT [44] r).2) := fieldT_sign (by decide) xz r
    unfold FieldOut
    rw [e2]
    exact ⟨h.1, h.2.1, hx.keepS h.2.2 (fun e => by omega), h.2.2.mono (fun j hj => .inl hj)⟩
  clear hP hx
  go_enter Tryd.func108, Tryd.ntmps108
  go_wp2_with fail
  refine hN.mono ?_; rintro en w1 ⟨rfl, h⟩
  have H := Lib.hid h
  clear h
  go_wp2_with fail
  go_ret
  exact HZ.out _ _ ⟨rfl, H.out⟩

set_option maxHeartbeats 2000000 in
theorem field_40 (w : World) (b e : Nat) (r : List Tok) (vp : Value) (ps : List PartZ) (x : Nat) (xz : PartZ) (hP : Par w b e r vp ps) (hx : Box w x (partL xz)) (hbx : b < x) (hpx : vp.ownBlock ≠ some x) :
    Calls Tryd.prog 108 #[.pointer (some ⟨b, 0, none⟩), .int .i32 40, .pointer (some ⟨x, 0, none⟩)] w (FieldOut w b e vp ps x (fieldT 40 xz r)) := by
  have hN := sign_any w b e r vp ps [40] hP
  have hxl := hx.lt
  have HZ : Hid (∀ en w', (en = .returned (.bool (signT [40] r).1) ∧ Par w' b e (signT [40] r).2 vp ps ∧ KeepS (fun j => j = b) w w') → FieldOut w b e vp ps x (fieldT 40 xz r) en w') := by
    intro en w' h
    have e2 : fieldT 40 xz r = ((signT [40] r).1, xz, (signT [40] r).2) := fieldT_sign (by decide) xz r
    unfold FieldOut
    rw [e2]
    exact ⟨h.1, h.2.1, hx.keepS h.2.2 (fun e => by omega), h.2.2.mono (fun j hj => .inl hj)⟩
  clear hP hx
  go_enter Tryd.func108, Tryd.ntmps108
  go_wp2_with fail
  refine hN.mono ?_; rintro en w1 ⟨rfl, h⟩
  have H := Lib.hid h
  clear h
  go_wp2_with fail
  go_ret
  exact HZ.out _ _ ⟨rfl, H.out⟩

set_option maxHeartbeats 2000000 in
theorem field_41 (w : World) (b e : Nat) (r : List Tok) (vp : Value) (ps : List PartZ) (x : Nat) (xz : PartZ) (hP : Par w b e r vp ps) (hx : Box w x (partL xz)) (hbx : b < x) (hpx : vp.ownBlock ≠ some x) :
    Calls Tryd.prog 108 #[.pointer (some ⟨b, 0, none⟩), .int .i32 41, .pointer (some ⟨x, 0, none⟩)] w (FieldOut w b e vp ps x (fieldT 41 xz r)) := by
  have hN := sign_any w b e r vp ps [41] hP
  have hxl := hx.lt
  have HZ : Hid (∀ en w', (en = .returned (.bool (signT [41] r).1) ∧ Par w' b e (signT [41] r).2 vp ps ∧ KeepS (fun j => j = b) w w') → FieldOut w b e vp ps x (fieldT 41 xz r) en w') := by
    intro en w' h
    have e2 : fieldT 41 xz r = ((signT [41] r).1, xz, (signT [41] r).2) := fieldT_sign (by decide) xz r
    unfold FieldOut
    rw [e2]
    exact ⟨h.1, h.2.1, hx.keepS h.2.2 (fun e => by omega), h.2.2.mono (fun j hj => .inl hj)⟩
  clear hP hx
  go_enter Tryd.func108, Tryd.ntmps108
  go_wp2_with fail
  refine hN.mono ?_; rintro en w1 ⟨rfl, h⟩
  have H := Lib.hid h
  clear h
  go_wp2_with fail
  go_ret
  exact HZ.out _ _ ⟨rfl, H.out⟩

theorem field_any (c : Int) (hc : c = 68 ∨ c = 65 ∨ c = 66 ∨ c = 78 ∨ c = 84 ∨ c = 44 ∨ c = 40 ∨ c = 41) (w : World) (b e : Nat) (r : List Tok) (vp : Value) (ps : List PartZ) (x : Nat) (xz : PartZ) (hP : Par w b e r vp ps) (hx : Box w x (partL xz)) (hbx : b < x) (hpx : vp.ownBlock ≠ some x) :
    Calls Tryd.prog 108 #[.pointer (some ⟨b, 0, none⟩), .int .i32 c, .pointer (some ⟨x, 0, none⟩)] w (FieldOut w b e vp ps x (fieldT c xz r)) := by
  rcases hc with rfl | rfl | rfl | rfl | rfl | rfl | rfl | rfl
  · exact field_68 w b e r vp ps x xz hP hx hbx hpx
  · exact field_65 w b e r vp ps x xz hP hx hbx hpx
  · exact field_66 w b e r vp ps x xz hP hx hbx hpx
  · exact field_78 w b e r vp ps x xz hP hx hbx hpx
  · exact field_84 w b e r vp ps x xz hP hx hbx hpx
  · exact field_44 w b e r vp ps x xz hP hx hbx hpx
  · exact field_40 w b e r vp ps x xz hP hx hbx hpx
  · exact field_41 w b e r vp ps x xz hP hx hbx hpx
end Go.Proofs.YtfdegdbknponkaaDoor.Words

/- A law of no one program: A REGION THAT DRAWS ITS ORDER, WALKED ALONG A TREE OF ORDERS ('Lin' with forks): where two operations that turn the world may come up in either order, the tree parts. What holds behind the region (R) is named ahead: the rest is walked once. -/
namespace Go.Proofs.YtfdegdbknponkaaDoor.Words
set_option maxRecDepth 100000
open Go.RowKit

inductive LinT | nil | one (i : Nat) (b : Bool) (r : LinT) | two (i j : Nat) (r s : LinT)
inductive LinO | nil | one (o : Option Oper) (b : Bool) (r : LinO) | two (o o' : Option Oper) (r s : LinO)
def LinT.look (ops : Array Oper) : LinT → LinO
  | .nil => .nil
  | .one i b r => .one ops[i]? b (r.look ops)
  | .two i j r s => .two ops[i]? ops[j]? (r.look ops) (s.look ops)
def LinT.size : LinT → Nat
  | .nil => 0
  | .one _ _ r => r.size + 1
  | .two _ _ r _ => r.size + 1
def LinT.ok (md : Region.Mode) (ops : Array Oper) : LinT → Array Bool → Bool
  | .nil, listed => (Region.ready md ops listed).isEmpty
  | .one i true r, listed => (Region.ready md ops listed).contains i && Region.free md ops listed i && r.ok md ops (listed.setIfInBounds i true)
  | .one i false r, listed => (Region.ready md ops listed == [i]) && r.ok md ops (listed.setIfInBounds i true)
  | .two i j r s, listed => (Region.ready md ops listed == [i, j]) && r.size == s.size && r.ok md ops (listed.setIfInBounds i true) && s.ok md ops (listed.setIfInBounds j true)
/-- A list of orders as a tree. -/
def LinT.of : List (Nat × Bool) → LinT → LinT
  | [], t => t
  | (i, b) :: l, t => .one i b (LinT.of l t)

section
variable {P : Program} {ops : Array Oper} {Q : Exit → Act → World → Prop} {R : Act → World → Prop} {md : Region.Mode}

def wpT (P : Program) (ops : Array Oper) (Q : Exit → Act → World → Prop) (R : Act → World → Prop) : LinO → (World → Prop) → Act → World → Prop
  | .nil, _, a, w => R a w
  | .one (some o) true rest, S, a, w => ∃ S' : World → Prop, (∀ x, S' x → S x) ∧ S' w ∧ ∃ v, YieldsIf P ops S' o v a ∧ wpT P ops Q R rest S' (a.put o.dst v) w
  | .one (some o) false rest, S, a, w => ∃ S' : World → Prop, (∀ x, S' x → S x) ∧ S' w ∧ linStep P ops Q o (fun a' w' => S' w' ∧ wpT P ops Q R rest S' a' w') a w
  | .two (some o) (some o') r s, S, a, w => ∃ S' : World → Prop, (∀ x, S' x → S x) ∧ S' w ∧ linStep P ops Q o (fun a' w' => S' w' ∧ wpT P ops Q R r S' a' w') a w ∧ linStep P ops Q o' (fun a' w' => S' w' ∧ wpT P ops Q R s S' a' w') a w
  | .one none _ _, _, _, _ => False
  | .two none _ _ _, _, _, _ => False
  | .two (some _) none _ _, _, _, _ => False

theorem step_any {i : Nat} {o : Oper} {fuel : Nat} {listed : Array Bool} {S' : World → Prop} {K : Act → World → Prop} {a : Act} {w : World} (ho : ops[i]? = some o)
    (hK : ∀ a w, K a w → wpAnyH P md ops Q S' fuel (listed.setIfInBounds i true) a w)
    (h : linStep P ops Q o (fun a' w' => S' w' ∧ K a' w') a w) : wpOp P ops Q i (fun a' w' => S' w' ∧ wpAnyH P md ops Q S' fuel (listed.setIfInBounds i true) a' w') a w := by
  unfold wpOp
  simp only [ho]
  unfold linStep at h
  split at h
  · rename_i hw
    rw [if_pos hw]
    exact .inl (Oper.wp_mono (fun a' w' hk => ⟨hk.1, hK a' w' hk.2⟩) h)
  · rename_i hw
    rw [if_neg hw]
    exact ⟨h.1, hK _ _ h.2⟩

theorem held_tree (hs : Region.noSelect ops = true) (hQ : ∀ d v c a w, Q (.panic c) (a.put d v) w → Q (.panic c) a w) (hR : ∀ a w, R a w → Q .normal a w) :
    ∀ (t : LinT) (listed : Array Bool) (S : World → Prop) (a : Act) (w : World), t.ok md ops listed = true → wpT P ops Q R (t.look ops) S a w → wpAnyH P md ops Q S t.size listed a w
  | .nil, listed, S, a, w, hok, h => ⟨by simpa [LinT.ok] using hok, hR _ _ h⟩
  | .one i true rest, listed, S, a, w, hok, h => by
    simp only [LinT.ok, Bool.and_eq_true] at hok
    obtain ⟨⟨h1, h2⟩, h3⟩ := hok
    rcases ho : ops[i]? with _ | o
    · simp only [LinT.look, ho, wpT] at h
    · simp only [LinT.look, ho, wpT] at h
      obtain ⟨S', k1, k2, v, k3, k4⟩ := h
      exact held_weaken k1 _ _ _ _ (wpAnyH_take ho hs h2 h1 (hQ _ _) k3 k2 (held_tree hs hQ hR rest _ S' _ w h3 k4))
  | .one i false rest, listed, S, a, w, hok, h => by
    simp only [LinT.ok, Bool.and_eq_true, beq_iff_eq] at hok
    obtain ⟨h1, h3⟩ := hok
    rcases ho : ops[i]? with _ | o
    · simp only [LinT.look, ho, wpT] at h
    · simp only [LinT.look, ho, wpT] at h
      obtain ⟨S', k1, k2, k3⟩ := h
      refine held_weaken k1 _ _ _ _ (wpAnyH_all h1 (by simp) fun j hj => ?_)
      have hji : j = i := by simpa using hj
      subst hji
      exact step_any ho (fun a w hk => held_tree hs hQ hR rest _ S' a w h3 hk) k3
  | .two i j r s, listed, S, a, w, hok, h => by
    simp only [LinT.ok, Bool.and_eq_true, beq_iff_eq] at hok
    obtain ⟨⟨⟨h1, h2⟩, h3⟩, h4⟩ := hok
    rcases ho : ops[i]? with _ | o
    · simp only [LinT.look, ho, wpT] at h
    · rcases ho' : ops[j]? with _ | o'
      · simp only [LinT.look, ho, ho', wpT] at h
      · simp only [LinT.look, ho, ho', wpT] at h
        obtain ⟨S', k1, k2, k3, k4⟩ := h
        refine held_weaken k1 _ _ _ _ (wpAnyH_all h1 (by simp) fun k hk => ?_)
        have hki : k = i ∨ k = j := by simpa using hk
        rcases hki with rfl | rfl
        · exact step_any ho (fun a w hk => held_tree hs hQ hR r _ S' a w h3 hk) k3
        · exact step_any ho' (fun a w hk => (show wpAnyH P md ops Q S' r.size _ a w by rw [h2]; exact held_tree hs hQ hR s _ S' a w h4 hk)) k4

/-- THE REGION. -/
theorem wp_region_tree {id : Nat} {a : Act} {w : World} (R : Act → World → Prop) (t : LinT) (hm : P.follows .mixedOrders = true) (hs : Region.noSelect ops = true) (hl : t.size = ops.size)
    (hok : t.ok .any ops (Array.replicate ops.size false) = true) (S : World → Prop) (hR : ∀ a w, R a w → Q .normal a w)
    (h : wpT P ops (NoPanic Q) R (t.look ops) S a w.drew) : (Code.region id ops true).wp P Q a w := by
  refine wp_region_noPanic (wp_region_held hm (S := S) ?_)
  have hh := held_tree (Q := NoPanic Q) hs (fun _ _ _ _ _ h => h) hR t _ S a w.drew hok h
  rw [hl] at hh
  exact hh

theorem tree_take {o : Oper} {rest : LinO} {S : World → Prop} {a : Act} {w : World} {v : Value} (hS : S w)
    (hw : Region.wanted o (yielded ops a.tmps) = true) (hy : ∀ x, S x → (execOp a.eval o).run P x = .ok (.value v) x)
    (h : wpT P ops Q R rest S (a.put o.dst v) w) : wpT P ops Q R (.one (some o) true rest) S a w := ⟨S, fun _ h => h, hS, v, .inl ⟨hw, hy⟩, h⟩
theorem tree_skip {o : Oper} {rest : LinO} {S : World → Prop} {a : Act} {w : World} (hS : S w)
    (hw : Region.wanted o (yielded ops a.tmps) = false) (h : wpT P ops Q R rest S (a.put o.dst undef) w) : wpT P ops Q R (.one (some o) true rest) S a w := ⟨S, fun _ h => h, hS, undef, .inr ⟨hw, rfl⟩, h⟩
theorem tree_call {o : Oper} {rest : LinO} {S : World → Prop} {a : Act} {w : World} (hS : S w) (hw : Region.wanted o (yielded ops a.tmps) = true)
    (h : ∀ K : Act → World → Prop, Shut (∀ a w, S w → (S w → wpT P ops Q R rest S a w) → K a w) → Oper.wp P o a w K Q) : wpT P ops Q R (.one (some o) false rest) S a w :=
  ⟨S, fun _ h => h, hS, by unfold linStep; rw [if_pos hw]; exact h _ (fun _ _ h1 h2 => ⟨h1, h2 h1⟩)⟩
theorem tree_two {o o' : Oper} {r s : LinO} {S : World → Prop} {a : Act} {w : World} (hS : S w) (hw : Region.wanted o (yielded ops a.tmps) = true) (hw' : Region.wanted o' (yielded ops a.tmps) = true)
    (h : ∀ K : Act → World → Prop, Shut (∀ a w, S w → (S w → wpT P ops Q R r S a w) → K a w) → Oper.wp P o a w K Q)
    (h' : ∀ K : Act → World → Prop, Shut (∀ a w, S w → (S w → wpT P ops Q R s S a w) → K a w) → Oper.wp P o' a w K Q) : wpT P ops Q R (.two (some o) (some o') r s) S a w :=
  ⟨S, fun _ h => h, hS, by unfold linStep; rw [if_pos hw]; exact h _ (fun _ _ h1 h2 => ⟨h1, h2 h1⟩), by unfold linStep; rw [if_pos hw']; exact h' _ (fun _ _ h1 h2 => ⟨h1, h2 h1⟩)⟩
theorem tree_more {l : LinO} {S S' : World → Prop} {a : Act} {w : World} (h1 : ∀ x, S' x → S x) (h : wpT P ops Q R l S' a w) : wpT P ops Q R l S a w := by
  rcases l with _ | ⟨o, b, r⟩ | ⟨o, o', r, s⟩
  · exact h
  · rcases o with _ | o
    · cases b <;> exact h
    · cases b
      · obtain ⟨S2, k1, k2⟩ := h
        exact ⟨S2, fun x hx => h1 x (k1 x hx), k2⟩
      · obtain ⟨S2, k1, k2⟩ := h
        exact ⟨S2, fun x hx => h1 x (k1 x hx), k2⟩
  · rcases o with _ | o
    · exact h
    · rcases o' with _ | o'
      · exact h
      · obtain ⟨S2, k1, k2⟩ := h
        exact ⟨S2, fun x hx => h1 x (k1 x hx), k2⟩
theorem tree_done {S : World → Prop} {a : Act} {w : World} (h : R a w) : wpT P ops Q R .nil S a w := h
end
end Go.Proofs.YtfdegdbknponkaaDoor.Words

/- A part appended to a parser's: what the region that does it leaves; a struct read in a region walked as a tree. -/
namespace Go.Proofs.YtfdegdbknponkaaDoor.Words
set_option maxRecDepth 100000
open Go.RowKit Go.Shelf Go.Lib
set_option linter.unusedVariables false

section
variable {P : Program} {ops : Array Oper} {rest : LinO} {o : Oper} {a : Act} {Q : Exit → Act → World → Prop} {R : Act → World → Prop} {S : World → Prop} {w : World}
theorem tree_get_box (hS : S w) (hw : Region.wanted o (yielded ops a.tmps) = true) (ty : TypeId) (x : Operand) (ho : o.op = .load ty x)
    (b k : Nat) (hx : a.eval x = .pointer (some ⟨b, k, none⟩)) (l cs : List Value) (hb : ∀ y, S y → Box y b l) (hc : ∀ j v, cs[j]? = some v → l[k + j]? = some v) (d : TypeDesc)
    (hu : P.underlying ty = some d) (hd : d.isRow = true) (n : Nat) (hi : (P.info? ty).map (·.size) = some n) (hn : cs.length = n)
    (h : wpT P ops Q R rest S (a.put o.dst (.agg cs.toArray)) w) : wpT P ops Q R (.one (some o) true rest) S a w :=
  ⟨S, fun _ h => h, hS, _, yieldsIf_load_mid hw ty x ho b k hx cs d (fun y hy => (hb y hy).range hc) hu hd (by rw [hn]; exact hi), h⟩
end
theorem row_part (w : World) (z : PartZ) (t : TypeId) : Row (w.alloc (.cells (partL z).toArray t)) (w.heap.size + 1) 13 (.slice (some ⟨w.heap.size, 0, none⟩) 1 1) 1 (partL z) := by
  refine ⟨rfl, _, _, rfl, Nat.le_refl _, by omega, (fun h => by cases h), fun _ => ⟨w.heap.size, 0, rfl, Nat.lt_succ_self _, fun j u hu => ?_⟩⟩
  have := new_cells w (partL z).toArray t (partL z) rfl j u hu
  rwa [add_spot] at this
theorem size_part : (Tryd.prog.info? 69).map (·.size) = some 13 := by kernel_rfl
theorem Par.frozen {w : World} {b e : Nat} {r : List Tok} {vp : Value} {ps : List PartZ} (h : Par w b e r vp ps) (k : Nat) : w.frozen? ⟨b, k, none⟩ = false := by obtain ⟨_, _, h, _⟩ := h; exact h.frozen k
theorem Par.parts {w : World} {b e : Nat} {r : List Tok} {vp : Value} {ps : List PartZ} (h : Par w b e r vp ps) : w.cell? ⟨b, 3, none⟩ = some vp := by obtain ⟨_, _, h, _⟩ := h; exact h.cell (k := 3) rfl
theorem Par.form {w : World} {b e : Nat} {r : List Tok} {vp : Value} {ps : List PartZ} (h : Par w b e r vp ps) : ∃ A c, vp = .slice A ps.length c := (Row.of_own h.own).form
theorem Par.not {w : World} {b e : Nat} {r : List Tok} {vp : Value} {ps : List PartZ} (h : Par w b e r vp ps) {x : Nat} (hx : w.heap.size ≤ x) : vp.ownBlock ≠ some x := fun e => by have := (h.own.lt x e).2; omega
/-- A part more. -/
theorem Par.app {X y : World} {b e : Nat} {r : List Tok} {vp v3 : Value} {ps : List PartZ} {z : PartZ} {o : Obj} {cells : List Value} (h : Par X b e r vp ps) (hg : (X.alloc o).grownBy y vp.ownBlock) (ho : y.ownsRow (b + 1) 69 13 v3 (ps.length + 1) (partsL ps ++ cells)) (hc : cells = partL z) :
    Par (y.setCell ⟨b, 3, none⟩ v3) b e r v3 (ps ++ [z]) ∧ Below b X (y.setCell ⟨b, 3, none⟩ v3) := by
  subst hc
  have hlt := h.lt
  have hob : ∀ k, vp.ownBlock = some k → b + 1 ≤ k := fun k hk => (h.own.lt k hk).1
  obtain ⟨vt, vn, h1, h2, h3, h4, h5⟩ := h
  have hB : Below b X y := ((Below.refl b X).alloc (Nat.le_of_lt hlt) o).grown hg (by simp; omega) (fun k hk => by have := hob k hk; omega)
  have hB2 : Below b X (y.setCell ⟨b, 3, none⟩ v3) := hB.setCell (Nat.le_refl _) _
  refine ⟨⟨vt, vn, ?_, h2.below hB2, h3.below hB2, ?_, h5⟩, hB2⟩
  · exact ((h1.alloc o).grown hg (fun e => by have := hob b e.symm; omega)).setCell 3 v3
  · rw [partsL_append, partsL_one, List.length_append]
    exact ownsRow_setCell_below ho (a := ⟨b, 3, none⟩) (Nat.lt_succ_self b) v3
end Go.Proofs.YtfdegdbknponkaaDoor.Words

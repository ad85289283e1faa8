/- A parser's block, its tokens and its parts as cells; which blocks a call leaves as they were. -/
import Derived.Test.YtimdojeagkbgbaaDoorAsmMath
import Derived.Test.YtimdojeagkbgbaaDoorLexData
import Derived.Test.YtimdojeagkbgbaaDoorRowCopy
namespace Go.Proofs.YtimdojeagkbgbaaDoor.Words
set_option maxRecDepth 100000
open Go.RowKit Go.Shelf Go.Lib
set_option linter.unusedVariables false

/-- All blocks but those of S stand. -/
structure KeepS (S : Nat → Prop) (w w' : World) : Prop where
  os : w'.os = w.os
  tape : w'.tape = w.tape
  output : w'.output = w.output
  size : w.heap.size ≤ w'.heap.size
  block : ∀ k, k < w.heap.size → ¬ S k → w'.heap[k]? = w.heap[k]?
section
variable {S S' : Nat → Prop} {w w' w'' : World}
theorem KeepS.refl (S : Nat → Prop) (w : World) : KeepS S w w := ⟨rfl, rfl, rfl, Nat.le_refl _, fun _ _ _ => rfl⟩
theorem KeepS.trans (h : KeepS S w w') (g : KeepS S w' w'') : KeepS S w w'' :=
  ⟨g.os.trans h.os, g.tape.trans h.tape, g.output.trans h.output, Nat.le_trans h.size g.size, fun k hk hs => (g.block k (Nat.lt_of_lt_of_le hk h.size) hs).trans (h.block k hk hs)⟩
theorem KeepS.mono (h : KeepS S w w') (hs : ∀ k, S k → S' k) : KeepS S' w w' := ⟨h.os, h.tape, h.output, h.size, fun k hk hn => h.block k hk (fun e => hn (hs k e))⟩
theorem KeepS.of_below (h : Below w.heap.size w w') : KeepS S w w' := ⟨h.os, h.tape, h.output, h.size, fun k hk _ => h.block k hk⟩
theorem KeepS.of_grown {row : Option Nat} (h : w.grownBy w' row) (hr : ∀ k, row = some k → S k) : KeepS S w w' := ⟨h.os, h.tape, h.output, h.size, fun k hk hn => h.block k hk (fun e => hn (hr k e.symm))⟩
theorem KeepS.alloc (h : KeepS S w w') (o : Obj) : KeepS S w (w'.alloc o) := h.trans (KeepS.of_below ((Below.refl _ _).alloc (Nat.le_refl _) o))
theorem KeepS.drew (h : KeepS S w w') : KeepS S w w'.drew := ⟨h.os, h.tape, h.output, h.size, h.block⟩
theorem KeepS.drewN (h : KeepS S w w') (k : Nat) : KeepS S w (w'.drewN k) := h.trans (KeepS.of_below (Below.drewN_ (Below.refl _ _) k))
theorem KeepS.setCell (h : KeepS S w w') {b : Nat} (hb : S b) (k : Nat) (v : Value) : KeepS S w (w'.setCell ⟨b, k, none⟩ v) :=
  h.trans ⟨rfl, rfl, rfl, by simp [World.setCell], fun j _ hn => Below.heap_setCell w' ⟨b, k, none⟩ v j (fun e => hn (by rw [e]; exact hb))⟩
theorem KeepS.go (h : KeepS S w w') (hb : Below w'.heap.size w' w'') : KeepS S w w'' := h.trans (KeepS.of_below hb)
/-- What lies below all of S stands. -/
theorem KeepS.below (h : KeepS S w w') {B : Nat} (hB : B ≤ w.heap.size) (hs : ∀ k, S k → B ≤ k) : Below B w w' :=
  ⟨h.os, h.tape, h.output, h.size, fun k hk => h.block k (Nat.lt_of_lt_of_le hk hB) (fun e => by have := hs k e; omega)⟩
theorem KeepS.cell (h : KeepS S w w') {b k : Nat} {v : Value} (hb : b < w.heap.size) (hn : ¬ S b) (hv : w.cell? ⟨b, k, none⟩ = some v) : w'.cell? ⟨b, k, none⟩ = some v :=
  (World.cell?_of_block (w := w) (a := ⟨b, k, none⟩) (h.block b hb hn)).trans hv
theorem Box.keepS {b : Nat} {l : List Value} (h : Box w b l) (hk : KeepS S w w') (hn : ¬ S b) : Box w' b l := by
  have hb := h.lt
  obtain ⟨t, h⟩ := h
  exact ⟨t, (hk.block b hb hn).trans h⟩
theorem own_keepS {base : Nat} {e : TypeId} {size : Nat} {v : Value} {n : Nat} {xs : List Value} (h : w.ownsRow base e size v n xs) (hk : KeepS S w w') (hn : ∀ g, v.ownBlock = some g → ¬ S g) : w'.ownsRow base e size v n xs := by
  obtain ⟨h0, h1⟩ := h
  refine ⟨h0, ?_⟩
  rcases h1 with ⟨rfl, h2⟩ | ⟨g, c, cur, rfl, h3, h4, h5⟩
  · exact .inl ⟨rfl, h2⟩
  · have hlt : g < w.heap.size := (Array.getElem?_eq_some_iff.1 h4).1
    exact .inr ⟨g, c, cur, rfl, h3, (hk.block g hlt (hn g rfl)).trans h4, h5⟩
theorem Row.keepS {B size n : Nat} {v : Value} {xs : List Value} (h : Row w B size v n xs) (hk : KeepS S w w') (hB : B ≤ w.heap.size) (hs : ∀ k, S k → B ≤ k) : Row w' B size v n xs := h.below (hk.below hB hs)
end

/-- The thirteen cells of a part. -/
def partL (x : PartZ) : List Value := [.int .i64 x.kind, .int .i64 (x.at_ : Int), .int .i64 x.num, .string (txt x.name), .int .i64 x.ins.op, .int .i64 x.ins.d, .int .i64 x.ins.a, .int .i64 x.ins.b, .int .i64 x.ins.imm,
  .int .i64 x.target.kind, .int .i64 x.target.num, .int .i64 (x.target.at_ : Int), .string (txt x.target.text)]
def partsL (l : List PartZ) : List Value := l.flatMap partL
theorem partsL_nil : partsL [] = [] := rfl
theorem partsL_cons (i : PartZ) (l : List PartZ) : partsL (i :: l) = partL i ++ partsL l := by simp [partsL]
theorem partsL_append (l m : List PartZ) : partsL (l ++ m) = partsL l ++ partsL m := by simp [partsL]
theorem partsL_one (x : PartZ) : partsL [x] = partL x := by simp [partsL]
theorem partL_cell (x : PartZ) : ∀ u ∈ partL x, u.oneCell' = true := by
  intro u hu
  simp only [partL, List.mem_cons, List.not_mem_nil, or_false] at hu
  rcases hu with rfl | rfl | rfl | rfl | rfl | rfl | rfl | rfl | rfl | rfl | rfl | rfl | rfl <;> rfl
theorem partsL_at (l : List PartZ) (k : Nat) (i : PartZ) (h : l[k]? = some i) (j : Nat) (hj : j < 13) : (partsL l)[k * 13 + j]? = (partL i)[j]? := by
  induction l generalizing k with
  | nil => simp at h
  | cons x l ih =>
    rw [partsL_cons]
    cases k with
    | zero =>
      simp at h; subst h
      rw [List.getElem?_append_left (by simp [partL]; omega), Nat.zero_mul, Nat.zero_add]
    | succ k =>
      simp at h
      have h5 : (partL x).length = 13 := rfl
      rw [List.getElem?_append_right (by omega), h5, show (k + 1) * 13 + j - 13 = k * 13 + j by omega]
      exact ih k h
theorem info_part : (Tryd.prog.info? 77).map (fun i => (i.zero, i.size, i.bytes)) = some (some (.agg #[.int .i64 0, .int .i64 0, .int .i64 0, .string ⟨#[]⟩, .int .i64 0, .int .i64 0, .int .i64 0, .int .i64 0, .int .i64 0, .int .i64 0, .int .i64 0, .int .i64 0, .string ⟨#[]⟩]), 13, 120) := by kernel_rfl
/-- The names as cells. -/
def namesL : List Value := namesZ.map (fun t => Value.string (txt t))
/-- A token's numbers and text are small. -/
structure TokIn (t : Tok) : Prop where
  text : t.text.length ≤ 1000000
  at_ : t.at_ ≤ 1000000
  low : -4294967296 ≤ t.num
  high : t.num ≤ 4294967296
/-- A parser in block b: its tokens, the text's end, the names, its parts (vp: these as a slice). -/
def Par (w : World) (b e : Nat) (r : List Tok) (vp : Value) (ps : List PartZ) : Prop :=
  ∃ vt vn, Box w b [vt, .int .i64 (e : Int), vn, vp] ∧ Row w b 4 vt r.length (toksL r) ∧ Row w b 1 vn 41 namesL ∧ w.ownsRow (b + 1) 77 13 vp ps.length (partsL ps) ∧ (∀ t ∈ r, TokIn t)
section
variable {w w' : World} {b e : Nat} {r : List Tok} {vp : Value} {ps : List PartZ}
theorem Par.lt (h : Par w b e r vp ps) : b < w.heap.size := by obtain ⟨_, _, hb, _⟩ := h; exact hb.lt
theorem Par.own (h : Par w b e r vp ps) : w.ownsRow (b + 1) 77 13 vp ps.length (partsL ps) := by obtain ⟨_, _, _, _, _, h, _⟩ := h; exact h
theorem Par.toks (h : Par w b e r vp ps) : ∀ t ∈ r, TokIn t := by obtain ⟨_, _, _, _, _, _, h⟩ := h; exact h
theorem Par.go (h : Par w b e r vp ps) (hb : Below w.heap.size w w') : Par w' b e r vp ps := by
  have hlt := h.lt
  obtain ⟨vt, vn, h1, h2, h3, h4, h5⟩ := h
  exact ⟨vt, vn, h1.below hb hlt, h2.below (hb.mono (Nat.le_of_lt hlt)), h3.below (hb.mono (Nat.le_of_lt hlt)), own_below h4 hb, h5⟩
theorem Par.alloc (h : Par w b e r vp ps) (o : Obj) : Par (w.alloc o) b e r vp ps := h.go ((Below.refl _ _).alloc (Nat.le_refl _) o)
theorem Par.drewN (h : Par w b e r vp ps) (k : Nat) : Par (w.drewN k) b e r vp ps := h.go (Below.drewN_ (Below.refl _ _) k)
theorem Par.keepS {S : Nat → Prop} (h : Par w b e r vp ps) (hk : KeepS S w w') (hs : ∀ k, S k → b < k) (hp : ∀ g, vp.ownBlock = some g → ¬ S g) : Par w' b e r vp ps := by
  have hlt := h.lt
  obtain ⟨vt, vn, h1, h2, h3, h4, h5⟩ := h
  exact ⟨vt, vn, h1.keepS hk (fun e => by have := hs _ e; omega), h2.keepS hk (Nat.le_of_lt hlt) (fun j hj => by have := hs _ hj; omega), h3.keepS hk (Nat.le_of_lt hlt) (fun j hj => by have := hs _ hj; omega), own_keepS h4 hk hp, h5⟩
/-- A write into a block behind a parser's that is not its parts'. -/
theorem Par.set (h : Par w b e r vp ps) {x : Nat} (hx : b < x) (hp : vp.ownBlock ≠ some x) (k : Nat) (v : Value) : Par (w.setCell ⟨x, k, none⟩ v) b e r vp ps :=
  h.keepS ((KeepS.refl (fun j => j = x) w).setCell rfl k v) (fun j hj => by omega) (fun g hg e => hp (by rw [hg, e]))
end
end Go.Proofs.YtimdojeagkbgbaaDoor.Words

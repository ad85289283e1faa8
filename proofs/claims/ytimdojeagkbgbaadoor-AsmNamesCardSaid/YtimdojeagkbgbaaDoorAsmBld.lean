/- A builder in its block: its labels and its program as cells; what a part lays. -/
import Derived.Test.YtimdojeagkbgbaaDoorAsmLabels
import Derived.Test.YtimdojeagkbgbaaDoorIsaRight
namespace Go.Proofs.YtimdojeagkbgbaaDoor.Words
set_option maxRecDepth 100000
open Go.RowKit Go.Shelf Go.Lib
set_option linter.unusedVariables false
set_option linter.unusedSimpArgs false

/-- A builder in block c: the map of labels in block m, the program's code and data. -/
def Bld (w : World) (c m n : Nat) (f : List UInt8 → Option (Int × Int)) (p : Prog) (vc vd : Value) : Prop :=
  Box w c [.map (some m), vc, .int .i64 p.size, vd] ∧ LabM w m n f ∧ w.ownsRow (c + 1) 48 5 vc p.code.length (codeCells p.code) ∧ w.ownsRow (c + 1) 5 1 vd p.data.length (p.data.map (Value.int .u8)) ∧ m < c
theorem apart8 {w : World} {b1 b2 s1 s2 n1 n2 : Nat} {e1 e2 : TypeId} {v1 v2 : Value} {x1 x2 : List Value} (h1 : w.ownsRow b1 e1 s1 v1 n1 x1) (h2 : w.ownsRow b2 e2 s2 v2 n2 x2) (hne : e1 ≠ e2) {g : Nat} (hg : v1.ownBlock = some g) : some g ≠ v2.ownBlock := by
  rcases h1.2 with ⟨rfl, _⟩ | ⟨g1, c1, cur1, rfl, _, a1, _⟩
  · cases hg
  rcases h2.2 with ⟨rfl, _⟩ | ⟨g2, c2, cur2, rfl, _, a2, _⟩
  · intro h; cases h
  · intro h
    simp only [Value.ownBlock, Option.some.injEq] at h hg
    subst hg
    subst h
    rw [a1] at a2
    simp only [Option.some.injEq, Obj.cells.injEq] at a2
    exact hne a2.2.1
theorem row_list (w : World) (l : List Value) (t : TypeId) : Row (w.alloc (.cells l.toArray t)) (w.heap.size + 1) l.length (.slice (some ⟨w.heap.size, 0, none⟩) 1 1) 1 l := by
  refine ⟨(Nat.one_mul _).symm, _, _, rfl, Nat.le_refl _, by omega, (fun h => by cases h), fun _ => ⟨w.heap.size, 0, rfl, Nat.lt_succ_self _, fun j u hu => ?_⟩⟩
  have := new_cells w l.toArray t l (by simp) j u hu
  rwa [add_spot] at this
theorem info_ins8 : (Tryd.prog.info? 48).map (fun i => (i.zero, i.size, i.bytes)) = some (some (.agg #[.int .i64 0, .int .i64 0, .int .i64 0, .int .i64 0, .int .i64 0]), 5, 40) := by kernel_rfl
theorem info_byte8 : (Tryd.prog.info? 5).map (fun i => (i.zero, i.size, i.bytes)) = some (some (.int .u8 0), 1, 1) := by kernel_rfl
theorem size_ins8 : (Tryd.prog.info? 48).map (·.size) = some 5 := by kernel_rfl
section
variable {w w' : World} {c m n : Nat} {f : List UInt8 → Option (Int × Int)} {p : Prog} {vc vd : Value}
theorem Bld.lt (h : Bld w c m n f p vc vd) : c < w.heap.size := h.1.lt
theorem Bld.keepS {S : Nat → Prop} (h : Bld w c m n f p vc vd) (hk : KeepS S w w') (hs : ∀ k, S k → c < k) (h1 : ∀ g, vc.ownBlock = some g → ¬ S g) (h2 : ∀ g, vd.ownBlock = some g → ¬ S g) : Bld w' c m n f p vc vd := by
  obtain ⟨q1, q2, q3, q4, q5⟩ := h
  exact ⟨q1.keepS hk (fun e => by have := hs _ e; omega), q2.keepS hk (fun e => by have := hs _ e; omega), own_keepS q3 hk h1, own_keepS q4 hk h2, q5⟩
theorem Bld.go (h : Bld w c m n f p vc vd) (hb : Below w.heap.size w w') : Bld w' c m n f p vc vd := by
  obtain ⟨q1, q2, q3, q4, q5⟩ := h
  exact ⟨q1.below hb q1.lt, q2.go hb, own_below q3 hb, own_below q4 hb, q5⟩
theorem Bld.alloc (h : Bld w c m n f p vc vd) (o : Obj) : Bld (w.alloc o) c m n f p vc vd := h.go ((Below.refl _ _).alloc (Nat.le_refl _) o)
theorem Bld.drew (h : Bld w c m n f p vc vd) : Bld w.drew c m n f p vc vd := h
/-- A write into a block behind a builder's that is none of its rows'. -/
theorem Bld.set (h : Bld w c m n f p vc vd) {x : Nat} (hx : c < x) (h1 : vc.ownBlock ≠ some x) (h2 : vd.ownBlock ≠ some x) (k : Nat) (v : Value) : Bld (w.setCell ⟨x, k, none⟩ v) c m n f p vc vd :=
  h.keepS ((KeepS.refl (fun j => j = x) w).setCell rfl k v) (fun j hj => by omega) (fun g hg e => h1 (by rw [hg, e])) (fun g hg e => h2 (by rw [hg, e]))
/-- An instruction more. -/
theorem Bld.code {X y : World} {v3 : Value} {i : Ins} {o : Obj} {cells : List Value} (h : Bld X c m n f p vc vd) (hg : (X.alloc o).grownBy y vc.ownBlock) (ho : y.ownsRow (c + 1) 48 5 v3 (p.code.length + 1) (codeCells p.code ++ cells)) (hc : cells = insCells i) :
    Bld (y.setCell ⟨c, 1, none⟩ v3) c m n f { p with code := p.code ++ [i] } v3 vd ∧ Below c X (y.setCell ⟨c, 1, none⟩ v3) := by
  subst hc
  have hlt := h.lt
  obtain ⟨q1, q2, q3, q4, q5⟩ := h
  have hob : ∀ k, vc.ownBlock = some k → c + 1 ≤ k := fun k hk => (q3.lt k hk).1
  have hB : Below c X y := ((Below.refl c X).alloc (Nat.le_of_lt hlt) o).grown hg (by simp; omega) (fun k hk => by have := hob k hk; omega)
  have hB2 : Below c X (y.setCell ⟨c, 1, none⟩ v3) := hB.setCell (Nat.le_refl _) _
  refine ⟨⟨?_, ?_, ?_, ?_, q5⟩, hB2⟩
  · exact ((q1.alloc o).grown hg (fun e => by have := hob c e.symm; omega)).setCell 1 v3
  · exact q2.keepS (S := fun j => c ≤ j) ⟨hB2.os, hB2.tape, hB2.output, hB2.size, fun k hk hs => hB2.block k (Nat.lt_of_not_le hs)⟩ (by omega)
  · rw [codeCells_append, List.length_append]
    exact ownsRow_setCell_below (by simpa [codeCells] using ho) (a := ⟨c, 1, none⟩) (Nat.lt_succ_self c) v3
  · exact ownsRow_setCell_below (own_grown (q4.alloc o) hg (fun g hh => apart8 (q4.alloc o) (q3.alloc o) (by decide) hh)) (a := ⟨c, 1, none⟩) (Nat.lt_succ_self c) v3
/-- A byte more. -/
theorem Bld.byte {X y : World} {v3 : Value} {k : Int} {o : Obj} (h : Bld X c m n f p vc vd) (hg : (X.alloc o).grownBy y vd.ownBlock) (ho : y.ownsRow (c + 1) 5 1 v3 (p.data.length + 1) (p.data.map (Value.int .u8) ++ [.int .u8 k])) :
    Bld (y.setCell ⟨c, 3, none⟩ v3) c m n f { p with data := p.data ++ [k] } vc v3 ∧ Below c X (y.setCell ⟨c, 3, none⟩ v3) := by
  have hlt := h.lt
  obtain ⟨q1, q2, q3, q4, q5⟩ := h
  have hob : ∀ k, vd.ownBlock = some k → c + 1 ≤ k := fun k hk => (q4.lt k hk).1
  have hB : Below c X y := ((Below.refl c X).alloc (Nat.le_of_lt hlt) o).grown hg (by simp; omega) (fun k hk => by have := hob k hk; omega)
  have hB2 : Below c X (y.setCell ⟨c, 3, none⟩ v3) := hB.setCell (Nat.le_refl _) _
  refine ⟨⟨?_, ?_, ?_, ?_, q5⟩, hB2⟩
  · exact ((q1.alloc o).grown hg (fun e => by have := hob c e.symm; omega)).setCell 3 v3
  · exact q2.keepS (S := fun j => c ≤ j) ⟨hB2.os, hB2.tape, hB2.output, hB2.size, fun k hk hs => hB2.block k (Nat.lt_of_not_le hs)⟩ (by omega)
  · exact ownsRow_setCell_below (own_grown (q3.alloc o) hg (fun g hh => apart8 (q3.alloc o) (q4.alloc o) (by decide) hh)) (a := ⟨c, 3, none⟩) (Nat.lt_succ_self c) v3
  · rw [List.map_append, List.length_append]
    exact ownsRow_setCell_below ho (a := ⟨c, 3, none⟩) (Nat.lt_succ_self c) v3
/-- Another size. -/
theorem Bld.resize {X : World} (h : Bld X c m n f p vc vd) (k : Int) : Bld (X.setCell ⟨c, 2, none⟩ (.int .i64 k)) c m n f { p with size := k } vc vd ∧ Below c X (X.setCell ⟨c, 2, none⟩ (.int .i64 k)) := by
  have hK : KeepS (fun j => j = c) X (X.setCell ⟨c, 2, none⟩ (.int .i64 k)) := (KeepS.refl (fun j => j = c) X).setCell rfl _ _
  obtain ⟨q1, q2, q3, q4, q5⟩ := h
  exact ⟨⟨q1.setCell 2 _, q2.keepS hK (by omega), own_keepS q3 hK (fun g hg e => by have := (q3.lt g hg).1; omega), own_keepS q4 hK (fun g hg e => by have := (q4.lt g hg).1; omega), q5⟩, (Below.refl c X).setCell (Nat.le_refl _) _⟩
end
/-- What a part lays, by the first labels. -/
def put1 (i : Ins) (x : PartZ) (p : Prog) : AsmR := if rightB i = true then .ok { p with code := p.code ++ [i] } else .bad x.at_ 8
def ins1 (f : List UInt8 → Option (Int × Int)) (x : PartZ) (p : Prog) : AsmR :=
  if x.target.kind = 1 then (match f x.target.text with | none => .bad x.target.at_ 6 | some r => put1 { x.ins with imm := r.2 - p.code.length } x p) else put1 x.ins x p
def lay1 (f : List UInt8 → Option (Int × Int)) (x : PartZ) (p : Prog) : AsmR :=
  if x.kind = 1 then (if ((f x.name).getD (0, 0)).1 ≠ x.at_ then .bad x.at_ 6 else .ok p)
  else if x.kind = 3 then .ok { p with size := x.num }
  else if x.kind = 4 then (if x.num < 0 ∨ 255 < x.num then .bad x.at_ 8 else .ok { p with data := p.data ++ [x.num] })
  else if x.kind = 2 then ins1 f x p
  else .ok p
/-- What the call leaves. -/
def LayOut (w : World) (c m n : Nat) (f : List UInt8 → Option (Int × Int)) (Z : AsmR) (en : Ending) (w' : World) : Prop :=
  match Z with
  | .bad a e => en = .returned (.tuple #[.int .i64 (a : Int), .int .i64 e]) ∧ Below c w w'
  | .ok p => en = .returned (.tuple #[.int .i64 0, .int .i64 0]) ∧ (∃ vc vd, Bld w' c m n f p vc vd) ∧ Below c w w'
theorem LayOut.bad {w w' : World} {c m n : Nat} {f : List UInt8 → Option (Int × Int)} {Z : AsmR} {en : Ending} {a : Nat} {e : Int} (h : Z = .bad a e) (he : en = .returned (.tuple #[.int .i64 (a : Int), .int .i64 e])) (hb : Below c w w') : LayOut w c m n f Z en w' := by
  subst h; exact ⟨he, hb⟩
theorem LayOut.ok {w w' : World} {c m n : Nat} {f : List UInt8 → Option (Int × Int)} {Z : AsmR} {en : Ending} {p : Prog} {vc vd : Value} (h : Z = .ok p) (he : en = .returned (.tuple #[.int .i64 0, .int .i64 0])) (hB : Bld w' c m n f p vc vd) (hb : Below c w w') : LayOut w c m n f Z en w' := by
  subst h; exact ⟨he, ⟨vc, vd, hB⟩, hb⟩
end Go.Proofs.YtimdojeagkbgbaaDoor.Words

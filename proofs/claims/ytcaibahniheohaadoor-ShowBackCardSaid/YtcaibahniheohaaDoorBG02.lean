/- Several texts in one: AsmData, AsmSmall, AsmReg, AsmField, LexTake, LexSplit. -/
import Derived.Test.YtcaibahniheohaaDoorBG00
import Derived.Test.YtcaibahniheohaaDoorBG01
import Derived.Test.YtcaibahniheohaaDoorBSKeepS

/- A parser's block, its tokens and its parts as cells; which blocks a call leaves as they were. -/
namespace Go.Proofs.YtcaibahniheohaaDoor.Words
set_option maxRecDepth 100000
open Go.RowKit Go.Shelf Go.Lib
set_option linter.unusedVariables false
def partL (x : PartZ) : List Value := [.int .i64 x.kind, .int .i64 (x.at_ : Int), .int .i64 x.num, .string (txt x.name), .int .i64 x.ins.op, .int .i64 x.ins.d, .int .i64 x.ins.a, .int .i64 x.ins.b, .int .i64 x.ins.imm,
 .int .i64 x.target.kind, .int .i64 x.target.num, .int .i64 (x.target.at_ : Int), .string (txt x.target.text)]
def partsL (l : List PartZ) : List Value := l.flatMap partL
theorem partsL_append (l m : List PartZ) : partsL (l ++ m) = partsL l ++ partsL m := by simp [partsL]
theorem partsL_one (x : PartZ) : partsL [x] = partL x := by simp [partsL]
def namesL : List Value := namesZ.map (fun t => Value.string (txt t))
structure TokIn (t : Tok) : Prop where
 text : t.text.length ≤ 1000000
 at_ : t.at_ ≤ 1000000
 low : -4294967296 ≤ t.num
 high : t.num ≤ 4294967296
def Par (w : World) (b e : Nat) (r : List Tok) (vp : Value) (ps : List PartZ) : Prop :=
 ∃ vt vn, Box w b [vt, .int .i64 (e : Int), vn, vp] ∧ Row w b 4 vt r.length (toksL r) ∧ Row w b 1 vn 41 namesL ∧ w.ownsRow (b + 1) 55 13 vp ps.length (partsL ps) ∧ (∀ t ∈ r, TokIn t)
section
variable {w w' : World} {b e : Nat} {r : List Tok} {vp : Value} {ps : List PartZ}
theorem Par.lt (h : Par w b e r vp ps) : b < w.heap.size := by obtain ⟨_, _, hb, _⟩ := h; exact hb.lt
theorem Par.own (h : Par w b e r vp ps) : w.ownsRow (b + 1) 55 13 vp ps.length (partsL ps) := by obtain ⟨_, _, _, _, _, h, _⟩ := h; exact h
theorem Par.toks (h : Par w b e r vp ps) : ∀ t ∈ r, TokIn t := by obtain ⟨_, _, _, _, _, _, h⟩ := h; exact h
theorem Par.go (h : Par w b e r vp ps) (hb : Below w.heap.size w w') : Par w' b e r vp ps := by
 have hlt := h.lt
 obtain ⟨vt, vn, h1, h2, h3, h4, h5⟩ := h
 exact ⟨vt, vn, h1.below hb hlt, h2.below (hb.mono (Nat.le_of_lt hlt)), h3.below (hb.mono (Nat.le_of_lt hlt)), own_below h4 hb, h5⟩
theorem Par.alloc (h : Par w b e r vp ps) (o : Obj) : Par (w.alloc o) b e r vp ps := h.go ((Below.refl _ _).alloc (Nat.le_refl _) o)
theorem Par.drewN (h : Par w b e r vp ps) (k : Nat) : Par (w.drewN k) b e r vp ps := h.go (Below.drewN_ (Below.refl _ _) k)
theorem Par.keepS {S : Nat → Prop} (h : Par w b e r vp ps) (hk : KeepS S w w') (hs : ∀ k, S k → b < k) (hp : ∀ g, vp.ownBlock = some g → ¬ S g) : Par w' b e r vp ps := by
 have hlt := h.lt
 obtain ⟨vt, vn, h1, h2, h3, h4, h5⟩ := h
 exact ⟨vt, vn, h1.keepS hk (fun e => by have := hs _ e; omega), h2.keepS hk (Nat.le_of_lt hlt) (fun j hj => by have := hs _ hj; omega), h3.keepS hk (Nat.le_of_lt hlt) (fun j hj => by have := hs _ hj; omega), own_keepS h4 hk hp, h5⟩
theorem Par.set (h : Par w b e r vp ps) {x : Nat} (hx : b < x) (hp : vp.ownBlock ≠ some x) (k : Nat) (v : Value) : Par (w.setCell ⟨x, k, none⟩ v) b e r vp ps :=
 h.keepS ((KeepS.refl (fun j => j = x) w).setCell rfl k v) (fun j hj => by omega) (fun g hg e => hp (by rw [hg, e]))
end
end Go.Proofs.YtcaibahniheohaaDoor.Words

/- Contracts of package asm's smallest: next, skip, isSign, sign, immediate. -/
namespace Go.Proofs.YtcaibahniheohaaDoor.Words
set_option maxRecDepth 100000
open Go.RowKit Go.Shelf Go.Lib
set_option linter.unusedVariables false
set_option linter.unusedSimpArgs false
theorem Row.tok0 {w : World} {B n c : Nat} {b off : Nat} {i : Tok} {l : List Tok} (h : Row w B 4 (.slice (some ⟨b, off, none⟩) n c) n (toksL (i :: l))) :
  w.cell? ⟨b, off, none⟩ = some (.int .i64 i.kind) ∧ w.cell? ⟨b, off + 1, none⟩ = some (.int .i64 i.num) ∧ w.cell? ⟨b, off + 2, none⟩ = some (.int .i64 (i.at_ : Int)) ∧ w.cell? ⟨b, off + 3, none⟩ = some (.string (txt i.text)) := by
 have := h.tok (k := 0) (i := i) rfl
 simpa only [Nat.zero_mul, Nat.add_zero] using this
theorem Row.behind {w : World} {B c : Nat} {b off : Nat} {i : Tok} {l : List Tok} (h : Row w B 4 (.slice (some ⟨b, off, none⟩) (l.length + 1) c) (l.length + 1) (toksL (i :: l))) :
  Row w B 4 (.slice (some ⟨b, if c = 1 then off else off + 4, none⟩) l.length (c - 1)) l.length (toksL l) := by
 obtain ⟨b', o', he, hb, hc⟩ := h.at_ (by omega)
 obtain ⟨h1, h2⟩ := h.cap
 injection he with he
 injection he with he1 he2
 subst he1; subst he2
 refine ⟨toksL_length l, _, _, rfl, by omega, by omega, (fun h => by cases h), fun _ => ⟨b, _, rfl, hb, fun j u hu => ?_⟩⟩
 have hj : j < (toksL l).length := (List.getElem?_eq_some_iff.1 hu).1
 rw [toksL_length] at hj
 rw [if_neg (by omega)]
 have := hc (4 + j) u (by rw [toksL_cons, List.getElem?_append_right (by simp [tokL])]; simpa [tokL] using hu)
 rwa [show off + 4 + j = off + (4 + j) by omega]
end Go.Proofs.YtcaibahniheohaaDoor.Words

/- Contract of package asm's registerOf: the number of a register's name. -/
namespace Go.Proofs.YtcaibahniheohaaDoor.Words
set_option maxRecDepth 100000
open Go.RowKit Go.Shelf Go.Lib
set_option linter.unusedVariables false
def RegOut (Z : Option Int) (e : Ending) : Prop := ∃ m, e = .returned (.tuple #[.int .i64 m, .bool Z.isSome]) ∧ ∀ n, Z = some n → m = n
theorem RegOut.no {Z : Option Int} (h : Z = none) (m : Int) : RegOut Z (.returned (.tuple #[.int .i64 m, .bool false])) := by subst h; exact ⟨m, rfl, fun n h => by cases h⟩
end Go.Proofs.YtcaibahniheohaaDoor.Words

/- Contracts of package asm's register, target and field. -/
namespace Go.Proofs.YtcaibahniheohaaDoor.Words
set_option maxRecDepth 100000
open Go.RowKit Go.Shelf Go.Lib
set_option linter.unusedVariables false
set_option linter.unusedSimpArgs false
theorem txt_data (l : List UInt8) : (txt l).data.toList = l := by simp
theorem txt_sz (l : List UInt8) : (txt l).size = l.length := by rw [← data_len, txt_data]
def FieldOut (w : World) (b e : Nat) (vp : Value) (ps : List PartZ) (x : Nat) (Z : Bool × PartZ × List Tok) (en : Ending) (w' : World) : Prop :=
 en = .returned (.bool Z.1) ∧ Par w' b e Z.2.2 vp ps ∧ Box w' x (partL Z.2.1) ∧ KeepS (fun j => j = b ∨ j = x) w w'
theorem FieldOut.reg {w w' : World} {b e x k : Nat} {r : List Tok} {vp : Value} {ps : List PartZ} {Z : Bool × PartZ × List Tok} {l : List Value} {en : Ending}
  (h : en = .returned (.bool (regT r).1.isSome) ∧ Par w' b e (regT r).2 vp ps ∧ Box w' x (match (regT r).1 with | some n => l.set k (.int .i64 n) | none => l) ∧ KeepS (fun j => j = b ∨ j = x) w w')
  (h1 : Z.1 = (regT r).1.isSome) (h2 : Z.2.2 = (regT r).2) (h3 : partL Z.2.1 = match (regT r).1 with | some n => l.set k (.int .i64 n) | none => l) : FieldOut w b e vp ps x Z en w' := by
 unfold FieldOut; rw [h1, h2, h3]; exact h
theorem FieldOut.imm {w w' : World} {b e x k : Nat} {r : List Tok} {vp : Value} {ps : List PartZ} {Z : Bool × PartZ × List Tok} {l : List Value} {en : Ending}
  (h : en = .returned (.bool (immT r).1.isSome) ∧ Par w' b e (immT r).2 vp ps ∧ Box w' x (match (immT r).1 with | some n => l.set k (.int .i64 n) | none => l) ∧ KeepS (fun j => j = b ∨ j = x) w w')
  (h1 : Z.1 = (immT r).1.isSome) (h2 : Z.2.2 = (immT r).2) (h3 : partL Z.2.1 = match (immT r).1 with | some n => l.set k (.int .i64 n) | none => l) : FieldOut w b e vp ps x Z en w' := by
 unfold FieldOut; rw [h1, h2, h3]; exact h
end Go.Proofs.YtcaibahniheohaaDoor.Words

/- Contracts of package lex's splitter: a line's end, a number, whatever begins at a place. -/
namespace Go.Proofs.YtcaibahniheohaaDoor.Words
set_option maxRecDepth 100000
open Go.RowKit Go.Shelf Go.Lib
set_option linter.unusedVariables false
def Spl (w : World) (b Bt : Nat) (s : ByteArray) (x : LexS) : Prop :=
 ∃ vt, Box w b (splL s vt (x.behind : Int) x.remark) ∧ w.ownsRow Bt 48 4 vt x.toks.length (toksL x.toks)
theorem Spl.add {w : World} {b Bt p size : Nat} {s : ByteArray} {x : LexS} {kind num : Int} {vt : Value}
  (h1 : Box w b (splL s vt ((p + size : Nat) : Int) x.remark)) (h2 : w.ownsRow Bt 48 4 vt (x.toks.length + 1) (toksL (x.toks ++ [⟨kind, num, p, (s.data.toList.drop p).take size⟩]))) :
  Spl w b Bt s (addZ s.data.toList kind num p size x) := ⟨vt, h1, by show World.ownsRow _ _ _ _ _ (x.toks ++ [_]).length _; rw [List.length_append]; exact h2⟩
theorem Spl.drew {w : World} {b Bt : Nat} {s : ByteArray} {x : LexS} (h : Spl w b Bt s x) : Spl w.drew b Bt s x := h
theorem Spl.below {w w' : World} {b Bt : Nat} {s : ByteArray} {x : LexS} (h : Spl w b Bt s x) (hb : Below w.heap.size w w') : Spl w' b Bt s x := by
 obtain ⟨vt, h1, h2⟩ := h
 exact ⟨vt, h1.below hb h1.lt, own_below h2 hb⟩
theorem lineB_last {t : List Tok} {i : Tok} (h : t[t.length - 1]? = some i) (hne : t ≠ []) : lineB t = decide (i.kind ≠ 4) := by
 unfold lineB
 rw [List.getLast?_eq_getElem?, h]
theorem lineB_nil : lineB [] = false := rfl
end Go.Proofs.YtcaibahniheohaaDoor.Words

/- Contract of package lex's Split. -/
namespace Go.Proofs.YtcaibahniheohaaDoor.Words
set_option maxRecDepth 100000
open Go.RowKit Go.Shelf Go.Lib
set_option linter.unusedVariables false
def LexOut (Z : LexR) (base : Nat) (e : Ending) (w : World) : Prop :=
 match Z with
 | .toks t => ∃ v, e = .returned (.tuple #[v, .int .i64 (-1), .int .i64 0]) ∧ w.ownsRow base 48 4 v t.length (toksL t)
 | .bad a k => e = .returned (.tuple #[.slice none 0 0, .int .i64 (a : Int), .int .i64 k])
theorem LexOut.toks {Z : LexR} {base : Nat} {e : Ending} {w : World} {t : List Tok} {v : Value} (h : Z = .toks t) (he : e = .returned (.tuple #[v, .int .i64 (-1), .int .i64 0])) (ho : w.ownsRow base 48 4 v t.length (toksL t)) : LexOut Z base e w := by
 subst h; exact ⟨v, he, ho⟩
theorem LexOut.bad {Z : LexR} {base : Nat} {e : Ending} {w : World} {a : Nat} {k : Int} (h : Z = .bad a k) (he : e = .returned (.tuple #[.slice none 0 0, .int .i64 (a : Int), .int .i64 k])) : LexOut Z base e w := by
 subst h; exact he
theorem iterAt_grown (w : World) (k : Nat) (s : ByteArray) (p : Nat) : w.grownBy (w.iterAt k s p) (some k) :=
 ⟨rfl, rfl, rfl, by rw [Lib.iterAt_size]; exact Nat.le_refl _, fun i _ hne => Lib.iterAt_other w k i s p (fun e => hne (by rw [e]))⟩
theorem Spl.iterAt {w : World} {b Bt k : Nat} {s s' : ByteArray} {x : LexS} (h : Spl w b Bt s x) (p : Nat) (hb : b ≠ k) (hk : k < Bt) : Spl (w.iterAt k s' p) b Bt s x := by
 obtain ⟨vt, h1, h2⟩ := h
 exact ⟨vt, h1.grown (iterAt_grown _ _ _ _) (fun e => hb (by injection e)), own_grown h2 (iterAt_grown _ _ _ _) (fun g hg e => by have := (h2.lt g hg).1; injection e with e; omega)⟩
end Go.Proofs.YtcaibahniheohaaDoor.Words

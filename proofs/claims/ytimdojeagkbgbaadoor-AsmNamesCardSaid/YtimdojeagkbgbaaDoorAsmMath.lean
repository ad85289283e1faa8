/- Programs of tokens: plain mathematics over lists of tokens. Nothing here speaks of one program text. -/
import Derived.Test.YtimdojeagkbgbaaDoorLexMath
import Derived.Test.YtimdojeagkbgbaaDoorIsaMath
import Derived.Test.YtimdojeagkbgbaaDoorPData
namespace Go.Proofs.YtimdojeagkbgbaaDoor.Words
set_option maxRecDepth 100000
set_option linter.unusedVariables false

/-- The register of a name: byte by byte. -/
def regF (l : List UInt8) : Nat → Nat → Int → Option Int
  | 0, _, n => if 1 < l.length then some n else none
  | f + 1, p, n =>
    if p < l.length then
      (if p = 0 ∧ runeR (l.drop p) = 114 then regF l f (p + wideR (l.drop p)) n
       else if p = 0 ∨ runeR (l.drop p) < 48 ∨ 57 < runeR (l.drop p) ∨ (1 < p ∧ n = 0) then none
       else if 15 < n * 10 + (runeR (l.drop p) - 48) then none
       else regF l f (p + wideR (l.drop p)) (n * 10 + (runeR (l.drop p) - 48)))
    else if 1 < l.length then some n else none
def regZ (l : List UInt8) : Option Int := regF l l.length 0 0
theorem regF_range (l : List UInt8) : ∀ f p n k, 0 ≤ n → n ≤ 15 → regF l f p n = some k → 0 ≤ k ∧ k ≤ 15
  | 0, p, n, k, h0, h1, h => by unfold regF at h; split at h <;> simp at h; omega
  | f + 1, p, n, k, h0, h1, h => by
    unfold regF at h
    split at h
    · split at h
      · exact regF_range l f _ n k h0 h1 h
      · split at h
        · cases h
        · split at h
          · cases h
          · rename_i h2 h3 h4
            exact regF_range l f _ _ k (by omega) (by omega) h
    · split at h <;> simp at h; omega
theorem regZ_range {l : List UInt8} {k : Int} (h : regZ l = some k) : 0 ≤ k ∧ k ≤ 15 := regF_range l _ 0 0 k (Int.le_refl _) (by omega) h

/-- The operations' names. -/
def namesZ : List (List UInt8) := [[97, 100, 100], [115, 117, 98], [97, 110, 100], [111, 114], [120, 111, 114], [115, 108, 108], [115, 114, 108], [115, 114, 97], [115, 108, 116], [115, 108, 116, 117], [109, 117, 108], [109, 117, 108, 104], [100, 105, 118], [100, 105, 118, 117], [114, 101, 109], [114, 101, 109, 117], [97, 100, 100, 105], [97, 110, 100, 105], [111, 114, 105], [120, 111, 114, 105], [115, 108, 116, 105], [115, 108, 108, 105], [115, 114, 108, 105], [115, 114, 97, 105], [108, 117, 105], [108, 119], [108, 104], [108, 104, 117], [108, 98], [108, 98, 117], [115, 119], [115, 104], [115, 98], [98, 101, 113], [98, 110, 101], [98, 108, 116], [98, 103, 101], [98, 108, 116, 117], [98, 103, 101, 117], [106], [104, 97, 108, 116]]
def opF (t : List UInt8) : List (List UInt8) → Int → Int
  | [], _ => 0
  | n :: ns, i => if n = t then i + 1 else opF t ns (i + 1)
/-- The operation of a name; nought: of none. -/
def opZ (t : List UInt8) : Int := opF t namesZ 0
theorem opF_range (t : List UInt8) : ∀ ns i, 0 ≤ i → 0 ≤ opF t ns i ∧ opF t ns i ≤ i + ns.length
  | [], i, h => by unfold opF; simp; omega
  | n :: ns, i, h => by
    unfold opF
    have := opF_range t ns (i + 1) (by omega)
    split
    · simp; omega
    · simp; omega
theorem opZ_range (t : List UInt8) : 0 ≤ opZ t ∧ opZ t ≤ 41 := opF_range t namesZ 0 (Int.le_refl _)

/-- A label (1), an instruction (2), a size (3) or a byte (4), which begins at a byte. -/
structure PartZ where
  kind : Int
  at_ : Nat
  num : Int
  name : List UInt8
  ins : Ins
  target : Tok
deriving DecidableEq
abbrev tok0 : Tok := ⟨0, 0, 0, []⟩
abbrev ins0 : Ins := ⟨0, 0, 0, 0, 0⟩
def headAt (r : List Tok) (e : Nat) : Nat := match r with | t :: _ => t.at_ | [] => e
/-- The token that is next. -/
def nextT (r : List Tok) (e : Nat) : Tok := match r with | t :: _ => t | [] => ⟨0, 0, e, []⟩
def isS (t : Tok) (c : List UInt8) : Bool := decide (t.kind = 3 ∧ t.text = c)
def signT (c : List UInt8) : List Tok → Bool × List Tok
  | t :: ts => if isS t c = true then (true, ts) else (false, t :: ts)
  | [] => (false, [])
def immT : List Tok → Option Int × List Tok
  | t :: ts => if t.kind = 2 then (some t.num, ts) else (none, t :: ts)
  | [] => (none, [])
def regT : List Tok → Option Int × List Tok
  | t :: ts => match regZ t.text with | some n => (some n, ts) | none => (none, t :: ts)
  | [] => (none, [])
/-- What a rune of a shape stands for. -/
def fieldT (c : Int) (x : PartZ) (r : List Tok) : Bool × PartZ × List Tok :=
  if c = 68 then (match regT r with | (some n, ts) => (true, { x with ins := { x.ins with d := n } }, ts) | (none, ts) => (false, x, ts))
  else if c = 65 then (match regT r with | (some n, ts) => (true, { x with ins := { x.ins with a := n } }, ts) | (none, ts) => (false, x, ts))
  else if c = 66 then (match regT r with | (some n, ts) => (true, { x with ins := { x.ins with b := n } }, ts) | (none, ts) => (false, x, ts))
  else if c = 78 then (match immT r with | (some n, ts) => (true, { x with ins := { x.ins with imm := n } }, ts) | (none, ts) => (false, x, ts))
  else if c = 84 then (match r with
    | t :: ts => if t.kind = 1 then (true, { x with target := t }, ts) else (match immT (t :: ts) with | (some n, ts) => (true, { x with ins := { x.ins with imm := n } }, ts) | (none, ts) => (false, x, ts))
    | [] => (false, x, []))
  else ((signT [UInt8.ofNat c.toNat] r).1, x, (signT [UInt8.ofNat c.toNat] r).2)
def fieldsT : List UInt8 → PartZ → List Tok → Bool × PartZ × List Tok
  | [], x, r => (true, x, r)
  | c :: cs, x, r => if (fieldT c.toNat x r).1 = true then fieldsT cs (fieldT c.toNat x r).2.1 (fieldT c.toNat x r).2.2 else fieldT c.toNat x r
/-- What stands behind an operation's name. -/
def shapesZ : List (List UInt8) := [[], [68, 44, 65, 44, 66], [68, 44, 65, 44, 78], [68, 44, 78], [68, 44, 78, 40, 65, 41], [66, 44, 78, 40, 65, 41], [65, 44, 66, 44, 84], [84], []]
def shapeZ (op : Int) : List UInt8 := shapesZ.getD (formZ op).toNat []
def insT (op : Int) (at_ : Nat) (r : List Tok) : Bool × List Tok × List PartZ :=
  if (fieldsT (shapeZ op) ⟨2, at_, 0, [], ⟨op, 0, 0, 0, 0⟩, tok0⟩ r).1 = true then
    (true, (fieldsT (shapeZ op) ⟨2, at_, 0, [], ⟨op, 0, 0, 0, 0⟩, tok0⟩ r).2.2, [(fieldsT (shapeZ op) ⟨2, at_, 0, [], ⟨op, 0, 0, 0, 0⟩, tok0⟩ r).2.1])
  else (false, (fieldsT (shapeZ op) ⟨2, at_, 0, [], ⟨op, 0, 0, 0, 0⟩, tok0⟩ r).2.2, [])
def numT (kind : Int) : List Tok → Bool × List Tok × List PartZ
  | t :: ts => if t.kind = 2 then (true, ts, [⟨kind, t.at_, t.num, [], ins0, tok0⟩]) else (false, t :: ts, [])
  | [] => (false, [], [])
def byteF : Nat → Bool → List Tok → Bool × List Tok × List PartZ
  | 0, ok, r => (ok, r, [])
  | f + 1, ok, r =>
    if ok = true then
      (if (signT [44] r).1 = true then
        ((byteF f (numT 4 (signT [44] r).2).1 (numT 4 (signT [44] r).2).2.1).1, (byteF f (numT 4 (signT [44] r).2).1 (numT 4 (signT [44] r).2).2.1).2.1,
          (numT 4 (signT [44] r).2).2.2 ++ (byteF f (numT 4 (signT [44] r).2).1 (numT 4 (signT [44] r).2).2.1).2.2)
       else (true, r, []))
    else (false, r, [])
def bytesT (r : List Tok) : Bool × List Tok × List PartZ :=
  ((byteF r.length (numT 4 r).1 (numT 4 r).2.1).1, (byteF r.length (numT 4 r).1 (numT 4 r).2.1).2.1, (numT 4 r).2.2 ++ (byteF r.length (numT 4 r).1 (numT 4 r).2.1).2.2)
/-- A label, if one is next. -/
def labelT : List Tok → Option (PartZ × List Tok)
  | n :: c :: ts => if n.kind = 1 ∧ isS c [58] = true then some (⟨1, n.at_, 0, n.text, ins0, tok0⟩, ts) else none
  | _ => none
def labelsF : Nat → List Tok → List Tok × List PartZ
  | 0, r => (r, [])
  | f + 1, r => match labelT r with
    | some (p, ts) => ((labelsF f ts).1, p :: (labelsF f ts).2)
    | none => (r, [])
def sizeN : List UInt8 := [115, 105, 122, 101]
def byteN : List UInt8 := [98, 121, 116, 101]
/-- What a line has behind its labels. -/
def stmtT : List Tok → Bool × List Tok × List PartZ
  | t :: ts =>
    if t.kind ≠ 1 then (true, t :: ts, [])
    else if 0 < opZ t.text then insT (opZ t.text) t.at_ ts
    else if t.text = sizeN then numT 3 ts
    else if t.text = byteN then bytesT ts
    else (false, t :: ts, [])
  | [] => (true, [], [])
def endT : List Tok → Bool × List Tok
  | t :: ts => if t.kind = 4 then (true, ts) else (false, t :: ts)
  | [] => (true, [])
def lineT (r : List Tok) : Bool × List Tok × List PartZ :=
  if (stmtT (labelsF r.length r).1).1 = true then
    ((endT (stmtT (labelsF r.length r).1).2.1).1, (endT (stmtT (labelsF r.length r).1).2.1).2, (labelsF r.length r).2 ++ (stmtT (labelsF r.length r).1).2.2)
  else (false, (stmtT (labelsF r.length r).1).2.1, (labelsF r.length r).2 ++ (stmtT (labelsF r.length r).1).2.2)
def textF : Nat → List Tok → Bool × List Tok × List PartZ
  | 0, r => (true, r, [])
  | f + 1, r =>
    if r = [] then (true, [], [])
    else if (lineT r).1 = true then ((textF f (lineT r).2.1).1, (textF f (lineT r).2.1).2.1, (lineT r).2.2 ++ (textF f (lineT r).2.1).2.2)
    else lineT r
/-- The parts of a text's tokens; or what is left where the first one does not fit. -/
def textT (r : List Tok) : Bool × List Tok × List PartZ := textF r.length r

/-- The place of a label that is there first. -/
def placeF (name : List UInt8) : List PartZ → Int → Option Int
  | [], _ => none
  | x :: xs, n => if x.kind = 1 ∧ x.name = name then some n else placeF name xs (if x.kind = 2 then n + 1 else n)
/-- Is there a label of that name? -/
def hasL (name : List UInt8) (l : List PartZ) : Bool := l.any (fun y => decide (y.kind = 1 ∧ y.name = name))
inductive AsmR where
  | ok (p : Prog)
  | bad (at_ : Nat) (e : Int)
deriving DecidableEq
/-- An instruction, its label's place reckoned. -/
def aimZ (all : List PartZ) (x : PartZ) (n : Nat) : Option Ins :=
  if x.target.kind = 1 then (match placeF x.target.text all 0 with | some k => some { x.ins with imm := k - n } | none => none) else some x.ins
/-- Part by part. -/
def layF (all : List PartZ) : List PartZ → List PartZ → Prog → AsmR
  | _, [], p => .ok p
  | pre, x :: xs, p =>
    if x.kind = 1 then (if hasL x.name pre = true then .bad x.at_ 6 else layF all (pre ++ [x]) xs p)
    else if x.kind = 3 then layF all (pre ++ [x]) xs { p with size := x.num }
    else if x.kind = 4 then (if x.num < 0 ∨ 255 < x.num then .bad x.at_ 8 else layF all (pre ++ [x]) xs { p with data := p.data ++ [x.num] })
    else if x.kind = 2 then (match aimZ all x p.code.length with
      | none => .bad x.target.at_ 6
      | some i => if rightB i = true then layF all (pre ++ [x]) xs { p with code := p.code ++ [i] } else .bad x.at_ 8)
    else layF all (pre ++ [x]) xs p
end Go.Proofs.YtimdojeagkbgbaaDoor.Words

/- Programs as plain data: a program's value (two slices and a size), what its rows read as, cell by cell. Nothing here speaks of one program text. -/
import Derived.Test.YtcaibahniheohaaBase
import Derived.Test.YtcaibahniheohaaIsaMath
namespace Go.Proofs.Ytcaibahniheohaa.Words
set_option maxRecDepth 100000
open Go.RowKit

/-- The five cells of an instruction. -/
def insCells (i : Ins) : List Value := [.int .i64 i.op, .int .i64 i.d, .int .i64 i.a, .int .i64 i.b, .int .i64 i.imm]
/-- The cells of a list of instructions. -/
def codeCells (l : List Ins) : List Value := l.flatMap insCells
theorem codeCells_nil : codeCells [] = [] := rfl
theorem codeCells_cons (i : Ins) (l : List Ins) : codeCells (i :: l) = insCells i ++ codeCells l := by simp [codeCells]
theorem codeCells_append (l m : List Ins) : codeCells (l ++ m) = codeCells l ++ codeCells m := by simp [codeCells]
theorem codeCells_length (l : List Ins) : (codeCells l).length = l.length * 5 := by
  induction l with
  | nil => rfl
  | cons i l ih => rw [codeCells_cons, List.length_append, ih]; simp [insCells]; omega
theorem codeCells_at (l : List Ins) (k : Nat) (i : Ins) (h : l[k]? = some i) (j : Nat) (hj : j < 5) : (codeCells l)[k * 5 + j]? = (insCells i)[j]? := by
  induction l generalizing k with
  | nil => simp at h
  | cons x l ih =>
    rw [codeCells_cons]
    cases k with
    | zero =>
      simp at h; subst h
      rw [List.getElem?_append_left (by simp [insCells]; omega), Nat.zero_mul, Nat.zero_add]
    | succ k =>
      simp at h
      have h5 : (insCells x).length = 5 := rfl
      rw [List.getElem?_append_right (by omega), h5, show (k + 1) * 5 + j - 5 = k * 5 + j by omega]
      exact ih k h

/-- A program's plain data. -/
structure Prog where
  code : List Ins
  size : Int
  data : List Int
deriving DecidableEq
theorem Prog.eq_iff (p q : Prog) : p = q ↔ p.code = q.code ∧ p.size = q.size ∧ p.data = q.data := by cases p; cases q; simp
def Prog.Fits (p : Prog) : Prop :=
  (∀ i ∈ p.code, i.Fits) ∧ (-9223372036854775808 ≤ p.size ∧ p.size ≤ 9223372036854775807) ∧ (∀ b ∈ p.data, 0 ≤ b ∧ b ≤ 255)
/-- The two rows of a program's value. -/
structure ProgV (w : World) (B : Nat) (vc vd : Value) (p : Prog) : Prop where
  code : Row w B 5 vc p.code.length (codeCells p.code)
  data : Row w B 1 vd p.data.length (p.data.map (Value.int .u8))
section
variable {w w' : World} {B : Nat} {vc vd : Value} {p : Prog}
theorem ProgV.keep (h : ProgV w B vc vd p) (hk : ∀ a : Addr, a.block < B → w'.cell? a = w.cell? a) : ProgV w' B vc vd p := ⟨h.code.keep hk, h.data.keep hk⟩
theorem ProgV.more {B' : Nat} (h : ProgV w B vc vd p) (hB : B ≤ B') : ProgV w B' vc vd p := ⟨h.code.more hB, h.data.more hB⟩
theorem ProgV.below (h : ProgV w B vc vd p) (hb : Below B w w') : ProgV w' B vc vd p := ⟨h.code.below hb, h.data.below hb⟩
theorem ProgV.drewN (h : ProgV w B vc vd p) (k : Nat) : ProgV (w.drewN k) B vc vd p := ⟨h.code, h.data⟩
theorem ProgV.alloc (h : ProgV w B vc vd p) (hB : B ≤ w.heap.size) (o : Obj) : ProgV (w.alloc o) B vc vd p := ⟨h.code.alloc hB o, h.data.alloc hB o⟩
end
/-- The five cells of an instruction of a row. -/
theorem Row.ins {w : World} {B n c : Nat} {b off : Nat} {l : List Ins} (h : Row w B 5 (.slice (some ⟨b, off, none⟩) n c) n (codeCells l)) {k : Nat} {i : Ins} (hi : l[k]? = some i) :
    w.cell? ⟨b, off + k * 5, none⟩ = some (.int .i64 i.op) ∧ w.cell? ⟨b, off + k * 5 + 1, none⟩ = some (.int .i64 i.d) ∧ w.cell? ⟨b, off + k * 5 + 2, none⟩ = some (.int .i64 i.a) ∧
    w.cell? ⟨b, off + k * 5 + 3, none⟩ = some (.int .i64 i.b) ∧ w.cell? ⟨b, off + k * 5 + 4, none⟩ = some (.int .i64 i.imm) := by
  have g : ∀ j u, j < 5 → (insCells i)[j]? = some u → w.cell? ⟨b, off + k * 5 + j, none⟩ = some u := by
    intro j u hj hu
    have := h.cells ⟨b, off, none⟩ rfl (k * 5 + j) u ((codeCells_at l k i hi j hj).trans hu)
    rwa [add_spot, ← Nat.add_assoc] at this
  exact ⟨g 0 _ (by omega) rfl, g 1 _ (by omega) rfl, g 2 _ (by omega) rfl, g 3 _ (by omega) rfl, g 4 _ (by omega) rfl⟩

/-- Where an instruction leads to, below 0: nowhere in the code. -/
def isJump (i : Ins) : Bool := decide (34 ≤ i.op ∧ i.op ≤ 40)
def targetZ (n : Nat) (k : Nat) (i : Ins) : Int :=
  if isJump i = false ∨ i.imm < -8192 ∨ 8191 < i.imm ∨ (k : Int) + i.imm < 0 ∨ (n : Int) ≤ k + i.imm then -1 else k + i.imm
theorem isJump_form (i : Ins) : isJump i = true ↔ formZ i.op = 6 ∨ formZ i.op = 7 := by
  have := formZ_cases i.op
  unfold isJump; rw [decide_eq_true_iff]; omega
/-- Is some target not in the code? -/
def badTarget (n k : Nat) (i : Ins) : Bool := isJump i && decide (targetZ n k i < 0)
def targetsOk (n : Nat) : Nat → List Ins → Bool
  | _, [] => true
  | k, i :: l => !badTarget n k i && targetsOk n (k + 1) l
def Prog.targets (p : Prog) : Bool := targetsOk p.code.length 0 p.code
def Prog.right (p : Prog) : Bool :=
  decide (1 ≤ p.code.length ∧ p.code.length ≤ 2000 ∧ 0 ≤ p.size ∧ p.size ≤ 65536 ∧ (p.data.length : Int) ≤ p.size) && p.code.all rightB && p.targets
end Go.Proofs.Ytcaibahniheohaa.Words

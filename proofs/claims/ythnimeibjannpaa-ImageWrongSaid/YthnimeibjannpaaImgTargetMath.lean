/- Plain mathematics of ImageTargets: code of halts with one branch among them. -/
import Derived.Test.YthnimeibjannpaaImageTells
namespace Go.Proofs.Ythnimeibjannpaa.Words
open Go.RowKit

def haltI : Ins := ⟨41, 0, 0, 0, 0⟩
theorem targetsOk_append (n : Nat) : ∀ (a b : List Ins) (s : Nat), targetsOk n s (a ++ b) = (targetsOk n s a && targetsOk n (s + a.length) b)
  | [], b, s => by simp [targetsOk]
  | i :: a, b, s => by
    rw [List.cons_append, targetsOk, targetsOk, targetsOk_append n a b (s + 1), List.length_cons, Bool.and_assoc, show s + 1 + a.length = s + (a.length + 1) by omega]
theorem halts_ok (n : Nat) : ∀ (m s : Nat), targetsOk n s (List.replicate m haltI) = true
  | 0, _ => rfl
  | m + 1, s => by
    rw [List.replicate_succ, targetsOk, halts_ok n m (s + 1)]; rfl
theorem halts_right : ∀ m : Nat, (List.replicate m haltI).all rightB = true
  | 0 => rfl
  | m + 1 => by rw [List.replicate_succ, List.all_cons, halts_right m]; decide
theorem branch_right {op imm : Int} (h1 : 34 ≤ op) (h2 : op ≤ 40) (h3 : -100 ≤ imm) (h4 : imm ≤ 100) : rightB ⟨op, 0, 0, 0, imm⟩ = true := by
  have : op = 34 ∨ op = 35 ∨ op = 36 ∨ op = 37 ∨ op = 38 ∨ op = 39 ∨ op = 40 := by omega
  rcases this with rfl | rfl | rfl | rfl | rfl | rfl | rfl
  all_goals
    unfold rightB
    simp [fitsB, lowI, highI, formZ, hasD, hasA, hasB, hasI]
    try omega
/-- The code. -/
def oneIn (n k : Nat) (op imm : Int) : List Ins := List.replicate k haltI ++ ⟨op, 0, 0, 0, imm⟩ :: List.replicate (n - (k + 1)) haltI
theorem oneIn_len {n k : Nat} (op imm : Int) (h : k < n) : (oneIn n k op imm).length = n := by
  unfold oneIn; rw [List.length_append, List.length_cons, List.length_replicate, List.length_replicate]; omega
theorem oneIn_targets {n k : Nat} {op imm : Int} (h : k < n) (hn : n ≤ 60) (h1 : 34 ≤ op) (h2 : op ≤ 40) : targetsOk n 0 (oneIn n k op imm) = decide (0 ≤ (k : Int) + imm ∧ (k : Int) + imm < n) := by
  unfold oneIn
  rw [targetsOk_append, halts_ok, Bool.true_and, targetsOk, halts_ok, Bool.and_true, List.length_replicate, Nat.zero_add, badTarget_eq h (by omega)]
  have hj : isJump ⟨op, 0, 0, 0, imm⟩ = true := decide_eq_true ⟨h1, h2⟩
  rw [hj, Bool.true_and, Bool.not_not, decide_eq_decide]
  dsimp only
  omega
theorem oneIn_right {n k : Nat} {op imm : Int} (h : k < n) (hn : n ≤ 60) (h1 : 34 ≤ op) (h2 : op ≤ 40) (h3 : -100 ≤ imm) (h4 : imm ≤ 100) :
    (Prog.mk (oneIn n k op imm) 0 []).right = decide (0 ≤ (k : Int) + imm ∧ (k : Int) + imm < n) := by
  rw [right_prog]
  unfold rightZ sizesOk
  dsimp only
  rw [oneIn_len op imm h, oneIn_targets h hn h1 h2, decide_eq_true (by simp; omega)]
  have : (oneIn n k op imm).all rightB = true := by
    unfold oneIn
    rw [List.all_append, List.all_cons, halts_right, halts_right, branch_right h1 h2 h3 h4]; rfl
  rw [this]; rfl
theorem imgOf_pos (p : Prog) : decide (0 < (imgOf p).length) = p.right := by
  cases hr : p.right
  · rw [imgOf_no hr]; rfl
  · rw [imgOf_yes hr, imgZ_len]; exact decide_eq_true (by omega)
theorem repl_halt (j : Nat) : codeCells (List.replicate (j + 1) haltI) = codeCells (List.replicate j haltI) ++ insCells haltI := by
  rw [List.replicate_succ', codeCells_append, codeCells_cons, codeCells_nil, List.append_nil]
theorem repl_split {n k : Nat} (h : k < n) : List.replicate n haltI = List.replicate k haltI ++ haltI :: List.replicate (n - (k + 1)) haltI := by
  rw [← List.replicate_succ, List.replicate_append_replicate, show k + (n - (k + 1) + 1) = n by omega]
end Go.Proofs.Ythnimeibjannpaa.Words

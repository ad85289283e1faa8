/- Plain mathematics of chapter 4: a program's bytes. Nothing here speaks of one program text. -/
import Derived.Test.YthnimeibjannpaaPData
namespace Go.Proofs.Ythnimeibjannpaa.Words
open Go.RowKit

/-- A word's four bytes. -/
def quadZ (x : Int) : List Int := [x % 256, x / 256 % 256, x / 65536 % 256, x / 16777216]
theorem quadZ_len (x : Int) : (quadZ x).length = 4 := rfl
def codeBytes (l : List Ins) : List Int := l.flatMap fun i => quadZ (encZ i)
theorem codeBytes_cons (i : Ins) (l : List Ins) : codeBytes (i :: l) = quadZ (encZ i) ++ codeBytes l := by simp [codeBytes]
theorem codeBytes_append (l m : List Ins) : codeBytes (l ++ m) = codeBytes l ++ codeBytes m := by simp [codeBytes]
theorem codeBytes_len (l : List Ins) : (codeBytes l).length = 4 * l.length := by
  induction l with
  | nil => rfl
  | cons i l ih => rw [codeBytes_cons, List.length_append, ih, quadZ_len, List.length_cons]; omega
theorem codeBytes_take {l : List Ins} {j : Nat} {i : Ins} (h : l[j]? = some i) : codeBytes (l.take (j + 1)) = codeBytes (l.take j) ++ quadZ (encZ i) := by
  obtain ⟨hlt, rfl⟩ := List.getElem?_eq_some_iff.1 h
  rw [List.take_add_one, List.getElem?_eq_getElem hlt, codeBytes_append]
  simp [codeBytes]
def imgHead (n s m : Int) : List Int := [83, 82, 73, 1] ++ quadZ n ++ quadZ s ++ quadZ m
theorem imgHead_len (n s m : Int) : (imgHead n s m).length = 16 := rfl
/-- A program's bytes. -/
def imgZ (p : Prog) : List Int := imgHead p.code.length p.size p.data.length ++ codeBytes p.code ++ p.data
theorem imgZ_len (p : Prog) : (imgZ p).length = 16 + 4 * p.code.length + p.data.length := by
  unfold imgZ; rw [List.length_append, List.length_append, imgHead_len, codeBytes_len]
theorem all_at {l : List Ins} (h : l.all rightB = true) {j : Nat} {i : Ins} (hi : l[j]? = some i) : rightB i = true := by
  rw [List.all_eq_true] at h
  exact h i (List.mem_of_getElem? hi)
theorem right_parts {p : Prog} (h : p.right = true) : (1 ≤ p.code.length ∧ p.code.length ≤ 2000 ∧ 0 ≤ p.size ∧ p.size ≤ 65536 ∧ (p.data.length : Int) ≤ p.size) ∧ p.code.all rightB = true ∧ p.targets = true := by
  unfold Prog.right at h
  rw [Bool.and_eq_true, Bool.and_eq_true, decide_eq_true_iff] at h
  exact ⟨h.1.1, h.1.2, h.2⟩
end Go.Proofs.Ythnimeibjannpaa.Words

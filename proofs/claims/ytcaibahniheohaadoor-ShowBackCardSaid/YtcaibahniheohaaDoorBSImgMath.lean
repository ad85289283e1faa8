/- Plain mathematics of chapter 4: a program's bytes. Nothing here speaks of one program text. -/
import Derived.Test.YtcaibahniheohaaDoorBG00
namespace Go.Proofs.YtcaibahniheohaaDoor.Words
set_option maxRecDepth 100000
open Go.RowKit
theorem right_parts {p : Prog} (h : p.right = true) : (1 ≤ p.code.length ∧ p.code.length ≤ 2000 ∧ 0 ≤ p.size ∧ p.size ≤ 65536 ∧ (p.data.length : Int) ≤ p.size) ∧ p.code.all rightB = true ∧ p.targets = true := by
 unfold Prog.right at h
 rw [Bool.and_eq_true, Bool.and_eq_true, decide_eq_true_iff] at h
 exact ⟨h.1.1, h.1.2, h.2⟩
end Go.Proofs.YtcaibahniheohaaDoor.Words

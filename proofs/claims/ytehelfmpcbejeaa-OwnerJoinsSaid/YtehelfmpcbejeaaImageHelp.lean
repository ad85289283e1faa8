/- Contracts of the laws' own helpers of chapter 4 that call nothing of the program: num, Few. -/
import Derived.Test.YtehelfmpcbejeaaRows
import Derived.Test.YtehelfmpcbejeaaPData
namespace Go.Proofs.Ytehelfmpcbejeaa.Words
set_option maxRecDepth 100000
open Go.RowKit
set_option linter.unusedVariables false

/-- Is a program short enough? -/
def fewB (n m : Nat) : Bool := decide (n ≤ 200 ∧ m ≤ 500)
set_option maxHeartbeats 400000 in
theorem few_any (A A' : Option Addr) (n c m c' : Nat) (sz : Int) (w : World) (hn : n ≤ 9223372036854775807) (hm : m ≤ 9223372036854775807) :
    Calls Try.prog 9 #[.agg #[.slice A n c, .int .i64 sz, .slice A' m c']] w fun e w' => e = .returned (.bool (fewB n m)) ∧ Below w.heap.size w w' := by
  by_cases h1 : n ≤ 200
  · by_cases h2 : m ≤ 500
    · have hr : fewB n m = true := decide_eq_true ⟨h1, h2⟩
      rw [hr]
      go_enter Try.func9, Try.ntmps9
      go_wp2_with fail
      go_ret
      exact ⟨by simp <;> omega, (Below.refl _ _).alloc (Nat.le_refl _) _⟩
    · have hr : fewB n m = false := decide_eq_false (fun h => h2 h.2)
      rw [hr]
      go_enter Try.func9, Try.ntmps9
      go_wp2_with fail
      go_ret
      exact ⟨by simp <;> omega, (Below.refl _ _).alloc (Nat.le_refl _) _⟩
  · have hr : fewB n m = false := decide_eq_false (fun h => h1 h.1)
    rw [hr]
    go_enter Try.func9, Try.ntmps9
    go_wp2_with fail
    go_ret
    exact ⟨by simp <;> omega, (Below.refl _ _).alloc (Nat.le_refl _) _⟩
end Go.Proofs.Ytehelfmpcbejeaa.Words

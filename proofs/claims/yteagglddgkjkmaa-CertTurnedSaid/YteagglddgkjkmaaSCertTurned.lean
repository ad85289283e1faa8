/- The walk of law 14's CertTurned, both sides joined. -/
import Derived.Test.YteagglddgkjkmaaSCertTuE
import Derived.Test.YteagglddgkjkmaaSCertTuA
namespace Go.Proofs.Yteagglddgkjkmaa.Words
open Go.RowKit
set_option linter.unusedVariables false
theorem certTurned_walk (A : Option Addr) (c : Nat) (D : Option Addr) (d : Nat) (p : Prog) (a1 a2 : Int) (a3 : Bool) (w : World)
    (hf : p.Fits) (hp : ProgV w w.heap.size (.slice A p.code.length c) (.slice D p.data.length d) p) (hr1 : -9223372036854775808 ≤ a1 ∧ a1 ≤ 9223372036854775807) (hr2 : -9223372036854775808 ≤ a2 ∧ a2 ≤ 9223372036854775807) :
    Calls Try.prog 4 #[.agg #[.slice A p.code.length c, .int .i64 p.size, .slice D p.data.length d], .int .i64 a1, .int .i64 a2, .bool a3] w fun e w' => e = .returned (.bool true) ∧ Below w.heap.size w w' := by
  cases a3
  · exact certTurned_a A c D d p a1 a2 w hp hr1 hr2
  · exact certTurned_e A c D d p a1 a2 w hp hr1 hr2
end Go.Proofs.Yteagglddgkjkmaa.Words

/- The walk of law 14's CertHolds, both cases joined. -/
import Derived.Test.YteagglddgkjkmaaSCertHoldsN
namespace Go.Proofs.Yteagglddgkjkmaa.Words
open Go.RowKit
set_option linter.unusedVariables false
theorem certHolds_walk (A : Option Addr) (c : Nat) (D : Option Addr) (d : Nat) (p : Prog) (pick : Int) (w : World)
    (hf : p.Fits) (hp : ProgV w w.heap.size (.slice A p.code.length c) (.slice D p.data.length d) p) (hpk : -9223372036854775808 ≤ pick ∧ pick ≤ 9223372036854775807) :
    Calls Try.prog 3 #[.agg #[.slice A p.code.length c, .int .i64 p.size, .slice D p.data.length d], .int .i64 pick] w fun e w' => e = .returned (.bool true) ∧ Below w.heap.size w w' := by
  cases hcl : closedZ p.code p.size p.data.length (ownO pick)
  · exact certHolds_no A c D d p pick w hp hpk hcl
  · exact certHolds_yes A c D d p pick w hp hpk hcl
end Go.Proofs.Yteagglddgkjkmaa.Words

/- Contract of the document's own Mask. -/
import Derived.Test.YtpoigbgdaiopmaaRows
import Derived.Test.YtpoigbgdaiopmaaBase
import Derived.Test.YtpoigbgdaiopmaaIsaMath
namespace Go.Proofs.Ytpoigbgdaiopmaa.Words
set_option maxRecDepth 100000
open Go.RowKit
set_option linter.unusedVariables false

/-- A word's lowest bytes. -/
def maskZ (v size : Int) : Int := if size = 1 then v % 256 else if size = 2 then v % 65536 else if size = 4 then v else 0
theorem and_one (x : Int) (h0 : 0 ≤ x) (h1 : x < 4294967296) : bits .and .u32 x 1 = x % 2 := by
  obtain ⟨a, rfl⟩ := Int.eq_ofNat_of_zero_le h0
  rw [show (1 : Int) = ((1 : Nat) : Int) from rfl, u32_and_nat a 1 (by omega) (by omega), show a &&& 1 = a % 2 from Nat.and_two_pow_sub_one_eq_mod a 1]
  omega
theorem and_255 (x : Int) (h0 : 0 ≤ x) (h1 : x < 4294967296) : bits .and .u32 x 255 = x % 256 := by
  obtain ⟨a, rfl⟩ := Int.eq_ofNat_of_zero_le h0
  rw [show (255 : Int) = ((255 : Nat) : Int) from rfl, u32_and_nat a 255 (by omega) (by omega), show a &&& 255 = a % 256 from Nat.and_two_pow_sub_one_eq_mod a 8]
  omega
theorem and_65535 (x : Int) (h0 : 0 ≤ x) (h1 : x < 4294967296) : bits .and .u32 x 65535 = x % 65536 := by
  obtain ⟨a, rfl⟩ := Int.eq_ofNat_of_zero_le h0
  rw [show (65535 : Int) = ((65535 : Nat) : Int) from rfl, u32_and_nat a 65535 (by omega) (by omega), show a &&& 65535 = a % 65536 from Nat.and_two_pow_sub_one_eq_mod a 16]
  omega

end Go.Proofs.Ytpoigbgdaiopmaa.Words

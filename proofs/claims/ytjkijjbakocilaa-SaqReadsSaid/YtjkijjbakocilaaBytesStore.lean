/- Contract of bytes.Store. -/
import Derived.Test.YtjkijjbakocilaaBytesFits
import Derived.Test.YtjkijjbakocilaaRowCopy
import Derived.Test.YtjkijjbakocilaaByteRow
import Derived.Test.YtjkijjbakocilaaInfo8
import Derived.Test.YtjkijjbakocilaaWordPut
import Derived.Test.YtjkijjbakocilaaLin
namespace Go.Proofs.Ytjkijjbakocilaa.Words
set_option maxRecDepth 100000
open Go.RowKit
set_option linter.unusedVariables false

theorem splice_quad1 (zs : List Int) (k n : Nat) (v : Int) (hl : zs.length = n) (h : k + 1 ≤ n) : splice (zs.map (Value.int .u8)) k (((quad v).take 1).take (n - k)) = (put1 zs k v).map (Value.int .u8) := by
  rw [List.take_of_length_le (l := (quad v).take 1) (by simp [quad]; omega)]
  show splice _ _ [_] = _
  rw [splice_cons _ _ _ _ (by simp; omega), splice_nil, put1, List.map_set]
theorem splice_quad2 (zs : List Int) (k n : Nat) (v : Int) (hl : zs.length = n) (h : k + 2 ≤ n) : splice (zs.map (Value.int .u8)) k (((quad v).take 2).take (n - k)) = (put2 zs k v).map (Value.int .u8) := by
  rw [List.take_of_length_le (l := (quad v).take 2) (by simp [quad]; omega)]
  show splice _ _ [_, _] = _
  rw [splice_cons _ _ _ _ (by simp; omega), splice_cons _ _ _ _ (by simp; omega), splice_nil, put2, put1, List.map_set, List.map_set]
theorem splice_quad4 (zs : List Int) (k n : Nat) (v : Int) (hv : 0 ≤ v ∧ v ≤ 4294967295) (hl : zs.length = n) (h : k + 4 ≤ n) : splice (zs.map (Value.int .u8)) k (((quad v).take 4).take (n - k)) = (put4 zs k v).map (Value.int .u8) := by
  rw [List.take_of_length_le (l := (quad v).take 4) (by simp [quad]; omega)]
  show splice _ _ [_, _, _, _] = _
  rw [splice_cons _ _ _ _ (by simp; omega), splice_cons _ _ _ _ (by simp; omega), splice_cons _ _ _ _ (by simp; omega), splice_cons _ _ _ _ (by simp; omega), splice_nil, put4, put2, put1, List.map_set, List.map_set, List.map_set, List.map_set, show v / 16777216 % 256 = v / 16777216 by omega]

section
variable (A : Option Addr) (c n : Nat) (zs : List Int) (v : Int) (w : World)

end
end Go.Proofs.Ytjkijjbakocilaa.Words

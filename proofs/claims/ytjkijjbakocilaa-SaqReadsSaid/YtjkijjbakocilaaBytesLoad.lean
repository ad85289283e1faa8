/- Contract of bytes.Load. -/
import Derived.Test.YtjkijjbakocilaaBytesFits
import Derived.Test.YtjkijjbakocilaaRowCopy
import Derived.Test.YtjkijjbakocilaaByteRow
import Derived.Test.YtjkijjbakocilaaInfo8
import Derived.Test.YtjkijjbakocilaaWordGet
namespace Go.Proofs.Ytjkijjbakocilaa.Words
set_option maxRecDepth 100000
open Go.RowKit
set_option linter.unusedVariables false

theorem getD_at {zs : List Int} {k : Nat} (h : k < zs.length) : zs.getD k 0 = zs[k] := by rw [List.getD_eq_getElem?_getD, List.getElem?_eq_getElem h]; rfl
theorem take1 (zs : List Int) (k : Nat) (h : k + 1 ≤ zs.length) : ((zs.map (Value.int .u8)).drop k).take 1 = [Value.int .u8 (zs.getD k 0)] := by
  rw [List.drop_eq_getElem_cons (by simp; omega), getD_at (by omega)]
  simp
theorem take2 (zs : List Int) (k : Nat) (h : k + 2 ≤ zs.length) : ((zs.map (Value.int .u8)).drop k).take 2 = [Value.int .u8 (zs.getD k 0), Value.int .u8 (zs.getD (k + 1) 0)] := by
  rw [List.drop_eq_getElem_cons (by simp; omega), List.drop_eq_getElem_cons (by simp; omega), getD_at (by omega), getD_at (by omega)]
  simp
theorem take4 (zs : List Int) (k : Nat) (h : k + 4 ≤ zs.length) : ((zs.map (Value.int .u8)).drop k).take 4 = [Value.int .u8 (zs.getD k 0), Value.int .u8 (zs.getD (k + 1) 0), Value.int .u8 (zs.getD (k + 2) 0), Value.int .u8 (zs.getD (k + 3) 0)] := by
  rw [List.drop_eq_getElem_cons (by simp; omega), List.drop_eq_getElem_cons (by simp; omega), List.drop_eq_getElem_cons (by simp; omega), List.drop_eq_getElem_cons (by simp; omega), getD_at (by omega), getD_at (by omega), getD_at (by omega), getD_at (by omega)]
  simp

end Go.Proofs.Ytjkijjbakocilaa.Words

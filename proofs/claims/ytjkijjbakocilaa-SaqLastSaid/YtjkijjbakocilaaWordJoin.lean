/- Bytes joined to a word. Nothing here speaks of one program text. -/
import Derived.Test.YtjkijjbakocilaaBase
namespace Go.Proofs.Ytjkijjbakocilaa.Words
set_option maxRecDepth 100000
open Go.RowKit

/-- Four bytes, one behind the other, the lowest first. -/
theorem or_join (i : Nat) (x y : Int) (hx0 : 0 ≤ x) (hx1 : x < 2 ^ i) (hy0 : 0 ≤ y) (hy1 : y < 256) (hi : i + 8 ≤ 32) :
    bits .or .u32 x (y * 2 ^ i) = x + y * 2 ^ i := by
  obtain ⟨a, rfl⟩ := Int.eq_ofNat_of_zero_le hx0
  obtain ⟨c, rfl⟩ := Int.eq_ofNat_of_zero_le hy0
  have ha : a < 2 ^ i := by exact_mod_cast hx1
  have hc : c < 256 := by omega
  have hp : 2 ^ i * 256 ≤ 4294967296 := by
    have : (2 : Nat) ^ (i + 8) ≤ 2 ^ 32 := Nat.pow_le_pow_right (by omega) hi
    rw [Nat.pow_add] at this; simpa using this
  have hpos : 0 < 2 ^ i := Nat.pow_pos (by omega)
  have hm : c * 2 ^ i ≤ 255 * 2 ^ i := Nat.mul_le_mul_right _ (by omega)
  have e : ((c : Int) * 2 ^ i) = ((c * 2 ^ i : Nat) : Int) := by simp
  rw [e, u32_or_nat a (c * 2 ^ i) (by omega) (by omega), Nat.or_comm, nat_join i (c * 2 ^ i) a (by simp) ha]
  omega
theorem join4 (x0 x1 x2 x3 : Int) (b0 : 0 ≤ x0 ∧ x0 ≤ 255) (b1 : 0 ≤ x1 ∧ x1 ≤ 255) (b2 : 0 ≤ x2 ∧ x2 ≤ 255) (b3 : 0 ≤ x3 ∧ x3 ≤ 255) :
    bits .or .u32 (bits .or .u32 (bits .or .u32 x0 (x1 * 256)) (x2 * 65536)) (x3 * 16777216) = x0 + 256 * x1 + 65536 * x2 + 16777216 * x3 := by
  have e1 := or_join 8 x0 x1 (by omega) (by omega) (by omega) (by omega) (by omega)
  have e2 := or_join 16 (x0 + x1 * 256) x2 (by omega) (by omega) (by omega) (by omega) (by omega)
  have e3 := or_join 24 (x0 + x1 * 256 + x2 * 65536) x3 (by omega) (by omega) (by omega) (by omega) (by omega)
  simp only [show (2 : Int) ^ 8 = 256 from rfl, show (2 : Int) ^ 16 = 65536 from rfl, show (2 : Int) ^ 24 = 16777216 from rfl] at e1 e2 e3
  rw [e1, e2, e3]; omega
end Go.Proofs.Ytjkijjbakocilaa.Words

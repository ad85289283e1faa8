/- Of a store that covers a load it reads what the load would read behind it: plain mathematics. -/
import Derived.Test.YtjkijjbakocilaaSltMath
import Derived.Test.YtjkijjbakocilaaBytesMath2
import Derived.Test.YtjkijjbakocilaaRefMask
namespace Go.Proofs.Ytjkijjbakocilaa.Words
set_option linter.unusedVariables false
theorem mask_fits (v n : Int) (h0 : 0 ≤ v) (h1 : v ≤ 4294967295) : 0 ≤ maskZ v n ∧ maskZ v n ≤ 4294967295 := by
  unfold maskZ; repeat' split
  all_goals omega
theorem mask_again (v n : Int) (h0 : 0 ≤ v) (h1 : v ≤ 4294967295) : maskZ (maskZ v n) n = maskZ v n := by
  unfold maskZ; repeat' split
  all_goals omega
theorem read_behind {zs : List Int} {op addr v : Int} (h4 : formZ op = 4) (h0 : 0 ≤ addr) (h1 : addr ≤ 4294967295) (hc : checkZ (sizeZ op) addr zs.length = 0) (hv0 : 0 ≤ v) (hv1 : v ≤ 4294967295) (hm : maskZ v (sizeZ op) = v) :
    loadZ (storeZ zs (sizeZ op) addr v) op addr = extendZ op v := by
  have hfc := formZ_cases op
  have hsc := sizeZ_cases op
  have hs : sizeZ op = 1 ∨ sizeZ op = 2 ∨ sizeZ op = 4 := by omega
  have hok : storeOk (sizeZ op) addr zs.length = true := by unfold storeOk; exact decide_eq_true ⟨hs, h0, h1, hc⟩
  rw [loadZ_yes (by omega) (by omega) (by rw [storeZ_len]; exact hc)]
  congr 1
  obtain ⟨a, rfl⟩ : ∃ a : Nat, addr = a := ⟨addr.toNat, by omega⟩
  have hg := fun i => storeZ_at zs (sizeZ op) a v i hok
  rw [Int.toNat_natCast] at *
  generalize storeZ zs (sizeZ op) (a : Int) v = ys at *
  have g0 := hg a
  have g1 := hg (a + 1)
  have g2 := hg (a + 2)
  have g3 := hg (a + 3)
  rw [show a - a = 0 by omega, show byteZ v 0 = v % 256 from rfl] at g0
  rw [show a + 1 - a = 1 by omega, show byteZ v 1 = v / 256 % 256 from rfl] at g1
  rw [show a + 2 - a = 2 by omega, show byteZ v 2 = v / 65536 % 256 from rfl] at g2
  rw [show a + 3 - a = 3 by omega, show byteZ v 3 = v / 16777216 % 256 from rfl] at g3
  clear hg hok hc
  rcases hs with e | e | e
  · rw [e] at hm g0 g1 g2 g3 ⊢
    rw [if_pos ⟨by omega, by omega⟩] at g0
    rw [show wordOf ys a 1 = ys.getD a 0 from rfl, g0]
    rw [show maskZ v 1 = v % 256 from rfl] at hm
    omega
  · rw [e] at hm g0 g1 g2 g3 ⊢
    rw [if_pos ⟨by omega, by omega⟩] at g0 g1
    rw [show wordOf ys a 2 = ys.getD a 0 + 256 * ys.getD (a + 1) 0 from rfl, g0, g1]
    rw [show maskZ v 2 = v % 65536 from rfl] at hm
    omega
  · rw [e] at hm g0 g1 g2 g3 ⊢
    rw [if_pos ⟨by omega, by omega⟩] at g0 g1 g2 g3
    rw [show wordOf ys a 4 = ys.getD a 0 + 256 * ys.getD (a + 1) 0 + 65536 * ys.getD (a + 2) 0 + 16777216 * ys.getD (a + 3) 0 from rfl, g0, g1, g2, g3]
    omega
end Go.Proofs.Ytjkijjbakocilaa.Words

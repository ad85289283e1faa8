/- The law BanksAnswer: the states on the way. -/
import Derived.Test.YthhoigkmmlkfcaaSBnkHold
import Derived.Test.YthhoigkmmlkfcaaSAdvLim
import Derived.Test.YthhoigkmmlkfcaaG12
import Derived.Test.YthhoigkmmlkfcaaG07
import Derived.Deep.Cut
namespace Go.Proofs.Ythhoigkmmlkfcaa.Words
set_option maxRecDepth 100000
open Go.RowKit
set_option linter.unusedVariables false
set_option linter.unusedSimpArgs false

def slt7 : Slt := ⟨7, false, 0⟩
/-- The state ahead of the load. -/
def staA (zs : List Int) : Sta := { sta0 with mem := zs, ldq := [slt7] }
theorem ans_facts (zs : List Int) (q : Rqs) (n : Int) (i : Nat) : (ansZ (staA zs) q n i).cycle = i ∧ (ansZ (staA zs) q n i).Ok ∧ (ansZ (staA zs) q n i).table.length = 1 ∧ (ansZ (staA zs) q n i).ldq = [slt7] ∧ (ansZ (staA zs) q n i).mem = zs := by
  cases i <;> exact ⟨by first | rfl | simp [ansZ], ⟨sid0_ok, sid0_ok⟩, rfl, rfl, rfl⟩
theorem ans_lim {zs : List Int} (q : Rqs) (n : Int) (i : Nat) (hz : ∀ x ∈ zs, 0 ≤ x ∧ x ≤ 255) (hl : zs.length ≤ 200) : StaLim 0 (ansZ (staA zs) q n i) := by
  cases i <;> exact ⟨by show 1 ≤ 100000; omega, by show 0 ≤ 100000; omega, by show 0 ≤ 100000; omega, by show 0 ≤ 100000; omega, by show 0 ≤ 100000; omega, by show 0 ≤ 100000; omega, by show 1 ≤ 100000; omega, by show zs.length ≤ 100000; omega, by show 0 ≤ 100000 + 0; omega, hz, ⟨sid0_ok, sid0_ok⟩⟩
theorem ans_num (zs : List Int) (q : Rqs) (n : Int) (i : Nat) : NumOk (ansZ (staA zs) q n i) := by
  cases i <;> exact ⟨by first | exact ⟨by show _ ≤ (0 : Int); omega, by show (0 : Int) ≤ _; omega⟩ | exact ⟨by show _ ≤ (1 : Int); omega, by show (1 : Int) ≤ _; omega⟩, ⟨by show _ ≤ (0 : Int); omega, by show (0 : Int) ≤ _; omega⟩⟩
theorem ans_fits {zs : List Int} {q : Rqs} {n : Int} (hq : q.Fits) (h0 : 0 ≤ n) (hn : n ≤ 1000) (i : Nat) (hi : (i : Int) ≤ n) : ∀ r ∈ (ansZ (staA zs) q n i).table, r.Fits := by
  intro r hr
  cases i with
  | zero =>
    have : r = q := by simpa [ansZ] using hr
    rw [this]; exact hq
  | succ i =>
    have : r = { q with left := n - i } := by simpa [ansZ] using hr
    rw [this]
    unfold Rqs.Fits at hq ⊢
    dsimp only
    omega
end Go.Proofs.Ythhoigkmmlkfcaa.Words

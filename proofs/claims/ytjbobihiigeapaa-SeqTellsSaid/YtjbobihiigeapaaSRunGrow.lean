/- A run's writes and steps grow. Nothing here speaks of one program text. -/
import Derived.Test.YtjbobihiigeapaaG17
namespace Go.Proofs.Ytjbobihiigeapaa.Words
set_option maxRecDepth 100000
open Go.RowKit
set_option linter.unusedVariables false

theorem bump_st {r : Res} {k : Nat} (h : 0 ≤ r.st ∧ r.st ≤ k) (hk : k ≤ 1000000) : r.st ≤ (bumpZ r).st := by
  show r.st ≤ wrap64 (r.st + 1)
  rw [IntWalk.wrap64_in _ (by omega)]; omega
theorem stepZ_grow {p : Prog} {k : Nat} {r : Res} (h : RunOk p k r) (hk : k ≤ 1000000) (pc : Int) : r.ws.length ≤ (stepZ p r pc).1.ws.length ∧ r.st ≤ (stepZ p r pc).1.st := by
  have hb := bump_st h.st hk
  unfold stepZ
  split
  · exact ⟨Nat.le_refl _, Int.le_refl _⟩
  split
  · exact ⟨Nat.le_refl _, Int.le_refl _⟩
  generalize p.code.getD pc.toNat ⟨0, 0, 0, 0, 0⟩ = i
  unfold insZ
  split
  · split
    · exact ⟨Nat.le_refl _, Int.le_refl _⟩
    · split
      · exact ⟨Nat.le_refl _, hb⟩
      · exact ⟨by show r.ws.length ≤ (r.ws ++ [_]).length; simp, hb⟩
  split
  · split
    · exact ⟨Nat.le_refl _, Int.le_refl _⟩
    · exact ⟨Nat.le_refl _, hb⟩
  split
  · exact ⟨Nat.le_refl _, hb⟩
  split
  · exact ⟨Nat.le_refl _, hb⟩
  · exact ⟨Nat.le_refl _, hb⟩
theorem stepsZ_grow {p : Prog} : ∀ (n : Nat) {k : Nat} {x : Res × Int}, RunOk p k x.1 → k + n ≤ 1000000 → x.1.ws.length ≤ (stepsZ p n x).1.ws.length ∧ x.1.st ≤ (stepsZ p n x).1.st
  | 0, k, x, h, _ => ⟨Nat.le_refl _, Int.le_refl _⟩
  | n + 1, k, x, h, hk => by
    have h1 := stepZ_grow h (by omega) x.2
    have h2 := stepsZ_grow n (h.step (by omega) x.2) (by omega)
    exact ⟨Nat.le_trans h1.1 h2.1, Int.le_trans h1.2 h2.2⟩
theorem fuelZ_ws (r : Res) : (fuelZ r).ws = r.ws ∧ (fuelZ r).st = r.st ∧ (fuelZ r).regs = r.regs ∧ (fuelZ r).mem = r.mem := by
  unfold fuelZ; split <;> exact ⟨rfl, rfl, rfl, rfl⟩
theorem clampZ_nat (n : Nat) (h : n ≤ 100000) : clampZ (n : Int) = n := by
  unfold clampZ; rw [if_neg (by omega), if_neg (by omega)]; rfl
/-- What a run leaves, in bounds. -/
theorem runZ_ok {p : Prog} {fuel : Int} (hf : ∀ b ∈ p.data, 0 ≤ b ∧ b ≤ 255) : (runZ p fuel).regs.length = 16 ∧ (∀ b ∈ (runZ p fuel).mem, 0 ≤ b ∧ b ≤ 255) := by
  unfold runZ
  split
  · rename_i hr
    obtain ⟨_, _, c3, _, c5, _⟩ := right_code hr
    have h := RunOk.steps (clampZ fuel) (RunOk.start hf c3 c5) (by unfold clampZ; repeat' split; all_goals omega)
    have g := fuelZ_ws (stepsZ p (clampZ fuel) (startZ p)).1
    rw [g.2.2.1, g.2.2.2]
    exact ⟨h.len, h.mem⟩
  · exact ⟨rfl, by intro b hb; cases hb⟩
theorem runZ_more {p : Prog} {n m : Nat} (hf : ∀ b ∈ p.data, 0 ≤ b ∧ b ≤ 255) (hr : p.right = true) (hn : n + m ≤ 100000) : (runZ p (n : Int)).ws.length ≤ (runZ p ((n : Int) + m)).ws.length ∧ (runZ p (n : Int)).st ≤ (runZ p ((n : Int) + m)).st := by
  obtain ⟨_, _, c3, _, c5, _⟩ := right_code hr
  have h := RunOk.steps n (RunOk.start hf c3 c5) (by omega)
  rw [Nat.zero_add] at h
  have g := stepsZ_grow m h (by omega)
  rw [show ((n : Int) + m) = ((n + m : Nat) : Int) by omega]
  unfold runZ
  rw [if_pos hr, if_pos hr, clampZ_nat n (by omega), clampZ_nat (n + m) hn, stepsZ_add]
  have f1 := fuelZ_ws (stepsZ p n (startZ p)).1
  have f2 := fuelZ_ws (stepsZ p m (stepsZ p n (startZ p))).1
  rw [f1.1, f1.2.1, f2.1, f2.2.1]
  exact g
end Go.Proofs.Ytjbobihiigeapaa.Words

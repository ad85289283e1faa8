/- Memory is what it was at first, with all writes one by one: plain mathematics. Nothing here speaks of one program text. -/
import Derived.Test.YtdjllgdeijdieaaG12
namespace Go.Proofs.Ytdjllgdeijdieaa.Words
set_option maxRecDepth 100000
open Go.RowKit
set_option linter.unusedVariables false

/-- Writes laid one by one. -/
def layZ (m : List Int) (l : List Wr) : List Int := l.foldl (fun m x => storeZ m x.size x.addr x.val) m
theorem layZ_nil (m : List Int) : layZ m [] = m := rfl
theorem layZ_snoc (m : List Int) (l : List Wr) (x : Wr) : layZ m (l ++ [x]) = storeZ (layZ m l) x.size x.addr x.val := by simp [layZ]
theorem layZ_len (m : List Int) : ∀ l : List Wr, (layZ m l).length = m.length := by
  intro l
  induction l generalizing m with
  | nil => rfl
  | cons x l ih =>
    show (layZ (storeZ m x.size x.addr x.val) l).length = _
    rw [ih, storeZ_len]
theorem layZ_take (m : List Int) (l : List Wr) {k : Nat} {x : Wr} (h : l[k]? = some x) : layZ m (l.take (k + 1)) = storeZ (layZ m (l.take k)) x.size x.addr x.val := by
  obtain ⟨hk, rfl⟩ := List.getElem?_eq_some_iff.1 h
  rw [List.take_succ_eq_append_getElem hk, layZ_snoc]
theorem layZ_bytes {m : List Int} (h : ∀ b ∈ m, 0 ≤ b ∧ b ≤ 255) : ∀ l : List Wr, ∀ b ∈ layZ m l, 0 ≤ b ∧ b ≤ 255 := by
  intro l
  induction l generalizing m with
  | nil => exact h
  | cons x l ih => exact ih (m := storeZ m x.size x.addr x.val) (storeZ_bytes h)
theorem maskZ_mask (v s : Int) : maskZ (maskZ v s) s = maskZ v s := by
  unfold maskZ
  repeat' split
  all_goals omega
/-- What is so of a result, step by step. -/
structure WritesOk (p : Prog) (r : Res) : Prop where
  mem : r.mem = layZ (firstZ p) r.ws
  each : ∀ x ∈ r.ws, checkZ x.size x.addr p.size = 0 ∧ 0 ≤ x.addr ∧ x.addr ≤ 4294967295 ∧ maskZ x.val x.size = x.val
  zero : r.regs[0]? = some 0
theorem setZ_zero {regs : List Int} {v : Int} (k : Nat) (x : Int) (h : regs[0]? = some v) : (setZ regs k x)[0]? = some v := by
  unfold setZ
  split
  · exact h
  · rw [List.getElem?_set_ne (by omega)]; exact h
theorem WritesOk.step {p : Prog} {r : Res} (h : WritesOk p r) (pc : Int) : WritesOk p (stepZ p r pc).1 := by
  unfold stepZ
  split
  · exact h
  split
  · exact ⟨h.mem, h.each, h.zero⟩
  generalize p.code.getD pc.toNat ⟨0, 0, 0, 0, 0⟩ = i
  unfold insZ
  split
  · split
    · exact ⟨h.mem, h.each, h.zero⟩
    · rename_i hck
      split
      · exact ⟨h.mem, h.each, setZ_zero _ _ h.zero⟩
      · refine ⟨?_, ?_, h.zero⟩
        · show storeZ r.mem _ _ _ = layZ (firstZ p) (r.ws ++ [_])
          rw [layZ_snoc, ← h.mem]
        · intro x hx
          rcases List.mem_append.1 hx with hx | hx
          · exact h.each x hx
          · simp only [List.mem_cons, List.not_mem_nil, or_false] at hx
            subst hx
            refine ⟨by simpa using hck, ?_, ?_, maskZ_mask _ _⟩
            · show 0 ≤ (_ : Int) % 4294967296
              omega
            · show (_ : Int) % 4294967296 ≤ _
              omega
  split
  · split
    · exact ⟨h.mem, h.each, h.zero⟩
    · exact ⟨h.mem, h.each, setZ_zero _ _ h.zero⟩
  split
  · exact ⟨h.mem, h.each, h.zero⟩
  split
  · exact ⟨h.mem, h.each, h.zero⟩
  · exact ⟨h.mem, h.each, h.zero⟩
theorem WritesOk.steps {p : Prog} : ∀ (n : Nat) (x : Res × Int), WritesOk p x.1 → WritesOk p (stepsZ p n x).1
  | 0, x, h => h
  | n + 1, x, h => WritesOk.steps n (stepZ p x.1 x.2) (h.step x.2)
theorem WritesOk.start (p : Prog) : WritesOk p (startZ p).1 := ⟨rfl, (by intro x hx; cases hx), rfl⟩
theorem WritesOk.run {p : Prog} (hr : p.right = true) (fuel : Int) : WritesOk p (runZ p fuel) := by
  have h := WritesOk.steps (clampZ fuel) _ (WritesOk.start p)
  unfold runZ
  rw [if_pos hr]
  have g := fuelZ_ws (stepsZ p (clampZ fuel) (startZ p)).1
  exact ⟨by rw [g.1, g.2.2.2]; exact h.mem, by rw [g.1]; exact h.each, by rw [g.2.2.1]; exact h.zero⟩
/-- A run's writes are of Go's numbers, and no more than its steps. -/
theorem runZ_ws {p : Prog} {fuel : Int} (hf : ∀ b ∈ p.data, 0 ≤ b ∧ b ≤ 255) (hr : p.right = true) : (runZ p fuel).ws.length ≤ 100000 ∧ (∀ x ∈ (runZ p fuel).ws, x.Fits) ∧ ((runZ p fuel).mem.length : Int) = p.size := by
  obtain ⟨_, _, c3, _, c5, _⟩ := right_code hr
  have hc : clampZ fuel ≤ 100000 := by unfold clampZ; repeat' split; all_goals omega
  have h := RunOk.steps (clampZ fuel) (RunOk.start hf c3 c5) (by omega)
  have g := fuelZ_ws (stepsZ p (clampZ fuel) (startZ p)).1
  unfold runZ
  rw [if_pos hr, g.1, g.2.2.2]
  exact ⟨by have := h.ws; omega, h.fits, h.size⟩
end Go.Proofs.Ytdjllgdeijdieaa.Words

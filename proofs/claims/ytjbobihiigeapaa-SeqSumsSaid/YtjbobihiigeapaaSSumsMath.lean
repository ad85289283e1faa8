/- What the summing loop leaves: plain mathematics over stepZ. -/
import Derived.Test.YtjbobihiigeapaaG17
namespace Go.Proofs.Ytjbobihiigeapaa.Words
set_option maxRecDepth 100000
open Go.RowKit
set_option linter.unusedVariables false

/-- The loop's program. -/
def sumsP (n s : Int) : Prog := ⟨[⟨17, 1, 0, 0, n⟩, ⟨17, 2, 2, 0, s⟩, ⟨17, 1, 1, 0, -1⟩, ⟨35, 0, 1, 0, -2⟩, ⟨41, 0, 0, 0, 0⟩], 0, []⟩
/-- A result with two registers. -/
def sumR (a b st : Int) : Res := ⟨0, 0, 0, 0, st, [0, a, b, 0, 0, 0, 0, 0, 0, 0, 0, 0, 0, 0, 0, 0], [], []⟩
/-- The same at its end. -/
def sumE (a b st : Int) : Res := ⟨1, 0, 0, 0, st, [0, a, b, 0, 0, 0, 0, 0, 0, 0, 0, 0, 0, 0, 0, 0], [], []⟩
theorem sumsP_right (n s : Int) (hn : 1 ≤ n ∧ n ≤ 60) (hs : -8192 ≤ s ∧ s ≤ 8191) : (sumsP n s).right = true := by
  unfold Prog.right
  have h1 : (sumsP n s).code.all rightB = true := by
    rw [List.all_eq_true]
    intro i hi
    simp only [sumsP, List.mem_cons, List.not_mem_nil, or_false] at hi
    rcases hi with rfl | rfl | rfl | rfl | rfl
    · rw [rightB_iff]; simp [lowI, highI]; omega
    · rw [rightB_iff]; simp [lowI, highI]; omega
    · decide
    · decide
    · decide
  have h2 : (sumsP n s).targets = true := rfl
  rw [h1, h2]
  rfl
/-- One step at a place of which the instruction is known. -/
theorem sums_step {n s a b st : Int} (hn : 1 ≤ n ∧ n ≤ 60) (hs : -8192 ≤ s ∧ s ≤ 8191) (k : Nat) (i : Ins) (hi : (sumsP n s).code[k]? = some i) : stepZ (sumsP n s) (sumR a b st) (k : Int) = insZ 0 (sumR a b st) (k : Int) i :=
  stepZ_ins rfl (sumsP_right n s hn hs) rfl hi
theorem doZ_addi (d a imm x y : Int) (hd : 0 ≤ d ∧ d ≤ 15) (ha : 0 ≤ a ∧ a ≤ 15) (hi : -8192 ≤ imm ∧ imm ≤ 8191) : doZ ⟨17, d, a, 0, imm⟩ x y = (x + imm % 4294967296) % 4294967296 := by
  have hr : rightB ⟨17, d, a, 0, imm⟩ = true := by rw [rightB_iff]; simp [lowI, highI]; omega
  unfold doZ
  rw [if_pos hr]
  rfl
theorem doB_addi (d a imm y : Int) : doB ⟨17, d, a, 0, imm⟩ y = true := by
  unfold doB
  rw [if_neg (by simp [formZ])]
theorem sums_0 {n s st a b : Int} (hn : 1 ≤ n ∧ n ≤ 60) (hs : -8192 ≤ s ∧ s ≤ 8191) (h : 0 ≤ st ∧ st ≤ 1000) : stepZ (sumsP n s) (sumR a b st) 0 = (sumR (n % 4294967296) b (st + 1), 1) := by
  have h1 := sums_step (a := a) (b := b) (st := st) hn hs 0 _ rfl
  rw [show ((0 : Nat) : Int) = 0 from rfl] at h1
  rw [h1]
  have h2 : doZ ⟨17, 1, 0, 0, n⟩ 0 0 = n % 4294967296 := by rw [doZ_addi 1 0 n 0 0 (by omega) (by omega) (by omega)]; omega
  show (if doB ⟨17, 1, 0, 0, n⟩ 0 = false then (trapZ (sumR a b st) 3 0, (0 : Int)) else (bumpZ { sumR a b st with regs := setZ (sumR a b st).regs 1 (doZ ⟨17, 1, 0, 0, n⟩ 0 0) }, (0 : Int) + 1)) = _
  rw [doB_addi, if_neg (by decide), h2]
  show (bumpZ (sumR (n % 4294967296) b st), _) = _
  unfold bumpZ
  rw [show (sumR (n % 4294967296) b st).st = st from rfl, IntWalk.wrap64_in _ (by omega)]
  rfl
theorem sums_1 {n s st a b : Int} (hn : 1 ≤ n ∧ n ≤ 60) (hs : -8192 ≤ s ∧ s ≤ 8191) (h : 0 ≤ st ∧ st ≤ 1000) : stepZ (sumsP n s) (sumR a b st) 1 = (sumR a ((b + s) % 4294967296) (st + 1), 2) := by
  have h1 := sums_step (a := a) (b := b) (st := st) hn hs 1 _ rfl
  rw [show ((1 : Nat) : Int) = 1 from rfl] at h1
  rw [h1]
  have h2 : doZ ⟨17, 2, 2, 0, s⟩ b 0 = (b + s) % 4294967296 := by rw [doZ_addi 2 2 s b 0 (by omega) (by omega) (by omega)]; omega
  show (if doB ⟨17, 2, 2, 0, s⟩ 0 = false then (trapZ (sumR a b st) 3 1, (1 : Int)) else (bumpZ { sumR a b st with regs := setZ (sumR a b st).regs 2 (doZ ⟨17, 2, 2, 0, s⟩ b 0) }, (1 : Int) + 1)) = _
  rw [doB_addi, if_neg (by decide), h2]
  show (bumpZ (sumR a ((b + s) % 4294967296) st), _) = _
  unfold bumpZ
  rw [show (sumR a ((b + s) % 4294967296) st).st = st from rfl, IntWalk.wrap64_in _ (by omega)]
  rfl
theorem sums_2 {n s st a b : Int} (hn : 1 ≤ n ∧ n ≤ 60) (hs : -8192 ≤ s ∧ s ≤ 8191) (h : 0 ≤ st ∧ st ≤ 1000) (ha : 1 ≤ a ∧ a ≤ 60) : stepZ (sumsP n s) (sumR a b st) 2 = (sumR (a - 1) b (st + 1), 3) := by
  have h1 := sums_step (a := a) (b := b) (st := st) hn hs 2 _ rfl
  rw [show ((2 : Nat) : Int) = 2 from rfl] at h1
  rw [h1]
  have h2 : doZ ⟨17, 1, 1, 0, -1⟩ a 0 = a - 1 := by rw [doZ_addi 1 1 (-1) a 0 (by omega) (by omega) (by omega)]; omega
  show (if doB ⟨17, 1, 1, 0, -1⟩ 0 = false then (trapZ (sumR a b st) 3 2, (2 : Int)) else (bumpZ { sumR a b st with regs := setZ (sumR a b st).regs 1 (doZ ⟨17, 1, 1, 0, -1⟩ a 0) }, (2 : Int) + 1)) = _
  rw [doB_addi, if_neg (by decide), h2]
  show (bumpZ (sumR (a - 1) b st), _) = _
  unfold bumpZ
  rw [show (sumR (a - 1) b st).st = st from rfl, IntWalk.wrap64_in _ (by omega)]
  rfl
theorem sums_3 {n s st a b : Int} (hn : 1 ≤ n ∧ n ≤ 60) (hs : -8192 ≤ s ∧ s ≤ 8191) (h : 0 ≤ st ∧ st ≤ 1000) : stepZ (sumsP n s) (sumR a b st) 3 = (sumR a b (st + 1), if a = 0 then 4 else 1) := by
  have h1 := sums_step (a := a) (b := b) (st := st) hn hs 3 _ rfl
  rw [show ((3 : Nat) : Int) = 3 from rfl] at h1
  rw [h1]
  show (bumpZ (sumR a b st), if takenB 35 a 0 = true then (3 : Int) + -2 else 3 + 1) = _
  have ht : takenB 35 a 0 = decide (a ≠ 0) := rfl
  rw [ht]
  unfold bumpZ
  rw [show (sumR a b st).st = st from rfl, IntWalk.wrap64_in _ (by omega)]
  by_cases ha : a = 0
  · subst ha; rfl
  · rw [if_pos (by simp [ha]), if_neg ha]; rfl
theorem sums_4 {n s st a b : Int} (hn : 1 ≤ n ∧ n ≤ 60) (hs : -8192 ≤ s ∧ s ≤ 8191) (h : 0 ≤ st ∧ st ≤ 1000) : stepZ (sumsP n s) (sumR a b st) 4 = ({ sumR a b (st + 1) with e := 1 }, 4) := by
  have h1 := sums_step (a := a) (b := b) (st := st) hn hs 4 _ rfl
  rw [show ((4 : Nat) : Int) = 4 from rfl] at h1
  rw [h1]
  show (bumpZ { sumR a b st with e := 1 }, (4 : Int)) = _
  unfold bumpZ
  rw [show ({ sumR a b st with e := 1 } : Res).st = st from rfl, IntWalk.wrap64_in _ (by omega)]
  rfl
/-- A turn of the loop. -/
theorem sums_turns {n s : Int} (hn : 1 ≤ n ∧ n ≤ 60) (hs : -8192 ≤ s ∧ s ≤ 8191) : ∀ (m : Nat) (b st : Int), 1 ≤ m → m ≤ 60 → 0 ≤ st → st + 3 * m ≤ 900 → 0 ≤ b → b ≤ 4294967295 →
    stepsZ (sumsP n s) (3 * m) (sumR m b st, 1) = (sumR 0 ((b + m * s) % 4294967296) (st + 3 * m), 4)
  | 0, b, st, h, _, _, _, _, _ => by omega
  | m + 1, b, st, h1, h2, h3, h4, h5, h6 => by
    rw [show 3 * (m + 1) = (1 + (1 + (1 + 3 * m))) by omega]
    rw [stepsZ_add, stepsZ_add, stepsZ_add]
    show stepsZ _ _ (stepZ _ (stepZ _ (stepZ (sumsP n s) (sumR ((m + 1 : Nat) : Int) b st) 1).1 (stepZ (sumsP n s) (sumR ((m + 1 : Nat) : Int) b st) 1).2).1 (stepZ _ (stepZ (sumsP n s) (sumR ((m + 1 : Nat) : Int) b st) 1).1 (stepZ (sumsP n s) (sumR ((m + 1 : Nat) : Int) b st) 1).2).2) = _
    rw [sums_1 hn hs (by omega)]
    show stepsZ _ _ (stepZ _ (stepZ _ (sumR ((m + 1 : Nat) : Int) ((b + s) % 4294967296) (st + 1)) 2).1 (stepZ _ (sumR ((m + 1 : Nat) : Int) ((b + s) % 4294967296) (st + 1)) 2).2) = _
    rw [sums_2 hn hs (by omega) (by omega)]
    show stepsZ _ _ (stepZ _ (sumR (((m + 1 : Nat) : Int) - 1) ((b + s) % 4294967296) (st + 1 + 1)) 3) = _
    rw [sums_3 hn hs (by omega), show ((m + 1 : Nat) : Int) - 1 = (m : Int) by omega]
    by_cases hm : m = 0
    · subst hm
      rw [if_pos (show ((0 : Nat) : Int) = 0 from rfl)]
      show (sumR _ _ _, (4 : Int)) = _
      rw [show (((0 + 1 : Nat) : Int)) = 1 from rfl, Int.one_mul, show st + 1 + 1 + 1 = st + 3 * 1 by omega]
      rfl
    · rw [if_neg (by omega), sums_turns hn hs m _ _ (by omega) (by omega) (by omega) (by omega) (by omega) (by omega)]
      rw [show ((b + s) % 4294967296 + m * s) % 4294967296 = (b + ((m + 1 : Nat) : Int) * s) % 4294967296 by
        rw [show (((m + 1 : Nat) : Int)) * s = m * s + s by rw [show (((m + 1 : Nat) : Int)) = (m : Int) + 1 by omega, Int.add_mul, Int.one_mul]]
        generalize (m : Int) * s = q
        omega, show st + 1 + 1 + 1 + 3 * (m : Int) = st + 3 * ((m + 1 : Nat) : Int) by omega]
theorem sums_run {n : Nat} {s : Int} (hn : 1 ≤ (n : Int) ∧ (n : Int) ≤ 60) (hs : -8192 ≤ s ∧ s ≤ 8191) : runZ (sumsP n s) 1000 = sumE 0 ((n * s) % 4294967296) (2 + 3 * n) := by
  have h0 : stepsZ (sumsP n s) 1 (startZ (sumsP n s)) = (sumR n 0 1, 1) := by
    show stepZ (sumsP n s) (sumR 0 0 0) 0 = _
    rw [sums_0 hn hs (by omega), show (n : Int) % 4294967296 = n by omega]
    rfl
  have h1 : stepsZ (sumsP n s) (1 + 3 * n + 1) (startZ (sumsP n s)) = ({ sumR 0 ((n * s) % 4294967296) (2 + 3 * n) with e := 1 }, 4) := by
    rw [stepsZ_add, stepsZ_add, h0, sums_turns hn hs n 0 1 (by omega) (by omega) (by omega) (by omega) (by omega) (by omega), Int.zero_add]
    show stepZ (sumsP n s) (sumR 0 ((n * s) % 4294967296) (1 + 3 * n)) 4 = _
    rw [sums_4 hn hs (by omega), show 1 + 3 * (n : Int) + 1 = 2 + 3 * n by omega]
  rw [runZ_at (n := 1000) (k := 1 + 3 * n + 1) (sumsP_right n s hn hs) rfl (by omega) (.inr (by rw [h1]; exact (by decide : (1 : Int) ≠ 0))), h1]
  rfl
end Go.Proofs.Ytjbobihiigeapaa.Words

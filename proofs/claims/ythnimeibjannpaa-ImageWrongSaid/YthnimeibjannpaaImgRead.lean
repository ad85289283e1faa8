/- Plain mathematics of chapter 4: bytes that are read as a program are that program's bytes, and the program may be. Nothing here speaks of one program text. -/
import Derived.Test.YthnimeibjannpaaImgBack
namespace Go.Proofs.Ythnimeibjannpaa.Words
open Go.RowKit
set_option linter.unusedVariables false

theorem read_parts {zs : List Int} (h : readE zs = 0) : headOk zs = true ∧ numsOk zs = true ∧ decodedTo zs (numAt zs 4) = true ∧ targetsOk (numAt zs 4) 0 (codeTo zs (numAt zs 4)) = true ∧ readP zs = readG zs := by
  have hp : readP zs = readG zs := by unfold readP; rw [if_pos h]
  unfold readE at h
  cases h1 : headOk zs
  · rw [h1] at h; simp at h
  cases h2 : numsOk zs
  · rw [h1, h2] at h; simp at h
  cases h3 : decodedTo zs (numAt zs 4)
  · rw [h1, h2, h3] at h; simp at h
  cases h4 : targetsOk (numAt zs 4) 0 (codeTo zs (numAt zs 4))
  · rw [h1, h2, h3, h4] at h; simp at h
  exact ⟨rfl, rfl, rfl, rfl, hp⟩
theorem nums_of {zs : List Int} (h : numsOk zs = true) : 1 ≤ numAt zs 4 ∧ numAt zs 4 ≤ 2000 ∧ numAt zs 8 ≤ 65536 ∧ numAt zs 12 ≤ numAt zs 8 ∧ zs.length = 16 + 4 * numAt zs 4 + numAt zs 12 := by
  unfold numsOk at h; exact of_decide_eq_true h
/-- What is read may be. -/
theorem read_right {zs : List Int} (h : readE zs = 0) : (readP zs).right = true := by
  obtain ⟨h1, h2, h3, h4, hp⟩ := read_parts h
  obtain ⟨n1, n2, n3, n4, n5⟩ := nums_of h2
  rw [hp]
  unfold Prog.right Prog.targets
  have hl : (readG zs).code.length = numAt zs 4 := codeTo_len _ _
  rw [Bool.and_eq_true, Bool.and_eq_true, decide_eq_true_iff, hl]
  refine ⟨⟨⟨n1, n2, ?_, ?_, ?_⟩, ?_⟩, h4⟩
  · show (0 : Int) ≤ (numAt zs 8 : Int); omega
  · show (numAt zs 8 : Int) ≤ 65536; omega
  · show (((zs.drop (16 + 4 * numAt zs 4)).length : Nat) : Int) ≤ (numAt zs 8 : Int)
    rw [List.length_drop]; omega
  · show (codeTo zs (numAt zs 4)).all rightB = true
    unfold decodedTo at h3
    rw [List.all_eq_true] at h3 ⊢
    intro i hi
    obtain ⟨j, hj, rfl⟩ := List.mem_map.1 hi
    exact h3 j hj
/-- The four bytes at a place are the word's. -/
theorem quad_wordAt {zs : List Int} (hz : ∀ x ∈ zs, 0 ≤ x ∧ x ≤ 255) {k : Nat} (h : k + 4 ≤ zs.length) : quadZ (wordAt zs k) = (zs.drop k).take 4 := by
  have h0 := byte_at hz k
  have h1 := byte_at hz (k + 1)
  have h2 := byte_at hz (k + 2)
  have h3 := byte_at hz (k + 3)
  have e : wordAt zs k = zs.getD k 0 + 256 * zs.getD (k + 1) 0 + 65536 * zs.getD (k + 2) 0 + 16777216 * zs.getD (k + 3) 0 := by
    unfold wordAt getR; rw [if_pos (by omega)]; simp
  have g : ∀ i, i < 4 → ((zs.drop k).take 4)[i]? = some (zs.getD (k + i) 0) := by
    intro i hi
    rw [List.getElem?_take, if_pos hi, List.getElem?_drop, List.getD_eq_getElem?_getD, List.getElem?_eq_getElem (by omega)]; rfl
  apply List.ext_getElem?
  intro i
  by_cases hi : i < 4
  · rw [g i hi, e]
    have hi' : i = 0 ∨ i = 1 ∨ i = 2 ∨ i = 3 := by omega
    rcases hi' with rfl | rfl | rfl | rfl
    all_goals (simp only [quadZ, List.getElem?_cons_zero, List.getElem?_cons_succ, Option.some.injEq, Nat.add_zero]; omega)
  · rw [List.getElem?_eq_none (by rw [quadZ_len]; omega), List.getElem?_eq_none (by simp; omega)]
theorem drop_step {zs : List Int} (k : Nat) : (zs.drop k).take 4 ++ zs.drop (k + 4) = zs.drop k := by
  rw [← List.drop_drop]; exact List.take_append_drop 4 (zs.drop k)
theorem codeBytes_read {zs : List Int} (hz : ∀ x ∈ zs, 0 ≤ x ∧ x ≤ 255) : ∀ n, 16 + 4 * n ≤ zs.length → codeBytes (codeTo zs n) = (zs.drop 16).take (4 * n) := by
  intro n
  induction n with
  | zero => intro _; simp [codeTo, codeBytes]
  | succ n ih =>
    intro h
    rw [codeTo_succ, codeBytes_append, ih (by omega), codeBytes_cons, show codeBytes [] = [] from rfl, List.append_nil]
    have e : encZ (insAt zs n) = codeWord zs n := enc_fields _
    rw [e]
    unfold codeWord
    rw [quad_wordAt hz (by omega), show 4 * (n + 1) = 4 * n + 4 by omega, List.take_add, List.drop_drop]
/-- What is read are the program's bytes. -/
theorem read_img {zs : List Int} (hz : ∀ x ∈ zs, 0 ≤ x ∧ x ≤ 255) (h : readE zs = 0) : imgZ (readP zs) = zs := by
  obtain ⟨h1, h2, h3, h4, hp⟩ := read_parts h
  obtain ⟨n1, n2, n3, n4, n5⟩ := nums_of h2
  rw [hp]
  have hl : (readG zs).code.length = numAt zs 4 := codeTo_len _ _
  have hd : (readG zs).data.length = numAt zs 12 := by
    show (zs.drop (16 + 4 * numAt zs 4)).length = _
    rw [List.length_drop]; omega
  have hs : (readG zs).size = (numAt zs 8 : Int) := rfl
  unfold imgZ imgHead
  rw [hl, hd, hs, ← numAt_eq hz, ← numAt_eq hz, ← numAt_eq hz, quad_wordAt hz (by omega), quad_wordAt hz (by omega), quad_wordAt hz (by omega)]
  have hc : codeBytes (readG zs).code = (zs.drop 16).take (4 * numAt zs 4) := codeBytes_read hz _ (by omega)
  have hda : (readG zs).data = (zs.drop 16).drop (4 * numAt zs 4) := by
    show zs.drop (16 + 4 * numAt zs 4) = _
    rw [List.drop_drop]
  have h0 : [83, 82, 73, 1] = zs.take 4 := by
    unfold headOk at h1
    rw [Bool.and_eq_true, decide_eq_true_iff, decide_eq_true_iff] at h1
    exact h1.2.symm
  rw [hc, hda, h0]
  simp only [List.append_assoc]
  rw [List.take_append_drop, drop_step 12, drop_step 8, drop_step 4, List.take_append_drop]
end Go.Proofs.Ythnimeibjannpaa.Words

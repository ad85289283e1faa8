/- Plain mathematics of chapter 4: which program bytes are, or why none; and parts of rows. -/
import Derived.Test.YthnimeibjannpaaWordReads
import Derived.Test.YthnimeibjannpaaImgMath
import Derived.Lib.Bytes
namespace Go.Proofs.Ythnimeibjannpaa.Words
open Go.RowKit

theorem Row.front {w : World} {B n c k : Nat} {b off : Nat} {zs : List Int} (h : Row w B 1 (.slice (some ⟨b, off, none⟩) n c) n (zs.map (Value.int .u8))) (hk : k ≤ n) :
    Row w B 1 (.slice (some ⟨b, off, none⟩) k c) k ((zs.take k).map (Value.int .u8)) := by
  have hl : zs.length = n := by simpa using h.len
  obtain ⟨h1, h2⟩ := h.cap
  refine ⟨by simp; omega, _, c, rfl, by omega, h2, (fun h => by cases h), fun hk0 => ?_⟩
  obtain ⟨b', off', e, hb, hc⟩ := h.at_ (by omega)
  injection e with e
  injection e with e1 e2
  subst e1 e2
  refine ⟨_, _, rfl, hb, fun j u hu => hc j u ?_⟩
  rw [List.map_take, List.getElem?_take] at hu
  split at hu
  · exact hu
  · cases hu
theorem Row.back {w : World} {B n c k : Nat} {b off : Nat} {zs : List Int} (h : Row w B 1 (.slice (some ⟨b, off, none⟩) n c) n (zs.map (Value.int .u8))) (hk : k ≤ n) :
    Row w B 1 (.slice (some ⟨b, off + k, none⟩) (n - k) (c - k)) (n - k) ((zs.drop k).map (Value.int .u8)) := by
  have hl : zs.length = n := by simpa using h.len
  obtain ⟨h1, h2⟩ := h.cap
  refine ⟨by simp; omega, _, c - k, rfl, by omega, by omega, (fun h => by cases h), fun hk0 => ?_⟩
  obtain ⟨b', off', e, hb, hc⟩ := h.at_ (by omega)
  injection e with e
  injection e with e1 e2
  subst e1 e2
  refine ⟨_, _, rfl, hb, fun j u hu => ?_⟩
  have := hc (k + j) u (by rw [← hu, List.getElem?_map, List.getElem?_map, List.getElem?_drop])
  rwa [← Nat.add_assoc] at this

/-- The word at a place. -/
def wordAt (zs : List Int) (k : Nat) : Int := (getR zs k).1
theorem getR_yes {zs : List Int} {k : Nat} (h : k + 4 ≤ zs.length) : getR zs k = (wordAt zs k, true) := by
  unfold wordAt getR; rw [if_pos (by omega)]
theorem wordAt_range {zs : List Int} (hz : ∀ x ∈ zs, 0 ≤ x ∧ x ≤ 255) (k : Nat) : 0 ≤ wordAt zs k ∧ wordAt zs k ≤ 4294967295 := by
  unfold wordAt getR
  split
  · have h0 := byte_at hz (k : Int).toNat
    have h1 := byte_at hz ((k : Int).toNat + 1)
    have h2 := byte_at hz ((k : Int).toNat + 2)
    have h3 := byte_at hz ((k : Int).toNat + 3)
    simp only; omega
  · simp
def numAt (zs : List Int) (k : Nat) : Nat := (wordAt zs k).toNat
theorem numAt_eq {zs : List Int} (hz : ∀ x ∈ zs, 0 ≤ x ∧ x ≤ 255) (k : Nat) : wordAt zs k = (numAt zs k : Int) := by
  have := wordAt_range hz k
  unfold numAt; omega
def codeWord (zs : List Int) (j : Nat) : Int := wordAt zs (16 + 4 * j)
def insAt (zs : List Int) (j : Nat) : Ins := fieldsZ (codeWord zs j)
def codeTo (zs : List Int) (j : Nat) : List Ins := (List.range j).map (insAt zs)
theorem codeTo_len (zs : List Int) (j : Nat) : (codeTo zs j).length = j := by simp [codeTo]
theorem codeTo_succ (zs : List Int) (j : Nat) : codeTo zs (j + 1) = codeTo zs j ++ [insAt zs j] := by simp [codeTo, List.range_succ]
def decodedTo (zs : List Int) (j : Nat) : Bool := (List.range j).all fun k => decB (codeWord zs k)
theorem decodedTo_succ (zs : List Int) (j : Nat) : decodedTo zs (j + 1) = (decodedTo zs j && decB (codeWord zs j)) := by simp [decodedTo, List.range_succ]
theorem decoded_down {zs : List Int} {j n : Nat} (h : decB (codeWord zs j) = false) (hj : j < n) : decodedTo zs n = false := by
  unfold decodedTo
  rw [List.all_eq_false]
  exact ⟨j, List.mem_range.2 hj, by simp [h]⟩
def headOk (zs : List Int) : Bool := decide (16 ≤ zs.length) && decide (zs.take 4 = [83, 82, 73, 1])
def numsOk (zs : List Int) : Bool := decide (1 ≤ numAt zs 4 ∧ numAt zs 4 ≤ 2000 ∧ numAt zs 8 ≤ 65536 ∧ numAt zs 12 ≤ numAt zs 8 ∧ zs.length = 16 + 4 * numAt zs 4 + numAt zs 12)
/-- Which error. -/
def readE (zs : List Int) : Int :=
  if headOk zs = false then 2 else if numsOk zs = false then 2 else if decodedTo zs (numAt zs 4) = false then 3 else if targetsOk (numAt zs 4) 0 (codeTo zs (numAt zs 4)) = false then 4 else 0
def readG (zs : List Int) : Prog := ⟨codeTo zs (numAt zs 4), numAt zs 8, zs.drop (16 + 4 * numAt zs 4)⟩
/-- Which program. -/
def readP (zs : List Int) : Prog := if readE zs = 0 then readG zs else ⟨[], 0, []⟩
theorem read_head {zs : List Int} (h : headOk zs = false) : readE zs = 2 ∧ readP zs = ⟨[], 0, []⟩ := by
  have e : readE zs = 2 := by unfold readE; rw [if_pos h]
  exact ⟨e, by unfold readP; rw [e]; rfl⟩
theorem read_nums {zs : List Int} (h : numsOk zs = false) : readE zs = 2 ∧ readP zs = ⟨[], 0, []⟩ := by
  have e : readE zs = 2 := by unfold readE; rw [if_pos h]; split <;> rfl
  exact ⟨e, by unfold readP; rw [e]; rfl⟩
theorem read_code {zs : List Int} (h1 : headOk zs = true) (h2 : numsOk zs = true) (h : decodedTo zs (numAt zs 4) = false) : readE zs = 3 ∧ readP zs = ⟨[], 0, []⟩ := by
  have e : readE zs = 3 := by unfold readE; rw [if_neg (by simp [h1]), if_neg (by simp [h2]), if_pos h]
  exact ⟨e, by unfold readP; rw [e]; rfl⟩
theorem read_targets {zs : List Int} (h1 : headOk zs = true) (h2 : numsOk zs = true) (h3 : decodedTo zs (numAt zs 4) = true) (h : targetsOk (numAt zs 4) 0 (codeTo zs (numAt zs 4)) = false) : readE zs = 4 ∧ readP zs = ⟨[], 0, []⟩ := by
  have e : readE zs = 4 := by unfold readE; rw [if_neg (by simp [h1]), if_neg (by simp [h2]), if_neg (by simp [h3]), if_pos h]
  exact ⟨e, by unfold readP; rw [e]; rfl⟩
theorem read_yes {zs : List Int} (h1 : headOk zs = true) (h2 : numsOk zs = true) (h3 : decodedTo zs (numAt zs 4) = true) (h : targetsOk (numAt zs 4) 0 (codeTo zs (numAt zs 4)) = true) : readE zs = 0 ∧ readP zs = readG zs := by
  have e : readE zs = 0 := by unfold readE; rw [if_neg (by simp [h1]), if_neg (by simp [h2]), if_neg (by simp [h3]), if_neg (by simp [h])]
  exact ⟨e, by unfold readP; rw [if_pos e]⟩
end Go.Proofs.Ythnimeibjannpaa.Words

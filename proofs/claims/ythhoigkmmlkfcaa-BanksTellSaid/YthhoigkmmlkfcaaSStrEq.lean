/- Two strings of bytes compared. Nothing here speaks of one program text. -/
import Derived.Test.YthhoigkmmlkfcaaG00
import Derived.Lib.Bytes
namespace Go.Proofs.Ythhoigkmmlkfcaa.Words
set_option maxRecDepth 100000
open Go.RowKit

theorem str_inj : ∀ {xs ys : List Int}, (∀ b ∈ xs, 0 ≤ b ∧ b ≤ 255) → (∀ b ∈ ys, 0 ≤ b ∧ b ≤ 255) → strOfNums xs = strOfNums ys → xs = ys := by
  intro xs ys hx hy h
  have h1 : (xs.map fun n => UInt8.ofNat n.toNat) = (ys.map fun n => UInt8.ofNat n.toNat) := by
    rw [← strOfNums_data, ← strOfNums_data, h]
  clear h
  induction xs generalizing ys with
  | nil => cases ys with
    | nil => rfl
    | cons b ys => simp at h1
  | cons a xs ih => cases ys with
    | nil => simp at h1
    | cons b ys =>
      simp only [List.map_cons, List.cons.injEq] at h1
      have ha := hx a (by simp)
      have hb := hy b (by simp)
      have e : a.toNat = b.toNat := by
        have := congrArg UInt8.toNat h1.1
        simp only [UInt8.toNat_ofNat'] at this
        omega
      rw [show a = b by omega, ih (fun b hb => hx b (by simp [hb])) (fun b hb => hy b (by simp [hb])) h1.2]
theorem str_eq {xs ys : List Int} (hx : ∀ b ∈ xs, 0 ≤ b ∧ b ≤ 255) (hy : ∀ b ∈ ys, 0 ≤ b ∧ b ≤ 255) : ((strOfNums xs).toList == (strOfNums ys).toList) = decide (xs = ys) := by
  by_cases h : xs = ys
  · subst h; simp
  · rw [decide_eq_false h, beq_eq_false_iff_ne]
    intro g
    rw [Lib.strOfNums_toList, Lib.strOfNums_toList] at g
    apply h
    apply str_inj hx hy
    have : (strOfNums xs).data.toList = (strOfNums ys).data.toList := by rw [strOfNums_data, strOfNums_data]; exact g
    have e : ∀ s : ByteArray, s = ⟨s.data⟩ := fun _ => rfl
    rw [e (strOfNums xs), e (strOfNums ys)]
    congr 1
    exact Array.toList_inj.1 this
end Go.Proofs.Ythhoigkmmlkfcaa.Words

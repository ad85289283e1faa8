/- What both Gets answer of a row of bytes: 'getR'. Contracts of word.Get and of the document's own Get at whatever place. -/
import Derived.Test.YthnimeibjannpaaWordGets
import Derived.Test.YthnimeibjannpaaRowLaws
namespace Go.Proofs.Ythnimeibjannpaa.Words
open Go.RowKit

/-- The word from a place on, or that it is not there. -/
def getR (zs : List Int) (at_ : Int) : Int × Bool :=
  if 0 ≤ at_ ∧ at_ + 4 ≤ zs.length then (zs.getD at_.toNat 0 + 256 * zs.getD (at_.toNat + 1) 0 + 65536 * zs.getD (at_.toNat + 2) 0 + 16777216 * zs.getD (at_.toNat + 3) 0, true) else (0, false)

theorem byte_at {zs : List Int} (hz : ∀ x ∈ zs, 0 ≤ x ∧ x ≤ 255) (j : Nat) : 0 ≤ zs.getD j 0 ∧ zs.getD j 0 ≤ 255 := by
  rw [List.getD_eq_getElem?_getD]
  rcases h : zs[j]? with _ | x
  · simp
  · simpa using hz x (List.mem_of_getElem? h)

theorem cell_row {w : World} {b off : Nat} {zs : List Int} {k : IntKind} (hc : ∀ j u, (zs.map (Value.int k))[j]? = some u → w.cell? ⟨b, off + j, none⟩ = some u) (j : Nat) (hj : j < zs.length) :
    w.cell? ⟨b, off + j, none⟩ = some (.int k (zs.getD j 0)) := by
  refine hc j _ ?_
  rw [List.getElem?_map, List.getElem?_eq_getElem hj, List.getD_eq_getElem?_getD, List.getElem?_eq_getElem hj]
  rfl

theorem get_row {w : World} {B : Nat} {v : Value} {n : Nat} {zs : List Int} (h : Row w B 1 v n (zs.map (Value.int .u8))) (hz : ∀ x ∈ zs, 0 ≤ x ∧ x ≤ 255) (at_ : Int) :
    Calls Try.prog 40 #[v, .int .i64 at_] w fun e w' => e = .returned (.tuple #[.int .u32 (getR zs at_).1, .bool (getR zs at_).2]) ∧ ∃ k, w' = w.drewN k := by
  obtain ⟨A, c, rfl⟩ := h.form
  have hcap := h.cap
  have hl : zs.length = n := by simpa using h.len
  by_cases hin : 0 ≤ at_ ∧ at_ + 4 ≤ zs.length
  · obtain ⟨j, rfl⟩ := Int.eq_ofNat_of_zero_le hin.1
    obtain ⟨b, off, rfl, _, hc⟩ := h.at_ (by omega)
    have e : getR zs (j : Int) = (zs.getD j 0 + 256 * zs.getD (j + 1) 0 + 65536 * zs.getD (j + 2) 0 + 16777216 * zs.getD (j + 3) 0, true) := by
      unfold getR; rw [if_pos hin]; simp
    rw [e]
    exact get_yes b off n c j _ _ _ _ w hcap.1 hcap.2 (by omega) (byte_at hz _) (byte_at hz _) (byte_at hz _) (byte_at hz _)
      (cell_row hc j (by omega)) (cell_row hc (j + 1) (by omega)) (cell_row hc (j + 2) (by omega)) (cell_row hc (j + 3) (by omega))
  · have e : getR zs at_ = (0, false) := by unfold getR; rw [if_neg hin]
    rw [e]
    exact (get_no A n c at_ w (by omega) (by omega)).mono fun _ _ ⟨h1, h2⟩ => ⟨h1, 0, h2.symm⟩

theorem refGet_row {w : World} {B : Nat} {v : Value} {n : Nat} {zs : List Int} (h : Row w B 1 v n (zs.map (Value.int .u8))) (hz : ∀ x ∈ zs, 0 ≤ x ∧ x ≤ 255) (at_ : Int) :
    Calls Try.prog 24 #[v, .int .i64 at_] w fun e w' => e = .returned (.tuple #[.int .u32 (getR zs at_).1, .bool (getR zs at_).2]) ∧ ∃ k, w' = w.drewN k := by
  obtain ⟨A, c, rfl⟩ := h.form
  have hcap := h.cap
  have hl : zs.length = n := by simpa using h.len
  by_cases hin : 0 ≤ at_ ∧ at_ + 4 ≤ zs.length
  · obtain ⟨j, rfl⟩ := Int.eq_ofNat_of_zero_le hin.1
    obtain ⟨b, off, rfl, _, hc⟩ := h.at_ (by omega)
    have e : getR zs (j : Int) = (zs.getD j 0 + 256 * zs.getD (j + 1) 0 + 65536 * zs.getD (j + 2) 0 + 16777216 * zs.getD (j + 3) 0, true) := by
      unfold getR; rw [if_pos hin]; simp
    rw [e]
    exact refGet_yes b off n c j _ _ _ _ w hcap.1 hcap.2 (by omega) (byte_at hz _) (byte_at hz _) (byte_at hz _) (byte_at hz _)
      (cell_row hc j (by omega)) (cell_row hc (j + 1) (by omega)) (cell_row hc (j + 2) (by omega)) (cell_row hc (j + 3) (by omega))
  · have e : getR zs at_ = (0, false) := by unfold getR; rw [if_neg hin]
    rw [e]
    exact (refGet_no A n c at_ w (by omega) (by omega)).mono fun _ _ ⟨h1, h2⟩ => ⟨h1, 0, h2.symm⟩
end Go.Proofs.Ythnimeibjannpaa.Words

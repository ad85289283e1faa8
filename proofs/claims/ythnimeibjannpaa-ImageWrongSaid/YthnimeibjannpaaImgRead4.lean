/- Contract of package image's Read, whatever the bytes. -/
import Derived.Test.YthnimeibjannpaaImgRead3
namespace Go.Proofs.Ythnimeibjannpaa.Words
open Go.RowKit
set_option linter.unusedVariables false

theorem readE_no {zs : List Int} (h : (headOk zs && numsOk zs) = false) : readE zs = 2 ∧ readP zs = ⟨[], 0, []⟩ := by
  cases hh : headOk zs
  · exact read_head hh
  · rw [hh, Bool.true_and] at h
    exact read_nums h
theorem imgRead_own (A : Option Addr) (c : Nat) (zs : List Int) (w : World) (h : Row w w.heap.size 1 (.slice A zs.length c) zs.length (zs.map (Value.int .u8))) (hz : ∀ x ∈ zs, 0 ≤ x ∧ x ≤ 255) :
    Calls Try.prog 11 #[.slice A zs.length c] w fun e w' => ∃ vc vd, e = .returned (.tuple #[.agg #[vc, .int .i64 (readP zs).size, vd], .int .i64 (readE zs)]) ∧ OwnP w' w.heap.size vc vd (readP zs) ∧ Below w.heap.size w w' := by
  cases hh : (headOk zs && numsOk zs)
  · obtain ⟨e1, e2⟩ := readE_no hh
    rw [e1, e2]
    exact (imgRead_nums A c zs w h hz hh).mono fun e w' ⟨h1, h2⟩ => ⟨_, _, h1, ⟨World.ownsRow_nil _ _ _ _, World.ownsRow_nil _ _ _ _⟩, h2⟩
  · have hl : zs.length ≠ 0 := by
      have := (head_parts (Bool.and_eq_true_iff.1 hh).1).1; omega
    obtain ⟨b, off, rfl, _, _⟩ := h.at_ hl
    exact imgRead_code b off c zs w h hz hh
theorem imgRead_any (A : Option Addr) (c : Nat) (zs : List Int) (w : World) (h : Row w w.heap.size 1 (.slice A zs.length c) zs.length (zs.map (Value.int .u8))) (hz : ∀ x ∈ zs, 0 ≤ x ∧ x ≤ 255) :
    Calls Try.prog 11 #[.slice A zs.length c] w fun e w' => ∃ vc vd, e = .returned (.tuple #[.agg #[vc, .int .i64 (readP zs).size, vd], .int .i64 (readE zs)]) ∧ ProgV w' w'.heap.size vc vd (readP zs) ∧ Below w.heap.size w w' :=
  (imgRead_own A c zs w h hz).mono fun e w' ⟨vc, vd, h1, h2, h3⟩ => ⟨vc, vd, h1, h2.prog, h3⟩
end Go.Proofs.Ythnimeibjannpaa.Words

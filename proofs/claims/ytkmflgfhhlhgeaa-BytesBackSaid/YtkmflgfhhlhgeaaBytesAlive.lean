/- The law's own helper 'alive' of chapter 5. -/
import Derived.Test.YtkmflgfhhlhgeaaBytesLoad
import Derived.Test.YtkmflgfhhlhgeaaBytesStore
namespace Go.Proofs.Ytkmflgfhhlhgeaa.Words
open Go.RowKit
set_option linter.unusedVariables false

theorem storeZ_bytes {zs : List Int} {size addr v : Int} (hz : ∀ x ∈ zs, 0 ≤ x ∧ x ≤ 255) : ∀ x ∈ storeZ zs size addr v, 0 ≤ x ∧ x ≤ 255 := by
  have one : ∀ (l : List Int) (k : Nat) (y : Int), (∀ x ∈ l, 0 ≤ x ∧ x ≤ 255) → (0 ≤ y ∧ y ≤ 255) → ∀ x ∈ l.set k y, 0 ≤ x ∧ x ≤ 255 := by
    intro l k y hl hy x hx
    rcases List.mem_or_eq_of_mem_set hx with h | rfl
    · exact hl x h
    · exact hy
  unfold storeZ
  split
  · split
    · exact one _ _ _ hz (by omega)
    · split
      · exact one _ _ _ (one _ _ _ hz (by omega)) (by omega)
      · exact one _ _ _ (one _ _ _ (one _ _ _ (one _ _ _ hz (by omega)) (by omega)) (by omega)) (by omega)
  · exact hz

set_option maxHeartbeats 1000000 in
theorem bytesAlive_any (w : World) :
    Calls Try.prog 9 #[] w fun e w' => e = .returned (.bool true) ∧ Below w.heap.size w w' := by
  have k0 := Kept.refl w
  go_enter Try.func9, Try.ntmps9
  go_wp2_with fail
  have own := World.ownsRow_lit (base := 0) (e := 5) (size := 1) w #[.int .u8 0, .int .u8 0, .int .u8 0, .int .u8 0] 4 (Nat.zero_le _) (by unfold maxLen; omega) rfl
  have row := Row.of_own own
  have k1 := k0.alloc (.cells #[.int .u8 0, .int .u8 0, .int .u8 0, .int .u8 0] 5)
  generalize w.alloc (.cells #[.int .u8 0, .int .u8 0, .int .u8 0, .int .u8 0] 5) = W1 at *
  refine (store_any _ _ _ [0, 0, 0, 0] 511 _ 1 2 row (by omega) (by omega) (by omega)).mono ?_; rintro e w2 ⟨v2, rfl, own2, hb2⟩
  rw [show storeZ [0, 0, 0, 0] 1 2 511 = [0, 0, 255, 0] by decide] at own2
  have k2 := k1.to hb2
  obtain ⟨g, cap, rfl, hg, hgs⟩ := own_form own2 (by omega)
  have row2 := Row.of_own own2
  have hcap := row2.cap
  have d2 : w2.cell? ⟨g, 2, none⟩ = some (.int .u8 255) := own2.cellAt 2 (by simp)
  clear own row hb2
  go_wp2_with fail
  refine (size_any _ _).mono ?_; rintro e w3 ⟨rfl, rfl⟩
  rw [show sizeZ 26 = 4 from rfl]
  go_wp2_with fail
  refine (load_any _ _ _ _ [0, 0, 255, 0] 29 2 _ row2 (Nat.le_refl _) (by simp) (by omega) (by omega)).mono ?_; rintro e w3 ⟨rfl, hb3⟩
  rw [show loadZ [0, 0, 255, 0] 29 2 = 4294967295 by decide]
  have k3 := k2.to hb3
  clear hb3
  go_wp2_with fail
  refine (overlap_any 0 4 3 1 _ (by omega) (by omega) (by omega) (by omega)).mono ?_; rintro e w4 ⟨rfl, rfl⟩
  rw [show overlapB 0 4 3 1 = true by decide]
  go_wp2_with fail
  refine (check_any 4 2 8 _ (by omega) (by omega) (by omega) (by omega)).mono ?_; rintro e w4 ⟨rfl, rfl⟩
  rw [show checkZ 4 2 8 = 1 by decide]
  go_wp2_with fail
  go_ret
  exact ⟨rfl, k3⟩
end Go.Proofs.Ytkmflgfhhlhgeaa.Words

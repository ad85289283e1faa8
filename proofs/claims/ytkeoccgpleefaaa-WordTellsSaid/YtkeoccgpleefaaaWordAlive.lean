/- The law's own example of chapter 1 holds: a contract of 'alive': it answers true and leaves what was there as it was. -/
import Derived.Test.YtkeoccgpleefaaaWordGets
namespace Go.Proofs.Ytkeoccgpleefaaa.Words
open Go.RowKit

theorem get_at (b off n c j : Nat) (at_ : Int) (hat : at_ = (j : Int)) (x0 x1 x2 x3 : Int) (w : World) (hn : n ≤ c) (hc : c ≤ 9223372036854775807) (hj : j + 4 ≤ n)
    (b0 : 0 ≤ x0 ∧ x0 ≤ 255) (b1 : 0 ≤ x1 ∧ x1 ≤ 255) (b2 : 0 ≤ x2 ∧ x2 ≤ 255) (b3 : 0 ≤ x3 ∧ x3 ≤ 255)
    (c0 : w.cell? ⟨b, off + j, none⟩ = some (.int .u8 x0)) (c1 : w.cell? ⟨b, off + j + 1, none⟩ = some (.int .u8 x1))
    (c2 : w.cell? ⟨b, off + j + 2, none⟩ = some (.int .u8 x2)) (c3 : w.cell? ⟨b, off + j + 3, none⟩ = some (.int .u8 x3)) :
    Calls Try.prog 8 #[.slice (some ⟨b, off, none⟩) n c, .int .i64 at_] w fun e w' => e = .returned (.tuple #[.int .u32 (x0 + 256 * x1 + 65536 * x2 + 16777216 * x3), .bool true]) ∧ ∃ k, w' = w.drewN k := by
  subst hat
  exact get_yes b off n c j x0 x1 x2 x3 w hn hc hj b0 b1 b2 b3 c0 c1 c2 c3

set_option maxHeartbeats 400000 in
theorem alive_any (w : World) :
    Calls Try.prog 7 #[] w fun e w' => e = .returned (.bool true) ∧ Below w.heap.size w w' := by
  have hcell : ∀ j u, (#[Value.int IntKind.u8 1, Value.int IntKind.u8 2, Value.int IntKind.u8 0, Value.int IntKind.u8 0] : Array Value)[j]? = some u →
      (w.alloc (Obj.cells #[Value.int IntKind.u8 1, Value.int IntKind.u8 2, Value.int IntKind.u8 0, Value.int IntKind.u8 0] 5)).cell? ⟨w.heap.size, j, none⟩ = some u := by
    intro j u hu
    rw [World.cell?_alloc_new]
    exact hu
  have H := Lib.hid hcell
  clear hcell
  have hs : sgn 4294967295 = -1 := by decide
  go_enter Try.func7, Try.ntmps7
  go_wp2_with fail
  refine (get_at w.heap.size 0 4 4 0 0 rfl 1 2 0 0 _ (by omega) (by omega) (by omega) (by omega) (by omega) (by omega) (by omega) (H.out 0 _ rfl) (H.out 1 _ rfl) (H.out 2 _ rfl) (H.out 3 _ rfl)).mono ?_
  rintro e w1 ⟨rfl, k, rfl⟩
  go_wp2_with fail
  refine (int_any _ _ (by omega) (by omega)).mono ?_
  rintro e w1 ⟨rfl, rfl⟩
  go_wp2_with fail
  refine (of_any _ _).mono ?_
  rintro e w1 ⟨rfl, rfl⟩
  go_wp2_with fail
  go_ret
  exact ⟨rfl, Below.drewN_ ((Below.refl _ _).alloc (Nat.le_refl _) _) _⟩
end Go.Proofs.Ytkeoccgpleefaaa.Words

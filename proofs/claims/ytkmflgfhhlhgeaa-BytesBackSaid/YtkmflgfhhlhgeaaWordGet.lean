/- Contract of word.Get: which word the four bytes from a place on are, or that they are not all there. -/
import Derived.Test.YtkmflgfhhlhgeaaRows
import Derived.Test.YtkmflgfhhlhgeaaWordJoin
namespace Go.Proofs.Ytkmflgfhhlhgeaa.Words
open Go.RowKit

theorem ret_word {a b : Int} {t : Bool} (h : a = b) : Ending.returned (.tuple #[.int .u32 a, .bool t]) = .returned (.tuple #[.int .u32 b, .bool t]) := by rw [h]

set_option maxHeartbeats 400000 in
theorem get_no (A : Option Addr) (n c : Nat) (at_ : Int) (w : World) (hn : n ≤ 9223372036854775807) (h : at_ < 0 ∨ (n : Int) < at_ + 4) :
    Calls Try.prog 22 #[.slice A n c, .int .i64 at_] w fun e w' => e = .returned (.tuple #[.int .u32 0, .bool false]) ∧ w = w' := by
  by_cases h0 : at_ < 0
  · go_enter Try.func22, Try.ntmps22
    go_wp2
    go_ret2
    exact ⟨rfl, rfl⟩
  · have h1 : (n : Int) - 4 < at_ := by omega
    go_enter Try.func22, Try.ntmps22
    go_wp2
    go_ret2
    exact ⟨rfl, rfl⟩

set_option maxHeartbeats 400000 in
theorem get_yes (b off n c j : Nat) (x0 x1 x2 x3 : Int) (w : World) (hn : n ≤ c) (hc : c ≤ 9223372036854775807) (hj : j + 4 ≤ n)
    (b0 : 0 ≤ x0 ∧ x0 ≤ 255) (b1 : 0 ≤ x1 ∧ x1 ≤ 255) (b2 : 0 ≤ x2 ∧ x2 ≤ 255) (b3 : 0 ≤ x3 ∧ x3 ≤ 255)
    (c0 : w.cell? ⟨b, off + j, none⟩ = some (.int .u8 x0)) (c1 : w.cell? ⟨b, off + j + 1, none⟩ = some (.int .u8 x1))
    (c2 : w.cell? ⟨b, off + j + 2, none⟩ = some (.int .u8 x2)) (c3 : w.cell? ⟨b, off + j + 3, none⟩ = some (.int .u8 x3)) :
    Calls Try.prog 22 #[.slice (some ⟨b, off, none⟩) n c, .int .i64 j] w fun e w' => e = .returned (.tuple #[.int .u32 (x0 + 256 * x1 + 65536 * x2 + 16777216 * x3), .bool true]) ∧ ∃ k, w' = w.drewN k := by
  have h0 : (0 : Int) ≤ j := by omega
  have h1 : (j : Int) ≤ (n : Int) - 4 := by omega
  go_enter Try.func22, Try.ntmps22
  go_wp2
  go_quiet (fail)
  go_wp2
  go_ret2
  exact ⟨ret_word (join4 x0 x1 x2 x3 b0 b1 b2 b3), _, rfl⟩
end Go.Proofs.Ytkmflgfhhlhgeaa.Words

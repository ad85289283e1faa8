/- Contract of word.Put: the bytes handed in, and behind them the word's four bytes, the lowest first, in memory of the call's own. Condition: with four bytes more it is no longer than 2^47. -/
import Derived.Test.YtkmflgfhhlhgeaaInfo8
import Derived.Test.YtkmflgfhhlhgeaaRowLaws
namespace Go.Proofs.Ytkmflgfhhlhgeaa.Words
open Go.RowKit


/-- The four bytes of a word. -/
def quad (x : Int) : List Value := [.int .u8 (x % 256), .int .u8 (x / 256 % 256), .int .u8 (x / 65536 % 256), .int .u8 (x / 16777216)]
theorem quad_one (x : Int) : ∀ u ∈ quad x, u.oneCell' = true := by
  intro u hu
  simp only [quad, List.mem_cons, List.not_mem_nil, or_false] at hu
  rcases hu with rfl | rfl | rfl | rfl <;> rfl
theorem quad_len (x : Int) : (quad x).length = 4 := rfl

theorem put_form {w : World} {A : Option Addr} {n c : Nat} {xs : List Value} (x : Int) (h0 : 0 ≤ x) (h1 : x < 4294967296)
    (hr : Row w w.heap.size 1 (.slice A n c) n xs) (h1c : ∀ u ∈ xs, u.oneCell' = true) (hb : n + 4 ≤ 140737488355328) :
    Calls Try.prog 27 #[.slice A n c, .int .u32 x] w fun e w' =>
      e = .returned (.slice (some ⟨w.heap.size, 0, none⟩) (n + 4) (n + 4)) ∧ w'.ownsRow w.heap.size 5 1 (.slice (some ⟨w.heap.size, 0, none⟩) (n + 4) (n + 4)) (n + 4) (xs ++ quad x) ∧ Below w.heap.size w w' := by
  obtain ⟨i0, hi, hz0, hz1, hz2⟩ := info_parts info_u8
  have hl := hr.len
  have hcap := hr.cap
  have hby : i0.bytes * (n + 4) ≤ 281474976710656 := by rw [hz2]; omega
  have HZ := Lib.hid hz2
  clear hz2
  go_enter Try.func27, Try.ntmps27
  go_wp2_with (first
    | (at_make; refine wpList_make_own _ rfl _ _ 22 rfl w.heap.size 5 i0 (.int .u8 0) 1 Try.underlying22 hi hz0 hz1 _ _ _ (n + 4) rfl rfl (by omega) hby (by unfold maxLen; omega) (Nat.le_refl _) ?_; intro w1 hown1 hg1; have hb1 : Below w.heap.size w w1 := (Below.refl _ _).grown hg1 (Nat.le_refl _) (fun _ h => by cases h))
    | (at_builtin; refine wpList_append_fits_any _ rfl (.tmp 10) (.tmp 11) 22 rfl w.heap.size 5 i0 1 Try.underlying22 hi hz1 w.heap.size 0 (n + 4) [] rfl hown1 A n c xs rfl hl hr.bare (hr.below hb1).cells h1c (by omega) ?_; intro w2 hown2 hg2; simp only [Nat.zero_add, List.nil_append] at hown2)
    | (at_builtin; refine wpList_append_fits _ rfl (.tmp 13) (.tmp 25) 22 rfl w.heap.size 5 i0 1 Try.underlying22 hi hz1 w.heap.size n (n + 4) xs rfl (hown2.alloc _) ⟨w2.heap.size, 0, none⟩ 4 4 (quad x) rfl (quad_len x) (new_cells w2 _ _ _ rfl) (quad_one x) (by omega) ?_; intro w3 hown3 hg3))
  go_ret
  have hb2 := hb1.grown hg2 hb1.size own_ge'
  exact ⟨rfl, hown3, (hb2.alloc hb2.size _).grown hg3 (by have := hb2.size; simp; omega) own_ge'⟩

/-- The bytes, and behind them the word's, in memory of the call's own. -/
theorem put_any {w : World} {v : Value} {n : Nat} {xs : List Value} (x : Int) (h0 : 0 ≤ x) (h1 : x < 4294967296)
    (hr : Row w w.heap.size 1 v n xs) (h1c : ∀ u ∈ xs, u.oneCell' = true) (hb : n + 4 ≤ 140737488355328) :
    Calls Try.prog 27 #[v, .int .u32 x] w fun e w' =>
      e = .returned (.slice (some ⟨w.heap.size, 0, none⟩) (n + 4) (n + 4)) ∧ w'.ownsRow w.heap.size 5 1 (.slice (some ⟨w.heap.size, 0, none⟩) (n + 4) (n + 4)) (n + 4) (xs ++ quad x) ∧ Below w.heap.size w w' := by
  obtain ⟨A, c, rfl⟩ := hr.form
  exact put_form x h0 h1 hr h1c hb
end Go.Proofs.Ytkmflgfhhlhgeaa.Words

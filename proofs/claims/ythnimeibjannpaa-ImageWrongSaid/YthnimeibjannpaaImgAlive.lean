/- The law's own helper 'alive' of chapter 4. -/
import Derived.Test.YthnimeibjannpaaImgRead4
import Derived.Test.YthnimeibjannpaaImgBytes
import Derived.Test.YthnimeibjannpaaImgBack
import Derived.Test.YthnimeibjannpaaImgRead
import Derived.Test.YthnimeibjannpaaImageHelp
namespace Go.Proofs.Ythnimeibjannpaa.Words
open Go.RowKit
set_option linter.unusedVariables false

theorem quadZ_bytes {x : Int} (h0 : 0 ≤ x) (h1 : x ≤ 4294967295) : ∀ b ∈ quadZ x, 0 ≤ b ∧ b ≤ 255 := by
  intro b hb
  simp only [quadZ, List.mem_cons, List.not_mem_nil, or_false] at hb
  rcases hb with rfl | rfl | rfl | rfl <;> omega
theorem imgZ_bytes {p : Prog} (hr : p.right = true) (hd : ∀ b ∈ p.data, 0 ≤ b ∧ b ≤ 255) : ∀ b ∈ imgZ p, 0 ≤ b ∧ b ≤ 255 := by
  obtain ⟨⟨n1, n2, n3, n4, n5⟩, hall, _⟩ := right_parts hr
  intro b hb
  unfold imgZ imgHead at hb
  simp only [List.mem_append] at hb
  rcases hb with ((((hb | hb) | hb) | hb) | hb) | hb
  · simp at hb; omega
  · exact quadZ_bytes (by omega) (by omega) b hb
  · exact quadZ_bytes (by omega) (by omega) b hb
  · exact quadZ_bytes (by omega) (by omega) b hb
  · unfold codeBytes at hb
    rw [List.mem_flatMap] at hb
    obtain ⟨i, hi, hb⟩ := hb
    rw [List.all_eq_true] at hall
    have := enc_range (hall i hi)
    exact quadZ_bytes (by omega) (by omega) b hb
  · exact hd b hb
theorem imgOf_bytes {p : Prog} (hd : ∀ b ∈ p.data, 0 ≤ b ∧ b ≤ 255) : ∀ b ∈ imgOf p, 0 ≤ b ∧ b ≤ 255 := by
  cases hr : p.right
  · rw [imgOf_no hr]; intro b hb; cases hb
  · rw [imgOf_yes hr]; exact imgZ_bytes hr hd

def haltP : Prog := ⟨[⟨41, 0, 0, 0, 0⟩], 4, []⟩
theorem haltP_right : haltP.right = true := by decide
theorem read_nil : readE [] = 2 ∧ readP [] = ⟨[], 0, []⟩ := read_head rfl

set_option maxHeartbeats 1000000 in
theorem imgAlive_any (w : World) :
    Calls Try.prog 9 #[] w fun e w' => e = .returned (.bool true) ∧ Below w.heap.size w w' := by
  have k0 := Kept.refl w
  go_enter Try.func9, Try.ntmps9
  go_wp2_with fail
  refine (imgRead_any none 0 [] _ (Row.nil _ _ _) (by simp)).mono ?_; rintro e w1 ⟨vc, vd, rfl, hP, hb1⟩
  rw [read_nil.1, read_nil.2]
  rw [read_nil.2] at hP
  have k1 := k0.to hb1
  obtain ⟨A1, c1, rfl⟩ := hP.code.form
  obtain ⟨A2, c2, rfl⟩ := hP.data.form
  clear hP hb1
  go_wp2_with fail
  have own := World.ownsRow_lit (base := 0) (e := 41) (size := 5) (w1.alloc (.cells #[.slice A1 0 c1, .int .i64 0, .slice A2 0 c2] 25)) #[.int .i64 41, .int .i64 0, .int .i64 0, .int .i64 0, .int .i64 0] 1 (Nat.zero_le _) (by unfold maxLen; omega) rfl
  have hS : (w1.alloc (.cells #[.slice A1 0 c1, .int .i64 0, .slice A2 0 c2] 25)).heap.size = w1.heap.size + 1 := by simp
  rw [hS] at own
  have hP : ProgV ((w1.alloc (.cells #[.slice A1 0 c1, .int .i64 0, .slice A2 0 c2] 25)).alloc (.cells #[.int .i64 41, .int .i64 0, .int .i64 0, .int .i64 0, .int .i64 0] 41)) ((w1.alloc (.cells #[.slice A1 0 c1, .int .i64 0, .slice A2 0 c2] 25)).alloc (.cells #[.int .i64 41, .int .i64 0, .int .i64 0, .int .i64 0, .int .i64 0] 41)).heap.size (.slice (some ⟨w1.heap.size + 1, 0, none⟩) haltP.code.length 1) (.slice none haltP.data.length 0) haltP := ⟨Row.of_own own, Row.nil _ _ _⟩
  have k2 : Kept w ((w1.alloc (.cells #[.slice A1 0 c1, .int .i64 0, .slice A2 0 c2] 25)).alloc (.cells #[.int .i64 41, .int .i64 0, .int .i64 0, .int .i64 0, .int .i64 0] 41)) := (k1.alloc _).alloc _
  generalize ((w1.alloc (.cells #[.slice A1 0 c1, .int .i64 0, .slice A2 0 c2] 25)).alloc (.cells #[.int .i64 41, .int .i64 0, .int .i64 0, .int .i64 0, .int .i64 0] 41)) = W at *
  generalize w1.heap.size + 1 = B at *
  clear own hS k1
  refine (bytes_any _ _ 1 0 haltP W hP).mono ?_; rintro e w2 ⟨v, rfl, own, hb2⟩
  have k3 := k2.to hb2
  clear hb2 hP
  have hR := Row.of_own own
  have hb := imgOf_bytes (p := haltP) (by simp [haltP])
  rw [imgOf_yes haltP_right] at hR hb
  have hrd := Lib.hid (img_back haltP_right)
  generalize imgZ haltP = zs at *
  obtain ⟨A, c, rfl⟩ := hR.form
  clear own
  go_wp2_with fail
  refine (imgRead_any A c zs _ hR hb).mono ?_; rintro e w3 ⟨vc, vd, rfl, hP, hb3⟩
  have k4 := k3.to hb3
  clear hb3 hR k3
  obtain ⟨q1, q2⟩ := hrd.out
  rw [q1, q2]
  rw [q2] at hP
  obtain ⟨A3, c3, rfl⟩ := hP.code.form
  obtain ⟨A4, c4, rfl⟩ := hP.data.form
  clear hP q1 q2
  go_wp2_with fail
  refine (num_any _ _ (by omega)).mono ?_; rintro e w4 ⟨rfl, rfl⟩
  go_wp2_with fail
  refine (num_any _ _ (by omega)).mono ?_; rintro e w4 ⟨rfl, rfl⟩
  dsimp only [haltP, List.length_cons, List.length_nil]
  go_wp2_with fail
  go_ret
  exact ⟨rfl, k4.alloc _⟩
end Go.Proofs.Ythnimeibjannpaa.Words

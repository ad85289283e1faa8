/- Contracts of isa.Decode and of the document's own: which instruction a word is, or that it is none. Condition: a word is from 0 to 2^32 - 1. -/
import Derived.Test.YthnimeibjannpaaIsaEncode
import Derived.Laws.StructEq
namespace Go.Proofs.Ythnimeibjannpaa.Words
open Go.RowKit

theorem parts_of (x : Int) (h0 : 0 ≤ x) (h1 : x ≤ 4294967295) :
    bits .and .u32 (x / 4194304) 15 = x / 4194304 % 16 ∧ bits .and .u32 (x / 262144) 15 = x / 262144 % 16 ∧ bits .and .u32 (x / 16384) 15 = x / 16384 % 16 :=
  ⟨and_15 _ (by omega) (by omega), and_15 _ (by omega) (by omega), and_15 _ (by omega) (by omega)⟩

set_option maxHeartbeats 1000000 in
theorem decode_no (x : Int) (w : World) (h0 : 0 ≤ x) (h1 : x ≤ 4294967295) (h : decB x = false) :
    Calls Try.prog 41 #[.int .u32 x] w fun e w' => e = .returned (.tuple #[.agg #[.int .i64 0, .int .i64 0, .int .i64 0, .int .i64 0, .int .i64 0], .bool false]) ∧ Below w.heap.size w w' := by
  obtain ⟨p1, p2, p3⟩ := parts_of x h0 h1
  have hf := Lib.hid (show rightB (fieldsZ x) = false from h)
  clear h
  go_enter Try.func41, Try.ntmps41
  go_wp2_with fail
  refine (lowest14 _ _ (by omega) (by omega)).mono ?_; rintro e w2 ⟨rfl, rfl⟩
  go_wp2_with fail
  refine (signed_any _ _ (by omega) (by omega)).mono ?_; rintro e w2 ⟨rfl, rfl⟩
  go_wp2_with fail
  refine (right_any (fieldsZ x) _).mono ?_; rintro e w2 ⟨rfl, hb1⟩
  rw [hf.out]
  obtain ⟨hc1, hf1⟩ := bcell hb1
  have hz := hb1.size
  simp at hz
  have c0 : w2.cell? ⟨w.heap.size, 0, none⟩ = some (.int .i64 0) := by rw [hc1 _ _ (by simp; omega)]; go_simp
  have c1 : w2.cell? ⟨w.heap.size, 1, none⟩ = some (.int .i64 0) := by rw [hc1 _ _ (by simp; omega)]; go_simp
  have c2 : w2.cell? ⟨w.heap.size, 2, none⟩ = some (.int .i64 0) := by rw [hc1 _ _ (by simp; omega)]; go_simp
  have c3 : w2.cell? ⟨w.heap.size, 3, none⟩ = some (.int .i64 0) := by rw [hc1 _ _ (by simp; omega)]; go_simp
  have c4 : w2.cell? ⟨w.heap.size, 4, none⟩ = some (.int .i64 0) := by rw [hc1 _ _ (by simp; omega)]; go_simp
  go_wp2_with fail
  refine bodyPost_ret (v := .tuple #[.agg #[.int .i64 0, .int .i64 0, .int .i64 0, .int .i64 0, .int .i64 0], .bool false]) (by simp [results, Try.results41, go_sem, c0, c1, c2, c3, c4]) rfl ⟨rfl, ?_⟩
  exact ((((((((Below.refl w.heap.size w).alloc (Nat.le_refl _) _).alloc (by simp) _).trans (hb1.mono (by simp; omega))).setCell (by simp) _).setCell (by simp) _).setCell (by simp) _).setCell (by simp) _).setCell (by simp) _

set_option maxHeartbeats 1000000 in
theorem decode_yes (x : Int) (w : World) (h0 : 0 ≤ x) (h1 : x ≤ 4294967295) (h : decB x = true) :
    Calls Try.prog 41 #[.int .u32 x] w fun e w' => e = .returned (.tuple #[.agg #[.int .i64 (fieldsZ x).op, .int .i64 (fieldsZ x).d, .int .i64 (fieldsZ x).a, .int .i64 (fieldsZ x).b, .int .i64 (fieldsZ x).imm], .bool true]) ∧ Below w.heap.size w w' := by
  obtain ⟨p1, p2, p3⟩ := parts_of x h0 h1
  have hf := Lib.hid (show rightB (fieldsZ x) = true from h)
  clear h
  go_enter Try.func41, Try.ntmps41
  go_wp2_with fail
  refine (lowest14 _ _ (by omega) (by omega)).mono ?_; rintro e w2 ⟨rfl, rfl⟩
  go_wp2_with fail
  refine (signed_any _ _ (by omega) (by omega)).mono ?_; rintro e w2 ⟨rfl, rfl⟩
  go_wp2_with fail
  refine (right_any (fieldsZ x) _).mono ?_; rintro e w2 ⟨rfl, hb1⟩
  rw [hf.out]
  obtain ⟨hc1, hf1⟩ := bcell hb1
  have hz := hb1.size
  simp at hz
  have c0 : w2.cell? ⟨w.heap.size, 0, none⟩ = some (.int .i64 0) := by rw [hc1 _ _ (by simp; omega)]; go_simp
  have c1 : w2.cell? ⟨w.heap.size, 1, none⟩ = some (.int .i64 0) := by rw [hc1 _ _ (by simp; omega)]; go_simp
  have c2 : w2.cell? ⟨w.heap.size, 2, none⟩ = some (.int .i64 0) := by rw [hc1 _ _ (by simp; omega)]; go_simp
  have c3 : w2.cell? ⟨w.heap.size, 3, none⟩ = some (.int .i64 0) := by rw [hc1 _ _ (by simp; omega)]; go_simp
  have c4 : w2.cell? ⟨w.heap.size, 4, none⟩ = some (.int .i64 0) := by rw [hc1 _ _ (by simp; omega)]; go_simp
  go_wp2_with fail
  refine bodyPost_ret (v := .tuple #[.agg #[.int .i64 (fieldsZ x).op, .int .i64 (fieldsZ x).d, .int .i64 (fieldsZ x).a, .int .i64 (fieldsZ x).b, .int .i64 (fieldsZ x).imm], .bool true]) (by simp [results, Try.results41, go_sem, c0, c1, c2, c3, c4, fieldsZ]) rfl ⟨rfl, ?_⟩
  exact ((((((((Below.refl w.heap.size w).alloc (Nat.le_refl _) _).alloc (by simp) _).trans (hb1.mono (by simp; omega))).setCell (by simp) _).setCell (by simp) _).setCell (by simp) _).setCell (by simp) _).setCell (by simp) _

set_option maxHeartbeats 1000000 in
theorem refDecode_noLow (x : Int) (w : World) (h0 : 0 ≤ x) (h1 : x ≤ 4294967295) (h : decB x = false) (hm : x % 16384 < 8192) :
    Calls Try.prog 25 #[.int .u32 x] w fun e w' => e = .returned (.tuple #[.agg #[.int .i64 0, .int .i64 0, .int .i64 0, .int .i64 0, .int .i64 0], .bool false]) ∧ Below w.heap.size w w' := by
  obtain ⟨p1, p2, p3⟩ := parts_of x h0 h1
  have p4 := and_16383 x h0 (by omega)
  have hs := sgn14_cases (x % 16384)
  have eF : ((⟨x / 67108864, x / 4194304 % 16, x / 262144 % 16, x / 16384 % 16, x % 16384⟩ : Ins)) = fieldsZ x := by rw [Ins.eq_iff]; exact ⟨rfl, rfl, rfl, rfl, by show _ = sgn14 _; dsimp only; omega⟩
  have hr : rightB (⟨x / 67108864, x / 4194304 % 16, x / 262144 % 16, x / 16384 % 16, x % 16384⟩) = false := by rw [eF]; exact h
  have HF := Lib.hid eF
  have HR := Lib.hid hr
  clear eF hr h hs
  go_enter Try.func25, Try.ntmps25
  go_wp2_with fail
  refine (refEncode_any ⟨x / 67108864, x / 4194304 % 16, x / 262144 % 16, x / 16384 % 16, x % 16384⟩ _).mono ?_; rintro e w2 ⟨rfl, hb1⟩
  rw [HR.out]
  obtain ⟨hc1, hf1⟩ := bcell hb1
  have hz := hb1.size
  simp at hz
  have c0 : w2.cell? ⟨w.heap.size, 0, none⟩ = some (.int .i64 0) := by rw [hc1 _ _ (by simp; omega)]; go_simp
  have c1 : w2.cell? ⟨w.heap.size, 1, none⟩ = some (.int .i64 0) := by rw [hc1 _ _ (by simp; omega)]; go_simp
  have c2 : w2.cell? ⟨w.heap.size, 2, none⟩ = some (.int .i64 0) := by rw [hc1 _ _ (by simp; omega)]; go_simp
  have c3 : w2.cell? ⟨w.heap.size, 3, none⟩ = some (.int .i64 0) := by rw [hc1 _ _ (by simp; omega)]; go_simp
  have c4 : w2.cell? ⟨w.heap.size, 4, none⟩ = some (.int .i64 0) := by rw [hc1 _ _ (by simp; omega)]; go_simp
  go_wp2_with fail
  refine bodyPost_ret (v := .tuple #[.agg #[.int .i64 0, .int .i64 0, .int .i64 0, .int .i64 0, .int .i64 0], .bool false]) (by simp [results, Try.results25, go_sem, c0, c1, c2, c3, c4]) rfl ⟨rfl, ?_⟩
  exact ((((((((Below.refl w.heap.size w).alloc (Nat.le_refl _) _).alloc (by simp) _).trans (hb1.mono (by simp; omega))).setCell (by simp) _).setCell (by simp) _).setCell (by simp) _).setCell (by simp) _).setCell (by simp) _

set_option maxHeartbeats 1000000 in
theorem refDecode_noHigh (x : Int) (w : World) (h0 : 0 ≤ x) (h1 : x ≤ 4294967295) (h : decB x = false) (hm : 8192 ≤ x % 16384) :
    Calls Try.prog 25 #[.int .u32 x] w fun e w' => e = .returned (.tuple #[.agg #[.int .i64 0, .int .i64 0, .int .i64 0, .int .i64 0, .int .i64 0], .bool false]) ∧ Below w.heap.size w w' := by
  obtain ⟨p1, p2, p3⟩ := parts_of x h0 h1
  have p4 := and_16383 x h0 (by omega)
  have hs := sgn14_cases (x % 16384)
  have eF : ((⟨x / 67108864, x / 4194304 % 16, x / 262144 % 16, x / 16384 % 16, x % 16384 - 16384⟩ : Ins)) = fieldsZ x := by rw [Ins.eq_iff]; exact ⟨rfl, rfl, rfl, rfl, by show _ = sgn14 _; dsimp only; omega⟩
  have hr : rightB (⟨x / 67108864, x / 4194304 % 16, x / 262144 % 16, x / 16384 % 16, x % 16384 - 16384⟩) = false := by rw [eF]; exact h
  have HF := Lib.hid eF
  have HR := Lib.hid hr
  clear eF hr h hs
  go_enter Try.func25, Try.ntmps25
  go_wp2_with fail
  refine (refEncode_any ⟨x / 67108864, x / 4194304 % 16, x / 262144 % 16, x / 16384 % 16, x % 16384 - 16384⟩ _).mono ?_; rintro e w2 ⟨rfl, hb1⟩
  rw [HR.out]
  obtain ⟨hc1, hf1⟩ := bcell hb1
  have hz := hb1.size
  simp at hz
  have c0 : w2.cell? ⟨w.heap.size, 0, none⟩ = some (.int .i64 0) := by rw [hc1 _ _ (by simp; omega)]; go_simp
  have c1 : w2.cell? ⟨w.heap.size, 1, none⟩ = some (.int .i64 0) := by rw [hc1 _ _ (by simp; omega)]; go_simp
  have c2 : w2.cell? ⟨w.heap.size, 2, none⟩ = some (.int .i64 0) := by rw [hc1 _ _ (by simp; omega)]; go_simp
  have c3 : w2.cell? ⟨w.heap.size, 3, none⟩ = some (.int .i64 0) := by rw [hc1 _ _ (by simp; omega)]; go_simp
  have c4 : w2.cell? ⟨w.heap.size, 4, none⟩ = some (.int .i64 0) := by rw [hc1 _ _ (by simp; omega)]; go_simp
  go_wp2_with fail
  refine bodyPost_ret (v := .tuple #[.agg #[.int .i64 0, .int .i64 0, .int .i64 0, .int .i64 0, .int .i64 0], .bool false]) (by simp [results, Try.results25, go_sem, c0, c1, c2, c3, c4]) rfl ⟨rfl, ?_⟩
  exact ((((((((Below.refl w.heap.size w).alloc (Nat.le_refl _) _).alloc (by simp) _).trans (hb1.mono (by simp; omega))).setCell (by simp) _).setCell (by simp) _).setCell (by simp) _).setCell (by simp) _).setCell (by simp) _

set_option maxHeartbeats 1000000 in
theorem refDecode_yesLow (x : Int) (w : World) (h0 : 0 ≤ x) (h1 : x ≤ 4294967295) (h : decB x = true) (hm : x % 16384 < 8192) :
    Calls Try.prog 25 #[.int .u32 x] w fun e w' => e = .returned (.tuple #[.agg #[.int .i64 (fieldsZ x).op, .int .i64 (fieldsZ x).d, .int .i64 (fieldsZ x).a, .int .i64 (fieldsZ x).b, .int .i64 (fieldsZ x).imm], .bool true]) ∧ Below w.heap.size w w' := by
  obtain ⟨p1, p2, p3⟩ := parts_of x h0 h1
  have p4 := and_16383 x h0 (by omega)
  have hs := sgn14_cases (x % 16384)
  have eF : ((⟨x / 67108864, x / 4194304 % 16, x / 262144 % 16, x / 16384 % 16, x % 16384⟩ : Ins)) = fieldsZ x := by rw [Ins.eq_iff]; exact ⟨rfl, rfl, rfl, rfl, by show _ = sgn14 _; dsimp only; omega⟩
  have hr : rightB (⟨x / 67108864, x / 4194304 % 16, x / 262144 % 16, x / 16384 % 16, x % 16384⟩) = true := by rw [eF]; exact h
  have he : encV (⟨x / 67108864, x / 4194304 % 16, x / 262144 % 16, x / 16384 % 16, x % 16384⟩) = x := by rw [encV_yes hr, eF, enc_fields]
  have HE := Lib.hid he
  clear he
  have HF := Lib.hid eF
  have HR := Lib.hid hr
  clear eF hr h hs
  go_enter Try.func25, Try.ntmps25
  go_wp2_with fail
  refine (refEncode_any ⟨x / 67108864, x / 4194304 % 16, x / 262144 % 16, x / 16384 % 16, x % 16384⟩ _).mono ?_; rintro e w2 ⟨rfl, hb1⟩
  rw [HR.out, HE.out]
  obtain ⟨hc1, hf1⟩ := bcell hb1
  have hz := hb1.size
  simp at hz
  have c0 : w2.cell? ⟨w.heap.size, 0, none⟩ = some (.int .i64 0) := by rw [hc1 _ _ (by simp; omega)]; go_simp
  have c1 : w2.cell? ⟨w.heap.size, 1, none⟩ = some (.int .i64 0) := by rw [hc1 _ _ (by simp; omega)]; go_simp
  have c2 : w2.cell? ⟨w.heap.size, 2, none⟩ = some (.int .i64 0) := by rw [hc1 _ _ (by simp; omega)]; go_simp
  have c3 : w2.cell? ⟨w.heap.size, 3, none⟩ = some (.int .i64 0) := by rw [hc1 _ _ (by simp; omega)]; go_simp
  have c4 : w2.cell? ⟨w.heap.size, 4, none⟩ = some (.int .i64 0) := by rw [hc1 _ _ (by simp; omega)]; go_simp
  go_wp2_with fail
  refine bodyPost_ret (v := .tuple #[.agg #[.int .i64 (fieldsZ x).op, .int .i64 (fieldsZ x).d, .int .i64 (fieldsZ x).a, .int .i64 (fieldsZ x).b, .int .i64 (fieldsZ x).imm], .bool true]) (by rw [← HF.out]; simp [results, Try.results25, go_sem, c0, c1, c2, c3, c4]) rfl ⟨rfl, ?_⟩
  exact ((((((((Below.refl w.heap.size w).alloc (Nat.le_refl _) _).alloc (by simp) _).trans (hb1.mono (by simp; omega))).setCell (by simp) _).setCell (by simp) _).setCell (by simp) _).setCell (by simp) _).setCell (by simp) _

set_option maxHeartbeats 1000000 in
theorem refDecode_yesHigh (x : Int) (w : World) (h0 : 0 ≤ x) (h1 : x ≤ 4294967295) (h : decB x = true) (hm : 8192 ≤ x % 16384) :
    Calls Try.prog 25 #[.int .u32 x] w fun e w' => e = .returned (.tuple #[.agg #[.int .i64 (fieldsZ x).op, .int .i64 (fieldsZ x).d, .int .i64 (fieldsZ x).a, .int .i64 (fieldsZ x).b, .int .i64 (fieldsZ x).imm], .bool true]) ∧ Below w.heap.size w w' := by
  obtain ⟨p1, p2, p3⟩ := parts_of x h0 h1
  have p4 := and_16383 x h0 (by omega)
  have hs := sgn14_cases (x % 16384)
  have eF : ((⟨x / 67108864, x / 4194304 % 16, x / 262144 % 16, x / 16384 % 16, x % 16384 - 16384⟩ : Ins)) = fieldsZ x := by rw [Ins.eq_iff]; exact ⟨rfl, rfl, rfl, rfl, by show _ = sgn14 _; dsimp only; omega⟩
  have hr : rightB (⟨x / 67108864, x / 4194304 % 16, x / 262144 % 16, x / 16384 % 16, x % 16384 - 16384⟩) = true := by rw [eF]; exact h
  have he : encV (⟨x / 67108864, x / 4194304 % 16, x / 262144 % 16, x / 16384 % 16, x % 16384 - 16384⟩) = x := by rw [encV_yes hr, eF, enc_fields]
  have HE := Lib.hid he
  clear he
  have HF := Lib.hid eF
  have HR := Lib.hid hr
  clear eF hr h hs
  go_enter Try.func25, Try.ntmps25
  go_wp2_with fail
  refine (refEncode_any ⟨x / 67108864, x / 4194304 % 16, x / 262144 % 16, x / 16384 % 16, x % 16384 - 16384⟩ _).mono ?_; rintro e w2 ⟨rfl, hb1⟩
  rw [HR.out, HE.out]
  obtain ⟨hc1, hf1⟩ := bcell hb1
  have hz := hb1.size
  simp at hz
  have c0 : w2.cell? ⟨w.heap.size, 0, none⟩ = some (.int .i64 0) := by rw [hc1 _ _ (by simp; omega)]; go_simp
  have c1 : w2.cell? ⟨w.heap.size, 1, none⟩ = some (.int .i64 0) := by rw [hc1 _ _ (by simp; omega)]; go_simp
  have c2 : w2.cell? ⟨w.heap.size, 2, none⟩ = some (.int .i64 0) := by rw [hc1 _ _ (by simp; omega)]; go_simp
  have c3 : w2.cell? ⟨w.heap.size, 3, none⟩ = some (.int .i64 0) := by rw [hc1 _ _ (by simp; omega)]; go_simp
  have c4 : w2.cell? ⟨w.heap.size, 4, none⟩ = some (.int .i64 0) := by rw [hc1 _ _ (by simp; omega)]; go_simp
  go_wp2_with fail
  refine bodyPost_ret (v := .tuple #[.agg #[.int .i64 (fieldsZ x).op, .int .i64 (fieldsZ x).d, .int .i64 (fieldsZ x).a, .int .i64 (fieldsZ x).b, .int .i64 (fieldsZ x).imm], .bool true]) (by rw [← HF.out]; simp [results, Try.results25, go_sem, c0, c1, c2, c3, c4]) rfl ⟨rfl, ?_⟩
  exact ((((((((Below.refl w.heap.size w).alloc (Nat.le_refl _) _).alloc (by simp) _).trans (hb1.mono (by simp; omega))).setCell (by simp) _).setCell (by simp) _).setCell (by simp) _).setCell (by simp) _).setCell (by simp) _

theorem decode_any (x : Int) (w : World) (h0 : 0 ≤ x) (h1 : x ≤ 4294967295) :
    Calls Try.prog 41 #[.int .u32 x] w fun e w' => e = .returned (.tuple #[.agg #[.int .i64 (decZ x).op, .int .i64 (decZ x).d, .int .i64 (decZ x).a, .int .i64 (decZ x).b, .int .i64 (decZ x).imm], .bool (decB x)]) ∧ Below w.heap.size w w' := by
  cases h : decB x
  · rw [decZ_no h]; exact decode_no x w h0 h1 h
  · rw [decZ_yes h]; exact decode_yes x w h0 h1 h
theorem refDecode_any (x : Int) (w : World) (h0 : 0 ≤ x) (h1 : x ≤ 4294967295) :
    Calls Try.prog 25 #[.int .u32 x] w fun e w' => e = .returned (.tuple #[.agg #[.int .i64 (decZ x).op, .int .i64 (decZ x).d, .int .i64 (decZ x).a, .int .i64 (decZ x).b, .int .i64 (decZ x).imm], .bool (decB x)]) ∧ Below w.heap.size w w' := by
  by_cases hm : x % 16384 < 8192
  · cases h : decB x
    · rw [decZ_no h]; exact refDecode_noLow x w h0 h1 h hm
    · rw [decZ_yes h]; exact refDecode_yesLow x w h0 h1 h hm
  · have hm' : 8192 ≤ x % 16384 := by omega
    cases h : decB x
    · rw [decZ_no h]; exact refDecode_noHigh x w h0 h1 h hm'
    · rw [decZ_yes h]; exact refDecode_yesHigh x w h0 h1 h hm'
end Go.Proofs.Ythnimeibjannpaa.Words

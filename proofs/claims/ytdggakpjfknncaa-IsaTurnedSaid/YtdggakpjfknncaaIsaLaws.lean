/- The walks of the laws IsaBack, IsaWords, IsaBits, IsaTurned of chapter 2. -/
import Derived.Test.YtdggakpjfknncaaIsaAlive
namespace Go.Proofs.Ytdggakpjfknncaa.Words
open Go.RowKit

theorem ins_lit (i : Ins) : (⟨i.op, i.d, i.a, i.b, i.imm⟩ : Ins) = i := rfl

set_option maxHeartbeats 1000000 in
theorem isaBack_walk (i k : Ins) (w : World) (_hi : i.Fits) (_hk : k.Fits) :
    Calls Try.prog 4 #[.agg #[.int .i64 i.op, .int .i64 i.d, .int .i64 i.a, .int .i64 i.b, .int .i64 i.imm], .agg #[.int .i64 k.op, .int .i64 k.d, .int .i64 k.a, .int .i64 k.b, .int .i64 k.imm]] w fun e w' => e = .returned (.bool true) ∧ Below w.heap.size w w' := by
  go_enter Try.func4, Try.ntmps4
  go_wp2_with fail
  refine (alive_any _).mono ?_; rintro e w1 ⟨rfl, hb1⟩
  obtain ⟨hc1, hf1⟩ := bcell hb1
  have hz1 : w.heap.size < w1.heap.size ∧ w.heap.size + 1 < w1.heap.size := by have := hb1.size; simp at this; omega
  obtain ⟨hz1, hz1'⟩ := hz1
  have hB1 : Below w.heap.size w w1 := (((Below.refl w.heap.size w).alloc (Nat.le_refl _) _).alloc (by simp) _).trans (hb1.mono (by simp; omega))
  go_wp2_with fail
  refine (rightIns_any i _).mono ?_; rintro e w2 ⟨rfl, hb2⟩
  obtain ⟨hc2, hf2⟩ := bcell hb2
  have hz2 : w.heap.size < w2.heap.size ∧ w.heap.size + 1 < w2.heap.size := by have := hb2.size; omega
  obtain ⟨hz2, hz2'⟩ := hz2
  have hB2 := hB1.trans (hb2.mono (Nat.le_of_lt hz1))
  cases hi : rightB i
  · go_wp2_with fail
    go_ret
    exact ⟨rfl, hB2⟩
  go_wp2_with fail
  refine (rightIns_any k _).mono ?_; rintro e w3 ⟨rfl, hb3⟩
  obtain ⟨hc3, hf3⟩ := bcell hb3
  have hz3 : w.heap.size < w3.heap.size ∧ w.heap.size + 1 < w3.heap.size := by have := hb3.size; omega
  obtain ⟨hz3, hz3'⟩ := hz3
  have hB3 := hB2.trans (hb3.mono (Nat.le_of_lt hz2))
  cases hk : rightB k
  · go_wp2_with fail
    go_ret
    exact ⟨rfl, hB3⟩
  go_wp2_with fail
  refine (encode_yes i _ hi).mono ?_; rintro e w4 ⟨rfl, hb4⟩
  obtain ⟨hc4, hf4⟩ := bcell hb4
  have hz4 : w.heap.size < w4.heap.size ∧ w.heap.size + 1 < w4.heap.size := by have := hb4.size; omega
  obtain ⟨hz4, hz4'⟩ := hz4
  have hB4 := hB3.trans (hb4.mono (Nat.le_of_lt hz3))
  go_wp2_with fail
  refine (encode_yes k _ hk).mono ?_; rintro e w5 ⟨rfl, hb5⟩
  obtain ⟨hc5, hf5⟩ := bcell hb5
  have hz5 : w.heap.size < w5.heap.size ∧ w.heap.size + 1 < w5.heap.size := by have := hb5.size; omega
  obtain ⟨hz5, hz5'⟩ := hz5
  have hB5 := hB4.trans (hb5.mono (Nat.le_of_lt hz4))
  go_wp2_with fail
  refine (decode_any (encZ i) _ (enc_range hi).1 (enc_range hi).2).mono ?_; rintro e w6 ⟨rfl, hb6⟩
  rw [(dec_enc hi).1, (dec_enc hi).2]
  obtain ⟨hc6, hf6⟩ := bcell hb6
  have hz6 : w.heap.size < w6.heap.size ∧ w.heap.size + 1 < w6.heap.size := by have := hb6.size; omega
  obtain ⟨hz6, hz6'⟩ := hz6
  have hB6 := hB5.trans (hb6.mono (Nat.le_of_lt hz5))
  have e1 := eql_ins i i
  have e2 := eql_ins i k
  have e3 : decide (i = i) = true := by simp
  have hop : encZ i / 67108864 = i.op := by have := right_range hi; unfold encZ; omega
  have hinj : (encZ i == encZ k) = decide (i = k) := by rw [Bool.eq_iff_iff]; simp [enc_inj hi hk]
  have R := enc_range hi
  have R' := enc_range hk
  go_wp2_with fail
  go_ret
  exact ⟨rfl, hB6.alloc (Nat.le_of_lt hz6) _⟩

set_option maxHeartbeats 1000000 in
theorem isaWords_walk (x : Int) (w : World) (h : 0 ≤ x ∧ x ≤ 4294967295) :
    Calls Try.prog 5 #[.int .u32 x] w fun e w' => e = .returned (.bool true) ∧ Below w.heap.size w w' := by
  go_enter Try.func5, Try.ntmps5
  go_wp2_with fail
  refine (alive_any _).mono ?_; rintro e w1 ⟨rfl, hb1⟩
  go_wp2_with fail
  refine (decode_any x _ h.1 h.2).mono ?_; rintro e w2 ⟨rfl, hb2⟩
  have hB2 := hb1.trans (hb2.mono hb1.size)
  have hz2 := hB2.size
  cases hd : decB x
  · rw [decZ_no hd]
    dsimp only [noIns]
    go_wp2_with fail
    go_ret
    exact ⟨rfl, hB2.alloc hz2 _⟩
  · have hr : rightB (decZ x) = true := by rw [decZ_yes hd]; exact hd
    have he : encZ (decZ x) = x := by rw [decZ_yes hd, enc_fields]
    have HR := Lib.hid hr
    have HE := Lib.hid he
    have hop : 0 < formZ (decZ x).op := by
      have h1 := right_range hr
      have h2 := formZ_cases (decZ x).op
      omega
    clear hr he
    go_wp2_with fail
    refine (encode_yes (decZ x) _ HR.out).mono ?_; rintro e w3 ⟨rfl, hb3⟩
    rw [HE.out]
    obtain ⟨hc3, hf3⟩ := bcell hb3
    have hz3 : w2.heap.size < w3.heap.size := by have := hb3.size; simp at this; omega
    have hB3 := (hB2.alloc hz2 _).trans (hb3.mono (by simp; omega))
    go_wp2_with fail
    refine (right_any (decZ x) _).mono ?_; rintro e w4 ⟨rfl, hb4⟩
    rw [HR.out]
    obtain ⟨hc4, hf4⟩ := bcell hb4
    have hz4 : w2.heap.size < w4.heap.size := by have := hb4.size; omega
    have hB4 := hB3.trans (hb4.mono (by omega))
    go_wp2_with fail
    refine (form_any (decZ x).op _).mono ?_; rintro e w5 ⟨rfl, rfl⟩
    go_wp2_with fail
    go_ret
    exact ⟨rfl, hB4⟩

theorem encZ_parts {i : Ins} (h : rightB i = true) : encZ i / 67108864 = i.op ∧ bits .and .u32 (encZ i / 4194304) 15 = i.d ∧ bits .and .u32 (encZ i / 262144) 15 = i.a ∧ bits .and .u32 (encZ i / 16384) 15 = i.b ∧ bits .and .u32 (encZ i) 16383 = i.imm % 16384 := by
  have hr := right_range h
  have he := enc_range h
  refine ⟨by unfold encZ; omega, ?_, ?_, ?_, ?_⟩
  · rw [and_15 _ (by omega) (by omega)]; unfold encZ; omega
  · rw [and_15 _ (by omega) (by omega)]; unfold encZ; omega
  · rw [and_15 _ (by omega) (by omega)]; unfold encZ; omega
  · rw [and_16383 _ (by omega) (by omega)]; unfold encZ; omega

set_option maxHeartbeats 1000000 in
theorem isaBits_walk (i : Ins) (w : World) (_hi : i.Fits) :
    Calls Try.prog 7 #[.agg #[.int .i64 i.op, .int .i64 i.d, .int .i64 i.a, .int .i64 i.b, .int .i64 i.imm]] w fun e w' => e = .returned (.bool true) ∧ Below w.heap.size w w' := by
  go_enter Try.func7, Try.ntmps7
  go_wp2_with fail
  refine (alive_any _).mono ?_; rintro e w1 ⟨rfl, hb1⟩
  obtain ⟨hc1, hf1⟩ := bcell hb1
  have hz1 : w.heap.size < w1.heap.size := by have := hb1.size; simp at this; omega
  have hB1 : Below w.heap.size w w1 := ((Below.refl w.heap.size w).alloc (Nat.le_refl _) _).trans (hb1.mono (by simp))
  go_wp2_with fail
  cases hi : rightB i
  · refine (encode_no i _ hi).mono ?_; rintro e w2 ⟨rfl, hb2⟩
    have hB2 := hB1.trans (hb2.mono (Nat.le_of_lt hz1))
    go_wp2_with fail
    go_ret
    exact ⟨rfl, hB2⟩
  · refine (encode_yes i _ hi).mono ?_; rintro e w2 ⟨rfl, hb2⟩
    have hB2 := hB1.trans (hb2.mono (Nat.le_of_lt hz1))
    obtain ⟨hc2, hf2⟩ := bcell hb2
    have hz2 : w.heap.size < w2.heap.size := by have := hb2.size; omega
    obtain ⟨p0, p1, p2, p3, p4⟩ := encZ_parts hi
    have R := enc_range hi
    have R' := (right_range hi).2.2.2.2
    have R0 := right_range hi
    clear hi
    by_cases hneg : i.imm < 0
    · have p5 : i.imm % 16384 = i.imm + 16384 := by omega
      rw [p5] at p4
      clear p5
      go_wp2_with fail
      go_ret
      exact ⟨rfl, hB2⟩
    · have p5 : i.imm % 16384 = i.imm := by omega
      rw [p5] at p4
      clear p5
      go_wp2_with fail
      go_ret
      exact ⟨rfl, hB2⟩

set_option maxHeartbeats 1000000 in
theorem isaTurned_walk (i : Ins) (bit : Int) (w : World) (_hi : i.Fits) (hbit : -9223372036854775808 ≤ bit ∧ bit ≤ 9223372036854775807) :
    Calls Try.prog 8 #[.agg #[.int .i64 i.op, .int .i64 i.d, .int .i64 i.a, .int .i64 i.b, .int .i64 i.imm], .int .i64 bit] w fun e w' => e = .returned (.bool true) ∧ Below w.heap.size w w' := by
  go_enter Try.func8, Try.ntmps8
  go_wp2_with fail
  refine (alive_any _).mono ?_; rintro e w1 ⟨rfl, hb1⟩
  obtain ⟨hc1, hf1⟩ := bcell hb1
  have hz1 : w.heap.size < w1.heap.size := by have := hb1.size; simp at this; omega
  have hB1 : Below w.heap.size w w1 := ((Below.refl w.heap.size w).alloc (Nat.le_refl _) _).trans (hb1.mono (by simp))
  go_wp2_with fail
  cases hi : rightB i
  · refine (encode_no i _ hi).mono ?_; rintro e w2 ⟨rfl, hb2⟩
    have hB2 := hB1.trans (hb2.mono (Nat.le_of_lt hz1))
    go_wp2_with fail
    go_ret
    exact ⟨rfl, hB2⟩
  · refine (encode_yes i _ hi).mono ?_; rintro e w2 ⟨rfl, hb2⟩
    have hB2 := hB1.trans (hb2.mono (Nat.le_of_lt hz1))
    obtain ⟨hc2, hf2⟩ := bcell hb2
    have hz2 : w.heap.size < w2.heap.size := by have := hb2.size; omega
    by_cases h0 : bit < 0
    · go_wp2_with fail
      go_ret
      exact ⟨rfl, hB2⟩
    by_cases h1 : 31 < bit
    · go_wp2_with fail
      go_ret
      exact ⟨rfl, hB2⟩
    have R := enc_range hi
    have h0' : 0 ≤ bit := by omega
    have h1' : bit ≤ 31 := by omega
    obtain ⟨t0, t1, tne⟩ := turned_ne (encZ i) bit R.1 R.2 h0' h1'
    go_wp2_with fail
    generalize bits BinOp.xor IntKind.u32 (encZ i) (2 ^ bit.toNat % 4294967296) = y at *
    refine (decode_any y _ t0 t1).mono ?_; rintro e w3 ⟨rfl, hb3⟩
    have hB3 := hB2.trans (hb3.mono (Nat.le_of_lt hz2))
    obtain ⟨hc3, hf3⟩ := bcell hb3
    have hz3 : w.heap.size < w3.heap.size := by have := hb3.size; omega
    cases hd : decB y
    · rw [decZ_no hd]
      dsimp only [noIns]
      go_wp2_with fail
      go_ret
      exact ⟨rfl, hB3.alloc (Nat.le_of_lt hz3) _⟩
    · have hr : rightB (decZ y) = true := by rw [decZ_yes hd]; exact hd
      have hne : decide (decZ y = i) = false := by
        rw [decide_eq_false_iff_not]
        rintro rfl
        apply tne
        rw [decZ_yes hd, enc_fields]
      have HR := Lib.hid hr
      have HN := Lib.hid hne
      clear hr hne tne
      have e1 := neq_ins (decZ y) i
      rw [HN.out] at e1
      go_wp2_with fail
      refine (right_any (decZ y) _).mono ?_; rintro e w4 ⟨rfl, hb4⟩
      rw [HR.out]
      go_wp2_with fail
      go_ret
      exact ⟨rfl, (hB3.alloc (Nat.le_of_lt hz3) _).trans (hb4.mono (by simp; omega))⟩
end Go.Proofs.Ytdggakpjfknncaa.Words

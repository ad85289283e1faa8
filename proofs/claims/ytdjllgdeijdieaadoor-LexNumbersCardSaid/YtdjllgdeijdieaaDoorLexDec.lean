/- Contract of the document's own Dec: a number, in decimal. -/
import Derived.Test.YtdjllgdeijdieaaDoorLexAlive
import Derived.Test.YtdjllgdeijdieaaDoorLexNumMath
namespace Go.Proofs.YtdjllgdeijdieaaDoor.Words
set_option maxRecDepth 100000
open Go.RowKit Go.Shelf Go.Lib
set_option linter.unusedVariables false

theorem dec_cut (m : Nat) (h : m < 10) : (⟨#[48, 49, 50, 51, 52, 53, 54, 55, 56, 57]⟩ : ByteArray).extract m (m + 1) = txt [hexB false m] := by
  match m, h with
  | 0, _ => decide
  | 1, _ => decide
  | 2, _ => decide
  | 3, _ => decide
  | 4, _ => decide
  | 5, _ => decide
  | 6, _ => decide
  | 7, _ => decide
  | 8, _ => decide
  | 9, _ => decide
  | n + 10, h => exact absurd h (by omega)
theorem txt_join (a b : List UInt8) : txt a ++ txt b = txt (a ++ b) := by
  apply txt_eq
  rw [ByteArray.data_append, Array.toList_append]
theorem txt_len (a : List UInt8) : (txt a).size = a.length := by rw [← data_len]
theorem dec_len {n : Nat} (h : n ≤ 17179869184) : (digs 10 false n).length ≤ 11 := digs_len (b := 10) (by omega) false 10 n (by show n < 100000000000; omega)

set_option maxHeartbeats 1000000 in
theorem dec_nat : ∀ n : Nat, n ≤ 17179869184 → ∀ w : World, Calls Tryd.prog 14 #[.int .i64 (n : Int)] w fun e w' => e = .returned (.string (txt (digs 10 false n))) ∧ w = w' := by
  intro n
  induction n using Nat.strongRecOn with
  | _ n ih =>
    intro hn w
    obtain ⟨m, hm⟩ : ∃ m, m = n % 10 := ⟨_, rfl⟩
    have HM := Lib.hid hm
    have hm9 : m < 10 := by omega
    have m0 : (0 : Int) ≤ m := by omega
    have m9 : (m : Int) + 1 ≤ 10 := by omega
    have hc := dec_cut m hm9
    have h1 : decide ((n : Int) ≤ -10) = false := decide_eq_false (by omega)
    have h2 : decide ((n : Int) < 0) = false := decide_eq_false (by omega)
    have n0 : (0 : Int) ≤ n := by omega
    have n1 : (n : Int) ≤ 17179869184 := by omega
    have hmod : (n : Int) % 10 = (m : Int) := by omega
    clear hm
    by_cases h : n < 10
    · have h3 : decide (9 < (n : Int)) = false := decide_eq_false (by omega)
      have hd := Lib.hid (digs_lo (b := 10) false h)
      have hnm : Hid (m = n) := by have := HM.out; show _ = _; omega
      clear ih
      go_enter Tryd.func14, Tryd.ntmps14
      go_wp2_with fail
      go_ret
      exact ⟨by rw [hd.out, hnm.out]; rfl, rfl⟩
    · have h3 : decide (9 < (n : Int)) = true := decide_eq_true (by omega)
      have hd := Lib.hid (digs_hi (b := 10) (n := n) (by omega) false (by omega))
      have ih' := ih (n / 10) (by omega) (by omega) w
      rw [show ((n / 10 : Nat) : Int) = (n : Int) / 10 by omega] at ih'
      have hl := dec_len (n := n / 10) (by omega)
      have hs1 := txt_len (digs 10 false (n / 10))
      have hs2 := txt_len [hexB false m]
      have HJ := Lib.hid (txt_join (digs 10 false (n / 10)) [hexB false m])
      generalize digs 10 false (n / 10) = Q at *
      generalize hX : txt Q = X at *
      generalize hY : txt [hexB false m] = Y at *
      have hsum : ¬ (X.size + Y.size > 9223372036854775807) := by rw [hs1, hs2]; simp; omega
      have HX := Lib.hid hX
      have HY := Lib.hid hY
      have IH := Lib.hid ih'
      clear ih ih' hl hs1 hs2 hX hY
      go_enter Tryd.func14, Tryd.ntmps14
      go_wp2_with (go_at_call 14; refine IH.out.mono ?_; rintro e w1 ⟨rfl, rfl⟩)
      go_ret
      refine ⟨?_, rfl⟩
      rw [hd.out, ← HM.out, ← HJ.out]
      rfl

set_option maxHeartbeats 1000000 in
theorem dec_neg (m : Nat) (h0 : 0 < m) (hm : m ≤ 17179869184) (w : World) : Calls Tryd.prog 14 #[.int .i64 (-(m : Int))] w fun e w' => e = .returned (.string (txt (45 :: digs 10 false m))) ∧ w = w' := by
  have hl := dec_len (n := m) hm
  have m1 : (m : Int) ≤ 17179869184 := by omega
  have m2 : (0 : Int) < m := by omega
  by_cases h : m < 10
  · have h1 : decide (-(m : Int) ≤ -10) = false := decide_eq_false (by omega)
    have h2 : decide (-(m : Int) < 0) = true := decide_eq_true (by omega)
    have ih := dec_nat m hm w
    have hs1 := txt_len (digs 10 false m)
    have HJ := Lib.hid (txt_join [45] (digs 10 false m))
    generalize hX : txt (digs 10 false m) = X at *
    have hsum : ¬ ((⟨#[45]⟩ : ByteArray).size + X.size > 9223372036854775807) := by
      have : (⟨#[45]⟩ : ByteArray).size = 1 := rfl
      omega
    have IH := Lib.hid ih
    clear ih hs1 hX hl
    go_enter Tryd.func14, Tryd.ntmps14
    go_wp2_with (go_at_call 14; refine IH.out.mono ?_; rintro e w1 ⟨rfl, rfl⟩)
    go_ret
    refine ⟨?_, rfl⟩
    rw [show (45 :: digs 10 false m) = [45] ++ digs 10 false m from rfl, ← HJ.out]
    rfl
  · have h1 : decide (-(m : Int) ≤ -10) = true := decide_eq_true (by omega)
    have ih1 := dec_nat (m / 10) (by omega) w
    have ih2 := dec_nat (m % 10) (by omega) w
    rw [show ((m / 10 : Nat) : Int) = (m : Int) / 10 by omega] at ih1
    rw [show ((m % 10 : Nat) : Int) = (m : Int) % 10 by omega] at ih2
    have hd := digs_hi (b := 10) (n := m) (by omega) false (by omega)
    have hlo := digs_lo (b := 10) (n := m % 10) false (by omega)
    rw [← hlo] at hd
    have hl1 := dec_len (n := m / 10) (by omega)
    have hl2 := dec_len (n := m % 10) (by omega)
    have hs1 := txt_len (digs 10 false (m / 10))
    have hs2 := txt_len (digs 10 false (m % 10))
    have HJ : Hid ((txt [45] ++ txt (digs 10 false (m / 10))) ++ txt (digs 10 false (m % 10)) = txt (45 :: digs 10 false m)) := by
      show _ = _
      rw [txt_join, txt_join, hd]
      rfl
    have hs3 := txt_len ([45] ++ digs 10 false (m / 10))
    rw [← txt_join] at hs3
    generalize txt (digs 10 false (m / 10)) = X at *
    generalize txt (digs 10 false (m % 10)) = Y at *
    have hsum : ¬ ((⟨#[45]⟩ : ByteArray).size + X.size > 9223372036854775807) := by
      have : (⟨#[45]⟩ : ByteArray).size = 1 := rfl
      omega
    have hsum2 : ¬ (((⟨#[45]⟩ : ByteArray) ++ X).size + Y.size > 9223372036854775807) := by
      have : ((⟨#[45]⟩ : ByteArray) ++ X).size = ([45] ++ digs 10 false (m / 10)).length := hs3
      rw [this, hs2, List.length_append]
      simp
      omega
    have IH1 := Lib.hid ih1
    have IH2 := Lib.hid ih2
    clear ih1 ih2 hs1 hs2 hs3 hd hlo hl1 hl2 hl
    go_enter Tryd.func14, Tryd.ntmps14
    go_wp2_with fail
    refine IH1.out.mono ?_; rintro e w1 ⟨rfl, rfl⟩
    go_wp2_with fail
    refine IH2.out.mono ?_; rintro e w2 ⟨rfl, rfl⟩
    go_wp2_with fail
    go_ret
    refine ⟨?_, rfl⟩
    rw [← HJ.out]
    rfl
theorem dec_any (n : Int) (w : World) (h : -17179869184 ≤ n ∧ n ≤ 17179869184) : Calls Tryd.prog 14 #[.int .i64 n] w fun e w' => e = .returned (.string (txt (decZ n))) ∧ w = w' := by
  unfold decZ
  by_cases h0 : n < 0
  · rw [if_pos h0]
    have := dec_neg n.natAbs (by omega) (by omega) w
    rwa [show -((n.natAbs : Nat) : Int) = n by omega] at this
  · rw [if_neg h0]
    have := dec_nat n.natAbs (by omega) w
    rwa [show ((n.natAbs : Nat) : Int) = n by omega] at this
end Go.Proofs.YtdjllgdeijdieaaDoor.Words

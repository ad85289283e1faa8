/- The walk of LexNumbers: a number is read as it is written, in decimal or in base 16. -/
import Derived.Test.YtdjllgdeijdieaaDoorLexDec
import Derived.Laws.BitsLemmas
namespace Go.Proofs.YtdjllgdeijdieaaDoor.Words
set_option maxRecDepth 100000
open Go.RowKit Go.Shelf Go.Lib
set_option linter.unusedVariables false

theorem i64_and15 (n : Int) : bits .and .i64 n 15 = n % 16 := by
  have h : (BitVec.ofInt 64 15).toNat = 2 ^ 4 - 1 := by decide
  have key : (BitVec.ofInt 64 n &&& BitVec.ofInt 64 15).toNat = (n % ((2 ^ 64 : Nat) : Int)).toNat % 2 ^ 4 := by
    rw [BitVec.toNat_and, BitVec.toNat_ofInt, h, Nat.and_two_pow_sub_one_eq_mod]
  show IntKind.i64.wrap ((BitVec.ofInt 64 n &&& BitVec.ofInt 64 15).toNat : Nat) = n % 16
  rw [key, IntKind.wrap_i64]
  omega
/-- The digits of base 16. -/
def hexS (g : Bool) : ByteArray := if g then ⟨#[48, 49, 50, 51, 52, 53, 54, 55, 56, 57, 65, 66, 67, 68, 69, 70]⟩ else ⟨#[48, 49, 50, 51, 52, 53, 54, 55, 56, 57, 97, 98, 99, 100, 101, 102]⟩
theorem hex_cut (g : Bool) (m : Nat) (h : m < 16) : (hexS g).extract m (m + 1) = txt [hexB g m] := by
  match m, h with
  | 0, _ => cases g <;> decide
  | 1, _ => cases g <;> decide
  | 2, _ => cases g <;> decide
  | 3, _ => cases g <;> decide
  | 4, _ => cases g <;> decide
  | 5, _ => cases g <;> decide
  | 6, _ => cases g <;> decide
  | 7, _ => cases g <;> decide
  | 8, _ => cases g <;> decide
  | 9, _ => cases g <;> decide
  | 10, _ => cases g <;> decide
  | 11, _ => cases g <;> decide
  | 12, _ => cases g <;> decide
  | 13, _ => cases g <;> decide
  | 14, _ => cases g <;> decide
  | 15, _ => cases g <;> decide
  | n + 16, h => exact absurd h (by omega)
theorem hexS_size (g : Bool) : (hexS g).size = 16 := by cases g <;> rfl
/-- What is still to be written. -/
def hexP (g : Bool) (x : Nat) : List UInt8 := if x = 0 then [] else digs 16 g x
theorem hexP_step (g : Bool) {x : Nat} (h : 0 < x) : hexP g x = hexP g (x / 16) ++ [hexB g (x % 16)] := by
  unfold hexP
  rw [if_neg (by omega)]
  by_cases hx : x < 16
  · rw [digs_lo g hx, if_pos (by omega), Nat.mod_eq_of_lt hx]; rfl
  · rw [digs_hi (by omega) g (by omega), if_neg (by omega)]

set_option maxHeartbeats 1000000 in
theorem lexNumbers_out (n : Int) (g : Bool) (w : World) (hT : Tabs w) (hn : -9223372036854775808 ≤ n ∧ n ≤ 9223372036854775807) (h : n < -17179869184 ∨ 17179869184 < n) :
    Calls Tryd.prog 6 #[.int .i64 n, .bool g] w fun e w' => e = .returned (.bool true) ∧ Below w.heap.size w w' := by
  have cA := alive7_any w hT
  clear hT
  go_enter Tryd.func6, Tryd.ntmps6
  go_wp2_with fail
  refine cA.mono ?_; rintro e w1 ⟨rfl, hb1⟩
  have HB1 := Lib.hid hb1
  clear hb1
  go_wp2
  all_goals first
    | (exfalso; omega)
    | (go_ret; exact ⟨rfl, HB1.out⟩)

set_option maxHeartbeats 1000000 in
theorem lexNumbers_far (n : Int) (g : Bool) (w : World) (hT : Tabs w) (hn : -17179869184 ≤ n ∧ n ≤ 17179869184) (h : n < -4294967296 ∨ 4294967296 < n) :
    Calls Tryd.prog 6 #[.int .i64 n, .bool g] w fun e w' => e = .returned (.bool true) ∧ Below w.heap.size w w' := by
  have cA := alive7_any w hT
  have HT := Lib.hid hT
  have cD := Lib.hid (fun y => dec_any n y (by omega))
  have hlen := decZ_len (n := n) (by omega)
  have cS := Lib.hid (fun y (hy : Tabs y) => split_any (txt (decZ n)) y (by rw [txt_len]; omega) hy)
  have HZ := Lib.hid (lex_decZ (n := n) (by omega))
  clear hT hlen
  have q1 : decide (n < -17179869184) = false := decide_eq_false (by omega)
  have q2 : decide (17179869184 < n) = false := decide_eq_false (by omega)
  go_enter Tryd.func6, Tryd.ntmps6
  go_wp2_with fail
  refine cA.mono ?_; rintro e w1 ⟨rfl, hb1⟩
  have HB1 := Lib.hid hb1
  clear hb1
  go_wp2_with fail
  refine (cD.out _).mono ?_; rintro e w2 ⟨rfl, rfl⟩
  go_wp2_with fail
  refine (cS.out _ (HT.out.below HB1.out)).mono ?_
  rintro e w2 ⟨ho, hb2⟩
  have HB2 := Lib.hid (HB1.out.trans (hb2.mono HB1.out.size))
  change LexOut (lexZ (decZ n)) _ _ _ at ho
  rw [HZ.out, if_pos h] at ho
  change _ = _ at ho
  subst ho
  clear HZ hb2
  by_cases h1 : n < -4294967296
  · have r1 : decide (n < -4294967296) = true := decide_eq_true h1
    clear h
    go_wp2_with (go_at_call 13; refine (num_any _ _).mono ?_; rintro e w9 ⟨rfl, rfl⟩)
    go_ret
    exact ⟨rfl, HB2.out⟩
  · have r1 : decide (n < -4294967296) = false := decide_eq_false h1
    have r2 : decide (4294967296 < n) = true := decide_eq_true (by omega)
    clear h
    go_wp2_with (go_at_call 13; refine (num_any _ _).mono ?_; rintro e w9 ⟨rfl, rfl⟩)
    go_ret
    exact ⟨rfl, HB2.out⟩

set_option maxHeartbeats 1000000 in
theorem lexNumbers_neg (n : Int) (g : Bool) (w : World) (hT : Tabs w) (hn : -4294967296 ≤ n ∧ n < 0) :
    Calls Tryd.prog 6 #[.int .i64 n, .bool g] w fun e w' => e = .returned (.bool true) ∧ Below w.heap.size w w' := by
  have cA := alive7_any w hT
  have HT := Lib.hid hT
  have cD := Lib.hid (fun y => dec_any n y (by omega))
  have hlen := decZ_len (n := n) (by omega)
  have cS := Lib.hid (fun y (hy : Tabs y) => split_any (txt (decZ n)) y (by rw [txt_len]; omega) hy)
  have HZ := Lib.hid (lex_decZ (n := n) (by omega))
  clear hT hlen
  have q1 : decide (n < -17179869184) = false := decide_eq_false (by omega)
  have q2 : decide (17179869184 < n) = false := decide_eq_false (by omega)
  have q3 : decide (n < 0) = true := decide_eq_true hn.2
  go_enter Tryd.func6, Tryd.ntmps6
  go_wp2_with fail
  refine cA.mono ?_; rintro e w1 ⟨rfl, hb1⟩
  have HB1 := Lib.hid hb1
  clear hb1
  go_wp2_with fail
  refine (cD.out _).mono ?_; rintro e w2 ⟨rfl, rfl⟩
  go_wp2_with fail
  refine (cS.out _ (HT.out.below HB1.out)).mono ?_
  rintro e w2 ⟨ho, hb2⟩
  have HB2 := Lib.hid (HB1.out.trans (hb2.mono HB1.out.size))
  change LexOut (lexZ (decZ n)) _ _ _ at ho
  rw [HZ.out, if_neg (by omega)] at ho
  obtain ⟨v, rfl, hown⟩ := ho
  obtain ⟨A, c, rfl⟩ := (Row.of_own hown).form
  obtain ⟨b, off, rfl, hgl, _⟩ := (Row.of_own hown).at_ (by simp)
  obtain ⟨d0, d1, _, _⟩ := (Row.of_own hown).tok (k := 0) (i := ⟨2, n, 0, decZ n⟩) rfl
  have d0' : w2.cell? ⟨b, off, none⟩ = some (.int .i64 2) := by simpa using d0
  have d1' : w2.cell? ⟨b, off + 1, none⟩ = some (.int .i64 n) := by simpa using d1
  have hl1 : [(⟨2, n, 0, decZ n⟩ : Tok)].length = 1 := rfl
  rw [hl1]
  have r1 : decide (n < -4294967296) = false := decide_eq_false (by omega)
  have r2 : decide (4294967296 < n) = false := decide_eq_false (by omega)
  clear d0 d1 hown hb2 HZ
  go_wp2_with (go_at_call 13; refine (num_any _ _).mono ?_; rintro e w9 ⟨rfl, rfl⟩)
  go_ret
  exact ⟨rfl, HB2.out⟩

set_option maxHeartbeats 2000000 in
theorem lexNumbers_pos (n : Nat) (g : Bool) (w : World) (hT : Tabs w) (hn : n ≤ 4294967296) (h0 : 0 < n) :
    Calls Tryd.prog 6 #[.int .i64 (n : Int), .bool g] w fun e w' => e = .returned (.bool true) ∧ Below w.heap.size w w' := by
  have cA := alive7_any w hT
  have HT := Lib.hid hT
  have cD := Lib.hid (fun y => dec_any (n : Int) y (by omega))
  have hlen := decZ_len (n := (n : Int)) (by omega)
  have cS := Lib.hid (fun y (hy : Tabs y) => split_any (txt (decZ (n : Int))) y (by rw [txt_len]; omega) hy)
  have HZ := Lib.hid (lex_decZ (n := (n : Int)) (by omega))
  clear hT hlen
  have q1 : decide ((n : Int) < -17179869184) = false := decide_eq_false (by omega)
  have q2 : decide (17179869184 < (n : Int)) = false := decide_eq_false (by omega)
  have q3 : decide ((n : Int) < 0) = false := decide_eq_false (by omega)
  have n0 : (0 : Int) < n := by omega
  have n1 : (n : Int) ≤ 4294967296 := by omega
  go_enter Tryd.func6, Tryd.ntmps6
  go_wp2_with fail
  refine cA.mono ?_; rintro e w1 ⟨rfl, hb1⟩
  have HB1 := Lib.hid hb1
  clear hb1
  go_wp2_with fail
  refine (cD.out _).mono ?_; rintro e w2 ⟨rfl, rfl⟩
  go_wp2_with fail
  refine (cS.out _ (HT.out.below HB1.out)).mono ?_
  rintro e w2 ⟨ho, hb2⟩
  have HB2 := Lib.hid (HB1.out.trans (hb2.mono HB1.out.size))
  change LexOut (lexZ (decZ (n : Int))) _ _ _ at ho
  rw [HZ.out, if_neg (by omega)] at ho
  obtain ⟨v, rfl, hown⟩ := ho
  obtain ⟨A, c, rfl⟩ := (Row.of_own hown).form
  obtain ⟨b, off, rfl, hgl, _⟩ := (Row.of_own hown).at_ (by simp)
  obtain ⟨d0, d1, _, _⟩ := (Row.of_own hown).tok (k := 0) (i := ⟨2, (n : Int), 0, decZ (n : Int)⟩) rfl
  have d0' : w2.cell? ⟨b, off, none⟩ = some (.int .i64 2) := by simpa using d0
  have d1' : w2.cell? ⟨b, off + 1, none⟩ = some (.int .i64 (n : Int)) := by simpa using d1
  have hl1 : [(⟨2, (n : Int), 0, decZ (n : Int)⟩ : Tok)].length = 1 := rfl
  rw [hl1]
  have r1 : decide ((n : Int) < -4294967296) = false := decide_eq_false (by omega)
  have r2 : decide (4294967296 < (n : Int)) = false := decide_eq_false (by omega)
  clear d0 d1 hown hb2 HZ
  cases g
  · have L1 := Lib.hid (lex_hex (g := false) hn)
    have hxl := hex_len (g := false) hn
    have cS2 := Lib.hid (fun y (hy : Tabs y) => split_any (txt (48 :: 120 :: digs 16 false n)) y (by rw [txt_len]; simp only [List.length_cons]; omega) hy)
    have HXL := Lib.hid hxl
    clear hxl
    go_wp2_with (go_at_call 13; refine (num_any _ _).mono ?_; rintro e w9 ⟨rfl, rfl⟩)
    go_loopw [10, 11] (fun q i wr => ∃ (x : Nat) (t : List UInt8), q = .string (txt t) ∧ i = .int .i64 x ∧ hexP false x ++ t = digs 16 false n ∧ (x = 0 → t ≠ []) ∧ x ≤ 4294967296 ∧ wr = w2) (fun _ i _ => (intOf i).toNat)
    case atStart => exact ⟨n, [], rfl, rfl, by rw [List.append_nil]; unfold hexP; rw [if_neg (by omega)], fun e => by omega, hn, rfl⟩
    case round =>
      obtain ⟨x, t, rfl, rfl, ht, hne, hx, rfl⟩ := hrel
      have HT2 := Lib.hid ht
      have htl : t.length ≤ 9 := by
        have := HXL.out
        rw [← ht, List.length_append] at this
        omega
      by_cases h0x : 0 < x
      · have HST := Lib.hid (hexP_step false h0x)
        obtain ⟨m, hm⟩ : ∃ m, m = x % 16 := ⟨_, rfl⟩
        have hm16 : m < 16 := by omega
        rw [← hm] at HST
        have hbit : bits .and .i64 (x : Int) 15 = (m : Int) := by rw [i64_and15]; omega
        have hc : (⟨#[48, 49, 50, 51, 52, 53, 54, 55, 56, 57, 97, 98, 99, 100, 101, 102]⟩ : ByteArray).extract m (m + 1) = txt [hexB false m] := hex_cut false m hm16
        have hcs : (⟨#[48, 49, 50, 51, 52, 53, 54, 55, 56, 57, 97, 98, 99, 100, 101, 102]⟩ : ByteArray).size = 16 := rfl
        have m0 : (0 : Int) ≤ m := by omega
        have m1 : (m : Int) + 1 ≤ 16 := by omega
        have x0 : decide (0 < (x : Int)) = true := decide_eq_true (by omega)
        have x0' : decide (0 < x) = true := decide_eq_true h0x
        have x1 : (x : Int) ≤ 4294967296 := by omega
        have x2 : (0 : Int) < x := by omega
        have hs1 := txt_len t
        have hs2 := txt_len [hexB false m]
        have HJ := Lib.hid (txt_join [hexB false m] t)
        have hsh : (x : Int) / 16 = ((x / 16 : Nat) : Int) := by omega
        have HX := Lib.hid (show x / 16 ≤ 4294967296 by omega)
        have HXX := Lib.hid (show x / 16 < x by omega)
        generalize hXT : txt t = XT at *
        generalize hYT : txt [hexB false m] = YT at *
        have hsum : ¬ (YT.size + XT.size > 9223372036854775807) := by rw [hs1, hs2]; simp; omega
        clear hm ht hne hs1 hs2 hXT hYT htl hsh
        go_wp2_with fail
        go_roundw
        case rel =>
          refine ⟨x / 16, hexB false m :: t, ?_, ?_, ?_, ?_, HX.out, ?_⟩
          · rw [HJ.out]; rfl
          · congr 1
          · have h1 := HT2.out
            rw [HST.out, List.append_assoc] at h1
            exact h1
          · intro _; simp
          · first | rfl | trivial
        case measure =>
          have h2 := HXX.out
          show ((x : Int) / 16).toNat < (x : Int).toNat
          omega
      · have hx0 : x = 0 := by omega
        subst hx0
        have hne' := hne rfl
        have hte : t = digs 16 false n := by
          have h1 := HT2.out
          rw [show hexP false 0 = [] from rfl, List.nil_append] at h1
          exact h1
        have hiso : (txt t).toList.isEmpty = false := by
          rw [Lib.toList_data]
          show t.isEmpty = false
          cases h : t with
          | nil => exact absurd h hne'
          | cons _ _ => rfl
        have hem : ((txt t).toList == []) = false := by
          rw [beq_eq_false_iff_ne]
          intro e
          rw [e] at hiso
          cases hiso
        have hem2 : ¬ (txt t).toList = [] := by
          intro e
          rw [e] at hiso
          cases hiso
        have hcat : (⟨#[48, 120]⟩ : ByteArray) ++ txt t = txt (48 :: 120 :: digs 16 false n) := by rw [← hte]; exact txt_join [48, 120] t
        have hs1 := txt_len t
        have hsum : ¬ ((⟨#[48, 120]⟩ : ByteArray).size + (txt t).size > 9223372036854775807) := by rw [hs1, show (⟨#[48, 120]⟩ : ByteArray).size = 2 from rfl]; omega
        clear hte hne hne' ht htl hs1 HXL
        generalize txt t = XT at *
        go_wp2_with fail
        refine (cS2.out _ (HT.out.below HB2.out)).mono ?_
        rintro e w3 ⟨ho, hb3⟩
        have HB3 := Lib.hid (HB2.out.trans (hb3.mono HB2.out.size))
        change LexOut (lexZ (48 :: 120 :: digs 16 false n)) _ _ _ at ho
        rw [L1.out] at ho
        obtain ⟨v, rfl, hown⟩ := ho
        obtain ⟨A, c2, rfl⟩ := (Row.of_own hown).form
        obtain ⟨b2, off2, rfl, hgl2, _⟩ := (Row.of_own hown).at_ (by simp)
        obtain ⟨_, e1, _, e3⟩ := (Row.of_own hown).tok (k := 0) (i := ⟨2, n, 0, 48 :: 120 :: digs 16 false n⟩) rfl
        have e1' : w3.cell? ⟨b2, off2 + 1, none⟩ = some (.int .i64 n) := by simpa using e1
        have e3' : w3.cell? ⟨b2, off2 + 3, none⟩ = some (.string (txt (48 :: 120 :: digs 16 false n))) := by simpa using e3
        have hl2 : [(⟨2, n, 0, 48 :: 120 :: digs 16 false n⟩ : Tok)].length = 1 := rfl
        rw [hl2]
        clear e1 e3 hown hb3
        generalize txt (48 :: 120 :: digs 16 false n) = SX at *
        go_wp2_with (go_at_call 13; refine (num_any _ _).mono ?_; rintro e w9 ⟨rfl, rfl⟩)
        go_ret
        exact ⟨by first | rfl | simp, HB3.out⟩
  · have L1 := Lib.hid (lex_hex (g := true) hn)
    have hxl := hex_len (g := true) hn
    have cS2 := Lib.hid (fun y (hy : Tabs y) => split_any (txt (48 :: 120 :: digs 16 true n)) y (by rw [txt_len]; simp only [List.length_cons]; omega) hy)
    have HXL := Lib.hid hxl
    clear hxl
    go_wp2_with (go_at_call 13; refine (num_any _ _).mono ?_; rintro e w9 ⟨rfl, rfl⟩)
    go_loopw [10, 11] (fun q i wr => ∃ (x : Nat) (t : List UInt8), q = .string (txt t) ∧ i = .int .i64 x ∧ hexP true x ++ t = digs 16 true n ∧ (x = 0 → t ≠ []) ∧ x ≤ 4294967296 ∧ wr = w2) (fun _ i _ => (intOf i).toNat)
    case atStart => exact ⟨n, [], rfl, rfl, by rw [List.append_nil]; unfold hexP; rw [if_neg (by omega)], fun e => by omega, hn, rfl⟩
    case round =>
      obtain ⟨x, t, rfl, rfl, ht, hne, hx, rfl⟩ := hrel
      have HT2 := Lib.hid ht
      have htl : t.length ≤ 9 := by
        have := HXL.out
        rw [← ht, List.length_append] at this
        omega
      by_cases h0x : 0 < x
      · have HST := Lib.hid (hexP_step true h0x)
        obtain ⟨m, hm⟩ : ∃ m, m = x % 16 := ⟨_, rfl⟩
        have hm16 : m < 16 := by omega
        rw [← hm] at HST
        have hbit : bits .and .i64 (x : Int) 15 = (m : Int) := by rw [i64_and15]; omega
        have hc : (⟨#[48, 49, 50, 51, 52, 53, 54, 55, 56, 57, 65, 66, 67, 68, 69, 70]⟩ : ByteArray).extract m (m + 1) = txt [hexB true m] := hex_cut true m hm16
        have hcs : (⟨#[48, 49, 50, 51, 52, 53, 54, 55, 56, 57, 65, 66, 67, 68, 69, 70]⟩ : ByteArray).size = 16 := rfl
        have m0 : (0 : Int) ≤ m := by omega
        have m1 : (m : Int) + 1 ≤ 16 := by omega
        have x0 : decide (0 < (x : Int)) = true := decide_eq_true (by omega)
        have x0' : decide (0 < x) = true := decide_eq_true h0x
        have x1 : (x : Int) ≤ 4294967296 := by omega
        have x2 : (0 : Int) < x := by omega
        have hs1 := txt_len t
        have hs2 := txt_len [hexB true m]
        have HJ := Lib.hid (txt_join [hexB true m] t)
        have hsh : (x : Int) / 16 = ((x / 16 : Nat) : Int) := by omega
        have HX := Lib.hid (show x / 16 ≤ 4294967296 by omega)
        have HXX := Lib.hid (show x / 16 < x by omega)
        generalize hXT : txt t = XT at *
        generalize hYT : txt [hexB true m] = YT at *
        have hsum : ¬ (YT.size + XT.size > 9223372036854775807) := by rw [hs1, hs2]; simp; omega
        clear hm ht hne hs1 hs2 hXT hYT htl hsh
        go_wp2_with fail
        go_roundw
        case rel =>
          refine ⟨x / 16, hexB true m :: t, ?_, ?_, ?_, ?_, HX.out, ?_⟩
          · rw [HJ.out]; rfl
          · congr 1
          · have h1 := HT2.out
            rw [HST.out, List.append_assoc] at h1
            exact h1
          · intro _; simp
          · first | rfl | trivial
        case measure =>
          have h2 := HXX.out
          show ((x : Int) / 16).toNat < (x : Int).toNat
          omega
      · have hx0 : x = 0 := by omega
        subst hx0
        have hne' := hne rfl
        have hte : t = digs 16 true n := by
          have h1 := HT2.out
          rw [show hexP true 0 = [] from rfl, List.nil_append] at h1
          exact h1
        have hiso : (txt t).toList.isEmpty = false := by
          rw [Lib.toList_data]
          show t.isEmpty = false
          cases h : t with
          | nil => exact absurd h hne'
          | cons _ _ => rfl
        have hem : ((txt t).toList == []) = false := by
          rw [beq_eq_false_iff_ne]
          intro e
          rw [e] at hiso
          cases hiso
        have hem2 : ¬ (txt t).toList = [] := by
          intro e
          rw [e] at hiso
          cases hiso
        have hcat : (⟨#[48, 120]⟩ : ByteArray) ++ txt t = txt (48 :: 120 :: digs 16 true n) := by rw [← hte]; exact txt_join [48, 120] t
        have hs1 := txt_len t
        have hsum : ¬ ((⟨#[48, 120]⟩ : ByteArray).size + (txt t).size > 9223372036854775807) := by rw [hs1, show (⟨#[48, 120]⟩ : ByteArray).size = 2 from rfl]; omega
        clear hte hne hne' ht htl hs1 HXL
        generalize txt t = XT at *
        go_wp2_with fail
        refine (cS2.out _ (HT.out.below HB2.out)).mono ?_
        rintro e w3 ⟨ho, hb3⟩
        have HB3 := Lib.hid (HB2.out.trans (hb3.mono HB2.out.size))
        change LexOut (lexZ (48 :: 120 :: digs 16 true n)) _ _ _ at ho
        rw [L1.out] at ho
        obtain ⟨v, rfl, hown⟩ := ho
        obtain ⟨A, c2, rfl⟩ := (Row.of_own hown).form
        obtain ⟨b2, off2, rfl, hgl2, _⟩ := (Row.of_own hown).at_ (by simp)
        obtain ⟨_, e1, _, e3⟩ := (Row.of_own hown).tok (k := 0) (i := ⟨2, n, 0, 48 :: 120 :: digs 16 true n⟩) rfl
        have e1' : w3.cell? ⟨b2, off2 + 1, none⟩ = some (.int .i64 n) := by simpa using e1
        have e3' : w3.cell? ⟨b2, off2 + 3, none⟩ = some (.string (txt (48 :: 120 :: digs 16 true n))) := by simpa using e3
        have hl2 : [(⟨2, n, 0, 48 :: 120 :: digs 16 true n⟩ : Tok)].length = 1 := rfl
        rw [hl2]
        clear e1 e3 hown hb3
        generalize txt (48 :: 120 :: digs 16 true n) = SX at *
        go_wp2_with (go_at_call 13; refine (num_any _ _).mono ?_; rintro e w9 ⟨rfl, rfl⟩)
        go_ret
        exact ⟨by first | rfl | simp, HB3.out⟩

set_option maxHeartbeats 2000000 in
theorem lexNumbers_zero (g : Bool) (w : World) (hT : Tabs w) :
    Calls Tryd.prog 6 #[.int .i64 (0 : Int), .bool g] w fun e w' => e = .returned (.bool true) ∧ Below w.heap.size w w' := by
  have cA := alive7_any w hT
  have HT := Lib.hid hT
  have cD := Lib.hid (fun y => dec_any (0 : Int) y (by omega))
  have hlen := decZ_len (n := (0 : Int)) (by omega)
  have cS := Lib.hid (fun y (hy : Tabs y) => split_any (txt (decZ (0 : Int))) y (by rw [txt_len]; omega) hy)
  have HZ := Lib.hid (lex_decZ (n := (0 : Int)) (by omega))
  clear hT hlen
  have q1 : decide ((0 : Int) < -17179869184) = false := decide_eq_false (by omega)
  have q2 : decide (17179869184 < (0 : Int)) = false := decide_eq_false (by omega)
  have q3 : decide ((0 : Int) < 0) = false := decide_eq_false (by omega)
  go_enter Tryd.func6, Tryd.ntmps6
  go_wp2_with fail
  refine cA.mono ?_; rintro e w1 ⟨rfl, hb1⟩
  have HB1 := Lib.hid hb1
  clear hb1
  go_wp2_with fail
  refine (cD.out _).mono ?_; rintro e w2 ⟨rfl, rfl⟩
  go_wp2_with fail
  refine (cS.out _ (HT.out.below HB1.out)).mono ?_
  rintro e w2 ⟨ho, hb2⟩
  have HB2 := Lib.hid (HB1.out.trans (hb2.mono HB1.out.size))
  change LexOut (lexZ (decZ (0 : Int))) _ _ _ at ho
  rw [HZ.out, if_neg (by omega)] at ho
  obtain ⟨v, rfl, hown⟩ := ho
  obtain ⟨A, c, rfl⟩ := (Row.of_own hown).form
  obtain ⟨b, off, rfl, hgl, _⟩ := (Row.of_own hown).at_ (by simp)
  obtain ⟨d0, d1, _, _⟩ := (Row.of_own hown).tok (k := 0) (i := ⟨2, (0 : Int), 0, decZ (0 : Int)⟩) rfl
  have d0' : w2.cell? ⟨b, off, none⟩ = some (.int .i64 2) := by simpa using d0
  have d1' : w2.cell? ⟨b, off + 1, none⟩ = some (.int .i64 (0 : Int)) := by simpa using d1
  have hl1 : [(⟨2, (0 : Int), 0, decZ (0 : Int)⟩ : Tok)].length = 1 := rfl
  rw [hl1]
  have r1 : decide ((0 : Int) < -4294967296) = false := decide_eq_false (by omega)
  have r2 : decide (4294967296 < (0 : Int)) = false := decide_eq_false (by omega)
  clear d0 d1 hown hb2 HZ
  cases g
  · have L1 : Hid (lexZ (48 :: 120 :: digs 16 false 0) = .toks [⟨2, (0 : Int), 0, 48 :: 120 :: digs 16 false 0⟩]) := lex_hex (g := false) (n := 0) (by omega)
    have cS2 := Lib.hid (fun y (hy : Tabs y) => split_any (txt (48 :: 120 :: digs 16 false 0)) y (by rw [txt_len, show digs 16 false 0 = [48] from by decide]; simp) hy)
    have hcat : (⟨#[48, 120]⟩ : ByteArray) ++ (⟨#[48]⟩ : ByteArray) = txt (48 :: 120 :: digs 16 false 0) := by decide
    have hcat0 : (⟨#[48]⟩ : ByteArray) ++ (⟨#[]⟩ : ByteArray) = ⟨#[48]⟩ := by decide
    have hc : (⟨#[48, 49, 50, 51, 52, 53, 54, 55, 56, 57, 97, 98, 99, 100, 101, 102]⟩ : ByteArray).extract 0 1 = (⟨#[48]⟩ : ByteArray) := by decide
    have hbit : bits .and .i64 (0 : Int) 15 = 0 := by decide
    have he0 : ((⟨#[]⟩ : ByteArray).toList == []) = true := by rw [Lib.toList_data]; decide
    have he1 : ((⟨#[48]⟩ : ByteArray).toList == []) = false := by rw [Lib.toList_data]; decide
    have hsum : ¬ ((⟨#[48, 120]⟩ : ByteArray).size + (⟨#[48]⟩ : ByteArray).size > 9223372036854775807) := by decide
    have hsum0 : ¬ ((⟨#[48]⟩ : ByteArray).size + (⟨#[]⟩ : ByteArray).size > 9223372036854775807) := by decide
    go_wp2_with (go_at_call 13; refine (num_any _ _).mono ?_; rintro e w9 ⟨rfl, rfl⟩)
    go_loopw [10, 11] (fun q i wr => (q = .string (⟨#[]⟩ : ByteArray) ∨ q = .string (⟨#[48]⟩ : ByteArray)) ∧ i = .int .i64 0 ∧ wr = w2) (fun q _ _ => match q with | .string s => 1 - s.size | _ => 0)
    case atStart => exact ⟨.inl rfl, rfl, rfl⟩
    case round =>
      obtain ⟨hq, rfl, rfl⟩ := hrel
      rcases hq with rfl | rfl
      · go_wp2_with fail
        go_roundw
        case rel => exact ⟨.inr rfl, rfl, by first | rfl | trivial⟩
        case measure => decide
      · generalize hSX : txt (48 :: 120 :: digs 16 false 0) = SX at hcat
        go_wp2_with fail
        subst hSX
        refine (cS2.out _ (HT.out.below HB2.out)).mono ?_
        rintro e w3 ⟨ho, hb3⟩
        have HB3 := Lib.hid (HB2.out.trans (hb3.mono HB2.out.size))
        change LexOut (lexZ (48 :: 120 :: digs 16 false 0)) _ _ _ at ho
        rw [L1.out] at ho
        obtain ⟨v, rfl, hown⟩ := ho
        obtain ⟨A, c2, rfl⟩ := (Row.of_own hown).form
        obtain ⟨b2, off2, rfl, hgl2, _⟩ := (Row.of_own hown).at_ (by simp)
        obtain ⟨_, e1, _, e3⟩ := (Row.of_own hown).tok (k := 0) (i := ⟨2, 0, 0, 48 :: 120 :: digs 16 false 0⟩) rfl
        have e1' : w3.cell? ⟨b2, off2 + 1, none⟩ = some (.int .i64 0) := by simpa using e1
        have e3' : w3.cell? ⟨b2, off2 + 3, none⟩ = some (.string (txt (48 :: 120 :: digs 16 false 0))) := by simpa using e3
        have hl2 : [(⟨2, 0, 0, 48 :: 120 :: digs 16 false 0⟩ : Tok)].length = 1 := rfl
        rw [hl2]
        clear e1 e3 hown hb3
        generalize txt (48 :: 120 :: digs 16 false 0) = SX at *
        go_wp2_with (go_at_call 13; refine (num_any _ _).mono ?_; rintro e w9 ⟨rfl, rfl⟩)
        go_ret
        exact ⟨by first | rfl | simp, HB3.out⟩
  · have L1 : Hid (lexZ (48 :: 120 :: digs 16 true 0) = .toks [⟨2, (0 : Int), 0, 48 :: 120 :: digs 16 true 0⟩]) := lex_hex (g := true) (n := 0) (by omega)
    have cS2 := Lib.hid (fun y (hy : Tabs y) => split_any (txt (48 :: 120 :: digs 16 true 0)) y (by rw [txt_len, show digs 16 true 0 = [48] from by decide]; simp) hy)
    have hcat : (⟨#[48, 120]⟩ : ByteArray) ++ (⟨#[48]⟩ : ByteArray) = txt (48 :: 120 :: digs 16 true 0) := by decide
    have hcat0 : (⟨#[48]⟩ : ByteArray) ++ (⟨#[]⟩ : ByteArray) = ⟨#[48]⟩ := by decide
    have hc : (⟨#[48, 49, 50, 51, 52, 53, 54, 55, 56, 57, 65, 66, 67, 68, 69, 70]⟩ : ByteArray).extract 0 1 = (⟨#[48]⟩ : ByteArray) := by decide
    have hbit : bits .and .i64 (0 : Int) 15 = 0 := by decide
    have he0 : ((⟨#[]⟩ : ByteArray).toList == []) = true := by rw [Lib.toList_data]; decide
    have he1 : ((⟨#[48]⟩ : ByteArray).toList == []) = false := by rw [Lib.toList_data]; decide
    have hsum : ¬ ((⟨#[48, 120]⟩ : ByteArray).size + (⟨#[48]⟩ : ByteArray).size > 9223372036854775807) := by decide
    have hsum0 : ¬ ((⟨#[48]⟩ : ByteArray).size + (⟨#[]⟩ : ByteArray).size > 9223372036854775807) := by decide
    go_wp2_with (go_at_call 13; refine (num_any _ _).mono ?_; rintro e w9 ⟨rfl, rfl⟩)
    go_loopw [10, 11] (fun q i wr => (q = .string (⟨#[]⟩ : ByteArray) ∨ q = .string (⟨#[48]⟩ : ByteArray)) ∧ i = .int .i64 0 ∧ wr = w2) (fun q _ _ => match q with | .string s => 1 - s.size | _ => 0)
    case atStart => exact ⟨.inl rfl, rfl, rfl⟩
    case round =>
      obtain ⟨hq, rfl, rfl⟩ := hrel
      rcases hq with rfl | rfl
      · go_wp2_with fail
        go_roundw
        case rel => exact ⟨.inr rfl, rfl, by first | rfl | trivial⟩
        case measure => decide
      · generalize hSX : txt (48 :: 120 :: digs 16 true 0) = SX at hcat
        go_wp2_with fail
        subst hSX
        refine (cS2.out _ (HT.out.below HB2.out)).mono ?_
        rintro e w3 ⟨ho, hb3⟩
        have HB3 := Lib.hid (HB2.out.trans (hb3.mono HB2.out.size))
        change LexOut (lexZ (48 :: 120 :: digs 16 true 0)) _ _ _ at ho
        rw [L1.out] at ho
        obtain ⟨v, rfl, hown⟩ := ho
        obtain ⟨A, c2, rfl⟩ := (Row.of_own hown).form
        obtain ⟨b2, off2, rfl, hgl2, _⟩ := (Row.of_own hown).at_ (by simp)
        obtain ⟨_, e1, _, e3⟩ := (Row.of_own hown).tok (k := 0) (i := ⟨2, 0, 0, 48 :: 120 :: digs 16 true 0⟩) rfl
        have e1' : w3.cell? ⟨b2, off2 + 1, none⟩ = some (.int .i64 0) := by simpa using e1
        have e3' : w3.cell? ⟨b2, off2 + 3, none⟩ = some (.string (txt (48 :: 120 :: digs 16 true 0))) := by simpa using e3
        have hl2 : [(⟨2, 0, 0, 48 :: 120 :: digs 16 true 0⟩ : Tok)].length = 1 := rfl
        rw [hl2]
        clear e1 e3 hown hb3
        generalize txt (48 :: 120 :: digs 16 true 0) = SX at *
        go_wp2_with (go_at_call 13; refine (num_any _ _).mono ?_; rintro e w9 ⟨rfl, rfl⟩)
        go_ret
        exact ⟨by first | rfl | simp, HB3.out⟩

theorem lexNumbers_walk (n : Int) (g : Bool) (w : World) (hT : Tabs w) (w0 : -9223372036854775808 ≤ n ∧ n ≤ 9223372036854775807) :
    Calls Tryd.prog 6 #[.int .i64 n, .bool g] w fun e w' => e = .returned (.bool true) ∧ Below w.heap.size w w' := by
  by_cases h1 : n < -17179869184 ∨ 17179869184 < n
  · exact lexNumbers_out n g w hT w0 h1
  · by_cases h2 : n < -4294967296 ∨ 4294967296 < n
    · exact lexNumbers_far n g w hT (by omega) h2
    · by_cases h3 : n < 0
      · exact lexNumbers_neg n g w hT (by omega)
      · obtain ⟨k, rfl⟩ := Int.eq_ofNat_of_zero_le (show 0 ≤ n by omega)
        by_cases h4 : k = 0
        · subst h4
          exact lexNumbers_zero g w hT
        · exact lexNumbers_pos k g w hT (by omega) (by omega)
end Go.Proofs.YtdjllgdeijdieaaDoor.Words

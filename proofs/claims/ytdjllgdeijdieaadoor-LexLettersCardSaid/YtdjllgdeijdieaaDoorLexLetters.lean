/- The walk of LexLetters: names have letters of any language, and a digit of another one ends nothing well. -/
import Derived.Test.YtdjllgdeijdieaaDoorLexTokEq
import Derived.Test.YtdjllgdeijdieaaDoorLexLetMath
import Derived.Deep.Cut
namespace Go.Proofs.YtdjllgdeijdieaaDoor.Words
set_option maxRecDepth 100000
open Go.RowKit Go.Shelf Go.Lib
set_option linter.unusedVariables false

set_option maxHeartbeats 400000 in
theorem lexLetters_out (A : Option Addr) (n c : Nat) (w : World) (hT : Tabs w) (h0 : n ≤ 9223372036854775807) (h : n < 1 ∨ 20 < n) :
    Calls Tryd.prog 8 #[.slice A n c] w fun e w' => e = .returned (.bool true) ∧ Below w.heap.size w w' := by
  have cA := alive7_any w hT
  have m0 : (n : Int) ≤ 9223372036854775807 := by omega
  clear hT
  go_enter Tryd.func8, Tryd.ntmps8
  go_wp2_with fail
  refine cA.mono ?_; rintro e w1 ⟨rfl, hb1⟩
  go_wp2
  all_goals first
    | (exfalso; omega)
    | (go_ret; exact ⟨rfl, hb1⟩)

/-- Which letter stands for a number at a place. -/
def pickZ (i : Nat) (x : Int) : Nat := if i = 0 ∧ (x % 8).toNat = 7 then 3 else (x % 8).toNat
theorem pickZ_lt (i : Nat) (x : Int) : pickZ i x < 8 := by unfold pickZ; split <;> omega
/-- Those of the first so many. -/
def picks (zs : List Int) (k : Nat) : List Nat := (List.range k).map fun i => pickZ i (zs.getD i 0)
theorem picks_succ {zs : List Int} {k : Nat} {x : Int} (h : zs[k]? = some x) : picks zs (k + 1) = picks zs k ++ [pickZ k x] := by
  unfold picks
  rw [List.range_succ, List.map_append]
  simp [List.getD_eq_getElem?_getD, h]
theorem picks_lt (zs : List Int) (k : Nat) : ∀ j ∈ picks zs k, j < 8 := by
  intro j hj
  unfold picks at hj
  rw [List.mem_map] at hj
  obtain ⟨i, _, rfl⟩ := hj
  exact pickZ_lt _ _
theorem picks_len (zs : List Int) (k : Nat) : (picks zs k).length = k := by simp [picks]
theorem picks_cons (zs : List Int) (k : Nat) (h : 1 ≤ k) : ∃ a r, picks zs k = a :: r ∧ a < 8 ∧ a ≠ 7 ∧ (∀ j ∈ r, j < 8) ∧ r.length + 1 = k := by
  obtain ⟨m, rfl⟩ : ∃ m, k = m + 1 := ⟨k - 1, by omega⟩
  have hl := picks_len zs (m + 1)
  have hlt := picks_lt zs (m + 1)
  have e : picks zs (m + 1) = pickZ 0 (zs.getD 0 0) :: ((List.range m).map Nat.succ).map (fun i => pickZ i (zs.getD i 0)) := by
    unfold picks
    rw [List.range_succ_eq_map, List.map_cons]
  rw [e] at hl hlt
  exact ⟨_, _, e, pickZ_lt _ _, by unfold pickZ; split <;> omega, fun j hj => hlt j (List.mem_cons_of_mem _ hj), by simp⟩
theorem txt_add (a b : List UInt8) : txt a ++ txt b = txt (a ++ b) := by
  apply txt_eq
  rw [ByteArray.data_append, Array.toList_append]
theorem piece_cell (w1 : World) (k : Nat) (h : k < 8) : (w1.alloc (.cells #[.string ⟨#[97]⟩, .string ⟨#[90]⟩, .string ⟨#[95]⟩, .string ⟨#[195, 169]⟩, .string ⟨#[208, 150]⟩, .string ⟨#[228, 184, 173]⟩, .string ⟨#[215, 144]⟩, .string ⟨#[55]⟩] 9)).cell? ⟨w1.heap.size, k, none⟩ = some (.string (txt (piece k))) := by
  match k, h with
  | 0, _ => go_simp; rfl
  | 1, _ => go_simp; rfl
  | 2, _ => go_simp; rfl
  | 3, _ => go_simp; rfl
  | 4, _ => go_simp; rfl
  | 5, _ => go_simp; rfl
  | 6, _ => go_simp; rfl
  | 7, _ => go_simp; rfl
  | n + 8, h => exact absurd h (by omega)

set_option maxHeartbeats 2000000 in
theorem lexLetters_in (A : Option Addr) (c : Nat) (zs : List Int) (w : World) (hT : Tabs w) (hz : Row w w.heap.size 1 (.slice A zs.length c) zs.length (zs.map (Value.int .i64))) (h1 : 1 ≤ zs.length) (h20 : zs.length ≤ 20) :
    Calls Tryd.prog 8 #[.slice A zs.length c] w fun e w' => e = .returned (.bool true) ∧ Below w.heap.size w w' := by
  have cA := alive7_any w hT
  have HT := Lib.hid hT
  obtain ⟨b, off, rfl, hbl, _⟩ := hz.at_ (by omega)
  obtain ⟨c1, c2⟩ := hz.cap
  have HCELL := Lib.hid (fun (x : World) (h : Below w.heap.size w x) (k : Nat) (hk : k < zs.length) => ((hz.below h).num k hk))
  have m0 : (1 : Int) ≤ zs.length := by omega
  have m1 : (zs.length : Int) ≤ 20 := by omega
  have m2 : decide ((zs.length : Int) < 1) = false := decide_eq_false (by omega)
  have m2' : decide (zs.length < 1) = false := decide_eq_false (by omega)
  have m3 : decide (20 < (zs.length : Int)) = false := decide_eq_false (by omega)
  have m3' : decide (20 < zs.length) = false := decide_eq_false (by omega)
  clear hT hz
  go_enter Tryd.func8, Tryd.ntmps8
  go_wp2_with fail
  refine cA.mono ?_; rintro e w1 ⟨rfl, hb1⟩
  have HB1 := Lib.hid hb1
  clear hb1
  go_wp2_with fail
  have HB2 := Lib.hid (HB1.out.alloc HB1.out.size (.cells #[.string ⟨#[97]⟩, .string ⟨#[90]⟩, .string ⟨#[95]⟩, .string ⟨#[195, 169]⟩, .string ⟨#[208, 150]⟩, .string ⟨#[228, 184, 173]⟩, .string ⟨#[215, 144]⟩, .string ⟨#[55]⟩] 9))
  have HP := Lib.hid (piece_cell w1)
  generalize w1.alloc (.cells #[.string ⟨#[97]⟩, .string ⟨#[90]⟩, .string ⟨#[95]⟩, .string ⟨#[195, 169]⟩, .string ⟨#[208, 150]⟩, .string ⟨#[228, 184, 173]⟩, .string ⟨#[215, 144]⟩, .string ⟨#[55]⟩] 9) = w2 at *
  go_loopw [5, 6, 7] (fun q i _ wr => ∃ (k : Nat), k ≤ zs.length ∧ q = .string (txt (word (picks zs k))) ∧ i = .int .i64 k ∧ wr = w2) (fun _ i _ _ => zs.length - (intOf i).toNat)
  case atStart => exact ⟨0, Nat.zero_le _, rfl, rfl, rfl⟩
  case round =>
    obtain ⟨k, hk, rfl, rfl, rfl⟩ := hrel
    by_cases hlt : k < zs.length
    · obtain ⟨x, hx⟩ : ∃ x, zs[k]? = some x := ⟨_, List.getElem?_eq_getElem hlt⟩
      have hcx := HCELL.out _ HB2.out k hlt
      rw [List.getD_eq_getElem?_getD, hx] at hcx
      have hcx' : wr.cell? ⟨b, off + k, none⟩ = some (.int .i64 x) := hcx
      have hbit : bits .and .i64 x 7 = ((x % 8).toNat : Int) := by rw [i64_and7]; omega
      have hm8 : (x % 8).toNat < 8 := by omega
      have hpk : pickZ k x = if k = 0 ∧ (x % 8).toNat = 7 then 3 else (x % 8).toNat := rfl
      have HWL := Lib.hid (word_len (picks_lt zs k))
      rw [picks_len] at HWL
      have HPL := Lib.hid (piece_len (pickZ k x) (pickZ_lt k x))
      have HADD : Hid (txt (word (picks zs k)) ++ txt (piece (pickZ k x)) = txt (word (picks zs (k + 1)))) := by
        show _ = _
        rw [txt_add, picks_succ hx, word_append]
        simp [word]
      have hs1 : (txt (word (picks zs k))).size ≤ 60 := by rw [← data_len]; show (word (picks zs k)).length ≤ _; have := HWL.out; omega
      have hs2 : (txt (piece (pickZ k x))).size ≤ 3 := by rw [← data_len]; show (piece (pickZ k x)).length ≤ _; have := HPL.out; omega
      have HKN := Lib.hid (show k + 1 ≤ zs.length from hlt)
      have kq : decide ((k : Int) < zs.length) = true := decide_eq_true (by omega)
      have kq2 : decide (k < zs.length) = true := decide_eq_true hlt
      have k0 : (0 : Int) ≤ k := by omega
      have k1 : (k : Int) < zs.length := by omega
      generalize (x % 8).toNat = m at *
      clear hcx hx HWL HPL
      have mb0 : (0 : Int) ≤ m := by omega
      have mb1 : (m : Int) < 8 := by omega
      by_cases h0 : k = 0 ∧ m = 7
      · rw [if_pos h0] at hpk
        rw [hpk] at HADD hs2
        have hk0 : ((k : Int) == 0) = true := by rw [beq_iff_eq]; omega
        have hm7 : ((m : Int) == 7) = true := by rw [beq_iff_eq]; omega
        have hp3 := HP.out 3 (by omega)
        generalize txt (word (picks zs k)) = SA at *
        generalize txt (piece 3) = SB at *
        have hsum : ¬ (SA.size + SB.size > 9223372036854775807) := by omega
        clear h0 hpk hs1 hs2
        go_wp2_with fail
        go_roundw
        case rel => exact ⟨k + 1, HKN.out, by rw [HADD.out], by go_num, by first | rfl | trivial⟩
        case measure => have := HKN.out; simp [intOf]; omega
      · rw [if_neg h0] at hpk
        rw [hpk] at HADD hs2
        have hpm := HP.out m hm8
        generalize txt (word (picks zs k)) = SA at *
        generalize txt (piece m) = SB at *
        have hsum : ¬ (SA.size + SB.size > 9223372036854775807) := by omega
        by_cases hk : k = 0
        · have hk0 : ((k : Int) == 0) = true := by rw [beq_iff_eq]; omega
          have hm7 : ((m : Int) == 7) = false := by rw [beq_eq_false_iff_ne]; intro e; exact h0 ⟨hk, by omega⟩
          clear h0 hpk hs1 hs2 hk
          go_wp2_with fail
          go_roundw
          case rel => exact ⟨k + 1, HKN.out, by rw [HADD.out], by go_num, by first | rfl | trivial⟩
          case measure => have := HKN.out; simp [intOf]; omega
        · have hk0 : ((k : Int) == 0) = false := by rw [beq_eq_false_iff_ne]; omega
          clear h0 hpk hs1 hs2 hk
          go_wp2_with fail
          go_roundw
          case rel => exact ⟨k + 1, HKN.out, by rw [HADD.out], by go_num, by first | rfl | trivial⟩
          case measure => have := HKN.out; simp [intOf]; omega
    · have hkn : k = zs.length := by omega
      subst hkn
      have kq : decide ((zs.length : Int) < zs.length) = false := decide_eq_false (by omega)
      have kq2 : decide (zs.length < zs.length) = false := decide_eq_false (by omega)
      obtain ⟨a, r, hp, ha8, ha7, hr8, hrl⟩ := picks_cons zs zs.length h1
      have L1 := Lib.hid (lex_letters ha8 ha7 hr8 (by omega))
      have L2 := Lib.hid (lex_other ha8 ha7 hr8 (by omega))
      have HWL := word_len (picks_lt zs zs.length)
      rw [picks_len] at HWL
      rw [← hp] at L1 L2
      clear hp
      generalize word (picks zs zs.length) = WD at *
      have hw60 : WD.length ≤ 60 := by omega
      have cS1 := Lib.hid (split_any (txt WD) wr (by rw [← data_len]; show WD.length ≤ _; omega) (HT.out.below HB2.out))
      have cS2 := Lib.hid (fun y (hy : Tabs y) => split_any (txt (WD ++ [217, 163])) y (by rw [← data_len]; show (WD ++ [217, 163]).length ≤ _; rw [List.length_append]; simp; omega) hy)
      have HTX := Lib.hid (show txt WD ++ ⟨#[217, 163]⟩ = txt (WD ++ [217, 163]) from txt_add WD [217, 163])
      have hszw : (txt WD).size = WD.length := by rw [← data_len]
      go_wp2_with fail
      refine cS1.out.mono ?_
      rintro e w3 ⟨ho, hb3⟩
      change LexOut (lexZ WD) _ _ _ at ho
      rw [L1.out] at ho
      obtain ⟨v, rfl, hown⟩ := ho
      obtain ⟨A3, c3, rfl⟩ := (Row.of_own hown).form
      have HB3 := Lib.hid (HB2.out.trans (hb3.mono HB2.out.size))
      obtain ⟨g, og, rfl, hgl, _⟩ := (Row.of_own hown).at_ (by simp)
      have HO3 := Lib.hid (Row.of_own hown)
      clear hown hb3
      have hsum : ¬ ((txt WD).size + (⟨#[217, 163]⟩ : ByteArray).size > 9223372036854775807) := by
        have : (⟨#[217, 163]⟩ : ByteArray).size = 2 := rfl
        omega
      have hl1 : [(⟨1, 0, 0, WD⟩ : Tok)].length = 1 := rfl
      rw [hl1]
      go_wp2_with fail
      rw [HTX.out]
      refine (cS2.out _ (HT.out.below HB3.out)).mono ?_
      rintro e w4 ⟨ho, hb4⟩
      change LexOut (lexZ (WD ++ [217, 163])) _ _ _ at ho
      rw [L2.out] at ho
      change _ = _ at ho
      subst ho
      have HB4 := Lib.hid (HB3.out.trans (hb4.mono HB3.out.size))
      obtain ⟨d0, d1, d2, d3⟩ := (HO3.out.below hb4).tok (k := 0) (i := ⟨1, 0, 0, WD⟩) rfl
      have d0' : w4.cell? ⟨g, og, none⟩ = some (.int .i64 1) := by simpa using d0
      have d1' : w4.cell? ⟨g, og + 1, none⟩ = some (.int .i64 0) := by simpa using d1
      have d2' : w4.cell? ⟨g, og + 2, none⟩ = some (.int .i64 0) := by simpa using d2
      have d3' : w4.cell? ⟨g, og + 3, none⟩ = some (.string (txt WD)) := by simpa using d3
      have q : ∀ w, (binOp .eql 33 (.agg #[.int .i64 1, .int .i64 0, .int .i64 0, .string (txt WD)]) (.agg #[.int .i64 1, .int .i64 0, .int .i64 0, .string (txt WD)])).run Tryd.prog w = .ok (.bool true) w := fun w => by
        have := eql_tok ⟨1, 0, 0, WD⟩ ⟨1, 0, 0, WD⟩ w
        rw [decide_eq_true rfl] at this
        exact this
      clear d0 d1 d2 d3 hb4 hsum
      go_wp2_with (go_at_call 13; refine (num_any _ _).mono ?_; rintro e w5 ⟨rfl, rfl⟩)
      go_ret
      exact ⟨rfl, HB4.out⟩

theorem lexLetters_walk (v0 : Value) (n0 : Nat) (z0 : List Int) (w : World) (hT : Tabs w) (r0 : Row w w.heap.size 1 v0 n0 (z0.map (Value.int .i64))) (g0 : ∀ x ∈ z0, -9223372036854775808 ≤ x ∧ x ≤ 9223372036854775807) :
    Calls Tryd.prog 8 #[v0] w fun e w' => e = .returned (.bool true) ∧ Below w.heap.size w w' := by
  obtain ⟨A, c, rfl⟩ := r0.form
  have hl : z0.length = n0 := by have := r0.len; simpa using this
  subst hl
  obtain ⟨c1, c2⟩ := r0.cap
  by_cases h : z0.length < 1 ∨ 20 < z0.length
  · exact lexLetters_out A z0.length c w hT (by omega) h
  · exact lexLetters_in A c z0 w hT r0 (by omega) (by omega)
end Go.Proofs.YtdjllgdeijdieaaDoor.Words

/- The law's same of two rows of places that are one; the law's example; lists handed on. -/
import Derived.Test.YtpoigbgdaiopmaaSltPop
import Derived.Test.YtpoigbgdaiopmaaSltFill
import Derived.Test.YtpoigbgdaiopmaaStaEq
import Derived.BigQuiet
namespace Go.Proofs.Ytpoigbgdaiopmaa.Words
set_option maxRecDepth 100000
open Go.RowKit
set_option linter.unusedVariables false
set_option linter.unusedSimpArgs false

theorem on_belowS {w a z : World} (hB : Below w.heap.size w a) (hb : Below a.heap.size a z) : Below w.heap.size w z := Below.trans hB (hb.mono hB.size)
set_option maxHeartbeats 1000000 in
/-- Two rows of the same places are one. -/
theorem same_yes16 (l : List Slt) (n : Nat) (w : World) (va vb : Value) (hn : l.length = n) (ha : Row w w.heap.size 3 va n (flat sltL l)) (hb : Row w w.heap.size 3 vb n (flat sltL l)) :
    Calls Try.prog 13 #[va, vb] w fun e w' => e = .returned (.bool true) ∧ Below w.heap.size w w' := by
  obtain ⟨A1, c1, rfl⟩ := ha.form
  obtain ⟨A2, c2, rfl⟩ := hb.form
  have HA := Lib.hid ha
  have HB := Lib.hid hb
  have HN := Lib.hid hn
  obtain ⟨u1, u2⟩ := ha.cap
  have u3 : (n : Int) ≤ 9223372036854775807 := by omega
  clear ha hb hn u1 u2
  go_enter Try.func13, Try.ntmps13
  go_wp2_with fail
  go_loopw [5] (fun i wr => ∃ (k : Nat), k ≤ n ∧ i = .int .i64 k ∧ Below w.heap.size w wr) (fun i _ => n - (intOf i).toNat)
  case atStart => exact ⟨0, Nat.zero_le _, rfl, Below.refl _ _⟩
  case round =>
    obtain ⟨k, hk, rfl, hBel⟩ := hrel
    have HBr := Lib.hid hBel
    have HK := Lib.hid hk
    by_cases hlt : k < n
    · obtain ⟨g1, o1, rfl, hg1, _⟩ := HA.out.at_ (by omega)
      obtain ⟨g2, o2, rfl, hg2, _⟩ := HB.out.at_ (by omega)
      obtain ⟨x, hx⟩ : ∃ x, l[k]? = some x := ⟨_, List.getElem?_eq_getElem (by rw [HN.out]; exact hlt)⟩
      obtain ⟨a0, a1, a2⟩ := (HA.out.below HBr.out).slt hx
      obtain ⟨b0, b1, b2⟩ := (HB.out.below HBr.out).slt hx
      have hz1 : g1 < wr.heap.size := Nat.lt_of_lt_of_le hg1 HBr.out.size
      have hz2 : g2 < wr.heap.size := Nat.lt_of_lt_of_le hg2 HBr.out.size
      have k0 : (0 : Int) ≤ k := by omega
      have k1 : (k : Int) < n := by omega
      clear hk hBel hx
      go_wp2_with fail
      go_quiet (fail)
      go_wp2_with fail
      go_roundw
      case rel => exact ⟨k + 1, by omega, by go_num, Below.drewN_ HBr.out _⟩
      case measure => simp only [intOf]; omega
    · clear hk hBel
      go_wp2_with fail
      go_ret
      exact ⟨rfl, HBr.out⟩
theorem SltsOut.row {w w' : World} {l : List Slt} {mk : Value → Value} {e : Ending} (h : SltsOut w l mk e w') : ∃ A c, e = .returned (mk (.slice A l.length c)) ∧ Row w' w'.heap.size 3 (.slice A l.length c) l.length (flat sltL l) ∧ w'.ownsRow w.heap.size 37 3 (.slice A l.length c) l.length (flat sltL l) ∧ Below w.heap.size w w' := by
  obtain ⟨v, rfl, ho, hb⟩ := h
  obtain ⟨A, c, rfl⟩ := (Row.of_own ho).form
  exact ⟨A, c, rfl, Row.of_own ho, ho, hb⟩
set_option maxHeartbeats 1000000 in
theorem alive16_any (w : World) : Calls Try.prog 6 #[] w fun e w' => e = .returned (.bool true) ∧ Below w.heap.size w w' := by
  go_enter Try.func6, Try.ntmps6
  go_wp2_with fail
  refine (popSlot_any none 0 [] _ (Row.nil _ _ _) (by simp)).mono ?_
  rintro e w1 ho
  obtain ⟨A1, c1, rfl, hr1, _, hb1⟩ := ho.row
  have B1 := Lib.hid hb1
  clear ho hr1 hb1
  go_wp2_with fail
  refine (reserve_any none 0 [] 1 5 _ (Row.nil _ _ _) (by simp)).mono ?_
  rintro e w2 ho
  obtain ⟨A2, c2, rfl, hr2, _, hb2⟩ := ho.row
  have B2 := Lib.hid (on_belowS B1.out hb2)
  have R2 := Lib.hid hr2
  clear ho hr2 hb2 B1
  go_wp2_with fail
  refine (fillS_any A2 c2 _ 5 9 _ R2.out (by decide)).mono ?_
  rintro e w3 ho
  obtain ⟨A3, c3, rfl, hr3, _, hb3⟩ := ho.row
  have B3 := Lib.hid (on_belowS B2.out hb3)
  have R3 := Lib.hid hr3
  clear ho hr3 hb3 B2 R2
  go_wp2_with fail
  refine (popSlot_any A3 c3 _ _ R3.out (by decide)).mono ?_
  rintro e w4 ho
  obtain ⟨A4, c4, rfl, hr4, _, hb4⟩ := ho.row
  have B4 := Lib.hid (on_belowS B3.out hb4)
  clear ho hr4 hb4 B3 R3
  have q1 : canZ [] = false := rfl
  have q2 : roomZ [] 1 = true := rfl
  have q3 : hasZ 5 (reserveZ [] 1 5) = true := rfl
  have q4 : canZ (fillZ 5 9 (reserveZ [] 1 5)) = true := rfl
  have q5 : popV (fillZ 5 9 (reserveZ [] 1 5)) = 9 := rfl
  simp only [q1, q2, q3, q4, q5]
  go_wp2_with fail
  go_ret
  exact ⟨rfl, B4.out⟩
end Go.Proofs.Ytpoigbgdaiopmaa.Words

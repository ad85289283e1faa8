/- The law's same of two rows of entries that are one; the law's example. -/
import Derived.Test.YtjkijjbakocilaaSaqAny
import Derived.BigQuiet
namespace Go.Proofs.Ytjkijjbakocilaa.Words
set_option maxRecDepth 100000
open Go.RowKit
set_option linter.unusedVariables false
set_option linter.unusedSimpArgs false

theorem on_belowE {w a z : World} (hB : Below w.heap.size w a) (hb : Below a.heap.size a z) : Below w.heap.size w z := Below.trans hB (hb.mono hB.size)
set_option maxHeartbeats 1000000 in
/-- Two rows of the same places are one. -/
theorem same_yes17 (l : List Ent) (n : Nat) (w : World) (va vb : Value) (hn : l.length = n) (ha : Row w w.heap.size 5 va n (flat entL l)) (hb : Row w w.heap.size 5 vb n (flat entL l)) :
    Calls Try.prog 14 #[va, vb] w fun e w' => e = .returned (.bool true) ∧ Below w.heap.size w w' := by
  obtain ⟨A1, c1, rfl⟩ := ha.form
  obtain ⟨A2, c2, rfl⟩ := hb.form
  have HA := Lib.hid ha
  have HB := Lib.hid hb
  have HN := Lib.hid hn
  obtain ⟨u1, u2⟩ := ha.cap
  have u3 : (n : Int) ≤ 9223372036854775807 := by omega
  clear ha hb hn u1 u2
  go_enter Try.func14, Try.ntmps14
  go_wp2_with fail
  go_loopw [5] (fun i wr => ∃ (k : Nat), k ≤ n ∧ i = .int .i64 k ∧ Below w.heap.size w wr) (fun i _ => n - (intOf i).toNat)
  case atStart => exact ⟨0, Nat.zero_le _, rfl, Below.refl _ _⟩
  case round =>
    obtain ⟨k, hk, rfl, hBel⟩ := hrel
    have HBr := Lib.hid hBel
    have HK := Lib.hid hk
    by_cases hlt : k < n
    · obtain ⟨g1, o1, rfl, hg1, _⟩ := HA.out.at_ (by omega)
      obtain ⟨g2, o2, rfl, hg2, _⟩ := HB.out.at_ (by omega)
      obtain ⟨x, hx⟩ : ∃ x, l[k]? = some x := ⟨_, List.getElem?_eq_getElem (by rw [HN.out]; exact hlt)⟩
      obtain ⟨a0, a1, a2, a3, a4⟩ := (HA.out.below HBr.out).ent hx
      obtain ⟨b0, b1, b2, b3, b4⟩ := (HB.out.below HBr.out).ent hx
      have hz1 : g1 < wr.heap.size := Nat.lt_of_lt_of_le hg1 HBr.out.size
      have hz2 : g2 < wr.heap.size := Nat.lt_of_lt_of_le hg2 HBr.out.size
      have k0 : (0 : Int) ≤ k := by omega
      have k1 : (k : Int) < n := by omega
      clear hk hBel hx
      go_wp2_with fail
      go_quiet (fail)
      go_wp2_with fail
      go_roundw
      case rel => exact ⟨k + 1, by omega, by go_num, Below.drewN_ HBr.out _⟩
      case measure => simp only [intOf]; omega
    · clear hk hBel
      go_wp2_with fail
      go_ret
      exact ⟨rfl, HBr.out⟩
theorem EntsOut.row {w w' : World} {l : List Ent} {mk : Value → Value} {e : Ending} (h : EntsOut w l mk e w') : ∃ A c, e = .returned (mk (.slice A l.length c)) ∧ Row w' w'.heap.size 5 (.slice A l.length c) l.length (flat entL l) ∧ w'.ownsRow w.heap.size 25 5 (.slice A l.length c) l.length (flat entL l) ∧ Below w.heap.size w w' := by
  obtain ⟨v, rfl, ho, hb⟩ := h
  obtain ⟨A, c, rfl⟩ := (Row.of_own ho).form
  exact ⟨A, c, rfl, Row.of_own ho, ho, hb⟩
theorem box_storedE {w2 w3 : World} {v : List Value} {t : TypeId} (hg : (w2.alloc (.cells v.toArray t)).grownBy w3 (some w2.heap.size)) : Below w2.heap.size w2 w3 :=
  Below.grown ((Below.refl _ _).alloc (Nat.le_refl _) _) hg (by simp) (fun q hq => by injection hq with hq; omega)
theorem ent_one (x : Ent) : ∀ v ∈ [Value.int .i64 x.addr, .int .i64 x.size, .int .i64 x.step, .bool x.known, .int .u32 x.val], v.oneCell' = true := by simp [Value.oneCell']
theorem found_eq (l : List Ent) (addr size : Int) : foundZ l addr size = .tuple #[.agg #[.int .i64 (searchL addr size l).addr, .int .i64 (searchL addr size l).size, .int .i64 (searchL addr size l).step, .bool (searchL addr size l).known, .int .u32 (searchL addr size l).val], .bool (thereE addr size l)] := rfl
set_option maxHeartbeats 2000000 in
theorem alive17_any (w : World) : Calls Try.prog 7 #[] w fun e w' => e = .returned (.bool true) ∧ Below w.heap.size w w' := by
  go_enter Try.func7, Try.ntmps7
  go_wp2_with fail
  refine (search_any17 none 0 [] 0 4 _ (Row.nil _ _ _) (by simp) (by simp) (by omega) (by omega)).mono ?_
  rintro e w1 ⟨rfl, hb1⟩
  rw [show foundZ [] 0 4 = .tuple #[.agg #[.int .i64 0, .int .i64 0, .int .i64 0, .bool false, .int .u32 0], .bool false] from rfl]
  have B1 := Lib.hid hb1
  clear hb1
  try dsimp only
  go_wp2_with (first
    | (refine wpList_store_box rfl 25 (.tmp 1) (.tmp 9) rfl w1.heap.size 0 [.int .i64 0, .int .i64 0, .int .i64 0, .bool false, .int .u32 0] rfl rfl _ (Box.new w1 (entL noE) 25) (by decide) 5 (by kernel_rfl) rfl (by simp [Value.oneCell']) ?_; intro w2 hX2 hg2; have B2 := Lib.hid (B1.out.trans ((box_storedE hg2).mono B1.out.size)); clear hX2 hg2))
  refine (search_any17 (some ⟨w2.heap.size, 0, none⟩) 1 [⟨4, 4, 0, true, 128⟩] 6 1 _ (by simpa using row_ent w2 ⟨4, 4, 0, true, 128⟩) (by intro x hx; simp only [List.mem_singleton] at hx; subst hx; unfold Ent.Fits; simp) (by simp) (by omega) (by omega)).mono ?_
  rintro e w3 ⟨rfl, hb3⟩
  rw [show foundZ [⟨4, 4, 0, true, 128⟩] 6 1 = .tuple #[.agg #[.int .i64 4, .int .i64 4, .int .i64 0, .bool true, .int .u32 128], .bool true] from rfl]
  have B3 := Lib.hid (B2.out.trans ((((Below.refl w2.heap.size w2).alloc (Nat.le_refl _) _).trans (hb3.mono (by simp))).mono B2.out.size))
  clear hb3
  try dsimp only
  go_wp2_with (first
    | (refine wpList_store_box rfl 25 (.tmp 3) (.tmp 15) rfl w3.heap.size 0 [.int .i64 4, .int .i64 4, .int .i64 0, .bool true, .int .u32 128] rfl rfl _ (Box.new w3 (entL noE) 25) (by decide) 5 (by kernel_rfl) rfl (by simp [Value.oneCell']) ?_; intro w4 hX2 hg2; have B4 := Lib.hid (B3.out.trans ((box_storedE hg2).mono B3.out.size)); have HX4 := Lib.hid hX2; clear hX2 hg2))
  refine (bypass_any17 ⟨4, 1, 0, true, 128⟩ 29 4 _ (by unfold Ent.Fits; simp)).mono ?_
  rintro e w5 ⟨rfl, hb5⟩
  rw [show bypV ⟨4, 1, 0, true, 128⟩ 29 4 = 4294967168 from rfl, show bypB ⟨4, 1, 0, true, 128⟩ 29 4 = true from rfl]
  have B5 := Lib.hid (B4.out.trans (hb5.mono B4.out.size))
  have q0 : w5.cell? ⟨w3.heap.size, 0, none⟩ = some (.int .i64 4) := (HX4.out.below hb5 HX4.out.lt).cell rfl
  clear hb5
  try dsimp only
  go_wp2_with fail
  refine (mask_any17 74565 2 _ (by omega) (by omega)).mono ?_
  rintro e _ ⟨rfl, rfl⟩
  rw [show maskZ 74565 2 = 9029 from rfl]
  try dsimp only
  go_wp2_with fail
  go_ret
  exact ⟨rfl, B5.out⟩
end Go.Proofs.Ytjkijjbakocilaa.Words

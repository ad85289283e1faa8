/- The walk of ShowApart: no two instructions are shown alike. -/
import Derived.Test.YtfdegdbknponkaaDoorG11
import Derived.Test.YtfdegdbknponkaaDoorG09
import Derived.Test.YtfdegdbknponkaaDoorG07
import Derived.Test.YtfdegdbknponkaaDoorG06
namespace Go.Proofs.YtfdegdbknponkaaDoor.Words
set_option maxRecDepth 100000
open Go.RowKit Go.Shelf Go.Lib
set_option linter.unusedVariables false
set_option linter.unusedSimpArgs false

theorem txt_eqD (a b : List UInt8) : ((txt a).toList == (txt b).toList) = decide (a = b) := by
  rw [Lib.toList_data, Lib.toList_data, txt_data, txt_data]
  by_cases h : a = b <;> simp [h]
theorem txt_neB {a : List UInt8} (h : a ≠ []) : ((txt a).toList == []) = false := by
  rw [beq_eq_false_iff_ne, Lib.toList_data, txt_data]; exact h
set_option maxHeartbeats 2000000 in
theorem apart_no1 (i k : Ins) (a b : Int) (w : World) (hT : TabsS w) (hr : rightB i = false) :
    Calls Tryd.prog 10 #[.agg #[.int .i64 i.op, .int .i64 i.d, .int .i64 i.a, .int .i64 i.b, .int .i64 i.imm], .agg #[.int .i64 k.op, .int .i64 k.d, .int .i64 k.a, .int .i64 k.b, .int .i64 k.imm], .int .i64 a, .int .i64 b] w fun e w' => e = .returned (.bool true) ∧ Below w.heap.size w w' := by
  have cI := fun y => rightIns_any i y
  rw [hr] at cI
  have CI := Lib.hid cI
  clear cI
  have cA := fun y (hy : TabsS y) => alive9_any y hy
  have CA := Lib.hid cA
  clear cA
  have hB0 : w.heap.size + 1 < ((w.alloc (.cells #[.int .i64 i.op, .int .i64 i.d, .int .i64 i.a, .int .i64 i.b, .int .i64 i.imm] 38)).alloc (.cells #[.int .i64 k.op, .int .i64 k.d, .int .i64 k.a, .int .i64 k.b, .int .i64 k.imm] 38)).heap.size := by simp
  have HT0 := Lib.hid ((hT.below ((Below.refl w.heap.size w).alloc (Nat.le_refl _) (.cells #[.int .i64 i.op, .int .i64 i.d, .int .i64 i.a, .int .i64 i.b, .int .i64 i.imm] 38))).below ((Below.refl _ _).alloc (Nat.le_refl _) (.cells #[.int .i64 k.op, .int .i64 k.d, .int .i64 k.a, .int .i64 k.b, .int .i64 k.imm] 38)))
  have HB0 := Lib.hid (((Below.refl w.heap.size w).alloc (Nat.le_refl _) (.cells #[.int .i64 i.op, .int .i64 i.d, .int .i64 i.a, .int .i64 i.b, .int .i64 i.imm] 38)).alloc (by simp) (.cells #[.int .i64 k.op, .int .i64 k.d, .int .i64 k.a, .int .i64 k.b, .int .i64 k.imm] 38))
  have HI0 := Lib.hid ((Box.new w [.int .i64 i.op, .int .i64 i.d, .int .i64 i.a, .int .i64 i.b, .int .i64 i.imm] 38).alloc (.cells #[.int .i64 k.op, .int .i64 k.d, .int .i64 k.a, .int .i64 k.b, .int .i64 k.imm] 38))
  have hk0 := Box.new (w.alloc (.cells #[.int .i64 i.op, .int .i64 i.d, .int .i64 i.a, .int .i64 i.b, .int .i64 i.imm] 38)) [.int .i64 k.op, .int .i64 k.d, .int .i64 k.a, .int .i64 k.b, .int .i64 k.imm] 38
  rw [show (w.alloc (.cells #[.int .i64 i.op, .int .i64 i.d, .int .i64 i.a, .int .i64 i.b, .int .i64 i.imm] 38)).heap.size = w.heap.size + 1 by simp] at hk0
  have HK0 := Lib.hid hk0
  change Hid (Box ((w.alloc (.cells #[.int .i64 i.op, .int .i64 i.d, .int .i64 i.a, .int .i64 i.b, .int .i64 i.imm] 38)).alloc (.cells #[.int .i64 k.op, .int .i64 k.d, .int .i64 k.a, .int .i64 k.b, .int .i64 k.imm] 38)) w.heap.size _) at HI0
  change Hid (Box ((w.alloc (.cells #[.int .i64 i.op, .int .i64 i.d, .int .i64 i.a, .int .i64 i.b, .int .i64 i.imm] 38)).alloc (.cells #[.int .i64 k.op, .int .i64 k.d, .int .i64 k.a, .int .i64 k.b, .int .i64 k.imm] 38)) (w.heap.size + 1) _) at HK0
  clear hk0 hT
  go_enter Tryd.func10, Tryd.ntmps10
  go_wp2_with fail
  generalize ((w.alloc (.cells #[.int .i64 i.op, .int .i64 i.d, .int .i64 i.a, .int .i64 i.b, .int .i64 i.imm] 38)).alloc (.cells #[.int .i64 k.op, .int .i64 k.d, .int .i64 k.a, .int .i64 k.b, .int .i64 k.imm] 38)) = W at *
  refine (CA.out _ HT0.out).mono ?_; rintro e w1 ⟨rfl, hb1⟩
  have k1 : Kept W w1 := (Kept.refl _).to hb1
  clear hb1
  have zi0 := (HI0.out.below k1 (by omega)).cell (k := 0) rfl
  have zi1 := (HI0.out.below k1 (by omega)).cell (k := 1) rfl
  have zi2 := (HI0.out.below k1 (by omega)).cell (k := 2) rfl
  have zi3 := (HI0.out.below k1 (by omega)).cell (k := 3) rfl
  have zi4 := (HI0.out.below k1 (by omega)).cell (k := 4) rfl
  have zk0 := (HK0.out.below k1 (by omega)).cell (k := 0) rfl
  have zk1 := (HK0.out.below k1 (by omega)).cell (k := 1) rfl
  have zk2 := (HK0.out.below k1 (by omega)).cell (k := 2) rfl
  have zk3 := (HK0.out.below k1 (by omega)).cell (k := 3) rfl
  have zk4 := (HK0.out.below k1 (by omega)).cell (k := 4) rfl
  go_wp2_with fail
  refine (CI.out _).mono ?_; rintro e w2 ⟨rfl, hb2⟩
  have k2 := k1.to hb2
  clear hb2
  clear zi0 zi1 zi2 zi3 zi4 zk0 zk1 zk2 zk3 zk4
  go_wp2_with fail
  go_ret
  exact ⟨by first | rfl | simp, HB0.out.trans (Below.mono k2 (by omega))⟩

set_option maxHeartbeats 2000000 in
theorem apart_no2 (i k : Ins) (a b : Int) (w : World) (hT : TabsS w) (hr : rightB i = true) (hk : rightB k = false) :
    Calls Tryd.prog 10 #[.agg #[.int .i64 i.op, .int .i64 i.d, .int .i64 i.a, .int .i64 i.b, .int .i64 i.imm], .agg #[.int .i64 k.op, .int .i64 k.d, .int .i64 k.a, .int .i64 k.b, .int .i64 k.imm], .int .i64 a, .int .i64 b] w fun e w' => e = .returned (.bool true) ∧ Below w.heap.size w w' := by
  have cI := fun y => rightIns_any i y
  rw [hr] at cI
  have CI := Lib.hid cI
  have cK := fun y => rightIns_any k y
  rw [hk] at cK
  have CK := Lib.hid cK
  clear cI cK
  have cA := fun y (hy : TabsS y) => alive9_any y hy
  have CA := Lib.hid cA
  clear cA
  have hB0 : w.heap.size + 1 < ((w.alloc (.cells #[.int .i64 i.op, .int .i64 i.d, .int .i64 i.a, .int .i64 i.b, .int .i64 i.imm] 38)).alloc (.cells #[.int .i64 k.op, .int .i64 k.d, .int .i64 k.a, .int .i64 k.b, .int .i64 k.imm] 38)).heap.size := by simp
  have HT0 := Lib.hid ((hT.below ((Below.refl w.heap.size w).alloc (Nat.le_refl _) (.cells #[.int .i64 i.op, .int .i64 i.d, .int .i64 i.a, .int .i64 i.b, .int .i64 i.imm] 38))).below ((Below.refl _ _).alloc (Nat.le_refl _) (.cells #[.int .i64 k.op, .int .i64 k.d, .int .i64 k.a, .int .i64 k.b, .int .i64 k.imm] 38)))
  have HB0 := Lib.hid (((Below.refl w.heap.size w).alloc (Nat.le_refl _) (.cells #[.int .i64 i.op, .int .i64 i.d, .int .i64 i.a, .int .i64 i.b, .int .i64 i.imm] 38)).alloc (by simp) (.cells #[.int .i64 k.op, .int .i64 k.d, .int .i64 k.a, .int .i64 k.b, .int .i64 k.imm] 38))
  have HI0 := Lib.hid ((Box.new w [.int .i64 i.op, .int .i64 i.d, .int .i64 i.a, .int .i64 i.b, .int .i64 i.imm] 38).alloc (.cells #[.int .i64 k.op, .int .i64 k.d, .int .i64 k.a, .int .i64 k.b, .int .i64 k.imm] 38))
  have hk0 := Box.new (w.alloc (.cells #[.int .i64 i.op, .int .i64 i.d, .int .i64 i.a, .int .i64 i.b, .int .i64 i.imm] 38)) [.int .i64 k.op, .int .i64 k.d, .int .i64 k.a, .int .i64 k.b, .int .i64 k.imm] 38
  rw [show (w.alloc (.cells #[.int .i64 i.op, .int .i64 i.d, .int .i64 i.a, .int .i64 i.b, .int .i64 i.imm] 38)).heap.size = w.heap.size + 1 by simp] at hk0
  have HK0 := Lib.hid hk0
  change Hid (Box ((w.alloc (.cells #[.int .i64 i.op, .int .i64 i.d, .int .i64 i.a, .int .i64 i.b, .int .i64 i.imm] 38)).alloc (.cells #[.int .i64 k.op, .int .i64 k.d, .int .i64 k.a, .int .i64 k.b, .int .i64 k.imm] 38)) w.heap.size _) at HI0
  change Hid (Box ((w.alloc (.cells #[.int .i64 i.op, .int .i64 i.d, .int .i64 i.a, .int .i64 i.b, .int .i64 i.imm] 38)).alloc (.cells #[.int .i64 k.op, .int .i64 k.d, .int .i64 k.a, .int .i64 k.b, .int .i64 k.imm] 38)) (w.heap.size + 1) _) at HK0
  clear hk0 hT
  go_enter Tryd.func10, Tryd.ntmps10
  go_wp2_with fail
  generalize ((w.alloc (.cells #[.int .i64 i.op, .int .i64 i.d, .int .i64 i.a, .int .i64 i.b, .int .i64 i.imm] 38)).alloc (.cells #[.int .i64 k.op, .int .i64 k.d, .int .i64 k.a, .int .i64 k.b, .int .i64 k.imm] 38)) = W at *
  refine (CA.out _ HT0.out).mono ?_; rintro e w1 ⟨rfl, hb1⟩
  have k1 : Kept W w1 := (Kept.refl _).to hb1
  clear hb1
  have zi0 := (HI0.out.below k1 (by omega)).cell (k := 0) rfl
  have zi1 := (HI0.out.below k1 (by omega)).cell (k := 1) rfl
  have zi2 := (HI0.out.below k1 (by omega)).cell (k := 2) rfl
  have zi3 := (HI0.out.below k1 (by omega)).cell (k := 3) rfl
  have zi4 := (HI0.out.below k1 (by omega)).cell (k := 4) rfl
  have zk0 := (HK0.out.below k1 (by omega)).cell (k := 0) rfl
  have zk1 := (HK0.out.below k1 (by omega)).cell (k := 1) rfl
  have zk2 := (HK0.out.below k1 (by omega)).cell (k := 2) rfl
  have zk3 := (HK0.out.below k1 (by omega)).cell (k := 3) rfl
  have zk4 := (HK0.out.below k1 (by omega)).cell (k := 4) rfl
  go_wp2_with fail
  refine (CI.out _).mono ?_; rintro e w2 ⟨rfl, hb2⟩
  have k2 := k1.to hb2
  clear hb2
  clear zi0 zi1 zi2 zi3 zi4 zk0 zk1 zk2 zk3 zk4
  have zi0 := (HI0.out.below k2 (by omega)).cell (k := 0) rfl
  have zi1 := (HI0.out.below k2 (by omega)).cell (k := 1) rfl
  have zi2 := (HI0.out.below k2 (by omega)).cell (k := 2) rfl
  have zi3 := (HI0.out.below k2 (by omega)).cell (k := 3) rfl
  have zi4 := (HI0.out.below k2 (by omega)).cell (k := 4) rfl
  have zk0 := (HK0.out.below k2 (by omega)).cell (k := 0) rfl
  have zk1 := (HK0.out.below k2 (by omega)).cell (k := 1) rfl
  have zk2 := (HK0.out.below k2 (by omega)).cell (k := 2) rfl
  have zk3 := (HK0.out.below k2 (by omega)).cell (k := 3) rfl
  have zk4 := (HK0.out.below k2 (by omega)).cell (k := 4) rfl
  go_wp2_with fail
  refine (CK.out _).mono ?_; rintro e w3 ⟨rfl, hb3⟩
  have k3 := k2.to hb3
  clear hb3
  clear zi0 zi1 zi2 zi3 zi4 zk0 zk1 zk2 zk3 zk4
  go_wp2_with fail
  go_ret
  exact ⟨by first | rfl | simp, HB0.out.trans (Below.mono k3 (by omega))⟩

set_option maxHeartbeats 2000000 in
theorem apart_no3 (i k : Ins) (a b : Int) (w : World) (hT : TabsS w) (hr : rightB i = true) (hk : rightB k = true) (hA : -9223372036854775808 ≤ a ∧ a ≤ 9223372036854775807) (hB : -9223372036854775808 ≤ b ∧ b ≤ 9223372036854775807) (h : a < 0 ∨ 15 < a ∨ b < 0 ∨ 15 < b) :
    Calls Tryd.prog 10 #[.agg #[.int .i64 i.op, .int .i64 i.d, .int .i64 i.a, .int .i64 i.b, .int .i64 i.imm], .agg #[.int .i64 k.op, .int .i64 k.d, .int .i64 k.a, .int .i64 k.b, .int .i64 k.imm], .int .i64 a, .int .i64 b] w fun e w' => e = .returned (.bool true) ∧ Below w.heap.size w w' := by
  have cI := fun y => rightIns_any i y
  rw [hr] at cI
  have CI := Lib.hid cI
  have cK := fun y => rightIns_any k y
  rw [hk] at cK
  have CK := Lib.hid cK
  clear cI cK
  have cA := fun y (hy : TabsS y) => alive9_any y hy
  have CA := Lib.hid cA
  clear cA
  have hB0 : w.heap.size + 1 < ((w.alloc (.cells #[.int .i64 i.op, .int .i64 i.d, .int .i64 i.a, .int .i64 i.b, .int .i64 i.imm] 38)).alloc (.cells #[.int .i64 k.op, .int .i64 k.d, .int .i64 k.a, .int .i64 k.b, .int .i64 k.imm] 38)).heap.size := by simp
  have HT0 := Lib.hid ((hT.below ((Below.refl w.heap.size w).alloc (Nat.le_refl _) (.cells #[.int .i64 i.op, .int .i64 i.d, .int .i64 i.a, .int .i64 i.b, .int .i64 i.imm] 38))).below ((Below.refl _ _).alloc (Nat.le_refl _) (.cells #[.int .i64 k.op, .int .i64 k.d, .int .i64 k.a, .int .i64 k.b, .int .i64 k.imm] 38)))
  have HB0 := Lib.hid (((Below.refl w.heap.size w).alloc (Nat.le_refl _) (.cells #[.int .i64 i.op, .int .i64 i.d, .int .i64 i.a, .int .i64 i.b, .int .i64 i.imm] 38)).alloc (by simp) (.cells #[.int .i64 k.op, .int .i64 k.d, .int .i64 k.a, .int .i64 k.b, .int .i64 k.imm] 38))
  have HI0 := Lib.hid ((Box.new w [.int .i64 i.op, .int .i64 i.d, .int .i64 i.a, .int .i64 i.b, .int .i64 i.imm] 38).alloc (.cells #[.int .i64 k.op, .int .i64 k.d, .int .i64 k.a, .int .i64 k.b, .int .i64 k.imm] 38))
  have hk0 := Box.new (w.alloc (.cells #[.int .i64 i.op, .int .i64 i.d, .int .i64 i.a, .int .i64 i.b, .int .i64 i.imm] 38)) [.int .i64 k.op, .int .i64 k.d, .int .i64 k.a, .int .i64 k.b, .int .i64 k.imm] 38
  rw [show (w.alloc (.cells #[.int .i64 i.op, .int .i64 i.d, .int .i64 i.a, .int .i64 i.b, .int .i64 i.imm] 38)).heap.size = w.heap.size + 1 by simp] at hk0
  have HK0 := Lib.hid hk0
  change Hid (Box ((w.alloc (.cells #[.int .i64 i.op, .int .i64 i.d, .int .i64 i.a, .int .i64 i.b, .int .i64 i.imm] 38)).alloc (.cells #[.int .i64 k.op, .int .i64 k.d, .int .i64 k.a, .int .i64 k.b, .int .i64 k.imm] 38)) w.heap.size _) at HI0
  change Hid (Box ((w.alloc (.cells #[.int .i64 i.op, .int .i64 i.d, .int .i64 i.a, .int .i64 i.b, .int .i64 i.imm] 38)).alloc (.cells #[.int .i64 k.op, .int .i64 k.d, .int .i64 k.a, .int .i64 k.b, .int .i64 k.imm] 38)) (w.heap.size + 1) _) at HK0
  clear hk0 hT
  go_enter Tryd.func10, Tryd.ntmps10
  go_wp2_with fail
  generalize ((w.alloc (.cells #[.int .i64 i.op, .int .i64 i.d, .int .i64 i.a, .int .i64 i.b, .int .i64 i.imm] 38)).alloc (.cells #[.int .i64 k.op, .int .i64 k.d, .int .i64 k.a, .int .i64 k.b, .int .i64 k.imm] 38)) = W at *
  refine (CA.out _ HT0.out).mono ?_; rintro e w1 ⟨rfl, hb1⟩
  have k1 : Kept W w1 := (Kept.refl _).to hb1
  clear hb1
  have zi0 := (HI0.out.below k1 (by omega)).cell (k := 0) rfl
  have zi1 := (HI0.out.below k1 (by omega)).cell (k := 1) rfl
  have zi2 := (HI0.out.below k1 (by omega)).cell (k := 2) rfl
  have zi3 := (HI0.out.below k1 (by omega)).cell (k := 3) rfl
  have zi4 := (HI0.out.below k1 (by omega)).cell (k := 4) rfl
  have zk0 := (HK0.out.below k1 (by omega)).cell (k := 0) rfl
  have zk1 := (HK0.out.below k1 (by omega)).cell (k := 1) rfl
  have zk2 := (HK0.out.below k1 (by omega)).cell (k := 2) rfl
  have zk3 := (HK0.out.below k1 (by omega)).cell (k := 3) rfl
  have zk4 := (HK0.out.below k1 (by omega)).cell (k := 4) rfl
  go_wp2_with fail
  refine (CI.out _).mono ?_; rintro e w2 ⟨rfl, hb2⟩
  have k2 := k1.to hb2
  clear hb2
  clear zi0 zi1 zi2 zi3 zi4 zk0 zk1 zk2 zk3 zk4
  have zi0 := (HI0.out.below k2 (by omega)).cell (k := 0) rfl
  have zi1 := (HI0.out.below k2 (by omega)).cell (k := 1) rfl
  have zi2 := (HI0.out.below k2 (by omega)).cell (k := 2) rfl
  have zi3 := (HI0.out.below k2 (by omega)).cell (k := 3) rfl
  have zi4 := (HI0.out.below k2 (by omega)).cell (k := 4) rfl
  have zk0 := (HK0.out.below k2 (by omega)).cell (k := 0) rfl
  have zk1 := (HK0.out.below k2 (by omega)).cell (k := 1) rfl
  have zk2 := (HK0.out.below k2 (by omega)).cell (k := 2) rfl
  have zk3 := (HK0.out.below k2 (by omega)).cell (k := 3) rfl
  have zk4 := (HK0.out.below k2 (by omega)).cell (k := 4) rfl
  go_wp2_with fail
  refine (CK.out _).mono ?_; rintro e w3 ⟨rfl, hb3⟩
  have k3 := k2.to hb3
  clear hb3
  clear zi0 zi1 zi2 zi3 zi4 zk0 zk1 zk2 zk3 zk4
  go_wp2
  all_goals first
    | (exfalso; omega)
    | (go_ret; exact ⟨by first | rfl | simp, HB0.out.trans (Below.mono k3 (by omega))⟩)

set_option maxHeartbeats 4000000 in
theorem apart_in (i k : Ins) (a b : Int) (w : World) (hT : TabsS w) (hfi : i.Fits) (hfk : k.Fits) (hr : rightB i = true) (hk : rightB k = true) (ha : 0 ≤ a ∧ a ≤ 15) (hb : 0 ≤ b ∧ b ≤ 15) :
    Calls Tryd.prog 10 #[.agg #[.int .i64 i.op, .int .i64 i.d, .int .i64 i.a, .int .i64 i.b, .int .i64 i.imm], .agg #[.int .i64 k.op, .int .i64 k.d, .int .i64 k.a, .int .i64 k.b, .int .i64 k.imm], .int .i64 a, .int .i64 b] w fun e w' => e = .returned (.bool true) ∧ Below w.heap.size w w' := by
  have cI := fun y => rightIns_any i y
  rw [hr] at cI
  have CI := Lib.hid cI
  have cK := fun y => rightIns_any k y
  rw [hk] at cK
  have CK := Lib.hid cK
  clear cI cK
  have cX := fun y (hy : TabsS y) => showIns_any i hfi y hy
  have cY := fun y (hy : TabsS y) => showIns_any k hfk y hy
  have hz : (0 : Int) ≤ 0 := Int.le_refl _
  have cU := fun y (hy : TabsS y) => showCell_any (putCel a b 0) (by unfold Cel.Fits putCel Ins.Fits; simp; omega) y hy
  have cV := fun y (hy : TabsS y) => showCell_any (putCel b 0 a) (by unfold Cel.Fits putCel Ins.Fits; simp; omega) y hy
  have cD := fun y (hy : TabsS y) => showCell_any (doCel i) (by unfold Cel.Fits doCel; refine ⟨?_, hfi, ?_, ?_, ?_⟩ <;> simp) y hy
  rw [showZ_yes hr] at cX
  rw [showZ_yes hk] at cY
  rw [cell_put ha] at cU
  rw [cell_put hb] at cV
  rw [cell_do hr] at cD
  unfold putCel at cU cV
  unfold doCel at cD
  have q1 : ((txt (showI i)).toList == []) = false := txt_neB (showI_ne hr)
  have q2 : ((txt (showI i)).toList == (txt (showI k)).toList) = decide (i = k) := by
    rw [txt_eqD]
    exact decide_eq_decide.2 ⟨showI_inj hr hk, fun e => by rw [e]⟩
  have q3 : ((txt ([112, 117, 116, 32] ++ regS a)).toList == []) = false := txt_neB (by simp)
  have q4 : ((txt ([112, 117, 116, 32] ++ regS a)).toList == (txt ([112, 117, 116, 32] ++ regS b)).toList) = decide (a = b) := by
    rw [txt_eqD]
    refine decide_eq_decide.2 ⟨fun e => regS_inj ha hb (List.append_cancel_left e), fun e => by rw [e]⟩
  have q5 : (⟨#[100, 111, 32]⟩ : ByteArray) ++ txt (showI i) = txt ([100, 111, 32] ++ showI i) := by
    rw [show (⟨#[100, 111, 32]⟩ : ByteArray) = txt [100, 111, 32] from rfl, txt_join]
  have hsl := showI_len hr
  have q6 : ¬ ((⟨#[100, 111, 32]⟩ : ByteArray).size + (txt (showI i)).size > 9223372036854775807) := by
    rw [show (⟨#[100, 111, 32]⟩ : ByteArray).size = 3 from rfl, txt_len]; omega
  have CX := Lib.hid cX
  have CY := Lib.hid cY
  have CU := Lib.hid cU
  have CV := Lib.hid cV
  have CD := Lib.hid cD
  clear cX cY cU cV cD hfi hfk hr hk hsl hz
  generalize txt (showI i) = X at *
  generalize txt (showI k) = Y at *
  generalize txt ([112, 117, 116, 32] ++ regS a) = U at *
  generalize txt ([112, 117, 116, 32] ++ regS b) = V at *
  generalize txt ([100, 111, 32] ++ showI i) = D at *
  have ie := fun y => eql_ins i k y
  obtain ⟨a0, a1⟩ := ha
  obtain ⟨b0, b1⟩ := hb
  have cA := fun y (hy : TabsS y) => alive9_any y hy
  have CA := Lib.hid cA
  clear cA
  have hB0 : w.heap.size + 1 < ((w.alloc (.cells #[.int .i64 i.op, .int .i64 i.d, .int .i64 i.a, .int .i64 i.b, .int .i64 i.imm] 38)).alloc (.cells #[.int .i64 k.op, .int .i64 k.d, .int .i64 k.a, .int .i64 k.b, .int .i64 k.imm] 38)).heap.size := by simp
  have HT0 := Lib.hid ((hT.below ((Below.refl w.heap.size w).alloc (Nat.le_refl _) (.cells #[.int .i64 i.op, .int .i64 i.d, .int .i64 i.a, .int .i64 i.b, .int .i64 i.imm] 38))).below ((Below.refl _ _).alloc (Nat.le_refl _) (.cells #[.int .i64 k.op, .int .i64 k.d, .int .i64 k.a, .int .i64 k.b, .int .i64 k.imm] 38)))
  have HB0 := Lib.hid (((Below.refl w.heap.size w).alloc (Nat.le_refl _) (.cells #[.int .i64 i.op, .int .i64 i.d, .int .i64 i.a, .int .i64 i.b, .int .i64 i.imm] 38)).alloc (by simp) (.cells #[.int .i64 k.op, .int .i64 k.d, .int .i64 k.a, .int .i64 k.b, .int .i64 k.imm] 38))
  have HI0 := Lib.hid ((Box.new w [.int .i64 i.op, .int .i64 i.d, .int .i64 i.a, .int .i64 i.b, .int .i64 i.imm] 38).alloc (.cells #[.int .i64 k.op, .int .i64 k.d, .int .i64 k.a, .int .i64 k.b, .int .i64 k.imm] 38))
  have hk0 := Box.new (w.alloc (.cells #[.int .i64 i.op, .int .i64 i.d, .int .i64 i.a, .int .i64 i.b, .int .i64 i.imm] 38)) [.int .i64 k.op, .int .i64 k.d, .int .i64 k.a, .int .i64 k.b, .int .i64 k.imm] 38
  rw [show (w.alloc (.cells #[.int .i64 i.op, .int .i64 i.d, .int .i64 i.a, .int .i64 i.b, .int .i64 i.imm] 38)).heap.size = w.heap.size + 1 by simp] at hk0
  have HK0 := Lib.hid hk0
  change Hid (Box ((w.alloc (.cells #[.int .i64 i.op, .int .i64 i.d, .int .i64 i.a, .int .i64 i.b, .int .i64 i.imm] 38)).alloc (.cells #[.int .i64 k.op, .int .i64 k.d, .int .i64 k.a, .int .i64 k.b, .int .i64 k.imm] 38)) w.heap.size _) at HI0
  change Hid (Box ((w.alloc (.cells #[.int .i64 i.op, .int .i64 i.d, .int .i64 i.a, .int .i64 i.b, .int .i64 i.imm] 38)).alloc (.cells #[.int .i64 k.op, .int .i64 k.d, .int .i64 k.a, .int .i64 k.b, .int .i64 k.imm] 38)) (w.heap.size + 1) _) at HK0
  clear hk0 hT
  go_enter Tryd.func10, Tryd.ntmps10
  go_wp2_with fail
  generalize ((w.alloc (.cells #[.int .i64 i.op, .int .i64 i.d, .int .i64 i.a, .int .i64 i.b, .int .i64 i.imm] 38)).alloc (.cells #[.int .i64 k.op, .int .i64 k.d, .int .i64 k.a, .int .i64 k.b, .int .i64 k.imm] 38)) = W at *
  refine (CA.out _ HT0.out).mono ?_; rintro e w1 ⟨rfl, hb1⟩
  have k1 : Kept W w1 := (Kept.refl _).to hb1
  clear hb1
  have zi0 := (HI0.out.below k1 (by omega)).cell (k := 0) rfl
  have zi1 := (HI0.out.below k1 (by omega)).cell (k := 1) rfl
  have zi2 := (HI0.out.below k1 (by omega)).cell (k := 2) rfl
  have zi3 := (HI0.out.below k1 (by omega)).cell (k := 3) rfl
  have zi4 := (HI0.out.below k1 (by omega)).cell (k := 4) rfl
  have zk0 := (HK0.out.below k1 (by omega)).cell (k := 0) rfl
  have zk1 := (HK0.out.below k1 (by omega)).cell (k := 1) rfl
  have zk2 := (HK0.out.below k1 (by omega)).cell (k := 2) rfl
  have zk3 := (HK0.out.below k1 (by omega)).cell (k := 3) rfl
  have zk4 := (HK0.out.below k1 (by omega)).cell (k := 4) rfl
  go_wp2_with fail
  refine (CI.out _).mono ?_; rintro e w2 ⟨rfl, hb2⟩
  have k2 := k1.to hb2
  clear hb2
  clear zi0 zi1 zi2 zi3 zi4 zk0 zk1 zk2 zk3 zk4
  have zi0 := (HI0.out.below k2 (by omega)).cell (k := 0) rfl
  have zi1 := (HI0.out.below k2 (by omega)).cell (k := 1) rfl
  have zi2 := (HI0.out.below k2 (by omega)).cell (k := 2) rfl
  have zi3 := (HI0.out.below k2 (by omega)).cell (k := 3) rfl
  have zi4 := (HI0.out.below k2 (by omega)).cell (k := 4) rfl
  have zk0 := (HK0.out.below k2 (by omega)).cell (k := 0) rfl
  have zk1 := (HK0.out.below k2 (by omega)).cell (k := 1) rfl
  have zk2 := (HK0.out.below k2 (by omega)).cell (k := 2) rfl
  have zk3 := (HK0.out.below k2 (by omega)).cell (k := 3) rfl
  have zk4 := (HK0.out.below k2 (by omega)).cell (k := 4) rfl
  go_wp2_with fail
  refine (CK.out _).mono ?_; rintro e w3 ⟨rfl, hb3⟩
  have k3 := k2.to hb3
  clear hb3
  clear zi0 zi1 zi2 zi3 zi4 zk0 zk1 zk2 zk3 zk4
  have zi0 := (HI0.out.below k3 (by omega)).cell (k := 0) rfl
  have zi1 := (HI0.out.below k3 (by omega)).cell (k := 1) rfl
  have zi2 := (HI0.out.below k3 (by omega)).cell (k := 2) rfl
  have zi3 := (HI0.out.below k3 (by omega)).cell (k := 3) rfl
  have zi4 := (HI0.out.below k3 (by omega)).cell (k := 4) rfl
  have zk0 := (HK0.out.below k3 (by omega)).cell (k := 0) rfl
  have zk1 := (HK0.out.below k3 (by omega)).cell (k := 1) rfl
  have zk2 := (HK0.out.below k3 (by omega)).cell (k := 2) rfl
  have zk3 := (HK0.out.below k3 (by omega)).cell (k := 3) rfl
  have zk4 := (HK0.out.below k3 (by omega)).cell (k := 4) rfl
  go_wp2_with fail
  refine (CX.out _ (HT0.out.below k3)).mono ?_; rintro e w4 ⟨rfl, hb4⟩
  have k4 := k3.to hb4
  clear hb4
  clear zi0 zi1 zi2 zi3 zi4 zk0 zk1 zk2 zk3 zk4
  have zi0 := (HI0.out.below k4 (by omega)).cell (k := 0) rfl
  have zi1 := (HI0.out.below k4 (by omega)).cell (k := 1) rfl
  have zi2 := (HI0.out.below k4 (by omega)).cell (k := 2) rfl
  have zi3 := (HI0.out.below k4 (by omega)).cell (k := 3) rfl
  have zi4 := (HI0.out.below k4 (by omega)).cell (k := 4) rfl
  have zk0 := (HK0.out.below k4 (by omega)).cell (k := 0) rfl
  have zk1 := (HK0.out.below k4 (by omega)).cell (k := 1) rfl
  have zk2 := (HK0.out.below k4 (by omega)).cell (k := 2) rfl
  have zk3 := (HK0.out.below k4 (by omega)).cell (k := 3) rfl
  have zk4 := (HK0.out.below k4 (by omega)).cell (k := 4) rfl
  go_wp2_with fail
  refine (CY.out _ (HT0.out.below k4)).mono ?_; rintro e w5 ⟨rfl, hb5⟩
  have k5 := k4.to hb5
  clear hb5
  clear zi0 zi1 zi2 zi3 zi4 zk0 zk1 zk2 zk3 zk4
  have zi0 := (HI0.out.below k5 (by omega)).cell (k := 0) rfl
  have zi1 := (HI0.out.below k5 (by omega)).cell (k := 1) rfl
  have zi2 := (HI0.out.below k5 (by omega)).cell (k := 2) rfl
  have zi3 := (HI0.out.below k5 (by omega)).cell (k := 3) rfl
  have zi4 := (HI0.out.below k5 (by omega)).cell (k := 4) rfl
  have zk0 := (HK0.out.below k5 (by omega)).cell (k := 0) rfl
  have zk1 := (HK0.out.below k5 (by omega)).cell (k := 1) rfl
  have zk2 := (HK0.out.below k5 (by omega)).cell (k := 2) rfl
  have zk3 := (HK0.out.below k5 (by omega)).cell (k := 3) rfl
  have zk4 := (HK0.out.below k5 (by omega)).cell (k := 4) rfl
  go_wp2_with fail
  refine (CU.out _ (HT0.out.below k5)).mono ?_; rintro e w6 ⟨rfl, hb6⟩
  have k6 := k5.to hb6
  clear hb6
  clear zi0 zi1 zi2 zi3 zi4 zk0 zk1 zk2 zk3 zk4
  have zi0 := (HI0.out.below k6 (by omega)).cell (k := 0) rfl
  have zi1 := (HI0.out.below k6 (by omega)).cell (k := 1) rfl
  have zi2 := (HI0.out.below k6 (by omega)).cell (k := 2) rfl
  have zi3 := (HI0.out.below k6 (by omega)).cell (k := 3) rfl
  have zi4 := (HI0.out.below k6 (by omega)).cell (k := 4) rfl
  have zk0 := (HK0.out.below k6 (by omega)).cell (k := 0) rfl
  have zk1 := (HK0.out.below k6 (by omega)).cell (k := 1) rfl
  have zk2 := (HK0.out.below k6 (by omega)).cell (k := 2) rfl
  have zk3 := (HK0.out.below k6 (by omega)).cell (k := 3) rfl
  have zk4 := (HK0.out.below k6 (by omega)).cell (k := 4) rfl
  go_wp2_with fail
  refine (CV.out _ (HT0.out.below k6)).mono ?_; rintro e w7 ⟨rfl, hb7⟩
  have k7 := k6.to hb7
  clear hb7
  clear zi0 zi1 zi2 zi3 zi4 zk0 zk1 zk2 zk3 zk4
  have zi0 := (HI0.out.below k7 (by omega)).cell (k := 0) rfl
  have zi1 := (HI0.out.below k7 (by omega)).cell (k := 1) rfl
  have zi2 := (HI0.out.below k7 (by omega)).cell (k := 2) rfl
  have zi3 := (HI0.out.below k7 (by omega)).cell (k := 3) rfl
  have zi4 := (HI0.out.below k7 (by omega)).cell (k := 4) rfl
  have zk0 := (HK0.out.below k7 (by omega)).cell (k := 0) rfl
  have zk1 := (HK0.out.below k7 (by omega)).cell (k := 1) rfl
  have zk2 := (HK0.out.below k7 (by omega)).cell (k := 2) rfl
  have zk3 := (HK0.out.below k7 (by omega)).cell (k := 3) rfl
  have zk4 := (HK0.out.below k7 (by omega)).cell (k := 4) rfl
  go_wp2_with fail
  refine (CD.out _ (HT0.out.below k7)).mono ?_; rintro e w8 ⟨rfl, hb8⟩
  have k8 := k7.to hb8
  clear hb8
  clear zi0 zi1 zi2 zi3 zi4 zk0 zk1 zk2 zk3 zk4
  go_wp2_with fail
  go_ret
  exact ⟨by first | rfl | simp, HB0.out.trans (Below.mono k8 (by omega))⟩

theorem showApart_walk (i k : Ins) (a b : Int) (w : World) (hT : TabsS w) (hfi : i.Fits) (hfk : k.Fits) (hA : -9223372036854775808 ≤ a ∧ a ≤ 9223372036854775807) (hB : -9223372036854775808 ≤ b ∧ b ≤ 9223372036854775807) :
    Calls Tryd.prog 10 #[.agg #[.int .i64 i.op, .int .i64 i.d, .int .i64 i.a, .int .i64 i.b, .int .i64 i.imm], .agg #[.int .i64 k.op, .int .i64 k.d, .int .i64 k.a, .int .i64 k.b, .int .i64 k.imm], .int .i64 a, .int .i64 b] w fun e w' => e = .returned (.bool true) ∧ Below w.heap.size w w' := by
  cases hr : rightB i
  · exact apart_no1 i k a b w hT hr
  cases hk : rightB k
  · exact apart_no2 i k a b w hT hr hk
  by_cases h : a < 0 ∨ 15 < a ∨ b < 0 ∨ 15 < b
  · exact apart_no3 i k a b w hT hr hk hA hB h
  · exact apart_in i k a b w hT hfi hfk hr hk (by omega) (by omega)
end Go.Proofs.YtfdegdbknponkaaDoor.Words

/- The law BanksAnswer walked. -/
import Derived.Test.YthhoigkmmlkfcaaSBnkAns4
import Derived.Test.YthhoigkmmlkfcaaSBnkAns2
import Derived.Test.YthhoigkmmlkfcaaSBnkAns1
namespace Go.Proofs.Ythhoigkmmlkfcaa.Words
set_option maxRecDepth 100000
open Go.RowKit
set_option linter.unusedVariables false
set_option linter.unusedSimpArgs false

set_option maxHeartbeats 4000000 in
theorem banksAnswer_walk (c : Cfg) (A B : Option Addr) (ca cb : Nat) (lats picks : List Int) (v : Value) (n : Nat) (zs : List Int) (op at_ reg : Int) (w : World) (hc : c.Fits) (hl : Row w w.heap.size 1 (.slice A lats.length ca) lats.length (lats.map (Value.int .i64))) (hp : Row w w.heap.size 1 (.slice B picks.length cb) picks.length (picks.map (Value.int .i64))) (hfl : ∀ x ∈ lats, -9223372036854775808 ≤ x ∧ x ≤ 9223372036854775807) (hfp : ∀ x ∈ picks, -9223372036854775808 ≤ x ∧ x ≤ 9223372036854775807) (hr : Row w w.heap.size 1 v n (zs.map (Value.int .u8))) (hz : ∀ x ∈ zs, 0 ≤ x ∧ x ≤ 255) (ho : -9223372036854775808 ≤ op ∧ op ≤ 9223372036854775807) (ha : -9223372036854775808 ≤ at_ ∧ at_ ≤ 9223372036854775807) (hg : -9223372036854775808 ≤ reg ∧ reg ≤ 9223372036854775807) :
    Calls Try.prog 5 #[.agg #[.int .i64 c.ldq, .int .i64 c.sdq, .int .i64 c.aeq, .int .i64 c.abq, .int .i64 c.ebq, .int .i64 c.saq, .int .i64 c.banks, .int .i64 c.flight, .int .i64 c.slip, .int .i64 c.lat, .int .i64 c.mul, .int .i64 c.div], .agg #[.slice A lats.length ca, .slice B picks.length cb], v, .int .i64 op, .int .i64 at_, .int .i64 reg] w fun e w' => e = .returned (.bool true) ∧ Below w.heap.size w w' := by
  obtain ⟨M, mc, rfl⟩ := hr.form
  obtain ⟨W, hW⟩ : ∃ W, W = (w.alloc (.cells #[.int .i64 c.ldq, .int .i64 c.sdq, .int .i64 c.aeq, .int .i64 c.abq, .int .i64 c.ebq, .int .i64 c.saq, .int .i64 c.banks, .int .i64 c.flight, .int .i64 c.slip, .int .i64 c.lat, .int .i64 c.mul, .int .i64 c.div] 23)).alloc (.cells #[.slice A lats.length ca, .slice B picks.length cb] 26) := ⟨_, rfl⟩
  have HBW : Hid (Below w.heap.size w W) := Lib.hid (by rw [hW]; exact ((Below.refl _ _).alloc (Nat.le_refl _) _).alloc (by simp) _)
  have HCW : Hid (Box W w.heap.size (cfgCells c)) := Lib.hid (by rw [hW]; exact (Box.new w (cfgCells c) _).alloc _)
  have HSW : Hid (Box W (w.heap.size + 1) [.slice A lats.length ca, .slice B picks.length cb]) := Lib.hid (by rw [hW]; have := (Box.new (w.alloc (.cells #[.int .i64 c.ldq, .int .i64 c.sdq, .int .i64 c.aeq, .int .i64 c.abq, .int .i64 c.ebq, .int .i64 c.saq, .int .i64 c.banks, .int .i64 c.flight, .int .i64 c.slip, .int .i64 c.lat, .int .i64 c.mul, .int .i64 c.div] 23)) [.slice A lats.length ca, .slice B picks.length cb] 26); simpa using this)
  have HEW : Hid (EnvB w c [.slice A lats.length ca, .slice B picks.length cb] 0 W) := Lib.hid ⟨HCW.out, HSW.out, HBW.out⟩
  have hn : n ≤ 9223372036854775807 := by have := hr.cap; omega
  have hsz := sizeZ_cases op
  have hfc := formZ_cases op
  by_cases g0 : (200 : Int) < n
  case pos =>
    have p0 : decide ((200 : Int) < n) = true := decide_eq_true g0
    clear hsz hfc
    go_enter Try.func5, Try.ntmps5
    go_wp2_with (first | (rw [← hW]; clear hW))
    refine (alive18_any _).mono ?_
    rintro e w1 ⟨rfl, hb⟩
    have E1 := Lib.hid (HEW.out.below hb)
    clear hb HCW HSW HBW HEW
    have c0 : w1.cell? ⟨w.heap.size + 1, 0, none⟩ = some (.slice A lats.length ca) := E1.out.sc.cell rfl
    have c6 : w1.cell? ⟨w.heap.size, 6, none⟩ = some (.int .i64 c.banks) := E1.out.cf.cell rfl
    have c9 : w1.cell? ⟨w.heap.size, 9, none⟩ = some (.int .i64 c.lat) := E1.out.cf.cell rfl
    try dsimp only
    go_wp2_with fail
    refine (refSize_any op _).mono ?_
    rintro e _ ⟨rfl, rfl⟩
    try dsimp only
    go_wp2_with fail
    go_ret
    exact ⟨rfl, E1.out.bl⟩
  have p0 : decide ((200 : Int) < n) = false := decide_eq_false g0
  by_cases g1 : (60 : Int) < lats.length
  case pos =>
    have p1 : decide ((60 : Int) < lats.length) = true := decide_eq_true g1
    clear hsz hfc
    go_enter Try.func5, Try.ntmps5
    go_wp2_with (first | (rw [← hW]; clear hW))
    refine (alive18_any _).mono ?_
    rintro e w1 ⟨rfl, hb⟩
    have E1 := Lib.hid (HEW.out.below hb)
    clear hb HCW HSW HBW HEW
    have c0 : w1.cell? ⟨w.heap.size + 1, 0, none⟩ = some (.slice A lats.length ca) := E1.out.sc.cell rfl
    have c6 : w1.cell? ⟨w.heap.size, 6, none⟩ = some (.int .i64 c.banks) := E1.out.cf.cell rfl
    have c9 : w1.cell? ⟨w.heap.size, 9, none⟩ = some (.int .i64 c.lat) := E1.out.cf.cell rfl
    try dsimp only
    go_wp2_with fail
    refine (refSize_any op _).mono ?_
    rintro e _ ⟨rfl, rfl⟩
    try dsimp only
    go_wp2_with fail
    go_ret
    exact ⟨rfl, E1.out.bl⟩
  have p1 : decide ((60 : Int) < lats.length) = false := decide_eq_false g1
  by_cases g2 : c.banks < 1
  case pos =>
    have p2 : decide (c.banks < 1) = true := decide_eq_true g2
    clear hsz hfc
    go_enter Try.func5, Try.ntmps5
    go_wp2_with (first | (rw [← hW]; clear hW))
    refine (alive18_any _).mono ?_
    rintro e w1 ⟨rfl, hb⟩
    have E1 := Lib.hid (HEW.out.below hb)
    clear hb HCW HSW HBW HEW
    have c0 : w1.cell? ⟨w.heap.size + 1, 0, none⟩ = some (.slice A lats.length ca) := E1.out.sc.cell rfl
    have c6 : w1.cell? ⟨w.heap.size, 6, none⟩ = some (.int .i64 c.banks) := E1.out.cf.cell rfl
    have c9 : w1.cell? ⟨w.heap.size, 9, none⟩ = some (.int .i64 c.lat) := E1.out.cf.cell rfl
    try dsimp only
    go_wp2_with fail
    refine (refSize_any op _).mono ?_
    rintro e _ ⟨rfl, rfl⟩
    try dsimp only
    go_wp2_with fail
    go_ret
    exact ⟨rfl, E1.out.bl⟩
  have p2 : decide (c.banks < 1) = false := decide_eq_false g2
  by_cases g3 : 16 < c.banks
  case pos =>
    have p3 : decide (16 < c.banks) = true := decide_eq_true g3
    clear hsz hfc
    go_enter Try.func5, Try.ntmps5
    go_wp2_with (first | (rw [← hW]; clear hW))
    refine (alive18_any _).mono ?_
    rintro e w1 ⟨rfl, hb⟩
    have E1 := Lib.hid (HEW.out.below hb)
    clear hb HCW HSW HBW HEW
    have c0 : w1.cell? ⟨w.heap.size + 1, 0, none⟩ = some (.slice A lats.length ca) := E1.out.sc.cell rfl
    have c6 : w1.cell? ⟨w.heap.size, 6, none⟩ = some (.int .i64 c.banks) := E1.out.cf.cell rfl
    have c9 : w1.cell? ⟨w.heap.size, 9, none⟩ = some (.int .i64 c.lat) := E1.out.cf.cell rfl
    try dsimp only
    go_wp2_with fail
    refine (refSize_any op _).mono ?_
    rintro e _ ⟨rfl, rfl⟩
    try dsimp only
    go_wp2_with fail
    go_ret
    exact ⟨rfl, E1.out.bl⟩
  have p3 : decide (16 < c.banks) = false := decide_eq_false g3
  by_cases g4 : c.lat < 1
  case pos =>
    have p4 : decide (c.lat < 1) = true := decide_eq_true g4
    clear hsz hfc
    go_enter Try.func5, Try.ntmps5
    go_wp2_with (first | (rw [← hW]; clear hW))
    refine (alive18_any _).mono ?_
    rintro e w1 ⟨rfl, hb⟩
    have E1 := Lib.hid (HEW.out.below hb)
    clear hb HCW HSW HBW HEW
    have c0 : w1.cell? ⟨w.heap.size + 1, 0, none⟩ = some (.slice A lats.length ca) := E1.out.sc.cell rfl
    have c6 : w1.cell? ⟨w.heap.size, 6, none⟩ = some (.int .i64 c.banks) := E1.out.cf.cell rfl
    have c9 : w1.cell? ⟨w.heap.size, 9, none⟩ = some (.int .i64 c.lat) := E1.out.cf.cell rfl
    try dsimp only
    go_wp2_with fail
    refine (refSize_any op _).mono ?_
    rintro e _ ⟨rfl, rfl⟩
    try dsimp only
    go_wp2_with fail
    go_ret
    exact ⟨rfl, E1.out.bl⟩
  have p4 : decide (c.lat < 1) = false := decide_eq_false g4
  by_cases g5 : 30 < c.lat
  case pos =>
    have p5 : decide (30 < c.lat) = true := decide_eq_true g5
    clear hsz hfc
    go_enter Try.func5, Try.ntmps5
    go_wp2_with (first | (rw [← hW]; clear hW))
    refine (alive18_any _).mono ?_
    rintro e w1 ⟨rfl, hb⟩
    have E1 := Lib.hid (HEW.out.below hb)
    clear hb HCW HSW HBW HEW
    have c0 : w1.cell? ⟨w.heap.size + 1, 0, none⟩ = some (.slice A lats.length ca) := E1.out.sc.cell rfl
    have c6 : w1.cell? ⟨w.heap.size, 6, none⟩ = some (.int .i64 c.banks) := E1.out.cf.cell rfl
    have c9 : w1.cell? ⟨w.heap.size, 9, none⟩ = some (.int .i64 c.lat) := E1.out.cf.cell rfl
    try dsimp only
    go_wp2_with fail
    refine (refSize_any op _).mono ?_
    rintro e _ ⟨rfl, rfl⟩
    try dsimp only
    go_wp2_with fail
    go_ret
    exact ⟨rfl, E1.out.bl⟩
  have p5 : decide (30 < c.lat) = false := decide_eq_false g5
  by_cases g6 : ¬ formZ op = 4
  case pos =>
    have p6 : (formZ op == 4) = false := by simpa using g6
    clear hsz hfc
    go_enter Try.func5, Try.ntmps5
    go_wp2_with (first | (rw [← hW]; clear hW))
    refine (alive18_any _).mono ?_
    rintro e w1 ⟨rfl, hb⟩
    have E1 := Lib.hid (HEW.out.below hb)
    clear hb HCW HSW HBW HEW
    have c0 : w1.cell? ⟨w.heap.size + 1, 0, none⟩ = some (.slice A lats.length ca) := E1.out.sc.cell rfl
    have c6 : w1.cell? ⟨w.heap.size, 6, none⟩ = some (.int .i64 c.banks) := E1.out.cf.cell rfl
    have c9 : w1.cell? ⟨w.heap.size, 9, none⟩ = some (.int .i64 c.lat) := E1.out.cf.cell rfl
    try dsimp only
    go_wp2_with fail
    refine (refSize_any op _).mono ?_
    rintro e _ ⟨rfl, rfl⟩
    try dsimp only
    go_wp2_with fail
    refine (refForm_any op _).mono ?_
    rintro e _ ⟨rfl, rfl⟩
    try dsimp only
    go_wp2_with fail
    go_ret
    exact ⟨rfl, E1.out.bl⟩
  have g6 : formZ op = 4 := Classical.not_not.1 g6
  have p6 : (formZ op == 4) = true := by simpa using g6
  by_cases g7 : at_ < 0
  case pos =>
    have p7 : decide (at_ < 0) = true := decide_eq_true g7
    clear hsz hfc
    go_enter Try.func5, Try.ntmps5
    go_wp2_with (first | (rw [← hW]; clear hW))
    refine (alive18_any _).mono ?_
    rintro e w1 ⟨rfl, hb⟩
    have E1 := Lib.hid (HEW.out.below hb)
    clear hb HCW HSW HBW HEW
    have c0 : w1.cell? ⟨w.heap.size + 1, 0, none⟩ = some (.slice A lats.length ca) := E1.out.sc.cell rfl
    have c6 : w1.cell? ⟨w.heap.size, 6, none⟩ = some (.int .i64 c.banks) := E1.out.cf.cell rfl
    have c9 : w1.cell? ⟨w.heap.size, 9, none⟩ = some (.int .i64 c.lat) := E1.out.cf.cell rfl
    try dsimp only
    go_wp2_with fail
    refine (refSize_any op _).mono ?_
    rintro e _ ⟨rfl, rfl⟩
    try dsimp only
    go_wp2_with fail
    refine (refForm_any op _).mono ?_
    rintro e _ ⟨rfl, rfl⟩
    try dsimp only
    go_wp2_with fail
    go_ret
    exact ⟨rfl, E1.out.bl⟩
  have p7 : decide (at_ < 0) = false := decide_eq_false g7
  by_cases g8 : (n : Int) < sizeZ op
  case pos =>
    have p8 : decide ((n : Int) < sizeZ op) = true := decide_eq_true g8
    clear hsz hfc
    go_enter Try.func5, Try.ntmps5
    go_wp2_with (first | (rw [← hW]; clear hW))
    refine (alive18_any _).mono ?_
    rintro e w1 ⟨rfl, hb⟩
    have E1 := Lib.hid (HEW.out.below hb)
    clear hb HCW HSW HBW HEW
    have c0 : w1.cell? ⟨w.heap.size + 1, 0, none⟩ = some (.slice A lats.length ca) := E1.out.sc.cell rfl
    have c6 : w1.cell? ⟨w.heap.size, 6, none⟩ = some (.int .i64 c.banks) := E1.out.cf.cell rfl
    have c9 : w1.cell? ⟨w.heap.size, 9, none⟩ = some (.int .i64 c.lat) := E1.out.cf.cell rfl
    try dsimp only
    go_wp2_with fail
    refine (refSize_any op _).mono ?_
    rintro e _ ⟨rfl, rfl⟩
    try dsimp only
    go_wp2_with fail
    refine (refForm_any op _).mono ?_
    rintro e _ ⟨rfl, rfl⟩
    try dsimp only
    go_wp2_with fail
    go_ret
    exact ⟨rfl, E1.out.bl⟩
  have p8 : decide ((n : Int) < sizeZ op) = false := decide_eq_false g8
  by_cases g9 : reg < -1
  case pos =>
    have p9 : decide (reg < -1) = true := decide_eq_true g9
    clear hsz hfc
    go_enter Try.func5, Try.ntmps5
    go_wp2_with (first | (rw [← hW]; clear hW))
    refine (alive18_any _).mono ?_
    rintro e w1 ⟨rfl, hb⟩
    have E1 := Lib.hid (HEW.out.below hb)
    clear hb HCW HSW HBW HEW
    have c0 : w1.cell? ⟨w.heap.size + 1, 0, none⟩ = some (.slice A lats.length ca) := E1.out.sc.cell rfl
    have c6 : w1.cell? ⟨w.heap.size, 6, none⟩ = some (.int .i64 c.banks) := E1.out.cf.cell rfl
    have c9 : w1.cell? ⟨w.heap.size, 9, none⟩ = some (.int .i64 c.lat) := E1.out.cf.cell rfl
    try dsimp only
    go_wp2_with fail
    refine (refSize_any op _).mono ?_
    rintro e _ ⟨rfl, rfl⟩
    try dsimp only
    go_wp2_with fail
    refine (refForm_any op _).mono ?_
    rintro e _ ⟨rfl, rfl⟩
    try dsimp only
    go_wp2_with fail
    go_ret
    exact ⟨rfl, E1.out.bl⟩
  have p9 : decide (reg < -1) = false := decide_eq_false g9
  by_cases g10 : 15 < reg
  case pos =>
    have p10 : decide (15 < reg) = true := decide_eq_true g10
    clear hsz hfc
    go_enter Try.func5, Try.ntmps5
    go_wp2_with (first | (rw [← hW]; clear hW))
    refine (alive18_any _).mono ?_
    rintro e w1 ⟨rfl, hb⟩
    have E1 := Lib.hid (HEW.out.below hb)
    clear hb HCW HSW HBW HEW
    have c0 : w1.cell? ⟨w.heap.size + 1, 0, none⟩ = some (.slice A lats.length ca) := E1.out.sc.cell rfl
    have c6 : w1.cell? ⟨w.heap.size, 6, none⟩ = some (.int .i64 c.banks) := E1.out.cf.cell rfl
    have c9 : w1.cell? ⟨w.heap.size, 9, none⟩ = some (.int .i64 c.lat) := E1.out.cf.cell rfl
    try dsimp only
    go_wp2_with fail
    refine (refSize_any op _).mono ?_
    rintro e _ ⟨rfl, rfl⟩
    try dsimp only
    go_wp2_with fail
    refine (refForm_any op _).mono ?_
    rintro e _ ⟨rfl, rfl⟩
    try dsimp only
    go_wp2_with fail
    go_ret
    exact ⟨rfl, E1.out.bl⟩
  have p10 : decide (15 < reg) = false := decide_eq_false g10
  by_cases g11 : reg = 0
  case pos =>
    have p11 : (reg == 0) = true := by simpa using g11
    clear hsz hfc
    go_enter Try.func5, Try.ntmps5
    go_wp2_with (first | (rw [← hW]; clear hW))
    refine (alive18_any _).mono ?_
    rintro e w1 ⟨rfl, hb⟩
    have E1 := Lib.hid (HEW.out.below hb)
    clear hb HCW HSW HBW HEW
    have c0 : w1.cell? ⟨w.heap.size + 1, 0, none⟩ = some (.slice A lats.length ca) := E1.out.sc.cell rfl
    have c6 : w1.cell? ⟨w.heap.size, 6, none⟩ = some (.int .i64 c.banks) := E1.out.cf.cell rfl
    have c9 : w1.cell? ⟨w.heap.size, 9, none⟩ = some (.int .i64 c.lat) := E1.out.cf.cell rfl
    try dsimp only
    go_wp2_with fail
    refine (refSize_any op _).mono ?_
    rintro e _ ⟨rfl, rfl⟩
    try dsimp only
    go_wp2_with fail
    refine (refForm_any op _).mono ?_
    rintro e _ ⟨rfl, rfl⟩
    try dsimp only
    go_wp2_with fail
    go_ret
    exact ⟨rfl, E1.out.bl⟩
  have p11 : (reg == 0) = false := by simpa using g11
  clear hn
  have hcase : sizeZ op = 4 ∨ sizeZ op = 2 ∨ sizeZ op = 1 := by omega
  rcases hcase with hs | hs | hs
  · exact banksAnswer_4 c A B ca cb lats picks M mc n zs op at_ reg w hc hl hp hr hz ha.2 g0 g1 g2 g3 g4 g5 g6 g7 hs (by rw [← hs]; exact g8) g9 g10 p11
  · exact banksAnswer_2 c A B ca cb lats picks M mc n zs op at_ reg w hc hl hp hr hz ha.2 g0 g1 g2 g3 g4 g5 g6 g7 hs (by rw [← hs]; exact g8) g9 g10 p11
  · exact banksAnswer_1 c A B ca cb lats picks M mc n zs op at_ reg w hc hl hp hr hz ha.2 g0 g1 g2 g3 g4 g5 g6 g7 hs (by rw [← hs]; exact g8) g9 g10 p11
end Go.Proofs.Ythhoigkmmlkfcaa.Words

/- The law BanksServe walked. -/
import Derived.Test.YthhoigkmmlkfcaaSBnkSrvW
namespace Go.Proofs.Ythhoigkmmlkfcaa.Words
set_option maxRecDepth 100000
open Go.RowKit
set_option linter.unusedVariables false
set_option linter.unusedSimpArgs false

set_option maxHeartbeats 4000000 in
theorem banksServe_walk (c : Cfg) (A B : Option Addr) (ca cb : Nat) (lats picks : List Int) (v : Value) (n : Nat) (zs : List Int) (R : Option Addr) (rc : Nat) (l : List Rqs) (w : World) (hc : c.Fits) (hl : Row w w.heap.size 1 (.slice A lats.length ca) lats.length (lats.map (Value.int .i64))) (hp : Row w w.heap.size 1 (.slice B picks.length cb) picks.length (picks.map (Value.int .i64))) (hfl : ∀ x ∈ lats, -9223372036854775808 ≤ x ∧ x ≤ 9223372036854775807) (hfp : ∀ x ∈ picks, -9223372036854775808 ≤ x ∧ x ≤ 9223372036854775807) (hr : Row w w.heap.size 1 v n (zs.map (Value.int .u8))) (hz : ∀ x ∈ zs, 0 ≤ x ∧ x ≤ 255) (hq : Row w w.heap.size 8 (.slice R l.length rc) l.length (flat rqsL l)) (hf : ∀ q ∈ l, q.Fits) :
    Calls Try.prog 4 #[.agg #[.int .i64 c.ldq, .int .i64 c.sdq, .int .i64 c.aeq, .int .i64 c.abq, .int .i64 c.ebq, .int .i64 c.saq, .int .i64 c.banks, .int .i64 c.flight, .int .i64 c.slip, .int .i64 c.lat, .int .i64 c.mul, .int .i64 c.div], .agg #[.slice A lats.length ca, .slice B picks.length cb], v, .slice R l.length rc] w fun e w' => e = .returned (.bool true) ∧ Below w.heap.size w w' := by
  obtain ⟨M, mc, rfl⟩ := hr.form
  generalize hL : l.length = L at *
  obtain ⟨W, hW⟩ : ∃ W, W = (w.alloc (.cells #[.int .i64 c.ldq, .int .i64 c.sdq, .int .i64 c.aeq, .int .i64 c.abq, .int .i64 c.ebq, .int .i64 c.saq, .int .i64 c.banks, .int .i64 c.flight, .int .i64 c.slip, .int .i64 c.lat, .int .i64 c.mul, .int .i64 c.div] 23)).alloc (.cells #[.slice A lats.length ca, .slice B picks.length cb] 26) := ⟨_, rfl⟩
  have HBW : Hid (Below w.heap.size w W) := Lib.hid (by rw [hW]; exact ((Below.refl _ _).alloc (Nat.le_refl _) _).alloc (by simp) _)
  have HCW : Hid (Box W w.heap.size (cfgCells c)) := Lib.hid (by rw [hW]; exact (Box.new w (cfgCells c) _).alloc _)
  have HSW : Hid (Box W (w.heap.size + 1) [.slice A lats.length ca, .slice B picks.length cb]) := Lib.hid (by rw [hW]; have := (Box.new (w.alloc (.cells #[.int .i64 c.ldq, .int .i64 c.sdq, .int .i64 c.aeq, .int .i64 c.abq, .int .i64 c.ebq, .int .i64 c.saq, .int .i64 c.banks, .int .i64 c.flight, .int .i64 c.slip, .int .i64 c.lat, .int .i64 c.mul, .int .i64 c.div] 23)) [.slice A lats.length ca, .slice B picks.length cb] 26); simpa using this)
  have HEW : Hid (EnvB w c [.slice A lats.length ca, .slice B picks.length cb] 0 W) := Lib.hid ⟨HCW.out, HSW.out, HBW.out⟩
  by_cases g0 : (20 : Int) < L
  case pos =>
    have p0 : decide ((20 : Int) < L) = true := decide_eq_true g0
    go_enter Try.func4, Try.ntmps4
    go_wp2_with (first | (rw [← hW]; clear hW))
    refine (alive18_any _).mono ?_
    rintro e w1 ⟨rfl, hb⟩
    have E1 := Lib.hid (HEW.out.below hb)
    clear hb HCW HSW HBW HEW
    have c0 : w1.cell? ⟨w.heap.size + 1, 0, none⟩ = some (.slice A lats.length ca) := E1.out.sc.cell rfl
    have c1 : w1.cell? ⟨w.heap.size + 1, 1, none⟩ = some (.slice B picks.length cb) := E1.out.sc.cell rfl
    have c6 : w1.cell? ⟨w.heap.size, 6, none⟩ = some (.int .i64 c.banks) := E1.out.cf.cell rfl
    have c9 : w1.cell? ⟨w.heap.size, 9, none⟩ = some (.int .i64 c.lat) := E1.out.cf.cell rfl
    try dsimp only
    go_wp2_with fail
    go_ret
    exact ⟨rfl, E1.out.bl⟩
  have p0 : decide ((20 : Int) < L) = false := decide_eq_false g0
  by_cases g1 : (300 : Int) < n
  case pos =>
    have p1 : decide ((300 : Int) < n) = true := decide_eq_true g1
    go_enter Try.func4, Try.ntmps4
    go_wp2_with (first | (rw [← hW]; clear hW))
    refine (alive18_any _).mono ?_
    rintro e w1 ⟨rfl, hb⟩
    have E1 := Lib.hid (HEW.out.below hb)
    clear hb HCW HSW HBW HEW
    have c0 : w1.cell? ⟨w.heap.size + 1, 0, none⟩ = some (.slice A lats.length ca) := E1.out.sc.cell rfl
    have c1 : w1.cell? ⟨w.heap.size + 1, 1, none⟩ = some (.slice B picks.length cb) := E1.out.sc.cell rfl
    have c6 : w1.cell? ⟨w.heap.size, 6, none⟩ = some (.int .i64 c.banks) := E1.out.cf.cell rfl
    have c9 : w1.cell? ⟨w.heap.size, 9, none⟩ = some (.int .i64 c.lat) := E1.out.cf.cell rfl
    try dsimp only
    go_wp2_with fail
    go_ret
    exact ⟨rfl, E1.out.bl⟩
  have p1 : decide ((300 : Int) < n) = false := decide_eq_false g1
  by_cases g2 : (60 : Int) < lats.length
  case pos =>
    have p2 : decide ((60 : Int) < lats.length) = true := decide_eq_true g2
    go_enter Try.func4, Try.ntmps4
    go_wp2_with (first | (rw [← hW]; clear hW))
    refine (alive18_any _).mono ?_
    rintro e w1 ⟨rfl, hb⟩
    have E1 := Lib.hid (HEW.out.below hb)
    clear hb HCW HSW HBW HEW
    have c0 : w1.cell? ⟨w.heap.size + 1, 0, none⟩ = some (.slice A lats.length ca) := E1.out.sc.cell rfl
    have c1 : w1.cell? ⟨w.heap.size + 1, 1, none⟩ = some (.slice B picks.length cb) := E1.out.sc.cell rfl
    have c6 : w1.cell? ⟨w.heap.size, 6, none⟩ = some (.int .i64 c.banks) := E1.out.cf.cell rfl
    have c9 : w1.cell? ⟨w.heap.size, 9, none⟩ = some (.int .i64 c.lat) := E1.out.cf.cell rfl
    try dsimp only
    go_wp2_with fail
    go_ret
    exact ⟨rfl, E1.out.bl⟩
  have p2 : decide ((60 : Int) < lats.length) = false := decide_eq_false g2
  by_cases g3 : (60 : Int) < picks.length
  case pos =>
    have p3 : decide ((60 : Int) < picks.length) = true := decide_eq_true g3
    go_enter Try.func4, Try.ntmps4
    go_wp2_with (first | (rw [← hW]; clear hW))
    refine (alive18_any _).mono ?_
    rintro e w1 ⟨rfl, hb⟩
    have E1 := Lib.hid (HEW.out.below hb)
    clear hb HCW HSW HBW HEW
    have c0 : w1.cell? ⟨w.heap.size + 1, 0, none⟩ = some (.slice A lats.length ca) := E1.out.sc.cell rfl
    have c1 : w1.cell? ⟨w.heap.size + 1, 1, none⟩ = some (.slice B picks.length cb) := E1.out.sc.cell rfl
    have c6 : w1.cell? ⟨w.heap.size, 6, none⟩ = some (.int .i64 c.banks) := E1.out.cf.cell rfl
    have c9 : w1.cell? ⟨w.heap.size, 9, none⟩ = some (.int .i64 c.lat) := E1.out.cf.cell rfl
    try dsimp only
    go_wp2_with fail
    go_ret
    exact ⟨rfl, E1.out.bl⟩
  have p3 : decide ((60 : Int) < picks.length) = false := decide_eq_false g3
  by_cases g4 : c.banks < 1
  case pos =>
    have p4 : decide (c.banks < 1) = true := decide_eq_true g4
    go_enter Try.func4, Try.ntmps4
    go_wp2_with (first | (rw [← hW]; clear hW))
    refine (alive18_any _).mono ?_
    rintro e w1 ⟨rfl, hb⟩
    have E1 := Lib.hid (HEW.out.below hb)
    clear hb HCW HSW HBW HEW
    have c0 : w1.cell? ⟨w.heap.size + 1, 0, none⟩ = some (.slice A lats.length ca) := E1.out.sc.cell rfl
    have c1 : w1.cell? ⟨w.heap.size + 1, 1, none⟩ = some (.slice B picks.length cb) := E1.out.sc.cell rfl
    have c6 : w1.cell? ⟨w.heap.size, 6, none⟩ = some (.int .i64 c.banks) := E1.out.cf.cell rfl
    have c9 : w1.cell? ⟨w.heap.size, 9, none⟩ = some (.int .i64 c.lat) := E1.out.cf.cell rfl
    try dsimp only
    go_wp2_with fail
    go_ret
    exact ⟨rfl, E1.out.bl⟩
  have p4 : decide (c.banks < 1) = false := decide_eq_false g4
  by_cases g5 : 16 < c.banks
  case pos =>
    have p5 : decide (16 < c.banks) = true := decide_eq_true g5
    go_enter Try.func4, Try.ntmps4
    go_wp2_with (first | (rw [← hW]; clear hW))
    refine (alive18_any _).mono ?_
    rintro e w1 ⟨rfl, hb⟩
    have E1 := Lib.hid (HEW.out.below hb)
    clear hb HCW HSW HBW HEW
    have c0 : w1.cell? ⟨w.heap.size + 1, 0, none⟩ = some (.slice A lats.length ca) := E1.out.sc.cell rfl
    have c1 : w1.cell? ⟨w.heap.size + 1, 1, none⟩ = some (.slice B picks.length cb) := E1.out.sc.cell rfl
    have c6 : w1.cell? ⟨w.heap.size, 6, none⟩ = some (.int .i64 c.banks) := E1.out.cf.cell rfl
    have c9 : w1.cell? ⟨w.heap.size, 9, none⟩ = some (.int .i64 c.lat) := E1.out.cf.cell rfl
    try dsimp only
    go_wp2_with fail
    go_ret
    exact ⟨rfl, E1.out.bl⟩
  have p5 : decide (16 < c.banks) = false := decide_eq_false g5
  by_cases g6 : c.lat < 1
  case pos =>
    have p6 : decide (c.lat < 1) = true := decide_eq_true g6
    go_enter Try.func4, Try.ntmps4
    go_wp2_with (first | (rw [← hW]; clear hW))
    refine (alive18_any _).mono ?_
    rintro e w1 ⟨rfl, hb⟩
    have E1 := Lib.hid (HEW.out.below hb)
    clear hb HCW HSW HBW HEW
    have c0 : w1.cell? ⟨w.heap.size + 1, 0, none⟩ = some (.slice A lats.length ca) := E1.out.sc.cell rfl
    have c1 : w1.cell? ⟨w.heap.size + 1, 1, none⟩ = some (.slice B picks.length cb) := E1.out.sc.cell rfl
    have c6 : w1.cell? ⟨w.heap.size, 6, none⟩ = some (.int .i64 c.banks) := E1.out.cf.cell rfl
    have c9 : w1.cell? ⟨w.heap.size, 9, none⟩ = some (.int .i64 c.lat) := E1.out.cf.cell rfl
    try dsimp only
    go_wp2_with fail
    go_ret
    exact ⟨rfl, E1.out.bl⟩
  have p6 : decide (c.lat < 1) = false := decide_eq_false g6
  by_cases g7 : 30 < c.lat
  case pos =>
    have p7 : decide (30 < c.lat) = true := decide_eq_true g7
    go_enter Try.func4, Try.ntmps4
    go_wp2_with (first | (rw [← hW]; clear hW))
    refine (alive18_any _).mono ?_
    rintro e w1 ⟨rfl, hb⟩
    have E1 := Lib.hid (HEW.out.below hb)
    clear hb HCW HSW HBW HEW
    have c0 : w1.cell? ⟨w.heap.size + 1, 0, none⟩ = some (.slice A lats.length ca) := E1.out.sc.cell rfl
    have c1 : w1.cell? ⟨w.heap.size + 1, 1, none⟩ = some (.slice B picks.length cb) := E1.out.sc.cell rfl
    have c6 : w1.cell? ⟨w.heap.size, 6, none⟩ = some (.int .i64 c.banks) := E1.out.cf.cell rfl
    have c9 : w1.cell? ⟨w.heap.size, 9, none⟩ = some (.int .i64 c.lat) := E1.out.cf.cell rfl
    try dsimp only
    go_wp2_with fail
    go_ret
    exact ⟨rfl, E1.out.bl⟩
  have p7 : decide (30 < c.lat) = false := decide_eq_false g7
  exact banksServe_in c A B ca cb lats picks M mc n zs R rc L l w hc hl hp hr hz hq hL hf g0 g1 g2 g3 g4 g5 g6 g7
end Go.Proofs.Ythhoigkmmlkfcaa.Words

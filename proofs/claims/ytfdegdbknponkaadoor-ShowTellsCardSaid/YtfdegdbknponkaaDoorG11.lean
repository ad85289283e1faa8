/- Several texts in one: ShowCell, ShowMath, ShowAlive, LexLaid, AsmLaid, ShowLaid, OpenIns. -/
import Derived.Test.YtfdegdbknponkaaDoorG10
import Derived.Test.YtfdegdbknponkaaDoorG08
import Derived.Test.YtfdegdbknponkaaDoorRows
import Derived.Test.YtfdegdbknponkaaDoorG01
import Derived.PinnedBridge
import Derived.Lib.LaidU8
import Derived.Lib.LaidRTab
import Derived.Lay
import Derived.Test.YtfdegdbknponkaaDoorG09
import Derived.ProofKit
import Derived.OpenShut
import Derived.ChangeOld

/- What a cell is put together of; contract of show.Cell. -/
namespace Go.Proofs.YtfdegdbknponkaaDoor.Words
set_option maxRecDepth 100000
open Go.RowKit Go.Shelf Go.Lib
set_option linter.unusedVariables false
set_option linter.unusedSimpArgs false

/-- A cell's plain data. -/
structure Cel where
  kind : Int
  ins : Ins
  reg : Int
  pc : Int
  off : Int
def Cel.Fits (c : Cel) : Prop := (-9223372036854775808 ≤ c.kind ∧ c.kind ≤ 9223372036854775807) ∧ c.ins.Fits ∧ (-9223372036854775808 ≤ c.reg ∧ c.reg ≤ 9223372036854775807) ∧ (-9223372036854775808 ≤ c.pc ∧ c.pc ≤ 9223372036854775807) ∧ (-9223372036854775808 ≤ c.off ∧ c.off ≤ 9223372036854775807)
def celV (c : Cel) : Value := .agg #[.int .i64 c.kind, .int .i64 c.ins.op, .int .i64 c.ins.d, .int .i64 c.ins.a, .int .i64 c.ins.b, .int .i64 c.ins.imm, .int .i64 c.reg, .int .i64 c.pc, .int .i64 c.off]
/-- What a kind is called. -/
def kindN (k : Int) : List UInt8 := [[], [100, 111], [108, 111, 97, 100], [102, 101, 116, 99, 104], [115, 116, 111, 114, 101], [115, 101, 110, 100], [114, 101, 99, 118], [112, 111, 112], [112, 117, 116], [98, 114, 97, 110, 99, 104], [102, 111, 108, 108, 111, 119], [106, 117, 109, 112], [104, 97, 108, 116]].getD k.toNat []
def celParts (c : Cel) : List Part :=
  if c.kind = 1 ∨ c.kind = 2 ∨ c.kind = 3 ∨ c.kind = 4 ∨ c.kind = 9 then [.s (kindN c.kind ++ [32]), .ins c.ins]
  else if c.kind = 5 ∨ c.kind = 6 ∨ c.kind = 8 then [.s (kindN c.kind ++ [32]), .reg c.reg]
  else if c.kind = 7 then (if rightB c.ins = true then [.s (kindN c.kind ++ [32]), .reg c.ins.d] else [])
  else if c.kind = 10 ∨ c.kind = 11 ∨ c.kind = 12 then [.s (kindN c.kind)]
  else []
def CelC (c : Cel) : Prop := ∀ w : World, Calls Tryd.prog 102 #[.agg #[.int .i64 c.kind, .int .i64 c.ins.op, .int .i64 c.ins.d, .int .i64 c.ins.a, .int .i64 c.ins.b, .int .i64 c.ins.imm, .int .i64 c.reg, .int .i64 c.pc, .int .i64 c.off]] w fun e w' => ∃ v, e = .returned v ∧ w'.ownsRow w.heap.size 20 1 v (celParts c).length (partVals (celParts c)) ∧ Below w.heap.size w w'


set_option maxHeartbeats 2000000 in
theorem cel_1 (c : Cel) (hk : c.kind = 1) : CelC c := by
  intro w
  have e : celParts c = [.s [100, 111, 32], .ins c.ins] := by unfold celParts; rw [hk]; rfl
  rw [e]
  obtain ⟨k, i, reg, pc, off⟩ := c
  simp only at hk
  subst hk
  obtain ⟨op, d, a, b, imm⟩ := i
  have HB0 := Lib.hid ((Below.refl w.heap.size w).alloc (Nat.le_refl _) (.cells #[.int .i64 1, .int .i64 op, .int .i64 d, .int .i64 a, .int .i64 b, .int .i64 imm, .int .i64 reg, .int .i64 pc, .int .i64 off] 49))
  clear e
  go_enter Tryd.func102, Tryd.ntmps102
  go_wp2_with fail
  go_ret
  have hb := HB0.out
  have ho := own_lit (w.alloc (.cells #[.int .i64 1, .int .i64 op, .int .i64 d, .int .i64 a, .int .i64 b, .int .i64 imm, .int .i64 reg, .int .i64 pc, .int .i64 off] 49)) [.iface 9 (.string ⟨#[100, 111, 32]⟩), .iface 38 (.agg #[.int .i64 op, .int .i64 d, .int .i64 a, .int .i64 b, .int .i64 imm])] 20 (by simp)
  rw [show (w.alloc (.cells #[.int .i64 1, .int .i64 op, .int .i64 d, .int .i64 a, .int .i64 b, .int .i64 imm, .int .i64 reg, .int .i64 pc, .int .i64 off] 49)).heap.size = w.heap.size + 1 by simp] at ho
  exact ⟨_, rfl, own_base ho (Nat.le_succ _), hb.alloc hb.size _⟩


set_option maxHeartbeats 2000000 in
theorem cel_2 (c : Cel) (hk : c.kind = 2) : CelC c := by
  intro w
  have e : celParts c = [.s [108, 111, 97, 100, 32], .ins c.ins] := by unfold celParts; rw [hk]; rfl
  rw [e]
  obtain ⟨k, i, reg, pc, off⟩ := c
  simp only at hk
  subst hk
  obtain ⟨op, d, a, b, imm⟩ := i
  have HB0 := Lib.hid ((Below.refl w.heap.size w).alloc (Nat.le_refl _) (.cells #[.int .i64 2, .int .i64 op, .int .i64 d, .int .i64 a, .int .i64 b, .int .i64 imm, .int .i64 reg, .int .i64 pc, .int .i64 off] 49))
  clear e
  go_enter Tryd.func102, Tryd.ntmps102
  go_wp2_with fail
  go_ret
  have hb := HB0.out
  have ho := own_lit (w.alloc (.cells #[.int .i64 2, .int .i64 op, .int .i64 d, .int .i64 a, .int .i64 b, .int .i64 imm, .int .i64 reg, .int .i64 pc, .int .i64 off] 49)) [.iface 9 (.string ⟨#[108, 111, 97, 100, 32]⟩), .iface 38 (.agg #[.int .i64 op, .int .i64 d, .int .i64 a, .int .i64 b, .int .i64 imm])] 20 (by simp)
  rw [show (w.alloc (.cells #[.int .i64 2, .int .i64 op, .int .i64 d, .int .i64 a, .int .i64 b, .int .i64 imm, .int .i64 reg, .int .i64 pc, .int .i64 off] 49)).heap.size = w.heap.size + 1 by simp] at ho
  exact ⟨_, rfl, own_base ho (Nat.le_succ _), hb.alloc hb.size _⟩


set_option maxHeartbeats 2000000 in
theorem cel_3 (c : Cel) (hk : c.kind = 3) : CelC c := by
  intro w
  have e : celParts c = [.s [102, 101, 116, 99, 104, 32], .ins c.ins] := by unfold celParts; rw [hk]; rfl
  rw [e]
  obtain ⟨k, i, reg, pc, off⟩ := c
  simp only at hk
  subst hk
  obtain ⟨op, d, a, b, imm⟩ := i
  have HB0 := Lib.hid ((Below.refl w.heap.size w).alloc (Nat.le_refl _) (.cells #[.int .i64 3, .int .i64 op, .int .i64 d, .int .i64 a, .int .i64 b, .int .i64 imm, .int .i64 reg, .int .i64 pc, .int .i64 off] 49))
  clear e
  go_enter Tryd.func102, Tryd.ntmps102
  go_wp2_with fail
  go_ret
  have hb := HB0.out
  have ho := own_lit (w.alloc (.cells #[.int .i64 3, .int .i64 op, .int .i64 d, .int .i64 a, .int .i64 b, .int .i64 imm, .int .i64 reg, .int .i64 pc, .int .i64 off] 49)) [.iface 9 (.string ⟨#[102, 101, 116, 99, 104, 32]⟩), .iface 38 (.agg #[.int .i64 op, .int .i64 d, .int .i64 a, .int .i64 b, .int .i64 imm])] 20 (by simp)
  rw [show (w.alloc (.cells #[.int .i64 3, .int .i64 op, .int .i64 d, .int .i64 a, .int .i64 b, .int .i64 imm, .int .i64 reg, .int .i64 pc, .int .i64 off] 49)).heap.size = w.heap.size + 1 by simp] at ho
  exact ⟨_, rfl, own_base ho (Nat.le_succ _), hb.alloc hb.size _⟩


set_option maxHeartbeats 2000000 in
theorem cel_4 (c : Cel) (hk : c.kind = 4) : CelC c := by
  intro w
  have e : celParts c = [.s [115, 116, 111, 114, 101, 32], .ins c.ins] := by unfold celParts; rw [hk]; rfl
  rw [e]
  obtain ⟨k, i, reg, pc, off⟩ := c
  simp only at hk
  subst hk
  obtain ⟨op, d, a, b, imm⟩ := i
  have HB0 := Lib.hid ((Below.refl w.heap.size w).alloc (Nat.le_refl _) (.cells #[.int .i64 4, .int .i64 op, .int .i64 d, .int .i64 a, .int .i64 b, .int .i64 imm, .int .i64 reg, .int .i64 pc, .int .i64 off] 49))
  clear e
  go_enter Tryd.func102, Tryd.ntmps102
  go_wp2_with fail
  go_ret
  have hb := HB0.out
  have ho := own_lit (w.alloc (.cells #[.int .i64 4, .int .i64 op, .int .i64 d, .int .i64 a, .int .i64 b, .int .i64 imm, .int .i64 reg, .int .i64 pc, .int .i64 off] 49)) [.iface 9 (.string ⟨#[115, 116, 111, 114, 101, 32]⟩), .iface 38 (.agg #[.int .i64 op, .int .i64 d, .int .i64 a, .int .i64 b, .int .i64 imm])] 20 (by simp)
  rw [show (w.alloc (.cells #[.int .i64 4, .int .i64 op, .int .i64 d, .int .i64 a, .int .i64 b, .int .i64 imm, .int .i64 reg, .int .i64 pc, .int .i64 off] 49)).heap.size = w.heap.size + 1 by simp] at ho
  exact ⟨_, rfl, own_base ho (Nat.le_succ _), hb.alloc hb.size _⟩


set_option maxHeartbeats 2000000 in
theorem cel_9 (c : Cel) (hk : c.kind = 9) : CelC c := by
  intro w
  have e : celParts c = [.s [98, 114, 97, 110, 99, 104, 32], .ins c.ins] := by unfold celParts; rw [hk]; rfl
  rw [e]
  obtain ⟨k, i, reg, pc, off⟩ := c
  simp only at hk
  subst hk
  obtain ⟨op, d, a, b, imm⟩ := i
  have HB0 := Lib.hid ((Below.refl w.heap.size w).alloc (Nat.le_refl _) (.cells #[.int .i64 9, .int .i64 op, .int .i64 d, .int .i64 a, .int .i64 b, .int .i64 imm, .int .i64 reg, .int .i64 pc, .int .i64 off] 49))
  clear e
  go_enter Tryd.func102, Tryd.ntmps102
  go_wp2_with fail
  go_ret
  have hb := HB0.out
  have ho := own_lit (w.alloc (.cells #[.int .i64 9, .int .i64 op, .int .i64 d, .int .i64 a, .int .i64 b, .int .i64 imm, .int .i64 reg, .int .i64 pc, .int .i64 off] 49)) [.iface 9 (.string ⟨#[98, 114, 97, 110, 99, 104, 32]⟩), .iface 38 (.agg #[.int .i64 op, .int .i64 d, .int .i64 a, .int .i64 b, .int .i64 imm])] 20 (by simp)
  rw [show (w.alloc (.cells #[.int .i64 9, .int .i64 op, .int .i64 d, .int .i64 a, .int .i64 b, .int .i64 imm, .int .i64 reg, .int .i64 pc, .int .i64 off] 49)).heap.size = w.heap.size + 1 by simp] at ho
  exact ⟨_, rfl, own_base ho (Nat.le_succ _), hb.alloc hb.size _⟩


set_option maxHeartbeats 2000000 in
theorem cel_5 (c : Cel) (hk : c.kind = 5) : CelC c := by
  intro w
  have e : celParts c = [.s [115, 101, 110, 100, 32], .reg c.reg] := by unfold celParts; rw [hk]; rfl
  rw [e]
  obtain ⟨k, i, reg, pc, off⟩ := c
  simp only at hk
  subst hk
  obtain ⟨op, d, a, b, imm⟩ := i
  have HB0 := Lib.hid ((Below.refl w.heap.size w).alloc (Nat.le_refl _) (.cells #[.int .i64 5, .int .i64 op, .int .i64 d, .int .i64 a, .int .i64 b, .int .i64 imm, .int .i64 reg, .int .i64 pc, .int .i64 off] 49))
  clear e
  go_enter Tryd.func102, Tryd.ntmps102
  go_wp2_with fail
  go_ret
  have hb := HB0.out
  have ho := own_lit (w.alloc (.cells #[.int .i64 5, .int .i64 op, .int .i64 d, .int .i64 a, .int .i64 b, .int .i64 imm, .int .i64 reg, .int .i64 pc, .int .i64 off] 49)) [.iface 9 (.string ⟨#[115, 101, 110, 100, 32]⟩), .iface 149 (.int .i64 reg)] 20 (by simp)
  rw [show (w.alloc (.cells #[.int .i64 5, .int .i64 op, .int .i64 d, .int .i64 a, .int .i64 b, .int .i64 imm, .int .i64 reg, .int .i64 pc, .int .i64 off] 49)).heap.size = w.heap.size + 1 by simp] at ho
  exact ⟨_, rfl, own_base ho (Nat.le_succ _), hb.alloc hb.size _⟩


set_option maxHeartbeats 2000000 in
theorem cel_6 (c : Cel) (hk : c.kind = 6) : CelC c := by
  intro w
  have e : celParts c = [.s [114, 101, 99, 118, 32], .reg c.reg] := by unfold celParts; rw [hk]; rfl
  rw [e]
  obtain ⟨k, i, reg, pc, off⟩ := c
  simp only at hk
  subst hk
  obtain ⟨op, d, a, b, imm⟩ := i
  have HB0 := Lib.hid ((Below.refl w.heap.size w).alloc (Nat.le_refl _) (.cells #[.int .i64 6, .int .i64 op, .int .i64 d, .int .i64 a, .int .i64 b, .int .i64 imm, .int .i64 reg, .int .i64 pc, .int .i64 off] 49))
  clear e
  go_enter Tryd.func102, Tryd.ntmps102
  go_wp2_with fail
  go_ret
  have hb := HB0.out
  have ho := own_lit (w.alloc (.cells #[.int .i64 6, .int .i64 op, .int .i64 d, .int .i64 a, .int .i64 b, .int .i64 imm, .int .i64 reg, .int .i64 pc, .int .i64 off] 49)) [.iface 9 (.string ⟨#[114, 101, 99, 118, 32]⟩), .iface 149 (.int .i64 reg)] 20 (by simp)
  rw [show (w.alloc (.cells #[.int .i64 6, .int .i64 op, .int .i64 d, .int .i64 a, .int .i64 b, .int .i64 imm, .int .i64 reg, .int .i64 pc, .int .i64 off] 49)).heap.size = w.heap.size + 1 by simp] at ho
  exact ⟨_, rfl, own_base ho (Nat.le_succ _), hb.alloc hb.size _⟩


set_option maxHeartbeats 2000000 in
theorem cel_8 (c : Cel) (hk : c.kind = 8) : CelC c := by
  intro w
  have e : celParts c = [.s [112, 117, 116, 32], .reg c.reg] := by unfold celParts; rw [hk]; rfl
  rw [e]
  obtain ⟨k, i, reg, pc, off⟩ := c
  simp only at hk
  subst hk
  obtain ⟨op, d, a, b, imm⟩ := i
  have HB0 := Lib.hid ((Below.refl w.heap.size w).alloc (Nat.le_refl _) (.cells #[.int .i64 8, .int .i64 op, .int .i64 d, .int .i64 a, .int .i64 b, .int .i64 imm, .int .i64 reg, .int .i64 pc, .int .i64 off] 49))
  clear e
  go_enter Tryd.func102, Tryd.ntmps102
  go_wp2_with fail
  go_ret
  have hb := HB0.out
  have ho := own_lit (w.alloc (.cells #[.int .i64 8, .int .i64 op, .int .i64 d, .int .i64 a, .int .i64 b, .int .i64 imm, .int .i64 reg, .int .i64 pc, .int .i64 off] 49)) [.iface 9 (.string ⟨#[112, 117, 116, 32]⟩), .iface 149 (.int .i64 reg)] 20 (by simp)
  rw [show (w.alloc (.cells #[.int .i64 8, .int .i64 op, .int .i64 d, .int .i64 a, .int .i64 b, .int .i64 imm, .int .i64 reg, .int .i64 pc, .int .i64 off] 49)).heap.size = w.heap.size + 1 by simp] at ho
  exact ⟨_, rfl, own_base ho (Nat.le_succ _), hb.alloc hb.size _⟩


set_option maxHeartbeats 2000000 in
theorem cel_10 (c : Cel) (hk : c.kind = 10) : CelC c := by
  intro w
  have e : celParts c = [.s [102, 111, 108, 108, 111, 119]] := by unfold celParts; rw [hk]; rfl
  rw [e]
  obtain ⟨k, i, reg, pc, off⟩ := c
  simp only at hk
  subst hk
  obtain ⟨op, d, a, b, imm⟩ := i
  have HB0 := Lib.hid ((Below.refl w.heap.size w).alloc (Nat.le_refl _) (.cells #[.int .i64 10, .int .i64 op, .int .i64 d, .int .i64 a, .int .i64 b, .int .i64 imm, .int .i64 reg, .int .i64 pc, .int .i64 off] 49))
  clear e
  go_enter Tryd.func102, Tryd.ntmps102
  go_wp2_with fail
  go_ret
  have hb := HB0.out
  have ho := own_lit (w.alloc (.cells #[.int .i64 10, .int .i64 op, .int .i64 d, .int .i64 a, .int .i64 b, .int .i64 imm, .int .i64 reg, .int .i64 pc, .int .i64 off] 49)) [.iface 9 (.string ⟨#[102, 111, 108, 108, 111, 119]⟩)] 20 (by simp)
  rw [show (w.alloc (.cells #[.int .i64 10, .int .i64 op, .int .i64 d, .int .i64 a, .int .i64 b, .int .i64 imm, .int .i64 reg, .int .i64 pc, .int .i64 off] 49)).heap.size = w.heap.size + 1 by simp] at ho
  exact ⟨_, rfl, own_base ho (Nat.le_succ _), hb.alloc hb.size _⟩


set_option maxHeartbeats 2000000 in
theorem cel_11 (c : Cel) (hk : c.kind = 11) : CelC c := by
  intro w
  have e : celParts c = [.s [106, 117, 109, 112]] := by unfold celParts; rw [hk]; rfl
  rw [e]
  obtain ⟨k, i, reg, pc, off⟩ := c
  simp only at hk
  subst hk
  obtain ⟨op, d, a, b, imm⟩ := i
  have HB0 := Lib.hid ((Below.refl w.heap.size w).alloc (Nat.le_refl _) (.cells #[.int .i64 11, .int .i64 op, .int .i64 d, .int .i64 a, .int .i64 b, .int .i64 imm, .int .i64 reg, .int .i64 pc, .int .i64 off] 49))
  clear e
  go_enter Tryd.func102, Tryd.ntmps102
  go_wp2_with fail
  go_ret
  have hb := HB0.out
  have ho := own_lit (w.alloc (.cells #[.int .i64 11, .int .i64 op, .int .i64 d, .int .i64 a, .int .i64 b, .int .i64 imm, .int .i64 reg, .int .i64 pc, .int .i64 off] 49)) [.iface 9 (.string ⟨#[106, 117, 109, 112]⟩)] 20 (by simp)
  rw [show (w.alloc (.cells #[.int .i64 11, .int .i64 op, .int .i64 d, .int .i64 a, .int .i64 b, .int .i64 imm, .int .i64 reg, .int .i64 pc, .int .i64 off] 49)).heap.size = w.heap.size + 1 by simp] at ho
  exact ⟨_, rfl, own_base ho (Nat.le_succ _), hb.alloc hb.size _⟩


set_option maxHeartbeats 2000000 in
theorem cel_12 (c : Cel) (hk : c.kind = 12) : CelC c := by
  intro w
  have e : celParts c = [.s [104, 97, 108, 116]] := by unfold celParts; rw [hk]; rfl
  rw [e]
  obtain ⟨k, i, reg, pc, off⟩ := c
  simp only at hk
  subst hk
  obtain ⟨op, d, a, b, imm⟩ := i
  have HB0 := Lib.hid ((Below.refl w.heap.size w).alloc (Nat.le_refl _) (.cells #[.int .i64 12, .int .i64 op, .int .i64 d, .int .i64 a, .int .i64 b, .int .i64 imm, .int .i64 reg, .int .i64 pc, .int .i64 off] 49))
  clear e
  go_enter Tryd.func102, Tryd.ntmps102
  go_wp2_with fail
  go_ret
  have hb := HB0.out
  have ho := own_lit (w.alloc (.cells #[.int .i64 12, .int .i64 op, .int .i64 d, .int .i64 a, .int .i64 b, .int .i64 imm, .int .i64 reg, .int .i64 pc, .int .i64 off] 49)) [.iface 9 (.string ⟨#[104, 97, 108, 116]⟩)] 20 (by simp)
  rw [show (w.alloc (.cells #[.int .i64 12, .int .i64 op, .int .i64 d, .int .i64 a, .int .i64 b, .int .i64 imm, .int .i64 reg, .int .i64 pc, .int .i64 off] 49)).heap.size = w.heap.size + 1 by simp] at ho
  exact ⟨_, rfl, own_base ho (Nat.le_succ _), hb.alloc hb.size _⟩


set_option maxHeartbeats 2000000 in
theorem partsOfPop_any (i : Ins) (w : World) :
    Calls Tryd.prog 115 #[.agg #[.int .i64 i.op, .int .i64 i.d, .int .i64 i.a, .int .i64 i.b, .int .i64 i.imm]] w fun e w' =>
      ∃ v, e = .returned v ∧ w'.ownsRow w.heap.size 20 1 v (if rightB i = true then [Part.s [112, 111, 112, 32], .reg i.d] else []).length (partVals (if rightB i = true then [.s [112, 111, 112, 32], .reg i.d] else [])) ∧ Below w.heap.size w w' := by
  have cR := fun y => right_any i y
  have HB0 := Lib.hid ((Below.refl w.heap.size w).alloc (Nat.le_refl _) (.cells #[.int .i64 i.op, .int .i64 i.d, .int .i64 i.a, .int .i64 i.b, .int .i64 i.imm] 38))
  have hs0 : w.heap.size < (w.alloc (.cells #[.int .i64 i.op, .int .i64 i.d, .int .i64 i.a, .int .i64 i.b, .int .i64 i.imm] 38)).heap.size := by simp
  have HX0 := Lib.hid (Box.new w [.int .i64 i.op, .int .i64 i.d, .int .i64 i.a, .int .i64 i.b, .int .i64 i.imm] 38)
  change Hid (Box (w.alloc (.cells #[.int .i64 i.op, .int .i64 i.d, .int .i64 i.a, .int .i64 i.b, .int .i64 i.imm] 38)) w.heap.size _) at HX0
  cases hr : rightB i
  · rw [hr] at cR
    rw [if_neg (by decide)]
    go_enter Tryd.func115, Tryd.ntmps115
    go_wp2_with fail
    refine (cR _).mono ?_
    rintro e w1 ⟨rfl, hb1⟩
    generalize (w.alloc (.cells #[.int .i64 i.op, .int .i64 i.d, .int .i64 i.a, .int .i64 i.b, .int .i64 i.imm] 38)) = W at *
    have HB1 := Lib.hid (HB0.out.trans (hb1.mono HB0.out.size))
    clear hb1
    go_wp2_with fail
    go_ret
    exact ⟨_, rfl, World.ownsRow_nil _ _ _ _, HB1.out⟩
  · rw [hr] at cR
    rw [if_pos rfl]
    go_enter Tryd.func115, Tryd.ntmps115
    go_wp2_with fail
    refine (cR _).mono ?_
    rintro e w1 ⟨rfl, hb1⟩
    generalize (w.alloc (.cells #[.int .i64 i.op, .int .i64 i.d, .int .i64 i.a, .int .i64 i.b, .int .i64 i.imm] 38)) = W at *
    have HB1 := Lib.hid (HB0.out.trans (hb1.mono HB0.out.size))
    have d1 := (HX0.out.below hb1 hs0).cell (k := 1) rfl
    clear hb1
    go_wp2_with fail
    go_ret
    have hb := HB1.out
    exact ⟨_, rfl, own_base (own_lit _ [.iface 9 (.string ⟨#[112, 111, 112, 32]⟩), .iface 149 (.int .i64 i.d)] 20 (by simp)) hb.size, hb.alloc hb.size _⟩

set_option maxHeartbeats 2000000 in
theorem cel_7 (c : Cel) (hk : c.kind = 7) : CelC c := by
  intro w
  have e : celParts c = if rightB c.ins = true then [.s [112, 111, 112, 32], .reg c.ins.d] else [] := by unfold celParts; rw [hk]; rfl
  rw [e]
  obtain ⟨k, i, reg, pc, off⟩ := c
  simp only at hk
  subst hk
  have cP := fun y => partsOfPop_any i y
  have HB0 := Lib.hid ((Below.refl w.heap.size w).alloc (Nat.le_refl _) (.cells #[.int .i64 7, .int .i64 i.op, .int .i64 i.d, .int .i64 i.a, .int .i64 i.b, .int .i64 i.imm, .int .i64 reg, .int .i64 pc, .int .i64 off] 49))
  clear e
  try dsimp only
  generalize (if rightB i = true then [Part.s [112, 111, 112, 32], .reg i.d] else []) = PS at *
  go_enter Tryd.func102, Tryd.ntmps102
  go_wp2_with fail
  refine (cP _).mono ?_
  rintro e w1 ⟨v, rfl, ho, hb1⟩
  have HO := Lib.hid (own_base ho HB0.out.size)
  have HB1 := Lib.hid (HB0.out.trans (hb1.mono HB0.out.size))
  clear ho hb1
  go_wp2_with fail
  go_ret
  exact ⟨_, rfl, HO.out, HB1.out⟩

set_option maxHeartbeats 2000000 in
theorem cel_no (c : Cel) (hk : c.kind < 1 ∨ 12 < c.kind) : CelC c := by
  intro w
  have e : celParts c = [] := by
    unfold celParts
    rw [if_neg (by omega), if_neg (by omega), if_neg (by omega), if_neg (by omega)]
  rw [e]
  obtain ⟨k, i, reg, pc, off⟩ := c
  simp only at hk
  have q1 : (k == 1) = false := by simp; omega
  have q2 : (k == 2) = false := by simp; omega
  have q3 : (k == 3) = false := by simp; omega
  have q4 : (k == 4) = false := by simp; omega
  have q5 : (k == 5) = false := by simp; omega
  have q6 : (k == 6) = false := by simp; omega
  have q7 : (k == 7) = false := by simp; omega
  have q8 : (k == 8) = false := by simp; omega
  have q9 : (k == 9) = false := by simp; omega
  have q10 : (k == 10) = false := by simp; omega
  have q11 : (k == 11) = false := by simp; omega
  have q12 : (k == 12) = false := by simp; omega
  have HB0 := Lib.hid ((Below.refl w.heap.size w).alloc (Nat.le_refl _) (.cells #[.int .i64 k, .int .i64 i.op, .int .i64 i.d, .int .i64 i.a, .int .i64 i.b, .int .i64 i.imm, .int .i64 reg, .int .i64 pc, .int .i64 off] 49))
  clear e hk
  try dsimp only
  go_enter Tryd.func102, Tryd.ntmps102
  go_wp2_with fail
  go_ret
  exact ⟨_, rfl, World.ownsRow_nil _ _ _ _, HB0.out⟩
theorem cel_any (c : Cel) : CelC c := by
  by_cases h : c.kind < 1 ∨ 12 < c.kind
  · exact cel_no c h
  · have h12 : c.kind = 1 ∨ c.kind = 2 ∨ c.kind = 3 ∨ c.kind = 4 ∨ c.kind = 5 ∨ c.kind = 6 ∨ c.kind = 7 ∨ c.kind = 8 ∨ c.kind = 9 ∨ c.kind = 10 ∨ c.kind = 11 ∨ c.kind = 12 := by omega
    rcases h12 with h | h | h | h | h | h | h | h | h | h | h | h
    · exact cel_1 c h
    · exact cel_2 c h
    · exact cel_3 c h
    · exact cel_4 c h
    · exact cel_5 c h
    · exact cel_6 c h
    · exact cel_7 c h
    · exact cel_8 c h
    · exact cel_9 c h
    · exact cel_10 c h
    · exact cel_11 c h
    · exact cel_12 c h

set_option maxHeartbeats 2000000 in
theorem parts_cell (c : Cel) : PartsC (.iface 49 (celV c)) (celParts c) := by
  intro w hT
  have a1 := as_cr (celV c)
  have a2 := as_ci (celV c)
  have a3 := as_cc (celV c)
  unfold zIns at a2
  unfold celV at a1 a2 a3 ⊢
  have hb0 := ((Below.refl w.heap.size w).alloc (Nat.le_refl _) (.cells #[.int .i64 0, .int .i64 0, .int .i64 0, .int .i64 0, .int .i64 0] 38)).alloc (by simp) (.cells #[.int .i64 c.kind, .int .i64 c.ins.op, .int .i64 c.ins.d, .int .i64 c.ins.a, .int .i64 c.ins.b, .int .i64 c.ins.imm, .int .i64 c.reg, .int .i64 c.pc, .int .i64 c.off] 49)
  have HB0 := Lib.hid hb0
  clear hT hb0
  go_enter Tryd.func83, Tryd.ntmps83
  go_wp2_with fail
  refine (cel_any c _).mono ?_
  rintro e w2 ⟨v, rfl, ho, hb2⟩
  have HO2 := Lib.hid (own_base ho HB0.out.size)
  have HB2 := Lib.hid (HB0.out.trans (hb2.mono HB0.out.size))
  clear ho hb2
  go_wp2_with fail
  go_ret
  exact ⟨v, rfl, HO2.out, HB2.out⟩

/-! ### what a cell is shown as -/
def celO (c : Cel) : Option (List UInt8) := if celParts c = [] then none else partsTxt (celParts c)
/-- What a cell is shown as. -/
def cellZ (c : Cel) : List UInt8 := (celO c).getD []
theorem kindN_len : ∀ k : Int, (kindN k).length ≤ 6 := by
  intro k
  unfold kindN
  rw [List.getD_eq_getElem?_getD]
  cases h : ([[], [100, 111], [108, 111, 97, 100], [102, 101, 116, 99, 104], [115, 116, 111, 114, 101], [115, 101, 110, 100], [114, 101, 99, 118], [112, 111, 112], [112, 117, 116], [98, 114, 97, 110, 99, 104], [102, 111, 108, 108, 111, 119], [106, 117, 109, 112], [104, 97, 108, 116]] : List (List UInt8))[k.toNat]? with
  | none => simp
  | some t =>
    have : ∀ t ∈ ([[], [100, 111], [108, 111, 97, 100], [102, 101, 116, 99, 104], [115, 116, 111, 114, 101], [115, 101, 110, 100], [114, 101, 99, 118], [112, 111, 112], [112, 117, 116], [98, 114, 97, 110, 99, 104], [102, 111, 108, 108, 111, 119], [106, 117, 109, 112], [104, 97, 108, 116]] : List (List UInt8)), t.length ≤ 6 := by decide
    exact this t (List.mem_of_getElem? h)
theorem celParts_ok {c : Cel} (hf : c.Fits) : ∀ p ∈ celParts c, p.ok := by
  obtain ⟨h1, h2, h3, _⟩ := hf
  have hl := kindN_len c.kind
  intro p hp
  unfold celParts at hp
  have s1 : (Part.s (kindN c.kind ++ [32])).ok := by show (kindN c.kind ++ [32]).length ≤ 60; simp; omega
  have s2 : (Part.s (kindN c.kind)).ok := by show (kindN c.kind).length ≤ 60; omega
  split at hp
  · simp only [List.mem_cons, List.not_mem_nil, or_false] at hp
    rcases hp with rfl | rfl
    · exact s1
    · exact h2
  split at hp
  · simp only [List.mem_cons, List.not_mem_nil, or_false] at hp
    rcases hp with rfl | rfl
    · exact s1
    · exact h3
  split at hp
  · split at hp
    · rename_i hr
      have hd := (right_range hr).2.1
      simp only [List.mem_cons, List.not_mem_nil, or_false] at hp
      rcases hp with rfl | rfl
      · exact s1
      · exact ⟨by omega, by omega⟩
    · cases hp
  split at hp
  · simp only [List.mem_cons, List.not_mem_nil, or_false] at hp
    subst hp
    exact s2
  · cases hp
theorem celParts_len (c : Cel) : (celParts c).length ≤ 2 := by
  unfold celParts
  repeat' split
  all_goals simp
theorem write_cell {B : Nat} (hB : B + 3000 ≤ 1099511627776) (c : Cel) (hf : c.Fits) : WriteC B (.iface 49 (celV c)) (celO c) := by
  unfold celO
  by_cases h : celParts c = []
  · rw [if_pos h]
    have := parts_cell c
    rw [h] at this
    exact write_nothing (deep_cell _) this
  · rw [if_neg h]
    have hl := celParts_len c
    have hne : 1 ≤ (celParts c).length := by
      cases hh : celParts c with
      | nil => exact absurd hh h
      | cons a l => simp
    have hok := celParts_ok hf
    refine write_parts (deep_cell _) (parts_cell c) hne (by omega) hok (fun p hp => ?_)
    have hp' := hok p hp
    generalize hL : 60 * (celParts c).length = L at *
    cases p with
    | s t => exact write_str (by omega) t (by have : t.length ≤ 60 := hp'; omega)
    | n k => exact write_int (by omega) k ⟨hp'.1, hp'.2.1⟩ (by have := hp'.2.2; omega)
    | op k => exact write_op (by omega) k hp'
    | reg k => exact write_reg (by omega) k hp'
    | ins j => exact write_ins (by omega) j hp'

set_option maxHeartbeats 1000000 in
theorem showCell_any (c : Cel) (hf : c.Fits) (w : World) (hT : TabsS w) :
    Calls Tryd.prog 26 #[.agg #[.int .i64 c.kind, .int .i64 c.ins.op, .int .i64 c.ins.d, .int .i64 c.ins.a, .int .i64 c.ins.b, .int .i64 c.ins.imm, .int .i64 c.reg, .int .i64 c.pc, .int .i64 c.off]] w fun e w' => e = .returned (.string (txt (cellZ c))) ∧ Below w.heap.size w w' := by
  have cS := Lib.hid (shown_any (write_cell (B := 0) (by decide) c hf))
  have hb0 := (Below.refl w.heap.size w).alloc (Nat.le_refl _) (.cells #[.int .i64 c.kind, .int .i64 c.ins.op, .int .i64 c.ins.d, .int .i64 c.ins.a, .int .i64 c.ins.b, .int .i64 c.ins.imm, .int .i64 c.reg, .int .i64 c.pc, .int .i64 c.off] 49)
  have HB0 := Lib.hid hb0
  have HT := Lib.hid (hT.below hb0)
  have hz : Hid (cellZ c = (celO c).getD []) := rfl
  clear hT hb0 hf
  unfold celV at cS
  rw [← hz.out] at cS
  clear hz
  go_enter Tryd.func26, Tryd.ntmps26
  go_wp2_with fail
  refine (cS.out _ HT.out).mono ?_
  rintro e w1 ⟨rfl, hb1⟩
  have HB1 := Lib.hid (HB0.out.trans (hb1.mono HB0.out.size))
  clear hb1
  go_wp2_with fail
  go_ret
  exact ⟨rfl, HB1.out⟩
end Go.Proofs.YtfdegdbknponkaaDoor.Words

/- No two instructions are shown alike. Plain mathematics. -/
namespace Go.Proofs.YtfdegdbknponkaaDoor.Words
set_option maxRecDepth 100000
set_option linter.unusedVariables false
set_option linter.unusedSimpArgs false
open Go.Lib

theorem show_parsed {i : Ins} (hr : rightB i = true) : ∃ T ps, lexZ (showI i) = .toks T ∧ stmtT T = (true, [], ps) ∧ ps.map partK = [⟨2, 0, [], i, key0⟩] := by
  have hi := (right_range hr).2.2.2.2
  obtain ⟨k1, o1⟩ := lexK_ins i [] (decN i.imm) false
  have hg : goodP (showP i) := goodP_ins hr (decN_num (by omega)) (fun h => absurd rfl h)
  have hl := showI_len hr
  obtain ⟨T, t1, t2⟩ := lexZ_pcs hg (show (pcText (showP i)).length ≤ 20000 from Nat.le_trans hl (by decide))
  have ho : StmOk (.ins i []) := ⟨hr, fun h => absurd rfl h⟩
  obtain ⟨ps, p1, p2⟩ := stmt_keys ho (T := T) (r := []) (t1.trans k1) (fun e r' h => by cases h)
  rw [List.append_nil] at p2
  exact ⟨T, ps, t2, p2, p1⟩
theorem showI_inj {i k : Ins} (hr : rightB i = true) (hk : rightB k = true) (h : showI i = showI k) : i = k := by
  obtain ⟨T, ps, a1, a2, a3⟩ := show_parsed hr
  obtain ⟨T', ps', b1, b2, b3⟩ := show_parsed hk
  rw [h, b1] at a1
  injection a1 with a1
  subst a1
  rw [a2] at b2
  simp only [Prod.mk.injEq, true_and] at b2
  rw [b2, b3] at a3
  simp only [List.cons.injEq, PartK.mk.injEq, and_true, true_and] at a3
  exact a3.symm
theorem regS_inj {a b : Int} (ha : 0 ≤ a ∧ a ≤ 15) (hb : 0 ≤ b ∧ b ≤ 15) (h : regS a = regS b) : a = b := by
  rw [regS_eq ha, regS_eq hb] at h
  have := regN_reg ha
  rw [h, regN_reg hb] at this
  injection this with this
  exact this.symm
def putCel (a pc off : Int) : Cel := ⟨8, ⟨0, 0, 0, 0, 0⟩, a, pc, off⟩
theorem cell_put {a pc off : Int} (ha : 0 ≤ a ∧ a ≤ 15) : cellZ (putCel a pc off) = [112, 117, 116, 32] ++ regS a := by
  have e : celParts (putCel a pc off) = [.s [112, 117, 116, 32], .reg a] := rfl
  have t : (Part.reg a).text = some (regS a) := if_pos ha
  unfold cellZ celO
  rw [e, if_neg (by simp), partsTxt_cons (a := [112, 117, 116, 32]) rfl (partsTxt_some t)]
  rfl
def doCel (i : Ins) : Cel := ⟨1, i, 0, 0, 0⟩
theorem cell_do {i : Ins} (hr : rightB i = true) : cellZ (doCel i) = [100, 111, 32] ++ showI i := by
  have e : celParts (doCel i) = [.s [100, 111, 32], .ins i] := rfl
  have t : (Part.ins i).text = some (showI i) := if_pos hr
  unfold cellZ celO
  rw [e, if_neg (by simp), partsTxt_cons (a := [100, 111, 32]) rfl (partsTxt_some t)]
  rfl
theorem show_halt : showZ ⟨41, 0, 0, 0, 0⟩ = [104, 97, 108, 116] := by decide +kernel
theorem show_lw : showZ ⟨26, 1, 2, 0, -4⟩ = [108, 119, 32, 114, 49, 44, 32, 45, 52, 40, 114, 50, 41] := by decide +kernel
theorem cell_send : cellZ ⟨5, ⟨0, 0, 0, 0, 0⟩, 3, 0, 0⟩ = [115, 101, 110, 100, 32, 114, 51] := by decide +kernel
end Go.Proofs.YtfdegdbknponkaaDoor.Words

/- The law's example of chapter 9. -/
namespace Go.Proofs.YtfdegdbknponkaaDoor.Words
set_option maxRecDepth 100000
open Go.RowKit Go.Shelf Go.Lib
set_option linter.unusedVariables false
set_option linter.unusedSimpArgs false

theorem txt_isB (a b : List UInt8) (h : a = b) : ((txt a).toList == b) = true := by
  subst h
  rw [Lib.toList_data, txt_data]
  simp
set_option maxHeartbeats 2000000 in
theorem alive9_any (w : World) (hT : TabsS w) : Calls Tryd.prog 22 #[] w fun e w' => e = .returned (.bool true) ∧ Below w.heap.size w w' := by
  have c1 := showIns_any ⟨41, 0, 0, 0, 0⟩ (by unfold Ins.Fits; decide) w hT
  have C2 := Lib.hid (fun y hy => showIns_any ⟨26, 1, 2, 0, -4⟩ (by unfold Ins.Fits; decide) y hy)
  have C3 := Lib.hid (fun y hy => showCell_any ⟨5, ⟨0, 0, 0, 0, 0⟩, 3, 0, 0⟩ (by unfold Cel.Fits Ins.Fits; decide) y hy)
  have HT := Lib.hid hT
  have e1 := txt_isB (showZ ⟨41, 0, 0, 0, 0⟩) _ show_halt
  have e2 := txt_isB (showZ ⟨26, 1, 2, 0, -4⟩) _ show_lw
  have e3 := txt_isB (cellZ ⟨5, ⟨0, 0, 0, 0, 0⟩, 3, 0, 0⟩) _ cell_send
  generalize txt (showZ ⟨41, 0, 0, 0, 0⟩) = X1 at *
  generalize txt (showZ ⟨26, 1, 2, 0, -4⟩) = X2 at *
  generalize txt (cellZ ⟨5, ⟨0, 0, 0, 0, 0⟩, 3, 0, 0⟩) = X3 at *
  clear hT
  go_enter Tryd.func22, Tryd.ntmps22
  go_wp2_with fail
  refine c1.mono ?_
  rintro e w1 ⟨rfl, hb1⟩
  have HB1 := Lib.hid hb1
  have HT1 := Lib.hid (HT.out.below hb1)
  clear hb1 c1
  go_wp2_with fail
  refine (C2.out _ HT1.out).mono ?_
  rintro e w2 ⟨rfl, hb2⟩
  have HB2 := Lib.hid (HB1.out.trans (hb2.mono HB1.out.size))
  have HT2 := Lib.hid (HT1.out.below hb2)
  clear hb2
  go_wp2_with fail
  refine (C3.out _ HT2.out).mono ?_
  rintro e w3 ⟨rfl, hb3⟩
  have HB3 := Lib.hid (HB2.out.trans (hb3.mono HB2.out.size))
  clear hb3
  go_wp2_with fail
  go_ret
  exact ⟨by first | rfl | simp, HB3.out⟩
end Go.Proofs.YtfdegdbknponkaaDoor.Words

/- The tables that a row of chapter 7 lists are laid: the fact that the walks ask, and the world of the witness. -/
namespace Go.Proofs.YtfdegdbknponkaaDoor.Words
set_option maxRecDepth 100000
open Go.RowKit Go.Shelf Go.Lib
set_option linter.unusedVariables false

/-- The list. -/
def laidL : List (String × DataW Unit) := [("unicode/utf8.acceptRanges", Rows.laid_unicode_utf8_acceptRanges), ("unicode.properties", Rows.laid_unicode_properties), ("unicode.Letter", Rows.laid_unicode_Letter), ("unicode/utf8.first", Rows.laid_unicode_utf8_first)]
theorem accept_eq : (Rows.laid_unicode_utf8_acceptRanges : DataW Unit) = acceptData := by kernel_rfl
theorem props_eq : (Rows.laid_unicode_properties : DataW Unit) = tabData .u8 propertiesTab := by kernel_rfl
theorem letter_eq : Rows.laid_unicode_Letter = rtabData letterT := Pinned.letter_eq
theorem first_eq : Rows.laid_unicode_utf8_first = firstData := Pinned.utf8First_eq
theorem xLetter : RExtra Tryd.prog Tryd.lays200_ren := ⟨by kernel_rfl, by kernel_rfl, by kernel_rfl, by kernel_rfl, by kernel_rfl, by kernel_rfl, by kernel_rfl, by kernel_rfl⟩
theorem xFirst : U8Extra Tryd.prog Tryd.lays260_ren := ⟨by kernel_rfl, by kernel_rfl, by kernel_rfl, by kernel_rfl, by kernel_rfl, by kernel_rfl, by kernel_rfl⟩
theorem tab_of_reads {P : Program} {W : World} {name : String} {k : IntKind} {zs : List Int} {g : Nat} {t e : TypeId} {n : Nat}
    (hg : P.globalNamed name = some g) (hty : (P.globals[g]?).map (·.type) = some t) (ht : P.underlying t = some (.array n e)) (he : P.underlying e = some (.int k)) (hce : P.cellsOf e = 1) (hct : P.cellsOf t = n)
    (h : VarReads P W name (tabData k zs)) : Lib.TabIs P W name k zs := by
  obtain ⟨g', t', cs, fuel, p, hg', ht', hvar, hd⟩ := h
  obtain rfl := Option.some.inj (hg.symm.trans hg')
  obtain rfl := Option.some.inj (hty.symm.trans ht')
  unfold Lib.TabIs
  rw [hvar, ← cells_of_tab ht he hce hct hd]
theorem tabs_of_laid {W : World} (h : laidMet Tryd.prog laidL W) : Tabs W := by
  have h1 := laidMet.reads h (.head _)
  have h2 := laidMet.reads h (.tail _ (.head _))
  have h3 := laidMet.reads h (.tail _ (.tail _ (.head _)))
  have h4 := laidMet.reads h (.tail _ (.tail _ (.tail _ (.head _))))
  rw [accept_eq] at h1
  rw [props_eq] at h2
  rw [letter_eq] at h3
  rw [first_eq] at h4
  refine ⟨?_, ?_, ?_⟩
  · exact tab_of_reads (g := 0) (t := 146) (e := 5) (n := 256) (by kernel_rfl) (by kernel_rfl) Tryd.underlying146 Tryd.underlying5 (by kernel_rfl) (by kernel_rfl) h2
  · exact rvar_of_reads { Tryd.lays200 with } xLetter (by kernel_rfl) (by kernel_rfl) h3
  · exact utf8Tabs_of_reads Tryd.lays260 xFirst h4 h1
end Go.Proofs.YtfdegdbknponkaaDoor.Words

/- The tables that a row of chapter 8 lists are laid: the facts that the walks ask. -/
namespace Go.Proofs.YtfdegdbknponkaaDoor.Words
set_option maxRecDepth 100000
open Go.RowKit Go.Shelf Go.Lib
set_option linter.unusedVariables false

/-- The list. -/
def laidLA : List (String × DataW Unit) := [("unicode/utf8.acceptRanges", Rows.laid_unicode_utf8_acceptRanges), ("unicode.properties", Rows.laid_unicode_properties), ("forerunner/asm.shapes", Rows.laid_forerunner_asm_shapes), ("unicode.Letter", Rows.laid_unicode_Letter), ("unicode/utf8.first", Rows.laid_unicode_utf8_first)]
def strsData {H : Type} (zs : List (List UInt8)) : DataW H := .agg (zs.map fun z => .lit (.string z))
theorem shapes_eq : (Rows.laid_forerunner_asm_shapes : DataW Unit) = strsData shapesZ := by kernel_rfl
/-- An array of strings that reads as a row of texts holds these, cell for cell. -/
theorem cells_of_strs {H : Type} {enc : TypeId × Value → H} {P : Program} {w : World} {base : Nat} {sp : Nat → Bool} {held : Bool} {fuel : Nat} {t e : TypeId} {n : Nat} {cs : List Value} {zs : List (List UInt8)} {p : List MemPlace}
    (ht : P.underlying t = some (.array n e)) (he : P.underlying e = some .string) (hce : P.cellsOf e = 1) (hct : P.cellsOf t = n)
    (h : DataW.trod enc P w base sp held fuel t cs = some (strsData zs, p)) : cs = zs.map fun z => Value.string (txt z) := by
  cases fuel with
  | zero => simp [DataW.trod] at h
  | succ fuel =>
    simp only [DataW.trod, ht, hce, hct, Nat.mul_one] at h
    split at h
    · rename_i hl
      obtain ⟨xs, hm, hx⟩ := Option.map_eq_some_iff.1 h
      have hxs : xs.map (·.1) = zs.map fun z => (DataW.lit (.string z) : DataW H) := by
        have := congrArg Prod.fst hx
        simpa [strsData] using this
      have hxl : xs.length = n := by simpa using mapM_length hm
      have hzl : zs.length = n := by
        have := congrArg List.length hxs
        simp at this
        omega
      apply List.ext_getElem?
      intro i
      by_cases hi : i < n
      · obtain ⟨b, hb, hf⟩ := mapM_at hm i i (by simp [hi])
        obtain ⟨z, hc, rfl, _⟩ := DataW.trod_string he hf
        have h1 : cs[i]? = some (.string z) := by
          have := congrArg (·[0]?) hc
          simpa [List.getElem?_take, List.getElem?_drop] using this
        have h2 : (xs.map (·.1))[i]? = some (DataW.lit (.string z.data.toList) : DataW H) := by simp [hb]
        rw [hxs] at h2
        simp only [List.getElem?_map, Option.map_eq_some_iff, DataW.lit.injEq, Lit.string.injEq] at h2
        obtain ⟨z', hz', hzz⟩ := h2
        rw [h1, List.getElem?_map, hz', Option.map_some, txt_eq hzz.symm]
      · rw [List.getElem?_eq_none (by omega), List.getElem?_eq_none (by simp; omega)]
    · cases h
theorem shapes_of_reads {W : World} (h : VarReads Tryd.prog W "forerunner/asm.shapes" (strsData shapesZ)) : Shapes W := by
  obtain ⟨g, t, cs, fuel, p, hg, hty, hvar, hd⟩ := h
  have hg2 : Tryd.prog.globalNamed "forerunner/asm.shapes" = some 2 := by kernel_rfl
  obtain rfl := Option.some.inj (hg.symm.trans hg2)
  have ht2 : (Tryd.prog.globals[2]?).map (·.type) = some 159 := by kernel_rfl
  obtain rfl := Option.some.inj (hty.symm.trans ht2)
  have hcs := cells_of_strs Tryd.underlying159 Tryd.underlying9 (by kernel_rfl) (by kernel_rfl) hd
  unfold World.var? at hvar
  rw [hg2] at hvar
  simp only [Option.bind_some] at hvar
  split at hvar
  · rename_i cs' ty fr hh
    injection hvar with hvar
    subst hvar
    refine ⟨(Array.getElem?_eq_some_iff.1 hh).1, fun k t ht => ?_⟩
    rw [cell_of_row W _ k _ _ _ hh]
    have : cs'[k]? = cs'.toList[k]? := by simp
    rw [this, hcs, List.getElem?_map, ht]
    rfl
  · cases hvar
theorem tabsA_of_laid {W : World} (h : laidMet Tryd.prog laidLA W) : TabsA W := by
  have h1 := laidMet.reads h (.head _)
  have h2 := laidMet.reads h (.tail _ (.head _))
  have h3 := laidMet.reads h (.tail _ (.tail _ (.head _)))
  have h4 := laidMet.reads h (.tail _ (.tail _ (.tail _ (.head _))))
  have h5 := laidMet.reads h (.tail _ (.tail _ (.tail _ (.tail _ (.head _)))))
  rw [accept_eq] at h1
  rw [props_eq] at h2
  rw [shapes_eq] at h3
  rw [letter_eq] at h4
  rw [first_eq] at h5
  refine ⟨⟨?_, ?_, ?_⟩, shapes_of_reads h3⟩
  · exact tab_of_reads (g := 0) (t := 146) (e := 5) (n := 256) (by kernel_rfl) (by kernel_rfl) Tryd.underlying146 Tryd.underlying5 (by kernel_rfl) (by kernel_rfl) h2
  · exact rvar_of_reads { Tryd.lays200 with } xLetter (by kernel_rfl) (by kernel_rfl) h4
  · exact utf8Tabs_of_reads Tryd.lays260 xFirst h5 h1
end Go.Proofs.YtfdegdbknponkaaDoor.Words

/- The tables that a row of chapter 9 lists are laid: the facts that the walks ask. -/
namespace Go.Proofs.YtfdegdbknponkaaDoor.Words
set_option maxRecDepth 100000
open Go.RowKit Go.Shelf Go.Lib
set_option linter.unusedVariables false

/-- The list. -/
def laidLS : List (String × DataW Unit) := [("math/bits.deBruijn32tab", Rows.laid_math_bits_deBruijn32tab), ("math/bits.deBruijn64tab", Rows.laid_math_bits_deBruijn64tab), ("internal/strconv.uint64pow10", Rows.laid_internal_strconv_uint64pow10), ("forerunner/show.shapes", Rows.laid_forerunner_show_shapes)]
theorem shapesS_eq : (Rows.laid_forerunner_show_shapes : DataW Unit) = strsData shapesS := by kernel_rfl
theorem pow10_eq : (Rows.laid_internal_strconv_uint64pow10 : DataW Unit) = tabData .u64 pow10Tab := by kernel_rfl
theorem shapesS_of_reads {W : World} (h : VarReads Tryd.prog W "forerunner/show.shapes" (strsData shapesS)) : ShapesS W := by
  obtain ⟨g, t, cs, fuel, p, hg, hty, hvar, hd⟩ := h
  have hg2 : Tryd.prog.globalNamed "forerunner/show.shapes" = some 3 := by kernel_rfl
  obtain rfl := Option.some.inj (hg.symm.trans hg2)
  have ht2 : (Tryd.prog.globals[3]?).map (·.type) = some 159 := by kernel_rfl
  obtain rfl := Option.some.inj (hty.symm.trans ht2)
  have hcs := cells_of_strs Tryd.underlying159 Tryd.underlying9 (by kernel_rfl) (by kernel_rfl) hd
  unfold World.var? at hvar
  rw [hg2] at hvar
  simp only [Option.bind_some] at hvar
  split at hvar
  · rename_i cs' ty fr hh
    injection hvar with hvar
    subst hvar
    refine ⟨(Array.getElem?_eq_some_iff.1 hh).1, fun k t ht => ?_⟩
    rw [cell_of_row W _ k _ _ _ hh]
    have : cs'[k]? = cs'.toList[k]? := by simp
    rw [this, hcs, List.getElem?_map, ht]
    rfl
  · cases hvar
theorem tabsS_of_laid {W : World} (h : laidMet Tryd.prog laidLS W) : TabsS W := by
  have h3 := laidMet.reads h (.tail _ (.tail _ (.head _)))
  have h4 := laidMet.reads h (.tail _ (.tail _ (.tail _ (.head _))))
  rw [pow10_eq] at h3
  rw [shapesS_eq] at h4
  exact ⟨tab_of_reads (g := 6) (t := 193) (e := 185) (n := 20) (by kernel_rfl) (by kernel_rfl) Tryd.underlying193 Tryd.underlying185 (by kernel_rfl) (by kernel_rfl) h3, shapesS_of_reads h4⟩
end Go.Proofs.YtfdegdbknponkaaDoor.Words

/- An argument that is an instruction (a struct of five ints by value): its five numbers. -/
namespace Go.Proofs.YtfdegdbknponkaaDoor.Words
set_option maxRecDepth 100000
open Go.ChangeShapes Go.WideShapes Go.ChangeAt Go.RowKit

section
variable {H : Type} {enc : TypeId × Value → H} {w : World} {base : Nat} {spare : Nat → Bool} {held : Bool}


theorem ins_cells {fuel : Nat} {cs : List Value} {x : DataW H × List MemPlace} (h : DataW.trod enc Tryd.prog w base spare held fuel 38 cs = some x) :
    ∃ i : Ins, i.Fits ∧ cs = insCells i := by
  obtain ⟨xs, n, _, _, hlen, hxl, hg⟩ := DataW.trod_struct Tryd.underlying38 h
  have hC : Tryd.prog.cellsOf 38 = 5 := by kernel_rfl
  have hc1 : Tryd.prog.cellsOf 3 = 1 := by kernel_rfl
  rw [hC] at hlen
  have hxl' : xs.length = 5 := hxl
  match cs, hlen with
  | [c0, c1, c2, c3, c4], _ =>
    have g : ∀ (j : Nat) (hj : j < 5), DataW.trod enc Tryd.prog w base spare held n 3 (([c0, c1, c2, c3, c4].drop j).take 1) = some xs[j] := by
      intro j hj
      rw [← List.getElem?_eq_getElem (by omega), ← hc1]
      match j, hj with
      | 0, _ => exact hg 0 _ rfl
      | 1, _ => exact hg 1 _ rfl
      | 2, _ => exact hg 2 _ rfl
      | 3, _ => exact hg 3 _ rfl
      | 4, _ => exact hg 4 _ rfl
    obtain ⟨n0, e0, _, f0⟩ := DataW.trod_int Tryd.underlying3 (g 0 (by omega))
    obtain ⟨n1, e1, _, f1⟩ := DataW.trod_int Tryd.underlying3 (g 1 (by omega))
    obtain ⟨n2, e2, _, f2⟩ := DataW.trod_int Tryd.underlying3 (g 2 (by omega))
    obtain ⟨n3, e3, _, f3⟩ := DataW.trod_int Tryd.underlying3 (g 3 (by omega))
    obtain ⟨n4, e4, _, f4⟩ := DataW.trod_int Tryd.underlying3 (g 4 (by omega))
    simp only [List.drop_zero, List.take_succ_cons, List.take_zero, List.drop_succ_cons, List.cons.injEq, and_true] at e0 e1 e2 e3 e4
    subst e0 e1 e2 e3 e4
    exact ⟨⟨n0, n1, n2, n3, n4⟩, ⟨bounds_i64 f0, bounds_i64 f1, bounds_i64 f2, bounds_i64 f3, bounds_i64 f4⟩, rfl⟩

theorem open_ins {r : Reach} {b0 : Nat} {v : Value} {d : DataW H} {ps : List MemPlace} (hval : Value.okWide Tryd.prog w r b0 38 v) (hd : DataW.Trod enc Tryd.prog w base spare held 38 v d ps) :
    ∃ i : Ins, i.Fits ∧ v = .agg #[.int .i64 i.op, .int .i64 i.d, .int .i64 i.a, .int .i64 i.b, .int .i64 i.imm] := by
  obtain ⟨cs, rfl, _⟩ := okWide_struct Tryd.underlying38 hval
  obtain ⟨fuel, hf⟩ := hd
  obtain ⟨i, hi, hc⟩ := ins_cells hf
  refine ⟨i, hi, ?_⟩
  obtain ⟨l⟩ := cs
  have : l = insCells i := by simpa [Value.cells] using hc
  rw [this]; rfl
end
end Go.Proofs.YtfdegdbknponkaaDoor.Words

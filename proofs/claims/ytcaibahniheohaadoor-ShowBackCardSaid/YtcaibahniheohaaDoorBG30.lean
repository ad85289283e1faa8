/- Several texts in one: ShowCell, ShowMath, ShowProgMath, ShowLinMath, AsmBytMath, ShowAsm. -/
import Derived.Test.YtcaibahniheohaaDoorBG29
import Derived.Test.YtcaibahniheohaaDoorBSCelData
import Derived.Test.YtcaibahniheohaaDoorBG27
import Derived.Test.YtcaibahniheohaaDoorBSImgMath

/- What a cell is put together of; contract of show.Cell. -/
namespace Go.Proofs.YtcaibahniheohaaDoor.Words
set_option maxRecDepth 100000
open Go.RowKit Go.Shelf Go.Lib
set_option linter.unusedVariables false
set_option linter.unusedSimpArgs false
def kindN (k : Int) : List UInt8 := [[], [100, 111], [108, 111, 97, 100], [102, 101, 116, 99, 104], [115, 116, 111, 114, 101], [115, 101, 110, 100], [114, 101, 99, 118], [112, 111, 112], [112, 117, 116], [98, 114, 97, 110, 99, 104], [102, 111, 108, 108, 111, 119], [106, 117, 109, 112], [104, 97, 108, 116]].getD k.toNat []
def celParts (c : Cel) : List Part :=
  if c.kind = 1 ∨ c.kind = 2 ∨ c.kind = 3 ∨ c.kind = 4 ∨ c.kind = 9 then [.s (kindN c.kind ++ [32]), .ins c.ins]
  else if c.kind = 5 ∨ c.kind = 6 ∨ c.kind = 8 then [.s (kindN c.kind ++ [32]), .reg c.reg]
  else if c.kind = 7 then (if rightB c.ins = true then [.s (kindN c.kind ++ [32]), .reg c.ins.d] else [])
  else if c.kind = 10 ∨ c.kind = 11 ∨ c.kind = 12 then [.s (kindN c.kind)]
  else []
def CelC (c : Cel) : Prop := ∀ w : World, Calls Tryd.prog 90 #[.agg #[.int .i64 c.kind, .int .i64 c.ins.op, .int .i64 c.ins.d, .int .i64 c.ins.a, .int .i64 c.ins.b, .int .i64 c.ins.imm, .int .i64 c.reg, .int .i64 c.pc, .int .i64 c.off]] w fun e w' => ∃ v, e = .returned v ∧ w'.ownsRow w.heap.size 20 1 v (celParts c).length (partVals (celParts c)) ∧ Below w.heap.size w w'
set_option maxHeartbeats 2000000 in
theorem cel_1 (c : Cel) (hk : c.kind = 1) : CelC c := by
  intro w
  have e : celParts c = [.s [100, 111, 32], .ins c.ins] := by unfold celParts; rw [hk]; rfl
  rw [e]
  obtain ⟨k, i, reg, pc, off⟩ := c
  simp only at hk
  subst hk
  obtain ⟨op, d, a, b, imm⟩ := i
  have HB0 := Lib.hid ((Below.refl w.heap.size w).alloc (Nat.le_refl _) (.cells #[.int .i64 1, .int .i64 op, .int .i64 d, .int .i64 a, .int .i64 b, .int .i64 imm, .int .i64 reg, .int .i64 pc, .int .i64 off] 75))
  clear e
  go_enter Tryd.func90, Tryd.ntmps90
  go_wp2_with fail
  go_ret
  have hb := HB0.out
  have ho := own_lit (w.alloc (.cells #[.int .i64 1, .int .i64 op, .int .i64 d, .int .i64 a, .int .i64 b, .int .i64 imm, .int .i64 reg, .int .i64 pc, .int .i64 off] 75)) [.iface 9 (.string ⟨#[100, 111, 32]⟩), .iface 38 (.agg #[.int .i64 op, .int .i64 d, .int .i64 a, .int .i64 b, .int .i64 imm])] 20 (by simp)
  rw [show (w.alloc (.cells #[.int .i64 1, .int .i64 op, .int .i64 d, .int .i64 a, .int .i64 b, .int .i64 imm, .int .i64 reg, .int .i64 pc, .int .i64 off] 75)).heap.size = w.heap.size + 1 by simp] at ho
  exact ⟨_, rfl, own_base ho (Nat.le_succ _), hb.alloc hb.size _⟩
set_option maxHeartbeats 2000000 in
theorem cel_2 (c : Cel) (hk : c.kind = 2) : CelC c := by
  intro w
  have e : celParts c = [.s [108, 111, 97, 100, 32], .ins c.ins] := by unfold celParts; rw [hk]; rfl
  rw [e]
  obtain ⟨k, i, reg, pc, off⟩ := c
  simp only at hk
  subst hk
  obtain ⟨op, d, a, b, imm⟩ := i
  have HB0 := Lib.hid ((Below.refl w.heap.size w).alloc (Nat.le_refl _) (.cells #[.int .i64 2, .int .i64 op, .int .i64 d, .int .i64 a, .int .i64 b, .int .i64 imm, .int .i64 reg, .int .i64 pc, .int .i64 off] 75))
  clear e
  go_enter Tryd.func90, Tryd.ntmps90
  go_wp2_with fail
  go_ret
  have hb := HB0.out
  have ho := own_lit (w.alloc (.cells #[.int .i64 2, .int .i64 op, .int .i64 d, .int .i64 a, .int .i64 b, .int .i64 imm, .int .i64 reg, .int .i64 pc, .int .i64 off] 75)) [.iface 9 (.string ⟨#[108, 111, 97, 100, 32]⟩), .iface 38 (.agg #[.int .i64 op, .int .i64 d, .int .i64 a, .int .i64 b, .int .i64 imm])] 20 (by simp)
  rw [show (w.alloc (.cells #[.int .i64 2, .int .i64 op, .int .i64 d, .int .i64 a, .int .i64 b, .int .i64 imm, .int .i64 reg, .int .i64 pc, .int .i64 off] 75)).heap.size = w.heap.size + 1 by simp] at ho
  exact ⟨_, rfl, own_base ho (Nat.le_succ _), hb.alloc hb.size _⟩
set_option maxHeartbeats 2000000 in
theorem cel_3 (c : Cel) (hk : c.kind = 3) : CelC c := by
  intro w
  have e : celParts c = [.s [102, 101, 116, 99, 104, 32], .ins c.ins] := by unfold celParts; rw [hk]; rfl
  rw [e]
  obtain ⟨k, i, reg, pc, off⟩ := c
  simp only at hk
  subst hk
  obtain ⟨op, d, a, b, imm⟩ := i
  have HB0 := Lib.hid ((Below.refl w.heap.size w).alloc (Nat.le_refl _) (.cells #[.int .i64 3, .int .i64 op, .int .i64 d, .int .i64 a, .int .i64 b, .int .i64 imm, .int .i64 reg, .int .i64 pc, .int .i64 off] 75))
  clear e
  go_enter Tryd.func90, Tryd.ntmps90
  go_wp2_with fail
  go_ret
  have hb := HB0.out
  have ho := own_lit (w.alloc (.cells #[.int .i64 3, .int .i64 op, .int .i64 d, .int .i64 a, .int .i64 b, .int .i64 imm, .int .i64 reg, .int .i64 pc, .int .i64 off] 75)) [.iface 9 (.string ⟨#[102, 101, 116, 99, 104, 32]⟩), .iface 38 (.agg #[.int .i64 op, .int .i64 d, .int .i64 a, .int .i64 b, .int .i64 imm])] 20 (by simp)
  rw [show (w.alloc (.cells #[.int .i64 3, .int .i64 op, .int .i64 d, .int .i64 a, .int .i64 b, .int .i64 imm, .int .i64 reg, .int .i64 pc, .int .i64 off] 75)).heap.size = w.heap.size + 1 by simp] at ho
  exact ⟨_, rfl, own_base ho (Nat.le_succ _), hb.alloc hb.size _⟩
set_option maxHeartbeats 2000000 in
theorem cel_4 (c : Cel) (hk : c.kind = 4) : CelC c := by
  intro w
  have e : celParts c = [.s [115, 116, 111, 114, 101, 32], .ins c.ins] := by unfold celParts; rw [hk]; rfl
  rw [e]
  obtain ⟨k, i, reg, pc, off⟩ := c
  simp only at hk
  subst hk
  obtain ⟨op, d, a, b, imm⟩ := i
  have HB0 := Lib.hid ((Below.refl w.heap.size w).alloc (Nat.le_refl _) (.cells #[.int .i64 4, .int .i64 op, .int .i64 d, .int .i64 a, .int .i64 b, .int .i64 imm, .int .i64 reg, .int .i64 pc, .int .i64 off] 75))
  clear e
  go_enter Tryd.func90, Tryd.ntmps90
  go_wp2_with fail
  go_ret
  have hb := HB0.out
  have ho := own_lit (w.alloc (.cells #[.int .i64 4, .int .i64 op, .int .i64 d, .int .i64 a, .int .i64 b, .int .i64 imm, .int .i64 reg, .int .i64 pc, .int .i64 off] 75)) [.iface 9 (.string ⟨#[115, 116, 111, 114, 101, 32]⟩), .iface 38 (.agg #[.int .i64 op, .int .i64 d, .int .i64 a, .int .i64 b, .int .i64 imm])] 20 (by simp)
  rw [show (w.alloc (.cells #[.int .i64 4, .int .i64 op, .int .i64 d, .int .i64 a, .int .i64 b, .int .i64 imm, .int .i64 reg, .int .i64 pc, .int .i64 off] 75)).heap.size = w.heap.size + 1 by simp] at ho
  exact ⟨_, rfl, own_base ho (Nat.le_succ _), hb.alloc hb.size _⟩
set_option maxHeartbeats 2000000 in
theorem cel_9 (c : Cel) (hk : c.kind = 9) : CelC c := by
  intro w
  have e : celParts c = [.s [98, 114, 97, 110, 99, 104, 32], .ins c.ins] := by unfold celParts; rw [hk]; rfl
  rw [e]
  obtain ⟨k, i, reg, pc, off⟩ := c
  simp only at hk
  subst hk
  obtain ⟨op, d, a, b, imm⟩ := i
  have HB0 := Lib.hid ((Below.refl w.heap.size w).alloc (Nat.le_refl _) (.cells #[.int .i64 9, .int .i64 op, .int .i64 d, .int .i64 a, .int .i64 b, .int .i64 imm, .int .i64 reg, .int .i64 pc, .int .i64 off] 75))
  clear e
  go_enter Tryd.func90, Tryd.ntmps90
  go_wp2_with fail
  go_ret
  have hb := HB0.out
  have ho := own_lit (w.alloc (.cells #[.int .i64 9, .int .i64 op, .int .i64 d, .int .i64 a, .int .i64 b, .int .i64 imm, .int .i64 reg, .int .i64 pc, .int .i64 off] 75)) [.iface 9 (.string ⟨#[98, 114, 97, 110, 99, 104, 32]⟩), .iface 38 (.agg #[.int .i64 op, .int .i64 d, .int .i64 a, .int .i64 b, .int .i64 imm])] 20 (by simp)
  rw [show (w.alloc (.cells #[.int .i64 9, .int .i64 op, .int .i64 d, .int .i64 a, .int .i64 b, .int .i64 imm, .int .i64 reg, .int .i64 pc, .int .i64 off] 75)).heap.size = w.heap.size + 1 by simp] at ho
  exact ⟨_, rfl, own_base ho (Nat.le_succ _), hb.alloc hb.size _⟩
set_option maxHeartbeats 2000000 in
theorem cel_5 (c : Cel) (hk : c.kind = 5) : CelC c := by
  intro w
  have e : celParts c = [.s [115, 101, 110, 100, 32], .reg c.reg] := by unfold celParts; rw [hk]; rfl
  rw [e]
  obtain ⟨k, i, reg, pc, off⟩ := c
  simp only at hk
  subst hk
  obtain ⟨op, d, a, b, imm⟩ := i
  have HB0 := Lib.hid ((Below.refl w.heap.size w).alloc (Nat.le_refl _) (.cells #[.int .i64 5, .int .i64 op, .int .i64 d, .int .i64 a, .int .i64 b, .int .i64 imm, .int .i64 reg, .int .i64 pc, .int .i64 off] 75))
  clear e
  go_enter Tryd.func90, Tryd.ntmps90
  go_wp2_with fail
  go_ret
  have hb := HB0.out
  have ho := own_lit (w.alloc (.cells #[.int .i64 5, .int .i64 op, .int .i64 d, .int .i64 a, .int .i64 b, .int .i64 imm, .int .i64 reg, .int .i64 pc, .int .i64 off] 75)) [.iface 9 (.string ⟨#[115, 101, 110, 100, 32]⟩), .iface 143 (.int .i64 reg)] 20 (by simp)
  rw [show (w.alloc (.cells #[.int .i64 5, .int .i64 op, .int .i64 d, .int .i64 a, .int .i64 b, .int .i64 imm, .int .i64 reg, .int .i64 pc, .int .i64 off] 75)).heap.size = w.heap.size + 1 by simp] at ho
  exact ⟨_, rfl, own_base ho (Nat.le_succ _), hb.alloc hb.size _⟩
set_option maxHeartbeats 2000000 in
theorem cel_6 (c : Cel) (hk : c.kind = 6) : CelC c := by
  intro w
  have e : celParts c = [.s [114, 101, 99, 118, 32], .reg c.reg] := by unfold celParts; rw [hk]; rfl
  rw [e]
  obtain ⟨k, i, reg, pc, off⟩ := c
  simp only at hk
  subst hk
  obtain ⟨op, d, a, b, imm⟩ := i
  have HB0 := Lib.hid ((Below.refl w.heap.size w).alloc (Nat.le_refl _) (.cells #[.int .i64 6, .int .i64 op, .int .i64 d, .int .i64 a, .int .i64 b, .int .i64 imm, .int .i64 reg, .int .i64 pc, .int .i64 off] 75))
  clear e
  go_enter Tryd.func90, Tryd.ntmps90
  go_wp2_with fail
  go_ret
  have hb := HB0.out
  have ho := own_lit (w.alloc (.cells #[.int .i64 6, .int .i64 op, .int .i64 d, .int .i64 a, .int .i64 b, .int .i64 imm, .int .i64 reg, .int .i64 pc, .int .i64 off] 75)) [.iface 9 (.string ⟨#[114, 101, 99, 118, 32]⟩), .iface 143 (.int .i64 reg)] 20 (by simp)
  rw [show (w.alloc (.cells #[.int .i64 6, .int .i64 op, .int .i64 d, .int .i64 a, .int .i64 b, .int .i64 imm, .int .i64 reg, .int .i64 pc, .int .i64 off] 75)).heap.size = w.heap.size + 1 by simp] at ho
  exact ⟨_, rfl, own_base ho (Nat.le_succ _), hb.alloc hb.size _⟩
set_option maxHeartbeats 2000000 in
theorem cel_8 (c : Cel) (hk : c.kind = 8) : CelC c := by
  intro w
  have e : celParts c = [.s [112, 117, 116, 32], .reg c.reg] := by unfold celParts; rw [hk]; rfl
  rw [e]
  obtain ⟨k, i, reg, pc, off⟩ := c
  simp only at hk
  subst hk
  obtain ⟨op, d, a, b, imm⟩ := i
  have HB0 := Lib.hid ((Below.refl w.heap.size w).alloc (Nat.le_refl _) (.cells #[.int .i64 8, .int .i64 op, .int .i64 d, .int .i64 a, .int .i64 b, .int .i64 imm, .int .i64 reg, .int .i64 pc, .int .i64 off] 75))
  clear e
  go_enter Tryd.func90, Tryd.ntmps90
  go_wp2_with fail
  go_ret
  have hb := HB0.out
  have ho := own_lit (w.alloc (.cells #[.int .i64 8, .int .i64 op, .int .i64 d, .int .i64 a, .int .i64 b, .int .i64 imm, .int .i64 reg, .int .i64 pc, .int .i64 off] 75)) [.iface 9 (.string ⟨#[112, 117, 116, 32]⟩), .iface 143 (.int .i64 reg)] 20 (by simp)
  rw [show (w.alloc (.cells #[.int .i64 8, .int .i64 op, .int .i64 d, .int .i64 a, .int .i64 b, .int .i64 imm, .int .i64 reg, .int .i64 pc, .int .i64 off] 75)).heap.size = w.heap.size + 1 by simp] at ho
  exact ⟨_, rfl, own_base ho (Nat.le_succ _), hb.alloc hb.size _⟩
set_option maxHeartbeats 2000000 in
theorem cel_10 (c : Cel) (hk : c.kind = 10) : CelC c := by
  intro w
  have e : celParts c = [.s [102, 111, 108, 108, 111, 119]] := by unfold celParts; rw [hk]; rfl
  rw [e]
  obtain ⟨k, i, reg, pc, off⟩ := c
  simp only at hk
  subst hk
  obtain ⟨op, d, a, b, imm⟩ := i
  have HB0 := Lib.hid ((Below.refl w.heap.size w).alloc (Nat.le_refl _) (.cells #[.int .i64 10, .int .i64 op, .int .i64 d, .int .i64 a, .int .i64 b, .int .i64 imm, .int .i64 reg, .int .i64 pc, .int .i64 off] 75))
  clear e
  go_enter Tryd.func90, Tryd.ntmps90
  go_wp2_with fail
  go_ret
  have hb := HB0.out
  have ho := own_lit (w.alloc (.cells #[.int .i64 10, .int .i64 op, .int .i64 d, .int .i64 a, .int .i64 b, .int .i64 imm, .int .i64 reg, .int .i64 pc, .int .i64 off] 75)) [.iface 9 (.string ⟨#[102, 111, 108, 108, 111, 119]⟩)] 20 (by simp)
  rw [show (w.alloc (.cells #[.int .i64 10, .int .i64 op, .int .i64 d, .int .i64 a, .int .i64 b, .int .i64 imm, .int .i64 reg, .int .i64 pc, .int .i64 off] 75)).heap.size = w.heap.size + 1 by simp] at ho
  exact ⟨_, rfl, own_base ho (Nat.le_succ _), hb.alloc hb.size _⟩
set_option maxHeartbeats 2000000 in
theorem cel_11 (c : Cel) (hk : c.kind = 11) : CelC c := by
  intro w
  have e : celParts c = [.s [106, 117, 109, 112]] := by unfold celParts; rw [hk]; rfl
  rw [e]
  obtain ⟨k, i, reg, pc, off⟩ := c
  simp only at hk
  subst hk
  obtain ⟨op, d, a, b, imm⟩ := i
  have HB0 := Lib.hid ((Below.refl w.heap.size w).alloc (Nat.le_refl _) (.cells #[.int .i64 11, .int .i64 op, .int .i64 d, .int .i64 a, .int .i64 b, .int .i64 imm, .int .i64 reg, .int .i64 pc, .int .i64 off] 75))
  clear e
  go_enter Tryd.func90, Tryd.ntmps90
  go_wp2_with fail
  go_ret
  have hb := HB0.out
  have ho := own_lit (w.alloc (.cells #[.int .i64 11, .int .i64 op, .int .i64 d, .int .i64 a, .int .i64 b, .int .i64 imm, .int .i64 reg, .int .i64 pc, .int .i64 off] 75)) [.iface 9 (.string ⟨#[106, 117, 109, 112]⟩)] 20 (by simp)
  rw [show (w.alloc (.cells #[.int .i64 11, .int .i64 op, .int .i64 d, .int .i64 a, .int .i64 b, .int .i64 imm, .int .i64 reg, .int .i64 pc, .int .i64 off] 75)).heap.size = w.heap.size + 1 by simp] at ho
  exact ⟨_, rfl, own_base ho (Nat.le_succ _), hb.alloc hb.size _⟩
set_option maxHeartbeats 2000000 in
theorem cel_12 (c : Cel) (hk : c.kind = 12) : CelC c := by
  intro w
  have e : celParts c = [.s [104, 97, 108, 116]] := by unfold celParts; rw [hk]; rfl
  rw [e]
  obtain ⟨k, i, reg, pc, off⟩ := c
  simp only at hk
  subst hk
  obtain ⟨op, d, a, b, imm⟩ := i
  have HB0 := Lib.hid ((Below.refl w.heap.size w).alloc (Nat.le_refl _) (.cells #[.int .i64 12, .int .i64 op, .int .i64 d, .int .i64 a, .int .i64 b, .int .i64 imm, .int .i64 reg, .int .i64 pc, .int .i64 off] 75))
  clear e
  go_enter Tryd.func90, Tryd.ntmps90
  go_wp2_with fail
  go_ret
  have hb := HB0.out
  have ho := own_lit (w.alloc (.cells #[.int .i64 12, .int .i64 op, .int .i64 d, .int .i64 a, .int .i64 b, .int .i64 imm, .int .i64 reg, .int .i64 pc, .int .i64 off] 75)) [.iface 9 (.string ⟨#[104, 97, 108, 116]⟩)] 20 (by simp)
  rw [show (w.alloc (.cells #[.int .i64 12, .int .i64 op, .int .i64 d, .int .i64 a, .int .i64 b, .int .i64 imm, .int .i64 reg, .int .i64 pc, .int .i64 off] 75)).heap.size = w.heap.size + 1 by simp] at ho
  exact ⟨_, rfl, own_base ho (Nat.le_succ _), hb.alloc hb.size _⟩
set_option maxHeartbeats 2000000 in
theorem partsOfPop_any (i : Ins) (w : World) :
    Calls Tryd.prog 104 #[.agg #[.int .i64 i.op, .int .i64 i.d, .int .i64 i.a, .int .i64 i.b, .int .i64 i.imm]] w fun e w' =>
      ∃ v, e = .returned v ∧ w'.ownsRow w.heap.size 20 1 v (if rightB i = true then [Part.s [112, 111, 112, 32], .reg i.d] else []).length (partVals (if rightB i = true then [.s [112, 111, 112, 32], .reg i.d] else [])) ∧ Below w.heap.size w w' := by
  have cR := fun y => right_any i y
  have HB0 := Lib.hid ((Below.refl w.heap.size w).alloc (Nat.le_refl _) (.cells #[.int .i64 i.op, .int .i64 i.d, .int .i64 i.a, .int .i64 i.b, .int .i64 i.imm] 38))
  have hs0 : w.heap.size < (w.alloc (.cells #[.int .i64 i.op, .int .i64 i.d, .int .i64 i.a, .int .i64 i.b, .int .i64 i.imm] 38)).heap.size := by simp
  have HX0 := Lib.hid (Box.new w [.int .i64 i.op, .int .i64 i.d, .int .i64 i.a, .int .i64 i.b, .int .i64 i.imm] 38)
  change Hid (Box (w.alloc (.cells #[.int .i64 i.op, .int .i64 i.d, .int .i64 i.a, .int .i64 i.b, .int .i64 i.imm] 38)) w.heap.size _) at HX0
  cases hr : rightB i
  · rw [hr] at cR
    rw [if_neg (by decide)]
    go_enter Tryd.func104, Tryd.ntmps104
    go_wp2_with fail
    refine (cR _).mono ?_
    rintro e w1 ⟨rfl, hb1⟩
    generalize (w.alloc (.cells #[.int .i64 i.op, .int .i64 i.d, .int .i64 i.a, .int .i64 i.b, .int .i64 i.imm] 38)) = W at *
    have HB1 := Lib.hid (HB0.out.trans (hb1.mono HB0.out.size))
    clear hb1
    go_wp2_with fail
    go_ret
    exact ⟨_, rfl, World.ownsRow_nil _ _ _ _, HB1.out⟩
  · rw [hr] at cR
    rw [if_pos rfl]
    go_enter Tryd.func104, Tryd.ntmps104
    go_wp2_with fail
    refine (cR _).mono ?_
    rintro e w1 ⟨rfl, hb1⟩
    generalize (w.alloc (.cells #[.int .i64 i.op, .int .i64 i.d, .int .i64 i.a, .int .i64 i.b, .int .i64 i.imm] 38)) = W at *
    have HB1 := Lib.hid (HB0.out.trans (hb1.mono HB0.out.size))
    have d1 := (HX0.out.below hb1 hs0).cell (k := 1) rfl
    clear hb1
    go_wp2_with fail
    go_ret
    have hb := HB1.out
    exact ⟨_, rfl, own_base (own_lit _ [.iface 9 (.string ⟨#[112, 111, 112, 32]⟩), .iface 143 (.int .i64 i.d)] 20 (by simp)) hb.size, hb.alloc hb.size _⟩
set_option maxHeartbeats 2000000 in
theorem cel_7 (c : Cel) (hk : c.kind = 7) : CelC c := by
  intro w
  have e : celParts c = if rightB c.ins = true then [.s [112, 111, 112, 32], .reg c.ins.d] else [] := by unfold celParts; rw [hk]; rfl
  rw [e]
  obtain ⟨k, i, reg, pc, off⟩ := c
  simp only at hk
  subst hk
  have cP := fun y => partsOfPop_any i y
  have HB0 := Lib.hid ((Below.refl w.heap.size w).alloc (Nat.le_refl _) (.cells #[.int .i64 7, .int .i64 i.op, .int .i64 i.d, .int .i64 i.a, .int .i64 i.b, .int .i64 i.imm, .int .i64 reg, .int .i64 pc, .int .i64 off] 75))
  clear e
  try dsimp only
  generalize (if rightB i = true then [Part.s [112, 111, 112, 32], .reg i.d] else []) = PS at *
  go_enter Tryd.func90, Tryd.ntmps90
  go_wp2_with fail
  refine (cP _).mono ?_
  rintro e w1 ⟨v, rfl, ho, hb1⟩
  have HO := Lib.hid (own_base ho HB0.out.size)
  have HB1 := Lib.hid (HB0.out.trans (hb1.mono HB0.out.size))
  clear ho hb1
  go_wp2_with fail
  go_ret
  exact ⟨_, rfl, HO.out, HB1.out⟩
set_option maxHeartbeats 2000000 in
theorem cel_no (c : Cel) (hk : c.kind < 1 ∨ 12 < c.kind) : CelC c := by
  intro w
  have e : celParts c = [] := by
    unfold celParts
    rw [if_neg (by omega), if_neg (by omega), if_neg (by omega), if_neg (by omega)]
  rw [e]
  obtain ⟨k, i, reg, pc, off⟩ := c
  simp only at hk
  have q1 : (k == 1) = false := by simp; omega
  have q2 : (k == 2) = false := by simp; omega
  have q3 : (k == 3) = false := by simp; omega
  have q4 : (k == 4) = false := by simp; omega
  have q5 : (k == 5) = false := by simp; omega
  have q6 : (k == 6) = false := by simp; omega
  have q7 : (k == 7) = false := by simp; omega
  have q8 : (k == 8) = false := by simp; omega
  have q9 : (k == 9) = false := by simp; omega
  have q10 : (k == 10) = false := by simp; omega
  have q11 : (k == 11) = false := by simp; omega
  have q12 : (k == 12) = false := by simp; omega
  have HB0 := Lib.hid ((Below.refl w.heap.size w).alloc (Nat.le_refl _) (.cells #[.int .i64 k, .int .i64 i.op, .int .i64 i.d, .int .i64 i.a, .int .i64 i.b, .int .i64 i.imm, .int .i64 reg, .int .i64 pc, .int .i64 off] 75))
  clear e hk
  try dsimp only
  go_enter Tryd.func90, Tryd.ntmps90
  go_wp2_with fail
  go_ret
  exact ⟨_, rfl, World.ownsRow_nil _ _ _ _, HB0.out⟩
theorem cel_any (c : Cel) : CelC c := by
  by_cases h : c.kind < 1 ∨ 12 < c.kind
  · exact cel_no c h
  · have h12 : c.kind = 1 ∨ c.kind = 2 ∨ c.kind = 3 ∨ c.kind = 4 ∨ c.kind = 5 ∨ c.kind = 6 ∨ c.kind = 7 ∨ c.kind = 8 ∨ c.kind = 9 ∨ c.kind = 10 ∨ c.kind = 11 ∨ c.kind = 12 := by omega
    rcases h12 with h | h | h | h | h | h | h | h | h | h | h | h
    · exact cel_1 c h
    · exact cel_2 c h
    · exact cel_3 c h
    · exact cel_4 c h
    · exact cel_5 c h
    · exact cel_6 c h
    · exact cel_7 c h
    · exact cel_8 c h
    · exact cel_9 c h
    · exact cel_10 c h
    · exact cel_11 c h
    · exact cel_12 c h
set_option maxHeartbeats 2000000 in
theorem parts_cell (c : Cel) : PartsC (.iface 75 (celV c)) (celParts c) := by
  intro w hT
  have a1 := as_cr (celV c)
  have a2 := as_ci (celV c)
  have a3 := as_cc (celV c)
  unfold zIns at a2
  unfold celV at a1 a2 a3 ⊢
  have hb0 := ((Below.refl w.heap.size w).alloc (Nat.le_refl _) (.cells #[.int .i64 0, .int .i64 0, .int .i64 0, .int .i64 0, .int .i64 0] 38)).alloc (by simp) (.cells #[.int .i64 c.kind, .int .i64 c.ins.op, .int .i64 c.ins.d, .int .i64 c.ins.a, .int .i64 c.ins.b, .int .i64 c.ins.imm, .int .i64 c.reg, .int .i64 c.pc, .int .i64 c.off] 75)
  have HB0 := Lib.hid hb0
  clear hT hb0
  go_enter Tryd.func71, Tryd.ntmps71
  go_wp2_with fail
  refine (cel_any c _).mono ?_
  rintro e w2 ⟨v, rfl, ho, hb2⟩
  have HO2 := Lib.hid (own_base ho HB0.out.size)
  have HB2 := Lib.hid (HB0.out.trans (hb2.mono HB0.out.size))
  clear ho hb2
  go_wp2_with fail
  go_ret
  exact ⟨v, rfl, HO2.out, HB2.out⟩
/-! ### what a cell is shown as -/
def celO (c : Cel) : Option (List UInt8) := if celParts c = [] then none else partsTxt (celParts c)
def cellZ (c : Cel) : List UInt8 := (celO c).getD []
theorem kindN_len : ∀ k : Int, (kindN k).length ≤ 6 := by
  intro k
  unfold kindN
  rw [List.getD_eq_getElem?_getD]
  cases h : ([[], [100, 111], [108, 111, 97, 100], [102, 101, 116, 99, 104], [115, 116, 111, 114, 101], [115, 101, 110, 100], [114, 101, 99, 118], [112, 111, 112], [112, 117, 116], [98, 114, 97, 110, 99, 104], [102, 111, 108, 108, 111, 119], [106, 117, 109, 112], [104, 97, 108, 116]] : List (List UInt8))[k.toNat]? with
  | none => simp
  | some t =>
    have : ∀ t ∈ ([[], [100, 111], [108, 111, 97, 100], [102, 101, 116, 99, 104], [115, 116, 111, 114, 101], [115, 101, 110, 100], [114, 101, 99, 118], [112, 111, 112], [112, 117, 116], [98, 114, 97, 110, 99, 104], [102, 111, 108, 108, 111, 119], [106, 117, 109, 112], [104, 97, 108, 116]] : List (List UInt8)), t.length ≤ 6 := by decide
    exact this t (List.mem_of_getElem? h)
theorem celParts_ok {c : Cel} (hf : c.Fits) : ∀ p ∈ celParts c, p.ok := by
  obtain ⟨h1, h2, h3, _⟩ := hf
  have hl := kindN_len c.kind
  intro p hp
  unfold celParts at hp
  have s1 : (Part.s (kindN c.kind ++ [32])).ok := by show (kindN c.kind ++ [32]).length ≤ 60; simp; omega
  have s2 : (Part.s (kindN c.kind)).ok := by show (kindN c.kind).length ≤ 60; omega
  split at hp
  · simp only [List.mem_cons, List.not_mem_nil, or_false] at hp
    rcases hp with rfl | rfl
    · exact s1
    · exact h2
  split at hp
  · simp only [List.mem_cons, List.not_mem_nil, or_false] at hp
    rcases hp with rfl | rfl
    · exact s1
    · exact h3
  split at hp
  · split at hp
    · rename_i hr
      have hd := (right_range hr).2.1
      simp only [List.mem_cons, List.not_mem_nil, or_false] at hp
      rcases hp with rfl | rfl
      · exact s1
      · exact ⟨by omega, by omega⟩
    · cases hp
  split at hp
  · simp only [List.mem_cons, List.not_mem_nil, or_false] at hp
    subst hp
    exact s2
  · cases hp
theorem celParts_len (c : Cel) : (celParts c).length ≤ 2 := by
  unfold celParts
  repeat' split
  all_goals simp
theorem write_cell {B : Nat} (hB : B + 3000 ≤ 1099511627776) (c : Cel) (hf : c.Fits) : WriteC B (.iface 75 (celV c)) (celO c) := by
  unfold celO
  by_cases h : celParts c = []
  · rw [if_pos h]
    have := parts_cell c
    rw [h] at this
    exact write_nothing (deep_cell _) this
  · rw [if_neg h]
    have hl := celParts_len c
    have hne : 1 ≤ (celParts c).length := by
      cases hh : celParts c with
      | nil => exact absurd hh h
      | cons a l => simp
    have hok := celParts_ok hf
    refine write_parts (deep_cell _) (parts_cell c) hne (by omega) hok (fun p hp => ?_)
    have hp' := hok p hp
    generalize hL : 60 * (celParts c).length = L at *
    cases p with
    | s t => exact write_str (by omega) t (by have : t.length ≤ 60 := hp'; omega)
    | n k => exact write_int (by omega) k ⟨hp'.1, hp'.2.1⟩ (by have := hp'.2.2; omega)
    | op k => exact write_op (by omega) k hp'
    | reg k => exact write_reg (by omega) k hp'
    | ins j => exact write_ins (by omega) j hp'
set_option maxHeartbeats 1000000 in
theorem showCell_any (c : Cel) (hf : c.Fits) (w : World) (hT : TabsS w) :
    Calls Tryd.prog 27 #[.agg #[.int .i64 c.kind, .int .i64 c.ins.op, .int .i64 c.ins.d, .int .i64 c.ins.a, .int .i64 c.ins.b, .int .i64 c.ins.imm, .int .i64 c.reg, .int .i64 c.pc, .int .i64 c.off]] w fun e w' => e = .returned (.string (txt (cellZ c))) ∧ Below w.heap.size w w' := by
  have cS := Lib.hid (shown_any (write_cell (B := 0) (by decide) c hf))
  have hb0 := (Below.refl w.heap.size w).alloc (Nat.le_refl _) (.cells #[.int .i64 c.kind, .int .i64 c.ins.op, .int .i64 c.ins.d, .int .i64 c.ins.a, .int .i64 c.ins.b, .int .i64 c.ins.imm, .int .i64 c.reg, .int .i64 c.pc, .int .i64 c.off] 75)
  have HB0 := Lib.hid hb0
  have HT := Lib.hid (hT.below hb0)
  have hz : Hid (cellZ c = (celO c).getD []) := rfl
  clear hT hb0 hf
  unfold celV at cS
  rw [← hz.out] at cS
  clear hz
  go_enter Tryd.func27, Tryd.ntmps27
  go_wp2_with fail
  refine (cS.out _ HT.out).mono ?_
  rintro e w1 ⟨rfl, hb1⟩
  have HB1 := Lib.hid (HB0.out.trans (hb1.mono HB0.out.size))
  clear hb1
  go_wp2_with fail
  go_ret
  exact ⟨rfl, HB1.out⟩
end Go.Proofs.YtcaibahniheohaaDoor.Words

/- No two instructions are shown alike. Plain mathematics. -/
namespace Go.Proofs.YtcaibahniheohaaDoor.Words
set_option maxRecDepth 100000
set_option linter.unusedVariables false
set_option linter.unusedSimpArgs false
open Go.Lib
theorem show_halt : showZ ⟨41, 0, 0, 0, 0⟩ = [104, 97, 108, 116] := by decide +kernel
theorem show_lw : showZ ⟨26, 1, 2, 0, -4⟩ = [108, 119, 32, 114, 49, 44, 32, 45, 52, 40, 114, 50, 41] := by decide +kernel
theorem cell_send : cellZ ⟨5, ⟨0, 0, 0, 0, 0⟩, 3, 0, 0⟩ = [115, 101, 110, 100, 32, 114, 51] := by decide +kernel
end Go.Proofs.YtcaibahniheohaaDoor.Words

/- What a program is shown as, and what that is put together of. Plain mathematics. -/
namespace Go.Proofs.YtcaibahniheohaaDoor.Words
set_option maxRecDepth 100000
set_option linter.unusedVariables false
set_option linter.unusedSimpArgs false
open Go.Lib
def aheadS (i : Nat) : List UInt8 := if i % 16 = 0 then [98, 121, 116, 101, 32] else [44, 32]
def nlS (n i : Nat) : List UInt8 := if i % 16 = 15 ∨ i + 1 = n then [10] else []
def bytT (bs : List Int) (i : Nat) : List UInt8 := aheadS i ++ decN (bs.getD i 0) ++ nlS bs.length i
def headT (p : Prog) : List UInt8 := [115, 105, 122, 101, 32] ++ decN p.size ++ [10]
def codT (p : Prog) (i : Nat) : List UInt8 := showI (p.code.getD i ins0) ++ [10]
def txtD (p : Prog) (i : Nat) : List UInt8 := headT p ++ (List.range' 0 i).flatMap (bytT p.data)
def txtC (p : Prog) (i : Nat) : List UInt8 := txtD p p.data.length ++ (List.range' 0 i).flatMap (codT p)
def showT (p : Prog) : List UInt8 := txtC p p.code.length
def textS (p : Prog) : List UInt8 := if p.right = true then showT p else []
def datP (bs : List Int) (i : Nat) : List Part := [.s (aheadS i), .n (bs.getD i 0)]
def nlP (n i : Nat) : List Part := if i % 16 = 15 ∨ i + 1 = n then [.s [10]] else []
def headP (p : Prog) : List Part := [.s [115, 105, 122, 101, 32], .n p.size, .s [10]]
def codP (p : Prog) (i : Nat) : List Part := [.ins (p.code.getD i ins0), .s [10]]
def prtD (p : Prog) (i : Nat) : List Part := headP p ++ (List.range' 0 i).flatMap (fun j => datP p.data j ++ nlP p.data.length j)
def prtL (p : Prog) (m j : Nat) : List Part := prtD p m ++ (List.range' m j).flatMap (datP p.data)
def prtC (p : Prog) (i : Nat) : List Part := prtD p p.data.length ++ (List.range' 0 i).flatMap (codP p)
def progParts (p : Prog) : List Part := prtC p p.code.length
theorem range_last (m j : Nat) : List.range' m (j + 1) = List.range' m j ++ [m + j] := by rw [List.range'_concat]; simp
theorem txtD_zero (p : Prog) : txtD p 0 = headT p := by simp [txtD]
theorem txtD_succ (p : Prog) (i : Nat) : txtD p (i + 1) = txtD p i ++ bytT p.data i := by
  unfold txtD; rw [range_last, List.flatMap_append, List.append_assoc]; simp
theorem txtC_zero (p : Prog) : txtC p 0 = txtD p p.data.length := by simp [txtC]
theorem txtC_succ (p : Prog) (i : Nat) : txtC p (i + 1) = txtC p i ++ codT p i := by
  unfold txtC; rw [range_last, List.flatMap_append, List.append_assoc]; simp
theorem prtD_zero (p : Prog) : prtD p 0 = headP p := by simp [prtD]
theorem prtL_zero (p : Prog) (m : Nat) : prtL p m 0 = prtD p m := by simp [prtL]
theorem prtL_succ (p : Prog) (m j : Nat) : prtL p m (j + 1) = prtL p m j ++ datP p.data (m + j) := by
  unfold prtL; rw [range_last, List.flatMap_append, List.append_assoc]; simp
theorem prtC_zero (p : Prog) : prtC p 0 = prtD p p.data.length := by simp [prtC]
theorem prtC_succ (p : Prog) (i : Nat) : prtC p (i + 1) = prtC p i ++ codP p i := by
  unfold prtC; rw [range_last, List.flatMap_append, List.append_assoc]; simp
theorem prt_line {p : Prog} {m e : Nat} (hm : m % 16 = 0) (hmn : m < p.data.length) (he : e = min (m + 16) p.data.length) : prtL p m (e - m) ++ [.s [10]] = prtD p e := by
  obtain ⟨L, hL⟩ : ∃ L, e - m = L + 1 := ⟨e - m - 1, by omega⟩
  have h1 : ∀ k, k ≤ L → (List.range' m k).flatMap (fun j => datP p.data j ++ nlP p.data.length j) = (List.range' m k).flatMap (datP p.data) := by
    intro k
    induction k with
    | zero => intro _; rfl
    | succ k ih =>
      intro hk
      rw [range_last, List.flatMap_append, List.flatMap_append, ih (by omega)]
      have : nlP p.data.length (m + k) = [] := if_neg (by omega)
      simp [this]
  have h2 : nlP p.data.length (m + L) = [.s [10]] := if_pos (by omega)
  have hR : List.range' 0 (m + (L + 1)) = List.range' 0 m ++ List.range' m (L + 1) := by
    have := List.range'_append_1 (s := 0) (m := m) (n := L + 1)
    rw [Nat.zero_add] at this
    exact this.symm
  unfold prtL prtD
  rw [show e = m + (L + 1) by omega, show m + (L + 1) - m = L + 1 by omega, hR, List.flatMap_append, range_last m L, List.flatMap_append, List.flatMap_append, h1 L (Nat.le_refl _)]
  simp [h2]
theorem prtD_len (p : Prog) : ∀ i, (prtD p i).length ≤ 3 + 3 * i
  | 0 => by rw [prtD_zero]; simp [headP]
  | i + 1 => by
    have := prtD_len p i
    have e : prtD p (i + 1) = prtD p i ++ (datP p.data i ++ nlP p.data.length i) := by
      unfold prtD; rw [range_last, List.flatMap_append, List.append_assoc]; simp
    have : (nlP p.data.length i).length ≤ 1 := by unfold nlP; split <;> simp
    rw [e, List.length_append, List.length_append]
    have : (datP p.data i).length = 2 := rfl
    omega
theorem prtL_len (p : Prog) (m : Nat) : ∀ j, (prtL p m j).length = (prtD p m).length + 2 * j
  | 0 => by rw [prtL_zero]; rfl
  | j + 1 => by
    rw [prtL_succ, List.length_append, prtL_len p m j]
    have : (datP p.data (m + j)).length = 2 := rfl
    omega
theorem prtC_len (p : Prog) : ∀ i, (prtC p i).length ≤ 3 + 3 * p.data.length + 2 * i
  | 0 => by rw [prtC_zero]; have := prtD_len p p.data.length; omega
  | i + 1 => by
    rw [prtC_succ, List.length_append]
    have := prtC_len p i
    have : (codP p i).length = 2 := rfl
    omega
theorem data_in {p : Prog} (hd : ∀ b ∈ p.data, 0 ≤ b ∧ b ≤ 255) (k : Nat) : 0 ≤ p.data.getD k 0 ∧ p.data.getD k 0 ≤ 255 := by
  rw [List.getD_eq_getElem?_getD]
  cases h : p.data[k]? with
  | none => simp
  | some x => exact hd x (List.mem_of_getElem? h)
theorem partsTxt_flat {α : Type} (f : α → List Part) (g : α → List UInt8) : ∀ l : List α, (∀ x ∈ l, partsTxt (f x) = some (g x)) → partsTxt (l.flatMap f) = some (l.flatMap g)
  | [], _ => rfl
  | x :: l, h => by
    rw [List.flatMap_cons, List.flatMap_cons]
    exact partsTxt_append (h x (by simp)) (partsTxt_flat f g l (fun y hy => h y (by simp [hy])))
theorem code_right {p : Prog} (hr : p.right = true) {j : Nat} (hj : j < p.code.length) : rightB (p.code.getD j ins0) = true := by
  obtain ⟨_, ha, _⟩ := right_parts hr
  rw [List.getD_eq_getElem?_getD, List.getElem?_eq_getElem hj]
  exact List.all_eq_true.1 ha _ (List.getElem_mem hj)
theorem progParts_txt {p : Prog} (hr : p.right = true) : partsTxt (progParts p) = some (showT p) := by
  unfold progParts prtC showT txtC prtD txtD
  refine partsTxt_append (partsTxt_append ?_ (partsTxt_flat _ _ _ fun j _ => ?_)) (partsTxt_flat _ _ _ fun j hj => ?_)
  · show partsTxt [.s [115, 105, 122, 101, 32], .n p.size, .s [10]] = _
    rw [partsTxt_cons (a := [115, 105, 122, 101, 32]) rfl (partsTxt_cons (a := decN p.size) rfl (partsTxt_some (p := .s [10]) rfl))]
    simp [headT]
  · have e1 : partsTxt (datP p.data j) = some (aheadS j ++ decN (p.data.getD j 0)) := by
      show partsTxt [.s (aheadS j), .n (p.data.getD j 0)] = _
      rw [partsTxt_cons (a := aheadS j) rfl (partsTxt_some (p := .n (p.data.getD j 0)) rfl)]
    have e2 : partsTxt (nlP p.data.length j) = some (nlS p.data.length j) := by unfold nlP nlS; split <;> rfl
    rw [partsTxt_append e1 e2]
    rfl
  · have hj' : j < p.code.length := by simpa using hj
    have t : (Part.ins (p.code.getD j ins0)).text = some (showI (p.code.getD j ins0)) := if_pos (code_right hr hj')
    show partsTxt [.ins (p.code.getD j ins0), .s [10]] = _
    rw [partsTxt_cons t (partsTxt_some (p := .s [10]) rfl)]
    rfl
theorem progParts_ok {p : Prog} (hr : p.right = true) (hd : ∀ b ∈ p.data, 0 ≤ b ∧ b ≤ 255) : ∀ q ∈ progParts p, q.ok := by
  obtain ⟨⟨_, _, hs1, hs2, _⟩, _, _⟩ := right_parts hr
  intro q hq
  unfold progParts prtC prtD at hq
  rw [List.mem_append, List.mem_append, List.mem_flatMap, List.mem_flatMap] at hq
  rcases hq with (hq | ⟨j, _, hq⟩) | ⟨j, hj, hq⟩
  · simp only [headP, List.mem_cons, List.not_mem_nil, or_false] at hq
    rcases hq with rfl | rfl | rfl
    · show ([115, 105, 122, 101, 32] : List UInt8).length ≤ 60; decide
    · have := decN_len (n := p.size) (by omega)
      exact ⟨by omega, by omega, by omega⟩
    · show ([10] : List UInt8).length ≤ 60; decide
  · rw [List.mem_append] at hq
    rcases hq with hq | hq
    · simp only [datP, List.mem_cons, List.not_mem_nil, or_false] at hq
      rcases hq with rfl | rfl
      · show (aheadS j).length ≤ 60; unfold aheadS; split <;> decide
      · have h := data_in hd j
        have := decN_len (n := p.data.getD j 0) (by omega)
        exact ⟨by omega, by omega, by omega⟩
    · unfold nlP at hq
      split at hq
      · rw [List.mem_singleton.1 hq]; show ([10] : List UInt8).length ≤ 60; decide
      · cases hq
  · have hj' : j < p.code.length := by simpa using hj
    simp only [codP, List.mem_cons, List.not_mem_nil, or_false] at hq
    rcases hq with rfl | rfl
    · obtain ⟨ho, hdd, ha, hb, hi⟩ := right_range (code_right hr hj')
      unfold Part.ok Ins.Fits
      omega
    · show ([10] : List UInt8).length ≤ 60; decide
theorem progParts_len (p : Prog) : 3 ≤ (progParts p).length ∧ (progParts p).length ≤ 3 + 3 * p.data.length + 2 * p.code.length := by
  refine ⟨?_, prtC_len p _⟩
  unfold progParts prtC prtD headP
  simp only [List.length_append, List.length_cons, List.length_nil]
  omega
end Go.Proofs.YtcaibahniheohaaDoor.Words

/- How many lines a program is shown in. Plain mathematics. -/
namespace Go.Proofs.YtcaibahniheohaaDoor.Words
set_option maxRecDepth 100000
set_option linter.unusedVariables false
set_option linter.unusedSimpArgs false
open Go.Lib
theorem bytT_len {bs : List Int} {i : Nat} (h : 0 ≤ bs.getD i 0 ∧ bs.getD i 0 ≤ 255) : (bytT bs i).length ≤ 18 := by
  have := decN_len (n := bs.getD i 0) (by omega)
  unfold bytT
  rw [List.length_append, List.length_append]
  have h1 : (aheadS i).length ≤ 5 := by unfold aheadS; split <;> simp
  have h2 : (nlS bs.length i).length ≤ 1 := by unfold nlS; split <;> simp
  omega
theorem txtD_len {p : Prog} (hs : 0 ≤ p.size ∧ p.size ≤ 65536) (hd : ∀ b ∈ p.data, 0 ≤ b ∧ b ≤ 255) : ∀ i, (txtD p i).length ≤ 20 + 18 * i
  | 0 => by
    have := decN_len (n := p.size) (by omega)
    rw [txtD_zero]
    unfold headT
    simp only [List.length_append, List.length_cons, List.length_nil]
    omega
  | i + 1 => by
    have := txtD_len hs hd i
    have := bytT_len (data_in hd i)
    rw [txtD_succ, List.length_append]
    omega
theorem txtC_len {p : Prog} (hr : p.right = true) (hd : ∀ b ∈ p.data, 0 ≤ b ∧ b ≤ 255) : ∀ i, i ≤ p.code.length → (txtC p i).length ≤ 20 + 18 * p.data.length + 41 * i
  | 0, _ => by
    obtain ⟨⟨_, _, h1, h2, _⟩, _⟩ := right_parts hr
    rw [txtC_zero]
    exact txtD_len ⟨h1, h2⟩ hd _
  | i + 1, h => by
    have := txtC_len hr hd i (by omega)
    have := showI_len (code_right hr (show i < p.code.length by omega))
    rw [txtC_succ, List.length_append]
    have e : (codT p i).length ≤ 41 := by
      unfold codT; rw [List.length_append]; exact Nat.add_le_add this (Nat.le_refl 1)
    omega
end Go.Proofs.YtcaibahniheohaaDoor.Words

/- The texts of AsmBytes, and their programs. Plain mathematics. -/
namespace Go.Proofs.YtcaibahniheohaaDoor.Words
set_option maxRecDepth 100000
set_option linter.unusedVariables false
set_option linter.unusedSimpArgs false
open Go.Lib
def bytPcs (x : Int × Bool) : List Pc := if x.2 = true then [.line, .name byteN, SP, .num x.1 (decN x.1)] else [CM, SP, .num x.1 (decN x.1)]
def bytLns (n : Int) (ns : List Int) : List (Int × Bool) → List Ln
  | [] => [⟨[], .bytes n ns⟩]
  | x :: r => if x.2 = true then ⟨[], .bytes n ns⟩ :: bytLns x.1 [] r else bytLns n (ns ++ [x.1]) r
theorem bytPcs_yes {x : Int × Bool} (h : x.2 = true) : bytPcs x = [.line, .name byteN, SP, .num x.1 (decN x.1)] := if_pos h
theorem bytPcs_no {x : Int × Bool} (h : ¬ x.2 = true) : bytPcs x = [CM, SP, .num x.1 (decN x.1)] := if_neg h
theorem bytLns_yes {n : Int} {ns : List Int} {x : Int × Bool} {r : List (Int × Bool)} (h : x.2 = true) : bytLns n ns (x :: r) = ⟨[], .bytes n ns⟩ :: bytLns x.1 [] r := if_pos h
theorem bytLns_no {n : Int} {ns : List Int} {x : Int × Bool} {r : List (Int × Bool)} (h : ¬ x.2 = true) : bytLns n ns (x :: r) = bytLns n (ns ++ [x.1]) r := if_neg h
theorem bytLns_ne (n : Int) : ∀ (r : List (Int × Bool)) (ns : List Int), bytLns n ns r ≠ []
  | [], ns => by simp [bytLns]
  | x :: r, ns => by unfold bytLns; split; simp; exact bytLns_ne n r _
theorem textKeys_cons (z : List Key) (L : Ln) {Ls : List Ln} (h : Ls ≠ []) : textKeys z (L :: Ls) = lnKeys L ++ k4 :: textKeys z Ls := by
  cases Ls with
  | nil => exact absurd rfl h
  | cons L2 Ls => rfl
theorem byt_good {X : List Pc} (hX : goodP X) (hs : softN X = true) : ∀ r : List (Int × Bool), (∀ x ∈ r, 0 ≤ x.1 ∧ x.1 ≤ 255) → goodP (r.flatMap bytPcs ++ X) ∧ softN (r.flatMap bytPcs ++ X) = true
  | [], _ => ⟨hX, hs⟩
  | x :: r, h => by
    obtain ⟨g1, g2⟩ := byt_good hX hs r (fun y hy => h y (by simp [hy]))
    have hx := h x (by simp)
    have hn : IsNum x.1 (decN x.1) := decN_num (by omega)
    have hnx : nextP (.num x.1 (decN x.1)) (r.flatMap bytPcs ++ X) := by
      generalize r.flatMap bytPcs ++ X = Y at *
      cases Y with
      | nil => trivial
      | cons q Y => cases q <;> first | trivial | exact absurd g2 (by simp [softN])
    rw [List.flatMap_cons, List.append_assoc]
    unfold bytPcs
    split
    · exact ⟨⟨trivial, trivial, byte_name, trivial, .inl rfl, trivial, hn, hnx, g1⟩, rfl⟩
    · exact ⟨⟨.inl rfl, trivial, .inl rfl, trivial, hn, hnx, g1⟩, rfl⟩
theorem bytLns_ok (n : Int) : ∀ (r : List (Int × Bool)) (ns : List Int), ∀ L ∈ bytLns n ns r, LnOk L
  | [], ns, L, h => by rw [List.mem_singleton.1 h]; exact bytes_ln _ _
  | x :: r, ns, L, h => by
    unfold bytLns at h
    split at h
    · rcases List.mem_cons.1 h with rfl | h
      · exact bytes_ln _ _
      · exact bytLns_ok x.1 r [] L h
    · exact bytLns_ok n r _ L h
theorem bytLns_parts : ∀ (r : List (Int × Bool)) (n : Int) (ns : List Int), (bytLns n ns r).flatMap lnParts = (n :: (ns ++ r.map (·.1))).map byteK
  | [], n, ns => by
    have e : (bytLns n ns []).flatMap lnParts = stmParts (.bytes n ns) := by simp [bytLns, lnParts, labParts]
    rw [e, List.map_nil, List.append_nil]; rfl
  | x :: r, n, ns => by
    unfold bytLns
    split
    · have e : lnParts ⟨[], .bytes n ns⟩ = (n :: ns).map byteK := rfl
      rw [List.flatMap_cons, bytLns_parts r x.1 [], e]
      simp
    · rw [bytLns_parts r n (ns ++ [x.1])]
      simp
end Go.Proofs.YtcaibahniheohaaDoor.Words

/- What a program is shown as is that program's text. Plain mathematics. -/
namespace Go.Proofs.YtcaibahniheohaaDoor.Words
set_option maxRecDepth 100000
set_option linter.unusedVariables false
set_option linter.unusedSimpArgs false
open Go.Lib
/-! ### the keys -/
theorem byt_keysZ {z : List Key} {X : List Pc} {Ls : List Ln} (hX : lexK true X = k4 :: textKeys z Ls) (hL : Ls ≠ []) : ∀ (r : List (Int × Bool)) (n : Int) (ns : List Int), stmKeys (.bytes n ns) ++ lexK true (r.flatMap bytPcs ++ X) = textKeys z (bytLns n ns r ++ Ls)
  | [], n, ns => by
    show _ ++ lexK true X = textKeys z (⟨[], .bytes n ns⟩ :: Ls)
    rw [hX, textKeys_cons _ _ hL]
    rfl
  | x :: r, n, ns => by
    rw [List.flatMap_cons, List.append_assoc]
    by_cases h : x.2 = true
    · rw [bytPcs_yes h, bytLns_yes h]
      have ih := byt_keysZ hX hL r x.1 []
      have e := textKeys_cons z ⟨[], .bytes n ns⟩ (Ls := bytLns x.1 [] r ++ Ls) (by simp [bytLns_ne])
      refine Eq.trans ?_ e.symm
      rw [← ih]
      rfl
    · rw [bytPcs_no h, bytLns_no h]
      have ih := byt_keysZ hX hL r n (ns ++ [x.1])
      rw [← ih]
      have e : stmKeys (.bytes n (ns ++ [x.1])) = stmKeys (.bytes n ns) ++ [kS 44, kI x.1] := by
        show kN byteN :: kI n :: byteKeys (ns ++ [x.1]) = kN byteN :: kI n :: byteKeys ns ++ _
        simp [byteKeys]
      rw [e, List.append_assoc]
      rfl
theorem range_getDS (l : List Ins) : (List.range' 0 l.length).map (fun j => l.getD j ins0) = l := by
  apply List.ext_getElem?
  intro j
  rw [List.getElem?_map]
  by_cases hj : j < l.length
  · rw [List.getElem?_range' hj, List.getElem?_eq_getElem hj, Option.map_some, List.getD_eq_getElem?_getD, List.getElem?_eq_getElem (by omega)]
    simp
  · rw [List.getElem?_eq_none (by simpa using hj), List.getElem?_eq_none (by omega)]
    rfl
theorem range_getDI (l : List Int) : (List.range' 0 l.length).map (fun j => l.getD j 0) = l := by
  apply List.ext_getElem?
  intro j
  rw [List.getElem?_map]
  by_cases hj : j < l.length
  · rw [List.getElem?_range' hj, List.getElem?_eq_getElem hj, Option.map_some, List.getD_eq_getElem?_getD, List.getElem?_eq_getElem (by omega)]
    simp
  · rw [List.getElem?_eq_none (by simpa using hj), List.getElem?_eq_none (by omega)]
    rfl
def codX (l : List Ins) : List Pc := l.flatMap (fun i => .line :: showP i) ++ [.line]
theorem codX_cons (i : Ins) (l : List Ins) : codX (i :: l) = .line :: (showP i ++ codX l) := by simp [codX]
def insLn (i : Ins) : Ln := ⟨[], .ins i []⟩
theorem showP_keys (i : Ins) (X : List Pc) : lexK false (showP i ++ X) = stmKeys (.ins i []) ++ lexK true X := by
  obtain ⟨k1, o1⟩ := lexK_ins i [] (decN i.imm) false
  rw [lexK_append]
  unfold showP
  rw [k1, o1]
theorem codX_keys : ∀ l : List Ins, l ≠ [] → lexK true (codX l) = k4 :: textKeys [k4] (l.map insLn)
  | [], h => absurd rfl h
  | [i], _ => by
    rw [codX_cons]
    show (if true = true then k4 :: lexK false (showP i ++ codX []) else _) = _
    rw [if_pos rfl, showP_keys]
    show k4 :: (stmKeys (.ins i []) ++ [k4]) = k4 :: (lnKeys (insLn i) ++ [k4])
    simp [lnKeys, insLn, labKeys]
  | i :: j :: l, _ => by
    rw [codX_cons]
    show (if true = true then k4 :: lexK false (showP i ++ codX (j :: l)) else _) = _
    rw [if_pos rfl, showP_keys, codX_keys (j :: l) (by simp)]
    have e := textKeys_cons [k4] (insLn i) (Ls := (j :: l).map insLn) (by simp)
    show _ = k4 :: textKeys [k4] (insLn i :: (j :: l).map insLn)
    rw [e]
    rfl
theorem codX_good : ∀ l : List Ins, (∀ i ∈ l, rightB i = true) → goodP (codX l) ∧ softN (codX l) = true
  | [], _ => ⟨⟨trivial, trivial, trivial⟩, rfl⟩
  | i :: l, h => by
    obtain ⟨g1, g2⟩ := codX_good l (fun j hj => h j (by simp [hj]))
    have hr := h i (by simp)
    have hi := (right_range hr).2.2.2.2
    have hg : goodP (showP i) := goodP_ins hr (decN_num (by omega)) (fun h => absurd rfl h)
    rw [codX_cons]
    exact ⟨⟨trivial, trivial, goodP_behind hg (ins_nohash _ _ _) g1 g2⟩, rfl⟩
/-! ### the pieces, and the text -/
def shwB (p : Prog) (i : Nat) : Int × Bool := (p.data.getD i 0, decide (i % 16 = 0))
def shwR (p : Prog) : List (Int × Bool) := (List.range' 0 p.data.length).map (shwB p)
def shwPcs (p : Prog) : List Pc := sizePcs p.size ++ ((shwR p).flatMap bytPcs ++ codX p.code)
def nlI (n i : Nat) : List UInt8 := if i % 16 = 0 ∨ i = n then [10] else []
def bytX (p : Prog) (i : Nat) : List UInt8 := pcText (bytPcs (shwB p i))
theorem bytX_eq (p : Prog) (i : Nat) (h : i < p.data.length) : nlI p.data.length i ++ bytT p.data i = bytX p i ++ nlI p.data.length (i + 1) := by
  have e : nlS p.data.length i = nlI p.data.length (i + 1) := by
    unfold nlS nlI
    by_cases h1 : i % 16 = 15 ∨ i + 1 = p.data.length
    · rw [if_pos h1, if_pos (by omega)]
    · rw [if_neg h1, if_neg (by omega)]
  unfold bytT bytX
  rw [e]
  by_cases h0 : i % 16 = 0
  · have h1 : nlI p.data.length i = [10] := if_pos (.inl h0)
    have h2 : aheadS i = [98, 121, 116, 101, 32] := if_pos h0
    rw [h1, h2, bytPcs_yes (by simp [shwB, h0])]
    simp [pcText, Pc.text, shwB, byteN]
  · have h1 : nlI p.data.length i = [] := if_neg (by omega)
    have h2 : aheadS i = [44, 32] := if_neg h0
    rw [h1, h2, bytPcs_no (by simp [shwB, h0])]
    simp [pcText, Pc.text, shwB]
theorem dat_moved (p : Prog) : ∀ i, i ≤ p.data.length → [10] ++ (List.range' 0 i).flatMap (bytT p.data) = (List.range' 0 i).flatMap (bytX p) ++ nlI p.data.length i
  | 0, _ => by simp [nlI]
  | i + 1, h => by
    have ih := dat_moved p i (by omega)
    rw [range_last, List.flatMap_append, List.flatMap_append, ← List.append_assoc, ih, List.append_assoc, List.append_assoc]
    congr 1
    simp only [List.flatMap_cons, List.flatMap_nil, List.append_nil, Nat.zero_add]
    exact bytX_eq p i (by omega)
theorem cod_moved : ∀ l : List Ins, [10] ++ l.flatMap (fun i => showI i ++ [10]) = pcText (codX l)
  | [] => rfl
  | i :: l => by
    have ih := cod_moved l
    rw [codX_cons, pcText_cons, pcText_append, ← ih, List.flatMap_cons]
    simp [Pc.text, showI]
theorem flat_range {β : Type} (l : List Ins) (f : Ins → List β) : (List.range' 0 l.length).flatMap (fun j => f (l.getD j ins0)) = l.flatMap f := by
  have h := range_getDS l
  conv => rhs; rw [← h]
  rw [List.flatMap_map]
theorem shw_text (p : Prog) : pcText (shwPcs p) = showT p := by
  unfold shwPcs showT txtC txtD headT
  rw [pcText_append, pcText_append]
  have e1 : pcText (sizePcs p.size) = [115, 105, 122, 101, 32] ++ decN p.size := by simp [pcText, Pc.text, sizePcs, sizeN]
  have e2 : pcText ((shwR p).flatMap bytPcs) = (List.range' 0 p.data.length).flatMap (bytX p) := by
    unfold shwR
    rw [List.flatMap_map]
    have : ∀ l : List Nat, pcText (l.flatMap (fun x => bytPcs (shwB p x))) = l.flatMap (bytX p) := by
      intro l
      induction l with
      | nil => rfl
      | cons x l ih => rw [List.flatMap_cons, pcText_append, ih]; rfl
    exact this _
  have e3 := dat_moved p p.data.length (Nat.le_refl _)
  have e4 : nlI p.data.length p.data.length = [10] := if_pos (.inr rfl)
  have e5 : (List.range' 0 p.code.length).flatMap (codT p) = p.code.flatMap (fun i => showI i ++ [10]) := flat_range p.code (fun i => showI i ++ [10])
  rw [e4] at e3
  rw [e1, e2, e5, ← cod_moved]
  simp only [List.append_assoc]
  congr 2
  rw [← List.append_assoc ((List.range' 0 p.data.length).flatMap (bytX p)), ← e3]
  simp
def shwLns (p : Prog) : List Ln := ⟨[], .size p.size⟩ :: ((match shwR p with | [] => [] | x :: r => bytLns x.1 [] r) ++ p.code.map insLn)
theorem shwR_first (p : Prog) {x : Int × Bool} {r : List (Int × Bool)} (h : shwR p = x :: r) : x.2 = true := by
  unfold shwR at h
  cases hn : p.data.length with
  | zero => rw [hn] at h; cases h
  | succ n =>
    rw [hn, List.range'_succ, List.map_cons] at h
    injection h with h _
    rw [← h]
    simp [shwB]
theorem shw_keys {p : Prog} (hc : p.code ≠ []) : lexK false (shwPcs p) = textKeys [k4] (shwLns p) := by
  have hX := codX_keys p.code hc
  have hL : p.code.map insLn ≠ [] := by simpa using hc
  unfold shwPcs shwLns
  cases h : shwR p with
  | nil =>
    show stmKeys (.size p.size) ++ lexK true (codX p.code) = _
    rw [hX, List.nil_append, textKeys_cons _ _ hL]
    rfl
  | cons x r =>
    have hx := shwR_first p h
    rw [List.flatMap_cons, List.append_assoc, bytPcs_yes hx]
    show stmKeys (.size p.size) ++ k4 :: (stmKeys (.bytes x.1 []) ++ lexK true (r.flatMap bytPcs ++ codX p.code)) = _
    rw [byt_keysZ hX hL r x.1 [], textKeys_cons _ _ (by simp [hL])]
    rfl
theorem shwR_data (p : Prog) : (shwR p).map (·.1) = p.data := by
  unfold shwR
  rw [List.map_map]
  exact range_getDI p.data
theorem shw_parts (p : Prog) : (shwLns p).flatMap lnParts = ⟨3, p.size, [], ins0, key0⟩ :: (p.data.map byteK ++ p.code.map insK) := by
  have hd := shwR_data p
  have e3 : (p.code.map insLn).flatMap lnParts = p.code.map insK := by
    generalize p.code = l
    induction l with
    | nil => rfl
    | cons i l ih => rw [List.map_cons, List.flatMap_cons, ih]; rfl
  unfold shwLns
  rw [List.flatMap_cons, List.flatMap_append, e3]
  cases h : shwR p with
  | nil =>
    rw [h] at hd
    have : p.data = [] := by rw [← hd]; rfl
    rw [this]
    rfl
  | cons x r =>
    rw [h] at hd
    simp only
    rw [bytLns_parts, ← hd]
    rfl
theorem show_asm {p : Prog} (hr : p.right = true) (hd : ∀ b ∈ p.data, 0 ≤ b ∧ b ≤ 255) (hl : (showT p).length ≤ 20000) : asmZ (showT p) = .ok p := by
  obtain ⟨⟨h1, h2, h3, h4, h5⟩, ha, _⟩ := right_parts hr
  have hc : p.code ≠ [] := by intro e; rw [e] at h1; simp at h1
  have hall : ∀ i ∈ p.code, rightB i = true := fun i hi => List.all_eq_true.1 ha i hi
  obtain ⟨g1, g2⟩ := codX_good p.code hall
  have hrr : ∀ x ∈ shwR p, 0 ≤ x.1 ∧ x.1 ≤ 255 := by
    intro x hx
    obtain ⟨k, _, rfl⟩ := List.mem_map.1 hx
    exact data_in hd k
  obtain ⟨g3, g4⟩ := byt_good g1 g2 (shwR p) hrr
  have hsz : goodP (sizePcs p.size) := ⟨size_name, trivial, .inl rfl, trivial, decN_num (by omega), trivial, trivial⟩
  have hg : goodP (shwPcs p) := goodP_behind hsz (by
    intro q hq
    simp only [sizePcs, List.mem_cons, List.not_mem_nil, or_false] at hq
    rcases hq with rfl | rfl | rfl <;> rfl) g3 g4
  have hok : ∀ L ∈ shwLns p, LnOk L := by
    intro L hL
    unfold shwLns at hL
    rcases List.mem_cons.1 hL with rfl | hL
    · exact size_ln _
    rcases List.mem_append.1 hL with hL | hL
    · cases h : shwR p with
      | nil => rw [h] at hL; cases hL
      | cons x r => rw [h] at hL; exact bytLns_ok _ _ _ L hL
    · obtain ⟨i, hi, rfl⟩ := List.mem_map.1 hL
      exact ⟨⟨hall i hi, fun h => absurd rfl h⟩, by simp [insLn, lnKeys, labKeys, stmKeys]⟩
  rw [← shw_text] at hl ⊢
  rw [asmZ_lines rfl hg hl (.inr rfl) hok (shw_keys hc) (q := p) (by rw [shw_parts]; exact lay_prog hr hd _), check_right hr]
end Go.Proofs.YtcaibahniheohaaDoor.Words

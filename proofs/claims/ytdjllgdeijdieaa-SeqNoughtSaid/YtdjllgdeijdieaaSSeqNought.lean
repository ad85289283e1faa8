/- The walk of SeqNought: register 0 is 0, whatever is written to it. -/
import Derived.Test.YtdjllgdeijdieaaG11
import Derived.Test.YtdjllgdeijdieaaG12
namespace Go.Proofs.Ytdjllgdeijdieaa.Words
set_option maxRecDepth 100000
open Go.RowKit
set_option linter.unusedVariables false

/-- The program of one instruction, and a halt. -/
def noughtP (i : Ins) (n : Nat) : Prog := ⟨[⟨i.op, 0, i.a, i.b, i.imm⟩, ⟨41, 0, 0, 0, 0⟩], n, []⟩
/-- What it begins with. -/
def noughtR (r : Res) (zs : List Int) : Res := ⟨0, r.tk, r.ts, r.tp, r.st, r.regs, zs, []⟩
theorem noughtP_right {i : Ins} {n : Nat} (h : rightB i = true) (hf : formZ i.op ≤ 4) (hn : n ≤ 200) : (noughtP i n).right = true := by
  have hc := formZ_cases i.op
  have h1 : (noughtP i n).code.all rightB = true := by
    rw [List.all_eq_true]
    intro j hj
    simp only [noughtP, List.mem_cons, List.not_mem_nil, or_false] at hj
    rcases hj with rfl | rfl
    · rw [rightB_iff] at h ⊢
      obtain ⟨g1, g2, g3, g4, g5⟩ := h
      refine ⟨g1, ?_, g3, g4, g5⟩
      split <;> simp
    · decide
  have h2 : (noughtP i n).targets = true := by
    unfold Prog.targets noughtP
    simp only [targetsOk, badTarget, isJump]
    have j1 : ¬ (34 ≤ i.op ∧ i.op ≤ 40) := by omega
    simp [j1]
  unfold Prog.right
  rw [h1, h2]
  simp [noughtP]
  omega
theorem nought_box {x : World} {b : Nat} {r : Res} {zs : List Int} {vm vw : Value} (h : Box x b (resL { r with e := 0 } vm vw)) (h16 : r.regs.length = 16) (v : Value) : Box ((x.setCell ⟨b, 21, none⟩ v).setCell ⟨b, 22, none⟩ (.slice none 0 0)) b (resL (noughtR r zs) v (.slice none 0 0)) := by
  have := (h.setCell 21 v).setCell 22 (.slice none 0 0)
  rw [resL_set21 (r := { r with e := 0 }) h16, resL_set22 (r := { r with e := 0 }) h16] at this
  exact this
theorem regs_one (l : List Int) : ∀ v ∈ l.map (Value.int .u32), v.oneCell' = true := by
  intro v hv
  obtain ⟨x, _, rfl⟩ := List.mem_map.1 hv
  rfl
theorem nought_step {i : Ins} {r : Res} {zs : List Int} (h : rightB i = true) (hf : formZ i.op ≤ 4) (hn : zs.length ≤ 200) :
    (stepZ (noughtP i zs.length) (noughtR r zs) 0).1.regs = r.regs ∧ (stepZ (noughtP i zs.length) (noughtR r zs) 0).1.ws = [] ∧
    (((stepZ (noughtP i zs.length) (noughtR r zs) 0).1.e = 2 ∧ (stepZ (noughtP i zs.length) (noughtR r zs) 0).2 = 0) ∨ ((stepZ (noughtP i zs.length) (noughtR r zs) 0).1.e = 0 ∧ (stepZ (noughtP i zs.length) (noughtR r zs) 0).2 = 1)) := by
  have hs := stepZ_ins (p := noughtP i zs.length) (r := noughtR r zs) (k := 0) (i := ⟨i.op, 0, i.a, i.b, i.imm⟩) rfl (noughtP_right h hf hn) rfl rfl
  rw [show ((0 : Nat) : Int) = 0 from rfl] at hs
  rw [hs]
  have hc := formZ_cases i.op
  have h0 : formZ i.op ≠ 0 := by rw [rightB_iff] at h; omega
  unfold insZ
  simp only
  split
  · split
    · exact ⟨rfl, rfl, .inl ⟨rfl, rfl⟩⟩
    · rw [if_pos (by omega)]
      exact ⟨rfl, rfl, .inr ⟨rfl, rfl⟩⟩
  · rw [if_pos (by omega)]
    split
    · exact ⟨rfl, rfl, .inl ⟨rfl, rfl⟩⟩
    · exact ⟨rfl, rfl, .inr ⟨rfl, rfl⟩⟩

set_option maxHeartbeats 1000000 in
theorem seqNought_wrong (i : Ins) (M U : Option Addr) (m u : Nat) (r : Res) (S : Option Addr) (n c : Nat) (zs : List Int) (w : World) (hr : ResV w w.heap.size (.slice M r.mem.length m) (.slice U r.ws.length u) r) (fr : r.Fits) (hz : Row w w.heap.size 1 (.slice S n c) n (zs.map (Value.int .u8))) (hzb : ∀ b ∈ zs, 0 ≤ b ∧ b ≤ 255) (hri : rightB i = false) :
    Calls Try.prog 6 #[.agg #[.int .i64 i.op, .int .i64 i.d, .int .i64 i.a, .int .i64 i.b, .int .i64 i.imm], .agg (resL r (.slice M r.mem.length m) (.slice U r.ws.length u)).toArray, .slice S n c] w fun e w' => e = .returned (.bool true) ∧ Below w.heap.size w w' := by
  have HRI : Hid (rightB i = false) := hri
  clear hri
  obtain ⟨z1, z2⟩ := hz.cap
  have hzl : Hid (zs.length = n) := by have := hz.len; show _ = _; simpa using this
  have h16 := hr.regs
  have hs : ((w.alloc (.cells #[.int .i64 i.op, .int .i64 i.d, .int .i64 i.a, .int .i64 i.b, .int .i64 i.imm] 44)).alloc (.cells (resL r (.slice M r.mem.length m) (.slice U r.ws.length u)).toArray 34)).heap.size = w.heap.size + 2 := by simp
  have HB := Lib.hid (((Below.refl w.heap.size w).alloc (Nat.le_refl _) (.cells #[.int .i64 i.op, .int .i64 i.d, .int .i64 i.a, .int .i64 i.b, .int .i64 i.imm] 44)).alloc (by simp) (.cells (resL r (.slice M r.mem.length m) (.slice U r.ws.length u)).toArray 34))
  have HZ0 := Lib.hid (fun (x : World) (h : Below w.heap.size w x) => (hz.below h).more h.size)
  have e0 : ((w.alloc (.cells #[.int .i64 i.op, .int .i64 i.d, .int .i64 i.a, .int .i64 i.b, .int .i64 i.imm] 44)).alloc (.cells (resL r (.slice M r.mem.length m) (.slice U r.ws.length u)).toArray 34)).cell? ⟨w.heap.size, 0, none⟩ = some (.int .i64 i.op) := by go_simp
  have e1 : ((w.alloc (.cells #[.int .i64 i.op, .int .i64 i.d, .int .i64 i.a, .int .i64 i.b, .int .i64 i.imm] 44)).alloc (.cells (resL r (.slice M r.mem.length m) (.slice U r.ws.length u)).toArray 34)).cell? ⟨w.heap.size, 1, none⟩ = some (.int .i64 i.d) := by go_simp
  have e2 : ((w.alloc (.cells #[.int .i64 i.op, .int .i64 i.d, .int .i64 i.a, .int .i64 i.b, .int .i64 i.imm] 44)).alloc (.cells (resL r (.slice M r.mem.length m) (.slice U r.ws.length u)).toArray 34)).cell? ⟨w.heap.size, 2, none⟩ = some (.int .i64 i.a) := by go_simp
  have e3 : ((w.alloc (.cells #[.int .i64 i.op, .int .i64 i.d, .int .i64 i.a, .int .i64 i.b, .int .i64 i.imm] 44)).alloc (.cells (resL r (.slice M r.mem.length m) (.slice U r.ws.length u)).toArray 34)).cell? ⟨w.heap.size, 3, none⟩ = some (.int .i64 i.b) := by go_simp
  have e4 : ((w.alloc (.cells #[.int .i64 i.op, .int .i64 i.d, .int .i64 i.a, .int .i64 i.b, .int .i64 i.imm] 44)).alloc (.cells (resL r (.slice M r.mem.length m) (.slice U r.ws.length u)).toArray 34)).cell? ⟨w.heap.size, 4, none⟩ = some (.int .i64 i.imm) := by go_simp
  have BI0 : Hid (Box ((w.alloc (.cells #[.int .i64 i.op, .int .i64 i.d, .int .i64 i.a, .int .i64 i.b, .int .i64 i.imm] 44)).alloc (.cells (resL r (.slice M r.mem.length m) (.slice U r.ws.length u)).toArray 34)) w.heap.size [.int .i64 i.op, .int .i64 i.d, .int .i64 i.a, .int .i64 i.b, .int .i64 i.imm]) := (Box.new w [.int .i64 i.op, .int .i64 i.d, .int .i64 i.a, .int .i64 i.b, .int .i64 i.imm] 44).alloc _
  have B0 : Hid (Box ((w.alloc (.cells #[.int .i64 i.op, .int .i64 i.d, .int .i64 i.a, .int .i64 i.b, .int .i64 i.imm] 44)).alloc (.cells (resL r (.slice M r.mem.length m) (.slice U r.ws.length u)).toArray 34)) (w.heap.size + 1) (resL r (.slice M r.mem.length m) (.slice U r.ws.length u))) := by
    have := Box.new (w.alloc (.cells #[.int .i64 i.op, .int .i64 i.d, .int .i64 i.a, .int .i64 i.b, .int .i64 i.imm] 44)) (resL r (.slice M r.mem.length m) (.slice U r.ws.length u)) 34
    have e : (w.alloc (.cells #[.int .i64 i.op, .int .i64 i.d, .int .i64 i.a, .int .i64 i.b, .int .i64 i.imm] 44)).heap.size = w.heap.size + 1 := by simp
    rw [e] at this
    exact this
  have FR := Lib.hid fr
  have HZB := Lib.hid hzb
  clear hr fr hz hzb
  go_enter Try.func6, Try.ntmps6
  go_wp2_with fail
  generalize ((w.alloc (.cells #[.int .i64 i.op, .int .i64 i.d, .int .i64 i.a, .int .i64 i.b, .int .i64 i.imm] 44)).alloc (.cells (resL r (.slice M r.mem.length m) (.slice U r.ws.length u)).toArray 34)) = W0 at *
  have EF := Lib.hid (fun (x : World) (h : Below (w.heap.size + 2) W0 x) => And.intro (below_cell h (by omega) e0) (And.intro (below_cell h (by omega) e1) (And.intro (below_cell h (by omega) e2) (And.intro (below_cell h (by omega) e3) (below_cell h (by omega) e4)))))
  have HL := Lib.hid (fun (x : World) (h : Below (w.heap.size + 2) W0 x) => HB.out.trans (h.mono (by omega)))
  have BF := Lib.hid (fun (x : World) (h : Below (w.heap.size + 2) W0 x) => B0.out.below h (by omega))
  have BG := Lib.hid (fun (x : World) (h : Below (w.heap.size + 2) W0 x) => BI0.out.below h (by omega))
  clear e0 e1 e2 e3 e4
  refine (seqAlive_any _).mono ?_; rintro e w1 ⟨rfl, hb1⟩
  have k1 : Below (w.heap.size + 2) W0 w1 := hs ▸ hb1
  obtain ⟨e0, e1, e2, e3, e4⟩ := EF.out _ k1
  clear hb1
  go_wp2_with fail
  refine (rightIns_any i _).mono ?_; rintro e w2 ⟨rfl, hb2⟩
  rw [HRI.out]
  have k2 := k1.trans (hb2.mono (by have := k1.size; omega))
  clear hb2 e0 e1 e2 e3 e4 k1
  obtain ⟨e0, e1, e2, e3, e4⟩ := EF.out _ k2
  go_wp2_with fail
  go_ret
  exact ⟨rfl, HL.out _ k2⟩

set_option maxHeartbeats 1000000 in
theorem seqNought_form (i : Ins) (M U : Option Addr) (m u : Nat) (r : Res) (S : Option Addr) (n c : Nat) (zs : List Int) (w : World) (hr : ResV w w.heap.size (.slice M r.mem.length m) (.slice U r.ws.length u) r) (fr : r.Fits) (hz : Row w w.heap.size 1 (.slice S n c) n (zs.map (Value.int .u8))) (hzb : ∀ b ∈ zs, 0 ≤ b ∧ b ≤ 255) (hri : rightB i = true) (hf : 4 < formZ i.op) :
    Calls Try.prog 6 #[.agg #[.int .i64 i.op, .int .i64 i.d, .int .i64 i.a, .int .i64 i.b, .int .i64 i.imm], .agg (resL r (.slice M r.mem.length m) (.slice U r.ws.length u)).toArray, .slice S n c] w fun e w' => e = .returned (.bool true) ∧ Below w.heap.size w w' := by
  have HRI : Hid (rightB i = true) := hri
  clear hri
  obtain ⟨f, hff⟩ : ∃ f, f = formZ i.op := ⟨_, rfl⟩
  rw [← hff] at hf
  have HFO := Lib.hid hff
  clear hff
  obtain ⟨z1, z2⟩ := hz.cap
  have hzl : Hid (zs.length = n) := by have := hz.len; show _ = _; simpa using this
  have h16 := hr.regs
  have hs : ((w.alloc (.cells #[.int .i64 i.op, .int .i64 i.d, .int .i64 i.a, .int .i64 i.b, .int .i64 i.imm] 44)).alloc (.cells (resL r (.slice M r.mem.length m) (.slice U r.ws.length u)).toArray 34)).heap.size = w.heap.size + 2 := by simp
  have HB := Lib.hid (((Below.refl w.heap.size w).alloc (Nat.le_refl _) (.cells #[.int .i64 i.op, .int .i64 i.d, .int .i64 i.a, .int .i64 i.b, .int .i64 i.imm] 44)).alloc (by simp) (.cells (resL r (.slice M r.mem.length m) (.slice U r.ws.length u)).toArray 34))
  have HZ0 := Lib.hid (fun (x : World) (h : Below w.heap.size w x) => (hz.below h).more h.size)
  have e0 : ((w.alloc (.cells #[.int .i64 i.op, .int .i64 i.d, .int .i64 i.a, .int .i64 i.b, .int .i64 i.imm] 44)).alloc (.cells (resL r (.slice M r.mem.length m) (.slice U r.ws.length u)).toArray 34)).cell? ⟨w.heap.size, 0, none⟩ = some (.int .i64 i.op) := by go_simp
  have e1 : ((w.alloc (.cells #[.int .i64 i.op, .int .i64 i.d, .int .i64 i.a, .int .i64 i.b, .int .i64 i.imm] 44)).alloc (.cells (resL r (.slice M r.mem.length m) (.slice U r.ws.length u)).toArray 34)).cell? ⟨w.heap.size, 1, none⟩ = some (.int .i64 i.d) := by go_simp
  have e2 : ((w.alloc (.cells #[.int .i64 i.op, .int .i64 i.d, .int .i64 i.a, .int .i64 i.b, .int .i64 i.imm] 44)).alloc (.cells (resL r (.slice M r.mem.length m) (.slice U r.ws.length u)).toArray 34)).cell? ⟨w.heap.size, 2, none⟩ = some (.int .i64 i.a) := by go_simp
  have e3 : ((w.alloc (.cells #[.int .i64 i.op, .int .i64 i.d, .int .i64 i.a, .int .i64 i.b, .int .i64 i.imm] 44)).alloc (.cells (resL r (.slice M r.mem.length m) (.slice U r.ws.length u)).toArray 34)).cell? ⟨w.heap.size, 3, none⟩ = some (.int .i64 i.b) := by go_simp
  have e4 : ((w.alloc (.cells #[.int .i64 i.op, .int .i64 i.d, .int .i64 i.a, .int .i64 i.b, .int .i64 i.imm] 44)).alloc (.cells (resL r (.slice M r.mem.length m) (.slice U r.ws.length u)).toArray 34)).cell? ⟨w.heap.size, 4, none⟩ = some (.int .i64 i.imm) := by go_simp
  have BI0 : Hid (Box ((w.alloc (.cells #[.int .i64 i.op, .int .i64 i.d, .int .i64 i.a, .int .i64 i.b, .int .i64 i.imm] 44)).alloc (.cells (resL r (.slice M r.mem.length m) (.slice U r.ws.length u)).toArray 34)) w.heap.size [.int .i64 i.op, .int .i64 i.d, .int .i64 i.a, .int .i64 i.b, .int .i64 i.imm]) := (Box.new w [.int .i64 i.op, .int .i64 i.d, .int .i64 i.a, .int .i64 i.b, .int .i64 i.imm] 44).alloc _
  have B0 : Hid (Box ((w.alloc (.cells #[.int .i64 i.op, .int .i64 i.d, .int .i64 i.a, .int .i64 i.b, .int .i64 i.imm] 44)).alloc (.cells (resL r (.slice M r.mem.length m) (.slice U r.ws.length u)).toArray 34)) (w.heap.size + 1) (resL r (.slice M r.mem.length m) (.slice U r.ws.length u))) := by
    have := Box.new (w.alloc (.cells #[.int .i64 i.op, .int .i64 i.d, .int .i64 i.a, .int .i64 i.b, .int .i64 i.imm] 44)) (resL r (.slice M r.mem.length m) (.slice U r.ws.length u)) 34
    have e : (w.alloc (.cells #[.int .i64 i.op, .int .i64 i.d, .int .i64 i.a, .int .i64 i.b, .int .i64 i.imm] 44)).heap.size = w.heap.size + 1 := by simp
    rw [e] at this
    exact this
  have FR := Lib.hid fr
  have HZB := Lib.hid hzb
  clear hr fr hz hzb
  go_enter Try.func6, Try.ntmps6
  go_wp2_with fail
  generalize ((w.alloc (.cells #[.int .i64 i.op, .int .i64 i.d, .int .i64 i.a, .int .i64 i.b, .int .i64 i.imm] 44)).alloc (.cells (resL r (.slice M r.mem.length m) (.slice U r.ws.length u)).toArray 34)) = W0 at *
  have EF := Lib.hid (fun (x : World) (h : Below (w.heap.size + 2) W0 x) => And.intro (below_cell h (by omega) e0) (And.intro (below_cell h (by omega) e1) (And.intro (below_cell h (by omega) e2) (And.intro (below_cell h (by omega) e3) (below_cell h (by omega) e4)))))
  have HL := Lib.hid (fun (x : World) (h : Below (w.heap.size + 2) W0 x) => HB.out.trans (h.mono (by omega)))
  have BF := Lib.hid (fun (x : World) (h : Below (w.heap.size + 2) W0 x) => B0.out.below h (by omega))
  have BG := Lib.hid (fun (x : World) (h : Below (w.heap.size + 2) W0 x) => BI0.out.below h (by omega))
  clear e0 e1 e2 e3 e4
  refine (seqAlive_any _).mono ?_; rintro e w1 ⟨rfl, hb1⟩
  have k1 : Below (w.heap.size + 2) W0 w1 := hs ▸ hb1
  obtain ⟨e0, e1, e2, e3, e4⟩ := EF.out _ k1
  clear hb1
  go_wp2_with fail
  refine (rightIns_any i _).mono ?_; rintro e w2 ⟨rfl, hb2⟩
  rw [HRI.out]
  have k2 := k1.trans (hb2.mono (by have := k1.size; omega))
  clear hb2 e0 e1 e2 e3 e4 k1
  obtain ⟨e0, e1, e2, e3, e4⟩ := EF.out _ k2
  go_wp2_with fail
  refine (refForm_any i.op _).mono ?_; rintro e w3 ⟨rfl, rfl⟩
  rw [← HFO.out]
  go_wp2_with fail
  go_ret
  exact ⟨rfl, HL.out _ k2⟩

set_option maxHeartbeats 1000000 in
theorem seqNought_long (i : Ins) (M U : Option Addr) (m u : Nat) (r : Res) (S : Option Addr) (n c : Nat) (zs : List Int) (w : World) (hr : ResV w w.heap.size (.slice M r.mem.length m) (.slice U r.ws.length u) r) (fr : r.Fits) (hz : Row w w.heap.size 1 (.slice S n c) n (zs.map (Value.int .u8))) (hzb : ∀ b ∈ zs, 0 ≤ b ∧ b ≤ 255) (hri : rightB i = true) (hf : formZ i.op ≤ 4) (hn : 200 < (n : Int)) :
    Calls Try.prog 6 #[.agg #[.int .i64 i.op, .int .i64 i.d, .int .i64 i.a, .int .i64 i.b, .int .i64 i.imm], .agg (resL r (.slice M r.mem.length m) (.slice U r.ws.length u)).toArray, .slice S n c] w fun e w' => e = .returned (.bool true) ∧ Below w.heap.size w w' := by
  have HRI : Hid (rightB i = true) := hri
  clear hri
  obtain ⟨f, hff⟩ : ∃ f, f = formZ i.op := ⟨_, rfl⟩
  rw [← hff] at hf
  have HFO := Lib.hid hff
  clear hff
  obtain ⟨z1, z2⟩ := hz.cap
  have hzl : Hid (zs.length = n) := by have := hz.len; show _ = _; simpa using this
  have h16 := hr.regs
  have hs : ((w.alloc (.cells #[.int .i64 i.op, .int .i64 i.d, .int .i64 i.a, .int .i64 i.b, .int .i64 i.imm] 44)).alloc (.cells (resL r (.slice M r.mem.length m) (.slice U r.ws.length u)).toArray 34)).heap.size = w.heap.size + 2 := by simp
  have HB := Lib.hid (((Below.refl w.heap.size w).alloc (Nat.le_refl _) (.cells #[.int .i64 i.op, .int .i64 i.d, .int .i64 i.a, .int .i64 i.b, .int .i64 i.imm] 44)).alloc (by simp) (.cells (resL r (.slice M r.mem.length m) (.slice U r.ws.length u)).toArray 34))
  have HZ0 := Lib.hid (fun (x : World) (h : Below w.heap.size w x) => (hz.below h).more h.size)
  have e0 : ((w.alloc (.cells #[.int .i64 i.op, .int .i64 i.d, .int .i64 i.a, .int .i64 i.b, .int .i64 i.imm] 44)).alloc (.cells (resL r (.slice M r.mem.length m) (.slice U r.ws.length u)).toArray 34)).cell? ⟨w.heap.size, 0, none⟩ = some (.int .i64 i.op) := by go_simp
  have e1 : ((w.alloc (.cells #[.int .i64 i.op, .int .i64 i.d, .int .i64 i.a, .int .i64 i.b, .int .i64 i.imm] 44)).alloc (.cells (resL r (.slice M r.mem.length m) (.slice U r.ws.length u)).toArray 34)).cell? ⟨w.heap.size, 1, none⟩ = some (.int .i64 i.d) := by go_simp
  have e2 : ((w.alloc (.cells #[.int .i64 i.op, .int .i64 i.d, .int .i64 i.a, .int .i64 i.b, .int .i64 i.imm] 44)).alloc (.cells (resL r (.slice M r.mem.length m) (.slice U r.ws.length u)).toArray 34)).cell? ⟨w.heap.size, 2, none⟩ = some (.int .i64 i.a) := by go_simp
  have e3 : ((w.alloc (.cells #[.int .i64 i.op, .int .i64 i.d, .int .i64 i.a, .int .i64 i.b, .int .i64 i.imm] 44)).alloc (.cells (resL r (.slice M r.mem.length m) (.slice U r.ws.length u)).toArray 34)).cell? ⟨w.heap.size, 3, none⟩ = some (.int .i64 i.b) := by go_simp
  have e4 : ((w.alloc (.cells #[.int .i64 i.op, .int .i64 i.d, .int .i64 i.a, .int .i64 i.b, .int .i64 i.imm] 44)).alloc (.cells (resL r (.slice M r.mem.length m) (.slice U r.ws.length u)).toArray 34)).cell? ⟨w.heap.size, 4, none⟩ = some (.int .i64 i.imm) := by go_simp
  have BI0 : Hid (Box ((w.alloc (.cells #[.int .i64 i.op, .int .i64 i.d, .int .i64 i.a, .int .i64 i.b, .int .i64 i.imm] 44)).alloc (.cells (resL r (.slice M r.mem.length m) (.slice U r.ws.length u)).toArray 34)) w.heap.size [.int .i64 i.op, .int .i64 i.d, .int .i64 i.a, .int .i64 i.b, .int .i64 i.imm]) := (Box.new w [.int .i64 i.op, .int .i64 i.d, .int .i64 i.a, .int .i64 i.b, .int .i64 i.imm] 44).alloc _
  have B0 : Hid (Box ((w.alloc (.cells #[.int .i64 i.op, .int .i64 i.d, .int .i64 i.a, .int .i64 i.b, .int .i64 i.imm] 44)).alloc (.cells (resL r (.slice M r.mem.length m) (.slice U r.ws.length u)).toArray 34)) (w.heap.size + 1) (resL r (.slice M r.mem.length m) (.slice U r.ws.length u))) := by
    have := Box.new (w.alloc (.cells #[.int .i64 i.op, .int .i64 i.d, .int .i64 i.a, .int .i64 i.b, .int .i64 i.imm] 44)) (resL r (.slice M r.mem.length m) (.slice U r.ws.length u)) 34
    have e : (w.alloc (.cells #[.int .i64 i.op, .int .i64 i.d, .int .i64 i.a, .int .i64 i.b, .int .i64 i.imm] 44)).heap.size = w.heap.size + 1 := by simp
    rw [e] at this
    exact this
  have FR := Lib.hid fr
  have HZB := Lib.hid hzb
  clear hr fr hz hzb
  go_enter Try.func6, Try.ntmps6
  go_wp2_with fail
  generalize ((w.alloc (.cells #[.int .i64 i.op, .int .i64 i.d, .int .i64 i.a, .int .i64 i.b, .int .i64 i.imm] 44)).alloc (.cells (resL r (.slice M r.mem.length m) (.slice U r.ws.length u)).toArray 34)) = W0 at *
  have EF := Lib.hid (fun (x : World) (h : Below (w.heap.size + 2) W0 x) => And.intro (below_cell h (by omega) e0) (And.intro (below_cell h (by omega) e1) (And.intro (below_cell h (by omega) e2) (And.intro (below_cell h (by omega) e3) (below_cell h (by omega) e4)))))
  have HL := Lib.hid (fun (x : World) (h : Below (w.heap.size + 2) W0 x) => HB.out.trans (h.mono (by omega)))
  have BF := Lib.hid (fun (x : World) (h : Below (w.heap.size + 2) W0 x) => B0.out.below h (by omega))
  have BG := Lib.hid (fun (x : World) (h : Below (w.heap.size + 2) W0 x) => BI0.out.below h (by omega))
  clear e0 e1 e2 e3 e4
  refine (seqAlive_any _).mono ?_; rintro e w1 ⟨rfl, hb1⟩
  have k1 : Below (w.heap.size + 2) W0 w1 := hs ▸ hb1
  obtain ⟨e0, e1, e2, e3, e4⟩ := EF.out _ k1
  clear hb1
  go_wp2_with fail
  refine (rightIns_any i _).mono ?_; rintro e w2 ⟨rfl, hb2⟩
  rw [HRI.out]
  have k2 := k1.trans (hb2.mono (by have := k1.size; omega))
  clear hb2 e0 e1 e2 e3 e4 k1
  obtain ⟨e0, e1, e2, e3, e4⟩ := EF.out _ k2
  go_wp2_with fail
  refine (refForm_any i.op _).mono ?_; rintro e w3 ⟨rfl, rfl⟩
  rw [← HFO.out]
  go_wp2_with fail
  go_ret
  exact ⟨rfl, HL.out _ k2⟩

set_option maxHeartbeats 2000000 in
theorem seqNought_in (i : Ins) (M U : Option Addr) (m u : Nat) (r : Res) (S : Option Addr) (n c : Nat) (zs : List Int) (w : World) (hr : ResV w w.heap.size (.slice M r.mem.length m) (.slice U r.ws.length u) r) (fr : r.Fits) (hz : Row w w.heap.size 1 (.slice S n c) n (zs.map (Value.int .u8))) (hzb : ∀ b ∈ zs, 0 ≤ b ∧ b ≤ 255) (hri : rightB i = true) (hf : formZ i.op ≤ 4) (hn : (n : Int) ≤ 200) :
    Calls Try.prog 6 #[.agg #[.int .i64 i.op, .int .i64 i.d, .int .i64 i.a, .int .i64 i.b, .int .i64 i.imm], .agg (resL r (.slice M r.mem.length m) (.slice U r.ws.length u)).toArray, .slice S n c] w fun e w' => e = .returned (.bool true) ∧ Below w.heap.size w w' := by
  have HNS := Lib.hid (fun (h : zs.length ≤ 200) => nought_step (r := r) hri hf h)
  have HRI : Hid (rightB i = true) := hri
  clear hri
  obtain ⟨f, hff⟩ : ∃ f, f = formZ i.op := ⟨_, rfl⟩
  rw [← hff] at hf
  have HFO := Lib.hid hff
  clear hff
  obtain ⟨z1, z2⟩ := hz.cap
  have hzl : Hid (zs.length = n) := by have := hz.len; show _ = _; simpa using this
  have h16 := hr.regs
  have hs : ((w.alloc (.cells #[.int .i64 i.op, .int .i64 i.d, .int .i64 i.a, .int .i64 i.b, .int .i64 i.imm] 44)).alloc (.cells (resL r (.slice M r.mem.length m) (.slice U r.ws.length u)).toArray 34)).heap.size = w.heap.size + 2 := by simp
  have HB := Lib.hid (((Below.refl w.heap.size w).alloc (Nat.le_refl _) (.cells #[.int .i64 i.op, .int .i64 i.d, .int .i64 i.a, .int .i64 i.b, .int .i64 i.imm] 44)).alloc (by simp) (.cells (resL r (.slice M r.mem.length m) (.slice U r.ws.length u)).toArray 34))
  have HZ0 := Lib.hid (fun (x : World) (h : Below w.heap.size w x) => (hz.below h).more h.size)
  have e0 : ((w.alloc (.cells #[.int .i64 i.op, .int .i64 i.d, .int .i64 i.a, .int .i64 i.b, .int .i64 i.imm] 44)).alloc (.cells (resL r (.slice M r.mem.length m) (.slice U r.ws.length u)).toArray 34)).cell? ⟨w.heap.size, 0, none⟩ = some (.int .i64 i.op) := by go_simp
  have e1 : ((w.alloc (.cells #[.int .i64 i.op, .int .i64 i.d, .int .i64 i.a, .int .i64 i.b, .int .i64 i.imm] 44)).alloc (.cells (resL r (.slice M r.mem.length m) (.slice U r.ws.length u)).toArray 34)).cell? ⟨w.heap.size, 1, none⟩ = some (.int .i64 i.d) := by go_simp
  have e2 : ((w.alloc (.cells #[.int .i64 i.op, .int .i64 i.d, .int .i64 i.a, .int .i64 i.b, .int .i64 i.imm] 44)).alloc (.cells (resL r (.slice M r.mem.length m) (.slice U r.ws.length u)).toArray 34)).cell? ⟨w.heap.size, 2, none⟩ = some (.int .i64 i.a) := by go_simp
  have e3 : ((w.alloc (.cells #[.int .i64 i.op, .int .i64 i.d, .int .i64 i.a, .int .i64 i.b, .int .i64 i.imm] 44)).alloc (.cells (resL r (.slice M r.mem.length m) (.slice U r.ws.length u)).toArray 34)).cell? ⟨w.heap.size, 3, none⟩ = some (.int .i64 i.b) := by go_simp
  have e4 : ((w.alloc (.cells #[.int .i64 i.op, .int .i64 i.d, .int .i64 i.a, .int .i64 i.b, .int .i64 i.imm] 44)).alloc (.cells (resL r (.slice M r.mem.length m) (.slice U r.ws.length u)).toArray 34)).cell? ⟨w.heap.size, 4, none⟩ = some (.int .i64 i.imm) := by go_simp
  have BI0 : Hid (Box ((w.alloc (.cells #[.int .i64 i.op, .int .i64 i.d, .int .i64 i.a, .int .i64 i.b, .int .i64 i.imm] 44)).alloc (.cells (resL r (.slice M r.mem.length m) (.slice U r.ws.length u)).toArray 34)) w.heap.size [.int .i64 i.op, .int .i64 i.d, .int .i64 i.a, .int .i64 i.b, .int .i64 i.imm]) := (Box.new w [.int .i64 i.op, .int .i64 i.d, .int .i64 i.a, .int .i64 i.b, .int .i64 i.imm] 44).alloc _
  have B0 : Hid (Box ((w.alloc (.cells #[.int .i64 i.op, .int .i64 i.d, .int .i64 i.a, .int .i64 i.b, .int .i64 i.imm] 44)).alloc (.cells (resL r (.slice M r.mem.length m) (.slice U r.ws.length u)).toArray 34)) (w.heap.size + 1) (resL r (.slice M r.mem.length m) (.slice U r.ws.length u))) := by
    have := Box.new (w.alloc (.cells #[.int .i64 i.op, .int .i64 i.d, .int .i64 i.a, .int .i64 i.b, .int .i64 i.imm] 44)) (resL r (.slice M r.mem.length m) (.slice U r.ws.length u)) 34
    have e : (w.alloc (.cells #[.int .i64 i.op, .int .i64 i.d, .int .i64 i.a, .int .i64 i.b, .int .i64 i.imm] 44)).heap.size = w.heap.size + 1 := by simp
    rw [e] at this
    exact this
  have FR := Lib.hid fr
  have HZB := Lib.hid hzb
  clear hr fr hz hzb
  go_enter Try.func6, Try.ntmps6
  go_wp2_with fail
  generalize ((w.alloc (.cells #[.int .i64 i.op, .int .i64 i.d, .int .i64 i.a, .int .i64 i.b, .int .i64 i.imm] 44)).alloc (.cells (resL r (.slice M r.mem.length m) (.slice U r.ws.length u)).toArray 34)) = W0 at *
  have EF := Lib.hid (fun (x : World) (h : Below (w.heap.size + 2) W0 x) => And.intro (below_cell h (by omega) e0) (And.intro (below_cell h (by omega) e1) (And.intro (below_cell h (by omega) e2) (And.intro (below_cell h (by omega) e3) (below_cell h (by omega) e4)))))
  have HL := Lib.hid (fun (x : World) (h : Below (w.heap.size + 2) W0 x) => HB.out.trans (h.mono (by omega)))
  have BF := Lib.hid (fun (x : World) (h : Below (w.heap.size + 2) W0 x) => B0.out.below h (by omega))
  have BG := Lib.hid (fun (x : World) (h : Below (w.heap.size + 2) W0 x) => BI0.out.below h (by omega))
  clear e0 e1 e2 e3 e4
  refine (seqAlive_any _).mono ?_; rintro e w1 ⟨rfl, hb1⟩
  have k1 : Below (w.heap.size + 2) W0 w1 := hs ▸ hb1
  obtain ⟨e0, e1, e2, e3, e4⟩ := EF.out _ k1
  clear hb1
  go_wp2_with fail
  refine (rightIns_any i _).mono ?_; rintro e w2 ⟨rfl, hb2⟩
  rw [HRI.out]
  have k2 := k1.trans (hb2.mono (by have := k1.size; omega))
  clear hb2 e0 e1 e2 e3 e4 k1
  obtain ⟨e0, e1, e2, e3, e4⟩ := EF.out _ k2
  go_wp2_with fail
  refine (refForm_any i.op _).mono ?_; rintro e w3 ⟨rfl, rfl⟩
  rw [← HFO.out]
  obtain ⟨i0, hi, hz0, hz1, hz2⟩ := info_parts info_u8
  have HZ2 := Lib.hid hz2
  clear hz2
  have BR2 := Lib.hid (BF.out _ k2)
  have BI2 := Lib.hid (BG.out _ k2)
  have K2 := Lib.hid k2
  have f1 := BI2.out.frozen 1
  have r0 := BR2.out.cell resL_0
  have g0 := BR2.out.frozen 0
  have r21 := BR2.out.cell (resL_21 h16)
  have g21 := BR2.out.frozen 21
  have r22 := BR2.out.cell (resL_22 h16)
  have g22 := BR2.out.frozen 22
  have BI3 : Hid (Box (w2.setCell ⟨w.heap.size, 1, none⟩ (.int .i64 0)) w.heap.size [.int .i64 i.op, .int .i64 0, .int .i64 i.a, .int .i64 i.b, .int .i64 i.imm]) := BI2.out.setCell 1 (.int .i64 0)
  have BI4 := Lib.hid (BI3.out.setCell_other (show w.heap.size ≠ w.heap.size + 1 by omega) 0 (.int .i64 0))
  have BR4 : Hid (Box ((w2.setCell ⟨w.heap.size, 1, none⟩ (.int .i64 0)).setCell ⟨w.heap.size + 1, 0, none⟩ (.int .i64 0)) (w.heap.size + 1) (resL { r with e := 0 } (.slice M r.mem.length m) (.slice U r.ws.length u))) := by
    have := (BR2.out.setCell_other (show w.heap.size + 1 ≠ w.heap.size by omega) 1 (.int .i64 0)).setCell 0 (.int .i64 0)
    rwa [resL_set0] at this
  have HL4 := Lib.hid (show Below w.heap.size w ((w2.setCell ⟨w.heap.size, 1, none⟩ (.int .i64 0)).setCell ⟨w.heap.size + 1, 0, none⟩ (.int .i64 0)) from Below.setCell (Below.setCell (HL.out _ K2.out) (Nat.le_refl _) _) (Nat.le_succ _) _)
  have hw2 : w.heap.size + 2 ≤ w2.heap.size := by have := K2.out.size; omega
  go_wp2_with (first
    | (at_builtin; refine wpList_append_row _ rfl (.const (.slice none 0 0)) (.tmp 34) 23 rfl (w.heap.size + 2) 5 i0 (.int .u8 0) 1 1 Try.underlying23 hi hz0 hz1 HZ2.out rfl (by omega) (.slice none 0 0) 0 [] rfl (World.ownsRow_nil _ _ _ _) _ (.slice S n c) n _ rfl (HZ0.out _ HL4.out) (u8_one _) (by unfold maxLen; omega) (by omega) (by simp [World.setCell]; omega) ?_; intro v1 wA hownA hgA; simp only [Nat.zero_add, List.nil_append] at hownA; obtain ⟨A1, c1, rfl⟩ := (Row.of_own hownA).form; have OA := Lib.hid hownA; have BIa := Lib.hid (BI4.out.grown hgA (fun h => by cases h)); have BRa := Lib.hid (BR4.out.grown hgA (fun h => by cases h)); have HLa := Lib.hid (Below.grown HL4.out hgA HL4.out.size (fun k hk => by cases hk)); have hwa : w.heap.size + 2 ≤ wA.heap.size := (by have := hgA.size; simp [World.setCell] at this; omega); have d21 := BRa.out.cell (resL_21 h16); have d22 := BRa.out.cell (resL_22 h16); have k21 := BRa.out.frozen 21; have k22 := BRa.out.frozen 22; have q0 : wA.cell? ⟨w.heap.size, 0, none⟩ = some (.int .i64 i.op) := BIa.out.cell rfl; have q1 : wA.cell? ⟨w.heap.size, 1, none⟩ = some (.int .i64 0) := BIa.out.cell rfl; have q2 : wA.cell? ⟨w.heap.size, 2, none⟩ = some (.int .i64 i.a) := BIa.out.cell rfl; have q3 : wA.cell? ⟨w.heap.size, 3, none⟩ = some (.int .i64 i.b) := BIa.out.cell rfl; have q4 : wA.cell? ⟨w.heap.size, 4, none⟩ = some (.int .i64 i.imm) := BIa.out.cell rfl; clear hownA hgA e0 e1 e2 e3 e4 r0 g0 r21 g21 r22 g22 f1)
    | (refine wpList_load_box rfl 31 (.tmp 44) rfl (w.heap.size + 1) 5 rfl (resL (noughtR r zs) (.slice A1 n c1) (.slice none 0 0)) (r.regs.map (Value.int .u32)) (((nought_box (zs := zs) BRa.out h16 (.slice A1 n c1)).alloc (.cells #[.int .i64 i.op, .int .i64 0, .int .i64 i.a, .int .i64 i.b, .int .i64 i.imm, .int .i64 41, .int .i64 0, .int .i64 0, .int .i64 0, .int .i64 0] 44)).alloc (.cells #[.slice (some ⟨wA.heap.size, 0, none⟩) 2 2, .int .i64 (n : Int), .slice none 0 0] 25)) (resL_regs (r := (noughtR r zs)) h16) _ Try.underlying31 rfl 16 (by kernel_rfl) (by simp [h16]) ?_; have hx5 : ((wA.setCell ⟨w.heap.size + 1, 21, none⟩ (.slice A1 n c1)).setCell ⟨w.heap.size + 1, 22, none⟩ (.slice none 0 0)).heap.size = wA.heap.size := (by simp [World.setCell]); have hx7 : ((((wA.setCell ⟨w.heap.size + 1, 21, none⟩ (.slice A1 n c1)).setCell ⟨w.heap.size + 1, 22, none⟩ (.slice none 0 0)).alloc (.cells #[.int .i64 i.op, .int .i64 0, .int .i64 i.a, .int .i64 i.b, .int .i64 i.imm, .int .i64 41, .int .i64 0, .int .i64 0, .int .i64 0, .int .i64 0] 44)).alloc (.cells #[.slice (some ⟨wA.heap.size, 0, none⟩) 2 2, .int .i64 (n : Int), .slice none 0 0] 25)).heap.size = wA.heap.size + 1 + 1 := (by simp [World.setCell]); have BRx5 := nought_box (zs := zs) BRa.out h16 (.slice A1 n c1); have BRx := Lib.hid ((BRx5.alloc (.cells #[.int .i64 i.op, .int .i64 0, .int .i64 i.a, .int .i64 i.b, .int .i64 i.imm, .int .i64 41, .int .i64 0, .int .i64 0, .int .i64 0, .int .i64 0] 44)).alloc (.cells #[.slice (some ⟨wA.heap.size, 0, none⟩) 2 2, .int .i64 (n : Int), .slice none 0 0] 25)); have HLx5 : Below w.heap.size w ((wA.setCell ⟨w.heap.size + 1, 21, none⟩ (.slice A1 n c1)).setCell ⟨w.heap.size + 1, 22, none⟩ (.slice none 0 0)) := Below.setCell (Below.setCell HLa.out (Nat.le_succ _) _) (Nat.le_succ _) _; have HLx := Lib.hid ((HLx5.alloc (by rw [hx5]; omega) (.cells #[.int .i64 i.op, .int .i64 0, .int .i64 i.a, .int .i64 i.b, .int .i64 i.imm, .int .i64 41, .int .i64 0, .int .i64 0, .int .i64 0, .int .i64 0] 44)).alloc (by simp [World.setCell]; omega) (.cells #[.slice (some ⟨wA.heap.size, 0, none⟩) 2 2, .int .i64 (n : Int), .slice none 0 0] 25)); have OAx := Lib.hid ((((ownsRow_setCell_below (ownsRow_setCell_below OA.out (a := ⟨w.heap.size + 1, 21, none⟩) (show w.heap.size + 1 < w.heap.size + 2 by omega) (.slice A1 n c1)) (a := ⟨w.heap.size + 1, 22, none⟩) (show w.heap.size + 1 < w.heap.size + 2 by omega) (.slice none 0 0)).alloc (.cells #[.int .i64 i.op, .int .i64 0, .int .i64 i.a, .int .i64 i.b, .int .i64 i.imm, .int .i64 41, .int .i64 0, .int .i64 0, .int .i64 0, .int .i64 0] 44)).alloc (.cells #[.slice (some ⟨wA.heap.size, 0, none⟩) 2 2, .int .i64 (n : Int), .slice none 0 0] 25))); have PVx : Hid (Row ((((wA.setCell ⟨w.heap.size + 1, 21, none⟩ (.slice A1 n c1)).setCell ⟨w.heap.size + 1, 22, none⟩ (.slice none 0 0)).alloc (.cells #[.int .i64 i.op, .int .i64 0, .int .i64 i.a, .int .i64 i.b, .int .i64 i.imm, .int .i64 41, .int .i64 0, .int .i64 0, .int .i64 0, .int .i64 0] 44)).alloc (.cells #[.slice (some ⟨wA.heap.size, 0, none⟩) 2 2, .int .i64 (n : Int), .slice none 0 0] 25)) ((((wA.setCell ⟨w.heap.size + 1, 21, none⟩ (.slice A1 n c1)).setCell ⟨w.heap.size + 1, 22, none⟩ (.slice none 0 0)).alloc (.cells #[.int .i64 i.op, .int .i64 0, .int .i64 i.a, .int .i64 i.b, .int .i64 i.imm, .int .i64 41, .int .i64 0, .int .i64 0, .int .i64 0, .int .i64 0] 44)).alloc (.cells #[.slice (some ⟨wA.heap.size, 0, none⟩) 2 2, .int .i64 (n : Int), .slice none 0 0] 25)).heap.size 5 (.slice (some ⟨wA.heap.size, 0, none⟩) 2 2) 2 (codeCells (noughtP i n).code)) := (by refine ⟨rfl, _, _, rfl, Nat.le_refl _, by omega, (fun h => by cases h), fun _ => ⟨wA.heap.size, 0, rfl, by rw [hx7]; omega, fun j u hu => ?_⟩⟩; have hh := new_cells ((wA.setCell ⟨w.heap.size + 1, 21, none⟩ (.slice A1 n c1)).setCell ⟨w.heap.size + 1, 22, none⟩ (.slice none 0 0)) #[.int .i64 i.op, .int .i64 0, .int .i64 i.a, .int .i64 i.b, .int .i64 i.imm, .int .i64 41, .int .i64 0, .int .i64 0, .int .i64 0, .int .i64 0] 44 (codeCells (noughtP i n).code) rfl j u hu; rw [hx5, add_spot] at hh; exact one_cell (by simp [World.setCell]) hh); have p0 : ((((wA.setCell ⟨w.heap.size + 1, 21, none⟩ (.slice A1 n c1)).setCell ⟨w.heap.size + 1, 22, none⟩ (.slice none 0 0)).alloc (.cells #[.int .i64 i.op, .int .i64 0, .int .i64 i.a, .int .i64 i.b, .int .i64 i.imm, .int .i64 41, .int .i64 0, .int .i64 0, .int .i64 0, .int .i64 0] 44)).alloc (.cells #[.slice (some ⟨wA.heap.size, 0, none⟩) 2 2, .int .i64 (n : Int), .slice none 0 0] 25)).cell? ⟨wA.heap.size + 1, 0, none⟩ = some (.slice (some ⟨wA.heap.size, 0, none⟩) 2 2) := (by go_simp); have p1 : ((((wA.setCell ⟨w.heap.size + 1, 21, none⟩ (.slice A1 n c1)).setCell ⟨w.heap.size + 1, 22, none⟩ (.slice none 0 0)).alloc (.cells #[.int .i64 i.op, .int .i64 0, .int .i64 i.a, .int .i64 i.b, .int .i64 i.imm, .int .i64 41, .int .i64 0, .int .i64 0, .int .i64 0, .int .i64 0] 44)).alloc (.cells #[.slice (some ⟨wA.heap.size, 0, none⟩) 2 2, .int .i64 (n : Int), .slice none 0 0] 25)).cell? ⟨wA.heap.size + 1, 1, none⟩ = some (.int .i64 (n : Int)) := (by go_simp); have p2 : ((((wA.setCell ⟨w.heap.size + 1, 21, none⟩ (.slice A1 n c1)).setCell ⟨w.heap.size + 1, 22, none⟩ (.slice none 0 0)).alloc (.cells #[.int .i64 i.op, .int .i64 0, .int .i64 i.a, .int .i64 i.b, .int .i64 i.imm, .int .i64 41, .int .i64 0, .int .i64 0, .int .i64 0, .int .i64 0] 44)).alloc (.cells #[.slice (some ⟨wA.heap.size, 0, none⟩) 2 2, .int .i64 (n : Int), .slice none 0 0] 25)).cell? ⟨wA.heap.size + 1, 2, none⟩ = some (.slice none 0 0) := (by go_simp); have HX7 := Lib.hid hx7; clear hx5 BRx5 HLx5 hx7 q0 q1 q2 q3 q4 d21 d22 k21 k22; generalize ((((wA.setCell ⟨w.heap.size + 1, 21, none⟩ (.slice A1 n c1)).setCell ⟨w.heap.size + 1, 22, none⟩ (.slice none 0 0)).alloc (.cells #[.int .i64 i.op, .int .i64 0, .int .i64 i.a, .int .i64 i.b, .int .i64 i.imm, .int .i64 41, .int .i64 0, .int .i64 0, .int .i64 0, .int .i64 0] 44)).alloc (.cells #[.slice (some ⟨wA.heap.size, 0, none⟩) 2 2, .int .i64 (n : Int), .slice none 0 0] 25)) = wX at *; have BN := Lib.hid (Box.new wX [.int .u32 0, .int .u32 0, .int .u32 0, .int .u32 0, .int .u32 0, .int .u32 0, .int .u32 0, .int .u32 0, .int .u32 0, .int .u32 0, .int .u32 0, .int .u32 0, .int .u32 0, .int .u32 0, .int .u32 0, .int .u32 0] 31))
    | (refine wpList_store_box rfl 31 (.tmp 9) (.tmp 45) rfl wX.heap.size 0 (r.regs.map (Value.int .u32)) rfl rfl [.int .u32 0, .int .u32 0, .int .u32 0, .int .u32 0, .int .u32 0, .int .u32 0, .int .u32 0, .int .u32 0, .int .u32 0, .int .u32 0, .int .u32 0, .int .u32 0, .int .u32 0, .int .u32 0, .int .u32 0, .int .u32 0] BN.out (by simp [h16]) 16 (by kernel_rfl) (by simp [h16]) (regs_one r.regs) ?_; intro wB hBB hgB; rw [splice_whole _ _ (by simp [h16])] at hBB; have BB := Lib.hid hBB; have hnR : some (w.heap.size + 1) ≠ some wX.heap.size := (fun h => (by injection h with h; have := HX7.out; omega)); have BRB := Lib.hid ((BRx.out.alloc (.cells #[.int .u32 0, .int .u32 0, .int .u32 0, .int .u32 0, .int .u32 0, .int .u32 0, .int .u32 0, .int .u32 0, .int .u32 0, .int .u32 0, .int .u32 0, .int .u32 0, .int .u32 0, .int .u32 0, .int .u32 0, .int .u32 0] 31)).grown hgB hnR); have LBB := Lib.hid (Below.grown ((Below.refl wX.heap.size wX).alloc (Nat.le_refl _) (.cells #[.int .u32 0, .int .u32 0, .int .u32 0, .int .u32 0, .int .u32 0, .int .u32 0, .int .u32 0, .int .u32 0, .int .u32 0, .int .u32 0, .int .u32 0, .int .u32 0, .int .u32 0, .int .u32 0, .int .u32 0, .int .u32 0] 31)) hgB (by simp) (fun k hk => (by injection hk with hk; have := HX7.out; omega))); have HLB := Lib.hid (HLx.out.trans (LBB.out.mono HLx.out.size)); have OAB := Lib.hid (own_below OAx.out LBB.out); have PVB := Lib.hid ((PVx.out.below LBB.out).more LBB.out.size); have s0 : wB.cell? ⟨wA.heap.size + 1, 0, none⟩ = some (.slice (some ⟨wA.heap.size, 0, none⟩) 2 2) := below_cell LBB.out (by have := HX7.out; omega) p0; have s1 : wB.cell? ⟨wA.heap.size + 1, 1, none⟩ = some (.int .i64 (n : Int)) := below_cell LBB.out (by have := HX7.out; omega) p1; have s2 : wB.cell? ⟨wA.heap.size + 1, 2, none⟩ = some (.slice none 0 0) := below_cell LBB.out (by have := HX7.out; omega) p2; clear hBB hgB hnR BN BRx OAx PVx p0 p1 p2)
    | (refine wpList_load_box rfl 34 (.tmp 4) rfl (w.heap.size + 1) 0 rfl (resL (noughtR r zs) (.slice A1 n c1) (.slice none 0 0)) (resL (noughtR r zs) (.slice A1 n c1) (.slice none 0 0)) BRB.out (fun j v hv => by rw [Nat.zero_add]; exact hv) _ Try.underlying34 rfl 23 info_res (resL_len (r := (noughtR r zs)) h16) ?_))
  have hzn := hzl.out
  subst hzn
  have hzs : zs.length ≤ 200 := by omega
  obtain ⟨n1, n2, n3⟩ := HNS.out hzs
  have PVs : ProgV wB wB.heap.size (.slice (some ⟨wA.heap.size, 0, none⟩) (noughtP i zs.length).code.length 2) (.slice none (noughtP i zs.length).data.length 0) (noughtP i zs.length) := ⟨PVB.out, Row.nil _ _ _⟩
  have RVs : ResV wB wB.heap.size (.slice A1 (noughtR r zs).mem.length c1) (.slice none (noughtR r zs).ws.length 0) (noughtR r zs) := ⟨Row.of_own OAB.out, Row.nil _ _ _, h16⟩
  have FRs : (noughtR r zs).Fits := ⟨by show _ ≤ (0 : Int) ∧ (0 : Int) ≤ _; omega, FR.out.2.1, FR.out.2.2.1, FR.out.2.2.2.1, FR.out.2.2.2.2.1, FR.out.2.2.2.2.2.1, HZB.out, by intro x hx; cases hx⟩
  refine (seqStep_any (some ⟨wA.heap.size, 0, none⟩) none 2 0 (noughtP i zs.length) A1 none c1 0 (noughtR r zs) wB 0 PVs RVs (by show zs.length ≤ _; omega) (by show 0 ≤ _; omega) FRs).mono ?_
  rintro e wC ⟨vm5, vw5, rfl, hO5, hb5⟩
  generalize hX : stepZ (noughtP i zs.length) (noughtR r zs) 0 = X at *
  clear hX
  obtain ⟨X1, X2⟩ := X
  dsimp only at n1 n2 n3 hO5 ⊢
  have N5 := Lib.hid hO5.regs
  have HREG := Lib.hid n1
  have HWS : Hid (X1.ws.length = 0) := by show _ = _; rw [n2]; rfl
  obtain ⟨M5, m5, rfl⟩ := (Row.of_own hO5.mem).form
  obtain ⟨U5, u5, rfl⟩ := (Row.of_own hO5.ws).form
  have hlb : wX.heap.size < wB.heap.size := BB.out.lt
  have BBC := Lib.hid (BB.out.below hb5 hlb)
  have HLC := Lib.hid (HLB.out.trans (hb5.mono HLB.out.size))
  have hlc : wX.heap.size < wC.heap.size := BBC.out.lt
  have BNC := Lib.hid (Box.new wC (resL noRes (.slice none 0 0) (.slice none 0 0)) 34)
  clear hn hzs z1 z2 hw2 hwa n1 n2 hO5 hb5 PVs RVs FRs HNS s0 s1 s2
  rcases n3 with ⟨he, hp⟩ | ⟨he, hp⟩
  all_goals
    subst hp
    have HE := Lib.hid he
    clear he
    go_wp2_with (first
      | (refine wpList_store_box rfl 34 (.tmp 10) (.tmp 50) rfl wC.heap.size 0 (resL X1 (.slice M5 X1.mem.length m5) (.slice U5 X1.ws.length u5)) rfl rfl (resL noRes (.slice none 0 0) (.slice none 0 0)) BNC.out (by rw [resL_len N5.out, resL_len rfl]; exact Nat.le_refl _) 23 info_res (resL_len N5.out) (resL_one rfl rfl) ?_; intro wD hBD hgD; rw [splice_whole _ _ (by rw [resL_len N5.out, resL_len rfl])] at hBD; have BD := Lib.hid hBD; have hnD : some wX.heap.size ≠ some wC.heap.size := (fun h => (by injection h with h; omega)); have BBD := Lib.hid ((BBC.out.alloc (.cells #[.int .i64 0, .int .i64 0, .int .i64 0, .int .i64 0, .int .i64 0, .int .u32 0, .int .u32 0, .int .u32 0, .int .u32 0, .int .u32 0, .int .u32 0, .int .u32 0, .int .u32 0, .int .u32 0, .int .u32 0, .int .u32 0, .int .u32 0, .int .u32 0, .int .u32 0, .int .u32 0, .int .u32 0, .slice none 0 0, .slice none 0 0] 34)).grown hgD hnD); have HLD := Lib.hid (Below.grown (HLC.out.alloc HLC.out.size (.cells #[.int .i64 0, .int .i64 0, .int .i64 0, .int .i64 0, .int .i64 0, .int .u32 0, .int .u32 0, .int .u32 0, .int .u32 0, .int .u32 0, .int .u32 0, .int .u32 0, .int .u32 0, .int .u32 0, .int .u32 0, .int .u32 0, .int .u32 0, .int .u32 0, .int .u32 0, .int .u32 0, .int .u32 0, .slice none 0 0, .slice none 0 0] 34)) hgD (HLC.out.alloc HLC.out.size (.cells #[.int .i64 0, .int .i64 0, .int .i64 0, .int .i64 0, .int .i64 0, .int .u32 0, .int .u32 0, .int .u32 0, .int .u32 0, .int .u32 0, .int .u32 0, .int .u32 0, .int .u32 0, .int .u32 0, .int .u32 0, .int .u32 0, .int .u32 0, .int .u32 0, .int .u32 0, .int .u32 0, .int .u32 0, .slice none 0 0, .slice none 0 0] 34)).size (fun k hk => grown_ge hk HLC.out.size)); have y0 := BD.out.cell (resL_0 (r := X1)); rw [HE.out] at y0; have y22 := BD.out.cell (resL_22 N5.out); rw [HWS.out] at y22; clear hBD hgD hnD)
      | (refine wpList_load_box rfl 31 (.tmp 52) rfl wC.heap.size 5 rfl (resL X1 (.slice M5 X1.mem.length m5) (.slice U5 X1.ws.length u5)) (X1.regs.map (Value.int .u32)) BD.out (resL_regs (r := X1) (vm := .slice M5 X1.mem.length m5) (vw := .slice U5 X1.ws.length u5) N5.out) _ Try.underlying31 rfl 16 (by kernel_rfl) (by simp [N5.out]) ?_)
      | (refine wpList_load_box rfl 31 (.tmp 9) rfl wX.heap.size 0 rfl (r.regs.map (Value.int .u32)) (r.regs.map (Value.int .u32)) BBD.out (fun j v hv => by rw [Nat.zero_add]; exact hv) _ Try.underlying31 rfl 16 (by kernel_rfl) (by simp [h16]) ?_; have q := eqIn_regs X1.regs r.regs wD N5.out h16; rw [decide_eq_true HREG.out] at q; clear h16; go_wp2_with fail; go_ret; exact ⟨rfl, HLD.out⟩))

theorem seqNought_walk (z0 : Ins) (M1 : Option Addr) (m1 : Nat) (U1 : Option Addr) (u1 : Nat) (z1 : Res) (v2 : Value) (n2 : Nat) (z2 : List Int) (w : World) (f0 : z0.Fits) (f1 : z1.Fits) (r1 : ResV w w.heap.size (.slice M1 z1.mem.length m1) (.slice U1 z1.ws.length u1) z1) (r2 : Row w w.heap.size 1 v2 n2 (z2.map (Value.int .u8))) (g2 : ∀ x ∈ z2, 0 ≤ x ∧ x ≤ 255) :
    Calls Try.prog 6 #[.agg #[.int .i64 z0.op, .int .i64 z0.d, .int .i64 z0.a, .int .i64 z0.b, .int .i64 z0.imm], .agg (resL z1 (.slice M1 z1.mem.length m1) (.slice U1 z1.ws.length u1)).toArray, v2] w fun e w' => e = .returned (.bool true) ∧ Below w.heap.size w w' := by
  obtain ⟨S, c, rfl⟩ := r2.form
  cases hri : rightB z0
  · exact seqNought_wrong z0 M1 U1 m1 u1 z1 S n2 c z2 w r1 f1 r2 g2 hri
  by_cases hf : formZ z0.op ≤ 4
  rotate_left
  · exact seqNought_form z0 M1 U1 m1 u1 z1 S n2 c z2 w r1 f1 r2 g2 hri (by omega)
  by_cases hn : (n2 : Int) ≤ 200
  · exact seqNought_in z0 M1 U1 m1 u1 z1 S n2 c z2 w r1 f1 r2 g2 hri hf hn
  · exact seqNought_long z0 M1 U1 m1 u1 z1 S n2 c z2 w r1 f1 r2 g2 hri hf (by omega)
end Go.Proofs.Ytdjllgdeijdieaa.Words

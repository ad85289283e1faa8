/- Several texts in one: RefSameEnd, RegsEq, RefSameRes, SeqAlive. -/
import Derived.Test.YtdjllgdeijdieaaG01
import Derived.Test.YtdjllgdeijdieaaG10
import Derived.LoopTactic
import Derived.LoopN
import Derived.Laws.StructEq
import Derived.ChangeKeysEq

/- Contract of the document's own SameEnd: are two results one, but their registers? -/
namespace Go.Proofs.Ytdjllgdeijdieaa.Words
set_option maxRecDepth 100000
open Go.RowKit
set_option linter.unusedVariables false

theorem Wr.eq_iff (a b : Wr) : a = b ↔ a.addr = b.addr ∧ a.size = b.size ∧ a.val = b.val := by cases a; cases b; simp
theorem eqFields_wr (i k : Wr) (w : World) : (Op.equalIn 10000 38 (.agg #[.int .i64 i.addr, .int .i64 i.size, .int .u32 i.val]) (.agg #[.int .i64 k.addr, .int .i64 k.size, .int .u32 k.val])).run Try.prog w = .ok (decide (i = k)) w := by
  have hS : Try.prog.underlying 38 = some (.struct (Try.prog.fieldsOf 38)) := by kernel_rfl
  have hp : Try.prog.stoodInHeld 38 = false := by kernel_rfl
  rw [show (10000 : Nat) = 9999 + 1 from rfl, run_equalIn_agg w 9999 38 _ _ hS hp]
  simp only [Program.fieldsOf, Try.underlying38]
  go_simp
  have e := Wr.eq_iff i k
  by_cases h1 : i.addr = k.addr <;> by_cases h2 : i.size = k.size <;> by_cases h3 : i.val = k.val <;> simp [h1, h2, h3, e]
theorem neq_wr (i k : Wr) (w : World) : (binOp .neq 38 (.agg #[.int .i64 i.addr, .int .i64 i.size, .int .u32 i.val]) (.agg #[.int .i64 k.addr, .int .i64 k.size, .int .u32 k.val])).run Try.prog w = .ok (.bool (!decide (i = k))) w := by
  rw [run_neq_struct, eqFields_wr]; rfl
theorem neq_trap (a b c x y z : Int) (w : World) : (binOp .neq 29 (.agg #[.int .i64 a, .int .i64 b, .int .i64 c]) (.agg #[.int .i64 x, .int .i64 y, .int .i64 z])).run Try.prog w = .ok (.bool (!decide (a = x ∧ b = y ∧ c = z))) w := by
  have hS : Try.prog.underlying 29 = some (.struct (Try.prog.fieldsOf 29)) := by kernel_rfl
  have hp : Try.prog.stoodInHeld 29 = false := by kernel_rfl
  have e : (Op.equalIn 10000 29 (.agg #[.int .i64 a, .int .i64 b, .int .i64 c]) (.agg #[.int .i64 x, .int .i64 y, .int .i64 z])).run Try.prog w = .ok (decide (a = x ∧ b = y ∧ c = z)) w := by
    rw [show (10000 : Nat) = 9999 + 1 from rfl, run_equalIn_agg w 9999 29 _ _ hS hp]
    simp only [Program.fieldsOf, Try.underlying29]
    go_simp
    by_cases h1 : a = x <;> by_cases h2 : b = y <;> by_cases h3 : c = z <;> simp [h1, h2, h3]
  rw [run_neq_struct, e]; rfl
theorem Row.wr {w : World} {B n c : Nat} {b off : Nat} {l : List Wr} (h : Row w B 3 (.slice (some ⟨b, off, none⟩) n c) n (wsL l)) {k : Nat} {i : Wr} (hi : l[k]? = some i) :
    w.cell? ⟨b, off + k * 3, none⟩ = some (.int .i64 i.addr) ∧ w.cell? ⟨b, off + k * 3 + 1, none⟩ = some (.int .i64 i.size) ∧ w.cell? ⟨b, off + k * 3 + 2, none⟩ = some (.int .u32 i.val) := by
  have g : ∀ j u, j < 3 → (wrL i)[j]? = some u → w.cell? ⟨b, off + k * 3 + j, none⟩ = some u := by
    intro j u hj hu
    have := h.cells ⟨b, off, none⟩ rfl (k * 3 + j) u ((wsL_at l k i hi j hj).trans hu)
    rwa [add_spot, ← Nat.add_assoc] at this
  exact ⟨g 0 _ (by omega) rfl, g 1 _ (by omega) rfl, g 2 _ (by omega) rfl⟩
theorem wr_drop_step {l m : List Wr} {j : Nat} {x y : Wr} (hx : l[j]? = some x) (hy : m[j]? = some y) : (l.drop j = m.drop j) ↔ (x = y ∧ l.drop (j + 1) = m.drop (j + 1)) := by
  obtain ⟨h1, rfl⟩ := List.getElem?_eq_some_iff.1 hx
  obtain ⟨h2, rfl⟩ := List.getElem?_eq_some_iff.1 hy
  rw [List.drop_eq_getElem_cons h1, List.drop_eq_getElem_cons h2, List.cons.injEq]
theorem wr_at {l : List Wr} {j : Nat} (h : j < l.length) : ∃ i, l[j]? = some i := ⟨_, List.getElem?_eq_getElem h⟩

/-- Are two results one, but their registers? -/
def endB (a b : Res) : Bool := decide (a.e = b.e ∧ (a.tk = b.tk ∧ a.ts = b.ts ∧ a.tp = b.tp) ∧ a.st = b.st ∧ a.mem = b.mem ∧ a.ws = b.ws)

section
variable (r1 r2 : Res) (A1 B1 A2 B2 : Option Addr) (c1 d1 c2 d2 : Nat) (w : World)

set_option maxRecDepth 20000 in
set_option maxHeartbeats 400000 in
theorem refSameEnd_no0 (h1 : ResV w w.heap.size (.slice A1 r1.mem.length c1) (.slice B1 r1.ws.length d1) r1) (h2 : ResV w w.heap.size (.slice A2 r2.mem.length c2) (.slice B2 r2.ws.length d2) r2) (f1 : ∀ b ∈ r1.mem, 0 ≤ b ∧ b ≤ 255) (f2 : ∀ b ∈ r2.mem, 0 ≤ b ∧ b ≤ 255)  (t0 : ¬ (r1.e = r2.e)) :
    Calls Try.prog 28 #[.agg (resL r1 (.slice A1 r1.mem.length c1) (.slice B1 r1.ws.length d1)).toArray, .agg (resL r2 (.slice A2 r2.mem.length c2) (.slice B2 r2.ws.length d2)).toArray] w fun e w' => e = .returned (.bool (endB r1 r2)) ∧ Below w.heap.size w w' := by
  have hno := Lib.hid (show endB r1 r2 = false from decide_eq_false (fun g => t0 g.1))
  have HB := Lib.hid (((Below.refl w.heap.size w).alloc (Nat.le_refl _) (.cells (resL r1 (.slice A1 r1.mem.length c1) (.slice B1 r1.ws.length d1)).toArray 34)).alloc (by simp) (.cells (resL r2 (.slice A2 r2.mem.length c2) (.slice B2 r2.ws.length d2)).toArray 34))
  have g1_0 : (resL r1 (.slice A1 r1.mem.length c1) (.slice B1 r1.ws.length d1))[0]? = some (.int .i64 r1.e) := rfl
  have g1_1 : (resL r1 (.slice A1 r1.mem.length c1) (.slice B1 r1.ws.length d1))[1]? = some (.int .i64 r1.tk) := rfl
  have g1_2 : (resL r1 (.slice A1 r1.mem.length c1) (.slice B1 r1.ws.length d1))[2]? = some (.int .i64 r1.ts) := rfl
  have g1_3 : (resL r1 (.slice A1 r1.mem.length c1) (.slice B1 r1.ws.length d1))[3]? = some (.int .i64 r1.tp) := rfl
  have g1_4 : (resL r1 (.slice A1 r1.mem.length c1) (.slice B1 r1.ws.length d1))[4]? = some (.int .i64 r1.st) := rfl
  have g1_21 : (resL r1 (.slice A1 r1.mem.length c1) (.slice B1 r1.ws.length d1))[21]? = some (.slice A1 r1.mem.length c1) := resL_21 h1.regs
  have g1_22 : (resL r1 (.slice A1 r1.mem.length c1) (.slice B1 r1.ws.length d1))[22]? = some (.slice B1 r1.ws.length d1) := resL_22 h1.regs
  have g2_0 : (resL r2 (.slice A2 r2.mem.length c2) (.slice B2 r2.ws.length d2))[0]? = some (.int .i64 r2.e) := rfl
  have g2_1 : (resL r2 (.slice A2 r2.mem.length c2) (.slice B2 r2.ws.length d2))[1]? = some (.int .i64 r2.tk) := rfl
  have g2_2 : (resL r2 (.slice A2 r2.mem.length c2) (.slice B2 r2.ws.length d2))[2]? = some (.int .i64 r2.ts) := rfl
  have g2_3 : (resL r2 (.slice A2 r2.mem.length c2) (.slice B2 r2.ws.length d2))[3]? = some (.int .i64 r2.tp) := rfl
  have g2_4 : (resL r2 (.slice A2 r2.mem.length c2) (.slice B2 r2.ws.length d2))[4]? = some (.int .i64 r2.st) := rfl
  have g2_21 : (resL r2 (.slice A2 r2.mem.length c2) (.slice B2 r2.ws.length d2))[21]? = some (.slice A2 r2.mem.length c2) := resL_21 h2.regs
  have g2_22 : (resL r2 (.slice A2 r2.mem.length c2) (.slice B2 r2.ws.length d2))[22]? = some (.slice B2 r2.ws.length d2) := resL_22 h2.regs
  have q1 : (r1.e != r2.e) = true := by simp; exact t0
  clear h1 h2 f1 f2 t0
  go_enter Try.func28, Try.ntmps28
  go_wp2_with fail
  go_ret
  exact ⟨ret_bool hno.out.symm, HB.out⟩

set_option maxRecDepth 20000 in
set_option maxHeartbeats 400000 in
theorem refSameEnd_no1 (h1 : ResV w w.heap.size (.slice A1 r1.mem.length c1) (.slice B1 r1.ws.length d1) r1) (h2 : ResV w w.heap.size (.slice A2 r2.mem.length c2) (.slice B2 r2.ws.length d2) r2) (f1 : ∀ b ∈ r1.mem, 0 ≤ b ∧ b ≤ 255) (f2 : ∀ b ∈ r2.mem, 0 ≤ b ∧ b ≤ 255) (t0 : r1.e = r2.e) (t1 : ¬ (r1.tk = r2.tk ∧ r1.ts = r2.ts ∧ r1.tp = r2.tp)) :
    Calls Try.prog 28 #[.agg (resL r1 (.slice A1 r1.mem.length c1) (.slice B1 r1.ws.length d1)).toArray, .agg (resL r2 (.slice A2 r2.mem.length c2) (.slice B2 r2.ws.length d2)).toArray] w fun e w' => e = .returned (.bool (endB r1 r2)) ∧ Below w.heap.size w w' := by
  have hno := Lib.hid (show endB r1 r2 = false from decide_eq_false (fun g => t1 g.2.1))
  have HB := Lib.hid (((Below.refl w.heap.size w).alloc (Nat.le_refl _) (.cells (resL r1 (.slice A1 r1.mem.length c1) (.slice B1 r1.ws.length d1)).toArray 34)).alloc (by simp) (.cells (resL r2 (.slice A2 r2.mem.length c2) (.slice B2 r2.ws.length d2)).toArray 34))
  have g1_0 : (resL r1 (.slice A1 r1.mem.length c1) (.slice B1 r1.ws.length d1))[0]? = some (.int .i64 r1.e) := rfl
  have g1_1 : (resL r1 (.slice A1 r1.mem.length c1) (.slice B1 r1.ws.length d1))[1]? = some (.int .i64 r1.tk) := rfl
  have g1_2 : (resL r1 (.slice A1 r1.mem.length c1) (.slice B1 r1.ws.length d1))[2]? = some (.int .i64 r1.ts) := rfl
  have g1_3 : (resL r1 (.slice A1 r1.mem.length c1) (.slice B1 r1.ws.length d1))[3]? = some (.int .i64 r1.tp) := rfl
  have g1_4 : (resL r1 (.slice A1 r1.mem.length c1) (.slice B1 r1.ws.length d1))[4]? = some (.int .i64 r1.st) := rfl
  have g1_21 : (resL r1 (.slice A1 r1.mem.length c1) (.slice B1 r1.ws.length d1))[21]? = some (.slice A1 r1.mem.length c1) := resL_21 h1.regs
  have g1_22 : (resL r1 (.slice A1 r1.mem.length c1) (.slice B1 r1.ws.length d1))[22]? = some (.slice B1 r1.ws.length d1) := resL_22 h1.regs
  have g2_0 : (resL r2 (.slice A2 r2.mem.length c2) (.slice B2 r2.ws.length d2))[0]? = some (.int .i64 r1.e) := by rw [t0]; rfl
  have g2_1 : (resL r2 (.slice A2 r2.mem.length c2) (.slice B2 r2.ws.length d2))[1]? = some (.int .i64 r2.tk) := rfl
  have g2_2 : (resL r2 (.slice A2 r2.mem.length c2) (.slice B2 r2.ws.length d2))[2]? = some (.int .i64 r2.ts) := rfl
  have g2_3 : (resL r2 (.slice A2 r2.mem.length c2) (.slice B2 r2.ws.length d2))[3]? = some (.int .i64 r2.tp) := rfl
  have g2_4 : (resL r2 (.slice A2 r2.mem.length c2) (.slice B2 r2.ws.length d2))[4]? = some (.int .i64 r2.st) := rfl
  have g2_21 : (resL r2 (.slice A2 r2.mem.length c2) (.slice B2 r2.ws.length d2))[21]? = some (.slice A2 r2.mem.length c2) := resL_21 h2.regs
  have g2_22 : (resL r2 (.slice A2 r2.mem.length c2) (.slice B2 r2.ws.length d2))[22]? = some (.slice B2 r2.ws.length d2) := resL_22 h2.regs
  clear h1 h2 f1 f2 t0
  go_enter Try.func28, Try.ntmps28
  go_wp2_with fail
  all_goals (go_ret; exact ⟨ret_bool hno.out.symm, HB.out⟩)
  

set_option maxRecDepth 20000 in
set_option maxHeartbeats 400000 in
theorem refSameEnd_no2 (h1 : ResV w w.heap.size (.slice A1 r1.mem.length c1) (.slice B1 r1.ws.length d1) r1) (h2 : ResV w w.heap.size (.slice A2 r2.mem.length c2) (.slice B2 r2.ws.length d2) r2) (f1 : ∀ b ∈ r1.mem, 0 ≤ b ∧ b ≤ 255) (f2 : ∀ b ∈ r2.mem, 0 ≤ b ∧ b ≤ 255) (t0 : r1.e = r2.e) (t1 : r1.tk = r2.tk ∧ r1.ts = r2.ts ∧ r1.tp = r2.tp) (t2 : ¬ (r1.st = r2.st)) :
    Calls Try.prog 28 #[.agg (resL r1 (.slice A1 r1.mem.length c1) (.slice B1 r1.ws.length d1)).toArray, .agg (resL r2 (.slice A2 r2.mem.length c2) (.slice B2 r2.ws.length d2)).toArray] w fun e w' => e = .returned (.bool (endB r1 r2)) ∧ Below w.heap.size w w' := by
  have hno := Lib.hid (show endB r1 r2 = false from decide_eq_false (fun g => t2 g.2.2.1))
  have HB := Lib.hid (((Below.refl w.heap.size w).alloc (Nat.le_refl _) (.cells (resL r1 (.slice A1 r1.mem.length c1) (.slice B1 r1.ws.length d1)).toArray 34)).alloc (by simp) (.cells (resL r2 (.slice A2 r2.mem.length c2) (.slice B2 r2.ws.length d2)).toArray 34))
  have g1_0 : (resL r1 (.slice A1 r1.mem.length c1) (.slice B1 r1.ws.length d1))[0]? = some (.int .i64 r1.e) := rfl
  have g1_1 : (resL r1 (.slice A1 r1.mem.length c1) (.slice B1 r1.ws.length d1))[1]? = some (.int .i64 r1.tk) := rfl
  have g1_2 : (resL r1 (.slice A1 r1.mem.length c1) (.slice B1 r1.ws.length d1))[2]? = some (.int .i64 r1.ts) := rfl
  have g1_3 : (resL r1 (.slice A1 r1.mem.length c1) (.slice B1 r1.ws.length d1))[3]? = some (.int .i64 r1.tp) := rfl
  have g1_4 : (resL r1 (.slice A1 r1.mem.length c1) (.slice B1 r1.ws.length d1))[4]? = some (.int .i64 r1.st) := rfl
  have g1_21 : (resL r1 (.slice A1 r1.mem.length c1) (.slice B1 r1.ws.length d1))[21]? = some (.slice A1 r1.mem.length c1) := resL_21 h1.regs
  have g1_22 : (resL r1 (.slice A1 r1.mem.length c1) (.slice B1 r1.ws.length d1))[22]? = some (.slice B1 r1.ws.length d1) := resL_22 h1.regs
  have g2_0 : (resL r2 (.slice A2 r2.mem.length c2) (.slice B2 r2.ws.length d2))[0]? = some (.int .i64 r1.e) := by rw [t0]; rfl
  have g2_1 : (resL r2 (.slice A2 r2.mem.length c2) (.slice B2 r2.ws.length d2))[1]? = some (.int .i64 r1.tk) := by rw [t1.1]; rfl
  have g2_2 : (resL r2 (.slice A2 r2.mem.length c2) (.slice B2 r2.ws.length d2))[2]? = some (.int .i64 r1.ts) := by rw [t1.2.1]; rfl
  have g2_3 : (resL r2 (.slice A2 r2.mem.length c2) (.slice B2 r2.ws.length d2))[3]? = some (.int .i64 r1.tp) := by rw [t1.2.2]; rfl
  have g2_4 : (resL r2 (.slice A2 r2.mem.length c2) (.slice B2 r2.ws.length d2))[4]? = some (.int .i64 r2.st) := rfl
  have g2_21 : (resL r2 (.slice A2 r2.mem.length c2) (.slice B2 r2.ws.length d2))[21]? = some (.slice A2 r2.mem.length c2) := resL_21 h2.regs
  have g2_22 : (resL r2 (.slice A2 r2.mem.length c2) (.slice B2 r2.ws.length d2))[22]? = some (.slice B2 r2.ws.length d2) := resL_22 h2.regs
  have q3 : (r1.st != r2.st) = true := by simp; exact t2
  clear h1 h2 f1 f2 t0 t1 t2
  go_enter Try.func28, Try.ntmps28
  go_wp2_with fail
  go_ret
  exact ⟨ret_bool hno.out.symm, HB.out⟩

set_option maxRecDepth 20000 in
set_option maxHeartbeats 400000 in
theorem refSameEnd_no3 (h1 : ResV w w.heap.size (.slice A1 r1.mem.length c1) (.slice B1 r1.ws.length d1) r1) (h2 : ResV w w.heap.size (.slice A2 r2.mem.length c2) (.slice B2 r2.ws.length d2) r2) (f1 : ∀ b ∈ r1.mem, 0 ≤ b ∧ b ≤ 255) (f2 : ∀ b ∈ r2.mem, 0 ≤ b ∧ b ≤ 255) (t0 : r1.e = r2.e) (t1 : r1.tk = r2.tk ∧ r1.ts = r2.ts ∧ r1.tp = r2.tp) (t2 : r1.st = r2.st) (t3 : ¬ (r1.mem = r2.mem)) :
    Calls Try.prog 28 #[.agg (resL r1 (.slice A1 r1.mem.length c1) (.slice B1 r1.ws.length d1)).toArray, .agg (resL r2 (.slice A2 r2.mem.length c2) (.slice B2 r2.ws.length d2)).toArray] w fun e w' => e = .returned (.bool (endB r1 r2)) ∧ Below w.heap.size w w' := by
  have hno := Lib.hid (show endB r1 r2 = false from decide_eq_false (fun g => t3 g.2.2.2.1))
  have HB := Lib.hid (((Below.refl w.heap.size w).alloc (Nat.le_refl _) (.cells (resL r1 (.slice A1 r1.mem.length c1) (.slice B1 r1.ws.length d1)).toArray 34)).alloc (by simp) (.cells (resL r2 (.slice A2 r2.mem.length c2) (.slice B2 r2.ws.length d2)).toArray 34))
  have g1_0 : (resL r1 (.slice A1 r1.mem.length c1) (.slice B1 r1.ws.length d1))[0]? = some (.int .i64 r1.e) := rfl
  have g1_1 : (resL r1 (.slice A1 r1.mem.length c1) (.slice B1 r1.ws.length d1))[1]? = some (.int .i64 r1.tk) := rfl
  have g1_2 : (resL r1 (.slice A1 r1.mem.length c1) (.slice B1 r1.ws.length d1))[2]? = some (.int .i64 r1.ts) := rfl
  have g1_3 : (resL r1 (.slice A1 r1.mem.length c1) (.slice B1 r1.ws.length d1))[3]? = some (.int .i64 r1.tp) := rfl
  have g1_4 : (resL r1 (.slice A1 r1.mem.length c1) (.slice B1 r1.ws.length d1))[4]? = some (.int .i64 r1.st) := rfl
  have g1_21 : (resL r1 (.slice A1 r1.mem.length c1) (.slice B1 r1.ws.length d1))[21]? = some (.slice A1 r1.mem.length c1) := resL_21 h1.regs
  have g1_22 : (resL r1 (.slice A1 r1.mem.length c1) (.slice B1 r1.ws.length d1))[22]? = some (.slice B1 r1.ws.length d1) := resL_22 h1.regs
  have g2_0 : (resL r2 (.slice A2 r2.mem.length c2) (.slice B2 r2.ws.length d2))[0]? = some (.int .i64 r1.e) := by rw [t0]; rfl
  have g2_1 : (resL r2 (.slice A2 r2.mem.length c2) (.slice B2 r2.ws.length d2))[1]? = some (.int .i64 r1.tk) := by rw [t1.1]; rfl
  have g2_2 : (resL r2 (.slice A2 r2.mem.length c2) (.slice B2 r2.ws.length d2))[2]? = some (.int .i64 r1.ts) := by rw [t1.2.1]; rfl
  have g2_3 : (resL r2 (.slice A2 r2.mem.length c2) (.slice B2 r2.ws.length d2))[3]? = some (.int .i64 r1.tp) := by rw [t1.2.2]; rfl
  have g2_4 : (resL r2 (.slice A2 r2.mem.length c2) (.slice B2 r2.ws.length d2))[4]? = some (.int .i64 r1.st) := by rw [t2]; rfl
  have g2_21 : (resL r2 (.slice A2 r2.mem.length c2) (.slice B2 r2.ws.length d2))[21]? = some (.slice A2 r2.mem.length c2) := resL_21 h2.regs
  have g2_22 : (resL r2 (.slice A2 r2.mem.length c2) (.slice B2 r2.ws.length d2))[22]? = some (.slice B2 r2.ws.length d2) := resL_22 h2.regs
  have v1 := conv_row (P := Try.prog) ((w.alloc (.cells (resL r1 (.slice A1 r1.mem.length c1) (.slice B1 r1.ws.length d1)).toArray 34)).alloc (.cells (resL r2 (.slice A2 r2.mem.length c2) (.slice B2 r2.ws.length d2)).toArray 34)) 23 5 Try.underlying23 Try.underlying5 ((h1.mem.alloc (Nat.le_refl _) (.cells (resL r1 (.slice A1 r1.mem.length c1) (.slice B1 r1.ws.length d1)).toArray 34)).alloc (by simp) (.cells (resL r2 (.slice A2 r2.mem.length c2) (.slice B2 r2.ws.length d2)).toArray 34)) 9 Try.underlying9
  have v2 := conv_row (P := Try.prog) ((w.alloc (.cells (resL r1 (.slice A1 r1.mem.length c1) (.slice B1 r1.ws.length d1)).toArray 34)).alloc (.cells (resL r2 (.slice A2 r2.mem.length c2) (.slice B2 r2.ws.length d2)).toArray 34)) 23 5 Try.underlying23 Try.underlying5 ((h2.mem.alloc (Nat.le_refl _) (.cells (resL r1 (.slice A1 r1.mem.length c1) (.slice B1 r1.ws.length d1)).toArray 34)).alloc (by simp) (.cells (resL r2 (.slice A2 r2.mem.length c2) (.slice B2 r2.ws.length d2)).toArray 34)) 9 Try.underlying9
  have q4 := str_eq f1 f2
  rw [decide_eq_false t3] at q4
  clear h1 h2 f1 f2 t0 t1 t2 t3
  go_enter Try.func28, Try.ntmps28
  go_wp2_with fail
  go_ret
  exact ⟨ret_bool hno.out.symm, HB.out⟩

set_option maxRecDepth 20000 in
set_option maxHeartbeats 400000 in
theorem refSameEnd_no4 (h1 : ResV w w.heap.size (.slice A1 r1.mem.length c1) (.slice B1 r1.ws.length d1) r1) (h2 : ResV w w.heap.size (.slice A2 r2.mem.length c2) (.slice B2 r2.ws.length d2) r2) (f1 : ∀ b ∈ r1.mem, 0 ≤ b ∧ b ≤ 255) (f2 : ∀ b ∈ r2.mem, 0 ≤ b ∧ b ≤ 255) (t0 : r1.e = r2.e) (t1 : r1.tk = r2.tk ∧ r1.ts = r2.ts ∧ r1.tp = r2.tp) (t2 : r1.st = r2.st) (t3 : r1.mem = r2.mem) (t4 : ¬ (r1.ws.length = r2.ws.length)) :
    Calls Try.prog 28 #[.agg (resL r1 (.slice A1 r1.mem.length c1) (.slice B1 r1.ws.length d1)).toArray, .agg (resL r2 (.slice A2 r2.mem.length c2) (.slice B2 r2.ws.length d2)).toArray] w fun e w' => e = .returned (.bool (endB r1 r2)) ∧ Below w.heap.size w w' := by
  have hno := Lib.hid (show endB r1 r2 = false from decide_eq_false (fun g => t4 (by rw [g.2.2.2.2])))
  have HB := Lib.hid (((Below.refl w.heap.size w).alloc (Nat.le_refl _) (.cells (resL r1 (.slice A1 r1.mem.length c1) (.slice B1 r1.ws.length d1)).toArray 34)).alloc (by simp) (.cells (resL r2 (.slice A2 r2.mem.length c2) (.slice B2 r2.ws.length d2)).toArray 34))
  have g1_0 : (resL r1 (.slice A1 r1.mem.length c1) (.slice B1 r1.ws.length d1))[0]? = some (.int .i64 r1.e) := rfl
  have g1_1 : (resL r1 (.slice A1 r1.mem.length c1) (.slice B1 r1.ws.length d1))[1]? = some (.int .i64 r1.tk) := rfl
  have g1_2 : (resL r1 (.slice A1 r1.mem.length c1) (.slice B1 r1.ws.length d1))[2]? = some (.int .i64 r1.ts) := rfl
  have g1_3 : (resL r1 (.slice A1 r1.mem.length c1) (.slice B1 r1.ws.length d1))[3]? = some (.int .i64 r1.tp) := rfl
  have g1_4 : (resL r1 (.slice A1 r1.mem.length c1) (.slice B1 r1.ws.length d1))[4]? = some (.int .i64 r1.st) := rfl
  have g1_21 : (resL r1 (.slice A1 r1.mem.length c1) (.slice B1 r1.ws.length d1))[21]? = some (.slice A1 r1.mem.length c1) := resL_21 h1.regs
  have g1_22 : (resL r1 (.slice A1 r1.mem.length c1) (.slice B1 r1.ws.length d1))[22]? = some (.slice B1 r1.ws.length d1) := resL_22 h1.regs
  have g2_0 : (resL r2 (.slice A2 r2.mem.length c2) (.slice B2 r2.ws.length d2))[0]? = some (.int .i64 r1.e) := by rw [t0]; rfl
  have g2_1 : (resL r2 (.slice A2 r2.mem.length c2) (.slice B2 r2.ws.length d2))[1]? = some (.int .i64 r1.tk) := by rw [t1.1]; rfl
  have g2_2 : (resL r2 (.slice A2 r2.mem.length c2) (.slice B2 r2.ws.length d2))[2]? = some (.int .i64 r1.ts) := by rw [t1.2.1]; rfl
  have g2_3 : (resL r2 (.slice A2 r2.mem.length c2) (.slice B2 r2.ws.length d2))[3]? = some (.int .i64 r1.tp) := by rw [t1.2.2]; rfl
  have g2_4 : (resL r2 (.slice A2 r2.mem.length c2) (.slice B2 r2.ws.length d2))[4]? = some (.int .i64 r1.st) := by rw [t2]; rfl
  have g2_21 : (resL r2 (.slice A2 r2.mem.length c2) (.slice B2 r2.ws.length d2))[21]? = some (.slice A2 r2.mem.length c2) := resL_21 h2.regs
  have g2_22 : (resL r2 (.slice A2 r2.mem.length c2) (.slice B2 r2.ws.length d2))[22]? = some (.slice B2 r2.ws.length d2) := resL_22 h2.regs
  have v1 := conv_row (P := Try.prog) ((w.alloc (.cells (resL r1 (.slice A1 r1.mem.length c1) (.slice B1 r1.ws.length d1)).toArray 34)).alloc (.cells (resL r2 (.slice A2 r2.mem.length c2) (.slice B2 r2.ws.length d2)).toArray 34)) 23 5 Try.underlying23 Try.underlying5 ((h1.mem.alloc (Nat.le_refl _) (.cells (resL r1 (.slice A1 r1.mem.length c1) (.slice B1 r1.ws.length d1)).toArray 34)).alloc (by simp) (.cells (resL r2 (.slice A2 r2.mem.length c2) (.slice B2 r2.ws.length d2)).toArray 34)) 9 Try.underlying9
  have v2 := conv_row (P := Try.prog) ((w.alloc (.cells (resL r1 (.slice A1 r1.mem.length c1) (.slice B1 r1.ws.length d1)).toArray 34)).alloc (.cells (resL r2 (.slice A2 r2.mem.length c2) (.slice B2 r2.ws.length d2)).toArray 34)) 23 5 Try.underlying23 Try.underlying5 ((h2.mem.alloc (Nat.le_refl _) (.cells (resL r1 (.slice A1 r1.mem.length c1) (.slice B1 r1.ws.length d1)).toArray 34)).alloc (by simp) (.cells (resL r2 (.slice A2 r2.mem.length c2) (.slice B2 r2.ws.length d2)).toArray 34)) 9 Try.underlying9
  rw [show strOfNums r2.mem = strOfNums r1.mem by rw [t3]] at v2
  have q5 : ((r1.ws.length : Int) != r2.ws.length) = true := by simp; omega
  clear h1 h2 f1 f2 t0 t1 t2 t3 t4
  go_enter Try.func28, Try.ntmps28
  go_wp2_with fail
  go_ret
  exact ⟨ret_bool hno.out.symm, HB.out⟩

set_option maxRecDepth 20000 in
set_option maxHeartbeats 1000000 in
theorem refSameEnd_loop (h1 : ResV w w.heap.size (.slice A1 r1.mem.length c1) (.slice B1 r1.ws.length d1) r1) (h2 : ResV w w.heap.size (.slice A2 r2.mem.length c2) (.slice B2 r2.ws.length d2) r2) (f1 : ∀ b ∈ r1.mem, 0 ≤ b ∧ b ≤ 255) (f2 : ∀ b ∈ r2.mem, 0 ≤ b ∧ b ≤ 255) (t0 : r1.e = r2.e) (t1 : r1.tk = r2.tk ∧ r1.ts = r2.ts ∧ r1.tp = r2.tp) (t2 : r1.st = r2.st) (t3 : r1.mem = r2.mem) (t4 : r1.ws.length = r2.ws.length) :
    Calls Try.prog 28 #[.agg (resL r1 (.slice A1 r1.mem.length c1) (.slice B1 r1.ws.length d1)).toArray, .agg (resL r2 (.slice A2 r2.mem.length c2) (.slice B2 r2.ws.length d2)).toArray] w fun e w' => e = .returned (.bool (endB r1 r2)) ∧ Below w.heap.size w w' := by
  have HE := Lib.hid (show endB r1 r2 = decide (r1.ws = r2.ws) by unfold endB; congr 1; apply propext; exact ⟨fun g => g.2.2.2.2, fun g => ⟨t0, t1, t2, t3, g⟩⟩)
  have HB := Lib.hid (((Below.refl w.heap.size w).alloc (Nat.le_refl _) (.cells (resL r1 (.slice A1 r1.mem.length c1) (.slice B1 r1.ws.length d1)).toArray 34)).alloc (by simp) (.cells (resL r2 (.slice A2 r2.mem.length c2) (.slice B2 r2.ws.length d2)).toArray 34))
  have hW1 : w.heap.size < ((w.alloc (.cells (resL r1 (.slice A1 r1.mem.length c1) (.slice B1 r1.ws.length d1)).toArray 34)).alloc (.cells (resL r2 (.slice A2 r2.mem.length c2) (.slice B2 r2.ws.length d2)).toArray 34)).heap.size := by simp; omega
  have hW2 : w.heap.size + 1 < ((w.alloc (.cells (resL r1 (.slice A1 r1.mem.length c1) (.slice B1 r1.ws.length d1)).toArray 34)).alloc (.cells (resL r2 (.slice A2 r2.mem.length c2) (.slice B2 r2.ws.length d2)).toArray 34)).heap.size := by simp
  have R1 := Lib.hid (((h1.ws.alloc (Nat.le_refl _) (.cells (resL r1 (.slice A1 r1.mem.length c1) (.slice B1 r1.ws.length d1)).toArray 34)).alloc (by simp) (.cells (resL r2 (.slice A2 r2.mem.length c2) (.slice B2 r2.ws.length d2)).toArray 34)).more (Nat.le_of_lt hW1))
  have R2 := Lib.hid (((h2.ws.alloc (Nat.le_refl _) (.cells (resL r1 (.slice A1 r1.mem.length c1) (.slice B1 r1.ws.length d1)).toArray 34)).alloc (by simp) (.cells (resL r2 (.slice A2 r2.mem.length c2) (.slice B2 r2.ws.length d2)).toArray 34)).more (Nat.le_of_lt hW1))
  have X1 := Lib.hid (((Box.new w (resL r1 (.slice A1 r1.mem.length c1) (.slice B1 r1.ws.length d1)) 34).alloc (.cells (resL r2 (.slice A2 r2.mem.length c2) (.slice B2 r2.ws.length d2)).toArray 34)).cell (resL_22 h1.regs))
  have X2 : Hid (((w.alloc (.cells (resL r1 (.slice A1 r1.mem.length c1) (.slice B1 r1.ws.length d1)).toArray 34)).alloc (.cells (resL r2 (.slice A2 r2.mem.length c2) (.slice B2 r2.ws.length d2)).toArray 34)).cell? ⟨w.heap.size + 1, 22, none⟩ = some (.slice B2 r2.ws.length d2)) := by
    have := (Box.new (w.alloc (.cells (resL r1 (.slice A1 r1.mem.length c1) (.slice B1 r1.ws.length d1)).toArray 34)) (resL r2 (.slice A2 r2.mem.length c2) (.slice B2 r2.ws.length d2)) 34).cell (resL_22 h2.regs)
    have e : (w.alloc (.cells (resL r1 (.slice A1 r1.mem.length c1) (.slice B1 r1.ws.length d1)).toArray 34)).heap.size = w.heap.size + 1 := by simp
    rw [e] at this
    exact this
  have g1_0 : (resL r1 (.slice A1 r1.mem.length c1) (.slice B1 r1.ws.length d1))[0]? = some (.int .i64 r1.e) := rfl
  have g1_1 : (resL r1 (.slice A1 r1.mem.length c1) (.slice B1 r1.ws.length d1))[1]? = some (.int .i64 r1.tk) := rfl
  have g1_2 : (resL r1 (.slice A1 r1.mem.length c1) (.slice B1 r1.ws.length d1))[2]? = some (.int .i64 r1.ts) := rfl
  have g1_3 : (resL r1 (.slice A1 r1.mem.length c1) (.slice B1 r1.ws.length d1))[3]? = some (.int .i64 r1.tp) := rfl
  have g1_4 : (resL r1 (.slice A1 r1.mem.length c1) (.slice B1 r1.ws.length d1))[4]? = some (.int .i64 r1.st) := rfl
  have g1_21 : (resL r1 (.slice A1 r1.mem.length c1) (.slice B1 r1.ws.length d1))[21]? = some (.slice A1 r1.mem.length c1) := resL_21 h1.regs
  have g1_22 : (resL r1 (.slice A1 r1.mem.length c1) (.slice B1 r1.ws.length d1))[22]? = some (.slice B1 r1.ws.length d1) := resL_22 h1.regs
  have g2_0 : (resL r2 (.slice A2 r2.mem.length c2) (.slice B2 r2.ws.length d2))[0]? = some (.int .i64 r1.e) := by rw [t0]; rfl
  have g2_1 : (resL r2 (.slice A2 r2.mem.length c2) (.slice B2 r2.ws.length d2))[1]? = some (.int .i64 r1.tk) := by rw [t1.1]; rfl
  have g2_2 : (resL r2 (.slice A2 r2.mem.length c2) (.slice B2 r2.ws.length d2))[2]? = some (.int .i64 r1.ts) := by rw [t1.2.1]; rfl
  have g2_3 : (resL r2 (.slice A2 r2.mem.length c2) (.slice B2 r2.ws.length d2))[3]? = some (.int .i64 r1.tp) := by rw [t1.2.2]; rfl
  have g2_4 : (resL r2 (.slice A2 r2.mem.length c2) (.slice B2 r2.ws.length d2))[4]? = some (.int .i64 r1.st) := by rw [t2]; rfl
  have g2_21 : (resL r2 (.slice A2 r2.mem.length c2) (.slice B2 r2.ws.length d2))[21]? = some (.slice A2 r2.mem.length c2) := resL_21 h2.regs
  have g2_22 : (resL r2 (.slice A2 r2.mem.length c2) (.slice B2 r2.ws.length d2))[22]? = some (.slice B2 r2.ws.length d2) := resL_22 h2.regs
  have v1 := conv_row (P := Try.prog) ((w.alloc (.cells (resL r1 (.slice A1 r1.mem.length c1) (.slice B1 r1.ws.length d1)).toArray 34)).alloc (.cells (resL r2 (.slice A2 r2.mem.length c2) (.slice B2 r2.ws.length d2)).toArray 34)) 23 5 Try.underlying23 Try.underlying5 ((h1.mem.alloc (Nat.le_refl _) (.cells (resL r1 (.slice A1 r1.mem.length c1) (.slice B1 r1.ws.length d1)).toArray 34)).alloc (by simp) (.cells (resL r2 (.slice A2 r2.mem.length c2) (.slice B2 r2.ws.length d2)).toArray 34)) 9 Try.underlying9
  have v2 := conv_row (P := Try.prog) ((w.alloc (.cells (resL r1 (.slice A1 r1.mem.length c1) (.slice B1 r1.ws.length d1)).toArray 34)).alloc (.cells (resL r2 (.slice A2 r2.mem.length c2) (.slice B2 r2.ws.length d2)).toArray 34)) 23 5 Try.underlying23 Try.underlying5 ((h2.mem.alloc (Nat.le_refl _) (.cells (resL r1 (.slice A1 r1.mem.length c1) (.slice B1 r1.ws.length d1)).toArray 34)).alloc (by simp) (.cells (resL r2 (.slice A2 r2.mem.length c2) (.slice B2 r2.ws.length d2)).toArray 34)) 9 Try.underlying9
  rw [show strOfNums r2.mem = strOfNums r1.mem by rw [t3]] at v2
  have q5 : ((r1.ws.length : Int) != r2.ws.length) = false := by simp; omega
  obtain ⟨u1, u2⟩ := h1.ws.cap
  obtain ⟨u3, u4⟩ := h2.ws.cap
  have T4 := Lib.hid t4
  clear h1 h2 f1 f2 t0 t1 t2 t3 t4
  go_enter Try.func28, Try.ntmps28
  go_wp2_with fail
  generalize ((w.alloc (.cells (resL r1 (.slice A1 r1.mem.length c1) (.slice B1 r1.ws.length d1)).toArray 34)).alloc (.cells (resL r2 (.slice A2 r2.mem.length c2) (.slice B2 r2.ws.length d2)).toArray 34)) = W at *
  have Y1 := Lib.hid (fun (x : World) (h : Kept W x) => h.cell hW1 X1.out)
  have Y2 := Lib.hid (fun (x : World) (h : Kept W x) => h.cell hW2 X2.out)
  have HBx := Lib.hid (fun (m : Nat) => (Below.drewN_ HB.out m : Below w.heap.size w (W.drewN m)))
  by_cases hn : r1.ws.length = 0
  · have z1 : r1.ws = [] := List.eq_nil_of_length_eq_zero hn
    have z2 : r2.ws = [] := List.eq_nil_of_length_eq_zero (by have := T4.out; omega)
    have hres := Lib.hid (show endB r1 r2 = true by rw [HE.out, z1, z2]; rfl)
    have y1 := X1.out
    have hn0 : (r1.ws.length : Int) = 0 := by omega
    clear z1 z2 v1 v2
    refine wp_loop_rounds 1 ?_
    rw [rounds_succ]
    go_wp2_with fail
    go_ret
    exact ⟨ret_bool hres.out.symm, HB.out⟩
  obtain ⟨b1, o1, rfl, _, _⟩ := R1.out.at_ hn
  obtain ⟨b2, o2, rfl, _, _⟩ := R2.out.at_ (by have := T4.out; omega)
  have H0 := Lib.hid (show (r1.ws = r2.ws) ↔ (r1.ws.drop 0 = r2.ws.drop 0) by rw [List.drop_zero, List.drop_zero])
  have HC1 := Lib.hid (fun (k : Nat) (i : Wr) (hi : r1.ws[k]? = some i) => R1.out.wr hi)
  have HC2 := Lib.hid (fun (k : Nat) (i : Wr) (hi : r2.ws[k]? = some i) => R2.out.wr hi)
  have HA1 := Lib.hid (fun j (h : j < r1.ws.length) => wr_at (l := r1.ws) h)
  have HA2 := Lib.hid (fun j (h : j < r1.ws.length) => wr_at (l := r2.ws) (show j < r2.ws.length by have := T4.out; omega))
  have HS := Lib.hid (fun (j : Nat) (x y : Wr) (hx : r1.ws[j]? = some x) (hy : r2.ws[j]? = some y) => wr_drop_step hx hy)
  have HD1 := Lib.hid (fun (k : Nat) (h : r1.ws.length ≤ k) => List.drop_eq_nil_of_le h)
  have HD2 := Lib.hid (fun (k : Nat) (h : r1.ws.length ≤ k) => List.drop_eq_nil_of_le (show r2.ws.length ≤ k by have := T4.out; omega))
  have ln := Lib.hid (show (r2.ws.length : Int) = r1.ws.length by have := T4.out; omega)
  clear v1 v2 R1 R2 q5
  generalize hN : r1.ws.length = N at *
  have HN := Lib.hid hN
  clear hN
  go_loopw [5] (fun i wr => ∃ j m : Nat, j ≤ N ∧ i = .int .i64 j ∧ wr = W.drewN m ∧ ((r1.ws = r2.ws) ↔ (r1.ws.drop j = r2.ws.drop j))) (fun i _ => N - (intOf i).toNat)
  case atStart => exact ⟨0, 0, Nat.zero_le _, rfl, rfl, H0.out⟩
  case round =>
    obtain ⟨j, m, hj, rfl, rfl, hT⟩ := hrel
    have HT := Lib.hid hT
    clear hT
    have y1 := X1.out
    have y2 := X2.out
    by_cases hlt : j < N
    · obtain ⟨x, hx⟩ := HA1.out j hlt
      obtain ⟨y, hy⟩ := HA2.out j hlt
      have hs := Lib.hid (HS.out j x y hx hy)
      obtain ⟨a0, a1, a2⟩ := HC1.out j x hx
      obtain ⟨b0, b1', b2'⟩ := HC2.out j y hy
      have k0 : (0 : Int) ≤ j := by omega
      have k1 : (j : Int) < N := by omega
      have k2 : (j : Int) < r2.ws.length := by have := ln.out; omega
      clear hx hy
      by_cases hxy : x = y
      · subst hxy
        have hres := Lib.hid (show (r1.ws = r2.ws) ↔ (r1.ws.drop (j + 1) = r2.ws.drop (j + 1)) by rw [HT.out, hs.out]; simp)
        go_wp2_with fail
        go_quiet (fail)
        go_wp2_with fail
        go_roundw
        case rel => exact ⟨j + 1, _, by omega, by go_num, rfl, hres.out⟩
        case measure => simp [intOf]; omega
      · have q := neq_wr x y
        rw [decide_eq_false hxy] at q
        have hres := Lib.hid (show endB r1 r2 = false by rw [HE.out, decide_eq_false_iff_not, HT.out, hs.out]; exact fun h => hxy h.1)
        clear hxy
        go_wp2_with fail
        go_quiet (fail)
        go_wp2_with fail
        go_ret
        exact ⟨ret_bool hres.out.symm, Below.drewN_ (HBx.out m) _⟩
    · have hres := Lib.hid (show endB r1 r2 = true by rw [HE.out, decide_eq_true_iff, HT.out, HD1.out j (by omega), HD2.out j (by omega)])
      have k1 : ¬ (j : Int) < N := by omega
      go_wp2_with fail
      go_ret
      exact ⟨ret_bool hres.out.symm, HBx.out m⟩

theorem refSameEnd_any (h1 : ResV w w.heap.size (.slice A1 r1.mem.length c1) (.slice B1 r1.ws.length d1) r1) (h2 : ResV w w.heap.size (.slice A2 r2.mem.length c2) (.slice B2 r2.ws.length d2) r2) (f1 : ∀ b ∈ r1.mem, 0 ≤ b ∧ b ≤ 255) (f2 : ∀ b ∈ r2.mem, 0 ≤ b ∧ b ≤ 255) :
    Calls Try.prog 28 #[.agg (resL r1 (.slice A1 r1.mem.length c1) (.slice B1 r1.ws.length d1)).toArray, .agg (resL r2 (.slice A2 r2.mem.length c2) (.slice B2 r2.ws.length d2)).toArray] w fun e w' => e = .returned (.bool (endB r1 r2)) ∧ Below w.heap.size w w' := by
  by_cases t0 : r1.e = r2.e
  rotate_left
  · exact refSameEnd_no0 r1 r2 A1 B1 A2 B2 c1 d1 c2 d2 w h1 h2 f1 f2 t0
  by_cases t1 : r1.tk = r2.tk ∧ r1.ts = r2.ts ∧ r1.tp = r2.tp
  rotate_left
  · exact refSameEnd_no1 r1 r2 A1 B1 A2 B2 c1 d1 c2 d2 w h1 h2 f1 f2 t0 t1
  by_cases t2 : r1.st = r2.st
  rotate_left
  · exact refSameEnd_no2 r1 r2 A1 B1 A2 B2 c1 d1 c2 d2 w h1 h2 f1 f2 t0 t1 t2
  by_cases t3 : r1.mem = r2.mem
  rotate_left
  · exact refSameEnd_no3 r1 r2 A1 B1 A2 B2 c1 d1 c2 d2 w h1 h2 f1 f2 t0 t1 t2 t3
  by_cases t4 : r1.ws.length = r2.ws.length
  rotate_left
  · exact refSameEnd_no4 r1 r2 A1 B1 A2 B2 c1 d1 c2 d2 w h1 h2 f1 f2 t0 t1 t2 t3 t4
  exact refSameEnd_loop r1 r2 A1 B1 A2 B2 c1 d1 c2 d2 w h1 h2 f1 f2 t0 t1 t2 t3 t4
end
end Go.Proofs.Ytdjllgdeijdieaa.Words

/- Two arrays of numbers compared. Nothing here speaks of one program text but the type of a result's registers. -/
namespace Go.Proofs.Ytdjllgdeijdieaa.Words
set_option maxRecDepth 100000
open Go.RowKit
set_option linter.unusedVariables false

section
variable {P : Program} (w : World)
theorem part_num {e : TypeId} {k : IntKind} (he : P.underlying e = some (.int k)) (l : List Int) (i : Nat) (h : i < l.length) : (part e (l.map (Value.int k)).toArray i).run P w = .ok (.int k (l.getD i 0)) w := by
  have hv : ((l.map (Value.int k)).toArray)[i]? = some (.int k (l.getD i 0)) := by
    rw [List.getElem?_toArray, List.getElem?_map, List.getD_eq_getElem?_getD, List.getElem?_eq_getElem h]; rfl
  simp only [part, isAgg, Sem.run_bind, run_underlying he, Sem.run_pure, Result.andThen_ok, hv]
  simp
theorem items_num (d : Nat) {e : TypeId} {k : IntKind} (he : P.underlying e = some (.int k)) (l m : List Int) : ∀ (is : List Nat), (∀ i ∈ is, i < l.length ∧ i < m.length) →
    (Op.eqItems (d + 1) e 1 (l.map (Value.int k)).toArray (m.map (Value.int k)).toArray is).run P w = .ok (is.all fun i => l.getD i 0 == m.getD i 0) w
  | [], _ => by simp [Op.eqItems]
  | i :: is, h => by
    have hi := h i (by simp)
    have ih := items_num d he l m is (fun j hj => h j (by simp [hj]))
    simp only [Op.eqItems, Sem.run_bind, Nat.mul_one, part_num w he l i hi.1, part_num w he m i hi.2, run_equalIn_int w d e k k _ _ he, Result.andThen_ok, List.all_cons]
    cases hb : (l.getD i 0 == m.getD i 0)
    · simp
    · simp only [Bool.not_true, Bool.false_eq_true, if_false, Bool.true_and]; exact ih
end
theorem all_getD (l m : List Int) (h : l.length = m.length) : ((List.range l.length).all fun i => l.getD i 0 == m.getD i 0) = decide (l = m) := by
  rw [Bool.eq_iff_iff]
  simp only [List.all_eq_true, List.mem_range, beq_iff_eq, decide_eq_true_eq]
  constructor
  · intro g
    refine List.ext_getElem h fun i h1 h2 => ?_
    have := g i h1
    rwa [List.getD_eq_getElem?_getD, List.getD_eq_getElem?_getD, List.getElem?_eq_getElem h1, List.getElem?_eq_getElem h2] at this
  · rintro rfl i _; rfl
theorem info_u32 : (Try.prog.info? 30).map (fun i => (i.zero, i.size, i.bytes)) = some (some (.int .u32 0), 1, 4) := by kernel_rfl
theorem eqIn_regs (l m : List Int) (w : World) (hl : l.length = 16) (hm : m.length = 16) : (Op.equalIn 10000 31 (.agg (l.map (Value.int .u32)).toArray) (.agg (m.map (Value.int .u32)).toArray)).run Try.prog w = .ok (decide (l = m)) w := by
  obtain ⟨i, hi, _⟩ := info_parts info_u32
  have hc : Try.prog.cellsOf 30 = 1 := by kernel_rfl
  rw [show (10000 : Nat) = 9999 + 1 from rfl, run_equalIn_array w 9999 _ _ Try.underlying31 hi, hc, show (9999 : Nat) = 9998 + 1 from rfl,
    items_num w 9998 Try.underlying30 l m (List.range 16) (fun i h => by rw [List.mem_range] at h; omega), show (16 : Nat) = l.length from hl.symm, all_getD l m (hl.trans hm.symm)]
theorem eql_regs (l m : List Int) (w : World) (hl : l.length = 16) (hm : m.length = 16) : (binOp .eql 31 (.agg (l.map (Value.int .u32)).toArray) (.agg (m.map (Value.int .u32)).toArray)).run Try.prog w = .ok (.bool (decide (l = m))) w := by
  rw [run_eql_struct, eqIn_regs l m w hl hm]
  rfl
end Go.Proofs.Ytdjllgdeijdieaa.Words

/- Contract of the document's own SameResult: are two results one? -/
namespace Go.Proofs.Ytdjllgdeijdieaa.Words
set_option maxRecDepth 100000
open Go.RowKit
set_option linter.unusedVariables false

/-- Are two results one? -/
def sameB (a b : Res) : Bool := decide (a.regs = b.regs) && endB a b
theorem sameB_iff (a b : Res) : sameB a b = true ↔ a = b := by
  unfold sameB endB
  rw [Bool.and_eq_true, decide_eq_true_iff, decide_eq_true_iff]
  cases a; cases b; simp
  constructor
  · rintro ⟨rfl, rfl, ⟨rfl, rfl, rfl⟩, rfl, rfl, rfl⟩; simp
  · rintro ⟨rfl, rfl, rfl, rfl, rfl, rfl, rfl, rfl⟩; simp

section
variable (r1 r2 : Res) (A1 B1 A2 B2 : Option Addr) (c1 d1 c2 d2 : Nat) (w : World)

set_option maxRecDepth 20000 in
set_option maxHeartbeats 1000000 in
theorem refSameRes_any (h1 : ResV w w.heap.size (.slice A1 r1.mem.length c1) (.slice B1 r1.ws.length d1) r1) (h2 : ResV w w.heap.size (.slice A2 r2.mem.length c2) (.slice B2 r2.ws.length d2) r2) (f1 : ∀ b ∈ r1.mem, 0 ≤ b ∧ b ≤ 255) (f2 : ∀ b ∈ r2.mem, 0 ≤ b ∧ b ≤ 255) :
    Calls Try.prog 19 #[.agg (resL r1 (.slice A1 r1.mem.length c1) (.slice B1 r1.ws.length d1)).toArray, .agg (resL r2 (.slice A2 r2.mem.length c2) (.slice B2 r2.ws.length d2)).toArray] w fun e w' => e = .returned (.bool (sameB r1 r2)) ∧ Below w.heap.size w w' := by
  have HB := Lib.hid (((Below.refl w.heap.size w).alloc (Nat.le_refl _) (.cells (resL r1 (.slice A1 r1.mem.length c1) (.slice B1 r1.ws.length d1)).toArray 34)).alloc (by simp) (.cells (resL r2 (.slice A2 r2.mem.length c2) (.slice B2 r2.ws.length d2)).toArray 34))
  have hW1 : w.heap.size < ((w.alloc (.cells (resL r1 (.slice A1 r1.mem.length c1) (.slice B1 r1.ws.length d1)).toArray 34)).alloc (.cells (resL r2 (.slice A2 r2.mem.length c2) (.slice B2 r2.ws.length d2)).toArray 34)).heap.size := by simp; omega
  have V1 := Lib.hid (((h1.alloc (Nat.le_refl _) (.cells (resL r1 (.slice A1 r1.mem.length c1) (.slice B1 r1.ws.length d1)).toArray 34)).alloc (by simp) (.cells (resL r2 (.slice A2 r2.mem.length c2) (.slice B2 r2.ws.length d2)).toArray 34)).more (Nat.le_of_lt hW1))
  have V2 := Lib.hid (((h2.alloc (Nat.le_refl _) (.cells (resL r1 (.slice A1 r1.mem.length c1) (.slice B1 r1.ws.length d1)).toArray 34)).alloc (by simp) (.cells (resL r2 (.slice A2 r2.mem.length c2) (.slice B2 r2.ws.length d2)).toArray 34)).more (Nat.le_of_lt hW1))
  have X1 := Lib.hid ((Box.new w (resL r1 (.slice A1 r1.mem.length c1) (.slice B1 r1.ws.length d1)) 34).alloc (.cells (resL r2 (.slice A2 r2.mem.length c2) (.slice B2 r2.ws.length d2)).toArray 34))
  have X2 : Hid (Box ((w.alloc (.cells (resL r1 (.slice A1 r1.mem.length c1) (.slice B1 r1.ws.length d1)).toArray 34)).alloc (.cells (resL r2 (.slice A2 r2.mem.length c2) (.slice B2 r2.ws.length d2)).toArray 34)) (w.heap.size + 1) (resL r2 (.slice A2 r2.mem.length c2) (.slice B2 r2.ws.length d2))) := by
    have := Box.new (w.alloc (.cells (resL r1 (.slice A1 r1.mem.length c1) (.slice B1 r1.ws.length d1)).toArray 34)) (resL r2 (.slice A2 r2.mem.length c2) (.slice B2 r2.ws.length d2)) 34
    have e : (w.alloc (.cells (resL r1 (.slice A1 r1.mem.length c1) (.slice B1 r1.ws.length d1)).toArray 34)).heap.size = w.heap.size + 1 := by simp
    rw [e] at this
    exact this
  have q := eqIn_regs r1.regs r2.regs ((w.alloc (.cells (resL r1 (.slice A1 r1.mem.length c1) (.slice B1 r1.ws.length d1)).toArray 34)).alloc (.cells (resL r2 (.slice A2 r2.mem.length c2) (.slice B2 r2.ws.length d2)).toArray 34)) h1.regs h2.regs
  have m1 := Lib.hid h1.regs
  have m2 := Lib.hid h2.regs
  have hsm := Lib.hid (show sameB r1 r2 = (decide (r1.regs = r2.regs) && endB r1 r2) from rfl)
  clear h1 h2
  go_enter Try.func19, Try.ntmps19
  cases hd : decide (r1.regs = r2.regs)
  · rw [hd] at q
    have hno := Lib.hid (show sameB r1 r2 = false by rw [hsm.out, hd]; rfl)
    clear hd
    go_wp2_with (first
      | (refine wpList_load_box rfl 31 (.tmp 5) rfl w.heap.size 5 rfl (resL r1 (.slice A1 r1.mem.length c1) (.slice B1 r1.ws.length d1)) (r1.regs.map (Value.int .u32)) X1.out (resL_regs m1.out) _ Try.underlying31 rfl 16 (by kernel_rfl) (by simp [m1.out]) ?_)
      | (refine wpList_load_box rfl 31 (.tmp 7) rfl (w.heap.size + 1) 5 rfl (resL r2 (.slice A2 r2.mem.length c2) (.slice B2 r2.ws.length d2)) (r2.regs.map (Value.int .u32)) X2.out (resL_regs m2.out) _ Try.underlying31 rfl 16 (by kernel_rfl) (by simp [m2.out]) ?_))
    go_ret
    exact ⟨ret_bool hno.out.symm, HB.out⟩
  · rw [hd] at q
    have hyes := Lib.hid (show sameB r1 r2 = endB r1 r2 by rw [hsm.out, hd]; simp)
    clear hd
    go_wp2_with (first
      | (refine wpList_load_box rfl 31 (.tmp 5) rfl w.heap.size 5 rfl (resL r1 (.slice A1 r1.mem.length c1) (.slice B1 r1.ws.length d1)) (r1.regs.map (Value.int .u32)) X1.out (resL_regs m1.out) _ Try.underlying31 rfl 16 (by kernel_rfl) (by simp [m1.out]) ?_)
      | (refine wpList_load_box rfl 31 (.tmp 7) rfl (w.heap.size + 1) 5 rfl (resL r2 (.slice A2 r2.mem.length c2) (.slice B2 r2.ws.length d2)) (r2.regs.map (Value.int .u32)) X2.out (resL_regs m2.out) _ Try.underlying31 rfl 16 (by kernel_rfl) (by simp [m2.out]) ?_)
      | (refine wpList_load_box rfl 34 (.tmp 2) rfl w.heap.size 0 rfl (resL r1 (.slice A1 r1.mem.length c1) (.slice B1 r1.ws.length d1)) (resL r1 (.slice A1 r1.mem.length c1) (.slice B1 r1.ws.length d1)) X1.out (fun j v hv => by rw [Nat.zero_add]; exact hv) _ Try.underlying34 rfl 23 info_res (resL_len m1.out) ?_)
      | (refine wpList_load_box rfl 34 (.tmp 3) rfl (w.heap.size + 1) 0 rfl (resL r2 (.slice A2 r2.mem.length c2) (.slice B2 r2.ws.length d2)) (resL r2 (.slice A2 r2.mem.length c2) (.slice B2 r2.ws.length d2)) X2.out (fun j v hv => by rw [Nat.zero_add]; exact hv) _ Try.underlying34 rfl 23 info_res (resL_len m2.out) ?_))
    refine (refSameEnd_any r1 r2 A1 B1 A2 B2 c1 d1 c2 d2 _ V1.out V2.out f1 f2).mono ?_; rintro e w1 ⟨rfl, hb⟩
    have hb' := HB.out.trans (hb.mono (Nat.le_of_lt hW1))
    clear hb
    go_wp2_with fail
    go_ret
    exact ⟨ret_bool hyes.out.symm, hb'⟩
end
end Go.Proofs.Ytdjllgdeijdieaa.Words

/- The law's own helper 'alive' of chapter 6; how short a result is. -/
namespace Go.Proofs.Ytdjllgdeijdieaa.Words
set_option maxRecDepth 100000
open Go.RowKit
set_option linter.unusedVariables false

/-- The program that the law runs. -/
def aliveP : Prog := ⟨[⟨17, 1, 0, 0, 5⟩, ⟨31, 0, 0, 1, 0⟩, ⟨41, 0, 0, 0, 0⟩], 4, []⟩
theorem aliveP_e : (runZ aliveP 9).e = 1 := by kernel_rfl
theorem aliveP_1 : (runZ aliveP 9).regs.getD 1 0 = 5 := by kernel_rfl
theorem aliveP_ws : (runZ aliveP 9).ws.length = 1 := by kernel_rfl
theorem aliveP_st : (runZ aliveP 9).st = 3 := by kernel_rfl
theorem noneP_run : runZ ⟨[], 0, []⟩ 9 = noRes := by kernel_rfl
set_option maxHeartbeats 1000000 in
theorem seqAlive_any (w : World) : Calls Try.prog 7 #[] w fun e w' => e = .returned (.bool true) ∧ Below w.heap.size w w' := by
  have HB0 := Lib.hid ((Below.refl w.heap.size w).alloc (Nat.le_refl _) (.cells #[.int .i64 17, .int .i64 1, .int .i64 0, .int .i64 0, .int .i64 5, .int .i64 31, .int .i64 0, .int .i64 0, .int .i64 1, .int .i64 0, .int .i64 41, .int .i64 0, .int .i64 0, .int .i64 0, .int .i64 0] 44))
  have HP : Hid (ProgV (w.alloc (.cells #[.int .i64 17, .int .i64 1, .int .i64 0, .int .i64 0, .int .i64 5, .int .i64 31, .int .i64 0, .int .i64 0, .int .i64 1, .int .i64 0, .int .i64 41, .int .i64 0, .int .i64 0, .int .i64 0, .int .i64 0] 44)) (w.alloc (.cells #[.int .i64 17, .int .i64 1, .int .i64 0, .int .i64 0, .int .i64 5, .int .i64 31, .int .i64 0, .int .i64 0, .int .i64 1, .int .i64 0, .int .i64 41, .int .i64 0, .int .i64 0, .int .i64 0, .int .i64 0] 44)).heap.size (.slice (some ⟨w.heap.size, 0, none⟩) 3 3) (.slice none 0 0) aliveP) := by
    refine ⟨⟨rfl, _, _, rfl, Nat.le_refl _, by omega, (fun h => by cases h), fun _ => ⟨w.heap.size, 0, rfl, by simp, fun j u hu => ?_⟩⟩, Row.nil _ _ _⟩
    have := new_cells w #[.int .i64 17, .int .i64 1, .int .i64 0, .int .i64 0, .int .i64 5, .int .i64 31, .int .i64 0, .int .i64 0, .int .i64 1, .int .i64 0, .int .i64 41, .int .i64 0, .int .i64 0, .int .i64 0, .int .i64 0] 44 (codeCells aliveP.code) rfl j u hu
    rwa [add_spot] at this
  go_enter Try.func7, Try.ntmps7
  go_wp2_with fail
  generalize w.alloc (.cells #[.int .i64 17, .int .i64 1, .int .i64 0, .int .i64 0, .int .i64 5, .int .i64 31, .int .i64 0, .int .i64 0, .int .i64 1, .int .i64 0, .int .i64 41, .int .i64 0, .int .i64 0, .int .i64 0, .int .i64 0] 44) = w1 at *
  refine (seqRun_any (some ⟨w.heap.size, 0, none⟩) none 3 0 aliveP w1 9 HP.out (by intro b hb; cases hb) (by omega)).mono ?_; rintro e w2 ⟨vm, vw, rfl, hO, hb2⟩
  have hv1 := own_one hO.mem
  have hv2 := own_one hO.ws
  have h16 := hO.regs
  have HB2 := Lib.hid (HB0.out.trans (hb2.mono HB0.out.size))
  have HOW := Lib.hid hO
  clear HP HB0 hb2 hO
  have BN := Lib.hid (Box.new w2 (resL noRes (.slice none 0 0) (.slice none 0 0)) 34)
  obtain ⟨U, u, rfl⟩ := (Row.of_own HOW.out.ws).form
  clear HOW
  go_wp2_with (refine wpList_store_box rfl 34 (.tmp 1) (.tmp 7) rfl w2.heap.size 0 (resL (runZ aliveP 9) vm (.slice U (runZ aliveP 9).ws.length u)) rfl rfl (resL noRes (.slice none 0 0) (.slice none 0 0)) BN.out (by rw [resL_len h16, resL_len rfl]; exact Nat.le_refl _) 23 info_res (resL_len h16) (resL_one hv1 hv2) ?_; intro w3 hB3 hg3; rw [splice_whole _ _ (by rw [resL_len h16, resL_len rfl])] at hB3; have B3 := Lib.hid hB3; have HB3 := Lib.hid (Below.grown (HB2.out.alloc HB2.out.size (.cells #[.int .i64 0, .int .i64 0, .int .i64 0, .int .i64 0, .int .i64 0, .int .u32 0, .int .u32 0, .int .u32 0, .int .u32 0, .int .u32 0, .int .u32 0, .int .u32 0, .int .u32 0, .int .u32 0, .int .u32 0, .int .u32 0, .int .u32 0, .int .u32 0, .int .u32 0, .int .u32 0, .int .u32 0, .slice none 0 0, .slice none 0 0] 34)) hg3 (HB2.out.alloc HB2.out.size (.cells #[.int .i64 0, .int .i64 0, .int .i64 0, .int .i64 0, .int .i64 0, .int .u32 0, .int .u32 0, .int .u32 0, .int .u32 0, .int .u32 0, .int .u32 0, .int .u32 0, .int .u32 0, .int .u32 0, .int .u32 0, .int .u32 0, .int .u32 0, .int .u32 0, .int .u32 0, .int .u32 0, .int .u32 0, .slice none 0 0, .slice none 0 0] 34)).size (fun k hk => grown_ge hk HB2.out.size)); clear hB3 hg3)
  refine (seqRun_any none none 0 0 ⟨[], 0, []⟩ w3 9 ⟨Row.nil _ _ _, Row.nil _ _ _⟩ (by intro b hb; cases hb) (by omega)).mono ?_; rintro e w4 ⟨vm4, vw4, rfl, hO4, hb4⟩
  rw [noneP_run] at hO4 ⊢
  have B4 := Lib.hid (B3.out.below hb4 B3.out.lt)
  have HB4 := Lib.hid (HB3.out.trans (hb4.mono HB3.out.size))
  have hlt4 : w2.heap.size < w4.heap.size := B4.out.lt
  obtain ⟨A4, c4, rfl⟩ := (Row.of_own hO4.mem).form
  obtain ⟨U4, u4, rfl⟩ := (Row.of_own hO4.ws).form
  have HR4 := Lib.hid hO4.rows
  clear hO4 hb4
  go_wp2_with fail
  refine (refSameRes_any noRes noRes A4 U4 none none c4 u4 0 0 _ HR4.out ⟨Row.nil _ _ _, Row.nil _ _ _, rfl⟩ (by intro b hb; cases hb) (by intro b hb; cases hb)).mono ?_; rintro e w5 ⟨rfl, hb5⟩
  rw [(sameB_iff noRes noRes).2 rfl]
  have B5 := Lib.hid (B4.out.below hb5 hlt4)
  have HB5 := Lib.hid (HB4.out.trans (hb5.mono HB4.out.size))
  have c0 : w5.cell? ⟨w2.heap.size, 0, none⟩ = some (.int .i64 1) := by
    have := B5.out.cell (resL_0 (r := runZ aliveP 9))
    rwa [aliveP_e] at this
  have c6 : w5.cell? ⟨w2.heap.size, 6, none⟩ = some (.int .u32 5) := by
    have := B5.out.cell (resL_reg h16 1 (by omega))
    rwa [aliveP_1] at this
  have c22 : w5.cell? ⟨w2.heap.size, 22, none⟩ = some (.slice U 1 u) := by
    have := B5.out.cell (resL_22 h16)
    rwa [aliveP_ws] at this
  have c4 : w5.cell? ⟨w2.heap.size, 4, none⟩ = some (.int .i64 3) := by
    have := B5.out.cell (resL_4 (r := runZ aliveP 9))
    rwa [aliveP_st] at this
  clear hb5 B3 B4 HR4 BN
  go_wp2_with fail
  go_ret
  exact ⟨rfl, HB5.out⟩

end Go.Proofs.Ytdjllgdeijdieaa.Words

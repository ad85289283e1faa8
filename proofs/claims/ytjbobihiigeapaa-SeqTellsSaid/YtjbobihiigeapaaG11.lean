/- Several texts in one: RefSameEnd, RegsEq, RefSameRes, SeqAlive, AluMath2, AluRefDo, RefSizes. -/
import Derived.Test.YtjbobihiigeapaaG01
import Derived.Test.YtjbobihiigeapaaG10
import Derived.LoopTactic
import Derived.LoopN
import Derived.Laws.StructEq
import Derived.ChangeKeysEq
import Derived.Test.YtjbobihiigeapaaG02
import Derived.Test.YtjbobihiigeapaaG04
import Derived.Test.YtjbobihiigeapaaRows
import Derived.Test.YtjbobihiigeapaaG00

/- Contract of the document's own SameEnd: are two results one, but their registers? -/
namespace Go.Proofs.Ytjbobihiigeapaa.Words
set_option maxRecDepth 100000
open Go.RowKit
set_option linter.unusedVariables false

theorem Wr.eq_iff (a b : Wr) : a = b ↔ a.addr = b.addr ∧ a.size = b.size ∧ a.val = b.val := by cases a; cases b; simp
theorem eqFields_wr (i k : Wr) (w : World) : (Op.equalIn 10000 45 (.agg #[.int .i64 i.addr, .int .i64 i.size, .int .u32 i.val]) (.agg #[.int .i64 k.addr, .int .i64 k.size, .int .u32 k.val])).run Try.prog w = .ok (decide (i = k)) w := by
  have hS : Try.prog.underlying 45 = some (.struct (Try.prog.fieldsOf 45)) := by kernel_rfl
  have hp : Try.prog.stoodInHeld 45 = false := by kernel_rfl
  rw [show (10000 : Nat) = 9999 + 1 from rfl, run_equalIn_agg w 9999 45 _ _ hS hp]
  simp only [Program.fieldsOf, Try.underlying45]
  go_simp
  have e := Wr.eq_iff i k
  by_cases h1 : i.addr = k.addr <;> by_cases h2 : i.size = k.size <;> by_cases h3 : i.val = k.val <;> simp [h1, h2, h3, e]
theorem neq_wr (i k : Wr) (w : World) : (binOp .neq 45 (.agg #[.int .i64 i.addr, .int .i64 i.size, .int .u32 i.val]) (.agg #[.int .i64 k.addr, .int .i64 k.size, .int .u32 k.val])).run Try.prog w = .ok (.bool (!decide (i = k))) w := by
  rw [run_neq_struct, eqFields_wr]; rfl
theorem neq_trap (a b c x y z : Int) (w : World) : (binOp .neq 27 (.agg #[.int .i64 a, .int .i64 b, .int .i64 c]) (.agg #[.int .i64 x, .int .i64 y, .int .i64 z])).run Try.prog w = .ok (.bool (!decide (a = x ∧ b = y ∧ c = z))) w := by
  have hS : Try.prog.underlying 27 = some (.struct (Try.prog.fieldsOf 27)) := by kernel_rfl
  have hp : Try.prog.stoodInHeld 27 = false := by kernel_rfl
  have e : (Op.equalIn 10000 27 (.agg #[.int .i64 a, .int .i64 b, .int .i64 c]) (.agg #[.int .i64 x, .int .i64 y, .int .i64 z])).run Try.prog w = .ok (decide (a = x ∧ b = y ∧ c = z)) w := by
    rw [show (10000 : Nat) = 9999 + 1 from rfl, run_equalIn_agg w 9999 27 _ _ hS hp]
    simp only [Program.fieldsOf, Try.underlying27]
    go_simp
    by_cases h1 : a = x <;> by_cases h2 : b = y <;> by_cases h3 : c = z <;> simp [h1, h2, h3]
  rw [run_neq_struct, e]; rfl
theorem Row.wr {w : World} {B n c : Nat} {b off : Nat} {l : List Wr} (h : Row w B 3 (.slice (some ⟨b, off, none⟩) n c) n (wsL l)) {k : Nat} {i : Wr} (hi : l[k]? = some i) :
    w.cell? ⟨b, off + k * 3, none⟩ = some (.int .i64 i.addr) ∧ w.cell? ⟨b, off + k * 3 + 1, none⟩ = some (.int .i64 i.size) ∧ w.cell? ⟨b, off + k * 3 + 2, none⟩ = some (.int .u32 i.val) := by
  have g : ∀ j u, j < 3 → (wrL i)[j]? = some u → w.cell? ⟨b, off + k * 3 + j, none⟩ = some u := by
    intro j u hj hu
    have := h.cells ⟨b, off, none⟩ rfl (k * 3 + j) u ((wsL_at l k i hi j hj).trans hu)
    rwa [add_spot, ← Nat.add_assoc] at this
  exact ⟨g 0 _ (by omega) rfl, g 1 _ (by omega) rfl, g 2 _ (by omega) rfl⟩
theorem wr_drop_step {l m : List Wr} {j : Nat} {x y : Wr} (hx : l[j]? = some x) (hy : m[j]? = some y) : (l.drop j = m.drop j) ↔ (x = y ∧ l.drop (j + 1) = m.drop (j + 1)) := by
  obtain ⟨h1, rfl⟩ := List.getElem?_eq_some_iff.1 hx
  obtain ⟨h2, rfl⟩ := List.getElem?_eq_some_iff.1 hy
  rw [List.drop_eq_getElem_cons h1, List.drop_eq_getElem_cons h2, List.cons.injEq]
theorem wr_at {l : List Wr} {j : Nat} (h : j < l.length) : ∃ i, l[j]? = some i := ⟨_, List.getElem?_eq_getElem h⟩

/-- Are two results one, but their registers? -/
def endB (a b : Res) : Bool := decide (a.e = b.e ∧ (a.tk = b.tk ∧ a.ts = b.ts ∧ a.tp = b.tp) ∧ a.st = b.st ∧ a.mem = b.mem ∧ a.ws = b.ws)

section
variable (r1 r2 : Res) (A1 B1 A2 B2 : Option Addr) (c1 d1 c2 d2 : Nat) (w : World)

set_option maxRecDepth 20000 in
set_option maxHeartbeats 400000 in
theorem refSameEnd_no0 (h1 : ResV w w.heap.size (.slice A1 r1.mem.length c1) (.slice B1 r1.ws.length d1) r1) (h2 : ResV w w.heap.size (.slice A2 r2.mem.length c2) (.slice B2 r2.ws.length d2) r2) (f1 : ∀ b ∈ r1.mem, 0 ≤ b ∧ b ≤ 255) (f2 : ∀ b ∈ r2.mem, 0 ≤ b ∧ b ≤ 255)  (t0 : ¬ (r1.e = r2.e)) :
    Calls Try.prog 37 #[.agg (resL r1 (.slice A1 r1.mem.length c1) (.slice B1 r1.ws.length d1)).toArray, .agg (resL r2 (.slice A2 r2.mem.length c2) (.slice B2 r2.ws.length d2)).toArray] w fun e w' => e = .returned (.bool (endB r1 r2)) ∧ Below w.heap.size w w' := by
  have hno := Lib.hid (show endB r1 r2 = false from decide_eq_false (fun g => t0 g.1))
  have HB := Lib.hid (((Below.refl w.heap.size w).alloc (Nat.le_refl _) (.cells (resL r1 (.slice A1 r1.mem.length c1) (.slice B1 r1.ws.length d1)).toArray 32)).alloc (by simp) (.cells (resL r2 (.slice A2 r2.mem.length c2) (.slice B2 r2.ws.length d2)).toArray 32))
  have g1_0 : (resL r1 (.slice A1 r1.mem.length c1) (.slice B1 r1.ws.length d1))[0]? = some (.int .i64 r1.e) := rfl
  have g1_1 : (resL r1 (.slice A1 r1.mem.length c1) (.slice B1 r1.ws.length d1))[1]? = some (.int .i64 r1.tk) := rfl
  have g1_2 : (resL r1 (.slice A1 r1.mem.length c1) (.slice B1 r1.ws.length d1))[2]? = some (.int .i64 r1.ts) := rfl
  have g1_3 : (resL r1 (.slice A1 r1.mem.length c1) (.slice B1 r1.ws.length d1))[3]? = some (.int .i64 r1.tp) := rfl
  have g1_4 : (resL r1 (.slice A1 r1.mem.length c1) (.slice B1 r1.ws.length d1))[4]? = some (.int .i64 r1.st) := rfl
  have g1_21 : (resL r1 (.slice A1 r1.mem.length c1) (.slice B1 r1.ws.length d1))[21]? = some (.slice A1 r1.mem.length c1) := resL_21 h1.regs
  have g1_22 : (resL r1 (.slice A1 r1.mem.length c1) (.slice B1 r1.ws.length d1))[22]? = some (.slice B1 r1.ws.length d1) := resL_22 h1.regs
  have g2_0 : (resL r2 (.slice A2 r2.mem.length c2) (.slice B2 r2.ws.length d2))[0]? = some (.int .i64 r2.e) := rfl
  have g2_1 : (resL r2 (.slice A2 r2.mem.length c2) (.slice B2 r2.ws.length d2))[1]? = some (.int .i64 r2.tk) := rfl
  have g2_2 : (resL r2 (.slice A2 r2.mem.length c2) (.slice B2 r2.ws.length d2))[2]? = some (.int .i64 r2.ts) := rfl
  have g2_3 : (resL r2 (.slice A2 r2.mem.length c2) (.slice B2 r2.ws.length d2))[3]? = some (.int .i64 r2.tp) := rfl
  have g2_4 : (resL r2 (.slice A2 r2.mem.length c2) (.slice B2 r2.ws.length d2))[4]? = some (.int .i64 r2.st) := rfl
  have g2_21 : (resL r2 (.slice A2 r2.mem.length c2) (.slice B2 r2.ws.length d2))[21]? = some (.slice A2 r2.mem.length c2) := resL_21 h2.regs
  have g2_22 : (resL r2 (.slice A2 r2.mem.length c2) (.slice B2 r2.ws.length d2))[22]? = some (.slice B2 r2.ws.length d2) := resL_22 h2.regs
  have q1 : (r1.e != r2.e) = true := by simp; exact t0
  clear h1 h2 f1 f2 t0
  go_enter Try.func37, Try.ntmps37
  go_wp2_with fail
  go_ret
  exact ⟨ret_bool hno.out.symm, HB.out⟩

set_option maxRecDepth 20000 in
set_option maxHeartbeats 400000 in
theorem refSameEnd_no1 (h1 : ResV w w.heap.size (.slice A1 r1.mem.length c1) (.slice B1 r1.ws.length d1) r1) (h2 : ResV w w.heap.size (.slice A2 r2.mem.length c2) (.slice B2 r2.ws.length d2) r2) (f1 : ∀ b ∈ r1.mem, 0 ≤ b ∧ b ≤ 255) (f2 : ∀ b ∈ r2.mem, 0 ≤ b ∧ b ≤ 255) (t0 : r1.e = r2.e) (t1 : ¬ (r1.tk = r2.tk ∧ r1.ts = r2.ts ∧ r1.tp = r2.tp)) :
    Calls Try.prog 37 #[.agg (resL r1 (.slice A1 r1.mem.length c1) (.slice B1 r1.ws.length d1)).toArray, .agg (resL r2 (.slice A2 r2.mem.length c2) (.slice B2 r2.ws.length d2)).toArray] w fun e w' => e = .returned (.bool (endB r1 r2)) ∧ Below w.heap.size w w' := by
  have hno := Lib.hid (show endB r1 r2 = false from decide_eq_false (fun g => t1 g.2.1))
  have HB := Lib.hid (((Below.refl w.heap.size w).alloc (Nat.le_refl _) (.cells (resL r1 (.slice A1 r1.mem.length c1) (.slice B1 r1.ws.length d1)).toArray 32)).alloc (by simp) (.cells (resL r2 (.slice A2 r2.mem.length c2) (.slice B2 r2.ws.length d2)).toArray 32))
  have g1_0 : (resL r1 (.slice A1 r1.mem.length c1) (.slice B1 r1.ws.length d1))[0]? = some (.int .i64 r1.e) := rfl
  have g1_1 : (resL r1 (.slice A1 r1.mem.length c1) (.slice B1 r1.ws.length d1))[1]? = some (.int .i64 r1.tk) := rfl
  have g1_2 : (resL r1 (.slice A1 r1.mem.length c1) (.slice B1 r1.ws.length d1))[2]? = some (.int .i64 r1.ts) := rfl
  have g1_3 : (resL r1 (.slice A1 r1.mem.length c1) (.slice B1 r1.ws.length d1))[3]? = some (.int .i64 r1.tp) := rfl
  have g1_4 : (resL r1 (.slice A1 r1.mem.length c1) (.slice B1 r1.ws.length d1))[4]? = some (.int .i64 r1.st) := rfl
  have g1_21 : (resL r1 (.slice A1 r1.mem.length c1) (.slice B1 r1.ws.length d1))[21]? = some (.slice A1 r1.mem.length c1) := resL_21 h1.regs
  have g1_22 : (resL r1 (.slice A1 r1.mem.length c1) (.slice B1 r1.ws.length d1))[22]? = some (.slice B1 r1.ws.length d1) := resL_22 h1.regs
  have g2_0 : (resL r2 (.slice A2 r2.mem.length c2) (.slice B2 r2.ws.length d2))[0]? = some (.int .i64 r1.e) := by rw [t0]; rfl
  have g2_1 : (resL r2 (.slice A2 r2.mem.length c2) (.slice B2 r2.ws.length d2))[1]? = some (.int .i64 r2.tk) := rfl
  have g2_2 : (resL r2 (.slice A2 r2.mem.length c2) (.slice B2 r2.ws.length d2))[2]? = some (.int .i64 r2.ts) := rfl
  have g2_3 : (resL r2 (.slice A2 r2.mem.length c2) (.slice B2 r2.ws.length d2))[3]? = some (.int .i64 r2.tp) := rfl
  have g2_4 : (resL r2 (.slice A2 r2.mem.length c2) (.slice B2 r2.ws.length d2))[4]? = some (.int .i64 r2.st) := rfl
  have g2_21 : (resL r2 (.slice A2 r2.mem.length c2) (.slice B2 r2.ws.length d2))[21]? = some (.slice A2 r2.mem.length c2) := resL_21 h2.regs
  have g2_22 : (resL r2 (.slice A2 r2.mem.length c2) (.slice B2 r2.ws.length d2))[22]? = some (.slice B2 r2.ws.length d2) := resL_22 h2.regs
  clear h1 h2 f1 f2 t0
  go_enter Try.func37, Try.ntmps37
  go_wp2_with fail
  all_goals (go_ret; exact ⟨ret_bool hno.out.symm, HB.out⟩)
  

set_option maxRecDepth 20000 in
set_option maxHeartbeats 400000 in
theorem refSameEnd_no2 (h1 : ResV w w.heap.size (.slice A1 r1.mem.length c1) (.slice B1 r1.ws.length d1) r1) (h2 : ResV w w.heap.size (.slice A2 r2.mem.length c2) (.slice B2 r2.ws.length d2) r2) (f1 : ∀ b ∈ r1.mem, 0 ≤ b ∧ b ≤ 255) (f2 : ∀ b ∈ r2.mem, 0 ≤ b ∧ b ≤ 255) (t0 : r1.e = r2.e) (t1 : r1.tk = r2.tk ∧ r1.ts = r2.ts ∧ r1.tp = r2.tp) (t2 : ¬ (r1.st = r2.st)) :
    Calls Try.prog 37 #[.agg (resL r1 (.slice A1 r1.mem.length c1) (.slice B1 r1.ws.length d1)).toArray, .agg (resL r2 (.slice A2 r2.mem.length c2) (.slice B2 r2.ws.length d2)).toArray] w fun e w' => e = .returned (.bool (endB r1 r2)) ∧ Below w.heap.size w w' := by
  have hno := Lib.hid (show endB r1 r2 = false from decide_eq_false (fun g => t2 g.2.2.1))
  have HB := Lib.hid (((Below.refl w.heap.size w).alloc (Nat.le_refl _) (.cells (resL r1 (.slice A1 r1.mem.length c1) (.slice B1 r1.ws.length d1)).toArray 32)).alloc (by simp) (.cells (resL r2 (.slice A2 r2.mem.length c2) (.slice B2 r2.ws.length d2)).toArray 32))
  have g1_0 : (resL r1 (.slice A1 r1.mem.length c1) (.slice B1 r1.ws.length d1))[0]? = some (.int .i64 r1.e) := rfl
  have g1_1 : (resL r1 (.slice A1 r1.mem.length c1) (.slice B1 r1.ws.length d1))[1]? = some (.int .i64 r1.tk) := rfl
  have g1_2 : (resL r1 (.slice A1 r1.mem.length c1) (.slice B1 r1.ws.length d1))[2]? = some (.int .i64 r1.ts) := rfl
  have g1_3 : (resL r1 (.slice A1 r1.mem.length c1) (.slice B1 r1.ws.length d1))[3]? = some (.int .i64 r1.tp) := rfl
  have g1_4 : (resL r1 (.slice A1 r1.mem.length c1) (.slice B1 r1.ws.length d1))[4]? = some (.int .i64 r1.st) := rfl
  have g1_21 : (resL r1 (.slice A1 r1.mem.length c1) (.slice B1 r1.ws.length d1))[21]? = some (.slice A1 r1.mem.length c1) := resL_21 h1.regs
  have g1_22 : (resL r1 (.slice A1 r1.mem.length c1) (.slice B1 r1.ws.length d1))[22]? = some (.slice B1 r1.ws.length d1) := resL_22 h1.regs
  have g2_0 : (resL r2 (.slice A2 r2.mem.length c2) (.slice B2 r2.ws.length d2))[0]? = some (.int .i64 r1.e) := by rw [t0]; rfl
  have g2_1 : (resL r2 (.slice A2 r2.mem.length c2) (.slice B2 r2.ws.length d2))[1]? = some (.int .i64 r1.tk) := by rw [t1.1]; rfl
  have g2_2 : (resL r2 (.slice A2 r2.mem.length c2) (.slice B2 r2.ws.length d2))[2]? = some (.int .i64 r1.ts) := by rw [t1.2.1]; rfl
  have g2_3 : (resL r2 (.slice A2 r2.mem.length c2) (.slice B2 r2.ws.length d2))[3]? = some (.int .i64 r1.tp) := by rw [t1.2.2]; rfl
  have g2_4 : (resL r2 (.slice A2 r2.mem.length c2) (.slice B2 r2.ws.length d2))[4]? = some (.int .i64 r2.st) := rfl
  have g2_21 : (resL r2 (.slice A2 r2.mem.length c2) (.slice B2 r2.ws.length d2))[21]? = some (.slice A2 r2.mem.length c2) := resL_21 h2.regs
  have g2_22 : (resL r2 (.slice A2 r2.mem.length c2) (.slice B2 r2.ws.length d2))[22]? = some (.slice B2 r2.ws.length d2) := resL_22 h2.regs
  have q3 : (r1.st != r2.st) = true := by simp; exact t2
  clear h1 h2 f1 f2 t0 t1 t2
  go_enter Try.func37, Try.ntmps37
  go_wp2_with fail
  go_ret
  exact ⟨ret_bool hno.out.symm, HB.out⟩

set_option maxRecDepth 20000 in
set_option maxHeartbeats 400000 in
theorem refSameEnd_no3 (h1 : ResV w w.heap.size (.slice A1 r1.mem.length c1) (.slice B1 r1.ws.length d1) r1) (h2 : ResV w w.heap.size (.slice A2 r2.mem.length c2) (.slice B2 r2.ws.length d2) r2) (f1 : ∀ b ∈ r1.mem, 0 ≤ b ∧ b ≤ 255) (f2 : ∀ b ∈ r2.mem, 0 ≤ b ∧ b ≤ 255) (t0 : r1.e = r2.e) (t1 : r1.tk = r2.tk ∧ r1.ts = r2.ts ∧ r1.tp = r2.tp) (t2 : r1.st = r2.st) (t3 : ¬ (r1.mem = r2.mem)) :
    Calls Try.prog 37 #[.agg (resL r1 (.slice A1 r1.mem.length c1) (.slice B1 r1.ws.length d1)).toArray, .agg (resL r2 (.slice A2 r2.mem.length c2) (.slice B2 r2.ws.length d2)).toArray] w fun e w' => e = .returned (.bool (endB r1 r2)) ∧ Below w.heap.size w w' := by
  have hno := Lib.hid (show endB r1 r2 = false from decide_eq_false (fun g => t3 g.2.2.2.1))
  have HB := Lib.hid (((Below.refl w.heap.size w).alloc (Nat.le_refl _) (.cells (resL r1 (.slice A1 r1.mem.length c1) (.slice B1 r1.ws.length d1)).toArray 32)).alloc (by simp) (.cells (resL r2 (.slice A2 r2.mem.length c2) (.slice B2 r2.ws.length d2)).toArray 32))
  have g1_0 : (resL r1 (.slice A1 r1.mem.length c1) (.slice B1 r1.ws.length d1))[0]? = some (.int .i64 r1.e) := rfl
  have g1_1 : (resL r1 (.slice A1 r1.mem.length c1) (.slice B1 r1.ws.length d1))[1]? = some (.int .i64 r1.tk) := rfl
  have g1_2 : (resL r1 (.slice A1 r1.mem.length c1) (.slice B1 r1.ws.length d1))[2]? = some (.int .i64 r1.ts) := rfl
  have g1_3 : (resL r1 (.slice A1 r1.mem.length c1) (.slice B1 r1.ws.length d1))[3]? = some (.int .i64 r1.tp) := rfl
  have g1_4 : (resL r1 (.slice A1 r1.mem.length c1) (.slice B1 r1.ws.length d1))[4]? = some (.int .i64 r1.st) := rfl
  have g1_21 : (resL r1 (.slice A1 r1.mem.length c1) (.slice B1 r1.ws.length d1))[21]? = some (.slice A1 r1.mem.length c1) := resL_21 h1.regs
  have g1_22 : (resL r1 (.slice A1 r1.mem.length c1) (.slice B1 r1.ws.length d1))[22]? = some (.slice B1 r1.ws.length d1) := resL_22 h1.regs
  have g2_0 : (resL r2 (.slice A2 r2.mem.length c2) (.slice B2 r2.ws.length d2))[0]? = some (.int .i64 r1.e) := by rw [t0]; rfl
  have g2_1 : (resL r2 (.slice A2 r2.mem.length c2) (.slice B2 r2.ws.length d2))[1]? = some (.int .i64 r1.tk) := by rw [t1.1]; rfl
  have g2_2 : (resL r2 (.slice A2 r2.mem.length c2) (.slice B2 r2.ws.length d2))[2]? = some (.int .i64 r1.ts) := by rw [t1.2.1]; rfl
  have g2_3 : (resL r2 (.slice A2 r2.mem.length c2) (.slice B2 r2.ws.length d2))[3]? = some (.int .i64 r1.tp) := by rw [t1.2.2]; rfl
  have g2_4 : (resL r2 (.slice A2 r2.mem.length c2) (.slice B2 r2.ws.length d2))[4]? = some (.int .i64 r1.st) := by rw [t2]; rfl
  have g2_21 : (resL r2 (.slice A2 r2.mem.length c2) (.slice B2 r2.ws.length d2))[21]? = some (.slice A2 r2.mem.length c2) := resL_21 h2.regs
  have g2_22 : (resL r2 (.slice A2 r2.mem.length c2) (.slice B2 r2.ws.length d2))[22]? = some (.slice B2 r2.ws.length d2) := resL_22 h2.regs
  have v1 := conv_row (P := Try.prog) ((w.alloc (.cells (resL r1 (.slice A1 r1.mem.length c1) (.slice B1 r1.ws.length d1)).toArray 32)).alloc (.cells (resL r2 (.slice A2 r2.mem.length c2) (.slice B2 r2.ws.length d2)).toArray 32)) 23 5 Try.underlying23 Try.underlying5 ((h1.mem.alloc (Nat.le_refl _) (.cells (resL r1 (.slice A1 r1.mem.length c1) (.slice B1 r1.ws.length d1)).toArray 32)).alloc (by simp) (.cells (resL r2 (.slice A2 r2.mem.length c2) (.slice B2 r2.ws.length d2)).toArray 32)) 9 Try.underlying9
  have v2 := conv_row (P := Try.prog) ((w.alloc (.cells (resL r1 (.slice A1 r1.mem.length c1) (.slice B1 r1.ws.length d1)).toArray 32)).alloc (.cells (resL r2 (.slice A2 r2.mem.length c2) (.slice B2 r2.ws.length d2)).toArray 32)) 23 5 Try.underlying23 Try.underlying5 ((h2.mem.alloc (Nat.le_refl _) (.cells (resL r1 (.slice A1 r1.mem.length c1) (.slice B1 r1.ws.length d1)).toArray 32)).alloc (by simp) (.cells (resL r2 (.slice A2 r2.mem.length c2) (.slice B2 r2.ws.length d2)).toArray 32)) 9 Try.underlying9
  have q4 := str_eq f1 f2
  rw [decide_eq_false t3] at q4
  clear h1 h2 f1 f2 t0 t1 t2 t3
  go_enter Try.func37, Try.ntmps37
  go_wp2_with fail
  go_ret
  exact ⟨ret_bool hno.out.symm, HB.out⟩

set_option maxRecDepth 20000 in
set_option maxHeartbeats 400000 in
theorem refSameEnd_no4 (h1 : ResV w w.heap.size (.slice A1 r1.mem.length c1) (.slice B1 r1.ws.length d1) r1) (h2 : ResV w w.heap.size (.slice A2 r2.mem.length c2) (.slice B2 r2.ws.length d2) r2) (f1 : ∀ b ∈ r1.mem, 0 ≤ b ∧ b ≤ 255) (f2 : ∀ b ∈ r2.mem, 0 ≤ b ∧ b ≤ 255) (t0 : r1.e = r2.e) (t1 : r1.tk = r2.tk ∧ r1.ts = r2.ts ∧ r1.tp = r2.tp) (t2 : r1.st = r2.st) (t3 : r1.mem = r2.mem) (t4 : ¬ (r1.ws.length = r2.ws.length)) :
    Calls Try.prog 37 #[.agg (resL r1 (.slice A1 r1.mem.length c1) (.slice B1 r1.ws.length d1)).toArray, .agg (resL r2 (.slice A2 r2.mem.length c2) (.slice B2 r2.ws.length d2)).toArray] w fun e w' => e = .returned (.bool (endB r1 r2)) ∧ Below w.heap.size w w' := by
  have hno := Lib.hid (show endB r1 r2 = false from decide_eq_false (fun g => t4 (by rw [g.2.2.2.2])))
  have HB := Lib.hid (((Below.refl w.heap.size w).alloc (Nat.le_refl _) (.cells (resL r1 (.slice A1 r1.mem.length c1) (.slice B1 r1.ws.length d1)).toArray 32)).alloc (by simp) (.cells (resL r2 (.slice A2 r2.mem.length c2) (.slice B2 r2.ws.length d2)).toArray 32))
  have g1_0 : (resL r1 (.slice A1 r1.mem.length c1) (.slice B1 r1.ws.length d1))[0]? = some (.int .i64 r1.e) := rfl
  have g1_1 : (resL r1 (.slice A1 r1.mem.length c1) (.slice B1 r1.ws.length d1))[1]? = some (.int .i64 r1.tk) := rfl
  have g1_2 : (resL r1 (.slice A1 r1.mem.length c1) (.slice B1 r1.ws.length d1))[2]? = some (.int .i64 r1.ts) := rfl
  have g1_3 : (resL r1 (.slice A1 r1.mem.length c1) (.slice B1 r1.ws.length d1))[3]? = some (.int .i64 r1.tp) := rfl
  have g1_4 : (resL r1 (.slice A1 r1.mem.length c1) (.slice B1 r1.ws.length d1))[4]? = some (.int .i64 r1.st) := rfl
  have g1_21 : (resL r1 (.slice A1 r1.mem.length c1) (.slice B1 r1.ws.length d1))[21]? = some (.slice A1 r1.mem.length c1) := resL_21 h1.regs
  have g1_22 : (resL r1 (.slice A1 r1.mem.length c1) (.slice B1 r1.ws.length d1))[22]? = some (.slice B1 r1.ws.length d1) := resL_22 h1.regs
  have g2_0 : (resL r2 (.slice A2 r2.mem.length c2) (.slice B2 r2.ws.length d2))[0]? = some (.int .i64 r1.e) := by rw [t0]; rfl
  have g2_1 : (resL r2 (.slice A2 r2.mem.length c2) (.slice B2 r2.ws.length d2))[1]? = some (.int .i64 r1.tk) := by rw [t1.1]; rfl
  have g2_2 : (resL r2 (.slice A2 r2.mem.length c2) (.slice B2 r2.ws.length d2))[2]? = some (.int .i64 r1.ts) := by rw [t1.2.1]; rfl
  have g2_3 : (resL r2 (.slice A2 r2.mem.length c2) (.slice B2 r2.ws.length d2))[3]? = some (.int .i64 r1.tp) := by rw [t1.2.2]; rfl
  have g2_4 : (resL r2 (.slice A2 r2.mem.length c2) (.slice B2 r2.ws.length d2))[4]? = some (.int .i64 r1.st) := by rw [t2]; rfl
  have g2_21 : (resL r2 (.slice A2 r2.mem.length c2) (.slice B2 r2.ws.length d2))[21]? = some (.slice A2 r2.mem.length c2) := resL_21 h2.regs
  have g2_22 : (resL r2 (.slice A2 r2.mem.length c2) (.slice B2 r2.ws.length d2))[22]? = some (.slice B2 r2.ws.length d2) := resL_22 h2.regs
  have v1 := conv_row (P := Try.prog) ((w.alloc (.cells (resL r1 (.slice A1 r1.mem.length c1) (.slice B1 r1.ws.length d1)).toArray 32)).alloc (.cells (resL r2 (.slice A2 r2.mem.length c2) (.slice B2 r2.ws.length d2)).toArray 32)) 23 5 Try.underlying23 Try.underlying5 ((h1.mem.alloc (Nat.le_refl _) (.cells (resL r1 (.slice A1 r1.mem.length c1) (.slice B1 r1.ws.length d1)).toArray 32)).alloc (by simp) (.cells (resL r2 (.slice A2 r2.mem.length c2) (.slice B2 r2.ws.length d2)).toArray 32)) 9 Try.underlying9
  have v2 := conv_row (P := Try.prog) ((w.alloc (.cells (resL r1 (.slice A1 r1.mem.length c1) (.slice B1 r1.ws.length d1)).toArray 32)).alloc (.cells (resL r2 (.slice A2 r2.mem.length c2) (.slice B2 r2.ws.length d2)).toArray 32)) 23 5 Try.underlying23 Try.underlying5 ((h2.mem.alloc (Nat.le_refl _) (.cells (resL r1 (.slice A1 r1.mem.length c1) (.slice B1 r1.ws.length d1)).toArray 32)).alloc (by simp) (.cells (resL r2 (.slice A2 r2.mem.length c2) (.slice B2 r2.ws.length d2)).toArray 32)) 9 Try.underlying9
  rw [show strOfNums r2.mem = strOfNums r1.mem by rw [t3]] at v2
  have q5 : ((r1.ws.length : Int) != r2.ws.length) = true := by simp; omega
  clear h1 h2 f1 f2 t0 t1 t2 t3 t4
  go_enter Try.func37, Try.ntmps37
  go_wp2_with fail
  go_ret
  exact ⟨ret_bool hno.out.symm, HB.out⟩

set_option maxRecDepth 20000 in
set_option maxHeartbeats 1000000 in
theorem refSameEnd_loop (h1 : ResV w w.heap.size (.slice A1 r1.mem.length c1) (.slice B1 r1.ws.length d1) r1) (h2 : ResV w w.heap.size (.slice A2 r2.mem.length c2) (.slice B2 r2.ws.length d2) r2) (f1 : ∀ b ∈ r1.mem, 0 ≤ b ∧ b ≤ 255) (f2 : ∀ b ∈ r2.mem, 0 ≤ b ∧ b ≤ 255) (t0 : r1.e = r2.e) (t1 : r1.tk = r2.tk ∧ r1.ts = r2.ts ∧ r1.tp = r2.tp) (t2 : r1.st = r2.st) (t3 : r1.mem = r2.mem) (t4 : r1.ws.length = r2.ws.length) :
    Calls Try.prog 37 #[.agg (resL r1 (.slice A1 r1.mem.length c1) (.slice B1 r1.ws.length d1)).toArray, .agg (resL r2 (.slice A2 r2.mem.length c2) (.slice B2 r2.ws.length d2)).toArray] w fun e w' => e = .returned (.bool (endB r1 r2)) ∧ Below w.heap.size w w' := by
  have HE := Lib.hid (show endB r1 r2 = decide (r1.ws = r2.ws) by unfold endB; congr 1; apply propext; exact ⟨fun g => g.2.2.2.2, fun g => ⟨t0, t1, t2, t3, g⟩⟩)
  have HB := Lib.hid (((Below.refl w.heap.size w).alloc (Nat.le_refl _) (.cells (resL r1 (.slice A1 r1.mem.length c1) (.slice B1 r1.ws.length d1)).toArray 32)).alloc (by simp) (.cells (resL r2 (.slice A2 r2.mem.length c2) (.slice B2 r2.ws.length d2)).toArray 32))
  have hW1 : w.heap.size < ((w.alloc (.cells (resL r1 (.slice A1 r1.mem.length c1) (.slice B1 r1.ws.length d1)).toArray 32)).alloc (.cells (resL r2 (.slice A2 r2.mem.length c2) (.slice B2 r2.ws.length d2)).toArray 32)).heap.size := by simp; omega
  have hW2 : w.heap.size + 1 < ((w.alloc (.cells (resL r1 (.slice A1 r1.mem.length c1) (.slice B1 r1.ws.length d1)).toArray 32)).alloc (.cells (resL r2 (.slice A2 r2.mem.length c2) (.slice B2 r2.ws.length d2)).toArray 32)).heap.size := by simp
  have R1 := Lib.hid (((h1.ws.alloc (Nat.le_refl _) (.cells (resL r1 (.slice A1 r1.mem.length c1) (.slice B1 r1.ws.length d1)).toArray 32)).alloc (by simp) (.cells (resL r2 (.slice A2 r2.mem.length c2) (.slice B2 r2.ws.length d2)).toArray 32)).more (Nat.le_of_lt hW1))
  have R2 := Lib.hid (((h2.ws.alloc (Nat.le_refl _) (.cells (resL r1 (.slice A1 r1.mem.length c1) (.slice B1 r1.ws.length d1)).toArray 32)).alloc (by simp) (.cells (resL r2 (.slice A2 r2.mem.length c2) (.slice B2 r2.ws.length d2)).toArray 32)).more (Nat.le_of_lt hW1))
  have X1 := Lib.hid (((Box.new w (resL r1 (.slice A1 r1.mem.length c1) (.slice B1 r1.ws.length d1)) 32).alloc (.cells (resL r2 (.slice A2 r2.mem.length c2) (.slice B2 r2.ws.length d2)).toArray 32)).cell (resL_22 h1.regs))
  have X2 : Hid (((w.alloc (.cells (resL r1 (.slice A1 r1.mem.length c1) (.slice B1 r1.ws.length d1)).toArray 32)).alloc (.cells (resL r2 (.slice A2 r2.mem.length c2) (.slice B2 r2.ws.length d2)).toArray 32)).cell? ⟨w.heap.size + 1, 22, none⟩ = some (.slice B2 r2.ws.length d2)) := by
    have := (Box.new (w.alloc (.cells (resL r1 (.slice A1 r1.mem.length c1) (.slice B1 r1.ws.length d1)).toArray 32)) (resL r2 (.slice A2 r2.mem.length c2) (.slice B2 r2.ws.length d2)) 32).cell (resL_22 h2.regs)
    have e : (w.alloc (.cells (resL r1 (.slice A1 r1.mem.length c1) (.slice B1 r1.ws.length d1)).toArray 32)).heap.size = w.heap.size + 1 := by simp
    rw [e] at this
    exact this
  have g1_0 : (resL r1 (.slice A1 r1.mem.length c1) (.slice B1 r1.ws.length d1))[0]? = some (.int .i64 r1.e) := rfl
  have g1_1 : (resL r1 (.slice A1 r1.mem.length c1) (.slice B1 r1.ws.length d1))[1]? = some (.int .i64 r1.tk) := rfl
  have g1_2 : (resL r1 (.slice A1 r1.mem.length c1) (.slice B1 r1.ws.length d1))[2]? = some (.int .i64 r1.ts) := rfl
  have g1_3 : (resL r1 (.slice A1 r1.mem.length c1) (.slice B1 r1.ws.length d1))[3]? = some (.int .i64 r1.tp) := rfl
  have g1_4 : (resL r1 (.slice A1 r1.mem.length c1) (.slice B1 r1.ws.length d1))[4]? = some (.int .i64 r1.st) := rfl
  have g1_21 : (resL r1 (.slice A1 r1.mem.length c1) (.slice B1 r1.ws.length d1))[21]? = some (.slice A1 r1.mem.length c1) := resL_21 h1.regs
  have g1_22 : (resL r1 (.slice A1 r1.mem.length c1) (.slice B1 r1.ws.length d1))[22]? = some (.slice B1 r1.ws.length d1) := resL_22 h1.regs
  have g2_0 : (resL r2 (.slice A2 r2.mem.length c2) (.slice B2 r2.ws.length d2))[0]? = some (.int .i64 r1.e) := by rw [t0]; rfl
  have g2_1 : (resL r2 (.slice A2 r2.mem.length c2) (.slice B2 r2.ws.length d2))[1]? = some (.int .i64 r1.tk) := by rw [t1.1]; rfl
  have g2_2 : (resL r2 (.slice A2 r2.mem.length c2) (.slice B2 r2.ws.length d2))[2]? = some (.int .i64 r1.ts) := by rw [t1.2.1]; rfl
  have g2_3 : (resL r2 (.slice A2 r2.mem.length c2) (.slice B2 r2.ws.length d2))[3]? = some (.int .i64 r1.tp) := by rw [t1.2.2]; rfl
  have g2_4 : (resL r2 (.slice A2 r2.mem.length c2) (.slice B2 r2.ws.length d2))[4]? = some (.int .i64 r1.st) := by rw [t2]; rfl
  have g2_21 : (resL r2 (.slice A2 r2.mem.length c2) (.slice B2 r2.ws.length d2))[21]? = some (.slice A2 r2.mem.length c2) := resL_21 h2.regs
  have g2_22 : (resL r2 (.slice A2 r2.mem.length c2) (.slice B2 r2.ws.length d2))[22]? = some (.slice B2 r2.ws.length d2) := resL_22 h2.regs
  have v1 := conv_row (P := Try.prog) ((w.alloc (.cells (resL r1 (.slice A1 r1.mem.length c1) (.slice B1 r1.ws.length d1)).toArray 32)).alloc (.cells (resL r2 (.slice A2 r2.mem.length c2) (.slice B2 r2.ws.length d2)).toArray 32)) 23 5 Try.underlying23 Try.underlying5 ((h1.mem.alloc (Nat.le_refl _) (.cells (resL r1 (.slice A1 r1.mem.length c1) (.slice B1 r1.ws.length d1)).toArray 32)).alloc (by simp) (.cells (resL r2 (.slice A2 r2.mem.length c2) (.slice B2 r2.ws.length d2)).toArray 32)) 9 Try.underlying9
  have v2 := conv_row (P := Try.prog) ((w.alloc (.cells (resL r1 (.slice A1 r1.mem.length c1) (.slice B1 r1.ws.length d1)).toArray 32)).alloc (.cells (resL r2 (.slice A2 r2.mem.length c2) (.slice B2 r2.ws.length d2)).toArray 32)) 23 5 Try.underlying23 Try.underlying5 ((h2.mem.alloc (Nat.le_refl _) (.cells (resL r1 (.slice A1 r1.mem.length c1) (.slice B1 r1.ws.length d1)).toArray 32)).alloc (by simp) (.cells (resL r2 (.slice A2 r2.mem.length c2) (.slice B2 r2.ws.length d2)).toArray 32)) 9 Try.underlying9
  rw [show strOfNums r2.mem = strOfNums r1.mem by rw [t3]] at v2
  have q5 : ((r1.ws.length : Int) != r2.ws.length) = false := by simp; omega
  obtain ⟨u1, u2⟩ := h1.ws.cap
  obtain ⟨u3, u4⟩ := h2.ws.cap
  have T4 := Lib.hid t4
  clear h1 h2 f1 f2 t0 t1 t2 t3 t4
  go_enter Try.func37, Try.ntmps37
  go_wp2_with fail
  generalize ((w.alloc (.cells (resL r1 (.slice A1 r1.mem.length c1) (.slice B1 r1.ws.length d1)).toArray 32)).alloc (.cells (resL r2 (.slice A2 r2.mem.length c2) (.slice B2 r2.ws.length d2)).toArray 32)) = W at *
  have Y1 := Lib.hid (fun (x : World) (h : Kept W x) => h.cell hW1 X1.out)
  have Y2 := Lib.hid (fun (x : World) (h : Kept W x) => h.cell hW2 X2.out)
  have HBx := Lib.hid (fun (m : Nat) => (Below.drewN_ HB.out m : Below w.heap.size w (W.drewN m)))
  by_cases hn : r1.ws.length = 0
  · have z1 : r1.ws = [] := List.eq_nil_of_length_eq_zero hn
    have z2 : r2.ws = [] := List.eq_nil_of_length_eq_zero (by have := T4.out; omega)
    have hres := Lib.hid (show endB r1 r2 = true by rw [HE.out, z1, z2]; rfl)
    have y1 := X1.out
    have hn0 : (r1.ws.length : Int) = 0 := by omega
    clear z1 z2 v1 v2
    refine wp_loop_rounds 1 ?_
    rw [rounds_succ]
    go_wp2_with fail
    go_ret
    exact ⟨ret_bool hres.out.symm, HB.out⟩
  obtain ⟨b1, o1, rfl, _, _⟩ := R1.out.at_ hn
  obtain ⟨b2, o2, rfl, _, _⟩ := R2.out.at_ (by have := T4.out; omega)
  have H0 := Lib.hid (show (r1.ws = r2.ws) ↔ (r1.ws.drop 0 = r2.ws.drop 0) by rw [List.drop_zero, List.drop_zero])
  have HC1 := Lib.hid (fun (k : Nat) (i : Wr) (hi : r1.ws[k]? = some i) => R1.out.wr hi)
  have HC2 := Lib.hid (fun (k : Nat) (i : Wr) (hi : r2.ws[k]? = some i) => R2.out.wr hi)
  have HA1 := Lib.hid (fun j (h : j < r1.ws.length) => wr_at (l := r1.ws) h)
  have HA2 := Lib.hid (fun j (h : j < r1.ws.length) => wr_at (l := r2.ws) (show j < r2.ws.length by have := T4.out; omega))
  have HS := Lib.hid (fun (j : Nat) (x y : Wr) (hx : r1.ws[j]? = some x) (hy : r2.ws[j]? = some y) => wr_drop_step hx hy)
  have HD1 := Lib.hid (fun (k : Nat) (h : r1.ws.length ≤ k) => List.drop_eq_nil_of_le h)
  have HD2 := Lib.hid (fun (k : Nat) (h : r1.ws.length ≤ k) => List.drop_eq_nil_of_le (show r2.ws.length ≤ k by have := T4.out; omega))
  have ln := Lib.hid (show (r2.ws.length : Int) = r1.ws.length by have := T4.out; omega)
  clear v1 v2 R1 R2 q5
  generalize hN : r1.ws.length = N at *
  have HN := Lib.hid hN
  clear hN
  go_loopw [5] (fun i wr => ∃ j m : Nat, j ≤ N ∧ i = .int .i64 j ∧ wr = W.drewN m ∧ ((r1.ws = r2.ws) ↔ (r1.ws.drop j = r2.ws.drop j))) (fun i _ => N - (intOf i).toNat)
  case atStart => exact ⟨0, 0, Nat.zero_le _, rfl, rfl, H0.out⟩
  case round =>
    obtain ⟨j, m, hj, rfl, rfl, hT⟩ := hrel
    have HT := Lib.hid hT
    clear hT
    have y1 := X1.out
    have y2 := X2.out
    by_cases hlt : j < N
    · obtain ⟨x, hx⟩ := HA1.out j hlt
      obtain ⟨y, hy⟩ := HA2.out j hlt
      have hs := Lib.hid (HS.out j x y hx hy)
      obtain ⟨a0, a1, a2⟩ := HC1.out j x hx
      obtain ⟨b0, b1', b2'⟩ := HC2.out j y hy
      have k0 : (0 : Int) ≤ j := by omega
      have k1 : (j : Int) < N := by omega
      have k2 : (j : Int) < r2.ws.length := by have := ln.out; omega
      clear hx hy
      by_cases hxy : x = y
      · subst hxy
        have hres := Lib.hid (show (r1.ws = r2.ws) ↔ (r1.ws.drop (j + 1) = r2.ws.drop (j + 1)) by rw [HT.out, hs.out]; simp)
        go_wp2_with fail
        go_quiet (fail)
        go_wp2_with fail
        go_roundw
        case rel => exact ⟨j + 1, _, by omega, by go_num, rfl, hres.out⟩
        case measure => simp [intOf]; omega
      · have q := neq_wr x y
        rw [decide_eq_false hxy] at q
        have hres := Lib.hid (show endB r1 r2 = false by rw [HE.out, decide_eq_false_iff_not, HT.out, hs.out]; exact fun h => hxy h.1)
        clear hxy
        go_wp2_with fail
        go_quiet (fail)
        go_wp2_with fail
        go_ret
        exact ⟨ret_bool hres.out.symm, Below.drewN_ (HBx.out m) _⟩
    · have hres := Lib.hid (show endB r1 r2 = true by rw [HE.out, decide_eq_true_iff, HT.out, HD1.out j (by omega), HD2.out j (by omega)])
      have k1 : ¬ (j : Int) < N := by omega
      go_wp2_with fail
      go_ret
      exact ⟨ret_bool hres.out.symm, HBx.out m⟩

theorem refSameEnd_any (h1 : ResV w w.heap.size (.slice A1 r1.mem.length c1) (.slice B1 r1.ws.length d1) r1) (h2 : ResV w w.heap.size (.slice A2 r2.mem.length c2) (.slice B2 r2.ws.length d2) r2) (f1 : ∀ b ∈ r1.mem, 0 ≤ b ∧ b ≤ 255) (f2 : ∀ b ∈ r2.mem, 0 ≤ b ∧ b ≤ 255) :
    Calls Try.prog 37 #[.agg (resL r1 (.slice A1 r1.mem.length c1) (.slice B1 r1.ws.length d1)).toArray, .agg (resL r2 (.slice A2 r2.mem.length c2) (.slice B2 r2.ws.length d2)).toArray] w fun e w' => e = .returned (.bool (endB r1 r2)) ∧ Below w.heap.size w w' := by
  by_cases t0 : r1.e = r2.e
  rotate_left
  · exact refSameEnd_no0 r1 r2 A1 B1 A2 B2 c1 d1 c2 d2 w h1 h2 f1 f2 t0
  by_cases t1 : r1.tk = r2.tk ∧ r1.ts = r2.ts ∧ r1.tp = r2.tp
  rotate_left
  · exact refSameEnd_no1 r1 r2 A1 B1 A2 B2 c1 d1 c2 d2 w h1 h2 f1 f2 t0 t1
  by_cases t2 : r1.st = r2.st
  rotate_left
  · exact refSameEnd_no2 r1 r2 A1 B1 A2 B2 c1 d1 c2 d2 w h1 h2 f1 f2 t0 t1 t2
  by_cases t3 : r1.mem = r2.mem
  rotate_left
  · exact refSameEnd_no3 r1 r2 A1 B1 A2 B2 c1 d1 c2 d2 w h1 h2 f1 f2 t0 t1 t2 t3
  by_cases t4 : r1.ws.length = r2.ws.length
  rotate_left
  · exact refSameEnd_no4 r1 r2 A1 B1 A2 B2 c1 d1 c2 d2 w h1 h2 f1 f2 t0 t1 t2 t3 t4
  exact refSameEnd_loop r1 r2 A1 B1 A2 B2 c1 d1 c2 d2 w h1 h2 f1 f2 t0 t1 t2 t3 t4
end
end Go.Proofs.Ytjbobihiigeapaa.Words

/- Two arrays of numbers compared. Nothing here speaks of one program text but the type of a result's registers. -/
namespace Go.Proofs.Ytjbobihiigeapaa.Words
set_option maxRecDepth 100000
open Go.RowKit
set_option linter.unusedVariables false

section
variable {P : Program} (w : World)
theorem part_num {e : TypeId} {k : IntKind} (he : P.underlying e = some (.int k)) (l : List Int) (i : Nat) (h : i < l.length) : (part e (l.map (Value.int k)).toArray i).run P w = .ok (.int k (l.getD i 0)) w := by
  have hv : ((l.map (Value.int k)).toArray)[i]? = some (.int k (l.getD i 0)) := by
    rw [List.getElem?_toArray, List.getElem?_map, List.getD_eq_getElem?_getD, List.getElem?_eq_getElem h]; rfl
  simp only [part, isAgg, Sem.run_bind, run_underlying he, Sem.run_pure, Result.andThen_ok, hv]
  simp
theorem items_num (d : Nat) {e : TypeId} {k : IntKind} (he : P.underlying e = some (.int k)) (l m : List Int) : ∀ (is : List Nat), (∀ i ∈ is, i < l.length ∧ i < m.length) →
    (Op.eqItems (d + 1) e 1 (l.map (Value.int k)).toArray (m.map (Value.int k)).toArray is).run P w = .ok (is.all fun i => l.getD i 0 == m.getD i 0) w
  | [], _ => by simp [Op.eqItems]
  | i :: is, h => by
    have hi := h i (by simp)
    have ih := items_num d he l m is (fun j hj => h j (by simp [hj]))
    simp only [Op.eqItems, Sem.run_bind, Nat.mul_one, part_num w he l i hi.1, part_num w he m i hi.2, run_equalIn_int w d e k k _ _ he, Result.andThen_ok, List.all_cons]
    cases hb : (l.getD i 0 == m.getD i 0)
    · simp
    · simp only [Bool.not_true, Bool.false_eq_true, if_false, Bool.true_and]; exact ih
end
theorem all_getD (l m : List Int) (h : l.length = m.length) : ((List.range l.length).all fun i => l.getD i 0 == m.getD i 0) = decide (l = m) := by
  rw [Bool.eq_iff_iff]
  simp only [List.all_eq_true, List.mem_range, beq_iff_eq, decide_eq_true_eq]
  constructor
  · intro g
    refine List.ext_getElem h fun i h1 h2 => ?_
    have := g i h1
    rwa [List.getD_eq_getElem?_getD, List.getD_eq_getElem?_getD, List.getElem?_eq_getElem h1, List.getElem?_eq_getElem h2] at this
  · rintro rfl i _; rfl
theorem info_u32 : (Try.prog.info? 28).map (fun i => (i.zero, i.size, i.bytes)) = some (some (.int .u32 0), 1, 4) := by kernel_rfl
theorem eqIn_regs (l m : List Int) (w : World) (hl : l.length = 16) (hm : m.length = 16) : (Op.equalIn 10000 29 (.agg (l.map (Value.int .u32)).toArray) (.agg (m.map (Value.int .u32)).toArray)).run Try.prog w = .ok (decide (l = m)) w := by
  obtain ⟨i, hi, _⟩ := info_parts info_u32
  have hc : Try.prog.cellsOf 28 = 1 := by kernel_rfl
  rw [show (10000 : Nat) = 9999 + 1 from rfl, run_equalIn_array w 9999 _ _ Try.underlying29 hi, hc, show (9999 : Nat) = 9998 + 1 from rfl,
    items_num w 9998 Try.underlying28 l m (List.range 16) (fun i h => by rw [List.mem_range] at h; omega), show (16 : Nat) = l.length from hl.symm, all_getD l m (hl.trans hm.symm)]
theorem eql_regs (l m : List Int) (w : World) (hl : l.length = 16) (hm : m.length = 16) : (binOp .eql 29 (.agg (l.map (Value.int .u32)).toArray) (.agg (m.map (Value.int .u32)).toArray)).run Try.prog w = .ok (.bool (decide (l = m))) w := by
  rw [run_eql_struct, eqIn_regs l m w hl hm]
  rfl
end Go.Proofs.Ytjbobihiigeapaa.Words

/- Contract of the document's own SameResult: are two results one? -/
namespace Go.Proofs.Ytjbobihiigeapaa.Words
set_option maxRecDepth 100000
open Go.RowKit
set_option linter.unusedVariables false

/-- Are two results one? -/
def sameB (a b : Res) : Bool := decide (a.regs = b.regs) && endB a b
theorem sameB_iff (a b : Res) : sameB a b = true ↔ a = b := by
  unfold sameB endB
  rw [Bool.and_eq_true, decide_eq_true_iff, decide_eq_true_iff]
  cases a; cases b; simp
  constructor
  · rintro ⟨rfl, rfl, ⟨rfl, rfl, rfl⟩, rfl, rfl, rfl⟩; simp
  · rintro ⟨rfl, rfl, rfl, rfl, rfl, rfl, rfl, rfl⟩; simp

section
variable (r1 r2 : Res) (A1 B1 A2 B2 : Option Addr) (c1 d1 c2 d2 : Nat) (w : World)

set_option maxRecDepth 20000 in
set_option maxHeartbeats 1000000 in
theorem refSameRes_any (h1 : ResV w w.heap.size (.slice A1 r1.mem.length c1) (.slice B1 r1.ws.length d1) r1) (h2 : ResV w w.heap.size (.slice A2 r2.mem.length c2) (.slice B2 r2.ws.length d2) r2) (f1 : ∀ b ∈ r1.mem, 0 ≤ b ∧ b ≤ 255) (f2 : ∀ b ∈ r2.mem, 0 ≤ b ∧ b ≤ 255) :
    Calls Try.prog 16 #[.agg (resL r1 (.slice A1 r1.mem.length c1) (.slice B1 r1.ws.length d1)).toArray, .agg (resL r2 (.slice A2 r2.mem.length c2) (.slice B2 r2.ws.length d2)).toArray] w fun e w' => e = .returned (.bool (sameB r1 r2)) ∧ Below w.heap.size w w' := by
  have HB := Lib.hid (((Below.refl w.heap.size w).alloc (Nat.le_refl _) (.cells (resL r1 (.slice A1 r1.mem.length c1) (.slice B1 r1.ws.length d1)).toArray 32)).alloc (by simp) (.cells (resL r2 (.slice A2 r2.mem.length c2) (.slice B2 r2.ws.length d2)).toArray 32))
  have hW1 : w.heap.size < ((w.alloc (.cells (resL r1 (.slice A1 r1.mem.length c1) (.slice B1 r1.ws.length d1)).toArray 32)).alloc (.cells (resL r2 (.slice A2 r2.mem.length c2) (.slice B2 r2.ws.length d2)).toArray 32)).heap.size := by simp; omega
  have V1 := Lib.hid (((h1.alloc (Nat.le_refl _) (.cells (resL r1 (.slice A1 r1.mem.length c1) (.slice B1 r1.ws.length d1)).toArray 32)).alloc (by simp) (.cells (resL r2 (.slice A2 r2.mem.length c2) (.slice B2 r2.ws.length d2)).toArray 32)).more (Nat.le_of_lt hW1))
  have V2 := Lib.hid (((h2.alloc (Nat.le_refl _) (.cells (resL r1 (.slice A1 r1.mem.length c1) (.slice B1 r1.ws.length d1)).toArray 32)).alloc (by simp) (.cells (resL r2 (.slice A2 r2.mem.length c2) (.slice B2 r2.ws.length d2)).toArray 32)).more (Nat.le_of_lt hW1))
  have X1 := Lib.hid ((Box.new w (resL r1 (.slice A1 r1.mem.length c1) (.slice B1 r1.ws.length d1)) 32).alloc (.cells (resL r2 (.slice A2 r2.mem.length c2) (.slice B2 r2.ws.length d2)).toArray 32))
  have X2 : Hid (Box ((w.alloc (.cells (resL r1 (.slice A1 r1.mem.length c1) (.slice B1 r1.ws.length d1)).toArray 32)).alloc (.cells (resL r2 (.slice A2 r2.mem.length c2) (.slice B2 r2.ws.length d2)).toArray 32)) (w.heap.size + 1) (resL r2 (.slice A2 r2.mem.length c2) (.slice B2 r2.ws.length d2))) := by
    have := Box.new (w.alloc (.cells (resL r1 (.slice A1 r1.mem.length c1) (.slice B1 r1.ws.length d1)).toArray 32)) (resL r2 (.slice A2 r2.mem.length c2) (.slice B2 r2.ws.length d2)) 32
    have e : (w.alloc (.cells (resL r1 (.slice A1 r1.mem.length c1) (.slice B1 r1.ws.length d1)).toArray 32)).heap.size = w.heap.size + 1 := by simp
    rw [e] at this
    exact this
  have q := eqIn_regs r1.regs r2.regs ((w.alloc (.cells (resL r1 (.slice A1 r1.mem.length c1) (.slice B1 r1.ws.length d1)).toArray 32)).alloc (.cells (resL r2 (.slice A2 r2.mem.length c2) (.slice B2 r2.ws.length d2)).toArray 32)) h1.regs h2.regs
  have m1 := Lib.hid h1.regs
  have m2 := Lib.hid h2.regs
  have hsm := Lib.hid (show sameB r1 r2 = (decide (r1.regs = r2.regs) && endB r1 r2) from rfl)
  clear h1 h2
  go_enter Try.func16, Try.ntmps16
  cases hd : decide (r1.regs = r2.regs)
  · rw [hd] at q
    have hno := Lib.hid (show sameB r1 r2 = false by rw [hsm.out, hd]; rfl)
    clear hd
    go_wp2_with (first
      | (refine wpList_load_box rfl 29 (.tmp 5) rfl w.heap.size 5 rfl (resL r1 (.slice A1 r1.mem.length c1) (.slice B1 r1.ws.length d1)) (r1.regs.map (Value.int .u32)) X1.out (resL_regs m1.out) _ Try.underlying29 rfl 16 (by kernel_rfl) (by simp [m1.out]) ?_)
      | (refine wpList_load_box rfl 29 (.tmp 7) rfl (w.heap.size + 1) 5 rfl (resL r2 (.slice A2 r2.mem.length c2) (.slice B2 r2.ws.length d2)) (r2.regs.map (Value.int .u32)) X2.out (resL_regs m2.out) _ Try.underlying29 rfl 16 (by kernel_rfl) (by simp [m2.out]) ?_))
    go_ret
    exact ⟨ret_bool hno.out.symm, HB.out⟩
  · rw [hd] at q
    have hyes := Lib.hid (show sameB r1 r2 = endB r1 r2 by rw [hsm.out, hd]; simp)
    clear hd
    go_wp2_with (first
      | (refine wpList_load_box rfl 29 (.tmp 5) rfl w.heap.size 5 rfl (resL r1 (.slice A1 r1.mem.length c1) (.slice B1 r1.ws.length d1)) (r1.regs.map (Value.int .u32)) X1.out (resL_regs m1.out) _ Try.underlying29 rfl 16 (by kernel_rfl) (by simp [m1.out]) ?_)
      | (refine wpList_load_box rfl 29 (.tmp 7) rfl (w.heap.size + 1) 5 rfl (resL r2 (.slice A2 r2.mem.length c2) (.slice B2 r2.ws.length d2)) (r2.regs.map (Value.int .u32)) X2.out (resL_regs m2.out) _ Try.underlying29 rfl 16 (by kernel_rfl) (by simp [m2.out]) ?_)
      | (refine wpList_load_box rfl 32 (.tmp 2) rfl w.heap.size 0 rfl (resL r1 (.slice A1 r1.mem.length c1) (.slice B1 r1.ws.length d1)) (resL r1 (.slice A1 r1.mem.length c1) (.slice B1 r1.ws.length d1)) X1.out (fun j v hv => by rw [Nat.zero_add]; exact hv) _ Try.underlying32 rfl 23 info_res (resL_len m1.out) ?_)
      | (refine wpList_load_box rfl 32 (.tmp 3) rfl (w.heap.size + 1) 0 rfl (resL r2 (.slice A2 r2.mem.length c2) (.slice B2 r2.ws.length d2)) (resL r2 (.slice A2 r2.mem.length c2) (.slice B2 r2.ws.length d2)) X2.out (fun j v hv => by rw [Nat.zero_add]; exact hv) _ Try.underlying32 rfl 23 info_res (resL_len m2.out) ?_))
    refine (refSameEnd_any r1 r2 A1 B1 A2 B2 c1 d1 c2 d2 _ V1.out V2.out f1 f2).mono ?_; rintro e w1 ⟨rfl, hb⟩
    have hb' := HB.out.trans (hb.mono (Nat.le_of_lt hW1))
    clear hb
    go_wp2_with fail
    go_ret
    exact ⟨ret_bool hyes.out.symm, hb'⟩
end
end Go.Proofs.Ytjbobihiigeapaa.Words

/- The law's own helper 'alive' of chapter 6; how short a result is. -/
namespace Go.Proofs.Ytjbobihiigeapaa.Words
set_option maxRecDepth 100000
open Go.RowKit
set_option linter.unusedVariables false

/-- The program that the law runs. -/
def aliveP : Prog := ⟨[⟨17, 1, 0, 0, 5⟩, ⟨31, 0, 0, 1, 0⟩, ⟨41, 0, 0, 0, 0⟩], 4, []⟩
theorem aliveP_e : (runZ aliveP 9).e = 1 := by kernel_rfl
theorem aliveP_1 : (runZ aliveP 9).regs.getD 1 0 = 5 := by kernel_rfl
theorem aliveP_ws : (runZ aliveP 9).ws.length = 1 := by kernel_rfl
theorem aliveP_st : (runZ aliveP 9).st = 3 := by kernel_rfl
theorem noneP_run : runZ ⟨[], 0, []⟩ 9 = noRes := by kernel_rfl
set_option maxHeartbeats 1000000 in
theorem seqAlive_any (w : World) : Calls Try.prog 10 #[] w fun e w' => e = .returned (.bool true) ∧ Below w.heap.size w w' := by
  have HB0 := Lib.hid ((Below.refl w.heap.size w).alloc (Nat.le_refl _) (.cells #[.int .i64 17, .int .i64 1, .int .i64 0, .int .i64 0, .int .i64 5, .int .i64 31, .int .i64 0, .int .i64 0, .int .i64 1, .int .i64 0, .int .i64 41, .int .i64 0, .int .i64 0, .int .i64 0, .int .i64 0] 51))
  have HP : Hid (ProgV (w.alloc (.cells #[.int .i64 17, .int .i64 1, .int .i64 0, .int .i64 0, .int .i64 5, .int .i64 31, .int .i64 0, .int .i64 0, .int .i64 1, .int .i64 0, .int .i64 41, .int .i64 0, .int .i64 0, .int .i64 0, .int .i64 0] 51)) (w.alloc (.cells #[.int .i64 17, .int .i64 1, .int .i64 0, .int .i64 0, .int .i64 5, .int .i64 31, .int .i64 0, .int .i64 0, .int .i64 1, .int .i64 0, .int .i64 41, .int .i64 0, .int .i64 0, .int .i64 0, .int .i64 0] 51)).heap.size (.slice (some ⟨w.heap.size, 0, none⟩) 3 3) (.slice none 0 0) aliveP) := by
    refine ⟨⟨rfl, _, _, rfl, Nat.le_refl _, by omega, (fun h => by cases h), fun _ => ⟨w.heap.size, 0, rfl, by simp, fun j u hu => ?_⟩⟩, Row.nil _ _ _⟩
    have := new_cells w #[.int .i64 17, .int .i64 1, .int .i64 0, .int .i64 0, .int .i64 5, .int .i64 31, .int .i64 0, .int .i64 0, .int .i64 1, .int .i64 0, .int .i64 41, .int .i64 0, .int .i64 0, .int .i64 0, .int .i64 0] 51 (codeCells aliveP.code) rfl j u hu
    rwa [add_spot] at this
  go_enter Try.func10, Try.ntmps10
  go_wp2_with fail
  generalize w.alloc (.cells #[.int .i64 17, .int .i64 1, .int .i64 0, .int .i64 0, .int .i64 5, .int .i64 31, .int .i64 0, .int .i64 0, .int .i64 1, .int .i64 0, .int .i64 41, .int .i64 0, .int .i64 0, .int .i64 0, .int .i64 0] 51) = w1 at *
  refine (seqRun_any (some ⟨w.heap.size, 0, none⟩) none 3 0 aliveP w1 9 HP.out (by intro b hb; cases hb) (by omega)).mono ?_; rintro e w2 ⟨vm, vw, rfl, hO, hb2⟩
  have hv1 := own_one hO.mem
  have hv2 := own_one hO.ws
  have h16 := hO.regs
  have HB2 := Lib.hid (HB0.out.trans (hb2.mono HB0.out.size))
  have HOW := Lib.hid hO
  clear HP HB0 hb2 hO
  have BN := Lib.hid (Box.new w2 (resL noRes (.slice none 0 0) (.slice none 0 0)) 32)
  obtain ⟨U, u, rfl⟩ := (Row.of_own HOW.out.ws).form
  clear HOW
  go_wp2_with (refine wpList_store_box rfl 32 (.tmp 1) (.tmp 7) rfl w2.heap.size 0 (resL (runZ aliveP 9) vm (.slice U (runZ aliveP 9).ws.length u)) rfl rfl (resL noRes (.slice none 0 0) (.slice none 0 0)) BN.out (by rw [resL_len h16, resL_len rfl]; exact Nat.le_refl _) 23 info_res (resL_len h16) (resL_one hv1 hv2) ?_; intro w3 hB3 hg3; rw [splice_whole _ _ (by rw [resL_len h16, resL_len rfl])] at hB3; have B3 := Lib.hid hB3; have HB3 := Lib.hid (Below.grown (HB2.out.alloc HB2.out.size (.cells #[.int .i64 0, .int .i64 0, .int .i64 0, .int .i64 0, .int .i64 0, .int .u32 0, .int .u32 0, .int .u32 0, .int .u32 0, .int .u32 0, .int .u32 0, .int .u32 0, .int .u32 0, .int .u32 0, .int .u32 0, .int .u32 0, .int .u32 0, .int .u32 0, .int .u32 0, .int .u32 0, .int .u32 0, .slice none 0 0, .slice none 0 0] 32)) hg3 (HB2.out.alloc HB2.out.size (.cells #[.int .i64 0, .int .i64 0, .int .i64 0, .int .i64 0, .int .i64 0, .int .u32 0, .int .u32 0, .int .u32 0, .int .u32 0, .int .u32 0, .int .u32 0, .int .u32 0, .int .u32 0, .int .u32 0, .int .u32 0, .int .u32 0, .int .u32 0, .int .u32 0, .int .u32 0, .int .u32 0, .int .u32 0, .slice none 0 0, .slice none 0 0] 32)).size (fun k hk => grown_ge hk HB2.out.size)); clear hB3 hg3)
  refine (seqRun_any none none 0 0 ⟨[], 0, []⟩ w3 9 ⟨Row.nil _ _ _, Row.nil _ _ _⟩ (by intro b hb; cases hb) (by omega)).mono ?_; rintro e w4 ⟨vm4, vw4, rfl, hO4, hb4⟩
  rw [noneP_run] at hO4 ⊢
  have B4 := Lib.hid (B3.out.below hb4 B3.out.lt)
  have HB4 := Lib.hid (HB3.out.trans (hb4.mono HB3.out.size))
  have hlt4 : w2.heap.size < w4.heap.size := B4.out.lt
  obtain ⟨A4, c4, rfl⟩ := (Row.of_own hO4.mem).form
  obtain ⟨U4, u4, rfl⟩ := (Row.of_own hO4.ws).form
  have HR4 := Lib.hid hO4.rows
  clear hO4 hb4
  go_wp2_with fail
  refine (refSameRes_any noRes noRes A4 U4 none none c4 u4 0 0 _ HR4.out ⟨Row.nil _ _ _, Row.nil _ _ _, rfl⟩ (by intro b hb; cases hb) (by intro b hb; cases hb)).mono ?_; rintro e w5 ⟨rfl, hb5⟩
  rw [(sameB_iff noRes noRes).2 rfl]
  have B5 := Lib.hid (B4.out.below hb5 hlt4)
  have HB5 := Lib.hid (HB4.out.trans (hb5.mono HB4.out.size))
  have c0 : w5.cell? ⟨w2.heap.size, 0, none⟩ = some (.int .i64 1) := by
    have := B5.out.cell (resL_0 (r := runZ aliveP 9))
    rwa [aliveP_e] at this
  have c6 : w5.cell? ⟨w2.heap.size, 6, none⟩ = some (.int .u32 5) := by
    have := B5.out.cell (resL_reg h16 1 (by omega))
    rwa [aliveP_1] at this
  have c22 : w5.cell? ⟨w2.heap.size, 22, none⟩ = some (.slice U 1 u) := by
    have := B5.out.cell (resL_22 h16)
    rwa [aliveP_ws] at this
  have c4 : w5.cell? ⟨w2.heap.size, 4, none⟩ = some (.int .i64 3) := by
    have := B5.out.cell (resL_4 (r := runZ aliveP 9))
    rwa [aliveP_st] at this
  clear hb5 B3 B4 HR4 BN
  go_wp2_with fail
  go_ret
  exact ⟨rfl, HB5.out⟩

set_option maxHeartbeats 400000 in
theorem seqFew_any (M U : Option Addr) (m u : Nat) (r : Res) (w : World) (h16 : r.regs.length = 16) (hm : (r.mem.length : Int) ≤ 9223372036854775807) (hw : (r.ws.length : Int) ≤ 9223372036854775807) :
    Calls Try.prog 12 #[.agg (resL r (.slice M r.mem.length m) (.slice U r.ws.length u)).toArray] w fun e w' => e = .returned (.bool (decide (r.mem.length ≤ 1000) && decide (r.ws.length ≤ 200))) ∧ Below w.heap.size w w' := by
  have HB0 := ((Below.refl w.heap.size w).alloc (Nat.le_refl _) (.cells (resL r (.slice M r.mem.length m) (.slice U r.ws.length u)).toArray 32))
  have B0 := Box.new w (resL r (.slice M r.mem.length m) (.slice U r.ws.length u)) 32
  have z21 := B0.cell (resL_21 h16)
  have z22 := B0.cell (resL_22 h16)
  obtain ⟨n1, hn1⟩ : ∃ n, n = r.mem.length := ⟨_, rfl⟩
  obtain ⟨n2, hn2⟩ : ∃ n, n = r.ws.length := ⟨_, rfl⟩
  rw [← hn1] at z21 z22 HB0 hm ⊢
  rw [← hn2] at z21 z22 HB0 hw ⊢
  have HB := Lib.hid HB0
  have H1 := Lib.hid hn1
  have H2 := Lib.hid hn2
  clear hn1 hn2 B0 HB0
  by_cases q1 : n1 ≤ 1000
  · by_cases q2 : n2 ≤ 200
    · have k1 : decide (n1 ≤ 1000) = true := decide_eq_true q1
      have k2 : decide (n2 ≤ 200) = true := decide_eq_true q2
      go_enter Try.func12, Try.ntmps12
      go_wp2_with fail
      go_ret
      exact ⟨ret_bool (by simp [q1, q2] <;> omega), HB.out⟩
    · go_enter Try.func12, Try.ntmps12
      go_wp2_with fail
      go_ret
      exact ⟨ret_bool (by simp [q1, q2] <;> omega), HB.out⟩
  · go_enter Try.func12, Try.ntmps12
    go_wp2_with fail
    go_ret
    exact ⟨ret_bool (by simp <;> omega), HB.out⟩
end Go.Proofs.Ytjbobihiigeapaa.Words

/- Plain mathematics behind the laws of chapter 3. Nothing here speaks of one program. -/
namespace Go.Proofs.Ytjbobihiigeapaa.Words
set_option maxRecDepth 100000
open Go.RowKit
set_option linter.unusedVariables false

theorem nat_and_or : ∀ (n x y : Nat), x ≤ n → (x &&& y) + (x ||| y) = x + y ∧ (x ||| y) = (x &&& y) + (x ^^^ y) := by
  intro n
  induction n with
  | zero =>
    intro x y h
    obtain rfl : x = 0 := by omega
    simp
  | succ n ih =>
    intro x y h
    by_cases h0 : x = 0
    · subst h0; simp
    obtain ⟨h1, h2⟩ := ih (x / 2) (y / 2) (by omega)
    have a1 := @Nat.and_div_two x y
    have a2 := @Nat.or_div_two x y
    have a3 := @Nat.xor_div_two x y
    have b1 := @Nat.and_mod_two_eq_one x y
    have b2 := @Nat.or_mod_two_eq_one x y
    have b3 := @Nat.xor_mod_two_eq_one x y
    rw [← a1, ← a2] at h1
    rw [← a1, ← a2, ← a3] at h2
    omega
section
variable {a b : Int} (ha : 0 ≤ a ∧ a < 4294967296) (hb : 0 ≤ b ∧ b < 4294967296)
include ha hb
theorem and_plus_or : (bits .and .u32 a b + bits .or .u32 a b) % 4294967296 = (a + b) % 4294967296 := by
  obtain ⟨x, rfl⟩ := Int.eq_ofNat_of_zero_le ha.1
  obtain ⟨y, rfl⟩ := Int.eq_ofNat_of_zero_le hb.1
  rw [u32_and_nat x y (by omega) (by omega), u32_or_nat x y (by omega) (by omega)]
  have := (nat_and_or x x y (by omega)).1
  omega
theorem or_minus_and : (bits .or .u32 a b - bits .and .u32 a b) % 4294967296 = bits .xor .u32 a b := by
  obtain ⟨x, rfl⟩ := Int.eq_ofNat_of_zero_le ha.1
  obtain ⟨y, rfl⟩ := Int.eq_ofNat_of_zero_le hb.1
  have hx : x < 2 ^ 32 := by omega
  have hy : y < 2 ^ 32 := by omega
  have hlt := Nat.xor_lt_two_pow hx hy
  rw [u32_and_nat x y (by omega) (by omega), u32_or_nat x y (by omega) (by omega), u32_xor_nat x y (by omega) (by omega)]
  have := (nat_and_or x x y (by omega)).2
  omega
theorem xor_xor : bits .xor .u32 (bits .xor .u32 a b) b = a := by
  obtain ⟨x, rfl⟩ := Int.eq_ofNat_of_zero_le ha.1
  obtain ⟨y, rfl⟩ := Int.eq_ofNat_of_zero_le hb.1
  have hx : x < 2 ^ 32 := by omega
  have hy : y < 2 ^ 32 := by omega
  have hlt := Nat.xor_lt_two_pow hx hy
  rw [u32_xor_nat x y (by omega) (by omega), u32_xor_nat _ y (by omega) (by omega), Nat.xor_assoc, Nat.xor_self, Nat.xor_zero]
end
theorem mul_comm_w (a b : Int) : a * b % 4294967296 = b * a % 4294967296 := by rw [Int.mul_comm]

theorem sgn_mod (a : Int) : sgn a % 4294967296 = a % 4294967296 := by unfold sgn; split <;> omega
theorem mod_mul (x b : Int) : x % 4294967296 * b % 4294967296 = x * b % 4294967296 := by
  rw [Int.mul_emod, Int.emod_emod_of_dvd _ (Int.dvd_refl _), ← Int.mul_emod]
/-- With signs: the quotient times the divisor, and the rest. -/
theorem quo_rem (a b : Int) (ha : 0 ≤ a ∧ a < 4294967296) : ((sgn a).tdiv (sgn b) % 4294967296 * b % 4294967296 + (sgn a).tmod (sgn b) % 4294967296) % 4294967296 = a := by
  rw [mod_mul]
  have h1 : (sgn a).tdiv (sgn b) * b % 4294967296 = (sgn a).tdiv (sgn b) * sgn b % 4294967296 := by
    rw [Int.mul_emod, ← sgn_mod b, ← Int.mul_emod]
  rw [h1]
  have h2 := Int.tdiv_mul_add_tmod (sgn a) (sgn b)
  have h3 := sgn_of a ha.1 ha.2
  omega
/-- Without signs. -/
theorem quo_rem_u (a b : Int) (ha : 0 ≤ a ∧ a < 4294967296) : (a / b * b % 4294967296 + a % b) % 4294967296 = a := by
  have h2 := Int.ediv_mul_add_emod a b
  omega
theorem tmod_lt {a b : Int} (ha : 0 ≤ a ∧ a < 4294967296) (hb : 0 ≤ b ∧ b < 4294967296) (h : b ≠ 0) :
    (sgn a).tmod (sgn b) < (if sgn b < 0 then -sgn b else sgn b) ∧ -(sgn a).tmod (sgn b) < (if sgn b < 0 then -sgn b else sgn b) ∧
    (0 ≤ sgn a → 0 ≤ (sgn a).tmod (sgn b)) ∧ (sgn a ≤ 0 → (sgn a).tmod (sgn b) ≤ 0) := by
  have hs := sgn_zero hb h
  have h1 : ((sgn a).tmod (sgn b)).natAbs = (sgn a).natAbs % (sgn b).natAbs := Int.natAbs_tmod _ _
  have h2 : (sgn a).natAbs % (sgn b).natAbs < (sgn b).natAbs := Nat.mod_lt _ (by omega)
  refine ⟨by split <;> omega, by split <;> omega, fun h => Int.tmod_nonneg _ h, fun h => ?_⟩
  have h3 := Int.tmod_nonneg (sgn b) (show 0 ≤ -sgn a by omega)
  rw [Int.neg_tmod] at h3
  omega
theorem sgn_mod_of {n : Int} (h : -2147483648 ≤ n ∧ n ≤ 2147483647) : sgn (n % 4294967296) = n := of_sgn n h.1 h.2
theorem sgn_mul (a b : Int) : sgn a * sgn b % 4294967296 = a * b % 4294967296 := by
  have h1 : sgn a % 4294967296 = a % 4294967296 := by unfold sgn; split <;> omega
  have h2 : sgn b % 4294967296 = b % 4294967296 := by unfold sgn; split <;> omega
  rw [Int.mul_emod, h1, h2, ← Int.mul_emod]
end Go.Proofs.Ytjbobihiigeapaa.Words

/- Contracts of the document's own Do. No conditions but that a and b are words. -/
namespace Go.Proofs.Ytjbobihiigeapaa.Words
set_option maxRecDepth 100000
open Go.RowKit
set_option linter.unusedVariables false

set_option maxHeartbeats 400000 in
theorem refDiv_any (x y : Int) (w : World) (hx : -2147483648 ≤ x ∧ x ≤ 2147483647) (hy : y ≠ 0) :
    Calls Try.prog 53 #[.int .i64 x, .int .i64 y] w fun e w' => e = .returned (.tuple #[.int .i64 (x.tdiv y), .int .i64 (x.tmod y)]) ∧ ∃ k, w' = w.drewN k := by
  have h1 : (y == 0) = false := by simpa using hy
  have h2 : wrap64 (x.tdiv y) = x.tdiv y := by
    apply wrap64_in
    have h3 : (x.tdiv y).natAbs = x.natAbs / y.natAbs := Int.natAbs_tdiv x y
    have h4 : x.natAbs / y.natAbs ≤ x.natAbs := Nat.div_le_self _ _
    omega
  go_enter Try.func53, Try.ntmps53
  go_wp2
  go_quiet (fail)
  go_wp2
  go_ret2
  exact ⟨ret_ints (by first | rfl | exact h2) rfl, _, rfl⟩

set_option maxHeartbeats 400000 in
theorem refDo_no (i : Ins) (a b : Int) (w : World) (hr : rightB i = false) :
    Calls Try.prog 33 #[.agg #[.int .i64 i.op, .int .i64 i.d, .int .i64 i.a, .int .i64 i.b, .int .i64 i.imm], .int .u32 a, .int .u32 b] w fun e w' => e = .returned (.tuple #[.int .u32 0, .bool true]) ∧ Below w.heap.size w w' := by
  go_enter Try.func33, Try.ntmps33
  go_wp2_with fail
  refine (refForm_any _ _).mono ?_; rintro e w2 ⟨rfl, rfl⟩
  go_wp2_with fail
  refine (rightIns_any i _).mono ?_; rintro e w1 ⟨rfl, hb1⟩
  rw [hr]
  have hB1 : Below w.heap.size w w1 := ((Below.refl w.heap.size w).alloc (Nat.le_refl _) _).trans (hb1.mono (by simp))
  go_wp2_with fail
  go_ret2
  exact ⟨rfl, hB1⟩

set_option maxHeartbeats 400000 in
theorem refDo_other (i : Ins) (a b : Int) (w : World) (hr : rightB i = true) (hf : 3 < formZ i.op) :
    Calls Try.prog 33 #[.agg #[.int .i64 i.op, .int .i64 i.d, .int .i64 i.a, .int .i64 i.b, .int .i64 i.imm], .int .u32 a, .int .u32 b] w fun e w' => e = .returned (.tuple #[.int .u32 0, .bool true]) ∧ Below w.heap.size w w' := by
  go_enter Try.func33, Try.ntmps33
  go_wp2_with fail
  refine (refForm_any _ _).mono ?_; rintro e w2 ⟨rfl, rfl⟩
  go_wp2_with fail
  refine (rightIns_any i _).mono ?_; rintro e w1 ⟨rfl, hb1⟩
  rw [hr]
  have hB1 : Below w.heap.size w w1 := ((Below.refl w.heap.size w).alloc (Nat.le_refl _) _).trans (hb1.mono (by simp))
  go_wp2_with fail
  go_ret2
  exact ⟨rfl, hB1⟩

set_option maxHeartbeats 4000000 in
theorem refDo_1 (op d x y imm a b : Int) (w : World) (hr : rightB ⟨op, d, x, y, imm⟩ = true) (ho : 1 ≤ op ∧ op ≤ 12) (ha : 0 ≤ a ∧ a < 4294967296) (hb : 0 ≤ b ∧ b < 4294967296) :
    Calls Try.prog 33 #[.agg #[.int .i64 op, .int .i64 d, .int .i64 x, .int .i64 y, .int .i64 imm], .int .u32 a, .int .u32 b] w fun e w' => e = .returned (.tuple #[.int .u32 (threeZ op a b), .bool true]) ∧ Below w.heap.size w w' := by
  have hf : formZ op = 1 := by have := formZ_cases op; omega
  have h31 := and_31 b hb.1 hb.2
  have hs0 : 0 ≤ b % 32 := by omega
  have hs1 : b % 32 < 32 := by omega
  have h1 := sgn_range' ha
  have h2 := sgn_range' hb
  have h3 := prod_range h1 h2
  have h4 := Lib.hid (sgn_mul a b)
  have HR := Lib.hid hr
  clear hr
  go_enter Try.func33, Try.ntmps33
  go_wp2_with fail
  refine (refForm_any _ _).mono ?_; rintro e w2 ⟨rfl, rfl⟩
  rw [hf]
  clear hf
  go_wp2_with fail
  refine (rightIns_any ⟨op, d, x, y, imm⟩ _).mono ?_; rintro e w1 ⟨rfl, hb1⟩
  rw [HR.out]
  obtain ⟨hc1, hf1⟩ := bcell hb1
  have hz1 : w.heap.size < w1.heap.size := by have := hb1.size; simp at this; omega
  have hB1 : Below w.heap.size w w1 := ((Below.refl w.heap.size w).alloc (Nat.le_refl _) _).trans (hb1.mono (by simp))
  go_wp2_with fail
  refine (refInt_any _ _ ha.1 ha.2).mono ?_; rintro e w2 ⟨rfl, rfl⟩
  go_wp2_with fail
  refine (refInt_any _ _ hb.1 hb.2).mono ?_; rintro e w2 ⟨rfl, rfl⟩
  clear hc1 hf1
  have ho' : op = 1 ∨ op = 2 ∨ op = 3 ∨ op = 4 ∨ op = 5 ∨ op = 6 ∨ op = 7 ∨ op = 8 ∨ op = 9 ∨ op = 10 ∨ op = 11 ∨ op = 12 := by omega
  rcases ho' with rfl | rfl | rfl | rfl | rfl | rfl | rfl | rfl | rfl | rfl | rfl | rfl
  all_goals
    go_wp2_with (refine (one_any _ _).mono ?_; rintro e w' ⟨rfl, rfl⟩)
    all_goals
      go_ret2
      first
        | exact ⟨rfl, hB1⟩
        | exact ⟨ret_wb (by rw [threeZ_9]; split <;> first | rfl | (exfalso; simp at *; omega)) rfl, hB1⟩
        | exact ⟨ret_wb (by rw [threeZ_10]; split <;> first | rfl | (exfalso; simp at *; omega)) rfl, hB1⟩
        | exact ⟨ret_wb h4.out rfl, hB1⟩

set_option maxHeartbeats 4000000 in
theorem refDo_d (op d x y imm a b : Int) (w : World) (hr : rightB ⟨op, d, x, y, imm⟩ = true) (ho : 13 ≤ op ∧ op ≤ 16) (ha : 0 ≤ a ∧ a < 4294967296) (hb : 0 ≤ b ∧ b < 4294967296) :
    Calls Try.prog 33 #[.agg #[.int .i64 op, .int .i64 d, .int .i64 x, .int .i64 y, .int .i64 imm], .int .u32 a, .int .u32 b] w fun e w' => e = .returned (.tuple #[.int .u32 (threeZ op a b), .bool (threeB op b)]) ∧ Below w.heap.size w w' := by
  have hf : formZ op = 1 := by have := formZ_cases op; omega
  have h1 := sgn_range' ha
  have h2 := sgn_range' hb
  have HR := Lib.hid hr
  have HS := Lib.hid (fun h => sgn_zero hb h)
  clear hr
  go_enter Try.func33, Try.ntmps33
  go_wp2_with fail
  refine (refForm_any _ _).mono ?_; rintro e w2 ⟨rfl, rfl⟩
  rw [hf]
  clear hf
  go_wp2_with fail
  refine (rightIns_any ⟨op, d, x, y, imm⟩ _).mono ?_; rintro e w1 ⟨rfl, hb1⟩
  rw [HR.out]
  obtain ⟨hc1, hf1⟩ := bcell hb1
  have hz1 : w.heap.size < w1.heap.size := by have := hb1.size; simp at this; omega
  have hB1 : Below w.heap.size w w1 := ((Below.refl w.heap.size w).alloc (Nat.le_refl _) _).trans (hb1.mono (by simp))
  go_wp2_with fail
  refine (refInt_any _ _ ha.1 ha.2).mono ?_; rintro e w2 ⟨rfl, rfl⟩
  go_wp2_with fail
  refine (refInt_any _ _ hb.1 hb.2).mono ?_; rintro e w2 ⟨rfl, rfl⟩
  clear hc1 hf1
  have ho' : op = 13 ∨ op = 14 ∨ op = 15 ∨ op = 16 := by omega
  by_cases h0 : b = 0
  · subst h0
    rcases ho' with rfl | rfl | rfl | rfl
    all_goals
      go_wp2_with fail
      go_ret2
      exact ⟨rfl, hB1⟩
  · have h5 : (b == 0) = false := by simpa using h0
    have h6 := Lib.hid (HS.out h0)
    rcases ho' with rfl | rfl | rfl | rfl
    all_goals
      go_wp2_with fail
      refine (refDiv_any _ _ _ h1 h6.out).mono ?_; rintro e w2 ⟨rfl, k, rfl⟩
      go_wp2_with fail
      go_ret2
      refine ⟨ret_wb (?_ : _ = threeZ _ _ _) (by simp [threeB, h0]), Below.drewN_ hB1 k⟩
      first
        | exact (threeZ_13 _ _ h0).symm
        | exact (threeZ_14 _ _ h0).symm
        | exact (threeZ_15 _ _ h0).symm
        | exact (threeZ_16 _ _ h0).symm

set_option maxHeartbeats 4000000 in
theorem refDo_2 (op d x y imm a b : Int) (w : World) (hr : rightB ⟨op, d, x, y, imm⟩ = true) (ho : 17 ≤ op ∧ op ≤ 24) (ha : 0 ≤ a ∧ a < 4294967296) (hb : 0 ≤ b ∧ b < 4294967296) :
    Calls Try.prog 33 #[.agg #[.int .i64 op, .int .i64 d, .int .i64 x, .int .i64 y, .int .i64 imm], .int .u32 a, .int .u32 b] w fun e w' => e = .returned (.tuple #[.int .u32 (threeZ (likeZ op) a (imm % 4294967296)), .bool true]) ∧ Below w.heap.size w w' := by
  have hf : formZ op = 2 := by have := formZ_cases op; omega
  have h1 := sgn_range' ha
  have HR := Lib.hid hr
  clear hr
  go_enter Try.func33, Try.ntmps33
  go_wp2_with fail
  refine (refForm_any _ _).mono ?_; rintro e w2 ⟨rfl, rfl⟩
  rw [hf]
  clear hf
  go_wp2_with fail
  refine (rightIns_any ⟨op, d, x, y, imm⟩ _).mono ?_; rintro e w1 ⟨rfl, hb1⟩
  rw [HR.out]
  obtain ⟨hc1, hf1⟩ := bcell hb1
  have hz1 : w.heap.size < w1.heap.size := by have := hb1.size; simp at this; omega
  have hB1 : Below w.heap.size w w1 := ((Below.refl w.heap.size w).alloc (Nat.le_refl _) _).trans (hb1.mono (by simp))
  have hm : 0 ≤ imm % 4294967296 ∧ imm % 4294967296 < 4294967296 := by omega
  have h31 := and_31 _ hm.1 hm.2
  have hs0 : 0 ≤ imm % 4294967296 % 32 := by omega
  have hs1 : imm % 4294967296 % 32 < 32 := by omega
  have h2 := sgn_range' hm
  have ho' : op = 17 ∨ op = 18 ∨ op = 19 ∨ op = 20 ∨ op = 21 ∨ op = 22 ∨ op = 23 ∨ op = 24 := by omega
  have HMM := Lib.hid (show imm % 4294967296 % 32 = imm % 32 by omega)
  have hB2 := Lib.hid (fun o => hB1.alloc (Nat.le_of_lt hz1) o)
  rcases ho' with rfl | rfl | rfl | rfl | rfl | rfl | rfl | rfl
  all_goals
    go_wp2_with fail
    refine (refInt_any _ _ ha.1 ha.2).mono ?_; rintro e w2 ⟨rfl, rfl⟩
    go_wp2_with fail
    refine (refInt_any _ _ hm.1 hm.2).mono ?_; rintro e w2 ⟨rfl, rfl⟩
    go_wp2_with (refine (one_any _ _).mono ?_; rintro e w' ⟨rfl, rfl⟩)
    all_goals
      go_ret2
      first
        | exact ⟨rfl, hB2.out _⟩
        | exact ⟨ret_wb (by show _ = threeZ 6 _ _; rw [threeZ_6, HMM.out]) rfl, hB2.out _⟩
        | exact ⟨ret_wb (by show _ = threeZ 7 _ _; rw [threeZ_7, HMM.out]) rfl, hB2.out _⟩
        | exact ⟨ret_wb (by show _ = threeZ 8 _ _; rw [threeZ_8, HMM.out]) rfl, hB2.out _⟩
        | exact ⟨ret_wb (by show _ = threeZ 9 _ _; rw [threeZ_9]; split <;> first | rfl | (exfalso; simp at *; omega)) rfl, hB2.out _⟩

set_option maxHeartbeats 4000000 in
theorem refDo_3 (d x y imm a b : Int) (w : World) (hr : rightB ⟨25, d, x, y, imm⟩ = true) (ha : 0 ≤ a ∧ a < 4294967296) (hb : 0 ≤ b ∧ b < 4294967296) :
    Calls Try.prog 33 #[.agg #[.int .i64 25, .int .i64 d, .int .i64 x, .int .i64 y, .int .i64 imm], .int .u32 a, .int .u32 b] w fun e w' => e = .returned (.tuple #[.int .u32 (imm * 262144 % 4294967296), .bool true]) ∧ Below w.heap.size w w' := by
  have hf : formZ 25 = 3 := rfl
  have HR := Lib.hid hr
  clear hr
  go_enter Try.func33, Try.ntmps33
  go_wp2_with fail
  refine (refForm_any _ _).mono ?_; rintro e w2 ⟨rfl, rfl⟩
  rw [hf]
  clear hf
  go_wp2_with fail
  refine (rightIns_any ⟨25, d, x, y, imm⟩ _).mono ?_; rintro e w1 ⟨rfl, hb1⟩
  rw [HR.out]
  obtain ⟨hc1, hf1⟩ := bcell hb1
  have hz1 : w.heap.size < w1.heap.size := by have := hb1.size; simp at this; omega
  have hB1 : Below w.heap.size w w1 := ((Below.refl w.heap.size w).alloc (Nat.le_refl _) _).trans (hb1.mono (by simp))
  go_wp2_with fail
  refine (refInt_any _ _ ha.1 ha.2).mono ?_; rintro e w2 ⟨rfl, rfl⟩
  go_wp2_with fail
  refine (refInt_any _ _ hb.1 hb.2).mono ?_; rintro e w2 ⟨rfl, rfl⟩
  go_wp2_with fail
  go_ret2
  exact ⟨ret_wb (by omega) rfl, hB1⟩

theorem refDo_any (i : Ins) (a b : Int) (w : World) (ha : 0 ≤ a ∧ a < 4294967296) (hb : 0 ≤ b ∧ b < 4294967296) :
    Calls Try.prog 33 #[.agg #[.int .i64 i.op, .int .i64 i.d, .int .i64 i.a, .int .i64 i.b, .int .i64 i.imm], .int .u32 a, .int .u32 b] w fun e w' => e = .returned (.tuple #[.int .u32 (doZ i a b), .bool (doB i b)]) ∧ Below w.heap.size w w' := by
  have hc := formZ_cases i.op
  cases hr : rightB i
  · rw [doZ_no hr, doB_no hr]; exact refDo_no i a b w hr
  by_cases h4 : 3 < formZ i.op
  · rw [doZ_n (by omega) (by omega) (by omega), doB_n (by omega)]; exact refDo_other i a b w hr h4
  have hn0 : formZ i.op ≠ 0 := fun h => by
    have := right_none (i := i) (by simpa using h)
    rw [this] at hr; cases hr
  by_cases h1 : formZ i.op = 1
  · rw [doZ_1 hr h1, doB_1 hr h1]
    by_cases h12 : i.op ≤ 12
    · rw [threeB_low h12]; exact refDo_1 i.op i.d i.a i.b i.imm a b w hr (by omega) ha hb
    · exact refDo_d i.op i.d i.a i.b i.imm a b w hr (by omega) ha hb
  by_cases h2 : formZ i.op = 2
  · rw [doZ_2 hr h2, doB_n h1]; exact refDo_2 i.op i.d i.a i.b i.imm a b w hr (by omega) ha hb
  have h3 : formZ i.op = 3 := by omega
  rw [doZ_3 hr h3, doB_n h1]
  obtain ⟨op, d, x, y, imm⟩ := i
  have h25 : op = 25 := by simp only at *; omega
  subst h25
  exact refDo_3 d x y imm a b w hr ha hb
end Go.Proofs.Ytjbobihiigeapaa.Words

/- Contracts of the document's own Size and Check. -/
namespace Go.Proofs.Ytjbobihiigeapaa.Words
set_option maxRecDepth 100000
open Go.RowKit
set_option linter.unusedVariables false

set_option maxHeartbeats 400000 in
theorem refSize_any (op : Int) (w : World) :
    Calls Try.prog 32 #[.int .i64 op] w fun e w' => e = .returned (.int .i64 (sizeZ op)) ∧ w = w' := by
  have hc := sizeZ_cases op
  go_enter Try.func32, Try.ntmps32
  go_wp2
  all_goals
    go_ret
    exact ⟨ret_int (by (try simp only [beq_iff_eq, beq_eq_false_iff_ne, ne_eq] at *); omega), rfl⟩

set_option maxHeartbeats 1000000 in
theorem refCheck_any (size addr n : Int) (w : World) (h0 : 0 ≤ addr) (h1 : addr ≤ 4294967295) (hs : -9223372036854775808 ≤ size ∧ size ≤ 9223372036854775807) (hn : -9223372036854775808 ≤ n ∧ n ≤ 9223372036854775807) :
    Calls Try.prog 21 #[.int .i64 size, .int .u32 addr, .int .i64 n] w fun e w' => e = .returned (.int .i64 (checkZ size addr n)) ∧ w = w' := by
  obtain ⟨s0, s1⟩ := hs
  obtain ⟨n0, n1⟩ := hn
  by_cases hs : size < 1
  · by_cases hr : n < addr + size
    · have t := Lib.hid (checkZ_range (n := n) (addr := addr) (.inl hs) hr)
      go_enter Try.func21, Try.ntmps21
      go_wp2_with fail
      go_ret
      exact ⟨ret_int t.out.symm, rfl⟩
    · have t := Lib.hid (checkZ_ok (n := n) (addr := addr) (.inl hs) (by omega))
      go_enter Try.func21, Try.ntmps21
      go_wp2_with fail
      go_ret
      exact ⟨ret_int t.out.symm, rfl⟩
  have hm0 : 0 ≤ addr % size := Int.emod_nonneg _ (by omega)
  have hm1 : addr % size < size := Int.emod_lt_of_pos _ (by omega)
  by_cases hm : addr % size = 0
  · have HM := Lib.hid hm
    by_cases hr : n < size
    · have t := Lib.hid (checkZ_range (n := n) (addr := addr) (.inr hm) (by omega))
      go_enter Try.func21, Try.ntmps21
      go_wp2_with fail
      go_ret
      exact ⟨ret_int t.out.symm, rfl⟩
    by_cases hq : n < addr + size
    · have t := Lib.hid (checkZ_range (n := n) (addr := addr) (.inr hm) hq)
      go_enter Try.func21, Try.ntmps21
      go_wp2_with fail
      go_ret
      exact ⟨ret_int t.out.symm, rfl⟩
    · have t := Lib.hid (checkZ_ok (n := n) (addr := addr) (.inr hm) (by omega))
      go_enter Try.func21, Try.ntmps21
      go_wp2_with fail
      go_ret
      exact ⟨ret_int t.out.symm, rfl⟩
  · have t := Lib.hid (checkZ_mis (n := n) (show 1 ≤ size by omega) hm)
    have hq : (addr % size != 0) = true := by simp [hm]
    go_enter Try.func21, Try.ntmps21
    go_wp2_with fail
    go_ret
    exact ⟨ret_int t.out.symm, rfl⟩
end Go.Proofs.Ytjbobihiigeapaa.Words

/- A cell as plain data: its nine cells in memory. Nothing here speaks of one program text. -/
import Derived.Test.YtcaibahniheohaaPData
import Derived.Test.YtcaibahniheohaaFlat
namespace Go.Proofs.Ytcaibahniheohaa.Words
set_option maxRecDepth 100000
open Go.RowKit
/-- A cell's plain data. -/
structure Cel where
  kind : Int
  ins : Ins
  reg : Int
  pc : Int
  off : Int
deriving DecidableEq
def Cel.Fits (c : Cel) : Prop := (-9223372036854775808 ≤ c.kind ∧ c.kind ≤ 9223372036854775807) ∧ c.ins.Fits ∧ (-9223372036854775808 ≤ c.reg ∧ c.reg ≤ 9223372036854775807) ∧ (-9223372036854775808 ≤ c.pc ∧ c.pc ≤ 9223372036854775807) ∧ (-9223372036854775808 ≤ c.off ∧ c.off ≤ 9223372036854775807)
def celV (c : Cel) : Value := .agg #[.int .i64 c.kind, .int .i64 c.ins.op, .int .i64 c.ins.d, .int .i64 c.ins.a, .int .i64 c.ins.b, .int .i64 c.ins.imm, .int .i64 c.reg, .int .i64 c.pc, .int .i64 c.off]
def celCells (c : Cel) : List Value := [.int .i64 c.kind, .int .i64 c.ins.op, .int .i64 c.ins.d, .int .i64 c.ins.a, .int .i64 c.ins.b, .int .i64 c.ins.imm, .int .i64 c.reg, .int .i64 c.pc, .int .i64 c.off]
theorem celCells_len (c : Cel) : (celCells c).length = 9 := rfl
theorem celV_cells (c : Cel) : celV c = .agg (celCells c).toArray := rfl
theorem celCells_one (c : Cel) : ∀ u ∈ celCells c, u.oneCell' = true := by
  intro u hu
  simp only [celCells, List.mem_cons, List.not_mem_nil, or_false] at hu
  rcases hu with rfl | rfl | rfl | rfl | rfl | rfl | rfl | rfl | rfl <;> rfl
theorem Cel.eq_iff (c d : Cel) : c = d ↔ c.kind = d.kind ∧ c.ins.op = d.ins.op ∧ c.ins.d = d.ins.d ∧ c.ins.a = d.ins.a ∧ c.ins.b = d.ins.b ∧ c.ins.imm = d.ins.imm ∧ c.reg = d.reg ∧ c.pc = d.pc ∧ c.off = d.off := by
  obtain ⟨k, ⟨o, d0, a, b, m⟩, r, p, f⟩ := c
  obtain ⟨k', ⟨o', d', a', b', m'⟩, r', p', f'⟩ := d
  simp [and_assoc]
/-- The nine cells of a cell of a row. -/
theorem Row.cel {w : World} {B n c b off : Nat} {l : List Cel} (h : Row w B 9 (.slice (some ⟨b, off, none⟩) n c) n (flat celCells l)) {k : Nat} {x : Cel} (hx : l[k]? = some x) :
    w.cell? ⟨b, off + k * 9, none⟩ = some (.int .i64 x.kind) ∧ w.cell? ⟨b, off + k * 9 + 1, none⟩ = some (.int .i64 x.ins.op) ∧ w.cell? ⟨b, off + k * 9 + 2, none⟩ = some (.int .i64 x.ins.d) ∧ w.cell? ⟨b, off + k * 9 + 3, none⟩ = some (.int .i64 x.ins.a) ∧ w.cell? ⟨b, off + k * 9 + 4, none⟩ = some (.int .i64 x.ins.b) ∧
    w.cell? ⟨b, off + k * 9 + 5, none⟩ = some (.int .i64 x.ins.imm) ∧ w.cell? ⟨b, off + k * 9 + 6, none⟩ = some (.int .i64 x.reg) ∧ w.cell? ⟨b, off + k * 9 + 7, none⟩ = some (.int .i64 x.pc) ∧ w.cell? ⟨b, off + k * 9 + 8, none⟩ = some (.int .i64 x.off) :=
  ⟨h.flat_cell celCells_len hx (j := 0) (by omega) rfl, h.flat_cell celCells_len hx (j := 1) (by omega) rfl, h.flat_cell celCells_len hx (j := 2) (by omega) rfl, h.flat_cell celCells_len hx (j := 3) (by omega) rfl, h.flat_cell celCells_len hx (j := 4) (by omega) rfl,
    h.flat_cell celCells_len hx (j := 5) (by omega) rfl, h.flat_cell celCells_len hx (j := 6) (by omega) rfl, h.flat_cell celCells_len hx (j := 7) (by omega) rfl, h.flat_cell celCells_len hx (j := 8) (by omega) rfl⟩
end Go.Proofs.Ytcaibahniheohaa.Words

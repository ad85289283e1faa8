/- A cell as plain data: its nine cells in memory. Nothing here speaks of one program text. -/
import Derived.Test.YtcaibahniheohaaDoorBG00
import Derived.Test.YtcaibahniheohaaDoorBSFlat
namespace Go.Proofs.YtcaibahniheohaaDoor.Words
set_option maxRecDepth 100000
open Go.RowKit
structure Cel where
  kind : Int
  ins : Ins
  reg : Int
  pc : Int
  off : Int
deriving DecidableEq
def Cel.Fits (c : Cel) : Prop := (-9223372036854775808 ≤ c.kind ∧ c.kind ≤ 9223372036854775807) ∧ c.ins.Fits ∧ (-9223372036854775808 ≤ c.reg ∧ c.reg ≤ 9223372036854775807) ∧ (-9223372036854775808 ≤ c.pc ∧ c.pc ≤ 9223372036854775807) ∧ (-9223372036854775808 ≤ c.off ∧ c.off ≤ 9223372036854775807)
def celV (c : Cel) : Value := .agg #[.int .i64 c.kind, .int .i64 c.ins.op, .int .i64 c.ins.d, .int .i64 c.ins.a, .int .i64 c.ins.b, .int .i64 c.ins.imm, .int .i64 c.reg, .int .i64 c.pc, .int .i64 c.off]
theorem Cel.eq_iff (c d : Cel) : c = d ↔ c.kind = d.kind ∧ c.ins.op = d.ins.op ∧ c.ins.d = d.ins.d ∧ c.ins.a = d.ins.a ∧ c.ins.b = d.ins.b ∧ c.ins.imm = d.ins.imm ∧ c.reg = d.reg ∧ c.pc = d.pc ∧ c.off = d.off := by
  obtain ⟨k, ⟨o, d0, a, b, m⟩, r, p, f⟩ := c
  obtain ⟨k', ⟨o', d', a', b', m'⟩, r', p', f'⟩ := d
  simp [and_assoc]
end Go.Proofs.YtcaibahniheohaaDoor.Words

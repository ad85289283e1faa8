/- Two instructions compared. -/
import Derived.Test.YtimdojeagkbgbaaDoorRows
import Derived.Test.YtimdojeagkbgbaaDoorBase
import Derived.Test.YtimdojeagkbgbaaDoorIsaMath
namespace Go.Proofs.YtimdojeagkbgbaaDoor.Words
set_option maxRecDepth 100000
open Go.RowKit
theorem eqFields_ins (i k : Ins) (w : World) : (Op.equalIn 10000 48 (.agg #[.int .i64 i.op, .int .i64 i.d, .int .i64 i.a, .int .i64 i.b, .int .i64 i.imm]) (.agg #[.int .i64 k.op, .int .i64 k.d, .int .i64 k.a, .int .i64 k.b, .int .i64 k.imm])).run Tryd.prog w = .ok (decide (i = k)) w := by
  have hS : Tryd.prog.underlying 48 = some (.struct (Tryd.prog.fieldsOf 48)) := by kernel_rfl
  have hp : Tryd.prog.stoodInHeld 48 = false := by kernel_rfl
  rw [show (10000 : Nat) = 9999 + 1 from rfl, run_equalIn_agg w 9999 48 _ _ hS hp]
  simp only [Program.fieldsOf, Tryd.underlying48]
  go_simp
  have e := Ins.eq_iff i k
  by_cases h1 : i.op = k.op <;> by_cases h2 : i.d = k.d <;> by_cases h3 : i.a = k.a <;> by_cases h4 : i.b = k.b <;> by_cases h5 : i.imm = k.imm <;> simp [h1, h2, h3, h4, h5, e]
theorem eql_ins (i k : Ins) (w : World) : (binOp .eql 48 (.agg #[.int .i64 i.op, .int .i64 i.d, .int .i64 i.a, .int .i64 i.b, .int .i64 i.imm]) (.agg #[.int .i64 k.op, .int .i64 k.d, .int .i64 k.a, .int .i64 k.b, .int .i64 k.imm])).run Tryd.prog w = .ok (.bool (decide (i = k))) w := by
  rw [run_eql_struct, eqFields_ins]; rfl
theorem neq_ins (i k : Ins) (w : World) : (binOp .neq 48 (.agg #[.int .i64 i.op, .int .i64 i.d, .int .i64 i.a, .int .i64 i.b, .int .i64 i.imm]) (.agg #[.int .i64 k.op, .int .i64 k.d, .int .i64 k.a, .int .i64 k.b, .int .i64 k.imm])).run Tryd.prog w = .ok (.bool (!decide (i = k))) w := by
  rw [run_neq_struct, eqFields_ins]; rfl

end Go.Proofs.YtimdojeagkbgbaaDoor.Words

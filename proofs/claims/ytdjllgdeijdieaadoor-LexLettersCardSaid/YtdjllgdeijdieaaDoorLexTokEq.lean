/- Two tokens compared. -/
import Derived.Test.YtdjllgdeijdieaaDoorLexAlive
import Derived.Laws.StructEq
namespace Go.Proofs.YtdjllgdeijdieaaDoor.Words
set_option maxRecDepth 100000
open Go.RowKit Go.Shelf Go.Lib
set_option linter.unusedVariables false
set_option linter.unusedSimpArgs false

theorem Tok.eq_iff (a b : Tok) : a = b ↔ a.kind = b.kind ∧ a.num = b.num ∧ a.at_ = b.at_ ∧ a.text = b.text := by cases a; cases b; simp
theorem txt_list (l : List UInt8) : (txt l).toList = l := by rw [Lib.toList_data]
theorem txt_beq (a b : List UInt8) : ((txt a).toList == (txt b).toList) = decide (a = b) := by
  rw [txt_list, txt_list, Bool.eq_iff_iff]; simp
theorem eqFields_tok (i k : Tok) (w : World) : (Op.equalIn 10000 33 (.agg #[.int .i64 i.kind, .int .i64 i.num, .int .i64 (i.at_ : Int), .string (txt i.text)]) (.agg #[.int .i64 k.kind, .int .i64 k.num, .int .i64 (k.at_ : Int), .string (txt k.text)])).run Tryd.prog w = .ok (decide (i = k)) w := by
  have hS : Tryd.prog.underlying 33 = some (.struct (Tryd.prog.fieldsOf 33)) := by kernel_rfl
  have hp : Tryd.prog.stoodInHeld 33 = false := by kernel_rfl
  have e := Tok.eq_iff i k
  have hb := txt_beq i.text k.text
  have hi : ((i.at_ : Int) = (k.at_ : Int)) ↔ i.at_ = k.at_ := by omega
  rw [show (10000 : Nat) = 9999 + 1 from rfl, run_equalIn_agg w 9999 33 _ _ hS hp]
  simp only [Program.fieldsOf, Tryd.underlying33]
  generalize txt i.text = X at *
  generalize txt k.text = Y at *
  go_simp
  by_cases h1 : i.kind = k.kind <;> by_cases h2 : i.num = k.num <;> by_cases h3 : i.at_ = k.at_ <;> by_cases h4 : i.text = k.text <;> simp [h1, h2, h3, h4, e, hb, hi]
theorem eql_tok (i k : Tok) (w : World) : (binOp .eql 33 (.agg #[.int .i64 i.kind, .int .i64 i.num, .int .i64 (i.at_ : Int), .string (txt i.text)]) (.agg #[.int .i64 k.kind, .int .i64 k.num, .int .i64 (k.at_ : Int), .string (txt k.text)])).run Tryd.prog w = .ok (.bool (decide (i = k))) w := by
  rw [run_eql_struct, eqFields_tok]; rfl
theorem neq_tok (i k : Tok) (w : World) : (binOp .neq 33 (.agg #[.int .i64 i.kind, .int .i64 i.num, .int .i64 (i.at_ : Int), .string (txt i.text)]) (.agg #[.int .i64 k.kind, .int .i64 k.num, .int .i64 (k.at_ : Int), .string (txt k.text)])).run Tryd.prog w = .ok (.bool (!decide (i = k))) w := by
  rw [run_neq_struct, eqFields_tok]; rfl
end Go.Proofs.YtdjllgdeijdieaaDoor.Words

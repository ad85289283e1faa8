/- Parts of a core's state compared: slots, entries, requests, writes, traps, sides. -/
import Derived.Test.YtpoigbgdaiopmaaStaData
import Derived.Test.YtpoigbgdaiopmaaArrEq
import Derived.Test.YtpoigbgdaiopmaaStrEq
namespace Go.Proofs.Ytpoigbgdaiopmaa.Words
set_option maxRecDepth 100000
open Go.RowKit
set_option linter.unusedVariables false

section
variable {P : Program} (w : World)
theorem part_aggS {t : TypeId} {n : Nat} {i : TypeInfo} (ha : (isAgg t).run P w = .ok true w) (hi : P.info? t = some i) (hn : P.cellsOf t = n) (l : List Value) (off : Nat) :
    (part t l.toArray off).run P w = .ok (.agg ((l.drop off).take n).toArray) w := by
  simp only [part, Sem.run_bind, ha, Result.andThen_ok, if_true, run_sizeOf w hi, Sem.run_pure, hn]
  congr 2
  simp [List.extract_toArray, Nat.add_sub_cancel_left]
theorem part_oneS {t : TypeId} (ha : (isAgg t).run P w = .ok false w) (l : List Value) (off : Nat) {u : Value} (hu : l[off]? = some u) :
    (part t l.toArray off).run P w = .ok u w := by
  have : l.toArray[off]? = some u := by simpa using hu
  simp only [part, Sem.run_bind, ha, Result.andThen_ok, Bool.false_eq_true, if_false, this, Sem.run_pure]
theorem isAgg_array {t e : TypeId} {n : Nat} (hu : P.underlying t = some (.array n e)) : (isAgg t).run P w = .ok true w := by simp [isAgg, run_underlying hu]
theorem isAgg_struct {t : TypeId} {fs : Array Field} (hu : P.underlying t = some (.struct fs)) : (isAgg t).run P w = .ok true w := by simp [isAgg, run_underlying hu]
theorem isAgg_int {t : TypeId} {k : IntKind} (hu : P.underlying t = some (.int k)) : (isAgg t).run P w = .ok false w := by simp [isAgg, run_underlying hu]
theorem isAgg_bool {t : TypeId} (hu : P.underlying t = some .bool) : (isAgg t).run P w = .ok false w := by simp [isAgg, run_underlying hu]
theorem eqFields_step {d : Nat} {xs ys : Array Value} {f : Field} {fs : List Field} {a b : Value} {r : Bool} (hn : f.name ≠ "_") (ha : (part f.type xs f.offset).run P w = .ok a w) (hb : (part f.type ys f.offset).run P w = .ok b w)
    (hr : (Op.equalIn d f.type a b).run P w = .ok r w) : (Op.eqFields d xs ys (f :: fs)).run P w = if r then (Op.eqFields d xs ys fs).run P w else .ok false w := by
  simp only [Op.eqFields, hn, ne_eq, not_false_eq_true, if_true, Sem.run_bind, ha, hb, hr, Result.andThen_ok]
  cases r <;> simp
theorem eqIn_arrS (d : Nat) {t e : TypeId} {k : IntKind} {n : Nat} {i : TypeInfo} (hu : P.underlying t = some (.array n e)) (he : P.underlying e = some (.int k)) (hi : P.info? e = some i) (hc : P.cellsOf e = 1) (l m : List Int) (hl : l.length = n) (hm : m.length = n) :
    (Op.equalIn (d + 2) t (.agg (l.map (Value.int k)).toArray) (.agg (m.map (Value.int k)).toArray)).run P w = .ok (decide (l = m)) w := by
  rw [show d + 2 = (d + 1) + 1 from rfl, run_equalIn_array w (d + 1) _ _ hu hi, hc, items_num w d he l m (List.range n) (fun i h => by rw [List.mem_range] at h; omega), show n = l.length from hl.symm, all_getD l m (hl.trans hm.symm)]
end
theorem infoI_u32 : ∃ i, Try.prog.info? 23 = some i := by
  have : (Try.prog.info? 23).isSome = true := by kernel_rfl
  exact Option.isSome_iff_exists.1 this
theorem infoI_int : ∃ i, Try.prog.info? 3 = some i := by
  have : (Try.prog.info? 3).isSome = true := by kernel_rfl
  exact Option.isSome_iff_exists.1 this
theorem Sid.eq_iff (a b : Sid) : a = b ↔ a.regs = b.regs ∧ a.ready = b.ready ∧ (a.blk = b.blk ∧ a.idx = b.idx ∧ a.base = b.base) ∧ a.wait = b.wait ∧ a.halted = b.halted ∧ a.done = b.done := by
  cases a; cases b; simp [and_assoc]
theorem Slt.eq_iff (a b : Slt) : a = b ↔ a.tag = b.tag ∧ a.full = b.full ∧ a.val = b.val := by cases a; cases b; simp
theorem Ent.eq_iff (a b : Ent) : a = b ↔ a.addr = b.addr ∧ a.size = b.size ∧ a.step = b.step ∧ a.known = b.known ∧ a.val = b.val := by cases a; cases b; simp
theorem Rqs.eq_iff (a b : Rqs) : a = b ↔ a.store = b.store ∧ a.op = b.op ∧ a.addr = b.addr ∧ a.size = b.size ∧ a.val = b.val ∧ a.left = b.left ∧ a.reg = b.reg ∧ a.tag = b.tag := by cases a; cases b; simp
theorem WrS.eq_iff (a b : Wr) : a = b ↔ a.addr = b.addr ∧ a.size = b.size ∧ a.val = b.val := by cases a; cases b; simp
theorem eqS_slt (i k : Slt) (w : World) : (Op.equalIn 10000 37 (.agg #[.int .i64 i.tag, .bool i.full, .int .u32 i.val]) (.agg #[.int .i64 k.tag, .bool k.full, .int .u32 k.val])).run Try.prog w = .ok (decide (i = k)) w := by
  have hS : Try.prog.underlying 37 = some (.struct (Try.prog.fieldsOf 37)) := by kernel_rfl
  have hp : Try.prog.stoodInHeld 37 = false := by kernel_rfl
  rw [show (10000 : Nat) = 9999 + 1 from rfl, run_equalIn_agg w 9999 37 _ _ hS hp]
  simp only [Program.fieldsOf, Try.underlying37]
  go_simp
  by_cases h : i = k
  · subst h; simp
  · rw [decide_eq_false h]
    repeat' split
    all_goals first | rfl | (exact absurd ((Slt.eq_iff i k).2 ⟨by assumption, by assumption, by assumption⟩) h)
theorem neqS_slt (i k : Slt) (w : World) : (binOp .neq 37 (.agg #[.int .i64 i.tag, .bool i.full, .int .u32 i.val]) (.agg #[.int .i64 k.tag, .bool k.full, .int .u32 k.val])).run Try.prog w = .ok (.bool (!decide (i = k))) w := by
  rw [run_neq_struct, eqS_slt]; rfl
theorem sidL_regsP {s : Sid} (h : s.Ok) : ((sidL s).drop 0).take 16 = s.regs.map (Value.int .u32) := by
  unfold sidL; rw [List.drop_zero, List.take_append_of_le_length (by simp [h.regs]), List.take_of_length_le (by simp [h.regs])]
theorem sidL_readyP {s : Sid} (h : s.Ok) : ((sidL s).drop 16).take 16 = s.ready.map (Value.int .i64) := by
  unfold sidL; rw [List.drop_left' (by simp [h.regs]), List.take_append_of_le_length (by simp [h.ready]), List.take_of_length_le (by simp [h.ready])]
theorem sidL_posP {s : Sid} (h : s.Ok) : ((sidL s).drop 32).take 3 = [.int .i64 s.blk, .int .i64 s.idx, .int .i64 s.base] := by
  unfold sidL
  rw [← List.append_assoc, List.drop_left' (by simp [h.regs, h.ready])]; rfl
end Go.Proofs.Ytpoigbgdaiopmaa.Words

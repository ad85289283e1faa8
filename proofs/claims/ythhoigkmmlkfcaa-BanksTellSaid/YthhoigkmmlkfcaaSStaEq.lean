/- Parts of a core's state compared: slots, entries, requests, writes, traps, sides. -/
import Derived.Test.YthhoigkmmlkfcaaG02
import Derived.Test.YthhoigkmmlkfcaaSArrEq
import Derived.Test.YthhoigkmmlkfcaaSStrEq
namespace Go.Proofs.Ythhoigkmmlkfcaa.Words
set_option maxRecDepth 100000
open Go.RowKit
set_option linter.unusedVariables false

section
variable {P : Program} (w : World)
theorem part_aggS {t : TypeId} {n : Nat} {i : TypeInfo} (ha : (isAgg t).run P w = .ok true w) (hi : P.info? t = some i) (hn : P.cellsOf t = n) (l : List Value) (off : Nat) :
    (part t l.toArray off).run P w = .ok (.agg ((l.drop off).take n).toArray) w := by
  simp only [part, Sem.run_bind, ha, Result.andThen_ok, if_true, run_sizeOf w hi, Sem.run_pure, hn]
  congr 2
  simp [List.extract_toArray, Nat.add_sub_cancel_left]
theorem part_oneS {t : TypeId} (ha : (isAgg t).run P w = .ok false w) (l : List Value) (off : Nat) {u : Value} (hu : l[off]? = some u) :
    (part t l.toArray off).run P w = .ok u w := by
  have : l.toArray[off]? = some u := by simpa using hu
  simp only [part, Sem.run_bind, ha, Result.andThen_ok, Bool.false_eq_true, if_false, this, Sem.run_pure]
theorem isAgg_array {t e : TypeId} {n : Nat} (hu : P.underlying t = some (.array n e)) : (isAgg t).run P w = .ok true w := by simp [isAgg, run_underlying hu]
theorem isAgg_struct {t : TypeId} {fs : Array Field} (hu : P.underlying t = some (.struct fs)) : (isAgg t).run P w = .ok true w := by simp [isAgg, run_underlying hu]
theorem isAgg_int {t : TypeId} {k : IntKind} (hu : P.underlying t = some (.int k)) : (isAgg t).run P w = .ok false w := by simp [isAgg, run_underlying hu]
theorem isAgg_bool {t : TypeId} (hu : P.underlying t = some .bool) : (isAgg t).run P w = .ok false w := by simp [isAgg, run_underlying hu]
theorem eqFields_step {d : Nat} {xs ys : Array Value} {f : Field} {fs : List Field} {a b : Value} {r : Bool} (hn : f.name ≠ "_") (ha : (part f.type xs f.offset).run P w = .ok a w) (hb : (part f.type ys f.offset).run P w = .ok b w)
    (hr : (Op.equalIn d f.type a b).run P w = .ok r w) : (Op.eqFields d xs ys (f :: fs)).run P w = if r then (Op.eqFields d xs ys fs).run P w else .ok false w := by
  simp only [Op.eqFields, hn, ne_eq, not_false_eq_true, if_true, Sem.run_bind, ha, hb, hr, Result.andThen_ok]
  cases r <;> simp
theorem eqIn_arrS (d : Nat) {t e : TypeId} {k : IntKind} {n : Nat} {i : TypeInfo} (hu : P.underlying t = some (.array n e)) (he : P.underlying e = some (.int k)) (hi : P.info? e = some i) (hc : P.cellsOf e = 1) (l m : List Int) (hl : l.length = n) (hm : m.length = n) :
    (Op.equalIn (d + 2) t (.agg (l.map (Value.int k)).toArray) (.agg (m.map (Value.int k)).toArray)).run P w = .ok (decide (l = m)) w := by
  rw [show d + 2 = (d + 1) + 1 from rfl, run_equalIn_array w (d + 1) _ _ hu hi, hc, items_num w d he l m (List.range n) (fun i h => by rw [List.mem_range] at h; omega), show n = l.length from hl.symm, all_getD l m (hl.trans hm.symm)]
end
theorem infoI_u32 : ∃ i, Try.prog.info? 27 = some i := by
  have : (Try.prog.info? 27).isSome = true := by kernel_rfl
  exact Option.isSome_iff_exists.1 this
theorem infoI_int : ∃ i, Try.prog.info? 3 = some i := by
  have : (Try.prog.info? 3).isSome = true := by kernel_rfl
  exact Option.isSome_iff_exists.1 this
theorem infoI_regs : ∃ i, Try.prog.info? 28 = some i := by
  have : (Try.prog.info? 28).isSome = true := by kernel_rfl
  exact Option.isSome_iff_exists.1 this
theorem infoI_ints : ∃ i, Try.prog.info? 29 = some i := by
  have : (Try.prog.info? 29).isSome = true := by kernel_rfl
  exact Option.isSome_iff_exists.1 this
theorem infoI_pos : ∃ i, Try.prog.info? 31 = some i := by
  have : (Try.prog.info? 31).isSome = true := by kernel_rfl
  exact Option.isSome_iff_exists.1 this
theorem eqIn_pos (a b c x y z : Int) (w : World) : (Op.equalIn 9999 31 (.agg [.int .i64 a, .int .i64 b, .int .i64 c].toArray) (.agg [.int .i64 x, .int .i64 y, .int .i64 z].toArray)).run Try.prog w = .ok (decide (a = x ∧ b = y ∧ c = z)) w := by
  have hS : Try.prog.underlying 31 = some (.struct (Try.prog.fieldsOf 31)) := by kernel_rfl
  have hp : Try.prog.stoodInHeld 31 = false := by kernel_rfl
  rw [show (9999 : Nat) = 9998 + 1 from rfl, run_equalIn_agg w 9998 31 _ _ hS hp]
  simp only [Program.fieldsOf, Try.underlying31]
  go_simp
  by_cases h1 : a = x <;> by_cases h2 : b = y <;> by_cases h3 : c = z <;> simp [h1, h2, h3]
theorem Sid.eq_iff (a b : Sid) : a = b ↔ a.regs = b.regs ∧ a.ready = b.ready ∧ (a.blk = b.blk ∧ a.idx = b.idx ∧ a.base = b.base) ∧ a.wait = b.wait ∧ a.halted = b.halted ∧ a.done = b.done := by
  cases a; cases b; simp [and_assoc]
theorem Slt.eq_iff (a b : Slt) : a = b ↔ a.tag = b.tag ∧ a.full = b.full ∧ a.val = b.val := by cases a; cases b; simp
theorem Ent.eq_iff (a b : Ent) : a = b ↔ a.addr = b.addr ∧ a.size = b.size ∧ a.step = b.step ∧ a.known = b.known ∧ a.val = b.val := by cases a; cases b; simp
theorem Rqs.eq_iff (a b : Rqs) : a = b ↔ a.store = b.store ∧ a.op = b.op ∧ a.addr = b.addr ∧ a.size = b.size ∧ a.val = b.val ∧ a.left = b.left ∧ a.reg = b.reg ∧ a.tag = b.tag := by cases a; cases b; simp
theorem WrS.eq_iff (a b : Wr) : a = b ↔ a.addr = b.addr ∧ a.size = b.size ∧ a.val = b.val := by cases a; cases b; simp
theorem eqS_slt (i k : Slt) (w : World) : (Op.equalIn 10000 58 (.agg #[.int .i64 i.tag, .bool i.full, .int .u32 i.val]) (.agg #[.int .i64 k.tag, .bool k.full, .int .u32 k.val])).run Try.prog w = .ok (decide (i = k)) w := by
  have hS : Try.prog.underlying 58 = some (.struct (Try.prog.fieldsOf 58)) := by kernel_rfl
  have hp : Try.prog.stoodInHeld 58 = false := by kernel_rfl
  rw [show (10000 : Nat) = 9999 + 1 from rfl, run_equalIn_agg w 9999 58 _ _ hS hp]
  simp only [Program.fieldsOf, Try.underlying58]
  go_simp
  by_cases h : i = k
  · subst h; simp
  · rw [decide_eq_false h]
    repeat' split
    all_goals first | rfl | (exact absurd ((Slt.eq_iff i k).2 ⟨by assumption, by assumption, by assumption⟩) h)
theorem eqS_ent (i k : Ent) (w : World) : (Op.equalIn 10000 66 (.agg #[.int .i64 i.addr, .int .i64 i.size, .int .i64 i.step, .bool i.known, .int .u32 i.val]) (.agg #[.int .i64 k.addr, .int .i64 k.size, .int .i64 k.step, .bool k.known, .int .u32 k.val])).run Try.prog w = .ok (decide (i = k)) w := by
  have hS : Try.prog.underlying 66 = some (.struct (Try.prog.fieldsOf 66)) := by kernel_rfl
  have hp : Try.prog.stoodInHeld 66 = false := by kernel_rfl
  rw [show (10000 : Nat) = 9999 + 1 from rfl, run_equalIn_agg w 9999 66 _ _ hS hp]
  simp only [Program.fieldsOf, Try.underlying66]
  go_simp
  by_cases h : i = k
  · subst h; simp
  · rw [decide_eq_false h]
    repeat' split
    all_goals first | rfl | (exact absurd ((Ent.eq_iff i k).2 ⟨by assumption, by assumption, by assumption, by assumption, by assumption⟩) h)
theorem eqS_rqs (i k : Rqs) (w : World) : (Op.equalIn 10000 54 (.agg #[.bool i.store, .int .i64 i.op, .int .i64 i.addr, .int .i64 i.size, .int .u32 i.val, .int .i64 i.left, .int .i64 i.reg, .int .i64 i.tag]) (.agg #[.bool k.store, .int .i64 k.op, .int .i64 k.addr, .int .i64 k.size, .int .u32 k.val, .int .i64 k.left, .int .i64 k.reg, .int .i64 k.tag])).run Try.prog w = .ok (decide (i = k)) w := by
  have hS : Try.prog.underlying 54 = some (.struct (Try.prog.fieldsOf 54)) := by kernel_rfl
  have hp : Try.prog.stoodInHeld 54 = false := by kernel_rfl
  rw [show (10000 : Nat) = 9999 + 1 from rfl, run_equalIn_agg w 9999 54 _ _ hS hp]
  simp only [Program.fieldsOf, Try.underlying54]
  go_simp
  by_cases h : i = k
  · subst h; simp
  · rw [decide_eq_false h]
    repeat' split
    all_goals first | rfl | (exact absurd ((Rqs.eq_iff i k).2 ⟨by assumption, by assumption, by assumption, by assumption, by assumption, by assumption, by assumption, by assumption⟩) h)
theorem eqS_wr (i k : Wr) (w : World) : (Op.equalIn 10000 68 (.agg #[.int .i64 i.addr, .int .i64 i.size, .int .u32 i.val]) (.agg #[.int .i64 k.addr, .int .i64 k.size, .int .u32 k.val])).run Try.prog w = .ok (decide (i = k)) w := by
  have hS : Try.prog.underlying 68 = some (.struct (Try.prog.fieldsOf 68)) := by kernel_rfl
  have hp : Try.prog.stoodInHeld 68 = false := by kernel_rfl
  rw [show (10000 : Nat) = 9999 + 1 from rfl, run_equalIn_agg w 9999 68 _ _ hS hp]
  simp only [Program.fieldsOf, Try.underlying68]
  go_simp
  have e := WrS.eq_iff i k
  by_cases h1 : i.addr = k.addr <;> by_cases h2 : i.size = k.size <;> by_cases h3 : i.val = k.val <;> simp [h1, h2, h3, e]
theorem neqS_slt (i k : Slt) (w : World) : (binOp .neq 58 (.agg #[.int .i64 i.tag, .bool i.full, .int .u32 i.val]) (.agg #[.int .i64 k.tag, .bool k.full, .int .u32 k.val])).run Try.prog w = .ok (.bool (!decide (i = k))) w := by
  rw [run_neq_struct, eqS_slt]; rfl
theorem neqS_ent (i k : Ent) (w : World) : (binOp .neq 66 (.agg #[.int .i64 i.addr, .int .i64 i.size, .int .i64 i.step, .bool i.known, .int .u32 i.val]) (.agg #[.int .i64 k.addr, .int .i64 k.size, .int .i64 k.step, .bool k.known, .int .u32 k.val])).run Try.prog w = .ok (.bool (!decide (i = k))) w := by
  rw [run_neq_struct, eqS_ent]; rfl
theorem neqS_rqs (i k : Rqs) (w : World) : (binOp .neq 54 (.agg #[.bool i.store, .int .i64 i.op, .int .i64 i.addr, .int .i64 i.size, .int .u32 i.val, .int .i64 i.left, .int .i64 i.reg, .int .i64 i.tag]) (.agg #[.bool k.store, .int .i64 k.op, .int .i64 k.addr, .int .i64 k.size, .int .u32 k.val, .int .i64 k.left, .int .i64 k.reg, .int .i64 k.tag])).run Try.prog w = .ok (.bool (!decide (i = k))) w := by
  rw [run_neq_struct, eqS_rqs]; rfl
theorem neqS_wr (i k : Wr) (w : World) : (binOp .neq 68 (.agg #[.int .i64 i.addr, .int .i64 i.size, .int .u32 i.val]) (.agg #[.int .i64 k.addr, .int .i64 k.size, .int .u32 k.val])).run Try.prog w = .ok (.bool (!decide (i = k))) w := by
  rw [run_neq_struct, eqS_wr]; rfl
theorem neqS_trap (a b c x y z : Int) (w : World) : (binOp .neq 42 (.agg #[.int .i64 a, .int .i64 b, .int .i64 c]) (.agg #[.int .i64 x, .int .i64 y, .int .i64 z])).run Try.prog w = .ok (.bool (!decide (a = x ∧ b = y ∧ c = z))) w := by
  have hS : Try.prog.underlying 42 = some (.struct (Try.prog.fieldsOf 42)) := by kernel_rfl
  have hp : Try.prog.stoodInHeld 42 = false := by kernel_rfl
  have e : (Op.equalIn 10000 42 (.agg #[.int .i64 a, .int .i64 b, .int .i64 c]) (.agg #[.int .i64 x, .int .i64 y, .int .i64 z])).run Try.prog w = .ok (decide (a = x ∧ b = y ∧ c = z)) w := by
    rw [show (10000 : Nat) = 9999 + 1 from rfl, run_equalIn_agg w 9999 42 _ _ hS hp]
    simp only [Program.fieldsOf, Try.underlying42]
    go_simp
    by_cases h1 : a = x <;> by_cases h2 : b = y <;> by_cases h3 : c = z <;> simp [h1, h2, h3]
  rw [run_neq_struct, e]; rfl
theorem sidL_regsP {s : Sid} (h : s.Ok) : ((sidL s).drop 0).take 16 = s.regs.map (Value.int .u32) := by
  unfold sidL; rw [List.drop_zero, List.take_append_of_le_length (by simp [h.regs]), List.take_of_length_le (by simp [h.regs])]
theorem sidL_readyP {s : Sid} (h : s.Ok) : ((sidL s).drop 16).take 16 = s.ready.map (Value.int .i64) := by
  unfold sidL; rw [List.drop_left' (by simp [h.regs]), List.take_append_of_le_length (by simp [h.ready]), List.take_of_length_le (by simp [h.ready])]
theorem sidL_posP {s : Sid} (h : s.Ok) : ((sidL s).drop 32).take 3 = [.int .i64 s.blk, .int .i64 s.idx, .int .i64 s.base] := by
  unfold sidL
  rw [← List.append_assoc, List.drop_left' (by simp [h.regs, h.ready])]; rfl
set_option maxHeartbeats 2000000 in
theorem eqIn_sid (s t : Sid) (hs : s.Ok) (ht : t.Ok) (w : World) : (Op.equalIn 10000 33 (.agg (sidL s).toArray) (.agg (sidL t).toArray)).run Try.prog w = .ok (decide (s = t)) w := by
  have hS : Try.prog.underlying 33 = some (.struct (Try.prog.fieldsOf 33)) := by kernel_rfl
  have hp : Try.prog.stoodInHeld 33 = false := by kernel_rfl
  obtain ⟨iu, hu⟩ := infoI_u32
  obtain ⟨ii, hi⟩ := infoI_int
  obtain ⟨ir, hr⟩ := infoI_regs
  obtain ⟨ia, ha⟩ := infoI_ints
  obtain ⟨ip, hps⟩ := infoI_pos
  have hP : Try.prog.underlying 31 = some (.struct (Try.prog.fieldsOf 31)) := by kernel_rfl
  rw [show (10000 : Nat) = 9999 + 1 from rfl, run_equalIn_agg w 9999 33 _ _ hS hp]
  simp only [Program.fieldsOf, Try.underlying33]
  have qs3 : (sidL s)[35]? = some (.int .i64 s.wait) := sidL_end hs 3
  have qs4 : (sidL s)[36]? = some (.bool s.halted) := sidL_end hs 4
  have qs5 : (sidL s)[37]? = some (.int .i64 s.done) := sidL_end hs 5
  have qt3 : (sidL t)[35]? = some (.int .i64 t.wait) := sidL_end ht 3
  have qt4 : (sidL t)[36]? = some (.bool t.halted) := sidL_end ht 4
  have qt5 : (sidL t)[37]? = some (.int .i64 t.done) := sidL_end ht 5
  refine (eqFields_step w (by simp) (part_aggS w (isAgg_array w Try.underlying28) hr (n := 16) (by kernel_rfl) _ _) (part_aggS w (isAgg_array w Try.underlying28) hr (n := 16) (by kernel_rfl) _ _)
    (show (Op.equalIn 9999 28 (.agg (((sidL s).drop 0).take 16).toArray) (.agg (((sidL t).drop 0).take 16).toArray)).run Try.prog w = .ok (decide (s.regs = t.regs)) w from by rw [sidL_regsP hs, sidL_regsP ht]; exact eqIn_arrS w 9997 Try.underlying28 Try.underlying27 hu (by kernel_rfl) _ _ hs.regs ht.regs)).trans ?_
  by_cases h1 : s.regs = t.regs
  rotate_left
  · rw [if_neg (by simpa using h1), decide_eq_false (fun h => h1 (by have h := (Sid.eq_iff s t).1 h; exact h.1))]
  rw [if_pos (by simpa using h1)]
  refine (eqFields_step w (by simp) (part_aggS w (isAgg_array w Try.underlying29) ha (n := 16) (by kernel_rfl) _ _) (part_aggS w (isAgg_array w Try.underlying29) ha (n := 16) (by kernel_rfl) _ _)
    (show (Op.equalIn 9999 29 (.agg (((sidL s).drop 16).take 16).toArray) (.agg (((sidL t).drop 16).take 16).toArray)).run Try.prog w = .ok (decide (s.ready = t.ready)) w from by rw [sidL_readyP hs, sidL_readyP ht]; exact eqIn_arrS w 9997 Try.underlying29 Try.underlying3 hi (by kernel_rfl) _ _ hs.ready ht.ready)).trans ?_
  by_cases h2 : s.ready = t.ready
  rotate_left
  · rw [if_neg (by simpa using h2), decide_eq_false (fun h => h2 (by have h := (Sid.eq_iff s t).1 h; exact h.2.1))]
  rw [if_pos (by simpa using h2)]
  refine (eqFields_step w (by simp) (part_aggS w (isAgg_struct w hP) hps (n := 3) (by kernel_rfl) _ _) (part_aggS w (isAgg_struct w hP) hps (n := 3) (by kernel_rfl) _ _)
    (show (Op.equalIn 9999 31 (.agg (((sidL s).drop 32).take 3).toArray) (.agg (((sidL t).drop 32).take 3).toArray)).run Try.prog w = .ok (decide (s.blk = t.blk ∧ s.idx = t.idx ∧ s.base = t.base)) w from by rw [sidL_posP hs, sidL_posP ht]; exact eqIn_pos _ _ _ _ _ _ w)).trans ?_
  by_cases h3 : s.blk = t.blk ∧ s.idx = t.idx ∧ s.base = t.base
  rotate_left
  · rw [if_neg (by simpa using h3), decide_eq_false (fun h => h3 (by have h := (Sid.eq_iff s t).1 h; exact h.2.2.1))]
  rw [if_pos (by simpa using h3)]
  refine (eqFields_step w (by simp) (part_oneS w (isAgg_int w Try.underlying3) _ 35 qs3) (part_oneS w (isAgg_int w Try.underlying3) _ 35 qt3) (run_equalIn_int w 9998 3 .i64 .i64 s.wait t.wait Try.underlying3)).trans ?_
  by_cases h4 : s.wait = t.wait
  rotate_left
  · rw [if_neg (by simpa using h4), decide_eq_false (fun h => h4 (by have h := (Sid.eq_iff s t).1 h; exact h.2.2.2.1))]
  rw [if_pos (by simpa using h4)]
  refine (eqFields_step w (by simp) (part_oneS w (isAgg_bool w Try.underlying4) _ 36 qs4) (part_oneS w (isAgg_bool w Try.underlying4) _ 36 qt4) (run_equalIn_bool' w 9998 4 s.halted t.halted Try.underlying4)).trans ?_
  by_cases h5 : s.halted = t.halted
  rotate_left
  · rw [if_neg (by simpa using h5), decide_eq_false (fun h => h5 (by have h := (Sid.eq_iff s t).1 h; exact h.2.2.2.2.1))]
  rw [if_pos (by simpa using h5)]
  refine (eqFields_step w (by simp) (part_oneS w (isAgg_int w Try.underlying3) _ 37 qs5) (part_oneS w (isAgg_int w Try.underlying3) _ 37 qt5) (run_equalIn_int w 9998 3 .i64 .i64 s.done t.done Try.underlying3)).trans ?_
  by_cases h6 : s.done = t.done
  rotate_left
  · rw [if_neg (by simpa using h6), decide_eq_false (fun h => h6 (by have h := (Sid.eq_iff s t).1 h; exact h.2.2.2.2.2))]
  rw [if_pos (by simpa using h6)]
  rw [decide_eq_true ((Sid.eq_iff s t).2 ⟨h1, h2, h3, h4, h5, h6⟩)]
  simp only [Op.eqFields, Sem.run_pure]
theorem neqS_sid (s t : Sid) (hs : s.Ok) (ht : t.Ok) (w : World) : (binOp .neq 33 (.agg (sidL s).toArray) (.agg (sidL t).toArray)).run Try.prog w = .ok (.bool (!decide (s = t))) w := by
  rw [run_neq_struct, eqIn_sid s t hs ht]; rfl
end Go.Proofs.Ythhoigkmmlkfcaa.Words

/- Several texts in one: CelData, EmtMath, RefSameCel, ArrEq, BlkMath, BlkNum, OwnMore. -/
import Derived.Test.YteagglddgkjkmaaGreatG02
import Derived.Test.YteagglddgkjkmaaGreatRows
import Derived.LoopTactic
import Derived.LoopN
import Derived.Test.YteagglddgkjkmaaGreatG00
import Derived.ChangeKeysEq
import Derived.Laws.StructEq
import Derived.Test.YteagglddgkjkmaaGreatSShelf
import Derived.Test.YteagglddgkjkmaaGreatG01

/- A cell as plain data: its nine cells in memory. Nothing here speaks of one program text. -/
namespace Go.Proofs.YteagglddgkjkmaaGreat.Words
set_option maxRecDepth 100000
open Go.RowKit
/-- A cell's plain data. -/
structure Cel where
  kind : Int
  ins : Ins
  reg : Int
  pc : Int
  off : Int
deriving DecidableEq
def Cel.Fits (c : Cel) : Prop := (-9223372036854775808 ≤ c.kind ∧ c.kind ≤ 9223372036854775807) ∧ c.ins.Fits ∧ (-9223372036854775808 ≤ c.reg ∧ c.reg ≤ 9223372036854775807) ∧ (-9223372036854775808 ≤ c.pc ∧ c.pc ≤ 9223372036854775807) ∧ (-9223372036854775808 ≤ c.off ∧ c.off ≤ 9223372036854775807)
def celV (c : Cel) : Value := .agg #[.int .i64 c.kind, .int .i64 c.ins.op, .int .i64 c.ins.d, .int .i64 c.ins.a, .int .i64 c.ins.b, .int .i64 c.ins.imm, .int .i64 c.reg, .int .i64 c.pc, .int .i64 c.off]
def celCells (c : Cel) : List Value := [.int .i64 c.kind, .int .i64 c.ins.op, .int .i64 c.ins.d, .int .i64 c.ins.a, .int .i64 c.ins.b, .int .i64 c.ins.imm, .int .i64 c.reg, .int .i64 c.pc, .int .i64 c.off]
theorem celCells_len (c : Cel) : (celCells c).length = 9 := rfl
theorem celV_cells (c : Cel) : celV c = .agg (celCells c).toArray := rfl
theorem celCells_one (c : Cel) : ∀ u ∈ celCells c, u.oneCell' = true := by
  intro u hu
  simp only [celCells, List.mem_cons, List.not_mem_nil, or_false] at hu
  rcases hu with rfl | rfl | rfl | rfl | rfl | rfl | rfl | rfl | rfl <;> rfl
theorem Cel.eq_iff (c d : Cel) : c = d ↔ c.kind = d.kind ∧ c.ins.op = d.ins.op ∧ c.ins.d = d.ins.d ∧ c.ins.a = d.ins.a ∧ c.ins.b = d.ins.b ∧ c.ins.imm = d.ins.imm ∧ c.reg = d.reg ∧ c.pc = d.pc ∧ c.off = d.off := by
  obtain ⟨k, ⟨o, d0, a, b, m⟩, r, p, f⟩ := c
  obtain ⟨k', ⟨o', d', a', b', m'⟩, r', p', f'⟩ := d
  simp [and_assoc]
/-- The nine cells of a cell of a row. -/
theorem Row.cel {w : World} {B n c b off : Nat} {l : List Cel} (h : Row w B 9 (.slice (some ⟨b, off, none⟩) n c) n (flat celCells l)) {k : Nat} {x : Cel} (hx : l[k]? = some x) :
    w.cell? ⟨b, off + k * 9, none⟩ = some (.int .i64 x.kind) ∧ w.cell? ⟨b, off + k * 9 + 1, none⟩ = some (.int .i64 x.ins.op) ∧ w.cell? ⟨b, off + k * 9 + 2, none⟩ = some (.int .i64 x.ins.d) ∧ w.cell? ⟨b, off + k * 9 + 3, none⟩ = some (.int .i64 x.ins.a) ∧ w.cell? ⟨b, off + k * 9 + 4, none⟩ = some (.int .i64 x.ins.b) ∧
    w.cell? ⟨b, off + k * 9 + 5, none⟩ = some (.int .i64 x.ins.imm) ∧ w.cell? ⟨b, off + k * 9 + 6, none⟩ = some (.int .i64 x.reg) ∧ w.cell? ⟨b, off + k * 9 + 7, none⟩ = some (.int .i64 x.pc) ∧ w.cell? ⟨b, off + k * 9 + 8, none⟩ = some (.int .i64 x.off) :=
  ⟨h.flat_cell celCells_len hx (j := 0) (by omega) rfl, h.flat_cell celCells_len hx (j := 1) (by omega) rfl, h.flat_cell celCells_len hx (j := 2) (by omega) rfl, h.flat_cell celCells_len hx (j := 3) (by omega) rfl, h.flat_cell celCells_len hx (j := 4) (by omega) rfl,
    h.flat_cell celCells_len hx (j := 5) (by omega) rfl, h.flat_cell celCells_len hx (j := 6) (by omega) rfl, h.flat_cell celCells_len hx (j := 7) (by omega) rfl, h.flat_cell celCells_len hx (j := 8) (by omega) rfl⟩
end Go.Proofs.YteagglddgkjkmaaGreat.Words

/- Plain mathematics of chapter 12: the cells that an instruction has on either side. Nothing here speaks of one program text. -/
namespace Go.Proofs.YteagglddgkjkmaaGreat.Words
set_option maxRecDepth 100000
open Go.RowKit
set_option linter.unusedVariables false

def noI : Ins := ⟨0, 0, 0, 0, 0⟩
def insC (k : Int) (i : Ins) (pc off : Int) : Cel := ⟨k, i, 0, pc, off⟩
def regC (k r pc off : Int) : Cel := ⟨k, noI, r, pc, off⟩
def bareC (k pc off : Int) : Cel := ⟨k, noI, 0, pc, off⟩
/-- The registers on A, each once, in order. -/
def putS (o out : List Int) (r : Int) : List Int := if atO o r = 1 ∧ r ∉ out then out ++ [r] else out
def sentL (o l : List Int) : List Int := l.foldl (putS o) []
def regsC (k pc off : Int) (l : List Int) : List Cel := l.map fun r => regC k r pc off
theorem regsC_nil (k pc off : Int) : regsC k pc off [] = [] := rfl
theorem regsC_append (k pc off : Int) (l m : List Int) : regsC k pc off (l ++ m) = regsC k pc off l ++ regsC k pc off m := by simp [regsC]
theorem foldl_take {α β : Type} (f : β → α → β) (b : β) {l : List α} {n : Nat} {x : α} (h : l[n]? = some x) : (l.take (n + 1)).foldl f b = f ((l.take n).foldl f b) x := by
  rw [List.take_add_one, h]; simp
theorem sent_mem (o l : List Int) (x : Int) : x ∈ sentL o l ↔ x ∈ l ∧ atO o x = 1 := by
  have key : ∀ (l out : List Int), (x ∈ l.foldl (putS o) out) ↔ x ∈ out ∨ (x ∈ l ∧ atO o x = 1) := by
    intro l
    induction l with
    | nil => intro out; simp
    | cons r l ih =>
      intro out
      rw [List.foldl_cons, ih]
      unfold putS
      by_cases h : atO o r = 1 ∧ r ∉ out
      · rw [if_pos h]
        constructor
        · rintro (h1 | h1)
          · rcases List.mem_append.1 h1 with h2 | h2
            · exact .inl h2
            · have : x = r := by simpa using h2
              subst this; exact .inr ⟨by simp, h.1⟩
          · exact .inr ⟨by simp [h1.1], h1.2⟩
        · rintro (h1 | ⟨h1, h2⟩)
          · exact .inl (List.mem_append_left _ h1)
          · rcases List.mem_cons.1 h1 with rfl | h3
            · exact .inl (by simp)
            · exact .inr ⟨h3, h2⟩
      · rw [if_neg h]
        constructor
        · rintro (h1 | h1)
          · exact .inl h1
          · exact .inr ⟨by simp [h1.1], h1.2⟩
        · rintro (h1 | ⟨h1, h2⟩)
          · exact .inl h1
          · rcases List.mem_cons.1 h1 with rfl | h3
            · by_cases hm : x ∈ out
              · exact .inl hm
              · exact absurd ⟨h2, hm⟩ h
            · exact .inr ⟨h3, h2⟩
  unfold sentL
  rw [key]; simp
/-- One register more: what is left out, and what is not. -/
theorem sent_step (o : List Int) {l : List Int} {n : Nat} {r : Int} (h : l[n]? = some r) : sentL o (l.take (n + 1)) = if atO o r = 1 ∧ r ∉ l.take n then sentL o (l.take n) ++ [r] else sentL o (l.take n) := by
  unfold sentL
  rw [foldl_take _ _ h]
  have := sent_mem o (l.take n) r
  unfold sentL at this
  generalize (l.take n).foldl (putS o) [] = out at *
  unfold putS
  by_cases ha : atO o r = 1
  · by_cases hm : r ∈ l.take n
    · rw [if_neg (fun c => c.2 (this.2 ⟨hm, ha⟩)), if_neg (fun c => c.2 hm)]
    · rw [if_pos ⟨ha, fun c => hm (this.1 c).1⟩, if_pos ⟨ha, hm⟩]
  · rw [if_neg (fun c => ha c.1), if_neg (fun c => ha c.1)]
theorem sent_len (o : List Int) (l : List Int) : (sentL o l).length ≤ l.length := by
  have key : ∀ (l out : List Int), (l.foldl (putS o) out).length ≤ out.length + l.length := by
    intro l
    induction l with
    | nil => intro out; simp
    | cons r l ih =>
      intro out
      rw [List.foldl_cons]
      have := ih (putS o out r)
      have h2 : (putS o out r).length ≤ out.length + 1 := by unfold putS; split <;> simp
      simp only [List.length_cons]; omega
  have := key l []
  simpa [sentL] using this
/-- The owner with register 0 on both sides. -/
def zeroed (o : List Int) : List Int := o.set 0 0
theorem zeroed_len {o : List Int} (h : o.length = 16) : (zeroed o).length = 16 := by simp [zeroed, h]
theorem zeroed_at {o : List Int} (h : o.length = 16) {r : Int} (h0 : 0 ≤ r) (h1 : r ≤ 15) : atO (zeroed o) r = ownedZ o r := by
  obtain ⟨n, rfl, hn⟩ := nat_of ⟨h0, h1⟩
  unfold zeroed
  rw [atO_set o 0 n 0 (by omega)]
  unfold ownedZ
  by_cases e : n = 0
  · subst e; simp
  · rw [if_neg e, if_neg (by omega)]
theorem zeroed_on {o : List Int} (h : o.length = 16) {r : Int} (h0 : 0 ≤ r) (h1 : r ≤ 15) : decide (atO (zeroed o) r = 2) = onEB o r := by
  rw [zeroed_at h h0 h1]
  unfold ownedZ onEB
  by_cases e : r < 1 ∨ 15 < r
  · rw [if_pos e]
    have : r = 0 := by omega
    subst this; rfl
  · rw [if_neg e]
    rw [decide_eq_true (p := 0 < r) (by omega)]; rfl
theorem zeroed_reg {o : List Int} (h : o.length = 16) {r : Int} (h0 : 1 ≤ r) (h1 : r ≤ 15) : atO (zeroed o) r = atO o r := by
  rw [zeroed_at h (by omega) h1]; unfold ownedZ; rw [if_neg (by omega)]
theorem zeroed_any {o : List Int} (h : o.length = 16) (i : Ins) : anyEB (readsZ i) (zeroed o) = anyEB (readsZ i) o := by
  unfold anyEB
  rw [Bool.eq_iff_iff]
  simp only [List.any_eq_true, decide_eq_true_iff]
  constructor <;> rintro ⟨r, hr, h2⟩ <;> refine ⟨r, hr, ?_⟩
  · have := reads_mem hr; rwa [zeroed_reg h (by omega) (by omega)] at h2
  · have := reads_mem hr; rwa [zeroed_reg h (by omega) (by omega)]
theorem zeroed_side {o : List Int} (h : o.length = 16) {i : Ins} (hi : rightB i = true) : sideZ i (zeroed o) = sideZ i o := by
  have hr := right_range hi
  unfold sideZ
  rw [zeroed_any h]
  by_cases hd : i.d = 0
  · simp [hd]
  · simp only [hd, if_false]
    rw [zeroed_reg h (by omega) (by omega)]
theorem zeroed_sent {o : List Int} (h : o.length = 16) {l : List Int} (hl : ∀ r ∈ l, 1 ≤ r ∧ r ≤ 15) : sentL (zeroed o) l = sentL o l := by
  have key : ∀ (l out : List Int), (∀ r ∈ l, 1 ≤ r ∧ r ≤ 15) → l.foldl (putS (zeroed o)) out = l.foldl (putS o) out := by
    intro l
    induction l with
    | nil => intro out _; rfl
    | cons r l ih =>
      intro out hr
      rw [List.foldl_cons, List.foldl_cons]
      have h1 := hr r (by simp)
      rw [show putS (zeroed o) out r = putS o out r by unfold putS; rw [zeroed_reg h h1.1 h1.2]]
      exact ih _ (fun x hx => hr x (by simp [hx]))
  exact key l [] hl
/-- A's cells, and E's, by the owner with register 0 on both sides. -/
def emitA (z : List Int) (i : Ins) (pc off : Int) : List Cel :=
  if rightB i = false then [] else
  if formZ i.op = 4 then (if atO z i.d = 2 then [insC 3 i pc off] else [insC 2 i pc off]) else
  if formZ i.op = 5 then regsC 5 pc off (sentL z [i.b]) ++ [insC 4 i pc off] else
  if formZ i.op = 6 then (if anyEB (readsZ i) z = true then regsC 5 pc off (sentL z (readsZ i)) ++ [bareC 10 pc off] else [insC 9 i pc off]) else
  if formZ i.op = 7 then [bareC 11 pc off] else
  if formZ i.op = 8 then [bareC 12 pc off] else
  if sideZ i z = 1 then [insC 1 i pc off] else regsC 5 pc off (sentL z (readsZ i))
def emitE (z : List Int) (i : Ins) (pc off : Int) : List Cel :=
  if rightB i = false then [] else
  if formZ i.op = 4 then (if atO z i.d = 2 then [insC 7 i pc off] else []) else
  if formZ i.op = 5 then regsC 6 pc off (sentL z [i.b]) ++ [regC 8 i.b pc off] else
  if formZ i.op = 6 then (if anyEB (readsZ i) z = true then regsC 6 pc off (sentL z (readsZ i)) ++ [insC 9 i pc off] else [bareC 10 pc off]) else
  if formZ i.op = 7 then [bareC 11 pc off] else
  if formZ i.op = 8 then [bareC 12 pc off] else
  if sideZ i z = 1 then [] else regsC 6 pc off (sentL z (readsZ i)) ++ [insC 1 i pc off]
theorem emit_no {z : List Int} {i : Ins} {pc off : Int} (h : rightB i = false) : emitA z i pc off = [] ∧ emitE z i pc off = [] := by
  unfold emitA emitE; simp [h]
theorem emit_4e {z : List Int} {i : Ins} {pc off : Int} (h : rightB i = true) (hf : formZ i.op = 4) (hd : atO z i.d = 2) : emitA z i pc off = [insC 3 i pc off] ∧ emitE z i pc off = [insC 7 i pc off] := by
  unfold emitA emitE; simp [h, hf, hd]
theorem emit_4a {z : List Int} {i : Ins} {pc off : Int} (h : rightB i = true) (hf : formZ i.op = 4) (hd : ¬ atO z i.d = 2) : emitA z i pc off = [insC 2 i pc off] ∧ emitE z i pc off = [] := by
  unfold emitA emitE; simp [h, hf, hd]
theorem emit_5 {z : List Int} {i : Ins} {pc off : Int} (h : rightB i = true) (hf : formZ i.op = 5) : emitA z i pc off = regsC 5 pc off (sentL z [i.b]) ++ [insC 4 i pc off] ∧ emitE z i pc off = regsC 6 pc off (sentL z [i.b]) ++ [regC 8 i.b pc off] := by
  unfold emitA emitE; simp [h, hf]
theorem emit_6e {z : List Int} {i : Ins} {pc off : Int} (h : rightB i = true) (hf : formZ i.op = 6) (ha : anyEB (readsZ i) z = true) : emitA z i pc off = regsC 5 pc off (sentL z (readsZ i)) ++ [bareC 10 pc off] ∧ emitE z i pc off = regsC 6 pc off (sentL z (readsZ i)) ++ [insC 9 i pc off] := by
  unfold emitA emitE; simp [h, hf, ha]
theorem emit_6a {z : List Int} {i : Ins} {pc off : Int} (h : rightB i = true) (hf : formZ i.op = 6) (ha : anyEB (readsZ i) z = false) : emitA z i pc off = [insC 9 i pc off] ∧ emitE z i pc off = [bareC 10 pc off] := by
  unfold emitA emitE; simp [h, hf, ha]
theorem emit_7 {z : List Int} {i : Ins} {pc off : Int} (h : rightB i = true) (hf : formZ i.op = 7) : emitA z i pc off = [bareC 11 pc off] ∧ emitE z i pc off = [bareC 11 pc off] := by
  unfold emitA emitE; simp [h, hf]
theorem emit_8 {z : List Int} {i : Ins} {pc off : Int} (h : rightB i = true) (hf : formZ i.op = 8) : emitA z i pc off = [bareC 12 pc off] ∧ emitE z i pc off = [bareC 12 pc off] := by
  unfold emitA emitE; simp [h, hf]
theorem emit_1a {z : List Int} {i : Ins} {pc off : Int} (h : rightB i = true) (hf : formZ i.op ≤ 3) (hs : sideZ i z = 1) : emitA z i pc off = [insC 1 i pc off] ∧ emitE z i pc off = [] := by
  have n4 : ¬ formZ i.op = 4 := by omega
  have n5 : ¬ formZ i.op = 5 := by omega
  have n6 : ¬ formZ i.op = 6 := by omega
  have n7 : ¬ formZ i.op = 7 := by omega
  have n8 : ¬ formZ i.op = 8 := by omega
  unfold emitA emitE; simp [h, hs, n4, n5, n6, n7, n8]
theorem emit_1e {z : List Int} {i : Ins} {pc off : Int} (h : rightB i = true) (hf : formZ i.op ≤ 3) (hs : ¬ sideZ i z = 1) : emitA z i pc off = regsC 5 pc off (sentL z (readsZ i)) ∧ emitE z i pc off = regsC 6 pc off (sentL z (readsZ i)) ++ [insC 1 i pc off] := by
  have n4 : ¬ formZ i.op = 4 := by omega
  have n5 : ¬ formZ i.op = 5 := by omega
  have n6 : ¬ formZ i.op = 6 := by omega
  have n7 : ¬ formZ i.op = 7 := by omega
  have n8 : ¬ formZ i.op = 8 := by omega
  unfold emitA emitE; simp [h, hs, n4, n5, n6, n7, n8]
end Go.Proofs.YteagglddgkjkmaaGreat.Words

/- Contract of the document's own SameCells: are two lists of cells one? -/
namespace Go.Proofs.YteagglddgkjkmaaGreat.Words
set_option maxRecDepth 100000
open Go.RowKit
set_option linter.unusedVariables false

theorem eqFields_cel (i k : Cel) (w : World) : (Op.equalIn 10000 49 (celV i) (celV k)).run Tryz.prog w = .ok (decide (i = k)) w := by
  have hS : Tryz.prog.underlying 49 = some (.struct (Tryz.prog.fieldsOf 49)) := by kernel_rfl
  have hp : Tryz.prog.stoodInHeld 49 = false := by kernel_rfl
  unfold celV
  rw [show (10000 : Nat) = 9999 + 1 from rfl, run_equalIn_agg w 9999 49 _ _ hS hp]
  simp only [Program.fieldsOf, Tryz.underlying49]
  go_simp
  by_cases h : i = k
  · subst h; simp
  · rw [decide_eq_false h]
    repeat' split
    all_goals first | rfl | (exact absurd ((Cel.eq_iff i k).2 ⟨by assumption, by assumption, by assumption, by assumption, by assumption, by assumption, by assumption, by assumption, by assumption⟩) h)
theorem neq_cel (i k : Cel) (w : World) : (binOp .neq 49 (celV i) (celV k)).run Tryz.prog w = .ok (.bool (!decide (i = k))) w := by
  unfold celV
  rw [run_neq_struct]
  have := eqFields_cel i k w
  unfold celV at this
  rw [this]; rfl
theorem drop_eqG {α : Type} {l m : List α} {j : Nat} {x y : α} (hx : l[j]? = some x) (hy : m[j]? = some y) : (l.drop j = m.drop j) ↔ (x = y ∧ l.drop (j + 1) = m.drop (j + 1)) := by
  obtain ⟨h1, rfl⟩ := List.getElem?_eq_some_iff.1 hx
  obtain ⟨h2, rfl⟩ := List.getElem?_eq_some_iff.1 hy
  rw [List.drop_eq_getElem_cons h1, List.drop_eq_getElem_cons h2, List.cons.injEq]
theorem at_someG {α : Type} {l : List α} {j : Nat} (h : j < l.length) : ∃ i, l[j]? = some i := ⟨_, List.getElem?_eq_getElem h⟩

set_option maxHeartbeats 2000000 in
theorem refSameCells_any (A1 A2 : Option Addr) (n1 n2 c1 c2 : Nat) (l1 l2 : List Cel) (w : World) (e1 : l1.length = n1) (e2 : l2.length = n2)
    (h1 : Row w w.heap.size 9 (.slice A1 n1 c1) n1 (flat celCells l1)) (h2 : Row w w.heap.size 9 (.slice A2 n2 c2) n2 (flat celCells l2)) :
    Calls Tryz.prog 49 #[.slice A1 n1 c1, .slice A2 n2 c2] w fun e w' => e = .returned (.bool (decide (l1 = l2))) ∧ ∃ q, w' = w.drewN q := by
  obtain ⟨u1, u2⟩ := h1.cap
  obtain ⟨u5, u6⟩ := h2.cap
  by_cases hn : n1 = n2
  rotate_left
  · rw [decide_eq_false (fun h => hn (by rw [← e1, ← e2, h]))]
    have hb : ((n1 : Int) != n2) = true := by simp; omega
    clear h1 h2 e1 e2
    go_enter Tryz.func49, Tryz.ntmps49
    go_wp2_with fail
    go_ret
    exact ⟨rfl, 0, rfl⟩
  subst hn
  have E1 := Lib.hid e1
  have E2 := Lib.hid e2
  by_cases h0 : n1 = 0
  · have z1 : l1 = [] := List.eq_nil_of_length_eq_zero (by omega)
    have z2 : l2 = [] := List.eq_nil_of_length_eq_zero (by omega)
    subst h0 z1 z2
    clear h1 h2 e1 e2
    go_enter Tryz.func49, Tryz.ntmps49
    go_wp2_with fail
    refine wp_loop_rounds 1 ?_
    rw [rounds_succ]
    go_wp2_with fail
    go_ret
    exact ⟨rfl, 0, rfl⟩
  obtain ⟨b1, o1, rfl, hb1, _⟩ := h1.at_ h0
  obtain ⟨b2, o2, rfl, hb2, _⟩ := h2.at_ h0
  have HC1 := Lib.hid (fun (k : Nat) (i : Cel) (hi : l1[k]? = some i) => h1.cel hi)
  have HC2 := Lib.hid (fun (k : Nat) (i : Cel) (hi : l2[k]? = some i) => h2.cel hi)
  have HA1 := Lib.hid (fun j (h : j < n1) => at_someG (l := l1) (j := j) (by omega))
  have HA2 := Lib.hid (fun j (h : j < n1) => at_someG (l := l2) (j := j) (by omega))
  have HS := Lib.hid (fun (j : Nat) (x y : Cel) (hx : l1[j]? = some x) (hy : l2[j]? = some y) => drop_eqG hx hy)
  have HE1 := Lib.hid (fun (k : Nat) (h : n1 ≤ k) => (show l1.drop k = [] from List.drop_eq_nil_of_le (by omega)))
  have HE2 := Lib.hid (fun (k : Nat) (h : n1 ≤ k) => (show l2.drop k = [] from List.drop_eq_nil_of_le (by omega)))
  have H0 := Lib.hid (show (l1 = l2) ↔ (l1.drop 0 = l2.drop 0) by rw [List.drop_zero, List.drop_zero])
  clear h1 h2 e1 e2
  go_enter Tryz.func49, Tryz.ntmps49
  go_wp2_with fail
  go_loopw [5] (fun i wr => ∃ j m : Nat, j ≤ n1 ∧ i = .int .i64 j ∧ wr = w.drewN m ∧ ((l1 = l2) ↔ (l1.drop j = l2.drop j))) (fun i _ => n1 - (intOf i).toNat)
  case atStart => exact ⟨0, 0, Nat.zero_le _, rfl, rfl, H0.out⟩
  case round =>
    obtain ⟨j, m, hj, rfl, rfl, hT⟩ := hrel
    have HT := Lib.hid hT
    clear hT
    by_cases hlt : j < n1
    · obtain ⟨x, hx⟩ := HA1.out j hlt
      obtain ⟨y, hy⟩ := HA2.out j hlt
      have hs := Lib.hid (HS.out j x y hx hy)
      obtain ⟨a0, a1, a2, a3, a4, a5, a6, a7, a8⟩ := HC1.out j x hx
      obtain ⟨b0, b1', b2', b3, b4, b5, b6, b7, b8⟩ := HC2.out j y hy
      have k0 : (0 : Int) ≤ j := by omega
      have k1 : (j : Int) < n1 := by omega
      clear hx hy
      have q := neq_cel x y
      unfold celV at q
      by_cases hxy : x = y
      · subst hxy
        have hd : decide (x = x) = true := by simp
        rw [hd] at q
        have hres := Lib.hid (show (l1 = l2) ↔ (l1.drop (j + 1) = l2.drop (j + 1)) by rw [HT.out, hs.out]; simp)
        clear hd
        go_wp2_with fail
        go_quiet (fail)
        go_wp2_with fail
        go_roundw
        case rel => exact ⟨j + 1, _, by omega, by go_num, rfl, hres.out⟩
        case measure => simp [intOf]; omega
      · have hd : decide (x = y) = false := by simpa using hxy
        rw [hd] at q
        have hres := Lib.hid (show decide (l1 = l2) = false by rw [decide_eq_false_iff_not, HT.out, hs.out]; exact fun h => hxy h.1)
        clear hd hxy
        go_wp2_with fail
        go_quiet (fail)
        go_wp2_with fail
        go_ret
        exact ⟨ret_bool hres.out.symm, _, by rw [World.drewN_drewN]⟩
    · have hres := Lib.hid (show decide (l1 = l2) = true by rw [decide_eq_true_iff, HT.out, HE1.out j (by omega), HE2.out j (by omega)])
      go_wp2_with fail
      go_ret
      exact ⟨ret_bool hres.out.symm, m, rfl⟩
end Go.Proofs.YteagglddgkjkmaaGreat.Words

/- Two arrays of numbers compared. Nothing here speaks of one program text. -/
namespace Go.Proofs.YteagglddgkjkmaaGreat.Words
set_option maxRecDepth 100000
open Go.RowKit
set_option linter.unusedVariables false

section
variable {P : Program} (w : World)
theorem part_num {e : TypeId} {k : IntKind} (he : P.underlying e = some (.int k)) (l : List Int) (i : Nat) (h : i < l.length) : (part e (l.map (Value.int k)).toArray i).run P w = .ok (.int k (l.getD i 0)) w := by
  have hv : ((l.map (Value.int k)).toArray)[i]? = some (.int k (l.getD i 0)) := by
    rw [List.getElem?_toArray, List.getElem?_map, List.getD_eq_getElem?_getD, List.getElem?_eq_getElem h]; rfl
  simp only [part, isAgg, Sem.run_bind, run_underlying he, Sem.run_pure, Result.andThen_ok, hv]
  simp
theorem items_num (d : Nat) {e : TypeId} {k : IntKind} (he : P.underlying e = some (.int k)) (l m : List Int) : ∀ (is : List Nat), (∀ i ∈ is, i < l.length ∧ i < m.length) →
    (Op.eqItems (d + 1) e 1 (l.map (Value.int k)).toArray (m.map (Value.int k)).toArray is).run P w = .ok (is.all fun i => l.getD i 0 == m.getD i 0) w
  | [], _ => by simp [Op.eqItems]
  | i :: is, h => by
    have hi := h i (by simp)
    have ih := items_num d he l m is (fun j hj => h j (by simp [hj]))
    simp only [Op.eqItems, Sem.run_bind, Nat.mul_one, part_num w he l i hi.1, part_num w he m i hi.2, run_equalIn_int w d e k k _ _ he, Result.andThen_ok, List.all_cons]
    cases hb : (l.getD i 0 == m.getD i 0)
    · simp
    · simp only [Bool.not_true, Bool.false_eq_true, if_false, Bool.true_and]; exact ih
end
theorem all_getD (l m : List Int) (h : l.length = m.length) : ((List.range l.length).all fun i => l.getD i 0 == m.getD i 0) = decide (l = m) := by
  rw [Bool.eq_iff_iff]
  simp only [List.all_eq_true, List.mem_range, beq_iff_eq, decide_eq_true_eq]
  constructor
  · intro g
    refine List.ext_getElem h fun i h1 h2 => ?_
    have := g i h1
    rwa [List.getD_eq_getElem?_getD, List.getD_eq_getElem?_getD, List.getElem?_eq_getElem h1, List.getElem?_eq_getElem h2] at this
  · rintro rfl i _; rfl
end Go.Proofs.YteagglddgkjkmaaGreat.Words

/- Plain mathematics of chapter 10: where the blocks of a program begin, and which they are. Nothing here speaks of one program text. -/
namespace Go.Proofs.YteagglddgkjkmaaGreat.Words
set_option maxRecDepth 100000
open Go.RowKit

/-- Does a block end behind an instruction? -/
def isEnd (i : Ins) : Bool := isJump i || decide (i.op = 41)
/-- May what stands behind be reached without a target? -/
def goesB (i : Ins) : Bool := !(decide (i.op = 40) || decide (i.op = 41))
def markJ (k : Nat) (i : Ins) (m : List Bool) : List Bool := if isJump i = true then m.set ((k : Int) + i.imm).toNat true else m
def markE (k : Nat) (i : Ins) (m : List Bool) : List Bool := if isEnd i = true then m.set (k + 1) true else m
def marksF : Nat → List Ins → List Bool → List Bool
  | _, [], m => m
  | k, i :: l, m => marksF (k + 1) l (markE k i (markJ k i m))
/-- The marks of places at which blocks begin, in a list of n places. -/
def marksN (n : Nat) (l : List Ins) : List Bool := marksF 0 l ((List.replicate n false).set 0 true)
/-- Where blocks begin. -/
def leadsZ (l : List Ins) : List Nat := (List.range l.length).filter fun k => (marksN l.length l).getD k false

theorem markJ_len (k : Nat) (i : Ins) (m : List Bool) : (markJ k i m).length = m.length := by unfold markJ; split <;> simp
theorem markE_len (k : Nat) (i : Ins) (m : List Bool) : (markE k i m).length = m.length := by unfold markE; split <;> simp
theorem marksF_len (l : List Ins) : ∀ (k : Nat) (m : List Bool), (marksF k l m).length = m.length := by
  induction l with
  | nil => intro k m; rfl
  | cons i l ih => intro k m; rw [marksF, ih, markE_len, markJ_len]
theorem marksF_take (n : Nat) (l : List Ins) : ∀ (k : Nat) (m : List Bool), (marksF k l m).take n = marksF k l (m.take n) := by
  induction l with
  | nil => intro k m; rfl
  | cons i l ih =>
    intro k m
    rw [marksF, marksF, ih]
    congr 1
    unfold markE markJ
    split <;> split <;> simp [List.take_set]
theorem marksN_len (n : Nat) (l : List Ins) : (marksN n l).length = n := by rw [marksN, marksF_len]; simp
theorem marksN_take {n n' : Nat} (h : n ≤ n') (l : List Ins) : (marksN n' l).take n = marksN n l := by
  unfold marksN
  rw [marksF_take, List.take_set, List.take_replicate, Nat.min_eq_left h]
theorem marksN_get {n n' k : Nat} (h : n ≤ n') (hk : k < n) (l : List Ins) : (marksN n' l).getD k false = (marksN n l).getD k false := by
  rw [← marksN_take h, List.getD_eq_getElem?_getD, List.getD_eq_getElem?_getD, List.getElem?_take, if_pos hk]
theorem marksF_step {l : List Ins} {j : Nat} {i : Ins} (h : l[j]? = some i) (m : List Bool) : marksF j (l.drop j) m = marksF (j + 1) (l.drop (j + 1)) (markE j i (markJ j i m)) := by
  obtain ⟨hlt, rfl⟩ := List.getElem?_eq_some_iff.1 h
  rw [List.drop_eq_getElem_cons hlt]; rfl

/-- Does a block begin at a place? -/
def IsLead (l : List Ins) (k : Nat) : Prop :=
  k = 0 ∨ (∃ (j : Nat) (i : Ins), l[j]? = some i ∧ isJump i = true ∧ ((j : Int) + i.imm).toNat = k) ∨ (∃ (j : Nat) (i : Ins), l[j]? = some i ∧ isEnd i = true ∧ j + 1 = k)
theorem getD_set {m : List Bool} {a k : Nat} (hk : k < m.length) : (m.set a true).getD k false = (decide (a = k) || m.getD k false) := by
  rw [List.getD_eq_getElem?_getD, List.getD_eq_getElem?_getD, List.getElem?_set]
  by_cases h : a = k
  · subst h; simp [hk]
  · simp [h]
theorem marksF_get (l : List Ins) : ∀ (k0 : Nat) (m : List Bool) (k : Nat), k < m.length →
    ((marksF k0 l m).getD k false = true ↔ (m.getD k false = true ∨ (∃ (j : Nat) (i : Ins), l[j]? = some i ∧ isJump i = true ∧ (((k0 + j : Nat) : Int) + i.imm).toNat = k) ∨ (∃ (j : Nat) (i : Ins), l[j]? = some i ∧ isEnd i = true ∧ k0 + j + 1 = k))) := by
  induction l with
  | nil => intro k0 m k hk; simp [marksF]
  | cons x l ih =>
    intro k0 m k hk
    rw [marksF, ih _ _ _ (by rw [markE_len, markJ_len]; exact hk)]
    have hJ : (markJ k0 x m).getD k false = true ↔ (m.getD k false = true ∨ (isJump x = true ∧ ((k0 : Int) + x.imm).toNat = k)) := by
      unfold markJ
      split
      · rename_i h; rw [getD_set hk]; simp only [Bool.or_eq_true, decide_eq_true_eq, h, true_and]; exact Or.comm
      · rename_i h; simp [h]
    have hE : (markE k0 x (markJ k0 x m)).getD k false = true ↔ ((markJ k0 x m).getD k false = true ∨ (isEnd x = true ∧ k0 + 1 = k)) := by
      unfold markE
      split
      · rename_i h; rw [getD_set (by rw [markJ_len]; exact hk)]; simp only [Bool.or_eq_true, decide_eq_true_eq, h, true_and]; exact Or.comm
      · rename_i h; simp [h]
    rw [hE, hJ]
    constructor
    · rintro (((h | h) | h) | ⟨j, i, h1, h2, h3⟩ | ⟨j, i, h1, h2, h3⟩)
      · exact .inl h
      · exact .inr (.inl ⟨0, x, rfl, h.1, by simpa using h.2⟩)
      · exact .inr (.inr ⟨0, x, rfl, h.1, by simpa using h.2⟩)
      · exact .inr (.inl ⟨j + 1, i, by simpa using h1, h2, by rw [← h3]; congr 2; omega⟩)
      · exact .inr (.inr ⟨j + 1, i, by simpa using h1, h2, by omega⟩)
    · rintro (h | ⟨j, i, h1, h2, h3⟩ | ⟨j, i, h1, h2, h3⟩)
      · exact .inl (.inl (.inl h))
      · cases j with
        | zero => simp at h1; subst h1; exact .inl (.inl (.inr ⟨h2, by simpa using h3⟩))
        | succ j => exact .inr (.inl ⟨j, i, by simpa using h1, h2, by rw [← h3]; congr 2; omega⟩)
      · cases j with
        | zero => simp at h1; subst h1; exact .inl (.inr ⟨h2, by simpa using h3⟩)
        | succ j => exact .inr (.inr ⟨j, i, by simpa using h1, h2, by omega⟩)
theorem marksN_iff {n k : Nat} (hk : k < n) (l : List Ins) : (marksN n l).getD k false = true ↔ IsLead l k := by
  unfold marksN IsLead
  rw [marksF_get l 0 _ k (by simpa using hk), getD_set (by simpa using hk)]
  simp only [Nat.zero_add, Bool.or_eq_true, decide_eq_true_eq]
  have : (List.replicate n false).getD k false = true ↔ False := by
    rw [List.getD_eq_getElem?_getD, List.getElem?_replicate]; simp [hk]
  rw [this, or_false, eq_comm]
theorem mem_leads {l : List Ins} {k : Nat} : k ∈ leadsZ l ↔ k < l.length ∧ IsLead l k := by
  unfold leadsZ
  rw [List.mem_filter, List.mem_range]
  constructor
  · rintro ⟨h1, h2⟩; exact ⟨h1, (marksN_iff h1 l).1 h2⟩
  · rintro ⟨h1, h2⟩; exact ⟨h1, (marksN_iff h1 l).2 h2⟩
theorem leads_sorted (l : List Ins) : (leadsZ l).Pairwise (· < ·) := List.Pairwise.filter _ List.pairwise_lt_range
theorem leads_zero {l : List Ins} (h : 0 < l.length) : 0 ∈ leadsZ l := mem_leads.2 ⟨h, .inl rfl⟩
/-- The list of places is told by what is in it. -/
theorem sorted_ext {L M : List Nat} (hL : L.Pairwise (· < ·)) (hM : M.Pairwise (· < ·)) (h : ∀ x, x ∈ L ↔ x ∈ M) : L = M := by
  induction L generalizing M with
  | nil =>
    cases M with
    | nil => rfl
    | cons y M => have := (h y).2 (by simp); simp at this
  | cons x L ih =>
    cases M with
    | nil => have := (h x).1 (by simp); simp at this
    | cons y M =>
      obtain ⟨hx, hL'⟩ := List.pairwise_cons.1 hL
      obtain ⟨hy, hM'⟩ := List.pairwise_cons.1 hM
      have exy : x = y := by
        have h1 := (h x).1 (by simp)
        have h2 := (h y).2 (by simp)
        rcases List.mem_cons.1 h1 with e | e
        · exact e
        rcases List.mem_cons.1 h2 with e' | e'
        · exact e'.symm
        have := hy x e; have := hx y e'; omega
      subst exy
      congr 1
      refine ih hL' hM' fun z => ?_
      constructor
      · intro hz
        rcases List.mem_cons.1 ((h z).1 (by simp [hz])) with e | e
        · subst e; have := hx z hz; omega
        · exact e
      · intro hz
        rcases List.mem_cons.1 ((h z).2 (by simp [hz])) with e | e
        · subst e; have := hy z hz; omega
        · exact e

/-- The number of the block that begins at a place; -1: none does. -/
def numZ (L : List Nat) (x : Int) : Int := if (L.map (fun y : Nat => (y : Int))).contains x then ((L.map (fun y : Nat => (y : Int))).idxOf x : Nat) else -1
structure Blk where
  from_ : Int
  to : Int
  next : Int
  taken : Int
deriving DecidableEq
def blkToZ (L : List Nat) (n k : Nat) : Nat := if k + 1 < L.length then L.getD (k + 1) 0 else n
def insAtZ (l : List Ins) (k : Nat) : Ins := l.getD k ⟨0, 0, 0, 0, 0⟩
def blkZ (l : List Ins) (L : List Nat) (k : Nat) : Blk :=
  ⟨(L.getD k 0 : Nat), (blkToZ L l.length k : Nat), if goesB (insAtZ l (blkToZ L l.length k - 1)) = true then numZ L (blkToZ L l.length k : Nat) else -1,
    if isJump (insAtZ l (blkToZ L l.length k - 1)) = true then numZ L ((blkToZ L l.length k : Nat) - 1 + (insAtZ l (blkToZ L l.length k - 1)).imm) else -1⟩
def cutTo (l : List Ins) (L : List Nat) (j : Nat) : List Blk := (List.range j).map (blkZ l L)
/-- The blocks of a program that is right. -/
def cutZ (l : List Ins) : List Blk := cutTo l (leadsZ l) (leadsZ l).length
theorem cutTo_succ (l : List Ins) (L : List Nat) (j : Nat) : cutTo l L (j + 1) = cutTo l L j ++ [blkZ l L j] := by simp [cutTo, List.range_succ]
theorem cutTo_len (l : List Ins) (L : List Nat) (j : Nat) : (cutTo l L j).length = j := by simp [cutTo]
theorem cutZ_len (l : List Ins) : (cutZ l).length = (leadsZ l).length := cutTo_len _ _ _
theorem cutZ_get {l : List Ins} {k : Nat} (h : k < (leadsZ l).length) : (cutZ l)[k]? = some (blkZ l (leadsZ l) k) := by
  unfold cutZ cutTo; rw [List.getElem?_map, List.getElem?_range h]; rfl
end Go.Proofs.YteagglddgkjkmaaGreat.Words

/- Contracts of package blocks and of the document's own blocks that call nothing great: which instructions lead, end, go on; a place's number in a list. -/
namespace Go.Proofs.YteagglddgkjkmaaGreat.Words
set_option maxRecDepth 100000
open Go.RowKit
set_option linter.unusedVariables false

theorem isJump_eq (i : Ins) : isJump i = (decide (formZ i.op = 6) || decide (formZ i.op = 7)) := by
  rw [Bool.eq_iff_iff, isJump_form]; simp
theorem isEnd_eq (i : Ins) : isEnd i = (isJump i || decide (formZ i.op = 8)) := by
  have := formZ_cases i.op
  unfold isEnd; congr 1; rw [decide_eq_decide]; omega
theorem goesB_eq (i : Ins) : goesB i = !(decide (formZ i.op = 7) || decide (formZ i.op = 8)) := by
  have := formZ_cases i.op
  unfold goesB; congr 1; rw [Bool.eq_iff_iff]; simp; omega

set_option maxHeartbeats 400000 in
theorem blkHas_any (i : Ins) (w : World) :
    Calls Tryz.prog 61 #[.agg #[.int .i64 i.op, .int .i64 i.d, .int .i64 i.a, .int .i64 i.b, .int .i64 i.imm]] w fun e w' => e = .returned (.bool (isJump i)) ∧ Below w.heap.size w w' := by
  have hF := formZ_range i.op
  have HJ := Lib.hid (isJump_eq i)
  go_enter Tryz.func61, Tryz.ntmps61
  go_wp2_with fail
  refine (form_any _ _).mono ?_; rintro e w1 ⟨rfl, rfl⟩
  generalize formZ i.op = f at *
  by_cases h6 : f = 6
  · subst h6
    go_wp2_with fail
    go_ret
    exact ⟨ret_bool HJ.out.symm, (Below.refl _ _).alloc (Nat.le_refl _) _⟩
  by_cases h7 : f = 7
  · subst h7
    go_wp2_with fail
    go_ret
    exact ⟨ret_bool HJ.out.symm, (Below.refl _ _).alloc (Nat.le_refl _) _⟩
  · go_wp2_with fail
    go_ret
    exact ⟨ret_bool (by rw [HJ.out, Bool.eq_iff_iff]; simp [h6, h7]), (Below.refl _ _).alloc (Nat.le_refl _) _⟩

set_option maxHeartbeats 400000 in
theorem blkEnds_any (i : Ins) (w : World) :
    Calls Tryz.prog 86 #[.agg #[.int .i64 i.op, .int .i64 i.d, .int .i64 i.a, .int .i64 i.b, .int .i64 i.imm]] w fun e w' => e = .returned (.bool (isEnd i)) ∧ Below w.heap.size w w' := by
  have hF := formZ_range i.op
  have HJ := Lib.hid (isEnd_eq i)
  go_enter Tryz.func86, Tryz.ntmps86
  go_wp2_with fail
  refine (blkHas_any i _).mono ?_; rintro e w1 ⟨rfl, hb⟩
  have hk : Below w.heap.size w w1 := ((Below.refl w.heap.size w).alloc (Nat.le_refl _) _).trans (hb.mono (by simp))
  have c0 : w1.cell? ⟨w.heap.size, 0, none⟩ = some (.int .i64 i.op) := ((bcell hb).1 _ _ (by simp)).trans (by go_simp)
  have hz : w.heap.size < w1.heap.size := by have := hb.size; simp at this; omega
  clear hb
  cases hj : isJump i
  · rw [hj] at HJ
    go_wp2_with fail
    refine (form_any _ _).mono ?_; rintro e w2 ⟨rfl, rfl⟩
    generalize formZ i.op = f at *
    try dsimp only
    go_wp2_with fail
    go_ret
    exact ⟨ret_bool (by rw [HJ.out, Bool.eq_iff_iff]; simp), hk⟩
  · rw [hj] at HJ
    go_wp2_with fail
    go_ret
    exact ⟨ret_bool HJ.out.symm, hk⟩

set_option maxHeartbeats 400000 in
theorem blkGoes_any (i : Ins) (w : World) :
    Calls Tryz.prog 59 #[.agg #[.int .i64 i.op, .int .i64 i.d, .int .i64 i.a, .int .i64 i.b, .int .i64 i.imm]] w fun e w' => e = .returned (.bool (goesB i)) ∧ Below w.heap.size w w' := by
  have hF := formZ_range i.op
  have HJ := Lib.hid (goesB_eq i)
  go_enter Tryz.func59, Tryz.ntmps59
  go_wp2_with fail
  refine (form_any _ _).mono ?_; rintro e w1 ⟨rfl, rfl⟩
  generalize formZ i.op = f at *
  by_cases h7 : f = 7
  · subst h7
    go_wp2_with fail
    go_ret
    exact ⟨ret_bool HJ.out.symm, (Below.refl _ _).alloc (Nat.le_refl _) _⟩
  · go_wp2_with fail
    go_ret
    exact ⟨ret_bool (by rw [HJ.out, Bool.eq_iff_iff]; simp [h7]), (Below.refl _ _).alloc (Nat.le_refl _) _⟩

set_option maxHeartbeats 400000 in
theorem refEnds_any (i : Ins) (w : World) :
    Calls Tryz.prog 89 #[.agg #[.int .i64 i.op, .int .i64 i.d, .int .i64 i.a, .int .i64 i.b, .int .i64 i.imm]] w fun e w' => e = .returned (.bool (isEnd i)) ∧ Below w.heap.size w w' := by
  have hF := formZ_range i.op
  have HJ := Lib.hid (show isEnd i = (decide (formZ i.op = 6) || decide (formZ i.op = 7) || decide (formZ i.op = 8)) by rw [isEnd_eq, isJump_eq])
  go_enter Tryz.func89, Tryz.ntmps89
  go_wp2_with fail
  refine (refForm_any _ _).mono ?_; rintro e w1 ⟨rfl, rfl⟩
  generalize formZ i.op = f at *
  by_cases h6 : f = 6
  · subst h6
    go_wp2_with fail
    go_ret
    exact ⟨ret_bool HJ.out.symm, (Below.refl _ _).alloc (Nat.le_refl _) _⟩
  by_cases h7 : f = 7
  · subst h7
    go_wp2_with fail
    go_ret
    exact ⟨ret_bool HJ.out.symm, (Below.refl _ _).alloc (Nat.le_refl _) _⟩
  · have k6 : (f == 6) = false := by simpa using h6
    have k7 : (f == 7) = false := by simpa using h7
    go_wp2_with fail
    go_ret
    exact ⟨ret_bool (by rw [HJ.out, Bool.eq_iff_iff]; simp [h6, h7]), (Below.refl _ _).alloc (Nat.le_refl _) _⟩

/-- A list of places as cells. -/
def natL (L : List Nat) : List Value := L.map (fun y : Nat => Value.int .i64 (y : Int))
theorem natL_get {L : List Nat} {k : Nat} (h : k < L.length) : (natL L)[k]? = some (.int .i64 ((L.getD k 0 : Nat) : Int)) := by
  unfold natL; rw [List.getElem?_map, List.getD_eq_getElem?_getD, List.getElem?_eq_getElem h]; rfl
theorem natL_snoc (L : List Nat) (x : Nat) : natL (L ++ [x]) = natL L ++ [.int .i64 (x : Int)] := by simp [natL]
theorem idx_count {zs : List Int} (hs : zs.Pairwise (· < ·)) {x : Int} (hx : zs.contains x = true) : zs.countP (· < x) = zs.idxOf x := by
  induction zs with
  | nil => simp at hx
  | cons y zs ih =>
    obtain ⟨h1, h2⟩ := List.pairwise_cons.1 hs
    by_cases hxy : y = x
    · subst hxy
      rw [List.countP_cons, List.idxOf_cons_self]
      have : zs.countP (· < y) = 0 := by
        rw [List.countP_eq_zero]
        intro z hz
        have := h1 z hz
        simp; omega
      simp [this]
    · have hx' : zs.contains x = true := by
        simp only [List.contains_cons, Bool.or_eq_true, beq_iff_eq] at hx
        rcases hx with h | h
        · exact absurd h.symm hxy
        · exact h
      have hmem : x ∈ zs := by simpa using hx'
      have := h1 x hmem
      have e0 : (y == x) = false := by simpa using hxy
      rw [List.countP_cons, ih h2 hx', List.idxOf_cons, e0]
      simp [this]
theorem ints_sorted {L : List Nat} (h : L.Pairwise (· < ·)) : (L.map (fun y : Nat => (y : Int))).Pairwise (· < ·) := by
  rw [List.pairwise_map]
  exact h.imp fun h => by omega
theorem numZ_no {L : List Nat} {x : Int} (h : (L.map (fun y : Nat => (y : Int))).contains x = false) : numZ L x = -1 := by unfold numZ; rw [h]; rfl
theorem numZ_yes {L : List Nat} {x : Int} (h : (L.map (fun y : Nat => (y : Int))).contains x = true) : numZ L x = ((L.map (fun y : Nat => (y : Int))).idxOf x : Nat) := by unfold numZ; rw [if_pos h]

set_option maxHeartbeats 400000 in
theorem numberAt_any (b off c : Nat) (L : List Nat) (x : Int) (w : World) (hr : Row w w.heap.size 1 (.slice (some ⟨b, off, none⟩) L.length c) L.length (natL L)) (hs : L.Pairwise (· < ·)) (hbig : L.length ≤ 8192) :
    Calls Tryz.prog 60 #[.slice (some ⟨b, off, none⟩) L.length c, .int .i64 x] w fun e w' => e = .returned (.int .i64 (numZ L x)) ∧ ∃ q, w' = w.drewN q := by
  have hc := Lib.hid (Tryz.slices_BinarySearch_int b off L.length c (L.map (fun y : Nat => (y : Int))) x w (by simp) (by omega) (fun j hj => by
    have := hr.cells ⟨b, off, none⟩ rfl j (.int .i64 ((L.map (fun y : Nat => (y : Int))).getD j 0)) (by
      unfold natL
      rw [List.getElem?_map, List.getD_eq_getElem?_getD, List.getElem?_map]
      rw [List.length_map] at hj
      rw [List.getElem?_eq_getElem hj]; rfl)
    rwa [add_spot] at this) (by
      rw [List.take_of_length_le (by simp)]
      exact (ints_sorted hs).imp fun h => by omega))
  have ht : (L.map (fun y : Nat => (y : Int))).take L.length = L.map (fun y : Nat => (y : Int)) := List.take_of_length_le (by simp)
  rw [ht] at hc
  have HI := Lib.hid (fun h => idx_count (ints_sorted hs) (x := x) h)
  have HN := Lib.hid (fun h => numZ_no (L := L) (x := x) h)
  have HY := Lib.hid (fun h => numZ_yes (L := L) (x := x) h)
  clear ht hs hr
  go_enter Tryz.func60, Tryz.ntmps60
  go_wp2_with fail
  refine hc.out.mono ?_; rintro e w1 ⟨rfl, q, rfl⟩
  cases hh : (L.map (fun y : Nat => (y : Int))).contains x
  · have hres := Lib.hid (HN.out hh)
    go_wp2_with fail
    go_ret
    exact ⟨ret_int hres.out.symm, _, rfl⟩
  · have hres := Lib.hid (HY.out hh)
    rw [HI.out hh]
    go_wp2_with fail
    go_ret
    exact ⟨ret_int hres.out.symm, _, rfl⟩

theorem numZ_idx {L : List Nat} {x : Int} {j : Nat} (hs : L.Pairwise (· < ·)) (hj : j < L.length) (hx : ((L.getD j 0 : Nat) : Int) = x) : numZ L x = j := by
  have hg : (L.map (fun y : Nat => (y : Int)))[j]? = some x := by
    rw [List.getElem?_map, ← hx, List.getD_eq_getElem?_getD, List.getElem?_eq_getElem hj]; rfl
  have hlt : j < (L.map (fun y : Nat => (y : Int))).length := by simpa using hj
  have he : (L.map (fun y : Nat => (y : Int)))[j] = x := by
    rw [List.getElem?_eq_getElem hlt] at hg; injection hg
  have hmem : x ∈ L.map (fun y : Nat => (y : Int)) := he ▸ List.getElem_mem hlt
  rw [numZ_yes (by simpa using hmem)]
  have hnd : (L.map (fun y : Nat => (y : Int))).Nodup := (ints_sorted hs).imp fun h => by omega
  rw [← he, hnd.idxOf_getElem j hlt]
theorem numZ_none {L : List Nat} {x : Int} (h : ∀ j, j < L.length → ((L.getD j 0 : Nat) : Int) ≠ x) : numZ L x = -1 := by
  refine numZ_no ?_
  cases hc : (L.map (fun y : Nat => (y : Int))).contains x
  · rfl
  · have hmem : x ∈ L.map (fun y : Nat => (y : Int)) := by simpa using hc
    obtain ⟨j, hlt, he⟩ := List.getElem_of_mem hmem
    have hj : j < L.length := by simpa using hlt
    refine absurd ?_ (h j hj)
    rw [List.getElem_map] at he
    rw [List.getD_eq_getElem?_getD, List.getElem?_eq_getElem hj]; exact he

set_option maxHeartbeats 1000000 in
theorem find_any (A : Option Addr) (c : Nat) (L : List Nat) (x : Int) (w : World) (hr : Row w w.heap.size 1 (.slice A L.length c) L.length (natL L)) (hs : L.Pairwise (· < ·)) (hbig : L.length ≤ 8192) :
    Calls Tryz.prog 40 #[.slice A L.length c, .int .i64 x] w fun e w' => e = .returned (.int .i64 (numZ L x)) ∧ w = w' := by
  by_cases hn : L.length = 0
  · have hl : L = [] := List.eq_nil_of_length_eq_zero hn
    subst hl
    go_enter Tryz.func40, Tryz.ntmps40
    go_wp2_with fail
    refine wp_loop_rounds 1 ?_
    rw [rounds_succ]
    go_wp2_with fail
    go_ret
    exact ⟨rfl, rfl⟩
  obtain ⟨b, off, rfl, hb, _⟩ := hr.at_ hn
  have HC := Lib.hid (fun (j : Nat) (h : j < L.length) => (by
    have := hr.cells ⟨b, off, none⟩ rfl j _ (natL_get h)
    rwa [add_spot] at this : w.cell? ⟨b, off + j, none⟩ = some (.int .i64 ((L.getD j 0 : Nat) : Int))))
  have HI := Lib.hid (fun (j : Nat) (h : j < L.length) hx => numZ_idx (L := L) (x := x) (j := j) hs h hx)
  have HN := Lib.hid (fun h => numZ_none (L := L) (x := x) h)
  clear hr hs hb
  go_enter Tryz.func40, Tryz.ntmps40
  go_wp2_with fail
  generalize hN : L.length = n at *
  have HL := Lib.hid hN
  clear hN
  go_loopw [5] (fun i wr => ∃ j : Nat, j ≤ n ∧ i = .int .i64 j ∧ wr = w ∧ ∀ k, k < j → ((L.getD k 0 : Nat) : Int) ≠ x) (fun i _ => n - (intOf i).toNat)
  case atStart => exact ⟨0, Nat.zero_le _, rfl, rfl, fun k hk => absurd hk (Nat.not_lt_zero _)⟩
  case round =>
    obtain ⟨j, hj, rfl, rfl, hT⟩ := hrel
    have HT := Lib.hid hT
    clear hT
    by_cases hlt : j < n
    · have c0 := HC.out j hlt
      have k0 : (0 : Int) ≤ j := by omega
      have k1 : (j : Int) < n := by omega
      have HJ := Lib.hid (HI.out j hlt)
      generalize hy : ((L.getD j 0 : Nat) : Int) = y at *
      have HYY := Lib.hid hy
      clear hy
      by_cases hyx : y = x
      · have hres := Lib.hid (HJ.out hyx)
        subst hyx
        go_wp2_with fail
        go_ret
        exact ⟨ret_int hres.out.symm, rfl⟩
      · have hb2 : (y == x) = false := by simpa using hyx
        have hnx := Lib.hid (show ∀ k, k < j + 1 → ((L.getD k 0 : Nat) : Int) ≠ x from fun k hk => by
          by_cases hkj : k = j
          · subst hkj; rw [HYY.out]; exact hyx
          · exact HT.out k (by omega))
        clear hyx
        go_wp2_with fail
        go_roundw
        case rel => exact ⟨j + 1, by omega, by go_num, by first | rfl | trivial, hnx.out⟩
        case measure => simp [intOf]; omega
    · have hres := Lib.hid (HN.out (fun k hk => HT.out k (by omega)))
      go_wp2_with fail
      go_ret
      exact ⟨ret_int hres.out.symm, rfl⟩
end Go.Proofs.YteagglddgkjkmaaGreat.Words

/- Rows of the call's own: two of two types lie apart; a slice of one new element; a slice is one cell. Nothing here speaks of one program text. -/
namespace Go.Proofs.YteagglddgkjkmaaGreat.Words
set_option maxRecDepth 100000
open Go.RowKit
set_option linter.unusedVariables false

theorem row_one3 (w : World) (a b c : Value) (t : TypeId) : Row (w.alloc (.cells #[a, b, c] t)) (w.heap.size + 1) 3 (.slice (some ⟨w.heap.size, 0, none⟩) 1 1) 1 [a, b, c] := by
  refine ⟨rfl, _, _, rfl, Nat.le_refl _, by omega, (fun h => by cases h), fun _ => ⟨w.heap.size, 0, rfl, Nat.lt_succ_self _, fun j u hu => ?_⟩⟩
  have := new_cells w #[a, b, c] t [a, b, c] rfl j u hu
  rwa [add_spot] at this
theorem own_apart {w : World} {b1 b2 s1 s2 n1 n2 : Nat} {e1 e2 : TypeId} {v1 v2 : Value} {x1 x2 : List Value} (h1 : w.ownsRow b1 e1 s1 v1 n1 x1) (h2 : w.ownsRow b2 e2 s2 v2 n2 x2) (hne : e1 ≠ e2) {g : Nat} (hg : v1.ownBlock = some g) : v1.ownBlock ≠ v2.ownBlock := by
  rcases h1.2 with ⟨rfl, _⟩ | ⟨g1, c1, cur1, rfl, _, a1, _⟩
  · cases hg
  rcases h2.2 with ⟨rfl, _⟩ | ⟨g2, c2, cur2, rfl, _, a2, _⟩
  · intro h; cases h
  · intro h
    simp only [Value.ownBlock, Option.some.injEq] at h
    subst h
    rw [a1] at a2
    simp only [Option.some.injEq, Obj.cells.injEq] at a2
    exact hne a2.2.1
theorem own_apart2 {w : World} {b1 b2 s1 s2 n1 n2 : Nat} {e1 e2 : TypeId} {v1 v2 : Value} {x1 x2 : List Value} (h1 : w.ownsRow b1 e1 s1 v1 n1 x1) (h2 : w.ownsRow b2 e2 s2 v2 n2 x2) (hne : e1 ≠ e2) : v1.ownBlock = none ∨ v1.ownBlock ≠ v2.ownBlock := by
  cases hg : v1.ownBlock with
  | none => exact .inl rfl
  | some g => exact .inr (hg ▸ own_apart h1 h2 hne hg)
theorem cell_set_other {w : World} {b b' k k' : Nat} {u v : Value} (h : w.cell? ⟨b, k, none⟩ = some v) (hne : b ≠ b') : (w.setCell ⟨b', k', none⟩ u).cell? ⟨b, k, none⟩ = some v := by
  rw [World.cell?_of_block (w := w) (a := ⟨b, k, none⟩) (Below.heap_setCell w ⟨b', k', none⟩ u b hne)]; exact h
theorem own_one {w : World} {B s n : Nat} {e : TypeId} {v : Value} {xs : List Value} (h : w.ownsRow B e s v n xs) : v.oneCell' = true := by
  rcases h.2 with ⟨rfl, _⟩ | ⟨g, cap, cur, rfl, _⟩ <;> rfl
end Go.Proofs.YteagglddgkjkmaaGreat.Words

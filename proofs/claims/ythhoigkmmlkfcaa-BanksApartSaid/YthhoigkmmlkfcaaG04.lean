/- Several texts in one: RefLoad, RefSaq, BoxPut, ZeroSta, RefCopySta, OwnMore, StaAt. -/
import Derived.Test.YthhoigkmmlkfcaaG03
import Derived.Test.YthhoigkmmlkfcaaG00
import Derived.LoopTactic
import Derived.LoopN
import Derived.Test.YthhoigkmmlkfcaaG02
import Derived.Test.YthhoigkmmlkfcaaG01

/- Contracts of the document's own Extend and Load. -/
namespace Go.Proofs.Ythhoigkmmlkfcaa.Words
set_option maxRecDepth 100000
open Go.RowKit
set_option linter.unusedVariables false

theorem ext27 (x : Int) : sgn (x * 65536 % 4294967296) / 65536 % 4294967296 = extendZ 27 x := by
  have e : extendZ 27 x = (if x % 65536 < 32768 then x % 65536 else x % 65536 + 4294901760) := rfl
  rw [e]; unfold sgn; split <;> split <;> omega
theorem ext29 (x : Int) : sgn (x * 16777216 % 4294967296) / 16777216 % 4294967296 = extendZ 29 x := by
  have e : extendZ 29 x = (if x % 256 < 128 then x % 256 else x % 256 + 4294967040) := rfl
  rw [e]; unfold sgn; split <;> split <;> omega

set_option maxHeartbeats 400000 in
theorem refExtend_any (op x : Int) (w : World) (h0 : 0 ≤ x) (h1 : x < 4294967296) :
    Calls Try.prog 34 #[.int .i64 op, .int .u32 x] w fun e w' => e = .returned (.int .u32 (extendZ op x)) ∧ w = w' := by
  by_cases a : op = 27
  · subst a
    go_enter Try.func34, Try.ntmps34
    go_wp2_with fail
    refine (refInt_any _ _ (by omega) (by omega)).mono ?_; rintro e w1 ⟨rfl, rfl⟩
    go_wp2_with fail
    go_ret
    exact ⟨ret_int (ext27 x), rfl⟩
  by_cases b : op = 29
  · subst b
    go_enter Try.func34, Try.ntmps34
    go_wp2_with fail
    refine (refInt_any _ _ (by omega) (by omega)).mono ?_; rintro e w1 ⟨rfl, rfl⟩
    go_wp2_with fail
    go_ret
    exact ⟨ret_int (ext29 x), rfl⟩
  · have t : extendZ op x = x := by unfold extendZ; rw [if_neg a, if_neg b]
    rw [t]
    have q1 : (op == 27) = false := by simp; exact a
    have q2 : (op == 29) = false := by simp; exact b
    go_enter Try.func34, Try.ntmps34
    go_wp2_with fail
    go_ret
    exact ⟨rfl, rfl⟩

set_option maxHeartbeats 1000000 in
theorem refLoad_no (A : Option Addr) (c n : Nat) (zs : List Int) (op addr : Int) (w : World) (hl : zs.length = n) (hn : n ≤ 9223372036854775807) (h0 : 0 ≤ addr) (h1 : addr ≤ 4294967295) (h : op < 26 ∨ 30 < op ∨ checkZ (sizeZ op) addr n ≠ 0) :
    Calls Try.prog 22 #[.slice A n c, .int .i64 op, .int .u32 addr] w fun e w' => e = .returned (.int .u32 (loadZ zs op addr)) ∧ w = w' := by
  rw [loadZ_no (by rw [hl]; exact h)]
  have hsz := sizeZ_cases op
  have hf := formZ_cases op
  have hck := checkZ_cases (sizeZ op) addr n
  go_enter Try.func22, Try.ntmps22
  go_wp2_with fail
  refine (refSize_any _ _).mono ?_; rintro e w1 ⟨rfl, rfl⟩
  go_wp2_with fail
  refine (refForm_any _ _).mono ?_; rintro e w1 ⟨rfl, rfl⟩
  by_cases hr : op < 26 ∨ 30 < op
  · have q : (formZ op != 4) = true := by simp; omega
    clear hsz hf hck h
    go_wp2_with fail
    go_ret
    exact ⟨rfl, rfl⟩
  · have q : (formZ op != 4) = false := by simp; omega
    have h' : checkZ (sizeZ op) addr n ≠ 0 := by omega
    have q2 : (checkZ (sizeZ op) addr n != 0) = true := by simp; exact h'
    have hb : -9223372036854775808 ≤ sizeZ op ∧ sizeZ op ≤ 9223372036854775807 := by omega
    clear hf h h' hsz hck
    go_wp2_with fail
    refine (refCheck_any (sizeZ op) addr n _ h0 h1 hb (by omega)).mono ?_; rintro e w1 ⟨rfl, rfl⟩
    go_wp2_with fail
    go_ret
    exact ⟨rfl, rfl⟩
end Go.Proofs.Ythhoigkmmlkfcaa.Words

/- Contracts of the document's own PushEntry, Search, Bypass of chapter 17. -/
namespace Go.Proofs.Ythhoigkmmlkfcaa.Words
set_option maxRecDepth 100000
open Go.RowKit
set_option linter.unusedVariables false
set_option linter.unusedSimpArgs false

theorem info_ent : (Try.prog.info? 66).map (fun i => (i.zero, i.size, i.bytes)) = some (some (.agg #[.int .i64 0, .int .i64 0, .int .i64 0, .bool false, .int .u32 0]), 5, 32) := by kernel_rfl
theorem parts_ent : ∃ i, Try.prog.info? 66 = some i ∧ i.zero = some (.agg #[.int .i64 0, .int .i64 0, .int .i64 0, .bool false, .int .u32 0]) ∧ i.size = 5 ∧ i.bytes = 32 := by
  have h := info_ent
  cases hi : Try.prog.info? 66 with
  | none => rw [hi] at h; cases h
  | some i =>
    rw [hi] at h
    simp only [Option.map_some, Option.some.injEq, Prod.mk.injEq] at h
    exact ⟨i, rfl, h.1, h.2.1, h.2.2⟩
def EntsOut (w : World) (l : List Ent) (mk : Value → Value) (e : Ending) (w' : World) : Prop :=
  ∃ v, e = .returned (mk v) ∧ w'.ownsRow w.heap.size 66 5 v l.length (flat entL l) ∧ Below w.heap.size w w'
theorem Row.ent {w : World} {B n c b off : Nat} {l : List Ent} (h : Row w B 5 (.slice (some ⟨b, off, none⟩) n c) n (flat entL l)) {k : Nat} {x : Ent} (hx : l[k]? = some x) :
    w.cell? ⟨b, off + k * 5, none⟩ = some (.int .i64 x.addr) ∧ w.cell? ⟨b, off + k * 5 + 1, none⟩ = some (.int .i64 x.size) ∧ w.cell? ⟨b, off + k * 5 + 2, none⟩ = some (.int .i64 x.step) ∧ w.cell? ⟨b, off + k * 5 + 3, none⟩ = some (.bool x.known) ∧ w.cell? ⟨b, off + k * 5 + 4, none⟩ = some (.int .u32 x.val) :=
  ⟨h.flat_cell entL_len hx (j := 0) (by omega) rfl, h.flat_cell entL_len hx (j := 1) (by omega) rfl, h.flat_cell entL_len hx (j := 2) (by omega) rfl, h.flat_cell entL_len hx (j := 3) (by omega) rfl, h.flat_cell entL_len hx (j := 4) (by omega) rfl⟩
theorem row_ent (w : World) (x : Ent) : Row (w.alloc (.cells #[.int .i64 x.addr, .int .i64 x.size, .int .i64 x.step, .bool x.known, .int .u32 x.val] 66)) (w.heap.size + 1) 5 (.slice (some ⟨w.heap.size, 0, none⟩) 1 1) 1 (flat entL [x]) := by
  rw [flat_one]; exact row_new w (entL x) 5 rfl (by omega) _
theorem pushE_yes {l : List Ent} {n : Int} (e : Ent) (h : (l.length : Int) < n) : pushE l n e = l ++ [e] := if_pos h
theorem pushE_no {l : List Ent} {n : Int} (e : Ent) (h : ¬ (l.length : Int) < n) : pushE l n e = l := if_neg h
theorem roomE_yes {l : List Ent} {n : Int} (h : (l.length : Int) < n) : roomE l n = true := decide_eq_true h
theorem roomE_no {l : List Ent} {n : Int} (h : ¬ (l.length : Int) < n) : roomE l n = false := decide_eq_false h

theorem quiet_mine17 {P : Program} {f : FuncId} {args : Array Value} {w : World} {n : Nat} {v : Value} (h : Calls P f args (w.drewN n) fun e w' => e = .returned v ∧ w.drewN n = w') :
    Calls P f args (w.drewN n) fun e w'' => e = .returned v ∧ ∃ m, w'' = w.drewN m := h.mono fun _ _ ⟨he, hm⟩ => ⟨he, n, hm.symm⟩
theorem load_ent {w : World} {b : Nat} {x : Ent} (h : Box w b (entL x)) : (loadVar 66 ⟨b, 0, none⟩).run Try.prog w = .ok (.agg (entL x).toArray) w :=
  run_loadVar_mid w b 0 66 _ _ h.whole Try.underlying66 rfl (by kernel_rfl)
theorem meets_more {l : List Ent} {addr size : Int} {p : Nat} {x : Ent} (h : ∀ (k : Nat) x, p + 1 ≤ k → l[k]? = some x → meetsE addr size x = false) (hx : l[p]? = some x) (hq : meetsE addr size x = false) : ∀ (k : Nat) x, p ≤ k → l[k]? = some x → meetsE addr size x = false := by
  intro k y hk hy
  by_cases e : k = p
  · subst e; rw [hx] at hy; injection hy with hy; rw [← hy]; exact hq
  · exact h k y (by omega) hy
/-- What Search answers. -/
def foundZ (l : List Ent) (addr size : Int) : Value := .tuple #[.agg (entL (searchL addr size l)).toArray, .bool (thereE addr size l)]
end Go.Proofs.Ythhoigkmmlkfcaa.Words

/- A law of no one program: one cell of a variable is written; the world behind it is a variable. -/
namespace Go.Proofs.Ythhoigkmmlkfcaa.Words
set_option maxRecDepth 100000
open Go.RowKit
set_option linter.unusedVariables false
theorem cells_one {u : Value} (h : u.oneCell' = true) : u.cells = #[u] := by cases u <;> first | rfl | (simp [Value.oneCell'] at h)
section
variable {P : Program} {w : World} {ops : Array Oper} {rest : List Oper} {op : Oper} {a : Act} {Q : Exit → Act → World → Prop}
theorem run_storeVar_one (b o : Nat) (ty : TypeId) (u : Value) (l : List Value) (hb : Box w b l) (hl : o < l.length) (hi : (P.info? ty).map (·.size) = some 1) (h1 : u.oneCell' = true) :
    (storeVar ty ⟨b, o, none⟩ u).run P w = .ok () (w.setCell ⟨b, o, none⟩ u) := by
  have hc := hb.cell (k := o) (List.getElem?_eq_getElem hl)
  have hf := hb.frozen o
  have hst : (store ⟨b, o, none⟩ u).run P w = .ok () (w.setCell ⟨b, o, none⟩ u) := by
    rw [run_store P w _ u _ h1, hc]
    simp [hf]
  have hadd : (⟨b, o, none⟩ : Addr).add 0 = ⟨b, o, none⟩ := by unfold Addr.add; simp
  cases hq : P.info? ty with
  | none => simp [hq] at hi
  | some i =>
    have hs : i.size = 1 := by simpa [hq] using hi
    simp [storeVar, sizeOf, typeInfo, hq, cells_one h1, hs, storeCells, hadd, hst]
theorem wpList_put_cell (hw : Region.wanted op (yielded ops a.tmps) = true) (ty : TypeId) (x y : Operand) (ho : op.op = .store ty x y) (b o : Nat) (u : Value)
    (hx : a.eval x = .pointer (some ⟨b, o, none⟩)) (hy : a.eval y = u) (h1 : u.oneCell' = true) (l : List Value) (hb : Box w b l) (hl : o < l.length) (hi : (P.info? ty).map (·.size) = some 1)
    (h : ∀ w', Box w' b (l.set o u) → w.grownBy w' (some b) → wpList P ops Q rest (a.put op.dst undef) w') : wpList P ops Q (op :: rest) a w :=
  wpList_step fun K hK => by
    rw [if_pos hw]
    unfold Oper.wp execOp
    simp only [ho, hx, hy, Instr.storeAt, Instr.sureAddr, Sem.run_bind, Sem.run_pure, Result.andThen_ok, run_storeVar_one (P := P) b o ty u l hb hl hi h1]
    exact hK _ _ (h _ (hb.setCell o u) (grown_setCell w b o u hb.lt))
end
end Go.Proofs.Ythhoigkmmlkfcaa.Words

/- The zero value of a state, as one constant: where the seat's own text does not lay it. -/
namespace Go.Proofs.Ythhoigkmmlkfcaa.Words
set_option maxRecDepth 100000
open Go.RowKit
set_option linter.unusedVariables false

/-- A state's zero value. -/
noncomputable def Try.zeroCells44 : Array Value := match Try.prog.info? 44 with
  | some i => (match i.zero with | some (.agg cs) => cs | _ => #[])
  | none => #[]
@[go_sem] theorem Try.zeroValue44 (w : World) : (zeroValue 44).run Try.prog w = .ok (.agg Try.zeroCells44) w := by kernel_rfl
theorem Try.zeroCells_size : Try.zeroCells44.size = 92 := by kernel_rfl
@[go_sem] theorem Try.zeroCells_ne : ¬ Try.zeroCells44 = #[] := by
  intro h
  have h1 := Try.zeroCells_size
  rw [h] at h1
  cases h1
end Go.Proofs.Ythhoigkmmlkfcaa.Words

/- Contract of the document's own Copy: a state of its own memory. -/
namespace Go.Proofs.Ythhoigkmmlkfcaa.Words
set_option maxRecDepth 100000
open Go.RowKit
set_option linter.unusedVariables false
set_option linter.unusedSimpArgs false

/-- No list is too long. -/
structure StaFew (x : Sta) : Prop where
  ldq : x.ldq.length ≤ 1000000
  sdq : x.sdq.length ≤ 1000000
  aeq : x.aeq.length ≤ 1000000
  abq : x.abq.length ≤ 1000000
  ebq : x.ebq.length ≤ 1000000
  saq : x.saq.length ≤ 1000000
  table : x.table.length ≤ 1000000
  mem : x.mem.length ≤ 1000000
  ws : x.ws.length ≤ 1000000
theorem parts_bool : ∃ i, Try.prog.info? 4 = some i ∧ i.zero = some (.bool false) ∧ i.size = 1 ∧ i.bytes = 1 := by
  have h : (Try.prog.info? 4).map (fun i => (i.zero, i.size, i.bytes)) = some (some (.bool false), 1, 1) := by kernel_rfl
  cases hi : Try.prog.info? 4 with
  | none => rw [hi] at h; cases h
  | some i =>
    rw [hi] at h
    simp only [Option.map_some, Option.some.injEq, Prod.mk.injEq] at h
    exact ⟨i, rfl, h.1, h.2.1, h.2.2⟩
theorem parts_rqs : ∃ i, Try.prog.info? 54 = some i ∧ i.zero = some (.agg #[.bool false, .int .i64 0, .int .i64 0, .int .i64 0, .int .u32 0, .int .i64 0, .int .i64 0, .int .i64 0]) ∧ i.size = 8 ∧ i.bytes = 64 := by
  have h : (Try.prog.info? 54).map (fun i => (i.zero, i.size, i.bytes)) = some (some (.agg #[.bool false, .int .i64 0, .int .i64 0, .int .i64 0, .int .u32 0, .int .i64 0, .int .i64 0, .int .i64 0]), 8, 64) := by kernel_rfl
  cases hi : Try.prog.info? 54 with
  | none => rw [hi] at h; cases h
  | some i =>
    rw [hi] at h
    simp only [Option.map_some, Option.some.injEq, Prod.mk.injEq] at h
    exact ⟨i, rfl, h.1, h.2.1, h.2.2⟩
theorem parts_u8 : ∃ i, Try.prog.info? 5 = some i ∧ i.zero = some (.int .u8 0) ∧ i.size = 1 ∧ i.bytes = 1 := by
  have h : (Try.prog.info? 5).map (fun i => (i.zero, i.size, i.bytes)) = some (some (.int .u8 0), 1, 1) := by kernel_rfl
  cases hi : Try.prog.info? 5 with
  | none => rw [hi] at h; cases h
  | some i =>
    rw [hi] at h
    simp only [Option.map_some, Option.some.injEq, Prod.mk.injEq] at h
    exact ⟨i, rfl, h.1, h.2.1, h.2.2⟩
theorem parts_wri : ∃ i, Try.prog.info? 68 = some i ∧ i.zero = some (.agg #[.int .i64 0, .int .i64 0, .int .u32 0]) ∧ i.size = 3 ∧ i.bytes = 24 := by
  have h : (Try.prog.info? 68).map (fun i => (i.zero, i.size, i.bytes)) = some (some (.agg #[.int .i64 0, .int .i64 0, .int .u32 0]), 3, 24) := by kernel_rfl
  cases hi : Try.prog.info? 68 with
  | none => rw [hi] at h; cases h
  | some i =>
    rw [hi] at h
    simp only [Option.map_some, Option.some.injEq, Prod.mk.injEq] at h
    exact ⟨i, rfl, h.1, h.2.1, h.2.2⟩
theorem sta_size : (Try.prog.info? 44).map (·.size) = some 92 := by kernel_rfl
theorem zero_size : Try.zeroCells44.size = 92 := by kernel_rfl
theorem load_sta {w : World} {b : Nat} {x : Sta} {v : Vs} (hx : x.Ok) (h : Box w b (staL x v)) : (loadVar 44 ⟨b, 0, none⟩).run Try.prog w = .ok (.agg (staL x v).toArray) w :=
  run_loadVar_mid w b 0 44 _ _ h.whole Try.underlying44 rfl (by rw [staL_len hx]; exact sta_size)
/-- The two blocks that Copy begins with. -/
theorem sta_begun (x : Sta) (v : Vs) (w : World) {W : World} (hW : W = (w.alloc (.cells (staL x v).toArray 44)).alloc (.cells Try.zeroCells44 44)) :
    Box W w.heap.size (staL x v) ∧ Box W (w.heap.size + 1) Try.zeroCells44.toList ∧ Below w.heap.size w W ∧ W.heap.size = w.heap.size + 2 := by
  subst hW
  refine ⟨(Box.new w (staL x v) _).alloc _, ?_, ((Below.refl _ _).alloc (Nat.le_refl _) _).alloc (by simp) _, by simp⟩
  have := Box.new (w.alloc (.cells (staL x v).toArray 44)) Try.zeroCells44.toList 44
  simpa using this
/-- A step: the state's block and the result's stand, and the rows that are made. -/
structure CpS (w : World) (x : Sta) (v0 v : Vs) (Z : List Value) (W : World) : Prop where
  bx : Box W w.heap.size (staL x v)
  bz : Box W (w.heap.size + 1) Z
  bl : Below w.heap.size w W
  hs : w.heap.size + 2 ≤ W.heap.size
section
variable {w W Y X : World} {x : Sta} {v0 v : Vs} {Z : List Value}
theorem CpS.grown (h : CpS w x v0 v Z W) (hg : W.grownBy Y none) : CpS w x v0 v Z Y :=
  ⟨h.bx.grown hg (fun e => by cases e), h.bz.grown hg (fun e => by cases e), Below.grown h.bl hg h.bl.size (fun q hq => by cases hq), Nat.le_trans h.hs hg.size⟩
theorem CpS.put (h : CpS w x v0 v Z W) {v' : Vs} (hb : Box Y w.heap.size (staL x v')) (hg : W.grownBy Y (some w.heap.size)) : CpS w x v0 v' Z Y :=
  ⟨hb, h.bz.grown hg (fun e => by injection e with e; omega), Below.grown h.bl hg h.bl.size (fun q hq => by injection hq with hq; omega), Nat.le_trans h.hs hg.size⟩
end
theorem own_step {W Y : World} {base b s n : Nat} {e : TypeId} {u : Value} {xs : List Value} (h : W.ownsRow base e s u n xs) (hg : W.grownBy Y (some b)) (hb : b < base) : Y.ownsRow base e s u n xs :=
  own_grown h hg (fun g hg2 e => by injection e with e; have := (h.lt g hg2).1; omega)
theorem own_still {W Y : World} {base s n : Nat} {e : TypeId} {u : Value} {xs : List Value} (h : W.ownsRow base e s u n xs) (hg : W.grownBy Y none) : Y.ownsRow base e s u n xs :=
  own_grown h hg (fun g hg2 e => by cases e)
theorem own_elder {W : World} {base s1 n1 : Nat} {e1 : TypeId} {u1 u2 : Value} {x1 : List Value} (h1 : W.ownsRow base e1 s1 u1 n1 x1) (hn : ∀ g, u2.ownBlock = some g → (Value.slice none 0 0).ownBlock = some g ∨ W.heap.size ≤ g) : u1.ownBlock = none ∨ u1.ownBlock ≠ u2.ownBlock := by
  cases hq : u1.ownBlock with
  | none => exact .inl rfl
  | some g =>
    refine .inr (fun e => ?_)
    have h3 := (h1.lt g hq).2
    rcases hn g e.symm with h4 | h4
    · cases h4
    · omega

set_option maxHeartbeats 4000000 in
theorem refCopy_any (x : Sta) (v : Vs) (w : World) (hx : x.Ok) (hv : StaV w w.heap.size v x) (hs : StaFew x) :
    Calls Try.prog 18 #[.agg (staL x v).toArray] w fun e w' => ∃ v', e = .returned (.agg (staL x v').toArray) ∧ StaOwn w' w.heap.size v' x ∧ Below w.heap.size w w' := by
  obtain ⟨iu, hiu, q0, q1, q2⟩ := parts_u32
  have HIu := Lib.hid hiu
  have HAu := Lib.hid q0
  have HBu := Lib.hid q1
  have HCu := Lib.hid q2
  clear hiu q0 q1 q2
  obtain ⟨ib, hib, q0, q1, q2⟩ := parts_bool
  have HIb := Lib.hid hib
  have HAb := Lib.hid q0
  have HBb := Lib.hid q1
  have HCb := Lib.hid q2
  clear hib q0 q1 q2
  obtain ⟨ie, hie, q0, q1, q2⟩ := parts_ent
  have HIe := Lib.hid hie
  have HAe := Lib.hid q0
  have HBe := Lib.hid q1
  have HCe := Lib.hid q2
  clear hie q0 q1 q2
  obtain ⟨ir, hir, q0, q1, q2⟩ := parts_rqs
  have HIr := Lib.hid hir
  have HAr := Lib.hid q0
  have HBr := Lib.hid q1
  have HCr := Lib.hid q2
  clear hir q0 q1 q2
  obtain ⟨im, him, q0, q1, q2⟩ := parts_u8
  have HIm := Lib.hid him
  have HAm := Lib.hid q0
  have HBm := Lib.hid q1
  have HCm := Lib.hid q2
  clear him q0 q1 q2
  obtain ⟨iw, hiw, q0, q1, q2⟩ := parts_wri
  have HIw := Lib.hid hiw
  have HAw := Lib.hid q0
  have HBw := Lib.hid q1
  have HCw := Lib.hid q2
  clear hiw q0 q1 q2
  obtain ⟨A0, c0, e0⟩ := hv.ldq.form
  have l0 := hs.ldq
  obtain ⟨A1, c1, e1⟩ := hv.sdq.form
  have l1 := hs.sdq
  obtain ⟨A2, c2, e2⟩ := hv.aeq.form
  have l2 := hs.aeq
  obtain ⟨A3, c3, e3⟩ := hv.abq.form
  have l3 := hs.abq
  obtain ⟨A4, c4, e4⟩ := hv.ebq.form
  have l4 := hs.ebq
  obtain ⟨A5, c5, e5⟩ := hv.saq.form
  have l5 := hs.saq
  obtain ⟨A6, c6, e6⟩ := hv.table.form
  have l6 := hs.table
  obtain ⟨A7, c7, e7⟩ := hv.mem.form
  have l7 := hs.mem
  obtain ⟨A8, c8, e8⟩ := hv.ws.form
  have l8 := hs.ws
  have HV := Lib.hid hv
  have HX := Lib.hid hx
  obtain ⟨W, hW⟩ : ∃ W, W = (w.alloc (.cells (staL x v).toArray 44)).alloc (.cells Try.zeroCells44 44) := ⟨_, rfl⟩
  obtain ⟨g1, g2, g3, g4⟩ := sta_begun x v w hW
  have S0 : Hid (CpS w x v v Try.zeroCells44.toList W) := ⟨g1, g2, g3, by omega⟩
  obtain ⟨Z, hZ⟩ : ∃ Z, Z = Try.zeroCells44.toList := ⟨_, rfl⟩
  rw [← hZ] at S0
  have HZ : Hid (Z.length = 92) := by rw [hZ]; exact (by rw [Array.length_toList]; exact zero_size : Try.zeroCells44.toList.length = 92)
  clear hZ g1 g2 g3 g4 hv hx hs
  have hsz := S0.out.hs
  have hlt := S0.out.bx.lt
  have d := S0.out.bx.cell (sta_ldq HX.out)
  rw [e0] at d
  go_enter Try.func18, Try.ntmps18
  go_wp2_with (first | (rw [← hW]; clear hW))
  refine (refSlots_any A0 c0 x.ldq W (by have := HV.out.ldq; rw [e0] at this; exact (this.below S0.out.bl).more S0.out.bl.size) (by omega)).mono ?_
  rintro e y0 ⟨u0, rfl, o0, b0⟩
  obtain ⟨B0, k0, rfl⟩ := (Row.of_own o0).form
  have T0 : Hid (CpS w x v v Z y0) := ⟨S0.out.bx.below b0 hlt, S0.out.bz.below b0 S0.out.bz.lt, Below.trans S0.out.bl (b0.mono S0.out.bl.size), Nat.le_trans S0.out.hs b0.size⟩
  have O0 := Lib.hid (own_less o0 S0.out.hs)
  clear o0 b0 d hlt hsz
  go_wp2_with (first
    | (refine wpList_put_cell rfl 34 _ _ rfl w.heap.size 77 (.slice B0 x.ldq.length k0) rfl rfl rfl _ T0.out.bx (by rw [staL_len HX.out]; omega) (by kernel_rfl) ?_; intro z0 hb hg; rw [set_ldq HX.out] at hb; have S1 := Lib.hid (T0.out.put hb hg); have P00 := Lib.hid (own_step O0.out hg (by omega)); clear hb hg; have d := S1.out.bx.cell (sta_sdq HX.out); dsimp only at d; rw [e1] at d; have hlt := S1.out.bx.lt; have hsz := S1.out.hs)
    | (refine wpList_append_new _ rfl (.const (.slice none 0 0)) (.tmp 8) 35 rfl (w.heap.size + 2) 27 iu _ 1 4 Try.underlying35 HIu.out HAu.out HBu.out HCu.out rfl (by omega) (.slice none 0 0) 0 [] rfl (World.ownsRow_nil _ _ _ _) _ (.slice A1 x.sdq.length c1) x.sdq.length (w32 x.sdq) rfl (by have h9 := HV.out.sdq; rw [e1] at h9; exact h9.below S1.out.bl) (w32_one _) (by unfold maxLen; omega) (by omega) (by omega) ?_; intro u1 y1 hO hg hn2; rw [Nat.zero_add, List.nil_append] at hO; obtain ⟨B1, k1, rfl⟩ := (Row.of_own hO).form; have T1 := Lib.hid (S1.out.grown hg); have O1 := Lib.hid hO; have Q10 := Lib.hid (own_still P00.out hg); clear hO hg hn2 d)
    | (refine wpList_put_cell rfl 35 _ _ rfl w.heap.size 78 (.slice B1 x.sdq.length k1) rfl rfl rfl _ T1.out.bx (by rw [staL_len HX.out]; omega) (by kernel_rfl) ?_; intro z1 hb hg; rw [set_sdq HX.out] at hb; have S2 := Lib.hid (T1.out.put hb hg); have P10 := Lib.hid (own_step Q10.out hg (by omega)); have P11 := Lib.hid (own_step O1.out hg (by omega)); clear hb hg; have d := S2.out.bx.cell (sta_aeq HX.out); dsimp only at d; rw [e2] at d; have hlt := S2.out.bx.lt; have hsz := S2.out.hs)
    | (refine wpList_append_new _ rfl (.const (.slice none 0 0)) (.tmp 12) 35 rfl (w.heap.size + 2) 27 iu _ 1 4 Try.underlying35 HIu.out HAu.out HBu.out HCu.out rfl (by omega) (.slice none 0 0) 0 [] rfl (World.ownsRow_nil _ _ _ _) _ (.slice A2 x.aeq.length c2) x.aeq.length (w32 x.aeq) rfl (by have h9 := HV.out.aeq; rw [e2] at h9; exact h9.below S2.out.bl) (w32_one _) (by unfold maxLen; omega) (by omega) (by omega) ?_; intro u2 y2 hO hg hn2; rw [Nat.zero_add, List.nil_append] at hO; obtain ⟨B2, k2, rfl⟩ := (Row.of_own hO).form; have T2 := Lib.hid (S2.out.grown hg); have O2 := Lib.hid hO; have Q20 := Lib.hid (own_still P10.out hg); have Q21 := Lib.hid (own_still P11.out hg); have HWA := Lib.hid (own_elder P11.out hn2); clear hO hg hn2 d)
    | (refine wpList_put_cell rfl 35 _ _ rfl w.heap.size 79 (.slice B2 x.aeq.length k2) rfl rfl rfl _ T2.out.bx (by rw [staL_len HX.out]; omega) (by kernel_rfl) ?_; intro z2 hb hg; rw [set_aeq HX.out] at hb; have S3 := Lib.hid (T2.out.put hb hg); have P20 := Lib.hid (own_step Q20.out hg (by omega)); have P21 := Lib.hid (own_step Q21.out hg (by omega)); have P22 := Lib.hid (own_step O2.out hg (by omega)); clear hb hg; have d := S3.out.bx.cell (sta_abq HX.out); dsimp only at d; rw [e3] at d; have hlt := S3.out.bx.lt; have hsz := S3.out.hs)
    | (refine wpList_append_new _ rfl (.const (.slice none 0 0)) (.tmp 16) 36 rfl (w.heap.size + 2) 4 ib _ 1 1 Try.underlying36 HIb.out HAb.out HBb.out HCb.out rfl (by omega) (.slice none 0 0) 0 [] rfl (World.ownsRow_nil _ _ _ _) _ (.slice A3 x.abq.length c3) x.abq.length (boolsL x.abq) rfl (by have h9 := HV.out.abq; rw [e3] at h9; exact h9.below S3.out.bl) (boolsL_one _) (by unfold maxLen; omega) (by omega) (by omega) ?_; intro u3 y3 hO hg hn2; rw [Nat.zero_add, List.nil_append] at hO; obtain ⟨B3, k3, rfl⟩ := (Row.of_own hO).form; have T3 := Lib.hid (S3.out.grown hg); have O3 := Lib.hid hO; have Q30 := Lib.hid (own_still P20.out hg); have Q31 := Lib.hid (own_still P21.out hg); have Q32 := Lib.hid (own_still P22.out hg); clear hO hg hn2 d)
    | (refine wpList_put_cell rfl 36 _ _ rfl w.heap.size 80 (.slice B3 x.abq.length k3) rfl rfl rfl _ T3.out.bx (by rw [staL_len HX.out]; omega) (by kernel_rfl) ?_; intro z3 hb hg; rw [set_abq HX.out] at hb; have S4 := Lib.hid (T3.out.put hb hg); have P30 := Lib.hid (own_step Q30.out hg (by omega)); have P31 := Lib.hid (own_step Q31.out hg (by omega)); have P32 := Lib.hid (own_step Q32.out hg (by omega)); have P33 := Lib.hid (own_step O3.out hg (by omega)); clear hb hg; have d := S4.out.bx.cell (sta_ebq HX.out); dsimp only at d; rw [e4] at d; have hlt := S4.out.bx.lt; have hsz := S4.out.hs)
    | (refine wpList_append_new _ rfl (.const (.slice none 0 0)) (.tmp 20) 36 rfl (w.heap.size + 2) 4 ib _ 1 1 Try.underlying36 HIb.out HAb.out HBb.out HCb.out rfl (by omega) (.slice none 0 0) 0 [] rfl (World.ownsRow_nil _ _ _ _) _ (.slice A4 x.ebq.length c4) x.ebq.length (boolsL x.ebq) rfl (by have h9 := HV.out.ebq; rw [e4] at h9; exact h9.below S4.out.bl) (boolsL_one _) (by unfold maxLen; omega) (by omega) (by omega) ?_; intro u4 y4 hO hg hn2; rw [Nat.zero_add, List.nil_append] at hO; obtain ⟨B4, k4, rfl⟩ := (Row.of_own hO).form; have T4 := Lib.hid (S4.out.grown hg); have O4 := Lib.hid hO; have Q40 := Lib.hid (own_still P30.out hg); have Q41 := Lib.hid (own_still P31.out hg); have Q42 := Lib.hid (own_still P32.out hg); have Q43 := Lib.hid (own_still P33.out hg); have HBA := Lib.hid (own_elder P33.out hn2); clear hO hg hn2 d)
    | (refine wpList_put_cell rfl 36 _ _ rfl w.heap.size 81 (.slice B4 x.ebq.length k4) rfl rfl rfl _ T4.out.bx (by rw [staL_len HX.out]; omega) (by kernel_rfl) ?_; intro z4 hb hg; rw [set_ebq HX.out] at hb; have S5 := Lib.hid (T4.out.put hb hg); have P40 := Lib.hid (own_step Q40.out hg (by omega)); have P41 := Lib.hid (own_step Q41.out hg (by omega)); have P42 := Lib.hid (own_step Q42.out hg (by omega)); have P43 := Lib.hid (own_step Q43.out hg (by omega)); have P44 := Lib.hid (own_step O4.out hg (by omega)); clear hb hg; have d := S5.out.bx.cell (sta_saq HX.out); dsimp only at d; rw [e5] at d; have hlt := S5.out.bx.lt; have hsz := S5.out.hs)
    | (refine wpList_append_new _ rfl (.const (.slice none 0 0)) (.tmp 24) 37 rfl (w.heap.size + 2) 66 ie _ 5 32 Try.underlying37 HIe.out HAe.out HBe.out HCe.out rfl (by omega) (.slice none 0 0) 0 [] rfl (World.ownsRow_nil _ _ _ _) _ (.slice A5 x.saq.length c5) x.saq.length (flat entL x.saq) rfl (by have h9 := HV.out.saq; rw [e5] at h9; exact h9.below S5.out.bl) (flat_oneC entL_one _) (by unfold maxLen; omega) (by omega) (by omega) ?_; intro u5 y5 hO hg hn2; rw [Nat.zero_add, List.nil_append] at hO; obtain ⟨B5, k5, rfl⟩ := (Row.of_own hO).form; have T5 := Lib.hid (S5.out.grown hg); have O5 := Lib.hid hO; have Q50 := Lib.hid (own_still P40.out hg); have Q51 := Lib.hid (own_still P41.out hg); have Q52 := Lib.hid (own_still P42.out hg); have Q53 := Lib.hid (own_still P43.out hg); have Q54 := Lib.hid (own_still P44.out hg); clear hO hg hn2 d)
    | (refine wpList_put_cell rfl 37 _ _ rfl w.heap.size 82 (.slice B5 x.saq.length k5) rfl rfl rfl _ T5.out.bx (by rw [staL_len HX.out]; omega) (by kernel_rfl) ?_; intro z5 hb hg; rw [set_saq HX.out] at hb; have S6 := Lib.hid (T5.out.put hb hg); have P50 := Lib.hid (own_step Q50.out hg (by omega)); have P51 := Lib.hid (own_step Q51.out hg (by omega)); have P52 := Lib.hid (own_step Q52.out hg (by omega)); have P53 := Lib.hid (own_step Q53.out hg (by omega)); have P54 := Lib.hid (own_step Q54.out hg (by omega)); have P55 := Lib.hid (own_step O5.out hg (by omega)); clear hb hg; have d := S6.out.bx.cell (sta_table HX.out); dsimp only at d; rw [e6] at d; have hlt := S6.out.bx.lt; have hsz := S6.out.hs)
    | (refine wpList_append_new _ rfl (.const (.slice none 0 0)) (.tmp 28) 38 rfl (w.heap.size + 2) 54 ir _ 8 64 Try.underlying38 HIr.out HAr.out HBr.out HCr.out rfl (by omega) (.slice none 0 0) 0 [] rfl (World.ownsRow_nil _ _ _ _) _ (.slice A6 x.table.length c6) x.table.length (flat rqsL x.table) rfl (by have h9 := HV.out.table; rw [e6] at h9; exact h9.below S6.out.bl) (flat_oneC rqsL_one _) (by unfold maxLen; omega) (by omega) (by omega) ?_; intro u6 y6 hO hg hn2; rw [Nat.zero_add, List.nil_append] at hO; obtain ⟨B6, k6, rfl⟩ := (Row.of_own hO).form; have T6 := Lib.hid (S6.out.grown hg); have O6 := Lib.hid hO; have Q60 := Lib.hid (own_still P50.out hg); have Q61 := Lib.hid (own_still P51.out hg); have Q62 := Lib.hid (own_still P52.out hg); have Q63 := Lib.hid (own_still P53.out hg); have Q64 := Lib.hid (own_still P54.out hg); have Q65 := Lib.hid (own_still P55.out hg); clear hO hg hn2 d)
    | (refine wpList_put_cell rfl 38 _ _ rfl w.heap.size 83 (.slice B6 x.table.length k6) rfl rfl rfl _ T6.out.bx (by rw [staL_len HX.out]; omega) (by kernel_rfl) ?_; intro z6 hb hg; rw [set_table HX.out] at hb; have S7 := Lib.hid (T6.out.put hb hg); have P60 := Lib.hid (own_step Q60.out hg (by omega)); have P61 := Lib.hid (own_step Q61.out hg (by omega)); have P62 := Lib.hid (own_step Q62.out hg (by omega)); have P63 := Lib.hid (own_step Q63.out hg (by omega)); have P64 := Lib.hid (own_step Q64.out hg (by omega)); have P65 := Lib.hid (own_step Q65.out hg (by omega)); have P66 := Lib.hid (own_step O6.out hg (by omega)); clear hb hg; have d := S7.out.bx.cell (sta_mem HX.out); dsimp only at d; rw [e7] at d; have hlt := S7.out.bx.lt; have hsz := S7.out.hs)
    | (refine wpList_append_new _ rfl (.const (.slice none 0 0)) (.tmp 32) 39 rfl (w.heap.size + 2) 5 im _ 1 1 Try.underlying39 HIm.out HAm.out HBm.out HCm.out rfl (by omega) (.slice none 0 0) 0 [] rfl (World.ownsRow_nil _ _ _ _) _ (.slice A7 x.mem.length c7) x.mem.length (bytesL x.mem) rfl (by have h9 := HV.out.mem; rw [e7] at h9; exact h9.below S7.out.bl) (bytesL_one _) (by unfold maxLen; omega) (by omega) (by omega) ?_; intro u7 y7 hO hg hn2; rw [Nat.zero_add, List.nil_append] at hO; obtain ⟨B7, k7, rfl⟩ := (Row.of_own hO).form; have T7 := Lib.hid (S7.out.grown hg); have O7 := Lib.hid hO; have Q70 := Lib.hid (own_still P60.out hg); have Q71 := Lib.hid (own_still P61.out hg); have Q72 := Lib.hid (own_still P62.out hg); have Q73 := Lib.hid (own_still P63.out hg); have Q74 := Lib.hid (own_still P64.out hg); have Q75 := Lib.hid (own_still P65.out hg); have Q76 := Lib.hid (own_still P66.out hg); clear hO hg hn2 d)
    | (refine wpList_put_cell rfl 39 _ _ rfl w.heap.size 84 (.slice B7 x.mem.length k7) rfl rfl rfl _ T7.out.bx (by rw [staL_len HX.out]; omega) (by kernel_rfl) ?_; intro z7 hb hg; rw [set_mem HX.out] at hb; have S8 := Lib.hid (T7.out.put hb hg); have P70 := Lib.hid (own_step Q70.out hg (by omega)); have P71 := Lib.hid (own_step Q71.out hg (by omega)); have P72 := Lib.hid (own_step Q72.out hg (by omega)); have P73 := Lib.hid (own_step Q73.out hg (by omega)); have P74 := Lib.hid (own_step Q74.out hg (by omega)); have P75 := Lib.hid (own_step Q75.out hg (by omega)); have P76 := Lib.hid (own_step Q76.out hg (by omega)); have P77 := Lib.hid (own_step O7.out hg (by omega)); clear hb hg; have d := S8.out.bx.cell (sta_ws HX.out); dsimp only at d; rw [e8] at d; have hlt := S8.out.bx.lt; have hsz := S8.out.hs)
    | (refine wpList_append_new _ rfl (.const (.slice none 0 0)) (.tmp 36) 40 rfl (w.heap.size + 2) 68 iw _ 3 24 Try.underlying40 HIw.out HAw.out HBw.out HCw.out rfl (by omega) (.slice none 0 0) 0 [] rfl (World.ownsRow_nil _ _ _ _) _ (.slice A8 x.ws.length c8) x.ws.length (wsL x.ws) rfl (by have h9 := HV.out.ws; rw [e8] at h9; exact h9.below S8.out.bl) (wsL_one _) (by unfold maxLen; omega) (by omega) (by omega) ?_; intro u8 y8 hO hg hn2; rw [Nat.zero_add, List.nil_append] at hO; obtain ⟨B8, k8, rfl⟩ := (Row.of_own hO).form; have T8 := Lib.hid (S8.out.grown hg); have O8 := Lib.hid hO; have Q80 := Lib.hid (own_still P70.out hg); have Q81 := Lib.hid (own_still P71.out hg); have Q82 := Lib.hid (own_still P72.out hg); have Q83 := Lib.hid (own_still P73.out hg); have Q84 := Lib.hid (own_still P74.out hg); have Q85 := Lib.hid (own_still P75.out hg); have Q86 := Lib.hid (own_still P76.out hg); have Q87 := Lib.hid (own_still P77.out hg); clear hO hg hn2 d)
    | (refine wpList_put_cell rfl 40 _ _ rfl w.heap.size 85 (.slice B8 x.ws.length k8) rfl rfl rfl _ T8.out.bx (by rw [staL_len HX.out]; omega) (by kernel_rfl) ?_; intro z8 hb hg; rw [set_ws HX.out] at hb; have S9 := Lib.hid (T8.out.put hb hg); have P80 := Lib.hid (own_step Q80.out hg (by omega)); have P81 := Lib.hid (own_step Q81.out hg (by omega)); have P82 := Lib.hid (own_step Q82.out hg (by omega)); have P83 := Lib.hid (own_step Q83.out hg (by omega)); have P84 := Lib.hid (own_step Q84.out hg (by omega)); have P85 := Lib.hid (own_step Q85.out hg (by omega)); have P86 := Lib.hid (own_step Q86.out hg (by omega)); have P87 := Lib.hid (own_step Q87.out hg (by omega)); have P88 := Lib.hid (own_step O8.out hg (by omega)); clear hb hg; skip)
    | (refine wpList_load_box rfl 44 (.tmp 1) rfl w.heap.size 0 rfl (staL x { v with ldq := .slice B0 x.ldq.length k0, sdq := .slice B1 x.sdq.length k1, aeq := .slice B2 x.aeq.length k2, abq := .slice B3 x.abq.length k3, ebq := .slice B4 x.ebq.length k4, saq := .slice B5 x.saq.length k5, table := .slice B6 x.table.length k6, mem := .slice B7 x.mem.length k7, ws := .slice B8 x.ws.length k8 }) (staL x { v with ldq := .slice B0 x.ldq.length k0, sdq := .slice B1 x.sdq.length k1, aeq := .slice B2 x.aeq.length k2, abq := .slice B3 x.abq.length k3, ebq := .slice B4 x.ebq.length k4, saq := .slice B5 x.saq.length k5, table := .slice B6 x.table.length k6, mem := .slice B7 x.mem.length k7, ws := .slice B8 x.ws.length k8 }) S9.out.bx (fun j u hu => by rw [Nat.zero_add]; exact hu) _ Try.underlying44 rfl 92 sta_size (staL_len HX.out) ?_)
    | (refine wpList_store_box rfl 44 (.tmp 2) (.tmp 39) rfl (w.heap.size + 1) 0 (staL x { v with ldq := .slice B0 x.ldq.length k0, sdq := .slice B1 x.sdq.length k1, aeq := .slice B2 x.aeq.length k2, abq := .slice B3 x.abq.length k3, ebq := .slice B4 x.ebq.length k4, saq := .slice B5 x.saq.length k5, table := .slice B6 x.table.length k6, mem := .slice B7 x.mem.length k7, ws := .slice B8 x.ws.length k8 }) rfl rfl Z S9.out.bz (by rw [HZ.out, staL_len HX.out]; exact Nat.le_refl _) 92 sta_size (staL_len HX.out) (staL_one (by
        intro u hu
        simp only [vsL, List.mem_cons, List.not_mem_nil, or_false] at hu
        rcases hu with rfl | rfl | rfl | rfl | rfl | rfl | rfl | rfl | rfl <;> rfl)) ?_; intro w9 hb9 hg9; rw [splice_whole _ _ (by rw [HZ.out, staL_len HX.out])] at hb9; have X9 := Lib.hid hb9; have G9 := Lib.hid hg9; clear hb9 hg9))
  refine bodyPost_ret (v := .agg (staL x { v with ldq := .slice B0 x.ldq.length k0, sdq := .slice B1 x.sdq.length k1, aeq := .slice B2 x.aeq.length k2, abq := .slice B3 x.abq.length k3, ebq := .slice B4 x.ebq.length k4, saq := .slice B5 x.saq.length k5, table := .slice B6 x.table.length k6, mem := .slice B7 x.mem.length k7, ws := .slice B8 x.ws.length k8 }).toArray) (results_cell Try.results18 _ _ _ ⟨w.heap.size + 1, 0, none⟩ _ rfl (load_sta HX.out X9.out)) rfl ⟨_, rfl, ?_, ?_⟩
  · exact ⟨own_less (own_step P80.out G9.out (by omega)) (by omega), own_less (own_step P81.out G9.out (by omega)) (by omega), own_less (own_step P82.out G9.out (by omega)) (by omega), own_less (own_step P83.out G9.out (by omega)) (by omega), own_less (own_step P84.out G9.out (by omega)) (by omega), own_less (own_step P85.out G9.out (by omega)) (by omega), own_less (own_step P86.out G9.out (by omega)) (by omega), own_less (own_step P87.out G9.out (by omega)) (by omega), own_less (own_step P88.out G9.out (by omega)) (by omega), HWA.out, HBA.out⟩
  · exact Below.grown S9.out.bl G9.out S9.out.bl.size (fun q hq => by injection hq with hq; omega)
end Go.Proofs.Ythhoigkmmlkfcaa.Words

/- Rows of the call's own: two of two types lie apart; a slice of one new element; a slice is one cell. Nothing here speaks of one program text. -/
namespace Go.Proofs.Ythhoigkmmlkfcaa.Words
set_option maxRecDepth 100000
open Go.RowKit
set_option linter.unusedVariables false

theorem row_one3 (w : World) (a b c : Value) (t : TypeId) : Row (w.alloc (.cells #[a, b, c] t)) (w.heap.size + 1) 3 (.slice (some ⟨w.heap.size, 0, none⟩) 1 1) 1 [a, b, c] := by
  refine ⟨rfl, _, _, rfl, Nat.le_refl _, by omega, (fun h => by cases h), fun _ => ⟨w.heap.size, 0, rfl, Nat.lt_succ_self _, fun j u hu => ?_⟩⟩
  have := new_cells w #[a, b, c] t [a, b, c] rfl j u hu
  rwa [add_spot] at this
theorem own_apart {w : World} {b1 b2 s1 s2 n1 n2 : Nat} {e1 e2 : TypeId} {v1 v2 : Value} {x1 x2 : List Value} (h1 : w.ownsRow b1 e1 s1 v1 n1 x1) (h2 : w.ownsRow b2 e2 s2 v2 n2 x2) (hne : e1 ≠ e2) {g : Nat} (hg : v1.ownBlock = some g) : v1.ownBlock ≠ v2.ownBlock := by
  rcases h1.2 with ⟨rfl, _⟩ | ⟨g1, c1, cur1, rfl, _, a1, _⟩
  · cases hg
  rcases h2.2 with ⟨rfl, _⟩ | ⟨g2, c2, cur2, rfl, _, a2, _⟩
  · intro h; cases h
  · intro h
    simp only [Value.ownBlock, Option.some.injEq] at h
    subst h
    rw [a1] at a2
    simp only [Option.some.injEq, Obj.cells.injEq] at a2
    exact hne a2.2.1
theorem own_apart2 {w : World} {b1 b2 s1 s2 n1 n2 : Nat} {e1 e2 : TypeId} {v1 v2 : Value} {x1 x2 : List Value} (h1 : w.ownsRow b1 e1 s1 v1 n1 x1) (h2 : w.ownsRow b2 e2 s2 v2 n2 x2) (hne : e1 ≠ e2) : v1.ownBlock = none ∨ v1.ownBlock ≠ v2.ownBlock := by
  cases hg : v1.ownBlock with
  | none => exact .inl rfl
  | some g => exact .inr (hg ▸ own_apart h1 h2 hne hg)
theorem cell_set_other {w : World} {b b' k k' : Nat} {u v : Value} (h : w.cell? ⟨b, k, none⟩ = some v) (hne : b ≠ b') : (w.setCell ⟨b', k', none⟩ u).cell? ⟨b, k, none⟩ = some v := by
  rw [World.cell?_of_block (w := w) (a := ⟨b, k, none⟩) (Below.heap_setCell w ⟨b', k', none⟩ u b hne)]; exact h
theorem own_one {w : World} {B s n : Nat} {e : TypeId} {v : Value} {xs : List Value} (h : w.ownsRow B e s v n xs) : v.oneCell' = true := by
  rcases h.2 with ⟨rfl, _⟩ | ⟨g, cap, cur, rfl, _⟩ <;> rfl
end Go.Proofs.Ythhoigkmmlkfcaa.Words

/- A state whose rows lie in a call's own memory, one of them (the queue of stores) perhaps a part of its row; and such a state in a variable of its own. -/
namespace Go.Proofs.Ythhoigkmmlkfcaa.Words
set_option maxRecDepth 100000
open Go.RowKit
set_option linter.unusedVariables false

/-- A row, or a part of one, that lies in a block of that type at or above base. -/
def AtRow (w : World) (base : Nat) (e : TypeId) (s : Nat) (v : Value) (n : Nat) (xs : List Value) : Prop :=
  Row w w.heap.size s v n xs ∧ ∀ g, v.ownBlock = some g → base ≤ g ∧ ∃ cur, w.heap[g]? = some (.cells cur e (0, 0))
section
variable {w w' : World} {base : Nat} {e : TypeId} {s n : Nat} {v : Value} {xs : List Value} {S : Nat → Prop}
theorem AtRow.of_own (h : w.ownsRow base e s v n xs) : AtRow w base e s v n xs := by
  refine ⟨Row.of_own h, fun g hg => ?_⟩
  rcases h.2 with ⟨rfl, _⟩ | ⟨g', cap, cur, rfl, h1, h2, _⟩
  · cases hg
  · injection hg with hg
    subst hg
    exact ⟨h1, cur, h2⟩
theorem AtRow.lt (h : AtRow w base e s v n xs) {g : Nat} (hg : v.ownBlock = some g) : base ≤ g ∧ g < w.heap.size := by
  obtain ⟨h1, cur, h2⟩ := h.2 g hg
  exact ⟨h1, (Array.getElem?_eq_some_iff.1 h2).1⟩
theorem AtRow.keepS (h : AtRow w base e s v n xs) (hk : KeepS S w w') (hn : ∀ g, v.ownBlock = some g → ¬ S g) : AtRow w' base e s v n xs := by
  obtain ⟨⟨h0, A, c, rfl, h2, h3, h4, h5⟩, hb⟩ := h
  refine ⟨⟨h0, A, c, rfl, h2, h3, h4, fun hz => ?_⟩, fun g hg => ?_⟩
  · obtain ⟨b, off, rfl, hlt, hc⟩ := h5 hz
    exact ⟨b, off, rfl, Nat.lt_of_lt_of_le hlt hk.size, fun j u hu => hk.cell hlt (hn b rfl) (hc j u hu)⟩
  · obtain ⟨h6, cur, h7⟩ := hb g hg
    have hlt := (Array.getElem?_eq_some_iff.1 h7).1
    exact ⟨h6, cur, (hk.block g hlt (hn g hg)).trans h7⟩
theorem AtRow.below (h : AtRow w base e s v n xs) (hb : Below w.heap.size w w') : AtRow w' base e s v n xs :=
  h.keepS (S := fun _ => False) (KeepS.of_below hb) (fun _ _ hf => hf)
theorem AtRow.less {base' : Nat} (h : AtRow w base e s v n xs) (hb : base' ≤ base) : AtRow w base' e s v n xs :=
  ⟨h.1, fun g hg => ⟨Nat.le_trans hb (h.2 g hg).1, (h.2 g hg).2⟩⟩
theorem AtRow.one (h : AtRow w base e s v n xs) : v.oneCell' = true := by
  obtain ⟨⟨_, A, c, rfl, _⟩, _⟩ := h
  rfl
theorem AtRow.apart {b2 s2 n2 : Nat} {e2 : TypeId} {v2 : Value} {x2 : List Value} (h : AtRow w base e s v n xs) (h2 : w.ownsRow b2 e2 s2 v2 n2 x2) (hne : e ≠ e2) : ∀ g, v.ownBlock = some g → v2.ownBlock ≠ some g := by
  intro g hg hg2
  obtain ⟨_, cur, hc⟩ := h.2 g hg
  obtain ⟨_, cur2, hc2⟩ := (AtRow.of_own h2).2 g hg2
  rw [hc] at hc2
  injection hc2 with hc2
  injection hc2 with _ h3
  exact hne h3
end
/-- The first record is left out. -/
theorem AtRow.tail {α : Type} {f : α → List Value} {w : World} {base : Nat} {e : TypeId} {s n c g o : Nat} {x : α} {r : List α} (hf : ∀ x, (f x).length = s) (h : AtRow w base e s (.slice (some ⟨g, o, none⟩) (n + 1) c) (n + 1) (flat f (x :: r))) :
    AtRow w base e s (.slice (some ⟨g, o + s, none⟩) n (c - 1)) n (flat f r) := by
  obtain ⟨h1, hb⟩ := h
  refine ⟨?_, fun g' hg => hb g' hg⟩
  obtain ⟨q1, q2⟩ := h1.cap
  obtain ⟨g', o', e', hlt, hc⟩ := h1.at_ (by omega)
  simp only [Option.some.injEq, Addr.mk.injEq, and_true] at e'
  obtain ⟨rfl, rfl⟩ := e'
  have hl := h1.len
  rw [flat_cons] at hl hc
  rw [List.length_append, hf, Nat.succ_mul] at hl
  refine ⟨by omega, _, _, rfl, by omega, by omega, (fun e => by cases e), fun _ => ⟨g, o + s, rfl, hlt, fun j u hu => ?_⟩⟩
  have := hc (s + j) u (by rw [List.getElem?_append_right (by rw [hf]; omega), hf, show s + j - s = j by omega]; exact hu)
  rwa [← Nat.add_assoc] at this
theorem AtRow.tail_nil {α : Type} {f : α → List Value} {w : World} {base : Nat} {e : TypeId} {s c g o : Nat} {x : α} (h : AtRow w base e s (.slice (some ⟨g, o, none⟩) 1 c) 1 (flat f [x])) :
    AtRow w base e s (.slice (some ⟨g, o, none⟩) 0 (c - 1)) 0 (flat f []) := by
  obtain ⟨h1, hb⟩ := h
  obtain ⟨q1, q2⟩ := h1.cap
  exact ⟨⟨by simp [flat], _, _, rfl, by omega, by omega, (fun e => by cases e), fun hz => absurd rfl hz⟩, fun g' hg => hb g' hg⟩
/-- Its nine rows lie in new memory, no two of them that may grow in one block. -/
structure StaAt (w : World) (base : Nat) (v : Vs) (x : Sta) : Prop where
  ldq : w.ownsRow base 58 3 v.ldq x.ldq.length (flat sltL x.ldq)
  sdq : w.ownsRow base 27 1 v.sdq x.sdq.length (w32 x.sdq)
  aeq : w.ownsRow base 27 1 v.aeq x.aeq.length (w32 x.aeq)
  abq : w.ownsRow base 4 1 v.abq x.abq.length (boolsL x.abq)
  ebq : w.ownsRow base 4 1 v.ebq x.ebq.length (boolsL x.ebq)
  saq : AtRow w base 66 5 v.saq x.saq.length (flat entL x.saq)
  table : w.ownsRow base 54 8 v.table x.table.length (flat rqsL x.table)
  mem : w.ownsRow base 5 1 v.mem x.mem.length (bytesL x.mem)
  ws : w.ownsRow base 68 3 v.ws x.ws.length (wsL x.ws)
  words : v.sdq.ownBlock = none ∨ v.sdq.ownBlock ≠ v.aeq.ownBlock
  bools : v.abq.ownBlock = none ∨ v.abq.ownBlock ≠ v.ebq.ownBlock
theorem StaOwn.at_ {w : World} {base : Nat} {v : Vs} {x : Sta} (h : StaOwn w base v x) : StaAt w base v x :=
  ⟨h.ldq, h.sdq, h.aeq, h.abq, h.ebq, AtRow.of_own h.saq, h.table, h.mem, h.ws, h.words, h.bools⟩
section
variable {w w' : World} {base : Nat} {v : Vs} {x : Sta} {S : Nat → Prop}
theorem StaAt.read (h : StaAt w base v x) : StaV w w.heap.size v x := ⟨Row.of_own h.ldq, Row.of_own h.sdq, Row.of_own h.aeq, Row.of_own h.abq, Row.of_own h.ebq, h.saq.1, Row.of_own h.table, Row.of_own h.mem, Row.of_own h.ws⟩
theorem StaAt.row (h : StaAt w base v x) : StaV w w.heap.size v x := h.read
theorem StaAt.lt (h : StaAt w base v x) : ∀ u ∈ vsL v, ∀ g, u.ownBlock = some g → base ≤ g ∧ g < w.heap.size := by
  intro u hu g hg
  simp only [vsL, List.mem_cons, List.not_mem_nil, or_false] at hu
  rcases hu with rfl | rfl | rfl | rfl | rfl | rfl | rfl | rfl | rfl
  · exact h.ldq.lt g hg
  · exact h.sdq.lt g hg
  · exact h.aeq.lt g hg
  · exact h.abq.lt g hg
  · exact h.ebq.lt g hg
  · exact h.saq.lt hg
  · exact h.table.lt g hg
  · exact h.mem.lt g hg
  · exact h.ws.lt g hg
theorem StaAt.keepO (h : StaAt w base v x) (hk : KeepS S w w') (hn : ∀ u ∈ vsL v, ∀ g, u.ownBlock = some g → ¬ S g) : StaAt w' base v x :=
  ⟨own_keepS h.ldq hk (hn _ (by simp [vsL])), own_keepS h.sdq hk (hn _ (by simp [vsL])), own_keepS h.aeq hk (hn _ (by simp [vsL])), own_keepS h.abq hk (hn _ (by simp [vsL])), own_keepS h.ebq hk (hn _ (by simp [vsL])), h.saq.keepS hk (hn _ (by simp [vsL])), own_keepS h.table hk (hn _ (by simp [vsL])), own_keepS h.mem hk (hn _ (by simp [vsL])), own_keepS h.ws hk (hn _ (by simp [vsL])), h.words, h.bools⟩
theorem StaAt.keepS (h : StaAt w base v x) (hk : KeepS S w w') (hs : ∀ j, S j → j < base) : StaAt w' base v x :=
  h.keepO hk (fun u hu g hg e => by have := (h.lt u hu g hg).1; have := hs _ e; omega)
theorem StaAt.below (h : StaAt w base v x) (hb : Below w.heap.size w w') : StaAt w' base v x :=
  h.keepO (S := fun _ => False) (KeepS.of_below hb) (fun _ _ _ _ hf => hf)
theorem StaAt.less {base' : Nat} (h : StaAt w base v x) (hb : base' ≤ base) : StaAt w base' v x :=
  ⟨own_less h.ldq hb, own_less h.sdq hb, own_less h.aeq hb, own_less h.abq hb, own_less h.ebq hb, h.saq.less hb, own_less h.table hb, own_less h.mem hb, own_less h.ws hb, h.words, h.bools⟩
theorem StaAt.one (h : StaAt w base v x) : ∀ u ∈ staL x v, u.oneCell' = true := staL_one (by
  intro u hu
  simp only [vsL, List.mem_cons, List.not_mem_nil, or_false] at hu
  rcases hu with rfl | rfl | rfl | rfl | rfl | rfl | rfl | rfl | rfl
  · exact own_oneC h.ldq
  · exact own_oneC h.sdq
  · exact own_oneC h.aeq
  · exact own_oneC h.abq
  · exact own_oneC h.ebq
  · exact h.saq.one
  · exact own_oneC h.table
  · exact own_oneC h.mem
  · exact own_oneC h.ws)
theorem StaAt.set_ldq (h : StaAt w base v x) {u : Value} {m : List Slt} (ho : w.ownsRow base 58 3 u m.length (flat sltL m)) : StaAt w base { v with ldq := u } { x with ldq := m } :=
  ⟨ho, h.sdq, h.aeq, h.abq, h.ebq, h.saq, h.table, h.mem, h.ws, h.words, h.bools⟩
theorem StaAt.set_saq (h : StaAt w base v x) {u : Value} {m : List Ent} (ho : AtRow w base 66 5 u m.length (flat entL m)) : StaAt w base { v with saq := u } { x with saq := m } :=
  ⟨h.ldq, h.sdq, h.aeq, h.abq, h.ebq, ho, h.table, h.mem, h.ws, h.words, h.bools⟩
theorem StaAt.set_table (h : StaAt w base v x) {u : Value} {m : List Rqs} (ho : w.ownsRow base 54 8 u m.length (flat rqsL m)) : StaAt w base { v with table := u } { x with table := m } :=
  ⟨h.ldq, h.sdq, h.aeq, h.abq, h.ebq, h.saq, ho, h.mem, h.ws, h.words, h.bools⟩
theorem StaAt.set_mem (h : StaAt w base v x) {u : Value} {m : List Int} (ho : w.ownsRow base 5 1 u m.length (bytesL m)) : StaAt w base { v with mem := u } { x with mem := m } :=
  ⟨h.ldq, h.sdq, h.aeq, h.abq, h.ebq, h.saq, h.table, ho, h.ws, h.words, h.bools⟩
/-- The same rows; numbers may differ. -/
theorem StaAt.same {x' : Sta} (h : StaAt w base v x) (e0 : x'.ldq = x.ldq) (e1 : x'.sdq = x.sdq) (e2 : x'.aeq = x.aeq) (e3 : x'.abq = x.abq) (e4 : x'.ebq = x.ebq) (e5 : x'.saq = x.saq) (e6 : x'.table = x.table) (e7 : x'.mem = x.mem) (e8 : x'.ws = x.ws) : StaAt w base v x' :=
  ⟨by rw [e0]; exact h.ldq, by rw [e1]; exact h.sdq, by rw [e2]; exact h.aeq, by rw [e3]; exact h.abq, by rw [e4]; exact h.ebq, by rw [e5]; exact h.saq, by rw [e6]; exact h.table, by rw [e7]; exact h.mem, by rw [e8]; exact h.ws, h.words, h.bools⟩
/-- The row of writes grew, in place or in new memory. -/
theorem StaAt.app_ws (h : StaAt w base v x) {u : Value} {m : List Wr} (ho : w'.ownsRow base 68 3 u m.length (wsL m)) (hg : w.grownBy w' v.ws.ownBlock) : StaAt w' base { v with ws := u } { x with ws := m } := by
  refine ⟨h.ldq.kept hg (own_apart2 h.ldq h.ws (by decide)), h.sdq.kept hg (own_apart2 h.sdq h.ws (by decide)), h.aeq.kept hg (own_apart2 h.aeq h.ws (by decide)), h.abq.kept hg (own_apart2 h.abq h.ws (by decide)), h.ebq.kept hg (own_apart2 h.ebq h.ws (by decide)), ?_, h.table.kept hg (own_apart2 h.table h.ws (by decide)), h.mem.kept hg (own_apart2 h.mem h.ws (by decide)), ho, h.words, h.bools⟩
  exact h.saq.keepS (S := fun k => v.ws.ownBlock = some k) (KeepS.of_grown hg (fun k e => e)) (h.saq.apart h.ws (by decide))
end
/-- A state in a variable of the call's own (block ob), its rows off that block. -/
structure OutS (base ob : Nat) (v : Vs) (x : Sta) (W : World) : Prop where
  bx : Box W ob (staL x v)
  own : StaAt W base v x
  off : ∀ u ∈ vsL v, u.ownBlock ≠ some ob
  hb : base ≤ ob
section
variable {W Y : World} {base ob : Nat} {v v' : Vs} {x x' : Sta} {S : Nat → Prop}
theorem OutS.keepS (h : OutS base ob v x W) (hk : KeepS S W Y) (hob : ¬ S ob) (hn : ∀ u ∈ vsL v, ∀ g, u.ownBlock = some g → ¬ S g) : OutS base ob v x Y :=
  ⟨h.bx.keepS hk hob, h.own.keepO hk hn, h.off, h.hb⟩
theorem OutS.below (h : OutS base ob v x W) (hb : Below W.heap.size W Y) : OutS base ob v x Y :=
  h.keepS (S := fun _ => False) (KeepS.of_below hb) (fun hf => hf) (fun _ _ _ _ hf => hf)
theorem OutS.put (h : OutS base ob v x W) (hb : Box Y ob (staL x' v')) (hg : W.grownBy Y (some ob)) (ho : StaAt W base v' x') (hoff : ∀ u ∈ vsL v', u.ownBlock ≠ some ob) : OutS base ob v' x' Y :=
  ⟨hb, ho.keepO (S := fun j => j = ob) (KeepS.of_grown hg (fun k e => by injection e with e; exact e.symm)) (fun u hu g hg e => hoff u hu (by rw [hg, e])), hoff, h.hb⟩
end
theorem off_ldq {v : Vs} {ob : Nat} {u : Value} (h : ∀ y ∈ vsL v, y.ownBlock ≠ some ob) (hu : u.ownBlock ≠ some ob) : ∀ y ∈ vsL { v with ldq := u }, y.ownBlock ≠ some ob := by
  intro y hy
  simp only [vsL, List.mem_cons, List.not_mem_nil, or_false] at hy
  rcases hy with rfl | rfl | rfl | rfl | rfl | rfl | rfl | rfl | rfl
  · exact hu
  all_goals exact h _ (by simp [vsL])
theorem off_saq {v : Vs} {ob : Nat} {u : Value} (h : ∀ y ∈ vsL v, y.ownBlock ≠ some ob) (hu : u.ownBlock ≠ some ob) : ∀ y ∈ vsL { v with saq := u }, y.ownBlock ≠ some ob := by
  intro y hy
  simp only [vsL, List.mem_cons, List.not_mem_nil, or_false] at hy
  rcases hy with rfl | rfl | rfl | rfl | rfl | rfl | rfl | rfl | rfl
  case inr.inr.inr.inr.inr.inl => exact hu
  all_goals exact h _ (by simp [vsL])
theorem off_table {v : Vs} {ob : Nat} {u : Value} (h : ∀ y ∈ vsL v, y.ownBlock ≠ some ob) (hu : u.ownBlock ≠ some ob) : ∀ y ∈ vsL { v with table := u }, y.ownBlock ≠ some ob := by
  intro y hy
  simp only [vsL, List.mem_cons, List.not_mem_nil, or_false] at hy
  rcases hy with rfl | rfl | rfl | rfl | rfl | rfl | rfl | rfl | rfl
  case inr.inr.inr.inr.inr.inr.inl => exact hu
  all_goals exact h _ (by simp [vsL])
theorem off_mem {v : Vs} {ob : Nat} {u : Value} (h : ∀ y ∈ vsL v, y.ownBlock ≠ some ob) (hu : u.ownBlock ≠ some ob) : ∀ y ∈ vsL { v with mem := u }, y.ownBlock ≠ some ob := by
  intro y hy
  simp only [vsL, List.mem_cons, List.not_mem_nil, or_false] at hy
  rcases hy with rfl | rfl | rfl | rfl | rfl | rfl | rfl | rfl | rfl
  case inr.inr.inr.inr.inr.inr.inr.inl => exact hu
  all_goals exact h _ (by simp [vsL])
theorem off_ws {v : Vs} {ob : Nat} {u : Value} (h : ∀ y ∈ vsL v, y.ownBlock ≠ some ob) (hu : u.ownBlock ≠ some ob) : ∀ y ∈ vsL { v with ws := u }, y.ownBlock ≠ some ob := by
  intro y hy
  simp only [vsL, List.mem_cons, List.not_mem_nil, or_false] at hy
  rcases hy with rfl | rfl | rfl | rfl | rfl | rfl | rfl | rfl | rfl
  case inr.inr.inr.inr.inr.inr.inr.inr => exact hu
  all_goals exact h _ (by simp [vsL])
end Go.Proofs.Ythhoigkmmlkfcaa.Words

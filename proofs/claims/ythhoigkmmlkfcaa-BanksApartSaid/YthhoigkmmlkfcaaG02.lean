/- Several texts in one: ResData, StaData, IsaMath, BytesMath, RefMask, SltMath, OwnSet. -/
import Derived.Test.YthhoigkmmlkfcaaG01
import Derived.WalkKit
import Derived.Laws.BitsAllLaws
import Derived.Test.YthhoigkmmlkfcaaRows
import Derived.Test.YthhoigkmmlkfcaaG00

/- Results as plain data: a result's cells, its value, its rows; writes as cells. -/
namespace Go.Proofs.Ythhoigkmmlkfcaa.Words
set_option maxRecDepth 100000
open Go.RowKit
set_option linter.unusedVariables false

/-- The three cells of a write. -/
def wrL (w : Wr) : List Value := [.int .i64 w.addr, .int .i64 w.size, .int .u32 w.val]
/-- The cells of a list of writes. -/
def wsL (l : List Wr) : List Value := l.flatMap wrL
theorem wsL_nil : wsL [] = [] := rfl
theorem wsL_cons (i : Wr) (l : List Wr) : wsL (i :: l) = wrL i ++ wsL l := by simp [wsL]
theorem wsL_append (l m : List Wr) : wsL (l ++ m) = wsL l ++ wsL m := by simp [wsL]
theorem wsL_length (l : List Wr) : (wsL l).length = l.length * 3 := by
  induction l with
  | nil => rfl
  | cons i l ih => rw [wsL_cons, List.length_append, ih]; simp [wrL]; omega
theorem wsL_one (l : List Wr) : ∀ u ∈ wsL l, u.oneCell' = true := by
  intro u hu
  unfold wsL at hu
  rw [List.mem_flatMap] at hu
  obtain ⟨w, _, hw⟩ := hu
  simp only [wrL, List.mem_cons, List.not_mem_nil, or_false] at hw
  rcases hw with rfl | rfl | rfl <;> rfl
theorem wsL_at (l : List Wr) (k : Nat) (i : Wr) (h : l[k]? = some i) (j : Nat) (hj : j < 3) : (wsL l)[k * 3 + j]? = (wrL i)[j]? := by
  induction l generalizing k with
  | nil => simp at h
  | cons x l ih =>
    rw [wsL_cons]
    cases k with
    | zero =>
      simp at h; subst h
      rw [List.getElem?_append_left (by simp [wrL]; omega), Nat.zero_mul, Nat.zero_add]
    | succ k =>
      simp at h
      have h5 : (wrL x).length = 3 := rfl
      rw [List.getElem?_append_right (by omega), h5, show (k + 1) * 3 + j - 3 = k * 3 + j by omega]
      exact ih k h

/-- A result's plain data. -/
structure Res where
  e : Int
  tk : Int
  ts : Int
  tp : Int
  st : Int
  regs : List Int
  mem : List Int
  ws : List Wr
deriving DecidableEq
def Res.Fits (r : Res) : Prop :=
  (-9223372036854775808 ≤ r.e ∧ r.e ≤ 9223372036854775807) ∧ (-9223372036854775808 ≤ r.tk ∧ r.tk ≤ 9223372036854775807) ∧ (-9223372036854775808 ≤ r.ts ∧ r.ts ≤ 9223372036854775807) ∧ (-9223372036854775808 ≤ r.tp ∧ r.tp ≤ 9223372036854775807) ∧
  (-9223372036854775808 ≤ r.st ∧ r.st ≤ 9223372036854775807) ∧ (∀ x ∈ r.regs, 0 ≤ x ∧ x ≤ 4294967295) ∧ (∀ x ∈ r.mem, 0 ≤ x ∧ x ≤ 255) ∧ (∀ x ∈ r.ws, x.Fits)
/-- Its 23 cells. -/
def resL (r : Res) (vm vw : Value) : List Value := [.int .i64 r.e, .int .i64 r.tk, .int .i64 r.ts, .int .i64 r.tp, .int .i64 r.st] ++ (r.regs.map (Value.int .u32) ++ [vm, vw])
section
variable {r : Res} {vm vw : Value}
theorem resL_len (h : r.regs.length = 16) : (resL r vm vw).length = 23 := by simp [resL, h]
theorem resL_0 : (resL r vm vw)[0]? = some (.int .i64 r.e) := rfl
theorem resL_1 : (resL r vm vw)[1]? = some (.int .i64 r.tk) := rfl
theorem resL_2 : (resL r vm vw)[2]? = some (.int .i64 r.ts) := rfl
theorem resL_3 : (resL r vm vw)[3]? = some (.int .i64 r.tp) := rfl
theorem resL_4 : (resL r vm vw)[4]? = some (.int .i64 r.st) := rfl
theorem resL_tail (j : Nat) : (resL r vm vw)[5 + j]? = (r.regs.map (Value.int .u32) ++ [vm, vw])[j]? := by
  unfold resL
  rw [List.getElem?_append_right (by simp), show 5 + j - [Value.int .i64 r.e, .int .i64 r.tk, .int .i64 r.ts, .int .i64 r.tp, .int .i64 r.st].length = j by simp]
theorem resL_reg (h : r.regs.length = 16) (j : Nat) (hj : j < 16) : (resL r vm vw)[5 + j]? = some (.int .u32 (r.regs.getD j 0)) := by
  rw [resL_tail, List.getElem?_append_left (by simp; omega), List.getElem?_map, List.getD_eq_getElem?_getD, List.getElem?_eq_getElem (by omega)]; rfl
theorem resL_regs (h : r.regs.length = 16) : ∀ j v, (r.regs.map (Value.int .u32))[j]? = some v → (resL r vm vw)[5 + j]? = some v := by
  intro j v hv
  have : j < r.regs.length := by have := (List.getElem?_eq_some_iff.1 hv).1; simpa using this
  rw [resL_tail, List.getElem?_append_left (by simp; omega), hv]
theorem resL_21 (h : r.regs.length = 16) : (resL r vm vw)[21]? = some vm := by
  rw [show 21 = 5 + 16 from rfl, resL_tail, List.getElem?_append_right (by simp [h]), show 16 - (r.regs.map (Value.int .u32)).length = 0 by simp [h]]; rfl
theorem resL_22 (h : r.regs.length = 16) : (resL r vm vw)[22]? = some vw := by
  rw [show 22 = 5 + 17 from rfl, resL_tail, List.getElem?_append_right (by simp [h]), show 17 - (r.regs.map (Value.int .u32)).length = 1 by simp [h]]; rfl
theorem resL_set0 (x : Int) : (resL r vm vw).set 0 (.int .i64 x) = resL { r with e := x } vm vw := rfl
theorem resL_set4 (x : Int) : (resL r vm vw).set 4 (.int .i64 x) = resL { r with st := x } vm vw := rfl
theorem resL_trap (a b c : Int) : splice (resL r vm vw) 1 [.int .i64 a, .int .i64 b, .int .i64 c] = resL { r with tk := a, ts := b, tp := c } vm vw := by simp [splice, resL]
theorem resL_set_tail (j : Nat) (v : Value) : (resL r vm vw).set (5 + j) v = [.int .i64 r.e, .int .i64 r.tk, .int .i64 r.ts, .int .i64 r.tp, .int .i64 r.st] ++ (r.regs.map (Value.int .u32) ++ [vm, vw]).set j v := by
  unfold resL
  rw [List.set_append_right _ _ (by simp)]
  simp
theorem resL_set21 (h : r.regs.length = 16) (v : Value) : (resL r vm vw).set 21 v = resL r v vw := by
  rw [show 21 = 5 + 16 from rfl, resL_set_tail, List.set_append_right _ _ (by simp [h])]
  simp [h, resL]
theorem resL_set22 (h : r.regs.length = 16) (v : Value) : (resL r vm vw).set 22 v = resL r vm v := by
  rw [show 22 = 5 + 17 from rfl, resL_set_tail, List.set_append_right _ _ (by simp [h])]
  simp [h, resL]
theorem resL_setreg (h : r.regs.length = 16) (j : Nat) (hj : j < 16) (x : Int) : (resL r vm vw).set (5 + j) (.int .u32 x) = resL { r with regs := r.regs.set j x } vm vw := by
  rw [resL_set_tail, List.set_append_left _ _ (by simp; omega)]
  simp [resL, List.map_set]
theorem resL_one (h1 : vm.oneCell' = true) (h2 : vw.oneCell' = true) : ∀ u ∈ resL r vm vw, u.oneCell' = true := by
  intro u hu
  unfold resL at hu
  simp only [List.mem_append, List.mem_cons, List.mem_map, List.not_mem_nil, or_false] at hu
  rcases hu with (rfl | rfl | rfl | rfl | rfl) | ⟨x, _, rfl⟩ | rfl | rfl
  · rfl
  · rfl
  · rfl
  · rfl
  · rfl
  · rfl
  · exact h1
  · exact h2
theorem resL_mem (m : List Int) (l : List Wr) : resL { r with mem := m, ws := l } vm vw = resL r vm vw := rfl
end
/-- The two rows of a result's value. -/
structure ResV (w : World) (B : Nat) (vm vw : Value) (r : Res) : Prop where
  mem : Row w B 1 vm r.mem.length (r.mem.map (Value.int .u8))
  ws : Row w B 3 vw r.ws.length (wsL r.ws)
  regs : r.regs.length = 16
section
variable {w w' : World} {B : Nat} {vm vw : Value} {r : Res}
theorem ResV.keep (h : ResV w B vm vw r) (hk : ∀ a : Addr, a.block < B → w'.cell? a = w.cell? a) : ResV w' B vm vw r := ⟨h.mem.keep hk, h.ws.keep hk, h.regs⟩
theorem ResV.more {B' : Nat} (h : ResV w B vm vw r) (hB : B ≤ B') : ResV w B' vm vw r := ⟨h.mem.more hB, h.ws.more hB, h.regs⟩
theorem ResV.below (h : ResV w B vm vw r) (hb : Below B w w') : ResV w' B vm vw r := ⟨h.mem.below hb, h.ws.below hb, h.regs⟩
theorem ResV.alloc (h : ResV w B vm vw r) (hB : B ≤ w.heap.size) (o : Obj) : ResV (w.alloc o) B vm vw r := ⟨h.mem.alloc hB o, h.ws.alloc hB o, h.regs⟩
end
/-- A result whose rows the call itself made. -/
structure ResOwn (w : World) (base : Nat) (vm vw : Value) (r : Res) : Prop where
  mem : w.ownsRow base 5 1 vm r.mem.length (r.mem.map (Value.int .u8))
  ws : w.ownsRow base 68 3 vw r.ws.length (wsL r.ws)
  regs : r.regs.length = 16
section
variable {w w' : World} {b0 : Nat} {vm vw : Value} {r : Res}
theorem ResOwn.grown {b : Nat} (h : ResOwn w b0 vm vw r) (hg : w.grownBy w' (some b)) (hb : b < b0) : ResOwn w' b0 vm vw r :=
  ⟨own_grown h.mem hg (fun g hg' e => by have := (h.mem.lt g hg').1; injection e with e; omega), own_grown h.ws hg (fun g hg' e => by have := (h.ws.lt g hg').1; injection e with e; omega), h.regs⟩
theorem ResOwn.setCell {b : Nat} (h : ResOwn w b0 vm vw r) (hb : b < b0) (k : Nat) (v : Value) : ResOwn (w.setCell ⟨b, k, none⟩ v) b0 vm vw r :=
  ⟨ownsRow_setCell_below h.mem (a := ⟨b, k, none⟩) hb v, ownsRow_setCell_below h.ws (a := ⟨b, k, none⟩) hb v, h.regs⟩
theorem ResOwn.rows (h : ResOwn w b0 vm vw r) : ResV w w.heap.size vm vw r := ⟨Row.of_own h.mem, Row.of_own h.ws, h.regs⟩
theorem ResOwn.base {b1 : Nat} (h : ResOwn w b0 vm vw r) (hb : b1 ≤ b0) : ResOwn w b1 vm vw r := ⟨own_base h.mem hb, own_base h.ws hb, h.regs⟩
theorem ResOwn.below (h : ResOwn w b0 vm vw r) (hb : Below w.heap.size w w') : ResOwn w' b0 vm vw r := ⟨own_below h.mem hb, own_below h.ws hb, h.regs⟩
end
theorem info_wr : (Try.prog.info? 68).map (fun i => (i.zero, i.size, i.bytes)) = some (some (.agg #[.int .i64 0, .int .i64 0, .int .u32 0]), 3, 24) := by kernel_rfl
end Go.Proofs.Ythhoigkmmlkfcaa.Words

/- The core's state (api.State) as plain data: its ninety-two cells, what each reads as and what a write of one leaves; its nine rows. Nothing here speaks of one program text but the types' numbers. -/
namespace Go.Proofs.Ythhoigkmmlkfcaa.Words
set_option maxRecDepth 100000
open Go.RowKit
set_option linter.unusedVariables false
set_option linter.unusedSimpArgs false

/-- A side of the core. -/
structure Sid where
  regs : List Int
  ready : List Int
  blk : Int
  idx : Int
  base : Int
  wait : Int
  halted : Bool
  done : Int
deriving DecidableEq
structure Slt where
  tag : Int
  full : Bool
  val : Int
deriving DecidableEq
structure Ent where
  addr : Int
  size : Int
  step : Int
  known : Bool
  val : Int
deriving DecidableEq
structure Rqs where
  store : Bool
  op : Int
  addr : Int
  size : Int
  val : Int
  left : Int
  reg : Int
  tag : Int
deriving DecidableEq
structure Sta where
  cycle : Int
  a : Sid
  e : Sid
  ldq : List Slt
  sdq : List Int
  aeq : List Int
  abq : List Bool
  ebq : List Bool
  saq : List Ent
  table : List Rqs
  mem : List Int
  ws : List Wr
  tk : Int
  ts : Int
  tp : Int
  lats : Int
  picks : Int
  tags : Int
deriving DecidableEq
def sltL (x : Slt) : List Value := [.int .i64 x.tag, .bool x.full, .int .u32 x.val]
def entL (x : Ent) : List Value := [.int .i64 x.addr, .int .i64 x.size, .int .i64 x.step, .bool x.known, .int .u32 x.val]
def rqsL (x : Rqs) : List Value := [.bool x.store, .int .i64 x.op, .int .i64 x.addr, .int .i64 x.size, .int .u32 x.val, .int .i64 x.left, .int .i64 x.reg, .int .i64 x.tag]
def boolsL (l : List Bool) : List Value := l.map Value.bool
def bytesL (l : List Int) : List Value := l.map (Value.int .u8)
def sidL (s : Sid) : List Value := s.regs.map (Value.int .u32) ++ (s.ready.map (Value.int .i64) ++ [.int .i64 s.blk, .int .i64 s.idx, .int .i64 s.base, .int .i64 s.wait, .bool s.halted, .int .i64 s.done])
/-- Where its nine rows lie. -/
structure Vs where
  ldq : Value
  sdq : Value
  aeq : Value
  abq : Value
  ebq : Value
  saq : Value
  table : Value
  mem : Value
  ws : Value
def vsL (v : Vs) : List Value := [v.ldq, v.sdq, v.aeq, v.abq, v.ebq, v.saq, v.table, v.mem, v.ws]
def endL (x : Sta) : List Value := [.int .i64 x.tk, .int .i64 x.ts, .int .i64 x.tp, .int .i64 x.lats, .int .i64 x.picks, .int .i64 x.tags]
def staL (x : Sta) (v : Vs) : List Value := .int .i64 x.cycle :: (sidL x.a ++ (sidL x.e ++ (vsL v ++ endL x)))
structure Sid.Ok (s : Sid) : Prop where
  regs : s.regs.length = 16
  ready : s.ready.length = 16
structure Sta.Ok (x : Sta) : Prop where
  a : x.a.Ok
  e : x.e.Ok
theorem sltL_len (x : Slt) : (sltL x).length = 3 := rfl
theorem entL_len (x : Ent) : (entL x).length = 5 := rfl
theorem rqsL_len (x : Rqs) : (rqsL x).length = 8 := rfl
theorem sltL_one (x : Slt) : ∀ u ∈ sltL x, u.oneCell' = true := by
  intro u hu; simp only [sltL, List.mem_cons, List.not_mem_nil, or_false] at hu; rcases hu with rfl | rfl | rfl <;> rfl
theorem entL_one (x : Ent) : ∀ u ∈ entL x, u.oneCell' = true := by
  intro u hu; simp only [entL, List.mem_cons, List.not_mem_nil, or_false] at hu; rcases hu with rfl | rfl | rfl | rfl | rfl <;> rfl
theorem rqsL_one (x : Rqs) : ∀ u ∈ rqsL x, u.oneCell' = true := by
  intro u hu; simp only [rqsL, List.mem_cons, List.not_mem_nil, or_false] at hu; rcases hu with rfl | rfl | rfl | rfl | rfl | rfl | rfl | rfl <;> rfl
theorem flat_oneC {α : Type} {f : α → List Value} (h : ∀ x, ∀ u ∈ f x, u.oneCell' = true) (l : List α) : ∀ u ∈ flat f l, u.oneCell' = true := by
  intro u hu
  unfold flat at hu
  rw [List.mem_flatMap] at hu
  obtain ⟨x, _, hx⟩ := hu
  exact h x u hx
theorem boolsL_one (l : List Bool) : ∀ u ∈ boolsL l, u.oneCell' = true := by
  intro u hu; obtain ⟨x, _, rfl⟩ := List.mem_map.1 hu; rfl
theorem bytesL_one (l : List Int) : ∀ u ∈ bytesL l, u.oneCell' = true := by
  intro u hu; obtain ⟨x, _, rfl⟩ := List.mem_map.1 hu; rfl
section
variable {s : Sid}
theorem sidL_len (h : s.Ok) : (sidL s).length = 38 := by simp [sidL, h.regs, h.ready]
theorem sidL_reg (h : s.Ok) {j : Nat} (hj : j < 16) : (sidL s)[j]? = some (.int .u32 (s.regs.getD j 0)) := by
  unfold sidL
  rw [List.getElem?_append_left (by simp [h.regs]; omega), List.getElem?_map, List.getD_eq_getElem?_getD, List.getElem?_eq_getElem (by rw [h.regs]; omega)]; rfl
theorem sidL_ready (h : s.Ok) {j : Nat} (hj : j < 16) : (sidL s)[16 + j]? = some (.int .i64 (s.ready.getD j 0)) := by
  unfold sidL
  rw [List.getElem?_append_right (by simp [h.regs]), show 16 + j - (s.regs.map (Value.int .u32)).length = j by simp [h.regs], List.getElem?_append_left (by simp [h.ready]; omega), List.getElem?_map, List.getD_eq_getElem?_getD, List.getElem?_eq_getElem (by rw [h.ready]; omega)]; rfl
theorem sidL_end (h : s.Ok) (j : Nat) : (sidL s)[32 + j]? = [.int .i64 s.blk, .int .i64 s.idx, .int .i64 s.base, .int .i64 s.wait, .bool s.halted, .int .i64 s.done][j]? := by
  unfold sidL
  rw [List.getElem?_append_right (by simp [h.regs]; omega), List.getElem?_append_right (by simp [h.regs, h.ready]; omega)]
  congr 1; simp [h.regs, h.ready]; omega
theorem sidL_setreg (h : s.Ok) {j : Nat} (hj : j < 16) (x : Int) : (sidL s).set j (.int .u32 x) = sidL { s with regs := s.regs.set j x } := by
  unfold sidL
  rw [List.set_append_left _ _ (by simp [h.regs]; omega)]; simp [List.map_set]
theorem sidL_setready (h : s.Ok) {j : Nat} (hj : j < 16) (x : Int) : (sidL s).set (16 + j) (.int .i64 x) = sidL { s with ready := s.ready.set j x } := by
  unfold sidL
  rw [List.set_append_right _ _ (by simp [h.regs]), show 16 + j - (s.regs.map (Value.int .u32)).length = j by simp [h.regs], List.set_append_left _ _ (by simp [h.ready]; omega)]; simp [List.map_set]
theorem sidL_setend (h : s.Ok) (j : Nat) (u : Value) : (sidL s).set (32 + j) u = s.regs.map (Value.int .u32) ++ (s.ready.map (Value.int .i64) ++ [.int .i64 s.blk, .int .i64 s.idx, .int .i64 s.base, .int .i64 s.wait, .bool s.halted, .int .i64 s.done].set j u) := by
  unfold sidL
  rw [List.set_append_right _ _ (by simp [h.regs]; omega), List.set_append_right _ _ (by simp [h.regs, h.ready]; omega)]
  rw [show 32 + j - (s.regs.map (Value.int .u32)).length - (s.ready.map (Value.int .i64)).length = j by simp [h.regs, h.ready]; omega]
theorem sidL_one (s : Sid) : ∀ u ∈ sidL s, u.oneCell' = true := by
  intro u hu
  unfold sidL at hu
  simp only [List.mem_append, List.mem_map, List.mem_cons, List.not_mem_nil, or_false] at hu
  rcases hu with ⟨x, _, rfl⟩ | ⟨x, _, rfl⟩ | rfl | rfl | rfl | rfl | rfl | rfl <;> rfl
theorem Sid.Ok.setreg (h : s.Ok) (j : Nat) (x : Int) : ({ s with regs := s.regs.set j x } : Sid).Ok := ⟨by simp [h.regs], h.ready⟩
theorem Sid.Ok.setready (h : s.Ok) (j : Nat) (x : Int) : ({ s with ready := s.ready.set j x } : Sid).Ok := ⟨h.regs, by simp [h.ready]⟩
end
section
variable {x : Sta} {v : Vs}
theorem staL_len (h : x.Ok) : (staL x v).length = 92 := by simp [staL, sidL_len h.a, sidL_len h.e, vsL, endL]
theorem staL_a (h : x.Ok) {j : Nat} {u : Value} (hj : (sidL x.a)[j]? = some u) : (staL x v)[1 + j]? = some u := by
  unfold staL
  rw [Nat.add_comm 1 j, List.getElem?_cons_succ, List.getElem?_append_left ((List.getElem?_eq_some_iff.1 hj).1)]; exact hj
theorem staL_e (h : x.Ok) {j : Nat} {u : Value} (hj : (sidL x.e)[j]? = some u) : (staL x v)[39 + j]? = some u := by
  unfold staL
  rw [show 39 + j = (38 + j) + 1 by omega, List.getElem?_cons_succ, List.getElem?_append_right (by rw [sidL_len h.a]; omega), show 38 + j - (sidL x.a).length = j by rw [sidL_len h.a]; omega, List.getElem?_append_left ((List.getElem?_eq_some_iff.1 hj).1)]; exact hj
theorem staL_v (h : x.Ok) (j : Nat) (hj : j < 9) : (staL x v)[77 + j]? = (vsL v)[j]? := by
  unfold staL
  rw [show 77 + j = (76 + j) + 1 by omega, List.getElem?_cons_succ, List.getElem?_append_right (by rw [sidL_len h.a]; omega), List.getElem?_append_right (by rw [sidL_len h.a, sidL_len h.e]; omega), show 76 + j - (sidL x.a).length - (sidL x.e).length = j by rw [sidL_len h.a, sidL_len h.e]; omega, List.getElem?_append_left (by simp [vsL]; omega)]
theorem staL_end (h : x.Ok) (j : Nat) : (staL x v)[86 + j]? = (endL x)[j]? := by
  unfold staL
  rw [show 86 + j = (85 + j) + 1 by omega, List.getElem?_cons_succ, List.getElem?_append_right (by rw [sidL_len h.a]; omega), List.getElem?_append_right (by rw [sidL_len h.a, sidL_len h.e]; omega), List.getElem?_append_right (by rw [sidL_len h.a, sidL_len h.e]; simp [vsL]; omega)]
  congr 1
  rw [sidL_len h.a, sidL_len h.e]; simp [vsL]; omega
theorem staL_seta (h : x.Ok) {j : Nat} (hj : j < 38) (u : Value) : (staL x v).set (1 + j) u = .int .i64 x.cycle :: ((sidL x.a).set j u ++ (sidL x.e ++ (vsL v ++ endL x))) := by
  unfold staL
  rw [Nat.add_comm 1 j, List.set_cons_succ, List.set_append_left _ _ (by rw [sidL_len h.a]; omega)]
theorem staL_sete (h : x.Ok) {j : Nat} (hj : j < 38) (u : Value) : (staL x v).set (39 + j) u = .int .i64 x.cycle :: (sidL x.a ++ ((sidL x.e).set j u ++ (vsL v ++ endL x))) := by
  unfold staL
  rw [show 39 + j = (38 + j) + 1 by omega, List.set_cons_succ, List.set_append_right _ _ (by rw [sidL_len h.a]; omega), show 38 + j - (sidL x.a).length = j by rw [sidL_len h.a]; omega, List.set_append_left _ _ (by rw [sidL_len h.e]; omega)]
theorem staL_setv (h : x.Ok) {j : Nat} (hj : j < 9) (u : Value) : (staL x v).set (77 + j) u = .int .i64 x.cycle :: (sidL x.a ++ (sidL x.e ++ ((vsL v).set j u ++ endL x))) := by
  unfold staL
  rw [show 77 + j = (76 + j) + 1 by omega, List.set_cons_succ, List.set_append_right _ _ (by rw [sidL_len h.a]; omega), List.set_append_right _ _ (by rw [sidL_len h.a, sidL_len h.e]; omega), show 76 + j - (sidL x.a).length - (sidL x.e).length = j by rw [sidL_len h.a, sidL_len h.e]; omega, List.set_append_left _ _ (by simp [vsL]; omega)]
theorem staL_setend (h : x.Ok) (j : Nat) (u : Value) : (staL x v).set (86 + j) u = .int .i64 x.cycle :: (sidL x.a ++ (sidL x.e ++ (vsL v ++ (endL x).set j u))) := by
  unfold staL
  rw [show 86 + j = (85 + j) + 1 by omega, List.set_cons_succ, List.set_append_right _ _ (by rw [sidL_len h.a]; omega), List.set_append_right _ _ (by rw [sidL_len h.a, sidL_len h.e]; omega), List.set_append_right _ _ (by rw [sidL_len h.a, sidL_len h.e]; simp [vsL]; omega)]
  rw [show 85 + j - (sidL x.a).length - (sidL x.e).length - (vsL v).length = j by rw [sidL_len h.a, sidL_len h.e]; simp [vsL]; omega]
theorem sta_cycle : (staL x v)[0]? = some (.int .i64 x.cycle) := rfl
theorem set_cycle (n : Int) : (staL x v).set 0 (.int .i64 n) = staL { x with cycle := n } v := rfl
theorem sta_areg (h : x.Ok) {j : Nat} (hj : j < 16) : (staL x v)[1 + j]? = some (.int .u32 (x.a.regs.getD j 0)) := staL_a h (sidL_reg h.a hj)
theorem sta_aready (h : x.Ok) {j : Nat} (hj : j < 16) : (staL x v)[17 + j]? = some (.int .i64 (x.a.ready.getD j 0)) := by have := staL_a (v := v) h (sidL_ready h.a hj); rwa [← Nat.add_assoc] at this
theorem set_areg (h : x.Ok) {j : Nat} (hj : j < 16) (n : Int) : (staL x v).set (1 + j) (.int .u32 n) = staL { x with a := { x.a with regs := x.a.regs.set j n } } v := by rw [staL_seta h (by omega), sidL_setreg h.a hj]; rfl
theorem set_aready (h : x.Ok) {j : Nat} (hj : j < 16) (n : Int) : (staL x v).set (17 + j) (.int .i64 n) = staL { x with a := { x.a with ready := x.a.ready.set j n } } v := by rw [show 17 + j = 1 + (16 + j) by omega, staL_seta h (by omega), sidL_setready h.a hj]; rfl
theorem sta_ablk (h : x.Ok) : (staL x v)[33]? = some (.int .i64 x.a.blk) := staL_a (j := 32) h (sidL_end h.a 0)
theorem set_ablk (h : x.Ok) (n : Int) : (staL x v).set 33 (.int .i64 n) = staL { x with a := { x.a with blk := n } } v := by rw [show 33 = 1 + (32 + 0) from rfl, staL_seta h (by omega), sidL_setend h.a]; rfl
theorem sta_aidx (h : x.Ok) : (staL x v)[34]? = some (.int .i64 x.a.idx) := staL_a (j := 33) h (sidL_end h.a 1)
theorem set_aidx (h : x.Ok) (n : Int) : (staL x v).set 34 (.int .i64 n) = staL { x with a := { x.a with idx := n } } v := by rw [show 34 = 1 + (32 + 1) from rfl, staL_seta h (by omega), sidL_setend h.a]; rfl
theorem sta_abase (h : x.Ok) : (staL x v)[35]? = some (.int .i64 x.a.base) := staL_a (j := 34) h (sidL_end h.a 2)
theorem set_abase (h : x.Ok) (n : Int) : (staL x v).set 35 (.int .i64 n) = staL { x with a := { x.a with base := n } } v := by rw [show 35 = 1 + (32 + 2) from rfl, staL_seta h (by omega), sidL_setend h.a]; rfl
theorem sta_await (h : x.Ok) : (staL x v)[36]? = some (.int .i64 x.a.wait) := staL_a (j := 35) h (sidL_end h.a 3)
theorem set_await (h : x.Ok) (n : Int) : (staL x v).set 36 (.int .i64 n) = staL { x with a := { x.a with wait := n } } v := by rw [show 36 = 1 + (32 + 3) from rfl, staL_seta h (by omega), sidL_setend h.a]; rfl
theorem sta_ahalted (h : x.Ok) : (staL x v)[37]? = some (.bool x.a.halted) := staL_a (j := 36) h (sidL_end h.a 4)
theorem set_ahalted (h : x.Ok) (n : Bool) : (staL x v).set 37 (.bool n) = staL { x with a := { x.a with halted := n } } v := by rw [show 37 = 1 + (32 + 4) from rfl, staL_seta h (by omega), sidL_setend h.a]; rfl
theorem sta_adone (h : x.Ok) : (staL x v)[38]? = some (.int .i64 x.a.done) := staL_a (j := 37) h (sidL_end h.a 5)
theorem set_adone (h : x.Ok) (n : Int) : (staL x v).set 38 (.int .i64 n) = staL { x with a := { x.a with done := n } } v := by rw [show 38 = 1 + (32 + 5) from rfl, staL_seta h (by omega), sidL_setend h.a]; rfl
theorem sta_ereg (h : x.Ok) {j : Nat} (hj : j < 16) : (staL x v)[39 + j]? = some (.int .u32 (x.e.regs.getD j 0)) := staL_e h (sidL_reg h.e hj)
theorem sta_eready (h : x.Ok) {j : Nat} (hj : j < 16) : (staL x v)[55 + j]? = some (.int .i64 (x.e.ready.getD j 0)) := by have := staL_e (v := v) h (sidL_ready h.e hj); rwa [← Nat.add_assoc] at this
theorem set_ereg (h : x.Ok) {j : Nat} (hj : j < 16) (n : Int) : (staL x v).set (39 + j) (.int .u32 n) = staL { x with e := { x.e with regs := x.e.regs.set j n } } v := by rw [staL_sete h (by omega), sidL_setreg h.e hj]; rfl
theorem set_eready (h : x.Ok) {j : Nat} (hj : j < 16) (n : Int) : (staL x v).set (55 + j) (.int .i64 n) = staL { x with e := { x.e with ready := x.e.ready.set j n } } v := by rw [show 55 + j = 39 + (16 + j) by omega, staL_sete h (by omega), sidL_setready h.e hj]; rfl
theorem sta_eblk (h : x.Ok) : (staL x v)[71]? = some (.int .i64 x.e.blk) := staL_e (j := 32) h (sidL_end h.e 0)
theorem set_eblk (h : x.Ok) (n : Int) : (staL x v).set 71 (.int .i64 n) = staL { x with e := { x.e with blk := n } } v := by rw [show 71 = 39 + (32 + 0) from rfl, staL_sete h (by omega), sidL_setend h.e]; rfl
theorem sta_eidx (h : x.Ok) : (staL x v)[72]? = some (.int .i64 x.e.idx) := staL_e (j := 33) h (sidL_end h.e 1)
theorem set_eidx (h : x.Ok) (n : Int) : (staL x v).set 72 (.int .i64 n) = staL { x with e := { x.e with idx := n } } v := by rw [show 72 = 39 + (32 + 1) from rfl, staL_sete h (by omega), sidL_setend h.e]; rfl
theorem sta_ebase (h : x.Ok) : (staL x v)[73]? = some (.int .i64 x.e.base) := staL_e (j := 34) h (sidL_end h.e 2)
theorem set_ebase (h : x.Ok) (n : Int) : (staL x v).set 73 (.int .i64 n) = staL { x with e := { x.e with base := n } } v := by rw [show 73 = 39 + (32 + 2) from rfl, staL_sete h (by omega), sidL_setend h.e]; rfl
theorem sta_ewait (h : x.Ok) : (staL x v)[74]? = some (.int .i64 x.e.wait) := staL_e (j := 35) h (sidL_end h.e 3)
theorem set_ewait (h : x.Ok) (n : Int) : (staL x v).set 74 (.int .i64 n) = staL { x with e := { x.e with wait := n } } v := by rw [show 74 = 39 + (32 + 3) from rfl, staL_sete h (by omega), sidL_setend h.e]; rfl
theorem sta_ehalted (h : x.Ok) : (staL x v)[75]? = some (.bool x.e.halted) := staL_e (j := 36) h (sidL_end h.e 4)
theorem set_ehalted (h : x.Ok) (n : Bool) : (staL x v).set 75 (.bool n) = staL { x with e := { x.e with halted := n } } v := by rw [show 75 = 39 + (32 + 4) from rfl, staL_sete h (by omega), sidL_setend h.e]; rfl
theorem sta_edone (h : x.Ok) : (staL x v)[76]? = some (.int .i64 x.e.done) := staL_e (j := 37) h (sidL_end h.e 5)
theorem set_edone (h : x.Ok) (n : Int) : (staL x v).set 76 (.int .i64 n) = staL { x with e := { x.e with done := n } } v := by rw [show 76 = 39 + (32 + 5) from rfl, staL_sete h (by omega), sidL_setend h.e]; rfl
theorem sta_ldq (h : x.Ok) : (staL x v)[77]? = some v.ldq := staL_v h 0 (by omega)
theorem set_ldq (h : x.Ok) (u : Value) : (staL x v).set 77 u = staL x { v with ldq := u } := by rw [show 77 = 77 + 0 from rfl, staL_setv h (by omega)]; rfl
theorem sta_sdq (h : x.Ok) : (staL x v)[78]? = some v.sdq := staL_v h 1 (by omega)
theorem set_sdq (h : x.Ok) (u : Value) : (staL x v).set 78 u = staL x { v with sdq := u } := by rw [show 78 = 77 + 1 from rfl, staL_setv h (by omega)]; rfl
theorem sta_aeq (h : x.Ok) : (staL x v)[79]? = some v.aeq := staL_v h 2 (by omega)
theorem set_aeq (h : x.Ok) (u : Value) : (staL x v).set 79 u = staL x { v with aeq := u } := by rw [show 79 = 77 + 2 from rfl, staL_setv h (by omega)]; rfl
theorem sta_abq (h : x.Ok) : (staL x v)[80]? = some v.abq := staL_v h 3 (by omega)
theorem set_abq (h : x.Ok) (u : Value) : (staL x v).set 80 u = staL x { v with abq := u } := by rw [show 80 = 77 + 3 from rfl, staL_setv h (by omega)]; rfl
theorem sta_ebq (h : x.Ok) : (staL x v)[81]? = some v.ebq := staL_v h 4 (by omega)
theorem set_ebq (h : x.Ok) (u : Value) : (staL x v).set 81 u = staL x { v with ebq := u } := by rw [show 81 = 77 + 4 from rfl, staL_setv h (by omega)]; rfl
theorem sta_saq (h : x.Ok) : (staL x v)[82]? = some v.saq := staL_v h 5 (by omega)
theorem set_saq (h : x.Ok) (u : Value) : (staL x v).set 82 u = staL x { v with saq := u } := by rw [show 82 = 77 + 5 from rfl, staL_setv h (by omega)]; rfl
theorem sta_table (h : x.Ok) : (staL x v)[83]? = some v.table := staL_v h 6 (by omega)
theorem set_table (h : x.Ok) (u : Value) : (staL x v).set 83 u = staL x { v with table := u } := by rw [show 83 = 77 + 6 from rfl, staL_setv h (by omega)]; rfl
theorem sta_mem (h : x.Ok) : (staL x v)[84]? = some v.mem := staL_v h 7 (by omega)
theorem set_mem (h : x.Ok) (u : Value) : (staL x v).set 84 u = staL x { v with mem := u } := by rw [show 84 = 77 + 7 from rfl, staL_setv h (by omega)]; rfl
theorem sta_ws (h : x.Ok) : (staL x v)[85]? = some v.ws := staL_v h 8 (by omega)
theorem set_ws (h : x.Ok) (u : Value) : (staL x v).set 85 u = staL x { v with ws := u } := by rw [show 85 = 77 + 8 from rfl, staL_setv h (by omega)]; rfl
theorem sta_tk (h : x.Ok) : (staL x v)[86]? = some (.int .i64 x.tk) := staL_end h 0
theorem set_tk (h : x.Ok) (n : Int) : (staL x v).set 86 (.int .i64 n) = staL { x with tk := n } v := by rw [show 86 = 86 + 0 from rfl, staL_setend h]; rfl
theorem sta_ts (h : x.Ok) : (staL x v)[87]? = some (.int .i64 x.ts) := staL_end h 1
theorem set_ts (h : x.Ok) (n : Int) : (staL x v).set 87 (.int .i64 n) = staL { x with ts := n } v := by rw [show 87 = 86 + 1 from rfl, staL_setend h]; rfl
theorem sta_tp (h : x.Ok) : (staL x v)[88]? = some (.int .i64 x.tp) := staL_end h 2
theorem set_tp (h : x.Ok) (n : Int) : (staL x v).set 88 (.int .i64 n) = staL { x with tp := n } v := by rw [show 88 = 86 + 2 from rfl, staL_setend h]; rfl
theorem sta_lats (h : x.Ok) : (staL x v)[89]? = some (.int .i64 x.lats) := staL_end h 3
theorem set_lats (h : x.Ok) (n : Int) : (staL x v).set 89 (.int .i64 n) = staL { x with lats := n } v := by rw [show 89 = 86 + 3 from rfl, staL_setend h]; rfl
theorem sta_picks (h : x.Ok) : (staL x v)[90]? = some (.int .i64 x.picks) := staL_end h 4
theorem set_picks (h : x.Ok) (n : Int) : (staL x v).set 90 (.int .i64 n) = staL { x with picks := n } v := by rw [show 90 = 86 + 4 from rfl, staL_setend h]; rfl
theorem sta_tags (h : x.Ok) : (staL x v)[91]? = some (.int .i64 x.tags) := staL_end h 5
theorem set_tags (h : x.Ok) (n : Int) : (staL x v).set 91 (.int .i64 n) = staL { x with tags := n } v := by rw [show 91 = 86 + 5 from rfl, staL_setend h]; rfl
theorem staL_one (hv : ∀ u ∈ vsL v, u.oneCell' = true) : ∀ u ∈ staL x v, u.oneCell' = true := by
  intro u hu
  unfold staL at hu
  simp only [List.mem_cons, List.mem_append] at hu
  rcases hu with rfl | hu | hu | hu | hu
  · rfl
  · exact sidL_one _ u hu
  · exact sidL_one _ u hu
  · exact hv u hu
  · simp only [endL, List.mem_cons, List.not_mem_nil, or_false] at hu
    rcases hu with rfl | rfl | rfl | rfl | rfl | rfl <;> rfl
end
/-- What its nine rows read as. -/
structure StaV (w : World) (B : Nat) (v : Vs) (x : Sta) : Prop where
  ldq : Row w B 3 v.ldq x.ldq.length (flat sltL x.ldq)
  sdq : Row w B 1 v.sdq x.sdq.length (w32 x.sdq)
  aeq : Row w B 1 v.aeq x.aeq.length (w32 x.aeq)
  abq : Row w B 1 v.abq x.abq.length (boolsL x.abq)
  ebq : Row w B 1 v.ebq x.ebq.length (boolsL x.ebq)
  saq : Row w B 5 v.saq x.saq.length (flat entL x.saq)
  table : Row w B 8 v.table x.table.length (flat rqsL x.table)
  mem : Row w B 1 v.mem x.mem.length (bytesL x.mem)
  ws : Row w B 3 v.ws x.ws.length (wsL x.ws)
section
variable {w w' : World} {B : Nat} {v : Vs} {x : Sta}
theorem StaV.keep (h : StaV w B v x) (hk : ∀ a : Addr, a.block < B → w'.cell? a = w.cell? a) : StaV w' B v x := ⟨h.ldq.keep hk, h.sdq.keep hk, h.aeq.keep hk, h.abq.keep hk, h.ebq.keep hk, h.saq.keep hk, h.table.keep hk, h.mem.keep hk, h.ws.keep hk⟩
theorem StaV.more {B' : Nat} (h : StaV w B v x) (hB : B ≤ B') : StaV w B' v x := ⟨h.ldq.more hB, h.sdq.more hB, h.aeq.more hB, h.abq.more hB, h.ebq.more hB, h.saq.more hB, h.table.more hB, h.mem.more hB, h.ws.more hB⟩
theorem StaV.below (h : StaV w B v x) (hb : Below B w w') : StaV w' B v x := ⟨h.ldq.below hb, h.sdq.below hb, h.aeq.below hb, h.abq.below hb, h.ebq.below hb, h.saq.below hb, h.table.below hb, h.mem.below hb, h.ws.below hb⟩
theorem StaV.kept (h : StaV w w.heap.size v x) (hb : Below w.heap.size w w') : StaV w' w'.heap.size v x := (h.below hb).more hb.size
end
/-- Its nine rows are of the call's own, no two of them one. -/
structure StaOwn (w : World) (base : Nat) (v : Vs) (x : Sta) : Prop where
  ldq : w.ownsRow base 58 3 v.ldq x.ldq.length (flat sltL x.ldq)
  sdq : w.ownsRow base 27 1 v.sdq x.sdq.length (w32 x.sdq)
  aeq : w.ownsRow base 27 1 v.aeq x.aeq.length (w32 x.aeq)
  abq : w.ownsRow base 4 1 v.abq x.abq.length (boolsL x.abq)
  ebq : w.ownsRow base 4 1 v.ebq x.ebq.length (boolsL x.ebq)
  saq : w.ownsRow base 66 5 v.saq x.saq.length (flat entL x.saq)
  table : w.ownsRow base 54 8 v.table x.table.length (flat rqsL x.table)
  mem : w.ownsRow base 5 1 v.mem x.mem.length (bytesL x.mem)
  ws : w.ownsRow base 68 3 v.ws x.ws.length (wsL x.ws)
  words : v.sdq.ownBlock = none ∨ v.sdq.ownBlock ≠ v.aeq.ownBlock
  bools : v.abq.ownBlock = none ∨ v.abq.ownBlock ≠ v.ebq.ownBlock
section
variable {w w' : World} {base : Nat} {v : Vs} {x : Sta}
theorem StaOwn.read (h : StaOwn w base v x) : StaV w w.heap.size v x := ⟨Row.of_own h.ldq, Row.of_own h.sdq, Row.of_own h.aeq, Row.of_own h.abq, Row.of_own h.ebq, Row.of_own h.saq, Row.of_own h.table, Row.of_own h.mem, Row.of_own h.ws⟩
theorem StaOwn.below (h : StaOwn w base v x) (hb : Below w.heap.size w w') : StaOwn w' base v x := ⟨own_below h.ldq hb, own_below h.sdq hb, own_below h.aeq hb, own_below h.abq hb, own_below h.ebq hb, own_below h.saq hb, own_below h.table hb, own_below h.mem hb, own_below h.ws hb, h.words, h.bools⟩
theorem StaOwn.less {base' : Nat} (h : StaOwn w base v x) (hb : base' ≤ base) : StaOwn w base' v x := ⟨own_less h.ldq hb, own_less h.sdq hb, own_less h.aeq hb, own_less h.abq hb, own_less h.ebq hb, own_less h.saq hb, own_less h.table hb, own_less h.mem hb, own_less h.ws hb, h.words, h.bools⟩
theorem StaOwn.keepS {S : Nat → Prop} (h : StaOwn w base v x) (hk : KeepS S w w') (hs : ∀ j, S j → j < base) : StaOwn w' base v x := ⟨own_keepS h.ldq hk (fun g hg e => by have := (h.ldq.lt g hg).1; have := hs _ e; omega), own_keepS h.sdq hk (fun g hg e => by have := (h.sdq.lt g hg).1; have := hs _ e; omega), own_keepS h.aeq hk (fun g hg e => by have := (h.aeq.lt g hg).1; have := hs _ e; omega), own_keepS h.abq hk (fun g hg e => by have := (h.abq.lt g hg).1; have := hs _ e; omega), own_keepS h.ebq hk (fun g hg e => by have := (h.ebq.lt g hg).1; have := hs _ e; omega), own_keepS h.saq hk (fun g hg e => by have := (h.saq.lt g hg).1; have := hs _ e; omega), own_keepS h.table hk (fun g hg e => by have := (h.table.lt g hg).1; have := hs _ e; omega), own_keepS h.mem hk (fun g hg e => by have := (h.mem.lt g hg).1; have := hs _ e; omega), own_keepS h.ws hk (fun g hg e => by have := (h.ws.lt g hg).1; have := hs _ e; omega), h.words, h.bools⟩
theorem own_oneC {w : World} {base : Nat} {e : TypeId} {s n : Nat} {u : Value} {xs : List Value} (h : w.ownsRow base e s u n xs) : u.oneCell' = true := by
  rcases h.2 with ⟨rfl, _⟩ | ⟨g, cap, cur, rfl, _⟩ <;> rfl
theorem StaOwn.one (h : StaOwn w base v x) : ∀ u ∈ staL x v, u.oneCell' = true := staL_one (by
  intro u hu
  simp only [vsL, List.mem_cons, List.not_mem_nil, or_false] at hu
  rcases hu with rfl | rfl | rfl | rfl | rfl | rfl | rfl | rfl | rfl
  · exact own_oneC h.ldq
  · exact own_oneC h.sdq
  · exact own_oneC h.aeq
  · exact own_oneC h.abq
  · exact own_oneC h.ebq
  · exact own_oneC h.saq
  · exact own_oneC h.table
  · exact own_oneC h.mem
  · exact own_oneC h.ws)
end
end Go.Proofs.Ythhoigkmmlkfcaa.Words

/- Plain mathematics of chapter 2: forms of operations, which instructions may be, the word of an instruction and the instruction of a word. Nothing here speaks of one program. -/
namespace Go.Proofs.Ythhoigkmmlkfcaa.Words
set_option maxRecDepth 100000
open Go.RowKit

/-- An instruction's five numbers. -/
structure Ins where
  op : Int
  d : Int
  a : Int
  b : Int
  imm : Int
deriving DecidableEq

theorem Ins.eq_iff (i k : Ins) : i = k ↔ i.op = k.op ∧ i.d = k.d ∧ i.a = k.a ∧ i.b = k.b ∧ i.imm = k.imm := by
  cases i; cases k; simp
/-- Its numbers are of Go's int. -/
def Ins.Fits (i : Ins) : Prop :=
  (-9223372036854775808 ≤ i.op ∧ i.op ≤ 9223372036854775807) ∧ (-9223372036854775808 ≤ i.d ∧ i.d ≤ 9223372036854775807) ∧ (-9223372036854775808 ≤ i.a ∧ i.a ≤ 9223372036854775807) ∧
  (-9223372036854775808 ≤ i.b ∧ i.b ≤ 9223372036854775807) ∧ (-9223372036854775808 ≤ i.imm ∧ i.imm ≤ 9223372036854775807)

/-- The form of an operation. -/
def formZ (op : Int) : Int :=
  if op < 1 ∨ 41 < op then 0 else if op ≤ 16 then 1 else if op ≤ 24 then 2 else if op = 25 then 3 else if op ≤ 30 then 4 else if op ≤ 33 then 5 else if op ≤ 39 then 6 else if op = 40 then 7 else 8
theorem formZ_cases (op : Int) : (formZ op = 0 ∧ (op < 1 ∨ 41 < op)) ∨ (formZ op = 1 ∧ 1 ≤ op ∧ op ≤ 16) ∨ (formZ op = 2 ∧ 17 ≤ op ∧ op ≤ 24) ∨ (formZ op = 3 ∧ op = 25) ∨ (formZ op = 4 ∧ 26 ≤ op ∧ op ≤ 30) ∨
    (formZ op = 5 ∧ 31 ≤ op ∧ op ≤ 33) ∨ (formZ op = 6 ∧ 34 ≤ op ∧ op ≤ 39) ∨ (formZ op = 7 ∧ op = 40) ∨ (formZ op = 8 ∧ op = 41) := by
  unfold formZ; repeat' split
  all_goals omega
theorem formZ_range (op : Int) : 0 ≤ formZ op ∧ formZ op ≤ 8 := by
  have := formZ_cases op; omega

def hasD (f : Int) : Bool := decide (f = 1 ∨ f = 2 ∨ f = 3 ∨ f = 4)
def hasA (f : Int) : Bool := decide (f = 1 ∨ f = 2 ∨ f = 4 ∨ f = 5 ∨ f = 6)
def hasB (f : Int) : Bool := decide (f = 1 ∨ f = 5 ∨ f = 6)
def hasI (f : Int) : Bool := decide (f = 2 ∨ f = 3 ∨ f = 4 ∨ f = 5 ∨ f = 6 ∨ f = 7)
def lowI (op : Int) : Int := if op = 22 ∨ op = 23 ∨ op = 24 then 0 else -8192
def highI (op : Int) : Int := if op = 22 ∨ op = 23 ∨ op = 24 then 31 else 8191
theorem lowI_cases (op : Int) : (lowI op = 0 ∧ highI op = 31 ∧ 22 ≤ op ∧ op ≤ 24) ∨ (lowI op = -8192 ∧ highI op = 8191 ∧ (op < 22 ∨ 24 < op)) := by
  unfold lowI highI; split <;> omega
/-- May a field be that? -/
def fitsB (n lo hi : Int) (had : Bool) : Bool := if had = true then decide (lo ≤ n ∧ n ≤ hi) else decide (n = 0)
theorem fitsB_yes (n lo hi : Int) : fitsB n lo hi true = true ↔ lo ≤ n ∧ n ≤ hi := by unfold fitsB; simp
theorem fitsB_no (n lo hi : Int) : fitsB n lo hi false = true ↔ n = 0 := by unfold fitsB; simp

/-- May the instruction be? -/
def rightB (i : Ins) : Bool :=
  decide (formZ i.op ≠ 0) && fitsB i.d 0 15 (hasD (formZ i.op)) && fitsB i.a 0 15 (hasA (formZ i.op)) && fitsB i.b 0 15 (hasB (formZ i.op)) && fitsB i.imm (lowI i.op) (highI i.op) (hasI (formZ i.op))

/-- What is right, form by form. -/
theorem rightB_iff (i : Ins) : rightB i = true ↔
    (1 ≤ i.op ∧ i.op ≤ 41) ∧
    (if 1 ≤ i.op ∧ i.op ≤ 30 then 0 ≤ i.d ∧ i.d ≤ 15 else i.d = 0) ∧
    (if (1 ≤ i.op ∧ i.op ≤ 24) ∨ (26 ≤ i.op ∧ i.op ≤ 39) then 0 ≤ i.a ∧ i.a ≤ 15 else i.a = 0) ∧
    (if (1 ≤ i.op ∧ i.op ≤ 16) ∨ (31 ≤ i.op ∧ i.op ≤ 39) then 0 ≤ i.b ∧ i.b ≤ 15 else i.b = 0) ∧
    (if 17 ≤ i.op ∧ i.op ≤ 40 then lowI i.op ≤ i.imm ∧ i.imm ≤ highI i.op else i.imm = 0) := by
  have hd : fitsB i.d 0 15 (hasD (formZ i.op)) = true ↔ (if formZ i.op = 1 ∨ formZ i.op = 2 ∨ formZ i.op = 3 ∨ formZ i.op = 4 then 0 ≤ i.d ∧ i.d ≤ 15 else i.d = 0) := by
    unfold hasD; split <;> simp [fitsB, *]
  have ha : fitsB i.a 0 15 (hasA (formZ i.op)) = true ↔ (if formZ i.op = 1 ∨ formZ i.op = 2 ∨ formZ i.op = 4 ∨ formZ i.op = 5 ∨ formZ i.op = 6 then 0 ≤ i.a ∧ i.a ≤ 15 else i.a = 0) := by
    unfold hasA; split <;> simp [fitsB, *]
  have hb : fitsB i.b 0 15 (hasB (formZ i.op)) = true ↔ (if formZ i.op = 1 ∨ formZ i.op = 5 ∨ formZ i.op = 6 then 0 ≤ i.b ∧ i.b ≤ 15 else i.b = 0) := by
    unfold hasB; split <;> simp [fitsB, *]
  have hi : fitsB i.imm (lowI i.op) (highI i.op) (hasI (formZ i.op)) = true ↔ (if formZ i.op = 2 ∨ formZ i.op = 3 ∨ formZ i.op = 4 ∨ formZ i.op = 5 ∨ formZ i.op = 6 ∨ formZ i.op = 7 then lowI i.op ≤ i.imm ∧ i.imm ≤ highI i.op else i.imm = 0) := by
    unfold hasI; split <;> simp [fitsB, *]
  have c := formZ_cases i.op
  have hd' : (formZ i.op = 1 ∨ formZ i.op = 2 ∨ formZ i.op = 3 ∨ formZ i.op = 4) ↔ (1 ≤ i.op ∧ i.op ≤ 30) := by omega
  have ha' : (formZ i.op = 1 ∨ formZ i.op = 2 ∨ formZ i.op = 4 ∨ formZ i.op = 5 ∨ formZ i.op = 6) ↔ ((1 ≤ i.op ∧ i.op ≤ 24) ∨ (26 ≤ i.op ∧ i.op ≤ 39)) := by omega
  have hb' : (formZ i.op = 1 ∨ formZ i.op = 5 ∨ formZ i.op = 6) ↔ ((1 ≤ i.op ∧ i.op ≤ 16) ∨ (31 ≤ i.op ∧ i.op ≤ 39)) := by omega
  have hi' : (formZ i.op = 2 ∨ formZ i.op = 3 ∨ formZ i.op = 4 ∨ formZ i.op = 5 ∨ formZ i.op = 6 ∨ formZ i.op = 7) ↔ (17 ≤ i.op ∧ i.op ≤ 40) := by omega
  have h0' : (formZ i.op ≠ 0) ↔ (1 ≤ i.op ∧ i.op ≤ 41) := by omega
  simp only [hd', ha', hb', hi'] at hd ha hb hi
  unfold rightB
  rw [Bool.and_eq_true, Bool.and_eq_true, Bool.and_eq_true, Bool.and_eq_true, hd, ha, hb, hi, decide_eq_true_iff, h0', and_assoc, and_assoc, and_assoc]

theorem right_range {i : Ins} (h : rightB i = true) : (1 ≤ i.op ∧ i.op ≤ 41) ∧ (0 ≤ i.d ∧ i.d ≤ 15) ∧ (0 ≤ i.a ∧ i.a ≤ 15) ∧ (0 ≤ i.b ∧ i.b ≤ 15) ∧ (-8192 ≤ i.imm ∧ i.imm ≤ 8191) := by
  rw [rightB_iff] at h
  have := lowI_cases i.op
  obtain ⟨h0, h1, h2, h3, h4⟩ := h
  refine ⟨h0, ?_, ?_, ?_, ?_⟩
  · split at h1 <;> omega
  · split at h2 <;> omega
  · split at h3 <;> omega
  · split at h4 <;> omega

/-- The word of an instruction that is right. -/
def encZ (i : Ins) : Int := i.op * 67108864 + i.d * 4194304 + i.a * 262144 + i.b * 16384 + i.imm % 16384
theorem enc_range {i : Ins} (h : rightB i = true) : 0 ≤ encZ i ∧ encZ i ≤ 4294967295 := by
  have := right_range h; unfold encZ; omega
/-- What Encode tells. -/
def encV (i : Ins) : Int := if rightB i = true then encZ i else 0
theorem encV_yes {i : Ins} (h : rightB i = true) : encV i = encZ i := by unfold encV; rw [if_pos h]
theorem encV_no {i : Ins} (h : rightB i = false) : encV i = 0 := by unfold encV; rw [if_neg (by simp [h])]
theorem encV_range (i : Ins) : 0 ≤ encV i ∧ encV i ≤ 4294967295 := by
  unfold encV; split
  · exact enc_range ‹_›
  · omega

/-- 14 bits as a number with a sign. -/
def sgn14 (n : Int) : Int := if 8192 ≤ n then n - 16384 else n
theorem sgn14_cases (n : Int) : (sgn14 n = n ∧ n ≤ 8191) ∨ (sgn14 n = n - 16384 ∧ 8192 ≤ n) := by unfold sgn14; split <;> omega
/-- A word's fields. -/
def fieldsZ (w : Int) : Ins := ⟨w / 67108864, w / 4194304 % 16, w / 262144 % 16, w / 16384 % 16, sgn14 (w % 16384)⟩
theorem enc_fields (w : Int) : encZ (fieldsZ w) = w := by
  have := sgn14_cases (w % 16384)
  unfold encZ fieldsZ
  simp only
  omega
theorem fields_enc {i : Ins} (h : rightB i = true) : fieldsZ (encZ i) = i := by
  have hr := right_range h
  have hs := sgn14_cases (encZ i % 16384)
  rw [Ins.eq_iff]
  unfold fieldsZ
  simp only
  unfold encZ at *
  omega
def noIns : Ins := ⟨0, 0, 0, 0, 0⟩
/-- What Decode tells. -/
def decB (w : Int) : Bool := rightB (fieldsZ w)
def decZ (w : Int) : Ins := if decB w = true then fieldsZ w else noIns
theorem decZ_yes {w : Int} (h : decB w = true) : decZ w = fieldsZ w := by unfold decZ; rw [if_pos h]
theorem decZ_no {w : Int} (h : decB w = false) : decZ w = noIns := by unfold decZ; rw [if_neg (by simp [h])]
theorem dec_enc {i : Ins} (h : rightB i = true) : decB (encZ i) = true ∧ decZ (encZ i) = i := by
  have e := fields_enc h
  have hb : decB (encZ i) = true := by unfold decB; rw [e]; exact h
  exact ⟨hb, by rw [decZ_yes hb, e]⟩
theorem enc_inj {i k : Ins} (hi : rightB i = true) (hk : rightB k = true) : encZ i = encZ k ↔ i = k :=
  ⟨fun h => by rw [← fields_enc hi, ← fields_enc hk, h], fun h => by rw [h]⟩

/-- The registers that an instruction reads. -/
def readsZ (i : Ins) : List Int := if rightB i = true then (if i.a = 0 then [] else [i.a]) ++ (if i.b = 0 then [] else [i.b]) else []
theorem readsZ_no {i : Ins} (h : rightB i = false) : readsZ i = [] := by unfold readsZ; rw [if_neg (by simp [h])]
theorem readsZ_yes {i : Ins} (h : rightB i = true) : readsZ i = (if i.a = 0 then [] else [i.a]) ++ (if i.b = 0 then [] else [i.b]) := by unfold readsZ; rw [if_pos h]
def writesZ (i : Ins) : Int := if rightB i = true then i.d else 0
theorem writesZ_no {i : Ins} (h : rightB i = false) : writesZ i = 0 := by unfold writesZ; rw [if_neg (by simp [h])]
theorem writesZ_yes {i : Ins} (h : rightB i = true) : writesZ i = i.d := by unfold writesZ; rw [if_pos h]

/-- Two words without a bit in common, one from bit i on, the other below it. -/
theorem or_low (i : Nat) (x y : Int) (hx0 : 0 ≤ x) (hx : x % 2 ^ i = 0) (hx1 : x < 4294967296) (hy0 : 0 ≤ y) (hy : y < 2 ^ i) (hi : i ≤ 32) : bits .or .u32 x y = x + y := by
  obtain ⟨a, rfl⟩ := Int.eq_ofNat_of_zero_le hx0
  obtain ⟨c, rfl⟩ := Int.eq_ofNat_of_zero_le hy0
  have hp : (2 : Nat) ^ i ≤ 2 ^ 32 := Nat.pow_le_pow_right (by omega) hi
  have hc : c < 2 ^ i := by exact_mod_cast hy
  have ha : a % 2 ^ i = 0 := by exact_mod_cast hx
  rw [u32_or_nat a c (by omega) (by simp at hp; omega), nat_join i a c ha hc]
  omega
theorem and_15 (x : Int) (h0 : 0 ≤ x) (h1 : x < 4294967296) : bits .and .u32 x 15 = x % 16 := by
  obtain ⟨a, rfl⟩ := Int.eq_ofNat_of_zero_le h0
  rw [show (15 : Int) = ((15 : Nat) : Int) from rfl, u32_and_nat a 15 (by omega) (by omega), nat_mask4]
  omega
theorem and_16383 (x : Int) (h0 : 0 ≤ x) (h1 : x < 4294967296) : bits .and .u32 x 16383 = x % 16384 := by
  obtain ⟨a, rfl⟩ := Int.eq_ofNat_of_zero_le h0
  rw [show (16383 : Int) = ((16383 : Nat) : Int) from rfl, u32_and_nat a 16383 (by omega) (by omega), show a &&& 16383 = a % 16384 from Nat.and_two_pow_sub_one_eq_mod a 14]
  omega
/-- The five parts of a word, put together one by one. -/
theorem or_parts (o d a b m : Int) (ho : 0 ≤ o ∧ o ≤ 63) (hd : 0 ≤ d ∧ d ≤ 15) (ha : 0 ≤ a ∧ a ≤ 15) (hb : 0 ≤ b ∧ b ≤ 15) (hm : 0 ≤ m ∧ m < 16384) :
    bits .or .u32 (bits .or .u32 (bits .or .u32 (bits .or .u32 (o * 67108864) (d * 4194304)) (a * 262144)) (b * 16384)) m = o * 67108864 + d * 4194304 + a * 262144 + b * 16384 + m := by
  rw [or_low 26 (o * 67108864) (d * 4194304) (by omega) (by simp only [Int.reducePow]; omega) (by omega) (by omega) (by simp only [Int.reducePow]; omega) (by omega),
    or_low 22 _ (a * 262144) (by omega) (by simp only [Int.reducePow]; omega) (by omega) (by omega) (by simp only [Int.reducePow]; omega) (by omega),
    or_low 18 _ (b * 16384) (by omega) (by simp only [Int.reducePow]; omega) (by omega) (by omega) (by simp only [Int.reducePow]; omega) (by omega),
    or_low 14 _ m (by omega) (by simp only [Int.reducePow]; omega) (by omega) (by omega) (by simp only [Int.reducePow]; omega) (by omega)]
/-- A word of which a bit was turned: it is a word, and another one. -/
theorem turned_ne (x bit : Int) (h0 : 0 ≤ x) (h1 : x ≤ 4294967295) (b0 : 0 ≤ bit) (b1 : bit ≤ 31) :
    0 ≤ bits .xor .u32 x (2 ^ bit.toNat % 4294967296) ∧ bits .xor .u32 x (2 ^ bit.toNat % 4294967296) ≤ 4294967295 ∧ bits .xor .u32 x (2 ^ bit.toNat % 4294967296) ≠ x := by
  obtain ⟨a, rfl⟩ := Int.eq_ofNat_of_zero_le h0
  obtain ⟨c, rfl⟩ := Int.eq_ofNat_of_zero_le b0
  have hp : (2 : Nat) ^ c ≤ 2 ^ 31 := Nat.pow_le_pow_right (by omega) (by omega)
  have hp' : 0 < (2 : Nat) ^ c := Nat.pow_pos (by omega)
  have e : (2 : Int) ^ ((c : Int).toNat) % 4294967296 = ((2 ^ c : Nat) : Int) := by
    rw [Int.toNat_natCast]
    have : ((2 : Int) ^ c) = ((2 ^ c : Nat) : Int) := by simp
    rw [this]; omega
  rw [e, u32_xor_nat a (2 ^ c) (by omega) (by omega)]
  have hx : a ^^^ 2 ^ c < 2 ^ 32 := Nat.xor_lt_two_pow (by omega) (by omega)
  refine ⟨by omega, by omega, fun h => ?_⟩
  have h' : a ^^^ 2 ^ c = a := by exact_mod_cast h
  have h2 : a ^^^ (a ^^^ 2 ^ c) = a ^^^ a := by rw [h']
  rw [← Nat.xor_assoc, Nat.xor_self, Nat.zero_xor] at h2
  omega
end Go.Proofs.Ythhoigkmmlkfcaa.Words

/- Plain mathematics of chapter 5: sizes, addresses, what is read and what a write leaves. Nothing here speaks of one program text. -/
namespace Go.Proofs.Ythhoigkmmlkfcaa.Words
set_option maxRecDepth 100000
open Go.RowKit

/-- How many bytes an operation has. -/
def sizeZ (op : Int) : Int := if op = 26 ∨ op = 31 then 4 else if op = 27 ∨ op = 28 ∨ op = 32 then 2 else if op = 29 ∨ op = 30 ∨ op = 33 then 1 else 0
theorem sizeZ_cases (op : Int) : (sizeZ op = 4 ∧ (op = 26 ∨ op = 31)) ∨ (sizeZ op = 2 ∧ (op = 27 ∨ op = 28 ∨ op = 32)) ∨ (sizeZ op = 1 ∧ (op = 29 ∨ op = 30 ∨ op = 33)) ∨ (sizeZ op = 0 ∧ (op < 26 ∨ 33 < op)) := by
  unfold sizeZ; repeat' split
  all_goals omega
/-- What is wrong with an address. -/
def checkZ (size addr n : Int) : Int := if 1 ≤ size ∧ addr % size ≠ 0 then 1 else if n < addr + size then 2 else 0
theorem checkZ_mis {size addr n : Int} (h1 : 1 ≤ size) (h2 : addr % size ≠ 0) : checkZ size addr n = 1 := by unfold checkZ; rw [if_pos ⟨h1, h2⟩]
theorem checkZ_range {size addr n : Int} (h1 : size < 1 ∨ addr % size = 0) (h2 : n < addr + size) : checkZ size addr n = 2 := by unfold checkZ; rw [if_neg (by omega), if_pos h2]
theorem checkZ_ok {size addr n : Int} (h1 : size < 1 ∨ addr % size = 0) (h2 : addr + size ≤ n) : checkZ size addr n = 0 := by unfold checkZ; rw [if_neg (by omega), if_neg (by omega)]
theorem checkZ_zero {size addr n : Int} (h : checkZ size addr n = 0) : (size < 1 ∨ addr % size = 0) ∧ addr + size ≤ n := by
  unfold checkZ at h
  split at h
  · cases h
  · split at h
    · cases h
    · omega
theorem checkZ_cases (size addr n : Int) : checkZ size addr n = 0 ∨ checkZ size addr n = 1 ∨ checkZ size addr n = 2 := by
  unfold checkZ; repeat' split
  all_goals simp
/-- Have two stretches a byte together? -/
def overlapB (a n b m : Int) : Bool := decide (1 ≤ n ∧ 1 ≤ m ∧ a < b + m ∧ b < a + n)
theorem overlapB_no {a n b m : Int} (h : n < 1 ∨ m < 1 ∨ b + m ≤ a ∨ a + n ≤ b) : overlapB a n b m = false := decide_eq_false (by omega)
theorem overlapB_yes {a n b m : Int} (h1 : 1 ≤ n) (h2 : 1 ≤ m) (h3 : a < b + m) (h4 : b < a + n) : overlapB a n b m = true := decide_eq_true ⟨h1, h2, h3, h4⟩
/-- A word with the sign of what was read. -/
def extendZ (op w : Int) : Int := if op = 27 then (if w % 65536 < 32768 then w % 65536 else w % 65536 + 4294901760) else if op = 29 then (if w % 256 < 128 then w % 256 else w % 256 + 4294967040) else w
/-- The word that so many bytes are. -/
def wordOf (zs : List Int) (a : Nat) (k : Int) : Int :=
  if k = 1 then zs.getD a 0 else if k = 2 then zs.getD a 0 + 256 * zs.getD (a + 1) 0 else if k = 4 then zs.getD a 0 + 256 * zs.getD (a + 1) 0 + 65536 * zs.getD (a + 2) 0 + 16777216 * zs.getD (a + 3) 0 else 0
/-- What Load answers. -/
def loadZ (zs : List Int) (op addr : Int) : Int := if op < 26 ∨ 30 < op ∨ checkZ (sizeZ op) addr zs.length ≠ 0 then 0 else extendZ op (wordOf zs addr.toNat (sizeZ op))
theorem loadZ_no {zs : List Int} {op addr : Int} (h : op < 26 ∨ 30 < op ∨ checkZ (sizeZ op) addr zs.length ≠ 0) : loadZ zs op addr = 0 := by unfold loadZ; rw [if_pos h]
theorem loadZ_yes {zs : List Int} {op addr : Int} (h1 : 26 ≤ op) (h2 : op ≤ 30) (h3 : checkZ (sizeZ op) addr zs.length = 0) : loadZ zs op addr = extendZ op (wordOf zs addr.toNat (sizeZ op)) := by
  unfold loadZ; rw [if_neg]; rw [h3]; simp; omega
/-- May there be written? -/
def storeOk (size addr n : Int) : Bool := decide ((size = 1 ∨ size = 2 ∨ size = 4) ∧ 0 ≤ addr ∧ addr ≤ 4294967295 ∧ checkZ size addr n = 0)
/-- A word's lowest bytes, laid from a place on. -/
def put1 (zs : List Int) (k : Nat) (v : Int) : List Int := zs.set k (v % 256)
def put2 (zs : List Int) (k : Nat) (v : Int) : List Int := (put1 zs k v).set (k + 1) (v / 256 % 256)
def put4 (zs : List Int) (k : Nat) (v : Int) : List Int := ((put2 zs k v).set (k + 2) (v / 65536 % 256)).set (k + 3) (v / 16777216 % 256)
/-- What Store leaves. -/
def storeZ (zs : List Int) (size addr v : Int) : List Int :=
  if storeOk size addr zs.length = true then (if size = 1 then put1 zs addr.toNat v else if size = 2 then put2 zs addr.toNat v else put4 zs addr.toNat v) else zs
theorem storeZ_no {zs : List Int} {size addr v : Int} (h : storeOk size addr zs.length = false) : storeZ zs size addr v = zs := by unfold storeZ; rw [if_neg (by simp [h])]
theorem storeOk_no {size addr n : Int} (h : ¬ ((size = 1 ∨ size = 2 ∨ size = 4) ∧ 0 ≤ addr ∧ addr ≤ 4294967295 ∧ checkZ size addr n = 0)) : storeOk size addr n = false := decide_eq_false h
theorem storeOk_yes {size addr n : Int} (h : storeOk size addr n = true) : (size = 1 ∨ size = 2 ∨ size = 4) ∧ 0 ≤ addr ∧ addr ≤ 4294967295 ∧ checkZ size addr n = 0 := of_decide_eq_true h
theorem storeZ_len (zs : List Int) (size addr v : Int) : (storeZ zs size addr v).length = zs.length := by
  unfold storeZ put4 put2 put1
  split
  · split
    · simp
    · split <;> simp
  · rfl
end Go.Proofs.Ythhoigkmmlkfcaa.Words

/- Contract of the document's own Mask. -/
namespace Go.Proofs.Ythhoigkmmlkfcaa.Words
set_option maxRecDepth 100000
open Go.RowKit
set_option linter.unusedVariables false

/-- A word's lowest bytes. -/
def maskZ (v size : Int) : Int := if size = 1 then v % 256 else if size = 2 then v % 65536 else if size = 4 then v else 0
theorem and_one (x : Int) (h0 : 0 ≤ x) (h1 : x < 4294967296) : bits .and .u32 x 1 = x % 2 := by
  obtain ⟨a, rfl⟩ := Int.eq_ofNat_of_zero_le h0
  rw [show (1 : Int) = ((1 : Nat) : Int) from rfl, u32_and_nat a 1 (by omega) (by omega), show a &&& 1 = a % 2 from Nat.and_two_pow_sub_one_eq_mod a 1]
  omega
theorem and_255 (x : Int) (h0 : 0 ≤ x) (h1 : x < 4294967296) : bits .and .u32 x 255 = x % 256 := by
  obtain ⟨a, rfl⟩ := Int.eq_ofNat_of_zero_le h0
  rw [show (255 : Int) = ((255 : Nat) : Int) from rfl, u32_and_nat a 255 (by omega) (by omega), show a &&& 255 = a % 256 from Nat.and_two_pow_sub_one_eq_mod a 8]
  omega
theorem and_65535 (x : Int) (h0 : 0 ≤ x) (h1 : x < 4294967296) : bits .and .u32 x 65535 = x % 65536 := by
  obtain ⟨a, rfl⟩ := Int.eq_ofNat_of_zero_le h0
  rw [show (65535 : Int) = ((65535 : Nat) : Int) from rfl, u32_and_nat a 65535 (by omega) (by omega), show a &&& 65535 = a % 65536 from Nat.and_two_pow_sub_one_eq_mod a 16]
  omega

end Go.Proofs.Ythhoigkmmlkfcaa.Words

/- Places that are filled in any order, and stores that wait: what chapters 16 and 17 ask, as plain mathematics over lists. -/
namespace Go.Proofs.Ythhoigkmmlkfcaa.Words
set_option maxRecDepth 100000
open Go.RowKit
set_option linter.unusedVariables false
set_option linter.unusedSimpArgs false

def roomZ (l : List Slt) (n : Int) : Bool := decide ((l.length : Int) < n)
def reserveZ (l : List Slt) (n tag : Int) : List Slt := if (l.length : Int) < n then l ++ [⟨tag, false, 0⟩] else l
def waits (tag : Int) (x : Slt) : Bool := decide (x.tag = tag) && !x.full
def fillZ (tag w : Int) : List Slt → List Slt
  | [] => []
  | x :: r => if waits tag x = true then ⟨x.tag, true, w⟩ :: r else x :: fillZ tag w r
def hasZ (tag : Int) (l : List Slt) : Bool := l.any (waits tag)
def canZ : List Slt → Bool
  | [] => false
  | x :: _ => x.full
def popZ : List Slt → List Slt
  | [] => []
  | x :: r => if x.full = true then r else x :: r
def popV : List Slt → Int
  | [] => 0
  | x :: _ => if x.full = true then x.val else 0
theorem reserve_yes {l : List Slt} {n : Int} (tag : Int) (h : (l.length : Int) < n) : reserveZ l n tag = l ++ [⟨tag, false, 0⟩] := if_pos h
theorem reserve_no {l : List Slt} {n : Int} (tag : Int) (h : ¬ (l.length : Int) < n) : reserveZ l n tag = l := if_neg h
theorem room_yes {l : List Slt} {n : Int} (h : (l.length : Int) < n) : roomZ l n = true := decide_eq_true h
theorem room_no {l : List Slt} {n : Int} (h : ¬ (l.length : Int) < n) : roomZ l n = false := decide_eq_false h
theorem fill_len (tag w : Int) (l : List Slt) : (fillZ tag w l).length = l.length := by
  induction l with
  | nil => rfl
  | cons x r ih =>
    unfold fillZ
    split
    · rfl
    · simp [ih]
/-- The first j are passed by. -/
theorem fill_pass {tag w : Int} : ∀ {l : List Slt} {j : Nat}, (∀ k x, k < j → l[k]? = some x → waits tag x = false) → fillZ tag w l = l.take j ++ fillZ tag w (l.drop j) ∧ hasZ tag l = hasZ tag (l.drop j)
  | l, 0, _ => by simp
  | [], j + 1, _ => by simp [fillZ, hasZ]
  | x :: r, j + 1, h => by
    have h0 : waits tag x = false := h 0 x (by omega) rfl
    have ih := fill_pass (tag := tag) (w := w) (l := r) (j := j) (fun k y hk hy => h (k + 1) y (by omega) hy)
    constructor
    · rw [fillZ, if_neg (by simp [h0]), ih.1]; rfl
    · show (waits tag x || hasZ tag r) = _
      rw [h0, ih.2]; rfl
theorem fill_at {tag w : Int} {l : List Slt} {j : Nat} {x : Slt} (h : ∀ k x, k < j → l[k]? = some x → waits tag x = false) (hx : l[j]? = some x) (hw : waits tag x = true) :
    fillZ tag w l = l.set j ⟨x.tag, true, w⟩ ∧ hasZ tag l = true := by
  obtain ⟨h1, h2⟩ := fill_pass (w := w) h
  have hl := (List.getElem?_eq_some_iff.1 hx).1
  have hd : l.drop j = x :: l.drop (j + 1) := by rw [List.drop_eq_getElem_cons hl, (List.getElem?_eq_some_iff.1 hx).2]
  rw [h1, h2, hd]
  constructor
  · rw [fillZ, if_pos hw, List.set_eq_take_append_cons_drop, if_pos hl]
  · show (waits tag x || _) = true
    rw [hw]; rfl
theorem fill_none {tag w : Int} {l : List Slt} (h : ∀ k x, k < l.length → l[k]? = some x → waits tag x = false) : fillZ tag w l = l ∧ hasZ tag l = false := by
  obtain ⟨h1, h2⟩ := fill_pass (w := w) (j := l.length) h
  rw [h1, h2, List.drop_length, List.take_length]
  exact ⟨by simp [fillZ], rfl⟩
theorem pass_step {tag : Int} {l : List Slt} {j : Nat} {x : Slt} (h : ∀ k x, k < j → l[k]? = some x → waits tag x = false) (hx : l[j]? = some x) (hw : waits tag x = false) : ∀ k x, k < j + 1 → l[k]? = some x → waits tag x = false := by
  intro k y hk hy
  by_cases e : k = j
  · subst e; rw [hx] at hy; injection hy with hy; rw [← hy]; exact hw
  · exact h k y (by omega) hy

/- Stores that wait. -/
def Ent.Fits (i : Ent) : Prop :=
  (-9223372036854775808 ≤ i.addr ∧ i.addr ≤ 9223372036854775807) ∧ (-9223372036854775808 ≤ i.size ∧ i.size ≤ 9223372036854775807) ∧ (-9223372036854775808 ≤ i.step ∧ i.step ≤ 9223372036854775807) ∧ (0 ≤ i.val ∧ i.val ≤ 4294967295)
def pushE (l : List Ent) (n : Int) (e : Ent) : List Ent := if (l.length : Int) < n then l ++ [e] else l
def roomE (l : List Ent) (n : Int) : Bool := decide ((l.length : Int) < n)
def noE : Ent := ⟨0, 0, 0, false, 0⟩
def meetsE (addr size : Int) (e : Ent) : Bool := overlapB e.addr e.size addr size
def searchL (addr size : Int) (l : List Ent) : Ent := ((l.filter (meetsE addr size)).getLast?).getD noE
def thereE (addr size : Int) (l : List Ent) : Bool := l.any (meetsE addr size)
def bypB (e : Ent) (op addr : Int) : Bool := decide (formZ op = 4) && e.known && decide (e.addr = addr) && decide (e.size = sizeZ op)
def bypV (e : Ent) (op addr : Int) : Int := if bypB e op addr = true then extendZ op e.val else 0
theorem search_at {addr size : Int} {l : List Ent} {j : Nat} {x : Ent} (h : ∀ k x, j < k → l[k]? = some x → meetsE addr size x = false) (hx : l[j]? = some x) (hm : meetsE addr size x = true) : searchL addr size l = x ∧ thereE addr size l = true := by
  have hl := (List.getElem?_eq_some_iff.1 hx).1
  have hs : l = l.take j ++ x :: l.drop (j + 1) := by
    have hd : l.drop j = x :: l.drop (j + 1) := by rw [List.drop_eq_getElem_cons hl, (List.getElem?_eq_some_iff.1 hx).2]
    rw [← hd, List.take_append_drop]
  have hf : (l.drop (j + 1)).filter (meetsE addr size) = [] := by
    rw [List.filter_eq_nil_iff]
    intro y hy
    obtain ⟨k, hk⟩ := List.getElem?_of_mem hy
    rw [List.getElem?_drop] at hk
    rw [h _ y (by omega) hk]; simp
  constructor
  · unfold searchL
    rw [hs, List.filter_append, List.filter_cons, if_pos hm, hf]
    simp
  · unfold thereE
    rw [List.any_eq_true]
    exact ⟨x, List.mem_of_getElem? hx, hm⟩
theorem search_none {addr size : Int} {l : List Ent} (h : ∀ (k : Nat) x, l[k]? = some x → meetsE addr size x = false) : searchL addr size l = noE ∧ thereE addr size l = false := by
  have hf : l.filter (meetsE addr size) = [] := by
    rw [List.filter_eq_nil_iff]
    intro y hy
    obtain ⟨k, hk⟩ := List.getElem?_of_mem hy
    rw [h k y hk]; simp
  constructor
  · unfold searchL; rw [hf]; rfl
  · unfold thereE
    rw [List.any_eq_false]
    intro y hy
    obtain ⟨k, hk⟩ := List.getElem?_of_mem hy
    rw [h k y hk]; simp
end Go.Proofs.Ythhoigkmmlkfcaa.Words

/- A cell of a row of the call's own is written: what the row reads as then. Laws of no one program. -/
namespace Go.Proofs.Ythhoigkmmlkfcaa.Words
set_option maxRecDepth 100000
open Go.RowKit
set_option linter.unusedVariables false
theorem own_setAt {w : World} {base : Nat} {e : TypeId} {s g n cap : Nat} {xs : List Value} (h : w.ownsRow base e s (.slice (some ⟨g, 0, none⟩) n cap) n xs) (k : Nat) (hk : k < n * s) (u : Value) :
    (w.setCell ⟨g, k, none⟩ u).ownsRow base e s (.slice (some ⟨g, 0, none⟩) n cap) n (xs.set k u) := by
  obtain ⟨h0, h1⟩ := h
  rcases h1 with ⟨h', _⟩ | ⟨g', cap', cur, h', h1, h2, h3, h4, h5, h6⟩
  · simp at h'
  · simp only [Value.slice.injEq, Option.some.injEq, Addr.mk.injEq, and_true, true_and] at h'
    obtain ⟨rfl, rfl⟩ := h'
    refine ⟨by rw [List.length_set]; exact h0, .inr ⟨_, _, cur.setIfInBounds k u, rfl, h1, ?_, h3, h4, by rw [Array.size_setIfInBounds]; exact h5, ?_⟩⟩
    · rw [setCell_eq_setRow w g k cur e (0, 0) u h2]
      exact setRow_heap w g cur _ e _ h2
    · rw [Array.toList_setIfInBounds, List.take_set, h6]
theorem own_thaw {w : World} {base : Nat} {e : TypeId} {s g n cap : Nat} {xs : List Value} (h : w.ownsRow base e s (.slice (some ⟨g, 0, none⟩) n cap) n xs) (k : Nat) : w.frozen? ⟨g, k, none⟩ = false := by
  obtain ⟨h0, h1⟩ := h
  rcases h1 with ⟨h', _⟩ | ⟨g', cap', cur, h', h1, h2, h3, h4, h5, h6⟩
  · simp at h'
  · simp only [Value.slice.injEq, Option.some.injEq, Addr.mk.injEq, and_true, true_and] at h'
    obtain ⟨rfl, rfl⟩ := h'
    simp [World.frozen?, h2]
theorem flat_setG {α : Type} {f : α → List Value} {s : Nat} (hf : ∀ x, (f x).length = s) (l : List α) (k : Nat) (r r' : α) (j : Nat) (u : Value) (h : l[k]? = some r) (hs : (f r).set j u = f r') (hj : j < s) :
    (flat f l).set (k * s + j) u = flat f (l.set k r') := by
  induction l generalizing k with
  | nil => simp at h
  | cons x l ih =>
    cases k with
    | zero =>
      simp at h; subst h
      rw [flat_cons, List.set_cons_zero, flat_cons, Nat.zero_mul, Nat.zero_add, List.set_append_left _ _ (by rw [hf]; exact hj), hs]
    | succ k =>
      simp at h
      have e : (k + 1) * s = s + k * s := by rw [Nat.add_mul, Nat.one_mul, Nat.add_comm]
      rw [flat_cons, List.set_cons_succ, flat_cons, List.set_append_right _ _ (by rw [hf, e]; omega), hf, show (k + 1) * s + j - s = k * s + j by omega, ih k h]
end Go.Proofs.Ythhoigkmmlkfcaa.Words

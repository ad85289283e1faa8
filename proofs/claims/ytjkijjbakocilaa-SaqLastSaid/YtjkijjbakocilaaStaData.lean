/- The core's state (api.State) as plain data: its ninety-two cells, what each reads as and what a write of one leaves; its nine rows. Nothing here speaks of one program text but the types' numbers. -/
import Derived.Test.YtjkijjbakocilaaW32
import Derived.Test.YtjkijjbakocilaaKeepS
import Derived.Test.YtjkijjbakocilaaFlat
import Derived.Test.YtjkijjbakocilaaResData
namespace Go.Proofs.Ytjkijjbakocilaa.Words
set_option maxRecDepth 100000
open Go.RowKit
set_option linter.unusedVariables false
set_option linter.unusedSimpArgs false

/-- A side of the core. -/
structure Sid where
  regs : List Int
  ready : List Int
  blk : Int
  idx : Int
  base : Int
  wait : Int
  halted : Bool
  done : Int
deriving DecidableEq
structure Slt where
  tag : Int
  full : Bool
  val : Int
deriving DecidableEq
structure Ent where
  addr : Int
  size : Int
  step : Int
  known : Bool
  val : Int
deriving DecidableEq
structure Rqs where
  store : Bool
  op : Int
  addr : Int
  size : Int
  val : Int
  left : Int
  reg : Int
  tag : Int
deriving DecidableEq
structure Sta where
  cycle : Int
  a : Sid
  e : Sid
  ldq : List Slt
  sdq : List Int
  aeq : List Int
  abq : List Bool
  ebq : List Bool
  saq : List Ent
  table : List Rqs
  mem : List Int
  ws : List Wr
  tk : Int
  ts : Int
  tp : Int
  lats : Int
  picks : Int
  tags : Int
deriving DecidableEq
def sltL (x : Slt) : List Value := [.int .i64 x.tag, .bool x.full, .int .u32 x.val]
def entL (x : Ent) : List Value := [.int .i64 x.addr, .int .i64 x.size, .int .i64 x.step, .bool x.known, .int .u32 x.val]
def rqsL (x : Rqs) : List Value := [.bool x.store, .int .i64 x.op, .int .i64 x.addr, .int .i64 x.size, .int .u32 x.val, .int .i64 x.left, .int .i64 x.reg, .int .i64 x.tag]
def boolsL (l : List Bool) : List Value := l.map Value.bool
def bytesL (l : List Int) : List Value := l.map (Value.int .u8)
def sidL (s : Sid) : List Value := s.regs.map (Value.int .u32) ++ (s.ready.map (Value.int .i64) ++ [.int .i64 s.blk, .int .i64 s.idx, .int .i64 s.base, .int .i64 s.wait, .bool s.halted, .int .i64 s.done])
/-- Where its nine rows lie. -/
structure Vs where
  ldq : Value
  sdq : Value
  aeq : Value
  abq : Value
  ebq : Value
  saq : Value
  table : Value
  mem : Value
  ws : Value
def vsL (v : Vs) : List Value := [v.ldq, v.sdq, v.aeq, v.abq, v.ebq, v.saq, v.table, v.mem, v.ws]
def endL (x : Sta) : List Value := [.int .i64 x.tk, .int .i64 x.ts, .int .i64 x.tp, .int .i64 x.lats, .int .i64 x.picks, .int .i64 x.tags]
def staL (x : Sta) (v : Vs) : List Value := .int .i64 x.cycle :: (sidL x.a ++ (sidL x.e ++ (vsL v ++ endL x)))
structure Sid.Ok (s : Sid) : Prop where
  regs : s.regs.length = 16
  ready : s.ready.length = 16
structure Sta.Ok (x : Sta) : Prop where
  a : x.a.Ok
  e : x.e.Ok
theorem sltL_len (x : Slt) : (sltL x).length = 3 := rfl
theorem entL_len (x : Ent) : (entL x).length = 5 := rfl
theorem rqsL_len (x : Rqs) : (rqsL x).length = 8 := rfl
theorem sltL_one (x : Slt) : ∀ u ∈ sltL x, u.oneCell' = true := by
  intro u hu; simp only [sltL, List.mem_cons, List.not_mem_nil, or_false] at hu; rcases hu with rfl | rfl | rfl <;> rfl
theorem entL_one (x : Ent) : ∀ u ∈ entL x, u.oneCell' = true := by
  intro u hu; simp only [entL, List.mem_cons, List.not_mem_nil, or_false] at hu; rcases hu with rfl | rfl | rfl | rfl | rfl <;> rfl
theorem rqsL_one (x : Rqs) : ∀ u ∈ rqsL x, u.oneCell' = true := by
  intro u hu; simp only [rqsL, List.mem_cons, List.not_mem_nil, or_false] at hu; rcases hu with rfl | rfl | rfl | rfl | rfl | rfl | rfl | rfl <;> rfl
theorem flat_oneC {α : Type} {f : α → List Value} (h : ∀ x, ∀ u ∈ f x, u.oneCell' = true) (l : List α) : ∀ u ∈ flat f l, u.oneCell' = true := by
  intro u hu
  unfold flat at hu
  rw [List.mem_flatMap] at hu
  obtain ⟨x, _, hx⟩ := hu
  exact h x u hx
theorem boolsL_one (l : List Bool) : ∀ u ∈ boolsL l, u.oneCell' = true := by
  intro u hu; obtain ⟨x, _, rfl⟩ := List.mem_map.1 hu; rfl
theorem bytesL_one (l : List Int) : ∀ u ∈ bytesL l, u.oneCell' = true := by
  intro u hu; obtain ⟨x, _, rfl⟩ := List.mem_map.1 hu; rfl
section
variable {s : Sid}
theorem sidL_len (h : s.Ok) : (sidL s).length = 38 := by simp [sidL, h.regs, h.ready]
theorem sidL_reg (h : s.Ok) {j : Nat} (hj : j < 16) : (sidL s)[j]? = some (.int .u32 (s.regs.getD j 0)) := by
  unfold sidL
  rw [List.getElem?_append_left (by simp [h.regs]; omega), List.getElem?_map, List.getD_eq_getElem?_getD, List.getElem?_eq_getElem (by rw [h.regs]; omega)]; rfl
theorem sidL_ready (h : s.Ok) {j : Nat} (hj : j < 16) : (sidL s)[16 + j]? = some (.int .i64 (s.ready.getD j 0)) := by
  unfold sidL
  rw [List.getElem?_append_right (by simp [h.regs]), show 16 + j - (s.regs.map (Value.int .u32)).length = j by simp [h.regs], List.getElem?_append_left (by simp [h.ready]; omega), List.getElem?_map, List.getD_eq_getElem?_getD, List.getElem?_eq_getElem (by rw [h.ready]; omega)]; rfl
theorem sidL_end (h : s.Ok) (j : Nat) : (sidL s)[32 + j]? = [.int .i64 s.blk, .int .i64 s.idx, .int .i64 s.base, .int .i64 s.wait, .bool s.halted, .int .i64 s.done][j]? := by
  unfold sidL
  rw [List.getElem?_append_right (by simp [h.regs]; omega), List.getElem?_append_right (by simp [h.regs, h.ready]; omega)]
  congr 1; simp [h.regs, h.ready]; omega
theorem sidL_setreg (h : s.Ok) {j : Nat} (hj : j < 16) (x : Int) : (sidL s).set j (.int .u32 x) = sidL { s with regs := s.regs.set j x } := by
  unfold sidL
  rw [List.set_append_left _ _ (by simp [h.regs]; omega)]; simp [List.map_set]
theorem sidL_setready (h : s.Ok) {j : Nat} (hj : j < 16) (x : Int) : (sidL s).set (16 + j) (.int .i64 x) = sidL { s with ready := s.ready.set j x } := by
  unfold sidL
  rw [List.set_append_right _ _ (by simp [h.regs]), show 16 + j - (s.regs.map (Value.int .u32)).length = j by simp [h.regs], List.set_append_left _ _ (by simp [h.ready]; omega)]; simp [List.map_set]
theorem sidL_setend (h : s.Ok) (j : Nat) (u : Value) : (sidL s).set (32 + j) u = s.regs.map (Value.int .u32) ++ (s.ready.map (Value.int .i64) ++ [.int .i64 s.blk, .int .i64 s.idx, .int .i64 s.base, .int .i64 s.wait, .bool s.halted, .int .i64 s.done].set j u) := by
  unfold sidL
  rw [List.set_append_right _ _ (by simp [h.regs]; omega), List.set_append_right _ _ (by simp [h.regs, h.ready]; omega)]
  rw [show 32 + j - (s.regs.map (Value.int .u32)).length - (s.ready.map (Value.int .i64)).length = j by simp [h.regs, h.ready]; omega]
theorem sidL_one (s : Sid) : ∀ u ∈ sidL s, u.oneCell' = true := by
  intro u hu
  unfold sidL at hu
  simp only [List.mem_append, List.mem_map, List.mem_cons, List.not_mem_nil, or_false] at hu
  rcases hu with ⟨x, _, rfl⟩ | ⟨x, _, rfl⟩ | rfl | rfl | rfl | rfl | rfl | rfl <;> rfl
theorem Sid.Ok.setreg (h : s.Ok) (j : Nat) (x : Int) : ({ s with regs := s.regs.set j x } : Sid).Ok := ⟨by simp [h.regs], h.ready⟩
theorem Sid.Ok.setready (h : s.Ok) (j : Nat) (x : Int) : ({ s with ready := s.ready.set j x } : Sid).Ok := ⟨h.regs, by simp [h.ready]⟩
end
section
variable {x : Sta} {v : Vs}
theorem staL_len (h : x.Ok) : (staL x v).length = 92 := by simp [staL, sidL_len h.a, sidL_len h.e, vsL, endL]
theorem staL_a (h : x.Ok) {j : Nat} {u : Value} (hj : (sidL x.a)[j]? = some u) : (staL x v)[1 + j]? = some u := by
  unfold staL
  rw [Nat.add_comm 1 j, List.getElem?_cons_succ, List.getElem?_append_left ((List.getElem?_eq_some_iff.1 hj).1)]; exact hj
theorem staL_e (h : x.Ok) {j : Nat} {u : Value} (hj : (sidL x.e)[j]? = some u) : (staL x v)[39 + j]? = some u := by
  unfold staL
  rw [show 39 + j = (38 + j) + 1 by omega, List.getElem?_cons_succ, List.getElem?_append_right (by rw [sidL_len h.a]; omega), show 38 + j - (sidL x.a).length = j by rw [sidL_len h.a]; omega, List.getElem?_append_left ((List.getElem?_eq_some_iff.1 hj).1)]; exact hj
theorem staL_v (h : x.Ok) (j : Nat) (hj : j < 9) : (staL x v)[77 + j]? = (vsL v)[j]? := by
  unfold staL
  rw [show 77 + j = (76 + j) + 1 by omega, List.getElem?_cons_succ, List.getElem?_append_right (by rw [sidL_len h.a]; omega), List.getElem?_append_right (by rw [sidL_len h.a, sidL_len h.e]; omega), show 76 + j - (sidL x.a).length - (sidL x.e).length = j by rw [sidL_len h.a, sidL_len h.e]; omega, List.getElem?_append_left (by simp [vsL]; omega)]
theorem staL_end (h : x.Ok) (j : Nat) : (staL x v)[86 + j]? = (endL x)[j]? := by
  unfold staL
  rw [show 86 + j = (85 + j) + 1 by omega, List.getElem?_cons_succ, List.getElem?_append_right (by rw [sidL_len h.a]; omega), List.getElem?_append_right (by rw [sidL_len h.a, sidL_len h.e]; omega), List.getElem?_append_right (by rw [sidL_len h.a, sidL_len h.e]; simp [vsL]; omega)]
  congr 1
  rw [sidL_len h.a, sidL_len h.e]; simp [vsL]; omega
theorem staL_seta (h : x.Ok) {j : Nat} (hj : j < 38) (u : Value) : (staL x v).set (1 + j) u = .int .i64 x.cycle :: ((sidL x.a).set j u ++ (sidL x.e ++ (vsL v ++ endL x))) := by
  unfold staL
  rw [Nat.add_comm 1 j, List.set_cons_succ, List.set_append_left _ _ (by rw [sidL_len h.a]; omega)]
theorem staL_sete (h : x.Ok) {j : Nat} (hj : j < 38) (u : Value) : (staL x v).set (39 + j) u = .int .i64 x.cycle :: (sidL x.a ++ ((sidL x.e).set j u ++ (vsL v ++ endL x))) := by
  unfold staL
  rw [show 39 + j = (38 + j) + 1 by omega, List.set_cons_succ, List.set_append_right _ _ (by rw [sidL_len h.a]; omega), show 38 + j - (sidL x.a).length = j by rw [sidL_len h.a]; omega, List.set_append_left _ _ (by rw [sidL_len h.e]; omega)]
theorem staL_setv (h : x.Ok) {j : Nat} (hj : j < 9) (u : Value) : (staL x v).set (77 + j) u = .int .i64 x.cycle :: (sidL x.a ++ (sidL x.e ++ ((vsL v).set j u ++ endL x))) := by
  unfold staL
  rw [show 77 + j = (76 + j) + 1 by omega, List.set_cons_succ, List.set_append_right _ _ (by rw [sidL_len h.a]; omega), List.set_append_right _ _ (by rw [sidL_len h.a, sidL_len h.e]; omega), show 76 + j - (sidL x.a).length - (sidL x.e).length = j by rw [sidL_len h.a, sidL_len h.e]; omega, List.set_append_left _ _ (by simp [vsL]; omega)]
theorem staL_setend (h : x.Ok) (j : Nat) (u : Value) : (staL x v).set (86 + j) u = .int .i64 x.cycle :: (sidL x.a ++ (sidL x.e ++ (vsL v ++ (endL x).set j u))) := by
  unfold staL
  rw [show 86 + j = (85 + j) + 1 by omega, List.set_cons_succ, List.set_append_right _ _ (by rw [sidL_len h.a]; omega), List.set_append_right _ _ (by rw [sidL_len h.a, sidL_len h.e]; omega), List.set_append_right _ _ (by rw [sidL_len h.a, sidL_len h.e]; simp [vsL]; omega)]
  rw [show 85 + j - (sidL x.a).length - (sidL x.e).length - (vsL v).length = j by rw [sidL_len h.a, sidL_len h.e]; simp [vsL]; omega]
theorem sta_cycle : (staL x v)[0]? = some (.int .i64 x.cycle) := rfl
theorem set_cycle (n : Int) : (staL x v).set 0 (.int .i64 n) = staL { x with cycle := n } v := rfl
theorem sta_areg (h : x.Ok) {j : Nat} (hj : j < 16) : (staL x v)[1 + j]? = some (.int .u32 (x.a.regs.getD j 0)) := staL_a h (sidL_reg h.a hj)
theorem sta_aready (h : x.Ok) {j : Nat} (hj : j < 16) : (staL x v)[17 + j]? = some (.int .i64 (x.a.ready.getD j 0)) := by have := staL_a (v := v) h (sidL_ready h.a hj); rwa [← Nat.add_assoc] at this
theorem set_areg (h : x.Ok) {j : Nat} (hj : j < 16) (n : Int) : (staL x v).set (1 + j) (.int .u32 n) = staL { x with a := { x.a with regs := x.a.regs.set j n } } v := by rw [staL_seta h (by omega), sidL_setreg h.a hj]; rfl
theorem set_aready (h : x.Ok) {j : Nat} (hj : j < 16) (n : Int) : (staL x v).set (17 + j) (.int .i64 n) = staL { x with a := { x.a with ready := x.a.ready.set j n } } v := by rw [show 17 + j = 1 + (16 + j) by omega, staL_seta h (by omega), sidL_setready h.a hj]; rfl
theorem sta_ablk (h : x.Ok) : (staL x v)[33]? = some (.int .i64 x.a.blk) := staL_a (j := 32) h (sidL_end h.a 0)
theorem set_ablk (h : x.Ok) (n : Int) : (staL x v).set 33 (.int .i64 n) = staL { x with a := { x.a with blk := n } } v := by rw [show 33 = 1 + (32 + 0) from rfl, staL_seta h (by omega), sidL_setend h.a]; rfl
theorem sta_aidx (h : x.Ok) : (staL x v)[34]? = some (.int .i64 x.a.idx) := staL_a (j := 33) h (sidL_end h.a 1)
theorem set_aidx (h : x.Ok) (n : Int) : (staL x v).set 34 (.int .i64 n) = staL { x with a := { x.a with idx := n } } v := by rw [show 34 = 1 + (32 + 1) from rfl, staL_seta h (by omega), sidL_setend h.a]; rfl
theorem sta_abase (h : x.Ok) : (staL x v)[35]? = some (.int .i64 x.a.base) := staL_a (j := 34) h (sidL_end h.a 2)
theorem set_abase (h : x.Ok) (n : Int) : (staL x v).set 35 (.int .i64 n) = staL { x with a := { x.a with base := n } } v := by rw [show 35 = 1 + (32 + 2) from rfl, staL_seta h (by omega), sidL_setend h.a]; rfl
theorem sta_await (h : x.Ok) : (staL x v)[36]? = some (.int .i64 x.a.wait) := staL_a (j := 35) h (sidL_end h.a 3)
theorem set_await (h : x.Ok) (n : Int) : (staL x v).set 36 (.int .i64 n) = staL { x with a := { x.a with wait := n } } v := by rw [show 36 = 1 + (32 + 3) from rfl, staL_seta h (by omega), sidL_setend h.a]; rfl
theorem sta_ahalted (h : x.Ok) : (staL x v)[37]? = some (.bool x.a.halted) := staL_a (j := 36) h (sidL_end h.a 4)
theorem set_ahalted (h : x.Ok) (n : Bool) : (staL x v).set 37 (.bool n) = staL { x with a := { x.a with halted := n } } v := by rw [show 37 = 1 + (32 + 4) from rfl, staL_seta h (by omega), sidL_setend h.a]; rfl
theorem sta_adone (h : x.Ok) : (staL x v)[38]? = some (.int .i64 x.a.done) := staL_a (j := 37) h (sidL_end h.a 5)
theorem set_adone (h : x.Ok) (n : Int) : (staL x v).set 38 (.int .i64 n) = staL { x with a := { x.a with done := n } } v := by rw [show 38 = 1 + (32 + 5) from rfl, staL_seta h (by omega), sidL_setend h.a]; rfl
theorem sta_ereg (h : x.Ok) {j : Nat} (hj : j < 16) : (staL x v)[39 + j]? = some (.int .u32 (x.e.regs.getD j 0)) := staL_e h (sidL_reg h.e hj)
theorem sta_eready (h : x.Ok) {j : Nat} (hj : j < 16) : (staL x v)[55 + j]? = some (.int .i64 (x.e.ready.getD j 0)) := by have := staL_e (v := v) h (sidL_ready h.e hj); rwa [← Nat.add_assoc] at this
theorem set_ereg (h : x.Ok) {j : Nat} (hj : j < 16) (n : Int) : (staL x v).set (39 + j) (.int .u32 n) = staL { x with e := { x.e with regs := x.e.regs.set j n } } v := by rw [staL_sete h (by omega), sidL_setreg h.e hj]; rfl
theorem set_eready (h : x.Ok) {j : Nat} (hj : j < 16) (n : Int) : (staL x v).set (55 + j) (.int .i64 n) = staL { x with e := { x.e with ready := x.e.ready.set j n } } v := by rw [show 55 + j = 39 + (16 + j) by omega, staL_sete h (by omega), sidL_setready h.e hj]; rfl
theorem sta_eblk (h : x.Ok) : (staL x v)[71]? = some (.int .i64 x.e.blk) := staL_e (j := 32) h (sidL_end h.e 0)
theorem set_eblk (h : x.Ok) (n : Int) : (staL x v).set 71 (.int .i64 n) = staL { x with e := { x.e with blk := n } } v := by rw [show 71 = 39 + (32 + 0) from rfl, staL_sete h (by omega), sidL_setend h.e]; rfl
theorem sta_eidx (h : x.Ok) : (staL x v)[72]? = some (.int .i64 x.e.idx) := staL_e (j := 33) h (sidL_end h.e 1)
theorem set_eidx (h : x.Ok) (n : Int) : (staL x v).set 72 (.int .i64 n) = staL { x with e := { x.e with idx := n } } v := by rw [show 72 = 39 + (32 + 1) from rfl, staL_sete h (by omega), sidL_setend h.e]; rfl
theorem sta_ebase (h : x.Ok) : (staL x v)[73]? = some (.int .i64 x.e.base) := staL_e (j := 34) h (sidL_end h.e 2)
theorem set_ebase (h : x.Ok) (n : Int) : (staL x v).set 73 (.int .i64 n) = staL { x with e := { x.e with base := n } } v := by rw [show 73 = 39 + (32 + 2) from rfl, staL_sete h (by omega), sidL_setend h.e]; rfl
theorem sta_ewait (h : x.Ok) : (staL x v)[74]? = some (.int .i64 x.e.wait) := staL_e (j := 35) h (sidL_end h.e 3)
theorem set_ewait (h : x.Ok) (n : Int) : (staL x v).set 74 (.int .i64 n) = staL { x with e := { x.e with wait := n } } v := by rw [show 74 = 39 + (32 + 3) from rfl, staL_sete h (by omega), sidL_setend h.e]; rfl
theorem sta_ehalted (h : x.Ok) : (staL x v)[75]? = some (.bool x.e.halted) := staL_e (j := 36) h (sidL_end h.e 4)
theorem set_ehalted (h : x.Ok) (n : Bool) : (staL x v).set 75 (.bool n) = staL { x with e := { x.e with halted := n } } v := by rw [show 75 = 39 + (32 + 4) from rfl, staL_sete h (by omega), sidL_setend h.e]; rfl
theorem sta_edone (h : x.Ok) : (staL x v)[76]? = some (.int .i64 x.e.done) := staL_e (j := 37) h (sidL_end h.e 5)
theorem set_edone (h : x.Ok) (n : Int) : (staL x v).set 76 (.int .i64 n) = staL { x with e := { x.e with done := n } } v := by rw [show 76 = 39 + (32 + 5) from rfl, staL_sete h (by omega), sidL_setend h.e]; rfl
theorem sta_ldq (h : x.Ok) : (staL x v)[77]? = some v.ldq := staL_v h 0 (by omega)
theorem set_ldq (h : x.Ok) (u : Value) : (staL x v).set 77 u = staL x { v with ldq := u } := by rw [show 77 = 77 + 0 from rfl, staL_setv h (by omega)]; rfl
theorem sta_sdq (h : x.Ok) : (staL x v)[78]? = some v.sdq := staL_v h 1 (by omega)
theorem set_sdq (h : x.Ok) (u : Value) : (staL x v).set 78 u = staL x { v with sdq := u } := by rw [show 78 = 77 + 1 from rfl, staL_setv h (by omega)]; rfl
theorem sta_aeq (h : x.Ok) : (staL x v)[79]? = some v.aeq := staL_v h 2 (by omega)
theorem set_aeq (h : x.Ok) (u : Value) : (staL x v).set 79 u = staL x { v with aeq := u } := by rw [show 79 = 77 + 2 from rfl, staL_setv h (by omega)]; rfl
theorem sta_abq (h : x.Ok) : (staL x v)[80]? = some v.abq := staL_v h 3 (by omega)
theorem set_abq (h : x.Ok) (u : Value) : (staL x v).set 80 u = staL x { v with abq := u } := by rw [show 80 = 77 + 3 from rfl, staL_setv h (by omega)]; rfl
theorem sta_ebq (h : x.Ok) : (staL x v)[81]? = some v.ebq := staL_v h 4 (by omega)
theorem set_ebq (h : x.Ok) (u : Value) : (staL x v).set 81 u = staL x { v with ebq := u } := by rw [show 81 = 77 + 4 from rfl, staL_setv h (by omega)]; rfl
theorem sta_saq (h : x.Ok) : (staL x v)[82]? = some v.saq := staL_v h 5 (by omega)
theorem set_saq (h : x.Ok) (u : Value) : (staL x v).set 82 u = staL x { v with saq := u } := by rw [show 82 = 77 + 5 from rfl, staL_setv h (by omega)]; rfl
theorem sta_table (h : x.Ok) : (staL x v)[83]? = some v.table := staL_v h 6 (by omega)
theorem set_table (h : x.Ok) (u : Value) : (staL x v).set 83 u = staL x { v with table := u } := by rw [show 83 = 77 + 6 from rfl, staL_setv h (by omega)]; rfl
theorem sta_mem (h : x.Ok) : (staL x v)[84]? = some v.mem := staL_v h 7 (by omega)
theorem set_mem (h : x.Ok) (u : Value) : (staL x v).set 84 u = staL x { v with mem := u } := by rw [show 84 = 77 + 7 from rfl, staL_setv h (by omega)]; rfl
theorem sta_ws (h : x.Ok) : (staL x v)[85]? = some v.ws := staL_v h 8 (by omega)
theorem set_ws (h : x.Ok) (u : Value) : (staL x v).set 85 u = staL x { v with ws := u } := by rw [show 85 = 77 + 8 from rfl, staL_setv h (by omega)]; rfl
theorem sta_tk (h : x.Ok) : (staL x v)[86]? = some (.int .i64 x.tk) := staL_end h 0
theorem set_tk (h : x.Ok) (n : Int) : (staL x v).set 86 (.int .i64 n) = staL { x with tk := n } v := by rw [show 86 = 86 + 0 from rfl, staL_setend h]; rfl
theorem sta_ts (h : x.Ok) : (staL x v)[87]? = some (.int .i64 x.ts) := staL_end h 1
theorem set_ts (h : x.Ok) (n : Int) : (staL x v).set 87 (.int .i64 n) = staL { x with ts := n } v := by rw [show 87 = 86 + 1 from rfl, staL_setend h]; rfl
theorem sta_tp (h : x.Ok) : (staL x v)[88]? = some (.int .i64 x.tp) := staL_end h 2
theorem set_tp (h : x.Ok) (n : Int) : (staL x v).set 88 (.int .i64 n) = staL { x with tp := n } v := by rw [show 88 = 86 + 2 from rfl, staL_setend h]; rfl
theorem sta_lats (h : x.Ok) : (staL x v)[89]? = some (.int .i64 x.lats) := staL_end h 3
theorem set_lats (h : x.Ok) (n : Int) : (staL x v).set 89 (.int .i64 n) = staL { x with lats := n } v := by rw [show 89 = 86 + 3 from rfl, staL_setend h]; rfl
theorem sta_picks (h : x.Ok) : (staL x v)[90]? = some (.int .i64 x.picks) := staL_end h 4
theorem set_picks (h : x.Ok) (n : Int) : (staL x v).set 90 (.int .i64 n) = staL { x with picks := n } v := by rw [show 90 = 86 + 4 from rfl, staL_setend h]; rfl
theorem sta_tags (h : x.Ok) : (staL x v)[91]? = some (.int .i64 x.tags) := staL_end h 5
theorem set_tags (h : x.Ok) (n : Int) : (staL x v).set 91 (.int .i64 n) = staL { x with tags := n } v := by rw [show 91 = 86 + 5 from rfl, staL_setend h]; rfl
theorem staL_one (hv : ∀ u ∈ vsL v, u.oneCell' = true) : ∀ u ∈ staL x v, u.oneCell' = true := by
  intro u hu
  unfold staL at hu
  simp only [List.mem_cons, List.mem_append] at hu
  rcases hu with rfl | hu | hu | hu | hu
  · rfl
  · exact sidL_one _ u hu
  · exact sidL_one _ u hu
  · exact hv u hu
  · simp only [endL, List.mem_cons, List.not_mem_nil, or_false] at hu
    rcases hu with rfl | rfl | rfl | rfl | rfl | rfl <;> rfl
end
/-- What its nine rows read as. -/
structure StaV (w : World) (B : Nat) (v : Vs) (x : Sta) : Prop where
  ldq : Row w B 3 v.ldq x.ldq.length (flat sltL x.ldq)
  sdq : Row w B 1 v.sdq x.sdq.length (w32 x.sdq)
  aeq : Row w B 1 v.aeq x.aeq.length (w32 x.aeq)
  abq : Row w B 1 v.abq x.abq.length (boolsL x.abq)
  ebq : Row w B 1 v.ebq x.ebq.length (boolsL x.ebq)
  saq : Row w B 5 v.saq x.saq.length (flat entL x.saq)
  table : Row w B 8 v.table x.table.length (flat rqsL x.table)
  mem : Row w B 1 v.mem x.mem.length (bytesL x.mem)
  ws : Row w B 3 v.ws x.ws.length (wsL x.ws)
section
variable {w w' : World} {B : Nat} {v : Vs} {x : Sta}
theorem StaV.keep (h : StaV w B v x) (hk : ∀ a : Addr, a.block < B → w'.cell? a = w.cell? a) : StaV w' B v x := ⟨h.ldq.keep hk, h.sdq.keep hk, h.aeq.keep hk, h.abq.keep hk, h.ebq.keep hk, h.saq.keep hk, h.table.keep hk, h.mem.keep hk, h.ws.keep hk⟩
theorem StaV.more {B' : Nat} (h : StaV w B v x) (hB : B ≤ B') : StaV w B' v x := ⟨h.ldq.more hB, h.sdq.more hB, h.aeq.more hB, h.abq.more hB, h.ebq.more hB, h.saq.more hB, h.table.more hB, h.mem.more hB, h.ws.more hB⟩
theorem StaV.below (h : StaV w B v x) (hb : Below B w w') : StaV w' B v x := ⟨h.ldq.below hb, h.sdq.below hb, h.aeq.below hb, h.abq.below hb, h.ebq.below hb, h.saq.below hb, h.table.below hb, h.mem.below hb, h.ws.below hb⟩
theorem StaV.kept (h : StaV w w.heap.size v x) (hb : Below w.heap.size w w') : StaV w' w'.heap.size v x := (h.below hb).more hb.size
end
section
variable {w w' : World} {base : Nat} {v : Vs} {x : Sta}
theorem own_oneC {w : World} {base : Nat} {e : TypeId} {s n : Nat} {u : Value} {xs : List Value} (h : w.ownsRow base e s u n xs) : u.oneCell' = true := by
  rcases h.2 with ⟨rfl, _⟩ | ⟨g, cap, cur, rfl, _⟩ <;> rfl
end
end Go.Proofs.Ytjkijjbakocilaa.Words

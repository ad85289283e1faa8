/- Results as plain data: a result's cells, its value, its rows; writes as cells. -/
import Derived.Test.YtjkijjbakocilaaOpenWrite
import Derived.Test.YtjkijjbakocilaaBoxes
namespace Go.Proofs.Ytjkijjbakocilaa.Words
set_option maxRecDepth 100000
open Go.RowKit
set_option linter.unusedVariables false

/-- The three cells of a write. -/
def wrL (w : Wr) : List Value := [.int .i64 w.addr, .int .i64 w.size, .int .u32 w.val]
/-- The cells of a list of writes. -/
def wsL (l : List Wr) : List Value := l.flatMap wrL
theorem wsL_nil : wsL [] = [] := rfl
theorem wsL_cons (i : Wr) (l : List Wr) : wsL (i :: l) = wrL i ++ wsL l := by simp [wsL]
theorem wsL_append (l m : List Wr) : wsL (l ++ m) = wsL l ++ wsL m := by simp [wsL]
theorem wsL_length (l : List Wr) : (wsL l).length = l.length * 3 := by
  induction l with
  | nil => rfl
  | cons i l ih => rw [wsL_cons, List.length_append, ih]; simp [wrL]; omega
theorem wsL_one (l : List Wr) : ∀ u ∈ wsL l, u.oneCell' = true := by
  intro u hu
  unfold wsL at hu
  rw [List.mem_flatMap] at hu
  obtain ⟨w, _, hw⟩ := hu
  simp only [wrL, List.mem_cons, List.not_mem_nil, or_false] at hw
  rcases hw with rfl | rfl | rfl <;> rfl
theorem wsL_at (l : List Wr) (k : Nat) (i : Wr) (h : l[k]? = some i) (j : Nat) (hj : j < 3) : (wsL l)[k * 3 + j]? = (wrL i)[j]? := by
  induction l generalizing k with
  | nil => simp at h
  | cons x l ih =>
    rw [wsL_cons]
    cases k with
    | zero =>
      simp at h; subst h
      rw [List.getElem?_append_left (by simp [wrL]; omega), Nat.zero_mul, Nat.zero_add]
    | succ k =>
      simp at h
      have h5 : (wrL x).length = 3 := rfl
      rw [List.getElem?_append_right (by omega), h5, show (k + 1) * 3 + j - 3 = k * 3 + j by omega]
      exact ih k h

/-- A result's plain data. -/
structure Res where
  e : Int
  tk : Int
  ts : Int
  tp : Int
  st : Int
  regs : List Int
  mem : List Int
  ws : List Wr
deriving DecidableEq
def Res.Fits (r : Res) : Prop :=
  (-9223372036854775808 ≤ r.e ∧ r.e ≤ 9223372036854775807) ∧ (-9223372036854775808 ≤ r.tk ∧ r.tk ≤ 9223372036854775807) ∧ (-9223372036854775808 ≤ r.ts ∧ r.ts ≤ 9223372036854775807) ∧ (-9223372036854775808 ≤ r.tp ∧ r.tp ≤ 9223372036854775807) ∧
  (-9223372036854775808 ≤ r.st ∧ r.st ≤ 9223372036854775807) ∧ (∀ x ∈ r.regs, 0 ≤ x ∧ x ≤ 4294967295) ∧ (∀ x ∈ r.mem, 0 ≤ x ∧ x ≤ 255) ∧ (∀ x ∈ r.ws, x.Fits)
/-- Its 23 cells. -/
def resL (r : Res) (vm vw : Value) : List Value := [.int .i64 r.e, .int .i64 r.tk, .int .i64 r.ts, .int .i64 r.tp, .int .i64 r.st] ++ (r.regs.map (Value.int .u32) ++ [vm, vw])
section
variable {r : Res} {vm vw : Value}
theorem resL_len (h : r.regs.length = 16) : (resL r vm vw).length = 23 := by simp [resL, h]
theorem resL_0 : (resL r vm vw)[0]? = some (.int .i64 r.e) := rfl
theorem resL_1 : (resL r vm vw)[1]? = some (.int .i64 r.tk) := rfl
theorem resL_2 : (resL r vm vw)[2]? = some (.int .i64 r.ts) := rfl
theorem resL_3 : (resL r vm vw)[3]? = some (.int .i64 r.tp) := rfl
theorem resL_4 : (resL r vm vw)[4]? = some (.int .i64 r.st) := rfl
theorem resL_tail (j : Nat) : (resL r vm vw)[5 + j]? = (r.regs.map (Value.int .u32) ++ [vm, vw])[j]? := by
  unfold resL
  rw [List.getElem?_append_right (by simp), show 5 + j - [Value.int .i64 r.e, .int .i64 r.tk, .int .i64 r.ts, .int .i64 r.tp, .int .i64 r.st].length = j by simp]
theorem resL_reg (h : r.regs.length = 16) (j : Nat) (hj : j < 16) : (resL r vm vw)[5 + j]? = some (.int .u32 (r.regs.getD j 0)) := by
  rw [resL_tail, List.getElem?_append_left (by simp; omega), List.getElem?_map, List.getD_eq_getElem?_getD, List.getElem?_eq_getElem (by omega)]; rfl
theorem resL_regs (h : r.regs.length = 16) : ∀ j v, (r.regs.map (Value.int .u32))[j]? = some v → (resL r vm vw)[5 + j]? = some v := by
  intro j v hv
  have : j < r.regs.length := by have := (List.getElem?_eq_some_iff.1 hv).1; simpa using this
  rw [resL_tail, List.getElem?_append_left (by simp; omega), hv]
theorem resL_21 (h : r.regs.length = 16) : (resL r vm vw)[21]? = some vm := by
  rw [show 21 = 5 + 16 from rfl, resL_tail, List.getElem?_append_right (by simp [h]), show 16 - (r.regs.map (Value.int .u32)).length = 0 by simp [h]]; rfl
theorem resL_22 (h : r.regs.length = 16) : (resL r vm vw)[22]? = some vw := by
  rw [show 22 = 5 + 17 from rfl, resL_tail, List.getElem?_append_right (by simp [h]), show 17 - (r.regs.map (Value.int .u32)).length = 1 by simp [h]]; rfl
theorem resL_set0 (x : Int) : (resL r vm vw).set 0 (.int .i64 x) = resL { r with e := x } vm vw := rfl
theorem resL_set4 (x : Int) : (resL r vm vw).set 4 (.int .i64 x) = resL { r with st := x } vm vw := rfl
theorem resL_trap (a b c : Int) : splice (resL r vm vw) 1 [.int .i64 a, .int .i64 b, .int .i64 c] = resL { r with tk := a, ts := b, tp := c } vm vw := by simp [splice, resL]
theorem resL_set_tail (j : Nat) (v : Value) : (resL r vm vw).set (5 + j) v = [.int .i64 r.e, .int .i64 r.tk, .int .i64 r.ts, .int .i64 r.tp, .int .i64 r.st] ++ (r.regs.map (Value.int .u32) ++ [vm, vw]).set j v := by
  unfold resL
  rw [List.set_append_right _ _ (by simp)]
  simp
theorem resL_set21 (h : r.regs.length = 16) (v : Value) : (resL r vm vw).set 21 v = resL r v vw := by
  rw [show 21 = 5 + 16 from rfl, resL_set_tail, List.set_append_right _ _ (by simp [h])]
  simp [h, resL]
theorem resL_set22 (h : r.regs.length = 16) (v : Value) : (resL r vm vw).set 22 v = resL r vm v := by
  rw [show 22 = 5 + 17 from rfl, resL_set_tail, List.set_append_right _ _ (by simp [h])]
  simp [h, resL]
theorem resL_setreg (h : r.regs.length = 16) (j : Nat) (hj : j < 16) (x : Int) : (resL r vm vw).set (5 + j) (.int .u32 x) = resL { r with regs := r.regs.set j x } vm vw := by
  rw [resL_set_tail, List.set_append_left _ _ (by simp; omega)]
  simp [resL, List.map_set]
theorem resL_one (h1 : vm.oneCell' = true) (h2 : vw.oneCell' = true) : ∀ u ∈ resL r vm vw, u.oneCell' = true := by
  intro u hu
  unfold resL at hu
  simp only [List.mem_append, List.mem_cons, List.mem_map, List.not_mem_nil, or_false] at hu
  rcases hu with (rfl | rfl | rfl | rfl | rfl) | ⟨x, _, rfl⟩ | rfl | rfl
  · rfl
  · rfl
  · rfl
  · rfl
  · rfl
  · rfl
  · exact h1
  · exact h2
theorem resL_mem (m : List Int) (l : List Wr) : resL { r with mem := m, ws := l } vm vw = resL r vm vw := rfl
end
/-- The two rows of a result's value. -/
structure ResV (w : World) (B : Nat) (vm vw : Value) (r : Res) : Prop where
  mem : Row w B 1 vm r.mem.length (r.mem.map (Value.int .u8))
  ws : Row w B 3 vw r.ws.length (wsL r.ws)
  regs : r.regs.length = 16
section
variable {w w' : World} {B : Nat} {vm vw : Value} {r : Res}
theorem ResV.keep (h : ResV w B vm vw r) (hk : ∀ a : Addr, a.block < B → w'.cell? a = w.cell? a) : ResV w' B vm vw r := ⟨h.mem.keep hk, h.ws.keep hk, h.regs⟩
theorem ResV.more {B' : Nat} (h : ResV w B vm vw r) (hB : B ≤ B') : ResV w B' vm vw r := ⟨h.mem.more hB, h.ws.more hB, h.regs⟩
theorem ResV.below (h : ResV w B vm vw r) (hb : Below B w w') : ResV w' B vm vw r := ⟨h.mem.below hb, h.ws.below hb, h.regs⟩
theorem ResV.alloc (h : ResV w B vm vw r) (hB : B ≤ w.heap.size) (o : Obj) : ResV (w.alloc o) B vm vw r := ⟨h.mem.alloc hB o, h.ws.alloc hB o, h.regs⟩
end
/-- A result whose rows the call itself made. -/
structure ResOwn (w : World) (base : Nat) (vm vw : Value) (r : Res) : Prop where
  mem : w.ownsRow base 5 1 vm r.mem.length (r.mem.map (Value.int .u8))
  ws : w.ownsRow base 41 3 vw r.ws.length (wsL r.ws)
  regs : r.regs.length = 16
section
variable {w w' : World} {b0 : Nat} {vm vw : Value} {r : Res}
theorem ResOwn.grown {b : Nat} (h : ResOwn w b0 vm vw r) (hg : w.grownBy w' (some b)) (hb : b < b0) : ResOwn w' b0 vm vw r :=
  ⟨own_grown h.mem hg (fun g hg' e => by have := (h.mem.lt g hg').1; injection e with e; omega), own_grown h.ws hg (fun g hg' e => by have := (h.ws.lt g hg').1; injection e with e; omega), h.regs⟩
theorem ResOwn.setCell {b : Nat} (h : ResOwn w b0 vm vw r) (hb : b < b0) (k : Nat) (v : Value) : ResOwn (w.setCell ⟨b, k, none⟩ v) b0 vm vw r :=
  ⟨ownsRow_setCell_below h.mem (a := ⟨b, k, none⟩) hb v, ownsRow_setCell_below h.ws (a := ⟨b, k, none⟩) hb v, h.regs⟩
theorem ResOwn.rows (h : ResOwn w b0 vm vw r) : ResV w w.heap.size vm vw r := ⟨Row.of_own h.mem, Row.of_own h.ws, h.regs⟩
theorem ResOwn.base {b1 : Nat} (h : ResOwn w b0 vm vw r) (hb : b1 ≤ b0) : ResOwn w b1 vm vw r := ⟨own_base h.mem hb, own_base h.ws hb, h.regs⟩
theorem ResOwn.below (h : ResOwn w b0 vm vw r) (hb : Below w.heap.size w w') : ResOwn w' b0 vm vw r := ⟨own_below h.mem hb, own_below h.ws hb, h.regs⟩
end
theorem info_wr : (Try.prog.info? 41).map (fun i => (i.zero, i.size, i.bytes)) = some (some (.agg #[.int .i64 0, .int .i64 0, .int .u32 0]), 3, 24) := by kernel_rfl
end Go.Proofs.Ytjkijjbakocilaa.Words

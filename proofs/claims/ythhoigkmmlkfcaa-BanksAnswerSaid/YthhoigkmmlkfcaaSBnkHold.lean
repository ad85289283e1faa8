/- A state in a variable: its block, and its rows off that block; what calls and stores leave of it. -/
import Derived.Test.YthhoigkmmlkfcaaG11
namespace Go.Proofs.Ythhoigkmmlkfcaa.Words
set_option maxRecDepth 100000
open Go.RowKit
set_option linter.unusedVariables false

section
variable {b : Nat} {w w' w1 w2 : World} {v v' : Vs} {x x' : Sta}
/-- The rows of a state lie off a block. -/
def OffS (b : Nat) (w : World) (v : Vs) (x : Sta) : Prop := StaV w b v x ∨ ∃ B, b < B ∧ StaAt w B v x
theorem OffS.put (h : OffS b w v x) (hb : b < w.heap.size) (hg : w.grownBy w' (some b)) : OffS b w' v x := by
  have hk : KeepS (fun j => j = b) w w' := KeepS.of_grown hg (fun k e => by injection e with e; exact e.symm)
  rcases h with h | ⟨B, h1, h2⟩
  · exact .inl (h.below (hk.below (Nat.le_of_lt hb) (fun k e => by omega)))
  · exact .inr ⟨B, h1, h2.keepS hk (fun j e => by omega)⟩
theorem OffS.below (h : OffS b w v x) (hb : b < w.heap.size) (hB : Below w.heap.size w w') : OffS b w' v x := by
  rcases h with h | ⟨B, h1, h2⟩
  · exact .inl (h.below (hB.mono (Nat.le_of_lt hb)))
  · exact .inr ⟨B, h1, h2.below hB⟩
theorem OffS.read (h : OffS b w v x) (hb : b < w.heap.size) : StaV w w.heap.size v x := by
  rcases h with h | ⟨B, h1, h2⟩
  · exact h.more (Nat.le_of_lt hb)
  · exact h2.read
structure HoldS (b : Nat) (w : World) (v : Vs) (x : Sta) : Prop where
  box : Box w b (staL x v)
  off : OffS b w v x
  ok : x.Ok
theorem HoldS.below (h : HoldS b w v x) (hB : Below w.heap.size w w') : HoldS b w' v x := ⟨h.box.below hB h.box.lt, h.off.below h.box.lt hB, h.ok⟩
theorem HoldS.read (h : HoldS b w v x) : StaV w w.heap.size v x := h.off.read h.box.lt
theorem HoldS.stored (h : b < w.heap.size) (ho : StaAt w1 w.heap.size v' x') (hok : x'.Ok) (hX : Box w2 b (staL x' v')) (hg : w1.grownBy w2 (some b)) : HoldS b w2 v' x' :=
  ⟨hX, .inr ⟨w.heap.size, h, ho.keepS (KeepS.of_grown (S := fun j => j = b) hg (fun k e => by injection e with e; exact e.symm)) (fun j e => by omega)⟩, hok⟩
theorem OffS.same (h : OffS b w v x) (e1 : x'.ldq = x.ldq) (e2 : x'.sdq = x.sdq) (e3 : x'.aeq = x.aeq) (e4 : x'.abq = x.abq) (e5 : x'.ebq = x.ebq) (e6 : x'.saq = x.saq) (e7 : x'.table = x.table) (e8 : x'.mem = x.mem) (e9 : x'.ws = x.ws) : OffS b w v x' := by
  rcases h with h | ⟨B, h1, h2⟩
  · exact .inl ⟨by rw [e1]; exact h.ldq, by rw [e2]; exact h.sdq, by rw [e3]; exact h.aeq, by rw [e4]; exact h.abq, by rw [e5]; exact h.ebq, by rw [e6]; exact h.saq, by rw [e7]; exact h.table, by rw [e8]; exact h.mem, by rw [e9]; exact h.ws⟩
  · exact .inr ⟨B, h1, h2.same e1 e2 e3 e4 e5 e6 e7 e8 e9⟩
/-- Its cycle is written. -/
theorem HoldS.cycle (h : HoldS b w v x) (n : Int) (hX : Box w' b ((staL x v).set 0 (.int .i64 n))) (hg : w.grownBy w' (some b)) : HoldS b w' v { x with cycle := n } :=
  ⟨hX, (h.off.put h.box.lt hg).same rfl rfl rfl rfl rfl rfl rfl rfl rfl, ⟨h.ok.a, h.ok.e⟩⟩
/-- A state in a variable, as it is read. -/
structure HoldR (b : Nat) (w : World) (v : Vs) (x : Sta) : Prop where
  box : Box w b (staL x v)
  read : StaV w w.heap.size v x
  ok : x.Ok
theorem HoldS.hold (h : HoldS b w v x) : HoldR b w v x := ⟨h.box, h.read, h.ok⟩
theorem HoldR.below (h : HoldR b w v x) (hB : Below w.heap.size w w') : HoldR b w' v x := ⟨h.box.below hB h.box.lt, h.read.kept hB, h.ok⟩
/-- The config and the script of a law lie in its first two variables. -/
structure EnvB (w : World) (c : Cfg) (sc : List Value) (k : Nat) (wr : World) : Prop where
  cf : Box wr (w.heap.size + k) (cfgCells c)
  sc : Box wr (w.heap.size + k + 1) sc
  bl : Below w.heap.size w wr
theorem EnvB.below {c : Cfg} {sc : List Value} {k : Nat} (h : EnvB w c sc k w1) (hB : Below w1.heap.size w1 w2) : EnvB w c sc k w2 := ⟨h.cf.below hB h.cf.lt, h.sc.below hB h.sc.lt, h.bl.trans (hB.mono h.bl.size)⟩
theorem EnvB.put {c : Cfg} {sc : List Value} {k : Nat} (h : EnvB w c sc k w1) (hg : w1.grownBy w2 (some b)) (hb : w.heap.size + k + 1 < b) : EnvB w c sc k w2 :=
  ⟨h.cf.grown hg (fun e => by injection e with e; omega), h.sc.grown hg (fun e => by injection e with e; omega), Below.grown h.bl hg h.bl.size (fun q hq => by injection hq with hq; omega)⟩
theorem EnvB.row {c : Cfg} {sc : List Value} {k : Nat} (h : EnvB w c sc k w1) {s n : Nat} {u : Value} {xs : List Value} (hr : Row w w.heap.size s u n xs) : Row w1 w1.heap.size s u n xs := (hr.below h.bl).more h.bl.size
end
end Go.Proofs.Ythhoigkmmlkfcaa.Words

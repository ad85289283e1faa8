/- Several texts in one: RefTrap, Lin, Mach, RefSet, Sgn, AluMath, BytesMath. -/
import Derived.Test.YtdjllgdeijdieaaG01
import Derived.Test.YtdjllgdeijdieaaG00
import Derived.Deep.RegionHeld3

/- Contracts of the document's own trap and value. -/
namespace Go.Proofs.Ytdjllgdeijdieaa.Words
set_option maxRecDepth 100000
open Go.RowKit
set_option linter.unusedVariables false

/-- A register, 0 for register 0. -/
def valZ (regs : List Int) (k : Nat) : Int := if k = 0 then 0 else regs.getD k 0
theorem valZ_range {regs : List Int} (h : ∀ x ∈ regs, 0 ≤ x ∧ x ≤ 4294967295) (k : Nat) : 0 ≤ valZ regs k ∧ valZ regs k ≤ 4294967295 := by
  unfold valZ
  split
  · omega
  · rw [List.getD_eq_getElem?_getD]
    rcases hx : regs[k]? with _ | x
    · simp
    · simpa using h x (List.mem_of_getElem? hx)

/-- The result of a trap. -/
def trapZ (r : Res) (k pc : Int) : Res := { r with e := 2, tk := k, ts := r.st, tp := pc }

end Go.Proofs.Ytdjllgdeijdieaa.Words

/- A law of no one program: A REGION THAT DRAWS ITS ORDER, WALKED IN ONE ORDER. 'linOk' (reckoned by the kernel) says of an order: an operation that is marked (it only reads) may come up at its time and waits for nobody it could disturb; one that is not marked is alone in being able to come up.
   The condition S on the world may be made stronger on the way ('lin_more'): so what a callee has just made may be read by an operation that Go may carry out later. -/
namespace Go.Proofs.Ytdjllgdeijdieaa.Words
set_option maxRecDepth 100000
open Go.RowKit

def linOk (md : Region.Mode) (ops : Array Oper) : List (Nat × Bool) → Array Bool → Bool
  | [], listed => (Region.ready md ops listed).isEmpty
  | (i, true) :: rest, listed => (Region.ready md ops listed).contains i && Region.free md ops listed i && linOk md ops rest (listed.setIfInBounds i true)
  | (i, false) :: rest, listed => (Region.ready md ops listed == [i]) && linOk md ops rest (listed.setIfInBounds i true)

section
variable {P : Program} {ops : Array Oper} {Q : Exit → Act → World → Prop} {md : Region.Mode}

/-- One operation that may turn the world. -/
def linStep (P : Program) (ops : Array Oper) (Q : Exit → Act → World → Prop) (o : Oper) (K : Act → World → Prop) (a : Act) (w : World) : Prop :=
  if Region.wanted o (yielded ops a.tmps) = true then o.wp P a w K Q else K (a.put o.dst undef) w

def wpLin (P : Program) (ops : Array Oper) (Q : Exit → Act → World → Prop) : List (Option Oper × Bool) → (World → Prop) → Act → World → Prop
  | [], _, a, w => Q .normal a w
  | (none, _) :: _, _, _, _ => False
  | (some o, true) :: rest, S, a, w => ∃ S' : World → Prop, (∀ x, S' x → S x) ∧ S' w ∧ ∃ v, YieldsIf P ops S' o v a ∧ wpLin P ops Q rest S' (a.put o.dst v) w
  | (some o, false) :: rest, S, a, w => ∃ S' : World → Prop, (∀ x, S' x → S x) ∧ S' w ∧ linStep P ops Q o (fun a' w' => S' w' ∧ wpLin P ops Q rest S' a' w') a w

theorem held_weaken {S S' : World → Prop} (hS : ∀ x, S' x → S x) : ∀ (fuel : Nat) (listed : Array Bool) (a : Act) (w : World), wpAnyH P md ops Q S' fuel listed a w → wpAnyH P md ops Q S fuel listed a w
  | 0, _, _, _, h => h
  | fuel + 1, _, _, _, h => ⟨h.1, fun i hi => wpOp_mono (fun a' w' h' => ⟨hS _ h'.1, held_weaken hS fuel _ a' w' h'.2⟩) (h.2 i hi)⟩

theorem held_lin (hs : Region.noSelect ops = true) (hQ : ∀ d v c a w, Q (.panic c) (a.put d v) w → Q (.panic c) a w) :
    ∀ (order : List (Nat × Bool)) (listed : Array Bool) (S : World → Prop) (a : Act) (w : World), linOk md ops order listed = true →
      wpLin P ops Q (order.map fun p => (ops[p.1]?, p.2)) S a w → wpAnyH P md ops Q S order.length listed a w
  | [], listed, S, a, w, hok, h => ⟨by simpa [linOk] using hok, h⟩
  | (i, true) :: rest, listed, S, a, w, hok, h => by
    simp only [linOk, Bool.and_eq_true] at hok
    obtain ⟨⟨h1, h2⟩, h3⟩ := hok
    rcases ho : ops[i]? with _ | o
    · simp only [List.map_cons, ho, wpLin] at h
    · simp only [List.map_cons, ho, wpLin] at h
      obtain ⟨S', k1, k2, v, k3, k4⟩ := h
      exact held_weaken k1 _ _ _ _ (wpAnyH_take ho hs h2 h1 (hQ _ _) k3 k2 (held_lin hs hQ rest _ S' _ w h3 k4))
  | (i, false) :: rest, listed, S, a, w, hok, h => by
    simp only [linOk, Bool.and_eq_true, beq_iff_eq] at hok
    obtain ⟨h1, h3⟩ := hok
    rcases ho : ops[i]? with _ | o
    · simp only [List.map_cons, ho, wpLin] at h
    · simp only [List.map_cons, ho, wpLin] at h
      obtain ⟨S', k1, k2, k3⟩ := h
      refine held_weaken k1 _ _ _ _ (wpAnyH_all h1 (by simp) fun j hj => ?_)
      have hji : j = i := by simpa using hj
      subst hji
      unfold wpOp
      simp only [ho]
      unfold linStep at k3
      split at k3
      · rename_i hw
        rw [if_pos hw]
        exact .inl (Oper.wp_mono (fun a' w' hk => ⟨hk.1, held_lin hs hQ rest _ S' a' w' h3 hk.2⟩) k3)
      · rename_i hw
        rw [if_neg hw]
        exact ⟨k3.1, held_lin hs hQ rest _ S' _ _ h3 k3.2⟩

/-- THE REGION. -/
theorem wp_region_lin {id : Nat} {a : Act} {w : World} (order : List (Nat × Bool)) (hm : P.follows .mixedOrders = true) (hs : Region.noSelect ops = true) (hl : order.length = ops.size)
    (hok : linOk .any ops order (Array.replicate ops.size false) = true) (S : World → Prop)
    (h : wpLin P ops (NoPanic Q) (order.map fun p => (ops[p.1]?, p.2)) S a w.drew) : (Code.region id ops true).wp P Q a w := by
  refine wp_region_noPanic (wp_region_held hm (S := S) ?_)
  have hh := held_lin hs (fun _ _ _ _ _ h => h) order _ S a w.drew hok h
  rw [hl] at hh
  exact hh

theorem lin_take {o : Oper} {rest : List (Option Oper × Bool)} {S : World → Prop} {a : Act} {w : World} {v : Value} (hS : S w)
    (hw : Region.wanted o (yielded ops a.tmps) = true) (hy : ∀ x, S x → (execOp a.eval o).run P x = .ok (.value v) x)
    (h : wpLin P ops Q rest S (a.put o.dst v) w) : wpLin P ops Q ((some o, true) :: rest) S a w := ⟨S, fun _ h => h, hS, v, .inl ⟨hw, hy⟩, h⟩
theorem lin_skip {o : Oper} {rest : List (Option Oper × Bool)} {S : World → Prop} {a : Act} {w : World} (hS : S w)
    (hw : Region.wanted o (yielded ops a.tmps) = false) (h : wpLin P ops Q rest S (a.put o.dst undef) w) : wpLin P ops Q ((some o, true) :: rest) S a w := ⟨S, fun _ h => h, hS, undef, .inr ⟨hw, rfl⟩, h⟩
theorem lin_call {o : Oper} {rest : List (Option Oper × Bool)} {S : World → Prop} {a : Act} {w : World} (hS : S w) (hw : Region.wanted o (yielded ops a.tmps) = true)
    (h : ∀ K : Act → World → Prop, Shut (∀ a w, S w → (S w → wpLin P ops Q rest S a w) → K a w) → Oper.wp P o a w K Q) : wpLin P ops Q ((some o, false) :: rest) S a w :=
  ⟨S, fun _ h => h, hS, by unfold linStep; rw [if_pos hw]; exact h _ (fun _ _ h1 h2 => ⟨h1, h2 h1⟩)⟩
theorem lin_more {l : List (Option Oper × Bool)} {S S' : World → Prop} {a : Act} {w : World} (h1 : ∀ x, S' x → S x) (h : wpLin P ops Q l S' a w) : wpLin P ops Q l S a w := by
  rcases l with _ | ⟨⟨o, b⟩, rest⟩
  · exact h
  · rcases o with _ | o
    · exact h
    · cases b
      · obtain ⟨S2, k1, k2⟩ := h
        exact ⟨S2, fun x hx => h1 x (k1 x hx), k2⟩
      · obtain ⟨S2, k1, k2⟩ := h
        exact ⟨S2, fun x hx => h1 x (k1 x hx), k2⟩
theorem lin_done {S : World → Prop} {a : Act} {w : World} (h : Q .normal a w) : wpLin P ops (NoPanic Q) [] S a w := h
end
end Go.Proofs.Ytdjllgdeijdieaa.Words

/- The machine of package seq as plain data: its 25 cells in one block; laws of no one program for regions that draw their order and speak of such a block. -/
namespace Go.Proofs.Ytdjllgdeijdieaa.Words
set_option maxRecDepth 100000
open Go.RowKit
set_option linter.unusedVariables false

/-- The 25 cells of a machine: its code, its result's 23 cells, its place. -/
def machL (vc : Value) (L : List Value) (pc : Int) : List Value := vc :: (L ++ [.int .i64 pc])
section
variable {vc : Value} {L : List Value} {pc : Int}
theorem machL_len (h : L.length = 23) : (machL vc L pc).length = 25 := by simp [machL, h]
theorem machL_0 : (machL vc L pc)[0]? = some vc := rfl
theorem machL_res (h : L.length = 23) {j : Nat} {v : Value} (hv : L[j]? = some v) : (machL vc L pc)[j + 1]? = some v := by
  have hj : j < L.length := (List.getElem?_eq_some_iff.1 hv).1
  unfold machL
  rw [List.getElem?_cons_succ, List.getElem?_append_left hj, hv]
theorem machL_24 (h : L.length = 23) : (machL vc L pc)[24]? = some (.int .i64 pc) := by
  unfold machL
  rw [show 24 = 23 + 1 from rfl, List.getElem?_cons_succ, List.getElem?_append_right (by omega), h]; rfl
theorem machL_set (h : L.length = 23) (j : Nat) (hj : j < 23) (v : Value) : (machL vc L pc).set (j + 1) v = machL vc (L.set j v) pc := by
  unfold machL
  rw [List.set_cons_succ, List.set_append_left _ _ (by omega)]
theorem machL_set24 (h : L.length = 23) (q : Int) : (machL vc L pc).set 24 (.int .i64 q) = machL vc L q := by
  unfold machL
  rw [show 24 = 23 + 1 from rfl, List.set_cons_succ, List.set_append_right _ _ (by omega), h]; rfl
theorem machL_splice (h : L.length = 23) (o : Nat) (cs : List Value) (ho : o + cs.length ≤ 23) : splice (machL vc L pc) (o + 1) cs = machL vc (splice L o cs) pc := by
  unfold machL splice
  simp only [List.take_succ_cons, List.cons_append, List.append_assoc]
  rw [List.take_append_of_le_length (by omega), show o + 1 + cs.length = (o + cs.length) + 1 by omega, List.drop_succ_cons, List.drop_append_of_le_length (by omega)]
theorem machL_one (h0 : vc.oneCell' = true) (hL : ∀ u ∈ L, u.oneCell' = true) : ∀ u ∈ machL vc L pc, u.oneCell' = true := by
  intro u hu
  unfold machL at hu
  simp only [List.mem_cons, List.mem_append, List.not_mem_nil, or_false] at hu
  rcases hu with rfl | h | rfl
  · exact h0
  · exact hL _ h
  · rfl
end

/-- The machine's block: its cells are l, and its type is the machine's (so no row of bytes or of writes lies in it). -/
def MBox (w : World) (b : Nat) (l : List Value) : Prop := w.heap[b]? = some (.cells l.toArray 59 (0, 0))
section
variable {w w' : World} {b : Nat} {l : List Value}
theorem MBox.box (h : MBox w b l) : Box w b l := ⟨_, h⟩
theorem MBox.new (w : World) (l : List Value) : MBox (w.alloc (.cells l.toArray 59)) w.heap.size l := heap_alloc_new w _
theorem MBox.lt (h : MBox w b l) : b < w.heap.size := h.box.lt
theorem MBox.cell (h : MBox w b l) {k : Nat} {v : Value} (hk : l[k]? = some v) : w.cell? ⟨b, k, none⟩ = some v := h.box.cell hk
theorem MBox.frozen (h : MBox w b l) (k : Nat) : w.frozen? ⟨b, k, none⟩ = false := h.box.frozen k
theorem MBox.below {B : Nat} (h : MBox w b l) (hb : Below B w w') (hB : b < B) : MBox w' b l := (hb.block b hB).trans h
theorem MBox.grown {row : Option Nat} (h : MBox w b l) (hg : w.grownBy w' row) (hne : some b ≠ row) : MBox w' b l := (hg.block b h.lt hne).trans h
theorem MBox.alloc (h : MBox w b l) (o : Obj) : MBox (w.alloc o) b l := (heap_alloc_old w o h.lt).trans h
theorem MBox.drew (h : MBox w b l) : MBox w.drew b l := h
theorem MBox.setCell (h : MBox w b l) (k : Nat) (v : Value) : MBox (w.setCell ⟨b, k, none⟩ v) b (l.set k v) := by
  unfold MBox at *
  unfold World.setCell
  simp only [Array.getElem?_modify, if_pos, h]
  simp
theorem MBox.setCell_other (h : MBox w b l) {b' : Nat} (hne : b ≠ b') (k : Nat) (v : Value) : MBox (w.setCell ⟨b', k, none⟩ v) b l := by
  unfold MBox at *
  unfold World.setCell
  simp only [Array.getElem?_modify, if_neg (show ¬ b' = b from fun e => hne e.symm), h]
theorem MBox.setCells : ∀ {vs : List Value} {o : Nat} {w : World} {l : List Value}, MBox w b l → o + vs.length ≤ l.length → MBox (w.setCells b o vs) b (splice l o vs)
  | [], o, w, l, h, hl => by rw [splice_nil]; exact h
  | v :: r, o, w, l, h, hl => by
    have hl' : o < l.length := by simp at hl; omega
    rw [World.setCells, splice_cons _ _ _ _ hl']
    exact MBox.setCells (h.setCell o v) (by simp at hl ⊢; omega)
theorem own_notM {B s n : Nat} {e : TypeId} {v : Value} {xs : List Value} (ho : w.ownsRow B e s v n xs) (hb : MBox w b l) (he : e ≠ 59) : v.ownBlock ≠ some b := by
  rcases ho.2 with ⟨rfl, _⟩ | ⟨g1, c1, cur1, rfl, _, a1, _⟩
  · intro h; cases h
  · intro h
    simp only [Value.ownBlock, Option.some.injEq] at h
    subst h
    unfold MBox at hb
    rw [a1] at hb
    simp only [Option.some.injEq, Obj.cells.injEq] at hb
    exact he hb.2.1
theorem ne_u8 : 5 ≠ 59 := by decide
theorem ne_wr : 38 ≠ 59 := by decide
theorem ResOwn.grownM {B : Nat} {vm vw : Value} {r : Res} (h : ResOwn w B vm vw r) (hb : MBox w b l) (hg : w.grownBy w' (some b)) : ResOwn w' B vm vw r :=
  ⟨h.mem.kept hg (.inr (own_notM h.mem hb ne_u8)), h.ws.kept hg (.inr (own_notM h.ws hb ne_wr)), h.regs⟩
theorem own_setM {B s n k : Nat} {e : TypeId} {v : Value} {xs : List Value} (ho : w.ownsRow B e s v n xs) (hb : MBox w b l) (he : e ≠ 59) (u : Value) : (w.setCell ⟨b, k, none⟩ u).ownsRow B e s v n xs :=
  ho.kept (grown_setCell w b k u hb.lt) (.inr (own_notM ho hb he))
end
section
theorem grown_trans {a b c : World} {row : Option Nat} (h1 : a.grownBy b row) (h2 : b.grownBy c row) : a.grownBy c row :=
  ⟨h2.os.trans h1.os, h2.tape.trans h1.tape, h2.output.trans h1.output, Nat.le_trans h1.size h2.size, fun i hi hne => (h2.block i (Nat.lt_of_lt_of_le hi h1.size) hne).trans (h1.block i hi hne)⟩
theorem grown_drew {a b : World} {row : Option Nat} (h1 : a.grownBy b row) : a.grownBy b.drew row := ⟨h1.os, h1.tape, h1.output, h1.size, h1.block⟩
theorem grown_of_below {a b : World} {row : Option Nat} (h : Below a.heap.size a b) : a.grownBy b row := ⟨h.os, h.tape, h.output, h.size, fun k hk _ => h.block k hk⟩
theorem below_of_grown {a b : World} {k B : Nat} (h : a.grownBy b (some k)) (hk : B ≤ k) (hB : B ≤ a.heap.size) : Below B a b := Below.grown (Below.refl _ _) h hB (fun i hi => by injection hi with hi; omega)
end
section
variable {P : Program} {ops : Array Oper} {rest : List (Option Oper × Bool)} {o : Oper} {a : Act} {Q : Exit → Act → World → Prop} {S : World → Prop} {w : World}
/-- In a region that draws its order: a variable of many cells is read. -/
theorem lin_load_box (hS : S w) (hw : Region.wanted o (yielded ops a.tmps) = true) (ty : TypeId) (x : Operand) (ho : o.op = .load ty x)
    (b k : Nat) (hx : a.eval x = .pointer (some ⟨b, k, none⟩)) (l cs : List Value) (hb : ∀ y, S y → Box y b l) (hc : ∀ j v, cs[j]? = some v → l[k + j]? = some v) (d : TypeDesc)
    (hu : P.underlying ty = some d) (hd : d.isRow = true) (n : Nat) (hi : (P.info? ty).map (·.size) = some n) (hn : cs.length = n)
    (h : wpLin P ops Q rest S (a.put o.dst (.agg cs.toArray)) w) : wpLin P ops Q ((some o, true) :: rest) S a w :=
  ⟨S, fun _ h => h, hS, _, yieldsIf_load_mid hw ty x ho b k hx cs d (fun y hy => (hb y hy).range hc) hu hd (by rw [hn]; exact hi), h⟩
/-- In a region that draws its order: a variable of many cells is written. -/
theorem lin_store_box (hS : S w) (hw : Region.wanted o (yielded ops a.tmps) = true) (ty : TypeId) (x y : Operand) (ho : o.op = .store ty x y)
    (b k : Nat) (cs : List Value) (hx : a.eval x = .pointer (some ⟨b, k, none⟩)) (hy : a.eval y = .agg cs.toArray) (l : List Value) (hb : Box w b l) (hl : k + cs.length ≤ l.length)
    (n : Nat) (hi : (P.info? ty).map (·.size) = some n) (hn : cs.length = n) (h1 : ∀ v ∈ cs, v.oneCell' = true)
    (hT : ∀ w', Box w' b (splice l k cs) → w.grownBy w' (some b) → S w')
    (h : ∀ w', Box w' b (splice l k cs) → w.grownBy w' (some b) → wpLin P ops Q rest S (a.put o.dst undef) w') : wpLin P ops Q ((some o, false) :: rest) S a w :=
  lin_call hS hw fun K hK => wp_store_mid ty x y ho b k cs.toArray hx hy (hb.there (by simpa using hl)) (by rw [hi]; simp [hn]) (all_oneCell_toArray h1) (hK.out _ _
    (hT _ (by simpa using hb.setCells hl) (by simpa using grown_setCells w b cs k hb.lt)) fun _ => h _ (by simpa using hb.setCells hl) (by simpa using grown_setCells w b cs k hb.lt))
theorem lin_store_mbox (hS : S w) (hw : Region.wanted o (yielded ops a.tmps) = true) (ty : TypeId) (x y : Operand) (ho : o.op = .store ty x y)
    (b k : Nat) (cs : List Value) (hx : a.eval x = .pointer (some ⟨b, k, none⟩)) (hy : a.eval y = .agg cs.toArray) (l : List Value) (hb : MBox w b l) (hl : k + cs.length ≤ l.length)
    (n : Nat) (hi : (P.info? ty).map (·.size) = some n) (hn : cs.length = n) (h1 : ∀ v ∈ cs, v.oneCell' = true)
    (hT : ∀ w', MBox w' b (splice l k cs) → w.grownBy w' (some b) → S w')
    (h : ∀ w', MBox w' b (splice l k cs) → w.grownBy w' (some b) → wpLin P ops Q rest S (a.put o.dst undef) w') : wpLin P ops Q ((some o, false) :: rest) S a w :=
  lin_call hS hw fun K hK => wp_store_mid ty x y ho b k cs.toArray hx hy (hb.box.there (by simpa using hl)) (by rw [hi]; simp [hn]) (all_oneCell_toArray h1) (hK.out _ _
    (hT _ (by simpa using hb.setCells hl) (by simpa using grown_setCells w b cs k hb.lt)) fun _ => h _ (by simpa using hb.setCells hl) (by simpa using grown_setCells w b cs k hb.lt))
end
end Go.Proofs.Ytdjllgdeijdieaa.Words

/- Contract of the document's own set: a register of a result that lies in memory. -/
namespace Go.Proofs.Ytdjllgdeijdieaa.Words
set_option maxRecDepth 100000
open Go.RowKit
set_option linter.unusedVariables false

theorem info_rregs : (Try.prog.info? 31).map (·.size) = some 16 := by kernel_rfl

end Go.Proofs.Ytdjllgdeijdieaa.Words

/- A word as a number with a sign. Nothing here speaks of one program text. -/
namespace Go.Proofs.Ytdjllgdeijdieaa.Words
set_option maxRecDepth 100000
open Go.RowKit

/-- A word as a number with a sign. -/
def sgn (n : Int) : Int := if n < 2147483648 then n else n - 4294967296
theorem sgn_low {n : Int} (h : n < 2147483648) : sgn n = n := by unfold sgn; rw [if_pos h]
theorem sgn_high {n : Int} (h : 2147483648 ≤ n) : sgn n = n - 4294967296 := by unfold sgn; rw [if_neg (by omega)]
theorem sgn_range {n : Int} (h0 : 0 ≤ n) (h1 : n < 4294967296) : -2147483648 ≤ sgn n ∧ sgn n ≤ 2147483647 := by unfold sgn; split <;> omega
theorem sgn_of (n : Int) (h0 : 0 ≤ n) (h1 : n < 4294967296) : sgn n % 4294967296 = n := by unfold sgn; split <;> omega
theorem of_sgn (n : Int) (h0 : -2147483648 ≤ n) (h1 : n ≤ 2147483647) : sgn (n % 4294967296) = n := by unfold sgn; split <;> omega

end Go.Proofs.Ytdjllgdeijdieaa.Words

/- Plain mathematics of chapter 3: what each operation makes of two words, which branch is taken, how long an operation takes. Nothing here speaks of one program. -/
namespace Go.Proofs.Ytdjllgdeijdieaa.Words
set_option maxRecDepth 100000
open Go.RowKit

/-- What an operation of form 1 makes of two words. -/
def threeZ (op a b : Int) : Int :=
  if op = 1 then (a + b) % 4294967296
  else if op = 2 then (a - b) % 4294967296
  else if op = 3 then bits .and .u32 a b
  else if op = 4 then bits .or .u32 a b
  else if op = 5 then bits .xor .u32 a b
  else if op = 6 then a * 2 ^ (b % 32).toNat % 4294967296
  else if op = 7 then a / 2 ^ (b % 32).toNat
  else if op = 8 then sgn a / 2 ^ (b % 32).toNat % 4294967296
  else if op = 9 then (if sgn a < sgn b then 1 else 0)
  else if op = 10 then (if a < b then 1 else 0)
  else if op = 11 then a * b % 4294967296
  else if op = 12 then sgn a * sgn b / 4294967296 % 4294967296
  else if b = 0 then 0
  else if op = 13 then (sgn a).tdiv (sgn b) % 4294967296
  else if op = 14 then a / b
  else if op = 15 then (sgn a).tmod (sgn b) % 4294967296
  else a % b
/-- Does it divide by nought? false: so. -/
def threeB (op b : Int) : Bool := decide (op ≤ 12 ∨ b ≠ 0)

theorem threeZ_1 (a b : Int) : threeZ 1 a b = (a + b) % 4294967296 := rfl
theorem threeZ_2 (a b : Int) : threeZ 2 a b = (a - b) % 4294967296 := rfl
theorem threeZ_3 (a b : Int) : threeZ 3 a b = bits .and .u32 a b := rfl
theorem threeZ_4 (a b : Int) : threeZ 4 a b = bits .or .u32 a b := rfl
theorem threeZ_5 (a b : Int) : threeZ 5 a b = bits .xor .u32 a b := rfl
theorem threeZ_6 (a b : Int) : threeZ 6 a b = a * 2 ^ (b % 32).toNat % 4294967296 := rfl
theorem threeZ_7 (a b : Int) : threeZ 7 a b = a / 2 ^ (b % 32).toNat := rfl
theorem threeZ_8 (a b : Int) : threeZ 8 a b = sgn a / 2 ^ (b % 32).toNat % 4294967296 := rfl
theorem threeZ_9 (a b : Int) : threeZ 9 a b = if sgn a < sgn b then 1 else 0 := rfl
theorem threeZ_10 (a b : Int) : threeZ 10 a b = if a < b then 1 else 0 := rfl
theorem threeZ_11 (a b : Int) : threeZ 11 a b = a * b % 4294967296 := rfl
theorem threeZ_12 (a b : Int) : threeZ 12 a b = sgn a * sgn b / 4294967296 % 4294967296 := rfl
theorem threeZ_0 (op a : Int) (h : 13 ≤ op) : threeZ op a 0 = 0 := by
  unfold threeZ
  repeat rw [if_neg (by omega)]
  rw [if_pos rfl]
theorem threeZ_13 (a b : Int) (h : b ≠ 0) : threeZ 13 a b = (sgn a).tdiv (sgn b) % 4294967296 := by
  show (if b = 0 then 0 else _) = _
  rw [if_neg h]; rfl
theorem threeZ_14 (a b : Int) (h : b ≠ 0) : threeZ 14 a b = a / b := by
  show (if b = 0 then 0 else _) = _
  rw [if_neg h]; rfl
theorem threeZ_15 (a b : Int) (h : b ≠ 0) : threeZ 15 a b = (sgn a).tmod (sgn b) % 4294967296 := by
  show (if b = 0 then 0 else _) = _
  rw [if_neg h]; rfl
theorem threeZ_16 (a b : Int) (h : b ≠ 0) : threeZ 16 a b = a % b := by
  show (if b = 0 then 0 else _) = _
  rw [if_neg h]; rfl

/-- The operation of form 1 that reckons as one of form 2 does. -/
def likeZ (op : Int) : Int :=
  if op = 17 then 1 else if op = 18 then 3 else if op = 19 then 4 else if op = 20 then 5 else if op = 21 then 9 else if op = 22 then 6 else if op = 23 then 7 else if op = 24 then 8 else 0
/-- What an instruction makes of two words. -/
def doZ (i : Ins) (a b : Int) : Int :=
  if rightB i = true then
    (if formZ i.op = 1 then threeZ i.op a b else if formZ i.op = 2 then threeZ (likeZ i.op) a (i.imm % 4294967296) else if formZ i.op = 3 then i.imm * 262144 % 4294967296 else 0)
  else 0
def doB (i : Ins) (b : Int) : Bool := if rightB i = true ∧ formZ i.op = 1 then threeB i.op b else true

/-- Is the branch taken? -/
def takenB (op a b : Int) : Bool :=
  if op = 34 then decide (a = b) else if op = 35 then decide (a ≠ b) else if op = 36 then decide (sgn a < sgn b) else if op = 37 then decide (sgn b ≤ sgn a)
  else if op = 38 then decide (a < b) else if op = 39 then decide (b ≤ a) else false
/-- How long an operation takes. -/
def unitZ (n : Int) : Int := if n < 1 ∨ 50 < n then 1 else n
def latZ (mul div op : Int) : Int := if op = 11 ∨ op = 12 then unitZ mul else if 13 ≤ op ∧ op ≤ 16 then unitZ div else 1

theorem pow_pos' (k : Nat) : (0 : Int) < 2 ^ k := Int.pow_pos (by omega)
theorem ediv_small {a d : Int} (h0 : 0 ≤ a) (h1 : a < 4294967296) (hd : 0 < d) : 0 ≤ a / d ∧ a / d < 4294967296 := by
  refine ⟨Int.ediv_nonneg h0 (by omega), ?_⟩
  have := Int.ediv_le_self d h0
  omega
theorem bits_u32 {op : BinOp} {a b : Int} (ha : 0 ≤ a ∧ a < 4294967296) (hb : 0 ≤ b ∧ b < 4294967296) (h : op = .and ∨ op = .or ∨ op = .xor) : 0 ≤ bits op .u32 a b ∧ bits op .u32 a b < 4294967296 := by
  obtain ⟨x, rfl⟩ := Int.eq_ofNat_of_zero_le ha.1
  obtain ⟨y, rfl⟩ := Int.eq_ofNat_of_zero_le hb.1
  have hx : x < 2 ^ 32 := by omega
  have hy : y < 2 ^ 32 := by omega
  rcases h with rfl | rfl | rfl
  · rw [u32_and_nat x y (by omega) (by omega)]
    have := Nat.and_lt_two_pow x hy
    omega
  · rw [u32_or_nat x y (by omega) (by omega)]
    have := Nat.or_lt_two_pow hx hy
    omega
  · rw [u32_xor_nat x y (by omega) (by omega)]
    have := Nat.xor_lt_two_pow hx hy
    omega
theorem threeZ_range (op a b : Int) (ha : 0 ≤ a ∧ a < 4294967296) (hb : 0 ≤ b ∧ b < 4294967296) : 0 ≤ threeZ op a b ∧ threeZ op a b < 4294967296 := by
  by_cases h1 : op = 1
  · subst h1; rw [threeZ_1]; omega
  by_cases h2 : op = 2
  · subst h2; rw [threeZ_2]; omega
  by_cases h3 : op = 3
  · subst h3; rw [threeZ_3]; exact bits_u32 (op := .and) ha hb (.inl rfl)
  by_cases h4 : op = 4
  · subst h4; rw [threeZ_4]; exact bits_u32 (op := .or) ha hb (.inr (.inl rfl))
  by_cases h5 : op = 5
  · subst h5; rw [threeZ_5]; exact bits_u32 (op := .xor) ha hb (.inr (.inr rfl))
  by_cases h6 : op = 6
  · subst h6; rw [threeZ_6]; omega
  by_cases h7 : op = 7
  · subst h7; rw [threeZ_7]; exact ediv_small ha.1 ha.2 (pow_pos' _)
  by_cases h8 : op = 8
  · subst h8; rw [threeZ_8]; omega
  by_cases h9 : op = 9
  · subst h9; rw [threeZ_9]; split <;> omega
  by_cases h10 : op = 10
  · subst h10; rw [threeZ_10]; split <;> omega
  by_cases h11 : op = 11
  · subst h11; rw [threeZ_11]; omega
  by_cases h12 : op = 12
  · subst h12; rw [threeZ_12]; omega
  by_cases h0 : b = 0
  · unfold threeZ
    rw [if_neg h1, if_neg h2, if_neg h3, if_neg h4, if_neg h5, if_neg h6, if_neg h7, if_neg h8, if_neg h9, if_neg h10, if_neg h11, if_neg h12, if_pos h0]; omega
  by_cases h13 : op = 13
  · subst h13; rw [threeZ_13 _ _ h0]; omega
  by_cases h14 : op = 14
  · subst h14; rw [threeZ_14 _ _ h0]; exact ediv_small ha.1 ha.2 (by omega)
  by_cases h15 : op = 15
  · subst h15; rw [threeZ_15 _ _ h0]; omega
  unfold threeZ
  rw [if_neg h1, if_neg h2, if_neg h3, if_neg h4, if_neg h5, if_neg h6, if_neg h7, if_neg h8, if_neg h9, if_neg h10, if_neg h11, if_neg h12, if_neg h0, if_neg h13, if_neg h14, if_neg h15]
  exact ⟨Int.emod_nonneg _ (by omega), by have := Int.emod_lt_of_pos a (show 0 < b by omega); omega⟩
theorem sgn_zero {b : Int} (hb : 0 ≤ b ∧ b < 4294967296) (h : b ≠ 0) : sgn b ≠ 0 := by unfold sgn; split <;> omega
end Go.Proofs.Ytdjllgdeijdieaa.Words

/- Plain mathematics of chapter 5: sizes, addresses, what is read and what a write leaves. Nothing here speaks of one program text. -/
namespace Go.Proofs.Ytdjllgdeijdieaa.Words
set_option maxRecDepth 100000
open Go.RowKit

/-- How many bytes an operation has. -/
def sizeZ (op : Int) : Int := if op = 26 ∨ op = 31 then 4 else if op = 27 ∨ op = 28 ∨ op = 32 then 2 else if op = 29 ∨ op = 30 ∨ op = 33 then 1 else 0
theorem sizeZ_cases (op : Int) : (sizeZ op = 4 ∧ (op = 26 ∨ op = 31)) ∨ (sizeZ op = 2 ∧ (op = 27 ∨ op = 28 ∨ op = 32)) ∨ (sizeZ op = 1 ∧ (op = 29 ∨ op = 30 ∨ op = 33)) ∨ (sizeZ op = 0 ∧ (op < 26 ∨ 33 < op)) := by
  unfold sizeZ; repeat' split
  all_goals omega
/-- What is wrong with an address. -/
def checkZ (size addr n : Int) : Int := if 1 ≤ size ∧ addr % size ≠ 0 then 1 else if n < addr + size then 2 else 0
theorem checkZ_mis {size addr n : Int} (h1 : 1 ≤ size) (h2 : addr % size ≠ 0) : checkZ size addr n = 1 := by unfold checkZ; rw [if_pos ⟨h1, h2⟩]
theorem checkZ_range {size addr n : Int} (h1 : size < 1 ∨ addr % size = 0) (h2 : n < addr + size) : checkZ size addr n = 2 := by unfold checkZ; rw [if_neg (by omega), if_pos h2]
theorem checkZ_ok {size addr n : Int} (h1 : size < 1 ∨ addr % size = 0) (h2 : addr + size ≤ n) : checkZ size addr n = 0 := by unfold checkZ; rw [if_neg (by omega), if_neg (by omega)]
theorem checkZ_zero {size addr n : Int} (h : checkZ size addr n = 0) : (size < 1 ∨ addr % size = 0) ∧ addr + size ≤ n := by
  unfold checkZ at h
  split at h
  · cases h
  · split at h
    · cases h
    · omega
theorem checkZ_cases (size addr n : Int) : checkZ size addr n = 0 ∨ checkZ size addr n = 1 ∨ checkZ size addr n = 2 := by
  unfold checkZ; repeat' split
  all_goals simp
/-- Have two stretches a byte together? -/
def overlapB (a n b m : Int) : Bool := decide (1 ≤ n ∧ 1 ≤ m ∧ a < b + m ∧ b < a + n)
theorem overlapB_no {a n b m : Int} (h : n < 1 ∨ m < 1 ∨ b + m ≤ a ∨ a + n ≤ b) : overlapB a n b m = false := decide_eq_false (by omega)
theorem overlapB_yes {a n b m : Int} (h1 : 1 ≤ n) (h2 : 1 ≤ m) (h3 : a < b + m) (h4 : b < a + n) : overlapB a n b m = true := decide_eq_true ⟨h1, h2, h3, h4⟩
/-- A word with the sign of what was read. -/
def extendZ (op w : Int) : Int := if op = 27 then (if w % 65536 < 32768 then w % 65536 else w % 65536 + 4294901760) else if op = 29 then (if w % 256 < 128 then w % 256 else w % 256 + 4294967040) else w
/-- The word that so many bytes are. -/
def wordOf (zs : List Int) (a : Nat) (k : Int) : Int :=
  if k = 1 then zs.getD a 0 else if k = 2 then zs.getD a 0 + 256 * zs.getD (a + 1) 0 else if k = 4 then zs.getD a 0 + 256 * zs.getD (a + 1) 0 + 65536 * zs.getD (a + 2) 0 + 16777216 * zs.getD (a + 3) 0 else 0
/-- What Load answers. -/
def loadZ (zs : List Int) (op addr : Int) : Int := if op < 26 ∨ 30 < op ∨ checkZ (sizeZ op) addr zs.length ≠ 0 then 0 else extendZ op (wordOf zs addr.toNat (sizeZ op))
theorem loadZ_no {zs : List Int} {op addr : Int} (h : op < 26 ∨ 30 < op ∨ checkZ (sizeZ op) addr zs.length ≠ 0) : loadZ zs op addr = 0 := by unfold loadZ; rw [if_pos h]
theorem loadZ_yes {zs : List Int} {op addr : Int} (h1 : 26 ≤ op) (h2 : op ≤ 30) (h3 : checkZ (sizeZ op) addr zs.length = 0) : loadZ zs op addr = extendZ op (wordOf zs addr.toNat (sizeZ op)) := by
  unfold loadZ; rw [if_neg]; rw [h3]; simp; omega
/-- May there be written? -/
def storeOk (size addr n : Int) : Bool := decide ((size = 1 ∨ size = 2 ∨ size = 4) ∧ 0 ≤ addr ∧ addr ≤ 4294967295 ∧ checkZ size addr n = 0)
/-- A word's lowest bytes, laid from a place on. -/
def put1 (zs : List Int) (k : Nat) (v : Int) : List Int := zs.set k (v % 256)
def put2 (zs : List Int) (k : Nat) (v : Int) : List Int := (put1 zs k v).set (k + 1) (v / 256 % 256)
def put4 (zs : List Int) (k : Nat) (v : Int) : List Int := ((put2 zs k v).set (k + 2) (v / 65536 % 256)).set (k + 3) (v / 16777216 % 256)
/-- What Store leaves. -/
def storeZ (zs : List Int) (size addr v : Int) : List Int :=
  if storeOk size addr zs.length = true then (if size = 1 then put1 zs addr.toNat v else if size = 2 then put2 zs addr.toNat v else put4 zs addr.toNat v) else zs
theorem storeZ_no {zs : List Int} {size addr v : Int} (h : storeOk size addr zs.length = false) : storeZ zs size addr v = zs := by unfold storeZ; rw [if_neg (by simp [h])]
theorem storeOk_no {size addr n : Int} (h : ¬ ((size = 1 ∨ size = 2 ∨ size = 4) ∧ 0 ≤ addr ∧ addr ≤ 4294967295 ∧ checkZ size addr n = 0)) : storeOk size addr n = false := decide_eq_false h
theorem storeOk_yes {size addr n : Int} (h : storeOk size addr n = true) : (size = 1 ∨ size = 2 ∨ size = 4) ∧ 0 ≤ addr ∧ addr ≤ 4294967295 ∧ checkZ size addr n = 0 := of_decide_eq_true h
theorem storeZ_len (zs : List Int) (size addr v : Int) : (storeZ zs size addr v).length = zs.length := by
  unfold storeZ put4 put2 put1
  split
  · split
    · simp
    · split <;> simp
  · rfl
end Go.Proofs.Ytdjllgdeijdieaa.Words

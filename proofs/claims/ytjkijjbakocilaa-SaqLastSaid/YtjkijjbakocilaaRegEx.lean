/- Laws of no one program: a region that draws its order, walked along a tree, with ONE continuation that knows what the region has made; append onto an own row as a step of such a tree. -/
import Derived.Test.YtjkijjbakocilaaLinT
import Derived.Test.YtjkijjbakocilaaOwnNew
import Derived.Test.YtjkijjbakocilaaBoxes
import Derived.Test.YtjkijjbakocilaaRowLaws
import Derived.Deep.Upon
namespace Go.Proofs.Ytjkijjbakocilaa.Words
set_option maxRecDepth 100000
open Go.RowKit
set_option linter.unusedVariables false
section
variable {P : Program} {ops : Array Oper} {Q : Exit → Act → World → Prop} {R : Act → World → Prop} {α : Type}
theorem region_tree_ex {id : Nat} {a : Act} {w : World} (F : Act → α → Act) (G : α → World → Prop) (t : LinT) (hm : P.follows .mixedOrders = true) (hs : Region.noSelect ops = true) (hl : t.size = ops.size)
    (hok : t.ok .any ops (Array.replicate ops.size false) = true) (S : World → Prop)
    (h : wpT P ops (NoPanic Q) (fun a' w' => ∃ B, a' = F a B ∧ G B w') (t.look ops) S a w.drew) (hR : ∀ B w', G B w' → Q .normal (F a B) w') : (Code.region id ops true).wp P Q a w :=
  wp_region_tree _ t hm hs hl hok S (fun a' w' hh => by obtain ⟨B, rfl, hg⟩ := hh; exact hR B w' hg) h
theorem tree_load_ex {op : Oper} {rest : LinO} {S : World → Prop} {a : Act} {w : World} (hS : S w) (hw : Region.wanted op (yielded ops a.tmps) = true) (ty : TypeId) (x : Operand) (ho : op.op = .load ty x)
    (b k : Nat) (hx : a.eval x = .pointer (some ⟨b, k, none⟩)) (l cs : List Value) (hb : ∀ y, S y → Box y b l) (hc : ∀ j v, cs[j]? = some v → l[k + j]? = some v) (d : TypeDesc)
    (hu : P.underlying ty = some d) (hd : d.isRow = true) (n : Nat) (hi : (P.info? ty).map (·.size) = some n) (hn : cs.length = n)
    (h : wpT P ops Q R rest S (a.put op.dst (.agg cs.toArray)) w) : wpT P ops Q R (.one (some op) true rest) S a w :=
  ⟨S, fun _ h => h, hS, _, yieldsIf_load_mid hw ty x ho b k hx cs d (fun y hy => (hb y hy).range hc) hu hd (by rw [hn]; exact hi), h⟩
end
section
variable {P : Program} {ops : Array Oper} {Q : Exit → Act → World → Prop} {R : Act → World → Prop}
theorem tree_put_cells {op : Oper} {rest : LinO} {S : World → Prop} {a : Act} {w : World} (hS : S w) (hw : Region.wanted op (yielded ops a.tmps) = true) (ty : TypeId) (x y : Operand) (ho : op.op = .store ty x y)
    (b k : Nat) (cs : List Value) (hx : a.eval x = .pointer (some ⟨b, k, none⟩)) (hy : a.eval y = .agg cs.toArray) (l : List Value) (hb : Box w b l) (hl : k + cs.length ≤ l.length)
    (n : Nat) (hi : (P.info? ty).map (·.size) = some n) (hn : cs.length = n) (h1 : ∀ v ∈ cs, v.oneCell' = true)
    (hT : ∀ w', Box w' b (splice l k cs) → w.grownBy w' (some b) → S w')
    (h : ∀ w', Box w' b (splice l k cs) → w.grownBy w' (some b) → wpT P ops Q R rest S (a.put op.dst undef) w') : wpT P ops Q R (.one (some op) false rest) S a w :=
  tree_call hS hw fun K hK => wp_store_mid ty x y ho b k cs.toArray hx hy (hb.there (by simpa using hl)) (by rw [hi]; simp [hn]) (all_oneCell_toArray h1) (hK.out _ _
    (hT _ (by simpa using hb.setCells hl) (by simpa using grown_setCells w b cs k hb.lt)) fun _ => h _ (by simpa using hb.setCells hl) (by simpa using grown_setCells w b cs k hb.lt))
theorem own_less {w : World} {base base' : Nat} {e : TypeId} {size : Nat} {v : Value} {n : Nat} {xs : List Value} (h : w.ownsRow base e size v n xs) (hb : base' ≤ base) : w.ownsRow base' e size v n xs := by
  obtain ⟨h0, h1⟩ := h
  refine ⟨h0, ?_⟩
  rcases h1 with h1 | ⟨g, c, cur, e1, h3, h4⟩
  · exact .inl h1
  · exact .inr ⟨g, c, cur, e1, Nat.le_trans hb h3, h4⟩
end
section
variable {P : Program} {ops : Array Oper} {rest : List (Option Oper × Bool)} {op : Oper} {a : Act} {Q : Exit → Act → World → Prop} {S : World → Prop} {w : World}
theorem lin_put_cells (hS : S w) (hw : Region.wanted op (yielded ops a.tmps) = true) (ty : TypeId) (x y : Operand) (ho : op.op = .store ty x y)
    (b k : Nat) (cs : List Value) (hx : a.eval x = .pointer (some ⟨b, k, none⟩)) (hy : a.eval y = .agg cs.toArray) (l : List Value) (hb : Box w b l) (hl : k + cs.length ≤ l.length)
    (n : Nat) (hi : (P.info? ty).map (·.size) = some n) (hn : cs.length = n) (h1 : ∀ v ∈ cs, v.oneCell' = true)
    (hT : ∀ w', Box w' b (splice l k cs) → w.grownBy w' (some b) → S w')
    (h : ∀ w', Box w' b (splice l k cs) → w.grownBy w' (some b) → wpLin P ops Q rest S (a.put op.dst undef) w') : wpLin P ops Q ((some op, false) :: rest) S a w :=
  lin_call hS hw fun K hK => wp_store_mid ty x y ho b k cs.toArray hx hy (hb.there (by simpa using hl)) (by rw [hi]; simp [hn]) (all_oneCell_toArray h1) (hK.out _ _
    (hT _ (by simpa using hb.setCells hl) (by simpa using grown_setCells w b cs k hb.lt)) fun _ => h _ (by simpa using hb.setCells hl) (by simpa using grown_setCells w b cs k hb.lt))
end
section
variable {P : Program} (w : World)
theorem wp_append_new {o : Oper} {a : Act} {K : Act → World → Prop} {Q : Exit → Act → World → Prop} (s y : Operand) (t : TypeId)
    (ho : o.op = .call { callee := .builtin .append, args := #[s, y], argTypes := #[t, t] })
    (base : Nat) (e : TypeId) (i : TypeInfo) (z : Value) (size bytes : Nat) (ht : P.underlying t = some (.slice e)) (hi : P.info? e = some i) (hz : i.zero = some z)
    (hsize : i.size = size) (hby : i.bytes = bytes) (hzs : z.cells.size = size) (hsz : 0 < size)
    (v : Value) (n : Nat) (xs : List Value) (hs : a.eval s = v) (hown : w.ownsRow base e size v n xs) (B : Nat) (x : Value) (m : Nat) (news : List Value) (hx : a.eval y = x) (hr : Row w B size x m news) (h1 : ∀ u ∈ news, u.oneCell' = true)
    (h63 : n + m ≤ maxLen) (hbytes : (n + m) * bytes ≤ 140737488355328) (hbase : base ≤ w.heap.size)
    (h : ∀ v' w', w'.ownsRow base e size v' (n + m) (xs ++ news) → w.grownBy w' v.ownBlock → (∀ g, v'.ownBlock = some g → v.ownBlock = some g ∨ w.heap.size ≤ g) → K (a.put o.dst v') w') : o.wp P a w K Q := by
  obtain ⟨v', w', hrun, h2, h3, h4⟩ := run_append_new (P := P) w base t o.type e i z size bytes ht hi hz hsize hby hzs hsz v n xs hown B x m news hr h1 h63 hbytes hbase
  unfold Oper.wp execOp
  simp only [ho, resolve, invoke, builtin, Sem.run_bind, Sem.run_pure, Result.andThen_ok, List.map_toArray, List.map_cons, List.map_nil, hs, hx, hrun]
  exact h v' w' h2 h3 h4
theorem wpList_built_at {ops : Array Oper} {rest : List Oper} {o : Oper} {a : Act} {Q : Exit → Act → World → Prop} (hg : o.guard = none) (t : TypeId) (parts : Array (Nat × Operand)) (ho : o.op = .build t parts)
    (cells : Array Value) (hb : P.built t (parts.map fun (i, x) => (i, a.eval x)).toList = some cells) (h : wpList P ops Q rest (a.put o.dst (.agg cells)) w) : wpList P ops Q (o :: rest) a w :=
  wpList_plain hg fun K hK => wp_build t parts ho (by rw [hb]; rfl) (by rw [hb]; exact hK _ _ h)
/-- A row of one record that has just been made. -/
theorem row_new (l : List Value) (s : Nat) (hl : l.length = s) (hs : 0 < s) (t : TypeId) : Row (w.alloc (.cells l.toArray t)) (w.heap.size + 1) s (.slice (some ⟨w.heap.size, 0, none⟩) 1 1) 1 l := by
  refine ⟨by omega, _, _, rfl, Nat.le_refl _, by omega, (fun h => by cases h), fun _ => ⟨w.heap.size, 0, rfl, Nat.lt_succ_self _, fun j u hu => ?_⟩⟩
  have := new_cells w l.toArray t l rfl j u hu
  rwa [add_spot] at this
end
end Go.Proofs.Ytjkijjbakocilaa.Words

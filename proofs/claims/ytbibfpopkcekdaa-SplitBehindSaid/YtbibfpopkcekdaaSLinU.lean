/- A law of no one program: a region that draws its order, walked along a tree of orders with forks of two and of THREE, with one continuation (texts LinT and RegEx, a fork more). -/
import Derived.Test.YtbibfpopkcekdaaG05
namespace Go.Proofs.Ytbibfpopkcekdaa.Words
set_option maxRecDepth 100000
open Go.RowKit
set_option linter.unusedVariables false

inductive LinU | nil | one (i : Nat) (b : Bool) (r : LinU) | two (i j : Nat) (r s : LinU) | three (i j k : Nat) (r s t : LinU)
inductive LinV | nil | one (o : Option Oper) (b : Bool) (r : LinV) | two (o o' : Option Oper) (r s : LinV) | three (o o' o2 : Option Oper) (r s t : LinV)
def LinU.look (ops : Array Oper) : LinU → LinV
  | .nil => .nil
  | .one i b r => .one ops[i]? b (r.look ops)
  | .two i j r s => .two ops[i]? ops[j]? (r.look ops) (s.look ops)
  | .three i j k r s t => .three ops[i]? ops[j]? ops[k]? (r.look ops) (s.look ops) (t.look ops)
def LinU.size : LinU → Nat
  | .nil => 0
  | .one _ _ r => r.size + 1
  | .two _ _ r _ => r.size + 1
  | .three _ _ _ r _ _ => r.size + 1
def LinU.ok (md : Region.Mode) (ops : Array Oper) : LinU → Array Bool → Bool
  | .nil, listed => (Region.ready md ops listed).isEmpty
  | .one i true r, listed => (Region.ready md ops listed).contains i && Region.free md ops listed i && r.ok md ops (listed.setIfInBounds i true)
  | .one i false r, listed => (Region.ready md ops listed == [i]) && r.ok md ops (listed.setIfInBounds i true)
  | .two i j r s, listed => (Region.ready md ops listed == [i, j]) && r.size == s.size && r.ok md ops (listed.setIfInBounds i true) && s.ok md ops (listed.setIfInBounds j true)
  | .three i j k r s t, listed => (Region.ready md ops listed == [i, j, k]) && r.size == s.size && r.size == t.size && r.ok md ops (listed.setIfInBounds i true) && s.ok md ops (listed.setIfInBounds j true) && t.ok md ops (listed.setIfInBounds k true)
/-- A list of orders as a tree. -/
def LinU.of : List (Nat × Bool) → LinU → LinU
  | [], t => t
  | (i, b) :: l, t => .one i b (LinU.of l t)

section
variable {P : Program} {ops : Array Oper} {Q : Exit → Act → World → Prop} {R : Act → World → Prop} {md : Region.Mode}

def wpU (P : Program) (ops : Array Oper) (Q : Exit → Act → World → Prop) (R : Act → World → Prop) : LinV → (World → Prop) → Act → World → Prop
  | .nil, _, a, w => R a w
  | .one (some o) true rest, S, a, w => ∃ S' : World → Prop, (∀ x, S' x → S x) ∧ S' w ∧ ∃ v, YieldsIf P ops S' o v a ∧ wpU P ops Q R rest S' (a.put o.dst v) w
  | .one (some o) false rest, S, a, w => ∃ S' : World → Prop, (∀ x, S' x → S x) ∧ S' w ∧ linStep P ops Q o (fun a' w' => S' w' ∧ wpU P ops Q R rest S' a' w') a w
  | .two (some o) (some o') r s, S, a, w => ∃ S' : World → Prop, (∀ x, S' x → S x) ∧ S' w ∧ linStep P ops Q o (fun a' w' => S' w' ∧ wpU P ops Q R r S' a' w') a w ∧ linStep P ops Q o' (fun a' w' => S' w' ∧ wpU P ops Q R s S' a' w') a w
  | .three (some o) (some o') (some o2) r s t, S, a, w => ∃ S' : World → Prop, (∀ x, S' x → S x) ∧ S' w ∧ linStep P ops Q o (fun a' w' => S' w' ∧ wpU P ops Q R r S' a' w') a w ∧ linStep P ops Q o' (fun a' w' => S' w' ∧ wpU P ops Q R s S' a' w') a w ∧ linStep P ops Q o2 (fun a' w' => S' w' ∧ wpU P ops Q R t S' a' w') a w
  | .three none _ _ _ _ _, _, _, _ => False
  | .three (some _) none _ _ _ _, _, _, _ => False
  | .three (some _) (some _) none _ _ _, _, _, _ => False
  | .one none _ _, _, _, _ => False
  | .two none _ _ _, _, _, _ => False
  | .two (some _) none _ _, _, _, _ => False

theorem held_utree (hs : Region.noSelect ops = true) (hQ : ∀ d v c a w, Q (.panic c) (a.put d v) w → Q (.panic c) a w) (hR : ∀ a w, R a w → Q .normal a w) :
    ∀ (t : LinU) (listed : Array Bool) (S : World → Prop) (a : Act) (w : World), t.ok md ops listed = true → wpU P ops Q R (t.look ops) S a w → wpAnyH P md ops Q S t.size listed a w
  | .nil, listed, S, a, w, hok, h => ⟨by simpa [LinU.ok] using hok, hR _ _ h⟩
  | .one i true rest, listed, S, a, w, hok, h => by
    simp only [LinU.ok, Bool.and_eq_true] at hok
    obtain ⟨⟨h1, h2⟩, h3⟩ := hok
    rcases ho : ops[i]? with _ | o
    · simp only [LinU.look, ho, wpU] at h
    · simp only [LinU.look, ho, wpU] at h
      obtain ⟨S', k1, k2, v, k3, k4⟩ := h
      exact held_weaken k1 _ _ _ _ (wpAnyH_take ho hs h2 h1 (hQ _ _) k3 k2 (held_utree hs hQ hR rest _ S' _ w h3 k4))
  | .one i false rest, listed, S, a, w, hok, h => by
    simp only [LinU.ok, Bool.and_eq_true, beq_iff_eq] at hok
    obtain ⟨h1, h3⟩ := hok
    rcases ho : ops[i]? with _ | o
    · simp only [LinU.look, ho, wpU] at h
    · simp only [LinU.look, ho, wpU] at h
      obtain ⟨S', k1, k2, k3⟩ := h
      refine held_weaken k1 _ _ _ _ (wpAnyH_all h1 (by simp) fun j hj => ?_)
      have hji : j = i := by simpa using hj
      subst hji
      exact step_any ho (fun a w hk => held_utree hs hQ hR rest _ S' a w h3 hk) k3
  | .two i j r s, listed, S, a, w, hok, h => by
    simp only [LinU.ok, Bool.and_eq_true, beq_iff_eq] at hok
    obtain ⟨⟨⟨h1, h2⟩, h3⟩, h4⟩ := hok
    rcases ho : ops[i]? with _ | o
    · simp only [LinU.look, ho, wpU] at h
    · rcases ho' : ops[j]? with _ | o'
      · simp only [LinU.look, ho, ho', wpU] at h
      · simp only [LinU.look, ho, ho', wpU] at h
        obtain ⟨S', k1, k2, k3, k4⟩ := h
        refine held_weaken k1 _ _ _ _ (wpAnyH_all h1 (by simp) fun k hk => ?_)
        have hki : k = i ∨ k = j := by simpa using hk
        rcases hki with rfl | rfl
        · exact step_any ho (fun a w hk => held_utree hs hQ hR r _ S' a w h3 hk) k3
        · exact step_any ho' (fun a w hk => (show wpAnyH P md ops Q S' r.size _ a w by rw [h2]; exact held_utree hs hQ hR s _ S' a w h4 hk)) k4

  | .three i j k r s t, listed, S, a, w, hok, h => by
    simp only [LinU.ok, Bool.and_eq_true, beq_iff_eq] at hok
    obtain ⟨⟨⟨⟨⟨h1, h2⟩, h2'⟩, h3⟩, h4⟩, h5⟩ := hok
    rcases ho : ops[i]? with _ | o
    · simp only [LinU.look, ho, wpU] at h
    · rcases ho' : ops[j]? with _ | o'
      · simp only [LinU.look, ho, ho', wpU] at h
      · rcases ho2 : ops[k]? with _ | o2
        · simp only [LinU.look, ho, ho', ho2, wpU] at h
        · simp only [LinU.look, ho, ho', ho2, wpU] at h
          obtain ⟨S', k1, k2, k3, k4, k5⟩ := h
          refine held_weaken k1 _ _ _ _ (wpAnyH_all h1 (by simp) fun q hq => ?_)
          have hki : q = i ∨ q = j ∨ q = k := by simpa using hq
          rcases hki with rfl | rfl | rfl
          · exact step_any ho (fun a w hk => held_utree hs hQ hR r _ S' a w h3 hk) k3
          · exact step_any ho' (fun a w hk => (show wpAnyH P md ops Q S' r.size _ a w by rw [h2]; exact held_utree hs hQ hR s _ S' a w h4 hk)) k4
          · exact step_any ho2 (fun a w hk => (show wpAnyH P md ops Q S' r.size _ a w by rw [h2']; exact held_utree hs hQ hR t _ S' a w h5 hk)) k5

/-- THE REGION. -/
theorem wp_region_utree {id : Nat} {a : Act} {w : World} (R : Act → World → Prop) (t : LinU) (hm : P.follows .mixedOrders = true) (hs : Region.noSelect ops = true) (hl : t.size = ops.size)
    (hok : t.ok .any ops (Array.replicate ops.size false) = true) (S : World → Prop) (hR : ∀ a w, R a w → Q .normal a w)
    (h : wpU P ops (NoPanic Q) R (t.look ops) S a w.drew) : (Code.region id ops true).wp P Q a w := by
  refine wp_region_noPanic (wp_region_held hm (S := S) ?_)
  have hh := held_utree (Q := NoPanic Q) hs (fun _ _ _ _ _ h => h) hR t _ S a w.drew hok h
  rw [hl] at hh
  exact hh

theorem utree_take {o : Oper} {rest : LinV} {S : World → Prop} {a : Act} {w : World} {v : Value} (hS : S w)
    (hw : Region.wanted o (yielded ops a.tmps) = true) (hy : ∀ x, S x → (execOp a.eval o).run P x = .ok (.value v) x)
    (h : wpU P ops Q R rest S (a.put o.dst v) w) : wpU P ops Q R (.one (some o) true rest) S a w := ⟨S, fun _ h => h, hS, v, .inl ⟨hw, hy⟩, h⟩
theorem utree_skip {o : Oper} {rest : LinV} {S : World → Prop} {a : Act} {w : World} (hS : S w)
    (hw : Region.wanted o (yielded ops a.tmps) = false) (h : wpU P ops Q R rest S (a.put o.dst undef) w) : wpU P ops Q R (.one (some o) true rest) S a w := ⟨S, fun _ h => h, hS, undef, .inr ⟨hw, rfl⟩, h⟩
theorem utree_call {o : Oper} {rest : LinV} {S : World → Prop} {a : Act} {w : World} (hS : S w) (hw : Region.wanted o (yielded ops a.tmps) = true)
    (h : ∀ K : Act → World → Prop, Shut (∀ a w, S w → (S w → wpU P ops Q R rest S a w) → K a w) → Oper.wp P o a w K Q) : wpU P ops Q R (.one (some o) false rest) S a w :=
  ⟨S, fun _ h => h, hS, by unfold linStep; rw [if_pos hw]; exact h _ (fun _ _ h1 h2 => ⟨h1, h2 h1⟩)⟩
theorem utree_two {o o' : Oper} {r s : LinV} {S : World → Prop} {a : Act} {w : World} (hS : S w) (hw : Region.wanted o (yielded ops a.tmps) = true) (hw' : Region.wanted o' (yielded ops a.tmps) = true)
    (h : ∀ K : Act → World → Prop, Shut (∀ a w, S w → (S w → wpU P ops Q R r S a w) → K a w) → Oper.wp P o a w K Q)
    (h' : ∀ K : Act → World → Prop, Shut (∀ a w, S w → (S w → wpU P ops Q R s S a w) → K a w) → Oper.wp P o' a w K Q) : wpU P ops Q R (.two (some o) (some o') r s) S a w :=
  ⟨S, fun _ h => h, hS, by unfold linStep; rw [if_pos hw]; exact h _ (fun _ _ h1 h2 => ⟨h1, h2 h1⟩), by unfold linStep; rw [if_pos hw']; exact h' _ (fun _ _ h1 h2 => ⟨h1, h2 h1⟩)⟩
theorem utree_three {o o' o2 : Oper} {r s t : LinV} {S : World → Prop} {a : Act} {w : World} (hS : S w) (hw : Region.wanted o (yielded ops a.tmps) = true) (hw' : Region.wanted o' (yielded ops a.tmps) = true) (hw2 : Region.wanted o2 (yielded ops a.tmps) = true)
    (h : ∀ K : Act → World → Prop, Shut (∀ a w, S w → (S w → wpU P ops Q R r S a w) → K a w) → Oper.wp P o a w K Q)
    (h' : ∀ K : Act → World → Prop, Shut (∀ a w, S w → (S w → wpU P ops Q R s S a w) → K a w) → Oper.wp P o' a w K Q)
    (h2 : ∀ K : Act → World → Prop, Shut (∀ a w, S w → (S w → wpU P ops Q R t S a w) → K a w) → Oper.wp P o2 a w K Q) : wpU P ops Q R (.three (some o) (some o') (some o2) r s t) S a w :=
  ⟨S, fun _ h => h, hS, by unfold linStep; rw [if_pos hw]; exact h _ (fun _ _ h1 h2 => ⟨h1, h2 h1⟩), by unfold linStep; rw [if_pos hw']; exact h' _ (fun _ _ h1 h2 => ⟨h1, h2 h1⟩), by unfold linStep; rw [if_pos hw2]; exact h2 _ (fun _ _ h1 h2 => ⟨h1, h2 h1⟩)⟩
theorem utree_done {S : World → Prop} {a : Act} {w : World} (h : R a w) : wpU P ops Q R .nil S a w := h
theorem region_utree_ex {α : Type} {id : Nat} {a : Act} {w : World} (F : Act → α → Act) (G : α → World → Prop) (t : LinU) (hm : P.follows .mixedOrders = true) (hs : Region.noSelect ops = true) (hl : t.size = ops.size)
    (hok : t.ok .any ops (Array.replicate ops.size false) = true) (S : World → Prop)
    (h : wpU P ops (NoPanic Q) (fun a' w' => ∃ B, a' = F a B ∧ G B w') (t.look ops) S a w.drew) (hR : ∀ B w', G B w' → Q .normal (F a B) w') : (Code.region id ops true).wp P Q a w :=
  wp_region_utree _ t hm hs hl hok S (fun a' w' hh => by obtain ⟨B, rfl, hg⟩ := hh; exact hR B w' hg) h
theorem utree_load {op : Oper} {rest : LinV} {S : World → Prop} {a : Act} {w : World} (hS : S w) (hw : Region.wanted op (yielded ops a.tmps) = true) (ty : TypeId) (x : Operand) (ho : op.op = .load ty x)
    (b k : Nat) (hx : a.eval x = .pointer (some ⟨b, k, none⟩)) (l cs : List Value) (hb : ∀ y, S y → Box y b l) (hc : ∀ j v, cs[j]? = some v → l[k + j]? = some v) (d : TypeDesc)
    (hu : P.underlying ty = some d) (hd : d.isRow = true) (n : Nat) (hi : (P.info? ty).map (·.size) = some n) (hn : cs.length = n)
    (h : wpU P ops Q R rest S (a.put op.dst (.agg cs.toArray)) w) : wpU P ops Q R (.one (some op) true rest) S a w :=
  ⟨S, fun _ h => h, hS, _, yieldsIf_load_mid hw ty x ho b k hx cs d (fun y hy => (hb y hy).range hc) hu hd (by rw [hn]; exact hi), h⟩
theorem utree_put_cells {op : Oper} {rest : LinV} {S : World → Prop} {a : Act} {w : World} (hS : S w) (hw : Region.wanted op (yielded ops a.tmps) = true) (ty : TypeId) (x y : Operand) (ho : op.op = .store ty x y)
    (b k : Nat) (cs : List Value) (hx : a.eval x = .pointer (some ⟨b, k, none⟩)) (hy : a.eval y = .agg cs.toArray) (l : List Value) (hb : Box w b l) (hl : k + cs.length ≤ l.length)
    (n : Nat) (hi : (P.info? ty).map (·.size) = some n) (hn : cs.length = n) (h1 : ∀ v ∈ cs, v.oneCell' = true)
    (hT : ∀ w', Box w' b (splice l k cs) → w.grownBy w' (some b) → S w')
    (h : ∀ w', Box w' b (splice l k cs) → w.grownBy w' (some b) → wpU P ops Q R rest S (a.put op.dst undef) w') : wpU P ops Q R (.one (some op) false rest) S a w :=
  utree_call hS hw fun K hK => wp_store_mid ty x y ho b k cs.toArray hx hy (hb.there (by simpa using hl)) (by rw [hi]; simp [hn]) (all_oneCell_toArray h1) (hK.out _ _
    (hT _ (by simpa using hb.setCells hl) (by simpa using grown_setCells w b cs k hb.lt)) fun _ => h _ (by simpa using hb.setCells hl) (by simpa using grown_setCells w b cs k hb.lt))
end
end Go.Proofs.Ytbibfpopkcekdaa.Words

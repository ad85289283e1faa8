/- A law of no one program: A REGION THAT DRAWS ITS ORDER, WALKED IN ONE ORDER. 'linOk' (reckoned by the kernel) says of an order: an operation that is marked (it only reads) may come up at its time and waits for nobody it could disturb; one that is not marked is alone in being able to come up.
   The condition S on the world may be made stronger on the way ('lin_more'): so what a callee has just made may be read by an operation that Go may carry out later. -/
import Derived.Test.YtjkijjbakocilaaRowLaws
import Derived.Deep.RegionHeld3
namespace Go.Proofs.Ytjkijjbakocilaa.Words
set_option maxRecDepth 100000
open Go.RowKit

def linOk (md : Region.Mode) (ops : Array Oper) : List (Nat × Bool) → Array Bool → Bool
  | [], listed => (Region.ready md ops listed).isEmpty
  | (i, true) :: rest, listed => (Region.ready md ops listed).contains i && Region.free md ops listed i && linOk md ops rest (listed.setIfInBounds i true)
  | (i, false) :: rest, listed => (Region.ready md ops listed == [i]) && linOk md ops rest (listed.setIfInBounds i true)

section
variable {P : Program} {ops : Array Oper} {Q : Exit → Act → World → Prop} {md : Region.Mode}

/-- One operation that may turn the world. -/
def linStep (P : Program) (ops : Array Oper) (Q : Exit → Act → World → Prop) (o : Oper) (K : Act → World → Prop) (a : Act) (w : World) : Prop :=
  if Region.wanted o (yielded ops a.tmps) = true then o.wp P a w K Q else K (a.put o.dst undef) w

def wpLin (P : Program) (ops : Array Oper) (Q : Exit → Act → World → Prop) : List (Option Oper × Bool) → (World → Prop) → Act → World → Prop
  | [], _, a, w => Q .normal a w
  | (none, _) :: _, _, _, _ => False
  | (some o, true) :: rest, S, a, w => ∃ S' : World → Prop, (∀ x, S' x → S x) ∧ S' w ∧ ∃ v, YieldsIf P ops S' o v a ∧ wpLin P ops Q rest S' (a.put o.dst v) w
  | (some o, false) :: rest, S, a, w => ∃ S' : World → Prop, (∀ x, S' x → S x) ∧ S' w ∧ linStep P ops Q o (fun a' w' => S' w' ∧ wpLin P ops Q rest S' a' w') a w

theorem held_weaken {S S' : World → Prop} (hS : ∀ x, S' x → S x) : ∀ (fuel : Nat) (listed : Array Bool) (a : Act) (w : World), wpAnyH P md ops Q S' fuel listed a w → wpAnyH P md ops Q S fuel listed a w
  | 0, _, _, _, h => h
  | fuel + 1, _, _, _, h => ⟨h.1, fun i hi => wpOp_mono (fun a' w' h' => ⟨hS _ h'.1, held_weaken hS fuel _ a' w' h'.2⟩) (h.2 i hi)⟩

theorem held_lin (hs : Region.noSelect ops = true) (hQ : ∀ d v c a w, Q (.panic c) (a.put d v) w → Q (.panic c) a w) :
    ∀ (order : List (Nat × Bool)) (listed : Array Bool) (S : World → Prop) (a : Act) (w : World), linOk md ops order listed = true →
      wpLin P ops Q (order.map fun p => (ops[p.1]?, p.2)) S a w → wpAnyH P md ops Q S order.length listed a w
  | [], listed, S, a, w, hok, h => ⟨by simpa [linOk] using hok, h⟩
  | (i, true) :: rest, listed, S, a, w, hok, h => by
    simp only [linOk, Bool.and_eq_true] at hok
    obtain ⟨⟨h1, h2⟩, h3⟩ := hok
    rcases ho : ops[i]? with _ | o
    · simp only [List.map_cons, ho, wpLin] at h
    · simp only [List.map_cons, ho, wpLin] at h
      obtain ⟨S', k1, k2, v, k3, k4⟩ := h
      exact held_weaken k1 _ _ _ _ (wpAnyH_take ho hs h2 h1 (hQ _ _) k3 k2 (held_lin hs hQ rest _ S' _ w h3 k4))
  | (i, false) :: rest, listed, S, a, w, hok, h => by
    simp only [linOk, Bool.and_eq_true, beq_iff_eq] at hok
    obtain ⟨h1, h3⟩ := hok
    rcases ho : ops[i]? with _ | o
    · simp only [List.map_cons, ho, wpLin] at h
    · simp only [List.map_cons, ho, wpLin] at h
      obtain ⟨S', k1, k2, k3⟩ := h
      refine held_weaken k1 _ _ _ _ (wpAnyH_all h1 (by simp) fun j hj => ?_)
      have hji : j = i := by simpa using hj
      subst hji
      unfold wpOp
      simp only [ho]
      unfold linStep at k3
      split at k3
      · rename_i hw
        rw [if_pos hw]
        exact .inl (Oper.wp_mono (fun a' w' hk => ⟨hk.1, held_lin hs hQ rest _ S' a' w' h3 hk.2⟩) k3)
      · rename_i hw
        rw [if_neg hw]
        exact ⟨k3.1, held_lin hs hQ rest _ S' _ _ h3 k3.2⟩

/-- THE REGION. -/
theorem wp_region_lin {id : Nat} {a : Act} {w : World} (order : List (Nat × Bool)) (hm : P.follows .mixedOrders = true) (hs : Region.noSelect ops = true) (hl : order.length = ops.size)
    (hok : linOk .any ops order (Array.replicate ops.size false) = true) (S : World → Prop)
    (h : wpLin P ops (NoPanic Q) (order.map fun p => (ops[p.1]?, p.2)) S a w.drew) : (Code.region id ops true).wp P Q a w := by
  refine wp_region_noPanic (wp_region_held hm (S := S) ?_)
  have hh := held_lin hs (fun _ _ _ _ _ h => h) order _ S a w.drew hok h
  rw [hl] at hh
  exact hh

theorem lin_take {o : Oper} {rest : List (Option Oper × Bool)} {S : World → Prop} {a : Act} {w : World} {v : Value} (hS : S w)
    (hw : Region.wanted o (yielded ops a.tmps) = true) (hy : ∀ x, S x → (execOp a.eval o).run P x = .ok (.value v) x)
    (h : wpLin P ops Q rest S (a.put o.dst v) w) : wpLin P ops Q ((some o, true) :: rest) S a w := ⟨S, fun _ h => h, hS, v, .inl ⟨hw, hy⟩, h⟩
theorem lin_skip {o : Oper} {rest : List (Option Oper × Bool)} {S : World → Prop} {a : Act} {w : World} (hS : S w)
    (hw : Region.wanted o (yielded ops a.tmps) = false) (h : wpLin P ops Q rest S (a.put o.dst undef) w) : wpLin P ops Q ((some o, true) :: rest) S a w := ⟨S, fun _ h => h, hS, undef, .inr ⟨hw, rfl⟩, h⟩
theorem lin_call {o : Oper} {rest : List (Option Oper × Bool)} {S : World → Prop} {a : Act} {w : World} (hS : S w) (hw : Region.wanted o (yielded ops a.tmps) = true)
    (h : ∀ K : Act → World → Prop, Shut (∀ a w, S w → (S w → wpLin P ops Q rest S a w) → K a w) → Oper.wp P o a w K Q) : wpLin P ops Q ((some o, false) :: rest) S a w :=
  ⟨S, fun _ h => h, hS, by unfold linStep; rw [if_pos hw]; exact h _ (fun _ _ h1 h2 => ⟨h1, h2 h1⟩)⟩
theorem lin_more {l : List (Option Oper × Bool)} {S S' : World → Prop} {a : Act} {w : World} (h1 : ∀ x, S' x → S x) (h : wpLin P ops Q l S' a w) : wpLin P ops Q l S a w := by
  rcases l with _ | ⟨⟨o, b⟩, rest⟩
  · exact h
  · rcases o with _ | o
    · exact h
    · cases b
      · obtain ⟨S2, k1, k2⟩ := h
        exact ⟨S2, fun x hx => h1 x (k1 x hx), k2⟩
      · obtain ⟨S2, k1, k2⟩ := h
        exact ⟨S2, fun x hx => h1 x (k1 x hx), k2⟩
theorem lin_done {S : World → Prop} {a : Act} {w : World} (h : Q .normal a w) : wpLin P ops (NoPanic Q) [] S a w := h
end
end Go.Proofs.Ytjkijjbakocilaa.Words

/- Several texts in one: CertBody, KeepS, LinT, OwnNew, RegEx, EmtData, EmtSmall. -/
import Derived.Test.YteagglddgkjkmaaGreatG05
import Derived.Test.YteagglddgkjkmaaGreatG01
import Derived.Test.YteagglddgkjkmaaGreatG02
import Derived.Deep.Upon
import Derived.Test.YteagglddgkjkmaaGreatG03
import Derived.LoopTactic

/- Plain mathematics of chapter 14: a side's cells ahead of its control cell, and balance by parts. -/
namespace Go.Proofs.YteagglddgkjkmaaGreat.Words
set_option maxRecDepth 100000
open Go.RowKit
set_option linter.unusedVariables false
set_option linter.unusedSimpArgs false

/-- The cells ahead of the control cell that is the last one; without one, all of them. -/
def bodyL (l : List Cel) : List Cel := match l.getLast? with
  | some c => if ctlB c.kind = true then l.dropLast else l
  | none => l
def allK (ks : List Int) (l : List Cel) : Bool := l.all fun c => ks.contains c.kind
theorem body_nil : bodyL [] = [] := rfl
theorem body_snoc (l : List Cel) (c : Cel) : bodyL (l ++ [c]) = if ctlB c.kind = true then l else l ++ [c] := by
  unfold bodyL
  rw [List.getLast?_append]
  simp
theorem last_snoc (l : List Cel) (c : Cel) : lastK (l ++ [c]) = if ctlB c.kind = true then c.kind else 0 := by
  unfold lastK
  rw [List.getLast?_append]
  simp
theorem snoc_of {α : Type} {l : List α} {M : Nat} {x : α} (hx : l[M]? = some x) (hM : M + 1 = l.length) : l = l.take M ++ [x] := by
  obtain ⟨h1, h2⟩ := List.getElem?_eq_some_iff.1 hx
  have := List.take_succ_eq_append_getElem h1
  rw [hM, List.take_length, h2] at this
  exact this
theorem body_at {l : List Cel} {M : Nat} {x : Cel} (hx : l[M]? = some x) (hM : M + 1 = l.length) : bodyL l = if ctlB x.kind = true then l.take M else l := by
  have h := snoc_of hx hM
  have h2 := body_snoc (l.take M) x
  rw [← h] at h2; exact h2
theorem body_le (l : List Cel) : (bodyL l).length ≤ l.length := by
  unfold bodyL
  cases l.getLast? with
  | none => exact Nat.le_refl _
  | some c =>
    dsimp only
    split
    · rw [List.length_dropLast]; omega
    · exact Nat.le_refl _
theorem rev_ind {P : List Cel → Prop} (h0 : P []) (h1 : ∀ l c, P (l ++ [c])) (l : List Cel) : P l := by
  rcases Nat.eq_zero_or_pos l.length with h | h
  · rw [List.eq_nil_of_length_eq_zero h]; exact h0
  · obtain ⟨x, hx⟩ : ∃ x, l[l.length - 1]? = some x := ⟨_, List.getElem?_eq_getElem (by omega)⟩
    have := snoc_of hx (by omega)
    rw [this]; exact h1 _ _
theorem only_snoc {ks : List Int} (hk : ∀ k ∈ ks, ctlB k = false) (l : List Cel) (c : Cel) : onlyZ ks (l ++ [c]) = (allK ks l && (ctlB c.kind || ks.contains c.kind)) := by
  induction l with
  | nil =>
    show onlyZ ks [c] = _
    unfold onlyZ allK
    by_cases h : ctlB c.kind = true
    · rw [if_pos h, h]; rfl
    · rw [if_neg h, Bool.eq_false_iff.2 h]
      simp [onlyZ]
  | cons d l ih =>
    rw [List.cons_append, onlyZ, ih]
    by_cases h : ctlB d.kind = true
    · rw [if_pos h]
      have hn : ks.contains d.kind = false := by
        rw [← Bool.not_eq_true]
        intro hc
        have := hk d.kind (by simpa using hc)
        rw [this] at h; cases h
      unfold allK
      rw [List.all_cons, hn]
      simp
    · rw [if_neg h]
      unfold allK
      rw [List.all_cons, Bool.and_assoc]
theorem only_body {ks : List Int} (hk : ∀ k ∈ ks, ctlB k = false) (l : List Cel) : onlyZ ks l = allK ks (bodyL l) := by
  refine rev_ind (P := fun l => onlyZ ks l = allK ks (bodyL l)) rfl (fun l c => ?_) l
  rw [only_snoc hk, body_snoc]
  by_cases h : ctlB c.kind = true
  · rw [if_pos h, h]; simp
  · rw [if_neg h, Bool.eq_false_iff.2 h]
    unfold allK
    rw [List.all_append]
    simp
theorem some_body {k : Int} (hk : ctlB k = false) (l : List Cel) : someZ k (bodyL l) = someZ k l := by
  refine rev_ind (P := fun l => someZ k (bodyL l) = someZ k l) rfl (fun l c => ?_) l
  rw [body_snoc, someZ_append, some_one]
  by_cases h : ctlB c.kind = true
  · have hne : ¬ c.kind = k := fun e => by rw [e, hk] at h; cases h
    rw [if_pos h, if_neg hne, List.append_nil]
  · rw [if_neg h, someZ_append, some_one]
/-- Balance as the program asks it. -/
theorem bal_parts (a e : List Cel) : balZ a e = (allK kindsA (bodyL a) && allK kindsE (bodyL e) && joinB (lastK a) (lastK e) && decide ((someZ 5 (bodyL a)).map Cel.reg = (someZ 6 (bodyL e)).map Cel.reg) && decide ((someZ 3 (bodyL a)).map Cel.ins = (someZ 7 (bodyL e)).map Cel.ins) && decide ((someZ 4 (bodyL a)).length = (someZ 8 (bodyL e)).length)) := by
  unfold balZ
  rw [only_body (fun k hk => kindsA_no hk), only_body (fun k hk => kindsE_no hk), some_body (by decide), some_body (by decide), some_body (by decide), some_body (by decide), some_body (by decide), some_body (by decide)]
  cases allK kindsA (bodyL a) <;> cases allK kindsE (bodyL e) <;> cases joinB (lastK a) (lastK e) <;> simp
theorem join_parts (p q : Int) : joinB p q = if p = 9 then decide (q = 10) else if p = 10 then decide (q = 9) else decide (p = q) := rfl
/-- The most cells of one Off, while they are counted. -/
def runM (l : List Cel) : Nat → Nat
  | 0 => 0
  | j + 1 => match l[j]? with
    | some x => max (runM l j) (offs (l.take (j + 1)) x.off)
    | none => runM l j
theorem runM_step {l : List Cel} {j : Nat} {x : Cel} (hx : l[j]? = some x) : runM l (j + 1) = max (runM l j) (offs (l.take (j + 1)) x.off) := by
  show (match l[j]? with | some x => max (runM l j) (offs (l.take (j + 1)) x.off) | none => runM l j) = _
  rw [hx]
theorem offs_mono (l : List Cel) {j n : Nat} (h : j ≤ n) (o : Int) : offs (l.take j) o ≤ offs (l.take n) o := by
  have : l.take j = (l.take n).take j := by rw [List.take_take, Nat.min_eq_left h]
  rw [this]
  exact List.Sublist.countP_le (List.take_sublist _ _)
theorem foldl_max_ge {l : List Nat} {b x : Nat} (h : x ≤ b ∨ x ∈ l) : x ≤ l.foldl max b := by
  induction l generalizing b with
  | nil => rcases h with h | h; exact h; cases h
  | cons y l ih =>
    refine ih ?_
    rcases h with h | h
    · exact .inl (Nat.le_trans h (Nat.le_max_left _ _))
    · rcases List.mem_cons.1 h with rfl | h
      · exact .inl (Nat.le_max_right _ _)
      · exact .inr h
theorem foldl_max_in (l : List Nat) (b : Nat) : l.foldl max b = b ∨ l.foldl max b ∈ l := by
  induction l generalizing b with
  | nil => exact .inl rfl
  | cons y l ih =>
    rcases ih (max b y) with h | h
    · rcases Nat.le_total b y with hy | hy
      · right; rw [List.foldl_cons, h, Nat.max_eq_right hy]; simp
      · left; rw [List.foldl_cons, h, Nat.max_eq_left hy]
    · right; rw [List.foldl_cons]; exact List.mem_cons_of_mem _ h
theorem runM_ge {l : List Cel} : ∀ {n : Nat}, n ≤ l.length → ∀ j x, j < n → l[j]? = some x → offs (l.take (j + 1)) x.off ≤ runM l n
  | 0, _, j, x, hj, _ => by omega
  | n + 1, hn, j, x, hj, hx => by
    obtain ⟨y, hy⟩ : ∃ y, l[n]? = some y := ⟨_, List.getElem?_eq_getElem (by omega)⟩
    rw [runM_step hy]
    rcases Nat.lt_or_ge j n with h | h
    · exact Nat.le_trans (runM_ge (n := n) (by omega) j x h hx) (Nat.le_max_left _ _)
    · obtain rfl : j = n := by omega
      rw [hx] at hy; injection hy with hy; subst hy
      exact Nat.le_max_right _ _
theorem runM_le {l : List Cel} : ∀ {n : Nat}, n ≤ l.length → runM l n ≤ mostZ l
  | 0, _ => Nat.zero_le _
  | n + 1, hn => by
    obtain ⟨y, hy⟩ : ∃ y, l[n]? = some y := ⟨_, List.getElem?_eq_getElem (by omega)⟩
    rw [runM_step hy]
    refine Nat.max_le.2 ⟨runM_le (n := n) (by omega), ?_⟩
    refine Nat.le_trans (offs_mono l hn y.off) ?_
    rw [List.take_length]
    unfold mostZ
    exact foldl_max_ge (.inr (List.mem_map.2 ⟨y, List.mem_of_getElem? hy, rfl⟩))
/-- The last cell of an Off counts them all. -/
theorem offs_last : ∀ (l : List Cel) (o : Int), offs l o ≠ 0 → ∃ j x, l[j]? = some x ∧ x.off = o ∧ offs (l.take (j + 1)) o = offs l o := by
  intro l
  refine fun o => ?_
  have key : ∀ n, n ≤ l.length → offs (l.take n) o ≠ 0 → ∃ j x, l[j]? = some x ∧ x.off = o ∧ offs (l.take (j + 1)) o = offs (l.take n) o := by
    intro n
    induction n with
    | zero => intro _ h; exact absurd rfl h
    | succ n ih =>
      intro hn h
      obtain ⟨y, hy⟩ : ∃ y, l[n]? = some y := ⟨_, List.getElem?_eq_getElem (by omega)⟩
      by_cases hyo : y.off = o
      · exact ⟨n, y, hy, hyo, rfl⟩
      · have e : offs (l.take (n + 1)) o = offs (l.take n) o := by
          rw [List.take_add_one, hy, offs_append]
          unfold offs
          simp [hyo]
        rw [e] at h ⊢
        exact ih (by omega) h
  intro h
  have := key l.length (Nat.le_refl _)
  rw [List.take_length] at this
  exact this h
theorem runM_all {l : List Cel} {n : Nat} (h : n = l.length) : runM l n = mostZ l := by
  subst h
  refine Nat.le_antisymm (runM_le (Nat.le_refl _)) ?_
  rcases foldl_max_in (l.map fun c => offs l c.off) 0 with h | h
  · unfold mostZ; rw [h]; exact Nat.zero_le _
  · obtain ⟨c, hc, he⟩ := List.mem_map.1 h
    unfold mostZ
    rw [← he]
    rcases Nat.eq_zero_or_pos (offs l c.off) with h0 | h0
    · rw [h0]; exact Nat.zero_le _
    · obtain ⟨j, x, hx, hxo, hj⟩ := offs_last l c.off (by omega)
      rw [← hj, ← hxo]
      exact runM_ge (Nat.le_refl _) j x (List.getElem?_eq_some_iff.1 hx).1 hx
end Go.Proofs.YteagglddgkjkmaaGreat.Words

/- Which blocks a call leaves as they were. Nothing here speaks of one program text. -/
namespace Go.Proofs.YteagglddgkjkmaaGreat.Words
set_option maxRecDepth 100000
open Go.RowKit
set_option linter.unusedVariables false

/-- All blocks but those of S stand. -/
structure KeepS (S : Nat → Prop) (w w' : World) : Prop where
  os : w'.os = w.os
  tape : w'.tape = w.tape
  output : w'.output = w.output
  size : w.heap.size ≤ w'.heap.size
  block : ∀ k, k < w.heap.size → ¬ S k → w'.heap[k]? = w.heap[k]?
section
variable {S S' : Nat → Prop} {w w' w'' : World}
theorem KeepS.refl (S : Nat → Prop) (w : World) : KeepS S w w := ⟨rfl, rfl, rfl, Nat.le_refl _, fun _ _ _ => rfl⟩
theorem KeepS.trans (h : KeepS S w w') (g : KeepS S w' w'') : KeepS S w w'' :=
  ⟨g.os.trans h.os, g.tape.trans h.tape, g.output.trans h.output, Nat.le_trans h.size g.size, fun k hk hs => (g.block k (Nat.lt_of_lt_of_le hk h.size) hs).trans (h.block k hk hs)⟩
theorem KeepS.mono (h : KeepS S w w') (hs : ∀ k, S k → S' k) : KeepS S' w w' := ⟨h.os, h.tape, h.output, h.size, fun k hk hn => h.block k hk (fun e => hn (hs k e))⟩
theorem KeepS.of_below (h : Below w.heap.size w w') : KeepS S w w' := ⟨h.os, h.tape, h.output, h.size, fun k hk _ => h.block k hk⟩
theorem KeepS.of_grown {row : Option Nat} (h : w.grownBy w' row) (hr : ∀ k, row = some k → S k) : KeepS S w w' := ⟨h.os, h.tape, h.output, h.size, fun k hk hn => h.block k hk (fun e => hn (hr k e.symm))⟩
theorem KeepS.alloc (h : KeepS S w w') (o : Obj) : KeepS S w (w'.alloc o) := h.trans (KeepS.of_below ((Below.refl _ _).alloc (Nat.le_refl _) o))
theorem KeepS.drew (h : KeepS S w w') : KeepS S w w'.drew := ⟨h.os, h.tape, h.output, h.size, h.block⟩
theorem KeepS.drewN (h : KeepS S w w') (k : Nat) : KeepS S w (w'.drewN k) := h.trans (KeepS.of_below (Below.drewN_ (Below.refl _ _) k))
theorem KeepS.setCell (h : KeepS S w w') {b : Nat} (hb : S b) (k : Nat) (v : Value) : KeepS S w (w'.setCell ⟨b, k, none⟩ v) :=
  h.trans ⟨rfl, rfl, rfl, by simp [World.setCell], fun j _ hn => Below.heap_setCell w' ⟨b, k, none⟩ v j (fun e => hn (by rw [e]; exact hb))⟩
theorem KeepS.go (h : KeepS S w w') (hb : Below w'.heap.size w' w'') : KeepS S w w'' := h.trans (KeepS.of_below hb)
/-- What lies below all of S stands. -/
theorem KeepS.below (h : KeepS S w w') {B : Nat} (hB : B ≤ w.heap.size) (hs : ∀ k, S k → B ≤ k) : Below B w w' :=
  ⟨h.os, h.tape, h.output, h.size, fun k hk => h.block k (Nat.lt_of_lt_of_le hk hB) (fun e => by have := hs k e; omega)⟩
theorem KeepS.cell (h : KeepS S w w') {b k : Nat} {v : Value} (hb : b < w.heap.size) (hn : ¬ S b) (hv : w.cell? ⟨b, k, none⟩ = some v) : w'.cell? ⟨b, k, none⟩ = some v :=
  (World.cell?_of_block (w := w) (a := ⟨b, k, none⟩) (h.block b hb hn)).trans hv
theorem Box.keepS {b : Nat} {l : List Value} (h : Box w b l) (hk : KeepS S w w') (hn : ¬ S b) : Box w' b l := by
  have hb := h.lt
  obtain ⟨t, h⟩ := h
  exact ⟨t, (hk.block b hb hn).trans h⟩
theorem own_keepS {base : Nat} {e : TypeId} {size : Nat} {v : Value} {n : Nat} {xs : List Value} (h : w.ownsRow base e size v n xs) (hk : KeepS S w w') (hn : ∀ g, v.ownBlock = some g → ¬ S g) : w'.ownsRow base e size v n xs := by
  obtain ⟨h0, h1⟩ := h
  refine ⟨h0, ?_⟩
  rcases h1 with ⟨rfl, h2⟩ | ⟨g, c, cur, rfl, h3, h4, h5⟩
  · exact .inl ⟨rfl, h2⟩
  · have hlt : g < w.heap.size := (Array.getElem?_eq_some_iff.1 h4).1
    exact .inr ⟨g, c, cur, rfl, h3, (hk.block g hlt (hn g rfl)).trans h4, h5⟩
theorem Row.keepS {B size n : Nat} {v : Value} {xs : List Value} (h : Row w B size v n xs) (hk : KeepS S w w') (hB : B ≤ w.heap.size) (hs : ∀ k, S k → B ≤ k) : Row w' B size v n xs := h.below (hk.below hB hs)
end
/-- What was new may turn. -/
theorem KeepS.newer {S : Nat → Prop} {w w' z : World} (h : KeepS S w w') (g : KeepS (fun j => w.heap.size ≤ j) w' z) : KeepS S w z :=
  ⟨g.os.trans h.os, g.tape.trans h.tape, g.output.trans h.output, Nat.le_trans h.size g.size, fun k hk hs => (g.block k (Nat.lt_of_lt_of_le hk h.size) (Nat.not_le.2 hk)).trans (h.block k hk hs)⟩
end Go.Proofs.YteagglddgkjkmaaGreat.Words

/- A law of no one program: A REGION THAT DRAWS ITS ORDER, WALKED ALONG A TREE OF ORDERS ('Lin' with forks): where two operations that turn the world may come up in either order, the tree parts. What holds behind the region (R) is named ahead: the rest is walked once. -/
namespace Go.Proofs.YteagglddgkjkmaaGreat.Words
set_option maxRecDepth 100000
open Go.RowKit

inductive LinT | nil | one (i : Nat) (b : Bool) (r : LinT) | two (i j : Nat) (r s : LinT)
inductive LinO | nil | one (o : Option Oper) (b : Bool) (r : LinO) | two (o o' : Option Oper) (r s : LinO)
def LinT.look (ops : Array Oper) : LinT → LinO
  | .nil => .nil
  | .one i b r => .one ops[i]? b (r.look ops)
  | .two i j r s => .two ops[i]? ops[j]? (r.look ops) (s.look ops)
def LinT.size : LinT → Nat
  | .nil => 0
  | .one _ _ r => r.size + 1
  | .two _ _ r _ => r.size + 1
def LinT.ok (md : Region.Mode) (ops : Array Oper) : LinT → Array Bool → Bool
  | .nil, listed => (Region.ready md ops listed).isEmpty
  | .one i true r, listed => (Region.ready md ops listed).contains i && Region.free md ops listed i && r.ok md ops (listed.setIfInBounds i true)
  | .one i false r, listed => (Region.ready md ops listed == [i]) && r.ok md ops (listed.setIfInBounds i true)
  | .two i j r s, listed => (Region.ready md ops listed == [i, j]) && r.size == s.size && r.ok md ops (listed.setIfInBounds i true) && s.ok md ops (listed.setIfInBounds j true)
/-- A list of orders as a tree. -/
def LinT.of : List (Nat × Bool) → LinT → LinT
  | [], t => t
  | (i, b) :: l, t => .one i b (LinT.of l t)

section
variable {P : Program} {ops : Array Oper} {Q : Exit → Act → World → Prop} {R : Act → World → Prop} {md : Region.Mode}

def wpT (P : Program) (ops : Array Oper) (Q : Exit → Act → World → Prop) (R : Act → World → Prop) : LinO → (World → Prop) → Act → World → Prop
  | .nil, _, a, w => R a w
  | .one (some o) true rest, S, a, w => ∃ S' : World → Prop, (∀ x, S' x → S x) ∧ S' w ∧ ∃ v, YieldsIf P ops S' o v a ∧ wpT P ops Q R rest S' (a.put o.dst v) w
  | .one (some o) false rest, S, a, w => ∃ S' : World → Prop, (∀ x, S' x → S x) ∧ S' w ∧ linStep P ops Q o (fun a' w' => S' w' ∧ wpT P ops Q R rest S' a' w') a w
  | .two (some o) (some o') r s, S, a, w => ∃ S' : World → Prop, (∀ x, S' x → S x) ∧ S' w ∧ linStep P ops Q o (fun a' w' => S' w' ∧ wpT P ops Q R r S' a' w') a w ∧ linStep P ops Q o' (fun a' w' => S' w' ∧ wpT P ops Q R s S' a' w') a w
  | .one none _ _, _, _, _ => False
  | .two none _ _ _, _, _, _ => False
  | .two (some _) none _ _, _, _, _ => False

theorem step_any {i : Nat} {o : Oper} {fuel : Nat} {listed : Array Bool} {S' : World → Prop} {K : Act → World → Prop} {a : Act} {w : World} (ho : ops[i]? = some o)
    (hK : ∀ a w, K a w → wpAnyH P md ops Q S' fuel (listed.setIfInBounds i true) a w)
    (h : linStep P ops Q o (fun a' w' => S' w' ∧ K a' w') a w) : wpOp P ops Q i (fun a' w' => S' w' ∧ wpAnyH P md ops Q S' fuel (listed.setIfInBounds i true) a' w') a w := by
  unfold wpOp
  simp only [ho]
  unfold linStep at h
  split at h
  · rename_i hw
    rw [if_pos hw]
    exact .inl (Oper.wp_mono (fun a' w' hk => ⟨hk.1, hK a' w' hk.2⟩) h)
  · rename_i hw
    rw [if_neg hw]
    exact ⟨h.1, hK _ _ h.2⟩

theorem held_tree (hs : Region.noSelect ops = true) (hQ : ∀ d v c a w, Q (.panic c) (a.put d v) w → Q (.panic c) a w) (hR : ∀ a w, R a w → Q .normal a w) :
    ∀ (t : LinT) (listed : Array Bool) (S : World → Prop) (a : Act) (w : World), t.ok md ops listed = true → wpT P ops Q R (t.look ops) S a w → wpAnyH P md ops Q S t.size listed a w
  | .nil, listed, S, a, w, hok, h => ⟨by simpa [LinT.ok] using hok, hR _ _ h⟩
  | .one i true rest, listed, S, a, w, hok, h => by
    simp only [LinT.ok, Bool.and_eq_true] at hok
    obtain ⟨⟨h1, h2⟩, h3⟩ := hok
    rcases ho : ops[i]? with _ | o
    · simp only [LinT.look, ho, wpT] at h
    · simp only [LinT.look, ho, wpT] at h
      obtain ⟨S', k1, k2, v, k3, k4⟩ := h
      exact held_weaken k1 _ _ _ _ (wpAnyH_take ho hs h2 h1 (hQ _ _) k3 k2 (held_tree hs hQ hR rest _ S' _ w h3 k4))
  | .one i false rest, listed, S, a, w, hok, h => by
    simp only [LinT.ok, Bool.and_eq_true, beq_iff_eq] at hok
    obtain ⟨h1, h3⟩ := hok
    rcases ho : ops[i]? with _ | o
    · simp only [LinT.look, ho, wpT] at h
    · simp only [LinT.look, ho, wpT] at h
      obtain ⟨S', k1, k2, k3⟩ := h
      refine held_weaken k1 _ _ _ _ (wpAnyH_all h1 (by simp) fun j hj => ?_)
      have hji : j = i := by simpa using hj
      subst hji
      exact step_any ho (fun a w hk => held_tree hs hQ hR rest _ S' a w h3 hk) k3
  | .two i j r s, listed, S, a, w, hok, h => by
    simp only [LinT.ok, Bool.and_eq_true, beq_iff_eq] at hok
    obtain ⟨⟨⟨h1, h2⟩, h3⟩, h4⟩ := hok
    rcases ho : ops[i]? with _ | o
    · simp only [LinT.look, ho, wpT] at h
    · rcases ho' : ops[j]? with _ | o'
      · simp only [LinT.look, ho, ho', wpT] at h
      · simp only [LinT.look, ho, ho', wpT] at h
        obtain ⟨S', k1, k2, k3, k4⟩ := h
        refine held_weaken k1 _ _ _ _ (wpAnyH_all h1 (by simp) fun k hk => ?_)
        have hki : k = i ∨ k = j := by simpa using hk
        rcases hki with rfl | rfl
        · exact step_any ho (fun a w hk => held_tree hs hQ hR r _ S' a w h3 hk) k3
        · exact step_any ho' (fun a w hk => (show wpAnyH P md ops Q S' r.size _ a w by rw [h2]; exact held_tree hs hQ hR s _ S' a w h4 hk)) k4

/-- THE REGION. -/
theorem wp_region_tree {id : Nat} {a : Act} {w : World} (R : Act → World → Prop) (t : LinT) (hm : P.follows .mixedOrders = true) (hs : Region.noSelect ops = true) (hl : t.size = ops.size)
    (hok : t.ok .any ops (Array.replicate ops.size false) = true) (S : World → Prop) (hR : ∀ a w, R a w → Q .normal a w)
    (h : wpT P ops (NoPanic Q) R (t.look ops) S a w.drew) : (Code.region id ops true).wp P Q a w := by
  refine wp_region_noPanic (wp_region_held hm (S := S) ?_)
  have hh := held_tree (Q := NoPanic Q) hs (fun _ _ _ _ _ h => h) hR t _ S a w.drew hok h
  rw [hl] at hh
  exact hh

theorem tree_take {o : Oper} {rest : LinO} {S : World → Prop} {a : Act} {w : World} {v : Value} (hS : S w)
    (hw : Region.wanted o (yielded ops a.tmps) = true) (hy : ∀ x, S x → (execOp a.eval o).run P x = .ok (.value v) x)
    (h : wpT P ops Q R rest S (a.put o.dst v) w) : wpT P ops Q R (.one (some o) true rest) S a w := ⟨S, fun _ h => h, hS, v, .inl ⟨hw, hy⟩, h⟩
theorem tree_skip {o : Oper} {rest : LinO} {S : World → Prop} {a : Act} {w : World} (hS : S w)
    (hw : Region.wanted o (yielded ops a.tmps) = false) (h : wpT P ops Q R rest S (a.put o.dst undef) w) : wpT P ops Q R (.one (some o) true rest) S a w := ⟨S, fun _ h => h, hS, undef, .inr ⟨hw, rfl⟩, h⟩
theorem tree_call {o : Oper} {rest : LinO} {S : World → Prop} {a : Act} {w : World} (hS : S w) (hw : Region.wanted o (yielded ops a.tmps) = true)
    (h : ∀ K : Act → World → Prop, Shut (∀ a w, S w → (S w → wpT P ops Q R rest S a w) → K a w) → Oper.wp P o a w K Q) : wpT P ops Q R (.one (some o) false rest) S a w :=
  ⟨S, fun _ h => h, hS, by unfold linStep; rw [if_pos hw]; exact h _ (fun _ _ h1 h2 => ⟨h1, h2 h1⟩)⟩
theorem tree_two {o o' : Oper} {r s : LinO} {S : World → Prop} {a : Act} {w : World} (hS : S w) (hw : Region.wanted o (yielded ops a.tmps) = true) (hw' : Region.wanted o' (yielded ops a.tmps) = true)
    (h : ∀ K : Act → World → Prop, Shut (∀ a w, S w → (S w → wpT P ops Q R r S a w) → K a w) → Oper.wp P o a w K Q)
    (h' : ∀ K : Act → World → Prop, Shut (∀ a w, S w → (S w → wpT P ops Q R s S a w) → K a w) → Oper.wp P o' a w K Q) : wpT P ops Q R (.two (some o) (some o') r s) S a w :=
  ⟨S, fun _ h => h, hS, by unfold linStep; rw [if_pos hw]; exact h _ (fun _ _ h1 h2 => ⟨h1, h2 h1⟩), by unfold linStep; rw [if_pos hw']; exact h' _ (fun _ _ h1 h2 => ⟨h1, h2 h1⟩)⟩
theorem tree_more {l : LinO} {S S' : World → Prop} {a : Act} {w : World} (h1 : ∀ x, S' x → S x) (h : wpT P ops Q R l S' a w) : wpT P ops Q R l S a w := by
  rcases l with _ | ⟨o, b, r⟩ | ⟨o, o', r, s⟩
  · exact h
  · rcases o with _ | o
    · cases b <;> exact h
    · cases b
      · obtain ⟨S2, k1, k2⟩ := h
        exact ⟨S2, fun x hx => h1 x (k1 x hx), k2⟩
      · obtain ⟨S2, k1, k2⟩ := h
        exact ⟨S2, fun x hx => h1 x (k1 x hx), k2⟩
  · rcases o with _ | o
    · exact h
    · rcases o' with _ | o'
      · exact h
      · obtain ⟨S2, k1, k2⟩ := h
        exact ⟨S2, fun x hx => h1 x (k1 x hx), k2⟩
theorem tree_done {S : World → Prop} {a : Act} {w : World} (h : R a w) : wpT P ops Q R .nil S a w := h
end
end Go.Proofs.YteagglddgkjkmaaGreat.Words

/- append onto a row of the call's own: its block is the row's, or a new one. A law of no one program. -/
namespace Go.Proofs.YteagglddgkjkmaaGreat.Words
set_option maxRecDepth 100000
open Go.RowKit
section
variable {P : Program} (w : World)
theorem run_append_new (base : Nat) (t ty e : TypeId) (i : TypeInfo) (z : Value) (size bytes : Nat) (ht : P.underlying t = some (.slice e)) (hi : P.info? e = some i) (hz : i.zero = some z)
    (hsize : i.size = size) (hby : i.bytes = bytes) (hzs : z.cells.size = size) (hsz : 0 < size)
    (v : Value) (n : Nat) (xs : List Value) (hown : w.ownsRow base e size v n xs) (B : Nat) (x : Value) (m : Nat) (news : List Value) (hr : Row w B size x m news) (h1 : ∀ u ∈ news, u.oneCell' = true)
    (h63 : n + m ≤ maxLen) (hbytes : (n + m) * bytes ≤ 140737488355328) (hbase : base ≤ w.heap.size) :
    ∃ v' w', (Builtin.append_ #[t, t] ty #[v, x]).run P w = .ok v' w' ∧ w'.ownsRow base e size v' (n + m) (xs ++ news) ∧ w.grownBy w' v.ownBlock ∧ (∀ g, v'.ownBlock = some g → v.ownBlock = some g ∨ w.heap.size ≤ g) := by
  obtain ⟨v', w', r1, r2, r3⟩ := run_append_row (P := P) w base t ty e i z size bytes ht hi hz hsize hby hzs hsz v n xs hown B x m news hr h1 h63 hbytes hbase
  refine ⟨v', w', r1, r2, r3, fun g hg => ?_⟩
  rcases hown.2 with ⟨rfl, rfl⟩ | ⟨g0, cap, cur, rfl, hbg, hh, hnc, hcm, hcs, htake⟩
  · have hx : xs = [] := List.eq_nil_of_length_eq_zero (by simpa using hown.1)
    subst hx
    obtain ⟨v2, w2, k1, k2, _⟩ := run_append_row (P := P) w w.heap.size t ty e i z size bytes ht hi hz hsize hby hzs hsz _ 0 [] (World.ownsRow_nil _ _ _ _) B x m news hr h1 h63 hbytes (Nat.le_refl _)
    have := r1.symm.trans k1
    injection this with e1 e2
    subst e1
    exact .inr (k2.lt g hg).1
  · obtain ⟨A, c, rfl⟩ := hr.form
    cases A with
    | none =>
      obtain ⟨rfl, rfl⟩ := hr.bare rfl
      have k1 := run_append_owned_none (P := P) w base t ty e i size ht hi _ n xs hown
      have := r1.symm.trans k1
      injection this with e1 e2
      subst e1
      exact .inl hg
    | some ad =>
      by_cases hroom : n + m ≤ cap
      · have k1 := run_append_room (P := P) w t ty e i ht hi g0 n cap cur hh ad m c news (by rw [hsize]; exact hr.len) (hr.cells ad rfl) h1 hroom (by
          have := hr.len
          rw [hsize, this, ← Nat.add_mul]
          have h2 : cur.size = cap * size := by simpa using hcs
          rw [h2]
          exact Nat.mul_le_mul_right _ hroom)
        have := r1.symm.trans k1
        injection this with e1 e2
        rw [e1] at hg
        exact .inl hg
      · have k1 := run_append_grow (P := P) w t ty e i z ht hi hz ⟨g0, 0, none⟩ n cap xs (by rw [hsize]; exact hown.1) (hown.cells (g := g0) rfl) ad m c news (by rw [hsize]; exact hr.len) (hr.cells ad rfl) (by omega) (by unfold maxLen at h63; omega)
          (by rw [hby]; exact growslice_fits (by omega) (by omega))
        have := r1.symm.trans k1
        injection this with e1 e2
        rw [e1] at hg
        simp only [Value.ownBlock, Option.some.injEq] at hg
        exact .inr (Nat.le_of_eq hg)
theorem wpList_append_new {ops : Array Oper} {rest : List Oper} {o : Oper} {a : Act} {Q : Exit → Act → World → Prop} (hgd : o.guard = none) (s y : Operand) (t : TypeId)
    (ho : o.op = .call { callee := .builtin .append, args := #[s, y], argTypes := #[t, t] })
    (base : Nat) (e : TypeId) (i : TypeInfo) (z : Value) (size bytes : Nat) (ht : P.underlying t = some (.slice e)) (hi : P.info? e = some i) (hz : i.zero = some z)
    (hsize : i.size = size) (hby : i.bytes = bytes) (hzs : z.cells.size = size) (hsz : 0 < size)
    (v : Value) (n : Nat) (xs : List Value) (hs : a.eval s = v) (hown : w.ownsRow base e size v n xs) (B : Nat) (x : Value) (m : Nat) (news : List Value) (hx : a.eval y = x) (hr : Row w B size x m news) (h1 : ∀ u ∈ news, u.oneCell' = true)
    (h63 : n + m ≤ maxLen) (hbytes : (n + m) * bytes ≤ 140737488355328) (hbase : base ≤ w.heap.size)
    (h : ∀ v' w', w'.ownsRow base e size v' (n + m) (xs ++ news) → w.grownBy w' v.ownBlock → (∀ g, v'.ownBlock = some g → v.ownBlock = some g ∨ w.heap.size ≤ g) → wpList P ops Q rest (a.put o.dst v') w') : wpList P ops Q (o :: rest) a w := by
  refine wpList_plain hgd fun K hK => ?_
  obtain ⟨v', w', hrun, h2, h3, h4⟩ := run_append_new (P := P) w base t o.type e i z size bytes ht hi hz hsize hby hzs hsz v n xs hown B x m news hr h1 h63 hbytes hbase
  unfold Oper.wp execOp
  simp only [ho, resolve, invoke, builtin, Sem.run_bind, Sem.run_pure, Result.andThen_ok, List.map_toArray, List.map_cons, List.map_nil, hs, hx, hrun]
  exact hK _ _ (h v' w' h2 h3 h4)
end
end Go.Proofs.YteagglddgkjkmaaGreat.Words

/- Laws of no one program: a region that draws its order, walked along a tree, with ONE continuation that knows what the region has made; append onto an own row as a step of such a tree. -/
namespace Go.Proofs.YteagglddgkjkmaaGreat.Words
set_option maxRecDepth 100000
open Go.RowKit
set_option linter.unusedVariables false
section
variable {P : Program} {ops : Array Oper} {Q : Exit → Act → World → Prop} {R : Act → World → Prop} {α : Type}
theorem region_tree_ex {id : Nat} {a : Act} {w : World} (F : Act → α → Act) (G : α → World → Prop) (t : LinT) (hm : P.follows .mixedOrders = true) (hs : Region.noSelect ops = true) (hl : t.size = ops.size)
    (hok : t.ok .any ops (Array.replicate ops.size false) = true) (S : World → Prop)
    (h : wpT P ops (NoPanic Q) (fun a' w' => ∃ B, a' = F a B ∧ G B w') (t.look ops) S a w.drew) (hR : ∀ B w', G B w' → Q .normal (F a B) w') : (Code.region id ops true).wp P Q a w :=
  wp_region_tree _ t hm hs hl hok S (fun a' w' hh => by obtain ⟨B, rfl, hg⟩ := hh; exact hR B w' hg) h
theorem tree_load_ex {op : Oper} {rest : LinO} {S : World → Prop} {a : Act} {w : World} (hS : S w) (hw : Region.wanted op (yielded ops a.tmps) = true) (ty : TypeId) (x : Operand) (ho : op.op = .load ty x)
    (b k : Nat) (hx : a.eval x = .pointer (some ⟨b, k, none⟩)) (l cs : List Value) (hb : ∀ y, S y → Box y b l) (hc : ∀ j v, cs[j]? = some v → l[k + j]? = some v) (d : TypeDesc)
    (hu : P.underlying ty = some d) (hd : d.isRow = true) (n : Nat) (hi : (P.info? ty).map (·.size) = some n) (hn : cs.length = n)
    (h : wpT P ops Q R rest S (a.put op.dst (.agg cs.toArray)) w) : wpT P ops Q R (.one (some op) true rest) S a w :=
  ⟨S, fun _ h => h, hS, _, yieldsIf_load_mid hw ty x ho b k hx cs d (fun y hy => (hb y hy).range hc) hu hd (by rw [hn]; exact hi), h⟩
end
section
variable {P : Program} {ops : Array Oper} {Q : Exit → Act → World → Prop} {R : Act → World → Prop}
theorem tree_put_cells {op : Oper} {rest : LinO} {S : World → Prop} {a : Act} {w : World} (hS : S w) (hw : Region.wanted op (yielded ops a.tmps) = true) (ty : TypeId) (x y : Operand) (ho : op.op = .store ty x y)
    (b k : Nat) (cs : List Value) (hx : a.eval x = .pointer (some ⟨b, k, none⟩)) (hy : a.eval y = .agg cs.toArray) (l : List Value) (hb : Box w b l) (hl : k + cs.length ≤ l.length)
    (n : Nat) (hi : (P.info? ty).map (·.size) = some n) (hn : cs.length = n) (h1 : ∀ v ∈ cs, v.oneCell' = true)
    (hT : ∀ w', Box w' b (splice l k cs) → w.grownBy w' (some b) → S w')
    (h : ∀ w', Box w' b (splice l k cs) → w.grownBy w' (some b) → wpT P ops Q R rest S (a.put op.dst undef) w') : wpT P ops Q R (.one (some op) false rest) S a w :=
  tree_call hS hw fun K hK => wp_store_mid ty x y ho b k cs.toArray hx hy (hb.there (by simpa using hl)) (by rw [hi]; simp [hn]) (all_oneCell_toArray h1) (hK.out _ _
    (hT _ (by simpa using hb.setCells hl) (by simpa using grown_setCells w b cs k hb.lt)) fun _ => h _ (by simpa using hb.setCells hl) (by simpa using grown_setCells w b cs k hb.lt))
theorem own_less {w : World} {base base' : Nat} {e : TypeId} {size : Nat} {v : Value} {n : Nat} {xs : List Value} (h : w.ownsRow base e size v n xs) (hb : base' ≤ base) : w.ownsRow base' e size v n xs := by
  obtain ⟨h0, h1⟩ := h
  refine ⟨h0, ?_⟩
  rcases h1 with h1 | ⟨g, c, cur, e1, h3, h4⟩
  · exact .inl h1
  · exact .inr ⟨g, c, cur, e1, Nat.le_trans hb h3, h4⟩
end
section
variable {P : Program} {ops : Array Oper} {rest : List (Option Oper × Bool)} {op : Oper} {a : Act} {Q : Exit → Act → World → Prop} {S : World → Prop} {w : World}
theorem lin_put_cells (hS : S w) (hw : Region.wanted op (yielded ops a.tmps) = true) (ty : TypeId) (x y : Operand) (ho : op.op = .store ty x y)
    (b k : Nat) (cs : List Value) (hx : a.eval x = .pointer (some ⟨b, k, none⟩)) (hy : a.eval y = .agg cs.toArray) (l : List Value) (hb : Box w b l) (hl : k + cs.length ≤ l.length)
    (n : Nat) (hi : (P.info? ty).map (·.size) = some n) (hn : cs.length = n) (h1 : ∀ v ∈ cs, v.oneCell' = true)
    (hT : ∀ w', Box w' b (splice l k cs) → w.grownBy w' (some b) → S w')
    (h : ∀ w', Box w' b (splice l k cs) → w.grownBy w' (some b) → wpLin P ops Q rest S (a.put op.dst undef) w') : wpLin P ops Q ((some op, false) :: rest) S a w :=
  lin_call hS hw fun K hK => wp_store_mid ty x y ho b k cs.toArray hx hy (hb.there (by simpa using hl)) (by rw [hi]; simp [hn]) (all_oneCell_toArray h1) (hK.out _ _
    (hT _ (by simpa using hb.setCells hl) (by simpa using grown_setCells w b cs k hb.lt)) fun _ => h _ (by simpa using hb.setCells hl) (by simpa using grown_setCells w b cs k hb.lt))
end
section
variable {P : Program} (w : World)
theorem wp_append_new {o : Oper} {a : Act} {K : Act → World → Prop} {Q : Exit → Act → World → Prop} (s y : Operand) (t : TypeId)
    (ho : o.op = .call { callee := .builtin .append, args := #[s, y], argTypes := #[t, t] })
    (base : Nat) (e : TypeId) (i : TypeInfo) (z : Value) (size bytes : Nat) (ht : P.underlying t = some (.slice e)) (hi : P.info? e = some i) (hz : i.zero = some z)
    (hsize : i.size = size) (hby : i.bytes = bytes) (hzs : z.cells.size = size) (hsz : 0 < size)
    (v : Value) (n : Nat) (xs : List Value) (hs : a.eval s = v) (hown : w.ownsRow base e size v n xs) (B : Nat) (x : Value) (m : Nat) (news : List Value) (hx : a.eval y = x) (hr : Row w B size x m news) (h1 : ∀ u ∈ news, u.oneCell' = true)
    (h63 : n + m ≤ maxLen) (hbytes : (n + m) * bytes ≤ 140737488355328) (hbase : base ≤ w.heap.size)
    (h : ∀ v' w', w'.ownsRow base e size v' (n + m) (xs ++ news) → w.grownBy w' v.ownBlock → (∀ g, v'.ownBlock = some g → v.ownBlock = some g ∨ w.heap.size ≤ g) → K (a.put o.dst v') w') : o.wp P a w K Q := by
  obtain ⟨v', w', hrun, h2, h3, h4⟩ := run_append_new (P := P) w base t o.type e i z size bytes ht hi hz hsize hby hzs hsz v n xs hown B x m news hr h1 h63 hbytes hbase
  unfold Oper.wp execOp
  simp only [ho, resolve, invoke, builtin, Sem.run_bind, Sem.run_pure, Result.andThen_ok, List.map_toArray, List.map_cons, List.map_nil, hs, hx, hrun]
  exact h v' w' h2 h3 h4
theorem wpList_built_at {ops : Array Oper} {rest : List Oper} {o : Oper} {a : Act} {Q : Exit → Act → World → Prop} (hg : o.guard = none) (t : TypeId) (parts : Array (Nat × Operand)) (ho : o.op = .build t parts)
    (cells : Array Value) (hb : P.built t (parts.map fun (i, x) => (i, a.eval x)).toList = some cells) (h : wpList P ops Q rest (a.put o.dst (.agg cells)) w) : wpList P ops Q (o :: rest) a w :=
  wpList_plain hg fun K hK => wp_build t parts ho (by rw [hb]; rfl) (by rw [hb]; exact hK _ _ h)
/-- A row of one record that has just been made. -/
theorem row_new (l : List Value) (s : Nat) (hl : l.length = s) (hs : 0 < s) (t : TypeId) : Row (w.alloc (.cells l.toArray t)) (w.heap.size + 1) s (.slice (some ⟨w.heap.size, 0, none⟩) 1 1) 1 l := by
  refine ⟨by omega, _, _, rfl, Nat.le_refl _, by omega, (fun h => by cases h), fun _ => ⟨w.heap.size, 0, rfl, Nat.lt_succ_self _, fun j u hu => ?_⟩⟩
  have := new_cells w l.toArray t l rfl j u hu
  rwa [add_spot] at this
end
end Go.Proofs.YteagglddgkjkmaaGreat.Words

/- The block in which package emit makes an instruction's cells, and the document's own maker. -/
namespace Go.Proofs.YteagglddgkjkmaaGreat.Words
set_option maxRecDepth 100000
open Go.RowKit
set_option linter.unusedVariables false

/-- The twenty-five cells. -/
def cellsL (i : Ins) (z : List Int) (pc off : Int) (va ve : Value) : List Value := insV i ++ (oV z ++ [.int .i64 pc, .int .i64 off, va, ve])
section
variable {i : Ins} {z : List Int} {pc off : Int} {va ve : Value}
theorem cellsL_len (h : z.length = 16) : (cellsL i z pc off va ve).length = 25 := by simp [cellsL, insV, oV, h]
theorem cellsL_ins {k : Nat} {u : Value} (hk : (insV i)[k]? = some u) : (cellsL i z pc off va ve)[0 + k]? = some u := by
  unfold cellsL
  rw [Nat.zero_add, List.getElem?_append_left (by have := (List.getElem?_eq_some_iff.1 hk).1; exact this)]; exact hk
theorem cellsL_own {k : Nat} {u : Value} (hk : (oV z)[k]? = some u) : (cellsL i z pc off va ve)[5 + k]? = some u := by
  unfold cellsL
  rw [List.getElem?_append_right (by simp [insV]), show (5 + k) - (insV i).length = k by simp [insV], List.getElem?_append_left ((List.getElem?_eq_some_iff.1 hk).1)]; exact hk
theorem cellsL_end (h : z.length = 16) (k : Nat) : (cellsL i z pc off va ve)[21 + k]? = [.int .i64 pc, .int .i64 off, va, ve][k]? := by
  unfold cellsL
  rw [List.getElem?_append_right (by simp [insV]; omega), List.getElem?_append_right (by simp [insV, oV, h]; omega)]
  congr 1
  simp [insV, oV, h]; omega
theorem cellsL_a (h : z.length = 16) (v : Value) : (cellsL i z pc off va ve).set 23 v = cellsL i z pc off v ve := by
  unfold cellsL
  rw [List.set_append_right _ _ (by simp [insV]), List.set_append_right _ _ (by simp [insV, oV, h])]
  simp [insV, oV, h]
theorem cellsL_e (h : z.length = 16) (v : Value) : (cellsL i z pc off va ve).set 24 v = cellsL i z pc off va v := by
  unfold cellsL
  rw [List.set_append_right _ _ (by simp [insV]), List.set_append_right _ _ (by simp [insV, oV, h])]
  simp [insV, oV, h]
end
/-- The block b, with A's cells and E's in rows of the call's own behind it; of what stood ahead all stands but S. -/
structure Em (b : Nat) (i : Ins) (z : List Int) (pc off : Int) (S : Nat → Prop) (w0 Z : World) (va ve : Value) (la le : List Cel) : Prop where
  bx : Box Z b (cellsL i z pc off va ve)
  oa : Z.ownsRow (b + 1) 49 9 va la.length (flat celCells la)
  oe : Z.ownsRow (b + 1) 49 9 ve le.length (flat celCells le)
  ne : ∀ g, va.ownBlock = some g → ve.ownBlock ≠ some g
  keep : KeepS S w0 Z
  sb : S b ∨ w0.heap.size ≤ b
  sa : ∀ g, va.ownBlock = some g → S g ∨ w0.heap.size ≤ g
  se : ∀ g, ve.ownBlock = some g → S g ∨ w0.heap.size ≤ g
  hz : z.length = 16
theorem info_cel : (Tryz.prog.info? 49).map (fun i => (i.zero, i.size, i.bytes)) = some (some (celV ⟨0, noI, 0, 0, 0⟩), 9, 72) := by kernel_rfl
theorem size_cel : (Tryz.prog.info? 49).map (·.size) = some 9 := by kernel_rfl
section
variable {b : Nat} {i : Ins} {z : List Int} {pc off : Int} {S : Nat → Prop} {w0 Z Y : World} {va ve v' : Value} {la le : List Cel}
theorem Em.lt (h : Em b i z pc off S w0 Z va ve la le) : b < Z.heap.size := h.bx.lt
/-- A step on: what may have turned is S, or new. -/
theorem KeepS.on {S T : Nat → Prop} {x y z : World} (h : KeepS S x y) (g : KeepS T y z) (hT : ∀ k, T k → S k ∨ x.heap.size ≤ k) : KeepS S x z :=
  ⟨g.os.trans h.os, g.tape.trans h.tape, g.output.trans h.output, Nat.le_trans h.size g.size, fun k hk hs => (g.block k (Nat.lt_of_lt_of_le hk h.size) (fun e => (hT k e).elim hs (fun c => by omega))).trans (h.block k hk hs)⟩
theorem Em.keepS {T : Nat → Prop} (h : Em b i z pc off S w0 Z va ve la le) (hS : KeepS T Z Y) (hs : ∀ j, T j → Z.heap.size ≤ j) : Em b i z pc off S w0 Y va ve la le := by
  have h1 := h.lt
  exact ⟨h.bx.keepS hS (fun e => by have := hs _ e; omega), own_keepS h.oa hS (fun g hg e => by have := (h.oa.lt g hg).2; have := hs _ e; omega), own_keepS h.oe hS (fun g hg e => by have := (h.oe.lt g hg).2; have := hs _ e; omega), h.ne,
    h.keep.on hS (fun k e => .inr (Nat.le_trans h.keep.size (hs k e))), h.sb, h.sa, h.se, h.hz⟩
theorem Em.below (h : Em b i z pc off S w0 Z va ve la le) (hb : Below Z.heap.size Z Y) : Em b i z pc off S w0 Y va ve la le :=
  h.keepS (KeepS.of_below (S := fun _ => False) hb) (fun _ e => e.elim)
theorem Em.alloc (h : Em b i z pc off S w0 Z va ve la le) (o : Obj) : Em b i z pc off S w0 (Z.alloc o) va ve la le := h.below ((Below.refl _ _).alloc (Nat.le_refl _) o)
theorem Em.drew (h : Em b i z pc off S w0 Z va ve la le) : Em b i z pc off S w0 Z.drew va ve la le := h.below (Below.refl _ _).drew
theorem Em.drewN (h : Em b i z pc off S w0 Z va ve la le) (k : Nat) : Em b i z pc off S w0 (Z.drewN k) va ve la le := h.below (Below.drewN_ (Below.refl _ _) k)
theorem Em.from (h : Em b i z pc off S w0 Z va ve la le) : Em b i z pc off (fun j => j = b ∨ va.ownBlock = some j ∨ ve.ownBlock = some j) Z Z va ve la le :=
  ⟨h.bx, h.oa, h.oe, h.ne, KeepS.refl _ _, .inl (.inl rfl), fun g hg => .inl (.inr (.inl hg)), fun g hg => .inl (.inr (.inr hg)), h.hz⟩
theorem Em.to (h : Em b i z pc off S w0 Z va ve la le) {va' ve' : Value} {la' le' : List Cel} (g : Em b i z pc off (fun j => j = b ∨ va.ownBlock = some j ∨ ve.ownBlock = some j) Z Y va' ve' la' le') : Em b i z pc off S w0 Y va' ve' la' le' := by
  have key : ∀ k, (k = b ∨ va.ownBlock = some k ∨ ve.ownBlock = some k) → S k ∨ w0.heap.size ≤ k := by
    rintro k (e | e | e)
    · rw [e]; exact h.sb
    · exact h.sa k e
    · exact h.se k e
  exact ⟨g.bx, g.oa, g.oe, g.ne, h.keep.on g.keep key, h.sb, fun q hq => (g.sa q hq).elim (key q) (fun c => .inr (Nat.le_trans h.keep.size c)), fun q hq => (g.se q hq).elim (key q) (fun c => .inr (Nat.le_trans h.keep.size c)), g.hz⟩
theorem Em.cellPc (h : Em b i z pc off S w0 Z va ve la le) : Z.cell? ⟨b, 21, none⟩ = some (.int .i64 pc) := h.bx.cell (cellsL_end h.hz 0)
theorem Em.cellOff (h : Em b i z pc off S w0 Z va ve la le) : Z.cell? ⟨b, 22, none⟩ = some (.int .i64 off) := h.bx.cell (cellsL_end h.hz 1)
theorem Em.cellA (h : Em b i z pc off S w0 Z va ve la le) : Z.cell? ⟨b, 23, none⟩ = some va := h.bx.cell (cellsL_end h.hz 2)
theorem Em.cellE (h : Em b i z pc off S w0 Z va ve la le) : Z.cell? ⟨b, 24, none⟩ = some ve := h.bx.cell (cellsL_end h.hz 3)
theorem Em.cellR (h : Em b i z pc off S w0 Z va ve la le) {n : Nat} (hn : n ≤ 15) : Z.cell? ⟨b, 5 + n, none⟩ = some (.int .i64 (atO z n)) := h.bx.cell (cellsL_own (oV_at h.hz hn))
theorem Em.cellI (h : Em b i z pc off S w0 Z va ve la le) {k : Nat} {u : Value} (hk : (insV i)[k]? = some u) : Z.cell? ⟨b, k, none⟩ = some u := h.bx.cell (by have := cellsL_ins (z := z) (pc := pc) (off := off) (va := va) (ve := ve) hk; rwa [Nat.zero_add] at this)
theorem boxI {y : World} (h : Box y b (cellsL i z pc off va ve)) {k : Nat} {u : Value} (hk : (insV i)[k]? = some u) : y.cell? ⟨b, k, none⟩ = some u := h.cell (by have := cellsL_ins (z := z) (pc := pc) (off := off) (va := va) (ve := ve) hk; rwa [Nat.zero_add] at this)
theorem Em.frozen (h : Em b i z pc off S w0 Z va ve la le) (k : Nat) : Z.frozen? ⟨b, k, none⟩ = false := h.bx.frozen k
theorem flat_snocL (la : List Cel) (c : Cel) : (flat celCells la ++ celCells c) = flat celCells (la ++ [c]) := (flat_snoc la c).symm
/-- A row elsewhere. -/
theorem row_keepS {S : Nat → Prop} {w w' : World} {B s n c : Nat} {A : Option Addr} {xs : List Value} (h : Row w B s (.slice A n c) n xs) (hB : B ≤ w.heap.size) (hk : KeepS S w w') (hA : ∀ a, A = some a → ¬ S a.block) : Row w' B s (.slice A n c) n xs := by
  obtain ⟨h0, A', c', h1, h2, h3, h4, h5⟩ := h
  injection h1 with e1 _ e2
  subst e1 e2
  refine ⟨h0, _, _, rfl, h2, h3, h4, fun hn => ?_⟩
  obtain ⟨g, o, e, hb, hc⟩ := h5 hn
  exact ⟨g, o, e, hb, fun j u hu => hk.cell (Nat.lt_of_lt_of_le hb hB) (hA _ e) (hc j u hu)⟩
/-- A cell more for A. -/
theorem Em.appA (h : Em b i z pc off S w0 Z va ve la le) {o : Obj} {c : Cel} (hO : Y.ownsRow (b + 1) 49 9 v' (la.length + 1) (flat celCells la ++ celCells c)) (hg : (Z.alloc o).grownBy Y va.ownBlock)
    (hn : ∀ g, v'.ownBlock = some g → va.ownBlock = some g ∨ (Z.alloc o).heap.size ≤ g) :
    Em b i z pc off S w0 (Y.setCell ⟨b, 23, none⟩ v') v' ve (la ++ [c]) le ∧ Y.cell? ⟨b, 23, none⟩ = some va ∧ Y.frozen? ⟨b, 23, none⟩ = false ∧ Box Y b (cellsL i z pc off va ve) ∧ ∃ A k, v' = .slice A (la.length + 1) k := by
  have h1 := h.lt
  have ha := h.alloc o
  have hob : ∀ g, va.ownBlock = some g → b < g := fun g hg => by have := (h.oa.lt g hg).1; omega
  have kg : KeepS (fun j => b < j) (Z.alloc o) Y := KeepS.of_grown hg (fun g e => hob g e)
  have kb : KeepS (fun j => j = b) Y (Y.setCell ⟨b, 23, none⟩ v') := (KeepS.refl (fun j => j = b) Y).setCell rfl 23 _
  have hby : Box Y b (cellsL i z pc off va ve) := ha.bx.keepS kg (fun e => Nat.lt_irrefl _ e)
  have hne' : v'.ownBlock ≠ some b := fun e => by have := (hO.lt _ e).1; omega
  have hne2 : ve.ownBlock ≠ some b := fun e => by have := (h.oe.lt _ e).1; omega
  have oeg := own_grown ha.oe hg (fun g hg2 e => h.ne g e.symm hg2)
  refine ⟨⟨?_, ?_, ownsRow_setCell_other oeg hne2 _, ?_, ?_, h.sb, ?_, h.se, h.hz⟩, hby.cell (cellsL_end h.hz 2), hby.frozen _, hby, ?_⟩
  · have := hby.setCell 23 v'
    rwa [cellsL_a h.hz] at this
  · rw [List.length_append, ← flat_snocL]
    exact ownsRow_setCell_other hO hne' _
  · intro g hg1 hg2
    rcases hn g hg1 with e | e
    · exact h.ne g e hg2
    · have := (h.oe.lt g hg2).2
      simp at e; omega
  · exact (ha.keep.on (KeepS.of_grown (S := fun j => va.ownBlock = some j) hg (fun g e => e)) (fun k e => h.sa k e)).on kb (fun k e => by rw [e]; exact h.sb)
  · intro g hg1
    rcases hn g hg1 with e | e
    · exact h.sa g e
    · exact .inr (Nat.le_trans h.keep.size (Nat.le_trans (by simp) e))
  · obtain ⟨A, k, e⟩ := (Row.of_own hO).form
    exact ⟨A, k, e⟩
/-- A cell more for E. -/
theorem Em.appE (h : Em b i z pc off S w0 Z va ve la le) {o : Obj} {c : Cel} (hO : Y.ownsRow (b + 1) 49 9 v' (le.length + 1) (flat celCells le ++ celCells c)) (hg : (Z.alloc o).grownBy Y ve.ownBlock)
    (hn : ∀ g, v'.ownBlock = some g → ve.ownBlock = some g ∨ (Z.alloc o).heap.size ≤ g) :
    Em b i z pc off S w0 (Y.setCell ⟨b, 24, none⟩ v') va v' la (le ++ [c]) ∧ Y.cell? ⟨b, 24, none⟩ = some ve ∧ Y.frozen? ⟨b, 24, none⟩ = false ∧ Box Y b (cellsL i z pc off va ve) ∧ ∃ A k, v' = .slice A (le.length + 1) k := by
  have h1 := h.lt
  have ha := h.alloc o
  have hob : ∀ g, ve.ownBlock = some g → b < g := fun g hg => by have := (h.oe.lt g hg).1; omega
  have kg : KeepS (fun j => b < j) (Z.alloc o) Y := KeepS.of_grown hg (fun g e => hob g e)
  have kb : KeepS (fun j => j = b) Y (Y.setCell ⟨b, 24, none⟩ v') := (KeepS.refl (fun j => j = b) Y).setCell rfl 24 _
  have hby : Box Y b (cellsL i z pc off va ve) := ha.bx.keepS kg (fun e => Nat.lt_irrefl _ e)
  have hne' : v'.ownBlock ≠ some b := fun e => by have := (hO.lt _ e).1; omega
  have hne2 : va.ownBlock ≠ some b := fun e => by have := (h.oa.lt _ e).1; omega
  have oag := own_grown ha.oa hg (fun g hg1 e => h.ne g hg1 e.symm)
  refine ⟨⟨?_, ownsRow_setCell_other oag hne2 _, ?_, ?_, ?_, h.sb, h.sa, ?_, h.hz⟩, hby.cell (cellsL_end h.hz 3), hby.frozen _, hby, ?_⟩
  · have := hby.setCell 24 v'
    rwa [cellsL_e h.hz] at this
  · rw [List.length_append, ← flat_snocL]
    exact ownsRow_setCell_other hO hne' _
  · intro g hg1 hg2
    rcases hn g hg2 with e | e
    · exact h.ne g hg1 e
    · have := (h.oa.lt g hg1).2
      simp at e; omega
  · exact (ha.keep.on (KeepS.of_grown (S := fun j => ve.ownBlock = some j) hg (fun g e => e)) (fun k e => h.se k e)).on kb (fun k e => by rw [e]; exact h.sb)
  · intro g hg1
    rcases hn g hg1 with e | e
    · exact h.se g e
    · exact .inr (Nat.le_trans h.keep.size (Nat.le_trans (by simp) e))
  · obtain ⟨A, k, e⟩ := (Row.of_own hO).form
    exact ⟨A, k, e⟩
end
end Go.Proofs.YteagglddgkjkmaaGreat.Words

/- Contracts of package emit's makers of one cell: bare, with the instruction, with a register. -/
namespace Go.Proofs.YteagglddgkjkmaaGreat.Words
set_option maxRecDepth 100000
open Go.RowKit
set_option linter.unusedVariables false
set_option linter.unusedSimpArgs false

theorem load_cel {w : World} {b : Nat} {c : Cel} (h : Box w b (celCells c)) : (loadVar 49 ⟨b, 0, none⟩).run Tryz.prog w = .ok (.agg (celCells c).toArray) w :=
  run_loadVar_mid w b 0 49 (celCells c) _ h.whole Tryz.underlying49 rfl (by rw [celCells_len]; exact size_cel)
theorem size_ins5 : (Tryz.prog.info? 44).map (·.size) = some 5 := by kernel_rfl
theorem insV_one (i : Ins) : ∀ u ∈ insV i, u.oneCell' = true := by
  intro u hu
  simp only [insV, List.mem_cons, List.not_mem_nil, or_false] at hu
  rcases hu with rfl | rfl | rfl | rfl | rfl <;> rfl
/-- A cell as the one element of a new row. -/
theorem fold_cel (c : Cel) : List.foldl (fun (cs : Array Value) (x : Value × Nat) => cs.setIfInBounds x.snd x.fst) #[.int .i64 0, .int .i64 0, .int .i64 0, .int .i64 0, .int .i64 0, .int .i64 0, .int .i64 0, .int .i64 0, .int .i64 0] (celCells c).zipIdx = (celCells c).toArray := by
  simp [celCells, List.zipIdx]
def zeroCel : Cel := ⟨0, noI, 0, 0, 0⟩

set_option maxHeartbeats 2000000 in
theorem bare_any {b : Nat} {i : Ins} {z : List Int} {pc off : Int} {S : Nat → Prop} {w0 : World} {va ve : Value} {la le : List Cel} (k : Int) (w : World) (h : Em b i z pc off S w0 w va ve la le) :
    Calls Tryz.prog 99 #[.pointer (some ⟨b, 0, none⟩), .int .i64 k] w fun e w' => e = .returned (.agg (celCells (bareC k pc off)).toArray) ∧ Below w.heap.size w w' := by
  have hlt := h.lt
  have D0 := Lib.hid (fun (y : World) (hy : Below w.heap.size w y) => below_cell hy hlt h.cellPc)
  have D1 := Lib.hid (fun (y : World) (hy : Below w.heap.size w y) => below_cell hy hlt h.cellOff)
  obtain ⟨W, hW⟩ : ∃ W, W = w.alloc (.cells (celCells zeroCel).toArray 49) := ⟨_, rfl⟩
  have HB : Hid (Box W w.heap.size (celCells zeroCel)) := by rw [hW]; exact Box.new w _ _
  have HK : Hid (Below w.heap.size w W) := by rw [hW]; exact (Below.refl _ w).alloc (Nat.le_refl _) _
  have hzW : w.heap.size < W.heap.size := by rw [hW]; simp
  clear h
  go_enter Tryz.func99, Tryz.ntmps99
  go_wp2_with fail
  change Code.wp _ _ _ _ (w.alloc (.cells (celCells zeroCel).toArray 49))
  rw [← hW]
  clear hW
  refine wp_region_lin [(0, true), (1, true), (2, true), (3, true), (4, true), (5, true), (6, true), (7, true), (8, true), (9, true), (10, false)] (by kernel_rfl) (by kernel_rfl) rfl (by kernel_rfl) (Below w.heap.size w) ?_
  have hkd : Below w.heap.size w W.drew := HK.out.drew
  simp only [List.map_cons, List.map_nil, List.getElem?_toArray, List.getElem?_cons_succ, List.getElem?_cons_zero]
  iterate 10 (refine lin_take (v := ?_) hkd (by rfl) ?_ ?_; rotate_left; (intro x hx; (try dsimp only at hx); (try have d0 := D0.out x hx); (try have d1 := D1.out x hx); go_simp; try (with_reducible rfl)); (try simp only [Act.put, List.setIfInBounds_toArray, List.set_cons_zero, List.set_cons_succ]))
  refine lin_put_cells hkd (by rfl) 49 (.tmp 4) (.tmp 14) rfl w.heap.size 0 (celCells (bareC k pc off)) rfl rfl (celCells zeroCel) HB.out.drew (by simp [celCells_len]) 9 size_cel rfl (celCells_one _) (fun y hy hg => Below.grown hkd hg (Nat.le_of_lt hzW) (fun i hi => by injection hi with hi; omega)) ?_
  intro w3 B3 hg3
  rw [splice_whole (celCells zeroCel) (celCells (bareC k pc off)) rfl] at B3
  refine lin_done ?_
  go_wp2_with fail
  refine bodyPost_ret (v := .agg (celCells (bareC k pc off)).toArray) ?_ rfl ⟨rfl, ?_⟩
  · exact results_cell Tryz.results99 _ _ _ ⟨w.heap.size, 0, none⟩ _ rfl (load_cel B3)
  · exact Below.grown hkd hg3 (Nat.le_of_lt hzW) (fun i hi => by injection hi with hi; omega)

set_option maxHeartbeats 2000000 in
theorem withIns_any {b : Nat} {i : Ins} {z : List Int} {pc off : Int} {S : Nat → Prop} {w0 : World} {va ve : Value} {la le : List Cel} (k : Int) (w : World) (h : Em b i z pc off S w0 w va ve la le) :
    Calls Tryz.prog 105 #[.pointer (some ⟨b, 0, none⟩), .int .i64 k] w fun e w' => e = .returned (.agg (celCells (insC k i pc off)).toArray) ∧ Below w.heap.size w w' := by
  have hlt := h.lt
  obtain ⟨W, hW⟩ : ∃ W, W = w.alloc (.cells (celCells zeroCel).toArray 49) := ⟨_, rfl⟩
  have HB : Hid (Box W w.heap.size (celCells zeroCel)) := by rw [hW]; exact Box.new w _ _
  have HK : Hid (Below w.heap.size w W) := by rw [hW]; exact (Below.refl _ w).alloc (Nat.le_refl _) _
  have HE : Hid (Em b i z pc off S w0 W va ve la le) := by rw [hW]; exact h.alloc _
  have hzW : w.heap.size < W.heap.size := by rw [hW]; simp
  clear h
  go_enter Tryz.func105, Tryz.ntmps105
  go_wp2_with fail
  change Calls _ _ _ (w.alloc (.cells (celCells zeroCel).toArray 49)) _
  rw [← hW]
  clear hW
  refine (bare_any k _ HE.out).mono ?_; rintro e w2 ⟨rfl, hb2⟩
  have HE2 := Lib.hid (HE.out.below hb2)
  have HB2 := Lib.hid (HB.out.below hb2 hzW)
  have HK2 := Lib.hid (HK.out.trans (hb2.mono (Nat.le_of_lt hzW)))
  have hz2 : w.heap.size < w2.heap.size := Nat.lt_of_lt_of_le hzW hb2.size
  have hbl2 : b < w2.heap.size := HE2.out.lt
  have HB3 := Lib.hid (HB2.out.alloc (.cells (celCells zeroCel).toArray 49))
  have HC3 := Lib.hid (Box.new w2 (celCells zeroCel) 49)
  have HE3 := Lib.hid (HE2.out.alloc (.cells (celCells zeroCel).toArray 49))
  have HK3 := Lib.hid (HK2.out.alloc (Nat.le_of_lt hz2) (.cells (celCells zeroCel).toArray 49))
  clear hb2
  go_wp2_with (first
    | (refine wpList_store_box rfl 49 (.tmp 5) (.tmp 8) rfl w2.heap.size 0 (celCells (bareC k pc off)) rfl rfl (celCells zeroCel) HC3.out (by simp [celCells_len]) 9 size_cel rfl (celCells_one _) ?_; intro w4 B4 hg4; rw [splice_whole (celCells zeroCel) (celCells (bareC k pc off)) rfl] at B4; have HC4 := Lib.hid B4; have HB4 := Lib.hid (HB3.out.grown hg4 (fun e => by injection e with e; omega)); have HE4 := Lib.hid (HE2.out.keepS (((KeepS.refl (fun j => w2.heap.size ≤ j) w2).alloc _).trans (KeepS.of_grown hg4 (fun g e => by injection e with e; omega))) (fun j e => e)); have HK4 := Lib.hid (Below.grown HK3.out hg4 (by simp; omega) (fun q hq => by injection hq with hq; omega)); clear B4 hg4)
    | (refine wpList_load_box rfl 44 (.tmp 11) rfl b 0 rfl (cellsL i z pc off va ve) (insV i) HE4.out.bx (fun j v h => cellsL_ins h) _ Tryz.underlying44 rfl 5 size_ins5 rfl ?_)
    | (refine wpList_store_box rfl 44 (.tmp 13) (.tmp 12) rfl w2.heap.size 1 (insV i) rfl rfl (celCells (bareC k pc off)) HC4.out (by simp [celCells_len, insV]) 5 size_ins5 rfl (insV_one _) ?_; intro w5 B5 hg5; have HC5 : Hid (Box w5 w2.heap.size (celCells (insC k i pc off))) := B5; have HB5 := Lib.hid (HB4.out.grown hg5 (fun e => by injection e with e; omega)); have HK5 := Lib.hid (Below.grown HK4.out hg5 (by have := HB4.out.lt; omega) (fun q hq => by injection hq with hq; omega)); clear B5 hg5)
    | (refine wpList_load_box rfl 49 (.tmp 5) rfl w2.heap.size 0 rfl (celCells (insC k i pc off)) (celCells (insC k i pc off)) HC5.out whole_at _ Tryz.underlying49 rfl 9 size_cel rfl ?_)
    | (refine wpList_store_box rfl 49 (.tmp 4) (.tmp 14) rfl w.heap.size 0 (celCells (insC k i pc off)) rfl rfl (celCells zeroCel) HB5.out (by simp [celCells_len]) 9 size_cel rfl (celCells_one _) ?_; intro w6 B6 hg6; rw [splice_whole (celCells zeroCel) (celCells (insC k i pc off)) rfl] at B6))
  refine bodyPost_ret (v := .agg (celCells (insC k i pc off)).toArray) ?_ rfl ⟨rfl, ?_⟩
  · exact results_cell Tryz.results105 _ _ _ ⟨w.heap.size, 0, none⟩ _ rfl (load_cel B6)
  · exact Below.grown HK5.out hg6 (Nat.le_of_lt HB5.out.lt) (fun i hi => by injection hi with hi; omega)

set_option maxHeartbeats 2000000 in
theorem withReg_any {b : Nat} {i : Ins} {z : List Int} {pc off : Int} {S : Nat → Prop} {w0 : World} {va ve : Value} {la le : List Cel} (k r : Int) (w : World) (h : Em b i z pc off S w0 w va ve la le) :
    Calls Tryz.prog 107 #[.pointer (some ⟨b, 0, none⟩), .int .i64 k, .int .i64 r] w fun e w' => e = .returned (.agg (celCells (regC k r pc off)).toArray) ∧ Below w.heap.size w w' := by
  have hlt := h.lt
  obtain ⟨W, hW⟩ : ∃ W, W = w.alloc (.cells (celCells zeroCel).toArray 49) := ⟨_, rfl⟩
  have HB : Hid (Box W w.heap.size (celCells zeroCel)) := by rw [hW]; exact Box.new w _ _
  have HK : Hid (Below w.heap.size w W) := by rw [hW]; exact (Below.refl _ w).alloc (Nat.le_refl _) _
  have HE : Hid (Em b i z pc off S w0 W va ve la le) := by rw [hW]; exact h.alloc _
  have hzW : w.heap.size < W.heap.size := by rw [hW]; simp
  clear h
  go_enter Tryz.func107, Tryz.ntmps107
  go_wp2_with fail
  change Calls _ _ _ (w.alloc (.cells (celCells zeroCel).toArray 49)) _
  rw [← hW]
  clear hW
  refine (bare_any k _ HE.out).mono ?_; rintro e w2 ⟨rfl, hb2⟩
  have HE2 := Lib.hid (HE.out.below hb2)
  have HB2 := Lib.hid (HB.out.below hb2 hzW)
  have HK2 := Lib.hid (HK.out.trans (hb2.mono (Nat.le_of_lt hzW)))
  have hz2 : w.heap.size < w2.heap.size := Nat.lt_of_lt_of_le hzW hb2.size
  have hbl2 : b < w2.heap.size := HE2.out.lt
  have HB3 := Lib.hid (HB2.out.alloc (.cells (celCells zeroCel).toArray 49))
  have HC3 := Lib.hid (Box.new w2 (celCells zeroCel) 49)
  have HE3 := Lib.hid (HE2.out.alloc (.cells (celCells zeroCel).toArray 49))
  have HK3 := Lib.hid (HK2.out.alloc (Nat.le_of_lt hz2) (.cells (celCells zeroCel).toArray 49))
  clear hb2
  go_wp2_with (first
    | (refine wpList_store_box rfl 49 (.tmp 7) (.tmp 10) rfl w2.heap.size 0 (celCells (bareC k pc off)) rfl rfl (celCells zeroCel) HC3.out (by simp [celCells_len]) 9 size_cel rfl (celCells_one _) ?_; intro w4 B4 hg4; rw [splice_whole (celCells zeroCel) (celCells (bareC k pc off)) rfl] at B4; have HC4 := Lib.hid B4; have HB4 := Lib.hid (HB3.out.grown hg4 (fun e => by injection e with e; omega)); have HE4 := Lib.hid (HE2.out.keepS (((KeepS.refl (fun j => w2.heap.size ≤ j) w2).alloc _).trans (KeepS.of_grown hg4 (fun g e => by injection e with e; omega))) (fun j e => e)); have HK4 := Lib.hid (Below.grown HK3.out hg4 (by simp; omega) (fun q hq => by injection hq with hq; omega)); have c6 : w4.cell? ⟨w2.heap.size, 6, none⟩ = some (.int .i64 0) := B4.cell (k := 6) rfl; have f6 := B4.frozen 6; have HZ4 : Hid (w2.heap.size < w4.heap.size) := B4.lt; clear B4 hg4)
    | (refine wpList_load_box rfl 49 (.tmp 7) rfl w2.heap.size 0 rfl (celCells (regC k r pc off)) (celCells (regC k r pc off)) (show Box _ w2.heap.size (celCells (regC k r pc off)) from HC4.out.setCell 6 (.int .i64 r)) whole_at _ Tryz.underlying49 rfl 9 size_cel rfl ?_)
    | (refine wpList_store_box rfl 49 (.tmp 6) (.tmp 13) rfl w.heap.size 0 (celCells (regC k r pc off)) rfl rfl (celCells zeroCel) (HB4.out.setCell_other (b' := w2.heap.size) (Nat.ne_of_lt hz2) 6 (.int .i64 r)) (by simp [celCells_len]) 9 size_cel rfl (celCells_one _) ?_; intro w6 B6 hg6; rw [splice_whole (celCells zeroCel) (celCells (regC k r pc off)) rfl] at B6))
  refine bodyPost_ret (v := .agg (celCells (regC k r pc off)).toArray) ?_ rfl ⟨rfl, ?_⟩
  · exact results_cell Tryz.results107 _ _ _ ⟨w.heap.size, 0, none⟩ _ rfl (load_cel B6)
  · exact Below.grown (HK4.out.setCell (p := ⟨w2.heap.size, 6, none⟩) (Nat.le_of_lt hz2) _) hg6 (by simp [World.setCell]; have := HB4.out.lt; omega) (fun i hi => by injection hi with hi; omega)
end Go.Proofs.YteagglddgkjkmaaGreat.Words

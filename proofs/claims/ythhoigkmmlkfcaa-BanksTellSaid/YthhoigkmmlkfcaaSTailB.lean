/- A law of no one program: THE TAIL OF A CHAIN OF '&&' OR '||'. Behind the operand that decides it, nothing but picks, moves and operations whose guard is not given is left: which truth values are known says what the last slot has, reckoned by the kernel in one step. -/
import Derived.Test.YthhoigkmmlkfcaaG00
namespace Go.Proofs.Ythhoigkmmlkfcaa.Words
set_option maxRecDepth 100000
open Go.RowKit
set_option linter.unusedVariables false
set_option linter.unusedSimpArgs false

def opdB (k : List (Nat × Bool)) : Operand → Option Bool
  | .tmp t => k.lookup t
  | .const (.bool b) => some b
  | _ => none
def valB (k : List (Nat × Bool)) : Op → Option Bool
  | .pick c x y => match opdB k c with
    | some true => opdB k x
    | some false => opdB k y
    | none => none
  | .move x => opdB k x
  | .assign x => opdB k x
  | _ => none
/-- Whether an operation's guard is given, as far as it is known. -/
def wantB (ops : Array Oper) (k : List (Nat × Bool)) (o : Oper) : Option Bool :=
  match o.guard with
  | none => some true
  | some (j, b) => match ((ops[j]?).bind (·.dst)).bind (fun t => k.lookup t) with
    | some b' => some (b' == b)
    | none => none
def dropB (k : List (Nat × Bool)) (d : Nat) : List (Nat × Bool) := k.filter fun p => !(p.1 == d)
def tailB (ops : Array Oper) (n : Nat) : List Oper → List (Nat × Bool) → Option (List (Nat × Bool))
  | [], k => some k
  | o :: rest, k =>
    match o.dst with
    | none => none
    | some d =>
      if d < n then
        match wantB ops k o with
        | some true => match valB k o.op with
          | some v => tailB ops n rest ((d, v) :: dropB k d)
          | none => none
        | some false => tailB ops n rest (dropB k d)
        | none => none
      else none
def AgreeB (k : List (Nat × Bool)) (a : Act) : Prop := ∀ i b, k.lookup i = some b → a.tmps[i]? = some (.bool b)
theorem lookup_drop (k : List (Nat × Bool)) (d i : Nat) (b : Bool) (h : (dropB k d).lookup i = some b) : i ≠ d ∧ k.lookup i = some b := by
  induction k with
  | nil => cases h
  | cons p k ih =>
    obtain ⟨j, c⟩ := p
    unfold dropB at h
    rw [List.filter_cons] at h
    by_cases e : j = d
    · subst e
      rw [if_neg (by simp)] at h
      obtain ⟨h1, h2⟩ := ih h
      refine ⟨h1, ?_⟩
      rw [List.lookup_cons, show (i == j) = false by simpa using h1]
      exact h2
    · rw [if_pos (by simpa using e), List.lookup_cons] at h
      rw [List.lookup_cons]
      cases e2 : (i == j)
      · rw [e2] at h
        exact ih h
      · rw [e2] at h
        have : i = j := by simpa using e2
        subst this
        exact ⟨e, h⟩
section
variable {P : Program} {ops : Array Oper} {Q : Exit → Act → World → Prop} {w : World}
theorem AgreeB.put {k : List (Nat × Bool)} {a : Act} {d : Nat} (h : AgreeB k a) (v : Value) : AgreeB (dropB k d) (a.put (some d) v) := by
  intro i b hi
  obtain ⟨h1, h2⟩ := lookup_drop k d i b hi
  have := h i b h2
  show (a.tmps.setIfInBounds d v)[i]? = _
  rw [Array.getElem?_setIfInBounds_ne (by omega)]; exact this
theorem AgreeB.cons {k : List (Nat × Bool)} {a : Act} {d : Nat} (h : AgreeB k a) (b : Bool) (hd : d < a.tmps.size) : AgreeB ((d, b) :: dropB k d) (a.put (some d) (.bool b)) := by
  intro i c hi
  rw [List.lookup_cons] at hi
  cases e : (i == d)
  · rw [e] at hi
    exact h.put (.bool b) i c hi
  · rw [e] at hi
    injection hi with hi
    have : i = d := by simpa using e
    subst this
    subst hi
    show (a.tmps.setIfInBounds i (.bool b))[i]? = _
    rw [Array.getElem?_setIfInBounds_self_of_lt hd]
theorem AgreeB.opd {k : List (Nat × Bool)} {a : Act} (h : AgreeB k a) {x : Operand} {b : Bool} (hx : opdB k x = some b) : a.eval x = .bool b := by
  cases x with
  | tmp t =>
    have := h t b hx
    show a.tmps.getD t undef = _
    rw [Array.getD_eq_getD_getElem?, this]; rfl
  | const v =>
    cases v <;> simp [opdB] at hx
    subst hx; rfl
  | _ => simp [opdB] at hx
theorem AgreeB.val {k : List (Nat × Bool)} {a : Act} (h : AgreeB k a) {o : Oper} {b : Bool} (hv : valB k o.op = some b) : (execOp a.eval o).run P w = .ok (.value (.bool b)) w := by
  unfold execOp
  cases ho : o.op with
  | pick c x y =>
    rw [ho] at hv
    change (match opdB k c with | some true => opdB k x | some false => opdB k y | none => none) = some b at hv
    cases hc : opdB k c with
    | none => rw [hc] at hv; cases hv
    | some t =>
      rw [hc] at hv
      have e1 := h.opd hc
      cases t
      · have e2 := h.opd hv
        simp [e1, e2, asBool]
      · have e2 := h.opd hv
        simp [e1, e2, asBool]
  | move x =>
    rw [ho] at hv
    have e := h.opd (show opdB k x = some b from hv)
    simp [e]
  | assign x =>
    rw [ho] at hv
    have e := h.opd (show opdB k x = some b from hv)
    simp [e]
  | _ => rw [ho] at hv; simp [valB] at hv
theorem AgreeB.want {k : List (Nat × Bool)} {a : Act} (h : AgreeB k a) {o : Oper} {b : Bool} (hv : wantB ops k o = some b) : Region.wanted o (yielded ops a.tmps) = b := by
  unfold wantB at hv
  unfold Region.wanted
  cases hg : o.guard with
  | none => rw [hg] at hv; injection hv with hv
  | some p =>
    obtain ⟨j, c⟩ := p
    rw [hg] at hv
    dsimp only at hv ⊢
    cases hd : (ops[j]?).bind (·.dst) with
    | none => rw [hd] at hv; simp at hv
    | some t =>
      rw [hd] at hv
      simp only [Option.bind_some] at hv
      cases hl : k.lookup t with
      | none => rw [hl] at hv; cases hv
      | some b' =>
        rw [hl] at hv
        injection hv with hv
        unfold yielded
        rw [hd]
        simp only [Option.bind_some]
        rw [h t b' hl]
        subst hv
        simp
theorem AgreeB.one {a : Act} {i : Nat} {b : Bool} (h : a.tmps[i]? = some (.bool b)) : AgreeB [(i, b)] a := by
  intro j c hj
  rw [List.lookup_cons] at hj
  cases e : (j == i)
  · rw [e] at hj; cases hj
  · rw [e] at hj
    injection hj with hj
    have : j = i := by simpa using e
    subst this
    subst hj
    exact h
theorem AgreeB.two {a : Act} {i j : Nat} {b c : Bool} (h : a.tmps[i]? = some (.bool b)) (g : a.tmps[j]? = some (.bool c)) : AgreeB [(i, b), (j, c)] a := by
  intro m d hm
  rw [List.lookup_cons] at hm
  cases e : (m == i)
  · rw [e] at hm
    exact AgreeB.one g m d hm
  · rw [e] at hm
    injection hm with hm
    have : m = i := by simpa using e
    subst this
    subst hm
    exact h
/-- THE TAIL. -/
theorem wpList_tail (n r : Nat) (b : Bool) : ∀ (rest : List Oper) (k : List (Nat × Bool)) (a : Act), ((tailB ops n rest k).bind fun k' => k'.lookup r) = some b → AgreeB k a → a.tmps.size = n →
    (∀ T : Array Value, T.size = n → T[r]? = some (.bool b) → (∀ i, (rest.all fun o => !(o.dst == some i)) = true → T[i]? = a.tmps[i]?) → Q .normal ⟨T, a.defers⟩ w) → wpList P ops Q rest a w
  | [], k, a, hr, ha, hn, h => by
    have hl : k.lookup r = some b := by simpa [tailB] using hr
    exact h a.tmps hn (ha r b hl) (fun i _ => rfl)
  | o :: rest, k, a, hr, ha, hn, h => by
    unfold tailB at hr
    cases hd : o.dst with
    | none => rw [hd] at hr; simp at hr
    | some d =>
      rw [hd] at hr
      dsimp only at hr
      by_cases hdn : d < n
      · rw [if_pos hdn] at hr
        have hrest : ∀ v, (∀ T : Array Value, T.size = n → T[r]? = some (.bool b) → (∀ i, (rest.all fun o => !(o.dst == some i)) = true → T[i]? = (a.put (some d) v).tmps[i]?) → Q .normal ⟨T, (a.put (some d) v).defers⟩ w) := by
          intro v T h1 h2 h3
          refine h T h1 h2 (fun i hi => ?_)
          rw [List.all_cons, Bool.and_eq_true] at hi
          rw [h3 i hi.2]
          have hne : d ≠ i := by
            intro e
            subst e
            rw [hd] at hi
            simp at hi
          show (a.tmps.setIfInBounds d v)[i]? = _
          rw [Array.getElem?_setIfInBounds_ne hne]
        have hsz : ∀ v, (a.put (some d) v).tmps.size = n := fun v => by show (a.tmps.setIfInBounds d v).size = n; rw [Array.size_setIfInBounds]; exact hn
        cases hw : wantB ops k o with
        | none => rw [hw] at hr; simp at hr
        | some t =>
          rw [hw] at hr
          have hwt := ha.want hw
          cases t
          · refine wpList_step fun K hK => ?_
            rw [if_neg (by rw [hwt]; decide), hd]
            exact hK _ _ (wpList_tail n r b rest _ _ hr (ha.put undef) (hsz undef) (hrest undef))
          · dsimp only at hr
            cases hv : valB k o.op with
            | none => rw [hv] at hr; simp at hr
            | some v =>
              rw [hv] at hr
              refine wpList_step fun K hK => ?_
              rw [if_pos hwt]
              unfold Oper.wp
              rw [ha.val hv]
              show K (a.put o.dst (.bool v)) w
              rw [hd]
              exact hK _ _ (wpList_tail n r b rest _ _ hr (ha.cons v (by rw [hn]; exact hdn)) (hsz _) (hrest _))
      · rw [if_neg hdn] at hr; simp at hr
/-- The same in a region that draws its order. -/
theorem wpLin_tail (n r : Nat) (b : Bool) : ∀ (rest : List (Oper × Bool)) (k : List (Nat × Bool)) (S : World → Prop) (a : Act), S w → ((tailB ops n (rest.map (·.1)) k).bind fun k' => k'.lookup r) = some b → AgreeB k a → a.tmps.size = n →
    (∀ T : Array Value, T.size = n → T[r]? = some (.bool b) → (∀ i, (rest.all fun o => !(o.1.dst == some i)) = true → T[i]? = a.tmps[i]?) → Q .normal ⟨T, a.defers⟩ w) → wpLin P ops Q (rest.map fun p => (some p.1, p.2)) S a w
  | [], k, S, a, hS, hr, ha, hn, h => by
    have hl : k.lookup r = some b := by simpa [tailB] using hr
    exact h a.tmps hn (ha r b hl) (fun i _ => rfl)
  | (o, fl) :: rest, k, S, a, hS, hr, ha, hn, h => by
    rw [List.map_cons] at hr ⊢
    unfold tailB at hr
    dsimp only at hr
    cases hd : o.dst with
    | none => rw [hd] at hr; simp at hr
    | some d =>
      rw [hd] at hr
      dsimp only at hr
      by_cases hdn : d < n
      · rw [if_pos hdn] at hr
        have hrest : ∀ v, (∀ T : Array Value, T.size = n → T[r]? = some (.bool b) → (∀ i, (rest.all fun o => !(o.1.dst == some i)) = true → T[i]? = (a.put (some d) v).tmps[i]?) → Q .normal ⟨T, (a.put (some d) v).defers⟩ w) := by
          intro v T h1 h2 h3
          refine h T h1 h2 (fun i hi => ?_)
          rw [List.all_cons, Bool.and_eq_true] at hi
          rw [h3 i hi.2]
          have hne : d ≠ i := by
            intro e
            subst e
            rw [hd] at hi
            simp at hi
          show (a.tmps.setIfInBounds d v)[i]? = _
          rw [Array.getElem?_setIfInBounds_ne hne]
        have hsz : ∀ v, (a.put (some d) v).tmps.size = n := fun v => by show (a.tmps.setIfInBounds d v).size = n; rw [Array.size_setIfInBounds]; exact hn
        cases hw : wantB ops k o with
        | none => rw [hw] at hr; simp at hr
        | some t =>
          rw [hw] at hr
          have hwt := ha.want hw
          cases t
          · have hT := wpLin_tail n r b rest _ S _ hS hr (ha.put undef) (hsz undef) (hrest undef)
            rw [← hd] at hT
            cases fl
            · refine ⟨S, fun _ h => h, hS, ?_⟩
              unfold linStep
              rw [if_neg (by rw [hwt]; decide)]
              exact ⟨hS, hT⟩
            · exact ⟨S, fun _ h => h, hS, undef, .inr ⟨hwt, rfl⟩, hT⟩
          · dsimp only at hr
            cases hv : valB k o.op with
            | none => rw [hv] at hr; simp at hr
            | some v =>
              rw [hv] at hr
              have hT := wpLin_tail n r b rest _ S _ hS hr (ha.cons v (by rw [hn]; exact hdn)) (hsz _) (hrest _)
              rw [← hd] at hT
              cases fl
              · refine ⟨S, fun _ h => h, hS, ?_⟩
                unfold linStep
                rw [if_pos hwt]
                unfold Oper.wp
                rw [ha.val hv]
                exact ⟨hS, hT⟩
              · exact ⟨S, fun _ h => h, hS, .bool v, .inl ⟨hwt, fun x _ => ha.val hv⟩, hT⟩
      · rw [if_neg hdn] at hr; simp at hr
def unL (L : List (Option Oper × Bool)) : List (Oper × Bool) := L.filterMap fun p => p.1.map fun o => (o, p.2)
theorem unL_map : ∀ (L : List (Option Oper × Bool)), (L.all fun p => p.1.isSome) = true → (unL L).map (fun p => (some p.1, p.2)) = L
  | [], _ => rfl
  | (none, b) :: L, h => by simp at h
  | (some o, b) :: L, h => by
    rw [List.all_cons, Bool.and_eq_true] at h
    show (some o, b) :: (unL L).map (fun p => (some p.1, p.2)) = _
    rw [unL_map L h.2]
theorem wpLin_tailL (n r : Nat) (b : Bool) (L : List (Option Oper × Bool)) (k : List (Nat × Bool)) (S : World → Prop) (a : Act) (hS : S w) (hs : (L.all fun p => p.1.isSome) = true) (hr : ((tailB ops n ((unL L).map (·.1)) k).bind fun k' => k'.lookup r) = some b) (ha : AgreeB k a) (hn : a.tmps.size = n)
    (h : ∀ T : Array Value, T.size = n → T[r]? = some (.bool b) → Q .normal ⟨T, a.defers⟩ w) : wpLin P ops Q L S a w := by
  rw [← unL_map L hs]
  exact wpLin_tail n r b (unL L) k S a hS hr ha hn (fun T h1 h2 _ => h T h1 h2)
theorem wpLin_tailN (n r : Nat) (b : Bool) (L : List (Option Oper × Bool)) (k : List (Nat × Bool)) (S : World → Prop) (a : Act) (hS : S w) (hs : (L.all fun p => p.1.isSome) = true) (hr : ((tailB ops n ((unL L).map (·.1)) k).bind fun k' => k'.lookup r) = some b) (ha : AgreeB k a) (hn : a.tmps.size = n)
    (h : ∀ T : Array Value, T.size = n → T[r]? = some (.bool b) → Q .normal ⟨T, a.defers⟩ w) : wpLin P ops (NoPanic Q) L S a w :=
  wpLin_tailL n r b L k S a hS hs hr ha hn (fun T h1 h2 => h T h1 h2)
end
end Go.Proofs.Ythhoigkmmlkfcaa.Words

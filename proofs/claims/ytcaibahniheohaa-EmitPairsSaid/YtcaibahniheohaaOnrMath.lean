/- Plain mathematics of chapter 11: which registers A needs, round by round; the least owner that may be. Nothing here speaks of one program text. -/
import Derived.Test.YtcaibahniheohaaIsaMath
namespace Go.Proofs.Ytcaibahniheohaa.Words
set_option maxRecDepth 100000
open Go.RowKit
set_option linter.unusedVariables false

/-- An owner's register. -/
def atO (o : List Int) (n : Int) : Int := o.getD n.toNat 0
def putA (o : List Int) (r : Int) : List Int := if atO o r = 2 then o.set r.toNat 1 else o
def recB (op : Int) : Bool := decide (1 ≤ formZ op ∧ formZ op ≤ 3)
def memB (op : Int) : Bool := decide (formZ op = 4 ∨ formZ op = 5)
/-- What may not be on E because of an instruction. -/
def needZ (i : Ins) (o : List Int) : List Int := if memB i.op = true then [i.a] else if recB i.op = true ∧ atO o i.d = 1 then readsZ i else []
def stepO (o : List Int) (i : Ins) : List Int := (needZ i o).foldl putA o
def roundO (code : List Ins) (o : List Int) : List Int := code.foldl stepO o
def iterO (code : List Ins) : Nat → List Int → List Int
  | 0, o => o
  | k + 1, o => iterO code k (roundO code o)
def firstO : List Int := [0, 2, 2, 2, 2, 2, 2, 2, 2, 2, 2, 2, 2, 2, 2, 2]
def zeroO : List Int := [0, 0, 0, 0, 0, 0, 0, 0, 0, 0, 0, 0, 0, 0, 0, 0]
def leastO (code : List Ins) : List Int := iterO code 17 firstO
def cntE (o : List Int) : Nat := o.count 2
/-- Each register but the first on a side. -/
def OkO (o : List Int) : Prop := o.length = 16 ∧ atO o 0 = 0 ∧ ∀ k : Nat, 1 ≤ k → k ≤ 15 → (atO o k = 1 ∨ atO o k = 2)
theorem firstO_ok : OkO firstO := ⟨rfl, rfl, fun k h1 h2 => (by decide : ∀ k : Fin 16, 1 ≤ k.val → (atO firstO (k.val : Int) = 1 ∨ atO firstO (k.val : Int) = 2)) ⟨k, by omega⟩ h1⟩

theorem atO_nat (o : List Int) (k : Nat) : atO o k = o.getD k 0 := by unfold atO; simp
theorem atO_set (o : List Int) (r k : Nat) (x : Int) (hr : r < o.length) : atO (o.set r x) k = if k = r then x else atO o k := by
  rw [atO_nat, atO_nat, List.getD_eq_getElem?_getD, List.getD_eq_getElem?_getD, List.getElem?_set]
  by_cases h : r = k
  · subst h; simp [hr]
  · rw [if_neg h, if_neg (fun e => h e.symm)]
theorem ext_O {o p : List Int} (ho : o.length = 16) (hp : p.length = 16) (h : ∀ k : Nat, k ≤ 15 → atO o k = atO p k) : o = p := by
  refine List.ext_getElem (by omega) fun i h1 h2 => ?_
  have := h i (by omega)
  rw [atO_nat, atO_nat, List.getD_eq_getElem?_getD, List.getD_eq_getElem?_getD, List.getElem?_eq_getElem h1, List.getElem?_eq_getElem h2] at this
  simpa using this
theorem nat_of {r : Int} (h : 0 ≤ r ∧ r ≤ 15) : ∃ n : Nat, r = n ∧ n ≤ 15 := ⟨r.toNat, by omega, by omega⟩
theorem putA_at {o : List Int} (ho : o.length = 16) {r k : Nat} (hr : r ≤ 15) : atO (putA o r) k = if k = r ∧ atO o r = 2 then 1 else atO o k := by
  unfold putA
  split
  · rename_i h
    rw [show (r : Int).toNat = r from by simp, atO_set o r k 1 (by omega)]
    by_cases e : k = r <;> simp [e, h]
  · rename_i h
    rw [if_neg (fun c => h c.2)]
theorem putA_len (o : List Int) (r : Int) : (putA o r).length = o.length := by unfold putA; split <;> simp
theorem putA_ok {o : List Int} (ho : OkO o) {r : Int} (hr : 0 ≤ r ∧ r ≤ 15) : OkO (putA o r) := by
  obtain ⟨n, rfl, hn⟩ := nat_of hr
  obtain ⟨h1, h2, h3⟩ := ho
  refine ⟨by rw [putA_len, h1], ?_, fun k ha hb => ?_⟩
  · have := putA_at h1 hn (k := 0)
    rw [show ((0 : Nat) : Int) = 0 from rfl] at this
    rw [this]
    split
    · rename_i c; obtain ⟨c1, c2⟩ := c; subst c1; rw [show ((0 : Nat) : Int) = 0 from rfl, h2] at c2; omega
    · exact h2
  · rw [putA_at h1 hn]; split
    · exact Or.inl rfl
    · exact h3 k ha hb
theorem putA_no {o : List Int} {r : Int} (h : atO o r ≠ 2) : putA o r = o := by unfold putA; rw [if_neg h]
theorem cnt_put {o : List Int} (ho : o.length = 16) {r : Int} (hr : 0 ≤ r ∧ r ≤ 15) (h : atO o r = 2) : cntE (o.set r.toNat 1) + 1 = cntE o := by
  obtain ⟨n, rfl, hn⟩ := nat_of hr
  have hl : n < o.length := by omega
  rw [atO_nat, List.getD_eq_getElem?_getD, List.getElem?_eq_getElem hl] at h
  simp only [Option.getD_some] at h
  have hp : 0 < o.count 2 := List.count_pos_iff.2 (by rw [← h]; exact List.getElem_mem hl)
  unfold cntE
  rw [show (n : Int).toNat = n from by simp, List.count_set hl]
  simp only [h, beq_self_eq_true, if_true]
  rw [if_neg (by decide)]; omega
theorem cnt_le {o : List Int} (ho : o.length = 16) {r : Int} (hr : 0 ≤ r ∧ r ≤ 15) : cntE (putA o r) ≤ cntE o ∧ (cntE (putA o r) = cntE o → putA o r = o) := by
  unfold putA
  split
  · rename_i h
    have := cnt_put ho hr h
    omega
  · exact ⟨Nat.le_refl _, fun _ => rfl⟩

/-- A fold that turns less and less. -/
theorem fold_down {α : Type} {f : List Int → α → List Int} {C : α → Prop} (hok : ∀ o x, OkO o → C x → OkO (f o x)) (hd : ∀ o x, OkO o → C x → cntE (f o x) ≤ cntE o ∧ (cntE (f o x) = cntE o → f o x = o)) :
    ∀ (l : List α) (o : List Int), (∀ x ∈ l, C x) → OkO o → OkO (l.foldl f o) ∧ cntE (l.foldl f o) ≤ cntE o ∧ (cntE (l.foldl f o) = cntE o → l.foldl f o = o ∧ ∀ x ∈ l, f o x = o)
  | [], o, _, ho => ⟨ho, Nat.le_refl _, fun _ => ⟨rfl, fun x hx => by cases hx⟩⟩
  | x :: r, o, hC, ho => by
    have hx := hC x (by simp)
    obtain ⟨a1, a2⟩ := hd o x ho hx
    obtain ⟨b1, b2, b3⟩ := fold_down hok hd r (f o x) (fun y hy => hC y (by simp [hy])) (hok o x ho hx)
    rw [List.foldl_cons]
    refine ⟨b1, by omega, fun e => ?_⟩
    have e1 : f o x = o := a2 (by omega)
    rw [e1] at b3 e ⊢
    obtain ⟨c1, c2⟩ := b3 e
    refine ⟨c1, fun y hy => ?_⟩
    rcases List.mem_cons.1 hy with rfl | hy
    · exact e1
    · exact c2 y hy
theorem reads_mem {i : Ins} {r : Int} (h : r ∈ readsZ i) : rightB i = true ∧ 1 ≤ r ∧ r ≤ 15 ∧ (r = i.a ∨ r = i.b) := by
  cases hb : rightB i
  · rw [readsZ_no hb] at h; cases h
  · have := right_range hb
    rw [readsZ_yes hb] at h
    simp only [List.mem_append] at h
    refine ⟨rfl, ?_⟩
    rcases h with h | h
    · split at h
      · cases h
      · simp only [List.mem_singleton] at h; omega
    · split at h
      · cases h
      · simp only [List.mem_singleton] at h; omega
theorem need_range {i : Ins} (hi : rightB i = true) {o : List Int} {r : Int} (h : r ∈ needZ i o) : 0 ≤ r ∧ r ≤ 15 := by
  have := right_range hi
  unfold needZ at h
  split at h
  · simp only [List.mem_singleton] at h; omega
  · split at h
    · have := reads_mem h; omega
    · cases h
theorem puts_down (l : List Int) (o : List Int) (hl : ∀ r ∈ l, 0 ≤ r ∧ r ≤ 15) (ho : OkO o) : OkO (l.foldl putA o) ∧ cntE (l.foldl putA o) ≤ cntE o ∧ (cntE (l.foldl putA o) = cntE o → l.foldl putA o = o ∧ ∀ x ∈ l, putA o x = o) :=
  fold_down (C := fun r => 0 ≤ r ∧ r ≤ 15) (fun o x h c => putA_ok h c) (fun o x h c => cnt_le h.1 c) l o hl ho
theorem step_down (o : List Int) (i : Ins) (ho : OkO o) (hi : rightB i = true) : OkO (stepO o i) ∧ cntE (stepO o i) ≤ cntE o ∧ (cntE (stepO o i) = cntE o → stepO o i = o ∧ ∀ x ∈ needZ i o, putA o x = o) :=
  puts_down (needZ i o) o (fun r h => need_range hi h) ho
theorem round_down (code : List Ins) (o : List Int) (hc : ∀ i ∈ code, rightB i = true) (ho : OkO o) : OkO (roundO code o) ∧ cntE (roundO code o) ≤ cntE o ∧ (cntE (roundO code o) = cntE o → roundO code o = o ∧ ∀ x ∈ code, stepO o x = o) :=
  fold_down (C := fun i => rightB i = true) (fun o x h c => (step_down o x h c).1) (fun o x h c => ⟨(step_down o x h c).2.1, fun e => ((step_down o x h c).2.2 e).1⟩) code o hc ho
theorem iter_fix (code : List Ins) {o : List Int} (h : roundO code o = o) : ∀ k, iterO code k o = o
  | 0 => rfl
  | k + 1 => by rw [iterO, h]; exact iter_fix code h k
theorem iter_add (code : List Ins) : ∀ (j k : Nat) (o : List Int), iterO code (j + k) o = iterO code k (iterO code j o)
  | 0, k, o => by rw [Nat.zero_add]; rfl
  | j + 1, k, o => by rw [show j + 1 + k = (j + k) + 1 from by omega, iterO, iter_add code j k]; rfl
theorem iter_succ (code : List Ins) (j : Nat) (o : List Int) : iterO code (j + 1) o = roundO code (iterO code j o) := by rw [iter_add]; rfl
/-- What the rounds come to stands. -/
theorem least_of (code : List Ins) {j : Nat} {o : List Int} (hj : o = iterO code j firstO) (h17 : j ≤ 17) (hf : roundO code o = o) : leastO code = o := by
  unfold leastO
  rw [show 17 = j + (17 - j) from by omega, iter_add, ← hj, iter_fix code hf]
theorem iter_ok (code : List Ins) (hc : ∀ i ∈ code, rightB i = true) : ∀ (k : Nat) (o : List Int), OkO o → OkO (iterO code k o)
  | 0, o, h => h
  | k + 1, o, h => iter_ok code hc k _ (round_down code o hc h).1
theorem iter_stands (code : List Ins) (hc : ∀ i ∈ code, rightB i = true) : ∀ (k : Nat) (o : List Int), OkO o → cntE o < k → roundO code (iterO code k o) = iterO code k o
  | 0, o, h, hk => absurd hk (by omega)
  | k + 1, o, h, hk => by
    obtain ⟨a, b, c⟩ := round_down code o hc h
    by_cases e : cntE (roundO code o) = cntE o
    · have := (c e).1
      rw [iter_fix code this]; exact this
    · rw [iterO]; exact iter_stands code hc k _ a (by omega)
theorem least_ok (code : List Ins) (hc : ∀ i ∈ code, rightB i = true) : OkO (leastO code) := iter_ok code hc 17 _ firstO_ok
theorem least_stands (code : List Ins) (hc : ∀ i ∈ code, rightB i = true) : roundO code (leastO code) = leastO code := iter_stands code hc 17 _ firstO_ok (by decide)

/-- May the owner be? -/
def ownersB (o : List Int) : Bool := decide (atO o 0 = 0) && (List.range 15).all fun k => decide (atO o ((k : Int) + 1) = 1 ∨ atO o ((k : Int) + 1) = 2)
def anyEB (l : List Int) (o : List Int) : Bool := l.any fun r => decide (atO o r = 2)
def freeB (o : List Int) (i : Ins) : Bool := !anyEB (needZ i o) o
theorem ownersB_ok {o : List Int} (hl : o.length = 16) : ownersB o = true ↔ OkO o := by
  unfold ownersB OkO
  rw [Bool.and_eq_true, decide_eq_true_iff, List.all_eq_true]
  constructor
  · rintro ⟨h0, h⟩
    refine ⟨hl, h0, fun k h1 h15 => ?_⟩
    have := of_decide_eq_true (h (k - 1) (List.mem_range.2 (by omega)))
    rwa [show ((k - 1 : Nat) : Int) + 1 = k from by omega] at this
  · rintro ⟨_, h0, h⟩
    refine ⟨h0, fun k hk => decide_eq_true ?_⟩
    have := h (k + 1) (by omega) (by have := List.mem_range.1 hk; omega)
    rwa [show ((k + 1 : Nat) : Int) = (k : Int) + 1 from by omega] at this
/-- A has all that it needs. -/
def AllO (code : List Ins) (o : List Int) : Prop := ∀ i ∈ code, ∀ r ∈ needZ i o, atO o r ≠ 2
theorem all_free {code : List Ins} {o : List Int} : code.all (freeB o) = true ↔ AllO code o := by
  unfold AllO freeB anyEB
  simp only [List.all_eq_true, Bool.not_eq_true', List.any_eq_false, decide_eq_true_eq]
theorem put_stays {o : List Int} (ho : o.length = 16) {r : Int} (hr : 0 ≤ r ∧ r ≤ 15) (h : putA o r = o) : atO o r ≠ 2 := by
  intro e
  have := cnt_put ho hr e
  unfold putA at h
  rw [if_pos e] at h
  rw [h] at this; omega
theorem stands_all {code : List Ins} (hc : ∀ i ∈ code, rightB i = true) {o : List Int} (ho : OkO o) (h : roundO code o = o) : AllO code o := by
  intro i hi r hr
  have h1 := ((round_down code o hc ho).2.2 (by rw [h])).2 i hi
  have h2 := ((step_down o i ho (hc i hi)).2.2 (by rw [h1])).2 r hr
  exact put_stays ho.1 (need_range (hc i hi) hr) h2
theorem least_all {code : List Ins} (hc : ∀ i ∈ code, rightB i = true) : AllO code (leastO code) := stands_all hc (least_ok code hc) (least_stands code hc)

/-- What is on A in one is on A in the other. -/
def SubO (s o : List Int) : Prop := ∀ k : Nat, k ≤ 15 → atO s k = 1 → atO o k = 1
theorem first_sub (o : List Int) : SubO firstO o := by
  intro k hk h
  exact absurd h ((by decide : ∀ k : Fin 16, atO firstO (k.val : Int) ≠ 1) ⟨k, by omega⟩)
theorem on_of {o : List Int} (ho : OkO o) {r : Int} (hr : 1 ≤ r ∧ r ≤ 15) (h : atO o r ≠ 2) : atO o r = 1 := by
  have := ho.2.2 r.toNat (by omega) (by omega)
  rw [show ((r.toNat : Nat) : Int) = r from by omega] at this
  omega
theorem puts_sub {o : List Int} (ho : OkO o) : ∀ (l : List Int) (s : List Int), OkO s → SubO s o → (∀ r ∈ l, (0 ≤ r ∧ r ≤ 15) ∧ atO o r ≠ 2) → SubO (l.foldl putA s) o
  | [], s, _, hs, _ => hs
  | r :: l, s, hk, hs, h => by
    rw [List.foldl_cons]
    obtain ⟨h1, h2⟩ := h r (by simp)
    refine puts_sub ho l _ (putA_ok hk h1) ?_ (fun x hx => h x (by simp [hx]))
    obtain ⟨n, rfl, hn⟩ := nat_of h1
    intro k hk15 e
    rw [putA_at hk.1 hn] at e
    split at e
    · rename_i c
      obtain ⟨rfl, c2⟩ := c
      refine on_of ho ⟨?_, by omega⟩ h2
      rcases Nat.eq_zero_or_pos k with z | z
      · subst z; rw [show ((0 : Nat) : Int) = 0 from rfl, hk.2.1] at c2; omega
      · omega
    · exact hs k hk15 e
theorem need_sub {i : Ins} (hi : rightB i = true) {s o : List Int} (hs : SubO s o) {r : Int} (h : r ∈ needZ i s) : r ∈ needZ i o := by
  have hr := right_range hi
  unfold needZ at *
  split
  · rename_i c; rwa [if_pos c] at h
  · rename_i c
    rw [if_neg c] at h
    split at h
    · rename_i e
      have := hs i.d.toNat (by omega) (by rw [show ((i.d.toNat : Nat) : Int) = i.d from by omega]; exact e.2)
      rw [show ((i.d.toNat : Nat) : Int) = i.d from by omega] at this
      rw [if_pos ⟨e.1, this⟩]; exact h
    · cases h
theorem steps_sub {o : List Int} (ho : OkO o) : ∀ (code : List Ins) (s : List Int), (∀ i ∈ code, rightB i = true) → AllO code o → OkO s → SubO s o → SubO (roundO code s) o
  | [], s, _, _, _, hs => hs
  | i :: l, s, hc, ha, hk, hs => by
    show SubO (roundO l (stepO s i)) o
    have hi := hc i (by simp)
    refine steps_sub ho l _ (fun x hx => hc x (by simp [hx])) (fun x hx => ha x (by simp [hx])) (step_down s i hk hi).1 ?_
    exact puts_sub ho _ s hk hs fun r hr => ⟨need_range hi hr, ha i (by simp) r (need_sub hi hs hr)⟩
theorem iter_sub {code : List Ins} {o : List Int} (ho : OkO o) (hc : ∀ i ∈ code, rightB i = true) (ha : AllO code o) : ∀ (k : Nat) (s : List Int), OkO s → SubO s o → SubO (iterO code k s) o
  | 0, s, _, hs => hs
  | k + 1, s, hk, hs => iter_sub ho hc ha k _ (round_down code s hc hk).1 (steps_sub ho code s hc ha hk hs)
/-- The least owner that may be. -/
theorem least_sub {code : List Ins} {o : List Int} (hc : ∀ i ∈ code, rightB i = true) (ho : OkO o) (ha : AllO code o) : SubO (leastO code) o := iter_sub ho hc ha 17 _ firstO_ok (first_sub o)

/-- The document's step: it sets what is on A already, too. -/
def setA (o : List Int) (r : Int) : List Int := o.set r.toNat 1
def stepR (o : List Int) (i : Ins) : List Int := if memB i.op = true then (if 0 < i.a then setA o i.a else o) else if recB i.op = true ∧ 0 < i.d ∧ atO o i.d = 1 then (readsZ i).foldl setA o else o
theorem set_put {o : List Int} (ho : OkO o) {r : Int} (hr : 1 ≤ r ∧ r ≤ 15) : setA o r = putA o r := by
  unfold setA putA
  split
  · rfl
  · rename_i h
    have := on_of ho hr h
    obtain ⟨n, rfl, hn⟩ := nat_of (r := r) (by omega)
    rw [show (n : Int).toNat = n from by simp]
    refine ext_O (by rw [List.length_set, ho.1]) ho.1 fun k hk => ?_
    rw [atO_set o n k 1 (by rw [ho.1]; omega)]
    split
    · subst_vars; exact this.symm
    · rfl
theorem sets_puts : ∀ (l : List Int) (o : List Int), OkO o → (∀ r ∈ l, 1 ≤ r ∧ r ≤ 15) → l.foldl setA o = l.foldl putA o
  | [], o, _, _ => rfl
  | r :: l, o, ho, h => by
    have hr := h r (by simp)
    rw [List.foldl_cons, List.foldl_cons, set_put ho hr]
    exact sets_puts l _ (putA_ok ho (by omega)) (fun x hx => h x (by simp [hx]))
theorem step_same {o : List Int} (ho : OkO o) {i : Ins} (hi : rightB i = true) : stepR o i = stepO o i := by
  have hr := right_range hi
  unfold stepR stepO needZ
  by_cases hm : memB i.op = true
  · rw [if_pos hm, if_pos hm]
    show _ = putA o i.a
    by_cases h0 : 0 < i.a
    · rw [if_pos h0]; exact set_put ho (by omega)
    · rw [if_neg h0, putA_no]
      rw [show i.a = 0 from by omega, ho.2.1]; omega
  · rw [if_neg hm, if_neg hm]
    by_cases hd : recB i.op = true ∧ atO o i.d = 1
    · have : 0 < i.d := by
        rcases Int.lt_or_eq_of_le hr.2.1.1 with h | h
        · exact h
        · have := hd.2; rw [← h, ho.2.1] at this; omega
      rw [if_pos ⟨hd.1, this, hd.2⟩, if_pos hd]
      exact sets_puts _ _ ho fun r h => by have := reads_mem h; omega
    · rw [if_neg (fun c => hd ⟨c.1, c.2.2⟩), if_neg hd]; rfl
theorem round_same : ∀ (code : List Ins) (o : List Int), OkO o → (∀ i ∈ code, rightB i = true) → code.foldl stepR o = roundO code o
  | [], o, _, _ => rfl
  | i :: l, o, ho, h => by
    have hi := h i (by simp)
    show l.foldl stepR (stepR o i) = roundO l (stepO o i)
    rw [step_same ho hi]
    exact round_same l _ (step_down o i ho hi).1 (fun x hx => h x (by simp [hx]))
end Go.Proofs.Ytcaibahniheohaa.Words

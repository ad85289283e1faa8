/- Several texts in one: LinLast, Kept, WordOf1, BytesSmall, BytesFits, Info8, WordGet. -/
import Derived.Test.YthhoigkmmlkfcaaG04
import Derived.Test.YthhoigkmmlkfcaaG00
import Derived.Test.YthhoigkmmlkfcaaRows
import Derived.Test.YthhoigkmmlkfcaaG03
import Derived.Test.YthhoigkmmlkfcaaG02

/- A law of no one program: A REGION THAT DRAWS ITS ORDER, WALKED IN ONE ORDER, WHOSE LAST OPERATION WAITS FOR ALL THE OTHERS. That one may turn what the region has read: the condition S need not hold behind it. -/
namespace Go.Proofs.Ythhoigkmmlkfcaa.Words
set_option maxRecDepth 100000
open Go.RowKit
set_option linter.unusedVariables false

def waitsFor (md : Region.Mode) (ops : Array Oper) (j i : Nat) : Bool := match ops[j]? with
  | some o => o.after.any fun e => Region.binds md e && e.on == i
  | none => false
/-- Each of these (the latest first) is waited for by one that comes later. -/
def lastOk (md : Region.Mode) (ops : Array Oper) : List Nat → List Nat → Bool
  | [], _ => true
  | i :: r, acc => acc.any (fun j => waitsFor md ops j i) && lastOk md ops r (i :: acc)
def coversOk (ops : Array Oper) (L : Nat) (l : List Nat) : Bool := (List.range ops.size).all fun i => i == L || l.contains i
def linOkL (md : Region.Mode) (ops : Array Oper) (L : Nat) : List (Nat × Bool) → Array Bool → Bool
  | [], listed => (Region.ready md ops listed == [L]) && (Region.ready md ops (listed.setIfInBounds L true)).isEmpty
  | (i, true) :: rest, listed => (Region.ready md ops listed).contains i && Region.free md ops listed i && (i != L) && linOkL md ops L rest (listed.setIfInBounds i true)
  | (i, false) :: rest, listed => (Region.ready md ops listed == [i]) && (i != L) && linOkL md ops L rest (listed.setIfInBounds i true)
/-- Whoever is listed had all that he waits for listed. -/
def Closed (md : Region.Mode) (ops : Array Oper) (listed : Array Bool) : Prop :=
  ∀ j o, ops[j]? = some o → listed.getD j false = true → ∀ e ∈ o.after, Region.binds md e = true → listed.getD e.on false = true
section
variable {P : Program} {ops : Array Oper} {Q Q0 : Exit → Act → World → Prop} {md : Region.Mode} {S : World → Prop} {L : Nat}
theorem getD_both {listed : Array Bool} {i : Nat} (h : listed.getD i true = false) : listed.getD i false = false := by
  rcases Nat.lt_or_ge i listed.size with h' | h'
  · simp [h'] at h ⊢; exact h
  · simp [Array.getElem?_eq_none h']
theorem Closed.step {listed : Array Bool} (h : Closed md ops listed) {j : Nat} (hj : j ∈ Region.ready md ops listed) : Closed md ops (listed.setIfInBounds j true) := by
  obtain ⟨h0, o, ho, hall⟩ := mem_ready.1 hj
  intro k ok hk hl e he hb
  refine getD_set_true ?_
  by_cases hjk : j = k
  · subst hjk
    rw [ho] at hk
    injection hk with hk
    subst hk
    exact hall e he hb
  · rw [getD_set_ne false hjk] at hl
    exact h k ok hk hl e he hb
theorem Closed.begin (n : Nat) : Closed md ops (Array.replicate n false) := by
  intro j o _ hl
  have h0 : (Array.replicate n false).getD j false = false := by
    rcases Nat.lt_or_ge j n with h | h <;> simp [h]
  rw [h0] at hl
  cases hl
theorem last_all {listed : Array Bool} (h : Closed md ops listed) : ∀ (l acc : List Nat), (∀ k ∈ acc, listed.getD k false = true) → lastOk md ops l acc = true → ∀ i ∈ l, listed.getD i false = true
  | [], _, _, _, i, hi => by cases hi
  | k :: r, acc, hacc, hok, i, hi => by
    simp only [lastOk, Bool.and_eq_true] at hok
    obtain ⟨h1, h2⟩ := hok
    have hk : listed.getD k false = true := by
      rw [List.any_eq_true] at h1
      obtain ⟨j, hj, hw⟩ := h1
      unfold waitsFor at hw
      rcases ho : ops[j]? with _ | o
      · simp [ho] at hw
      · simp only [ho, Array.any_eq_true'] at hw
        obtain ⟨e, he, hb⟩ := hw
        simp only [Bool.and_eq_true, beq_iff_eq] at hb
        rw [← hb.2]
        exact h j o ho (hacc j hj) e he hb.1
    rcases List.mem_cons.1 hi with rfl | hi
    · exact hk
    · exact last_all h r (k :: acc) (fun y hy => by
        rcases List.mem_cons.1 hy with rfl | hy
        · exact hk
        · exact hacc y hy) h2 i hi
/-- Once the last one is listed, so are all others but the late ones. -/
theorem done_of {l late : List Nat} (hl : lastOk md ops l [L] = true) (hc : coversOk ops L (l ++ late) = true) {listed : Array Bool} (h : Closed md ops listed) (hL : listed.getD L false = true) {i : Nat} (hi : i ∈ Region.ready md ops listed) : i ∈ late := by
  obtain ⟨h0, o, ho, _⟩ := mem_ready.1 hi
  have h0' := getD_both h0
  have hlt : i < ops.size := (Array.getElem?_eq_some_iff.1 ho).1
  unfold coversOk at hc
  rw [List.all_eq_true] at hc
  have h1 := hc i (List.mem_range.2 hlt)
  simp only [Bool.or_eq_true, beq_iff_eq] at h1
  rcases h1 with rfl | h1
  · rw [hL] at h0'; cases h0'
  · have h3 : i ∈ l ++ late := by simpa using h1
    rcases List.mem_append.1 h3 with h3 | h3
    · have h2 := last_all h l [L] (fun k hk => by rw [List.mem_singleton.1 hk]; exact hL) hl i h3
      rw [h2] at h0'; cases h0'
    · exact h3
/-- An operation that looks at no world. -/
def Worldless (P : Program) (o : Oper) : Prop := ∀ (ev : Operand → Value) v x, (execOp ev o).run P x = .ok (.value v) x → ∀ y, (execOp ev o).run P y = .ok (.value v) y
def isExtract (o : Oper) : Bool := match o.op with | .extract _ _ => true | _ => false
theorem worldless_extract {o : Oper} (h : isExtract o = true) : Worldless P o := by
  intro ev v x hx y
  unfold isExtract at h
  unfold execOp at hx ⊢
  split at h
  · rename_i t k he
    rw [he] at hx ⊢
    simp only [Instr.extract] at hx ⊢
    cases hq : ev t
    case tuple vs =>
      rw [hq] at hx
      cases hv : vs[k]? with
      | none => simp [hv, Result.andThen] at hx
      | some u =>
        simp only [hv, Sem.run_bind, Sem.run_pure, Result.andThen_ok] at hx ⊢
        injection hx with h1 _
        rw [h1]
    all_goals simp [hq, Result.andThen] at hx
  · cases h
def lateOk (ops : Array Oper) (late : List Nat) : Bool := late.all fun i => match ops[i]? with | some o => isExtract o | none => false
/-- Whatever order is picked from here on, and S holds till the last one is carried out. -/
def wpAnyG (P : Program) (md : Region.Mode) (ops : Array Oper) (Q : Exit → Act → World → Prop) (S : World → Prop) (L : Nat) : Nat → Array Bool → Act → World → Prop
  | 0, listed, a, w => Region.ready md ops listed = [] ∧ Q .normal a w
  | fuel + 1, listed, a, w =>
    (Region.ready md ops listed = [] → Q .normal a w) ∧
    ∀ i ∈ Region.ready md ops listed, wpOp P ops Q i (fun a' w' => ((listed.setIfInBounds i true).getD L false = true ∨ S w') ∧ wpAnyG P md ops Q S L fuel (listed.setIfInBounds i true) a' w') a w
theorem wpAny_of_G : ∀ (fuel : Nat) (listed : Array Bool) (a : Act) (w : World), wpAnyG P md ops Q S L fuel listed a w → wpAny P md ops Q fuel listed a w
  | 0, _, _, _, h => h
  | fuel + 1, _, _, _, h => ⟨h.1, fun i hi => wpOp_mono (fun a' w' h' => wpAny_of_G fuel _ a' w' h'.2) (h.2 i hi)⟩
theorem weakenG {S' : World → Prop} (hS : ∀ x, S' x → S x) : ∀ (fuel : Nat) (listed : Array Bool) (a : Act) (w : World), wpAnyG P md ops Q S' L fuel listed a w → wpAnyG P md ops Q S L fuel listed a w
  | 0, _, _, _, h => h
  | fuel + 1, _, _, _, h => ⟨h.1, fun i hi => wpOp_mono (fun a' w' h' => ⟨h'.1.imp id (hS _), weakenG hS fuel _ a' w' h'.2⟩) (h.2 i hi)⟩
theorem firstG {T : World → Prop} {i : Nat} {oi : Oper} {v : Value} (hi : ops[i]? = some oi) (hiL : i ≠ L) (hsel : ∀ (j : Nat) (o : Oper) cs b, ops[j]? = some o → o.op ≠ .select cs b)
    (hT : ∀ (listed : Array Bool) w, Closed md ops listed → i ∈ Region.ready md ops listed → (listed.getD L false = true ∨ S w) → T w)
    (hQ : ∀ c a w, Q (.panic c) (a.put oi.dst v) w → Q (.panic c) a w) :
    ∀ (fuel : Nat) (listed : Array Bool) (a : Act) (w : World), Closed md ops listed →
      (∀ j oj, ops[j]? = some oj → j ≠ i → listed.getD j true = false → (∀ e ∈ oj.after, Region.binds md e = true → e.on ≠ i) → oi.apart ops oj = true) →
      i ∈ Region.ready md ops listed → YieldsIf P ops T oi v a → (listed.getD L false = true ∨ S w) →
      wpAnyG P md ops Q S L fuel (listed.setIfInBounds i true) (a.put oi.dst v) w → wpAnyG P md ops Q S L (fuel + 1) listed a w := by
  intro fuel
  induction fuel with
  | zero =>
    intro listed a w hcl hfree hr hy hS H
    refine ⟨fun h => (by rw [h] at hr; cases hr), fun j hj => ?_⟩
    by_cases hji : j = i
    · subst hji; exact hy.wpOp hi (hT listed w hcl hr hS) ⟨hS.imp (fun h => getD_set_true h) id, H⟩
    · have := ready_mono hj hji
      rw [H.1] at this
      cases this
  | succ fuel ih =>
    intro listed a w hcl hfree hr hy hS H
    refine ⟨fun h => (by rw [h] at hr; cases hr), fun j hj => ?_⟩
    by_cases hji : j = i
    · subst hji; exact hy.wpOp hi (hT listed w hcl hr hS) ⟨hS.imp (fun h => getD_set_true h) id, H⟩
    · have h1 := H.2 j (ready_mono hj hji)
      obtain ⟨hjun, oj, hoj, hall⟩ := mem_ready.1 hj
      have hnot : ∀ e ∈ oj.after, Region.binds md e = true → e.on ≠ i := fun e he hb heq => by
        have h1 := hall e he hb
        have h0 := (mem_ready.1 hr).1
        rw [heq, getD_both h0] at h1
        cases h1
      have h2 := wpOp_putIf hoj (hfree j oj hoj hji hjun hnot) (fun cs b => hsel i oi cs b hi) (fun cs b => hsel j oj cs b hoj) hQ hy h1
      have hfree' : ∀ k ok, ops[k]? = some ok → k ≠ i → (listed.setIfInBounds j true).getD k true = false →
          (∀ e ∈ ok.after, Region.binds md e = true → e.on ≠ i) → oi.apart ops ok = true := fun k ok hk hki hun hno => by
        refine hfree k ok hk hki ?_ hno
        by_cases hjk : j = k
        · subst hjk; exact hjun
        · rw [getD_set_ne true hjk] at hun; exact hun
      refine wpOp_mono (fun a' w' h3 => ?_) h2
      have hSw : (listed.setIfInBounds j true).getD L false = true ∨ S w' := h3.2.1.imp (fun h => by
        rw [Array.setIfInBounds_comm _ _ (Ne.symm hji), getD_set_ne false hiL] at h
        exact h) id
      refine ⟨hSw, ih (listed.setIfInBounds j true) a' w' (hcl.step hj) hfree' (ready_mono hr (Ne.symm hji)) h3.1 hSw ?_⟩
      rw [Array.setIfInBounds_comm _ _ hji]
      exact h3.2.2
theorem wp_post {o : Oper} {a : Act} {w : World} {K : Act → World → Prop} (hp : ∀ c a w, Q0 (.panic c) a w → Q (.panic c) a w) (ho : LetsOut Q0 → LetsOut Q) (hh : o.wp P a w K Q0) : o.wp P a w K Q := by
  unfold Oper.wp at *
  generalize (execOp a.eval o).run P w = r at *
  cases r with
  | ok n w' =>
    cases n <;> simp only [Oper.upon] at hh ⊢ <;>
      first
        | exact hh
        | exact Calls.mono hh (fun e w'' he => by
            cases e with
            | returned v => exact he
            | panicked c => exact hp _ _ _ he
            | outgrown => exact ho he)
  | halt x w' =>
    cases x <;> simp only [Oper.upon] at hh ⊢
    case panic u => exact hp _ _ _ hh
/-- What holds ahead of the last operation. -/
def LastQ (P : Program) (ops : Array Oper) (o : Oper) (Q : Exit → Act → World → Prop) : Exit → Act → World → Prop
  | .normal, a, w => linStep P ops Q o (Q .normal) a w
  | e, a, w => Q e a w
theorem held_last {oL : Oper} {late : List Nat} (hoL : ops[L]? = some oL) (hs : Region.noSelect ops = true) (hQ : ∀ d v c a w, Q (.panic c) (a.put d v) w → Q (.panic c) a w) (hlate : lateOk ops late = true)
    (hdone : ∀ listed : Array Bool, Closed md ops listed → listed.getD L false = true → ∀ i ∈ Region.ready md ops listed, i ∈ late) :
    ∀ (order : List (Nat × Bool)) (listed : Array Bool) (S : World → Prop) (a : Act) (w : World), linOkL md ops L order listed = true → Closed md ops listed →
      wpLin P ops (LastQ P ops oL Q) (order.map fun p => (ops[p.1]?, p.2)) S a w → wpAnyG P md ops Q S L (order.length + 1) listed a w
  | [], listed, S, a, w, hok, hcl, h => by
    simp only [linOkL, Bool.and_eq_true, beq_iff_eq] at hok
    obtain ⟨h1, h2⟩ := hok
    refine ⟨fun h0 => (by rw [h1] at h0; cases h0), fun j hj => ?_⟩
    have hjL : j = L := by rw [h1] at hj; simpa using hj
    subst hjL
    have hlt : j < listed.size := by
      rcases Nat.lt_or_ge j listed.size with h' | h'
      · exact h'
      · have h0 := (mem_ready.1 hj).1
        simp [Array.getElem?_eq_none h'] at h0
    have hset : (listed.setIfInBounds j true).getD j false = true := by simp [hlt]
    have hk : linStep P ops Q oL (Q .normal) a w := h
    unfold wpOp
    simp only [hoL]
    unfold linStep at hk
    have hend : ∀ a' w', Q .normal a' w' → ((listed.setIfInBounds j true).getD j false = true ∨ S w') ∧ wpAnyG P md ops Q S j 0 (listed.setIfInBounds j true) a' w' := fun a' w' h3 => ⟨.inl hset, by simpa using h2, h3⟩
    split at hk
    · rename_i hw
      rw [if_pos hw]
      exact .inl (Oper.wp_mono hend hk)
    · rename_i hw
      rw [if_neg hw]
      exact hend _ _ hk
  | (i, true) :: rest, listed, S, a, w, hok, hcl, h => by
    simp only [linOkL, Bool.and_eq_true, bne_iff_ne] at hok
    obtain ⟨⟨⟨h1, h2⟩, hne⟩, h3⟩ := hok
    rcases ho : ops[i]? with _ | o
    · simp only [List.map_cons, ho, wpLin] at h
    · simp only [List.map_cons, ho, wpLin] at h
      obtain ⟨S', k1, k2, v, k3, k4⟩ := h
      have hi : i ∈ Region.ready md ops listed := by simpa using h1
      have hrest := held_last hoL hs hQ hlate hdone rest _ S' _ w h3 (hcl.step hi) k4
      refine weakenG k1 _ _ _ _ ?_
      by_cases hlt : i ∈ late
      · have hex : isExtract o = true := by
          unfold lateOk at hlate
          rw [List.all_eq_true] at hlate
          have := hlate i hlt
          simpa [ho] using this
        have k5 : YieldsIf P ops (fun _ => True) o v a := k3.imp (fun ⟨q1, q2⟩ => ⟨q1, fun y _ => worldless_extract hex _ _ w (q2 w k2) y⟩) id
        exact firstG ho hne (Region.noSelect_spec hs) (fun _ _ _ _ _ => trivial) (hQ _ _) _ listed a w hcl (Region.free_spec ho h2) hi k5 (.inr k2) hrest
      · exact firstG ho hne (Region.noSelect_spec hs) (fun l2 w2 hc2 hr2 hS2 => hS2.resolve_left (fun e => hlt (hdone l2 hc2 e i hr2))) (hQ _ _) _ listed a w hcl (Region.free_spec ho h2) hi k3 (.inr k2) hrest
  | (i, false) :: rest, listed, S, a, w, hok, hcl, h => by
    simp only [linOkL, Bool.and_eq_true, beq_iff_eq, bne_iff_ne] at hok
    obtain ⟨⟨h1, hne⟩, h3⟩ := hok
    rcases ho : ops[i]? with _ | o
    · simp only [List.map_cons, ho, wpLin] at h
    · simp only [List.map_cons, ho, wpLin] at h
      obtain ⟨S', k1, k2, k3⟩ := h
      refine weakenG k1 _ _ _ _ ⟨fun h0 => (by rw [h1] at h0; cases h0), fun j hj => ?_⟩
      have hji : j = i := by rw [h1] at hj; simpa using hj
      have hcl' := hcl.step hj
      subst hji
      have hnext : ∀ a' w', (S' w' ∧ wpLin P ops (LastQ P ops oL Q) (rest.map fun p => (ops[p.1]?, p.2)) S' a' w') → ((listed.setIfInBounds j true).getD L false = true ∨ S' w') ∧ wpAnyG P md ops Q S' L (rest.length + 1) (listed.setIfInBounds j true) a' w' :=
        fun a' w' hk => ⟨.inr hk.1, held_last hoL hs hQ hlate hdone rest _ S' a' w' h3 hcl' hk.2⟩
      unfold wpOp
      simp only [ho]
      unfold linStep at k3
      split at k3
      · rename_i hw
        rw [if_pos hw]
        exact .inl (Oper.wp_mono hnext (wp_post (Q0 := LastQ P ops oL Q) (fun c a w h => h) (fun h => h) k3))
      · rename_i hw
        rw [if_neg hw]
        exact hnext _ _ k3
/-- THE REGION: the order of all but the last one, the last one's number, and those (parts of a tuple) that may come up behind it. -/
theorem wp_region_last {id : Nat} {a : Act} {w : World} (order : List (Nat × Bool)) (L : Nat) (late : List Nat) {oL : Oper} (hoL : ops[L]? = some oL) (hm : P.follows .mixedOrders = true) (hs : Region.noSelect ops = true) (hl : order.length + 1 = ops.size)
    (hok : linOkL .any ops L order (Array.replicate ops.size false) = true) (hlast : lastOk .any ops ((order.map (·.1)).filter fun i => !late.contains i).reverse [L] = true) (hcov : coversOk ops L (((order.map (·.1)).filter fun i => !late.contains i).reverse ++ late) = true) (hlate : lateOk ops late = true) (S : World → Prop)
    (h : wpLin P ops (LastQ P ops oL (NoPanic Q)) (order.map fun p => (ops[p.1]?, p.2)) S a w.drew) : (Code.region id ops true).wp P Q a w := by
  refine wp_region_noPanic (wp_region_any hm (wpAny_of_G (S := S) (L := L) _ _ _ _ ?_))
  have hh := held_last (Q := NoPanic Q) hoL hs (fun _ _ _ _ _ h => h) hlate (fun listed hcl hL i hi => done_of hlast hcov hcl hL hi) order _ S a w.drew hok (Closed.begin _) h
  rw [hl] at hh
  exact hh
section
variable {w : World} {a : Act} {o : Oper}
theorem last_call (hw : Region.wanted o (yielded ops a.tmps) = true) (h : ∀ K : Act → World → Prop, Shut (∀ a w, Q .normal a w → K a w) → Oper.wp P o a w K (NoPanic Q)) : wpLin P ops (LastQ P ops o (NoPanic Q)) [] S a w := by
  show linStep P ops (NoPanic Q) o (NoPanic Q .normal) a w
  unfold linStep
  rw [if_pos hw]
  exact h _ (fun _ _ h1 => h1)
/-- The last operation writes one cell of a variable. -/
theorem last_put_cell (hw : Region.wanted o (yielded ops a.tmps) = true) (ty : TypeId) (x y : Operand) (ho : o.op = .store ty x y) (b k : Nat) (u : Value)
    (hx : a.eval x = .pointer (some ⟨b, k, none⟩)) (hy : a.eval y = u) (h1 : u.oneCell' = true) (l : List Value) (hb : Box w b l) (hl : k < l.length) (hi : (P.info? ty).map (·.size) = some 1)
    (h : ∀ w', Box w' b (l.set k u) → w.grownBy w' (some b) → Q .normal (a.put o.dst undef) w') : wpLin P ops (LastQ P ops o (NoPanic Q)) [] S a w :=
  last_call hw fun K hK => by
    unfold Oper.wp execOp
    simp only [ho, hx, hy, Instr.storeAt, Instr.sureAddr, Sem.run_bind, Sem.run_pure, Result.andThen_ok, run_storeVar_one (P := P) b k ty u l hb hl hi h1]
    exact hK.out _ _ (h _ (hb.setCell k u) (grown_setCell w b k u hb.lt))
/-- The last operation writes one cell of a row. -/
theorem last_set_cell (hw : Region.wanted o (yielded ops a.tmps) = true) (ty : TypeId) (x y : Operand) (ho : o.op = .store ty x y) (b k : Nat) (u old : Value)
    (hx : a.eval x = .pointer (some ⟨b, k, none⟩)) (hy : a.eval y = u) (h1 : u.oneCell' = true) (hc : w.cell? ⟨b, k, none⟩ = some old) (hf : w.frozen? ⟨b, k, none⟩ = false) (hi : (P.info? ty).map (·.size) = some 1)
    (h : Q .normal (a.put o.dst undef) (w.setCell ⟨b, k, none⟩ u)) : wpLin P ops (LastQ P ops o (NoPanic Q)) [] S a w :=
  last_call hw fun K hK => by
    have hst : (store ⟨b, k, none⟩ u).run P w = .ok () (w.setCell ⟨b, k, none⟩ u) := by
      rw [run_store P w _ u _ h1, hc]
      simp [hf]
    have hadd : (⟨b, k, none⟩ : Addr).add 0 = ⟨b, k, none⟩ := by unfold Addr.add; simp
    have hv : (storeVar ty ⟨b, k, none⟩ u).run P w = .ok () (w.setCell ⟨b, k, none⟩ u) := by
      cases hq : P.info? ty with
      | none => simp [hq] at hi
      | some i =>
        have hs : i.size = 1 := by simpa [hq] using hi
        simp [storeVar, sizeOf, typeInfo, hq, cells_one h1, hs, storeCells, hadd, hst]
    unfold Oper.wp execOp
    simp only [ho, hx, hy, Instr.storeAt, Instr.sureAddr, Sem.run_bind, Sem.run_pure, Result.andThen_ok, hv]
    exact hK.out _ _ h
end
end
end Go.Proofs.Ythhoigkmmlkfcaa.Words

/- 'Kept W x': below the heap of W nothing has turned. The condition for chains of calls that make memory. Nothing here speaks of one program. -/
namespace Go.Proofs.Ythhoigkmmlkfcaa.Words
set_option maxRecDepth 100000
open Go.RowKit
/-- Nothing that was there has turned. -/
def Kept (W x : World) : Prop := Below W.heap.size W x
theorem Kept.refl (W : World) : Kept W W := Below.refl _ _
theorem Kept.to {W x y : World} (h : Kept W x) (hb : Below x.heap.size x y) : Kept W y := Below.trans h (hb.mono (Below.size h))
theorem Kept.drewN {W x : World} (h : Kept W x) (k : Nat) : Kept W (x.drewN k) := Below.drewN_ h k
theorem Kept.drew {W x : World} (h : Kept W x) : Kept W x.drew := Below.drew h
theorem Kept.alloc {W x : World} (h : Kept W x) (o : Obj) : Kept W (x.alloc o) := Below.alloc h (Below.size h) o
theorem Kept.cell {W x : World} (h : Kept W x) {b o : Nat} {v : Value} (hb : b < W.heap.size) (hv : W.cell? ⟨b, o, none⟩ = some v) : x.cell? ⟨b, o, none⟩ = some v := by
  rw [Below.cell (p := ⟨b, o, none⟩) h hb]; exact hv
theorem Kept.size {W x : World} (h : Kept W x) : W.heap.size ≤ x.heap.size := Below.size h
theorem Kept.row {W x : World} (h : Kept W x) {s n : Nat} {v : Value} {xs : List Value} (hr : Row W W.heap.size s v n xs) : Row x x.heap.size s v n xs := (hr.below h).more h.size
theorem Kept.trans {W x y : World} (h : Kept W x) (g : Kept x y) : Kept W y := h.to g
end Go.Proofs.Ythhoigkmmlkfcaa.Words

/- Contracts of the calls of package word on plain numbers (Of). No conditions but that a word is from 0 to 2^32 - 1. -/
namespace Go.Proofs.Ythhoigkmmlkfcaa.Words
set_option maxRecDepth 100000
open Go.RowKit

set_option maxHeartbeats 400000 in
theorem of_any (n : Int) (w : World) :
    Calls Try.prog 56 #[.int .i64 n] w fun e w' => e = .returned (.int .u32 (n % 4294967296)) ∧ w = w' := by
  go_enter Try.func56, Try.ntmps56
  go_wp2
  go_ret
  exact ⟨rfl, rfl⟩
end Go.Proofs.Ythhoigkmmlkfcaa.Words

/- Contracts of package bytes: Size, Check, Overlap and the small calls behind them. -/
namespace Go.Proofs.Ythhoigkmmlkfcaa.Words
set_option maxRecDepth 100000
open Go.RowKit
set_option linter.unusedVariables false

set_option maxHeartbeats 400000 in
theorem size_any (op : Int) (w : World) :
    Calls Try.prog 49 #[.int .i64 op] w fun e w' => e = .returned (.int .i64 (sizeZ op)) ∧ w = w' := by
  have hc := sizeZ_cases op
  go_enter Try.func49, Try.ntmps49
  go_wp2
  all_goals
    go_ret
    exact ⟨ret_int (by (try simp only [beq_iff_eq, beq_eq_false_iff_ne, ne_eq] at *); omega), rfl⟩

set_option maxHeartbeats 1000000 in
theorem check_any (size addr n : Int) (w : World) (h0 : 0 ≤ addr) (h1 : addr ≤ 4294967295) (hs : -9223372036854775808 ≤ size ∧ size ≤ 9223372036854775807) (hn : -9223372036854775808 ≤ n ∧ n ≤ 9223372036854775807) :
    Calls Try.prog 51 #[.int .i64 size, .int .u32 addr, .int .i64 n] w fun e w' => e = .returned (.int .i64 (checkZ size addr n)) ∧ w = w' := by
  obtain ⟨s0, s1⟩ := hs
  obtain ⟨n0, n1⟩ := hn
  by_cases hs : size < 1
  · by_cases hr : n < addr + size
    · have t := Lib.hid (checkZ_range (n := n) (addr := addr) (.inl hs) hr)
      go_enter Try.func51, Try.ntmps51
      go_wp2_with fail
      go_ret
      exact ⟨ret_int t.out.symm, rfl⟩
    · have t := Lib.hid (checkZ_ok (n := n) (addr := addr) (.inl hs) (by omega))
      go_enter Try.func51, Try.ntmps51
      go_wp2_with fail
      go_ret
      exact ⟨ret_int t.out.symm, rfl⟩
  have hm0 : 0 ≤ addr % size := Int.emod_nonneg _ (by omega)
  have hm1 : addr % size < size := Int.emod_lt_of_pos _ (by omega)
  by_cases hm : addr % size = 0
  · have HM := Lib.hid hm
    have hle : addr + size ≤ 9223372036854775807 := by
      by_cases hz : addr = 0
      · omega
      · have : size ≤ addr := Int.le_of_dvd (by omega) (Int.dvd_of_emod_eq_zero hm)
        omega
    by_cases hq : n < addr + size
    · have t := Lib.hid (checkZ_range (n := n) (addr := addr) (.inr hm) hq)
      go_enter Try.func51, Try.ntmps51
      go_wp2_with fail
      go_ret
      exact ⟨ret_int t.out.symm, rfl⟩
    · have t := Lib.hid (checkZ_ok (n := n) (addr := addr) (.inr hm) (by omega))
      go_enter Try.func51, Try.ntmps51
      go_wp2_with fail
      go_ret
      exact ⟨ret_int t.out.symm, rfl⟩
  · have t := Lib.hid (checkZ_mis (n := n) (show 1 ≤ size by omega) hm)
    have hq : (addr % size != 0) = true := by simp [hm]
    go_enter Try.func51, Try.ntmps51
    go_wp2_with fail
    go_ret
    exact ⟨ret_int t.out.symm, rfl⟩

theorem wrapu64 (x : Int) : IntKind.u64.wrap x = x % 18446744073709551616 := rfl
theorem wrapi16 (x : Int) : IntKind.i16.wrap x = if x % 65536 < 32768 then x % 65536 else x % 65536 - 65536 := by
  simp only [IntKind.wrap, IntKind.bits, IntKind.signed]; simp; split <;> split <;> omega
theorem wrapi8 (x : Int) : IntKind.i8.wrap x = if x % 256 < 128 then x % 256 else x % 256 - 256 := by
  simp only [IntKind.wrap, IntKind.bits, IntKind.signed]; simp; split <;> split <;> omega

set_option maxHeartbeats 400000 in
theorem isLoad_any (op : Int) (w : World) :
    Calls Try.prog 50 #[.int .i64 op] w fun e w' => e = .returned (.bool (decide (26 ≤ op ∧ op ≤ 30))) ∧ w = w' := by
  go_enter Try.func50, Try.ntmps50
  go_wp2
  all_goals
    go_ret
    refine ⟨ret_bool ?_, rfl⟩
    (try simp only [beq_iff_eq, beq_eq_false_iff_ne, ne_eq] at *)
    symm
    first
      | exact decide_eq_true (by omega)
      | exact decide_eq_false (by omega)

set_option maxHeartbeats 400000 in
theorem bsigned_any (op x : Int) (w : World) (h0 : 0 ≤ x) (h1 : x < 4294967296) :
    Calls Try.prog 53 #[.int .i64 op, .int .u32 x] w fun e w' => e = .returned (.int .u32 (extendZ op x)) ∧ w = w' := by
  go_enter Try.func53, Try.ntmps53
  go_wp2
  all_goals
    go_ret
    refine ⟨ret_int ?_, rfl⟩
    (try simp only [beq_iff_eq, beq_eq_false_iff_ne, ne_eq] at *)
    unfold extendZ
    (try simp only [wrapi16, wrapi8])
    repeat' split
    all_goals omega

set_option maxHeartbeats 400000 in
theorem isSize_any (n : Int) (w : World) :
    Calls Try.prog 54 #[.int .i64 n] w fun e w' => e = .returned (.bool (decide (n = 1 ∨ n = 2 ∨ n = 4))) ∧ w = w' := by
  by_cases a : n = 4
  · subst a
    go_enter Try.func54, Try.ntmps54
    go_wp2_with fail
    go_ret
    exact ⟨rfl, rfl⟩
  by_cases b : n = 2
  · subst b
    go_enter Try.func54, Try.ntmps54
    go_wp2_with fail
    go_ret
    exact ⟨rfl, rfl⟩
  by_cases c : n = 1
  · subst c
    go_enter Try.func54, Try.ntmps54
    go_wp2_with fail
    go_ret
    exact ⟨rfl, rfl⟩
  · have t := Lib.hid (show decide (n = 1 ∨ n = 2 ∨ n = 4) = false from decide_eq_false (by omega))
    have q1 : (n == 4) = false := by simp; exact a
    have q2 : (n == 2) = false := by simp; exact b
    have q3 : (n == 1) = false := by simp; exact c
    clear a b c
    go_enter Try.func54, Try.ntmps54
    go_wp2_with fail
    go_ret
    exact ⟨ret_bool t.out.symm, rfl⟩

set_option maxHeartbeats 400000 in
theorem isAddress_any (n : Int) (w : World) :
    Calls Try.prog 55 #[.int .i64 n] w fun e w' => e = .returned (.bool (decide (0 ≤ n ∧ n ≤ 4294967295))) ∧ w = w' := by
  by_cases a : n < 0
  · have t := Lib.hid (show decide (0 ≤ n ∧ n ≤ 4294967295) = false from decide_eq_false (by omega))
    go_enter Try.func55, Try.ntmps55
    go_wp2_with fail
    go_ret
    exact ⟨ret_bool (t.out.symm ▸ (by simp; try omega)), rfl⟩
  by_cases b : n ≤ 4294967295
  · have t := Lib.hid (show decide (0 ≤ n ∧ n ≤ 4294967295) = true from decide_eq_true (by omega))
    go_enter Try.func55, Try.ntmps55
    go_wp2_with fail
    go_ret
    exact ⟨ret_bool (t.out.symm ▸ (by simp; try omega)), rfl⟩
  · have t := Lib.hid (show decide (0 ≤ n ∧ n ≤ 4294967295) = false from decide_eq_false (by omega))
    go_enter Try.func55, Try.ntmps55
    go_wp2_with fail
    go_ret
    exact ⟨ret_bool (t.out.symm ▸ (by simp; try omega)), rfl⟩
end Go.Proofs.Ythhoigkmmlkfcaa.Words

/- Contract of bytes.fits. -/
namespace Go.Proofs.Ythhoigkmmlkfcaa.Words
set_option maxRecDepth 100000
open Go.RowKit
set_option linter.unusedVariables false

theorem quiet_same {P : Program} {f : FuncId} {args : Array Value} {w : World} {n : Nat} {v : Value} (h : Calls P f args (w.drewN n) fun e w' => e = .returned v ∧ w.drewN n = w') :
    Calls P f args (w.drewN n) fun e w'' => e = .returned v ∧ ∃ m, w'' = w.drewN m := h.mono fun _ _ ⟨he, hm⟩ => ⟨he, n, hm.symm⟩

set_option maxHeartbeats 1000000 in
theorem bfits_any (addr size v n : Int) (w : World) (hs : -9223372036854775808 ≤ size ∧ size ≤ 9223372036854775807) (hn : -9223372036854775808 ≤ n ∧ n ≤ 9223372036854775807) :
    Calls Try.prog 46 #[.agg #[.int .i64 addr, .int .i64 size, .int .u32 v], .int .i64 n] w fun e w' => e = .returned (.bool (storeOk size addr n)) ∧ Below w.heap.size w w' := by
  have HW := Lib.hid ((Below.refl w.heap.size w).alloc (Nat.le_refl _) (.cells #[.int .i64 addr, .int .i64 size, .int .u32 v] 68))
  by_cases a : size = 1 ∨ size = 2 ∨ size = 4
  · have A1 := Lib.hid (show decide (size = 1 ∨ size = 2 ∨ size = 4) = true from decide_eq_true a)
    have B1 := Lib.hid (fun x : World => show Calls Try.prog 54 #[.int .i64 size] x (fun e w' => e = .returned (.bool true) ∧ x = w') by have h := isSize_any size x; rw [A1.out] at h; exact h)
    by_cases b : 0 ≤ addr ∧ addr ≤ 4294967295
    · have A2 := Lib.hid (show decide (0 ≤ addr ∧ addr ≤ 4294967295) = true from decide_eq_true b)
      have B2 := Lib.hid (fun x : World => show Calls Try.prog 55 #[.int .i64 addr] x (fun e w' => e = .returned (.bool true) ∧ x = w') by have h := isAddress_any addr x; rw [A2.out] at h; exact h)
      have e2 : addr % 4294967296 = addr := by omega
      have t : (checkZ size addr n == 0) = storeOk size addr n := by
        unfold storeOk
        by_cases h : checkZ size addr n = 0
        · rw [decide_eq_true ⟨a, b.1, b.2, h⟩]; simp [h]
        · rw [decide_eq_false (fun g => h g.2.2.2)]; simp [h]
      have T := Lib.hid t
      clear t
      have A := Lib.hid a
      clear a
      obtain ⟨b0, b1⟩ := b
      go_enter Try.func46, Try.ntmps46
      go_wp2_with fail
      go_quiet (first
        | (go_at_call 54; refine quiet_same (B1.out _))
        | (go_at_call 55; refine quiet_same (B2.out _))
        | (go_at_call 56; refine quiet_same (of_any _ _))
        | (go_at_call 51; refine quiet_same (check_any _ _ _ _ b0 b1 hs hn)))
      go_wp2_with fail
      go_ret
      exact ⟨ret_bool T.out, Below.drewN_ HW.out _⟩
    · have A2 := Lib.hid (show decide (0 ≤ addr ∧ addr ≤ 4294967295) = false from decide_eq_false b)
      have B2 := Lib.hid (fun x : World => show Calls Try.prog 55 #[.int .i64 addr] x (fun e w' => e = .returned (.bool false) ∧ x = w') by have h := isAddress_any addr x; rw [A2.out] at h; exact h)
      have T := Lib.hid (storeOk_no (size := size) (addr := addr) (n := n) (fun g => b ⟨g.2.1, g.2.2.1⟩))
      clear a b
      go_enter Try.func46, Try.ntmps46
      go_wp2_with fail
      go_quiet (first
        | (go_at_call 54; refine quiet_same (B1.out _))
        | (go_at_call 55; refine quiet_same (B2.out _)))
      go_wp2_with fail
      go_ret
      exact ⟨ret_bool T.out.symm, Below.drewN_ HW.out _⟩
  · have A1 := Lib.hid (show decide (size = 1 ∨ size = 2 ∨ size = 4) = false from decide_eq_false a)
    have B1 := Lib.hid (fun x : World => show Calls Try.prog 54 #[.int .i64 size] x (fun e w' => e = .returned (.bool false) ∧ x = w') by have h := isSize_any size x; rw [A1.out] at h; exact h)
    have T := Lib.hid (storeOk_no (size := size) (addr := addr) (n := n) (fun g => a g.1))
    clear a
    go_enter Try.func46, Try.ntmps46
    go_wp2_with fail
    go_quiet (first
      | (go_at_call 54; refine quiet_same (B1.out _)))
    go_wp2_with fail
    go_ret
    exact ⟨ret_bool T.out.symm, Below.drewN_ HW.out _⟩
end Go.Proofs.Ythhoigkmmlkfcaa.Words

/- What the program says of bytes as elements. -/
namespace Go.Proofs.Ythhoigkmmlkfcaa.Words
set_option maxRecDepth 100000
open Go.RowKit
theorem info_u8 : (Try.prog.info? 5).map (fun i => (i.zero, i.size, i.bytes)) = some (some (.int .u8 0), 1, 1) := by kernel_rfl
end Go.Proofs.Ythhoigkmmlkfcaa.Words

/- Contract of word.Get: which word the four bytes from a place on are, or that they are not all there. -/
namespace Go.Proofs.Ythhoigkmmlkfcaa.Words
set_option maxRecDepth 100000
open Go.RowKit

theorem ret_word {a b : Int} {t : Bool} (h : a = b) : Ending.returned (.tuple #[.int .u32 a, .bool t]) = .returned (.tuple #[.int .u32 b, .bool t]) := by rw [h]

set_option maxHeartbeats 400000 in
theorem get_no (A : Option Addr) (n c : Nat) (at_ : Int) (w : World) (hn : n ≤ 9223372036854775807) (h : at_ < 0 ∨ (n : Int) < at_ + 4) :
    Calls Try.prog 52 #[.slice A n c, .int .i64 at_] w fun e w' => e = .returned (.tuple #[.int .u32 0, .bool false]) ∧ w = w' := by
  by_cases h0 : at_ < 0
  · go_enter Try.func52, Try.ntmps52
    go_wp2
    go_ret2
    exact ⟨rfl, rfl⟩
  · have h1 : (n : Int) - 4 < at_ := by omega
    go_enter Try.func52, Try.ntmps52
    go_wp2
    go_ret2
    exact ⟨rfl, rfl⟩

set_option maxHeartbeats 400000 in
theorem get_yes (b off n c j : Nat) (x0 x1 x2 x3 : Int) (w : World) (hn : n ≤ c) (hc : c ≤ 9223372036854775807) (hj : j + 4 ≤ n)
    (b0 : 0 ≤ x0 ∧ x0 ≤ 255) (b1 : 0 ≤ x1 ∧ x1 ≤ 255) (b2 : 0 ≤ x2 ∧ x2 ≤ 255) (b3 : 0 ≤ x3 ∧ x3 ≤ 255)
    (c0 : w.cell? ⟨b, off + j, none⟩ = some (.int .u8 x0)) (c1 : w.cell? ⟨b, off + j + 1, none⟩ = some (.int .u8 x1))
    (c2 : w.cell? ⟨b, off + j + 2, none⟩ = some (.int .u8 x2)) (c3 : w.cell? ⟨b, off + j + 3, none⟩ = some (.int .u8 x3)) :
    Calls Try.prog 52 #[.slice (some ⟨b, off, none⟩) n c, .int .i64 j] w fun e w' => e = .returned (.tuple #[.int .u32 (x0 + 256 * x1 + 65536 * x2 + 16777216 * x3), .bool true]) ∧ ∃ k, w' = w.drewN k := by
  have h0 : (0 : Int) ≤ j := by omega
  have h1 : (j : Int) ≤ (n : Int) - 4 := by omega
  go_enter Try.func52, Try.ntmps52
  go_wp2
  go_quiet (fail)
  go_wp2
  go_ret2
  exact ⟨ret_word (join4 x0 x1 x2 x3 b0 b1 b2 b3), _, rfl⟩
end Go.Proofs.Ythhoigkmmlkfcaa.Words

/- Requests are served at last: how often memory begins, how many writes it makes, when it has nothing left. Plain mathematics. -/
import Derived.Test.YthhoigkmmlkfcaaG11
import Derived.Test.YthhoigkmmlkfcaaG09
namespace Go.Proofs.Ythhoigkmmlkfcaa.Words
set_option maxRecDepth 100000
open Go.RowKit
set_option linter.unusedVariables false
set_option linter.unusedSimpArgs false

def cntW : List Rqs → Int
  | [] => 0
  | q :: l => (if q.left = 0 then 1 else 0) + cntW l
def cntS : List Rqs → Int
  | [] => 0
  | q :: l => (if q.store = true then 1 else 0) + cntS l
theorem cntW_app (l m : List Rqs) : cntW (l ++ m) = cntW l + cntW m := by
  induction l with
  | nil => simp [cntW]
  | cons q l ih => show (if q.left = 0 then 1 else 0) + cntW (l ++ m) = (if q.left = 0 then 1 else 0) + cntW l + cntW m; omega
theorem cntS_app (l m : List Rqs) : cntS (l ++ m) = cntS l + cntS m := by
  induction l with
  | nil => simp [cntS]
  | cons q l ih => show (if q.store = true then 1 else 0) + cntS (l ++ m) = (if q.store = true then 1 else 0) + cntS l + cntS m; omega
theorem cntW_pos (l : List Rqs) : 0 ≤ cntW l ∧ cntW l ≤ l.length := by
  induction l with
  | nil => exact ⟨by show (0 : Int) ≤ 0; omega, by show (0 : Int) ≤ 0; omega⟩
  | cons q l ih => unfold cntW; rw [List.length_cons]; split <;> omega
theorem cntS_pos (l : List Rqs) : 0 ≤ cntS l ∧ cntS l ≤ l.length := by
  induction l with
  | nil => exact ⟨by show (0 : Int) ≤ 0; omega, by show (0 : Int) ≤ 0; omega⟩
  | cons q l ih => unfold cntS; rw [List.length_cons]; split <;> omega
theorem cntW_one (q : Rqs) : cntW [q] = if q.left = 0 then 1 else 0 := by unfold cntW cntW; omega
theorem cntS_one (q : Rqs) : cntS [q] = if q.store = true then 1 else 0 := by unfold cntS cntS; omega
theorem cntW_set {l : List Rqs} {i : Nat} {q : Rqs} (h : l[i]? = some q) (q' : Rqs) : cntW (l.set i q') = cntW l - cntW [q] + cntW [q'] := by
  rw [cntW_one, cntW_one]
  induction l generalizing i with
  | nil => simp at h
  | cons a l ih =>
    cases i with
    | zero => simp at h; subst h; rw [List.set_cons_zero]; unfold cntW; omega
    | succ i => simp at h; rw [List.set_cons_succ]; unfold cntW; rw [ih h]; omega
theorem cntS_set {l : List Rqs} {i : Nat} {q : Rqs} (h : l[i]? = some q) (q' : Rqs) (hs : q'.store = q.store) : cntS (l.set i q') = cntS l := by
  induction l generalizing i with
  | nil => simp at h
  | cons a l ih =>
    cases i with
    | zero => simp at h; subst h; rw [List.set_cons_zero]; unfold cntS; rw [hs]
    | succ i => simp at h; rw [List.set_cons_succ]; unfold cntS; rw [ih h]
theorem done_ws (y : Sta) (q : Rqs) : ((doneZ y q).ws.length : Int) = y.ws.length + (if q.store = true then 1 else 0) := by
  by_cases h : q.store = true
  · rw [done_store h, if_pos h]; simp
  · rw [if_neg h]
    have h' : q.store = false := by simpa using h
    by_cases h1 : q.reg < 0
    · rw [done_slot h' h1]; simp
    · by_cases h2 : 1 ≤ q.reg ∧ q.reg ≤ 15
      · rw [done_reg h' h2.1 h2.2]; simp
      · rw [done_not h' h1 h2]; simp
theorem ticks_cnt : ∀ (l : List Rqs) (y : Sta) (a : List Rqs), (∀ q ∈ l, 0 ≤ q.left) →
    cntW (l.foldl tickZ (y, a)).2 = cntW a + cntW l ∧ ((l.foldl tickZ (y, a)).1.ws.length : Int) + cntS (l.foldl tickZ (y, a)).2 = y.ws.length + cntS a + cntS l ∧ (l.foldl tickZ (y, a)).1.lats = y.lats := by
  intro l
  induction l with
  | nil => intro y a _; exact ⟨by show cntW a = cntW a + 0; omega, by show _ = _ + (0 : Int); simp, rfl⟩
  | cons q l ih =>
    intro y a h
    have hq := h q (by simp)
    have hr := fun r hr => h r (List.mem_cons_of_mem q hr)
    rw [List.foldl_cons]
    have hw : cntW (q :: l) = (if q.left = 0 then 1 else 0) + cntW l := rfl
    have hs : cntS (q :: l) = (if q.store = true then 1 else 0) + cntS l := rfl
    by_cases h0 : 0 < q.left
    · by_cases h1 : q.left = 1
      · rw [tick_done (p := (y, a)) h1]
        dsimp only
        obtain ⟨g1, g2, g3⟩ := ih (doneZ y { q with left := 0 }) a hr
        have hd := done_ws y { q with left := 0 }
        dsimp only at hd
        rw [if_neg (by omega)] at hw
        refine ⟨by omega, by omega, by rw [g3, (done_num _ _).1]⟩
      · rw [tick_less (p := (y, a)) h0 h1]
        dsimp only
        obtain ⟨g1, g2, g3⟩ := ih y (a ++ [{ q with left := q.left - 1 }]) hr
        rw [cntW_app, cntW_one] at g1
        rw [cntS_app, cntS_one] at g2
        dsimp only at g1 g2
        rw [if_neg (by omega)] at g1
        rw [if_neg (by omega)] at hw
        exact ⟨by omega, by omega, g3⟩
    · rw [tick_wait (p := (y, a)) h0]
      dsimp only
      obtain ⟨g1, g2, g3⟩ := ih y (a ++ [q]) hr
      rw [cntW_app, cntW_one] at g1
      rw [cntS_app, cntS_one] at g2
      exact ⟨by omega, by omega, g3⟩
/-- A bank begins one of those that wait, or nothing. -/
theorem begin_cases {c : Cfg} (hl : 1 ≤ c.lat) (lats picks : List Int) (p : Sta × List Rqs) (b : Nat) : beginZ c lats picks p b = p ∨
    ∃ (i : Nat) (q : Rqs) (L pk : Int), p.2[i]? = some q ∧ q.left = 0 ∧ 1 ≤ L ∧ L ≤ c.lat ∧ beginZ c lats picks p b = ({ p.1 with picks := pk, lats := wrap64 (p.1.lats + 1) }, p.2.set i { q with left := L }) := by
  unfold beginZ
  simp only
  split
  · exact .inl rfl
  · rename_i hb
    right
    have hw : (waitZ c.banks b p.2).length ≠ 0 := fun e => hb (.inr e)
    obtain ⟨k, hk⟩ : ∃ k, k = (if 1 < (waitZ c.banks b p.2).length then pickZ picks p.1.picks (waitZ c.banks b p.2).length else 0) := ⟨_, rfl⟩
    have hkr : 0 ≤ k ∧ k < (waitZ c.banks b p.2).length := by
      rw [hk]
      split
      · exact pickZ_range _ _ _ (by omega)
      · omega
    rw [← hk]
    have hkn : k.toNat < (waitZ c.banks b p.2).length := by omega
    have hm : (waitZ c.banks b p.2).getD k.toNat 0 ∈ waitZ c.banks b p.2 := by rw [List.getD_eq_getElem?_getD, List.getElem?_eq_getElem hkn]; exact List.getElem_mem hkn
    obtain ⟨q, hq, hwt⟩ := waitZ_at hm
    have hleft : q.left = 0 := by
      unfold waitB at hwt
      simp only [Bool.and_eq_true, decide_eq_true_eq] at hwt
      exact hwt.2
    have hr : 1 ≤ latsZ lats p.1.lats c.lat ∧ latsZ lats p.1.lats c.lat ≤ c.lat := by
      unfold latsZ
      rw [if_neg (by omega)]
      have h1 := Int.emod_nonneg (ithZ lats p.1.lats) (show c.lat ≠ 0 by omega)
      have h2 := Int.emod_lt_of_pos (ithZ lats p.1.lats) (show 0 < c.lat by omega)
      omega
    refine ⟨_, q, latsZ lats p.1.lats c.lat, (if 1 < (waitZ c.banks b p.2).length then wrap64 (p.1.picks + 1) else p.1.picks), hq, hleft, hr.1, hr.2, ?_⟩
    unfold setLeft
    rw [hq]
    split <;> rfl
/-- What holds of a memory that is served: of so many requests, so many of them stores. -/
structure SrvT (c : Cfg) (n s : Int) (p : Sta × List Rqs) : Prop where
  lo : ∀ q ∈ p.2, 0 ≤ q.left ∧ q.left ≤ c.lat
  one : OneB c.banks p.2
  sum : p.1.lats + cntW p.2 = n
  st : (p.1.ws.length : Int) + cntS p.2 = s
  pos : 0 ≤ p.1.lats
theorem SrvT.begin {c : Cfg} (hl : 1 ≤ c.lat) {lats picks : List Int} {n s : Int} (hn : n ≤ 1000) {p : Sta × List Rqs} (h : SrvT c n s p) (b : Nat) : SrvT c n s (beginZ c lats picks p b) := by
  have h1 := begin_oneB (c := c) (lats := lats) (picks := picks) (b := b) h.one
  rcases begin_cases hl lats picks p b with e | ⟨i, q, L, pk, hq, h0, hL1, hL2, e⟩
  · rw [e]; exact h
  · rw [e] at h1 ⊢
    have hc := cntW_set hq { q with left := L }
    rw [cntW_one, cntW_one] at hc
    dsimp only at hc
    rw [if_pos h0, if_neg (by omega)] at hc
    have hs := cntS_set hq { q with left := L } rfl
    have := h.sum
    have := h.pos
    have := cntW_pos p.2
    have hw : wrap64 (p.1.lats + 1) = p.1.lats + 1 := by unfold wrap64; omega
    refine ⟨fun r hr => ?_, h1, ?_, ?_, ?_⟩
    · rcases List.mem_or_eq_of_mem_set hr with d | d
      · exact h.lo r d
      · subst d; exact ⟨by show 0 ≤ L; omega, hL2⟩
    · show wrap64 (p.1.lats + 1) + _ = _
      rw [hw, hc]; omega
    · show (p.1.ws.length : Int) + _ = _
      rw [hs]; exact h.st
    · show 0 ≤ wrap64 (p.1.lats + 1)
      rw [hw]; omega
theorem SrvT.begins {c : Cfg} (hl : 1 ≤ c.lat) {lats picks : List Int} {n s : Int} (hn : n ≤ 1000) {p : Sta × List Rqs} (h : SrvT c n s p) : ∀ b, SrvT c n s (beginsZ c lats picks p b)
  | 0 => h
  | b + 1 => (SrvT.begins hl hn h b).begin hl hn b
theorem SrvT.ticks {c : Cfg} {n s : Int} {x : Sta} (h : SrvT c n s (x, x.table)) : SrvT c n s (ticksZ x x.table) := by
  obtain ⟨g1, g2, g3⟩ := ticks_cnt x.table x [] (fun q hq => (h.lo q hq).1)
  have e0 : cntW [] = 0 := rfl
  have e1 : cntS [] = 0 := rfl
  rw [e0] at g1
  rw [e1] at g2
  have hs := h.sum
  have ht := h.st
  have hp := h.pos
  dsimp only at hs ht hp
  unfold ticksZ
  refine ⟨fun r hr => ?_, ticks_one h.one x, by rw [g3, g1]; omega, by omega, by rw [g3]; exact hp⟩
  rw [ticks_tb, List.nil_append] at hr
  obtain ⟨q, hq, hqr⟩ := List.mem_filterMap.1 hr
  have hb := h.lo q hq
  unfold tickQ at hqr
  split at hqr
  · split at hqr
    · cases hqr
    · injection hqr with hqr; subst hqr; exact ⟨by show 0 ≤ q.left - 1; omega, by show q.left - 1 ≤ c.lat; omega⟩
  · injection hqr with hqr; subst hqr; exact hb
def SrvI (c : Cfg) (n s : Int) (x : Sta) : Prop := SrvT c n s (x, x.table)
theorem SrvI.advance {c : Cfg} (hr : runsB c = true) {lats picks : List Int} {n s : Int} (hn : n ≤ 1000) {x : Sta} (h : SrvI c n s x) : SrvI c n s (advanceZ c lats picks x) := by
  have hl : 1 ≤ c.lat := by
    have hcc := hr
    unfold runsB withinB at hcc
    simp only [Bool.and_eq_true, decide_eq_true_eq] at hcc
    omega
  have h1 := (SrvT.ticks h).begins hl (lats := lats) (picks := picks) hn c.banks.toNat
  unfold advanceZ
  rw [if_pos hr]
  exact ⟨h1.lo, h1.one, h1.sum, h1.st, h1.pos⟩
/-- So many cycles of memory. -/
def advsZ (c : Cfg) (lats picks : List Int) (x : Sta) : Nat → Sta
  | 0 => x
  | n + 1 => advanceZ c lats picks (advsZ c lats picks x n)
theorem work_len {lat : Int} (hl : 1 ≤ lat) {l : List Rqs} (h : ∀ q ∈ l, 0 ≤ q.left) : (l.length : Int) ≤ workT lat l := by
  induction l with
  | nil => exact Int.le_refl 0
  | cons q l ih =>
    have := work_pos hl (h q (by simp))
    have := ih (fun r hr => h r (List.mem_cons_of_mem _ hr))
    rw [List.length_cons]
    show _ ≤ workQ lat q + workT lat l; omega
theorem advs_all {c : Cfg} (hr : runsB c = true) {lats picks : List Int} {n s : Int} (hn : n ≤ 1000) {x : Sta} (h : SrvI c n s x) (k : Nat) :
    SrvI c n s (advsZ c lats picks x k) ∧ (workT c.lat (advsZ c lats picks x k).table + k ≤ workT c.lat x.table ∨ (advsZ c lats picks x k).table = []) := by
  have hl : 1 ≤ c.lat := by
    have hcc := hr
    unfold runsB withinB at hcc
    simp only [Bool.and_eq_true, decide_eq_true_eq] at hcc
    omega
  induction k with
  | zero => exact ⟨h, .inl (by show workT c.lat x.table + 0 ≤ _; omega)⟩
  | succ k ih =>
    obtain ⟨h1, h2⟩ := ih
    have h3 := h1.advance hr (lats := lats) (picks := picks) hn
    refine ⟨h3, ?_⟩
    have hw := advance_workR hr lats picks (fun q hq => (h1.lo q hq).1)
    show workT c.lat (advanceZ c lats picks (advsZ c lats picks x k)).table + ((k + 1 : Nat) : Int) ≤ _ ∨ (advanceZ c lats picks (advsZ c lats picks x k)).table = []
    by_cases he : (advsZ c lats picks x k).table = []
    · right
      have h4 := hw.1
      rw [he, show workT c.lat [] = 0 from rfl] at h4
      have h5 := work_len hl (fun q hq => (h3.lo q hq).1)
      dsimp only at h5
      exact List.eq_nil_of_length_eq_zero (by omega)
    · left
      have := hw.2 he
      rcases h2 with d | d
      · omega
      · exact absurd d he
theorem advs_done {c : Cfg} (hr : runsB c = true) {lats picks : List Int} {s : Int} {x : Sta} (hn : (x.table.length : Int) ≤ 1000) (h : SrvI c x.table.length s x) {k : Nat} (hk : (c.lat + 1) * x.table.length < k) :
    (advsZ c lats picks x k).table = [] ∧ ((advsZ c lats picks x k).ws.length : Int) = s ∧ (advsZ c lats picks x k).lats = x.table.length := by
  have hl : 1 ≤ c.lat := by
    have hcc := hr
    unfold runsB withinB at hcc
    simp only [Bool.and_eq_true, decide_eq_true_eq] at hcc
    omega
  obtain ⟨h1, h2⟩ := advs_all hr (lats := lats) (picks := picks) hn h k
  have he : (advsZ c lats picks x k).table = [] := by
    rcases h2 with d | d
    · have g1 := work_le hl (fun q hq => (h.lo q hq).2)
      have g2 := work_len hl (fun q hq => (h1.lo q hq).1)
      dsimp only at g1 g2
      omega
    · exact d
  have a := h1.sum
  have b := h1.st
  dsimp only at a b
  rw [he] at a b
  rw [show cntW [] = 0 from rfl] at a
  rw [show cntS [] = 0 from rfl] at b
  exact ⟨he, by omega, by omega⟩
/-- A request as the law hands it in. -/
def zeroQ (q : Rqs) : Rqs := { q with left := 0, reg := 0 }
theorem cntS_zero (l : List Rqs) : cntS (l.map zeroQ) = cntS l := by
  induction l with
  | nil => rfl
  | cons q l ih => show (if (zeroQ q).store = true then 1 else 0) + cntS (l.map zeroQ) = (if q.store = true then 1 else 0) + cntS l; rw [ih]; rfl
theorem cntW_zero (l : List Rqs) : cntW (l.map zeroQ) = l.length := by
  induction l with
  | nil => rfl
  | cons q l ih => show (if (zeroQ q).left = 0 then 1 else 0) + cntW (l.map zeroQ) = _; rw [ih, if_pos (show (zeroQ q).left = 0 from rfl), List.length_cons]; omega
theorem cntS_take {l : List Rqs} {i : Nat} {q : Rqs} (h : l[i]? = some q) : cntS (l.take (i + 1)) = cntS (l.take i) + (if q.store = true then 1 else 0) := by
  rw [List.take_add_one, h, cntS_app]
  show _ + cntS [q] = _
  rw [cntS_one]
theorem zero_fits {l : List Rqs} (h : ∀ q ∈ l, q.Fits) : ∀ q ∈ l.map zeroQ, q.Fits := by
  intro q hq
  obtain ⟨r, hr, rfl⟩ := List.mem_map.1 hq
  have := h r hr
  unfold Rqs.Fits zeroQ at *
  dsimp only
  omega
theorem srv_first {c : Cfg} (hl : 1 ≤ c.lat) (l : List Rqs) {x : Sta} (ht : x.table = l.map zeroQ) (h1 : x.lats = 0) (h2 : x.ws = []) : SrvI c l.length (cntS l) x := by
  refine ⟨fun q hq => ?_, ?_, ?_, ?_, ?_⟩
  · rw [ht] at hq
    obtain ⟨r, hr, rfl⟩ := List.mem_map.1 hq
    exact ⟨Int.le_refl 0, by show 0 ≤ c.lat; omega⟩
  · rw [ht]
    unfold OneB
    rw [List.pairwise_map]
    exact List.pairwise_of_forall (fun a b => fun h => absurd h (by show ¬ (0 : Int) < 0; omega))
  · show x.lats + cntW x.table = _
    rw [h1, ht, cntW_zero]; omega
  · show (x.ws.length : Int) + cntS x.table = _
    rw [h2, ht, cntS_zero]; simp
  · show 0 ≤ x.lats
    rw [h1]; omega
end Go.Proofs.Ythhoigkmmlkfcaa.Words

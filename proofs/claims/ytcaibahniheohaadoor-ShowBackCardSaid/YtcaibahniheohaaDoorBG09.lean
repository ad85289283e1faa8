/- Several texts in one: RaItems, RaGoes, RegInv, RaSim, RaText, RaItemsM. -/
import Derived.Test.YtcaibahniheohaaDoorBG08
import Derived.Test.YtcaibahniheohaaDoorBG03
import Derived.Test.YtcaibahniheohaaDoorBG11
import Derived.Test.YtcaibahniheohaaDoorBG07
import Derived.Test.YtcaibahniheohaaDoorBG05

/- The document's own items: a text's tokens as items. -/
namespace Go.Proofs.YtcaibahniheohaaDoor.Words
set_option maxRecDepth 100000
open Go.RowKit Go.Shelf Go.Lib
set_option linter.unusedVariables false
set_option linter.unusedSimpArgs false
structure ItP where
 kind : Int
 at_ : Int
 label : List UInt8
 ins : Ins
 use : List UInt8
 useAt : Int
 nums : List Int
 ats : List Int
def intL (l : List Int) : List Value := l.map (Value.int .i64)
def ItV (w : World) (B : Nat) (z : It) (p : ItP) : Prop :=
 (z.kind = p.kind ∧ z.at_ = p.at_ ∧ z.label = p.label ∧ z.ins = p.ins ∧ z.use = p.use ∧ z.useAt = p.useAt) ∧ w.ownsRow B 3 1 z.nums p.nums.length (intL p.nums) ∧ w.ownsRow B 3 1 z.ats p.ats.length (intL p.ats)
def ItsV (w : World) (B : Nat) (v : Value) (ps : List ItP) : Prop :=
 ∃ its : List It, w.ownsRow B 68 12 v its.length (itsL its) ∧ its.length = ps.length ∧ ∀ (k : Nat) (z : It) (p : ItP), its[k]? = some z → ps[k]? = some p → ItV w B z p
section
variable {w w' : World} {B : Nat} {v : Value} {ps : List ItP}
theorem ItsV.keepS {S : Nat → Prop} (h : ItsV w B v ps) (hk : KeepS S w w') (hs : ∀ j, S j → j < B ∨ w.heap.size ≤ j) : ItsV w' B v ps := by
 obtain ⟨its, h1, h2, h3⟩ := h
 refine ⟨its, own_keepS h1 hk (fun g hg e => by have := h1.lt g hg; have := hs _ e; omega), h2, fun k z p hz hp => ?_⟩
 obtain ⟨q1, q2, q3⟩ := h3 k z p hz hp
 exact ⟨q1, own_keepS q2 hk (fun g hg e => by have := q2.lt g hg; have := hs _ e; omega), own_keepS q3 hk (fun g hg e => by have := q3.lt g hg; have := hs _ e; omega)⟩
theorem ItsV.nil (w : World) (B : Nat) : ItsV w B (.slice none 0 0) [] := ⟨[], World.ownsRow_nil _ _ _ _, rfl, fun k z p hz => by simp at hz⟩
theorem ItsV.form (h : ItsV w B v ps) : ∃ A c, v = .slice A ps.length c := by
 obtain ⟨its, h1, h2, _⟩ := h
 obtain ⟨A, c, e⟩ := (Row.of_own h1).form
 exact ⟨A, c, by rw [e, h2]⟩
theorem ItsV.app {X : World} {z : It} {p : ItP} {v3 : Value} {its : List It} (h1 : w.ownsRow B 68 12 v its.length (itsL its)) (h2 : its.length = ps.length) (h3 : ∀ (k : Nat) (z : It) (p : ItP), its[k]? = some z → ps[k]? = some p → ItV w B z p)
  (hz : ItV w B z p) (hg : w.grownBy X v.ownBlock) (ho : X.ownsRow B 68 12 v3 (its.length + 1) (itsL its ++ itL z)) : ItsV X B v3 (ps ++ [p]) := by
 have key : ∀ {z : It} {p : ItP}, ItV w B z p → ItV X B z p := by
  intro z p hv
  exact ⟨hv.1, own_grown hv.2.1 hg (fun g hh e => apart8 hv.2.1 h1 (by decide) hh e), own_grown hv.2.2 hg (fun g hh e => apart8 hv.2.2 h1 (by decide) hh e)⟩
 refine ⟨its ++ [z], ?_, by simp [h2], fun k z' p' hz' hp' => ?_⟩
 ·rw [itsL_append, List.length_append]
  have : itsL [z] = itL z := by simp [itsL]
  rw [this]
  exact ho
 ·by_cases hk : k < its.length
  ·rw [List.getElem?_append_left hk] at hz'
   rw [List.getElem?_append_left (by omega)] at hp'
   exact key (h3 k z' p' hz' hp')
  ·rw [List.getElem?_append_right (by omega)] at hz'
   rw [List.getElem?_append_right (by omega)] at hp'
   have e1 : k - its.length = 0 := by
    by_cases hh : k - its.length = 0
    ·exact hh
    ·rw [List.getElem?_eq_none (by simp; omega)] at hz'; cases hz'
   rw [e1] at hz'
   rw [← h2, e1] at hp'
   simp at hz' hp'
   subst hz' hp'
   exact key hz
end
/-! ### the mathematics of a round -/
def opG (s : List UInt8) : Nat → Int
 | 0 => 0
 | i + 1 => if namesZ.getD i [] = s then ((i + 1 : Nat) : Int) else opG s i
def bytG (T : List Tok) (E : Nat) : Nat → Nat → Int → List Int → List Int → Nat × Int × List Int × List Int
 | 0, n, bad, ns, as_ => (n, bad, ns, as_)
 | f + 1, n, bad, ns, as_ =>
  if isQ T n bad 3 [44] = true then bytG T E f (takeN T (n + 1) bad 2 []) (takeB T E (n + 1) bad 2 []) (ns ++ [(takeTok T (n + 1) bad 2 []).num]) (as_ ++ [((takeTok T (n + 1) bad 2 []).at_ : Int)])
  else (n, bad, ns, as_)
structure RoundQ where
 n : Nat
 bad : Int
 item : Option ItP
def sizeS : List UInt8 := [115, 105, 122, 101]
def byteS : List UInt8 := [98, 121, 116, 101]
def stmG (T : List Tok) (E n : Nat) (bad : Int) (t : Tok) : RoundQ :=
 if 0 ≤ bad then ⟨n, bad, some ⟨0, t.at_, [], ins0, [], 0, [], []⟩⟩
 else if 0 < opG t.text 41 then
  let s := insQ T E (opG t.text 41) ⟨n, bad, ⟨0, t.at_, [], ins0, [], 0, .slice none 0 0, .slice none 0 0⟩⟩
  ⟨s.n, s.bad, some ⟨s.it.kind, s.it.at_, s.it.label, s.it.ins, s.it.use, s.it.useAt, [], []⟩⟩
 else if t.text = sizeS then ⟨takeN T n bad 2 [], takeB T E n bad 2 [], some ⟨4, t.at_, [], ins0, [], 0, [(takeTok T n bad 2 []).num], []⟩⟩
 else if t.text = byteS then
  let r := bytG T E T.length (takeN T n bad 2 []) (takeB T E n bad 2 []) [(takeTok T n bad 2 []).num] [((takeTok T n bad 2 []).at_ : Int)]
  ⟨r.1, r.2.1, some ⟨3, t.at_, [], ins0, [], 0, r.2.2.1, r.2.2.2⟩⟩
 else ⟨n - 1, failQ T E (n - 1) bad, some ⟨0, t.at_, [], ins0, [], 0, [], []⟩⟩
def endG (T : List Tok) (E : Nat) (r : RoundQ) : RoundQ := if r.n < T.length ∧ isQ T r.n r.bad 4 [] = false then ⟨r.n, failQ T E r.n r.bad, r.item⟩ else r
def roundG (T : List Tok) (E n : Nat) (bad : Int) : RoundQ :=
 if isQ T n bad 4 [] = true then ⟨n + 1, bad, none⟩
 else
  let t := takeTok T n bad 1 []
  let n1 := takeN T n bad 1 []
  let b1 := takeB T E n bad 1 []
  if isQ T n1 b1 3 [58] = true then ⟨n1 + 1, b1, some ⟨1, t.at_, t.text, ins0, [], 0, [], []⟩⟩
  else endG T E (stmG T E n1 b1 t)
def itemsG (T : List Tok) (E : Nat) : Nat → Nat → Int → List ItP × Nat × Int
 | 0, n, bad => ([], n, bad)
 | f + 1, n, bad =>
  if bad < 0 ∧ n < T.length then
   let r := roundG T E n bad
   let q := itemsG T E f r.n r.bad
   (r.item.toList ++ q.1, q.2)
  else ([], n, bad)
end Go.Proofs.YtcaibahniheohaaDoor.Words

/- The document's own reader goes on, or has failed. Nothing here speaks of one program text. -/
namespace Go.Proofs.YtcaibahniheohaaDoor.Words
set_option maxRecDepth 100000
open Go.RowKit Go.Shelf Go.Lib
set_option linter.unusedVariables false
section
variable {T : List Tok} {E n : Nat} {bad : Int}
theorem takeN_ge (k : Int) (t : List UInt8) : n ≤ takeN T n bad k t := by unfold takeN; split <;> omega
theorem regM_ge : n ≤ regM T n bad := by unfold regM; split <;> omega
theorem tgtM_ge : n ≤ tgtM T n bad := by
 unfold tgtM; split
 ·omega
 ·exact takeN_ge _ _
theorem atQ_ge : 0 ≤ atQ T E n := by unfold atQ; split <;> omega
theorem failQ_ge : 0 ≤ failQ T E n bad := by
 unfold failQ; split
 ·assumption
 ·exact atQ_ge
theorem isQ_bad {k : Int} {t : List UInt8} (h : isQ T n bad k t = true) : bad < 0 := by
 unfold isQ at h; rw [Bool.and_eq_true, decide_eq_true_iff] at h; exact h.1
theorem stpQ_ge (s : RdS) (p : Stp) : s.n ≤ (stpQ T E s p).n := by
 cases p
 all_goals first | exact regM_ge | exact takeN_ge _ _ | exact tgtM_ge
theorem stpsQ_ge (l : List Stp) : ∀ s : RdS, s.n ≤ (stpsQ T E l s).n := by
 induction l with
 | nil => intro s; exact Nat.le_refl _
 | cons p l ih => intro s; exact Nat.le_trans (stpQ_ge s p) (ih _)
theorem insQ_ge (op : Int) (s : RdS) : s.n ≤ (insQ T E op s).n := by
 unfold insQ; exact stpsQ_ge (T := T) (E := E) _ ⟨s.n, s.bad, itIns s.it op⟩
theorem tgtZ_rows (z : It) : (tgtZ T n bad z).nums = z.nums ∧ (tgtZ T n bad z).ats = z.ats := by unfold tgtZ; split <;> exact ⟨rfl, rfl⟩
theorem stpQ_rows (s : RdS) (p : Stp) : (stpQ T E s p).it.nums = s.it.nums ∧ (stpQ T E s p).it.ats = s.it.ats := by
 cases p
 all_goals first | exact tgtZ_rows _ | exact ⟨rfl, rfl⟩
theorem stpsQ_rows (l : List Stp) : ∀ s : RdS, (stpsQ T E l s).it.nums = s.it.nums ∧ (stpsQ T E l s).it.ats = s.it.ats := by
 induction l with
 | nil => intro s; exact ⟨rfl, rfl⟩
 | cons p l ih =>
  intro s
  have h1 := ih (stpQ T E s p)
  have h2 := stpQ_rows (T := T) (E := E) s p
  exact ⟨h1.1.trans h2.1, h1.2.trans h2.2⟩
theorem insQ_rows (op : Int) (s : RdS) : (insQ T E op s).it.nums = s.it.nums ∧ (insQ T E op s).it.ats = s.it.ats := by
 unfold insQ; exact stpsQ_rows (T := T) (E := E) _ ⟨s.n, s.bad, itIns s.it op⟩
theorem bytG_succ {f n : Nat} {bad : Int} {ns as_ : List Int} : bytG T E (f + 1) n bad ns as_ = if isQ T n bad 3 [44] = true then bytG T E f (takeN T (n + 1) bad 2 []) (takeB T E (n + 1) bad 2 []) (ns ++ [(takeTok T (n + 1) bad 2 []).num]) (as_ ++ [((takeTok T (n + 1) bad 2 []).at_ : Int)])
  else (n, bad, ns, as_) := rfl
theorem bytG_ge : ∀ (f n : Nat) (bad : Int) (ns as_ : List Int), n ≤ (bytG T E f n bad ns as_).1 := by
 intro f
 induction f with
 | zero => intro n bad ns as_; exact Nat.le_refl _
 | succ f ih =>
  intro n bad ns as_
  rw [bytG_succ]
  split
  ·exact Nat.le_trans (Nat.le_trans (Nat.le_succ n) (takeN_ge _ _)) (ih _ _ _ _)
  ·exact Nat.le_refl _
theorem endG_n (r : RoundQ) : (endG T E r).n = r.n := by unfold endG; split <;> rfl
theorem endG_bad (r : RoundQ) (h : 0 ≤ r.bad) : 0 ≤ (endG T E r).bad := by
 unfold endG; split
 ·exact failQ_ge
 ·exact h
theorem stmG_goes {t : Tok} : 0 ≤ (stmG T E n bad t).bad ∨ n ≤ (stmG T E n bad t).n := by
 unfold stmG
 split
 ·exact .inl (by assumption)
 split
 ·exact .inr (insQ_ge (T := T) (E := E) (opG t.text 41) ⟨n, bad, ⟨0, t.at_, [], ins0, [], 0, .slice none 0 0, .slice none 0 0⟩⟩)
 split
 ·exact .inr (takeN_ge _ _)
 split
 ·exact .inr (Nat.le_trans (takeN_ge _ _) (bytG_ge _ _ _ _ _))
 ·exact .inl failQ_ge
theorem roundG_goes (hb : bad < 0) (hn : n < T.length) : 0 ≤ (roundG T E n bad).bad ∨ n < (roundG T E n bad).n := by
 unfold roundG
 split
 ·exact .inr (Nat.lt_succ_self n)
 ·simp only
  split
  ·exact .inr (Nat.lt_succ_of_le (takeN_ge _ _))
  ·by_cases hq : isQ T n bad 1 [] = true
   ·have e1 : takeN T n bad 1 [] = n + 1 := if_pos hq
    have e2 : takeB T E n bad 1 [] = bad := if_pos hq
    rw [e1, e2]
    rcases stmG_goes (T := T) (E := E) (n := n + 1) (bad := bad) (t := takeTok T n bad 1 []) with h | h
    ·exact .inl (endG_bad _ h)
    ·right; rw [endG_n]; omega
   ·have e2 : takeB T E n bad 1 [] = failQ T E n bad := if_neg hq
    left
    refine endG_bad _ ?_
    rw [e2]
    unfold stmG
    rw [if_pos failQ_ge]
    exact failQ_ge
end
end Go.Proofs.YtcaibahniheohaaDoor.Words

/- Which texts are registers. Plain mathematics. -/
namespace Go.Proofs.YtcaibahniheohaaDoor.Words
set_option maxRecDepth 100000
set_option linter.unusedVariables false
set_option linter.unusedSimpArgs false
open Go.Lib
theorem regF_step {l : List UInt8} {p : Nat} (f : Nat) (n : Int) (hp : p < l.length) : regF l (f + 1) p n =
  (if p = 0 ∧ runeR (l.drop p) = 114 then regF l f (p + wideR (l.drop p)) n
   else if p = 0 ∨ runeR (l.drop p) < 48 ∨ 57 < runeR (l.drop p) ∨ (1 < p ∧ n = 0) then none
   else if 15 < n * 10 + (runeR (l.drop p) - 48) then none
   else regF l f (p + wideR (l.drop p)) (n * 10 + (runeR (l.drop p) - 48))) := by
 show (if p < l.length then _ else _) = _
 rw [if_pos hp]
theorem dig_byte {c : UInt8} {t : List UInt8} (h : runeR (c :: t) < 128) : (c.toNat : Int) = runeR (c :: t) ∧ wideR (c :: t) = 1 := by
 obtain ⟨c', t', e, h1, h2⟩ := ascii_rune (l := c :: t) (by simp) h
 injection e with e1 e2
 subst e1
 exact ⟨h1, h2⟩
theorem regN_two : ((List.range 10).all fun d => decide (regN (d : Int) = [114, UInt8.ofNat (48 + d)])) = true := by decide +kernel
theorem regN_three : ((List.range 6).all fun d => decide (regN ((10 + d : Nat) : Int) = [114, 49, UInt8.ofNat (48 + d)])) = true := by decide +kernel
theorem byte_of {c : UInt8} {d : Nat} (h : c.toNat = 48 + d) : c = UInt8.ofNat (48 + d) := by rw [← h]; exact UInt8.ofNat_toNat.symm
theorem regZ_inv {s : List UInt8} {n : Int} (h : regZ s = some n) : s = regN n := by
 unfold regZ at h
 match s, h with
 | [], h => simp [regF] at h
 | [c0], h =>
  rw [show [c0].length = 0 + 1 from rfl, regF_step 0 0 (by simp)] at h
  split at h
  ·simp [regF] at h
  ·split at h
   ·cases h
   ·rename_i h1 h2
    exact absurd (Or.inl rfl) h2
 | c0 :: c1 :: t, h =>
  rw [show (c0 :: c1 :: t).length = (t.length + 1) + 1 from rfl, regF_step _ 0 (by simp)] at h
  split at h
  ·rename_i h0
   have hr0 : runeR (c0 :: c1 :: t) = 114 := h0.2
   obtain ⟨b0, w0⟩ := dig_byte (c := c0) (t := c1 :: t) (by omega)
   have e0 : c0 = 114 := UInt8.toNat_inj.1 (by show c0.toNat = 114; omega)
   rw [show (c0 :: c1 :: t).drop 0 = c0 :: c1 :: t from rfl, w0, regF_step _ 0 (by simp)] at h
   rw [if_neg (by simp)] at h
   have hd1 : (c0 :: c1 :: t).drop (0 + 1) = c1 :: t := rfl
   rw [hd1] at h
   split at h
   ·cases h
   rename_i hn1
   have hr1 : 48 ≤ runeR (c1 :: t) ∧ runeR (c1 :: t) ≤ 57 := by omega
   obtain ⟨b1, w1⟩ := dig_byte (c := c1) (t := t) (by omega)
   split at h
   ·cases h
   rw [w1] at h
   obtain ⟨d1, hd1'⟩ : ∃ d1 : Nat, c1.toNat = 48 + d1 := ⟨c1.toNat - 48, by omega⟩
   have hd10 : d1 < 10 := by omega
   have ed : (0 : Int) * 10 + (runeR (c1 :: t) - 48) = (d1 : Int) := by omega
   rw [ed] at h
   cases t with
   | nil =>
    simp [regF] at h
    subst h
    have := of_decide_eq_true (List.all_eq_true.1 regN_two d1 (List.mem_range.2 hd10))
    rw [this, e0, byte_of hd1']
   | cons c2 t =>
    rw [show (c2 :: t).length = t.length + 1 from rfl, regF_step _ _ (by simp)] at h
    rw [if_neg (by simp)] at h
    have hd2 : (c0 :: c1 :: c2 :: t).drop (0 + 1 + 1) = c2 :: t := rfl
    rw [hd2] at h
    split at h
    ·cases h
    rename_i hn2
    have hr2 : 48 ≤ runeR (c2 :: t) ∧ runeR (c2 :: t) ≤ 57 ∧ d1 ≠ 0 := by omega
    obtain ⟨b2, w2⟩ := dig_byte (c := c2) (t := t) (by omega)
    split at h
    ·cases h
    rename_i hn3
    rw [w2] at h
    obtain ⟨d2, hd2'⟩ : ∃ d2 : Nat, c2.toNat = 48 + d2 := ⟨c2.toNat - 48, by omega⟩
    have e1 : d1 = 1 := by omega
    have hd26 : d2 < 6 := by omega
    subst e1
    have ed2 : ((1 : Nat) : Int) * 10 + (runeR (c2 :: t) - 48) = ((10 + d2 : Nat) : Int) := by omega
    rw [ed2] at h
    cases t with
    | nil =>
     simp [regF] at h
     have := of_decide_eq_true (List.all_eq_true.1 regN_three d2 (List.mem_range.2 hd26))
     rw [show n = ((10 + d2 : Nat) : Int) by omega, this, e0, byte_of hd1', byte_of hd2']
     rfl
    | cons c3 t =>
     rw [show (c3 :: t).length = t.length + 1 from rfl, regF_step _ _ (by simp)] at h
     rw [if_neg (by simp)] at h
     split at h
     ·cases h
     rename_i hn4
     rw [if_pos (by omega)] at h
     cases h
  ·split at h
   ·cases h
   ·rename_i h1 h2
    exact absurd (Or.inl rfl) h2
theorem num_r (t : List UInt8) : (numZ (114 :: t)).2 = 0 := by
 have h1 : hasPrefix (114 :: t) [48, 120] = false := rfl
 have h2 : hasPrefix (114 :: t) [45] = false := rfl
 have hr := (rune_ascii (c := 114) (by decide) t).1
 unfold numZ
 rw [h1, h2, if_neg (by simp), if_neg (by simp)]
 unfold digZ
 rw [List.length_cons]
 show (if 0 < (114 :: t).length then (if (10 : Int) ≤ digR (runeR ((114 :: t).drop 0)) then ((0 : Int), 0) else _) else _).2 = 0
 rw [if_pos (by simp), List.drop_zero, hr, if_pos (by decide)]
theorem reg_name {l : List UInt8} {ts : List Tok} (h : lexZ l = .toks ts) : ∀ t ∈ ts, regZ t.text ≠ none → t.kind = 1 := by
 have key : ∀ t ∈ ts, t.kind = 1 ∨ regZ t.text = none := by
  unfold lexZ at h
  split at h
  ·cases h
  refine lexF_all l (fun t => t.kind = 1 ∨ regZ t.text = none) (fun p x hp h0 hx => ?_) _ _ _ (fun t ht => by cases ht) ts h
  have hne : ∀ k, 0 < k → ∀ n, regZ ((l.drop p).take k) = some n → runeR (l.drop p) = 114 := by
   intro k hk n hn
   have hs := regZ_inv hn
   have hd : l.drop p ≠ [] := by intro e; have := congrArg List.length e; simp at this; omega
   cases hl : l.drop p with
   | nil => exact absurd hl hd
   | cons c t =>
    rw [hl] at hs
    obtain ⟨k', rfl⟩ : ∃ k', k = k' + 1 := ⟨k - 1, by omega⟩
    rw [List.take_succ_cons] at hs
    unfold regN at hs
    injection hs with hs _
    subst hs
    exact (rune_ascii (c := 114) (by decide) t).1
  refine take_all hx h0 (fun h4 => .inr ?_) (fun h1 => .inl rfl) (fun h3 => .inr ?_) (fun h2 h2' => .inr ?_)
  ·cases hh : regZ ((l.drop p).take 1) with
   | none => rfl
   | some n => have := hne 1 (by decide) n hh; omega
  ·cases hh : regZ ((l.drop p).take 1) with
   | none => rfl
   | some n =>
    have := hne 1 (by decide) n hh
    rw [this] at h3
    exact absurd h3 (by decide)
  ·cases hh : regZ ((l.drop p).take (numZ (l.drop p)).2) with
   | none => rfl
   | some n =>
    by_cases hk : 0 < (numZ (l.drop p)).2
    ·have h114 := hne _ hk n hh
     have hd : l.drop p ≠ [] := by intro e; have := congrArg List.length e; simp at this; omega
     obtain ⟨c, t, e, e1, _⟩ := ascii_rune hd (by omega)
     have ec : c = 114 := UInt8.toNat_inj.1 (by show c.toNat = 114; omega)
     rw [e, ec, num_r] at hk
     exact absurd hk (by decide)
    ·have : (numZ (l.drop p)).2 = 0 := by omega
     rw [this, List.take_zero] at hh
     simp [regZ, regF] at hh
 intro t ht hr
 rcases key t ht with h1 | h1
 ·exact h1
 ·exact absurd h1 hr
/-! ### the document's register, and the program's -/
theorem regG_some (s : List UInt8) : ∀ f i, i + f = 16 → 0 ≤ regG s f i → regS (regG s f i) = s ∧ 0 ≤ regG s f i ∧ regG s f i ≤ 15
 | 0, i, h, h0 => by exact absurd h0 (by show ¬ (0 : Int) ≤ -1; decide)
 | f + 1, i, h, h0 => by
  rw [regG_succ] at h0 ⊢
  split at h0
  ·rename_i he
   rw [if_pos he]
   exact ⟨he, by omega, by omega⟩
  ·rename_i he
   rw [if_neg he]
   exact regG_some s f (i + 1) (by omega) h0
theorem regG_none (s : List UInt8) : ∀ f i, i + f = 16 → regG s f i < 0 → ∀ j : Nat, i ≤ j → j < 16 → regS (j : Int) ≠ s
 | 0, i, h, h0, j, h1, h2 => by omega
 | f + 1, i, h, h0, j, h1, h2 => by
  rw [regG_succ] at h0
  split at h0
  ·omega
  ·rename_i he
   by_cases hij : i = j
   ·rw [← hij]; exact he
   ·exact regG_none s f (i + 1) (by omega) h0 j (by omega) h2
theorem regQ_some {s : List UInt8} (h : 0 ≤ regQ s) : regZ s = some (regQ s) := by
 obtain ⟨h1, h2, h3⟩ := regG_some s 16 0 rfl h
 change regS (regQ s) = s at h1
 change 0 ≤ regQ s at h2
 change regQ s ≤ 15 at h3
 rw [regS_eq ⟨h2, h3⟩] at h1
 have := regN_reg (d := regQ s) ⟨h2, h3⟩
 rwa [h1] at this
theorem regZ_regQ {s : List UInt8} {n : Int} (h : regZ s = some n) : regQ s = n := by
 have hr := regF_range s s.length 0 0 n (by omega) (by omega) h
 have hs := regZ_inv h
 by_cases h0 : 0 ≤ regQ s
 ·have := regQ_some h0
  rw [h] at this
  injection this with this
  exact this.symm
 ·have := regG_none s 16 0 rfl (by show regQ s < 0; omega) n.toNat (by omega) (by omega)
  rw [show ((n.toNat : Nat) : Int) = n by omega, regS_eq hr] at this
  exact absurd hs.symm this
theorem regQ_none {s : List UInt8} (h : regZ s = none) : regQ s < 0 := by
 by_cases h0 : 0 ≤ regQ s
 ·rw [regQ_some h0] at h; cases h
 ·omega
end Go.Proofs.YtcaibahniheohaaDoor.Words

/- The document's own reader and the grammar: step by step they are one. Nothing here speaks of one program text. -/
namespace Go.Proofs.YtcaibahniheohaaDoor.Words
set_option maxRecDepth 100000
open Go.RowKit Go.Shelf Go.Lib
set_option linter.unusedVariables false
set_option linter.unusedSimpArgs false
structure ToksOk (T : List Tok) : Prop where
  reg : ∀ t ∈ T, ∀ k, regZ t.text = some k → t.kind = 1
  name : ∀ t ∈ T, t.kind = 1 → t.text ≠ []
section
variable {T : List Tok} {E n : Nat} {bad : Int}
theorem get_drop (T : List Tok) (n : Nat) : T[n]? = (T.drop n).head? := by
  rw [List.head?_eq_getElem?, List.getElem?_drop, Nat.add_zero]
theorem isQ_drop (hb : bad < 0) (k : Int) (s : List UInt8) : isQ T n bad k s = (match T.drop n with | t :: _ => decide (t.kind = k) && (decide (s = []) || decide (t.text = s)) | [] => false) := by
  unfold isQ
  rw [decide_eq_true hb, Bool.true_and, get_drop]
  cases T.drop n <;> rfl
theorem atQ_drop : atQ T E n = (headAt (T.drop n) E : Nat) := by
  unfold atQ headAt
  rw [get_drop]
  cases T.drop n <;> rfl
theorem failQ_drop (hb : bad < 0) : failQ T E n bad = (headAt (T.drop n) E : Nat) := by unfold failQ; rw [if_neg (by omega), atQ_drop]
theorem drop_tail {t : Tok} {ts : List Tok} (h : T.drop n = t :: ts) : T.drop (n + 1) = ts := by
  rw [← List.drop_drop, h]; rfl
theorem drop_mem {t : Tok} {ts : List Tok} (h : T.drop n = t :: ts) : t ∈ T := List.mem_of_mem_drop (by rw [h]; exact List.mem_cons_self)
theorem getD_drop {t : Tok} {ts : List Tok} (h : T.drop n = t :: ts) : T.getD n tok0 = t := by
  rw [List.getD_eq_getElem?_getD, get_drop, h]; rfl
theorem isQ_failed (hb : 0 ≤ bad) (k : Int) (s : List UInt8) : isQ T n bad k s = false := by
  unfold isQ; rw [decide_eq_false (by omega)]; rfl
theorem takeB_failed (hb : 0 ≤ bad) (k : Int) (s : List UInt8) : takeB T E n bad k s = bad := by
  unfold takeB; rw [isQ_failed hb, if_neg (by decide)]; unfold failQ; rw [if_pos hb]
theorem stpQ_failed (s : RdS) (p : Stp) (hb : 0 ≤ s.bad) : (stpQ T E s p).bad = s.bad := by
  have hr : regB T E s.n s.bad = s.bad := by
    unfold regB regOk; rw [isQ_failed hb]; unfold failQ; simp [hb]
  cases p
  all_goals first | exact hr | exact takeB_failed hb _ _ | skip
  show tgtB T E s.n s.bad = s.bad
  unfold tgtB; rw [isQ_failed hb, if_neg (by decide)]; exact takeB_failed hb _ _
theorem stpsQ_failed (l : List Stp) : ∀ s : RdS, 0 ≤ s.bad → (stpsQ T E l s).bad = s.bad := by
  induction l with
  | nil => intro s h; rfl
  | cons p l ih =>
    intro s h
    have e := stpQ_failed (T := T) (E := E) s p h
    show (stpsQ T E l (stpQ T E s p)).bad = s.bad
    rw [ih _ (by omega), e]
structure SimR (T : List Tok) (s : RdS) (x : PartZ) (r : List Tok) : Prop where
  ok : s.bad < 0
  at_ : T.drop s.n = r
  ins : s.it.ins = x.ins
  use1 : x.target.kind = 1 → s.it.use = x.target.text ∧ s.it.useAt = (x.target.at_ : Int) ∧ x.target.text ≠ []
  use0 : x.target.kind ≠ 1 → s.it.use = []
def Stp.char : Stp → UInt8
  | .d => 68 | .a => 65 | .b => 66 | .c => 44 | .n => 78 | .t => 84 | .o => 40 | .q => 41
theorem regOk_yes {t : Tok} {ts : List Tok} {k : Int} (hT : ToksOk T) (hb : bad < 0) (h : T.drop n = t :: ts) (hk : regZ t.text = some k) : regOk T n bad = true ∧ regV T n bad = k := by
  have h1 := hT.reg t (drop_mem h) k hk
  have h2 : textAt T n = t.text := by unfold textAt; rw [getD_drop h]
  have h3 : regQ t.text = k := regZ_regQ hk
  have h4 := regZ_range hk
  have h5 : regOk T n bad = true := by
    unfold regOk
    rw [isQ_drop hb, h, h2, h3]
    simp [h1]; omega
  refine ⟨h5, ?_⟩
  unfold regV; rw [if_pos h5, h2, h3]
theorem regOk_no {t : Tok} {ts : List Tok} (hb : bad < 0) (h : T.drop n = t :: ts) (hk : regZ t.text = none) : regOk T n bad = false := by
  have h2 : textAt T n = t.text := by unfold textAt; rw [getD_drop h]
  have h3 := regQ_none hk
  unfold regOk
  rw [h2]
  simp [h3]
theorem regOk_nil (hb : bad < 0) (h : T.drop n = []) : regOk T n bad = false := by
  unfold regOk; rw [isQ_drop hb, h]; rfl
def Fits1 (T : List Tok) (E : Nat) (s : RdS) (f : Bool × PartZ × List Tok) : Prop := if f.1 = true then SimR T s f.2.1 f.2.2 else s.bad = (headAt f.2.2 E : Nat)
theorem fits_no {s : RdS} {f : Bool × PartZ × List Tok} (h : f.1 = false) (e : s.bad = (headAt f.2.2 E : Nat)) : Fits1 T E s f := by
  unfold Fits1; rw [h, if_neg Bool.false_ne_true]; exact e
theorem fits_yes {s : RdS} {f : Bool × PartZ × List Tok} (h : f.1 = true) (e : SimR T s f.2.1 f.2.2) : Fits1 T E s f := by
  unfold Fits1; rw [if_pos h]; exact e
theorem field_t (x : PartZ) (r : List Tok) : fieldT 84 x r = (match r with
      | t :: ts => if t.kind = 1 then (true, { x with target := t }, ts) else (match immT (t :: ts) with | (some n, ts) => (true, { x with ins := { x.ins with imm := n } }, ts) | (none, ts) => (false, x, ts))
      | [] => (false, x, [])) := rfl
theorem reg_sim {s : RdS} {x : PartZ} {r : List Tok} (hT : ToksOk T) (h : SimR T s x r) (u : Int → Ins → Ins) :
    Fits1 T E ⟨regM T s.n s.bad, regB T E s.n s.bad, { s.it with ins := u (regV T s.n s.bad) s.it.ins }⟩ (match regT r with | (some n, ts) => (true, { x with ins := u n x.ins }, ts) | (none, ts) => (false, x, ts)) := by
  obtain ⟨h1, h2, h3, h4, h5⟩ := h
  cases r with
  | nil =>
    have e := regOk_nil h1 h2
    have : regB T E s.n s.bad = failQ T E s.n s.bad := by unfold regB; rw [e]; rfl
    refine fits_no rfl ?_
    show regB T E s.n s.bad = _
    rw [this, failQ_drop h1, h2]; rfl
  | cons t ts =>
    cases hz : regZ t.text with
    | none =>
      have e := regOk_no h1 h2 hz
      have : regB T E s.n s.bad = failQ T E s.n s.bad := by unfold regB; rw [e]; rfl
      have er : regT (t :: ts) = (none, t :: ts) := by simp only [regT, hz]
      rw [er]
      refine fits_no rfl ?_
      show regB T E s.n s.bad = _
      rw [this, failQ_drop h1, h2]
    | some k =>
      obtain ⟨e1, e2⟩ := regOk_yes hT h1 h2 hz
      have er : regT (t :: ts) = (some k, ts) := by simp only [regT, hz]
      rw [er]
      refine fits_yes rfl ?_
      have eb : regB T E s.n s.bad = s.bad := by unfold regB; rw [if_pos e1]
      have em : regM T s.n s.bad = s.n + 1 := by unfold regM; rw [if_pos e1]
      rw [eb, em, e2]
      exact ⟨h1, drop_tail h2, by show u k s.it.ins = u k x.ins; rw [h3], h4, h5⟩
theorem take_cases {r : List Tok} {k : Int} {c : List UInt8} (hb : bad < 0) (h : T.drop n = r) :
    (∃ t ts, r = t :: ts ∧ (decide (t.kind = k) && (decide (c = []) || decide (t.text = c))) = true ∧ takeN T n bad k c = n + 1 ∧ takeB T E n bad k c = bad ∧ takeTok T n bad k c = t ∧ T.drop (n + 1) = ts) ∨
    ((∀ t ts, r = t :: ts → (decide (t.kind = k) && (decide (c = []) || decide (t.text = c))) = false) ∧ takeB T E n bad k c = (headAt r E : Nat)) := by
  have hq := isQ_drop (T := T) (n := n) hb k c
  rw [h] at hq
  cases r with
  | nil =>
    refine .inr ⟨fun t ts e => (by cases e), ?_⟩
    unfold takeB; rw [hq]
    show failQ T E n bad = _
    rw [failQ_drop hb, h]
  | cons t ts =>
    cases hd : (decide (t.kind = k) && (decide (c = []) || decide (t.text = c)))
    · refine .inr ⟨fun t' ts' e => (by injection e with e1 e2; subst e1; exact hd), ?_⟩
      have hq' : isQ T n bad k c = false := hq.trans hd
      unfold takeB; rw [hq']
      show failQ T E n bad = _
      rw [failQ_drop hb, h]
    · have hq' : isQ T n bad k c = true := hq.trans hd
      exact .inl ⟨t, ts, rfl, hd, if_pos hq', if_pos hq', by unfold takeTok; rw [if_pos hq', getD_drop h], drop_tail h⟩
theorem sign_sim {s : RdS} {x : PartZ} {r : List Tok} (h : SimR T s x r) (c : List UInt8) (hc : c ≠ []) :
    Fits1 T E ⟨takeN T s.n s.bad 3 c, takeB T E s.n s.bad 3 c, s.it⟩ ((signT c r).1, x, (signT c r).2) := by
  obtain ⟨h1, h2, h3, h4, h5⟩ := h
  rcases take_cases (E := E) (k := 3) (c := c) h1 h2 with ⟨t, ts, rfl, hd, e1, e2, _, e4⟩ | ⟨hno, e2⟩
  · have hs : isS t c = true := by
      unfold isS
      rw [Bool.and_eq_true, Bool.or_eq_true, decide_eq_true_iff, decide_eq_true_iff, decide_eq_true_iff] at hd
      rw [decide_eq_true_iff]
      exact ⟨hd.1, hd.2.resolve_left hc⟩
    have es : signT c (t :: ts) = (true, ts) := by simp only [signT, hs, if_true]
    rw [es, e1, e2]
    refine fits_yes rfl ?_
    exact ⟨h1, e4, h3, h4, h5⟩
  · have es : signT c r = (false, r) := by
      cases r with
      | nil => rfl
      | cons t ts =>
        have hd := hno t ts rfl
        have hs : isS t c = false := by
          unfold isS
          rw [decide_eq_false_iff_not]
          rintro ⟨a1, a2⟩
          rw [decide_eq_true a1, decide_eq_true a2] at hd
          simp at hd
        simp [signT, hs]
    rw [es]
    exact fits_no rfl e2
theorem imm_sim {s : RdS} {x : PartZ} {r : List Tok} (h : SimR T s x r) :
    Fits1 T E ⟨takeN T s.n s.bad 2 [], takeB T E s.n s.bad 2 [], { s.it with ins := { s.it.ins with imm := (takeTok T s.n s.bad 2 []).num } }⟩ (match immT r with | (some n, ts) => (true, { x with ins := { x.ins with imm := n } }, ts) | (none, ts) => (false, x, ts)) := by
  obtain ⟨h1, h2, h3, h4, h5⟩ := h
  rcases take_cases (E := E) (k := 2) (c := []) h1 h2 with ⟨t, ts, rfl, hd, e1, e2, e3, e4⟩ | ⟨hno, e2⟩
  · have hk : t.kind = 2 := by simpa using hd
    have es : immT (t :: ts) = (some t.num, ts) := by simp only [immT, hk, if_true]
    rw [es, e1, e2, e3]
    refine fits_yes rfl ?_
    exact ⟨h1, e4, by show ({ s.it.ins with imm := t.num } : Ins) = { x.ins with imm := t.num }; rw [h3], h4, h5⟩
  · have es : immT r = (none, r) := by
      cases r with
      | nil => rfl
      | cons t ts =>
        have hd := hno t ts rfl
        have hk : ¬ t.kind = 2 := by simpa using hd
        simp only [immT, hk, if_false]
    rw [es]
    exact fits_no rfl e2
theorem stp_sim {s : RdS} {x : PartZ} {r : List Tok} (hT : ToksOk T) (h : SimR T s x r) (p : Stp) : Fits1 T E (stpQ T E s p) (fieldT (p.char.toNat : Int) x r) := by
  cases p
  · exact reg_sim hT h (fun n i => { i with d := n })
  · exact reg_sim hT h (fun n i => { i with a := n })
  · exact reg_sim hT h (fun n i => { i with b := n })
  · exact sign_sim h [44] (by decide)
  · exact imm_sim h
  · have h0 := h
    obtain ⟨h1, h2, h3, h4, h5⟩ := h
    have hq := isQ_drop (T := T) (n := s.n) h1 1 []
    rw [h2] at hq
    show Fits1 T E ⟨tgtM T s.n s.bad, tgtB T E s.n s.bad, tgtZ T s.n s.bad s.it⟩ (fieldT 84 x r)
    rw [field_t]
    cases r with
    | nil =>
      have hq' : isQ T s.n s.bad 1 [] = false := hq
      have e2 : tgtB T E s.n s.bad = takeB T E s.n s.bad 2 [] := by unfold tgtB; rw [hq']; rfl
      refine fits_no rfl ?_
      show tgtB T E s.n s.bad = _
      rw [e2]
      rcases take_cases (E := E) (k := 2) (c := []) h1 h2 with ⟨t, ts, hr, _⟩ | ⟨_, e⟩
      · cases hr
      · exact e
    | cons t ts =>
      by_cases hk : t.kind = 1
      · have hq' : isQ T s.n s.bad 1 [] = true := by rw [hq]; simp [hk]
        have e1 : tgtM T s.n s.bad = s.n + 1 := by unfold tgtM; rw [if_pos hq']
        have e2 : tgtB T E s.n s.bad = s.bad := by unfold tgtB; rw [if_pos hq']
        have e3 : tgtZ T s.n s.bad s.it = { s.it with use := t.text, useAt := (t.at_ : Int) } := by
          unfold tgtZ; rw [if_pos hq']; unfold textAt; rw [getD_drop h2]
        rw [e1, e2, e3]
        simp only [hk, if_true]
        refine fits_yes rfl ?_
        exact ⟨h1, drop_tail h2, h3, fun _ => ⟨rfl, rfl, hT.name t (drop_mem h2) hk⟩, fun hne => absurd hk hne⟩
      · have hq' : isQ T s.n s.bad 1 [] = false := by rw [hq]; simp [hk]
        have e1 : tgtM T s.n s.bad = takeN T s.n s.bad 2 [] := by unfold tgtM; rw [hq']; rfl
        have e2 : tgtB T E s.n s.bad = takeB T E s.n s.bad 2 [] := by unfold tgtB; rw [hq']; rfl
        have e3 : tgtZ T s.n s.bad s.it = { s.it with ins := { s.it.ins with imm := (takeTok T s.n s.bad 2 []).num } } := by unfold tgtZ; rw [hq']; rfl
        rw [e1, e2, e3]
        simp only [hk, if_false]
        exact imm_sim h0
  · exact sign_sim h [40] (by decide)
  · exact sign_sim h [41] (by decide)
theorem stps_sim (hT : ToksOk T) (l : List Stp) : ∀ (s : RdS) (x : PartZ) (r : List Tok), SimR T s x r → Fits1 T E (stpsQ T E l s) (fieldsT (l.map Stp.char) x r) := by
  induction l with
  | nil =>
    intro s x r h
    unfold Fits1
    show if true = true then _ else _
    rw [if_pos rfl]; exact h
  | cons p l ih =>
    intro s x r h
    have h1 := stp_sim (E := E) hT h p
    show Fits1 T E (stpsQ T E l (stpQ T E s p)) (if (fieldT (p.char.toNat : Int) x r).1 = true then fieldsT (l.map Stp.char) (fieldT (p.char.toNat : Int) x r).2.1 (fieldT (p.char.toNat : Int) x r).2.2 else fieldT (p.char.toNat : Int) x r)
    unfold Fits1 at h1
    split
    · rename_i hf
      rw [if_pos hf] at h1
      exact ih _ _ _ h1
    · rename_i hf
      rw [if_neg hf] at h1
      unfold Fits1
      rw [if_neg hf, stpsQ_failed l _ (by omega)]
      exact h1
theorem shape_form (op : Int) : shapeZ op = (formQ (formZ op)).map Stp.char := by
  have := formZ_range op
  unfold shapeZ
  generalize formZ op = f at *
  have hf : f = 0 ∨ f = 1 ∨ f = 2 ∨ f = 3 ∨ f = 4 ∨ f = 5 ∨ f = 6 ∨ f = 7 ∨ f = 8 := by omega
  rcases hf with rfl | rfl | rfl | rfl | rfl | rfl | rfl | rfl | rfl <;> rfl
theorem ins_sim (hT : ToksOk T) {r : List Tok} (hb : bad < 0) (hr : T.drop n = r) (op a0 : Int) (at_ : Nat) : Fits1 T E (insQ T E op ⟨n, bad, ⟨0, a0, [], ins0, [], 0, .slice none 0 0, .slice none 0 0⟩⟩) (fieldsT (shapeZ op) ⟨2, at_, 0, [], ⟨op, 0, 0, 0, 0⟩, tok0⟩ r) := by
  rw [shape_form]
  unfold insQ
  refine stps_sim hT _ _ _ _ ⟨hb, hr, rfl, fun h => ?_, fun _ => rfl⟩
  exact absurd (show (0 : Int) = 1 from h) (by decide)
end
end Go.Proofs.YtcaibahniheohaaDoor.Words

/- The document's own items and the grammar's parts are one. Nothing here speaks of one program text. -/
namespace Go.Proofs.YtcaibahniheohaaDoor.Words
set_option maxRecDepth 100000
open Go.RowKit Go.Shelf Go.Lib
set_option linter.unusedVariables false
set_option linter.unusedSimpArgs false
/-! ### the grammar without its fuel -/
theorem labelT_some {r : List Tok} {p : PartZ} {ts : List Tok} (h : labelT r = some (p, ts)) : ∃ n c, r = n :: c :: ts ∧ n.kind = 1 ∧ isS c [58] = true ∧ p = ⟨1, n.at_, 0, n.text, ins0, tok0⟩ := by
 match r, h with
 | [], h => cases h
 | [n], h => cases h
 | n :: c :: ts', h =>
  simp only [labelT] at h
  split at h
  ·rename_i hc
   injection h with h
   injection h with h1 h2
   subst h2
   exact ⟨n, c, rfl, hc.1, hc.2, h1.symm⟩
  ·cases h
theorem labelsF_fuel : ∀ (f : Nat) (r : List Tok), r.length ≤ f → labelsF f r = labelsF r.length r := by
 intro f
 induction f using Nat.strongRecOn with
 | ind f ih =>
  intro r hr
  cases f with
  | zero =>
   have : r.length = 0 := by omega
   rw [this]
  | succ f =>
   cases hl : labelT r with
   | none =>
    have e1 : labelsF (f + 1) r = (r, []) := by simp only [labelsF, hl]
    rw [e1]
    cases hn : r.length with
    | zero => rfl
    | succ k => simp only [labelsF, hl]
   | some q =>
    obtain ⟨p, ts⟩ := q
    obtain ⟨n, c, rfl, _, _, _⟩ := labelT_some hl
    have e1 : labelsF (f + 1) (n :: c :: ts) = ((labelsF f ts).1, p :: (labelsF f ts).2) := by simp only [labelsF, hl]
    have e2 : labelsF ((n :: c :: ts).length) (n :: c :: ts) = ((labelsF (ts.length + 1) ts).1, p :: (labelsF (ts.length + 1) ts).2) := by
     show labelsF (ts.length + 1 + 1) (n :: c :: ts) = _
     simp only [labelsF, hl]
    rw [List.length_cons, List.length_cons] at hr
    rw [e1, e2, ih f (by omega) ts (by omega)]
    by_cases hf : ts.length + 1 < f + 1
    ·rw [ih (ts.length + 1) hf ts (by omega)]
    ·omega
theorem lineT_label {r : List Tok} {p : PartZ} {ts : List Tok} (h : labelT r = some (p, ts)) : lineT r = ((lineT ts).1, (lineT ts).2.1, p :: (lineT ts).2.2) := by
 obtain ⟨n, c, rfl, _, _, _⟩ := labelT_some h
 have e : labelsF (n :: c :: ts).length (n :: c :: ts) = ((labelsF ts.length ts).1, p :: (labelsF ts.length ts).2) := by
  show labelsF (ts.length + 1 + 1) (n :: c :: ts) = _
  have : labelsF (ts.length + 1 + 1) (n :: c :: ts) = ((labelsF (ts.length + 1) ts).1, p :: (labelsF (ts.length + 1) ts).2) := by
   rw [labelsF, h]
  rw [this, labelsF_fuel (ts.length + 1) ts (by omega)]
 unfold lineT
 rw [e]
 simp only
 split <;> simp
theorem lineT_plain {r : List Tok} (h : labelT r = none) : lineT r = if (stmtT r).1 = true then ((endT (stmtT r).2.1).1, (endT (stmtT r).2.1).2, (stmtT r).2.2) else (false, (stmtT r).2.1, (stmtT r).2.2) := by
 have e : labelsF r.length r = (r, []) := by
  cases hn : r.length with
  | zero => rfl
  | succ k => simp only [labelsF, h]
 unfold lineT
 rw [e]
 simp
theorem textF_fuel : ∀ (f : Nat) (r : List Tok), r.length ≤ f → textF f r = textF r.length r := by
 intro f
 induction f using Nat.strongRecOn with
 | ind f ih =>
  intro r hr
  cases f with
  | zero =>
   have : r.length = 0 := by omega
   rw [this]
  | succ f =>
   by_cases h0 : r = []
   ·subst h0; rfl
   ·obtain ⟨k, hk⟩ : ∃ k, r.length = k + 1 := ⟨r.length - 1, by have := List.length_pos_iff.2 h0; omega⟩
    rw [hk]
    unfold textF
    rw [if_neg h0, if_neg h0]
    by_cases hl : (lineT r).1 = true
    ·have hlt := lineT_lt hl h0
     rw [if_pos hl, if_pos hl, ih f (by omega) _ (by omega)]
     by_cases hf : k < f + 1
     ·rw [ih k hf _ (by omega)]
     ·omega
    ·rw [if_neg hl, if_neg hl]
theorem textT_cons {r : List Tok} (h : r ≠ []) : textT r = if (lineT r).1 = true then ((textT (lineT r).2.1).1, (textT (lineT r).2.1).2.1, (lineT r).2.2 ++ (textT (lineT r).2.1).2.2) else lineT r := by
 obtain ⟨k, hk⟩ : ∃ k, r.length = k + 1 := ⟨r.length - 1, by have := List.length_pos_iff.2 h; omega⟩
 unfold textT
 rw [hk]
 show (if r = [] then _ else _) = _
 rw [if_neg h]
 by_cases hl : (lineT r).1 = true
 ·have hlt := lineT_lt hl h
  rw [if_pos hl, if_pos hl, textF_fuel k _ (by omega)]
 ·rw [if_neg hl, if_neg hl]
theorem textT_nil : textT [] = (true, [], []) := rfl
theorem textT_label {r : List Tok} {p : PartZ} {ts : List Tok} (h : labelT r = some (p, ts)) : textT r = ((textT ts).1, (textT ts).2.1, p :: (textT ts).2.2) := by
 have hl := lineT_label h
 obtain ⟨n, c, rfl, _, _, _⟩ := labelT_some h
 rw [textT_cons (by simp), hl]
 by_cases h0 : ts = []
 ·subst h0; rfl
 ·rw [textT_cons h0]
  simp only
  split <;> simp
theorem textT_blank {t : Tok} {ts : List Tok} (h : t.kind = 4) : textT (t :: ts) = textT ts := by
 have hl : labelT (t :: ts) = none := by
  cases ts with
  | nil => rfl
  | cons c ts => simp [labelT, h]
 have e : lineT (t :: ts) = (true, ts, []) := by
  rw [lineT_plain hl]
  have : stmtT (t :: ts) = (true, t :: ts, []) := by simp [stmtT, h]
  rw [this]
  simp [endT, h]
 rw [textT_cons (by simp), e]
 simp
theorem textT_bad {t : Tok} {ts : List Tok} (h1 : t.kind ≠ 1) (h4 : t.kind ≠ 4) : textT (t :: ts) = (false, t :: ts, []) := by
 have hl : labelT (t :: ts) = none := by
  cases ts with
  | nil => rfl
  | cons c ts => simp [labelT, h1]
 have e : lineT (t :: ts) = (false, t :: ts, []) := by
  rw [lineT_plain hl]
  have : stmtT (t :: ts) = (true, t :: ts, []) := by simp [stmtT, h1]
  rw [this]
  simp [endT, h4]
 rw [textT_cons (by simp), e]
 simp
theorem textT_stmt {r : List Tok} (h0 : r ≠ []) (hl : labelT r = none) : textT r = if (stmtT r).1 = true then
  (if (endT (stmtT r).2.1).1 = true then ((textT (endT (stmtT r).2.1).2).1, (textT (endT (stmtT r).2.1).2).2.1, (stmtT r).2.2 ++ (textT (endT (stmtT r).2.1).2).2.2) else (false, (endT (stmtT r).2.1).2, (stmtT r).2.2)) else (false, (stmtT r).2.1, (stmtT r).2.2) := by
 rw [textT_cons h0, lineT_plain hl]
 by_cases h1 : (stmtT r).1 = true
 ·rw [if_pos h1, if_pos h1]
  simp only
  split
  ·rfl
  ·rename_i h2
   have : (endT (stmtT r).2.1).1 = false := by simpa using h2
   rw [this]
 ·rw [if_neg h1, if_neg h1]
  simp
end Go.Proofs.YtcaibahniheohaaDoor.Words

/- The document's own items and the grammar's parts: one by one. Nothing here speaks of one program text. -/
namespace Go.Proofs.YtcaibahniheohaaDoor.Words
set_option maxRecDepth 100000
open Go.RowKit Go.Shelf Go.Lib
set_option linter.unusedVariables false
set_option linter.unusedSimpArgs false
section
variable {T : List Tok} {E n : Nat} {bad : Int}
theorem sign_cases {r : List Tok} (hb : bad < 0) (h : T.drop n = r) {c : List UInt8} (hc : c ≠ []) :
    (∃ t ts, r = t :: ts ∧ isS t c = true ∧ isQ T n bad 3 c = true ∧ signT c r = (true, ts) ∧ T.drop (n + 1) = ts) ∨ (isQ T n bad 3 c = false ∧ signT c r = (false, r) ∧ ∀ t ts, r = t :: ts → isS t c = false) := by
  have hq := isQ_drop (T := T) (n := n) hb 3 c
  rw [h] at hq
  cases r with
  | nil => exact .inr ⟨hq, rfl, fun t ts e => (by cases e)⟩
  | cons t ts =>
    have hs : (decide (t.kind = 3) && (decide (c = []) || decide (t.text = c))) = isS t c := by
      unfold isS
      rw [decide_eq_false hc, Bool.false_or, Bool.decide_and]
    have hq' : isQ T n bad 3 c = isS t c := hq.trans hs
    cases hi : isS t c
    · exact .inr ⟨hq'.trans hi, by simp [signT, hi], fun t' ts' e => by injection e with e1 e2; subst e1; exact hi⟩
    · exact .inl ⟨t, ts, rfl, hi, hq'.trans hi, by simp only [signT, hi, if_true], drop_tail h⟩
theorem num_cases {r : List Tok} (hb : bad < 0) (h : T.drop n = r) (kind : Int) :
    (∃ t ts, r = t :: ts ∧ numT kind r = (true, ts, [⟨kind, t.at_, t.num, [], ins0, tok0⟩]) ∧ takeN T n bad 2 [] = n + 1 ∧ takeB T E n bad 2 [] = bad ∧ takeTok T n bad 2 [] = t ∧ T.drop (n + 1) = ts) ∨
    (numT kind r = (false, r, []) ∧ takeB T E n bad 2 [] = (headAt r E : Nat)) := by
  rcases take_cases (E := E) (k := 2) (c := []) hb h with ⟨t, ts, rfl, hd, e1, e2, e3, e4⟩ | ⟨hno, e2⟩
  · have hk : t.kind = 2 := by simpa using hd
    exact .inl ⟨t, ts, rfl, by simp only [numT, hk, if_true], e1, e2, e3, e4⟩
  · refine .inr ⟨?_, e2⟩
    cases r with
    | nil => rfl
    | cons t ts =>
      have hk : ¬ t.kind = 2 := by simpa using hno t ts rfl
      simp only [numT, hk, if_false]
def bytP (ms : List Int) (bs : List Nat) : List PartZ := (ms.zip bs).map fun q => ⟨4, q.2, q.1, [], ins0, tok0⟩
def atsI (bs : List Nat) : List Int := bs.map fun a : Nat => (a : Int)
theorem bytG_failed (hb : 0 ≤ bad) (f : Nat) (ns as_ : List Int) : bytG T E f n bad ns as_ = (n, bad, ns, as_) := by
  cases f with
  | zero => rfl
  | succ f => rw [bytG_succ, isQ_failed hb, if_neg (by decide)]
theorem byteF_failed (f : Nat) (r : List Tok) : byteF f false r = (false, r, []) := by cases f <;> rfl
theorem byteF_succ (f : Nat) (r : List Tok) : byteF (f + 1) true r = if (signT [44] r).1 = true then
        ((byteF f (numT 4 (signT [44] r).2).1 (numT 4 (signT [44] r).2).2.1).1, (byteF f (numT 4 (signT [44] r).2).1 (numT 4 (signT [44] r).2).2.1).2.1,
          (numT 4 (signT [44] r).2).2.2 ++ (byteF f (numT 4 (signT [44] r).2).1 (numT 4 (signT [44] r).2).2.1).2.2)
       else (true, r, []) := rfl
theorem byt_sim : ∀ (f1 f2 n : Nat) (r : List Tok) (ns as_ : List Int), bad < 0 → T.drop n = r → r.length ≤ f1 → r.length ≤ f2 →
    (if (byteF f1 true r).1 = true then ∃ (n' : Nat) (ms : List Int) (bs : List Nat), bytG T E f2 n bad ns as_ = (n', bad, ns ++ ms, as_ ++ atsI bs) ∧ T.drop n' = (byteF f1 true r).2.1 ∧ (byteF f1 true r).2.2 = bytP ms bs ∧ ms.length = bs.length
     else (bytG T E f2 n bad ns as_).2.1 = (headAt (byteF f1 true r).2.1 E : Nat)) := by
  intro f1
  induction f1 with
  | zero =>
    intro f2 n r ns as_ hb hr h1 h2
    have h0 : r = [] := List.eq_nil_of_length_eq_zero (by omega)
    subst h0
    show (if true = true then _ else _)
    rw [if_pos rfl]
    refine ⟨n, [], [], ?_, hr, rfl, rfl⟩
    cases f2 with
    | zero => simp [bytG, atsI]
    | succ f2 =>
      have hq := isQ_drop (T := T) (n := n) hb 3 [44]
      rw [hr] at hq
      rw [bytG_succ, show isQ T n bad 3 [44] = false from hq, if_neg (by decide)]
      simp [atsI]
  | succ f1 ih =>
    intro f2 n r ns as_ hb hr h1 h2
    rcases sign_cases hb hr (c := [44]) (by decide) with ⟨t, ts, rfl, _, hq, hs, hd⟩ | ⟨hq, hs, _⟩
    · obtain ⟨f2, rfl⟩ : ∃ k, f2 = k + 1 := ⟨f2 - 1, by rw [List.length_cons] at h2; omega⟩
      rw [List.length_cons] at h1 h2
      have eb : byteF (f1 + 1) true (t :: ts) = ((byteF f1 (numT 4 ts).1 (numT 4 ts).2.1).1, (byteF f1 (numT 4 ts).1 (numT 4 ts).2.1).2.1, (numT 4 ts).2.2 ++ (byteF f1 (numT 4 ts).1 (numT 4 ts).2.1).2.2) := by
        rw [byteF_succ, hs, if_pos rfl]
      rw [eb, bytG_succ, if_pos hq]
      rcases num_cases (E := E) hb hd 4 with ⟨x, xs, rfl, en, e1, e2, e3, e4⟩ | ⟨en, e2⟩
      · rw [en, e1, e2, e3]
        have hh := ih f2 (n + 1 + 1) xs (ns ++ [x.num]) (as_ ++ [(x.at_ : Int)]) hb e4 (by rw [List.length_cons] at h1; omega) (by rw [List.length_cons] at h2; omega)
        simp only
        split at hh
        · rename_i ht
          rw [if_pos ht]
          obtain ⟨n', ms, bs, g1, g2, g3, g4⟩ := hh
          exact ⟨n', x.num :: ms, x.at_ :: bs, by rw [g1]; simp [atsI], g2, by rw [g3]; rfl, by simp [g4]⟩
        · rename_i ht
          rw [if_neg ht]; exact hh
      · rw [en]
        simp only
        rw [byteF_failed]
        simp only [Bool.false_eq_true, if_false]
        rw [bytG_failed (by rw [e2]; omega)]
        exact e2
    · have eb : byteF (f1 + 1) true r = (true, r, []) := by
        rw [byteF_succ, hs, if_neg Bool.false_ne_true]
      rw [eb]
      show (if true = true then _ else _)
      rw [if_pos rfl]
      refine ⟨n, [], [], ?_, hr, rfl, rfl⟩
      cases f2 with
      | zero => simp [bytG, atsI]
      | succ f2 => rw [bytG_succ, hq, if_neg (by decide)]; simp [atsI]
def UseOf (it : ItP) (x : PartZ) : Prop := (x.target.kind = 1 → it.use = x.target.text ∧ it.useAt = (x.target.at_ : Int) ∧ x.target.text ≠ []) ∧ (x.target.kind ≠ 1 → it.use = [])
def ItOf (it : ItP) (ps : List PartZ) : Prop :=
  (it.kind = 1 ∧ ∃ a : Nat, it.at_ = (a : Int) ∧ ps = [⟨1, a, 0, it.label, ins0, tok0⟩]) ∨
  (it.kind = 2 ∧ ∃ x : PartZ, ps = [x] ∧ x.kind = 2 ∧ it.at_ = (x.at_ : Int) ∧ it.ins = x.ins ∧ UseOf it x) ∨
  (it.kind = 4 ∧ ∃ (a : Nat) (k : Int), ps = [⟨3, a, k, [], ins0, tok0⟩] ∧ it.nums = [k]) ∨
  (it.kind = 3 ∧ ∃ (ms : List Int) (bs : List Nat), ps = bytP ms bs ∧ ms.length = bs.length ∧ it.nums = ms ∧ it.ats = atsI bs)
inductive ItsOf : List ItP → List PartZ → Prop
  | nil : ItsOf [] []
  | cons {i : ItP} {is : List ItP} {ps qs : List PartZ} (h : ItOf i ps) (t : ItsOf is qs) : ItsOf (i :: is) (ps ++ qs)
theorem fieldT_keeps (c : Int) (x : PartZ) (r : List Tok) : (fieldT c x r).2.1.kind = x.kind ∧ (fieldT c x r).2.1.at_ = x.at_ ∧ (fieldT c x r).2.1.num = x.num ∧ (fieldT c x r).2.1.name = x.name := by
  unfold fieldT
  repeat' split
  all_goals exact ⟨rfl, rfl, rfl, rfl⟩
theorem fieldsT_keeps : ∀ (l : List UInt8) (x : PartZ) (r : List Tok), (fieldsT l x r).2.1.kind = x.kind ∧ (fieldsT l x r).2.1.at_ = x.at_ := by
  intro l
  induction l with
  | nil => intro x r; exact ⟨rfl, rfl⟩
  | cons c l ih =>
    intro x r
    have h := fieldT_keeps c.toNat x r
    show (if _ then fieldsT l _ _ else _).2.1.kind = _ ∧ (if _ then fieldsT l _ _ else _).2.1.at_ = _
    split
    · have h2 := ih (fieldT c.toNat x r).2.1 (fieldT c.toNat x r).2.2
      exact ⟨h2.1.trans h.1, h2.2.trans h.2.1⟩
    · exact ⟨h.1, h.2.1⟩
theorem opG_opZ (s : List UInt8) : opG s 41 = opZ s := by
  have h : ∀ k ≤ 41, True := fun _ _ => trivial
  by_cases hm : s ∈ namesZ
  · have : ∀ x ∈ namesZ, opG x 41 = opZ x := by decide +kernel
    exact this s hm
  · have h1 : ∀ k, k ≤ 41 → opG s k = 0 := by
      intro k
      induction k with
      | zero => intro _; rfl
      | succ k ih =>
        intro hk
        show (if namesZ.getD k [] = s then _ else _) = _
        rw [if_neg, ih (by omega)]
        intro e
        apply hm
        rw [← e, List.getD_eq_getElem?_getD, List.getElem?_eq_getElem (show k < namesZ.length by show k < 41; omega)]
        exact List.getElem_mem _
    have h2 : ∀ (l : List (List UInt8)) (i : Int), s ∉ l → opF s l i = 0 := by
      intro l
      induction l with
      | nil => intro i _; rfl
      | cons a l ih =>
        intro i hn
        unfold opF
        rw [if_neg (fun e => hn (by rw [← e]; exact List.mem_cons_self)), ih _ (fun hh => hn (List.mem_cons_of_mem _ hh))]
    rw [h1 41 (Nat.le_refl _)]
    exact (h2 namesZ 0 hm).symm
end
end Go.Proofs.YtcaibahniheohaaDoor.Words

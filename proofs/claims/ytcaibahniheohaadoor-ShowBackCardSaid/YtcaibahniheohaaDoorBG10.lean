/- Several texts in one: RaItemsS, RaLay, RaAsmM, RaAsmL, RaByt, RaItemsW. -/
import Derived.Test.YtcaibahniheohaaDoorBG09
import Derived.Test.YtcaibahniheohaaDoorBG08
import Derived.Deep.Cut
import Derived.Deep.CutRange
import Derived.Deep.CutBlock

/- The document's own items are the grammar's parts. Nothing here speaks of one program text. -/
namespace Go.Proofs.YtcaibahniheohaaDoor.Words
set_option maxRecDepth 100000
open Go.RowKit Go.Shelf Go.Lib
set_option linter.unusedVariables false
set_option linter.unusedSimpArgs false
section
variable {T : List Tok} {E n : Nat} {bad : Int}
theorem stm_sim (hT : ToksOk T) {t : Tok} {ts : List Tok} (hb : bad < 0) (hr : T.drop n = t :: ts) (hk : t.kind = 1) :
  if (stmtT (t :: ts)).1 = true then (stmG T E (n + 1) bad t).bad < 0 ∧ T.drop (stmG T E (n + 1) bad t).n = (stmtT (t :: ts)).2.1 ∧ ∃ it, (stmG T E (n + 1) bad t).item = some it ∧ ItOf it (stmtT (t :: ts)).2.2
  else (stmG T E (n + 1) bad t).bad = (headAt (stmtT (t :: ts)).2.1 E : Nat) := by
 have hd := drop_tail hr
 have hop := opG_opZ t.text
 rw [stmtT_one t ts hk]
 have h00 : ¬ 0 ≤ bad := by omega
 simp only [stmG, if_neg h00, hop]
 by_cases h1 : 0 < opZ t.text
 ·simp only [if_pos h1]
  have hs := ins_sim (E := E) hT hb hd (opZ t.text) (t.at_ : Int) t.at_
  have hkp := fieldsT_keeps (shapeZ (opZ t.text)) ⟨2, t.at_, 0, [], ⟨opZ t.text, 0, 0, 0, 0⟩, tok0⟩ ts
  unfold Fits1 at hs
  unfold insT
  by_cases hf : (fieldsT (shapeZ (opZ t.text)) ⟨2, t.at_, 0, [], ⟨opZ t.text, 0, 0, 0, 0⟩, tok0⟩ ts).1 = true
  ·rw [if_pos hf] at hs
   rw [if_pos hf]
   simp only [if_true]
   refine ⟨hs.ok, hs.at_, _, rfl, .inr (.inl ⟨?_, _, rfl, hkp.1, ?_, hs.ins, hs.use1, hs.use0⟩)⟩
   ·exact ins_kind _ _ _ _ _ _
   ·rw [hkp.2]; exact ins_at _ _ _ _ _ _
  ·rw [if_neg hf] at hs
   rw [if_neg hf]
   simp only [Bool.false_eq_true, if_false]
   exact hs
 simp only [if_neg h1]
 by_cases h2 : t.text = sizeN
 ·simp only [if_pos h2, if_pos (show t.text = sizeS from h2)]
  rcases num_cases (E := E) hb hd 3 with ⟨x, xs, rfl, en, e1, e2, e3, e4⟩ | ⟨en, e2⟩
  ·rw [en]
   simp only [if_true]
   rw [e1, e2, e3]
   exact ⟨hb, e4, _, rfl, .inr (.inr (.inl ⟨rfl, x.at_, x.num, rfl, rfl⟩))⟩
  ·rw [en]
   simp only [Bool.false_eq_true, if_false]
   exact e2
 simp only [if_neg h2, if_neg (show ¬ t.text = sizeS from h2)]
 by_cases h3 : t.text = byteN
 ·simp only [if_pos h3, if_pos (show t.text = byteS from h3)]
  unfold bytesT
  have hlen : ts.length ≤ T.length := by rw [← hd, List.length_drop]; omega
  rcases num_cases (E := E) hb hd 4 with ⟨x, xs, rfl, en, e1, e2, e3, e4⟩ | ⟨en, e2⟩
  ·rw [en, e1, e2, e3]
   simp only
   have hh := byt_sim (E := E) (bad := bad) (x :: xs).length T.length (n + 1 + 1) xs [x.num] [(x.at_ : Int)] hb e4 (by simp) (by rw [List.length_cons] at hlen; omega)
   by_cases ht : (byteF (x :: xs).length true xs).1 = true
   ·rw [if_pos ht] at hh
    rw [if_pos ht]
    obtain ⟨n', ms, bs, g1, g2, g3, g4⟩ := hh
    rw [g1, g3]
    exact ⟨hb, g2, _, rfl, .inr (.inr (.inr ⟨rfl, x.num :: ms, x.at_ :: bs, rfl, by simp [g4], rfl, rfl⟩))⟩
   ·rw [if_neg ht] at hh
    rw [if_neg ht]
    exact hh
  ·rw [en]
   simp only [byteF_failed, Bool.false_eq_true, if_false]
   rw [bytG_failed (by rw [e2]; omega)]
   exact e2
 ·simp only [if_neg h3, if_neg (show ¬ t.text = byteS from h3)]
  simp only [Bool.false_eq_true, if_false, Nat.add_sub_cancel]
  rw [failQ_drop hb, hr]
where
 ins_kind (T : List Tok) (E : Nat) (op : Int) (n : Nat) (bad a0 : Int) : (insQ T E op ⟨n, bad, ⟨0, a0, [], ins0, [], 0, .slice none 0 0, .slice none 0 0⟩⟩).it.kind = 2 := (ins_ka T E (formQ (formZ op)) ⟨n, bad, itIns ⟨0, a0, [], ins0, [], 0, .slice none 0 0, .slice none 0 0⟩ op⟩).1
 ins_at (T : List Tok) (E : Nat) (op : Int) (n : Nat) (bad a0 : Int) : (insQ T E op ⟨n, bad, ⟨0, a0, [], ins0, [], 0, .slice none 0 0, .slice none 0 0⟩⟩).it.at_ = a0 := (ins_ka T E (formQ (formZ op)) ⟨n, bad, itIns ⟨0, a0, [], ins0, [], 0, .slice none 0 0, .slice none 0 0⟩ op⟩).2
 ins_ka (T : List Tok) (E : Nat) : ∀ (l : List Stp) (s : RdS), (stpsQ T E l s).it.kind = s.it.kind ∧ (stpsQ T E l s).it.at_ = s.it.at_
  | [], s => ⟨rfl, rfl⟩
  | p :: l, s => by
   have h1 := ins_ka T E l (stpQ T E s p)
   have h2 : (stpQ T E s p).it.kind = s.it.kind ∧ (stpQ T E s p).it.at_ = s.it.at_ := by
    cases p
    all_goals first | exact ⟨rfl, rfl⟩ | (show (tgtZ T s.n s.bad s.it).kind = _ ∧ (tgtZ T s.n s.bad s.it).at_ = _; unfold tgtZ; split <;> exact ⟨rfl, rfl⟩)
   exact ⟨h1.1.trans h2.1, h1.2.trans h2.2⟩
theorem itemsG_stopM {f : Nat} (h : ¬ (bad < 0 ∧ n < T.length)) : itemsG T E f n bad = ([], n, bad) := by
 cases f with
 | zero => rfl
 | succ f => show (if bad < 0 ∧ n < T.length then _ else _) = _; rw [if_neg h]
theorem itemsG_roundM {f : Nat} (h : bad < 0 ∧ n < T.length) :
  itemsG T E (f + 1) n bad = ((roundG T E n bad).item.toList ++ (itemsG T E f (roundG T E n bad).n (roundG T E n bad).bad).1, (itemsG T E f (roundG T E n bad).n (roundG T E n bad).bad).2) := by
 show (if bad < 0 ∧ n < T.length then _ else _) = _
 rw [if_pos h]
def ItemsOk (T : List Tok) (E f n : Nat) (bad : Int) : Prop :=
 if (textT (T.drop n)).1 = true then (itemsG T E f n bad).2.2 < 0 ∧ ItsOf (itemsG T E f n bad).1 (textT (T.drop n)).2.2 else (itemsG T E f n bad).2.2 = (headAt (textT (T.drop n)).2.1 E : Nat)
theorem items_stop {f : Nat} (hb : bad < 0) (hn : T.drop n = []) : ItemsOk T E f n bad := by
 have : ¬ n < T.length := fun h => by
  have := congrArg List.length hn
  rw [List.length_drop] at this; simp at this; omega
 unfold ItemsOk
 rw [hn, textT_nil, itemsG_stopM (fun h => this h.2)]
 exact ⟨hb, .nil⟩
theorem items_sim (hT : ToksOk T) : ∀ (f n : Nat) (bad : Int), bad < 0 → T.length + 1 ≤ n + f → ItemsOk T E f n bad := by
 intro f
 induction f with
 | zero =>
  intro n bad hb hf
  exact items_stop hb (List.drop_eq_nil_of_le (by omega))
 | succ f ih =>
  intro n bad hb hf
  cases hr : T.drop n with
  | nil => exact items_stop hb hr
  | cons t ts =>
   have hlt : n < T.length := by
    by_cases h : n < T.length
    ·exact h
    ·rw [List.drop_eq_nil_of_le (by omega)] at hr; cases hr
   have hrd := itemsG_roundM (E := E) (f := f) ⟨hb, hlt⟩
   have hgo := roundG_goes (E := E) hb hlt
   have hd := drop_tail hr
   unfold ItemsOk
   rw [hr, hrd]
   have q4 := isQ_drop (T := T) (n := n) hb 4 []
   rw [hr] at q4
   by_cases h4 : t.kind = 4
   ·have hq : isQ T n bad 4 [] = true := by rw [q4]; simp [h4]
    have hR : roundG T E n bad = ⟨n + 1, bad, none⟩ := if_pos hq
    rw [hR, textT_blank h4]
    have hh := ih (n + 1) bad hb (by omega)
    unfold ItemsOk at hh
    rw [hd] at hh
    exact hh
   have hq4 : isQ T n bad 4 [] = false := by rw [q4]; simp [h4]
   by_cases h1 : t.kind = 1
   rotate_left
   ·-- no name
    have hq1 : isQ T n bad 1 [] = false := by
     have := isQ_drop (T := T) (n := n) hb 1 []
     rw [hr] at this; rw [this]; simp [h1]
    have e2 : takeB T E n bad 1 [] = (t.at_ : Int) := by
     unfold takeB; rw [hq1, if_neg Bool.false_ne_true, failQ_drop hb, hr]; rfl
    have hR : (roundG T E n bad).bad = (t.at_ : Int) := by
     unfold roundG
     rw [if_neg (by rw [hq4]; decide)]
     simp only
     rw [e2, isQ_failed (by omega), if_neg (by decide)]
     unfold stmG
     rw [if_pos (by omega)]
     unfold endG
     simp only
     split
     ·unfold failQ; rw [if_pos (by omega)]
     ·rfl
    rw [textT_bad h1 h4]
    simp only [Bool.false_eq_true, if_false]
    rw [itemsG_stopM (fun h => by rw [hR] at h; omega), hR]
    rfl
   have hq1 : isQ T n bad 1 [] = true := by
    have := isQ_drop (T := T) (n := n) hb 1 []
    rw [hr] at this; rw [this]; simp [h1]
   have e1 : takeN T n bad 1 [] = n + 1 := if_pos hq1
   have e2 : takeB T E n bad 1 [] = bad := if_pos hq1
   have e3 : takeTok T n bad 1 [] = t := by unfold takeTok; rw [if_pos hq1, getD_drop hr]
   rcases sign_cases (n := n + 1) hb hd (c := [58]) (by decide) with ⟨c, cs, rfl, hs, hq, _, hd2⟩ | ⟨hq, _, hno⟩
   ·-- a label
    have hl : labelT (t :: c :: cs) = some (⟨1, t.at_, 0, t.text, ins0, tok0⟩, cs) := by simp [labelT, h1, hs]
    have hR : roundG T E n bad = ⟨n + 1 + 1, bad, some ⟨1, t.at_, t.text, ins0, [], 0, [], []⟩⟩ := by
     unfold roundG
     rw [if_neg (by rw [hq4]; decide)]
     simp only
     rw [e1, e2, e3, if_pos hq]
    rw [hR, textT_label hl]
    have hh := ih (n + 1 + 1) bad hb (by omega)
    unfold ItemsOk at hh
    rw [hd2] at hh
    simp only
    by_cases ht : (textT cs).1 = true
    ·rw [if_pos ht] at hh ⊢
     exact ⟨hh.1, .cons (.inl ⟨rfl, t.at_, rfl, rfl⟩) hh.2⟩
    ·rw [if_neg ht] at hh ⊢
     exact hh
   ·-- a statement
    have hl : labelT (t :: ts) = none := by
     cases ts with
     | nil => rfl
     | cons c cs => simp [labelT, hno c cs rfl]
    have hR : roundG T E n bad = endG T E (stmG T E (n + 1) bad t) := by
     unfold roundG
     rw [if_neg (by rw [hq4]; decide)]
     simp only
     rw [e1, e2, e3, if_neg (by rw [hq]; decide)]
    have hs := stm_sim (E := E) hT hb hr h1
    rw [textT_stmt (by simp) hl]
    by_cases hst : (stmtT (t :: ts)).1 = true
    rotate_left
    ·rw [if_neg hst] at hs ⊢
     simp only [Bool.false_eq_true, if_false]
     have hbad : (endG T E (stmG T E (n + 1) bad t)).bad = (headAt (stmtT (t :: ts)).2.1 E : Nat) := by
      unfold endG
      split
      ·show failQ T E _ _ = _
       unfold failQ; rw [if_pos (by omega)]; exact hs
      ·exact hs
     rw [hR, itemsG_stopM (fun h => by rw [hbad] at h; omega)]
     exact hbad
    rw [if_pos hst] at hs ⊢
    obtain ⟨s1, s2, it, s3, s4⟩ := hs
    obtain ⟨r', hr'⟩ : ∃ r', r' = (stmtT (t :: ts)).2.1 := ⟨_, rfl⟩
    rw [← hr'] at s2 ⊢
    have q5 := isQ_drop (T := T) (n := (stmG T E (n + 1) bad t).n) s1 4 []
    rw [s2] at q5
    -- where the statement is well ended
    have good : endG T E (stmG T E (n + 1) bad t) = stmG T E (n + 1) bad t → (endT r').1 = true → textT (endT r').2 = textT r' →
      (if (if (endT r').1 = true then ((textT (endT r').2).1, (textT (endT r').2).2.1, (stmtT (t :: ts)).2.2 ++ (textT (endT r').2).2.2) else (false, (endT r').2, (stmtT (t :: ts)).2.2)).1 = true then
       ((roundG T E n bad).item.toList ++ (itemsG T E f (roundG T E n bad).n (roundG T E n bad).bad).1, (itemsG T E f (roundG T E n bad).n (roundG T E n bad).bad).2).2.2 < 0 ∧
       ItsOf ((roundG T E n bad).item.toList ++ (itemsG T E f (roundG T E n bad).n (roundG T E n bad).bad).1, (itemsG T E f (roundG T E n bad).n (roundG T E n bad).bad).2).1 (if (endT r').1 = true then ((textT (endT r').2).1, (textT (endT r').2).2.1, (stmtT (t :: ts)).2.2 ++ (textT (endT r').2).2.2) else (false, (endT r').2, (stmtT (t :: ts)).2.2)).2.2
      else ((roundG T E n bad).item.toList ++ (itemsG T E f (roundG T E n bad).n (roundG T E n bad).bad).1, (itemsG T E f (roundG T E n bad).n (roundG T E n bad).bad).2).2.2 = (headAt (if (endT r').1 = true then ((textT (endT r').2).1, (textT (endT r').2).2.1, (stmtT (t :: ts)).2.2 ++ (textT (endT r').2).2.2) else (false, (endT r').2, (stmtT (t :: ts)).2.2)).2.1 E : Nat)) := by
     intro g1 g2 g3
     rw [if_pos g2, g3, hR, g1]
     rw [hR, g1] at hgo
     have hh := ih (stmG T E (n + 1) bad t).n (stmG T E (n + 1) bad t).bad s1 (by omega)
     unfold ItemsOk at hh
     rw [s2] at hh
     simp only
     by_cases ht : (textT r').1 = true
     ·rw [if_pos ht] at hh ⊢
      rw [s3]
      exact ⟨hh.1, .cons s4 hh.2⟩
     ·rw [if_neg ht] at hh ⊢
      exact hh
    cases hrr : r' with
    | nil =>
     rw [hrr] at good s2
     refine good ?_ rfl rfl
     unfold endG
     rw [if_neg (fun h => by
      have := congrArg List.length s2
      rw [List.length_drop] at this; simp at this; omega)]
    | cons x xs =>
     rw [hrr] at good s2 q5
     by_cases hx : x.kind = 4
     ·refine good ?_ (by simp [endT, hx]) (by rw [show (endT (x :: xs)).2 = xs by simp [endT, hx], textT_blank hx])
      unfold endG
      rw [if_neg (fun h => by rw [q5] at h; simp [hx] at h)]
     ·have he : endT (x :: xs) = (false, x :: xs) := by simp [endT, hx]
      rw [he]
      simp only [Bool.false_eq_true, if_false]
      have hlt2 : (stmG T E (n + 1) bad t).n < T.length := by
       by_cases h : (stmG T E (n + 1) bad t).n < T.length
       ·exact h
       ·rw [List.drop_eq_nil_of_le (by omega)] at s2; cases s2
      have hbad : (endG T E (stmG T E (n + 1) bad t)).bad = (x.at_ : Int) := by
       unfold endG
       rw [if_pos ⟨hlt2, by rw [q5]; simp [hx]⟩]
       show failQ T E _ _ = _
       rw [failQ_drop s1, s2]; rfl
      rw [hR, itemsG_stopM (fun h => by rw [hbad] at h; omega)]
      exact hbad
end
end Go.Proofs.YtcaibahniheohaaDoor.Words

/- The document's own Asm, item by item, and the parts laid: one. Nothing here speaks of one program text. -/
namespace Go.Proofs.YtcaibahniheohaaDoor.Words
set_option maxRecDepth 100000
open Go.RowKit Go.Shelf Go.Lib
set_option linter.unusedVariables false
set_option linter.unusedSimpArgs false
def placeP (s : List UInt8) : List ItP → Nat → Int
 | [], _ => -1
 | x :: xs, n => if x.kind = 1 ∧ x.label = s then (n : Int) else placeP s xs (if x.kind = 2 then n + 1 else n)
def hasP (s : List UInt8) (l : List ItP) : Bool := l.any fun y => decide (y.kind = 1 ∧ y.label = s)
def badByte : List Int → List Int → Option Int
 | m :: ms, a :: as_ => if m < 0 ∨ 255 < m then some a else badByte ms as_
 | _, _ => none
def layP (all : List ItP) : List ItP → List ItP → Prog → AsmR
 | _, [], p => .ok p
 | pre, x :: xs, p =>
  if x.kind = 1 then (if hasP x.label pre = true then .bad x.at_.toNat 6 else layP all (pre ++ [x]) xs p)
  else if x.kind = 2 then
   (if x.use = [] then (if rightB x.ins = true then layP all (pre ++ [x]) xs { p with code := p.code ++ [x.ins] } else .bad x.at_.toNat 8)
    else if placeP x.use all 0 < 0 then .bad x.useAt.toNat 6
    else (if rightB { x.ins with imm := placeP x.use all 0 - p.code.length } = true then layP all (pre ++ [x]) xs { p with code := p.code ++ [{ x.ins with imm := placeP x.use all 0 - p.code.length }] } else .bad x.at_.toNat 8))
  else if x.kind = 3 then (match badByte x.nums x.ats with | some a => .bad a.toNat 8 | none => layP all (pre ++ [x]) xs { p with data := p.data ++ x.nums })
  else if x.kind = 4 then layP all (pre ++ [x]) xs { p with size := x.nums.getD 0 0 }
  else layP all (pre ++ [x]) xs p
theorem bytP_cons (m : Int) (ms : List Int) (a : Nat) (bs : List Nat) : bytP (m :: ms) (a :: bs) = ⟨4, a, m, [], ins0, tok0⟩ :: bytP ms bs := rfl
theorem bytP_kind {ms : List Int} {bs : List Nat} {x : PartZ} (h : x ∈ bytP ms bs) : x.kind = 4 := by
 unfold bytP at h
 obtain ⟨q, _, rfl⟩ := List.mem_map.1 h
 rfl
theorem placeF_skip (s : List UInt8) (qs : List PartZ) : ∀ (l : List PartZ) (n : Int), (∀ x ∈ l, x.kind = 4 ∨ x.kind = 3) → placeF s (l ++ qs) n = placeF s qs n := by
 intro l
 induction l with
 | nil => intro n _; rfl
 | cons x l ih =>
  intro n h
  have hx := h x (by simp)
  show (if x.kind = 1 ∧ x.name = s then some n else placeF s (l ++ qs) (if x.kind = 2 then n + 1 else n)) = _
  rw [if_neg (by rcases hx with h | h <;> (rw [h]; simp)), if_neg (by rcases hx with h | h <;> (rw [h]; decide))]
  exact ih n fun y hy => h y (by simp [hy])
theorem place_of {is : List ItP} {ps : List PartZ} (h : ItsOf is ps) (s : List UInt8) : ∀ n : Nat, placeF s ps (n : Int) = if placeP s is n < 0 then none else some (placeP s is n) := by
 induction h with
 | nil => intro n; rfl
 | @cons i is ps qs hi ht ih =>
  intro n
  have eP : placeP s (i :: is) n = (if i.kind = 1 ∧ i.label = s then (n : Int) else placeP s is (if i.kind = 2 then n + 1 else n)) := rfl
  rcases hi with ⟨hk, a, ha, rfl⟩ | ⟨hk, x, rfl, hx, _⟩ | ⟨hk, a, k, rfl, _⟩ | ⟨hk, ms, bs, rfl, _⟩
  ·have eF : placeF s ([⟨1, a, 0, i.label, ins0, tok0⟩] ++ qs) (n : Int) = (if (1 : Int) = 1 ∧ i.label = s then some (n : Int) else placeF s qs (if (1 : Int) = 2 then (n : Int) + 1 else n)) := rfl
   by_cases hl : i.label = s
   ·have e1 : placeP s (i :: is) n = n := by rw [eP, if_pos ⟨hk, hl⟩]
    rw [eF, e1, if_pos ⟨rfl, hl⟩, if_neg (by omega)]
   ·have e1 : placeP s (i :: is) n = placeP s is n := by rw [eP, if_neg (fun h => hl h.2)]; simp [hk]
    rw [eF, e1, if_neg (fun h => hl h.2)]
    exact ih n
  ·have eF : placeF s ([x] ++ qs) (n : Int) = (if x.kind = 1 ∧ x.name = s then some (n : Int) else placeF s qs (if x.kind = 2 then (n : Int) + 1 else n)) := rfl
   have e1 : placeP s (i :: is) n = placeP s is (n + 1) := by rw [eP]; simp [hk]
   have e2 : placeF s ([x] ++ qs) (n : Int) = placeF s qs ((n : Int) + 1) := by rw [eF]; simp [hx]
   rw [e1, e2]
   exact ih (n + 1)
  ·rw [placeF_skip s qs [_] (n : Int) (fun x hx => by rw [List.mem_singleton.1 hx]; exact .inr rfl)]
   have e1 : placeP s (i :: is) n = placeP s is n := by rw [eP]; simp [hk]
   rw [e1]
   exact ih n
  ·rw [placeF_skip s qs _ (n : Int) (fun x hx => .inl (bytP_kind hx))]
   have e1 : placeP s (i :: is) n = placeP s is n := by rw [eP]; simp [hk]
   rw [e1]
   exact ih n
theorem any_none {s : List UInt8} : ∀ l : List PartZ, (∀ x ∈ l, x.kind ≠ 1) → hasL s l = false := by
 intro l h
 unfold hasL
 rw [List.any_eq_false]
 intro x hx
 simp [h x hx]
theorem has_of {is : List ItP} {ps : List PartZ} (h : ItsOf is ps) (s : List UInt8) : hasL s ps = hasP s is := by
 induction h with
 | nil => rfl
 | @cons i is ps qs hi ht ih =>
  have e1 : hasL s (ps ++ qs) = (hasL s ps || hasL s qs) := by unfold hasL; rw [List.any_append]
  have e2 : hasP s (i :: is) = (decide (i.kind = 1 ∧ i.label = s) || hasP s is) := by unfold hasP; rw [List.any_cons]
  rw [e1, e2, ih]
  congr 1
  rcases hi with ⟨hk, a, ha, rfl⟩ | ⟨hk, x, rfl, hx, _⟩ | ⟨hk, a, k, rfl, _⟩ | ⟨hk, ms, bs, rfl, _⟩
  ·unfold hasL; simp [hk]
  ·rw [any_none _ (fun y hy => by rw [List.mem_singleton.1 hy, hx]; decide)]; simp [hk]
  ·rw [any_none _ (fun y hy => by rw [List.mem_singleton.1 hy]; show (3 : Int) ≠ 1; decide)]; simp [hk]
  ·rw [any_none _ (fun y hy => by rw [bytP_kind hy]; decide)]; simp [hk]
theorem ItsOf.append {is js : List ItP} {ps qs : List PartZ} (h : ItsOf is ps) (g : ItsOf js qs) : ItsOf (is ++ js) (ps ++ qs) := by
 induction h with
 | nil => exact g
 | cons hi ht ih => rw [List.cons_append, List.append_assoc]; exact .cons hi ih
theorem ItsOf.snoc {is : List ItP} {i : ItP} {ps qs : List PartZ} (h : ItsOf is ps) (g : ItOf i qs) : ItsOf (is ++ [i]) (ps ++ qs) := by
 refine h.append ?_
 have := ItsOf.cons g .nil
 rwa [List.append_nil] at this
theorem lay_bytes (all qs : List PartZ) : ∀ (ms : List Int) (bs : List Nat) (pre : List PartZ) (p : Prog), ms.length = bs.length →
  layF all pre (bytP ms bs ++ qs) p = match badByte ms (atsI bs) with | some a => .bad a.toNat 8 | none => layF all (pre ++ bytP ms bs) qs { p with data := p.data ++ ms } := by
 intro ms
 induction ms with
 | nil =>
  intro bs pre p h
  have : bs = [] := List.eq_nil_of_length_eq_zero (by simpa using h.symm)
  subst this
  show layF all pre qs p = layF all (pre ++ []) qs { p with data := p.data ++ [] }
  simp
 | cons m ms ih =>
  intro bs pre p h
  cases bs with
  | nil => simp at h
  | cons a bs =>
   rw [bytP_cons, List.cons_append]
   show (if (4 : Int) = 1 then _ else if (4 : Int) = 3 then _ else if (4 : Int) = 4 then (if m < 0 ∨ 255 < m then AsmR.bad a 8 else layF all (pre ++ [⟨4, a, m, [], ins0, tok0⟩]) (bytP ms bs ++ qs) { p with data := p.data ++ [m] }) else _) = _
   rw [if_neg (by decide), if_neg (by decide), if_pos rfl]
   have eb : badByte (m :: ms) (atsI (a :: bs)) = if m < 0 ∨ 255 < m then some (a : Int) else badByte ms (atsI bs) := rfl
   rw [eb]
   by_cases hm : m < 0 ∨ 255 < m
   ·rw [if_pos hm, if_pos hm]; rfl
   ·rw [if_neg hm, if_neg hm, ih bs _ _ (by simpa using h)]
    have e1 : pre ++ [⟨4, a, m, [], ins0, tok0⟩] ++ bytP ms bs = pre ++ (⟨4, a, m, [], ins0, tok0⟩ :: bytP ms bs) := by simp
    have e2 : p.data ++ [m] ++ ms = p.data ++ m :: ms := by simp
    simp only [e1, e2]
theorem lay_sim {all : List ItP} {parts : List PartZ} (hA : ItsOf all parts) : ∀ {xs : List ItP} {ps : List PartZ}, ItsOf xs ps → ∀ (pre : List ItP) (preP : List PartZ) (p : Prog), ItsOf pre preP → layP all pre xs p = layF parts preP ps p := by
 intro xs ps h
 induction h with
 | nil => intro pre preP p _; rfl
 | @cons i is ps qs hi ht ih =>
  intro pre preP p hp
  have hsn := hp.snoc hi
  rcases hi with ⟨hk, a, ha, rfl⟩ | ⟨hk, x, rfl, hx, hat, hin, hu⟩ | ⟨hk, a, k, rfl, hnum⟩ | ⟨hk, ms, bs, rfl, hl, hms, hbs⟩
  ·show (if i.kind = 1 then _ else _) = (if (1 : Int) = 1 then (if hasL i.label preP = true then AsmR.bad a 6 else layF parts (preP ++ [⟨1, a, 0, i.label, ins0, tok0⟩]) qs p) else _)
   rw [if_pos hk, if_pos rfl, has_of hp]
   have e : i.at_.toNat = a := by omega
   rw [e, ih _ _ _ hsn]
  ·have hP := place_of hA x.target.text 0
   have e : i.at_.toNat = x.at_ := by omega
   have eR : layF parts preP ([x] ++ qs) p = (match aimZ parts x p.code.length with
    | none => .bad x.target.at_ 6
    | some j => if rightB j = true then layF parts (preP ++ [x]) qs { p with code := p.code ++ [j] } else .bad x.at_ 8) := by
    show (if x.kind = 1 then _ else if x.kind = 3 then _ else if x.kind = 4 then _ else if x.kind = 2 then _ else _) = _
    rw [if_neg (by rw [hx]; decide), if_neg (by rw [hx]; decide), if_neg (by rw [hx]; decide), if_pos hx]
    rfl
   rw [eR]
   show (if i.kind = 1 then _ else if i.kind = 2 then _ else _) = _
   rw [if_neg (by rw [hk]; decide), if_pos hk]
   unfold aimZ
   by_cases ht1 : x.target.kind = 1
   ·obtain ⟨g1, g2, g3⟩ := hu.1 ht1
    rw [if_pos ht1, if_neg (by rw [g1]; exact g3), g1]
    have e0 : placeF x.target.text parts 0 = if placeP x.target.text all 0 < 0 then none else some (placeP x.target.text all 0) := hP
    rw [e0]
    by_cases hlt : placeP x.target.text all 0 < 0
    ·rw [if_pos hlt, if_pos hlt]
     have : i.useAt.toNat = x.target.at_ := by omega
     rw [this]
    ·rw [if_neg hlt, if_neg hlt]
     simp only
     rw [hin, e, ih _ _ _ hsn]
   ·have g1 := hu.2 ht1
    rw [if_neg ht1, if_pos g1]
    simp only
    rw [hin, e, ih _ _ _ hsn]
  ·show (if i.kind = 1 then _ else if i.kind = 2 then _ else if i.kind = 3 then _ else if i.kind = 4 then _ else _) = (if (3 : Int) = 1 then _ else if (3 : Int) = 3 then layF parts (preP ++ [⟨3, a, k, [], ins0, tok0⟩]) qs { p with size := k } else _)
   rw [if_neg (by rw [hk]; decide), if_neg (by rw [hk]; decide), if_neg (by rw [hk]; decide), if_pos hk, if_neg (by decide), if_pos rfl, hnum]
   exact ih _ _ _ hsn
  ·rw [lay_bytes parts qs ms bs preP p hl]
   show (if i.kind = 1 then _ else if i.kind = 2 then _ else if i.kind = 3 then _ else _) = _
   rw [if_neg (by rw [hk]; decide), if_neg (by rw [hk]; decide), if_pos hk, hms, hbs]
   cases badByte ms (atsI bs) with
   | some a => rfl
   | none => exact ih _ _ _ hsn
end Go.Proofs.YtcaibahniheohaaDoor.Words

/- What the document's own Asm is, by its items: what asm.Read is. Nothing here speaks of one program text. -/
namespace Go.Proofs.YtcaibahniheohaaDoor.Words
set_option maxRecDepth 100000
open Go.RowKit Go.Shelf Go.Lib
set_option linter.unusedVariables false
theorem toks_ok {l : List UInt8} {T : List Tok} (h : lexZ l = .toks T) : ToksOk T := by
 refine ⟨fun t ht k hk => reg_name h t ht (by rw [hk]; simp), fun t ht _ => ?_⟩
 obtain ⟨i, hi⟩ := List.mem_iff_getElem?.1 ht
 exact (lex_good h i t hi).some_
def itemsT (T : List Tok) (E : Nat) : List ItP × Nat × Int := itemsG T E (T.length + 1) 0 (-1)
theorem asm_items {l : List UInt8} {T : List Tok} (h : lexZ l = .toks T) :
  asmZ l = if 0 ≤ (itemsT T l.length).2.2 then .bad (itemsT T l.length).2.2.toNat 5 else endZ (layP (itemsT T l.length).1 [] (itemsT T l.length).1 ⟨[], 0, []⟩) := by
 have hs := items_sim (E := l.length) (toks_ok h) (T.length + 1) 0 (-1) (by omega) (by omega)
 unfold ItemsOk at hs
 rw [List.drop_zero] at hs
 unfold asmZ
 rw [h]
 show partsZ l.length (textT T) = _
 unfold partsZ
 unfold itemsT
 by_cases ht : (textT T).1 = true
 ·rw [if_pos ht] at hs ⊢
  rw [if_neg (by omega), lay_sim hs.2 hs.2 [] [] _ .nil]
 ·rw [if_neg ht] at hs ⊢
  rw [hs, if_pos (by omega)]
  rfl
end Go.Proofs.YtcaibahniheohaaDoor.Words

/- Items in memory and as plain data, for the document's own Asm. -/
namespace Go.Proofs.YtcaibahniheohaaDoor.Words
set_option maxRecDepth 100000
open Go.RowKit Go.Shelf Go.Lib
set_option linter.unusedVariables false
theorem place_eq (s : List UInt8) : ∀ (its : List It) (ps : List ItP), its.length = ps.length → (∀ (k : Nat) (z : It) (p : ItP), its[k]? = some z → ps[k]? = some p → z.kind = p.kind ∧ z.label = p.label) → ∀ n, placeG s its n = placeP s ps n
 | [], [], _, _, n => rfl
 | [], p :: ps, h, _, _ => by simp at h
 | z :: its, [], h, _, _ => by simp at h
 | z :: its, p :: ps, h, hk, n => by
  obtain ⟨h1, h2⟩ := hk 0 z p rfl rfl
  have ih := fun m => place_eq s its ps (by simpa using h) (fun k z p hz hp => hk (k + 1) z p (by simpa using hz) (by simpa using hp)) m
  show (if z.kind = 1 ∧ z.label = s then (n : Int) else placeG s its (if z.kind = 2 then n + 1 else n)) = (if p.kind = 1 ∧ p.label = s then (n : Int) else placeP s ps (if p.kind = 2 then n + 1 else n))
  rw [h1, h2, ih]
theorem ItsOf.each {is : List ItP} {ps : List PartZ} (h : ItsOf is ps) : ∀ x ∈ is, ∃ qs, ItOf x qs := by
 induction h with
 | nil => intro x hx; cases hx
 | cons hi ht ih =>
  intro x hx
  rcases List.mem_cons.1 hx with rfl | hx
  ·exact ⟨_, hi⟩
  ·exact ih x hx
theorem items_each {l : List UInt8} {T : List Tok} (h : lexZ l = .toks T) (hb : (itemsT T l.length).2.2 < 0) : ∀ x ∈ (itemsT T l.length).1, ∃ qs, ItOf x qs := by
 have hs := items_sim (E := l.length) (toks_ok h) (T.length + 1) 0 (-1) (by omega) (by omega)
 unfold ItemsOk at hs
 rw [List.drop_zero] at hs
 split at hs
 ·exact hs.2.each
 ·have : (itemsG T l.length (T.length + 1) 0 (-1)).2.2 < 0 := hb
  omega
theorem itemsG_len {T : List Tok} {E : Nat} : ∀ (f n : Nat) (bad : Int), (itemsG T E f n bad).1.length ≤ f := by
 intro f
 induction f with
 | zero => intro n bad; exact Nat.le_refl _
 | succ f ih =>
  intro n bad
  by_cases h : bad < 0 ∧ n < T.length
  ·rw [itemsG_roundM h]
   simp only [List.length_append]
   have := ih (roundG T E n bad).n (roundG T E n bad).bad
   have h2 : (roundG T E n bad).item.toList.length ≤ 1 := by cases (roundG T E n bad).item <;> simp
   omega
  ·rw [itemsG_stopM h]; exact Nat.zero_le _
theorem itemsT_len (T : List Tok) (E : Nat) : (itemsT T E).1.length ≤ T.length + 1 := itemsG_len _ _ _
def dl (x : ItP) : Nat := if x.kind = 3 then x.nums.length else 0
def dls : List ItP → Nat
 | [] => 0
 | x :: xs => dl x + dls xs
theorem dls_le {is : List ItP} {ps : List PartZ} (h : ItsOf is ps) : dls is ≤ ps.length := by
 induction h with
 | nil => exact Nat.le_refl _
 | @cons i is ps qs hi ht ih =>
  rw [List.length_append]
  show dl i + dls is ≤ _
  have : dl i ≤ ps.length := by
   rcases hi with ⟨hk, a, ha, rfl⟩ | ⟨hk, x, rfl, hx, _⟩ | ⟨hk, a, k, rfl, _⟩ | ⟨hk, ms, bs, rfl, hl, hms, _⟩
   ·unfold dl; rw [hk]; simp
   ·unfold dl; rw [hk]; simp
   ·unfold dl; rw [hk]; simp
   ·unfold dl; rw [hk, if_pos rfl, hms]
    unfold bytP
    rw [List.length_map, List.length_zip]; omega
  omega
theorem dls_at {xs : List ItP} {k : Nat} {x : ItP} (h : xs[k]? = some x) : dls (xs.drop k) = dl x + dls (xs.drop (k + 1)) := by
 obtain ⟨hlt, he⟩ := List.getElem?_eq_some_iff.1 h
 rw [List.drop_eq_getElem_cons hlt, he]; rfl
theorem items_few {l : List UInt8} {T : List Tok} (h : lexZ l = .toks T) (hb : (itemsT T l.length).2.2 < 0) : dls (itemsT T l.length).1 ≤ T.length := by
 have hs := items_sim (E := l.length) (toks_ok h) (T.length + 1) 0 (-1) (by omega) (by omega)
 unfold ItemsOk at hs
 rw [List.drop_zero] at hs
 split at hs
 ·have h1 := dls_le hs.2
  have h2 := textF_len T.length T
  have h3 : (textT T).2.2 = (textF T.length T).2.2 := rfl
  rw [h3] at h1
  have h4 : dls (itemsT T l.length).1 ≤ (textF T.length T).2.2.length := h1
  omega
 ·have : (itemsG T l.length (T.length + 1) 0 (-1)).2.2 < 0 := hb
  omega
theorem layP_at {all xs : List ItP} {k : Nat} {x : ItP} (h : xs[k]? = some x) (p : Prog) : layP all (xs.take k) (xs.drop k) p =
  if x.kind = 1 then (if hasP x.label (xs.take k) = true then .bad x.at_.toNat 6 else layP all (xs.take (k + 1)) (xs.drop (k + 1)) p)
  else if x.kind = 2 then
   (if x.use = [] then (if rightB x.ins = true then layP all (xs.take (k + 1)) (xs.drop (k + 1)) { p with code := p.code ++ [x.ins] } else .bad x.at_.toNat 8)
    else if placeP x.use all 0 < 0 then .bad x.useAt.toNat 6
    else (if rightB { x.ins with imm := placeP x.use all 0 - p.code.length } = true then layP all (xs.take (k + 1)) (xs.drop (k + 1)) { p with code := p.code ++ [{ x.ins with imm := placeP x.use all 0 - p.code.length }] } else .bad x.at_.toNat 8))
  else if x.kind = 3 then (match badByte x.nums x.ats with | some a => .bad a.toNat 8 | none => layP all (xs.take (k + 1)) (xs.drop (k + 1)) { p with data := p.data ++ x.nums })
  else if x.kind = 4 then layP all (xs.take (k + 1)) (xs.drop (k + 1)) { p with size := x.nums.getD 0 0 }
  else layP all (xs.take (k + 1)) (xs.drop (k + 1)) p := by
 obtain ⟨hlt, he⟩ := List.getElem?_eq_some_iff.1 h
 rw [List.drop_eq_getElem_cons hlt, he]
 have et : xs.take (k + 1) = xs.take k ++ [x] := by rw [List.take_add_one, h]; rfl
 rw [et]
 rfl
end Go.Proofs.YtcaibahniheohaaDoor.Words

/- The document's own items: what stands while bytes are read. -/
namespace Go.Proofs.YtcaibahniheohaaDoor.Words
set_option maxRecDepth 100000
open Go.RowKit Go.Shelf Go.Lib
set_option linter.unusedVariables false
structure ByS (b c : Nat) (A : Option Addr) (T : List Tok) (E bx kq B : Nat) (a0 : Int) (wr Z : World) (p : Nat) (bd : Int) (k : Tok) (v1 v2 : Value) (ns as_ : List Int) : Prop where
 rd : Rd Z b A c T E p bd
 it : Box Z bx (itL ⟨3, a0, [], ins0, [], 0, v1, v2⟩)
 tok : Box Z kq [.int .i64 k.kind, .int .i64 k.num, .int .i64 (k.at_ : Int), .string (txt k.text)]
 o1 : Z.ownsRow B 3 1 v1 ns.length (intL ns)
 o2 : Z.ownsRow B 3 1 v2 as_.length (intL as_)
 ne : ∀ g, v1.ownBlock = some g → v2.ownBlock ≠ some g
 keep : KeepS (fun j => j = b) wr Z
 hb : b < bx
 hx : bx < kq
 hk : kq < B
 hw : wr.heap.size ≤ bx
 hB : B ≤ Z.heap.size
section
variable {b c E bx kq B : Nat} {A : Option Addr} {T : List Tok} {a0 : Int} {wr Z Y : World} {p : Nat} {bd : Int} {k : Tok} {v1 v2 : Value} {ns as_ : List Int}
theorem ByS.kept (h : ByS b c A T E bx kq B a0 wr Z p bd k v1 v2 ns as_) {S : Nat → Prop} (hS : KeepS S Z Y) (hs : ∀ j, S j → Z.heap.size ≤ j) : ByS b c A T E bx kq B a0 wr Y p bd k v1 v2 ns as_ := by
 have h1 := h.hb; have h2 := h.hx; have h3 := h.hk; have h4 := h.hB; have h5 := h.hw
 exact ⟨h.rd.keepS hS (fun j e => by have := hs j e; omega), h.it.keepS hS (fun e => by have := hs _ e; omega), h.tok.keepS hS (fun e => by have := hs _ e; omega),
  own_keepS h.o1 hS (fun g hg e => by have := (h.o1.lt g hg).2; have := hs _ e; omega), own_keepS h.o2 hS (fun g hg e => by have := (h.o2.lt g hg).2; have := hs _ e; omega), h.ne,
  h.keep.newer (hS.mono (fun j e => by have := hs j e; omega)), h.hb, h.hx, h.hk, h.hw, Nat.le_trans h.hB hS.size⟩
theorem ByS.rdo (h : ByS b c A T E bx kq B a0 wr Z p bd k v1 v2 ns as_) {m : Nat} {bad : Int} (g : RdOut b c A T E m bad Z Y) : ByS b c A T E bx kq B a0 wr Y m bad k v1 v2 ns as_ := by
 have h1 := h.hb; have h2 := h.hx; have h3 := h.hk; have h4 := h.hB
 exact ⟨g.1, h.it.keepS g.2 (fun e => by omega), h.tok.keepS g.2 (fun e => by omega), own_keepS h.o1 g.2 (fun q hq e => by have := (h.o1.lt q hq).1; omega), own_keepS h.o2 g.2 (fun q hq e => by have := (h.o2.lt q hq).1; omega), h.ne,
  h.keep.trans g.2, h.hb, h.hx, h.hk, h.hw, Nat.le_trans h.hB g.2.size⟩
theorem ByS.tokTo (h : ByS b c A T E bx kq B a0 wr Z p bd k v1 v2 ns as_) (k' : Tok) : ByS b c A T E bx kq B a0 wr ((((Z.setCell ⟨kq, 0, none⟩ (.int .i64 k'.kind)).setCell ⟨kq, 1, none⟩ (.int .i64 k'.num)).setCell ⟨kq, 2, none⟩ (.int .i64 (k'.at_ : Int))).setCell ⟨kq, 3, none⟩ (.string (txt k'.text))) p bd k' v1 v2 ns as_ := by
 have h1 := h.hb; have h2 := h.hx; have h3 := h.hk; have h4 := h.hB; have h5 := h.hw
 obtain ⟨q1, q2⟩ := box_set4 (v0 := .int .i64 k'.kind) (v1 := .int .i64 k'.num) (v2 := .int .i64 (k'.at_ : Int)) (v3 := .string (txt k'.text)) h.tok
 exact ⟨h.rd.keepS q2 (fun j e => by omega), h.it.keepS q2 (fun e => by omega), q1, own_keepS h.o1 q2 (fun g hg e => by have := (h.o1.lt g hg).1; omega), own_keepS h.o2 q2 (fun g hg e => by have := (h.o2.lt g hg).1; omega), h.ne,
  h.keep.newer (q2.mono (fun j e => by omega)), h.hb, h.hx, h.hk, h.hw, Nat.le_trans h.hB q2.size⟩
theorem ByS.app1 (h : ByS b c A T E bx kq B a0 wr Z p bd k v1 v2 ns as_) {o : Obj} {v' : Value} {x : Int} (hO : Y.ownsRow B 3 1 v' (ns.length + 1) (intL ns ++ [.int .i64 x])) (hg : (Z.alloc o).grownBy Y v1.ownBlock)
  (hn : ∀ g, v'.ownBlock = some g → v1.ownBlock = some g ∨ (Z.alloc o).heap.size ≤ g) : ByS b c A T E bx kq B a0 wr (Y.setCell ⟨bx, 10, none⟩ v') p bd k v' v2 (ns ++ [x]) as_ := by
 have h1 := h.hb; have h2 := h.hx; have h3 := h.hk; have h4 := h.hB; have h5 := h.hw
 have ka : KeepS (fun j => Z.heap.size ≤ j) Z (Z.alloc o) := (KeepS.refl _ Z).alloc o
 have ha := h.kept ka (fun _ e => e)
 have kg : KeepS (fun j => B ≤ j) (Z.alloc o) Y := KeepS.of_grown hg (fun g e => (h.o1.lt g e).1)
 have kb : KeepS (fun j => j = bx) Y (Y.setCell ⟨bx, 10, none⟩ v') := (KeepS.refl (fun j => j = bx) Y).setCell rfl 10 _
 have hne' : v'.ownBlock ≠ some bx := fun e => by have := (hO.lt _ e).1; omega
 have hne2 : v2.ownBlock ≠ some bx := fun e => by have := (h.o2.lt _ e).1; omega
 have o2g : Y.ownsRow B 3 1 v2 as_.length (intL as_) := own_grown ha.o2 hg (fun g hg2 e => h.ne g e.symm hg2)
 refine ⟨(ha.rd.keepS kg (fun j e => by omega)).keepS kb (fun j e => by omega), ?_, (ha.tok.keepS kg (fun e => by omega)).keepS kb (fun e => by omega), ?_, ownsRow_setCell_other o2g hne2 _, ?_, ?_, h1, h2, h3, h5, ?_⟩
 ·exact (ha.it.keepS kg (fun e => by omega)).setCell 10 v'
 ·rw [List.length_append, show intL (ns ++ [x]) = intL ns ++ [.int .i64 x] by simp [intL]]
  exact ownsRow_setCell_other hO hne' _
 ·intro g hg1 hg2
  rcases hn g hg1 with e | e
  ·exact h.ne g e hg2
  ·have := (h.o2.lt g hg2).2
   have hs := ka.size
   omega
 ·exact ((ha.keep.newer (kg.mono (fun j e => by omega))).newer (kb.mono (fun j e => by omega)))
 ·exact Nat.le_trans (Nat.le_trans ha.hB kg.size) kb.size
theorem ByS.app2 (h : ByS b c A T E bx kq B a0 wr Z p bd k v1 v2 ns as_) {o : Obj} {v' : Value} {x : Int} (hO : Y.ownsRow B 3 1 v' (as_.length + 1) (intL as_ ++ [.int .i64 x])) (hg : (Z.alloc o).grownBy Y v2.ownBlock)
  (hn : ∀ g, v'.ownBlock = some g → v2.ownBlock = some g ∨ (Z.alloc o).heap.size ≤ g) : ByS b c A T E bx kq B a0 wr (Y.setCell ⟨bx, 11, none⟩ v') p bd k v1 v' ns (as_ ++ [x]) := by
 have h1 := h.hb; have h2 := h.hx; have h3 := h.hk; have h4 := h.hB; have h5 := h.hw
 have ka : KeepS (fun j => Z.heap.size ≤ j) Z (Z.alloc o) := (KeepS.refl _ Z).alloc o
 have ha := h.kept ka (fun _ e => e)
 have kg : KeepS (fun j => B ≤ j) (Z.alloc o) Y := KeepS.of_grown hg (fun g e => (h.o2.lt g e).1)
 have kb : KeepS (fun j => j = bx) Y (Y.setCell ⟨bx, 11, none⟩ v') := (KeepS.refl (fun j => j = bx) Y).setCell rfl 11 _
 have hne' : v'.ownBlock ≠ some bx := fun e => by have := (hO.lt _ e).1; omega
 have hne1 : v1.ownBlock ≠ some bx := fun e => by have := (h.o1.lt _ e).1; omega
 have o1g : Y.ownsRow B 3 1 v1 ns.length (intL ns) := own_grown ha.o1 hg (fun g hg1 e => h.ne g hg1 e.symm)
 refine ⟨(ha.rd.keepS kg (fun j e => by omega)).keepS kb (fun j e => by omega), ?_, (ha.tok.keepS kg (fun e => by omega)).keepS kb (fun e => by omega), ownsRow_setCell_other o1g hne1 _, ?_, ?_, ?_, h1, h2, h3, h5, ?_⟩
 ·exact (ha.it.keepS kg (fun e => by omega)).setCell 11 v'
 ·rw [List.length_append, show intL (as_ ++ [x]) = intL as_ ++ [.int .i64 x] by simp [intL]]
  exact ownsRow_setCell_other hO hne' _
 ·intro g hg1 hg2
  rcases hn g hg2 with e | e
  ·exact h.ne g hg1 e
  ·have := (h.o1.lt g hg1).2
   have hs := ka.size
   omega
 ·exact ((ha.keep.newer (kg.mono (fun j e => by omega))).newer (kb.mono (fun j e => by omega)))
 ·exact Nat.le_trans (Nat.le_trans ha.hB kg.size) kb.size
end
end Go.Proofs.YtcaibahniheohaaDoor.Words

/- The document's own items: the walk of its rounds. -/
namespace Go.Proofs.YtcaibahniheohaaDoor.Words
set_option maxRecDepth 100000
open Go.RowKit Go.Shelf Go.Lib
set_option linter.unusedVariables false
set_option linter.unusedSimpArgs false
theorem itemsG_stop {T : List Tok} {E f n : Nat} {bad : Int} (h : ¬ (bad < 0 ∧ n < T.length)) : itemsG T E f n bad = ([], n, bad) := by
 cases f with
 | zero => rfl
 | succ f => show (if bad < 0 ∧ n < T.length then _ else _) = _; rw [if_neg h]
theorem itemsG_round {T : List Tok} {E f n : Nat} {bad : Int} (h : bad < 0 ∧ n < T.length) :
  itemsG T E (f + 1) n bad = ((roundG T E n bad).item.toList ++ (itemsG T E f (roundG T E n bad).n (roundG T E n bad).bad).1, (itemsG T E f (roundG T E n bad).n (roundG T E n bad).bad).2) := by
 show (if bad < 0 ∧ n < T.length then _ else _) = _
 rw [if_pos h]
abbrev it0 (a : Int) : It := ⟨0, a, [], ins0, [], 0, .slice none 0 0, .slice none 0 0⟩
theorem info_item : (Tryd.prog.info? 68).map (fun i => (i.zero, i.size, i.bytes)) = some (some (.agg #[.int .i64 0, .int .i64 0, .string ⟨#[]⟩, .int .i64 0, .int .i64 0, .int .i64 0, .int .i64 0, .int .i64 0, .string ⟨#[]⟩, .int .i64 0, .slice none 0 0, .slice none 0 0]), 12, 144) := by kernel_rfl
theorem new_cells_atI (w : World) (g : Nat) (hg : g = w.heap.size) (cs : Array Value) (t : TypeId) (xs : List Value) (h : cs.toList = xs) : ∀ j u, xs[j]? = some u → (w.alloc (.cells cs t)).cell? ((⟨g, 0, none⟩ : Addr).add j) = some u := by
 subst hg; exact new_cells w cs t xs h
theorem own_oneI {w : World} {B s n : Nat} {e : TypeId} {v : Value} {xs : List Value} (h : w.ownsRow B e s v n xs) : v.oneCell' = true := by
 rcases h.2 with ⟨rfl, _⟩ | ⟨g, cap, cur, rfl, _⟩ <;> rfl
theorem itL_one {w : World} {B : Nat} {z : It} {q : ItP} (h : ItV w B z q) : ∀ u ∈ itL z, u.oneCell' = true := by
 have h1 := own_oneI h.2.1
 have h2 := own_oneI h.2.2
 intro u hu
 simp only [itL, List.mem_cons, List.not_mem_nil, or_false] at hu
 rcases hu with rfl | rfl | rfl | rfl | rfl | rfl | rfl | rfl | rfl | rfl | rfl | rfl <;> first | rfl | exact h1 | exact h2
theorem quietI {P : Program} {f : FuncId} {args : Array Value} {w : World} {n : Nat} {v : Value} (h : Calls P f args (w.drewN n) fun e w' => e = .returned v ∧ ∃ m, w' = (w.drewN n).drewN m) :
  Calls P f args (w.drewN n) fun e w'' => e = .returned v ∧ ∃ m, w'' = w.drewN m := h.mono fun _ _ ⟨he, m, hm⟩ => ⟨he, n + m, by rw [hm, World.drewN_drewN]⟩
theorem info_intI : (Tryd.prog.info? 3).map (fun i => (i.zero, i.size, i.bytes)) = some (some (.int .i64 0), 1, 8) := by kernel_rfl
theorem intL_one1 (x : Int) : ∀ u ∈ [Value.int .i64 x], u.oneCell' = true := by
 intro u hu
 simp only [List.mem_cons, List.not_mem_nil, or_false] at hu
 subst hu; rfl
theorem row_newI (w : World) (t : TypeId) (u : Value) {g : Nat} (hg : g = w.heap.size) : Row (w.alloc (.cells #[u] t)) (w.heap.size + 1) 1 (.slice (some ⟨g, 0, none⟩) 1 1) 1 [u] := by
 subst hg
 refine ⟨rfl, _, _, rfl, Nat.le_refl _, by omega, (fun h => by cases h), fun _ => ⟨w.heap.size, 0, rfl, Nat.lt_succ_self _, fun j x hx => ?_⟩⟩
 have := new_cells w #[u] t [u] rfl j x hx
 rwa [add_spot] at this
structure AtApp (b c : Nat) (A : Option Addr) (T : List Tok) (E : Nat) (bx : Nat) (wr X : World) (p : Nat) (bad : Int) (z : It) (q : ItP) : Prop where
 rd : Rd X b A c T E p bad
 it : Box X bx (itL z)
 val : ItV X (b + 1) z q
 keep : KeepS (fun j => j = b) wr X
theorem AtApp.app {b c bx E p : Nat} {A : Option Addr} {T : List Tok} {wr X Y : World} {bad : Int} {z : It} {q : ItP} {A3 : Option Addr} {c3 : Nat} {ps : List ItP} {v3 : Value} {o : Obj} {its : List It} (h : AtApp b c A T E bx wr X p bad z q)
  (q1 : X.ownsRow (b + 1) 68 12 (.slice A3 ps.length c3) its.length (itsL its)) (q2 : its.length = ps.length) (q3 : ∀ (k : Nat) (z : It) (p : ItP), its[k]? = some z → ps[k]? = some p → ItV X (b + 1) z p)
  (hO : Y.ownsRow (b + 1) 68 12 v3 (its.length + 1) (itsL its ++ itL z)) (hg : (X.alloc o).grownBy Y (Value.slice A3 ps.length c3).ownBlock) :
  Rd Y b A c T E p bad ∧ ItsV Y (b + 1) v3 (ps ++ [q]) ∧ KeepS (fun j => b ≤ j) wr Y := by
 have ka : KeepS (fun _ => False) X (X.alloc o) := (KeepS.refl _ X).alloc o
 have kg : KeepS (fun j => b < j) (X.alloc o) Y := KeepS.of_grown hg (fun k hk => by have := (q1.lt k hk).1; omega)
 have val : ∀ {z : It} {p : ItP}, ItV X (b + 1) z p → ItV (X.alloc o) (b + 1) z p := fun hv => ⟨hv.1, hv.2.1.alloc o, hv.2.2.alloc o⟩
 refine ⟨(h.rd.keepS ka (fun _ e => e.elim)).keepS kg (fun _ e => e), ItsV.app (q1.alloc o) q2 (fun k z p hz hp => val (q3 k z p hz hp)) (val h.val) hg hO, ?_⟩
 exact ((h.keep.mono (fun j e => Nat.le_of_eq e.symm)).trans (ka.mono (fun _ e => e.elim))).trans (kg.mono (fun j e => Nat.le_of_lt e))
theorem onway_keep {b c bx E : Nat} {A : Option Addr} {T : List Tok} {s : RdS} {wr w x : World} (h : OnWay b c A T E bx s w x) (k : KeepS (fun j => j = b) wr w) (hb : wr.heap.size ≤ bx) : KeepS (fun j => j = b) wr x :=
 ⟨h.keep.os.trans k.os, h.keep.tape.trans k.tape, h.keep.output.trans k.output, Nat.le_trans k.size h.keep.size, fun j hj hn => (h.keep.block j (Nat.lt_of_lt_of_le hj k.size) (fun e => by rcases e with e | e; exact hn e; omega)).trans (k.block j hj hn)⟩
set_option maxHeartbeats 32000000 in
theorem refItems_any (b c : Nat) (A : Option Addr) (T : List Tok) (E : Nat) (w : World) (h : Rd w b A c T E 0 (-1)) :
  Calls Tryd.prog 22 #[.pointer (some ⟨b, 0, none⟩)] w fun e w' => ∃ v, e = .returned v ∧ ItsV w' (b + 1) v (itemsG T E (T.length + 1) 0 (-1)).1 ∧
   Rd w' b A c T E (itemsG T E (T.length + 1) 0 (-1)).2.1 (itemsG T E (T.length + 1) 0 (-1)).2.2 ∧ Below b w w' := by
 have HR := Lib.hid h
 have hT := h.2.2.2
 have HT := Lib.hid hT
 obtain ⟨i0, hi0, hz0, hz1, hz2⟩ := info_parts info_item
 have HII := Lib.hid hi0
 have HZ0 := Lib.hid hz0
 have HZ1 := Lib.hid hz1
 have HZ2 := Lib.hid hz2
 clear hi0 hz0 hz1 hz2
 clear h hT
 go_enter Tryd.func22, Tryd.ntmps22
 go_wp2_with fail
 go_loopw [3] (fun v wr => ∃ (n f : Nat) (bad : Int) (ps : List ItP), Rd wr b A c T E n bad ∧ ItsV wr (b + 1) v ps ∧ Below b w wr ∧ (bad < 0 → T.length + 1 ≤ n + f) ∧ ps.length + f ≤ T.length + 1 ∧
  (itemsG T E (T.length + 1) 0 (-1)) = (ps ++ (itemsG T E f n bad).1, (itemsG T E f n bad).2)) (fun _ wr => match wr.cell? ⟨b, 2, none⟩, wr.cell? ⟨b, 3, none⟩ with | some (.int _ n), some (.int _ bad) => if bad < 0 then 1 + (T.length - n.toNat) else 0 | _, _ => 0)
 case atStart => exact ⟨0, T.length + 1, -1, [], HR.out, ItsV.nil _ _, Below.refl _ _, fun _ => by omega, by simp, rfl⟩
 case round =>
  obtain ⟨n, f, bad, ps, hr, hi, hb, hf, hpf, hq⟩ := hrel
  have HPF := Lib.hid hpf
  clear hpf
  have HRr := Lib.hid hr
  have HI := Lib.hid hi
  have HB := Lib.hid hb
  have HQ := Lib.hid hq
  obtain ⟨A3, c3', rfl⟩ := hi.form
  have c0 := hr.1.cell (k := 0) rfl
  have c2 := hr.1.cell (k := 2) rfl
  have c3 := hr.1.cell (k := 3) rfl
  have hnT := hr.2.2.1
  have hTT := HT.out
  by_cases hgo : bad < 0 ∧ n < T.length
  ·obtain ⟨hbad, hlt⟩ := hgo
   obtain ⟨f, rfl⟩ : ∃ f', f = f' + 1 := ⟨f - 1, by have := hf hbad; omega⟩
   have hqr := itemsG_round (E := E) (f := f) (T := T) (n := n) (bad := bad) ⟨hbad, hlt⟩
   rw [hqr, ← List.append_assoc] at hq
   have HQ3 := Lib.hid hq
   have HF := Lib.hid (hf hbad)
   have HLT := Lib.hid hlt
   have HTLEN := Lib.hid hTT
   have HBAD := Lib.hid hbad
   have C2 := Lib.hid c2
   have C3 := Lib.hid c3
   have g1 : decide (bad < 0) = true := decide_eq_true hbad
   have g2 : decide ((n : Int) < (T.length : Int)) = true := decide_eq_true (by omega)
   have g2' : decide (n < T.length) = true := decide_eq_true hlt
   have n0 : (0 : Int) ≤ n := by omega
   have n1 : (n : Int) < T.length := by omega
   have nT : (T.length : Int) ≤ 1000000 := by omega
   clear hr hi hb hf hq hbad hlt hnT hTT HQ hqr
   cases hl4 : isQ T n bad 4 []
   ·go_wp2_with fail
    go_quiet (fail)
    go_wp2_with fail
    refine (refIs_any b c A T E n bad 4 [] _ (HRr.out.go (Below.drewN_ (Below.refl _ wr) _))).mono ?_
    rintro e w1 ⟨rfl, m, hw1⟩
    rw [hl4]
    have RY := Lib.hid (show Rd w1 b A c T E n bad by rw [hw1]; exact HRr.out.go (Below.drewN_ (Below.drewN_ (Below.refl _ wr) _) _))
    have KY := Lib.hid (show KeepS (fun j => j = b) wr w1 by rw [hw1]; exact ((KeepS.refl _ _).drewN _).drewN _)
    have HL4 := Lib.hid hl4
    clear hw1 c0 c2 c3 hl4
    go_wp2_with fail
    refine (refTake_any b c A T E n bad 1 [] _ RY.out).mono ?_
    rintro e w2 ⟨rfl, g2x⟩
    dsimp only [tokVal]
    obtain ⟨t, ht⟩ : ∃ t, t = takeTok T n bad 1 [] := ⟨_, rfl⟩
    obtain ⟨p1, hp1⟩ : ∃ p1, p1 = takeN T n bad 1 [] := ⟨_, rfl⟩
    obtain ⟨b1, hb1⟩ : ∃ b1, b1 = takeB T E n bad 1 [] := ⟨_, rfl⟩
    rw [← ht]
    rw [← hp1, ← hb1] at g2x
    have HTK := Lib.hid ht
    have HP1 := Lib.hid hp1
    have HB1 := Lib.hid hb1
    have R2 := Lib.hid g2x.1
    have K2 := Lib.hid (KY.out.trans g2x.2)
    clear ht hp1 hb1 g2x
    go_wp2_with fail
    have hws2 : ((w2.alloc (.cells #[.int .i64 t.kind, .int .i64 t.num, .int .i64 (t.at_ : Int), .string (txt t.text)] 48)).alloc (.cells #[.int .i64 0, .int .i64 (t.at_ : Int), .string ⟨#[]⟩, .int .i64 0, .int .i64 0, .int .i64 0, .int .i64 0, .int .i64 0, .string ⟨#[]⟩, .int .i64 0, .slice none 0 0, .slice none 0 0] 68)).heap.size = w2.heap.size + 2 := by simp
    have hbe : Below w2.heap.size w2 ((w2.alloc (.cells #[.int .i64 t.kind, .int .i64 t.num, .int .i64 (t.at_ : Int), .string (txt t.text)] 48)).alloc (.cells #[.int .i64 0, .int .i64 (t.at_ : Int), .string ⟨#[]⟩, .int .i64 0, .int .i64 0, .int .i64 0, .int .i64 0, .int .i64 0, .string ⟨#[]⟩, .int .i64 0, .slice none 0 0, .slice none 0 0] 68)) := ((Below.refl _ _).alloc (Nat.le_refl _) _).alloc (by simp) _
    have R3 := Lib.hid (R2.out.go hbe)
    have K3 := Lib.hid (K2.out.go hbe)
    have hy : Box ((w2.alloc (.cells #[.int .i64 t.kind, .int .i64 t.num, .int .i64 (t.at_ : Int), .string (txt t.text)] 48)).alloc (.cells #[.int .i64 0, .int .i64 (t.at_ : Int), .string ⟨#[]⟩, .int .i64 0, .int .i64 0, .int .i64 0, .int .i64 0, .int .i64 0, .string ⟨#[]⟩, .int .i64 0, .slice none 0 0, .slice none 0 0] 68)) w2.heap.size [.int .i64 t.kind, .int .i64 t.num, .int .i64 (t.at_ : Int), .string (txt t.text)] := (Box.new w2 _ _).alloc _
    have hx := Box.new (w2.alloc (.cells #[.int .i64 t.kind, .int .i64 t.num, .int .i64 (t.at_ : Int), .string (txt t.text)] 48)) (itL (it0 (t.at_ : Int))) 68
    rw [show (w2.alloc (.cells #[.int .i64 t.kind, .int .i64 t.num, .int .i64 (t.at_ : Int), .string (txt t.text)] 48)).heap.size = w2.heap.size + 1 by simp] at hx
    change Box ((w2.alloc (.cells #[.int .i64 t.kind, .int .i64 t.num, .int .i64 (t.at_ : Int), .string (txt t.text)] 48)).alloc (.cells #[.int .i64 0, .int .i64 (t.at_ : Int), .string ⟨#[]⟩, .int .i64 0, .int .i64 0, .int .i64 0, .int .i64 0, .int .i64 0, .string ⟨#[]⟩, .int .i64 0, .slice none 0 0, .slice none 0 0] 68)) (w2.heap.size + 1) (itL (it0 (t.at_ : Int))) at hx
    have Y3 := Lib.hid hy
    have X3 := Lib.hid hx
    have HWS2 := Lib.hid hws2
    have hbw : b < w2.heap.size := R2.out.lt
    have HBW := Lib.hid hbw
    clear hbe hy hx hws2 hbw
    generalize ((w2.alloc (.cells #[.int .i64 t.kind, .int .i64 t.num, .int .i64 (t.at_ : Int), .string (txt t.text)] 48)).alloc (.cells #[.int .i64 0, .int .i64 (t.at_ : Int), .string ⟨#[]⟩, .int .i64 0, .int .i64 0, .int .i64 0, .int .i64 0, .int .i64 0, .string ⟨#[]⟩, .int .i64 0, .slice none 0 0, .slice none 0 0] 68)) = X at *
    refine (refIs_any b c A T E p1 b1 3 [58] _ R3.out).mono ?_
    rintro e w3 ⟨rfl, m3, hw3⟩
    have R4 := Lib.hid (show Rd w3 b A c T E p1 b1 by rw [hw3]; exact R3.out.go (Below.drewN_ (Below.refl _ _) _))
    have K4 := Lib.hid (show KeepS (fun j => j = b) wr w3 by rw [hw3]; exact K3.out.drewN _)
    have Y4 := Lib.hid (show Box w3 w2.heap.size _ by rw [hw3]; exact Y3.out)
    have X4 := Lib.hid (show Box w3 (w2.heap.size + 1) (itL (it0 (t.at_ : Int))) by rw [hw3]; exact X3.out)
    have hsz3 : w3.heap.size = w2.heap.size + 2 := by rw [hw3]; exact HWS2.out
    have HSZ3 := Lib.hid hsz3
    clear hw3 hsz3
    cases hl58 : isQ T p1 b1 3 [58]
    ·have hrd0 : roundG T E n bad = endG T E (stmG T E p1 b1 t) := by
      unfold roundG
      rw [if_neg (by rw [HL4.out]; decide)]
      simp only
      rw [← HP1.out, ← HB1.out, ← HTK.out, if_neg (by rw [hl58]; decide)]
     have HRD0 := Lib.hid hrd0
     have hwb : wr.heap.size ≤ w2.heap.size + 1 := by have := K2.out.size; omega
     have HWB := Lib.hid hwb
     clear hrd0 hl58 hwb
     go_wp2_with fail
     refine (refNames_any _).mono ?_; rintro e w4 ⟨AN, cN, rfl, hRN, hbN⟩
     have R5 := Lib.hid (R4.out.go hbN)
     have K5 := Lib.hid (K4.out.go hbN)
     have Y5 := Lib.hid (Y4.out.below hbN Y4.out.lt)
     have X5 := Lib.hid (X4.out.below hbN X4.out.lt)
     obtain ⟨bn, on, rfl, _, hcn⟩ := hRN.at_ (by decide)
     have HCN := Lib.hid (fun (j : Nat) (h : j < 41) => hcn j _ (show namesL[j]? = some (.string (txt (namesZ.getD j []))) by
      unfold namesL
      rw [List.getElem?_map, List.getD_eq_getElem?_getD, List.getElem?_eq_getElem (show j < namesZ.length from h)]; rfl))
     clear hRN hbN hcn
     go_wp2_with fail
     have y3 := Y5.out.cell (k := 3) rfl
     go_loopw [6, 8] (fun o i wr2 => ∃ (j m : Nat), j ≤ 41 ∧ o = .int .i64 (opG t.text j) ∧ i = .int .i64 j ∧ wr2 = w4.drewN m) (fun _ i _ => 41 - (intOf i).toNat)
     case atStart => exact ⟨0, 0, by omega, rfl, rfl, rfl⟩
     case round =>
      obtain ⟨j, m, hj, rfl, rfl, rfl⟩ := hrel
      by_cases hlt : j < 41
      ·have cn := HCN.out j hlt
       have j0 : (0 : Int) ≤ j := by omega
       have j1 : (j : Int) < 41 := by omega
       have hop : opG t.text (j + 1) = if namesZ.getD j [] = t.text then ((j + 1 : Nat) : Int) else opG t.text j := rfl
       have HOP := Lib.hid hop
       clear hop
       by_cases hnm : namesZ.getD j [] = t.text
       ·have g5 : ((txt (namesZ.getD j [])).toList == (txt t.text).toList) = true := by rw [txt_eqQ]; exact decide_eq_true hnm
        have g6 : (namesZ.getD j [] == t.text) = true := by rw [beq_iff_eq]; exact hnm
        have HR1 := Lib.hid (show opG t.text (j + 1) = (j : Int) + 1 by rw [HOP.out, if_pos hnm]; simp)
        clear hnm
        generalize namesZ.getD j [] = nm at *
        generalize opG t.text j = oj at *
        go_wp2_with fail
        go_quiet (fail)
        go_wp2_with fail
        go_roundw
        case rel => exact ⟨j + 1, _, by omega, by rw [HR1.out], by go_num, rfl⟩
        case measure => simp [intOf]; omega
       ·have g5 : ((txt (namesZ.getD j [])).toList == (txt t.text).toList) = false := by rw [txt_eqQ]; exact decide_eq_false hnm
        have g6 : (namesZ.getD j [] == t.text) = false := by rw [beq_eq_false_iff_ne]; exact hnm
        have HR1 := Lib.hid (show opG t.text (j + 1) = opG t.text j by rw [HOP.out, if_neg hnm])
        clear hnm
        generalize namesZ.getD j [] = nm at *
        go_wp2_with fail
        go_quiet (fail)
        go_wp2_with fail
        go_roundw
        case rel => exact ⟨j + 1, _, by omega, by rw [HR1.out], by go_num, rfl⟩
        case measure => simp [intOf]; omega
      ·have hj41 : j = 41 := by omega
       subst hj41
       have R6 := Lib.hid (show Rd (w4.drewN m) b A c T E p1 b1 from R5.out.go (Below.drewN_ (Below.refl _ _) m))
       have K6 := Lib.hid (show KeepS (fun j => j = b) wr (w4.drewN m) from K5.out.drewN m)
       have Y6 := Lib.hid (show Box (w4.drewN m) w2.heap.size _ from Y5.out)
       have X6 := Lib.hid (show Box (w4.drewN m) (w2.heap.size + 1) (itL (it0 (t.at_ : Int))) from X5.out)
       have HOP := Lib.hid (show opG t.text 41 = opG t.text 41 from rfl)
       clear y3 HCN R5 K5 Y5 X5
       generalize w4.drewN m = X at *
       have c3 := R6.out.1.cell (k := 3) rfl
       go_upto_block 4 with fail
       clear c3
       obtain ⟨op, hop⟩ : ∃ op, op = opG t.text 41 := ⟨_, rfl⟩
       rw [← hop]
       have HOP := Lib.hid hop
       clear hop
       go_cut [9] from 74 to 150 (fun s9 Z => ∃ (p : Nat) (bd : Int) (z : It) (q : ItP), AtApp b c A T E (w2.heap.size + 1) wr Z p bd z q ∧ stmG T E p1 b1 t = ⟨p, bd, some q⟩)
       case first =>
        have hbx : b < w2.heap.size + 1 := by have := HBW.out; omega
        have o0 : OnWay b c A T E (w2.heap.size + 1) ⟨p1, b1, it0 (t.at_ : Int)⟩ X X := ⟨R6.out, X6.out, KeepS.refl _ _⟩
        have O0 := Lib.hid o0
        clear o0
        have c3 := R6.out.1.cell (k := 3) rfl
        by_cases hb0 : 0 ≤ b1
        ·have g1 : decide (0 ≤ b1) = true := decide_eq_true hb0
         have hst : stmG T E p1 b1 t = ⟨p1, b1, some ⟨0, t.at_, [], ins0, [], 0, [], []⟩⟩ := if_pos hb0
         have HST := Lib.hid hst
         clear hst hb0
         go_wp2_with fail
         go_meet
         case rel => exact ⟨p1, b1, it0 (t.at_ : Int), _, ⟨R6.out, X6.out, ⟨⟨rfl, rfl, rfl, rfl, rfl, rfl⟩, World.ownsRow_nil _ _ _ _, World.ownsRow_nil _ _ _ _⟩, K6.out⟩, HST.out⟩
        have g1 : decide (0 ≤ b1) = false := decide_eq_false hb0
        have HB0 := Lib.hid hb0
        clear hb0
        by_cases hop : 0 < op
        ·have g2 : decide (0 < op) = true := decide_eq_true hop
         have hst : stmG T E p1 b1 t = ⟨(insQ T E op ⟨p1, b1, it0 (t.at_ : Int)⟩).n, (insQ T E op ⟨p1, b1, it0 (t.at_ : Int)⟩).bad, some ⟨(insQ T E op ⟨p1, b1, it0 (t.at_ : Int)⟩).it.kind, (insQ T E op ⟨p1, b1, it0 (t.at_ : Int)⟩).it.at_, (insQ T E op ⟨p1, b1, it0 (t.at_ : Int)⟩).it.label, (insQ T E op ⟨p1, b1, it0 (t.at_ : Int)⟩).it.ins, (insQ T E op ⟨p1, b1, it0 (t.at_ : Int)⟩).it.use, (insQ T E op ⟨p1, b1, it0 (t.at_ : Int)⟩).it.useAt, [], []⟩⟩ := by
          unfold stmG
          rw [if_neg HB0.out, ← HOP.out, if_pos hop]
         have HST := Lib.hid hst
         have hrw := insQ_rows (T := T) (E := E) op ⟨p1, b1, it0 (t.at_ : Int)⟩
         have HRW := Lib.hid hrw
         clear hst hop hrw
         go_wp2_with fail
         refine (refInsQ_any b c A T E p1 b1 (w2.heap.size + 1) (it0 (t.at_ : Int)) op _ R6.out X6.out hbx).mono ?_
         rintro e w5 ⟨rfl, o5⟩
         have O5 := Lib.hid o5
         clear o5
         go_wp2_with fail
         go_meet
         case rel =>
          refine ⟨_, _, _, _, ⟨O5.out.rd, O5.out.it, ⟨⟨rfl, rfl, rfl, rfl, rfl, rfl⟩, ?_, ?_⟩, onway_keep O5.out K6.out HWB.out⟩, HST.out⟩
          ·rw [HRW.out.1]; exact World.ownsRow_nil _ _ _ _
          ·rw [HRW.out.2]; exact World.ownsRow_nil _ _ _ _
        have g2 : decide (0 < op) = false := decide_eq_false hop
        have HOP0 := Lib.hid hop
        clear hop
        have y3 := Y6.out.cell (k := 3) rfl
        have xf0 := X6.out.frozen 0
        have x0 := X6.out.cell (k := 0) rfl
        by_cases hsz : t.text = sizeS
        ·have g5 : (t.text == [115, 105, 122, 101]) = true := by rw [beq_iff_eq]; exact hsz
         have hst : stmG T E p1 b1 t = ⟨takeN T p1 b1 2 [], takeB T E p1 b1 2 [], some ⟨4, t.at_, [], ins0, [], 0, [(takeTok T p1 b1 2 []).num], []⟩⟩ := by
          unfold stmG
          rw [if_neg HB0.out, ← HOP.out, if_neg HOP0.out, if_pos hsz]
         have HST := Lib.hid hst
         have o1 := O0.out.set hbx (k := 0) (v := .int .i64 4) (z := ⟨4, (t.at_ : Int), [], ins0, [], 0, .slice none 0 0, .slice none 0 0⟩) rfl
         have O1 := Lib.hid o1
         clear hst hsz o1
         go_wp2_with fail
         refine (refTake_any b c A T E p1 b1 2 [] _ O1.out.rd).mono ?_
         rintro e w5 ⟨rfl, g5x⟩
         dsimp only [tokVal]
         have fq := fun y => field_numQ (takeTok T p1 b1 2 []) y
         obtain ⟨tk, htk⟩ : ∃ tk, tk = takeTok T p1 b1 2 [] := ⟨_, rfl⟩
         rw [← htk] at fq HST ⊢
         have o2 := O1.out.rdOut hbx g5x
         have o3 := o2.set hbx (k := 10) (v := .slice (some ⟨w5.heap.size, 0, none⟩) 1 1) (z := ⟨4, (t.at_ : Int), [], ins0, [], 0, .slice (some ⟨w5.heap.size, 0, none⟩) 1 1, .slice none 0 0⟩) rfl
         have o4 := o3.go ((Below.refl _ (w5.setCell ⟨w2.heap.size + 1, 10, none⟩ (.slice (some ⟨w5.heap.size, 0, none⟩) 1 1))).alloc (Nat.le_refl _) (.cells #[.int .i64 tk.num] 3))
         have O4 := Lib.hid o4
         have hown := World.ownsRow_lit (base := b + 1) (e := 3) (size := 1) (w5.setCell ⟨w2.heap.size + 1, 10, none⟩ (.slice (some ⟨w5.heap.size, 0, none⟩) 1 1)) #[.int .i64 tk.num] 1 (by have := o2.rd.lt; simp; omega) (by unfold maxLen; omega) rfl
         rw [show (w5.setCell ⟨w2.heap.size + 1, 10, none⟩ (.slice (some ⟨w5.heap.size, 0, none⟩) 1 1)).heap.size = w5.heap.size by simp] at hown
         have HOWN := Lib.hid hown
         have x10 := o2.it.cell (k := 10) rfl
         have xf10 := o2.it.frozen 10
         have hx5 : w2.heap.size + 1 < w5.heap.size := o2.it.lt
         clear htk o2 o3 o4 hown g5x c3 y3 xf0 x0
         go_wp2_with fail
         go_meet
         case rel => exact ⟨_, _, _, ⟨4, (t.at_ : Int), [], ins0, [], 0, [tk.num], []⟩, ⟨O4.out.rd, O4.out.it, ⟨⟨rfl, rfl, rfl, rfl, rfl, rfl⟩, HOWN.out, World.ownsRow_nil _ _ _ _⟩, onway_keep O4.out K6.out HWB.out⟩, HST.out⟩
        have g5 : (t.text == [115, 105, 122, 101]) = false := by rw [beq_eq_false_iff_ne]; exact hsz
        have HSZ := Lib.hid hsz
        clear hsz
        by_cases hby : t.text = byteS
        ·have g6 : (t.text == [98, 121, 116, 101]) = true := by rw [beq_iff_eq]; exact hby
         have hst : stmG T E p1 b1 t = ⟨(bytG T E T.length (takeN T p1 b1 2 []) (takeB T E p1 b1 2 []) [(takeTok T p1 b1 2 []).num] [((takeTok T p1 b1 2 []).at_ : Int)]).1, (bytG T E T.length (takeN T p1 b1 2 []) (takeB T E p1 b1 2 []) [(takeTok T p1 b1 2 []).num] [((takeTok T p1 b1 2 []).at_ : Int)]).2.1, some ⟨3, t.at_, [], ins0, [], 0, (bytG T E T.length (takeN T p1 b1 2 []) (takeB T E p1 b1 2 []) [(takeTok T p1 b1 2 []).num] [((takeTok T p1 b1 2 []).at_ : Int)]).2.2.1, (bytG T E T.length (takeN T p1 b1 2 []) (takeB T E p1 b1 2 []) [(takeTok T p1 b1 2 []).num] [((takeTok T p1 b1 2 []).at_ : Int)]).2.2.2⟩⟩ := by
          unfold stmG
          rw [if_neg HB0.out, ← HOP.out, if_neg HOP0.out, if_neg HSZ.out, if_pos hby]
         have HST := Lib.hid hst
         clear hst
         have o1 := O0.out.set hbx (k := 0) (v := .int .i64 3) (z := ⟨3, (t.at_ : Int), [], ins0, [], 0, .slice none 0 0, .slice none 0 0⟩) rfl
         have O1 := Lib.hid o1
         have HBY := Lib.hid hby
         clear hby o1
         go_wp2_with fail
         refine (refTake_any b c A T E p1 b1 2 [] _ O1.out.rd).mono ?_
         rintro e w5 ⟨rfl, g5x⟩
         dsimp only [tokVal]
         obtain ⟨tk, htk⟩ : ∃ tk, tk = takeTok T p1 b1 2 [] := ⟨_, rfl⟩
         rw [← htk]
         have HTKK := Lib.hid htk
         have o2 := O1.out.rdOut hbx g5x
         have k2 := onway_keep o2 K6.out HWB.out
         clear c3 y3 xf0 x0
         obtain ⟨p2, hp2⟩ : ∃ p2, p2 = takeN T p1 b1 2 [] := ⟨_, rfl⟩
         obtain ⟨d2, hd2⟩ : ∃ d2, d2 = takeB T E p1 b1 2 [] := ⟨_, rfl⟩
         have HP2 := Lib.hid hp2
         have HD2 := Lib.hid hd2
         rw [← hp2, ← hd2] at o2
         rw [← htk, ← hp2, ← hd2] at HST
         clear htk hp2 hd2 g5x
         obtain ⟨j0, hj0, hy0, hy1, hy2⟩ := info_parts info_intI
         have HJI := Lib.hid hj0
         have HJ0 := Lib.hid hy0
         have HJ1 := Lib.hid hy1
         have HJ2 := Lib.hid hy2
         clear hj0 hy0 hy1 hy2
         obtain ⟨B1, hB1⟩ : ∃ B1, B1 = w5.heap.size + 1 := ⟨_, rfl⟩
         have hs9 : ByS b c A T E (w2.heap.size + 1) w5.heap.size B1 (t.at_ : Int) wr (w5.alloc (.cells #[.int .i64 tk.kind, .int .i64 tk.num, .int .i64 (tk.at_ : Int), .string (txt tk.text)] 48)) p2 d2 tk (.slice none 0 0) (.slice none 0 0) [] [] :=
          ⟨o2.rd.go ((Below.refl _ _).alloc (Nat.le_refl _) _), o2.it.alloc _, Box.new w5 _ _, World.ownsRow_nil _ _ _ _, World.ownsRow_nil _ _ _ _, fun g e => (by cases e), k2.alloc _, hbx, by have := o2.it.lt; omega, by omega, HWB.out, by simp; omega⟩
         have HS9 := Lib.hid hs9
         have HSZ9 := Lib.hid (show (w5.alloc (.cells #[.int .i64 tk.kind, .int .i64 tk.num, .int .i64 (tk.at_ : Int), .string (txt tk.text)] 48)).heap.size = w5.heap.size + 1 by simp)
         have hq5 := o2.it.lt
         clear hs9 o2 k2
         go_upto_region 30 with fail
         generalize (w5.alloc (.cells #[.int .i64 tk.kind, .int .i64 tk.num, .int .i64 (tk.at_ : Int), .string (txt tk.text)] 48)) = Z at *
         obtain ⟨kq, hkq⟩ : ∃ kq, kq = w5.heap.size := ⟨_, rfl⟩
         rw [← hkq] at HS9 ⊢
         have HB1 := Lib.hid (HS9.out.hB)
         clear hq5 hB1 hkq
         have b2 := HS9.out.rd.1.cell (k := 2) rfl
         have b3 := HS9.out.rd.1.cell (k := 3) rfl
         have bf2 := HS9.out.rd.1.frozen 2
         have i10 := HS9.out.it.cell (k := 10) rfl
         have i11 := HS9.out.it.cell (k := 11) rfl
         have if10 := HS9.out.it.frozen 10
         have if11 := HS9.out.it.frozen 11
         have k0 := HS9.out.tok.cell (k := 0) rfl
         have k1 := HS9.out.tok.cell (k := 1) rfl
         have k2 := HS9.out.tok.cell (k := 2) rfl
         have k3 := HS9.out.tok.cell (k := 3) rfl
         have kf0 := HS9.out.tok.frozen 0
         have kf1 := HS9.out.tok.frozen 1
         have kf2 := HS9.out.tok.frozen 2
         have kf3 := HS9.out.tok.frozen 3
         have hZb := HS9.out.rd.lt
         have hZx := HS9.out.it.lt
         have hZk := HS9.out.tok.lt
         have hqb := HS9.out.hb
         have hqx := HS9.out.hx
         have hqk := HS9.out.hk
         obtain ⟨n5, hn5l⟩ : ∃ n5, n5 = ([] : List Int).length := ⟨_, rfl⟩
         have hO1 := HS9.out.o1
         rw [← hn5l] at hO1
         have hnl : n5 ≤ 1000000 := by rw [hn5l]; exact by simp
         have HN5 := Lib.hid hn5l
         have HO1 := Lib.hid hO1
         clear hO1 hn5l
         go_upto_region 31 with (at_builtin; refine wpList_append_new _ rfl (.tmp 113) (.tmp 116) 66 rfl B1 3 j0 (.int .i64 0) 1 8 Tryd.underlying66 HJI.out HJ0.out HJ1.out HJ2.out rfl (by omega) _ n5 (intL ([] : List Int)) rfl (HO1.out.alloc _) _ _ 1 [.int .i64 tk.num] rfl (row_newI _ _ _ (by simp)) (intL_one1 _) (by unfold maxLen; omega) (by omega) (by have := HB1.out; simp; omega) ?_; intro v5 Y5 hO5x hg5x hn5x; obtain ⟨A5, c5, rfl⟩ := (Row.of_own hO5x).form; have hO5 := Lib.hid hO5x; have hg5 := Lib.hid hg5x; have hn5 := Lib.hid hn5x; have hbY := (HS9.out.it.alloc _).grown hg5x (fun e => by have := (HO1.out.lt _ e.symm).1; omega); have i10 := hbY.cell (k := 10) rfl; have i11 := hbY.cell (k := 11) rfl; have if10 := hbY.frozen 10; have if11 := hbY.frozen 11; have hZ5 := hbY.lt; clear hO5x hg5x hn5x hbY)
         have HS9b := Lib.hid (HS9.out.app1 (by rw [← HN5.out]; exact hO5.out) hg5.out hn5.out)
         clear hO5 hg5 hn5 HO1 hZ5
         clear b2 b3 bf2 i10 i11 if10 if11 k0 k1 k2 k3 kf0 kf1 kf2 kf3 hZb hZx hZk hqb hqx hqk
         generalize Y5.setCell ⟨w2.heap.size + 1, 10, none⟩ (.slice A5 (n5 + 1) c5) = Z1 at *
         clear HS9
         have HS9 := HS9b
         clear HS9b
         have HB1 := Lib.hid (HS9.out.hB)
         have b2 := HS9.out.rd.1.cell (k := 2) rfl
         have b3 := HS9.out.rd.1.cell (k := 3) rfl
         have bf2 := HS9.out.rd.1.frozen 2
         have i10 := HS9.out.it.cell (k := 10) rfl
         have i11 := HS9.out.it.cell (k := 11) rfl
         have if10 := HS9.out.it.frozen 10
         have if11 := HS9.out.it.frozen 11
         have k0 := HS9.out.tok.cell (k := 0) rfl
         have k1 := HS9.out.tok.cell (k := 1) rfl
         have k2 := HS9.out.tok.cell (k := 2) rfl
         have k3 := HS9.out.tok.cell (k := 3) rfl
         have kf0 := HS9.out.tok.frozen 0
         have kf1 := HS9.out.tok.frozen 1
         have kf2 := HS9.out.tok.frozen 2
         have kf3 := HS9.out.tok.frozen 3
         have hZb := HS9.out.rd.lt
         have hZx := HS9.out.it.lt
         have hZk := HS9.out.tok.lt
         have hqb := HS9.out.hb
         have hqx := HS9.out.hx
         have hqk := HS9.out.hk
         obtain ⟨n6, hn6l⟩ : ∃ n6, n6 = ([] : List Int).length := ⟨_, rfl⟩
         have hO2 := HS9.out.o2
         rw [← hn6l] at hO2
         have hnl6 : n6 ≤ 1000000 := by rw [hn6l]; exact by simp
         have HN6 := Lib.hid hn6l
         have HO2 := Lib.hid hO2
         clear hO2 hn6l
         go_wp2_with (at_builtin; refine wpList_append_new _ rfl (.tmp 120) (.tmp 123) 66 rfl B1 3 j0 (.int .i64 0) 1 8 Tryd.underlying66 HJI.out HJ0.out HJ1.out HJ2.out rfl (by omega) _ n6 (intL ([] : List Int)) rfl (HO2.out.alloc _) _ _ 1 [.int .i64 (tk.at_ : Int)] rfl (row_newI _ _ _ (by simp)) (intL_one1 _) (by unfold maxLen; omega) (by omega) (by have := HB1.out; simp; omega) ?_; intro v6 Y6 hO6x hg6x hn6x; obtain ⟨A6, c6, rfl⟩ := (Row.of_own hO6x).form; have hO6 := Lib.hid hO6x; have hg6 := Lib.hid hg6x; have hn6 := Lib.hid hn6x; have hbY := (HS9.out.it.alloc _).grown hg6x (fun e => by have := (HO2.out.lt _ e.symm).1; omega); have i10 := hbY.cell (k := 10) rfl; have i11 := hbY.cell (k := 11) rfl; have if10 := hbY.frozen 10; have if11 := hbY.frozen 11; have hZ6 := hbY.lt; clear hO6x hg6x hn6x hbY)
         have HS9b := Lib.hid (HS9.out.app2 (by rw [← HN6.out]; exact hO6.out) hg6.out hn6.out)
         clear hO6 hg6 hn6 HO2 hZ6
         clear b2 b3 bf2 i10 i11 if10 if11 k0 k1 k2 k3 kf0 kf1 kf2 kf3 hZb hZx hZk hqb hqx hqk
         generalize Y6.setCell ⟨w2.heap.size + 1, 11, none⟩ (.slice A6 (n6 + 1) c6) = Z2 at *
         clear HS9
         have HS9 := HS9b
         clear HS9b
         have HB1 := Lib.hid (HS9.out.hB)
         obtain ⟨wo, rfl⟩ : ∃ wo : World, wo = wr := ⟨_, rfl⟩
         have HS0 := HS9
         clear HS9 HB1 HN5 HN6 hnl hnl6
         go_loopw [127] (fun _ wl => ∃ (f p : Nat) (bd : Int) (k : Tok) (v1 v2 : Value) (ns as_ : List Int), ByS b c A T E (w2.heap.size + 1) kq B1 (t.at_ : Int) wo wl p bd k v1 v2 ns as_ ∧ bytG T E f p bd ns as_ = bytG T E T.length p2 d2 [tk.num] [(tk.at_ : Int)] ∧ (bd < 0 → T.length ≤ p + f) ∧ ns.length + f ≤ T.length + 1 ∧ as_.length = ns.length) (fun _ wl => match wl.cell? ⟨b, 2, none⟩, wl.cell? ⟨b, 3, none⟩ with | some (.int _ n), some (.int _ bad) => if bad < 0 then 1 + (T.length - n.toNat) else 0 | _, _ => 0)
         case atStart => exact ⟨T.length, p2, d2, tk, _, _, [tk.num], [(tk.at_ : Int)], HS0.out, rfl, fun _ => by omega, by simp; omega, rfl⟩
         case round =>
          obtain ⟨f, p, bd, k, v1, v2, ns, as_, hs, hq, hf, hl, hal⟩ := hrel
          have HS9 := Lib.hid hs
          have HQ9 := Lib.hid hq
          have HF9 := Lib.hid hf
          have HL9 := Lib.hid hl
          have HAL9 := Lib.hid hal
          clear hs hq hf hl hal HS0
          cases h44 : isQ T p bd 3 [44]
          ·have hfin : bytG T E f p bd ns as_ = (p, bd, ns, as_) := by
            cases f with
            | zero => rfl
            | succ f => rw [bytG_succ, if_neg (by rw [h44]; decide)]
           have HFIN := Lib.hid hfin
           clear hfin
           go_wp2_with fail
           refine (refIs_any b c A T E p bd 3 [44] _ HS9.out.rd).mono ?_
           rintro e w6 ⟨rfl, m6, rfl⟩
           rw [h44]
           have HKK := Lib.hid (HS9.out.kept ((KeepS.refl (fun _ => False) _).drewN m6) (fun _ e => e.elim))
           clear h44
           go_wp2_with fail
           go_meet
           case rel =>
            have hk := HKK.out
            refine ⟨p, bd, _, ⟨3, (t.at_ : Int), [], ins0, [], 0, ns, as_⟩, ⟨hk.rd, hk.it, ⟨⟨rfl, rfl, rfl, rfl, rfl, rfl⟩, own_base hk.o1 (by have := hk.hb; have := hk.hx; have := hk.hk; omega), own_base hk.o2 (by have := hk.hb; have := hk.hx; have := hk.hk; omega)⟩, hk.keep⟩, ?_⟩
            rw [HST.out, ← HQ9.out, HFIN.out]
          ·obtain ⟨_, _, hpl⟩ := isQ_at h44
           have hbd := isQ_bad h44
           obtain ⟨f, rfl⟩ : ∃ f', f = f' + 1 := ⟨f - 1, by have := HF9.out hbd; omega⟩
           have hqn := HQ9.out
           rw [bytG_succ, if_pos h44] at hqn
           obtain ⟨tk2, htk2⟩ : ∃ x, x = takeTok T (p + 1) bd 2 [] := ⟨_, rfl⟩
           obtain ⟨p9, hp9⟩ : ∃ x, x = takeN T (p + 1) bd 2 [] := ⟨_, rfl⟩
           obtain ⟨d9, hd9⟩ : ∃ x, x = takeB T E (p + 1) bd 2 [] := ⟨_, rfl⟩
           have hge : p + 1 ≤ p9 := by rw [hp9]; exact takeN_ge _ _
           rw [← htk2, ← hp9, ← hd9] at hqn
           have HQN := Lib.hid hqn
           have HTK2 := Lib.hid htk2
           have HP9 := Lib.hid hp9
           have HD9 := Lib.hid hd9
           have HGE := Lib.hid hge
           have HPL := Lib.hid hpl
           have HBD := Lib.hid hbd
           have M2 := Lib.hid (HS9.out.rd.1.cell (k := 2) rfl)
           have M3 := Lib.hid (HS9.out.rd.1.cell (k := 3) rfl)
           clear hqn htk2 hp9 hd9 hge hbd
           go_wp2_with fail
           refine (refIs_any b c A T E p bd 3 [44] _ HS9.out.rd).mono ?_
           rintro e w6 ⟨rfl, m6, hw6⟩
           rw [h44]
           have hk := HS9.out.kept (S := fun _ => False) (Y := w6) (by rw [hw6]; exact (KeepS.refl (fun _ => False) _).drewN m6) (fun _ e => e.elim)
           obtain ⟨rn, kn⟩ := hk.rd.next (m := p + 1) hpl
           rw [show ((p + 1 : Nat) : Int) = (p : Int) + 1 by simp] at rn kn
           have S1 := Lib.hid (hk.rdo ⟨rn, kn⟩)
           have c2 := hk.rd.1.cell (k := 2) rfl
           have f2 := hk.rd.1.frozen 2
           have p0 : (0 : Int) ≤ p := by omega
           have pT : (p : Int) ≤ 1000000 := by have := HTLEN.out; omega
           clear h44 rn kn hk hw6 HS9 hpl
           go_wp2_with fail
           refine (refTake_any b c A T E (p + 1) bd 2 [] _ S1.out.rd).mono ?_
           rintro e w7 ⟨rfl, g7⟩
           dsimp only [tokVal]
           rw [← HTK2.out]
           rw [← HP9.out, ← HD9.out] at g7
           have S2 := Lib.hid (S1.out.rdo g7)
           have S3 := Lib.hid (S2.out.tokTo tk2)
           have k0 := S2.out.tok.cell (k := 0) rfl
           have k1 := S2.out.tok.cell (k := 1) rfl
           have k2 := S2.out.tok.cell (k := 2) rfl
           have k3 := S2.out.tok.cell (k := 3) rfl
           have kf0 := S2.out.tok.frozen 0
           have kf1 := S2.out.tok.frozen 1
           have kf2 := S2.out.tok.frozen 2
           have kf3 := S2.out.tok.frozen 3
           clear g7 c2 f2 S1
           go_upto_region 35 with fail
           clear k0 k1 k2 k3 kf0 kf1 kf2 kf3 S2
           generalize ((((w7.setCell ⟨kq, 0, none⟩ (.int .i64 tk2.kind)).setCell ⟨kq, 1, none⟩ (.int .i64 tk2.num)).setCell ⟨kq, 2, none⟩ (.int .i64 (tk2.at_ : Int))).setCell ⟨kq, 3, none⟩ (.string (txt tk2.text))) = Z at *
           have HS9 := S3
           clear S3
           have HB1 := Lib.hid (HS9.out.hB)
           have b2 := HS9.out.rd.1.cell (k := 2) rfl
           have b3 := HS9.out.rd.1.cell (k := 3) rfl
           have bf2 := HS9.out.rd.1.frozen 2
           have i10 := HS9.out.it.cell (k := 10) rfl
           have i11 := HS9.out.it.cell (k := 11) rfl
           have if10 := HS9.out.it.frozen 10
           have if11 := HS9.out.it.frozen 11
           have k0 := HS9.out.tok.cell (k := 0) rfl
           have k1 := HS9.out.tok.cell (k := 1) rfl
           have k2 := HS9.out.tok.cell (k := 2) rfl
           have k3 := HS9.out.tok.cell (k := 3) rfl
           have kf0 := HS9.out.tok.frozen 0
           have kf1 := HS9.out.tok.frozen 1
           have kf2 := HS9.out.tok.frozen 2
           have kf3 := HS9.out.tok.frozen 3
           have hZb := HS9.out.rd.lt
           have hZx := HS9.out.it.lt
           have hZk := HS9.out.tok.lt
           have hqb := HS9.out.hb
           have hqx := HS9.out.hx
           have hqk := HS9.out.hk
           obtain ⟨n5, hn5l⟩ : ∃ n5, n5 = ns.length := ⟨_, rfl⟩
           have hO1 := HS9.out.o1
           rw [← hn5l] at hO1
           have hnl : n5 ≤ 1000000 := by rw [hn5l]; exact (by have := HL9.out; have := HTLEN.out; omega)
           have HN5 := Lib.hid hn5l
           have HO1 := Lib.hid hO1
           clear hO1 hn5l
           go_upto_region 36 with (at_builtin; refine wpList_append_new _ rfl (.tmp 138) (.tmp 141) 66 rfl B1 3 j0 (.int .i64 0) 1 8 Tryd.underlying66 HJI.out HJ0.out HJ1.out HJ2.out rfl (by omega) _ n5 (intL ns) rfl (HO1.out.alloc _) _ _ 1 [.int .i64 tk2.num] rfl (row_newI _ _ _ (by simp)) (intL_one1 _) (by unfold maxLen; omega) (by omega) (by have := HB1.out; simp; omega) ?_; intro v5 Y5 hO5x hg5x hn5x; obtain ⟨A5, c5, rfl⟩ := (Row.of_own hO5x).form; have hO5 := Lib.hid hO5x; have hg5 := Lib.hid hg5x; have hn5 := Lib.hid hn5x; have hbY := (HS9.out.it.alloc _).grown hg5x (fun e => by have := (HO1.out.lt _ e.symm).1; omega); have i10 := hbY.cell (k := 10) rfl; have i11 := hbY.cell (k := 11) rfl; have if10 := hbY.frozen 10; have if11 := hbY.frozen 11; have hZ5 := hbY.lt; clear hO5x hg5x hn5x hbY)
           have HS9b := Lib.hid (HS9.out.app1 (by rw [← HN5.out]; exact hO5.out) hg5.out hn5.out)
           clear hO5 hg5 hn5 HO1 hZ5
           clear b2 b3 bf2 i10 i11 if10 if11 k0 k1 k2 k3 kf0 kf1 kf2 kf3 hZb hZx hZk hqb hqx hqk
           generalize Y5.setCell ⟨w2.heap.size + 1, 10, none⟩ (.slice A5 (n5 + 1) c5) = Z1 at *
           clear HS9
           have HS9 := HS9b
           clear HS9b
           have HB1 := Lib.hid (HS9.out.hB)
           have b2 := HS9.out.rd.1.cell (k := 2) rfl
           have b3 := HS9.out.rd.1.cell (k := 3) rfl
           have bf2 := HS9.out.rd.1.frozen 2
           have i10 := HS9.out.it.cell (k := 10) rfl
           have i11 := HS9.out.it.cell (k := 11) rfl
           have if10 := HS9.out.it.frozen 10
           have if11 := HS9.out.it.frozen 11
           have k0 := HS9.out.tok.cell (k := 0) rfl
           have k1 := HS9.out.tok.cell (k := 1) rfl
           have k2 := HS9.out.tok.cell (k := 2) rfl
           have k3 := HS9.out.tok.cell (k := 3) rfl
           have kf0 := HS9.out.tok.frozen 0
           have kf1 := HS9.out.tok.frozen 1
           have kf2 := HS9.out.tok.frozen 2
           have kf3 := HS9.out.tok.frozen 3
           have hZb := HS9.out.rd.lt
           have hZx := HS9.out.it.lt
           have hZk := HS9.out.tok.lt
           have hqb := HS9.out.hb
           have hqx := HS9.out.hx
           have hqk := HS9.out.hk
           obtain ⟨n6, hn6l⟩ : ∃ n6, n6 = as_.length := ⟨_, rfl⟩
           have hO2 := HS9.out.o2
           rw [← hn6l] at hO2
           have hnl6 : n6 ≤ 1000000 := by rw [hn6l]; exact (by have := HL9.out; have := HAL9.out; have := HTLEN.out; omega)
           have HN6 := Lib.hid hn6l
           have HO2 := Lib.hid hO2
           clear hO2 hn6l
           go_wp2_with (at_builtin; refine wpList_append_new _ rfl (.tmp 145) (.tmp 148) 66 rfl B1 3 j0 (.int .i64 0) 1 8 Tryd.underlying66 HJI.out HJ0.out HJ1.out HJ2.out rfl (by omega) _ n6 (intL as_) rfl (HO2.out.alloc _) _ _ 1 [.int .i64 (tk2.at_ : Int)] rfl (row_newI _ _ _ (by simp)) (intL_one1 _) (by unfold maxLen; omega) (by omega) (by have := HB1.out; simp; omega) ?_; intro v6 Y6 hO6x hg6x hn6x; obtain ⟨A6, c6, rfl⟩ := (Row.of_own hO6x).form; have hO6 := Lib.hid hO6x; have hg6 := Lib.hid hg6x; have hn6 := Lib.hid hn6x; have hbY := (HS9.out.it.alloc _).grown hg6x (fun e => by have := (HO2.out.lt _ e.symm).1; omega); have i10 := hbY.cell (k := 10) rfl; have i11 := hbY.cell (k := 11) rfl; have if10 := hbY.frozen 10; have if11 := hbY.frozen 11; have hZ6 := hbY.lt; clear hO6x hg6x hn6x hbY)
           have HS9b := Lib.hid (HS9.out.app2 (by rw [← HN6.out]; exact hO6.out) hg6.out hn6.out)
           clear hO6 hg6 hn6 HO2 hZ6
           clear b2 b3 bf2 i10 i11 if10 if11 k0 k1 k2 k3 kf0 kf1 kf2 kf3 hZb hZx hZk hqb hqx hqk
           generalize Y6.setCell ⟨w2.heap.size + 1, 11, none⟩ (.slice A6 (n6 + 1) c6) = Z2 at *
           clear HS9
           have HS9 := HS9b
           clear HS9b
           have HB1 := Lib.hid (HS9.out.hB)
           go_roundw
           case rel => exact ⟨f, p9, d9, tk2, _, _, _, _, HS9.out, HQN.out, fun hb => by have := HF9.out HBD.out; have := HGE.out; omega, by have := HL9.out; rw [List.length_append, List.length_singleton]; omega, by have := HAL9.out; rw [List.length_append, List.length_append, this]; rfl⟩
           case measure =>
            have e2 := HS9.out.rd.1.cell (k := 2) rfl
            have e3 := HS9.out.rd.1.cell (k := 3) rfl
            have := HPL.out
            have := HGE.out
            have := HBD.out
            have hnn := HS9.out.rd.2.2.1
            simp only [e2, e3, M2.out, M3.out]
            rw [if_pos HBD.out]
            split <;> omega
        ·have g6 : (t.text == [98, 121, 116, 101]) = false := by rw [beq_eq_false_iff_ne]; exact hby
         have hst : stmG T E p1 b1 t = ⟨p1 - 1, failQ T E (p1 - 1) b1, some ⟨0, t.at_, [], ins0, [], 0, [], []⟩⟩ := by
          unfold stmG
          rw [if_neg HB0.out, ← HOP.out, if_neg HOP0.out, if_neg HSZ.out, if_neg hby]
         have HST := Lib.hid hst
         have hp1 : p1 = n + 1 := by
          by_cases hq : isQ T n bad 1 [] = true
          ·rw [HP1.out]; exact if_pos hq
          ·exact absurd (by rw [HB1.out]; rw [show takeB T E n bad 1 [] = failQ T E n bad from if_neg hq]; exact failQ_ge) HB0.out
         obtain ⟨rn, kn⟩ := R6.out.next (m := n) (Nat.le_of_lt HLT.out)
         have hpn : (p1 : Int) - 1 = n := by omega
         have RN := Lib.hid rn
         have KN := Lib.hid kn
         have XN : Hid (Box (X.setCell ⟨b, 2, none⟩ (.int .i64 (n : Int))) (w2.heap.size + 1) (itL (it0 (t.at_ : Int)))) := X6.out.keepS kn (fun e => by omega)
         have hpe : p1 - 1 = n := by omega
         rw [hpe] at HST
         have c2 := R6.out.1.cell (k := 2) rfl
         have f2 := R6.out.1.frozen 2
         clear hst hby hp1 rn kn hpe
         go_wp2_with fail
         refine (refFail_any b c A T E n b1 _ RN.out).mono ?_
         rintro e w5 ⟨rfl, g5x⟩
         have G5 := Lib.hid g5x
         clear g5x
         go_wp2_with fail
         go_meet
         case rel => exact ⟨_, _, it0 (t.at_ : Int), _, ⟨G5.out.1, XN.out.keepS G5.out.2 (fun e => by have := HBW.out; omega), ⟨⟨rfl, rfl, rfl, rfl, rfl, rfl⟩, World.ownsRow_nil _ _ _ _, World.ownsRow_nil _ _ _ _⟩, (K6.out.trans KN.out).trans G5.out.2⟩, HST.out⟩
       case rest =>
        obtain ⟨p, bd, z9, q9, hat, hst⟩ := hcut
        have HAT := Lib.hid hat
        have HST := Lib.hid hst
        have HIX := Lib.hid (HI.out.keepS hat.keep (fun j hj => .inl (by omega)))
        clear hat hst R6 K6 Y6 X6
        obtain ⟨its, q1, q2, q3⟩ := HIX.out
        have a0 := HAT.out.it.cell (k := 0) rfl
        have a1 := HAT.out.it.cell (k := 1) rfl
        have a2 := HAT.out.it.cell (k := 2) rfl
        have a3 := HAT.out.it.cell (k := 3) rfl
        have a4 := HAT.out.it.cell (k := 4) rfl
        have a5 := HAT.out.it.cell (k := 5) rfl
        have a6 := HAT.out.it.cell (k := 6) rfl
        have a7 := HAT.out.it.cell (k := 7) rfl
        have a8 := HAT.out.it.cell (k := 8) rfl
        have a9 := HAT.out.it.cell (k := 9) rfl
        have a10 := HAT.out.it.cell (k := 10) rfl
        have a11 := HAT.out.it.cell (k := 11) rfl
        have hits : its.length ≤ 1000000 := by have := HPF.out; have := HTLEN.out; omega
        have hbX : b < wc.heap.size := HAT.out.rd.lt
        have Q1 := Lib.hid q1
        have Q2 := Lib.hid q2
        have Q3 := Lib.hid q3
        clear q1 q2 q3
        go_wp2_with (at_builtin; refine wpList_append_own _ rfl (.tmp 151) (.tmp 153) 64 rfl (b + 1) 68 i0 (.agg #[.int .i64 0, .int .i64 0, .string ⟨#[]⟩, .int .i64 0, .int .i64 0, .int .i64 0, .int .i64 0, .int .i64 0, .string ⟨#[]⟩, .int .i64 0, .slice none 0 0, .slice none 0 0]) 12 144 Tryd.underlying64 HII.out HZ0.out HZ1.out HZ2.out rfl (by omega) (.slice A3 ps.length c3') its.length (itsL its) rfl (Q1.out.alloc _) _ 1 1 (itL z9) rfl rfl (new_cells_atI _ _ (by simp) _ _ _ rfl) (itL_one HAT.out.val) (by unfold maxLen; omega) (by omega) (by simp; omega) ?_; intro v3 X5 hO5 hg5 _)
        obtain ⟨r5, i5, k5⟩ := HAT.out.app Q1.out Q2.out Q3.out hO5 hg5
        clear hO5 hg5 a0 a1 a2 a3 a4 a5 a6 a7 a8 a9 a10 a11 Q1 Q2 Q3
        have R5 := Lib.hid r5
        have I5 := Lib.hid i5
        have K5 := Lib.hid k5
        clear r5 i5 k5
        have hpT := R5.out.2.2.1
        have c0 := R5.out.1.cell (k := 0) rfl
        have c2 := R5.out.1.cell (k := 2) rfl
        have n0 : (0 : Int) ≤ p := by omega
        by_cases hp : p < T.length
        ·have g2 : decide ((p : Int) < (T.length : Int)) = true := decide_eq_true (by omega)
         have g2' : decide (p < T.length) = true := decide_eq_true hp
         have cQ := Lib.hid (fun n => refIs_any b c A T E p bd 4 [] (X5.drewN n) (R5.out.go (Below.drewN_ (Below.refl _ _) n)))
         cases h4 : isQ T p bd 4 []
         ·rw [h4] at cQ
          have hrd : roundG T E n bad = ⟨p, failQ T E p bd, some q9⟩ := by
           rw [HRD0.out, HST.out]
           unfold endG
           rw [if_pos ⟨hp, h4⟩]
          have HRD := Lib.hid hrd
          clear hrd hp h4 hpT
          go_wp2_with fail
          go_quiet ((go_at_call 39; refine quietI (cQ.out _)))
          go_wp2_with fail
          refine (refFail_any b c A T E p bd _ (R5.out.go (Below.drewN_ (Below.refl _ _) _))).mono ?_
          rintro e w6 ⟨rfl, g6x⟩
          have HRE := Lib.hid g6x.1
          have HIE := Lib.hid ((I5.out.keepS ((KeepS.refl (fun _ => False) X5).drewN _) (fun _ e => e.elim)).keepS g6x.2 (fun j hj => .inl (by omega)))
          have HKE := Lib.hid ((K5.out.drewN _).trans (g6x.2.mono (fun j e => Nat.le_of_eq e.symm)))
          clear g6x c0 c2
          go_wp2_with fail
          go_roundw
          case rel =>
           refine ⟨p, f, failQ T E p bd, ps ++ [q9], HRE.out, HIE.out, HB.out.trans (HKE.out.below (Nat.le_of_lt HRr.out.lt) (fun j hj => hj)), fun hbb => ?_, ?_, ?_⟩
           ·have := HF.out
            have hg := roundG_goes (E := E) HBAD.out HLT.out
            rw [HRD.out] at hg
            simp only at hg
            omega
           ·have := HPF.out
            rw [List.length_append, List.length_singleton]; omega
           ·rw [HQ3.out, HRD.out]
            simp
          case measure =>
           have e2 := HRE.out.1.cell (k := 2) rfl
           have e3 := HRE.out.1.cell (k := 3) rfl
           have := HLT.out
           have hg := roundG_goes (E := E) HBAD.out HLT.out
           rw [HRD.out] at hg
           simp only at hg
           have hnn := HRE.out.2.2.1
           simp only [World.cell?_drewN, e2, e3, C2.out, C3.out]
           rw [if_pos HBAD.out]
           split <;> omega
         ·rw [h4] at cQ
          have hrd : roundG T E n bad = ⟨p, bd, some q9⟩ := by
           rw [HRD0.out, HST.out]
           unfold endG
           rw [if_neg (fun h => by rw [h4] at h; cases h.2)]
          have HRD := Lib.hid hrd
          clear hrd hp h4 hpT
          go_wp2_with fail
          go_quiet ((go_at_call 39; refine quietI (cQ.out _)))
          go_wp2_with fail
          have HRE := Lib.hid (fun k => R5.out.go (Below.drewN_ (Below.refl _ X5) k))
          have HIE := Lib.hid (fun k => I5.out.keepS ((KeepS.refl (fun _ => False) X5).drewN k) (fun _ e => e.elim))
          have HKE := Lib.hid (fun k => K5.out.drewN k)
          clear c0 c2
          go_roundw
          case rel =>
           refine ⟨p, f, bd, ps ++ [q9], HRE.out _, HIE.out _, HB.out.trans ((HKE.out _).below (Nat.le_of_lt HRr.out.lt) (fun j hj => hj)), fun hbb => ?_, ?_, ?_⟩
           ·have := HF.out
            have hg := roundG_goes (E := E) HBAD.out HLT.out
            rw [HRD.out] at hg
            simp only at hg
            omega
           ·have := HPF.out
            rw [List.length_append, List.length_singleton]; omega
           ·rw [HQ3.out, HRD.out]
            simp
          case measure =>
           have e2 := R5.out.1.cell (k := 2) rfl
           have e3 := R5.out.1.cell (k := 3) rfl
           have := HLT.out
           have hg := roundG_goes (E := E) HBAD.out HLT.out
           rw [HRD.out] at hg
           simp only at hg
           have hnn := (HRE.out 0).2.2.1
           simp only [World.cell?_drewN, e2, e3, C2.out, C3.out]
           rw [if_pos HBAD.out]
           split <;> omega
        ·have g2 : decide ((p : Int) < (T.length : Int)) = false := decide_eq_false (by omega)
         have g2' : decide (p < T.length) = false := decide_eq_false hp
         have hrd : roundG T E n bad = ⟨p, bd, some q9⟩ := by
          rw [HRD0.out, HST.out]
          unfold endG
          rw [if_neg (fun h => hp h.1)]
         have HRD := Lib.hid hrd
         clear hrd hp hpT
         go_wp2_with fail
         go_quiet (fail)
         go_wp2_with fail
         have HRE := Lib.hid (fun k => R5.out.go (Below.drewN_ (Below.refl _ X5) k))
         have HIE := Lib.hid (fun k => I5.out.keepS ((KeepS.refl (fun _ => False) X5).drewN k) (fun _ e => e.elim))
         have HKE := Lib.hid (fun k => K5.out.drewN k)
         clear c0 c2
         go_roundw
         case rel =>
          refine ⟨p, f, bd, ps ++ [q9], HRE.out _, HIE.out _, HB.out.trans ((HKE.out _).below (Nat.le_of_lt HRr.out.lt) (fun j hj => hj)), fun hbb => ?_, ?_, ?_⟩
          ·have := HF.out
           have hg := roundG_goes (E := E) HBAD.out HLT.out
           rw [HRD.out] at hg
           simp only at hg
           omega
          ·have := HPF.out
           rw [List.length_append, List.length_singleton]; omega
          ·rw [HQ3.out, HRD.out]
           simp
         case measure =>
          have e2 := R5.out.1.cell (k := 2) rfl
          have e3 := R5.out.1.cell (k := 3) rfl
          have := HLT.out
          have hg := roundG_goes (E := E) HBAD.out HLT.out
          rw [HRD.out] at hg
          simp only at hg
          have hnn := (HRE.out 0).2.2.1
          simp only [World.cell?_drewN, e2, e3, C2.out, C3.out]
          rw [if_pos HBAD.out]
          split <;> omega
    ·obtain ⟨_, _, hp1l⟩ := isQ_at hl58
     have hrd : roundG T E n bad = ⟨p1 + 1, b1, some ⟨1, (t.at_ : Int), t.text, ins0, [], 0, [], []⟩⟩ := by
      unfold roundG
      rw [if_neg (by rw [HL4.out]; decide)]
      simp only
      rw [← HP1.out, ← HB1.out, ← HTK.out, if_pos hl58]
     have HRD := Lib.hid hrd
     have HP1L := Lib.hid hp1l
     clear hrd hp1l
     have o0 : OnWay b c A T E (w2.heap.size + 1) ⟨p1, b1, it0 (t.at_ : Int)⟩ w3 w3 := ⟨R4.out, X4.out, KeepS.refl _ _⟩
     have hbx : b < w2.heap.size + 1 := by have := HBW.out; omega
     obtain ⟨rn, kn⟩ := R4.out.next (m := p1 + 1) HP1L.out
     rw [show ((p1 + 1 : Nat) : Int) = (p1 : Int) + 1 by simp] at rn kn
     have o1 := o0.rdOut hbx ⟨rn, kn⟩
     have o2 := o1.set hbx (k := 0) (v := .int .i64 1) (z := ⟨1, (t.at_ : Int), [], ins0, [], 0, .slice none 0 0, .slice none 0 0⟩) rfl
     have o3 := o2.set hbx (k := 2) (v := .string (txt t.text)) (z := ⟨1, (t.at_ : Int), t.text, ins0, [], 0, .slice none 0 0, .slice none 0 0⟩) rfl
     have hwb : wr.heap.size ≤ w2.heap.size + 1 := by have := K2.out.size; omega
     have HK9 := Lib.hid (onway_keep o3 K4.out hwb)
     have O3 := Lib.hid o3
     have c2 := R4.out.1.cell (k := 2) rfl
     have f2 := R4.out.1.frozen 2
     have y3 := Y4.out.cell (k := 3) rfl
     have xf0 := X4.out.frozen 0
     have xf2 := X4.out.frozen 2
     have x0 := X4.out.cell (k := 0) rfl
     have x1 := X4.out.cell (k := 1) rfl
     have x2 := X4.out.cell (k := 2) rfl
     have x3 := X4.out.cell (k := 3) rfl
     have x4 := X4.out.cell (k := 4) rfl
     have x5 := X4.out.cell (k := 5) rfl
     have x6 := X4.out.cell (k := 6) rfl
     have x7 := X4.out.cell (k := 7) rfl
     have x8 := X4.out.cell (k := 8) rfl
     have x9 := X4.out.cell (k := 9) rfl
     have x10 := X4.out.cell (k := 10) rfl
     have x11 := X4.out.cell (k := 11) rfl
     have hb2 := HBW.out
     have p1b : (p1 : Int) < T.length := by have := HP1L.out; omega
     have p10 : (0 : Int) ≤ p1 := by omega
     clear rn kn o0 o1 o2 o3
     go_upto_region 11 with fail
     clear c2 f2 y3 xf0 xf2 x0 x1 x2 x3 x4 x5 x6 x7 x8 x9 x10 x11
     generalize (((w3.setCell ⟨b, 2, none⟩ (.int .i64 ((p1 : Int) + 1))).setCell ⟨w2.heap.size + 1, 0, none⟩ (.int .i64 1)).setCell ⟨w2.heap.size + 1, 2, none⟩ (.string (txt t.text))) = X9 at *
     obtain ⟨z9, hz9⟩ : ∃ z9 : It, z9 = ⟨1, (t.at_ : Int), t.text, ins0, [], 0, .slice none 0 0, .slice none 0 0⟩ := ⟨_, rfl⟩
     obtain ⟨q9, hq9⟩ : ∃ q9 : ItP, q9 = ⟨1, (t.at_ : Int), t.text, ins0, [], 0, [], []⟩ := ⟨_, rfl⟩
     have HAT : Hid (AtApp b c A T E (w2.heap.size + 1) wr X9 (p1 + 1) b1 z9 q9) := ⟨O3.out.rd, by rw [hz9]; exact O3.out.it, by rw [hz9, hq9]; exact ⟨⟨rfl, rfl, rfl, rfl, rfl, rfl⟩, World.ownsRow_nil _ _ _ _, World.ownsRow_nil _ _ _ _⟩, HK9.out⟩
     have HIX := Lib.hid (HI.out.keepS HK9.out (fun j hj => .inl (by omega)))
     rw [← hq9] at HRD
     clear hz9 hq9 O3 HK9
     obtain ⟨its, q1, q2, q3⟩ := HIX.out
     have a0 := HAT.out.it.cell (k := 0) rfl
     have a1 := HAT.out.it.cell (k := 1) rfl
     have a2 := HAT.out.it.cell (k := 2) rfl
     have a3 := HAT.out.it.cell (k := 3) rfl
     have a4 := HAT.out.it.cell (k := 4) rfl
     have a5 := HAT.out.it.cell (k := 5) rfl
     have a6 := HAT.out.it.cell (k := 6) rfl
     have a7 := HAT.out.it.cell (k := 7) rfl
     have a8 := HAT.out.it.cell (k := 8) rfl
     have a9 := HAT.out.it.cell (k := 9) rfl
     have a10 := HAT.out.it.cell (k := 10) rfl
     have a11 := HAT.out.it.cell (k := 11) rfl
     have hits : its.length ≤ 1000000 := by have := HPF.out; have := HTLEN.out; omega
     have hbX : b < X9.heap.size := HAT.out.rd.lt
     have Q1 := Lib.hid q1
     have Q2 := Lib.hid q2
     have Q3 := Lib.hid q3
     clear q1 q2 q3
     go_wp2_with (at_builtin; refine wpList_append_own _ rfl (.tmp 54) (.tmp 56) 64 rfl (b + 1) 68 i0 (.agg #[.int .i64 0, .int .i64 0, .string ⟨#[]⟩, .int .i64 0, .int .i64 0, .int .i64 0, .int .i64 0, .int .i64 0, .string ⟨#[]⟩, .int .i64 0, .slice none 0 0, .slice none 0 0]) 12 144 Tryd.underlying64 HII.out HZ0.out HZ1.out HZ2.out rfl (by omega) (.slice A3 ps.length c3') its.length (itsL its) rfl (Q1.out.alloc _) _ 1 1 (itL z9) rfl rfl (new_cells_atI _ _ (by simp) _ _ _ rfl) (itL_one HAT.out.val) (by unfold maxLen; omega) (by omega) (by simp; omega) ?_; intro v3 X5 hO5 hg5 _)
     obtain ⟨r5, i5, k5⟩ := HAT.out.app Q1.out Q2.out Q3.out hO5 hg5
     clear hO5 hg5 a0 a1 a2 a3 a4 a5 a6 a7 a8 a9 a10 a11 Q1 Q2 Q3
     have R5 := Lib.hid r5
     have I5 := Lib.hid i5
     have K5 := Lib.hid k5
     clear r5 i5 k5
     have HRE := R5
     have HIE := I5
     have HKE := K5
     go_roundw
     case rel =>
      refine ⟨p1 + 1, f, b1, ps ++ [q9], HRE.out, HIE.out, HB.out.trans (HKE.out.below (Nat.le_of_lt HRr.out.lt) (fun j hj => hj)), fun hbb => ?_, ?_, ?_⟩
      ·have := HF.out
       have hg := roundG_goes (E := E) HBAD.out HLT.out
       rw [HRD.out] at hg
       simp only at hg
       omega
      ·have := HPF.out
       rw [List.length_append, List.length_singleton]; omega
      ·rw [HQ3.out, HRD.out]
       simp
     case measure =>
      have e2 := HRE.out.1.cell (k := 2) rfl
      have e3 := HRE.out.1.cell (k := 3) rfl
      have := HLT.out
      have hg := roundG_goes (E := E) HBAD.out HLT.out
      rw [HRD.out] at hg
      simp only at hg
      have hnn := HRE.out.2.2.1
      simp only [World.cell?_drewN, e2, e3, C2.out, C3.out]
      rw [if_pos HBAD.out]
      split <;> omega
   ·have hrd : roundG T E n bad = ⟨n + 1, bad, none⟩ := if_pos hl4
    have HRD := Lib.hid hrd
    clear hrd
    go_wp2_with fail
    go_quiet (fail)
    go_wp2_with fail
    refine (refIs_any b c A T E n bad 4 [] _ (HRr.out.go (Below.drewN_ (Below.refl _ wr) _))).mono ?_
    rintro e w1 ⟨rfl, m, hw1⟩
    rw [hl4]
    have RY := Lib.hid (show Rd w1 b A c T E n bad by rw [hw1]; exact HRr.out.go (Below.drewN_ (Below.drewN_ (Below.refl _ wr) _) _))
    have KY := Lib.hid (show KeepS (fun j => j = b) wr w1 by rw [hw1]; exact ((KeepS.refl _ _).drewN _).drewN _)
    clear hw1 c0 c2 c3
    have c2 : w1.cell? ⟨b, 2, none⟩ = some (.int .i64 (n : Int)) := RY.out.1.cell (k := 2) rfl
    have f2 : w1.frozen? ⟨b, 2, none⟩ = false := RY.out.1.frozen 2
    go_wp2_with fail
    obtain ⟨rn, kn⟩ := RY.out.next (m := n + 1) HLT.out
    rw [show ((n + 1 : Nat) : Int) = (n : Int) + 1 by simp] at rn kn
    have RN := Lib.hid rn
    have KN := Lib.hid (KY.out.trans kn)
    clear rn kn
    go_roundw
    case rel =>
     refine ⟨n + 1, f, bad, ps, RN.out, HI.out.keepS KN.out (fun j hj => .inl (by omega)), HB.out.trans (KN.out.below (Nat.le_of_lt HRr.out.lt) (fun j hj => by omega)), fun _ => by have := HF.out; omega, by have := HPF.out; omega, ?_⟩
     rw [HQ3.out, HRD.out]
     simp
    case measure =>
     have e2 := RN.out.1.cell (k := 2) rfl
     have e3 := RN.out.1.cell (k := 3) rfl
     have := HLT.out
     have := HBAD.out
     simp only [e2, e3, C2.out, C3.out]
     rw [if_pos (by assumption), if_pos (by assumption)]
     omega
  ·have hst := itemsG_stop (E := E) (f := f) hgo
   rw [hst, List.append_nil] at hq
   have HQ2 := Lib.hid hq
   by_cases hbad : bad < 0
   ·have g1 : decide (bad < 0) = true := decide_eq_true hbad
    have hn : ¬ n < T.length := fun e => hgo ⟨hbad, e⟩
    have g2 : decide ((n : Int) < (T.length : Int)) = false := decide_eq_false (by omega)
    have g2' : decide (n < T.length) = false := decide_eq_false hn
    clear hr hi hb hf hq hgo hst hbad hn hnT hTT HQ
    go_wp2_with fail
    go_quiet (fail)
    go_wp2_with fail
    go_ret
    rw [HQ2.out]
    exact ⟨_, rfl, HI.out, HRr.out, Below.drewN_ HB.out _⟩
   ·have g1 : decide (bad < 0) = false := decide_eq_false hbad
    clear hr hi hb hf hq hgo hst hbad hnT hTT HQ
    go_wp2_with fail
    go_quiet (fail)
    go_wp2_with fail
    go_ret
    rw [HQ2.out]
    exact ⟨_, rfl, HI.out, HRr.out, Below.drewN_ HB.out _⟩
end Go.Proofs.YtcaibahniheohaaDoor.Words

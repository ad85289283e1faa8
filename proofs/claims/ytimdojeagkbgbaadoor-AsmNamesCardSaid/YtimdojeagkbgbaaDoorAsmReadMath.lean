/- What a text's program is: plain mathematics. -/
import Derived.Test.YtimdojeagkbgbaaDoorAsmLay
import Derived.Test.YtimdojeagkbgbaaDoorLexStandMath
import Derived.Test.YtimdojeagkbgbaaDoorImgRight2
namespace Go.Proofs.YtimdojeagkbgbaaDoor.Words
set_option maxRecDepth 100000
open Go.RowKit Go.Shelf Go.Lib
set_option linter.unusedVariables false
set_option linter.unusedSimpArgs false

def checkZ (p : Prog) : AsmR := if targetsOk p.code.length 0 p.code = false then .bad 0 4 else if rightZ p.code p.size p.data.length = true then .ok p else .bad 0 1
def endZ (Z : AsmR) : AsmR := match Z with | .bad a e => .bad a e | .ok p => checkZ p
def partsZ (n : Nat) (Z : Bool × List Tok × List PartZ) : AsmR := if Z.1 = true then endZ (layF Z.2.2 [] Z.2.2 ⟨[], 0, []⟩) else .bad (headAt Z.2.1 n) 5
/-- What a text is. -/
def asmZ (l : List UInt8) : AsmR := match lexZ l with | .bad a e => .bad a e | .toks t => partsZ l.length (textT t)

/-! ### what holds of each token -/
theorem lexF_all (l : List UInt8) (P : Tok → Prop) (h : ∀ p x, p < l.length → (takeZ l p x).1 = 0 → (∀ t ∈ x.toks, P t) → ∀ t ∈ (takeZ l p x).2.toks, P t) : ∀ f p x, (∀ t ∈ x.toks, P t) → ∀ ts, lexF l f p x = .toks ts → ∀ k ∈ ts, P k
  | 0, p, x, hx, ts, he => by unfold lexF at he; injection he with he; subst he; exact hx
  | f + 1, p, x, hx, ts, he => by
    unfold lexF at he
    split at he
    · rename_i hp
      split at he
      · exact lexF_all l P h f _ x hx ts he
      · split at he
        · rename_i h0
          exact lexF_all l P h f _ _ (h p x hp h0 hx) ts he
        · cases he
    · injection he with he; subst he; exact hx
theorem add_all {P : Tok → Prop} {l : List UInt8} {k n : Int} {p s : Nat} {x : LexS} (hx : ∀ t ∈ x.toks, P t) (h : P ⟨k, n, p, (l.drop p).take s⟩) : ∀ t ∈ (addZ l k n p s x).toks, P t := by
  intro t ht
  unfold addZ at ht
  rcases List.mem_append.1 ht with ht | ht
  · exact hx t ht
  · rw [List.mem_singleton.1 ht]; exact h
theorem take_all {P : Tok → Prop} {l : List UInt8} {p : Nat} {x : LexS} (hx : ∀ t ∈ x.toks, P t) (h0 : (takeZ l p x).1 = 0)
    (h4 : runeR (l.drop p) = 10 → P ⟨4, 0, p, (l.drop p).take 1⟩) (h1 : firstR (runeR (l.drop p)) = true → P ⟨1, 0, p, (l.drop p).take (nameZ (l.drop p))⟩) (h3 : signR (runeR (l.drop p)) = true → P ⟨3, 0, p, (l.drop p).take 1⟩)
    (h2 : -4294967296 ≤ (numZ (l.drop p)).1 → (numZ (l.drop p)).1 ≤ 4294967296 → P ⟨2, (numZ (l.drop p)).1, p, (l.drop p).take (numZ (l.drop p)).2⟩) : ∀ t ∈ (takeZ l p x).2.toks, P t := by
  unfold takeZ at h0 ⊢
  split
  · exact hx
  split
  · rename_i hr
    unfold lineZ
    split
    · exact add_all hx (h4 hr)
    · exact hx
  split
  · exact hx
  split
  · exact hx
  split
  · rename_i hf; exact add_all hx (h1 hf)
  split
  · rename_i hs; exact add_all hx (h3 hs)
  · unfold numberZ at h0 ⊢
    split
    · exact hx
    split
    · exact hx
    · rename_i hn; exact add_all hx (h2 (by omega) (by omega))
theorem lexZ_toks {l : List UInt8} {t : List Tok} (h : lexZ l = .toks t) : l.length ≤ 20000 ∧ lexF l l.length 0 ⟨0, false, []⟩ = .toks t := by
  unfold lexZ at h
  by_cases hl : 20000 < l.length
  · rw [if_pos hl] at h; cases h
  · rw [if_neg hl] at h; exact ⟨by omega, h⟩
theorem lex_good {l : List UInt8} {t : List Tok} (h : lexZ l = .toks t) : ∀ i k, t[i]? = some k → Stands l t i k := by
  have h2 := lexZ_good (l := l) (lexZ_toks h).1
  rw [h] at h2
  exact h2
theorem lex_in {l : List UInt8} {t : List Tok} (h : lexZ l = .toks t) : ∀ k ∈ t, TokIn k := by
  obtain ⟨h1, h2⟩ := lexZ_toks h
  have hnum : ∀ k ∈ t, -4294967296 ≤ k.num ∧ k.num ≤ 4294967296 :=
    lexF_all l (fun k => -4294967296 ≤ k.num ∧ k.num ≤ 4294967296) (fun p x hp h0 hx => take_all hx h0 (fun _ => by simp) (fun _ => by simp) (fun _ => by simp) (fun a b => ⟨a, b⟩)) _ _ _ (by simp) t h2
  intro k hk
  obtain ⟨i, hi⟩ := List.mem_iff_getElem?.1 hk
  have hs := (lex_good h i k hi).fits
  obtain ⟨q1, q2⟩ := hnum k hk
  exact ⟨by omega, by omega, q1, q2⟩
theorem lex_order {l : List UInt8} {t : List Tok} (h : lexZ l = .toks t) : (t.map (·.at_)).Pairwise (· < ·) := by
  have hg := lex_good h
  have key : ∀ (j i : Nat), i < j → ∀ (a b : Tok), t[i]? = some a → t[j]? = some b → a.at_ < b.at_ := by
    intro j
    induction j with
    | zero => intro i hi; omega
    | succ j ih =>
      intro i hi a b ha hb
      obtain ⟨c, hc⟩ : ∃ c, t[j]? = some c := ⟨_, List.getElem?_eq_getElem (by have := (List.getElem?_eq_some_iff.1 hb).1; omega)⟩
      have h1 := (hg (j + 1) b hb).from_
      rw [endOf_succ, hc] at h1
      have h2 := (hg j c hc).some_
      have h3 : 0 < c.text.length := List.length_pos_iff.2 h2
      have h4 : c.at_ + c.text.length ≤ b.at_ := h1
      by_cases hij : i = j
      · subst hij; rw [ha] at hc; injection hc with hc; subst hc; omega
      · have := ih i (by omega) a c ha hc; omega
  rw [List.pairwise_map, List.pairwise_iff_getElem]
  intro i j hi hj hij
  exact key j i hij _ _ (List.getElem?_eq_getElem hi) (List.getElem?_eq_getElem hj)
theorem lex_len {l : List UInt8} {t : List Tok} (h : lexZ l = .toks t) : t.length ≤ l.length := by
  have hg := lex_good h
  have key : ∀ (j : Nat) (b : Tok), t[j]? = some b → j ≤ b.at_ := by
    intro j
    induction j with
    | zero => intro b hb; omega
    | succ j ih =>
      intro b hb
      obtain ⟨c, hc⟩ : ∃ c, t[j]? = some c := ⟨_, List.getElem?_eq_getElem (by have := (List.getElem?_eq_some_iff.1 hb).1; omega)⟩
      have h1 := (hg (j + 1) b hb).from_
      rw [endOf_succ, hc] at h1
      have h3 : 0 < c.text.length := List.length_pos_iff.2 (hg j c hc).some_
      have h4 : c.at_ + c.text.length ≤ b.at_ := h1
      have := ih c hc; omega
  cases hn : t.length with
  | zero => exact Nat.zero_le _
  | succ n =>
    obtain ⟨c, hc⟩ : ∃ c, t[n]? = some c := ⟨_, List.getElem?_eq_getElem (by omega)⟩
    have h1 := key n c hc
    have h2 := (hg n c hc).fits
    have h3 : 0 < c.text.length := List.length_pos_iff.2 (hg n c hc).some_
    omega

/-! ### where the parts of a text begin -/
def Sub (Z : Bool × List Tok × List PartZ) (r : List Tok) : Prop := (Z.2.2.map (·.at_) ++ Z.2.1.map (·.at_)).Sublist (r.map (·.at_))
theorem Sub.id (b : Bool) (r : List Tok) : Sub (b, r, []) r := List.Sublist.refl _
theorem Sub.append {Z Y : Bool × List Tok × List PartZ} {r : List Tok} {b : Bool} (h : Sub Z r) (g : Sub Y Z.2.1) : Sub (b, Y.2.1, Z.2.2 ++ Y.2.2) r := by
  unfold Sub at *
  simp only [List.map_append, List.append_assoc]
  exact (List.Sublist.append_left g _).trans h
theorem regT_sub (r : List Tok) : (regT r).2.Sublist r := by
  cases r with
  | nil => exact List.Sublist.refl _
  | cons t ts =>
    have h : regT (t :: ts) = match regZ t.text with | some n => (some n, ts) | none => (none, t :: ts) := rfl
    rw [h]
    cases regZ t.text with
    | none => exact List.Sublist.refl _
    | some n => exact List.sublist_cons_self _ _
theorem immT_sub (r : List Tok) : (immT r).2.Sublist r := by
  cases r with
  | nil => exact List.Sublist.refl _
  | cons t ts =>
    have h : immT (t :: ts) = if t.kind = 2 then (some t.num, ts) else (none, t :: ts) := rfl
    rw [h]
    split
    · exact List.sublist_cons_self _ _
    · exact List.Sublist.refl _
theorem signT_sub (c : List UInt8) (r : List Tok) : (signT c r).2.Sublist r := by
  cases r with
  | nil => exact List.Sublist.refl _
  | cons t ts =>
    have h : signT c (t :: ts) = if isS t c = true then (true, ts) else (false, t :: ts) := rfl
    rw [h]
    split
    · exact List.sublist_cons_self _ _
    · exact List.Sublist.refl _
theorem fieldT_sub (c : Int) (x : PartZ) (r : List Tok) : (fieldT c x r).2.2.Sublist r := by
  have h1 := regT_sub r
  have h2 := immT_sub r
  have h3 := signT_sub [UInt8.ofNat c.toNat] r
  unfold fieldT
  split
  · generalize regT r = Q at *; obtain ⟨o, ts⟩ := Q; cases o <;> exact h1
  split
  · generalize regT r = Q at *; obtain ⟨o, ts⟩ := Q; cases o <;> exact h1
  split
  · generalize regT r = Q at *; obtain ⟨o, ts⟩ := Q; cases o <;> exact h1
  split
  · generalize immT r = Q at *; obtain ⟨o, ts⟩ := Q; cases o <;> exact h2
  split
  · cases r with
    | nil => exact List.Sublist.refl _
    | cons t ts =>
      by_cases hk : t.kind = 1
      · simp only [hk, if_true]; exact List.sublist_cons_self _ _
      · simp only [hk, if_false]
        generalize immT (t :: ts) = Q at *; obtain ⟨o, ts2⟩ := Q; cases o <;> exact h2
  · exact h3
theorem fieldsT_sub : ∀ (l : List UInt8) (x : PartZ) (r : List Tok), (fieldsT l x r).2.2.Sublist r
  | [], x, r => List.Sublist.refl _
  | c :: cs, x, r => by
    unfold fieldsT
    have h1 := fieldT_sub c.toNat x r
    split
    · exact (fieldsT_sub cs _ _).trans h1
    · exact h1
theorem fieldT_at (c : Int) (x : PartZ) (r : List Tok) : (fieldT c x r).2.1.at_ = x.at_ ∧ (fieldT c x r).2.1.kind = x.kind ∧ (fieldT c x r).2.1.name = x.name ∧ ((fieldT c x r).2.1.target = x.target ∨ (fieldT c x r).2.1.target ∈ r) := by
  unfold fieldT
  split
  · generalize regT r = Q at *; obtain ⟨o, ts⟩ := Q; cases o <;> exact ⟨rfl, rfl, rfl, .inl rfl⟩
  split
  · generalize regT r = Q at *; obtain ⟨o, ts⟩ := Q; cases o <;> exact ⟨rfl, rfl, rfl, .inl rfl⟩
  split
  · generalize regT r = Q at *; obtain ⟨o, ts⟩ := Q; cases o <;> exact ⟨rfl, rfl, rfl, .inl rfl⟩
  split
  · generalize immT r = Q at *; obtain ⟨o, ts⟩ := Q; cases o <;> exact ⟨rfl, rfl, rfl, .inl rfl⟩
  split
  · cases r with
    | nil => exact ⟨rfl, rfl, rfl, .inl rfl⟩
    | cons t ts =>
      by_cases hk : t.kind = 1
      · exact ⟨by simp [hk], by simp [hk], by simp [hk], by right; simp [hk]⟩
      · simp only [hk, if_false]
        generalize immT (t :: ts) = Q at *; obtain ⟨o, ts2⟩ := Q; cases o <;> exact ⟨rfl, rfl, rfl, .inl rfl⟩
  · exact ⟨rfl, rfl, rfl, .inl rfl⟩
theorem fieldsT_at : ∀ (l : List UInt8) (x : PartZ) (r : List Tok), (fieldsT l x r).2.1.at_ = x.at_ ∧ (fieldsT l x r).2.1.kind = x.kind ∧ (fieldsT l x r).2.1.name = x.name ∧ ((fieldsT l x r).2.1.target = x.target ∨ (fieldsT l x r).2.1.target ∈ r)
  | [], x, r => ⟨rfl, rfl, rfl, .inl rfl⟩
  | c :: cs, x, r => by
    unfold fieldsT
    obtain ⟨h1, h2, h3, h4⟩ := fieldT_at c.toNat x r
    have hs := fieldT_sub c.toNat x r
    split
    · obtain ⟨g1, g2, g3, g4⟩ := fieldsT_at cs (fieldT c.toNat x r).2.1 (fieldT c.toNat x r).2.2
      refine ⟨g1.trans h1, g2.trans h2, g3.trans h3, ?_⟩
      rcases g4 with g4 | g4
      · rcases h4 with h4 | h4
        · exact .inl (g4.trans h4)
        · exact .inr (by rw [g4]; exact h4)
      · exact .inr (hs.subset g4)
    · exact ⟨h1, h2, h3, h4⟩
theorem insT_sub (op : Int) (t : Tok) (r : List Tok) : Sub (insT op t.at_ r) (t :: r) := by
  have h1 := (fieldsT_sub (shapeZ op) ⟨2, t.at_, 0, [], ⟨op, 0, 0, 0, 0⟩, tok0⟩ r).map (·.at_)
  have h2 := (fieldsT_at (shapeZ op) ⟨2, t.at_, 0, [], ⟨op, 0, 0, 0, 0⟩, tok0⟩ r).1
  unfold insT Sub
  split
  · simp only [List.map_cons, List.map_nil, List.cons_append, List.nil_append, h2]
    exact List.Sublist.cons_cons _ h1
  · simp only [List.map_nil, List.nil_append, List.map_cons]
    exact List.Sublist.cons _ h1
theorem numT_sub (k : Int) (r : List Tok) : Sub (numT k r) r := by
  cases r with
  | nil => exact List.Sublist.refl _
  | cons t ts =>
    have h : numT k (t :: ts) = if t.kind = 2 then (true, ts, [⟨k, t.at_, t.num, [], ins0, tok0⟩]) else (false, t :: ts, []) := rfl
    rw [h]
    split
    · exact List.Sublist.refl _
    · exact List.Sublist.refl _
theorem byteF_sub : ∀ f ok r, Sub (byteF f ok r) r
  | 0, ok, r => Sub.id _ _
  | f + 1, ok, r => by
    unfold byteF
    split
    · split
      · have h1 : Sub ((signT [44] r).1, (signT [44] r).2, []) r := by unfold Sub; exact (signT_sub [44] r).map _
        have h2 := numT_sub 4 (signT [44] r).2
        have h3 := byteF_sub f (numT 4 (signT [44] r).2).1 (numT 4 (signT [44] r).2).2.1
        have h4 := Sub.append (b := (byteF f (numT 4 (signT [44] r).2).1 (numT 4 (signT [44] r).2).2.1).1) h2 h3
        have h5 := Sub.append (b := (byteF f (numT 4 (signT [44] r).2).1 (numT 4 (signT [44] r).2).2.1).1) h1 h4
        simpa only [List.nil_append] using h5
      · exact Sub.id _ _
    · exact Sub.id _ _
theorem bytesT_sub (r : List Tok) : Sub (bytesT r) r := by
  unfold bytesT
  exact Sub.append (numT_sub 4 r) (byteF_sub _ _ _)
theorem stmtT_sub (r : List Tok) : Sub (stmtT r) r := by
  cases r with
  | nil => exact List.Sublist.refl _
  | cons t ts =>
    by_cases h : t.kind = 1
    · rw [stmtT_one t ts h]
      split
      · exact insT_sub _ _ _
      split
      · exact (numT_sub 3 ts).trans (List.sublist_cons_self _ _)
      split
      · exact (bytesT_sub ts).trans (List.sublist_cons_self _ _)
      · exact Sub.id _ _
    · rw [stmtT_kind 0 (show (nextT (t :: ts) 0).kind ≠ 1 from h)]; exact Sub.id _ _
theorem labT_sub (r : List Tok) : Sub (labT r) r := by
  rcases r with _ | ⟨t, _ | ⟨c, ts⟩⟩
  · exact List.Sublist.refl _
  · exact List.Sublist.refl _
  · rw [labT_two]
    split
    · exact List.Sublist.cons_cons _ (List.sublist_cons_self _ _)
    · exact Sub.id _ _
theorem labelsF_sub : ∀ f r, Sub (true, (labelsF f r).1, (labelsF f r).2) r
  | 0, r => Sub.id _ _
  | f + 1, r => by
    rw [labelsF_lab]
    split
    · exact Sub.append (labT_sub r) (labelsF_sub f _)
    · exact Sub.id _ _
theorem endT_sub (r : List Tok) : (endT r).2.Sublist r := by
  cases r with
  | nil => exact List.Sublist.refl _
  | cons t ts =>
    have h : endT (t :: ts) = if t.kind = 4 then (true, ts) else (false, t :: ts) := rfl
    rw [h]; split
    · exact List.sublist_cons_self _ _
    · exact List.Sublist.refl _
theorem lineT_sub (r : List Tok) : Sub (lineT r) r := by
  have h1 := labelsF_sub r.length r
  have h2 := stmtT_sub (labelsF r.length r).1
  have h3 := (endT_sub (stmtT (labelsF r.length r).1).2.1).map (·.at_)
  unfold lineT
  split
  · have h4 := Sub.append (b := true) h1 h2
    unfold Sub at h4 ⊢
    exact (List.Sublist.append_left h3 _).trans h4
  · exact Sub.append (b := false) h1 h2
theorem textF_sub : ∀ f r, Sub (textF f r) r
  | 0, r => Sub.id _ _
  | f + 1, r => by
    unfold textF
    split
    · rename_i h; subst h; exact Sub.id _ _
    · split
      · exact Sub.append (lineT_sub r) (textF_sub f _)
      · exact lineT_sub r
/-! ### what parts are -/
def PartOk (x : PartZ) : Prop := x.name.length ≤ 1000000 ∧ x.target.text.length ≤ 1000000
theorem part_num {k n : Int} {a : Nat} : PartOk ⟨k, a, n, [], ins0, tok0⟩ := ⟨by simp, by simp⟩
theorem insT_ok (op : Int) (at_ : Nat) (r : List Tok) (h : ∀ t ∈ r, TokIn t) : (∀ x ∈ (insT op at_ r).2.2, PartOk x) ∧ ∀ t ∈ (insT op at_ r).2.1, TokIn t := by
  have h1 := fieldsT_sub (shapeZ op) ⟨2, at_, 0, [], ⟨op, 0, 0, 0, 0⟩, tok0⟩ r
  obtain ⟨_, _, h2, h3⟩ := fieldsT_at (shapeZ op) ⟨2, at_, 0, [], ⟨op, 0, 0, 0, 0⟩, tok0⟩ r
  unfold insT
  split
  · refine ⟨fun x hx => ?_, fun t ht => h t (h1.subset ht)⟩
    rw [List.mem_singleton.1 hx]
    refine ⟨by rw [h2]; simp, ?_⟩
    rcases h3 with h3 | h3
    · rw [h3]; simp
    · exact (h _ h3).text
  · exact ⟨fun x hx => by simp at hx, fun t ht => h t (h1.subset ht)⟩
theorem numT_ok (k : Int) (r : List Tok) (h : ∀ t ∈ r, TokIn t) : (∀ x ∈ (numT k r).2.2, PartOk x) ∧ ∀ t ∈ (numT k r).2.1, TokIn t := by
  cases r with
  | nil => exact ⟨fun x hx => by simp [numT] at hx, h⟩
  | cons t ts =>
    have e : numT k (t :: ts) = if t.kind = 2 then (true, ts, [⟨k, t.at_, t.num, [], ins0, tok0⟩]) else (false, t :: ts, []) := rfl
    rw [e]
    split
    · refine ⟨fun x hx => ?_, fun u hu => h u (List.mem_cons_of_mem _ hu)⟩
      rw [List.mem_singleton.1 hx]; exact part_num
    · exact ⟨fun x hx => by simp at hx, h⟩
theorem byteF_ok : ∀ f ok r, (∀ t ∈ r, TokIn t) → (∀ x ∈ (byteF f ok r).2.2, PartOk x) ∧ ∀ t ∈ (byteF f ok r).2.1, TokIn t
  | 0, ok, r, h => ⟨fun x hx => by simp [byteF] at hx, h⟩
  | f + 1, ok, r, h => by
    unfold byteF
    split
    · split
      · obtain ⟨a1, a2⟩ := numT_ok 4 (signT [44] r).2 (fun t ht => h t ((signT_sub [44] r).subset ht))
        obtain ⟨b1, b2⟩ := byteF_ok f (numT 4 (signT [44] r).2).1 (numT 4 (signT [44] r).2).2.1 a2
        refine ⟨fun x hx => ?_, b2⟩
        rcases List.mem_append.1 hx with hx | hx
        · exact a1 x hx
        · exact b1 x hx
      · exact ⟨fun x hx => by simp at hx, h⟩
    · exact ⟨fun x hx => by simp at hx, h⟩
theorem bytesT_ok (r : List Tok) (h : ∀ t ∈ r, TokIn t) : (∀ x ∈ (bytesT r).2.2, PartOk x) ∧ ∀ t ∈ (bytesT r).2.1, TokIn t := by
  unfold bytesT
  obtain ⟨a1, a2⟩ := numT_ok 4 r h
  obtain ⟨b1, b2⟩ := byteF_ok r.length (numT 4 r).1 (numT 4 r).2.1 a2
  refine ⟨fun x hx => ?_, b2⟩
  rcases List.mem_append.1 hx with hx | hx
  · exact a1 x hx
  · exact b1 x hx
theorem stmtT_ok (r : List Tok) (h : ∀ t ∈ r, TokIn t) : (∀ x ∈ (stmtT r).2.2, PartOk x) ∧ ∀ t ∈ (stmtT r).2.1, TokIn t := by
  cases r with
  | nil => exact ⟨fun x hx => by simp [stmtT] at hx, h⟩
  | cons t ts =>
    have hts : ∀ u ∈ ts, TokIn u := fun u hu => h u (List.mem_cons_of_mem _ hu)
    by_cases hk : t.kind = 1
    · rw [stmtT_one t ts hk]
      split
      · exact insT_ok _ _ _ hts
      split
      · exact numT_ok _ _ hts
      split
      · exact bytesT_ok _ hts
      · exact ⟨fun x hx => by simp at hx, h⟩
    · rw [stmtT_kind 0 (show (nextT (t :: ts) 0).kind ≠ 1 from hk)]; exact ⟨fun x hx => by simp at hx, h⟩
theorem labT_ok (r : List Tok) (h : ∀ t ∈ r, TokIn t) : (∀ x ∈ (labT r).2.2, PartOk x) ∧ ∀ t ∈ (labT r).2.1, TokIn t := by
  rcases r with _ | ⟨t, _ | ⟨c, ts⟩⟩
  · exact ⟨fun x hx => by simp [labT, labelT] at hx, h⟩
  · exact ⟨fun x hx => by simp [labT, labelT] at hx, h⟩
  · rw [labT_two]
    split
    · refine ⟨fun x hx => ?_, fun u hu => h u (List.mem_cons_of_mem _ (List.mem_cons_of_mem _ hu))⟩
      rw [List.mem_singleton.1 hx]
      exact ⟨(h t (by simp)).text, by simp⟩
    · exact ⟨fun x hx => by simp at hx, h⟩
theorem labelsF_ok : ∀ f r, (∀ t ∈ r, TokIn t) → (∀ x ∈ (labelsF f r).2, PartOk x) ∧ ∀ t ∈ (labelsF f r).1, TokIn t
  | 0, r, h => ⟨fun x hx => by simp [labelsF] at hx, h⟩
  | f + 1, r, h => by
    rw [labelsF_lab]
    split
    · obtain ⟨a1, a2⟩ := labT_ok r h
      obtain ⟨b1, b2⟩ := labelsF_ok f _ a2
      refine ⟨fun x hx => ?_, b2⟩
      rcases List.mem_append.1 hx with hx | hx
      · exact a1 x hx
      · exact b1 x hx
    · exact ⟨fun x hx => by simp at hx, h⟩
theorem lineT_ok (r : List Tok) (h : ∀ t ∈ r, TokIn t) : (∀ x ∈ (lineT r).2.2, PartOk x) ∧ ∀ t ∈ (lineT r).2.1, TokIn t := by
  obtain ⟨a1, a2⟩ := labelsF_ok r.length r h
  obtain ⟨b1, b2⟩ := stmtT_ok _ a2
  have hp : ∀ x ∈ (labelsF r.length r).2 ++ (stmtT (labelsF r.length r).1).2.2, PartOk x := by
    intro x hx
    rcases List.mem_append.1 hx with hx | hx
    · exact a1 x hx
    · exact b1 x hx
  unfold lineT
  split
  · exact ⟨hp, fun t ht => b2 t ((endT_sub _).subset ht)⟩
  · exact ⟨hp, b2⟩
theorem textF_ok : ∀ f r, (∀ t ∈ r, TokIn t) → (∀ x ∈ (textF f r).2.2, PartOk x)
  | 0, r, h => fun x hx => by simp [textF] at hx
  | f + 1, r, h => by
    unfold textF
    split
    · exact fun x hx => by simp at hx
    · obtain ⟨a1, a2⟩ := lineT_ok r h
      split
      · intro x hx
        rcases List.mem_append.1 hx with hx | hx
        · exact a1 x hx
        · exact textF_ok f _ a2 x hx
      · exact a1
theorem textF_len : ∀ f r, (textF f r).2.2.length + (textF f r).2.1.length ≤ r.length
  | 0, r => by simp [textF]
  | f + 1, r => by
    unfold textF
    split
    · simp
    · have h1 := lineT_len r
      split
      · have h2 := textF_len f (lineT r).2.1
        simp only [List.length_append]; omega
      · exact h1
/-- The parts of a text begin one behind the other. -/
theorem parts_order {t : List Tok} (h : (t.map (·.at_)).Pairwise (· < ·)) : ((textT t).2.2.map (·.at_)).Pairwise (· < ·) :=
  (List.pairwise_append.1 (List.Pairwise.sublist (textF_sub _ t) h)).1

/-- A part laid by the first labels of all is one laid behind those ahead of it. -/
theorem layF_step {pre xs : List PartZ} {x : PartZ} (p : Prog) (ho : ((pre ++ x :: xs).map (·.at_)).Pairwise (· < ·)) :
    layF (pre ++ x :: xs) pre (x :: xs) p = match lay1 (fun t => firstL t (pre ++ x :: xs) 0) x p with | .bad a e => .bad a e | .ok p' => layF (pre ++ x :: xs) (pre ++ [x]) xs p' := by
  have hd : ∀ y ∈ pre, y.at_ ≠ x.at_ := by
    intro y hy
    rw [List.map_append, List.pairwise_append] at ho
    have := ho.2.2 y.at_ (List.mem_map_of_mem hy) x.at_ (by simp)
    omega
  conv => lhs; unfold layF
  unfold lay1
  by_cases h1 : x.kind = 1
  · rw [if_pos h1, if_pos h1]
    have hh := firstL_has x.name pre 0
    have hf : firstL x.name (pre ++ x :: xs) 0 = match firstL x.name pre 0 with | some r => some r | none => some ((x.at_ : Int), (0 : Int) + nIns pre) := by
      rw [firstL_append, firstL_cons, if_pos ⟨h1, rfl⟩]
      cases firstL x.name pre 0 <;> rfl
    simp only [hf]
    cases hq : firstL x.name pre 0 with
    | none =>
      rw [hq] at hh
      rw [← hh]
      simp
    | some r =>
      rw [hq] at hh
      rw [← hh]
      obtain ⟨a, q⟩ := r
      obtain ⟨_, _, y, hy, _, _, hya⟩ := firstL_in hq
      have := hd y hy
      have hne : a ≠ (x.at_ : Int) := by omega
      simp [hne]
  · rw [if_neg h1, if_neg h1]
    by_cases h3 : x.kind = 3
    · rw [if_pos h3, if_pos h3]
    · rw [if_neg h3, if_neg h3]
      by_cases h4 : x.kind = 4
      · rw [if_pos h4, if_pos h4]
        by_cases hb : x.num < 0 ∨ 255 < x.num
        · rw [if_pos hb, if_pos hb]
        · rw [if_neg hb, if_neg hb]
      · rw [if_neg h4, if_neg h4]
        by_cases h2 : x.kind = 2
        · rw [if_pos h2, if_pos h2]
          unfold aimZ ins1
          by_cases ht : x.target.kind = 1
          · rw [if_pos ht, if_pos ht, firstL_place]
            cases hq : firstL x.target.text (pre ++ x :: xs) 0 with
            | none => simp [hq]
            | some r =>
              unfold put1
              cases hrt : rightB { x.ins with imm := r.2 - p.code.length } <;> simp [hrt, hq]
          · rw [if_neg ht, if_neg ht]
            unfold put1
            cases hrt : rightB x.ins <;> simp [hrt]
        · rw [if_neg h2, if_neg h2]
theorem lay1_len {f : List UInt8 → Option (Int × Int)} {x : PartZ} {p p' : Prog} (h : lay1 f x p = .ok p') : p'.code.length ≤ p.code.length + (if x.kind = 2 then 1 else 0) ∧ p'.data.length ≤ p.data.length + 1 := by
  unfold lay1 ins1 put1 at h
  repeat' split at h
  all_goals first
    | (cases h; done)
    | (injection h with h; subst h; simp_all; try omega)
end Go.Proofs.YtimdojeagkbgbaaDoor.Words

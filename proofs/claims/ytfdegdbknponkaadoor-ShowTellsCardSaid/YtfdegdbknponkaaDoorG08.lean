/- Several texts in one: AsmReadMath, AsmSayEnd, ImgMath, SayLines, LexAlive, LexDec, SayShow. -/
import Derived.Test.YtfdegdbknponkaaDoorG07
import Derived.Test.YtfdegdbknponkaaDoorG01
import Derived.Test.YtfdegdbknponkaaDoorG04
import Derived.Deep.QuietTactic
import Derived.BigQuiet
import Derived.Test.YtfdegdbknponkaaDoorG00
import Derived.Test.YtfdegdbknponkaaDoorG06

/- What a text's program is: plain mathematics. -/
namespace Go.Proofs.YtfdegdbknponkaaDoor.Words
set_option maxRecDepth 100000
open Go.RowKit Go.Shelf Go.Lib
set_option linter.unusedVariables false
set_option linter.unusedSimpArgs false

def checkZ (p : Prog) : AsmR := if targetsOk p.code.length 0 p.code = false then .bad 0 4 else if rightZ p.code p.size p.data.length = true then .ok p else .bad 0 1
def endZ (Z : AsmR) : AsmR := match Z with | .bad a e => .bad a e | .ok p => checkZ p
def partsZ (n : Nat) (Z : Bool × List Tok × List PartZ) : AsmR := if Z.1 = true then endZ (layF Z.2.2 [] Z.2.2 ⟨[], 0, []⟩) else .bad (headAt Z.2.1 n) 5
/-- What a text is. -/
def asmZ (l : List UInt8) : AsmR := match lexZ l with | .bad a e => .bad a e | .toks t => partsZ l.length (textT t)

/-! ### what holds of each token -/
theorem lexF_all (l : List UInt8) (P : Tok → Prop) (h : ∀ p x, p < l.length → (takeZ l p x).1 = 0 → (∀ t ∈ x.toks, P t) → ∀ t ∈ (takeZ l p x).2.toks, P t) : ∀ f p x, (∀ t ∈ x.toks, P t) → ∀ ts, lexF l f p x = .toks ts → ∀ k ∈ ts, P k
  | 0, p, x, hx, ts, he => by unfold lexF at he; injection he with he; subst he; exact hx
  | f + 1, p, x, hx, ts, he => by
    unfold lexF at he
    split at he
    · rename_i hp
      split at he
      · exact lexF_all l P h f _ x hx ts he
      · split at he
        · rename_i h0
          exact lexF_all l P h f _ _ (h p x hp h0 hx) ts he
        · cases he
    · injection he with he; subst he; exact hx
theorem add_all {P : Tok → Prop} {l : List UInt8} {k n : Int} {p s : Nat} {x : LexS} (hx : ∀ t ∈ x.toks, P t) (h : P ⟨k, n, p, (l.drop p).take s⟩) : ∀ t ∈ (addZ l k n p s x).toks, P t := by
  intro t ht
  unfold addZ at ht
  rcases List.mem_append.1 ht with ht | ht
  · exact hx t ht
  · rw [List.mem_singleton.1 ht]; exact h
theorem take_all {P : Tok → Prop} {l : List UInt8} {p : Nat} {x : LexS} (hx : ∀ t ∈ x.toks, P t) (h0 : (takeZ l p x).1 = 0)
    (h4 : runeR (l.drop p) = 10 → P ⟨4, 0, p, (l.drop p).take 1⟩) (h1 : firstR (runeR (l.drop p)) = true → P ⟨1, 0, p, (l.drop p).take (nameZ (l.drop p))⟩) (h3 : signR (runeR (l.drop p)) = true → P ⟨3, 0, p, (l.drop p).take 1⟩)
    (h2 : -4294967296 ≤ (numZ (l.drop p)).1 → (numZ (l.drop p)).1 ≤ 4294967296 → P ⟨2, (numZ (l.drop p)).1, p, (l.drop p).take (numZ (l.drop p)).2⟩) : ∀ t ∈ (takeZ l p x).2.toks, P t := by
  unfold takeZ at h0 ⊢
  split
  · exact hx
  split
  · rename_i hr
    unfold lineZ
    split
    · exact add_all hx (h4 hr)
    · exact hx
  split
  · exact hx
  split
  · exact hx
  split
  · rename_i hf; exact add_all hx (h1 hf)
  split
  · rename_i hs; exact add_all hx (h3 hs)
  · unfold numberZ at h0 ⊢
    split
    · exact hx
    split
    · exact hx
    · rename_i hn; exact add_all hx (h2 (by omega) (by omega))
theorem lexZ_toks {l : List UInt8} {t : List Tok} (h : lexZ l = .toks t) : l.length ≤ 20000 ∧ lexF l l.length 0 ⟨0, false, []⟩ = .toks t := by
  unfold lexZ at h
  by_cases hl : 20000 < l.length
  · rw [if_pos hl] at h; cases h
  · rw [if_neg hl] at h; exact ⟨by omega, h⟩
theorem lex_good {l : List UInt8} {t : List Tok} (h : lexZ l = .toks t) : ∀ i k, t[i]? = some k → Stands l t i k := by
  have h2 := lexZ_good (l := l) (lexZ_toks h).1
  rw [h] at h2
  exact h2
theorem lex_in {l : List UInt8} {t : List Tok} (h : lexZ l = .toks t) : ∀ k ∈ t, TokIn k := by
  obtain ⟨h1, h2⟩ := lexZ_toks h
  have hnum : ∀ k ∈ t, -4294967296 ≤ k.num ∧ k.num ≤ 4294967296 :=
    lexF_all l (fun k => -4294967296 ≤ k.num ∧ k.num ≤ 4294967296) (fun p x hp h0 hx => take_all hx h0 (fun _ => by simp) (fun _ => by simp) (fun _ => by simp) (fun a b => ⟨a, b⟩)) _ _ _ (by simp) t h2
  intro k hk
  obtain ⟨i, hi⟩ := List.mem_iff_getElem?.1 hk
  have hs := (lex_good h i k hi).fits
  obtain ⟨q1, q2⟩ := hnum k hk
  exact ⟨by omega, by omega, q1, q2⟩
theorem lex_order {l : List UInt8} {t : List Tok} (h : lexZ l = .toks t) : (t.map (·.at_)).Pairwise (· < ·) := by
  have hg := lex_good h
  have key : ∀ (j i : Nat), i < j → ∀ (a b : Tok), t[i]? = some a → t[j]? = some b → a.at_ < b.at_ := by
    intro j
    induction j with
    | zero => intro i hi; omega
    | succ j ih =>
      intro i hi a b ha hb
      obtain ⟨c, hc⟩ : ∃ c, t[j]? = some c := ⟨_, List.getElem?_eq_getElem (by have := (List.getElem?_eq_some_iff.1 hb).1; omega)⟩
      have h1 := (hg (j + 1) b hb).from_
      rw [endOf_succ, hc] at h1
      have h2 := (hg j c hc).some_
      have h3 : 0 < c.text.length := List.length_pos_iff.2 h2
      have h4 : c.at_ + c.text.length ≤ b.at_ := h1
      by_cases hij : i = j
      · subst hij; rw [ha] at hc; injection hc with hc; subst hc; omega
      · have := ih i (by omega) a c ha hc; omega
  rw [List.pairwise_map, List.pairwise_iff_getElem]
  intro i j hi hj hij
  exact key j i hij _ _ (List.getElem?_eq_getElem hi) (List.getElem?_eq_getElem hj)
theorem lex_len {l : List UInt8} {t : List Tok} (h : lexZ l = .toks t) : t.length ≤ l.length := by
  have hg := lex_good h
  have key : ∀ (j : Nat) (b : Tok), t[j]? = some b → j ≤ b.at_ := by
    intro j
    induction j with
    | zero => intro b hb; omega
    | succ j ih =>
      intro b hb
      obtain ⟨c, hc⟩ : ∃ c, t[j]? = some c := ⟨_, List.getElem?_eq_getElem (by have := (List.getElem?_eq_some_iff.1 hb).1; omega)⟩
      have h1 := (hg (j + 1) b hb).from_
      rw [endOf_succ, hc] at h1
      have h3 : 0 < c.text.length := List.length_pos_iff.2 (hg j c hc).some_
      have h4 : c.at_ + c.text.length ≤ b.at_ := h1
      have := ih c hc; omega
  cases hn : t.length with
  | zero => exact Nat.zero_le _
  | succ n =>
    obtain ⟨c, hc⟩ : ∃ c, t[n]? = some c := ⟨_, List.getElem?_eq_getElem (by omega)⟩
    have h1 := key n c hc
    have h2 := (hg n c hc).fits
    have h3 : 0 < c.text.length := List.length_pos_iff.2 (hg n c hc).some_
    omega

/-! ### where the parts of a text begin -/
def Sub (Z : Bool × List Tok × List PartZ) (r : List Tok) : Prop := (Z.2.2.map (·.at_) ++ Z.2.1.map (·.at_)).Sublist (r.map (·.at_))
theorem Sub.id (b : Bool) (r : List Tok) : Sub (b, r, []) r := List.Sublist.refl _
theorem Sub.append {Z Y : Bool × List Tok × List PartZ} {r : List Tok} {b : Bool} (h : Sub Z r) (g : Sub Y Z.2.1) : Sub (b, Y.2.1, Z.2.2 ++ Y.2.2) r := by
  unfold Sub at *
  simp only [List.map_append, List.append_assoc]
  exact (List.Sublist.append_left g _).trans h
theorem regT_sub (r : List Tok) : (regT r).2.Sublist r := by
  cases r with
  | nil => exact List.Sublist.refl _
  | cons t ts =>
    have h : regT (t :: ts) = match regZ t.text with | some n => (some n, ts) | none => (none, t :: ts) := rfl
    rw [h]
    cases regZ t.text with
    | none => exact List.Sublist.refl _
    | some n => exact List.sublist_cons_self _ _
theorem immT_sub (r : List Tok) : (immT r).2.Sublist r := by
  cases r with
  | nil => exact List.Sublist.refl _
  | cons t ts =>
    have h : immT (t :: ts) = if t.kind = 2 then (some t.num, ts) else (none, t :: ts) := rfl
    rw [h]
    split
    · exact List.sublist_cons_self _ _
    · exact List.Sublist.refl _
theorem signT_sub (c : List UInt8) (r : List Tok) : (signT c r).2.Sublist r := by
  cases r with
  | nil => exact List.Sublist.refl _
  | cons t ts =>
    have h : signT c (t :: ts) = if isS t c = true then (true, ts) else (false, t :: ts) := rfl
    rw [h]
    split
    · exact List.sublist_cons_self _ _
    · exact List.Sublist.refl _
theorem fieldT_sub (c : Int) (x : PartZ) (r : List Tok) : (fieldT c x r).2.2.Sublist r := by
  have h1 := regT_sub r
  have h2 := immT_sub r
  have h3 := signT_sub [UInt8.ofNat c.toNat] r
  unfold fieldT
  split
  · generalize regT r = Q at *; obtain ⟨o, ts⟩ := Q; cases o <;> exact h1
  split
  · generalize regT r = Q at *; obtain ⟨o, ts⟩ := Q; cases o <;> exact h1
  split
  · generalize regT r = Q at *; obtain ⟨o, ts⟩ := Q; cases o <;> exact h1
  split
  · generalize immT r = Q at *; obtain ⟨o, ts⟩ := Q; cases o <;> exact h2
  split
  · cases r with
    | nil => exact List.Sublist.refl _
    | cons t ts =>
      by_cases hk : t.kind = 1
      · simp only [hk, if_true]; exact List.sublist_cons_self _ _
      · simp only [hk, if_false]
        generalize immT (t :: ts) = Q at *; obtain ⟨o, ts2⟩ := Q; cases o <;> exact h2
  · exact h3
theorem fieldsT_sub : ∀ (l : List UInt8) (x : PartZ) (r : List Tok), (fieldsT l x r).2.2.Sublist r
  | [], x, r => List.Sublist.refl _
  | c :: cs, x, r => by
    unfold fieldsT
    have h1 := fieldT_sub c.toNat x r
    split
    · exact (fieldsT_sub cs _ _).trans h1
    · exact h1
theorem fieldT_at (c : Int) (x : PartZ) (r : List Tok) : (fieldT c x r).2.1.at_ = x.at_ ∧ (fieldT c x r).2.1.kind = x.kind ∧ (fieldT c x r).2.1.name = x.name ∧ ((fieldT c x r).2.1.target = x.target ∨ (fieldT c x r).2.1.target ∈ r) := by
  unfold fieldT
  split
  · generalize regT r = Q at *; obtain ⟨o, ts⟩ := Q; cases o <;> exact ⟨rfl, rfl, rfl, .inl rfl⟩
  split
  · generalize regT r = Q at *; obtain ⟨o, ts⟩ := Q; cases o <;> exact ⟨rfl, rfl, rfl, .inl rfl⟩
  split
  · generalize regT r = Q at *; obtain ⟨o, ts⟩ := Q; cases o <;> exact ⟨rfl, rfl, rfl, .inl rfl⟩
  split
  · generalize immT r = Q at *; obtain ⟨o, ts⟩ := Q; cases o <;> exact ⟨rfl, rfl, rfl, .inl rfl⟩
  split
  · cases r with
    | nil => exact ⟨rfl, rfl, rfl, .inl rfl⟩
    | cons t ts =>
      by_cases hk : t.kind = 1
      · exact ⟨by simp [hk], by simp [hk], by simp [hk], by right; simp [hk]⟩
      · simp only [hk, if_false]
        generalize immT (t :: ts) = Q at *; obtain ⟨o, ts2⟩ := Q; cases o <;> exact ⟨rfl, rfl, rfl, .inl rfl⟩
  · exact ⟨rfl, rfl, rfl, .inl rfl⟩
theorem fieldsT_at : ∀ (l : List UInt8) (x : PartZ) (r : List Tok), (fieldsT l x r).2.1.at_ = x.at_ ∧ (fieldsT l x r).2.1.kind = x.kind ∧ (fieldsT l x r).2.1.name = x.name ∧ ((fieldsT l x r).2.1.target = x.target ∨ (fieldsT l x r).2.1.target ∈ r)
  | [], x, r => ⟨rfl, rfl, rfl, .inl rfl⟩
  | c :: cs, x, r => by
    unfold fieldsT
    obtain ⟨h1, h2, h3, h4⟩ := fieldT_at c.toNat x r
    have hs := fieldT_sub c.toNat x r
    split
    · obtain ⟨g1, g2, g3, g4⟩ := fieldsT_at cs (fieldT c.toNat x r).2.1 (fieldT c.toNat x r).2.2
      refine ⟨g1.trans h1, g2.trans h2, g3.trans h3, ?_⟩
      rcases g4 with g4 | g4
      · rcases h4 with h4 | h4
        · exact .inl (g4.trans h4)
        · exact .inr (by rw [g4]; exact h4)
      · exact .inr (hs.subset g4)
    · exact ⟨h1, h2, h3, h4⟩
theorem insT_sub (op : Int) (t : Tok) (r : List Tok) : Sub (insT op t.at_ r) (t :: r) := by
  have h1 := (fieldsT_sub (shapeZ op) ⟨2, t.at_, 0, [], ⟨op, 0, 0, 0, 0⟩, tok0⟩ r).map (·.at_)
  have h2 := (fieldsT_at (shapeZ op) ⟨2, t.at_, 0, [], ⟨op, 0, 0, 0, 0⟩, tok0⟩ r).1
  unfold insT Sub
  split
  · simp only [List.map_cons, List.map_nil, List.cons_append, List.nil_append, h2]
    exact List.Sublist.cons_cons _ h1
  · simp only [List.map_nil, List.nil_append, List.map_cons]
    exact List.Sublist.cons _ h1
theorem numT_sub (k : Int) (r : List Tok) : Sub (numT k r) r := by
  cases r with
  | nil => exact List.Sublist.refl _
  | cons t ts =>
    have h : numT k (t :: ts) = if t.kind = 2 then (true, ts, [⟨k, t.at_, t.num, [], ins0, tok0⟩]) else (false, t :: ts, []) := rfl
    rw [h]
    split
    · exact List.Sublist.refl _
    · exact List.Sublist.refl _
theorem byteF_sub : ∀ f ok r, Sub (byteF f ok r) r
  | 0, ok, r => Sub.id _ _
  | f + 1, ok, r => by
    unfold byteF
    split
    · split
      · have h1 : Sub ((signT [44] r).1, (signT [44] r).2, []) r := by unfold Sub; exact (signT_sub [44] r).map _
        have h2 := numT_sub 4 (signT [44] r).2
        have h3 := byteF_sub f (numT 4 (signT [44] r).2).1 (numT 4 (signT [44] r).2).2.1
        have h4 := Sub.append (b := (byteF f (numT 4 (signT [44] r).2).1 (numT 4 (signT [44] r).2).2.1).1) h2 h3
        have h5 := Sub.append (b := (byteF f (numT 4 (signT [44] r).2).1 (numT 4 (signT [44] r).2).2.1).1) h1 h4
        simpa only [List.nil_append] using h5
      · exact Sub.id _ _
    · exact Sub.id _ _
theorem bytesT_sub (r : List Tok) : Sub (bytesT r) r := by
  unfold bytesT
  exact Sub.append (numT_sub 4 r) (byteF_sub _ _ _)
theorem stmtT_sub (r : List Tok) : Sub (stmtT r) r := by
  cases r with
  | nil => exact List.Sublist.refl _
  | cons t ts =>
    by_cases h : t.kind = 1
    · rw [stmtT_one t ts h]
      split
      · exact insT_sub _ _ _
      split
      · exact (numT_sub 3 ts).trans (List.sublist_cons_self _ _)
      split
      · exact (bytesT_sub ts).trans (List.sublist_cons_self _ _)
      · exact Sub.id _ _
    · rw [stmtT_kind 0 (show (nextT (t :: ts) 0).kind ≠ 1 from h)]; exact Sub.id _ _
theorem labT_sub (r : List Tok) : Sub (labT r) r := by
  rcases r with _ | ⟨t, _ | ⟨c, ts⟩⟩
  · exact List.Sublist.refl _
  · exact List.Sublist.refl _
  · rw [labT_two]
    split
    · exact List.Sublist.cons_cons _ (List.sublist_cons_self _ _)
    · exact Sub.id _ _
theorem labelsF_sub : ∀ f r, Sub (true, (labelsF f r).1, (labelsF f r).2) r
  | 0, r => Sub.id _ _
  | f + 1, r => by
    rw [labelsF_lab]
    split
    · exact Sub.append (labT_sub r) (labelsF_sub f _)
    · exact Sub.id _ _
theorem endT_sub (r : List Tok) : (endT r).2.Sublist r := by
  cases r with
  | nil => exact List.Sublist.refl _
  | cons t ts =>
    have h : endT (t :: ts) = if t.kind = 4 then (true, ts) else (false, t :: ts) := rfl
    rw [h]; split
    · exact List.sublist_cons_self _ _
    · exact List.Sublist.refl _
theorem lineT_sub (r : List Tok) : Sub (lineT r) r := by
  have h1 := labelsF_sub r.length r
  have h2 := stmtT_sub (labelsF r.length r).1
  have h3 := (endT_sub (stmtT (labelsF r.length r).1).2.1).map (·.at_)
  unfold lineT
  split
  · have h4 := Sub.append (b := true) h1 h2
    unfold Sub at h4 ⊢
    exact (List.Sublist.append_left h3 _).trans h4
  · exact Sub.append (b := false) h1 h2
theorem textF_sub : ∀ f r, Sub (textF f r) r
  | 0, r => Sub.id _ _
  | f + 1, r => by
    unfold textF
    split
    · rename_i h; subst h; exact Sub.id _ _
    · split
      · exact Sub.append (lineT_sub r) (textF_sub f _)
      · exact lineT_sub r
/-! ### what parts are -/
def PartOk (x : PartZ) : Prop := x.name.length ≤ 1000000 ∧ x.target.text.length ≤ 1000000
theorem part_num {k n : Int} {a : Nat} : PartOk ⟨k, a, n, [], ins0, tok0⟩ := ⟨by simp, by simp⟩
theorem insT_ok (op : Int) (at_ : Nat) (r : List Tok) (h : ∀ t ∈ r, TokIn t) : (∀ x ∈ (insT op at_ r).2.2, PartOk x) ∧ ∀ t ∈ (insT op at_ r).2.1, TokIn t := by
  have h1 := fieldsT_sub (shapeZ op) ⟨2, at_, 0, [], ⟨op, 0, 0, 0, 0⟩, tok0⟩ r
  obtain ⟨_, _, h2, h3⟩ := fieldsT_at (shapeZ op) ⟨2, at_, 0, [], ⟨op, 0, 0, 0, 0⟩, tok0⟩ r
  unfold insT
  split
  · refine ⟨fun x hx => ?_, fun t ht => h t (h1.subset ht)⟩
    rw [List.mem_singleton.1 hx]
    refine ⟨by rw [h2]; simp, ?_⟩
    rcases h3 with h3 | h3
    · rw [h3]; simp
    · exact (h _ h3).text
  · exact ⟨fun x hx => by simp at hx, fun t ht => h t (h1.subset ht)⟩
theorem numT_ok (k : Int) (r : List Tok) (h : ∀ t ∈ r, TokIn t) : (∀ x ∈ (numT k r).2.2, PartOk x) ∧ ∀ t ∈ (numT k r).2.1, TokIn t := by
  cases r with
  | nil => exact ⟨fun x hx => by simp [numT] at hx, h⟩
  | cons t ts =>
    have e : numT k (t :: ts) = if t.kind = 2 then (true, ts, [⟨k, t.at_, t.num, [], ins0, tok0⟩]) else (false, t :: ts, []) := rfl
    rw [e]
    split
    · refine ⟨fun x hx => ?_, fun u hu => h u (List.mem_cons_of_mem _ hu)⟩
      rw [List.mem_singleton.1 hx]; exact part_num
    · exact ⟨fun x hx => by simp at hx, h⟩
theorem byteF_ok : ∀ f ok r, (∀ t ∈ r, TokIn t) → (∀ x ∈ (byteF f ok r).2.2, PartOk x) ∧ ∀ t ∈ (byteF f ok r).2.1, TokIn t
  | 0, ok, r, h => ⟨fun x hx => by simp [byteF] at hx, h⟩
  | f + 1, ok, r, h => by
    unfold byteF
    split
    · split
      · obtain ⟨a1, a2⟩ := numT_ok 4 (signT [44] r).2 (fun t ht => h t ((signT_sub [44] r).subset ht))
        obtain ⟨b1, b2⟩ := byteF_ok f (numT 4 (signT [44] r).2).1 (numT 4 (signT [44] r).2).2.1 a2
        refine ⟨fun x hx => ?_, b2⟩
        rcases List.mem_append.1 hx with hx | hx
        · exact a1 x hx
        · exact b1 x hx
      · exact ⟨fun x hx => by simp at hx, h⟩
    · exact ⟨fun x hx => by simp at hx, h⟩
theorem bytesT_ok (r : List Tok) (h : ∀ t ∈ r, TokIn t) : (∀ x ∈ (bytesT r).2.2, PartOk x) ∧ ∀ t ∈ (bytesT r).2.1, TokIn t := by
  unfold bytesT
  obtain ⟨a1, a2⟩ := numT_ok 4 r h
  obtain ⟨b1, b2⟩ := byteF_ok r.length (numT 4 r).1 (numT 4 r).2.1 a2
  refine ⟨fun x hx => ?_, b2⟩
  rcases List.mem_append.1 hx with hx | hx
  · exact a1 x hx
  · exact b1 x hx
theorem stmtT_ok (r : List Tok) (h : ∀ t ∈ r, TokIn t) : (∀ x ∈ (stmtT r).2.2, PartOk x) ∧ ∀ t ∈ (stmtT r).2.1, TokIn t := by
  cases r with
  | nil => exact ⟨fun x hx => by simp [stmtT] at hx, h⟩
  | cons t ts =>
    have hts : ∀ u ∈ ts, TokIn u := fun u hu => h u (List.mem_cons_of_mem _ hu)
    by_cases hk : t.kind = 1
    · rw [stmtT_one t ts hk]
      split
      · exact insT_ok _ _ _ hts
      split
      · exact numT_ok _ _ hts
      split
      · exact bytesT_ok _ hts
      · exact ⟨fun x hx => by simp at hx, h⟩
    · rw [stmtT_kind 0 (show (nextT (t :: ts) 0).kind ≠ 1 from hk)]; exact ⟨fun x hx => by simp at hx, h⟩
theorem labT_ok (r : List Tok) (h : ∀ t ∈ r, TokIn t) : (∀ x ∈ (labT r).2.2, PartOk x) ∧ ∀ t ∈ (labT r).2.1, TokIn t := by
  rcases r with _ | ⟨t, _ | ⟨c, ts⟩⟩
  · exact ⟨fun x hx => by simp [labT, labelT] at hx, h⟩
  · exact ⟨fun x hx => by simp [labT, labelT] at hx, h⟩
  · rw [labT_two]
    split
    · refine ⟨fun x hx => ?_, fun u hu => h u (List.mem_cons_of_mem _ (List.mem_cons_of_mem _ hu))⟩
      rw [List.mem_singleton.1 hx]
      exact ⟨(h t (by simp)).text, by simp⟩
    · exact ⟨fun x hx => by simp at hx, h⟩
theorem labelsF_ok : ∀ f r, (∀ t ∈ r, TokIn t) → (∀ x ∈ (labelsF f r).2, PartOk x) ∧ ∀ t ∈ (labelsF f r).1, TokIn t
  | 0, r, h => ⟨fun x hx => by simp [labelsF] at hx, h⟩
  | f + 1, r, h => by
    rw [labelsF_lab]
    split
    · obtain ⟨a1, a2⟩ := labT_ok r h
      obtain ⟨b1, b2⟩ := labelsF_ok f _ a2
      refine ⟨fun x hx => ?_, b2⟩
      rcases List.mem_append.1 hx with hx | hx
      · exact a1 x hx
      · exact b1 x hx
    · exact ⟨fun x hx => by simp at hx, h⟩
theorem lineT_ok (r : List Tok) (h : ∀ t ∈ r, TokIn t) : (∀ x ∈ (lineT r).2.2, PartOk x) ∧ ∀ t ∈ (lineT r).2.1, TokIn t := by
  obtain ⟨a1, a2⟩ := labelsF_ok r.length r h
  obtain ⟨b1, b2⟩ := stmtT_ok _ a2
  have hp : ∀ x ∈ (labelsF r.length r).2 ++ (stmtT (labelsF r.length r).1).2.2, PartOk x := by
    intro x hx
    rcases List.mem_append.1 hx with hx | hx
    · exact a1 x hx
    · exact b1 x hx
  unfold lineT
  split
  · exact ⟨hp, fun t ht => b2 t ((endT_sub _).subset ht)⟩
  · exact ⟨hp, b2⟩
theorem textF_ok : ∀ f r, (∀ t ∈ r, TokIn t) → (∀ x ∈ (textF f r).2.2, PartOk x)
  | 0, r, h => fun x hx => by simp [textF] at hx
  | f + 1, r, h => by
    unfold textF
    split
    · exact fun x hx => by simp at hx
    · obtain ⟨a1, a2⟩ := lineT_ok r h
      split
      · intro x hx
        rcases List.mem_append.1 hx with hx | hx
        · exact a1 x hx
        · exact textF_ok f _ a2 x hx
      · exact a1
theorem textF_len : ∀ f r, (textF f r).2.2.length + (textF f r).2.1.length ≤ r.length
  | 0, r => by simp [textF]
  | f + 1, r => by
    unfold textF
    split
    · simp
    · have h1 := lineT_len r
      split
      · have h2 := textF_len f (lineT r).2.1
        simp only [List.length_append]; omega
      · exact h1
/-- The parts of a text begin one behind the other. -/
theorem parts_order {t : List Tok} (h : (t.map (·.at_)).Pairwise (· < ·)) : ((textT t).2.2.map (·.at_)).Pairwise (· < ·) :=
  (List.pairwise_append.1 (List.Pairwise.sublist (textF_sub _ t) h)).1

/-- A part laid by the first labels of all is one laid behind those ahead of it. -/
theorem layF_step {pre xs : List PartZ} {x : PartZ} (p : Prog) (ho : ((pre ++ x :: xs).map (·.at_)).Pairwise (· < ·)) :
    layF (pre ++ x :: xs) pre (x :: xs) p = match lay1 (fun t => firstL t (pre ++ x :: xs) 0) x p with | .bad a e => .bad a e | .ok p' => layF (pre ++ x :: xs) (pre ++ [x]) xs p' := by
  have hd : ∀ y ∈ pre, y.at_ ≠ x.at_ := by
    intro y hy
    rw [List.map_append, List.pairwise_append] at ho
    have := ho.2.2 y.at_ (List.mem_map_of_mem hy) x.at_ (by simp)
    omega
  conv => lhs; unfold layF
  unfold lay1
  by_cases h1 : x.kind = 1
  · rw [if_pos h1, if_pos h1]
    have hh := firstL_has x.name pre 0
    have hf : firstL x.name (pre ++ x :: xs) 0 = match firstL x.name pre 0 with | some r => some r | none => some ((x.at_ : Int), (0 : Int) + nIns pre) := by
      rw [firstL_append, firstL_cons, if_pos ⟨h1, rfl⟩]
      cases firstL x.name pre 0 <;> rfl
    simp only [hf]
    cases hq : firstL x.name pre 0 with
    | none =>
      rw [hq] at hh
      rw [← hh]
      simp
    | some r =>
      rw [hq] at hh
      rw [← hh]
      obtain ⟨a, q⟩ := r
      obtain ⟨_, _, y, hy, _, _, hya⟩ := firstL_in hq
      have := hd y hy
      have hne : a ≠ (x.at_ : Int) := by omega
      simp [hne]
  · rw [if_neg h1, if_neg h1]
    by_cases h3 : x.kind = 3
    · rw [if_pos h3, if_pos h3]
    · rw [if_neg h3, if_neg h3]
      by_cases h4 : x.kind = 4
      · rw [if_pos h4, if_pos h4]
        by_cases hb : x.num < 0 ∨ 255 < x.num
        · rw [if_pos hb, if_pos hb]
        · rw [if_neg hb, if_neg hb]
      · rw [if_neg h4, if_neg h4]
        by_cases h2 : x.kind = 2
        · rw [if_pos h2, if_pos h2]
          unfold aimZ ins1
          by_cases ht : x.target.kind = 1
          · rw [if_pos ht, if_pos ht, firstL_place]
            cases hq : firstL x.target.text (pre ++ x :: xs) 0 with
            | none => simp [hq]
            | some r =>
              unfold put1
              cases hrt : rightB { x.ins with imm := r.2 - p.code.length } <;> simp [hrt, hq]
          · rw [if_neg ht, if_neg ht]
            unfold put1
            cases hrt : rightB x.ins <;> simp [hrt]
        · rw [if_neg h2, if_neg h2]
theorem lay1_len {f : List UInt8 → Option (Int × Int)} {x : PartZ} {p p' : Prog} (h : lay1 f x p = .ok p') : p'.code.length ≤ p.code.length + (if x.kind = 2 then 1 else 0) ∧ p'.data.length ≤ p.data.length + 1 := by
  unfold lay1 ins1 put1 at h
  repeat' split at h
  all_goals first
    | (cases h; done)
    | (injection h with h; subst h; simp_all; try omega)
end Go.Proofs.YtfdegdbknponkaaDoor.Words

/- The program of a text that is put together of good lines. Plain mathematics. -/
namespace Go.Proofs.YtfdegdbknponkaaDoor.Words
set_option maxRecDepth 100000
set_option linter.unusedVariables false
open Go.Lib

/-- The program of a text that is put together of good lines. -/
theorem asmZ_lines {l : List UInt8} {ps : List Pc} (hl : l = pcText ps) (hg : goodP ps) (hn : l.length ≤ 20000) {z : List Key} (hz : z = [] ∨ z = [k4]) {Ls : List Ln} (ho : ∀ L ∈ Ls, LnOk L)
    (hk : lexK false ps = textKeys z Ls) {q : Prog} (hq : layK (Ls.flatMap lnParts) [] (Ls.flatMap lnParts) ⟨[], 0, []⟩ = some q) : asmZ l = checkZ q := by
  subst hl
  obtain ⟨T, t1, t2⟩ := lexZ_pcs hg hn
  obtain ⟨xs, x1, x2⟩ := textF_keys hz Ls T.length T ho (Nat.le_refl _) (t1.trans hk)
  have hT : textT T = (true, [], xs) := x2
  unfold asmZ partsZ endZ
  rw [t2]
  simp only
  rw [hT, if_pos rfl]
  simp only
  have := layF_K xs xs [] ⟨[], 0, []⟩ q (by rw [x1]; exact hq)
  rw [this]
end Go.Proofs.YtfdegdbknponkaaDoor.Words

/- Plain mathematics of chapter 4: a program's bytes. Nothing here speaks of one program text. -/
namespace Go.Proofs.YtfdegdbknponkaaDoor.Words
set_option maxRecDepth 100000
open Go.RowKit

/-- A word's four bytes. -/
def quadZ (x : Int) : List Int := [x % 256, x / 256 % 256, x / 65536 % 256, x / 16777216]
theorem quadZ_len (x : Int) : (quadZ x).length = 4 := rfl
def codeBytes (l : List Ins) : List Int := l.flatMap fun i => quadZ (encZ i)
theorem codeBytes_cons (i : Ins) (l : List Ins) : codeBytes (i :: l) = quadZ (encZ i) ++ codeBytes l := by simp [codeBytes]
theorem codeBytes_append (l m : List Ins) : codeBytes (l ++ m) = codeBytes l ++ codeBytes m := by simp [codeBytes]
theorem codeBytes_len (l : List Ins) : (codeBytes l).length = 4 * l.length := by
  induction l with
  | nil => rfl
  | cons i l ih => rw [codeBytes_cons, List.length_append, ih, quadZ_len, List.length_cons]; omega
theorem codeBytes_take {l : List Ins} {j : Nat} {i : Ins} (h : l[j]? = some i) : codeBytes (l.take (j + 1)) = codeBytes (l.take j) ++ quadZ (encZ i) := by
  obtain ⟨hlt, rfl⟩ := List.getElem?_eq_some_iff.1 h
  rw [List.take_add_one, List.getElem?_eq_getElem hlt, codeBytes_append]
  simp [codeBytes]
def imgHead (n s m : Int) : List Int := [83, 82, 73, 1] ++ quadZ n ++ quadZ s ++ quadZ m
theorem imgHead_len (n s m : Int) : (imgHead n s m).length = 16 := rfl
/-- A program's bytes. -/
def imgZ (p : Prog) : List Int := imgHead p.code.length p.size p.data.length ++ codeBytes p.code ++ p.data
theorem imgZ_len (p : Prog) : (imgZ p).length = 16 + 4 * p.code.length + p.data.length := by
  unfold imgZ; rw [List.length_append, List.length_append, imgHead_len, codeBytes_len]
theorem all_at {l : List Ins} (h : l.all rightB = true) {j : Nat} {i : Ins} (hi : l[j]? = some i) : rightB i = true := by
  rw [List.all_eq_true] at h
  exact h i (List.mem_of_getElem? hi)
theorem right_parts {p : Prog} (h : p.right = true) : (1 ≤ p.code.length ∧ p.code.length ≤ 2000 ∧ 0 ≤ p.size ∧ p.size ≤ 65536 ∧ (p.data.length : Int) ≤ p.size) ∧ p.code.all rightB = true ∧ p.targets = true := by
  unfold Prog.right at h
  rw [Bool.and_eq_true, Bool.and_eq_true, decide_eq_true_iff] at h
  exact ⟨h.1.1, h.1.2, h.2⟩
end Go.Proofs.YtfdegdbknponkaaDoor.Words

/- Texts of whole lines: pieces that end with a line's end, and the lines that they are. Plain mathematics. -/
namespace Go.Proofs.YtfdegdbknponkaaDoor.Words
set_option maxRecDepth 100000
set_option linter.unusedVariables false
set_option linter.unusedSimpArgs false
open Go.Lib

def flatK (Ls : List Ln) : List Key := Ls.flatMap fun L => lnKeys L ++ [k4]
theorem flatK_append (a b : List Ln) : flatK (a ++ b) = flatK a ++ flatK b := by simp [flatK]
theorem flatK_one (L : Ln) : flatK [L] = lnKeys L ++ [k4] := by simp [flatK]
theorem textKeys_flat : ∀ Ls : List Ln, textKeys [k4] Ls = flatK Ls
  | [] => rfl
  | [L] => by rw [flatK_one]; rfl
  | L :: L2 :: Ls => by
    have e : textKeys [k4] (L :: L2 :: Ls) = lnKeys L ++ k4 :: textKeys [k4] (L2 :: Ls) := rfl
    have e2 : flatK (L :: L2 :: Ls) = (lnKeys L ++ [k4]) ++ flatK (L2 :: Ls) := rfl
    rw [e, e2, textKeys_flat (L2 :: Ls)]
    simp
/-- Pieces that are whole lines. -/
structure Blk (ps : List Pc) (Ls : List Ln) : Prop where
  good : goodP ps
  last : ∀ x, ps.getLast? = some x → x = .line
  keys : lexK false ps = flatK Ls
  opn : openK false ps = false
  ok : ∀ L ∈ Ls, LnOk L
theorem last_app {α : Type} (a : List α) {b : List α} (hb : b ≠ []) : (a ++ b).getLast? = b.getLast? := by
  rw [List.getLast?_append]
  cases h : b.getLast? with
  | none => exact absurd (List.getLast?_eq_none_iff.1 h) hb
  | some x => rfl
theorem Blk.nil : Blk [] [] := ⟨trivial, (fun x h => by cases h), rfl, rfl, (fun L h => by cases h)⟩
theorem Blk.append {a b : List Pc} {la lb : List Ln} (h : Blk a la) (g : Blk b lb) : Blk (a ++ b) (la ++ lb) := by
  refine ⟨goodP_append a b h.good g.good (fun x hx => ?_), fun x hx => ?_, ?_, ?_, fun L hL => ?_⟩
  · rw [h.last x hx]; trivial
  · cases b with
    | nil => rw [List.append_nil] at hx; exact h.last x hx
    | cons p b => rw [last_app _ (by simp)] at hx; exact g.last x hx
  · rw [lexK_append, h.opn, h.keys, g.keys, flatK_append]
  · rw [openK_append, h.opn, g.opn]
  · rcases List.mem_append.1 hL with hL | hL
    · exact h.ok L hL
    · exact g.ok L hL
theorem Blk.flat {α : Type} (f : α → List Pc) (g : α → List Ln) : ∀ l : List α, (∀ x ∈ l, Blk (f x) (g x)) → Blk (l.flatMap f) (l.flatMap g)
  | [], _ => Blk.nil
  | x :: l, h => by
    rw [List.flatMap_cons, List.flatMap_cons]
    exact (h x (by simp)).append (Blk.flat f g l (fun y hy => h y (by simp [hy])))
theorem asmZ_blk {ps : List Pc} {Ls : List Ln} (h : Blk ps Ls) (hn : (pcText ps).length ≤ 20000) {q : Prog} (hq : layK (Ls.flatMap lnParts) [] (Ls.flatMap lnParts) ⟨[], 0, []⟩ = some q) : asmZ (pcText ps) = checkZ q :=
  asmZ_lines rfl h.good hn (.inr rfl) h.ok (h.keys.trans (textKeys_flat Ls).symm) hq

/-! ### how a line ends -/
def endPcs : Nat → List Pc
  | 0 => [.line]
  | 1 => [SP, .blank 9, .line]
  | 2 => [SP, .hash [32, 114, 101, 109, 97, 114, 107, 32, 40], .line]
  | 3 => [.blank 13, .line]
  | _ => [.line, .line, SP, SP, .line]
theorem end_good (k : Nat) : goodP (endPcs k) ∧ softN (endPcs k) = true ∧ lexK true (endPcs k) = [k4] ∧ openK true (endPcs k) = false ∧ (endPcs k).getLast? = some .line ∧ endPcs k ≠ [] := by
  have hs : okP SP := .inl rfl
  match k with
  | 0 => exact ⟨⟨trivial, trivial, trivial⟩, rfl, rfl, rfl, rfl, by simp [endPcs]⟩
  | 1 => exact ⟨⟨hs, trivial, .inr (.inl rfl), trivial, trivial, trivial, trivial⟩, rfl, rfl, rfl, rfl, by simp [endPcs]⟩
  | 2 => exact ⟨⟨hs, trivial, by show ∀ c ∈ ([32, 114, 101, 109, 97, 114, 107, 32, 40] : List UInt8), c.toNat < 128 ∧ c ≠ 10; decide, trivial, trivial, trivial, trivial⟩, rfl, rfl, rfl, rfl, by simp [endPcs]⟩
  | 3 => exact ⟨⟨.inr (.inr rfl), trivial, trivial, trivial, trivial⟩, rfl, rfl, rfl, rfl, by simp [endPcs]⟩
  | n + 4 => exact ⟨⟨trivial, trivial, trivial, trivial, hs, trivial, hs, trivial, trivial, trivial, trivial⟩, rfl, rfl, rfl, rfl, by simp [endPcs]⟩
/-- A statement's pieces, and how its line ends. -/
theorem blk_line {ps : List Pc} {L : Ln} (hg : goodP ps) (hn : ∀ p ∈ ps, isHash p = false) (hk : lexK false ps = lnKeys L) (hopen : openK false ps = true) (ho : LnOk L) (k : Nat) : Blk (ps ++ endPcs k) [L] := by
  obtain ⟨e1, e2, e3, e4, e5, e6⟩ := end_good k
  refine ⟨goodP_behind hg hn e1 e2, fun x hx => ?_, ?_, ?_, fun M hM => ?_⟩
  · rw [last_app _ e6, e5] at hx
    injection hx with hx; exact hx.symm
  · rw [lexK_append, hopen, hk, e3, flatK_one]
  · rw [openK_append, hopen, e4]
  · rw [List.mem_singleton.1 hM]; exact ho
def sizePcs (n : Int) : List Pc := [.name sizeN, SP, .num n (decN n)]
def bytePcs1 (n : Int) : List Pc := [.name byteN, SP, .num n (decN n)]
theorem size_ln (n : Int) : LnOk ⟨[], .size n⟩ := ⟨trivial, by simp [lnKeys, labKeys, stmKeys]⟩
theorem bytes_ln (n : Int) (ns : List Int) : LnOk ⟨[], .bytes n ns⟩ := ⟨trivial, by simp [lnKeys, labKeys, stmKeys]⟩
theorem blk_size {n : Int} (h : -4294967296 ≤ n ∧ n ≤ 4294967296) (k : Nat) : Blk (sizePcs n ++ endPcs k) [⟨[], .size n⟩] := by
  have hg : goodP (sizePcs n) := ⟨size_name, trivial, .inl rfl, trivial, decN_num h, trivial, trivial⟩
  refine blk_line hg ?_ rfl rfl (size_ln n) k
  intro p hp
  simp only [sizePcs, List.mem_cons, List.not_mem_nil, or_false] at hp
  rcases hp with rfl | rfl | rfl <;> rfl
theorem blk_byte1 {n : Int} (h : 0 ≤ n ∧ n ≤ 255) (k : Nat) : Blk (bytePcs1 n ++ endPcs k) [⟨[], .bytes n []⟩] := by
  have hg : goodP (bytePcs1 n) := ⟨byte_name, trivial, .inl rfl, trivial, decN_num (by omega), trivial, trivial⟩
  refine blk_line hg ?_ rfl rfl (bytes_ln n []) k
  intro p hp
  simp only [bytePcs1, List.mem_cons, List.not_mem_nil, or_false] at hp
  rcases hp with rfl | rfl | rfl <;> rfl
theorem blk_ins {i : Ins} (hr : rightB i = true) (k : Nat) : Blk (insPcs i [] (decN i.imm) ++ endPcs k) [⟨[], .ins i []⟩] := by
  have hi := (right_range hr).2.2.2.2
  obtain ⟨k1, o1⟩ := lexK_ins i [] (decN i.imm) false
  have hL : LnOk ⟨[], .ins i []⟩ := ⟨⟨hr, fun h => absurd rfl h⟩, by simp [lnKeys, labKeys, stmKeys]⟩
  exact blk_line (goodP_ins hr (decN_num (by omega)) (fun h => absurd rfl h)) (ins_nohash _ _ _) (by rw [k1]; rfl) o1 hL k

/-! ### what plain lines are laid as -/
def byteK (n : Int) : PartK := ⟨4, n, [], ins0, key0⟩
def insK (i : Ins) : PartK := ⟨2, 0, [], i, key0⟩
theorem layK_kc (all pre xs : List PartK) (x : PartK) (p : Prog) : layK all pre (x :: xs) p =
    if x.kind = 1 then (if hasK x.name pre = true then none else layK all (pre ++ [x]) xs p)
    else if x.kind = 3 then layK all (pre ++ [x]) xs { p with size := x.num }
    else if x.kind = 4 then (if x.num < 0 ∨ 255 < x.num then none else layK all (pre ++ [x]) xs { p with data := p.data ++ [x.num] })
    else if x.kind = 2 then (match aimK all x p.code.length with
      | none => none
      | some i => if rightB i = true then layK all (pre ++ [x]) xs { p with code := p.code ++ [i] } else none)
    else layK all (pre ++ [x]) xs p := rfl
theorem layK_end (all pre : List PartK) (p : Prog) : layK all pre [] p = some p := by unfold layK; rfl
theorem layK_sizes (all pre xs : List PartK) (n : Int) (p : Prog) : layK all pre (⟨3, n, [], ins0, key0⟩ :: xs) p = layK all (pre ++ [⟨3, n, [], ins0, key0⟩]) xs { p with size := n } := by
  rw [layK_kc, if_neg (by simp), if_pos rfl]
theorem layK_bytes : ∀ (bs : List Int) (all pre xs : List PartK) (p : Prog), (∀ b ∈ bs, 0 ≤ b ∧ b ≤ 255) → ∃ pre', layK all pre (bs.map byteK ++ xs) p = layK all pre' xs { p with data := p.data ++ bs }
  | [], all, pre, xs, p, _ => ⟨pre, by simp⟩
  | b :: bs, all, pre, xs, p, h => by
    obtain ⟨pre', h'⟩ := layK_bytes bs all (pre ++ [byteK b]) xs { p with data := p.data ++ [b] } (fun c hc => h c (by simp [hc]))
    refine ⟨pre', ?_⟩
    have hb := h b (by simp)
    rw [List.map_cons, List.cons_append]
    unfold byteK at h' ⊢
    rw [layK_kc, if_neg (by simp), if_neg (by simp), if_pos rfl, if_neg (by simp only; omega), h']
    simp
theorem layK_codes : ∀ (is : List Ins) (all pre xs : List PartK) (p : Prog), (∀ i ∈ is, rightB i = true) → ∃ pre', layK all pre (is.map insK ++ xs) p = layK all pre' xs { p with code := p.code ++ is }
  | [], all, pre, xs, p, _ => ⟨pre, by simp⟩
  | i :: is, all, pre, xs, p, h => by
    obtain ⟨pre', h'⟩ := layK_codes is all (pre ++ [insK i]) xs { p with code := p.code ++ [i] } (fun c hc => h c (by simp [hc]))
    refine ⟨pre', ?_⟩
    rw [List.map_cons, List.cons_append]
    unfold insK at h' ⊢
    rw [layK_kc, if_neg (by simp), if_neg (by simp), if_neg (by simp), if_pos rfl]
    unfold aimK
    rw [if_neg (by simp)]
    simp only
    rw [if_pos (h i (by simp)), h']
    simp
/-- A program that may be is what its own parts are laid as. -/
theorem lay_prog {p : Prog} (hr : p.right = true) (hd : ∀ b ∈ p.data, 0 ≤ b ∧ b ≤ 255) (all : List PartK) : layK all [] (⟨3, p.size, [], ins0, key0⟩ :: (p.data.map byteK ++ p.code.map insK)) ⟨[], 0, []⟩ = some p := by
  obtain ⟨_, ha, _⟩ := right_parts hr
  rw [layK_sizes]
  obtain ⟨p1, h1⟩ := layK_bytes p.data all _ (p.code.map insK) { code := [], size := p.size, data := [] } hd
  obtain ⟨p2, h2⟩ := layK_codes p.code all p1 [] { code := [], size := p.size, data := [] ++ p.data } (fun i hi => List.all_eq_true.1 ha i hi)
  rw [List.append_nil] at h2
  rw [h1, h2, layK_end]
  simp
theorem check_right {p : Prog} (hr : p.right = true) : checkZ p = .ok p := by
  have h := hr
  rw [right_prog] at h
  have ht := (right_parts hr).2.2
  unfold checkZ
  rw [if_neg (by show ¬ p.targets = false; rw [ht]; decide), if_pos h]
end Go.Proofs.YtfdegdbknponkaaDoor.Words

/- The law's own helpers of chapter 7: num, alive. -/
namespace Go.Proofs.YtfdegdbknponkaaDoor.Words
set_option maxRecDepth 100000
open Go.RowKit Go.Shelf Go.Lib
set_option linter.unusedVariables false

theorem quiet_mine7 {P : Program} {f : FuncId} {args : Array Value} {w : World} {n : Nat} {v : Value} (h : Calls P f args (w.drewN n) fun e w' => e = .returned v ∧ w.drewN n = w') :
    Calls P f args (w.drewN n) fun e w'' => e = .returned v ∧ ∃ m, w'' = w.drewN m := h.mono fun _ _ ⟨he, hm⟩ => ⟨he, n, hm.symm⟩

/-- The text of the example. -/
def aliveT : List UInt8 := [97, 58, 32, 45, 49, 50, 32, 35, 32, 120, 10, 48, 120, 49, 70]
def aliveK : List Tok := [⟨1, 0, 0, [97]⟩, ⟨3, 0, 1, [58]⟩, ⟨2, -12, 3, [45, 49, 50]⟩, ⟨4, 0, 10, [10]⟩, ⟨2, 31, 11, [48, 120, 49, 70]⟩]
theorem alive_lex : lexZ aliveT = .toks aliveK := by decide +kernel
theorem none_lex : lexZ [] = .toks [] := by decide +kernel
end Go.Proofs.YtfdegdbknponkaaDoor.Words

/- Contract of the document's own Dec: a number, in decimal. -/
namespace Go.Proofs.YtfdegdbknponkaaDoor.Words
set_option maxRecDepth 100000
open Go.RowKit Go.Shelf Go.Lib
set_option linter.unusedVariables false

theorem dec_cut (m : Nat) (h : m < 10) : (⟨#[48, 49, 50, 51, 52, 53, 54, 55, 56, 57]⟩ : ByteArray).extract m (m + 1) = txt [hexB false m] := by
  match m, h with
  | 0, _ => decide
  | 1, _ => decide
  | 2, _ => decide
  | 3, _ => decide
  | 4, _ => decide
  | 5, _ => decide
  | 6, _ => decide
  | 7, _ => decide
  | 8, _ => decide
  | 9, _ => decide
  | n + 10, h => exact absurd h (by omega)
theorem txt_join (a b : List UInt8) : txt a ++ txt b = txt (a ++ b) := by
  apply txt_eq
  rw [ByteArray.data_append, Array.toList_append]
theorem txt_len (a : List UInt8) : (txt a).size = a.length := by rw [← data_len]
theorem dec_len {n : Nat} (h : n ≤ 17179869184) : (digs 10 false n).length ≤ 11 := digs_len (b := 10) (by omega) false 10 n (by show n < 100000000000; omega)

set_option maxHeartbeats 1000000 in
theorem dec_nat : ∀ n : Nat, n ≤ 17179869184 → ∀ w : World, Calls Tryd.prog 20 #[.int .i64 (n : Int)] w fun e w' => e = .returned (.string (txt (digs 10 false n))) ∧ w = w' := by
  intro n
  induction n using Nat.strongRecOn with
  | _ n ih =>
    intro hn w
    obtain ⟨m, hm⟩ : ∃ m, m = n % 10 := ⟨_, rfl⟩
    have HM := Lib.hid hm
    have hm9 : m < 10 := by omega
    have m0 : (0 : Int) ≤ m := by omega
    have m9 : (m : Int) + 1 ≤ 10 := by omega
    have hc := dec_cut m hm9
    have h1 : decide ((n : Int) ≤ -10) = false := decide_eq_false (by omega)
    have h2 : decide ((n : Int) < 0) = false := decide_eq_false (by omega)
    have n0 : (0 : Int) ≤ n := by omega
    have n1 : (n : Int) ≤ 17179869184 := by omega
    have hmod : (n : Int) % 10 = (m : Int) := by omega
    clear hm
    by_cases h : n < 10
    · have h3 : decide (9 < (n : Int)) = false := decide_eq_false (by omega)
      have hd := Lib.hid (digs_lo (b := 10) false h)
      have hnm : Hid (m = n) := by have := HM.out; show _ = _; omega
      clear ih
      go_enter Tryd.func20, Tryd.ntmps20
      go_wp2_with fail
      go_ret
      exact ⟨by rw [hd.out, hnm.out]; rfl, rfl⟩
    · have h3 : decide (9 < (n : Int)) = true := decide_eq_true (by omega)
      have hd := Lib.hid (digs_hi (b := 10) (n := n) (by omega) false (by omega))
      have ih' := ih (n / 10) (by omega) (by omega) w
      rw [show ((n / 10 : Nat) : Int) = (n : Int) / 10 by omega] at ih'
      have hl := dec_len (n := n / 10) (by omega)
      have hs1 := txt_len (digs 10 false (n / 10))
      have hs2 := txt_len [hexB false m]
      have HJ := Lib.hid (txt_join (digs 10 false (n / 10)) [hexB false m])
      generalize digs 10 false (n / 10) = Q at *
      generalize hX : txt Q = X at *
      generalize hY : txt [hexB false m] = Y at *
      have hsum : ¬ (X.size + Y.size > 9223372036854775807) := by rw [hs1, hs2]; simp; omega
      have HX := Lib.hid hX
      have HY := Lib.hid hY
      have IH := Lib.hid ih'
      clear ih ih' hl hs1 hs2 hX hY
      go_enter Tryd.func20, Tryd.ntmps20
      go_wp2_with (go_at_call 20; refine IH.out.mono ?_; rintro e w1 ⟨rfl, rfl⟩)
      go_ret
      refine ⟨?_, rfl⟩
      rw [hd.out, ← HM.out, ← HJ.out]
      rfl

set_option maxHeartbeats 1000000 in
theorem dec_neg (m : Nat) (h0 : 0 < m) (hm : m ≤ 17179869184) (w : World) : Calls Tryd.prog 20 #[.int .i64 (-(m : Int))] w fun e w' => e = .returned (.string (txt (45 :: digs 10 false m))) ∧ w = w' := by
  have hl := dec_len (n := m) hm
  have m1 : (m : Int) ≤ 17179869184 := by omega
  have m2 : (0 : Int) < m := by omega
  by_cases h : m < 10
  · have h1 : decide (-(m : Int) ≤ -10) = false := decide_eq_false (by omega)
    have h2 : decide (-(m : Int) < 0) = true := decide_eq_true (by omega)
    have ih := dec_nat m hm w
    have hs1 := txt_len (digs 10 false m)
    have HJ := Lib.hid (txt_join [45] (digs 10 false m))
    generalize hX : txt (digs 10 false m) = X at *
    have hsum : ¬ ((⟨#[45]⟩ : ByteArray).size + X.size > 9223372036854775807) := by
      have : (⟨#[45]⟩ : ByteArray).size = 1 := rfl
      omega
    have IH := Lib.hid ih
    clear ih hs1 hX hl
    go_enter Tryd.func20, Tryd.ntmps20
    go_wp2_with (go_at_call 20; refine IH.out.mono ?_; rintro e w1 ⟨rfl, rfl⟩)
    go_ret
    refine ⟨?_, rfl⟩
    rw [show (45 :: digs 10 false m) = [45] ++ digs 10 false m from rfl, ← HJ.out]
    rfl
  · have h1 : decide (-(m : Int) ≤ -10) = true := decide_eq_true (by omega)
    have ih1 := dec_nat (m / 10) (by omega) w
    have ih2 := dec_nat (m % 10) (by omega) w
    rw [show ((m / 10 : Nat) : Int) = (m : Int) / 10 by omega] at ih1
    rw [show ((m % 10 : Nat) : Int) = (m : Int) % 10 by omega] at ih2
    have hd := digs_hi (b := 10) (n := m) (by omega) false (by omega)
    have hlo := digs_lo (b := 10) (n := m % 10) false (by omega)
    rw [← hlo] at hd
    have hl1 := dec_len (n := m / 10) (by omega)
    have hl2 := dec_len (n := m % 10) (by omega)
    have hs1 := txt_len (digs 10 false (m / 10))
    have hs2 := txt_len (digs 10 false (m % 10))
    have HJ : Hid ((txt [45] ++ txt (digs 10 false (m / 10))) ++ txt (digs 10 false (m % 10)) = txt (45 :: digs 10 false m)) := by
      show _ = _
      rw [txt_join, txt_join, hd]
      rfl
    have hs3 := txt_len ([45] ++ digs 10 false (m / 10))
    rw [← txt_join] at hs3
    generalize txt (digs 10 false (m / 10)) = X at *
    generalize txt (digs 10 false (m % 10)) = Y at *
    have hsum : ¬ ((⟨#[45]⟩ : ByteArray).size + X.size > 9223372036854775807) := by
      have : (⟨#[45]⟩ : ByteArray).size = 1 := rfl
      omega
    have hsum2 : ¬ (((⟨#[45]⟩ : ByteArray) ++ X).size + Y.size > 9223372036854775807) := by
      have : ((⟨#[45]⟩ : ByteArray) ++ X).size = ([45] ++ digs 10 false (m / 10)).length := hs3
      rw [this, hs2, List.length_append]
      simp
      omega
    have IH1 := Lib.hid ih1
    have IH2 := Lib.hid ih2
    clear ih1 ih2 hs1 hs2 hs3 hd hlo hl1 hl2 hl
    go_enter Tryd.func20, Tryd.ntmps20
    go_wp2_with fail
    refine IH1.out.mono ?_; rintro e w1 ⟨rfl, rfl⟩
    go_wp2_with fail
    refine IH2.out.mono ?_; rintro e w2 ⟨rfl, rfl⟩
    go_wp2_with fail
    go_ret
    refine ⟨?_, rfl⟩
    rw [← HJ.out]
    rfl
theorem dec_any (n : Int) (w : World) (h : -17179869184 ≤ n ∧ n ≤ 17179869184) : Calls Tryd.prog 20 #[.int .i64 n] w fun e w' => e = .returned (.string (txt (decN n))) ∧ w = w' := by
  unfold decN
  by_cases h0 : n < 0
  · rw [if_pos h0]
    have := dec_neg n.natAbs (by omega) (by omega) w
    rwa [show -((n.natAbs : Nat) : Int) = n by omega] at this
  · rw [if_neg h0]
    have := dec_nat n.natAbs (by omega) w
    rwa [show ((n.natAbs : Nat) : Int) = n by omega] at this
end Go.Proofs.YtfdegdbknponkaaDoor.Words

/- What an instruction is shown as, piece by piece. Plain mathematics. -/
namespace Go.Proofs.YtfdegdbknponkaaDoor.Words
set_option maxRecDepth 100000
set_option linter.unusedVariables false
set_option linter.unusedSimpArgs false
open Go.Lib

def showP (i : Ins) : List Pc := insPcs i [] (decN i.imm)
def showI (i : Ins) : List UInt8 := pcText (showP i)
def showZ (i : Ins) : List UInt8 := if rightB i = true then showI i else []
def regS (n : Int) : List UInt8 := 114 :: decN n
theorem decN_pos {n : Int} (h : 0 ≤ n) : decN n = digs 10 false n.toNat := by
  unfold decN
  rw [if_neg (by omega), show n.natAbs = n.toNat by omega]
theorem regS_eq {n : Int} (h : 0 ≤ n ∧ n ≤ 15) : regS n = regN n := by unfold regS regN; rw [decN_pos h.1]
theorem regS_len {n : Int} (h : 0 ≤ n ∧ n ≤ 15) : (regS n).length ≤ 3 := by rw [regS_eq h]; exact regN_len h
theorem showI_form {i : Ins} {k : Int} (hf : formZ i.op = k) : showI i = nameN i.op ++ pcText
  (if k = 1 then [SP, .name (regN i.d), CM, SP, .name (regN i.a), CM, SP, .name (regN i.b)]
  else if k = 2 then [SP, .name (regN i.d), CM, SP, .name (regN i.a), CM, SP, .num i.imm (decN i.imm)]
  else if k = 3 then [SP, .name (regN i.d), CM, SP, .num i.imm (decN i.imm)]
  else if k = 4 then [SP, .name (regN i.d), CM, SP, .num i.imm (decN i.imm), .sign 40, .name (regN i.a), .sign 41]
  else if k = 5 then [SP, .name (regN i.b), CM, SP, .num i.imm (decN i.imm), .sign 40, .name (regN i.a), .sign 41]
  else if k = 6 then [SP, .name (regN i.a), CM, SP, .name (regN i.b), CM, SP, .num i.imm (decN i.imm)]
  else if k = 7 then [SP, .num i.imm (decN i.imm)]
  else []) := by
  unfold showI showP insPcs
  rw [pcText_cons, hf]
  rfl
theorem showI_1 {i : Ins} (hf : formZ i.op = 1) (hd : 0 ≤ i.d ∧ i.d ≤ 15) (ha : 0 ≤ i.a ∧ i.a ≤ 15) (hb : 0 ≤ i.b ∧ i.b ≤ 15) : showI i = nameN i.op ++ [32] ++ regS i.d ++ [44, 32] ++ regS i.a ++ [44, 32] ++ regS i.b := by
  rw [showI_form hf, regS_eq hd, regS_eq ha, regS_eq hb, if_pos rfl]; simp [pcText, Pc.text]
theorem showI_2 {i : Ins} (hf : formZ i.op = 2) (hd : 0 ≤ i.d ∧ i.d ≤ 15) (ha : 0 ≤ i.a ∧ i.a ≤ 15) : showI i = nameN i.op ++ [32] ++ regS i.d ++ [44, 32] ++ regS i.a ++ [44, 32] ++ decN i.imm := by
  rw [showI_form hf, regS_eq hd, regS_eq ha, if_neg (by omega), if_pos rfl]; simp [pcText, Pc.text]
theorem showI_3 {i : Ins} (hf : formZ i.op = 3) (hd : 0 ≤ i.d ∧ i.d ≤ 15) : showI i = nameN i.op ++ [32] ++ regS i.d ++ [44, 32] ++ decN i.imm := by
  rw [showI_form hf, regS_eq hd, if_neg (by omega), if_neg (by omega), if_pos rfl]; simp [pcText, Pc.text]
theorem showI_4 {i : Ins} (hf : formZ i.op = 4) (hd : 0 ≤ i.d ∧ i.d ≤ 15) (ha : 0 ≤ i.a ∧ i.a ≤ 15) : showI i = nameN i.op ++ [32] ++ regS i.d ++ [44, 32] ++ decN i.imm ++ [40] ++ regS i.a ++ [41] := by
  rw [showI_form hf, regS_eq hd, regS_eq ha, if_neg (by omega), if_neg (by omega), if_neg (by omega), if_pos rfl]; simp [pcText, Pc.text]
theorem showI_5 {i : Ins} (hf : formZ i.op = 5) (hb : 0 ≤ i.b ∧ i.b ≤ 15) (ha : 0 ≤ i.a ∧ i.a ≤ 15) : showI i = nameN i.op ++ [32] ++ regS i.b ++ [44, 32] ++ decN i.imm ++ [40] ++ regS i.a ++ [41] := by
  rw [showI_form hf, regS_eq hb, regS_eq ha, if_neg (by omega), if_neg (by omega), if_neg (by omega), if_neg (by omega), if_pos rfl]; simp [pcText, Pc.text]
theorem showI_6 {i : Ins} (hf : formZ i.op = 6) (ha : 0 ≤ i.a ∧ i.a ≤ 15) (hb : 0 ≤ i.b ∧ i.b ≤ 15) : showI i = nameN i.op ++ [32] ++ regS i.a ++ [44, 32] ++ regS i.b ++ [44, 32] ++ decN i.imm := by
  rw [showI_form hf, regS_eq ha, regS_eq hb, if_neg (by omega), if_neg (by omega), if_neg (by omega), if_neg (by omega), if_neg (by omega), if_pos rfl]; simp [pcText, Pc.text]
theorem showI_7 {i : Ins} (hf : formZ i.op = 7) : showI i = nameN i.op ++ [32] ++ decN i.imm := by
  rw [showI_form hf, if_neg (by omega), if_neg (by omega), if_neg (by omega), if_neg (by omega), if_neg (by omega), if_neg (by omega), if_pos rfl]; simp [pcText, Pc.text]
theorem showI_8 {i : Ins} (hf : formZ i.op = 8) : showI i = nameN i.op := by
  rw [showI_form hf, if_neg (by omega), if_neg (by omega), if_neg (by omega), if_neg (by omega), if_neg (by omega), if_neg (by omega), if_neg (by omega)]; simp [pcText, Pc.text]
theorem decN_len8 {n : Int} (h : -8192 ≤ n ∧ n ≤ 8191) : (decN n).length ≤ 12 := decN_len (by omega)
theorem nameN_ne {op : Int} (h : 1 ≤ op ∧ op ≤ 41) : nameN op ≠ [] := by
  obtain ⟨⟨c, r, e, _⟩, _⟩ := nameN_name h
  rw [e]; simp
theorem showI_ne {i : Ins} (hr : rightB i = true) : showI i ≠ [] := by
  have := nameN_ne (right_range hr).1
  rw [showI_form rfl]
  simp [this]
theorem showI_len {i : Ins} (hr : rightB i = true) : (showI i).length ≤ 40 := by
  obtain ⟨ho, hd, ha, hb, hi⟩ := right_range hr
  have l0 := nameN_len ho
  have l1 := decN_len8 hi
  have l2 := regN_len hd
  have l3 := regN_len ha
  have l4 := regN_len hb
  rw [showI_form rfl, List.length_append]
  rcases formZ_cases i.op with ⟨hf, _⟩ | ⟨hf, _⟩ | ⟨hf, _⟩ | ⟨hf, _⟩ | ⟨hf, _⟩ | ⟨hf, _⟩ | ⟨hf, _⟩ | ⟨hf, _⟩ | ⟨hf, _⟩ <;>
    (rw [hf]; simp [pcText, Pc.text]; omega)
theorem formZ_right {i : Ins} (hr : rightB i = true) : 1 ≤ formZ i.op ∧ formZ i.op ≤ 8 := by
  have h0 : formZ i.op ≠ 0 := by
    intro h
    rw [right_none (by simp [h])] at hr
    exact absurd hr (by decide)
  have := formZ_range i.op
  omega
theorem showZ_yes {i : Ins} (h : rightB i = true) : showZ i = showI i := if_pos h
theorem showZ_no {i : Ins} (h : rightB i = false) : showZ i = [] := if_neg (by rw [h]; decide)
end Go.Proofs.YtfdegdbknponkaaDoor.Words

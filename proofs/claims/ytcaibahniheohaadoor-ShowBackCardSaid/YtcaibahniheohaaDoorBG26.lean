/- Several texts in one: LexCat, LexLinesMath, Say. -/
import Derived.Test.YtcaibahniheohaaDoorBG11
import Derived.Test.YtcaibahniheohaaDoorBG03

/- Texts one behind the other, taken apart: what a text's beginning leaves, whatever stands behind it. Plain mathematics. -/
namespace Go.Proofs.YtcaibahniheohaaDoor.Words
set_option maxRecDepth 100000
set_option linter.unusedVariables false
open Go.Lib
def lexL (l : List UInt8) (p : Nat) (x : LexS) : LexR := lexF l l.length p x
theorem lexL_fuel (l : List UInt8) (f p : Nat) (x : LexS) (h : l.length ≤ p + f) : lexF l f p x = lexL l p x := by
  unfold lexL
  rcases Nat.le_total f l.length with h2 | h2
  · obtain ⟨d, hd⟩ := Nat.exists_eq_add_of_le h2
    have := lexF_more l f p x d h
    rw [← hd] at this
    exact this.symm
  · obtain ⟨d, hd⟩ := Nat.exists_eq_add_of_le h2
    have := lexF_more l l.length p x d (by omega)
    rw [← hd] at this
    exact this
theorem lexL_end {l : List UInt8} {p : Nat} {x : LexS} (h : ¬ p < l.length) : lexL l p x = .toks x.toks := lex_stop h
theorem lexL_over {l : List UInt8} {p : Nat} {x : LexS} (h : p < l.length) (hb : p < x.behind) : lexL l p x = lexL l (p + wideR (l.drop p)) x := by
  have hw := wideR_pos (l.drop p)
  obtain ⟨f, hf⟩ : ∃ f, l.length = f + 1 := ⟨l.length - 1, by omega⟩
  rw [← lexL_fuel l (f + 1) p x (by omega), lex_over h hb, lexL_fuel l f _ x (by omega)]
theorem lexL_go {l : List UInt8} {p : Nat} {x : LexS} (h : p < l.length) (hb : x.behind ≤ p) : lexL l p x = if (takeZ l p x).1 = 0 then lexL l (p + wideR (l.drop p)) (takeZ l p x).2 else .bad p (takeZ l p x).1 := by
  have hw := wideR_pos (l.drop p)
  obtain ⟨f, hf⟩ : ∃ f, l.length = f + 1 := ⟨l.length - 1, by omega⟩
  rw [← lexL_fuel l (f + 1) p x (by omega), lex_go h hb, lexL_fuel l f _ _ (by omega)]
theorem lexZ_L (l : List UInt8) : lexZ l = if 20000 < l.length then .bad 0 7 else lexL l 0 ⟨0, false, []⟩ := rfl
structure Stop (r : List UInt8) : Prop where
  head : ∃ c t, r = c :: t ∧ c.toNat < 128 ∧ nameR (c.toNat : Int) = false ∧ digR (c.toNat : Int) = 16
theorem stop_of {c : UInt8} {t : List UInt8} (h : c = 10 ∨ c = 32 ∨ c = 9 ∨ c = 13 ∨ c = 35 ∨ c = 44 ∨ c = 58 ∨ c = 40 ∨ c = 41) : Stop (c :: t) := by
  refine ⟨c, t, rfl, ?_⟩
  rcases h with rfl | rfl | rfl | rfl | rfl | rfl | rfl | rfl | rfl <;> exact ⟨by decide, by decide +kernel, by decide +kernel⟩
theorem decode_app {u r : List UInt8} (hu : u ≠ []) (hr : ∃ c t, r = c :: t ∧ c.toNat < 128) : decodeL (u ++ r) = decodeL u := by
  obtain ⟨c, t, rfl, hc⟩ := hr
  rw [decodeL_N, decodeL_N]
  have hc2 : ¬ c.toNat / 64 = 2 := by omega
  rcases u with _ | ⟨a0, _ | ⟨a1, _ | ⟨a2, _ | ⟨a3, u⟩⟩⟩⟩
  · exact absurd rfl hu
  · simp only [List.cons_append, List.nil_append, List.length_cons, List.length_nil, List.getD_cons_zero, List.getD_cons_succ, List.getD_nil]
    unfold decodeN
    simp only [show (1 < 0 + 1) = False by simp, false_and, and_false, if_false, hc2]
  · simp only [List.cons_append, List.nil_append, List.length_cons, List.length_nil, List.getD_cons_zero, List.getD_cons_succ, List.getD_nil]
    unfold decodeN
    simp only [show (1 < 0 + 1 + 1) = True by simp, show (2 < 0 + 1 + 1) = False by simp, show (1 < t.length + 1 + 1 + 1) = True by simp, true_and, false_and, and_false, if_false, hc2]
  · simp only [List.cons_append, List.nil_append, List.length_cons, List.length_nil, List.getD_cons_zero, List.getD_cons_succ, List.getD_nil]
    unfold decodeN
    simp only [show (1 < 0 + 1 + 1 + 1) = True by simp, show (2 < 0 + 1 + 1 + 1) = True by simp, show (3 < 0 + 1 + 1 + 1) = False by simp, show (1 < t.length + 1 + 1 + 1 + 1) = True by simp, show (2 < t.length + 1 + 1 + 1 + 1) = True by simp, true_and, false_and, and_false, if_false, hc2]
  · simp only [List.cons_append, List.length_cons, List.getD_cons_zero, List.getD_cons_succ]
    unfold decodeN
    simp
theorem Stop.ascii {r : List UInt8} (h : Stop r) : ∃ c t, r = c :: t ∧ c.toNat < 128 := by obtain ⟨c, t, h1, h2, _⟩ := h.head; exact ⟨c, t, h1, h2⟩
theorem Stop.rune {r : List UInt8} (h : Stop r) : nameR (runeR r) = false ∧ digR (runeR r) = 16 ∧ 0 < r.length := by
  obtain ⟨c, t, rfl, h2, h3, h4⟩ := h.head
  have : runeR (c :: t) = c.toNat := by unfold runeR; rw [decodeL_ascii _ _ h2]
  rw [this]
  exact ⟨h3, h4, by simp⟩
section
variable {u r : List UInt8}
theorem rune_app (hu : u ≠ []) (hr : Stop r) : runeR (u ++ r) = runeR u := by unfold runeR; rw [decode_app hu hr.ascii]
theorem wide_app (hu : u ≠ []) (hr : Stop r) : wideR (u ++ r) = wideR u := by unfold wideR; rw [decode_app hu hr.ascii]
theorem nameF_app (hr : Stop r) : ∀ f p F, f < F → u.length ≤ p + f → p ≤ u.length → nameF (u ++ r) F p = nameF u f p
  | 0, p, F + 1, _, h1, h2 => by
    have hp : p = u.length := by omega
    subst hp
    unfold nameF
    rw [if_pos (by have := hr.rune.2.2; simp; omega), List.drop_left, hr.rune.1]
    rfl
  | f + 1, p, F + 1, hF, h1, h2 => by
    by_cases hp : p < u.length
    · have hne := from_ne hp
      conv => lhs; unfold nameF
      conv => rhs; unfold nameF
      rw [if_pos (by simp; omega), if_pos hp, List.drop_append_of_le_length h2, rune_app hne hr, wide_app hne hr]
      have hw := wide_in hp
      have hw2 := wideR_pos (u.drop p)
      split
      · exact nameF_app hr f _ F (by omega) (by omega) hw
      · rfl
    · have hp2 : p = u.length := by omega
      subst hp2
      conv => rhs; unfold nameF
      rw [if_neg hp]
      unfold nameF
      rw [if_pos (by have := hr.rune.2.2; simp; omega), List.drop_left, hr.rune.1]
      rfl
theorem digF_app (hr : Stop r) {base : Int} (hb : base ≤ 16) : ∀ f p F n, f < F → u.length ≤ p + f → p ≤ u.length → digF (u ++ r) base F p n = digF u base f p n
  | 0, p, F + 1, n, _, h1, h2 => by
    have hp : p = u.length := by omega
    subst hp
    unfold digF
    rw [if_pos (by have := hr.rune.2.2; simp; omega), List.drop_left, hr.rune.2.1, if_pos hb]
  | f + 1, p, F + 1, n, hF, h1, h2 => by
    by_cases hp : p < u.length
    · have hne := from_ne hp
      conv => lhs; unfold digF
      conv => rhs; unfold digF
      rw [if_pos (by simp; omega), if_pos hp, List.drop_append_of_le_length h2, rune_app hne hr, wide_app hne hr]
      have hw := wide_in hp
      have hw2 := wideR_pos (u.drop p)
      split
      · rfl
      · exact digF_app hr hb f _ F _ (by omega) (by omega) hw
    · have hp2 : p = u.length := by omega
      subst hp2
      conv => rhs; unfold digF
      rw [if_neg hp]
      unfold digF
      rw [if_pos (by have := hr.rune.2.2; simp; omega), List.drop_left, hr.rune.2.1, if_pos hb]
theorem nameZ_app (hr : Stop r) : nameZ (u ++ r) = nameZ u := by
  unfold nameZ
  exact nameF_app hr _ _ _ (by have := hr.rune.2.2; simp; omega) (by omega) (Nat.zero_le _)
theorem digZ_app (hr : Stop r) {base : Int} (hb : base ≤ 16) : digZ (u ++ r) base = digZ u base := by
  unfold digZ
  exact digF_app hr hb _ _ _ _ (by have := hr.rune.2.2; simp; omega) (by omega) (Nat.zero_le _)
theorem pre_app2 (hu : u ≠ []) (hr : Stop r) : hasPrefix (u ++ r) [48, 120] = hasPrefix u [48, 120] := by
  obtain ⟨c, t, rfl, h2, h3, h4⟩ := hr.head
  have hc : c ≠ 120 := by rintro rfl; exact absurd h3 (by decide +kernel)
  rcases u with _ | ⟨a, _ | ⟨b, u⟩⟩
  · exact absurd rfl hu
  · unfold hasPrefix
    simp only [List.cons_append, List.nil_append, List.isPrefixOf, beq_eq_false_iff_ne.2 (fun e : (120 : UInt8) = c => hc e.symm), Bool.false_and, Bool.and_false]
  · unfold hasPrefix
    simp [List.isPrefixOf]
theorem pre_app1 (hu : u ≠ []) : hasPrefix (u ++ r) [45] = hasPrefix u [45] := by
  rcases u with _ | ⟨a, u⟩
  · exact absurd rfl hu
  · unfold hasPrefix
    simp [List.isPrefixOf]
theorem numZ_app (hu : u ≠ []) (hr : Stop r) : numZ (u ++ r) = numZ u := by
  have h1 : hasPrefix u [48, 120] = true → (u ++ r).drop 2 = u.drop 2 ++ r := fun h => List.drop_append_of_le_length (by have := prefix_len h; simpa using this)
  have h2 : (u ++ r).drop 1 = u.drop 1 ++ r := List.drop_append_of_le_length (List.length_pos_iff.2 hu)
  unfold numZ
  rw [pre_app2 hu hr, pre_app1 hu, h2, digZ_app hr (by omega), digZ_app hr (by omega)]
  by_cases h : hasPrefix u [48, 120] = true
  · rw [h1 h, digZ_app hr (by omega)]
  · have e : ∀ n : Nat, ¬ (hasPrefix u [48, 120] = true ∧ 0 < n) := fun n e => h e.1
    rw [if_neg (e _), if_neg (e _)]
end
theorem at_ascii {l : List UInt8} {p : Nat} {c : UInt8} {t : List UInt8} (hd : l.drop p = c :: t) (hc : c.toNat < 128) : p < l.length ∧ runeR (l.drop p) = c.toNat ∧ wideR (l.drop p) = 1 ∧ l.drop (p + 1) = t := by
  refine ⟨?_, ?_, ?_, ?_⟩
  · apply Nat.lt_of_not_le
    intro h
    rw [List.drop_eq_nil_of_le h] at hd; cases hd
  · rw [hd]; unfold runeR; rw [decodeL_ascii _ _ hc]
  · rw [hd]; unfold wideR; rw [decodeL_ascii _ _ hc]
  · have := congrArg List.tail hd
    simpa [List.tail_drop] using this
theorem step_line {l : List UInt8} {p : Nat} {t : List UInt8} {b : Nat} {rm : Bool} {ts : List Tok} (hd : l.drop p = 10 :: t) (hb : b ≤ p) : lexL l p ⟨b, rm, ts⟩ = lexL l (p + 1) (lineZ l p ⟨b, false, ts⟩) := by
  obtain ⟨h1, h2, h3, _⟩ := at_ascii hd (by decide)
  rw [lexL_go h1 (by exact hb), at_line rm (show runeR (l.drop p) = 10 from h2), h3]
  rfl
theorem step_blank {l : List UInt8} {p : Nat} {c : UInt8} {t : List UInt8} {x : LexS} (hd : l.drop p = c :: t) (hc : c = 32 ∨ c = 9 ∨ c = 13) (hb : x.behind ≤ p) : lexL l p x = lexL l (p + 1) x := by
  have hc2 : c.toNat < 128 := by rcases hc with rfl | rfl | rfl <;> decide
  obtain ⟨h1, h2, h3, _⟩ := at_ascii hd hc2
  have hbl : blankR (runeR (l.drop p)) = true := by rw [h2]; rcases hc with rfl | rfl | rfl <;> decide
  have hbd : badR (l.drop p) = false := good h2 (by rcases hc with rfl | rfl | rfl <;> decide)
  rw [lexL_go h1 hb, at_blank hbd hbl, h3]
  rfl
theorem step_hash {l : List UInt8} {p : Nat} {t : List UInt8} {b : Nat} {ts : List Tok} (hd : l.drop p = 35 :: t) (hb : b ≤ p) : lexL l p ⟨b, false, ts⟩ = lexL l (p + 1) ⟨b, true, ts⟩ := by
  obtain ⟨h1, h2, h3, _⟩ := at_ascii hd (by decide)
  rw [lexL_go h1 (by exact hb), at_hash (show runeR (l.drop p) = 35 from h2), h3]
  rfl
theorem step_remark {l : List UInt8} {p : Nat} {c : UInt8} {t : List UInt8} {b : Nat} {ts : List Tok} (hd : l.drop p = c :: t) (hc : c.toNat < 128) (hn : c ≠ 10) (hb : b ≤ p) : lexL l p ⟨b, true, ts⟩ = lexL l (p + 1) ⟨b, true, ts⟩ := by
  obtain ⟨h1, h2, h3, _⟩ := at_ascii hd hc
  have hbd : badR (l.drop p) = false := good h2 (by omega)
  have h10 : runeR (l.drop p) ≠ 10 := by
    rw [h2]; intro e; apply hn
    exact UInt8.toNat_inj.1 (by show c.toNat = 10; omega)
  rw [lexL_go h1 (by exact hb), at_remark hbd rfl h10, h3]
  rfl
end Go.Proofs.YtcaibahniheohaaDoor.Words

/- The tokens of two texts with a line's end between. Plain mathematics. -/
namespace Go.Proofs.YtcaibahniheohaaDoor.Words
set_option maxRecDepth 100000
set_option linter.unusedVariables false
open Go.Lib
theorem step_nl {l : List UInt8} {p : Nat} {t : List UInt8} {b : Nat} {rm : Bool} {ts : List Tok} (hd : l.drop p = 10 :: t) (hb : b ≤ p) (hl : lineB ts = true) : lexL l p ⟨b, rm, ts⟩ = lexL l (p + 1) ⟨p + 1, false, ts ++ [⟨4, 0, p, [10]⟩]⟩ := by
  rw [step_line hd hb]
  unfold lineZ addZ
  rw [if_pos hl, hd]
  rfl
theorem step_nl2 {l : List UInt8} {p : Nat} {t : List UInt8} {b : Nat} {rm : Bool} {ts : List Tok} (hd : l.drop p = 10 :: t) (hb : b ≤ p) (hl : lineB ts = false) : lexL l p ⟨b, rm, ts⟩ = lexL l (p + 1) ⟨b, false, ts⟩ := by
  rw [step_line hd hb]
  unfold lineZ
  rw [if_neg (by show ¬ lineB ts = true; rw [hl]; decide)]
theorem lineB_end (T : List Tok) (z : Tok) (hz : z.kind = 4) : lineB (T ++ [z]) = false := by unfold lineB; simp [hz]
end Go.Proofs.YtcaibahniheohaaDoor.Words

/- Texts put together of words, numbers, signs, blanks, lines' ends and remarks: their tokens. Plain mathematics. -/
namespace Go.Proofs.YtcaibahniheohaaDoor.Words
set_option maxRecDepth 100000
set_option linter.unusedVariables false
open Go.Lib
structure Key where
  kind : Int
  num : Int
  text : List UInt8
deriving DecidableEq
def keyK (t : Tok) : Key := ⟨t.kind, t.num, if t.kind = 2 then [] else t.text⟩
inductive Pc where
  | name (t : List UInt8)
  | num (n : Int) (t : List UInt8)
  | sign (c : UInt8)
  | blank (c : UInt8)
  | line
  | hash (t : List UInt8)
def Pc.text : Pc → List UInt8
  | .name t => t
  | .num _ t => t
  | .sign c => [c]
  | .blank c => [c]
  | .line => [10]
  | .hash t => 35 :: t
def pcText (ps : List Pc) : List UInt8 := ps.flatMap Pc.text
theorem pcText_cons (p : Pc) (ps : List Pc) : pcText (p :: ps) = p.text ++ pcText ps := by simp [pcText]
theorem pcText_append (a b : List Pc) : pcText (a ++ b) = pcText a ++ pcText b := by simp [pcText]
def inName (c : UInt8) : Bool := decide (c.toNat < 128) && nameR (c.toNat : Int)
structure IsName (t : List UInt8) : Prop where
  head : ∃ c r, t = c :: r ∧ firstR (c.toNat : Int) = true
  all : ∀ c ∈ t, inName c = true
structure IsNum (n : Int) (t : List UInt8) : Prop where
  head : ∃ c r, t = c :: r ∧ (c.toNat = 45 ∨ (48 ≤ c.toNat ∧ c.toNat ≤ 57))
  all : ∀ c ∈ t, c.toNat < 128
  num : numZ t = (n, t.length)
  range : -4294967296 ≤ n ∧ n ≤ 4294967296
def okP : Pc → Prop
  | .name t => IsName t
  | .num n t => IsNum n t
  | .sign c => c = 44 ∨ c = 58 ∨ c = 40 ∨ c = 41
  | .blank c => c = 32 ∨ c = 9 ∨ c = 13
  | .line => True
  | .hash t => ∀ c ∈ t, c.toNat < 128 ∧ c ≠ 10
def nextP : Pc → List Pc → Prop
  | .name _, .name _ :: _ => False
  | .name _, .num _ _ :: _ => False
  | .num _ _, .name _ :: _ => False
  | .num _ _, .num _ _ :: _ => False
  | .hash _, .line :: _ => True
  | .hash _, [] => True
  | .hash _, _ :: _ => False
  | _, _ => True
def goodP : List Pc → Prop
  | [] => True
  | p :: ps => okP p ∧ nextP p ps ∧ goodP ps
def lexK : Bool → List Pc → List Key
  | _, [] => []
  | o, .name t :: ps => ⟨1, 0, t⟩ :: lexK true ps
  | o, .num n t :: ps => ⟨2, n, []⟩ :: lexK true ps
  | o, .sign c :: ps => ⟨3, 0, [c]⟩ :: lexK true ps
  | o, .blank c :: ps => lexK o ps
  | o, .line :: ps => if o = true then ⟨4, 0, [10]⟩ :: lexK false ps else lexK false ps
  | o, .hash t :: ps => lexK o ps
theorem stop_next {p : Pc} {ps : List Pc} (hg : goodP ps) (hp : nextP p ps) (hs : (∃ t, p = .name t) ∨ ∃ n t, p = .num n t) : pcText ps = [] ∨ Stop (pcText ps) := by
  cases ps with
  | nil => exact .inl rfl
  | cons q qs =>
    right
    have hq := hg.1
    rw [pcText_cons]
    cases q with
    | name t => rcases hs with ⟨_, rfl⟩ | ⟨_, _, rfl⟩ <;> exact absurd hp (by simp [nextP])
    | num n t => rcases hs with ⟨_, rfl⟩ | ⟨_, _, rfl⟩ <;> exact absurd hp (by simp [nextP])
    | sign c => exact stop_of (by rcases hq with h | h | h | h <;> simp [h])
    | blank c => exact stop_of (by rcases hq with h | h | h <;> simp [h])
    | line => exact stop_of (by simp)
    | hash t => exact stop_of (by simp)
theorem name_len {t : List UInt8} (h : ∀ c ∈ t, inName c = true) : nameZ t = t.length := by
  have key : ∀ f p, t.length ≤ p + f → p ≤ t.length → nameF t f p = t.length := by
    intro f
    induction f with
    | zero => intro p h1 h2; unfold nameF; omega
    | succ f ih =>
      intro p h1 h2
      unfold nameF
      by_cases hp : p < t.length
      · have hc := h t[p] (List.getElem_mem hp)
        unfold inName at hc
        rw [Bool.and_eq_true, decide_eq_true_eq] at hc
        have hd : t.drop p = t[p] :: t.drop (p + 1) := List.drop_eq_getElem_cons hp
        obtain ⟨r1, r2⟩ := rune_ascii hc.1 (t.drop (p + 1))
        rw [if_pos hp, hd, r1, if_pos hc.2, r2]
        exact ih _ (by omega) (by omega)
      · rw [if_neg hp]; omega
  exact key _ 0 (by omega) (Nat.zero_le _)
theorem over_ascii {l : List UInt8} {x : LexS} : ∀ (t r : List UInt8) (p : Nat), l.drop p = t ++ r → (∀ c ∈ t, c.toNat < 128) → p + t.length ≤ x.behind → lexL l p x = lexL l (p + t.length) x
  | [], r, p, _, _, _ => rfl
  | c :: t, r, p, hd, ha, hb => by
    obtain ⟨h1, _, h3, h4⟩ := at_ascii (t := t ++ r) hd (ha c (by simp))
    rw [lexL_over h1 (by simp at hb; omega), h3, over_ascii t r (p + 1) h4 (fun c hc => ha c (by simp [hc])) (by simp at hb; omega)]
    rw [List.length_cons, Nat.add_assoc, Nat.add_comm 1]
theorem lineB_one (T : List Tok) (z : Tok) (hz : z.kind ≠ 4) : lineB (T ++ [z]) = true := by unfold lineB; simp [hz]
theorem name_low {t : List UInt8} (h : ∀ c ∈ t, inName c = true) : ∀ c ∈ t, c.toNat < 128 := by
  intro c hc
  have := h c hc
  unfold inName at this
  rw [Bool.and_eq_true, decide_eq_true_eq] at this
  exact this.1
theorem step_name {l : List UInt8} {p b : Nat} {ts : List Tok} {t r : List UInt8} (hd : l.drop p = t ++ r) (ht : IsName t) (hr : r = [] ∨ Stop r) (hb : b ≤ p) :
    lexL l p ⟨b, false, ts⟩ = lexL l (p + t.length) ⟨p + t.length, false, ts ++ [⟨1, 0, p, t⟩]⟩ := by
  obtain ⟨c, u, rfl, hf⟩ := ht.head
  have hlow := name_low ht.all
  obtain ⟨h1, h2, h3, h4⟩ := at_ascii (t := u ++ r) hd (hlow c (by simp))
  have hn : nameZ (l.drop p) = (c :: u).length := by
    rw [hd]
    rcases hr with rfl | hr
    · rw [List.append_nil]; exact name_len ht.all
    · rw [nameZ_app hr]; exact name_len ht.all
  have hg := at_name (l := l) (p := p) (x := ⟨b, false, ts⟩) rfl (by rw [h2]; exact hf)
  rw [lexL_go h1 hb, hg, if_pos rfl]
  simp only
  unfold addZ
  rw [hn, hd]
  have htk : (c :: u ++ r).take (c :: u).length = c :: u := List.take_left
  rw [htk]
  have hw : wideR (c :: u ++ r) = 1 := by rw [← hd]; exact h3
  have hov := over_ascii (x := ⟨p + (c :: u).length, false, ts ++ [⟨1, 0, p, c :: u⟩]⟩) u r (p + 1) h4 (fun c hc => hlow c (by simp [hc])) (by simp only [List.length_cons]; omega)
  rw [hw, hov, List.length_cons, Nat.add_assoc, Nat.add_comm 1]
theorem step_num {l : List UInt8} {p b : Nat} {ts : List Tok} {n : Int} {t r : List UInt8} (hd : l.drop p = t ++ r) (ht : IsNum n t) (hr : r = [] ∨ Stop r) (hb : b ≤ p) :
    lexL l p ⟨b, false, ts⟩ = lexL l (p + t.length) ⟨p + t.length, false, ts ++ [⟨2, n, p, t⟩]⟩ := by
  obtain ⟨c, u, rfl, hf⟩ := ht.head
  have hlow := ht.all
  obtain ⟨h1, h2, h3, h4⟩ := at_ascii (t := u ++ r) hd (hlow c (by simp))
  have hn : numZ (l.drop p) = (n, (c :: u).length) := by
    rw [hd]
    rcases hr with rfl | hr
    · rw [List.append_nil]; exact ht.num
    · rw [numZ_app (by simp) hr]; exact ht.num
  have hlo := firstR_low (c := c.toNat) (by omega)
  have hg := at_other (l := l) (p := p) (x := ⟨b, false, ts⟩) rfl (good h2 (by omega)) (by rw [h2]; omega) (by rw [h2]; omega) (by rw [h2]; unfold blankR; simp; omega) (by rw [h2]; exact hlo) (by rw [h2]; unfold signR; simp; omega)
  have hng : numberZ l p ⟨b, false, ts⟩ = (0, addZ l 2 n p (c :: u).length ⟨b, false, ts⟩) := by
    unfold numberZ
    rw [hn, if_neg (by simp), if_neg (by have := ht.range; simp only; omega)]
  rw [lexL_go h1 hb, hg, hng, if_pos rfl]
  simp only
  unfold addZ
  rw [hd]
  have htk : (c :: u ++ r).take (c :: u).length = c :: u := List.take_left
  rw [htk]
  have hw : wideR (c :: u ++ r) = 1 := by rw [← hd]; exact h3
  have hov := over_ascii (x := ⟨p + (c :: u).length, false, ts ++ [⟨2, n, p, c :: u⟩]⟩) u r (p + 1) h4 (fun c hc => hlow c (by simp [hc])) (by simp only [List.length_cons]; omega)
  rw [hw, hov, List.length_cons, Nat.add_assoc, Nat.add_comm 1]
theorem step_sign {l : List UInt8} {p b : Nat} {ts : List Tok} {c : UInt8} {r : List UInt8} (hd : l.drop p = c :: r) (hc : c = 44 ∨ c = 58 ∨ c = 40 ∨ c = 41) (hb : b ≤ p) :
    lexL l p ⟨b, false, ts⟩ = lexL l (p + 1) ⟨p + 1, false, ts ++ [⟨3, 0, p, [c]⟩]⟩ := by
  have hc2 : c.toNat < 128 := by rcases hc with rfl | rfl | rfl | rfl <;> decide
  obtain ⟨h1, h2, h3, h4⟩ := at_ascii hd hc2
  have hg := at_sign (l := l) (p := p) (x := ⟨b, false, ts⟩) rfl (by rw [h2]; rcases hc with rfl | rfl | rfl | rfl <;> decide)
  rw [lexL_go h1 hb, hg, if_pos rfl, h3]
  simp only
  unfold addZ
  rw [hd]
  rfl
theorem run_hash {l : List UInt8} {b : Nat} {ts : List Tok} : ∀ (t r : List UInt8) (p : Nat), l.drop p = t ++ r → (∀ c ∈ t, c.toNat < 128 ∧ c ≠ 10) → b ≤ p → lexL l p ⟨b, true, ts⟩ = lexL l (p + t.length) ⟨b, true, ts⟩
  | [], r, p, _, _, _ => rfl
  | c :: t, r, p, hd, ha, hb => by
    obtain ⟨hc, hn⟩ := ha c (by simp)
    obtain ⟨_, _, _, h4⟩ := at_ascii (t := t ++ r) hd hc
    rw [step_remark hd hc hn hb, run_hash t r (p + 1) h4 (fun c hc => ha c (by simp [hc])) (by omega)]
    rw [List.length_cons, Nat.add_assoc, Nat.add_comm 1]
theorem lex_pcs {l : List UInt8} : ∀ (ps : List Pc) (p b : Nat) (rm : Bool) (ts : List Tok), goodP ps → l.drop p = pcText ps → p ≤ l.length → b ≤ p → (rm = true → ps = [] ∨ ∃ qs, ps = .line :: qs) →
    ∃ us, us.map keyK = lexK (lineB ts) ps ∧ lexL l p ⟨b, rm, ts⟩ = .toks (ts ++ us)
  | [], p, b, rm, ts, _, hd, hp, hb, hrm => by
    have : l.length ≤ p := by
      have := congrArg List.length hd
      simp [pcText] at this
      omega
    exact ⟨[], rfl, by rw [lexL_end (by omega), List.append_nil]⟩
  | q :: ps, p, b, rm, ts, hg, hd, hp, hb, hrm => by
    obtain ⟨hq, hn, hg'⟩ := hg
    rw [pcText_cons] at hd
    have hlen : p + q.text.length ≤ l.length := by
      have := congrArg List.length hd
      simp at this
      omega
    have hd' : l.drop (p + q.text.length) = pcText ps := by
      rw [← List.drop_drop, hd, List.drop_left]
    cases q with
    | name t =>
      have hrf : rm = false := by cases rm with | false => rfl | true => rcases hrm rfl with h | ⟨_, h⟩ <;> cases h
      subst hrf
      have h1 := step_name (b := b) (ts := ts) hd hq (stop_next hg' hn (.inl ⟨_, rfl⟩)) hb
      obtain ⟨us, u1, u2⟩ := lex_pcs ps (p + t.length) (p + t.length) false (ts ++ [⟨1, 0, p, t⟩]) hg' hd' hlen (Nat.le_refl _) (by simp)
      refine ⟨⟨1, 0, p, t⟩ :: us, ?_, ?_⟩
      · rw [List.map_cons, u1, lineB_one _ _ (by simp)]; rfl
      · exact h1.trans (u2.trans (by rw [List.append_assoc]; rfl))
    | num n t =>
      have hrf : rm = false := by cases rm with | false => rfl | true => rcases hrm rfl with h | ⟨_, h⟩ <;> cases h
      subst hrf
      have h1 := step_num (b := b) (ts := ts) hd hq (stop_next hg' hn (.inr ⟨_, _, rfl⟩)) hb
      obtain ⟨us, u1, u2⟩ := lex_pcs ps (p + t.length) (p + t.length) false (ts ++ [⟨2, n, p, t⟩]) hg' hd' hlen (Nat.le_refl _) (by simp)
      refine ⟨⟨2, n, p, t⟩ :: us, ?_, ?_⟩
      · rw [List.map_cons, u1, lineB_one _ _ (by simp)]; rfl
      · exact h1.trans (u2.trans (by rw [List.append_assoc]; rfl))
    | sign c =>
      have hrf : rm = false := by cases rm with | false => rfl | true => rcases hrm rfl with h | ⟨_, h⟩ <;> cases h
      subst hrf
      have h1 := step_sign (b := b) (ts := ts) (r := pcText ps) hd hq hb
      obtain ⟨us, u1, u2⟩ := lex_pcs ps (p + 1) (p + 1) false (ts ++ [⟨3, 0, p, [c]⟩]) hg' hd' hlen (Nat.le_refl _) (by simp)
      refine ⟨⟨3, 0, p, [c]⟩ :: us, ?_, ?_⟩
      · rw [List.map_cons, u1, lineB_one _ _ (by simp)]; rfl
      · exact h1.trans (u2.trans (by rw [List.append_assoc]; rfl))
    | blank c =>
      have hrf : rm = false := by cases rm with | false => rfl | true => rcases hrm rfl with h | ⟨_, h⟩ <;> cases h
      subst hrf
      have h1 := step_blank (x := ⟨b, false, ts⟩) (t := pcText ps) hd hq hb
      obtain ⟨us, u1, u2⟩ := lex_pcs ps (p + 1) b false ts hg' hd' hlen (by omega) (by simp)
      exact ⟨us, u1, by rw [h1, u2]⟩
    | line =>
      have hd2 : l.drop p = 10 :: pcText ps := hd
      cases hl : lineB ts
      · have h1 := step_nl2 (b := b) (rm := rm) hd2 hb hl
        obtain ⟨us, u1, u2⟩ := lex_pcs ps (p + 1) b false ts hg' hd' hlen (by omega) (by simp)
        refine ⟨us, ?_, by rw [h1, u2]⟩
        rw [u1, hl]; rfl
      · have h1 := step_nl (b := b) (rm := rm) hd2 hb hl
        obtain ⟨us, u1, u2⟩ := lex_pcs ps (p + 1) (p + 1) false (ts ++ [⟨4, 0, p, [10]⟩]) hg' hd' hlen (Nat.le_refl _) (by simp)
        refine ⟨⟨4, 0, p, [10]⟩ :: us, ?_, ?_⟩
        · rw [List.map_cons, u1, lineB_end _ _ rfl]; rfl
        · exact h1.trans (u2.trans (by rw [List.append_assoc]; rfl))
    | hash t =>
      have hrf : rm = false := by cases rm with | false => rfl | true => rcases hrm rfl with h | ⟨_, h⟩ <;> cases h
      subst hrf
      have hd2 : l.drop p = 35 :: (t ++ pcText ps) := hd
      obtain ⟨_, _, _, h4⟩ := at_ascii hd2 (by decide)
      have h1 := step_hash (b := b) (ts := ts) hd2 hb
      have h2 := run_hash (b := b) (ts := ts) t (pcText ps) (p + 1) h4 hq (by omega)
      have e : p + 1 + t.length = p + (Pc.hash t).text.length := by show _ = p + (t.length + 1); omega
      obtain ⟨us, u1, u2⟩ := lex_pcs ps (p + (Pc.hash t).text.length) b true ts hg' hd' hlen (by omega) (fun _ => by
        cases ps with
        | nil => exact .inl rfl
        | cons z zs => cases z with | line => exact .inr ⟨zs, rfl⟩ | _ => exact absurd hn (by simp [nextP]))
      exact ⟨us, u1, by rw [h1, h2, e, u2]⟩
theorem lexZ_pcs {ps : List Pc} (hg : goodP ps) (hl : (pcText ps).length ≤ 20000) : ∃ T, T.map keyK = lexK false ps ∧ lexZ (pcText ps) = .toks T := by
  obtain ⟨us, u1, u2⟩ := lex_pcs (l := pcText ps) ps 0 0 false [] hg rfl (Nat.zero_le _) (Nat.le_refl _) (by simp)
  exact ⟨us, u1, by rw [lexZ_L, if_neg (by omega), u2]; rfl⟩
def openK : Bool → List Pc → Bool
  | o, [] => o
  | o, .name _ :: ps => openK true ps
  | o, .num _ _ :: ps => openK true ps
  | o, .sign _ :: ps => openK true ps
  | o, .blank _ :: ps => openK o ps
  | o, .line :: ps => openK false ps
  | o, .hash _ :: ps => openK o ps
theorem lexK_append : ∀ (a b : List Pc) (o : Bool), lexK o (a ++ b) = lexK o a ++ lexK (openK o a) b
  | [], b, o => rfl
  | p :: a, b, o => by
    cases p with
    | line =>
      have ih := lexK_append a b false
      cases o <;> simp [lexK, openK, ih]
    | _ => simp [lexK, openK, lexK_append a b]
theorem openK_append : ∀ (a b : List Pc) (o : Bool), openK o (a ++ b) = openK (openK o a) b
  | [], b, o => rfl
  | p :: a, b, o => by cases p <;> simp [openK, openK_append a b]
theorem goodP_append : ∀ (a b : List Pc), goodP a → goodP b → (∀ x, a.getLast? = some x → nextP x b) → goodP (a ++ b)
  | [], b, _, hb, _ => hb
  | [p], b, ha, hb, h => ⟨ha.1, h p rfl, hb⟩
  | p :: q :: a, b, ha, hb, h => by
    refine ⟨ha.1, ?_, goodP_append (q :: a) b ha.2.2 hb (fun x hx => h x (by simpa using hx))⟩
    have := ha.2.1
    cases p <;> cases q <;> first | trivial | exact this
end Go.Proofs.YtcaibahniheohaaDoor.Words

/- Texts one behind the other, taken apart: what a text's beginning leaves, whatever stands behind it. Plain mathematics. -/
import Derived.Test.YtimdojeagkbgbaaDoorG02
namespace Go.Proofs.YtimdojeagkbgbaaDoor.Words
set_option maxRecDepth 100000
set_option linter.unusedVariables false
open Go.Lib

/-- Rune by rune, with rounds enough. -/
def lexL (l : List UInt8) (p : Nat) (x : LexS) : LexR := lexF l l.length p x
theorem lexL_fuel (l : List UInt8) (f p : Nat) (x : LexS) (h : l.length ≤ p + f) : lexF l f p x = lexL l p x := by
  unfold lexL
  rcases Nat.le_total f l.length with h2 | h2
  · obtain ⟨d, hd⟩ := Nat.exists_eq_add_of_le h2
    have := lexF_more l f p x d h
    rw [← hd] at this
    exact this.symm
  · obtain ⟨d, hd⟩ := Nat.exists_eq_add_of_le h2
    have := lexF_more l l.length p x d (by omega)
    rw [← hd] at this
    exact this
theorem lexL_end {l : List UInt8} {p : Nat} {x : LexS} (h : ¬ p < l.length) : lexL l p x = .toks x.toks := lex_stop h
theorem lexL_over {l : List UInt8} {p : Nat} {x : LexS} (h : p < l.length) (hb : p < x.behind) : lexL l p x = lexL l (p + wideR (l.drop p)) x := by
  have hw := wideR_pos (l.drop p)
  obtain ⟨f, hf⟩ : ∃ f, l.length = f + 1 := ⟨l.length - 1, by omega⟩
  rw [← lexL_fuel l (f + 1) p x (by omega), lex_over h hb, lexL_fuel l f _ x (by omega)]
theorem lexL_go {l : List UInt8} {p : Nat} {x : LexS} (h : p < l.length) (hb : x.behind ≤ p) : lexL l p x = if (takeZ l p x).1 = 0 then lexL l (p + wideR (l.drop p)) (takeZ l p x).2 else .bad p (takeZ l p x).1 := by
  have hw := wideR_pos (l.drop p)
  obtain ⟨f, hf⟩ : ∃ f, l.length = f + 1 := ⟨l.length - 1, by omega⟩
  rw [← lexL_fuel l (f + 1) p x (by omega), lex_go h hb, lexL_fuel l f _ _ (by omega)]
theorem lexZ_L (l : List UInt8) : lexZ l = if 20000 < l.length then .bad 0 7 else lexL l 0 ⟨0, false, []⟩ := rfl

/-- What no name and no number goes on with: an ascii that is no letter, no digit. -/
structure Stop (r : List UInt8) : Prop where
  head : ∃ c t, r = c :: t ∧ c.toNat < 128 ∧ nameR (c.toNat : Int) = false ∧ digR (c.toNat : Int) = 16
theorem stop_of {c : UInt8} {t : List UInt8} (h : c = 10 ∨ c = 32 ∨ c = 9 ∨ c = 13 ∨ c = 35 ∨ c = 44 ∨ c = 58 ∨ c = 40 ∨ c = 41) : Stop (c :: t) := by
  refine ⟨c, t, rfl, ?_⟩
  rcases h with rfl | rfl | rfl | rfl | rfl | rfl | rfl | rfl | rfl <;> exact ⟨by decide, by decide +kernel, by decide +kernel⟩
/-- A rune is what it is, whatever ascii stands behind the text. -/
theorem decode_app {u r : List UInt8} (hu : u ≠ []) (hr : ∃ c t, r = c :: t ∧ c.toNat < 128) : decodeL (u ++ r) = decodeL u := by
  obtain ⟨c, t, rfl, hc⟩ := hr
  rw [decodeL_N, decodeL_N]
  have hc2 : ¬ c.toNat / 64 = 2 := by omega
  rcases u with _ | ⟨a0, _ | ⟨a1, _ | ⟨a2, _ | ⟨a3, u⟩⟩⟩⟩
  · exact absurd rfl hu
  · simp only [List.cons_append, List.nil_append, List.length_cons, List.length_nil, List.getD_cons_zero, List.getD_cons_succ, List.getD_nil]
    unfold decodeN
    simp only [show (1 < 0 + 1) = False by simp, false_and, and_false, if_false, hc2]
  · simp only [List.cons_append, List.nil_append, List.length_cons, List.length_nil, List.getD_cons_zero, List.getD_cons_succ, List.getD_nil]
    unfold decodeN
    simp only [show (1 < 0 + 1 + 1) = True by simp, show (2 < 0 + 1 + 1) = False by simp, show (1 < t.length + 1 + 1 + 1) = True by simp, true_and, false_and, and_false, if_false, hc2]
  · simp only [List.cons_append, List.nil_append, List.length_cons, List.length_nil, List.getD_cons_zero, List.getD_cons_succ, List.getD_nil]
    unfold decodeN
    simp only [show (1 < 0 + 1 + 1 + 1) = True by simp, show (2 < 0 + 1 + 1 + 1) = True by simp, show (3 < 0 + 1 + 1 + 1) = False by simp, show (1 < t.length + 1 + 1 + 1 + 1) = True by simp, show (2 < t.length + 1 + 1 + 1 + 1) = True by simp, true_and, false_and, and_false, if_false, hc2]
  · simp only [List.cons_append, List.length_cons, List.getD_cons_zero, List.getD_cons_succ]
    unfold decodeN
    simp
theorem Stop.ascii {r : List UInt8} (h : Stop r) : ∃ c t, r = c :: t ∧ c.toNat < 128 := by obtain ⟨c, t, h1, h2, _⟩ := h.head; exact ⟨c, t, h1, h2⟩
theorem Stop.rune {r : List UInt8} (h : Stop r) : nameR (runeR r) = false ∧ digR (runeR r) = 16 ∧ 0 < r.length := by
  obtain ⟨c, t, rfl, h2, h3, h4⟩ := h.head
  have : runeR (c :: t) = c.toNat := by unfold runeR; rw [decodeL_ascii _ _ h2]
  rw [this]
  exact ⟨h3, h4, by simp⟩
section
variable {u r : List UInt8}
theorem rune_app (hu : u ≠ []) (hr : Stop r) : runeR (u ++ r) = runeR u := by unfold runeR; rw [decode_app hu hr.ascii]
theorem wide_app (hu : u ≠ []) (hr : Stop r) : wideR (u ++ r) = wideR u := by unfold wideR; rw [decode_app hu hr.ascii]
theorem bad_app (hu : u ≠ []) (hr : Stop r) : badR (u ++ r) = badR u := by unfold badR; rw [rune_app hu hr, wide_app hu hr]
theorem nameF_app (hr : Stop r) : ∀ f p F, f < F → u.length ≤ p + f → p ≤ u.length → nameF (u ++ r) F p = nameF u f p
  | 0, p, F + 1, _, h1, h2 => by
    have hp : p = u.length := by omega
    subst hp
    unfold nameF
    rw [if_pos (by have := hr.rune.2.2; simp; omega), List.drop_left, hr.rune.1]
    rfl
  | f + 1, p, F + 1, hF, h1, h2 => by
    by_cases hp : p < u.length
    · have hne := from_ne hp
      conv => lhs; unfold nameF
      conv => rhs; unfold nameF
      rw [if_pos (by simp; omega), if_pos hp, List.drop_append_of_le_length h2, rune_app hne hr, wide_app hne hr]
      have hw := wide_in hp
      have hw2 := wideR_pos (u.drop p)
      split
      · exact nameF_app hr f _ F (by omega) (by omega) hw
      · rfl
    · have hp2 : p = u.length := by omega
      subst hp2
      conv => rhs; unfold nameF
      rw [if_neg hp]
      unfold nameF
      rw [if_pos (by have := hr.rune.2.2; simp; omega), List.drop_left, hr.rune.1]
      rfl
theorem digF_app (hr : Stop r) {base : Int} (hb : base ≤ 16) : ∀ f p F n, f < F → u.length ≤ p + f → p ≤ u.length → digF (u ++ r) base F p n = digF u base f p n
  | 0, p, F + 1, n, _, h1, h2 => by
    have hp : p = u.length := by omega
    subst hp
    unfold digF
    rw [if_pos (by have := hr.rune.2.2; simp; omega), List.drop_left, hr.rune.2.1, if_pos hb]
  | f + 1, p, F + 1, n, hF, h1, h2 => by
    by_cases hp : p < u.length
    · have hne := from_ne hp
      conv => lhs; unfold digF
      conv => rhs; unfold digF
      rw [if_pos (by simp; omega), if_pos hp, List.drop_append_of_le_length h2, rune_app hne hr, wide_app hne hr]
      have hw := wide_in hp
      have hw2 := wideR_pos (u.drop p)
      split
      · rfl
      · exact digF_app hr hb f _ F _ (by omega) (by omega) hw
    · have hp2 : p = u.length := by omega
      subst hp2
      conv => rhs; unfold digF
      rw [if_neg hp]
      unfold digF
      rw [if_pos (by have := hr.rune.2.2; simp; omega), List.drop_left, hr.rune.2.1, if_pos hb]
theorem nameZ_app (hr : Stop r) : nameZ (u ++ r) = nameZ u := by
  unfold nameZ
  exact nameF_app hr _ _ _ (by have := hr.rune.2.2; simp; omega) (by omega) (Nat.zero_le _)
theorem digZ_app (hr : Stop r) {base : Int} (hb : base ≤ 16) : digZ (u ++ r) base = digZ u base := by
  unfold digZ
  exact digF_app hr hb _ _ _ _ (by have := hr.rune.2.2; simp; omega) (by omega) (Nat.zero_le _)
theorem pre_app2 (hu : u ≠ []) (hr : Stop r) : hasPrefix (u ++ r) [48, 120] = hasPrefix u [48, 120] := by
  obtain ⟨c, t, rfl, h2, h3, h4⟩ := hr.head
  have hc : c ≠ 120 := by rintro rfl; exact absurd h3 (by decide +kernel)
  rcases u with _ | ⟨a, _ | ⟨b, u⟩⟩
  · exact absurd rfl hu
  · unfold hasPrefix
    simp only [List.cons_append, List.nil_append, List.isPrefixOf, beq_eq_false_iff_ne.2 (fun e : (120 : UInt8) = c => hc e.symm), Bool.false_and, Bool.and_false]
  · unfold hasPrefix
    simp [List.isPrefixOf]
theorem pre_app1 (hu : u ≠ []) : hasPrefix (u ++ r) [45] = hasPrefix u [45] := by
  rcases u with _ | ⟨a, u⟩
  · exact absurd rfl hu
  · unfold hasPrefix
    simp [List.isPrefixOf]
theorem numZ_app (hu : u ≠ []) (hr : Stop r) : numZ (u ++ r) = numZ u := by
  have h1 : hasPrefix u [48, 120] = true → (u ++ r).drop 2 = u.drop 2 ++ r := fun h => List.drop_append_of_le_length (by have := prefix_len h; simpa using this)
  have h2 : (u ++ r).drop 1 = u.drop 1 ++ r := List.drop_append_of_le_length (List.length_pos_iff.2 hu)
  unfold numZ
  rw [pre_app2 hu hr, pre_app1 hu, h2, digZ_app hr (by omega), digZ_app hr (by omega)]
  by_cases h : hasPrefix u [48, 120] = true
  · rw [h1 h, digZ_app hr (by omega)]
  · have e : ∀ n : Nat, ¬ (hasPrefix u [48, 120] = true ∧ 0 < n) := fun n e => h e.1
    rw [if_neg (e _), if_neg (e _)]
theorem take_app {n : Nat} (h : n ≤ u.length) : (u ++ r).take n = u.take n := List.take_append_of_le_length h
/-- What begins at a place of a text does not hang on what stands behind the text. -/
theorem takeZ_app {a : List UInt8} {p : Nat} (x : LexS) (hp : p < a.length) (hr : Stop r) : takeZ (a ++ r) p x = takeZ a p x ∧ wideR ((a ++ r).drop p) = wideR (a.drop p) := by
  have hne := from_ne hp
  have hd : (a ++ r).drop p = a.drop p ++ r := List.drop_append_of_le_length (Nat.le_of_lt hp)
  have hl : 1 ≤ (a.drop p).length := List.length_pos_iff.2 hne
  refine ⟨?_, by rw [hd, wide_app hne hr]⟩
  unfold takeZ lineZ numberZ addZ
  rw [hd, bad_app hne hr, rune_app hne hr, nameZ_app hr, numZ_app hne hr, take_app hl, take_app (nameZ_le _), take_app (numZ_le _)]
theorem takeZ_behind {a : List UInt8} {p : Nat} (x : LexS) (hp : p < a.length) (hb : x.behind ≤ a.length) : (takeZ a p x).2.behind ≤ a.length := by
  have hl : (a.drop p).length = a.length - p := by simp
  have h1 := nameZ_le (a.drop p)
  have h2 := numZ_le (a.drop p)
  unfold takeZ lineZ numberZ addZ
  repeat' split
  all_goals simp only
  all_goals omega
/-- The way through a text that has tokens, whatever stands behind it. -/
theorem lex_pre {a : List UInt8} (hr : Stop r) : ∀ n p x ts, a.length ≤ p + n → p ≤ a.length → x.behind ≤ a.length → lexL a p x = .toks ts → ∃ y : LexS, y.toks = ts ∧ y.behind ≤ a.length ∧ lexL (a ++ r) p x = lexL (a ++ r) a.length y
  | 0, p, x, ts, h1, h2, hb, h => by
    have hp : p = a.length := by omega
    subst hp
    rw [lexL_end (by omega)] at h
    injection h with h
    exact ⟨x, h, hb, rfl⟩
  | n + 1, p, x, ts, h1, h2, hb, h => by
    by_cases hp : p < a.length
    · have hw := wide_in hp
      have hw2 := wideR_pos (a.drop p)
      have hpr : p < (a ++ r).length := by simp; omega
      obtain ⟨t1, t2⟩ := takeZ_app (r := r) x hp hr
      by_cases hx : p < x.behind
      · rw [lexL_over hp hx] at h
        rw [lexL_over hpr hx, t2]
        exact lex_pre hr n _ x ts (by omega) hw hb h
      · rw [lexL_go hp (by omega)] at h
        rw [lexL_go hpr (by omega), t1, t2]
        split at h
        · rename_i h0
          rw [if_pos h0]
          exact lex_pre hr n _ _ ts (by omega) hw (takeZ_behind x hp hb) h
        · cases h
    · have hp2 : p = a.length := by omega
      subst hp2
      rw [lexL_end hp] at h
      injection h with h
      exact ⟨x, h, hb, rfl⟩
end
/-- A token so many bytes on. -/
def shiftT (n : Nat) (t : Tok) : Tok := { t with at_ := t.at_ + n }
/-- What a text's end leaves, behind tokens of another one that end with a line's end, or behind none. -/
def behindR (n : Nat) (T : List Tok) : LexR → LexR
  | .toks us => .toks (T ++ us.map (shiftT n))
  | .bad a e => .bad (n + a) e
theorem lineB_snoc (T : List Tok) (us : List Tok) (hT : lineB T = false) (n : Nat) : lineB (T ++ us.map (shiftT n)) = lineB us := by
  unfold lineB
  rcases List.eq_nil_or_concat us with rfl | ⟨vs, v, rfl⟩
  · simpa [lineB] using hT
  · simp [shiftT]
theorem take_shift (c b : List UInt8) (p : Nat) (bh : Nat) (rm : Bool) (T us : List Tok) (hT : lineB T = false) :
    (takeZ (c ++ b) (c.length + p) ⟨c.length + bh, rm, T ++ us.map (shiftT c.length)⟩).1 = (takeZ b p ⟨bh, rm, us⟩).1 ∧
    (takeZ (c ++ b) (c.length + p) ⟨c.length + bh, rm, T ++ us.map (shiftT c.length)⟩).2 = ⟨c.length + (takeZ b p ⟨bh, rm, us⟩).2.behind, (takeZ b p ⟨bh, rm, us⟩).2.remark, T ++ (takeZ b p ⟨bh, rm, us⟩).2.toks.map (shiftT c.length)⟩ := by
  have hd : (c ++ b).drop (c.length + p) = b.drop p := by rw [List.drop_append]; simp
  have hl := lineB_snoc T us hT c.length
  have hs : ∀ (k n : Int) (s : Nat) (x : List UInt8), (⟨k, n, c.length + p, x⟩ : Tok) = shiftT c.length ⟨k, n, p, x⟩ := fun k n s x => by unfold shiftT; simp [Nat.add_comm]
  unfold takeZ lineZ numberZ addZ
  rw [hd]
  simp only [hl, hs _ _ 0]
  repeat' split
  all_goals first
    | exact ⟨rfl, rfl⟩
    | (refine ⟨rfl, ?_⟩; simp [Nat.add_assoc])
    | simp_all
theorem lex_shift (c b : List UInt8) (T : List Tok) (hT : lineB T = false) : ∀ n p bh rm us, b.length ≤ p + n → lexL (c ++ b) (c.length + p) ⟨c.length + bh, rm, T ++ us.map (shiftT c.length)⟩ = behindR c.length T (lexL b p ⟨bh, rm, us⟩)
  | n, p, bh, rm, us, h => by
    by_cases hp : p < b.length
    · have hpc : c.length + p < (c ++ b).length := by simp; omega
      have hd : (c ++ b).drop (c.length + p) = b.drop p := by rw [List.drop_append]; simp
      have hw2 := wideR_pos (b.drop p)
      obtain ⟨m, rfl⟩ : ∃ m, n = m + 1 := ⟨n - 1, by omega⟩
      by_cases hx : p < bh
      · rw [lexL_over hp (by exact hx), lexL_over hpc (by show c.length + p < c.length + bh; omega), hd, Nat.add_assoc]
        exact lex_shift c b T hT m _ bh rm us (by omega)
      · obtain ⟨t1, t2⟩ := take_shift c b p bh rm T us hT
        rw [lexL_go hp (by exact Nat.le_of_not_lt hx), lexL_go hpc (by show c.length + bh ≤ c.length + p; omega), hd, t1, t2]
        split
        · rw [Nat.add_assoc]
          exact lex_shift c b T hT m _ _ _ _ (by omega)
        · rfl
    · rw [lexL_end hp, lexL_end (by simp; omega)]; rfl
/-- An ascii that stands at a place. -/
theorem at_ascii {l : List UInt8} {p : Nat} {c : UInt8} {t : List UInt8} (hd : l.drop p = c :: t) (hc : c.toNat < 128) : p < l.length ∧ runeR (l.drop p) = c.toNat ∧ wideR (l.drop p) = 1 ∧ l.drop (p + 1) = t := by
  refine ⟨?_, ?_, ?_, ?_⟩
  · apply Nat.lt_of_not_le
    intro h
    rw [List.drop_eq_nil_of_le h] at hd; cases hd
  · rw [hd]; unfold runeR; rw [decodeL_ascii _ _ hc]
  · rw [hd]; unfold wideR; rw [decodeL_ascii _ _ hc]
  · have := congrArg List.tail hd
    simpa [List.tail_drop] using this
/-- A line's end. -/
theorem step_line {l : List UInt8} {p : Nat} {t : List UInt8} {b : Nat} {rm : Bool} {ts : List Tok} (hd : l.drop p = 10 :: t) (hb : b ≤ p) : lexL l p ⟨b, rm, ts⟩ = lexL l (p + 1) (lineZ l p ⟨b, false, ts⟩) := by
  obtain ⟨h1, h2, h3, _⟩ := at_ascii hd (by decide)
  rw [lexL_go h1 (by exact hb), at_line rm (show runeR (l.drop p) = 10 from h2), h3]
  rfl
/-- A blank. -/
theorem step_blank {l : List UInt8} {p : Nat} {c : UInt8} {t : List UInt8} {x : LexS} (hd : l.drop p = c :: t) (hc : c = 32 ∨ c = 9 ∨ c = 13) (hb : x.behind ≤ p) : lexL l p x = lexL l (p + 1) x := by
  have hc2 : c.toNat < 128 := by rcases hc with rfl | rfl | rfl <;> decide
  obtain ⟨h1, h2, h3, _⟩ := at_ascii hd hc2
  have hbl : blankR (runeR (l.drop p)) = true := by rw [h2]; rcases hc with rfl | rfl | rfl <;> decide
  have hbd : badR (l.drop p) = false := good h2 (by rcases hc with rfl | rfl | rfl <;> decide)
  rw [lexL_go h1 hb, at_blank hbd hbl, h3]
  rfl
/-- A remark begins. -/
theorem step_hash {l : List UInt8} {p : Nat} {t : List UInt8} {b : Nat} {ts : List Tok} (hd : l.drop p = 35 :: t) (hb : b ≤ p) : lexL l p ⟨b, false, ts⟩ = lexL l (p + 1) ⟨b, true, ts⟩ := by
  obtain ⟨h1, h2, h3, _⟩ := at_ascii hd (by decide)
  rw [lexL_go h1 (by exact hb), at_hash (show runeR (l.drop p) = 35 from h2), h3]
  rfl
/-- In a remark. -/
theorem step_remark {l : List UInt8} {p : Nat} {c : UInt8} {t : List UInt8} {b : Nat} {ts : List Tok} (hd : l.drop p = c :: t) (hc : c.toNat < 128) (hn : c ≠ 10) (hb : b ≤ p) : lexL l p ⟨b, true, ts⟩ = lexL l (p + 1) ⟨b, true, ts⟩ := by
  obtain ⟨h1, h2, h3, _⟩ := at_ascii hd hc
  have hbd : badR (l.drop p) = false := good h2 (by omega)
  have h10 : runeR (l.drop p) ≠ 10 := by
    rw [h2]; intro e; apply hn
    exact UInt8.toNat_inj.1 (by show c.toNat = 10; omega)
  rw [lexL_go h1 (by exact hb), at_remark hbd rfl h10, h3]
  rfl
end Go.Proofs.YtimdojeagkbgbaaDoor.Words

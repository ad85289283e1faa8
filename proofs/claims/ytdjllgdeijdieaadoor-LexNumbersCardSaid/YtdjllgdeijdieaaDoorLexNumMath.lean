/- Numbers as texts, and read again: plain mathematics over lexZ. -/
import Derived.Test.YtdjllgdeijdieaaDoorLexMath
import Derived.Lib.TrimAscii
namespace Go.Proofs.YtdjllgdeijdieaaDoor.Words
set_option maxRecDepth 100000
set_option linter.unusedVariables false
open Go.Lib

/-- A digit of base 16: small letters, or great ones. -/
def hexB (great : Bool) (d : Nat) : UInt8 := if d < 10 then UInt8.ofNat (48 + d) else if great then UInt8.ofNat (55 + d) else UInt8.ofNat (87 + d)
/-- A number in a base: its digits. -/
def digsB (b : Nat) (great : Bool) : Nat → Nat → List UInt8
  | 0, n => []
  | f + 1, n => if n < b then [hexB great n] else digsB b great f (n / b) ++ [hexB great (n % b)]
/-- Enough rounds are enough. -/
theorem digsB_more {b : Nat} (hb : 2 ≤ b) (g : Bool) : ∀ f n, n < f → digsB b g f n = digsB b g (n + 1) n
  | 0, n, h => by omega
  | f + 1, n, h => by
    unfold digsB
    split
    · rfl
    · rename_i hn
      have h1 : n / b < n := Nat.div_lt_self (by omega) (by omega)
      rw [digsB_more hb g f (n / b) (by omega), digsB_more hb g n (n / b) h1]
/-- The digits of a number. -/
def digs (b : Nat) (g : Bool) (n : Nat) : List UInt8 := digsB b g (n + 1) n
theorem digs_lo {b n : Nat} (g : Bool) (h : n < b) : digs b g n = [hexB g n] := by unfold digs digsB; rw [if_pos h]
theorem digs_hi {b n : Nat} (hb : 2 ≤ b) (g : Bool) (h : b ≤ n) : digs b g n = digs b g (n / b) ++ [hexB g (n % b)] := by
  have h1 : n / b < n := Nat.div_lt_self (by omega) (by omega)
  unfold digs
  conv => lhs; unfold digsB
  rw [if_neg (by omega), digsB_more hb g n (n / b) h1]
theorem digs_ne {b : Nat} (hb : 2 ≤ b) (g : Bool) (n : Nat) : digs b g n ≠ [] := by
  by_cases h : n < b
  · rw [digs_lo g h]; simp
  · rw [digs_hi hb g (by omega)]; simp
/-- What is so of each digit. -/
structure IsDig (b : Nat) (c : UInt8) : Prop where
  low : c.toNat < 128
  dig : 0 ≤ digR c.toNat ∧ digR c.toNat < b
  ne10 : c.toNat ≠ 120 ∧ c.toNat ≠ 45
theorem hexB_dig {b d : Nat} (g : Bool) (hb : b ≤ 16) (h : d < b) : IsDig b (hexB g d) ∧ digR ((hexB g d).toNat : Int) = d := by
  have hd : d < 16 := by omega
  have h1 : ((List.range 16).all fun d => decide ((hexB g d).toNat < 128) && (decide (digR ((hexB g d).toNat : Int) = (d : Int)) && (decide ((hexB g d).toNat ≠ 120) && decide ((hexB g d).toNat ≠ 45)))) = true := by cases g <;> decide +kernel
  have h2 := List.all_eq_true.1 h1 d (List.mem_range.2 hd)
  simp only [Bool.and_eq_true, decide_eq_true_eq] at h2
  obtain ⟨a1, a2, a3, a4⟩ := h2
  exact ⟨⟨a1, by rw [a2]; omega, a3, a4⟩, a2⟩
theorem digs_dig {b : Nat} (hb : 2 ≤ b) (hb16 : b ≤ 16) (g : Bool) : ∀ n, ∀ c ∈ digs b g n, IsDig b c := by
  intro n
  induction n using Nat.strongRecOn with
  | _ n ih =>
    intro c hc
    by_cases h : n < b
    · rw [digs_lo g h] at hc
      simp only [List.mem_cons, List.not_mem_nil, or_false] at hc
      subst hc
      exact (hexB_dig g hb16 h).1
    · rw [digs_hi hb g (by omega), List.mem_append] at hc
      rcases hc with hc | hc
      · exact ih _ (Nat.div_lt_self (by omega) (by omega)) c hc
      · simp only [List.mem_cons, List.not_mem_nil, or_false] at hc
        subst hc
        exact (hexB_dig g hb16 (Nat.mod_lt _ (by omega))).1
/-- The value that digits give, no more than so far. -/
def foldD (b : Int) (cs : List UInt8) (n : Int) : Int := cs.foldl (fun n c => min (n * b + digR (c.toNat : Int)) 4294967297) n
theorem foldD_digs {b : Nat} (hb : 2 ≤ b) (hb16 : b ≤ 16) (g : Bool) : ∀ n : Nat, foldD b (digs b g n) 0 = min (n : Int) 4294967297 := by
  intro n
  induction n using Nat.strongRecOn with
  | _ n ih =>
    by_cases h : n < b
    · rw [digs_lo g h]
      unfold foldD
      simp only [List.foldl_cons, List.foldl_nil]
      rw [(hexB_dig g hb16 h).2, Int.zero_mul, Int.zero_add]
    · have hi := ih (n / b) (Nat.div_lt_self (by omega) (by omega))
      have hm : n % b < b := Nat.mod_lt _ (by omega)
      rw [digs_hi hb g (by omega)]
      unfold foldD at hi ⊢
      rw [List.foldl_append, hi]
      simp only [List.foldl_cons, List.foldl_nil]
      rw [(hexB_dig g hb16 hm).2]
      have hq : (n : Int) = (n / b : Nat) * b + (n % b : Nat) := by
        have := Nat.div_add_mod n b
        rw [Nat.mul_comm] at this
        exact_mod_cast this.symm
      by_cases hc : ((n / b : Nat) : Int) ≤ 4294967297
      · have hmin : min ((n / b : Nat) : Int) 4294967297 = ((n / b : Nat) : Int) := by omega
        rw [hmin, ← hq]
      · have hmin : min ((n / b : Nat) : Int) 4294967297 = 4294967297 := by omega
        rw [hmin]
        have h1 : (4294967297 : Int) * 2 ≤ 4294967297 * b := Int.mul_le_mul_of_nonneg_left (by omega) (by omega)
        have h2 : ((n / b : Nat) : Int) * 1 ≤ ((n / b : Nat) : Int) * b := Int.mul_le_mul_of_nonneg_left (by omega) (by omega)
        generalize ((n / b : Nat) : Int) * b = q at *
        generalize (4294967297 : Int) * (b : Int) = q' at *
        omega
theorem rune_ascii {c : UInt8} (h : c.toNat < 128) (r : List UInt8) : runeR (c :: r) = (c.toNat : Int) ∧ wideR (c :: r) = 1 := by
  unfold runeR wideR
  rw [decodeL_ascii c r h]
  exact ⟨rfl, rfl⟩
theorem digF_run {b : Nat} {tail : List UInt8} : ∀ (cs pre : List UInt8) (f : Nat) (n : Int), (∀ c ∈ cs, IsDig b c) →
    digF (pre ++ (cs ++ tail)) b (f + cs.length) pre.length n = digF (pre ++ (cs ++ tail)) b f (pre.length + cs.length) (foldD b cs n)
  | [], pre, f, n, _ => rfl
  | c :: cs, pre, f, n, h => by
    have hc := h c (by simp)
    obtain ⟨r1, r2⟩ := rune_ascii hc.low (cs ++ tail)
    have e : (pre ++ (c :: cs ++ tail)).drop pre.length = c :: (cs ++ tail) := by simp
    rw [List.length_cons, show f + (cs.length + 1) = (f + cs.length) + 1 by omega]
    conv => lhs; unfold digF
    rw [e, if_pos (by simp), r1, if_neg (by have := hc.dig; omega), r2]
    have ih := digF_run (tail := tail) cs (pre ++ [c]) f (min (n * b + digR (c.toNat : Int)) 4294967297) (fun c hc => h c (by simp [hc]))
    simp only [List.length_append, List.length_cons, List.length_nil, List.append_assoc, List.cons_append, List.nil_append, Nat.zero_add] at ih
    rw [List.cons_append, show pre.length + (cs.length + 1) = pre.length + 1 + cs.length by omega]
    exact ih
theorem digF_end (l : List UInt8) (b : Int) (f p : Nat) (n : Int) (h : ¬ p < l.length) : digF l b f p n = (n, p) := by
  cases f with
  | zero => rfl
  | succ f => unfold digF; rw [if_neg h]
theorem digZ_digs {b : Nat} (hb : 2 ≤ b) (hb16 : b ≤ 16) (g : Bool) (n : Nat) : digZ (digs b g n) b = (min (n : Int) 4294967297, (digs b g n).length) := by
  unfold digZ
  have := digF_run (tail := []) (digs b g n) [] 0 0 (digs_dig hb hb16 g n)
  simp only [List.nil_append, List.append_nil, List.length_nil, Nat.zero_add] at this
  rw [this, digF_end _ _ _ _ _ (by omega), foldD_digs hb hb16]
theorem prefix_mem {l : List UInt8} {a c : UInt8} (h : hasPrefix l [a, c] = true) : c ∈ l := by
  unfold hasPrefix at h
  rw [List.isPrefixOf_iff_prefix] at h
  exact h.subset (by simp)
theorem prefix_mem1 {l : List UInt8} {a : UInt8} (h : hasPrefix l [a] = true) : a ∈ l := by
  unfold hasPrefix at h
  rw [List.isPrefixOf_iff_prefix] at h
  exact h.subset (by simp)
theorem numZ_dec (n : Nat) : numZ (digs 10 false n) = (min (n : Int) 4294967297, (digs 10 false n).length) := by
  have hd := digs_dig (b := 10) (by omega) (by omega) false n
  have h1 : ¬ hasPrefix (digs 10 false n) [48, 120] = true := fun h => (hd 120 (prefix_mem h)).ne10.1 rfl
  have h2 : ¬ hasPrefix (digs 10 false n) [45] = true := fun h => (hd 45 (prefix_mem1 h)).ne10.2 rfl
  unfold numZ
  rw [if_neg (fun h => h1 h.1), if_neg (fun h => h2 h.1)]
  exact digZ_digs (by omega) (by omega) false n
theorem numZ_neg (n : Nat) : numZ (45 :: digs 10 false n) = (-(min (n : Int) 4294967297), 1 + (digs 10 false n).length) := by
  have hz := digZ_digs (b := 10) (by omega) (by omega) false n
  have hl : 0 < (digs 10 false n).length := List.length_pos_iff.2 (digs_ne (by omega) false n)
  unfold numZ
  rw [if_neg (fun h => by have := h.1; unfold hasPrefix at this; simp [List.isPrefixOf] at this)]
  have hdz : digZ ((45 :: digs 10 false n).drop 1) 10 = (min (n : Int) 4294967297, (digs 10 false n).length) := hz
  rw [hdz, if_pos ⟨by unfold hasPrefix; simp [List.isPrefixOf], hl⟩]
theorem numZ_hex (g : Bool) (n : Nat) : numZ (48 :: 120 :: digs 16 g n) = (min (n : Int) 4294967297, 2 + (digs 16 g n).length) := by
  have hz := digZ_digs (b := 16) (by omega) (by omega) g n
  have hl : 0 < (digs 16 g n).length := List.length_pos_iff.2 (digs_ne (by omega) g n)
  unfold numZ
  have hdz : digZ ((48 :: 120 :: digs 16 g n).drop 2) 16 = (min (n : Int) 4294967297, (digs 16 g n).length) := hz
  rw [hdz, if_pos ⟨by unfold hasPrefix; simp [List.isPrefixOf], hl⟩]
theorem firstR_low {c : Nat} (h : c = 45 ∨ (48 ≤ c ∧ c ≤ 57)) : firstR (c : Int) = false := by
  have h1 : ((List.range 58).all fun c => decide (c < 45) || (decide (c = 46 ∨ c = 47) || !firstR (c : Int))) = true := by decide +kernel
  have h2 := List.all_eq_true.1 h1 c (List.mem_range.2 (by omega))
  simp only [Bool.or_eq_true, decide_eq_true_eq, Bool.not_eq_true'] at h2
  rcases h2 with h2 | h2 | h2
  · omega
  · omega
  · exact h2
theorem lexF_skip (l : List UInt8) : ∀ (f p : Nat) (x : LexS), l.length ≤ x.behind → lexF l f p x = .toks x.toks
  | 0, p, x, h => rfl
  | f + 1, p, x, h => by
    unfold lexF
    split
    · rw [if_pos (by omega)]
      exact lexF_skip l f _ x h
    · rfl
/-- A text that is one number. -/
theorem lex_number {l : List UInt8} {c : UInt8} {r : List UInt8} (hl : l = c :: r) (hc : c.toNat = 45 ∨ (48 ≤ c.toNat ∧ c.toNat ≤ 57)) (hs : (numZ l).2 = l.length) (hlen : l.length ≤ 20000) :
    lexZ l = if (numZ l).1 < -4294967296 ∨ 4294967296 < (numZ l).1 then .bad 0 8 else .toks [⟨2, (numZ l).1, 0, l⟩] := by
  obtain ⟨r1, r2⟩ := rune_ascii (c := c) (by omega) r
  have hpos : 0 < l.length := by rw [hl]; simp
  obtain ⟨f, hf⟩ : ∃ f, l.length = f + 1 := ⟨l.length - 1, by omega⟩
  have ht : takeZ l 0 ⟨0, false, []⟩ = numberZ l 0 ⟨0, false, []⟩ := by
    unfold takeZ badR blankR signR
    rw [List.drop_zero, hl, r1, r2, if_neg (by simp; omega), if_neg (by omega), if_neg (by simp; omega), if_neg (by omega), firstR_low hc, if_neg (by decide), if_neg (by simp; omega)]
  unfold lexZ
  rw [if_neg (by omega), hf]
  unfold lexF
  rw [if_pos hpos, if_neg (by simp), ht]
  by_cases hr : (numZ l).1 < -4294967296 ∨ 4294967296 < (numZ l).1
  · have hn : numberZ l 0 ⟨0, false, []⟩ = (8, ⟨0, false, []⟩) := by unfold numberZ; rw [List.drop_zero, if_neg (by omega), if_pos hr]
    rw [hn, if_pos hr]
    rfl
  · have hn : numberZ l 0 ⟨0, false, []⟩ = (0, addZ l 2 (numZ l).1 0 (numZ l).2 ⟨0, false, []⟩) := by unfold numberZ; rw [List.drop_zero, if_neg (by omega), if_neg hr]
    rw [hn, if_neg hr]
    simp only [if_pos]
    rw [lexF_skip]
    · unfold addZ
      rw [List.drop_zero, hs, List.take_of_length_le (Nat.le_refl _)]
      rfl
    · show l.length ≤ 0 + (numZ l).2
      omega
theorem digs_head {n : Nat} : ∃ c r, digs 10 false n = c :: r ∧ 48 ≤ c.toNat ∧ c.toNat ≤ 57 := by
  cases h : digs 10 false n with
  | nil => exact absurd h (digs_ne (by omega) false n)
  | cons c r =>
    have hc := digs_dig (b := 10) (by omega) (by omega) false n c (by rw [h]; simp)
    have := hc.dig
    have h2 := hc.low
    refine ⟨c, r, rfl, ?_⟩
    unfold digR at this
    split at this
    · omega
    · split at this
      · omega
      · split at this <;> omega
theorem digs_len {b : Nat} (hb : 2 ≤ b) (g : Bool) : ∀ (k n : Nat), n < b ^ (k + 1) → (digs b g n).length ≤ k + 1
  | 0, n, h => by rw [digs_lo g (by simpa using h)]; simp
  | k + 1, n, h => by
    by_cases hn : n < b
    · rw [digs_lo g hn]; simp
    · rw [digs_hi hb g (by omega), List.length_append]
      have : n / b < b ^ (k + 1) := by
        rw [Nat.div_lt_iff_lt_mul (by omega)]
        rw [Nat.pow_succ] at h
        exact h
      have := digs_len hb g k (n / b) this
      simp only [List.length_cons, List.length_nil]
      omega
/-- A number's text. -/
def decZ (n : Int) : List UInt8 := if n < 0 then 45 :: digs 10 false n.natAbs else digs 10 false n.natAbs
theorem decZ_len {n : Int} (h : -17179869184 ≤ n ∧ n ≤ 17179869184) : (decZ n).length ≤ 12 := by
  have := digs_len (b := 10) (by omega) false 10 n.natAbs (by
    show n.natAbs < 100000000000
    omega)
  unfold decZ
  split
  · rw [List.length_cons]; omega
  · omega
theorem lex_decZ {n : Int} (h : -17179869184 ≤ n ∧ n ≤ 17179869184) : lexZ (decZ n) = if n < -4294967296 ∨ 4294967296 < n then .bad 0 8 else .toks [⟨2, n, 0, decZ n⟩] := by
  have hl := decZ_len h
  by_cases h0 : n < 0
  · have e : decZ n = 45 :: digs 10 false n.natAbs := by unfold decZ; rw [if_pos h0]
    have hz := numZ_neg n.natAbs
    rw [← e] at hz
    rw [lex_number e (.inl rfl) (by rw [hz, e, List.length_cons]; simp only; omega) (by omega), hz]
    simp only
    by_cases hr : n < -4294967296 ∨ 4294967296 < n
    · rw [if_pos hr, if_pos (by omega)]
    · rw [if_neg hr, if_neg (by omega), show -(min ((n.natAbs : Nat) : Int) 4294967297) = n by omega]
  · have e : decZ n = digs 10 false n.natAbs := by unfold decZ; rw [if_neg h0]
    have hz := numZ_dec n.natAbs
    obtain ⟨c, r, hc, hc2⟩ := digs_head (n := n.natAbs)
    rw [← e] at hz hc
    rw [lex_number hc (.inr hc2) (by rw [hz]) (by omega), hz]
    simp only
    by_cases hr : n < -4294967296 ∨ 4294967296 < n
    · rw [if_pos hr, if_pos (by omega)]
    · rw [if_neg hr, if_neg (by omega), show (min ((n.natAbs : Nat) : Int) 4294967297) = n by omega]
theorem hex_len {g : Bool} {n : Nat} (h : n ≤ 4294967296) : (digs 16 g n).length ≤ 9 :=
  digs_len (b := 16) (by omega) g 8 n (by show n < 68719476736; omega)
theorem lex_hex {g : Bool} {n : Nat} (h : n ≤ 4294967296) : lexZ (48 :: 120 :: digs 16 g n) = .toks [⟨2, n, 0, 48 :: 120 :: digs 16 g n⟩] := by
  have hl := hex_len (g := g) h
  have hz := numZ_hex g n
  rw [lex_number rfl (.inr (by decide)) (by rw [hz]; simp only [List.length_cons]; omega) (by simp only [List.length_cons]; omega), hz]
  simp only
  rw [if_neg (by omega), show (min ((n : Nat) : Int) 4294967297) = n by omega]
end Go.Proofs.YtdjllgdeijdieaaDoor.Words

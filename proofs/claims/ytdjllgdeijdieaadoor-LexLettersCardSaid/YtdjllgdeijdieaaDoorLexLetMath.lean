/- Names of letters of several languages: plain mathematics over lexZ. -/
import Derived.Test.YtdjllgdeijdieaaDoorLexMath
import Derived.Laws.BitsLemmas
namespace Go.Proofs.YtdjllgdeijdieaaDoor.Words
set_option maxRecDepth 100000
set_option linter.unusedVariables false
open Go.Lib

theorem i64_and7 (n : Int) : bits .and .i64 n 7 = n % 8 := by
  have h : (BitVec.ofInt 64 7).toNat = 2 ^ 3 - 1 := by decide
  have key : (BitVec.ofInt 64 n &&& BitVec.ofInt 64 7).toNat = (n % ((2 ^ 64 : Nat) : Int)).toNat % 2 ^ 3 := by
    rw [BitVec.toNat_and, BitVec.toNat_ofInt, h, Nat.and_two_pow_sub_one_eq_mod]
  show IntKind.i64.wrap ((BitVec.ofInt 64 n &&& BitVec.ofInt 64 7).toNat : Nat) = n % 8
  rw [key, IntKind.wrap_i64]
  omega
/-- The letters, and a digit. -/
def pieceT : List (List UInt8) := [[97], [90], [95], [195, 169], [208, 150], [228, 184, 173], [215, 144], [55]]
def piece (k : Nat) : List UInt8 := pieceT.getD k []
def word (ks : List Nat) : List UInt8 := ks.flatMap piece
theorem word_cons (k : Nat) (ks : List Nat) : word (k :: ks) = piece k ++ word ks := by simp [word]
theorem word_append (a b : List Nat) : word (a ++ b) = word a ++ word b := by simp [word]
/-- Each of them decodes, whatever stands behind, and may stand in a name. -/
theorem piece_rune (k : Nat) (hk : k < 8) (r : List UInt8) : wideR (piece k ++ r) = (piece k).length ∧ nameR (runeR (piece k ++ r)) = true ∧ (k ≠ 7 → firstR (runeR (piece k ++ r)) = true ∧ badR (piece k ++ r) = false ∧ runeR (piece k ++ r) ≠ 10 ∧ blankR (runeR (piece k ++ r)) = false ∧ runeR (piece k ++ r) ≠ 35) := by
  have h : ∃ R : Int, runeR (piece k ++ r) = R ∧ wideR (piece k ++ r) = (piece k).length ∧ nameR R = true ∧ (k ≠ 7 → firstR R = true ∧ R ≠ 65533 ∧ R ≠ 10 ∧ blankR R = false ∧ R ≠ 35) := by
    match k, hk with
    | 0, _ => exact ⟨97, by unfold runeR; rw [decodeL_N]; rfl, by unfold wideR; rw [decodeL_N]; rfl, by decide +kernel, fun _ => by decide +kernel⟩
    | 1, _ => exact ⟨90, by unfold runeR; rw [decodeL_N]; rfl, by unfold wideR; rw [decodeL_N]; rfl, by decide +kernel, fun _ => by decide +kernel⟩
    | 2, _ => exact ⟨95, by unfold runeR; rw [decodeL_N]; rfl, by unfold wideR; rw [decodeL_N]; rfl, by decide +kernel, fun _ => by decide +kernel⟩
    | 3, _ => exact ⟨233, by unfold runeR; rw [decodeL_N]; simp [piece, pieceT, decodeN], by unfold wideR; rw [decodeL_N]; simp [piece, pieceT, decodeN], by decide +kernel, fun _ => by decide +kernel⟩
    | 4, _ => exact ⟨1046, by unfold runeR; rw [decodeL_N]; simp [piece, pieceT, decodeN], by unfold wideR; rw [decodeL_N]; simp [piece, pieceT, decodeN], by decide +kernel, fun _ => by decide +kernel⟩
    | 5, _ => exact ⟨20013, by unfold runeR; rw [decodeL_N]; simp [piece, pieceT, decodeN], by unfold wideR; rw [decodeL_N]; simp [piece, pieceT, decodeN], by decide +kernel, fun _ => by decide +kernel⟩
    | 6, _ => exact ⟨1488, by unfold runeR; rw [decodeL_N]; simp [piece, pieceT, decodeN], by unfold wideR; rw [decodeL_N]; simp [piece, pieceT, decodeN], by decide +kernel, fun _ => by decide +kernel⟩
    | 7, _ => exact ⟨55, by unfold runeR; rw [decodeL_N]; rfl, by unfold wideR; rw [decodeL_N]; rfl, by decide +kernel, fun h => absurd rfl h⟩
    | n + 8, h => exact absurd h (by omega)
  obtain ⟨R, h1, h2, h3, h4⟩ := h
  rw [h1]
  refine ⟨h2, h3, fun h7 => ?_⟩
  obtain ⟨a, b, c, d, e⟩ := h4 h7
  exact ⟨a, by unfold badR; rw [h1]; exact decide_eq_false (fun g => b g.1), c, d, e⟩
theorem piece_len (k : Nat) (hk : k < 8) : 1 ≤ (piece k).length ∧ (piece k).length ≤ 3 := by
  match k, hk with
  | 0, _ => decide
  | 1, _ => decide
  | 2, _ => decide
  | 3, _ => decide
  | 4, _ => decide
  | 5, _ => decide
  | 6, _ => decide
  | 7, _ => decide
  | n + 8, h => exact absurd h (by omega)
theorem word_len {ks : List Nat} (h : ∀ k ∈ ks, k < 8) : ks.length ≤ (word ks).length ∧ (word ks).length ≤ 3 * ks.length := by
  induction ks with
  | nil => exact ⟨Nat.le_refl _, Nat.le_refl _⟩
  | cons k ks ih =>
    have h1 := piece_len k (h k (by simp))
    have h2 := ih (fun k hk => h k (by simp [hk]))
    rw [word_cons, List.length_append, List.length_cons]
    omega
theorem drop_pre (a b : List UInt8) : (a ++ b).drop a.length = b := by simp
/-- A name goes over them. -/
theorem nameF_word {tail : List UInt8} : ∀ (ks : List Nat) (pre : List UInt8) (f : Nat), (∀ k ∈ ks, k < 8) → nameF (pre ++ (word ks ++ tail)) (f + ks.length) pre.length = nameF (pre ++ (word ks ++ tail)) f (pre.length + (word ks).length)
  | [], pre, f, _ => rfl
  | k :: ks, pre, f, h => by
    have hk := h k (by simp)
    have h1 := piece_len k hk
    obtain ⟨p1, p2, _⟩ := piece_rune k hk (word ks ++ tail)
    have e : (pre ++ (word (k :: ks) ++ tail)).drop pre.length = piece k ++ (word ks ++ tail) := by rw [drop_pre, word_cons, List.append_assoc]
    rw [List.length_cons, show f + (ks.length + 1) = (f + ks.length) + 1 by omega]
    conv => lhs; unfold nameF
    rw [e, if_pos (by rw [List.length_append, List.length_append, word_cons, List.length_append]; omega), if_pos p2, p1]
    have ih := nameF_word (tail := tail) ks (pre ++ piece k) f (fun k hk => h k (by simp [hk]))
    rw [List.length_append, List.append_assoc] at ih
    rw [word_cons, List.length_append, List.append_assoc, ← Nat.add_assoc]
    exact ih
/-- So does what is behind a token. -/
theorem lexF_word {tail : List UInt8} {x : LexS} : ∀ (ks : List Nat) (pre : List UInt8) (f : Nat), (∀ k ∈ ks, k < 8) → pre.length + (word ks).length ≤ x.behind →
    lexF (pre ++ (word ks ++ tail)) (f + ks.length) pre.length x = lexF (pre ++ (word ks ++ tail)) f (pre.length + (word ks).length) x
  | [], pre, f, _, _ => rfl
  | k :: ks, pre, f, h, hb => by
    have hk := h k (by simp)
    have h1 := piece_len k hk
    obtain ⟨p1, _, _⟩ := piece_rune k hk (word ks ++ tail)
    have e : (pre ++ (word (k :: ks) ++ tail)).drop pre.length = piece k ++ (word ks ++ tail) := by rw [drop_pre, word_cons, List.append_assoc]
    rw [List.length_cons, show f + (ks.length + 1) = (f + ks.length) + 1 by omega]
    have hb' : pre.length + (piece k).length + (word ks).length ≤ x.behind := by rw [word_cons, List.length_append] at hb; omega
    conv => lhs; unfold lexF
    rw [e, if_pos (by rw [List.length_append, List.length_append, word_cons, List.length_append]; omega), if_pos (by omega), p1]
    have ih := lexF_word (tail := tail) (x := x) ks (pre ++ piece k) f (fun k hk => h k (by simp [hk])) (by rw [List.length_append]; exact hb')
    rw [List.length_append, List.append_assoc] at ih
    rw [word_cons, List.length_append, List.append_assoc, ← Nat.add_assoc]
    exact ih
/-- A word, with what ends it behind. -/
theorem lex_word {k : Nat} {ks : List Nat} {tail : List UInt8} (hk : k < 8) (h7 : k ≠ 7) (h : ∀ j ∈ ks, j < 8) (hl : ks.length ≤ 100) (ht : tail.length ≤ 100) (hn : tail = [] ∨ nameR (runeR tail) = false) :
    ∃ f, tail.length ≤ f ∧ lexZ (word (k :: ks) ++ tail) = lexF (word (k :: ks) ++ tail) f (word (k :: ks)).length ⟨(word (k :: ks)).length, false, [⟨1, 0, 0, word (k :: ks)⟩]⟩ := by
  have hw := word_len h
  have hp := piece_len k hk
  have hall : ∀ j ∈ k :: ks, j < 8 := fun j hj => by
    rcases List.mem_cons.1 hj with rfl | hj
    · exact hk
    · exact h j hj
  have hlen : (word (k :: ks) ++ tail).length = (piece k).length + (word ks).length + tail.length := by rw [List.length_append, word_cons, List.length_append]
  have e0 : word (k :: ks) ++ tail = piece k ++ (word ks ++ tail) := by rw [word_cons, List.append_assoc]
  obtain ⟨p1, p2, p3⟩ := piece_rune k hk (word ks ++ tail)
  obtain ⟨a1, a2, a3, a4, a5⟩ := p3 h7
  rw [← e0] at p1 p2 a1 a2 a3 a4 a5
  have hname : nameZ (word (k :: ks) ++ tail) = (word (k :: ks)).length := by
    unfold nameZ
    obtain ⟨g, hg⟩ : ∃ g, (word (k :: ks) ++ tail).length = g + (k :: ks).length := ⟨(word (k :: ks) ++ tail).length - (k :: ks).length, by rw [hlen, List.length_cons]; omega⟩
    have := nameF_word (tail := tail) (k :: ks) [] g hall
    simp only [List.nil_append, List.length_nil, Nat.zero_add] at this
    rw [hg, this]
    cases g with
    | zero => rfl
    | succ g =>
      unfold nameF
      split
      · rename_i hlt
        rw [drop_pre]
        rcases hn with rfl | hn
        · rw [List.append_nil] at hlt; omega
        · rw [hn]; rfl
      · rfl
  obtain ⟨f, hf⟩ : ∃ f, (word (k :: ks) ++ tail).length = (f + ks.length) + 1 := ⟨(word (k :: ks) ++ tail).length - ks.length - 1, by rw [hlen]; omega⟩
  refine ⟨f, by omega, ?_⟩
  unfold lexZ
  rw [if_neg (by rw [hlen]; omega), hf]
  conv => lhs; unfold lexF
  rw [if_pos (by omega), if_neg (by simp), List.drop_zero]
  have htake : takeZ (word (k :: ks) ++ tail) 0 ⟨0, false, []⟩ = (0, addZ (word (k :: ks) ++ tail) 1 0 0 (word (k :: ks)).length ⟨0, false, []⟩) := by
    unfold takeZ
    rw [List.drop_zero, if_neg (by rw [a2]; decide), if_neg a3, if_neg (by rw [a4]; decide), if_neg a5, if_pos a1, hname]
  rw [htake, if_pos rfl]
  have hadd : addZ (word (k :: ks) ++ tail) 1 0 0 (word (k :: ks)).length ⟨0, false, []⟩ = ⟨(word (k :: ks)).length, false, [⟨1, 0, 0, word (k :: ks)⟩]⟩ := by
    unfold addZ
    rw [List.drop_zero, List.take_left', Nat.zero_add]
    · rfl
    · rfl
  rw [hadd, p1]
  have := lexF_word (tail := tail) (x := ⟨(word (k :: ks)).length, false, [⟨1, 0, 0, word (k :: ks)⟩]⟩) ks (piece k) f h (by rw [word_cons, List.length_append]; exact Nat.le_refl _)
  rw [← e0] at this
  rw [Nat.zero_add, this, word_cons, List.length_append]
theorem lex_letters {k : Nat} {ks : List Nat} (hk : k < 8) (h7 : k ≠ 7) (h : ∀ j ∈ ks, j < 8) (hl : ks.length ≤ 100) : lexZ (word (k :: ks)) = .toks [⟨1, 0, 0, word (k :: ks)⟩] := by
  obtain ⟨f, _, e⟩ := lex_word (tail := []) hk h7 h hl (by simp) (.inl rfl)
  rw [List.append_nil] at e
  rw [e]
  cases f with
  | zero => rfl
  | succ f => unfold lexF; rw [if_neg (by omega)]
theorem digit_other : nameR (runeR [217, 163]) = false ∧ takeZ [217, 163] 0 ⟨0, false, []⟩ = (5, ⟨0, false, []⟩) ∧ badR [217, 163] = false := by
  refine ⟨by decide +kernel, ?_, by decide +kernel⟩
  unfold takeZ numberZ
  rw [List.drop_zero, if_neg (by decide +kernel), if_neg (by decide +kernel), if_neg (by decide +kernel), if_neg (by decide +kernel), if_neg (by decide +kernel), if_neg (by decide +kernel), if_pos (by decide +kernel)]
theorem lex_other {k : Nat} {ks : List Nat} (hk : k < 8) (h7 : k ≠ 7) (h : ∀ j ∈ ks, j < 8) (hl : ks.length ≤ 100) : lexZ (word (k :: ks) ++ [217, 163]) = .bad (word (k :: ks)).length 5 := by
  obtain ⟨f, hf, e⟩ := lex_word (tail := [217, 163]) hk h7 h hl (by decide) (.inr digit_other.1)
  rw [e]
  obtain ⟨g, rfl⟩ : ∃ g, f = g + 1 := ⟨f - 1, by simp at hf; omega⟩
  unfold lexF
  rw [if_pos (by rw [List.length_append]; simp), if_neg (by simp)]
  have ht : takeZ (word (k :: ks) ++ [217, 163]) (word (k :: ks)).length ⟨(word (k :: ks)).length, false, [⟨1, 0, 0, word (k :: ks)⟩]⟩ = (5, ⟨(word (k :: ks)).length, false, [⟨1, 0, 0, word (k :: ks)⟩]⟩) := by
    unfold takeZ numberZ
    rw [drop_pre, if_neg (by decide +kernel), if_neg (by decide +kernel), if_neg (by simp; decide +kernel), if_neg (by decide +kernel), if_neg (by decide +kernel), if_neg (by decide +kernel), if_pos (by decide +kernel)]
  rw [ht]
  rfl
end Go.Proofs.YtdjllgdeijdieaaDoor.Words

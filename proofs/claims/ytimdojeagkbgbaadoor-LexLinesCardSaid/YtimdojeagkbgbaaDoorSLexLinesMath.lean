/- The tokens of two texts with a line's end between. Plain mathematics. -/
import Derived.Test.YtimdojeagkbgbaaDoorSLexCat
namespace Go.Proofs.YtimdojeagkbgbaaDoor.Words
set_option maxRecDepth 100000
set_option linter.unusedVariables false
open Go.Lib

theorem takeZ_two (l : List UInt8) (p b1 b2 : Nat) (rm : Bool) (ts : List Tok) : (takeZ l p ⟨b1, rm, ts⟩).1 = (takeZ l p ⟨b2, rm, ts⟩).1 ∧
    ((takeZ l p ⟨b1, rm, ts⟩).2 = (takeZ l p ⟨b2, rm, ts⟩).2 ∨ ∃ rm', (takeZ l p ⟨b1, rm, ts⟩).2 = ⟨b1, rm', ts⟩ ∧ (takeZ l p ⟨b2, rm, ts⟩).2 = ⟨b2, rm', ts⟩) := by
  unfold takeZ lineZ numberZ addZ
  repeat' split
  all_goals first
    | exact ⟨rfl, .inl rfl⟩
    | exact ⟨rfl, .inr ⟨_, rfl, rfl⟩⟩
/-- What ends ahead of a place is forgotten there. -/
theorem lexL_behind (l : List UInt8) : ∀ n p b1 b2 rm ts, l.length ≤ p + n → b1 ≤ p → b2 ≤ p → lexL l p ⟨b1, rm, ts⟩ = lexL l p ⟨b2, rm, ts⟩
  | n, p, b1, b2, rm, ts, h, h1, h2 => by
    by_cases hp : p < l.length
    · have hw := wideR_pos (l.drop p)
      obtain ⟨m, rfl⟩ : ∃ m, n = m + 1 := ⟨n - 1, by omega⟩
      obtain ⟨t1, t2⟩ := takeZ_two l p b1 b2 rm ts
      rw [lexL_go hp (by exact h1), lexL_go hp (by exact h2), t1]
      split
      · rcases t2 with t2 | ⟨rm', t3, t4⟩
        · rw [t2]
        · rw [t3, t4]
          exact lexL_behind l m _ b1 b2 rm' ts (by omega) (by omega) (by omega)
      · rfl
    · rw [lexL_end hp, lexL_end hp]
/-- A step that makes no token. -/
theorem step_free {l : List UInt8} {p : Nat} {c : UInt8} {t : List UInt8} {b : Nat} {rm : Bool} {ts : List Tok} (hd : l.drop p = c :: t) (hc : c.toNat < 128) (hn : c ≠ 10) (hf : rm = true ∨ c = 32 ∨ c = 9 ∨ c = 13 ∨ c = 35) (hb : b ≤ p) :
    lexL l p ⟨b, rm, ts⟩ = lexL l (p + 1) ⟨b, rm || decide (c = 35), ts⟩ := by
  cases rm
  · rcases hf with hf | hf | hf | hf | hf
    · cases hf
    · rw [step_blank hd (.inl hf) (by exact hb), hf]; rfl
    · rw [step_blank hd (.inr (.inl hf)) (by exact hb), hf]; rfl
    · rw [step_blank hd (.inr (.inr hf)) (by exact hb), hf]; rfl
    · subst hf; rw [step_hash hd hb]; rfl
  · rw [step_remark hd hc hn hb]; rfl
/-- A rune of two bytes in a remark. -/
theorem step_e {l : List UInt8} {p : Nat} {t : List UInt8} {b : Nat} {ts : List Tok} (hd : l.drop p = 195 :: 169 :: t) (hb : b ≤ p) : lexL l p ⟨b, true, ts⟩ = lexL l (p + 2) ⟨b, true, ts⟩ := by
  have hp : p < l.length := by
    apply Nat.lt_of_not_le
    intro h
    rw [List.drop_eq_nil_of_le h] at hd; cases hd
  have hde : decodeL (l.drop p) = (233, 2) := by
    rw [hd, decodeL_N]
    simp only [List.length_cons, List.getD_cons_zero, List.getD_cons_succ]
    unfold decodeN
    simp
  have h2 : runeR (l.drop p) = 233 := by unfold runeR; rw [hde]; rfl
  have h3 : wideR (l.drop p) = 2 := by unfold wideR; rw [hde]
  have hbd : badR (l.drop p) = false := good h2 (by decide)
  rw [lexL_go hp (by exact hb), at_remark hbd rfl (by rw [h2]; decide), h3]
  rfl
theorem step_nl {l : List UInt8} {p : Nat} {t : List UInt8} {b : Nat} {rm : Bool} {ts : List Tok} (hd : l.drop p = 10 :: t) (hb : b ≤ p) (hl : lineB ts = true) : lexL l p ⟨b, rm, ts⟩ = lexL l (p + 1) ⟨p + 1, false, ts ++ [⟨4, 0, p, [10]⟩]⟩ := by
  rw [step_line hd hb]
  unfold lineZ addZ
  rw [if_pos hl, hd]
  rfl
theorem step_nl2 {l : List UInt8} {p : Nat} {t : List UInt8} {b : Nat} {rm : Bool} {ts : List Tok} (hd : l.drop p = 10 :: t) (hb : b ≤ p) (hl : lineB ts = false) : lexL l p ⟨b, rm, ts⟩ = lexL l (p + 1) ⟨b, false, ts⟩ := by
  rw [step_line hd hb]
  unfold lineZ
  rw [if_neg (by show ¬ lineB ts = true; rw [hl]; decide)]
theorem lineB_end (T : List Tok) (z : Tok) (hz : z.kind = 4) : lineB (T ++ [z]) = false := by unfold lineB; simp [hz]
def betweenZ : List (List UInt8) := [[10], [10, 10], [32, 35, 32, 97, 58, 32, 98, 10], [13, 10], [9, 10, 32, 35, 32, 195, 169, 10, 32]]
theorem between_run (a b k : List UInt8) (hk : k ∈ betweenZ) (bh : Nat) (rm : Bool) (l : List Tok) (hb : bh ≤ a.length) (hl : lineB l = true) :
    ∃ z : Tok, z.kind = 4 ∧ ∃ bh', bh' ≤ a.length + k.length ∧ lexL (a ++ (k ++ b)) a.length ⟨bh, rm, l⟩ = lexL (a ++ (k ++ b)) (a.length + k.length) ⟨bh', false, l ++ [z]⟩ := by
  have hd : ∀ i, i ≤ k.length → (a ++ (k ++ b)).drop (a.length + i) = k.drop i ++ b := by
    intro i hi
    rw [← List.drop_drop, List.drop_left, List.drop_append_of_le_length hi]
  simp only [betweenZ, List.mem_cons, List.not_mem_nil, or_false] at hk
  rcases hk with rfl | rfl | rfl | rfl | rfl
  · refine ⟨⟨4, 0, a.length, [10]⟩, rfl, a.length + 1, by simp, ?_⟩
    exact step_nl (t := b) (hd 0 (by simp)) hb hl
  · refine ⟨⟨4, 0, a.length, [10]⟩, rfl, a.length + 1, by simp, ?_⟩
    exact (step_nl (t := 10 :: b) (hd 0 (by simp)) hb hl).trans (step_nl2 (t := b) (hd 1 (by simp)) (by omega) (lineB_end _ _ rfl))
  · refine ⟨⟨4, 0, a.length + 7, [10]⟩, rfl, a.length + 7 + 1, by simp, ?_⟩
    exact ((step_free (hd 0 (by simp)) (by decide) (by decide) (by simp) hb)).trans (((step_free (hd 1 (by simp)) (by decide) (by decide) (by simp) (by omega))).trans (((step_free (hd 2 (by simp)) (by decide) (by decide) (by simp) (by omega))).trans (((step_free (hd 3 (by simp)) (by decide) (by decide) (by simp) (by omega))).trans (((step_free (hd 4 (by simp)) (by decide) (by decide) (by simp) (by omega))).trans (((step_free (hd 5 (by simp)) (by decide) (by decide) (by simp) (by omega))).trans (((step_free (hd 6 (by simp)) (by decide) (by decide) (by simp) (by omega))).trans (step_nl (t := b) (hd 7 (by simp)) (by omega) hl)))))))
  · refine ⟨⟨4, 0, a.length + 1, [10]⟩, rfl, a.length + 1 + 1, by simp, ?_⟩
    exact ((step_free (hd 0 (by simp)) (by decide) (by decide) (by simp) hb)).trans (step_nl (t := b) (hd 1 (by simp)) (by omega) hl)
  · refine ⟨⟨4, 0, a.length + 1, [10]⟩, rfl, a.length + 1 + 1, by simp, ?_⟩
    exact ((step_free (hd 0 (by simp)) (by decide) (by decide) (by simp) hb)).trans ((step_nl (t := [32, 35, 32, 195, 169, 10, 32] ++ b) (hd 1 (by simp)) (by omega) hl).trans (((step_free (hd 2 (by simp)) (by decide) (by decide) (by simp) (by omega))).trans (((step_free (hd 3 (by simp)) (by decide) (by decide) (by simp) (by omega))).trans (((step_free (hd 4 (by simp)) (by decide) (by decide) (by simp) (by omega))).trans ((step_e (t := [10, 32] ++ b) (hd 5 (by simp)) (by omega)).trans ((step_nl2 (t := [32] ++ b) (hd 7 (by simp)) (by omega) (lineB_end _ _ rfl)).trans ((step_free (hd 8 (by simp)) (by decide) (by decide) (by simp) (by omega)))))))))
/-- Two texts with a line's end between have the tokens of each, and a line's end. -/
theorem lex_lines (a b k : List UInt8) (hk : k ∈ betweenZ) (l m : List Tok) (ha : lexZ a = .toks l) (hb : lexZ b = .toks m) (hla : a.length ≤ 1000) (hlb : b.length ≤ 1000) (hl : lineB l = true) :
    ∃ z : Tok, z.kind = 4 ∧ lexZ (a ++ (k ++ b)) = .toks (l ++ (z :: m.map (shiftT (a.length + k.length)))) := by
  have hkl : k.length ≤ 10 := by
    have : ∀ x ∈ betweenZ, x.length ≤ 10 := by decide
    exact this k hk
  have hstop : Stop (k ++ b) := by
    simp only [betweenZ, List.mem_cons, List.not_mem_nil, or_false] at hk
    rcases hk with rfl | rfl | rfl | rfl | rfl <;> exact stop_of (by simp)
  rw [lexZ_L, if_neg (by omega)] at ha hb
  obtain ⟨y, y1, y2, y3⟩ := lex_pre hstop a.length 0 ⟨0, false, []⟩ l (by omega) (Nat.zero_le _) (Nat.zero_le _) ha
  obtain ⟨bh, rm, ts⟩ := y
  simp only at y1 y2
  subst y1
  obtain ⟨z, z1, bh', z2, z3⟩ := between_run a b k hk bh rm ts y2 hl
  refine ⟨z, z1, ?_⟩
  have hlen : (a ++ (k ++ b)).length = a.length + (k.length + b.length) := by simp
  rw [lexZ_L, if_neg (by omega), y3, z3]
  have hc : a ++ (k ++ b) = (a ++ k) ++ b := by simp
  have hcl : (a ++ k).length = a.length + k.length := by simp
  rw [hc, ← hcl, lexL_behind ((a ++ k) ++ b) ((a ++ k) ++ b).length _ bh' (a ++ k).length false _ (by omega) (by omega) (Nat.le_refl _)]
  have := lex_shift (a ++ k) b (ts ++ [z]) (lineB_end _ _ z1) b.length 0 0 false [] (by omega)
  simp only [List.map_nil, List.append_nil, Nat.add_zero] at this
  rw [this, hb]
  simp [behindR]
end Go.Proofs.YtimdojeagkbgbaaDoor.Words

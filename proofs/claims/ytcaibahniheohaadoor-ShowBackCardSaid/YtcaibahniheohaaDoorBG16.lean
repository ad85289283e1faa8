/- The document's own number beside the program's: equal as far as 2^32, both above otherwise. -/
import Derived.Test.YtcaibahniheohaaDoorBG11
namespace Go.Proofs.YtcaibahniheohaaDoor.Words
set_option maxRecDepth 100000
set_option linter.unusedVariables false
open Go.Lib
def Sim (a b : Int) : Prop := (a = b ∧ b ≤ 4294967296) ∨ (4294967296 < a ∧ 4294967296 < b)
theorem Sim.step {a b base d : Int} (h : Sim a b) (ha : 0 ≤ a) (hb : 0 ≤ b) (h1 : 1 ≤ base) (hd : 0 ≤ d ∧ d ≤ 15) : Sim (capG (a * base + d)) (min (b * base + d) 4294967297) := by
 rcases h with ⟨rfl, h⟩ | ⟨h2, h3⟩
 ·have h0 : 0 ≤ a * base := Int.mul_nonneg ha (by omega)
  generalize a * base = m at *
  unfold Sim capG
  split <;> omega
 ·have k1 : a * 1 ≤ a * base := Int.mul_le_mul_of_nonneg_left h1 ha
  have k2 : b * 1 ≤ b * base := Int.mul_le_mul_of_nonneg_left h1 hb
  generalize a * base = m at *
  generalize b * base = m' at *
  unfold Sim capG
  split <;> omega
theorem Sim.le {a b : Int} (h : Sim a b) : 4294967296 < a ↔ 4294967296 < b := by unfold Sim at h; omega
theorem Sim.eq {a b : Int} (h : Sim a b) (hb : b ≤ 4294967296) : a = b := by unfold Sim at h; omega
theorem hexG_dig {r : Int} (h : digR r < 16) : hexG r = digR r := by unfold hexG; rw [if_neg (by omega)]
theorem hexG_pos {r : Int} : 0 ≤ hexG r ↔ digR r < 16 := by
 have := digR_range r
 unfold hexG
 split <;> omega
structure DigG (l : List UInt8) (L : List Pt) (base : Int) (from_ K pp ff : Nat) (n N : Int) (e : Nat) : Prop where
 dig : digF l base ff pp n = (N, e)
 sim : Sim (numG base ((L.drop from_).take (K + 1 - from_))) n
 pos : 0 ≤ n
 all : ∀ q ∈ (L.drop from_).take (K + 1 - from_), 0 ≤ hexG q.r ∧ 0 ≤ q.r ∧ q.r ≤ 1114111
 le : from_ ≤ K + 1
theorem DigG.next {l : List UInt8} {L : List Pt} {base : Int} {from_ K pp gg : Nat} {n N : Int} {e : Nat} (h : DigG l L base from_ K pp (gg + 1) n N e) (hb : 1 ≤ base ∧ base ≤ 16) (hp : pp < l.length) (hq : L[K + 1]? = some (ptAt l pp)) (hd : digR (runeR (l.drop pp)) < base) :
  DigG l L base from_ (K + 1) (pp + wideR (l.drop pp)) gg (min (n * base + digR (runeR (l.drop pp))) 4294967297) N e := by
 have h0 := digR_range (runeR (l.drop pp))
 have hs : (L.drop from_).take (K + 1 + 1 - from_) = (L.drop from_).take (K + 1 - from_) ++ [ptAt l pp] := by
  have := h.le
  rw [show K + 1 + 1 - from_ = (K + 1 - from_) + 1 by omega]
  apply take_snoc
  rw [List.getElem?_drop, show from_ + (K + 1 - from_) = K + 1 by omega]
  exact hq
 have hx : hexG (runeR (l.drop pp)) = digR (runeR (l.drop pp)) := hexG_dig (by omega)
 have hn := numG_range (base := base) (by omega) _ (fun q hq => (h.all q hq).1)
 refine ⟨?_, ?_, ?_, ?_, by have := h.le; omega⟩
 ·rw [← h.dig]
  conv => rhs; unfold digF
  rw [if_pos hp, if_neg (by omega)]
 ·rw [hs, numG_snoc]
  have := h.sim.step hn.1 h.pos hb.1 (d := digR (runeR (l.drop pp))) (by omega)
  show Sim (capG (_ * base + hexG (runeR (l.drop pp)))) _
  rw [hx]
  exact this
 ·have : 0 ≤ n * base := Int.mul_nonneg h.pos (by omega)
  omega
 ·rw [hs]
  intro q hq
  rcases List.mem_append.1 hq with hq | hq
  ·exact h.all q hq
  ·simp only [List.mem_cons, List.not_mem_nil, or_false] at hq
   subst hq
   have := runeR_range (l.drop pp)
   exact ⟨by show 0 ≤ hexG (runeR (l.drop pp)); rw [hx]; omega, this.1, this.2⟩
theorem DigG.stop {l : List UInt8} {L : List Pt} {base : Int} {from_ K pp ff : Nat} {n N : Int} {e : Nat} (h : DigG l L base from_ K pp ff n N e) (he : ¬ pp < l.length ∨ base ≤ digR (runeR (l.drop pp))) : n = N ∧ pp = e := by
 have := h.dig
 rw [digF_zero base he] at this
 injection this with h1 h2
 exact ⟨h1, h2⟩
theorem DigG.more {l : List UInt8} {L : List Pt} {base : Int} {from_ K pp gg : Nat} {n N : Int} {e : Nat} (h : DigG l L base from_ K pp (gg + 1) n N e) (hp : pp < l.length) (hd : digR (runeR (l.drop pp)) < base) : pp < e := by
 have h1 := h.dig
 unfold digF at h1
 rw [if_pos hp, if_neg (by omega)] at h1
 have h2 := (digF_le l base gg (pp + wideR (l.drop pp)) (min (n * base + digR (runeR (l.drop pp))) 4294967297) (wide_in hp)).1
 rw [h1] at h2
 have := wideR_pos (l.drop pp)
 simp only at h2
 omega
theorem DigG.start (l : List UInt8) (L : List Pt) (base : Int) (K pp ff : Nat) : DigG l L base (K + 1) K pp ff 0 (digF l base ff pp 0).1 (digF l base ff pp 0).2 := by
 have e : (L.drop (K + 1)).take (K + 1 - (K + 1)) = [] := by simp
 refine ⟨rfl, ?_, Int.le_refl _, ?_, Nat.le_refl _⟩
 ·rw [e]; exact .inl ⟨rfl, by omega⟩
 ·rw [e]; intro q hq; cases hq
theorem DigG.first {l : List UInt8} {L : List Pt} {base : Int} {k p f : Nat} (hb : 1 ≤ base ∧ base ≤ 16) (hp : p < l.length) (hq : L[k]? = some (ptAt l p)) (hd : digR (runeR (l.drop p)) < base) :
  DigG l L base k k (p + wideR (l.drop p)) f (digR (runeR (l.drop p))) (digF l base (f + 1) p 0).1 (digF l base (f + 1) p 0).2 := by
 have h0 := digR_range (runeR (l.drop p))
 have hr := runeR_range (l.drop p)
 have hx : hexG (runeR (l.drop p)) = digR (runeR (l.drop p)) := hexG_dig (by omega)
 have e : (L.drop k).take (k + 1 - k) = [ptAt l p] := by
  rw [show k + 1 - k = 0 + 1 by omega, take_snoc (q := ptAt l p) (by rw [List.getElem?_drop]; exact hq)]
  rfl
 refine ⟨?_, ?_, h0.1, ?_, by omega⟩
 ·conv => rhs; unfold digF
  rw [if_pos hp, if_neg (by omega), show min (0 * base + digR (runeR (l.drop p))) 4294967297 = digR (runeR (l.drop p)) by omega]
 ·rw [e]
  refine .inl ⟨?_, by omega⟩
  show capG (0 * base + hexG (runeR (l.drop p))) = _
  rw [hx, Int.zero_mul, Int.zero_add]
  unfold capG
  rw [if_neg (by omega)]
 ·rw [e]
  intro q hq
  simp only [List.mem_cons, List.not_mem_nil, or_false] at hq
  subst hq
  exact ⟨by show 0 ≤ hexG (runeR (l.drop p)); rw [hx]; omega, hr.1, hr.2⟩
end Go.Proofs.YtcaibahniheohaaDoor.Words

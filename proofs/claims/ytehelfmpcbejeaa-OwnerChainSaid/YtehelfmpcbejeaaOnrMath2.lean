/- Plain mathematics of chapter 11: owners made register by register; two owners joined; what a load and its address ask for. Nothing here speaks of one program text. -/
import Derived.Test.YtehelfmpcbejeaaOnrMath
namespace Go.Proofs.Ytehelfmpcbejeaa.Words
set_option maxRecDepth 100000
open Go.RowKit
set_option linter.unusedVariables false

/-- Sixteen registers by a function. -/
def funO (f : Nat → Int) : List Int := (List.range 16).map f
theorem funO_len (f : Nat → Int) : (funO f).length = 16 := by simp [funO]
theorem funO_at (f : Nat → Int) {k : Nat} (hk : k ≤ 15) : atO (funO f) k = f k := by
  rw [atO_nat, List.getD_eq_getElem?_getD]; unfold funO
  rw [List.getElem?_map, List.getElem?_range (show k < 16 by omega)]; rfl
theorem funO_ext {f g : Nat → Int} (h : ∀ k, k ≤ 15 → f k = g k) : funO f = funO g := ext_O (funO_len f) (funO_len g) fun k hk => by rw [funO_at f hk, funO_at g hk, h k hk]
theorem funO_set (f : Nat → Int) (i : Nat) (x : Int) : (funO f).set i x = funO (fun k => if k = i then x else f k) := by
  refine List.ext_getElem (by simp [funO]) fun k h1 h2 => ?_
  simp only [funO, List.length_set, List.length_map, List.length_range] at h1
  rw [List.getElem_set]
  simp only [funO, List.getElem_map, List.getElem_range]
  by_cases e : i = k
  · subst e; simp
  · rw [if_neg e, if_neg (fun c => e c.symm)]
theorem funO_of {o : List Int} (h : o.length = 16) : o = funO (fun k => atO o k) := ext_O h (funO_len _) fun k hk => (funO_at (fun k => atO o k) hk).symm
theorem funO_ok {f : Nat → Int} (h0 : f 0 = 0) (h : ∀ k, 1 ≤ k → k ≤ 15 → f k = 1 ∨ f k = 2) : OkO (funO f) := by
  refine ⟨funO_len f, ?_, fun k h1 h2 => ?_⟩
  · have := funO_at f (k := 0) (by omega); rw [h0] at this; exact this
  · rw [funO_at f h2]; exact h k h1 h2

theorem mem_need {i : Ins} {o : List Int} {r : Int} : r ∈ needZ i o ↔ (memB i.op = true ∧ r = i.a) ∨ (memB i.op = false ∧ recB i.op = true ∧ atO o i.d = 1 ∧ r ∈ readsZ i) := by
  unfold needZ
  cases hm : memB i.op
  · rw [if_neg (by decide)]
    by_cases hd : recB i.op = true ∧ atO o i.d = 1
    · rw [if_pos hd]; simp [hd.1, hd.2]
    · rw [if_neg hd]
      constructor
      · intro h; cases h
      · rintro (⟨h, _⟩ | ⟨_, h1, h2, _⟩)
        · exact absurd h (by decide)
        · exact absurd ⟨h1, h2⟩ hd
  · rw [if_pos rfl]; simp

/-- On A in either. -/
def orO (x y : List Int) : List Int := funO fun k => if 1 ≤ k ∧ atO y k = 1 then 1 else atO x k
/-- On A in both. -/
def andO (x y : List Int) : List Int := funO fun k => if 1 ≤ k ∧ atO y k ≠ 1 then 2 else atO x k
theorem orO_ok {x y : List Int} (hx : OkO x) : OkO (orO x y) := funO_ok (by rw [if_neg (by omega)]; exact hx.2.1) fun k h1 h2 => by
  split
  · exact .inl rfl
  · exact hx.2.2 k h1 h2
theorem andO_ok {x y : List Int} (hx : OkO x) : OkO (andO x y) := funO_ok (by rw [if_neg (by omega)]; exact hx.2.1) fun k h1 h2 => by
  split
  · exact .inr rfl
  · exact hx.2.2 k h1 h2
theorem at_or (x y : List Int) {r : Int} (hr : 0 ≤ r ∧ r ≤ 15) : atO (orO x y) r = if 1 ≤ r ∧ atO y r = 1 then 1 else atO x r := by
  obtain ⟨n, rfl, hn⟩ := nat_of hr
  rw [orO, funO_at _ hn]
  by_cases h : 1 ≤ n
  · have h' : (1 : Int) ≤ (n : Int) := by omega
    simp only [h, h', true_and]
  · rw [if_neg (fun c => h c.1), if_neg (fun c => h (by omega))]
theorem at_and (x y : List Int) {r : Int} (hr : 0 ≤ r ∧ r ≤ 15) : atO (andO x y) r = if 1 ≤ r ∧ atO y r ≠ 1 then 2 else atO x r := by
  obtain ⟨n, rfl, hn⟩ := nat_of hr
  rw [andO, funO_at _ hn]
  by_cases h : 1 ≤ n
  · have h' : (1 : Int) ≤ (n : Int) := by omega
    simp only [h, h', true_and]
  · rw [if_neg (fun c => h c.1), if_neg (fun c => h (by omega))]
theorem at_zero {o : List Int} (ho : OkO o) {r : Int} (hr : 0 ≤ r) (h : ¬ 1 ≤ r) : atO o r = 0 := by rw [show r = 0 from by omega]; exact ho.2.1
theorem or_all {code : List Ins} {x y : List Int} (hc : ∀ i ∈ code, rightB i = true) (hx : OkO x) (hy : OkO y) (ax : AllO code x) (ay : AllO code y) : AllO code (orO x y) := by
  intro i hi r hr
  have hri := right_range (hc i hi)
  have h15 := need_range (hc i hi) hr
  rw [at_or x y h15]
  rcases mem_need.1 hr with ⟨hm, rfl⟩ | ⟨hm, hrc, hd, hmem⟩
  · have := ax i hi i.a (mem_need.2 (.inl ⟨hm, rfl⟩))
    split
    · decide
    · exact this
  · have hr1 := reads_mem hmem
    rw [at_or x y hri.2.1] at hd
    split at hd
    · rename_i c
      have := on_of hy ⟨hr1.2.1, hr1.2.2.1⟩ (ay i hi r (mem_need.2 (.inr ⟨hm, hrc, c.2, hmem⟩)))
      rw [if_pos ⟨hr1.2.1, this⟩]; decide
    · have := ax i hi r (mem_need.2 (.inr ⟨hm, hrc, hd, hmem⟩))
      split
      · decide
      · exact this
theorem and_all {code : List Ins} {x y : List Int} (hc : ∀ i ∈ code, rightB i = true) (hx : OkO x) (hy : OkO y) (ax : AllO code x) (ay : AllO code y) : AllO code (andO x y) := by
  intro i hi r hr
  have hri := right_range (hc i hi)
  have h15 := need_range (hc i hi) hr
  rw [at_and x y h15]
  by_cases h1 : 1 ≤ r
  rotate_left
  · rw [if_neg (fun c => h1 c.1), at_zero hx h15.1 h1]; decide
  rcases mem_need.1 hr with ⟨hm, rfl⟩ | ⟨hm, hrc, hd, hmem⟩
  · have a1 := ax i hi i.a (mem_need.2 (.inl ⟨hm, rfl⟩))
    have a2 := on_of hy ⟨h1, h15.2⟩ (ay i hi i.a (mem_need.2 (.inl ⟨hm, rfl⟩)))
    rw [if_neg (fun c => c.2 a2)]; exact a1
  · rw [at_and x y hri.2.1] at hd
    split at hd
    · exact absurd hd (by decide)
    · rename_i c
      have d1 : 1 ≤ i.d := by
        by_cases h : 1 ≤ i.d
        · exact h
        · rw [at_zero hx hri.2.1.1 h] at hd; exact absurd hd (by decide)
      have dy : atO y i.d = 1 := by
        by_cases h : atO y i.d = 1
        · exact h
        · exact absurd ⟨d1, h⟩ c
      have a1 := ax i hi r (mem_need.2 (.inr ⟨hm, hrc, hd, hmem⟩))
      have a2 := on_of hy ⟨h1, h15.2⟩ (ay i hi r (mem_need.2 (.inr ⟨hm, hrc, dy, hmem⟩)))
      rw [if_neg (fun c => c.2 a2)]; exact a1
/-- All on A. -/
def allA : List Int := [0, 1, 1, 1, 1, 1, 1, 1, 1, 1, 1, 1, 1, 1, 1, 1]
theorem allA_ok : OkO allA := ⟨rfl, rfl, fun k h1 h2 => (by decide : ∀ k : Fin 16, 1 ≤ k.val → (atO allA (k.val : Int) = 1 ∨ atO allA (k.val : Int) = 2)) ⟨k, by omega⟩ h1⟩
theorem allA_at {r : Int} (hr : 0 ≤ r ∧ r ≤ 15) : atO allA r ≠ 2 := by
  obtain ⟨n, rfl, hn⟩ := nat_of hr
  exact (by decide : ∀ k : Fin 16, atO allA (k.val : Int) ≠ 2) ⟨n, by omega⟩
theorem allA_all {code : List Ins} (hc : ∀ i ∈ code, rightB i = true) : AllO code allA := fun i hi r hr => allA_at (need_range (hc i hi) hr)

/-- The program of OwnerLoads, and what is on A of it. -/
def loadCode (base d b op : Int) : List Ins := [⟨op, d, base, 0, 0⟩, ⟨1, b, d, b, 0⟩, ⟨31, 0, base, b, 0⟩, ⟨41, 0, 0, 0, 0⟩]
def loadOn (base d b : Int) (k : Nat) : Bool := decide ((k : Int) = base ∨ (b = base ∧ ((k : Int) = d ∨ (k : Int) = b)))
section
variable {base d b op : Int} (h1 : 1 ≤ base ∧ base ≤ 15) (h2 : 1 ≤ d ∧ d ≤ 15) (h3 : 1 ≤ b ∧ b ≤ 15) (h4 : 26 ≤ op ∧ op ≤ 30)
include h1 h2 h3 h4
theorem load_right : ∀ i ∈ loadCode base d b op, rightB i = true := by
  intro i hi
  simp only [loadCode, List.mem_cons, List.not_mem_nil, or_false] at hi
  rw [rightB_iff]
  rcases hi with rfl | rfl | rfl | rfl
  all_goals (have := lowI_cases op; have := lowI_cases 1; have := lowI_cases 31; have := lowI_cases 41; simp only; refine ⟨by omega, ?_, ?_, ?_, ?_⟩ <;> split <;> first | omega | trivial)
theorem load_least (k : Nat) (h5 : 1 ≤ k ∧ k ≤ 15) : atO (leastO (loadCode base d b op)) k = 1 ↔ loadOn base d b k = true := by
  have hc := load_right h1 h2 h3 h4
  have hok := least_ok _ hc
  have hall := least_all hc
  have fo := formZ_cases op
  have e1 : memB op = true := decide_eq_true (by omega)
  have e2 : memB 1 = false := by decide
  have e3 : recB 1 = true := by decide
  have e4 : memB 31 = true := by decide
  have e5 : memB 41 = false := by decide
  have e6 : recB 41 = false := by decide
  have r1 : readsZ ⟨1, b, d, b, 0⟩ = [d, b] := by
    rw [readsZ_yes (hc _ (by simp [loadCode]))]
    rw [if_neg (by simp only; omega), if_neg (by simp only; omega)]; rfl
  constructor
  · intro hk
    have hT : OkO (funO fun k => if k = 0 then 0 else if loadOn base d b k = true then 1 else 2) := funO_ok (by simp) fun k a1 a2 => by
      rw [if_neg (by omega)]; split <;> simp
    have hat : ∀ r : Int, 1 ≤ r ∧ r ≤ 15 → atO (funO fun k => if k = 0 then 0 else if loadOn base d b k = true then 1 else 2) r = if r = base ∨ (b = base ∧ (r = d ∨ r = b)) then 1 else 2 := by
      intro r hr
      obtain ⟨n, rfl, hn⟩ := nat_of (r := r) (by omega)
      rw [funO_at _ hn, if_neg (by omega)]
      unfold loadOn
      simp only [decide_eq_true_eq]
    have hA : AllO (loadCode base d b op) (funO fun k => if k = 0 then 0 else if loadOn base d b k = true then 1 else 2) := by
      intro i hi r hr
      simp only [loadCode, List.mem_cons, List.not_mem_nil, or_false] at hi
      rw [mem_need] at hr
      rcases hi with rfl | rfl | rfl | rfl
      · rcases hr with ⟨_, rfl⟩ | ⟨hm, _⟩
        · rw [hat _ h1, if_pos (.inl rfl)]; decide
        · simp only [e1] at hm; cases hm
      · rcases hr with ⟨hm, _⟩ | ⟨_, _, hd, hmem⟩
        · simp only [e2] at hm; cases hm
        · rw [r1] at hmem
          simp only at hd
          rw [hat _ h3] at hd
          simp only [List.mem_cons, List.not_mem_nil, or_false] at hmem
          split at hd
          · rename_i c
            have hb : b = base := by omega
            rw [hat _ (by omega), if_pos (by omega)]; decide
          · exact absurd hd (by decide)
      · rcases hr with ⟨_, rfl⟩ | ⟨hm, _⟩
        · rw [hat _ h1, if_pos (.inl rfl)]; decide
        · simp only [e4] at hm; cases hm
      · rcases hr with ⟨hm, _⟩ | ⟨_, hm, _⟩
        · simp only [e5] at hm; cases hm
        · simp only [e6] at hm; cases hm
    have := least_sub hc hT hA k h5.2 hk
    rw [hat _ (by omega)] at this
    unfold loadOn
    refine decide_eq_true ?_
    split at this
    · assumption
    · exact absurd this (by decide)
  · intro hk
    have hb := of_decide_eq_true hk
    have on1 : atO (leastO (loadCode base d b op)) base = 1 := on_of hok h1 (hall ⟨op, d, base, 0, 0⟩ (by simp [loadCode]) base (mem_need.2 (.inl ⟨e1, rfl⟩)))
    rcases hb with e | ⟨e, e'⟩
    · rw [e]; exact on1
    · have on2 : ∀ r ∈ readsZ ⟨1, b, d, b, 0⟩, atO (leastO (loadCode base d b op)) r ≠ 2 := fun r hr => hall ⟨1, b, d, b, 0⟩ (by simp [loadCode]) r (mem_need.2 (.inr ⟨e2, e3, by simp only; rw [e] at on1 ⊢; exact on1, hr⟩))
      rw [r1] at on2
      rcases e' with e' | e'
      · rw [e']; exact on_of hok h2 (on2 d (by simp))
      · rw [e']; exact on_of hok h3 (on2 b (by simp))
end
/-- The program of OwnerChain. -/
def chainCode (n : Nat) (load : Bool) : List Ins := ((List.range (n - 1)).map fun k => ⟨1, (k : Int) + 2, (k : Int) + 1, (k : Int) + 1, 0⟩) ++ [⟨1, 15, 14, n, 0⟩] ++ [if load = true then ⟨26, 14, n, 0, 0⟩ else ⟨31, 0, n, 14, 0⟩]
set_option maxHeartbeats 1000000 in
theorem chain_all : ∀ n : Fin 13, ∀ load : Bool, (chainCode (n.val + 1) load).all rightB = true ∧ ∀ k : Fin 15, atO (leastO (chainCode (n.val + 1) load)) ((k.val : Int) + 1) = if k.val + 1 ≤ n.val + 1 then 1 else 2 := by decide +kernel
end Go.Proofs.Ytehelfmpcbejeaa.Words

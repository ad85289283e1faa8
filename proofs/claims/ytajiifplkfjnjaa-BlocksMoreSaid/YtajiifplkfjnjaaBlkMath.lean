/- Plain mathematics of chapter 10: where the blocks of a program begin, and which they are. Nothing here speaks of one program text. -/
import Derived.Test.YtajiifplkfjnjaaPData
namespace Go.Proofs.Ytajiifplkfjnjaa.Words
set_option maxRecDepth 100000
open Go.RowKit

/-- Does a block end behind an instruction? -/
def isEnd (i : Ins) : Bool := isJump i || decide (i.op = 41)
/-- May what stands behind be reached without a target? -/
def goesB (i : Ins) : Bool := !(decide (i.op = 40) || decide (i.op = 41))
def markJ (k : Nat) (i : Ins) (m : List Bool) : List Bool := if isJump i = true then m.set ((k : Int) + i.imm).toNat true else m
def markE (k : Nat) (i : Ins) (m : List Bool) : List Bool := if isEnd i = true then m.set (k + 1) true else m
def marksF : Nat → List Ins → List Bool → List Bool
  | _, [], m => m
  | k, i :: l, m => marksF (k + 1) l (markE k i (markJ k i m))
/-- The marks of places at which blocks begin, in a list of n places. -/
def marksN (n : Nat) (l : List Ins) : List Bool := marksF 0 l ((List.replicate n false).set 0 true)
/-- Where blocks begin. -/
def leadsZ (l : List Ins) : List Nat := (List.range l.length).filter fun k => (marksN l.length l).getD k false

theorem markJ_len (k : Nat) (i : Ins) (m : List Bool) : (markJ k i m).length = m.length := by unfold markJ; split <;> simp
theorem markE_len (k : Nat) (i : Ins) (m : List Bool) : (markE k i m).length = m.length := by unfold markE; split <;> simp
theorem marksF_len (l : List Ins) : ∀ (k : Nat) (m : List Bool), (marksF k l m).length = m.length := by
  induction l with
  | nil => intro k m; rfl
  | cons i l ih => intro k m; rw [marksF, ih, markE_len, markJ_len]
theorem marksF_take (n : Nat) (l : List Ins) : ∀ (k : Nat) (m : List Bool), (marksF k l m).take n = marksF k l (m.take n) := by
  induction l with
  | nil => intro k m; rfl
  | cons i l ih =>
    intro k m
    rw [marksF, marksF, ih]
    congr 1
    unfold markE markJ
    split <;> split <;> simp [List.take_set]
theorem marksN_len (n : Nat) (l : List Ins) : (marksN n l).length = n := by rw [marksN, marksF_len]; simp
theorem marksN_take {n n' : Nat} (h : n ≤ n') (l : List Ins) : (marksN n' l).take n = marksN n l := by
  unfold marksN
  rw [marksF_take, List.take_set, List.take_replicate, Nat.min_eq_left h]
theorem marksN_get {n n' k : Nat} (h : n ≤ n') (hk : k < n) (l : List Ins) : (marksN n' l).getD k false = (marksN n l).getD k false := by
  rw [← marksN_take h, List.getD_eq_getElem?_getD, List.getD_eq_getElem?_getD, List.getElem?_take, if_pos hk]
theorem marksF_step {l : List Ins} {j : Nat} {i : Ins} (h : l[j]? = some i) (m : List Bool) : marksF j (l.drop j) m = marksF (j + 1) (l.drop (j + 1)) (markE j i (markJ j i m)) := by
  obtain ⟨hlt, rfl⟩ := List.getElem?_eq_some_iff.1 h
  rw [List.drop_eq_getElem_cons hlt]; rfl

/-- Does a block begin at a place? -/
def IsLead (l : List Ins) (k : Nat) : Prop :=
  k = 0 ∨ (∃ (j : Nat) (i : Ins), l[j]? = some i ∧ isJump i = true ∧ ((j : Int) + i.imm).toNat = k) ∨ (∃ (j : Nat) (i : Ins), l[j]? = some i ∧ isEnd i = true ∧ j + 1 = k)
theorem getD_set {m : List Bool} {a k : Nat} (hk : k < m.length) : (m.set a true).getD k false = (decide (a = k) || m.getD k false) := by
  rw [List.getD_eq_getElem?_getD, List.getD_eq_getElem?_getD, List.getElem?_set]
  by_cases h : a = k
  · subst h; simp [hk]
  · simp [h]
theorem marksF_get (l : List Ins) : ∀ (k0 : Nat) (m : List Bool) (k : Nat), k < m.length →
    ((marksF k0 l m).getD k false = true ↔ (m.getD k false = true ∨ (∃ (j : Nat) (i : Ins), l[j]? = some i ∧ isJump i = true ∧ (((k0 + j : Nat) : Int) + i.imm).toNat = k) ∨ (∃ (j : Nat) (i : Ins), l[j]? = some i ∧ isEnd i = true ∧ k0 + j + 1 = k))) := by
  induction l with
  | nil => intro k0 m k hk; simp [marksF]
  | cons x l ih =>
    intro k0 m k hk
    rw [marksF, ih _ _ _ (by rw [markE_len, markJ_len]; exact hk)]
    have hJ : (markJ k0 x m).getD k false = true ↔ (m.getD k false = true ∨ (isJump x = true ∧ ((k0 : Int) + x.imm).toNat = k)) := by
      unfold markJ
      split
      · rename_i h; rw [getD_set hk]; simp only [Bool.or_eq_true, decide_eq_true_eq, h, true_and]; exact Or.comm
      · rename_i h; simp [h]
    have hE : (markE k0 x (markJ k0 x m)).getD k false = true ↔ ((markJ k0 x m).getD k false = true ∨ (isEnd x = true ∧ k0 + 1 = k)) := by
      unfold markE
      split
      · rename_i h; rw [getD_set (by rw [markJ_len]; exact hk)]; simp only [Bool.or_eq_true, decide_eq_true_eq, h, true_and]; exact Or.comm
      · rename_i h; simp [h]
    rw [hE, hJ]
    constructor
    · rintro (((h | h) | h) | ⟨j, i, h1, h2, h3⟩ | ⟨j, i, h1, h2, h3⟩)
      · exact .inl h
      · exact .inr (.inl ⟨0, x, rfl, h.1, by simpa using h.2⟩)
      · exact .inr (.inr ⟨0, x, rfl, h.1, by simpa using h.2⟩)
      · exact .inr (.inl ⟨j + 1, i, by simpa using h1, h2, by rw [← h3]; congr 2; omega⟩)
      · exact .inr (.inr ⟨j + 1, i, by simpa using h1, h2, by omega⟩)
    · rintro (h | ⟨j, i, h1, h2, h3⟩ | ⟨j, i, h1, h2, h3⟩)
      · exact .inl (.inl (.inl h))
      · cases j with
        | zero => simp at h1; subst h1; exact .inl (.inl (.inr ⟨h2, by simpa using h3⟩))
        | succ j => exact .inr (.inl ⟨j, i, by simpa using h1, h2, by rw [← h3]; congr 2; omega⟩)
      · cases j with
        | zero => simp at h1; subst h1; exact .inl (.inr ⟨h2, by simpa using h3⟩)
        | succ j => exact .inr (.inr ⟨j, i, by simpa using h1, h2, by omega⟩)
theorem marksN_iff {n k : Nat} (hk : k < n) (l : List Ins) : (marksN n l).getD k false = true ↔ IsLead l k := by
  unfold marksN IsLead
  rw [marksF_get l 0 _ k (by simpa using hk), getD_set (by simpa using hk)]
  simp only [Nat.zero_add, Bool.or_eq_true, decide_eq_true_eq]
  have : (List.replicate n false).getD k false = true ↔ False := by
    rw [List.getD_eq_getElem?_getD, List.getElem?_replicate]; simp [hk]
  rw [this, or_false, eq_comm]
theorem mem_leads {l : List Ins} {k : Nat} : k ∈ leadsZ l ↔ k < l.length ∧ IsLead l k := by
  unfold leadsZ
  rw [List.mem_filter, List.mem_range]
  constructor
  · rintro ⟨h1, h2⟩; exact ⟨h1, (marksN_iff h1 l).1 h2⟩
  · rintro ⟨h1, h2⟩; exact ⟨h1, (marksN_iff h1 l).2 h2⟩
theorem leads_sorted (l : List Ins) : (leadsZ l).Pairwise (· < ·) := List.Pairwise.filter _ List.pairwise_lt_range
theorem leads_zero {l : List Ins} (h : 0 < l.length) : 0 ∈ leadsZ l := mem_leads.2 ⟨h, .inl rfl⟩
/-- The list of places is told by what is in it. -/
theorem sorted_ext {L M : List Nat} (hL : L.Pairwise (· < ·)) (hM : M.Pairwise (· < ·)) (h : ∀ x, x ∈ L ↔ x ∈ M) : L = M := by
  induction L generalizing M with
  | nil =>
    cases M with
    | nil => rfl
    | cons y M => have := (h y).2 (by simp); simp at this
  | cons x L ih =>
    cases M with
    | nil => have := (h x).1 (by simp); simp at this
    | cons y M =>
      obtain ⟨hx, hL'⟩ := List.pairwise_cons.1 hL
      obtain ⟨hy, hM'⟩ := List.pairwise_cons.1 hM
      have exy : x = y := by
        have h1 := (h x).1 (by simp)
        have h2 := (h y).2 (by simp)
        rcases List.mem_cons.1 h1 with e | e
        · exact e
        rcases List.mem_cons.1 h2 with e' | e'
        · exact e'.symm
        have := hy x e; have := hx y e'; omega
      subst exy
      congr 1
      refine ih hL' hM' fun z => ?_
      constructor
      · intro hz
        rcases List.mem_cons.1 ((h z).1 (by simp [hz])) with e | e
        · subst e; have := hx z hz; omega
        · exact e
      · intro hz
        rcases List.mem_cons.1 ((h z).2 (by simp [hz])) with e | e
        · subst e; have := hy z hz; omega
        · exact e

/-- The number of the block that begins at a place; -1: none does. -/
def numZ (L : List Nat) (x : Int) : Int := if (L.map (fun y : Nat => (y : Int))).contains x then ((L.map (fun y : Nat => (y : Int))).idxOf x : Nat) else -1
structure Blk where
  from_ : Int
  to : Int
  next : Int
  taken : Int
deriving DecidableEq
def blkToZ (L : List Nat) (n k : Nat) : Nat := if k + 1 < L.length then L.getD (k + 1) 0 else n
def insAtZ (l : List Ins) (k : Nat) : Ins := l.getD k ⟨0, 0, 0, 0, 0⟩
def blkZ (l : List Ins) (L : List Nat) (k : Nat) : Blk :=
  ⟨(L.getD k 0 : Nat), (blkToZ L l.length k : Nat), if goesB (insAtZ l (blkToZ L l.length k - 1)) = true then numZ L (blkToZ L l.length k : Nat) else -1,
    if isJump (insAtZ l (blkToZ L l.length k - 1)) = true then numZ L ((blkToZ L l.length k : Nat) - 1 + (insAtZ l (blkToZ L l.length k - 1)).imm) else -1⟩
def cutTo (l : List Ins) (L : List Nat) (j : Nat) : List Blk := (List.range j).map (blkZ l L)
/-- The blocks of a program that is right. -/
def cutZ (l : List Ins) : List Blk := cutTo l (leadsZ l) (leadsZ l).length
theorem cutTo_succ (l : List Ins) (L : List Nat) (j : Nat) : cutTo l L (j + 1) = cutTo l L j ++ [blkZ l L j] := by simp [cutTo, List.range_succ]
theorem cutTo_len (l : List Ins) (L : List Nat) (j : Nat) : (cutTo l L j).length = j := by simp [cutTo]
theorem cutZ_len (l : List Ins) : (cutZ l).length = (leadsZ l).length := cutTo_len _ _ _
theorem cutZ_get {l : List Ins} {k : Nat} (h : k < (leadsZ l).length) : (cutZ l)[k]? = some (blkZ l (leadsZ l) k) := by
  unfold cutZ cutTo; rw [List.getElem?_map, List.getElem?_range h]; rfl
end Go.Proofs.Ytajiifplkfjnjaa.Words

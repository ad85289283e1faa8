/- Plain mathematics of the law EmitPairs: how many cells of each kind, which registers are sent and received. Nothing here speaks of one program text. -/
import Derived.Test.YtcaibahniheohaaEmtMath
namespace Go.Proofs.Ytcaibahniheohaa.Words
set_option maxRecDepth 100000
open Go.RowKit
set_option linter.unusedVariables false
set_option linter.unusedSimpArgs false

def cntK (k : Int) (l : List Cel) : Int := ((l.filter fun c => decide (c.kind = k)).length : Int)
def pickR (k : Int) (l : List Cel) : List Int := (l.filter fun c => decide (c.kind = k)).map Cel.reg
theorem cnt_nil (k : Int) : cntK k [] = 0 := rfl
theorem cnt_append (k : Int) (l m : List Cel) : cntK k (l ++ m) = cntK k l + cntK k m := by simp [cntK]
theorem cnt_cons (k : Int) (c : Cel) (l : List Cel) : cntK k (c :: l) = (if c.kind = k then 1 else 0) + cntK k l := by
  unfold cntK
  rw [List.filter_cons]
  by_cases h : c.kind = k
  · simp [h]; omega
  · simp [h]
theorem cnt_regs (k q pc off : Int) (s : List Int) (h : ¬ q = k) : cntK k (regsC q pc off s) = 0 := by
  induction s with
  | nil => rfl
  | cons r s ih => rw [show regsC q pc off (r :: s) = regC q r pc off :: regsC q pc off s from rfl, cnt_cons, ih, if_neg (by exact h)]; rfl
theorem pick_nil (k : Int) : pickR k [] = [] := rfl
theorem pick_append (k : Int) (l m : List Cel) : pickR k (l ++ m) = pickR k l ++ pickR k m := by simp [pickR]
theorem pick_cons (k : Int) (c : Cel) (l : List Cel) : pickR k (c :: l) = (if c.kind = k then [c.reg] else []) ++ pickR k l := by
  unfold pickR
  rw [List.filter_cons]
  by_cases h : c.kind = k <;> simp [h]
theorem pick_regs (k pc off : Int) (s : List Int) : pickR k (regsC k pc off s) = s := by
  induction s with
  | nil => rfl
  | cons r s ih => rw [show regsC k pc off (r :: s) = regC k r pc off :: regsC k pc off s from rfl, pick_cons, ih, if_pos (by rfl)]; rfl
def cntL (l : List Cel) : List Int := (List.range 13).map fun (k : Nat) => cntK (k : Int) l
theorem cntL_len (l : List Cel) : (cntL l).length = 13 := by simp [cntL]
theorem cntL_nil : cntL [] = [0, 0, 0, 0, 0, 0, 0, 0, 0, 0, 0, 0, 0] := by decide +kernel
theorem cntL_at (l : List Cel) {k : Nat} (h : k < 13) : (cntL l)[k]? = some (cntK k l) := by
  unfold cntL; rw [List.getElem?_map, List.getElem?_range h]; rfl
theorem take_snocC {l : List Cel} {j : Nat} {x : Cel} (h : l[j]? = some x) : l.take (j + 1) = l.take j ++ [x] := by rw [List.take_add_one, h]; rfl
theorem cntL_step {l : List Cel} {j m : Nat} {x : Cel} (h : l[j]? = some x) (hm : x.kind = m) (h13 : m < 13) : cntL (l.take (j + 1)) = (cntL (l.take j)).set m (cntK m (l.take j) + 1) := by
  rw [take_snocC h]
  refine List.ext_getElem? fun k => ?_
  rw [List.getElem?_set]
  by_cases hk : k < 13
  · rw [cntL_at _ hk, cntL_at _ hk, cnt_append, cnt_cons, cnt_nil]
    by_cases e : m = k
    · subst e; rw [if_pos hm, if_pos rfl, if_pos (by rw [cntL_len]; exact hk)]; rfl
    · rw [if_neg (by rw [hm]; omega), if_neg e]; simp
  · rw [List.getElem?_eq_none (by rw [cntL_len]; omega)]
    by_cases e : m = k
    · omega
    · rw [if_neg e, List.getElem?_eq_none (by rw [cntL_len]; omega)]
theorem pick_step {l : List Cel} {j : Nat} {x : Cel} (k : Int) (h : l[j]? = some x) : pickR k (l.take (j + 1)) = pickR k (l.take j) ++ (if x.kind = k then [x.reg] else []) := by
  rw [take_snocC h, pick_append, pick_cons, pick_nil, List.append_nil]
theorem pick_len (k : Int) (l : List Cel) : (pickR k l).length ≤ l.length := by
  unfold pickR; rw [List.length_map]; exact List.length_filter_le _ _
theorem regsC_in {k pc off : Int} {s : List Int} {x : Cel} (hx : x ∈ regsC k pc off s) : x.kind = k ∧ x.pc = pc ∧ x.off = off := by
  unfold regsC at hx
  obtain ⟨r, _, rfl⟩ := List.mem_map.1 hx
  exact ⟨rfl, rfl, rfl⟩
/-- All that is asked of one case. -/
structure PairsOK (z : List Int) (i : Ins) (pc off : Int) (la le : List Cel) (a e : Int → Int) : Prop where
  inA : ∀ x ∈ la, (1 ≤ x.kind ∧ x.kind ≤ 12) ∧ x.pc = pc ∧ x.off = off
  inE : ∀ x ∈ le, (1 ≤ x.kind ∧ x.kind ≤ 12) ∧ x.pc = pc ∧ x.off = off
  lenA : la.length ≤ 3
  lenE : le.length ≤ 3
  same : pickR 5 la = pickR 6 le
  onA : ∀ r ∈ pickR 5 la, atO z r = 1 ∧ 0 ≤ r ∧ r ≤ 15
  cA : ∀ k, k = 1 ∨ k = 2 ∨ k = 3 ∨ k = 4 ∨ k = 9 ∨ k = 10 ∨ k = 11 ∨ k = 12 → cntK k la = a k
  cE : ∀ k, k = 1 ∨ k = 7 ∨ k = 8 ∨ k = 9 ∨ k = 10 ∨ k = 11 ∨ k = 12 → cntK k le = e k
def one (q : Int) : Int → Int := fun k => if q = k then 1 else 0
theorem pairs_of {z : List Int} {i : Ins} {pc off : Int} {ta te : List Cel} {s : List Int} {a e : Int → Int} (hs : s.length ≤ 2)
    (hm : ∀ r ∈ s, atO z r = 1 ∧ 0 ≤ r ∧ r ≤ 15)
    (hta : ∀ x ∈ ta, (1 ≤ x.kind ∧ x.kind ≤ 12) ∧ x.pc = pc ∧ x.off = off) (hte : ∀ x ∈ te, (1 ≤ x.kind ∧ x.kind ≤ 12) ∧ x.pc = pc ∧ x.off = off)
    (la : ta.length ≤ 1) (le : te.length ≤ 1) (pa : pickR 5 ta = []) (pe : pickR 6 te = [])
    (ca : ∀ k, cntK k ta = a k) (ce : ∀ k, cntK k te = e k) : PairsOK z i pc off (regsC 5 pc off s ++ ta) (regsC 6 pc off s ++ te) a e := by
  refine ⟨?_, ?_, ?_, ?_, ?_, ?_, ?_, ?_⟩
  · intro x hx
    rcases List.mem_append.1 hx with h | h
    · have := regsC_in h; refine ⟨?_, this.2⟩; rw [this.1]; omega
    · exact hta x h
  · intro x hx
    rcases List.mem_append.1 hx with h | h
    · have := regsC_in h; refine ⟨?_, this.2⟩; rw [this.1]; omega
    · exact hte x h
  · simp [regsC]; omega
  · simp [regsC]; omega
  · rw [pick_append, pick_append, pick_regs, pick_regs, pa, pe]
  · rw [pick_append, pick_regs, pa, List.append_nil]; exact hm
  · intro k hk
    rw [cnt_append, cnt_regs k 5 pc off s (by omega), ca]; omega
  · intro k hk
    rw [cnt_append, cnt_regs k 6 pc off s (by omega), ce]; omega
theorem cnt_one (k : Int) (c : Cel) : cntK k [c] = one c.kind k := by rw [cnt_cons, cnt_nil]; unfold one; omega
theorem in_one {pc off : Int} {c : Cel} (h : (1 ≤ c.kind ∧ c.kind ≤ 12) ∧ c.pc = pc ∧ c.off = off) : ∀ x ∈ [c], (1 ≤ x.kind ∧ x.kind ≤ 12) ∧ x.pc = pc ∧ x.off = off := by
  intro x hx; simp at hx; subst hx; exact h
theorem in_none {pc off : Int} : ∀ x ∈ ([] : List Cel), (1 ≤ x.kind ∧ x.kind ≤ 12) ∧ x.pc = pc ∧ x.off = off := fun x h => by cases h
def nought : Int → Int := fun _ => 0
/-- Which case it is, with its numbers. -/
inductive PairCase : Int → (Int → Int) → (Int → Int) → Prop
  | c4e : PairCase 4 (one 3) (one 7)
  | c4a : PairCase 4 (one 2) nought
  | c5 : PairCase 5 (one 4) (one 8)
  | c6e : PairCase 6 (one 10) (one 9)
  | c6a : PairCase 6 (one 9) (one 10)
  | c7 : PairCase 7 (one 11) (one 11)
  | c8 : PairCase 8 (one 12) (one 12)
  | c1a (f : Int) (h : f = 1 ∨ f = 2 ∨ f = 3) : PairCase f (one 1) nought
  | c1e (f : Int) (h : f = 1 ∨ f = 2 ∨ f = 3) : PairCase f nought (one 1)
theorem sent_on {o : List Int} (ho : o.length = 16) {l : List Int} (hl : ∀ r ∈ l, 0 ≤ r ∧ r ≤ 15) : ∀ r ∈ sentL (zeroed o) l, atO (zeroed o) r = 1 ∧ 0 ≤ r ∧ r ≤ 15 := by
  intro r hr
  have := (sent_mem _ _ _).1 hr
  exact ⟨this.2, hl r this.1⟩
theorem pairs_all {o : List Int} (ho : o.length = 16) {i : Ins} (hi : rightB i = true) (pc off : Int) :
    ∃ a e, PairCase (formZ i.op) a e ∧ PairsOK (zeroed o) i pc off (emitA (zeroed o) i pc off) (emitE (zeroed o) i pc off) a e := by
  have hrr := right_range hi
  have hrd : ∀ r ∈ readsZ i, 0 ≤ r ∧ r ≤ 15 := fun r hr => by have := reads_mem hr; omega
  have hln : (sentL (zeroed o) (readsZ i)).length ≤ 2 := Nat.le_trans (sent_len _ _) (reads_len i)
  have hb1 : (sentL (zeroed o) [i.b]).length ≤ 2 := Nat.le_trans (sent_len _ _) (by simp)
  have hbd : ∀ r ∈ ([i.b] : List Int), 0 ≤ r ∧ r ≤ 15 := fun r hr => by simp at hr; subst hr; exact hrr.2.2.2.1
  have none : ∀ r ∈ ([] : List Int), atO (zeroed o) r = 1 ∧ 0 ≤ r ∧ r ≤ 15 := fun r h => by cases h
  have hF := formZ_range i.op
  have hC := formZ_cases i.op
  have ok : ∀ {c : Cel}, (1 ≤ c.kind ∧ c.kind ≤ 12) → c.pc = pc → c.off = off → ∀ x ∈ [c], (1 ≤ x.kind ∧ x.kind ≤ 12) ∧ x.pc = pc ∧ x.off = off := fun h1 h2 h3 => in_one ⟨h1, h2, h3⟩
  by_cases h4 : formZ i.op = 4
  · by_cases hd : atO (zeroed o) i.d = 2
    · have e := emit_4e (pc := pc) (off := off) hi h4 hd
      rw [e.1, e.2, h4]
      exact ⟨_, _, .c4e, pairs_of (s := []) (by simp) none (ok (by simp [insC, regC, bareC]) rfl rfl) (ok (by simp [insC, regC, bareC]) rfl rfl) (by simp) (by simp) rfl rfl (fun k => cnt_one k _) (fun k => cnt_one k _)⟩
    · have e := emit_4a (pc := pc) (off := off) hi h4 hd
      rw [e.1, e.2, h4]
      exact ⟨_, _, .c4a, pairs_of (s := []) (by simp) none (ok (by simp [insC, regC, bareC]) rfl rfl) in_none (by simp) (by simp) rfl rfl (fun k => cnt_one k _) (fun k => rfl)⟩
  by_cases h5 : formZ i.op = 5
  · have e := emit_5 (z := zeroed o) (pc := pc) (off := off) hi h5
    rw [e.1, e.2, h5]
    exact ⟨_, _, .c5, pairs_of hb1 (sent_on ho hbd) (ok (by simp [insC, regC, bareC]) rfl rfl) (ok (by simp [insC, regC, bareC]) rfl rfl) (by simp) (by simp) rfl rfl (fun k => cnt_one k _) (fun k => cnt_one k _)⟩
  by_cases h6 : formZ i.op = 6
  · cases ha : anyEB (readsZ i) (zeroed o)
    · have e := emit_6a (pc := pc) (off := off) hi h6 ha
      rw [e.1, e.2, h6]
      exact ⟨_, _, .c6a, pairs_of (s := []) (by simp) none (ok (by simp [insC, regC, bareC]) rfl rfl) (ok (by simp [insC, regC, bareC]) rfl rfl) (by simp) (by simp) rfl rfl (fun k => cnt_one k _) (fun k => cnt_one k _)⟩
    · have e := emit_6e (pc := pc) (off := off) hi h6 ha
      rw [e.1, e.2, h6]
      exact ⟨_, _, .c6e, pairs_of hln (sent_on ho hrd) (ok (by simp [insC, regC, bareC]) rfl rfl) (ok (by simp [insC, regC, bareC]) rfl rfl) (by simp) (by simp) rfl rfl (fun k => cnt_one k _) (fun k => cnt_one k _)⟩
  by_cases h7 : formZ i.op = 7
  · have e := emit_7 (z := zeroed o) (pc := pc) (off := off) hi h7
    rw [e.1, e.2, h7]
    exact ⟨_, _, .c7, pairs_of (s := []) (by simp) none (ok (by simp [insC, regC, bareC]) rfl rfl) (ok (by simp [insC, regC, bareC]) rfl rfl) (by simp) (by simp) rfl rfl (fun k => cnt_one k _) (fun k => cnt_one k _)⟩
  by_cases h8 : formZ i.op = 8
  · have e := emit_8 (z := zeroed o) (pc := pc) (off := off) hi h8
    rw [e.1, e.2, h8]
    exact ⟨_, _, .c8, pairs_of (s := []) (by simp) none (ok (by simp [insC, regC, bareC]) rfl rfl) (ok (by simp [insC, regC, bareC]) rfl rfl) (by simp) (by simp) rfl rfl (fun k => cnt_one k _) (fun k => cnt_one k _)⟩
  have h3 : formZ i.op = 1 ∨ formZ i.op = 2 ∨ formZ i.op = 3 := by omega
  by_cases hs : sideZ i (zeroed o) = 1
  · have e := emit_1a (pc := pc) (off := off) hi (by omega) hs
    rw [e.1, e.2]
    exact ⟨_, _, .c1a _ h3, pairs_of (s := []) (by simp) none (ok (by simp [insC, regC, bareC]) rfl rfl) in_none (by simp) (by simp) rfl rfl (fun k => cnt_one k _) (fun k => rfl)⟩
  · have e := emit_1e (pc := pc) (off := off) hi (by omega) hs
    rw [e.1, e.2]
    have := pairs_of (i := i) (pc := pc) (off := off) (ta := []) (te := [insC 1 i pc off]) (a := nought) (e := one 1) hln (sent_on ho hrd) in_none (ok (by simp [insC, regC, bareC]) rfl rfl) (by simp) (by simp) rfl rfl (fun k => rfl) (fun k => cnt_one k _)
    rw [List.append_nil] at this
    exact ⟨_, _, .c1e _ h3, this⟩
end Go.Proofs.Ytcaibahniheohaa.Words

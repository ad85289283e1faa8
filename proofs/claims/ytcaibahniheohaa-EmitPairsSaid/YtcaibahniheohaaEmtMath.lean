/- Plain mathematics of chapter 12: the cells that an instruction has on either side. Nothing here speaks of one program text. -/
import Derived.Test.YtcaibahniheohaaOnrSideR
import Derived.Test.YtcaibahniheohaaCelData
namespace Go.Proofs.Ytcaibahniheohaa.Words
set_option maxRecDepth 100000
open Go.RowKit
set_option linter.unusedVariables false

def noI : Ins := ⟨0, 0, 0, 0, 0⟩
def insC (k : Int) (i : Ins) (pc off : Int) : Cel := ⟨k, i, 0, pc, off⟩
def regC (k r pc off : Int) : Cel := ⟨k, noI, r, pc, off⟩
def bareC (k pc off : Int) : Cel := ⟨k, noI, 0, pc, off⟩
/-- The registers on A, each once, in order. -/
def putS (o out : List Int) (r : Int) : List Int := if atO o r = 1 ∧ r ∉ out then out ++ [r] else out
def sentL (o l : List Int) : List Int := l.foldl (putS o) []
def regsC (k pc off : Int) (l : List Int) : List Cel := l.map fun r => regC k r pc off
theorem regsC_nil (k pc off : Int) : regsC k pc off [] = [] := rfl
theorem regsC_append (k pc off : Int) (l m : List Int) : regsC k pc off (l ++ m) = regsC k pc off l ++ regsC k pc off m := by simp [regsC]
theorem foldl_take {α β : Type} (f : β → α → β) (b : β) {l : List α} {n : Nat} {x : α} (h : l[n]? = some x) : (l.take (n + 1)).foldl f b = f ((l.take n).foldl f b) x := by
  rw [List.take_add_one, h]; simp
theorem sent_mem (o l : List Int) (x : Int) : x ∈ sentL o l ↔ x ∈ l ∧ atO o x = 1 := by
  have key : ∀ (l out : List Int), (x ∈ l.foldl (putS o) out) ↔ x ∈ out ∨ (x ∈ l ∧ atO o x = 1) := by
    intro l
    induction l with
    | nil => intro out; simp
    | cons r l ih =>
      intro out
      rw [List.foldl_cons, ih]
      unfold putS
      by_cases h : atO o r = 1 ∧ r ∉ out
      · rw [if_pos h]
        constructor
        · rintro (h1 | h1)
          · rcases List.mem_append.1 h1 with h2 | h2
            · exact .inl h2
            · have : x = r := by simpa using h2
              subst this; exact .inr ⟨by simp, h.1⟩
          · exact .inr ⟨by simp [h1.1], h1.2⟩
        · rintro (h1 | ⟨h1, h2⟩)
          · exact .inl (List.mem_append_left _ h1)
          · rcases List.mem_cons.1 h1 with rfl | h3
            · exact .inl (by simp)
            · exact .inr ⟨h3, h2⟩
      · rw [if_neg h]
        constructor
        · rintro (h1 | h1)
          · exact .inl h1
          · exact .inr ⟨by simp [h1.1], h1.2⟩
        · rintro (h1 | ⟨h1, h2⟩)
          · exact .inl h1
          · rcases List.mem_cons.1 h1 with rfl | h3
            · by_cases hm : x ∈ out
              · exact .inl hm
              · exact absurd ⟨h2, hm⟩ h
            · exact .inr ⟨h3, h2⟩
  unfold sentL
  rw [key]; simp
/-- One register more: what is left out, and what is not. -/
theorem sent_step (o : List Int) {l : List Int} {n : Nat} {r : Int} (h : l[n]? = some r) : sentL o (l.take (n + 1)) = if atO o r = 1 ∧ r ∉ l.take n then sentL o (l.take n) ++ [r] else sentL o (l.take n) := by
  unfold sentL
  rw [foldl_take _ _ h]
  have := sent_mem o (l.take n) r
  unfold sentL at this
  generalize (l.take n).foldl (putS o) [] = out at *
  unfold putS
  by_cases ha : atO o r = 1
  · by_cases hm : r ∈ l.take n
    · rw [if_neg (fun c => c.2 (this.2 ⟨hm, ha⟩)), if_neg (fun c => c.2 hm)]
    · rw [if_pos ⟨ha, fun c => hm (this.1 c).1⟩, if_pos ⟨ha, hm⟩]
  · rw [if_neg (fun c => ha c.1), if_neg (fun c => ha c.1)]
theorem sent_len (o : List Int) (l : List Int) : (sentL o l).length ≤ l.length := by
  have key : ∀ (l out : List Int), (l.foldl (putS o) out).length ≤ out.length + l.length := by
    intro l
    induction l with
    | nil => intro out; simp
    | cons r l ih =>
      intro out
      rw [List.foldl_cons]
      have := ih (putS o out r)
      have h2 : (putS o out r).length ≤ out.length + 1 := by unfold putS; split <;> simp
      simp only [List.length_cons]; omega
  have := key l []
  simpa [sentL] using this
/-- The owner with register 0 on both sides. -/
def zeroed (o : List Int) : List Int := o.set 0 0
theorem zeroed_len {o : List Int} (h : o.length = 16) : (zeroed o).length = 16 := by simp [zeroed, h]
theorem zeroed_at {o : List Int} (h : o.length = 16) {r : Int} (h0 : 0 ≤ r) (h1 : r ≤ 15) : atO (zeroed o) r = ownedZ o r := by
  obtain ⟨n, rfl, hn⟩ := nat_of ⟨h0, h1⟩
  unfold zeroed
  rw [atO_set o 0 n 0 (by omega)]
  unfold ownedZ
  by_cases e : n = 0
  · subst e; simp
  · rw [if_neg e, if_neg (by omega)]
theorem zeroed_on {o : List Int} (h : o.length = 16) {r : Int} (h0 : 0 ≤ r) (h1 : r ≤ 15) : decide (atO (zeroed o) r = 2) = onEB o r := by
  rw [zeroed_at h h0 h1]
  unfold ownedZ onEB
  by_cases e : r < 1 ∨ 15 < r
  · rw [if_pos e]
    have : r = 0 := by omega
    subst this; rfl
  · rw [if_neg e]
    rw [decide_eq_true (p := 0 < r) (by omega)]; rfl
theorem zeroed_reg {o : List Int} (h : o.length = 16) {r : Int} (h0 : 1 ≤ r) (h1 : r ≤ 15) : atO (zeroed o) r = atO o r := by
  rw [zeroed_at h (by omega) h1]; unfold ownedZ; rw [if_neg (by omega)]
theorem zeroed_any {o : List Int} (h : o.length = 16) (i : Ins) : anyEB (readsZ i) (zeroed o) = anyEB (readsZ i) o := by
  unfold anyEB
  rw [Bool.eq_iff_iff]
  simp only [List.any_eq_true, decide_eq_true_iff]
  constructor <;> rintro ⟨r, hr, h2⟩ <;> refine ⟨r, hr, ?_⟩
  · have := reads_mem hr; rwa [zeroed_reg h (by omega) (by omega)] at h2
  · have := reads_mem hr; rwa [zeroed_reg h (by omega) (by omega)]
theorem zeroed_side {o : List Int} (h : o.length = 16) {i : Ins} (hi : rightB i = true) : sideZ i (zeroed o) = sideZ i o := by
  have hr := right_range hi
  unfold sideZ
  rw [zeroed_any h]
  by_cases hd : i.d = 0
  · simp [hd]
  · simp only [hd, if_false]
    rw [zeroed_reg h (by omega) (by omega)]
theorem zeroed_sent {o : List Int} (h : o.length = 16) {l : List Int} (hl : ∀ r ∈ l, 1 ≤ r ∧ r ≤ 15) : sentL (zeroed o) l = sentL o l := by
  have key : ∀ (l out : List Int), (∀ r ∈ l, 1 ≤ r ∧ r ≤ 15) → l.foldl (putS (zeroed o)) out = l.foldl (putS o) out := by
    intro l
    induction l with
    | nil => intro out _; rfl
    | cons r l ih =>
      intro out hr
      rw [List.foldl_cons, List.foldl_cons]
      have h1 := hr r (by simp)
      rw [show putS (zeroed o) out r = putS o out r by unfold putS; rw [zeroed_reg h h1.1 h1.2]]
      exact ih _ (fun x hx => hr x (by simp [hx]))
  exact key l [] hl
/-- A's cells, and E's, by the owner with register 0 on both sides. -/
def emitA (z : List Int) (i : Ins) (pc off : Int) : List Cel :=
  if rightB i = false then [] else
  if formZ i.op = 4 then (if atO z i.d = 2 then [insC 3 i pc off] else [insC 2 i pc off]) else
  if formZ i.op = 5 then regsC 5 pc off (sentL z [i.b]) ++ [insC 4 i pc off] else
  if formZ i.op = 6 then (if anyEB (readsZ i) z = true then regsC 5 pc off (sentL z (readsZ i)) ++ [bareC 10 pc off] else [insC 9 i pc off]) else
  if formZ i.op = 7 then [bareC 11 pc off] else
  if formZ i.op = 8 then [bareC 12 pc off] else
  if sideZ i z = 1 then [insC 1 i pc off] else regsC 5 pc off (sentL z (readsZ i))
def emitE (z : List Int) (i : Ins) (pc off : Int) : List Cel :=
  if rightB i = false then [] else
  if formZ i.op = 4 then (if atO z i.d = 2 then [insC 7 i pc off] else []) else
  if formZ i.op = 5 then regsC 6 pc off (sentL z [i.b]) ++ [regC 8 i.b pc off] else
  if formZ i.op = 6 then (if anyEB (readsZ i) z = true then regsC 6 pc off (sentL z (readsZ i)) ++ [insC 9 i pc off] else [bareC 10 pc off]) else
  if formZ i.op = 7 then [bareC 11 pc off] else
  if formZ i.op = 8 then [bareC 12 pc off] else
  if sideZ i z = 1 then [] else regsC 6 pc off (sentL z (readsZ i)) ++ [insC 1 i pc off]
theorem emit_no {z : List Int} {i : Ins} {pc off : Int} (h : rightB i = false) : emitA z i pc off = [] ∧ emitE z i pc off = [] := by
  unfold emitA emitE; simp [h]
theorem emit_4e {z : List Int} {i : Ins} {pc off : Int} (h : rightB i = true) (hf : formZ i.op = 4) (hd : atO z i.d = 2) : emitA z i pc off = [insC 3 i pc off] ∧ emitE z i pc off = [insC 7 i pc off] := by
  unfold emitA emitE; simp [h, hf, hd]
theorem emit_4a {z : List Int} {i : Ins} {pc off : Int} (h : rightB i = true) (hf : formZ i.op = 4) (hd : ¬ atO z i.d = 2) : emitA z i pc off = [insC 2 i pc off] ∧ emitE z i pc off = [] := by
  unfold emitA emitE; simp [h, hf, hd]
theorem emit_5 {z : List Int} {i : Ins} {pc off : Int} (h : rightB i = true) (hf : formZ i.op = 5) : emitA z i pc off = regsC 5 pc off (sentL z [i.b]) ++ [insC 4 i pc off] ∧ emitE z i pc off = regsC 6 pc off (sentL z [i.b]) ++ [regC 8 i.b pc off] := by
  unfold emitA emitE; simp [h, hf]
theorem emit_6e {z : List Int} {i : Ins} {pc off : Int} (h : rightB i = true) (hf : formZ i.op = 6) (ha : anyEB (readsZ i) z = true) : emitA z i pc off = regsC 5 pc off (sentL z (readsZ i)) ++ [bareC 10 pc off] ∧ emitE z i pc off = regsC 6 pc off (sentL z (readsZ i)) ++ [insC 9 i pc off] := by
  unfold emitA emitE; simp [h, hf, ha]
theorem emit_6a {z : List Int} {i : Ins} {pc off : Int} (h : rightB i = true) (hf : formZ i.op = 6) (ha : anyEB (readsZ i) z = false) : emitA z i pc off = [insC 9 i pc off] ∧ emitE z i pc off = [bareC 10 pc off] := by
  unfold emitA emitE; simp [h, hf, ha]
theorem emit_7 {z : List Int} {i : Ins} {pc off : Int} (h : rightB i = true) (hf : formZ i.op = 7) : emitA z i pc off = [bareC 11 pc off] ∧ emitE z i pc off = [bareC 11 pc off] := by
  unfold emitA emitE; simp [h, hf]
theorem emit_8 {z : List Int} {i : Ins} {pc off : Int} (h : rightB i = true) (hf : formZ i.op = 8) : emitA z i pc off = [bareC 12 pc off] ∧ emitE z i pc off = [bareC 12 pc off] := by
  unfold emitA emitE; simp [h, hf]
theorem emit_1a {z : List Int} {i : Ins} {pc off : Int} (h : rightB i = true) (hf : formZ i.op ≤ 3) (hs : sideZ i z = 1) : emitA z i pc off = [insC 1 i pc off] ∧ emitE z i pc off = [] := by
  have n4 : ¬ formZ i.op = 4 := by omega
  have n5 : ¬ formZ i.op = 5 := by omega
  have n6 : ¬ formZ i.op = 6 := by omega
  have n7 : ¬ formZ i.op = 7 := by omega
  have n8 : ¬ formZ i.op = 8 := by omega
  unfold emitA emitE; simp [h, hs, n4, n5, n6, n7, n8]
theorem emit_1e {z : List Int} {i : Ins} {pc off : Int} (h : rightB i = true) (hf : formZ i.op ≤ 3) (hs : ¬ sideZ i z = 1) : emitA z i pc off = regsC 5 pc off (sentL z (readsZ i)) ∧ emitE z i pc off = regsC 6 pc off (sentL z (readsZ i)) ++ [insC 1 i pc off] := by
  have n4 : ¬ formZ i.op = 4 := by omega
  have n5 : ¬ formZ i.op = 5 := by omega
  have n6 : ¬ formZ i.op = 6 := by omega
  have n7 : ¬ formZ i.op = 7 := by omega
  have n8 : ¬ formZ i.op = 8 := by omega
  unfold emitA emitE; simp [h, hs, n4, n5, n6, n7, n8]
end Go.Proofs.Ytcaibahniheohaa.Words

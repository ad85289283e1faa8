/- Several texts in one: AsmStmt, AsmLine, AsmMap, AsmLabels, IsaRight, AsmBld. -/
import Derived.Test.YtcaibahniheohaaDoorBG04
import Derived.Deep.QuietTactic
import Derived.BigQuiet
import Derived.Maps.OwnSet
import Derived.Maps.OwnOps
import Derived.WalkKit
import Derived.LoopTactic

/- Contracts of package asm's statement and lineEnd. -/
namespace Go.Proofs.YtcaibahniheohaaDoor.Words
set_option maxRecDepth 100000
open Go.RowKit Go.Shelf Go.Lib
set_option linter.unusedVariables false
set_option linter.unusedSimpArgs false
theorem stmtT_kind {r : List Tok} (e : Nat) (h : (nextT r e).kind ≠ 1) : stmtT r = (true, r, []) := by
 cases r with
 | nil => rfl
 | cons t ts =>
  have h2 : t.kind ≠ 1 := h
  have e1 : stmtT (t :: ts) = if t.kind ≠ 1 then (true, t :: ts, []) else if 0 < opZ t.text then insT (opZ t.text) t.at_ ts else if t.text = sizeN then numT 3 ts else if t.text = byteN then bytesT ts else (false, t :: ts, []) := rfl
  rw [e1, if_pos h2]
theorem stmtT_one (t : Tok) (ts : List Tok) (h : t.kind = 1) : stmtT (t :: ts) = if 0 < opZ t.text then insT (opZ t.text) t.at_ ts else if t.text = sizeN then numT 3 ts else if t.text = byteN then bytesT ts else (false, t :: ts, []) := by
 have e1 : stmtT (t :: ts) = if t.kind ≠ 1 then (true, t :: ts, []) else if 0 < opZ t.text then insT (opZ t.text) t.at_ ts else if t.text = sizeN then numT 3 ts else if t.text = byteN then bytesT ts else (false, t :: ts, []) := rfl
 rw [e1, if_neg (fun e => e h)]
theorem AppOut.to {w X w' : World} {b e : Nat} {ps : List PartZ} {Z Z' : Bool × List Tok × List PartZ} {en : Ending} (h : AppOut X b e ps Z en w') (hb : Below b w X) (hz : Z' = Z) : AppOut w b e ps Z' en w' := by
 subst hz
 obtain ⟨h1, vp', h2, h3⟩ := h
 exact ⟨h1, vp', h2, hb.trans h3⟩
section
variable (w : World) (b e : Nat) (r : List Tok) (vp : Value) (ps : List PartZ)
end
end Go.Proofs.YtcaibahniheohaaDoor.Words

/- Contracts of package asm's lineEnd, line and text. -/
namespace Go.Proofs.YtcaibahniheohaaDoor.Words
set_option maxRecDepth 100000
open Go.RowKit Go.Shelf Go.Lib
set_option linter.unusedVariables false
set_option linter.unusedSimpArgs false
theorem labelsF_lab : ∀ f r, labelsF (f + 1) r = if (labT r).1 = true then ((labelsF f (labT r).2.1).1, (labT r).2.2 ++ (labelsF f (labT r).2.1).2) else (r, []) := by
 intro f r
 conv => lhs; unfold labelsF
 unfold labT
 cases labelT r with
 | none => rfl
 | some x => obtain ⟨p, ts⟩ := x; rfl
theorem labT_lt {r : List Tok} (h : (labT r).1 = true) : (labT r).2.2.length + (labT r).2.1.length < r.length := by
 rcases r with _ | ⟨t, _ | ⟨c, ts⟩⟩
 ·cases h
 ·cases h
 ·rw [labT_two] at h ⊢
  split
  ·simp; omega
  ·rename_i hh; rw [if_neg hh] at h; cases h
theorem labelsF_len : ∀ f r, (labelsF f r).2.length + (labelsF f r).1.length ≤ r.length
 | 0, r => by simp [labelsF]
 | f + 1, r => by
  rw [labelsF_lab]
  split
  ·rename_i h
   have h1 := labT_lt h
   have h2 := labelsF_len f (labT r).2.1
   simp only [List.length_append]
   omega
  ·simp
theorem insT_len2 (op : Int) (at_ : Nat) (r : List Tok) : (insT op at_ r).2.2.length + (insT op at_ r).2.1.length ≤ r.length + 1 := by
 have := fieldsT_len (shapeZ op) ⟨2, at_, 0, [], ⟨op, 0, 0, 0, 0⟩, tok0⟩ r
 unfold insT
 split
 ·simp only [List.length_cons, List.length_nil]; omega
 ·simp only [List.length_nil]; omega
theorem stmtT_len (r : List Tok) : (stmtT r).2.2.length + (stmtT r).2.1.length ≤ r.length := by
 cases r with
 | nil => exact Nat.le_refl _
 | cons t ts =>
  by_cases h : t.kind = 1
  ·rw [stmtT_one t ts h]
   have h1 := insT_len2 (opZ t.text) t.at_ ts
   have h2 := numT_len 3 ts
   have h3 := bytesT_len ts
   simp only [List.length_cons]
   split
   ·omega
   split
   ·omega
   split
   ·omega
   ·simp
  ·rw [stmtT_kind 0 (show (nextT (t :: ts) 0).kind ≠ 1 from h)]; simp
theorem endT_len (r : List Tok) : (endT r).2.length ≤ r.length := by
 cases r with
 | nil => exact Nat.le_refl _
 | cons t ts =>
  have h : endT (t :: ts) = if t.kind = 4 then (true, ts) else (false, t :: ts) := rfl
  rw [h]; split <;> simp
theorem lineT_len (r : List Tok) : (lineT r).2.2.length + (lineT r).2.1.length ≤ r.length := by
 have h1 := labelsF_len r.length r
 have h2 := stmtT_len (labelsF r.length r).1
 have h3 := endT_len (stmtT (labelsF r.length r).1).2.1
 unfold lineT
 split
 ·simp only [List.length_append]; omega
 ·simp only [List.length_append]; omega
theorem endT_true {r : List Tok} (h : (endT r).1 = true) : (endT r).2 = [] ∨ (endT r).2.length < r.length := by
 cases r with
 | nil => exact .inl rfl
 | cons t ts =>
  have h1 : endT (t :: ts) = if t.kind = 4 then (true, ts) else (false, t :: ts) := rfl
  rw [h1] at h ⊢
  by_cases hk : t.kind = 4
  ·rw [if_pos hk]; right; simp
  ·rw [if_neg hk] at h; cases h
theorem lineT_lt {r : List Tok} (h : (lineT r).1 = true) (hr : r ≠ []) : (lineT r).2.1.length < r.length := by
 have h1 := labelsF_len r.length r
 have h2 := stmtT_len (labelsF r.length r).1
 have hp : 0 < r.length := List.length_pos_iff.2 hr
 unfold lineT at h ⊢
 split
 ·rename_i hs
  rw [if_pos hs] at h
  rcases endT_true h with h3 | h3
  ·simp only [h3, List.length_nil]; exact hp
  ·simp only; omega
 ·rename_i hs
  rw [if_neg hs] at h; cases h
end Go.Proofs.YtcaibahniheohaaDoor.Words

/- The labels of a text as a map of the call's own: what it holds, looked up and stored into. -/
namespace Go.Proofs.YtcaibahniheohaaDoor.Words
set_option maxRecDepth 100000
open Go.RowKit Go.Shelf Go.Lib
open Go.Maps (Keyed)
set_option linter.unusedVariables false
set_option linter.unusedSimpArgs false
abbrev labD (a p : Int) : DataW Unit := .agg [.lit (.int .i64 a), .lit (.int .i64 p)]
def labR (v : Value) : Option (DataW Unit × List MemPlace) :=
 match v with
 | .agg cs => match cs.toList with
  | [.int .i64 a, .int .i64 p] => some (labD a p, [])
  | _ => none
 | _ => none
theorem labR_mk (a p : Int) : labR (.agg #[.int .i64 a, .int .i64 p]) = some (labD a p, []) := rfl
theorem labR_inv {v : Value} {a p : Int} {ps : List MemPlace} (h : labR v = some (labD a p, ps)) : v = .agg #[.int .i64 a, .int .i64 p] := by
 unfold labR at h
 split at h
 ·rename_i cs
  split at h
  ·rename_i a' p' hc
   simp only [Option.some.injEq, Prod.mk.injEq, DataW.agg.injEq, List.cons.injEq, DataW.lit.injEq, Lit.int.injEq] at h
   obtain ⟨⟨⟨_, rfl⟩, ⟨_, rfl⟩, _⟩, _⟩ := h
   have := congrArg List.toArray hc
   rw [Array.toArray_toList] at this
   rw [this]
  ·cases h
 ·cases h
def LabM (w : World) (m n : Nat) (f : List UInt8 → Option (Int × Int)) : Prop :=
 ∃ D : DataW Unit, w.ownsMap Tryd.prog 9 labR m n D ∧ ∀ t : List UInt8, (∀ a p, f t = some (a, p) → ∀ z, D.atKey (.string t) z = labD a p) ∧ (f t = none → ∀ z, D.atKey (.string t) z = z)
theorem keyS : Keyed Tryd.prog 9 := Maps.string_keyed Tryd.underlying9
theorem keyT {t : List UInt8} (h : t.length ≤ 1000000) : keyOf Tryd.prog 9 (.string (txt t)) = some (.string t) := by
 have := WideMaps.keyOf_string_mk (P := Tryd.prog) Tryd.underlying9 (s := txt t) (by rw [txt_sz]; unfold maxLen; omega)
 rwa [txt_data] at this
theorem zeroLab (w : World) : (zeroValue 82).run Tryd.prog w = .ok (.agg #[.int .i64 0, .int .i64 0]) w := by kernel_rfl
section
variable {w w' : World} {m n : Nat} {f : List UInt8 → Option (Int × Int)}
theorem LabM.lt (h : LabM w m n f) : m < w.heap.size := by obtain ⟨D, h, _⟩ := h; exact h.lt
theorem LabM.keepS {S : Nat → Prop} (h : LabM w m n f) (hk : KeepS S w w') (hm : ¬ S m) : LabM w' m n f := by
 have hlt := h.lt
 obtain ⟨D, ⟨es, clock, hb, F, hs, hD⟩, h2⟩ := h
 exact ⟨D, ⟨es, clock, (hk.block m hlt hm).trans hb, F, hs, hD⟩, h2⟩
theorem LabM.go (h : LabM w m n f) (hb : Below w.heap.size w w') : LabM w' m n f := h.keepS (S := fun _ => False) (KeepS.of_below hb) (fun e => e)
theorem LabM.look (h : LabM w m n f) {t : List UInt8} (ht : t.length ≤ 1000000) : (Instr.lookup 50 (.map (some m)) (.string (txt t)) false).run Tryd.prog w = .ok (.agg #[.int .i64 ((f t).getD (0, 0)).1, .int .i64 ((f t).getD (0, 0)).2]) w := by
 obtain ⟨D, hown, h2⟩ := h
 obtain ⟨v, ps, hrun, hv⟩ := hown.lookup keyS (e := 82) Tryd.underlying50 (zeroLab w) (labR_mk 0 0) (keyT ht)
 obtain ⟨q1, q2⟩ := h2 t
 cases hf : f t with
 | none =>
  rw [q2 hf] at hv
  rw [hrun, labR_inv hv]
  rfl
 | some r =>
  obtain ⟨a, p⟩ := r
  rw [q1 a p hf] at hv
  rw [hrun, labR_inv hv]
  rfl
end
end Go.Proofs.YtcaibahniheohaaDoor.Words

/- Contract of package asm's labelsOf. -/
namespace Go.Proofs.YtcaibahniheohaaDoor.Words
set_option maxRecDepth 100000
open Go.RowKit Go.Shelf Go.Lib
set_option linter.unusedVariables false
set_option linter.unusedSimpArgs false
theorem take_snoc {α : Type} {l : List α} {k : Nat} {x : α} (h : l[k]? = some x) : l.take (k + 1) = l.take k ++ [x] := by
 rw [List.take_add_one, h]
 rfl
end Go.Proofs.YtcaibahniheohaaDoor.Words

/- Contracts of isa.Right and of the document's own RightIns: whether an instruction is one that may be. No conditions. -/
namespace Go.Proofs.YtcaibahniheohaaDoor.Words
set_option maxRecDepth 100000
open Go.RowKit
theorem right_none {i : Ins} (h : (formZ i.op == 0) = true) : rightB i = false := by
 have : formZ i.op = 0 := by simpa using h
 unfold rightB; simp [this]
theorem right_some {i : Ins} (h : (formZ i.op == 0) = false) : rightB i = (fitsB i.d 0 15 (hasD (formZ i.op)) && fitsB i.a 0 15 (hasA (formZ i.op)) && fitsB i.b 0 15 (hasB (formZ i.op)) && fitsB i.imm (lowI i.op) (highI i.op) (hasI (formZ i.op))) := by
 have : formZ i.op ≠ 0 := by simpa using h
 unfold rightB; simp [this]
set_option maxHeartbeats 1000000 in
theorem right_any (i : Ins) (w : World) :
  Calls Tryd.prog 60 #[.agg #[.int .i64 i.op, .int .i64 i.d, .int .i64 i.a, .int .i64 i.b, .int .i64 i.imm]] w fun e w' => e = .returned (.bool (rightB i)) ∧ Below w.heap.size w w' := by
 have hr := formZ_range i.op
 cases h0 : (formZ i.op == 0)
 ·have hright := Lib.hid (right_some h0)
  go_enter Tryd.func60, Tryd.ntmps60
  go_wp2_with fail
  refine (form_any _ _).mono ?_; rintro e w1 ⟨rfl, rfl⟩
  go_wp2_with fail
  refine (fieldsOf_any _ _ hr.1 hr.2).mono ?_; rintro e w1 ⟨rfl, hb1⟩
  obtain ⟨hc1, hf1⟩ := bcell hb1
  have hz1 : w.heap.size < w1.heap.size := by have := hb1.size; simp at this; omega
  have hB := (((Below.refl w.heap.size w).alloc (Nat.le_refl _) _).trans (hb1.mono (by simp)))
  cases hd : fitsB i.d 0 15 (hasD (formZ i.op))
  ·rw [hd] at hright
   go_wp2_with fail
   refine (limits_any _ _).mono ?_; rintro e w2 ⟨rfl, rfl⟩
   go_wp2_with fail
   refine (fits_any _ _ _ _ _).mono ?_; rintro e w2 ⟨rfl, rfl⟩
   rw [hd]
   go_wp2_with fail
   go_ret
   exact ⟨ret_bool (by rw [hright.out]; rfl), hB.alloc (by omega) _⟩
  cases ha : fitsB i.a 0 15 (hasA (formZ i.op))
  ·rw [hd, ha] at hright
   go_wp2_with fail
   refine (limits_any _ _).mono ?_; rintro e w2 ⟨rfl, rfl⟩
   go_wp2_with fail
   refine (fits_any _ _ _ _ _).mono ?_; rintro e w2 ⟨rfl, rfl⟩
   rw [hd]
   go_wp2_with fail
   refine (fits_any _ _ _ _ _).mono ?_; rintro e w2 ⟨rfl, rfl⟩
   rw [ha]
   go_wp2_with fail
   go_ret
   exact ⟨ret_bool (by rw [hright.out]; rfl), hB.alloc (by omega) _⟩
  cases hb : fitsB i.b 0 15 (hasB (formZ i.op))
  ·rw [hd, ha, hb] at hright
   go_wp2_with fail
   refine (limits_any _ _).mono ?_; rintro e w2 ⟨rfl, rfl⟩
   go_wp2_with fail
   refine (fits_any _ _ _ _ _).mono ?_; rintro e w2 ⟨rfl, rfl⟩
   rw [hd]
   go_wp2_with fail
   refine (fits_any _ _ _ _ _).mono ?_; rintro e w2 ⟨rfl, rfl⟩
   rw [ha]
   go_wp2_with fail
   refine (fits_any _ _ _ _ _).mono ?_; rintro e w2 ⟨rfl, rfl⟩
   rw [hb]
   go_wp2_with fail
   go_ret
   exact ⟨ret_bool (by rw [hright.out]; rfl), hB.alloc (by omega) _⟩
  ·rw [hd, ha, hb] at hright
   go_wp2_with fail
   refine (limits_any _ _).mono ?_; rintro e w2 ⟨rfl, rfl⟩
   go_wp2_with fail
   refine (fits_any _ _ _ _ _).mono ?_; rintro e w2 ⟨rfl, rfl⟩
   rw [hd]
   go_wp2_with fail
   refine (fits_any _ _ _ _ _).mono ?_; rintro e w2 ⟨rfl, rfl⟩
   rw [ha]
   go_wp2_with fail
   refine (fits_any _ _ _ _ _).mono ?_; rintro e w2 ⟨rfl, rfl⟩
   rw [hb]
   go_wp2_with fail
   refine (fits_any _ _ _ _ _).mono ?_; rintro e w2 ⟨rfl, rfl⟩
   go_wp2_with fail
   go_ret
   exact ⟨ret_bool (by rw [hright.out]; rfl), hB.alloc (by omega) _⟩
 ·have hright := Lib.hid (right_none h0)
  go_enter Tryd.func60, Tryd.ntmps60
  go_wp2_with fail
  refine (form_any _ _).mono ?_; rintro e w1 ⟨rfl, rfl⟩
  go_wp2_with fail
  go_ret
  exact ⟨ret_bool hright.out.symm, (Below.refl _ _).alloc (Nat.le_refl _) _⟩
set_option maxHeartbeats 1000000 in
theorem rightIns_any (i : Ins) (w : World) :
  Calls Tryd.prog 24 #[.agg #[.int .i64 i.op, .int .i64 i.d, .int .i64 i.a, .int .i64 i.b, .int .i64 i.imm]] w fun e w' => e = .returned (.bool (rightB i)) ∧ Below w.heap.size w w' := by
 have hB : ∀ o, Below w.heap.size w (w.alloc o) := fun o => (Below.refl w.heap.size w).alloc (Nat.le_refl _) o
 have HB := Lib.hid hB
 clear hB
 cases h0 : (formZ i.op == 0)
 ·have hright := Lib.hid (right_some h0)
  cases hd : fitsB i.d 0 15 (hasD (formZ i.op))
  ·rw [hd] at hright
   go_enter Tryd.func24, Tryd.ntmps24
   go_wp2_with fail
   refine (refForm_any _ _).mono ?_; rintro e w1 ⟨rfl, rfl⟩
   go_wp2_with fail
   refine (has_any _ _).mono ?_; rintro e w1 ⟨rfl, rfl⟩
   go_wp2_with fail
   refine (reg_any _ _ _).mono ?_; rintro e w1 ⟨rfl, rfl⟩
   rw [hd]
   go_wp2_with fail
   go_ret
   exact ⟨ret_bool (by rw [hright.out]; rfl), HB.out _⟩
  cases ha : fitsB i.a 0 15 (hasA (formZ i.op))
  ·rw [hd, ha] at hright
   go_enter Tryd.func24, Tryd.ntmps24
   go_wp2_with fail
   refine (refForm_any _ _).mono ?_; rintro e w1 ⟨rfl, rfl⟩
   go_wp2_with fail
   refine (has_any _ _).mono ?_; rintro e w1 ⟨rfl, rfl⟩
   go_wp2_with fail
   refine (reg_any _ _ _).mono ?_; rintro e w1 ⟨rfl, rfl⟩
   rw [hd]
   go_wp2_with fail
   refine (reg_any _ _ _).mono ?_; rintro e w1 ⟨rfl, rfl⟩
   rw [ha]
   go_wp2_with fail
   go_ret
   exact ⟨ret_bool (by rw [hright.out]; rfl), HB.out _⟩
  cases hb : fitsB i.b 0 15 (hasB (formZ i.op))
  ·rw [hd, ha, hb] at hright
   go_enter Tryd.func24, Tryd.ntmps24
   go_wp2_with fail
   refine (refForm_any _ _).mono ?_; rintro e w1 ⟨rfl, rfl⟩
   go_wp2_with fail
   refine (has_any _ _).mono ?_; rintro e w1 ⟨rfl, rfl⟩
   go_wp2_with fail
   refine (reg_any _ _ _).mono ?_; rintro e w1 ⟨rfl, rfl⟩
   rw [hd]
   go_wp2_with fail
   refine (reg_any _ _ _).mono ?_; rintro e w1 ⟨rfl, rfl⟩
   rw [ha]
   go_wp2_with fail
   refine (reg_any _ _ _).mono ?_; rintro e w1 ⟨rfl, rfl⟩
   rw [hb]
   go_wp2_with fail
   go_ret
   exact ⟨ret_bool (by rw [hright.out]; rfl), HB.out _⟩
  ·rw [hd, ha, hb] at hright
   have hl := lowI_cases i.op
   cases hi : hasI (formZ i.op)
   ·rw [hi] at hright
    by_cases hz : i.imm = 0
    ·have hz' : (i.imm != 0) = false := by simp [hz]
     have hv : rightB i = true := by rw [hright.out]; simp [fitsB, hz]
     have HV := Lib.hid hv
     clear hv
     go_enter Tryd.func24, Tryd.ntmps24
     go_wp2_with fail
     refine (refForm_any _ _).mono ?_; rintro e w1 ⟨rfl, rfl⟩
     go_wp2_with fail
     refine (has_any _ _).mono ?_; rintro e w1 ⟨rfl, rfl⟩
     rw [hi]
     go_wp2_with fail
     refine (reg_any _ _ _).mono ?_; rintro e w1 ⟨rfl, rfl⟩
     rw [hd]
     go_wp2_with fail
     refine (reg_any _ _ _).mono ?_; rintro e w1 ⟨rfl, rfl⟩
     rw [ha]
     go_wp2_with fail
     refine (reg_any _ _ _).mono ?_; rintro e w1 ⟨rfl, rfl⟩
     rw [hb]
     go_wp2_with fail
     all_goals
      go_ret
      exact ⟨ret_bool_iff (by first | (rw [HV.out]; done) | (rw [HV.out]; simp; done) | (rw [HV.out]; simp; omega)), HB.out _⟩
    ·have hz' : (i.imm != 0) = true := by simp [hz]
     have hv : rightB i = false := by rw [hright.out]; simp [fitsB, hz]
     have HV := Lib.hid hv
     clear hv
     go_enter Tryd.func24, Tryd.ntmps24
     go_wp2_with fail
     refine (refForm_any _ _).mono ?_; rintro e w1 ⟨rfl, rfl⟩
     go_wp2_with fail
     refine (has_any _ _).mono ?_; rintro e w1 ⟨rfl, rfl⟩
     rw [hi]
     go_wp2_with fail
     refine (reg_any _ _ _).mono ?_; rintro e w1 ⟨rfl, rfl⟩
     rw [hd]
     go_wp2_with fail
     refine (reg_any _ _ _).mono ?_; rintro e w1 ⟨rfl, rfl⟩
     rw [ha]
     go_wp2_with fail
     refine (reg_any _ _ _).mono ?_; rintro e w1 ⟨rfl, rfl⟩
     rw [hb]
     go_wp2_with fail
     go_ret
     exact ⟨ret_bool HV.out.symm, HB.out _⟩
   ·rw [hi] at hright
    have hv : rightB i = decide (lowI i.op ≤ i.imm ∧ i.imm ≤ highI i.op) := by rw [hright.out]; simp [fitsB]
    have HV := Lib.hid hv
    clear hv
    go_enter Tryd.func24, Tryd.ntmps24
    go_wp2_with fail
    refine (refForm_any _ _).mono ?_; rintro e w1 ⟨rfl, rfl⟩
    go_wp2_with fail
    refine (has_any _ _).mono ?_; rintro e w1 ⟨rfl, rfl⟩
    rw [hi]
    go_wp2_with fail
    refine (reg_any _ _ _).mono ?_; rintro e w1 ⟨rfl, rfl⟩
    rw [hd]
    go_wp2_with fail
    refine (reg_any _ _ _).mono ?_; rintro e w1 ⟨rfl, rfl⟩
    rw [ha]
    go_wp2_with fail
    refine (reg_any _ _ _).mono ?_; rintro e w1 ⟨rfl, rfl⟩
    rw [hb]
    go_wp2_with fail
    all_goals
     go_ret
     exact ⟨ret_bool_iff (by rw [HV.out]; (try simp only [beq_iff_eq, beq_eq_false_iff_ne, ne_eq] at *); first | (simp; done) | (simp; omega)), HB.out _⟩
 ·have hright := Lib.hid (right_none h0)
  go_enter Tryd.func24, Tryd.ntmps24
  go_wp2_with fail
  refine (refForm_any _ _).mono ?_; rintro e w1 ⟨rfl, rfl⟩
  go_wp2_with fail
  refine (has_any _ _).mono ?_; rintro e w1 ⟨rfl, rfl⟩
  go_wp2_with fail
  go_ret
  exact ⟨ret_bool hright.out.symm, HB.out _⟩
end Go.Proofs.YtcaibahniheohaaDoor.Words

/- A builder in its block: its labels and its program as cells; what a part lays. -/
namespace Go.Proofs.YtcaibahniheohaaDoor.Words
set_option maxRecDepth 100000
open Go.RowKit Go.Shelf Go.Lib
set_option linter.unusedVariables false
set_option linter.unusedSimpArgs false
def Bld (w : World) (c m n : Nat) (f : List UInt8 → Option (Int × Int)) (p : Prog) (vc vd : Value) : Prop :=
 Box w c [.map (some m), vc, .int .i64 p.size, vd] ∧ LabM w m n f ∧ w.ownsRow (c + 1) 38 5 vc p.code.length (codeCells p.code) ∧ w.ownsRow (c + 1) 5 1 vd p.data.length (p.data.map (Value.int .u8)) ∧ m < c
theorem apart8 {w : World} {b1 b2 s1 s2 n1 n2 : Nat} {e1 e2 : TypeId} {v1 v2 : Value} {x1 x2 : List Value} (h1 : w.ownsRow b1 e1 s1 v1 n1 x1) (h2 : w.ownsRow b2 e2 s2 v2 n2 x2) (hne : e1 ≠ e2) {g : Nat} (hg : v1.ownBlock = some g) : some g ≠ v2.ownBlock := by
 rcases h1.2 with ⟨rfl, _⟩ | ⟨g1, c1, cur1, rfl, _, a1, _⟩
 ·cases hg
 rcases h2.2 with ⟨rfl, _⟩ | ⟨g2, c2, cur2, rfl, _, a2, _⟩
 ·intro h; cases h
 ·intro h
  simp only [Value.ownBlock, Option.some.injEq] at h hg
  subst hg
  subst h
  rw [a1] at a2
  simp only [Option.some.injEq, Obj.cells.injEq] at a2
  exact hne a2.2.1
theorem row_list (w : World) (l : List Value) (t : TypeId) : Row (w.alloc (.cells l.toArray t)) (w.heap.size + 1) l.length (.slice (some ⟨w.heap.size, 0, none⟩) 1 1) 1 l := by
 refine ⟨(Nat.one_mul _).symm, _, _, rfl, Nat.le_refl _, by omega, (fun h => by cases h), fun _ => ⟨w.heap.size, 0, rfl, Nat.lt_succ_self _, fun j u hu => ?_⟩⟩
 have := new_cells w l.toArray t l (by simp) j u hu
 rwa [add_spot] at this
theorem info_ins8 : (Tryd.prog.info? 38).map (fun i => (i.zero, i.size, i.bytes)) = some (some (.agg #[.int .i64 0, .int .i64 0, .int .i64 0, .int .i64 0, .int .i64 0]), 5, 40) := by kernel_rfl
theorem info_byte8 : (Tryd.prog.info? 5).map (fun i => (i.zero, i.size, i.bytes)) = some (some (.int .u8 0), 1, 1) := by kernel_rfl
section
variable {w w' : World} {c m n : Nat} {f : List UInt8 → Option (Int × Int)} {p : Prog} {vc vd : Value}
theorem Bld.lt (h : Bld w c m n f p vc vd) : c < w.heap.size := h.1.lt
theorem Bld.keepS {S : Nat → Prop} (h : Bld w c m n f p vc vd) (hk : KeepS S w w') (hs : ∀ k, S k → c < k) (h1 : ∀ g, vc.ownBlock = some g → ¬ S g) (h2 : ∀ g, vd.ownBlock = some g → ¬ S g) : Bld w' c m n f p vc vd := by
 obtain ⟨q1, q2, q3, q4, q5⟩ := h
 exact ⟨q1.keepS hk (fun e => by have := hs _ e; omega), q2.keepS hk (fun e => by have := hs _ e; omega), own_keepS q3 hk h1, own_keepS q4 hk h2, q5⟩
theorem Bld.go (h : Bld w c m n f p vc vd) (hb : Below w.heap.size w w') : Bld w' c m n f p vc vd := by
 obtain ⟨q1, q2, q3, q4, q5⟩ := h
 exact ⟨q1.below hb q1.lt, q2.go hb, own_below q3 hb, own_below q4 hb, q5⟩
theorem Bld.alloc (h : Bld w c m n f p vc vd) (o : Obj) : Bld (w.alloc o) c m n f p vc vd := h.go ((Below.refl _ _).alloc (Nat.le_refl _) o)
theorem Bld.drew (h : Bld w c m n f p vc vd) : Bld w.drew c m n f p vc vd := h
theorem Bld.set (h : Bld w c m n f p vc vd) {x : Nat} (hx : c < x) (h1 : vc.ownBlock ≠ some x) (h2 : vd.ownBlock ≠ some x) (k : Nat) (v : Value) : Bld (w.setCell ⟨x, k, none⟩ v) c m n f p vc vd :=
 h.keepS ((KeepS.refl (fun j => j = x) w).setCell rfl k v) (fun j hj => by omega) (fun g hg e => h1 (by rw [hg, e])) (fun g hg e => h2 (by rw [hg, e]))
theorem Bld.code {X y : World} {v3 : Value} {i : Ins} {o : Obj} {cells : List Value} (h : Bld X c m n f p vc vd) (hg : (X.alloc o).grownBy y vc.ownBlock) (ho : y.ownsRow (c + 1) 38 5 v3 (p.code.length + 1) (codeCells p.code ++ cells)) (hc : cells = insCells i) :
  Bld (y.setCell ⟨c, 1, none⟩ v3) c m n f { p with code := p.code ++ [i] } v3 vd ∧ Below c X (y.setCell ⟨c, 1, none⟩ v3) := by
 subst hc
 have hlt := h.lt
 obtain ⟨q1, q2, q3, q4, q5⟩ := h
 have hob : ∀ k, vc.ownBlock = some k → c + 1 ≤ k := fun k hk => (q3.lt k hk).1
 have hB : Below c X y := ((Below.refl c X).alloc (Nat.le_of_lt hlt) o).grown hg (by simp; omega) (fun k hk => by have := hob k hk; omega)
 have hB2 : Below c X (y.setCell ⟨c, 1, none⟩ v3) := hB.setCell (Nat.le_refl _) _
 refine ⟨⟨?_, ?_, ?_, ?_, q5⟩, hB2⟩
 ·exact ((q1.alloc o).grown hg (fun e => by have := hob c e.symm; omega)).setCell 1 v3
 ·exact q2.keepS (S := fun j => c ≤ j) ⟨hB2.os, hB2.tape, hB2.output, hB2.size, fun k hk hs => hB2.block k (Nat.lt_of_not_le hs)⟩ (by omega)
 ·rw [codeCells_append, List.length_append]
  exact ownsRow_setCell_below (by simpa [codeCells] using ho) (a := ⟨c, 1, none⟩) (Nat.lt_succ_self c) v3
 ·exact ownsRow_setCell_below (own_grown (q4.alloc o) hg (fun g hh => apart8 (q4.alloc o) (q3.alloc o) (by decide) hh)) (a := ⟨c, 1, none⟩) (Nat.lt_succ_self c) v3
end
def LayOut (w : World) (c m n : Nat) (f : List UInt8 → Option (Int × Int)) (Z : AsmR) (en : Ending) (w' : World) : Prop :=
 match Z with
 | .bad a e => en = .returned (.tuple #[.int .i64 (a : Int), .int .i64 e]) ∧ Below c w w'
 | .ok p => en = .returned (.tuple #[.int .i64 0, .int .i64 0]) ∧ (∃ vc vd, Bld w' c m n f p vc vd) ∧ Below c w w'
theorem LayOut.bad {w w' : World} {c m n : Nat} {f : List UInt8 → Option (Int × Int)} {Z : AsmR} {en : Ending} {a : Nat} {e : Int} (h : Z = .bad a e) (he : en = .returned (.tuple #[.int .i64 (a : Int), .int .i64 e])) (hb : Below c w w') : LayOut w c m n f Z en w' := by
 subst h; exact ⟨he, hb⟩
theorem LayOut.ok {w w' : World} {c m n : Nat} {f : List UInt8 → Option (Int × Int)} {Z : AsmR} {en : Ending} {p : Prog} {vc vd : Value} (h : Z = .ok p) (he : en = .returned (.tuple #[.int .i64 0, .int .i64 0])) (hB : Bld w' c m n f p vc vd) (hb : Below c w w') : LayOut w c m n f Z en w' := by
 subst h; exact ⟨he, ⟨vc, vd, hB⟩, hb⟩
end Go.Proofs.YtcaibahniheohaaDoor.Words

/- Several texts in one: AsmApp, AsmNumber, AsmBytes, RefForm, IsaForm, AsmIns, AsmLabel. -/
import Derived.Test.YtcaibahniheohaaDoorBG02
import Derived.Test.YtcaibahniheohaaDoorBG03
import Derived.LoopTactic
import Derived.Test.YtcaibahniheohaaDoorRows
import Derived.Test.YtcaibahniheohaaDoorBG00
import Derived.Lib.TrimAscii

/- A part appended to a parser's: what the region that does it leaves; a struct read in a region walked as a tree. -/
namespace Go.Proofs.YtcaibahniheohaaDoor.Words
set_option maxRecDepth 100000
open Go.RowKit Go.Shelf Go.Lib
set_option linter.unusedVariables false
section
variable {P : Program} {ops : Array Oper} {rest : LinO} {o : Oper} {a : Act} {Q : Exit → Act → World → Prop} {R : Act → World → Prop} {S : World → Prop} {w : World}
end
theorem Par.frozen {w : World} {b e : Nat} {r : List Tok} {vp : Value} {ps : List PartZ} (h : Par w b e r vp ps) (k : Nat) : w.frozen? ⟨b, k, none⟩ = false := by obtain ⟨_, _, h, _⟩ := h; exact h.frozen k
theorem Par.parts {w : World} {b e : Nat} {r : List Tok} {vp : Value} {ps : List PartZ} (h : Par w b e r vp ps) : w.cell? ⟨b, 3, none⟩ = some vp := by obtain ⟨_, _, h, _⟩ := h; exact h.cell (k := 3) rfl
theorem Par.form {w : World} {b e : Nat} {r : List Tok} {vp : Value} {ps : List PartZ} (h : Par w b e r vp ps) : ∃ A c, vp = .slice A ps.length c := (Row.of_own h.own).form
theorem Par.app {X y : World} {b e : Nat} {r : List Tok} {vp v3 : Value} {ps : List PartZ} {z : PartZ} {o : Obj} {cells : List Value} (h : Par X b e r vp ps) (hg : (X.alloc o).grownBy y vp.ownBlock) (ho : y.ownsRow (b + 1) 55 13 v3 (ps.length + 1) (partsL ps ++ cells)) (hc : cells = partL z) :
  Par (y.setCell ⟨b, 3, none⟩ v3) b e r v3 (ps ++ [z]) ∧ Below b X (y.setCell ⟨b, 3, none⟩ v3) := by
 subst hc
 have hlt := h.lt
 have hob : ∀ k, vp.ownBlock = some k → b + 1 ≤ k := fun k hk => (h.own.lt k hk).1
 obtain ⟨vt, vn, h1, h2, h3, h4, h5⟩ := h
 have hB : Below b X y := ((Below.refl b X).alloc (Nat.le_of_lt hlt) o).grown hg (by simp; omega) (fun k hk => by have := hob k hk; omega)
 have hB2 : Below b X (y.setCell ⟨b, 3, none⟩ v3) := hB.setCell (Nat.le_refl _) _
 refine ⟨⟨vt, vn, ?_, h2.below hB2, h3.below hB2, ?_, h5⟩, hB2⟩
 ·exact ((h1.alloc o).grown hg (fun e => by have := hob b e.symm; omega)).setCell 3 v3
 ·rw [partsL_append, partsL_one, List.length_append]
  exact ownsRow_setCell_below ho (a := ⟨b, 3, none⟩) (Nat.lt_succ_self b) v3
end Go.Proofs.YtcaibahniheohaaDoor.Words

/- Contract of package asm's number. -/
namespace Go.Proofs.YtcaibahniheohaaDoor.Words
set_option maxRecDepth 100000
open Go.RowKit Go.Shelf Go.Lib
set_option linter.unusedVariables false
set_option linter.unusedSimpArgs false
def AppOut (w : World) (b e : Nat) (ps : List PartZ) (Z : Bool × List Tok × List PartZ) (en : Ending) (w' : World) : Prop :=
 en = .returned (.bool Z.1) ∧ ∃ vp', Par w' b e Z.2.1 vp' (ps ++ Z.2.2) ∧ Below b w w'
end Go.Proofs.YtcaibahniheohaaDoor.Words

/- Contract of package asm's byteList. -/
namespace Go.Proofs.YtcaibahniheohaaDoor.Words
set_option maxRecDepth 100000
open Go.RowKit Go.Shelf Go.Lib
set_option linter.unusedVariables false
set_option linter.unusedSimpArgs false
theorem numT_len (kind : Int) (r : List Tok) : (numT kind r).2.2.length + (numT kind r).2.1.length ≤ r.length := by
  cases r with
  | nil => simp [numT]
  | cons t ts =>
    have h : numT kind (t :: ts) = if t.kind = 2 then (true, ts, [⟨kind, t.at_, t.num, [], ins0, tok0⟩]) else (false, t :: ts, []) := rfl
    rw [h]
    split
    · simp; omega
    · simp
theorem signT_len (c : List UInt8) (r : List Tok) : (signT c r).2.length ≤ r.length := by
  cases r with
  | nil => simp [signT]
  | cons t ts =>
    have h : signT c (t :: ts) = if isS t c = true then (true, ts) else (false, t :: ts) := rfl
    rw [h]
    split
    · simp
    · simp
theorem byteF_len : ∀ f ok r, (byteF f ok r).2.2.length + (byteF f ok r).2.1.length ≤ r.length
  | 0, ok, r => by simp [byteF]
  | f + 1, ok, r => by
    unfold byteF
    split
    · split
      · have h1 := byteF_len f (numT 4 (signT [44] r).2).1 (numT 4 (signT [44] r).2).2.1
        have h2 := numT_len 4 (signT [44] r).2
        have h3 := signT_len [44] r
        simp only [List.length_append]
        omega
      · simp
    · simp
theorem bytesT_len (r : List Tok) : (bytesT r).2.2.length + (bytesT r).2.1.length ≤ r.length := by
  unfold bytesT
  have h1 := byteF_len r.length (numT 4 r).1 (numT 4 r).2.1
  have h2 := numT_len 4 r
  simp only [List.length_append]
  omega
end Go.Proofs.YtcaibahniheohaaDoor.Words

/- Contract of the document's own answer on forms. No conditions. -/
namespace Go.Proofs.YtcaibahniheohaaDoor.Words
set_option maxRecDepth 100000
open Go.RowKit
set_option maxHeartbeats 400000 in
theorem refForm_any (op : Int) (w : World) :
  Calls Tryd.prog 44 #[.int .i64 op] w fun e w' => e = .returned (.int .i64 (formZ op)) ∧ w = w' := by
 have hc := formZ_cases op
 go_enter Tryd.func44, Tryd.ntmps44
 go_wp2
 all_goals
  go_ret
  exact ⟨ret_int (by (try simp only [beq_iff_eq, beq_eq_false_iff_ne, ne_eq] at *); omega), rfl⟩
end Go.Proofs.YtcaibahniheohaaDoor.Words

/- Contracts of package isa and of the document's own answers on forms and on which instructions may be: Form, Right. No conditions. -/
namespace Go.Proofs.YtcaibahniheohaaDoor.Words
set_option maxRecDepth 100000
open Go.RowKit
theorem results_tmp4 {fn : Func} {t u v x : Tmp} (h : fn.results = #[.tmp t, .tmp u, .tmp v, .tmp x]) (tmps : Array Value) (P : Program) (w : World) :
  (results fn tmps).run P w = .ok (.tuple #[tmps.getD t undef, tmps.getD u undef, tmps.getD v undef, tmps.getD x undef]) w := by simp [results, h]
theorem ret_ints {k l : IntKind} {a b c d : Int} (h : a = b) (h' : c = d) : Ending.returned (.tuple #[.int k a, .int l c]) = .returned (.tuple #[.int k b, .int l d]) := by rw [h, h']
set_option maxHeartbeats 400000 in
theorem form_any (op : Int) (w : World) :
  Calls Tryd.prog 82 #[.int .i64 op] w fun e w' => e = .returned (.int .i64 (formZ op)) ∧ w = w' := by
 have hc := formZ_cases op
 go_enter Tryd.func82, Tryd.ntmps82
 go_wp2
 all_goals
  go_ret
  exact ⟨ret_int (by (try simp only [beq_iff_eq, beq_eq_false_iff_ne, ne_eq] at *); omega), rfl⟩
set_option maxHeartbeats 400000 in
theorem fits_any (n lo hi : Int) (had : Bool) (w : World) :
  Calls Tryd.prog 85 #[.int .i64 n, .int .i64 lo, .int .i64 hi, .bool had] w fun e w' => e = .returned (.bool (fitsB n lo hi had)) ∧ w = w' := by
 rcases had with _ | _
 ·go_enter Tryd.func85, Tryd.ntmps85
  go_wp2
  all_goals
   go_ret
   exact ⟨ret_bool_iff (by simp [fitsB]), rfl⟩
 ·go_enter Tryd.func85, Tryd.ntmps85
  go_wp2
  all_goals
   go_ret
   exact ⟨ret_bool_iff (by simp [fitsB]; try omega), rfl⟩
set_option maxHeartbeats 400000 in
theorem limits_any (op : Int) (w : World) :
  Calls Tryd.prog 84 #[.int .i64 op] w fun e w' => e = .returned (.tuple #[.int .i64 (lowI op), .int .i64 (highI op)]) ∧ w = w' := by
 have hc := lowI_cases op
 go_enter Tryd.func84, Tryd.ntmps84
 go_wp2
 all_goals
  go_ret2
  exact ⟨ret_ints (by (try simp only [beq_iff_eq, beq_eq_false_iff_ne, ne_eq] at *); omega) (by (try simp only [beq_iff_eq, beq_eq_false_iff_ne, ne_eq] at *); omega), rfl⟩
set_option maxHeartbeats 400000 in
theorem fieldsOf_any (f : Int) (w : World) (h0 : 0 ≤ f) (h8 : f ≤ 8) :
  Calls Tryd.prog 83 #[.int .i64 f] w fun e w' => e = .returned (.agg #[.bool (hasD f), .bool (hasA f), .bool (hasB f), .bool (hasI f)]) ∧ Below w.heap.size w w' := by
 have hf : f = 0 ∨ f = 1 ∨ f = 2 ∨ f = 3 ∨ f = 4 ∨ f = 5 ∨ f = 6 ∨ f = 7 ∨ f = 8 := by omega
 rcases hf with rfl | rfl | rfl | rfl | rfl | rfl | rfl | rfl | rfl
 all_goals
  go_enter Tryd.func83, Tryd.ntmps83
  go_wp2
  refine bodyPost_ret (v := .agg #[.bool (hasD _), .bool (hasA _), .bool (hasB _), .bool (hasI _)]) (by simp [results, Tryd.results83, go_sem]; try decide) rfl ⟨rfl, ?_⟩
  exact (Below.refl _ _).alloc (Nat.le_refl _) _
set_option maxHeartbeats 400000 in
theorem has_any (f : Int) (w : World) :
  Calls Tryd.prog 45 #[.int .i64 f] w fun e w' => e = .returned (.tuple #[.bool (hasD f), .bool (hasA f), .bool (hasB f), .bool (hasI f)]) ∧ w = w' := by
 by_cases hf : f = 1 ∨ f = 2 ∨ f = 3 ∨ f = 4 ∨ f = 5 ∨ f = 6 ∨ f = 7
 ·rcases hf with rfl | rfl | rfl | rfl | rfl | rfl | rfl
  all_goals
   go_enter Tryd.func45, Tryd.ntmps45
   go_wp2
   refine bodyPost_ret (results_tmp4 rfl _ _ _) rfl ⟨rfl, rfl⟩
 ·have h1 : (f == 1) = false := by simp; omega
  have h2 : (f == 2) = false := by simp; omega
  have h3 : (f == 3) = false := by simp; omega
  have h4 : (f == 4) = false := by simp; omega
  have h5 : (f == 5) = false := by simp; omega
  have h6 : (f == 6) = false := by simp; omega
  have h7 : (f == 7) = false := by simp; omega
  have e1 : hasD f = false := by unfold hasD; simp; omega
  have e2 : hasA f = false := by unfold hasA; simp; omega
  have e3 : hasB f = false := by unfold hasB; simp; omega
  have e4 : hasI f = false := by unfold hasI; simp; omega
  rw [e1, e2, e3, e4]
  clear e1 e2 e3 e4
  go_enter Tryd.func45, Tryd.ntmps45
  go_wp2
  refine bodyPost_ret (results_tmp4 rfl _ _ _) rfl ⟨rfl, rfl⟩
theorem fitsB_reg (n : Int) (had : Bool) : fitsB n 0 15 had = (n == 0 || (had && decide (0 < n) && decide (n ≤ 15))) := by
 rw [Bool.eq_iff_iff]; cases had <;> simp [fitsB]; omega
set_option maxHeartbeats 400000 in
theorem reg_any (n : Int) (had : Bool) (w : World) :
  Calls Tryd.prog 46 #[.int .i64 n, .bool had] w fun e w' => e = .returned (.bool (fitsB n 0 15 had)) ∧ w = w' := by
 rw [fitsB_reg]
 by_cases h0 : n = 0
 ·subst h0
  go_enter Tryd.func46, Tryd.ntmps46
  go_wp2
  go_ret
  exact ⟨rfl, rfl⟩
 ·have h1 : (n == 0) = false := by simpa using h0
  have h2 : ¬ n = 0 := h0
  rcases had with _ | _
  ·go_enter Tryd.func46, Tryd.ntmps46
   go_wp2
   all_goals
    go_ret
    exact ⟨ret_bool (by simp [h1]), rfl⟩
  ·by_cases h3 : 0 < n
   ·go_enter Tryd.func46, Tryd.ntmps46
    go_wp2
    all_goals
     go_ret
     exact ⟨ret_bool (by simp [h1, h3]), rfl⟩
   ·have h4 : n < 0 := by omega
    go_enter Tryd.func46, Tryd.ntmps46
    go_wp2
    all_goals
     go_ret
     exact ⟨ret_bool (by simp; omega), rfl⟩
end Go.Proofs.YtcaibahniheohaaDoor.Words

/- Contract of package asm's instruction: an operation's fields, and the part that they make. -/
namespace Go.Proofs.YtcaibahniheohaaDoor.Words
set_option maxRecDepth 100000
open Go.RowKit Go.Shelf Go.Lib
set_option linter.unusedVariables false
set_option linter.unusedSimpArgs false
def Shapes (w : World) : Prop := 2 < w.heap.size ∧ ∀ k t, shapesZ[k]? = some t → w.cell? ⟨2, k, none⟩ = some (.string (txt t))
theorem Shapes.below {w w' : World} (h : Shapes w) (hb : Below w.heap.size w w') : Shapes w' :=
 ⟨Nat.lt_of_lt_of_le h.1 hb.size, fun k t ht => below_cell hb h.1 (h.2 k t ht)⟩
theorem regT_len (r : List Tok) : (regT r).2.length ≤ r.length := by
 cases r with
 | nil => simp [regT]
 | cons t ts =>
  have h : regT (t :: ts) = match regZ t.text with | some n => (some n, ts) | none => (none, t :: ts) := rfl
  rw [h]
  cases regZ t.text <;> simp
theorem immT_len (r : List Tok) : (immT r).2.length ≤ r.length := by
 cases r with
 | nil => simp [immT]
 | cons t ts =>
  have h : immT (t :: ts) = if t.kind = 2 then (some t.num, ts) else (none, t :: ts) := rfl
  rw [h]
  split <;> simp
theorem fieldT_len (c : Int) (x : PartZ) (r : List Tok) : (fieldT c x r).2.2.length ≤ r.length := by
 have h1 := regT_len r
 have h2 := immT_len r
 have h3 := signT_len [UInt8.ofNat c.toNat] r
 unfold fieldT
 split
 ·generalize regT r = Q at *; obtain ⟨o, ts⟩ := Q; cases o <;> exact h1
 split
 ·generalize regT r = Q at *; obtain ⟨o, ts⟩ := Q; cases o <;> exact h1
 split
 ·generalize regT r = Q at *; obtain ⟨o, ts⟩ := Q; cases o <;> exact h1
 split
 ·generalize immT r = Q at *; obtain ⟨o, ts⟩ := Q; cases o <;> exact h2
 split
 ·cases r with
  | nil => simp
  | cons t ts =>
   by_cases hk : t.kind = 1
   ·simp [hk]
   ·simp only [hk, if_false]
    generalize immT (t :: ts) = Q at *; obtain ⟨o, ts2⟩ := Q; cases o <;> exact h2
 ·exact h3
theorem fieldsT_len : ∀ (l : List UInt8) (x : PartZ) (r : List Tok), (fieldsT l x r).2.2.length ≤ r.length
 | [], x, r => Nat.le_refl _
 | c :: cs, x, r => by
  unfold fieldsT
  have h1 := fieldT_len c.toNat x r
  split
  ·exact Nat.le_trans (fieldsT_len cs _ _) h1
  ·exact h1
theorem ascii_at {l : List UInt8} {k : Nat} {c : UInt8} (h : l[k]? = some c) (hc : c.toNat < 128) : runeR (l.drop k) = c.toNat ∧ wideR (l.drop k) = 1 := by
 have hd : l.drop k = c :: l.drop (k + 1) := by
  obtain ⟨hk, rfl⟩ := List.getElem?_eq_some_iff.1 h
  exact List.drop_eq_getElem_cons hk
 unfold runeR wideR
 rw [hd, Lib.decodeL_ascii _ _ hc]
 exact ⟨rfl, rfl⟩
end Go.Proofs.YtcaibahniheohaaDoor.Words

/- Contract of package asm's label. -/
namespace Go.Proofs.YtcaibahniheohaaDoor.Words
set_option maxRecDepth 100000
open Go.RowKit Go.Shelf Go.Lib
set_option linter.unusedVariables false
set_option linter.unusedSimpArgs false
def labT (r : List Tok) : Bool × List Tok × List PartZ := match labelT r with | some (p, ts) => (true, ts, [p]) | none => (false, r, [])
theorem labT_two (t c : Tok) (ts : List Tok) : labT (t :: c :: ts) = if t.kind = 1 ∧ isS c [58] = true then (true, ts, [⟨1, t.at_, 0, t.text, ins0, tok0⟩]) else (false, t :: c :: ts, []) := by
 have h : labelT (t :: c :: ts) = if t.kind = 1 ∧ isS c [58] = true then some (⟨1, t.at_, 0, t.text, ins0, tok0⟩, ts) else none := rfl
 unfold labT
 rw [h]
 by_cases hh : t.kind = 1 ∧ isS c [58] = true
 ·rw [if_pos hh, if_pos hh]
 ·rw [if_neg hh, if_neg hh]
end Go.Proofs.YtcaibahniheohaaDoor.Words

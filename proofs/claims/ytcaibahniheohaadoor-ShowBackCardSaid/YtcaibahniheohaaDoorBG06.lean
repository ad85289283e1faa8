/- Several texts in one: LexStandMath, RefTarget. -/
import Derived.Test.YtcaibahniheohaaDoorBG00
import Derived.Test.YtcaibahniheohaaDoorBG05
import Derived.LoopTactic
import Derived.LoopN

/- Each token's text stands where it begins: plain mathematics over lexZ. -/
namespace Go.Proofs.YtcaibahniheohaaDoor.Words
set_option maxRecDepth 100000
set_option linter.unusedVariables false
open Go.Lib
def endAt (u : Option Tok) : Nat := match u with
 | some u => u.at_ + u.text.length
 | none => 0
def endOf (t : List Tok) : Nat → Nat
 | 0 => 0
 | i + 1 => endAt t[i]?
theorem endOf_succ (t : List Tok) (i : Nat) : endOf t (i + 1) = endAt t[i]? := rfl
structure Stands (l : List UInt8) (t : List Tok) (i : Nat) (k : Tok) : Prop where
 some_ : k.text ≠ []
 fits : k.at_ + k.text.length ≤ l.length
 text : (l.drop k.at_).take k.text.length = k.text
 kind : 1 ≤ k.kind ∧ k.kind ≤ 4
 num : k.kind ≠ 2 → k.num = 0
 from_ : endOf t i ≤ k.at_
 line : k.kind = 4 → ∃ u, 0 < i ∧ t[i - 1]? = some u ∧ u.kind ≠ 4
structure Good (l : List UInt8) (t : List Tok) (b : Nat) : Prop where
 each : ∀ i k, t[i]? = some k → Stands l t i k
 last : endOf t t.length ≤ b
theorem endOf_append {t : List Tok} (x : Tok) {i : Nat} (h : i ≤ t.length) : endOf (t ++ [x]) i = endOf t i := by
 cases i with
 | zero => rfl
 | succ i => rw [endOf_succ, endOf_succ, List.getElem?_append_left (by omega)]
theorem Good.add {l : List UInt8} {x : LexS} {kind num : Int} {p size : Nat} (h : Good l x.toks x.behind) (hb : x.behind ≤ p) (h0 : 0 < size) (hs : p + size ≤ l.length) (hk : 1 ≤ kind ∧ kind ≤ 4) (hn : kind ≠ 2 → num = 0) (hl : kind = 4 → lineB x.toks = true) :
  Good l (addZ l kind num p size x).toks (addZ l kind num p size x).behind := by
 have hlen : ((l.drop p).take size).length = size := by rw [List.length_take, List.length_drop]; omega
 have hap : ∀ i, i < x.toks.length → (x.toks ++ [(⟨kind, num, p, (l.drop p).take size⟩ : Tok)])[i]? = x.toks[i]? := fun i hi => List.getElem?_append_left hi
 constructor
 ·intro i k hi
  show Stands l (x.toks ++ [⟨kind, num, p, (l.drop p).take size⟩]) i k
  have hi' : (x.toks ++ [(⟨kind, num, p, (l.drop p).take size⟩ : Tok)])[i]? = some k := hi
  by_cases hlt : i < x.toks.length
  ·rw [hap i hlt] at hi'
   have g := h.each i k hi'
   refine ⟨g.some_, g.fits, g.text, g.kind, g.num, by rw [endOf_append _ (by omega)]; exact g.from_, fun hk4 => ?_⟩
   obtain ⟨u, h1, h2, h3⟩ := g.line hk4
   exact ⟨u, h1, by rw [hap (i - 1) (by omega)]; exact h2, h3⟩
  ·have hii : i = x.toks.length := by
    have := (List.getElem?_eq_some_iff.1 hi').1
    rw [List.length_append] at this
    simp at this
    omega
   subst hii
   rw [List.getElem?_append_right (Nat.le_refl _), Nat.sub_self] at hi'
   simp only [List.getElem?_cons_zero, Option.some.injEq] at hi'
   subst hi'
   refine ⟨?_, by rw [hlen]; exact hs, by rw [hlen], hk, hn, ?_, fun hk4 => ?_⟩
   ·intro e
    have := congrArg List.length e
    rw [hlen] at this
    simp at this
    omega
   ·rw [endOf_append _ (Nat.le_refl _)]
    exact Nat.le_trans h.last hb
   ·have hlb := hl hk4
    unfold lineB at hlb
    rw [List.getLast?_eq_getElem?] at hlb
    cases hu : x.toks[x.toks.length - 1]? with
    | none => rw [hu] at hlb; cases hlb
    | some u =>
     rw [hu] at hlb
     have hlt := (List.getElem?_eq_some_iff.1 hu).1
     exact ⟨u, by omega, by rw [hap _ hlt]; exact hu, of_decide_eq_true hlb⟩
 ·show endOf (x.toks ++ [⟨kind, num, p, (l.drop p).take size⟩]) (x.toks ++ [(⟨kind, num, p, (l.drop p).take size⟩ : Tok)]).length ≤ p + size
  rw [List.length_append]
  show endOf _ (x.toks.length + 1) ≤ _
  rw [endOf_succ, List.getElem?_append_right (Nat.le_refl _), Nat.sub_self]
  simp only [List.getElem?_cons_zero, endAt]
  rw [hlen]
  exact Nat.le_refl _
theorem firstR_name {r : Int} (h : firstR r = true) : nameR r = true := by unfold nameR; rw [h]; rfl
theorem nameZ_pos {l : List UInt8} (hne : l ≠ []) (h : firstR (runeR l) = true) : 0 < nameZ l := by
 unfold nameZ
 have hl : 0 < l.length := List.length_pos_iff.2 hne
 obtain ⟨f, hf⟩ : ∃ f, l.length = f + 1 := ⟨l.length - 1, by omega⟩
 rw [hf]
 unfold nameF
 rw [if_pos hl, List.drop_zero, if_pos (firstR_name h)]
 have h1 := wideR_pos l
 have h2 := wideR_le hne
 have := (nameF_le l f (0 + wideR l) (by omega)).1
 omega
theorem takeZ_good {l : List UInt8} {p : Nat} {x : LexS} (hp : p < l.length) (h : Good l x.toks x.behind) (hb : x.behind ≤ p) : Good l (takeZ l p x).2.toks (takeZ l p x).2.behind ∧ ((takeZ l p x).1 = 0 ∨ (takeZ l p x).1 = 5 ∨ (takeZ l p x).1 = 8) := by
 have hne := from_ne hp
 unfold takeZ
 split
 ·exact ⟨h, .inr (.inl rfl)⟩
 split
 ·refine ⟨?_, .inl rfl⟩
  unfold lineZ
  split
  ·rename_i hlb
   exact Good.add (x := { x with remark := false }) h hb (by omega) (by omega) (by omega) (fun _ => rfl) (fun _ => hlb)
  ·exact h
 split
 ·exact ⟨h, .inl rfl⟩
 split
 ·exact ⟨h, .inl rfl⟩
 split
 ·rename_i hf
  have h1 := nameZ_le (l.drop p)
  rw [List.length_drop] at h1
  exact ⟨h.add hb (nameZ_pos hne hf) (by omega) (by omega) (fun _ => rfl) (fun e => by cases e), .inl rfl⟩
 split
 ·exact ⟨h.add hb (by omega) (by omega) (by omega) (fun _ => rfl) (fun e => by cases e), .inl rfl⟩
 ·unfold numberZ
  split
  ·exact ⟨h, .inr (.inl rfl)⟩
  split
  ·exact ⟨h, .inr (.inr rfl)⟩
  ·have h1 := numZ_le (l.drop p)
   rw [List.length_drop] at h1
   exact ⟨h.add hb (by omega) (by omega) (by omega) (fun e => absurd rfl e) (fun e => by cases e), .inl rfl⟩
def StandR (l : List UInt8) : LexR → Prop
 | .toks t => ∀ i k, t[i]? = some k → Stands l t i k
 | .bad a e => a < l.length ∧ (e = 5 ∨ e = 8)
theorem lexF_good {l : List UInt8} : ∀ (f p : Nat) (x : LexS), Good l x.toks x.behind → StandR l (lexF l f p x)
 | 0, p, x, h => h.each
 | f + 1, p, x, h => by
  unfold lexF
  split
  ·rename_i hp
   split
   ·exact lexF_good f _ x h
   ·rename_i hb
    have g := takeZ_good hp h (by omega)
    split
    ·exact lexF_good f _ _ g.1
    ·rename_i he
     exact ⟨hp, by rcases g.2 with g | g | g <;> first | exact absurd g he | exact .inl g | exact .inr g⟩
  ·exact h.each
theorem lexZ_good {l : List UInt8} (h : l.length ≤ 20000) : StandR l (lexZ l) := by
 unfold lexZ
 rw [if_neg (by omega)]
 exact lexF_good _ _ _ ⟨fun i k hi => by simp at hi, Nat.le_refl _⟩
end Go.Proofs.YtcaibahniheohaaDoor.Words

/- Contracts of the document's own Target, Targets and RightProgram. -/
namespace Go.Proofs.YtcaibahniheohaaDoor.Words
set_option maxRecDepth 100000
open Go.RowKit
set_option linter.unusedVariables false
theorem targetZ_no {n k : Nat} {i : Ins} (h : isJump i = false ∨ i.imm < -8192 ∨ 8191 < i.imm ∨ (k : Int) + i.imm < 0 ∨ (n : Int) ≤ k + i.imm) : targetZ n k i = -1 := by unfold targetZ; rw [if_pos h]
theorem targetZ_yes {n k : Nat} {i : Ins} (h1 : isJump i = true) (h2 : -8192 ≤ i.imm) (h3 : i.imm ≤ 8191) (h4 : 0 ≤ (k : Int) + i.imm) (h5 : (k : Int) + i.imm < n) : targetZ n k i = k + i.imm := by
 unfold targetZ; rw [if_neg]; simp [h1]; omega
set_option maxHeartbeats 2000000 in
theorem refTarget_any (b off c k : Nat) (sz : Int) (vd : Value) (l : List Ins) (i : Ins) (w : World) (hr : Row w w.heap.size 5 (.slice (some ⟨b, off, none⟩) l.length c) l.length (codeCells l)) (hk : l[k]? = some i) (hsmall : l.length ≤ 4294967296) :
  Calls Tryd.prog 47 #[.agg #[.slice (some ⟨b, off, none⟩) l.length c, .int .i64 sz, vd], .int .i64 k] w fun e w' => e = .returned (.int .i64 (targetZ l.length k i)) ∧ Below w.heap.size w w' := by
 have hlt : k < l.length := by rw [List.getElem?_eq_some_iff] at hk; exact hk.1
 obtain ⟨hcl, hcm⟩ := hr.cap
 obtain ⟨b', off', e0, hb, _⟩ := hr.at_ (by omega)
 injection e0 with e0
 injection e0 with e1 e2
 subst e1 e2
 obtain ⟨c0, c1, c2, c3, c4⟩ := hr.ins hk
 have T1 := Lib.hid (fun h => targetZ_no (n := l.length) (k := k) (i := i) h)
 have T2 := Lib.hid (fun h1 h2 h3 h4 h5 => targetZ_yes (n := l.length) (k := k) (i := i) h1 h2 h3 h4 h5)
 have J := Lib.hid (isJump_form i)
 clear hr hk
 generalize l.length = n at *
 have hk0 : (0 : Int) ≤ k := by omega
 have hk1 : (k : Int) < n := by omega
 have hF := formZ_range i.op
 have HB := Lib.hid (fun o1 o2 => ((Below.refl w.heap.size w).alloc (Nat.le_refl _) o1).alloc (by simp) o2)
 go_enter Tryd.func47, Tryd.ntmps47
 go_wp2_with fail
 refine (refForm_any _ _).mono ?_; rintro e w1 ⟨rfl, rfl⟩
 by_cases hj : formZ i.op = 6 ∨ formZ i.op = 7
 ·have HJ := Lib.hid (J.out.2 hj)
  have hor := Lib.hid hj
  by_cases h1 : i.imm < -8192
  ·have t := Lib.hid (T1.out (.inr (.inl h1)))
   rcases hj with hj | hj
   all_goals
    rw [hj]
    go_wp2_with fail
    go_ret
    exact ⟨ret_int t.out.symm, HB.out _ _⟩
  by_cases h2 : 8191 < i.imm
  ·have t := Lib.hid (T1.out (.inr (.inr (.inl h2))))
   rcases hj with hj | hj
   all_goals
    rw [hj]
    go_wp2_with fail
    go_ret
    exact ⟨ret_int t.out.symm, HB.out _ _⟩
  by_cases h3 : (k : Int) + i.imm < 0
  ·have t := Lib.hid (T1.out (.inr (.inr (.inr (.inl h3)))))
   rcases hj with hj | hj
   all_goals
    rw [hj]
    go_wp2_with fail
    go_ret
    exact ⟨ret_int t.out.symm, HB.out _ _⟩
  by_cases h4 : (n : Int) ≤ k + i.imm
  ·have t := Lib.hid (T1.out (.inr (.inr (.inr (.inr h4)))))
   rcases hj with hj | hj
   all_goals
    rw [hj]
    go_wp2_with fail
    go_ret
    exact ⟨ret_int t.out.symm, HB.out _ _⟩
  ·have t := Lib.hid (T2.out HJ.out (by omega) (by omega) (by omega) (by omega))
   rcases hj with hj | hj
   all_goals
    rw [hj]
    go_wp2_with fail
    go_ret
    exact ⟨ret_int t.out.symm, HB.out _ _⟩
 ·have t := Lib.hid (T1.out (.inl (by
   have := J.out
   cases hh : isJump i
   ·rfl
   ·exact absurd (this.1 hh) hj)))
  have k1 : (formZ i.op == 6) = false := by simp; omega
  have k2 : (formZ i.op == 7) = false := by simp; omega
  have k3 : (formZ i.op != 6) = true := by simp; omega
  have k4 : (formZ i.op != 7) = true := by simp; omega
  clear hj
  go_wp2_with fail
  go_ret
  exact ⟨ret_int t.out.symm, HB.out _ _⟩
end Go.Proofs.YtcaibahniheohaaDoor.Words

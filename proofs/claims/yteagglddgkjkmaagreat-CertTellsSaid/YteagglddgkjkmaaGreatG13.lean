/- Several texts in one: CertMostOf, RefEmit, RefWith, SplAlive0, RefCert4, CertMost. -/
import Derived.Test.YteagglddgkjkmaaGreatG10
import Derived.Test.YteagglddgkjkmaaGreatG12
import Derived.Test.YteagglddgkjkmaaGreatG06
import Derived.Maps.OwnSet
import Derived.Maps.OwnOps
import Derived.WalkKit
import Derived.DataShut
import Derived.LoopN

/- Contract of package cert's mostOf: a map of the call's own from Offs to how many there are. -/
namespace Go.Proofs.YteagglddgkjkmaaGreat.Words
set_option maxRecDepth 100000
open Go.RowKit
open Go.Maps (Keyed)
set_option linter.unusedVariables false
set_option linter.unusedSimpArgs false

theorem maxI1 (a b : Nat) : max (a : Int) ((b : Int) + 1) = ((max a (b + 1) : Nat) : Int) := by omega
theorem maxI2 (a b : Nat) : max (a : Int) (b : Int) = ((max a b : Nat) : Int) := by omega
def offOk (o : Int) : Prop := -9223372036854775808 ≤ o ∧ o ≤ 9223372036854775807
theorem keyI : Keyed Tryz.prog 3 := Maps.int_keyed Tryz.underlying3
theorem wfI {o : Int} (h : offOk o) : (Lit.int .i64 o).wf = true := by rw [Lit.wf_int_iff]; exact h
theorem zeroI (w : World) : (zeroValue 3).run Tryz.prog w = .ok (.int .i64 0) w := by kernel_rfl
/-- Block m is the map that f tells. -/
def CntM (w : World) (m n : Nat) (f : Int → Nat) : Prop :=
  ∃ D : DataW Unit, w.ownsMap Tryz.prog 3 (plainElem Tryz.prog 3) m n D ∧ ∀ o : Int, D.atKey (.int .i64 o) (.lit (.int .i64 0)) = .lit (.int .i64 (f o : Int))
theorem cntM_made (w : World) : CntM (w.alloc (.map #[] 0)) w.heap.size 0 (fun _ => 0) := ⟨.map [], World.ownsMap_made w _ _ _, fun _ => rfl⟩
theorem CntM.look {w : World} {m n : Nat} {f : Int → Nat} (h : CntM w m n f) {o : Int} (ho : offOk o) : (Instr.lookup 79 (.map (some m)) (.int .i64 o) false).run Tryz.prog w = .ok (.int .i64 (f o : Int)) w := by
  obtain ⟨D, hD, hf⟩ := h
  obtain ⟨c, hrun, hat, _⟩ := hD.lookup_int keyI Tryz.underlying79 Tryz.underlying3 (zeroI w) (Maps.keyOf_int_mk Tryz.underlying3 (wfI ho))
  rw [hf o] at hat
  injection hat with hat
  injection hat with _ hat
  rw [hrun, hat]
theorem CntM.alloc {w : World} {m n : Nat} {f : Int → Nat} (h : CntM w m n f) (o : Obj) : CntM (w.alloc o) m n f := by
  obtain ⟨D, hD, hf⟩ := h
  exact ⟨D, hD.alloc o, hf⟩
theorem cntM_put {w' : World} {m n k : Nat} {f g : Int → Nat} {D : DataW Unit} (hm : Maps.IsMap D) (hf : ∀ o : Int, D.atKey (.int .i64 o) (.lit (.int .i64 0)) = .lit (.int .i64 (f o : Int))) {o : Int} (h1 : g o = k) (h2 : ∀ u, u ≠ o → g u = f u)
    (ho : w'.ownsMap Tryz.prog 3 (plainElem Tryz.prog 3) m n (D.put (.int .i64 o) (.lit (.int .i64 (k : Int))))) : CntM w' m n g := by
  refine ⟨_, ho, fun u => ?_⟩
  by_cases hu : u = o
  · subst hu
    rw [h1]
    exact Maps.atKey_put_same hm (show WideAt.IsKeyLit (.int .i64 u) from trivial) _ _
  · rw [h2 u hu]
    have hne : (Lit.int .i64 u) ≠ .int .i64 o := fun e => hu (by injection e)
    exact (Maps.atKey_put_other hne _ _).trans (hf u)
theorem offs_self {l : List Cel} {j : Nat} {x : Cel} (hx : l[j]? = some x) : offs (l.take (j + 1)) x.off = offs (l.take j) x.off + 1 := by rw [offs_step hx, if_pos rfl]
theorem offs_else {l : List Cel} {j : Nat} {x : Cel} (hx : l[j]? = some x) (u : Int) (hu : u ≠ x.off) : offs (l.take (j + 1)) u = offs (l.take j) u := by rw [offs_step hx, if_neg (fun e => hu e.symm)]; rfl
theorem runM_bound {l : List Cel} : ∀ j : Nat, runM l j ≤ l.length
  | 0 => Nat.zero_le _
  | j + 1 => by
    cases hx : l[j]? with
    | none =>
      have : runM l (j + 1) = runM l j := by
        show (match l[j]? with | some x => max (runM l j) (offs (l.take (j + 1)) x.off) | none => runM l j) = _
        rw [hx]
      rw [this]; exact runM_bound j
    | some x =>
      rw [runM_step hx]
      exact Nat.max_le.2 ⟨runM_bound j, Nat.le_trans (offs_le _ _) (by rw [List.length_take]; omega)⟩

theorem mo_step {w wr w1 : World} {l : List Cel} {j cn : Nat} {x : Cel} {D : DataW Unit} (hD : (wr.alloc (.cells (celCells x).toArray 49)).ownsMap Tryz.prog 3 (plainElem Tryz.prog 3) w.heap.size j D)
    (hf : ∀ o : Int, D.atKey (.int .i64 o) (.lit (.int .i64 0)) = .lit (.int .i64 ((offs (l.take j) o : Nat) : Int))) (hx : l[j]? = some x) (hcn : cn = offs (l.take j) x.off) (ho : offOk x.off) (hB : Below w.heap.size w wr) (hlt : w.heap.size < wr.heap.size)
    (hown1 : w1.ownsMap Tryz.prog 3 (plainElem Tryz.prog 3) w.heap.size (j + 1) (D.put (.int .i64 x.off) (.lit (.int .i64 ((cn : Int) + 1))))) (hg : (wr.alloc (.cells (celCells x).toArray 49)).grownBy w1 (some w.heap.size)) :
    Hid (CntM w1 w.heap.size (j + 1) (fun o => offs (l.take (j + 1)) o)) ∧ Hid (Below w.heap.size w w1) ∧ w1.cell? ⟨wr.heap.size, 8, none⟩ = some (.int .i64 x.off) ∧
      (Instr.lookup 79 (.map (some w.heap.size)) (.int .i64 x.off) false).run Tryz.prog w1 = .ok (.int .i64 ((cn : Int) + 1)) w1 := by
  have HC1 : CntM w1 w.heap.size (j + 1) (fun o => offs (l.take (j + 1)) o) := cntM_put (k := cn + 1) hD.isMap hf (by show offs _ _ = _; rw [offs_self hx, ← hcn]) (offs_else hx) (by simpa using hown1)
  have HB2 := hB.alloc hB.size (.cells (celCells x).toArray 49)
  refine ⟨HC1, Below.grown HB2 hg HB2.size (fun q hq => by injection hq with hq; omega), ((Box.new wr (celCells x) 49).grown hg (fun e => by injection e with e; omega)).cell (k := 8) rfl, ?_⟩
  have := HC1.look ho
  rw [show offs (l.take (j + 1)) x.off = cn + 1 by rw [offs_self hx, ← hcn]] at this
  exact this

set_option maxHeartbeats 2000000 in
theorem mostOf_any (A : Option Addr) (c n : Nat) (l : List Cel) (w : World) (e1 : l.length = n) (h1 : Row w w.heap.size 9 (.slice A n c) n (flat celCells l)) (hoff : ∀ x ∈ l, offOk x.off) :
    Calls Tryz.prog 33 #[.slice A n c] w fun e w' => e = .returned (.int .i64 (mostZ l : Int)) ∧ Below w.heap.size w w' := by
  have u1 := h1.cap
  have H1 := Lib.hid h1
  have HA := Lib.hid (fun j (h : j < n) => at_someG (l := l) (j := j) (by omega))
  have HST := Lib.hid (fun (j : Nat) (x : Cel) (hx : l[j]? = some x) => runM_step hx)
  have HSO := Lib.hid (fun (j : Nat) (x : Cel) (hx : l[j]? = some x) => offs_self hx)
  have HSE := Lib.hid (fun (j : Nat) (x : Cel) (hx : l[j]? = some x) => offs_else hx)
  have HOF := Lib.hid (fun (j : Nat) (x : Cel) (hx : l[j]? = some x) => hoff x (List.mem_of_getElem? hx))
  have HLE := Lib.hid (fun (k : Nat) (o : Int) => (show offs (l.take k) o ≤ k from Nat.le_trans (offs_le _ _) (by rw [List.length_take]; omega)))
  have HLM := Lib.hid (fun (k : Nat) => (show runM l k ≤ n from Nat.le_trans (runM_bound k) (by omega)))
  have HE := Lib.hid (runM_all e1.symm)
  have hmm := @run_makeMap Tryz.prog
  have HE0 := Lib.hid (show (fun o => offs (l.take 0) o) = (fun _ => 0) from rfl)
  clear h1 e1 hoff
  go_enter Tryz.func33, Tryz.ntmps33
  go_wp2_with fail
  go_loopw [4, 10] (fun m i wr => ∃ j : Nat, j ≤ n ∧ m = .int .i64 (runM l j : Int) ∧ i = .int .i64 j ∧ CntM wr w.heap.size j (fun o => offs (l.take j) o) ∧ Below w.heap.size w wr) (fun _ i _ => n - (intOf i).toNat)
  case atStart => exact ⟨0, Nat.zero_le _, rfl, rfl, by rw [HE0.out]; exact cntM_made w, (Below.refl _ _).alloc (Nat.le_refl _) _⟩
  case round =>
    obtain ⟨j, hj, rfl, rfl, hC, hB⟩ := hrel
    obtain ⟨bst, hbst⟩ : ∃ bst, bst = runM l j := ⟨_, rfl⟩
    have hbl := HLM.out j
    rw [← hbst] at hbl ⊢
    have HBS := Lib.hid hbst
    have HB := Lib.hid hB
    have HC := Lib.hid hC
    clear hbst hC
    by_cases hlt : j < n
    · obtain ⟨x, hx⟩ := HA.out j hlt
      have hrow := H1.out.below hB
      obtain ⟨b, off, rfl, hb, _⟩ := hrow.at_ (by omega)
      obtain ⟨d0, d1, d2, d3, d4, d5, d6, d7, d8⟩ := hrow.cel hx
      have HS := Lib.hid (HST.out j x hx)
      have HSo := Lib.hid (HSO.out j x hx)
      have HSe := Lib.hid (HSE.out j x hx)
      have ho := HOF.out j x hx
      have hcl := HLE.out j x.off
      obtain ⟨cn, hcn⟩ : ∃ cn, cn = offs (l.take j) x.off := ⟨_, rfl⟩
      have HCN := Lib.hid hcn
      rw [← hcn] at hcl
      have k0 : (0 : Int) ≤ j := by omega
      have k1 : (j : Int) < n := by omega
      have z1 : b < wr.heap.size := by have := hB.size; omega
      have g2 : (cn : Int) ≤ j := by omega
      have hlk : (Instr.lookup 79 (.map (some w.heap.size)) (.int .i64 x.off) false).run Tryz.prog (wr.alloc (.cells #[.int .i64 x.kind, .int .i64 x.ins.op, .int .i64 x.ins.d, .int .i64 x.ins.a, .int .i64 x.ins.b, .int .i64 x.ins.imm, .int .i64 x.reg, .int .i64 x.pc, .int .i64 x.off] 49)) = .ok (.int .i64 (cn : Int)) (wr.alloc (.cells #[.int .i64 x.kind, .int .i64 x.ins.op, .int .i64 x.ins.d, .int .i64 x.ins.a, .int .i64 x.ins.b, .int .i64 x.ins.imm, .int .i64 x.reg, .int .i64 x.pc, .int .i64 x.off] 49)) := by
        have := (HC.out.alloc (.cells #[.int .i64 x.kind, .int .i64 x.ins.op, .int .i64 x.ins.d, .int .i64 x.ins.a, .int .i64 x.ins.b, .int .i64 x.ins.imm, .int .i64 x.reg, .int .i64 x.pc, .int .i64 x.off] 49)).look ho
        rw [← hcn] at this
        exact this
      obtain ⟨D, hD, hf⟩ := HC.out.alloc (.cells (celCells x).toArray 49)
      have HD := Lib.hid hD
      have HF := Lib.hid hf
      have HIM := Lib.hid hD.isMap
      have HKEY := Lib.hid (Maps.keyOf_int_mk (P := Tryz.prog) Tryz.underlying3 (wfI ho))
      have HVAL := Lib.hid (plainElem_int (H := Unit) (P := Tryz.prog) Tryz.underlying3 (a := (cn : Int) + 1) (wfI ⟨by omega, by omega⟩))
      have HB2 := Lib.hid (hB.alloc hB.size (.cells (celCells x).toArray 49))
      have HO := Lib.hid ho
      have hml : w.heap.size < wr.heap.size := by obtain ⟨D', q, _⟩ := HC.out; exact q.lt
      have HN := Lib.hid (fun (w1 : World) hown1 hg => mo_step (w1 := w1) hD hf hx HCN.out ho hB hml hown1 hg)
      clear hx hrow hcn hD hf ho hbl hml hB
      have hres := Lib.hid (show runM l (j + 1) = max bst (cn + 1) by rw [HS.out, ← HBS.out, HSo.out, ← HCN.out])
      go_wp2_with (first
        | (at_mapUpdate; refine wpList_mapUpdate_own _ rfl _ _ _ 79 rfl 3 3 keyI Tryz.underlying79 _ w.heap.size j D rfl HD.out (by unfold maxLen; omega) _ _ (.int .i64 x.off) rfl rfl HKEY.out (.lit (.int .i64 ((cn : Int) + 1))) [] HVAL.out ?_; intro w1 hown1 hgrow1; obtain ⟨HC1, HB1, hx8, hlk1⟩ := HN.out w1 hown1 hgrow1; clear hown1 hgrow1))
      go_roundw
      case rel => exact ⟨j + 1, by omega, by rw [hres.out, maxI1], by go_num, HC1.out, HB1.out⟩
      case measure => simp [intOf]; omega
    · have hjn : j = n := by omega
      have hres := Lib.hid (show mostZ l = bst by rw [HBS.out, hjn, HE.out])
      clear hjn
      go_wp2_with fail
      go_ret
      exact ⟨by rw [hres.out]; rfl, HB.out⟩
end Go.Proofs.YteagglddgkjkmaaGreat.Words

/- Contract of the document's own Emit: the cells that an instruction has on either side. -/
namespace Go.Proofs.YteagglddgkjkmaaGreat.Words
set_option maxRecDepth 100000
open Go.RowKit
set_option linter.unusedVariables false
set_option linter.unusedSimpArgs false

/-- Both makers, and the boxes of what was handed in, all behind world w. -/
structure Tw (i : Ins) (o : List Int) (pc off : Int) (w : World) (ba be : Nat) (Z : World) (va ve : Value) (la le : List Cel) : Prop where
  xb : Box Z w.heap.size (insV i)
  ob : Box Z (w.heap.size + 1) (oV o)
  ma : Mk ba (w.heap.size + 4) pc off Z va la
  me : Mk be (w.heap.size + 4) pc off Z ve le
  ne : ∀ g, va.ownBlock = some g → ve.ownBlock ≠ some g
  kp : Below w.heap.size w Z
  ha : ba = w.heap.size + 2
  he : be = w.heap.size + 3
section
variable {i : Ins} {o : List Int} {pc off : Int} {w Z Y : World} {ba be : Nat} {va ve : Value} {la le l : List Cel}
theorem Tw.below (h : Tw i o pc off w ba be Z va ve la le) (hb : Below Z.heap.size Z Y) : Tw i o pc off w ba be Y va ve la le :=
  ⟨h.xb.below hb h.xb.lt, h.ob.below hb h.ob.lt, h.ma.below hb, h.me.below hb, h.ne, h.kp.trans (hb.mono h.kp.size), h.ha, h.he⟩
theorem Tw.a (h : Tw i o pc off w ba be Z va ve la le) (m : MkOut ba (w.heap.size + 4) pc off va l Z Y) : ∃ v', Tw i o pc off w ba be Y v' ve l le := by
  obtain ⟨v', m1, m2, m3⟩ := m
  have e1 := h.ha
  have e2 := h.he
  have hown : ∀ g, va.ownBlock = some g → w.heap.size + 4 ≤ g := fun g e => (h.ma.own.lt g e).1
  have hne : ∀ g, ve.ownBlock = some g → ¬ (g = ba ∨ va.ownBlock = some g) := by
    rintro g hg (e | e)
    · have := (h.me.own.lt g hg).1; omega
    · exact h.ne g e hg
  refine ⟨v', h.xb.keepS m2 ?_, h.ob.keepS m2 ?_, m1, h.me.keepS m2 ?_ hne, ?_, ?_, h.ha, h.he⟩
  · rintro (e | e)
    · omega
    · have := hown _ e; omega
  · rintro (e | e)
    · omega
    · have := hown _ e; omega
  · rintro (e | e)
    · omega
    · have := hown _ e; omega
  · intro g hg hg2
    rcases m3 g hg with e | e
    · exact h.ne g e hg2
    · have := (h.me.own.lt g hg2).2; omega
  · refine h.kp.trans (m2.below h.kp.size ?_)
    rintro k (e | e)
    · omega
    · have := hown _ e; omega
theorem Tw.e (h : Tw i o pc off w ba be Z va ve la le) (m : MkOut be (w.heap.size + 4) pc off ve l Z Y) : ∃ v', Tw i o pc off w ba be Y va v' la l := by
  obtain ⟨v', m1, m2, m3⟩ := m
  have e1 := h.ha
  have e2 := h.he
  have hown : ∀ g, ve.ownBlock = some g → w.heap.size + 4 ≤ g := fun g e => (h.me.own.lt g e).1
  have hne : ∀ g, va.ownBlock = some g → ¬ (g = be ∨ ve.ownBlock = some g) := by
    rintro g hg (e | e)
    · have := (h.ma.own.lt g hg).1; omega
    · exact h.ne g hg e
  refine ⟨v', h.xb.keepS m2 ?_, h.ob.keepS m2 ?_, h.ma.keepS m2 ?_ hne, m1, ?_, ?_, h.ha, h.he⟩
  · rintro (e | e)
    · omega
    · have := hown _ e; omega
  · rintro (e | e)
    · omega
    · have := hown _ e; omega
  · rintro (e | e)
    · omega
    · have := hown _ e; omega
  · intro g hg hg2
    rcases m3 g hg2 with e | e
    · exact h.ne g hg e
    · have := (h.ma.own.lt g hg).2; omega
  · refine h.kp.trans (m2.below h.kp.size ?_)
    rintro k (e | e)
    · omega
    · have := hown _ e; omega
theorem sent_one (z : List Int) (r : Int) : sentL z [r] = if atO z r = 1 then [r] else [] := by
  unfold sentL putS
  by_cases h : atO z r = 1 <;> simp [h]
/-- What Emit leaves. -/
def EmitOut (w : World) (i : Ins) (z : List Int) (pc off : Int) (e : Ending) (w' : World) : Prop :=
  ∃ va ve, e = .returned (.tuple #[va, ve]) ∧ Row w' w'.heap.size 9 va (emitA z i pc off).length (flat celCells (emitA z i pc off)) ∧ Row w' w'.heap.size 9 ve (emitE z i pc off).length (flat celCells (emitE z i pc off)) ∧ NewV w.heap.size va ∧ NewV w.heap.size ve ∧ Below w.heap.size w w'
theorem Tw.out {z : List Int} (h : Tw i o pc off w ba be Z va ve la le) (hb : Below Z.heap.size Z Y) (hA : emitA z i pc off = la) (hE : emitE z i pc off = le) : EmitOut w i z pc off (.returned (.tuple #[va, ve])) Y := by
  have h2 := h.below hb
  refine ⟨va, ve, rfl, by rw [hA]; exact Row.of_own h2.ma.own, by rw [hE]; exact Row.of_own h2.me.own, ?_, ?_, h2.kp⟩
  · intro a n c hv
    have := NewV.own h2.ma.own a n c hv; omega
  · intro a n c hv
    have := NewV.own h2.me.own a n c hv; omega
end

set_option maxHeartbeats 8000000 in
theorem refEmit_any (i : Ins) (o : List Int) (pc off : Int) (w : World) (ho : o.length = 16) :
    Calls Tryz.prog 48 #[.agg #[.int .i64 i.op, .int .i64 i.d, .int .i64 i.a, .int .i64 i.b, .int .i64 i.imm], .agg (oV o).toArray, .int .i64 pc, .int .i64 off] w (EmitOut w i (zeroed o) pc off) := by
  obtain ⟨W1, hW1⟩ : ∃ W1, W1 = w.alloc (.cells (insV i).toArray 44) := ⟨_, rfl⟩
  obtain ⟨W2, hW2⟩ : ∃ W2, W2 = W1.alloc (.cells (oV o).toArray 30) := ⟨_, rfl⟩
  obtain ⟨W3, hW3⟩ : ∃ W3, W3 = W2.alloc (.cells #[.int .i64 pc, .int .i64 off, .slice none 0 0] 94) := ⟨_, rfl⟩
  obtain ⟨W4, hW4⟩ : ∃ W4, W4 = W3.alloc (.cells #[.int .i64 pc, .int .i64 off, .slice none 0 0] 94) := ⟨_, rfl⟩
  have hz1 : W1.heap.size = w.heap.size + 1 := by rw [hW1]; simp
  have hz2 : W2.heap.size = w.heap.size + 2 := by rw [hW2]; simp [hz1]
  have hz3 : W3.heap.size = w.heap.size + 3 := by rw [hW3]; simp [hz2]
  have hz4 : W4.heap.size = w.heap.size + 4 := by rw [hW4]; simp [hz3]
  have HT0 : Hid (Tw i o pc off w (w.heap.size + 1 + 1) (w.heap.size + 1 + 1 + 1) W4 (.slice none 0 0) (.slice none 0 0) [] []) := by
    refine ⟨?_, ?_, ⟨?_, World.ownsRow_nil _ _ _ _, by omega, by omega⟩, ⟨?_, World.ownsRow_nil _ _ _ _, by omega, by omega⟩, (fun g h => by cases h), ?_, rfl, rfl⟩
    · rw [hW4, hW3, hW2, hW1]; exact (((Box.new w (insV i) _).alloc _).alloc _).alloc _
    · rw [hW4, hW3, hW2, ← hz1]; exact ((Box.new W1 (oV o) _).alloc _).alloc _
    · rw [hW4, hW3, show w.heap.size + 1 + 1 = W2.heap.size from hz2.symm]; exact (Box.new W2 [.int .i64 pc, .int .i64 off, .slice none 0 0] _).alloc _
    · rw [hW4, show w.heap.size + 1 + 1 + 1 = W3.heap.size from hz3.symm]; exact Box.new W3 [.int .i64 pc, .int .i64 off, .slice none 0 0] _
    · rw [hW4, hW3, hW2, hW1]; exact ((((Below.refl w.heap.size w).alloc (Nat.le_refl _) _).alloc (by simp) _).alloc (by simp; omega) _).alloc (by simp; omega) _
  have HOL := Lib.hid ho
  have HZA := Lib.hid (zeroed_any ho i)
  have HZD := Lib.hid (fun (r : Int) (h0 : 0 ≤ r) (h1 : r ≤ 15) => zeroed_on ho h0 h1)
  have HZO := Lib.hid (fun (r : Int) (h0 : 0 ≤ r) (h1 : r ≤ 15) => zeroed_at ho h0 h1)
  have HZE : Hid (sentL (zeroed o) (readsZ i) = sentL o (readsZ i)) := zeroed_sent ho (fun r hr => by have := reads_mem hr; omega)
  have HZS := Lib.hid (fun (h : rightB i = true) => zeroed_side ho h)
  have HRL := Lib.hid (reads_len i)
  have HSL : Hid ((sentL o (readsZ i)).length ≤ 8) := by have h1 := sent_len o (readsZ i); have := HRL.out; show _ ≤ _; omega
  clear ho hz1 hz2 hz3 hz4
  go_enter Tryz.func48, Tryz.ntmps48
  go_upto_region 3 with (fail)
  change Code.wp _ _ _ _ ((((w.alloc (.cells (insV i).toArray 44)).alloc (.cells (oV o).toArray 30)).alloc (.cells #[.int .i64 pc, .int .i64 off, .slice none 0 0] 94)).alloc (.cells #[.int .i64 pc, .int .i64 off, .slice none 0 0] 94))
  rw [← hW1, ← hW2, ← hW3, ← hW4]
  clear hW1 hW2 hW3 hW4
  obtain ⟨ba, hba⟩ : ∃ ba, ba = w.heap.size + 1 + 1 := ⟨_, rfl⟩
  obtain ⟨be, hbe⟩ : ∃ be, be = w.heap.size + 1 + 1 + 1 := ⟨_, rfl⟩
  rw [← hbe, ← hba] at HT0 ⊢
  clear hba hbe
  go_wp2_with (first
    | (refine wpList_load_box rfl 44 (.tmp 4) rfl w.heap.size 0 rfl (insV i) (insV i) HT0.out.xb whole_at _ Tryz.underlying44 rfl 5 size_ins5 rfl ?_)
    | (refine wpList_load_box rfl 30 (.tmp 5) rfl (w.heap.size + 1) 0 rfl (oV o) (oV o) HT0.out.ob whole_at _ Tryz.underlying30 rfl 16 (by kernel_rfl) ((oV_len o).trans HOL.out) ?_))
  refine (rightIns_any i _).mono ?_; rintro e w5 ⟨rfl, hb⟩
  have HT5 := Lib.hid (HT0.out.below hb)
  clear hb
  cases hr : rightB i
  · try dsimp only
    go_wp2_with fail
    exact bodyPost_ret (v := .tuple #[.slice none 0 0, .slice none 0 0]) (by simp [results, Tryz.results48, go_sem]) rfl (HT5.out.out (Below.refl _ _) (emit_no hr).1 (emit_no hr).2)
  have HR := Lib.hid hr
  have HRR := Lib.hid (right_range hr)
  clear hr
  try dsimp only
  have co : w5.cell? ⟨w.heap.size, 0, none⟩ = some (.int .i64 i.op) := HT5.out.xb.cell (k := 0) rfl
  go_wp2_with fail
  refine (refForm_any _ _).mono ?_; rintro e w6 ⟨rfl, rfl⟩
  have hF := formZ_range i.op
  try dsimp only
  by_cases h4 : formZ i.op = 4
  · have HF := Lib.hid h4
    rw [h4]
    clear h4 hF
    have cd : w5.cell? ⟨w.heap.size, 1, none⟩ = some (.int .i64 i.d) := HT5.out.xb.cell (k := 1) rfl
    have HD := Lib.hid (HZD.out i.d HRR.out.2.1.1 HRR.out.2.1.2)
    go_wp2_with (first
      | (refine wpList_load_box rfl 44 (.tmp 4) rfl w.heap.size 0 rfl (insV i) (insV i) HT5.out.xb whole_at _ Tryz.underlying44 rfl 5 size_ins5 rfl ?_)
      | (refine wpList_load_box rfl 30 (.tmp 5) rfl (w.heap.size + 1) 0 rfl (oV o) (oV o) HT5.out.ob whole_at _ Tryz.underlying30 rfl 16 (by kernel_rfl) ((oV_len o).trans HOL.out) ?_))
    refine (refOnE_any o i.d _ HOL.out HRR.out.2.1.2).mono ?_; rintro e w7 ⟨rfl, hb⟩
    have HT7 := Lib.hid (HT5.out.below hb)
    clear hb cd co
    cases hq : onEB o i.d
    · try dsimp only
      go_wp2_with (first
        | (refine wpList_load_box rfl 44 (.tmp 4) rfl w.heap.size 0 rfl (insV i) (insV i) HT7.out.xb whole_at _ Tryz.underlying44 rfl 5 size_ins5 rfl ?_)
        | (refine wpList_load_box rfl 30 (.tmp 5) rfl (w.heap.size + 1) 0 rfl (oV o) (oV o) HT7.out.ob whole_at _ Tryz.underlying30 rfl 16 (by kernel_rfl) ((oV_len o).trans HOL.out) ?_))
      refine (mkIns_any 2 i _ HT7.out.ma (by simp)).mono ?_; rintro e w8 ⟨rfl, hM⟩
      obtain ⟨v8, hT⟩ := HT7.out.a hM
      have HT8 := Lib.hid hT
      clear hM hT
      have cA : w8.cell? ⟨ba, 2, none⟩ = some v8 := HT8.out.ma.bx.cell (k := 2) rfl
      have cE : w8.cell? ⟨be, 2, none⟩ = some (Value.slice none 0 0) := HT8.out.me.bx.cell (k := 2) rfl
      go_wp2_with fail
      go_quiet (fail)
      go_wp2_with fail
      exact bodyPost_ret (v := .tuple #[v8, (Value.slice none 0 0)]) (by simp [results, Tryz.results48, go_sem]) rfl (HT8.out.out (Below.drewN_ (Below.refl _ _) _) (by rw [(emit_4a (z := zeroed o) (pc := pc) (off := off) HR.out HF.out (of_decide_eq_false (by rw [HD.out, hq]))).1]; try rfl) (by rw [(emit_4a (z := zeroed o) (pc := pc) (off := off) HR.out HF.out (of_decide_eq_false (by rw [HD.out, hq]))).2]; try rfl))
    · try dsimp only
      go_wp2_with (first
        | (refine wpList_load_box rfl 44 (.tmp 4) rfl w.heap.size 0 rfl (insV i) (insV i) HT7.out.xb whole_at _ Tryz.underlying44 rfl 5 size_ins5 rfl ?_)
        | (refine wpList_load_box rfl 30 (.tmp 5) rfl (w.heap.size + 1) 0 rfl (oV o) (oV o) HT7.out.ob whole_at _ Tryz.underlying30 rfl 16 (by kernel_rfl) ((oV_len o).trans HOL.out) ?_))
      refine (mkIns_any 3 i _ HT7.out.ma (by simp)).mono ?_; rintro e w8 ⟨rfl, hM⟩
      obtain ⟨v8, hT⟩ := HT7.out.a hM
      have HT8 := Lib.hid hT
      clear hM hT
      go_wp2_with (first
        | (refine wpList_load_box rfl 44 (.tmp 4) rfl w.heap.size 0 rfl (insV i) (insV i) HT8.out.xb whole_at _ Tryz.underlying44 rfl 5 size_ins5 rfl ?_)
        | (refine wpList_load_box rfl 30 (.tmp 5) rfl (w.heap.size + 1) 0 rfl (oV o) (oV o) HT8.out.ob whole_at _ Tryz.underlying30 rfl 16 (by kernel_rfl) ((oV_len o).trans HOL.out) ?_))
      refine (mkIns_any 7 i _ HT8.out.me (by simp)).mono ?_; rintro e w9 ⟨rfl, hM⟩
      obtain ⟨v9, hT⟩ := HT8.out.e hM
      have HT9 := Lib.hid hT
      clear hM hT
      have cA : w9.cell? ⟨ba, 2, none⟩ = some v8 := HT9.out.ma.bx.cell (k := 2) rfl
      have cE : w9.cell? ⟨be, 2, none⟩ = some v9 := HT9.out.me.bx.cell (k := 2) rfl
      go_wp2_with fail
      go_quiet (fail)
      go_wp2_with fail
      exact bodyPost_ret (v := .tuple #[v8, v9]) (by simp [results, Tryz.results48, go_sem]) rfl (HT9.out.out (Below.drewN_ (Below.refl _ _) _) (by rw [(emit_4e (z := zeroed o) (pc := pc) (off := off) HR.out HF.out (of_decide_eq_true (by rw [HD.out, hq]))).1]; try rfl) (by rw [(emit_4e (z := zeroed o) (pc := pc) (off := off) HR.out HF.out (of_decide_eq_true (by rw [HD.out, hq]))).2]; try rfl))
  by_cases h5 : formZ i.op = 5
  · have HF := Lib.hid h5
    rw [h5]
    clear h4 h5 hF
    have cd : w5.cell? ⟨w.heap.size, 3, none⟩ = some (.int .i64 i.b) := HT5.out.xb.cell (k := 3) rfl
    have HD := Lib.hid (HZO.out i.b HRR.out.2.2.2.1.1 HRR.out.2.2.2.1.2)
    have HSO := Lib.hid (sent_one (zeroed o) i.b)
    go_wp2_with (first
      | (refine wpList_load_box rfl 44 (.tmp 4) rfl w.heap.size 0 rfl (insV i) (insV i) HT5.out.xb whole_at _ Tryz.underlying44 rfl 5 size_ins5 rfl ?_)
      | (refine wpList_load_box rfl 30 (.tmp 5) rfl (w.heap.size + 1) 0 rfl (oV o) (oV o) HT5.out.ob whole_at _ Tryz.underlying30 rfl 16 (by kernel_rfl) ((oV_len o).trans HOL.out) ?_))
    refine (refOwned_any o i.b _ HOL.out).mono ?_; rintro e w7 ⟨rfl, hb⟩
    have HT7 := Lib.hid (HT5.out.below hb)
    clear hb cd co
    by_cases hq : ownedZ o i.b = 1
    · have q1 : (ownedZ o i.b == 1) = true := by simpa using hq
      have HQ := Lib.hid hq
      clear hq
      have cb7 : w7.cell? ⟨w.heap.size, 3, none⟩ = some (.int .i64 i.b) := HT7.out.xb.cell (k := 3) rfl
      go_wp2_with (first
        | (refine wpList_load_box rfl 44 (.tmp 4) rfl w.heap.size 0 rfl (insV i) (insV i) HT7.out.xb whole_at _ Tryz.underlying44 rfl 5 size_ins5 rfl ?_)
        | (refine wpList_load_box rfl 30 (.tmp 5) rfl (w.heap.size + 1) 0 rfl (oV o) (oV o) HT7.out.ob whole_at _ Tryz.underlying30 rfl 16 (by kernel_rfl) ((oV_len o).trans HOL.out) ?_))
      refine (mkReg_any 5 i.b _ HT7.out.ma (by simp)).mono ?_; rintro e w8 ⟨rfl, hM⟩
      obtain ⟨v8, hT⟩ := HT7.out.a hM
      have HT8 := Lib.hid hT
      clear hM hT
      have cb8 : w8.cell? ⟨w.heap.size, 3, none⟩ = some (.int .i64 i.b) := HT8.out.xb.cell (k := 3) rfl
      go_wp2_with (first
        | (refine wpList_load_box rfl 44 (.tmp 4) rfl w.heap.size 0 rfl (insV i) (insV i) HT8.out.xb whole_at _ Tryz.underlying44 rfl 5 size_ins5 rfl ?_)
        | (refine wpList_load_box rfl 30 (.tmp 5) rfl (w.heap.size + 1) 0 rfl (oV o) (oV o) HT8.out.ob whole_at _ Tryz.underlying30 rfl 16 (by kernel_rfl) ((oV_len o).trans HOL.out) ?_))
      refine (mkReg_any 6 i.b _ HT8.out.me (by simp)).mono ?_; rintro e w9 ⟨rfl, hM⟩
      obtain ⟨v9, hT⟩ := HT8.out.e hM
      have HT9 := Lib.hid hT
      clear hM hT
      go_wp2_with (first
        | (refine wpList_load_box rfl 44 (.tmp 4) rfl w.heap.size 0 rfl (insV i) (insV i) HT9.out.xb whole_at _ Tryz.underlying44 rfl 5 size_ins5 rfl ?_)
        | (refine wpList_load_box rfl 30 (.tmp 5) rfl (w.heap.size + 1) 0 rfl (oV o) (oV o) HT9.out.ob whole_at _ Tryz.underlying30 rfl 16 (by kernel_rfl) ((oV_len o).trans HOL.out) ?_))
      refine (mkIns_any 4 i _ HT9.out.ma (by simp)).mono ?_; rintro e w10 ⟨rfl, hM⟩
      obtain ⟨v10, hT⟩ := HT9.out.a hM
      have HT10 := Lib.hid hT
      clear hM hT
      have cb10 : w10.cell? ⟨w.heap.size, 3, none⟩ = some (.int .i64 i.b) := HT10.out.xb.cell (k := 3) rfl
      go_wp2_with (first
        | (refine wpList_load_box rfl 44 (.tmp 4) rfl w.heap.size 0 rfl (insV i) (insV i) HT10.out.xb whole_at _ Tryz.underlying44 rfl 5 size_ins5 rfl ?_)
        | (refine wpList_load_box rfl 30 (.tmp 5) rfl (w.heap.size + 1) 0 rfl (oV o) (oV o) HT10.out.ob whole_at _ Tryz.underlying30 rfl 16 (by kernel_rfl) ((oV_len o).trans HOL.out) ?_))
      refine (mkReg_any 8 i.b _ HT10.out.me (by simp)).mono ?_; rintro e w11 ⟨rfl, hM⟩
      obtain ⟨v11, hT⟩ := HT10.out.e hM
      have HT11 := Lib.hid hT
      clear hM hT
      have cA : w11.cell? ⟨ba, 2, none⟩ = some v10 := HT11.out.ma.bx.cell (k := 2) rfl
      have cE : w11.cell? ⟨be, 2, none⟩ = some v11 := HT11.out.me.bx.cell (k := 2) rfl
      go_wp2_with fail
      go_quiet (fail)
      go_wp2_with fail
      exact bodyPost_ret (v := .tuple #[v10, v11]) (by simp [results, Tryz.results48, go_sem]) rfl (HT11.out.out (Below.drewN_ (Below.refl _ _) _) (by rw [(emit_5 (z := zeroed o) (pc := pc) (off := off) HR.out HF.out).1]; rw [HSO.out, if_pos (by rw [HD.out]; exact HQ.out)]; try rfl) (by rw [(emit_5 (z := zeroed o) (pc := pc) (off := off) HR.out HF.out).2]; rw [HSO.out, if_pos (by rw [HD.out]; exact HQ.out)]; try rfl))
    · have q1 : (ownedZ o i.b == 1) = false := by simpa using hq
      have HQ := Lib.hid hq
      clear hq
      go_wp2_with (first
        | (refine wpList_load_box rfl 44 (.tmp 4) rfl w.heap.size 0 rfl (insV i) (insV i) HT7.out.xb whole_at _ Tryz.underlying44 rfl 5 size_ins5 rfl ?_)
        | (refine wpList_load_box rfl 30 (.tmp 5) rfl (w.heap.size + 1) 0 rfl (oV o) (oV o) HT7.out.ob whole_at _ Tryz.underlying30 rfl 16 (by kernel_rfl) ((oV_len o).trans HOL.out) ?_))
      refine (mkIns_any 4 i _ HT7.out.ma (by simp)).mono ?_; rintro e w8 ⟨rfl, hM⟩
      obtain ⟨v8, hT⟩ := HT7.out.a hM
      have HT8 := Lib.hid hT
      clear hM hT
      have cb8 : w8.cell? ⟨w.heap.size, 3, none⟩ = some (.int .i64 i.b) := HT8.out.xb.cell (k := 3) rfl
      go_wp2_with (first
        | (refine wpList_load_box rfl 44 (.tmp 4) rfl w.heap.size 0 rfl (insV i) (insV i) HT8.out.xb whole_at _ Tryz.underlying44 rfl 5 size_ins5 rfl ?_)
        | (refine wpList_load_box rfl 30 (.tmp 5) rfl (w.heap.size + 1) 0 rfl (oV o) (oV o) HT8.out.ob whole_at _ Tryz.underlying30 rfl 16 (by kernel_rfl) ((oV_len o).trans HOL.out) ?_))
      refine (mkReg_any 8 i.b _ HT8.out.me (by simp)).mono ?_; rintro e w9 ⟨rfl, hM⟩
      obtain ⟨v9, hT⟩ := HT8.out.e hM
      have HT9 := Lib.hid hT
      clear hM hT
      have cA : w9.cell? ⟨ba, 2, none⟩ = some v8 := HT9.out.ma.bx.cell (k := 2) rfl
      have cE : w9.cell? ⟨be, 2, none⟩ = some v9 := HT9.out.me.bx.cell (k := 2) rfl
      go_wp2_with fail
      go_quiet (fail)
      go_wp2_with fail
      exact bodyPost_ret (v := .tuple #[v8, v9]) (by simp [results, Tryz.results48, go_sem]) rfl (HT9.out.out (Below.drewN_ (Below.refl _ _) _) (by rw [(emit_5 (z := zeroed o) (pc := pc) (off := off) HR.out HF.out).1]; rw [HSO.out, if_neg (by rw [HD.out]; exact HQ.out)]; try rfl) (by rw [(emit_5 (z := zeroed o) (pc := pc) (off := off) HR.out HF.out).2]; rw [HSO.out, if_neg (by rw [HD.out]; exact HQ.out)]; try rfl))
  by_cases h6 : formZ i.op = 6
  · have HF := Lib.hid h6
    rw [h6]
    clear h4 h5 h6 hF co
    go_wp2_with fail
    refine wp_region_lin [(0, true), (1, true), (2, false), (3, false), (4, true)] (by kernel_rfl) (by kernel_rfl) rfl (by kernel_rfl) (Kept w5) ?_
    have k9 : Kept w5 w5.drew := (Kept.refl w5).drew
    simp only [List.map_cons, List.map_nil, List.getElem?_toArray, List.getElem?_cons_succ, List.getElem?_cons_zero]
    refine lin_take_box k9 rfl 30 (.tmp 5) rfl (w.heap.size + 1) 0 rfl (oV o) (oV o) (fun y hy => HT5.out.ob.kept hy) whole_at _ Tryz.underlying30 rfl 16 (by kernel_rfl) ((oV_len o).trans HOL.out) ?_
    simp only [Act.put, List.setIfInBounds_toArray, List.set_cons_zero, List.set_cons_succ]
    refine lin_take_box k9 rfl 44 (.tmp 4) rfl w.heap.size 0 rfl (insV i) (insV i) (fun y hy => HT5.out.xb.kept hy) whole_at _ Tryz.underlying44 rfl 5 size_ins5 rfl ?_
    simp only [Act.put, List.setIfInBounds_toArray, List.set_cons_zero, List.set_cons_succ]
    refine lin_call k9 (by rfl) (fun K hK => ?_)
    go_simp
    refine (refReadsN_any i _).mono ?_; rintro e wq ⟨v, rfl, hrow, hnew, hbq⟩
    go_wp2_with fail
    have k10 := k9.to hbq
    obtain ⟨Aq, cq, rfl⟩ := hrow.form
    have HRQ := Lib.hid hrow
    refine hK.out _ _ k10 (fun _ => ?_)
    clear hK K hrow hnew hbq
    try simp only [Act.put, List.setIfInBounds_toArray, List.set_cons_zero, List.set_cons_succ]
    refine lin_call k10 (by rfl) (fun K hK => ?_)
    go_simp
    refine (refAnyE_any Aq cq (readsZ i) o _ HOL.out HRQ.out (fun r hr => by have := reads_mem hr; omega) (by have := HRL.out; omega)).mono ?_; rintro e w7 ⟨rfl, hb7⟩
    go_wp2_with fail
    have k11 := k10.to hb7
    have HT7 := Lib.hid (HT5.out.below k11)
    refine hK.out _ _ k11 (fun _ => ?_)
    clear hK K hb7
    try simp only [Act.put, List.setIfInBounds_toArray, List.set_cons_zero, List.set_cons_succ]
    iterate 1 (refine lin_take (v := ?_) k11 (by rfl) ?_ ?_; rotate_left; (intro x hx; (try dsimp only at hx); go_simp; try (with_reducible rfl)); (try simp only [Act.put, List.setIfInBounds_toArray, List.set_cons_zero, List.set_cons_succ]))
    refine lin_done ?_
    clear k9 k10 k11
    cases ha : anyEB (readsZ i) o
    · try dsimp only
      go_wp2_with (first
        | (refine wpList_load_box rfl 44 (.tmp 4) rfl w.heap.size 0 rfl (insV i) (insV i) HT7.out.xb whole_at _ Tryz.underlying44 rfl 5 size_ins5 rfl ?_)
        | (refine wpList_load_box rfl 30 (.tmp 5) rfl (w.heap.size + 1) 0 rfl (oV o) (oV o) HT7.out.ob whole_at _ Tryz.underlying30 rfl 16 (by kernel_rfl) ((oV_len o).trans HOL.out) ?_))
      refine (mkIns_any 9 i _ HT7.out.ma (by simp)).mono ?_; rintro e w8 ⟨rfl, hM⟩
      obtain ⟨v8, hT⟩ := HT7.out.a hM
      have HT8 := Lib.hid hT
      clear hM hT
      go_wp2_with (first
        | (refine wpList_load_box rfl 44 (.tmp 4) rfl w.heap.size 0 rfl (insV i) (insV i) HT8.out.xb whole_at _ Tryz.underlying44 rfl 5 size_ins5 rfl ?_)
        | (refine wpList_load_box rfl 30 (.tmp 5) rfl (w.heap.size + 1) 0 rfl (oV o) (oV o) HT8.out.ob whole_at _ Tryz.underlying30 rfl 16 (by kernel_rfl) ((oV_len o).trans HOL.out) ?_))
      refine (mkPlain_any 10 _ HT8.out.me (by simp)).mono ?_; rintro e w9 ⟨rfl, hM⟩
      obtain ⟨v9, hT⟩ := HT8.out.e hM
      have HT9 := Lib.hid hT
      clear hM hT
      have cA : w9.cell? ⟨ba, 2, none⟩ = some v8 := HT9.out.ma.bx.cell (k := 2) rfl
      have cE : w9.cell? ⟨be, 2, none⟩ = some v9 := HT9.out.me.bx.cell (k := 2) rfl
      go_wp2_with fail
      go_quiet (fail)
      go_wp2_with fail
      exact bodyPost_ret (v := .tuple #[v8, v9]) (by simp [results, Tryz.results48, go_sem]) rfl (HT9.out.out (Below.drewN_ (Below.refl _ _) _) (by rw [(emit_6a (z := zeroed o) (pc := pc) (off := off) HR.out HF.out (by rw [HZA.out]; exact ha)).1]; try rfl) (by rw [(emit_6a (z := zeroed o) (pc := pc) (off := off) HR.out HF.out (by rw [HZA.out]; exact ha)).2]; try rfl))
    · try dsimp only
      go_wp2_with (first
        | (refine wpList_load_box rfl 44 (.tmp 4) rfl w.heap.size 0 rfl (insV i) (insV i) HT7.out.xb whole_at _ Tryz.underlying44 rfl 5 size_ins5 rfl ?_)
        | (refine wpList_load_box rfl 30 (.tmp 5) rfl (w.heap.size + 1) 0 rfl (oV o) (oV o) HT7.out.ob whole_at _ Tryz.underlying30 rfl 16 (by kernel_rfl) ((oV_len o).trans HOL.out) ?_))
      refine (refSent_any i o _ HOL.out).mono ?_; rintro e w8 ⟨v, rfl, hrow, hnew, hb⟩
      have HT8 := Lib.hid (HT7.out.below hb)
      obtain ⟨A8, c8, rfl⟩ := hrow.form
      have HR8 := Lib.hid hrow
      have HA8 : Hid (∀ a, A8 = some a → ∀ (b : Nat) (v : Value) (l : List Cel), Mk b (w.heap.size + 4) pc off w7 v l → ¬ (a.block = b ∨ v.ownBlock = some a.block)) := by
        intro a ha b v l hm
        have h1 := hnew a _ _ (by rw [ha])
        rintro (e | e)
        · have := hm.lt; omega
        · have := (hm.own.lt _ e).2; omega
      clear hrow hnew hb
      go_wp2_with (first
        | (refine wpList_load_box rfl 44 (.tmp 4) rfl w.heap.size 0 rfl (insV i) (insV i) HT8.out.xb whole_at _ Tryz.underlying44 rfl 5 size_ins5 rfl ?_)
        | (refine wpList_load_box rfl 30 (.tmp 5) rfl (w.heap.size + 1) 0 rfl (oV o) (oV o) HT8.out.ob whole_at _ Tryz.underlying30 rfl 16 (by kernel_rfl) ((oV_len o).trans HOL.out) ?_))
      refine (mkRegs_any 5 A8 c8 _ (sentL o (readsZ i)) _ HT8.out.ma (by simp) rfl HR8.out (fun a ha => HA8.out a ha _ _ _ HT7.out.ma) HSL.out).mono ?_; rintro e w9 ⟨rfl, hM⟩
      obtain ⟨v9, hT⟩ := HT8.out.a hM
      have HT9 := Lib.hid hT
      clear hM hT
      go_wp2_with (first
        | (refine wpList_load_box rfl 44 (.tmp 4) rfl w.heap.size 0 rfl (insV i) (insV i) HT9.out.xb whole_at _ Tryz.underlying44 rfl 5 size_ins5 rfl ?_)
        | (refine wpList_load_box rfl 30 (.tmp 5) rfl (w.heap.size + 1) 0 rfl (oV o) (oV o) HT9.out.ob whole_at _ Tryz.underlying30 rfl 16 (by kernel_rfl) ((oV_len o).trans HOL.out) ?_))
      refine (mkPlain_any 10 _ HT9.out.ma (by have := HSL.out; simp [regsC_len]; omega)).mono ?_; rintro e w10 ⟨rfl, hM⟩
      obtain ⟨v10, hT⟩ := HT9.out.a hM
      have HT10 := Lib.hid hT
      clear hM hT
      go_wp2_with (first
        | (refine wpList_load_box rfl 44 (.tmp 4) rfl w.heap.size 0 rfl (insV i) (insV i) HT10.out.xb whole_at _ Tryz.underlying44 rfl 5 size_ins5 rfl ?_)
        | (refine wpList_load_box rfl 30 (.tmp 5) rfl (w.heap.size + 1) 0 rfl (oV o) (oV o) HT10.out.ob whole_at _ Tryz.underlying30 rfl 16 (by kernel_rfl) ((oV_len o).trans HOL.out) ?_))
      refine (refSent_any i o _ HOL.out).mono ?_; rintro e w11 ⟨v, rfl, hrow, hnew, hb⟩
      have HT11 := Lib.hid (HT10.out.below hb)
      obtain ⟨A11, c11, rfl⟩ := hrow.form
      have HR11 := Lib.hid hrow
      have HA11 : Hid (∀ a, A11 = some a → ∀ (b : Nat) (v : Value) (l : List Cel), Mk b (w.heap.size + 4) pc off w10 v l → ¬ (a.block = b ∨ v.ownBlock = some a.block)) := by
        intro a ha b v l hm
        have h1 := hnew a _ _ (by rw [ha])
        rintro (e | e)
        · have := hm.lt; omega
        · have := (hm.own.lt _ e).2; omega
      clear hrow hnew hb
      go_wp2_with (first
        | (refine wpList_load_box rfl 44 (.tmp 4) rfl w.heap.size 0 rfl (insV i) (insV i) HT11.out.xb whole_at _ Tryz.underlying44 rfl 5 size_ins5 rfl ?_)
        | (refine wpList_load_box rfl 30 (.tmp 5) rfl (w.heap.size + 1) 0 rfl (oV o) (oV o) HT11.out.ob whole_at _ Tryz.underlying30 rfl 16 (by kernel_rfl) ((oV_len o).trans HOL.out) ?_))
      refine (mkRegs_any 6 A11 c11 _ (sentL o (readsZ i)) _ HT11.out.me (by simp) rfl HR11.out (fun a ha => HA11.out a ha _ _ _ HT10.out.me) HSL.out).mono ?_; rintro e w12 ⟨rfl, hM⟩
      obtain ⟨v12, hT⟩ := HT11.out.e hM
      have HT12 := Lib.hid hT
      clear hM hT
      go_wp2_with (first
        | (refine wpList_load_box rfl 44 (.tmp 4) rfl w.heap.size 0 rfl (insV i) (insV i) HT12.out.xb whole_at _ Tryz.underlying44 rfl 5 size_ins5 rfl ?_)
        | (refine wpList_load_box rfl 30 (.tmp 5) rfl (w.heap.size + 1) 0 rfl (oV o) (oV o) HT12.out.ob whole_at _ Tryz.underlying30 rfl 16 (by kernel_rfl) ((oV_len o).trans HOL.out) ?_))
      refine (mkIns_any 9 i _ HT12.out.me (by have := HSL.out; simp [regsC_len]; omega)).mono ?_; rintro e w13 ⟨rfl, hM⟩
      obtain ⟨v13, hT⟩ := HT12.out.e hM
      have HT13 := Lib.hid hT
      clear hM hT
      have cA : w13.cell? ⟨ba, 2, none⟩ = some v10 := HT13.out.ma.bx.cell (k := 2) rfl
      have cE : w13.cell? ⟨be, 2, none⟩ = some v13 := HT13.out.me.bx.cell (k := 2) rfl
      go_wp2_with fail
      go_quiet (fail)
      go_wp2_with fail
      exact bodyPost_ret (v := .tuple #[v10, v13]) (by simp [results, Tryz.results48, go_sem]) rfl (HT13.out.out (Below.drewN_ (Below.refl _ _) _) (by rw [(emit_6e (z := zeroed o) (pc := pc) (off := off) HR.out HF.out (by rw [HZA.out]; exact ha)).1]; rw [HZE.out]; try rfl) (by rw [(emit_6e (z := zeroed o) (pc := pc) (off := off) HR.out HF.out (by rw [HZA.out]; exact ha)).2]; rw [HZE.out]; try rfl))
  by_cases h7 : formZ i.op = 7
  · have HF := Lib.hid h7
    rw [h7]
    clear h4 h5 h6 h7 hF co
    go_wp2_with (first
      | (refine wpList_load_box rfl 44 (.tmp 4) rfl w.heap.size 0 rfl (insV i) (insV i) HT5.out.xb whole_at _ Tryz.underlying44 rfl 5 size_ins5 rfl ?_)
      | (refine wpList_load_box rfl 30 (.tmp 5) rfl (w.heap.size + 1) 0 rfl (oV o) (oV o) HT5.out.ob whole_at _ Tryz.underlying30 rfl 16 (by kernel_rfl) ((oV_len o).trans HOL.out) ?_))
    refine (mkPlain_any 11 _ HT5.out.ma (by simp)).mono ?_; rintro e w7 ⟨rfl, hM⟩
    obtain ⟨v7, hT⟩ := HT5.out.a hM
    have HT7 := Lib.hid hT
    clear hM hT
    go_wp2_with (first
      | (refine wpList_load_box rfl 44 (.tmp 4) rfl w.heap.size 0 rfl (insV i) (insV i) HT7.out.xb whole_at _ Tryz.underlying44 rfl 5 size_ins5 rfl ?_)
      | (refine wpList_load_box rfl 30 (.tmp 5) rfl (w.heap.size + 1) 0 rfl (oV o) (oV o) HT7.out.ob whole_at _ Tryz.underlying30 rfl 16 (by kernel_rfl) ((oV_len o).trans HOL.out) ?_))
    refine (mkPlain_any 11 _ HT7.out.me (by simp)).mono ?_; rintro e w8 ⟨rfl, hM⟩
    obtain ⟨v8, hT⟩ := HT7.out.e hM
    have HT8 := Lib.hid hT
    clear hM hT
    have cA : w8.cell? ⟨ba, 2, none⟩ = some v7 := HT8.out.ma.bx.cell (k := 2) rfl
    have cE : w8.cell? ⟨be, 2, none⟩ = some v8 := HT8.out.me.bx.cell (k := 2) rfl
    go_wp2_with fail
    go_quiet (fail)
    go_wp2_with fail
    exact bodyPost_ret (v := .tuple #[v7, v8]) (by simp [results, Tryz.results48, go_sem]) rfl (HT8.out.out (Below.drewN_ (Below.refl _ _) _) (by rw [(emit_7 (z := zeroed o) (pc := pc) (off := off) HR.out HF.out).1]; try rfl) (by rw [(emit_7 (z := zeroed o) (pc := pc) (off := off) HR.out HF.out).2]; try rfl))
  by_cases h8 : formZ i.op = 8
  · have HF := Lib.hid h8
    rw [h8]
    clear h4 h5 h6 h7 h8 hF co
    go_wp2_with (first
      | (refine wpList_load_box rfl 44 (.tmp 4) rfl w.heap.size 0 rfl (insV i) (insV i) HT5.out.xb whole_at _ Tryz.underlying44 rfl 5 size_ins5 rfl ?_)
      | (refine wpList_load_box rfl 30 (.tmp 5) rfl (w.heap.size + 1) 0 rfl (oV o) (oV o) HT5.out.ob whole_at _ Tryz.underlying30 rfl 16 (by kernel_rfl) ((oV_len o).trans HOL.out) ?_))
    refine (mkPlain_any 12 _ HT5.out.ma (by simp)).mono ?_; rintro e w7 ⟨rfl, hM⟩
    obtain ⟨v7, hT⟩ := HT5.out.a hM
    have HT7 := Lib.hid hT
    clear hM hT
    go_wp2_with (first
      | (refine wpList_load_box rfl 44 (.tmp 4) rfl w.heap.size 0 rfl (insV i) (insV i) HT7.out.xb whole_at _ Tryz.underlying44 rfl 5 size_ins5 rfl ?_)
      | (refine wpList_load_box rfl 30 (.tmp 5) rfl (w.heap.size + 1) 0 rfl (oV o) (oV o) HT7.out.ob whole_at _ Tryz.underlying30 rfl 16 (by kernel_rfl) ((oV_len o).trans HOL.out) ?_))
    refine (mkPlain_any 12 _ HT7.out.me (by simp)).mono ?_; rintro e w8 ⟨rfl, hM⟩
    obtain ⟨v8, hT⟩ := HT7.out.e hM
    have HT8 := Lib.hid hT
    clear hM hT
    have cA : w8.cell? ⟨ba, 2, none⟩ = some v7 := HT8.out.ma.bx.cell (k := 2) rfl
    have cE : w8.cell? ⟨be, 2, none⟩ = some v8 := HT8.out.me.bx.cell (k := 2) rfl
    go_wp2_with fail
    go_quiet (fail)
    go_wp2_with fail
    exact bodyPost_ret (v := .tuple #[v7, v8]) (by simp [results, Tryz.results48, go_sem]) rfl (HT8.out.out (Below.drewN_ (Below.refl _ _) _) (by rw [(emit_8 (z := zeroed o) (pc := pc) (off := off) HR.out HF.out).1]; try rfl) (by rw [(emit_8 (z := zeroed o) (pc := pc) (off := off) HR.out HF.out).2]; try rfl))
  have hf3 : formZ i.op ≤ 3 := by omega
  have hf1 : 1 ≤ formZ i.op := by
    have h1 := (HRR.out).1
    have := formZ_cases i.op
    omega
  have HF := Lib.hid hf3
  have HSD := Lib.hid (HZS.out HR.out)
  have hcases : formZ i.op = 1 ∨ formZ i.op = 2 ∨ formZ i.op = 3 := by omega
  clear h4 h5 h6 h7 h8 hF hf3 hf1 co
  rcases hcases with hc | hc | hc
  · rw [hc]
    clear hc
    go_wp2_with (first
      | (refine wpList_load_box rfl 44 (.tmp 4) rfl w.heap.size 0 rfl (insV i) (insV i) HT5.out.xb whole_at _ Tryz.underlying44 rfl 5 size_ins5 rfl ?_)
      | (refine wpList_load_box rfl 30 (.tmp 5) rfl (w.heap.size + 1) 0 rfl (oV o) (oV o) HT5.out.ob whole_at _ Tryz.underlying30 rfl 16 (by kernel_rfl) ((oV_len o).trans HOL.out) ?_))
    refine (refSide_any i o _ HOL.out).mono ?_; rintro e w7 ⟨rfl, hb⟩
    have HT7 := Lib.hid (HT5.out.below hb)
    clear hb
    by_cases hs : sideZ i o = 1
    · have q1 : (sideZ i o == 1) = true := by simpa using hs
      have HS := Lib.hid (HSD.out.trans hs)
      clear hs
      go_wp2_with (first
        | (refine wpList_load_box rfl 44 (.tmp 4) rfl w.heap.size 0 rfl (insV i) (insV i) HT7.out.xb whole_at _ Tryz.underlying44 rfl 5 size_ins5 rfl ?_)
        | (refine wpList_load_box rfl 30 (.tmp 5) rfl (w.heap.size + 1) 0 rfl (oV o) (oV o) HT7.out.ob whole_at _ Tryz.underlying30 rfl 16 (by kernel_rfl) ((oV_len o).trans HOL.out) ?_))
      refine (mkIns_any 1 i _ HT7.out.ma (by simp)).mono ?_; rintro e w8 ⟨rfl, hM⟩
      obtain ⟨v8, hT⟩ := HT7.out.a hM
      have HT8 := Lib.hid hT
      clear hM hT
      have cA : w8.cell? ⟨ba, 2, none⟩ = some v8 := HT8.out.ma.bx.cell (k := 2) rfl
      have cE : w8.cell? ⟨be, 2, none⟩ = some (Value.slice none 0 0) := HT8.out.me.bx.cell (k := 2) rfl
      go_wp2_with fail
      go_quiet (fail)
      go_wp2_with fail
      exact bodyPost_ret (v := .tuple #[v8, (Value.slice none 0 0)]) (by simp [results, Tryz.results48, go_sem]) rfl (HT8.out.out (Below.drewN_ (Below.refl _ _) _) (by rw [(emit_1a (z := zeroed o) (pc := pc) (off := off) HR.out HF.out HS.out).1]; try rfl) (by rw [(emit_1a (z := zeroed o) (pc := pc) (off := off) HR.out HF.out HS.out).2]; try rfl))
    · have q1 : (sideZ i o == 1) = false := by simpa using hs
      have HS := Lib.hid (fun c => hs (HSD.out.symm.trans c) : ¬ sideZ i (zeroed o) = 1)
      clear hs
      go_wp2_with (first
        | (refine wpList_load_box rfl 44 (.tmp 4) rfl w.heap.size 0 rfl (insV i) (insV i) HT7.out.xb whole_at _ Tryz.underlying44 rfl 5 size_ins5 rfl ?_)
        | (refine wpList_load_box rfl 30 (.tmp 5) rfl (w.heap.size + 1) 0 rfl (oV o) (oV o) HT7.out.ob whole_at _ Tryz.underlying30 rfl 16 (by kernel_rfl) ((oV_len o).trans HOL.out) ?_))
      refine (refSent_any i o _ HOL.out).mono ?_; rintro e w8 ⟨v, rfl, hrow, hnew, hb⟩
      have HT8 := Lib.hid (HT7.out.below hb)
      obtain ⟨A8, c8, rfl⟩ := hrow.form
      have HR8 := Lib.hid hrow
      have HA8 : Hid (∀ a, A8 = some a → ∀ (b : Nat) (v : Value) (l : List Cel), Mk b (w.heap.size + 4) pc off w7 v l → ¬ (a.block = b ∨ v.ownBlock = some a.block)) := by
        intro a ha b v l hm
        have h1 := hnew a _ _ (by rw [ha])
        rintro (e | e)
        · have := hm.lt; omega
        · have := (hm.own.lt _ e).2; omega
      clear hrow hnew hb
      go_wp2_with (first
        | (refine wpList_load_box rfl 44 (.tmp 4) rfl w.heap.size 0 rfl (insV i) (insV i) HT8.out.xb whole_at _ Tryz.underlying44 rfl 5 size_ins5 rfl ?_)
        | (refine wpList_load_box rfl 30 (.tmp 5) rfl (w.heap.size + 1) 0 rfl (oV o) (oV o) HT8.out.ob whole_at _ Tryz.underlying30 rfl 16 (by kernel_rfl) ((oV_len o).trans HOL.out) ?_))
      refine (mkRegs_any 5 A8 c8 _ (sentL o (readsZ i)) _ HT8.out.ma (by simp) rfl HR8.out (fun a ha => HA8.out a ha _ _ _ HT7.out.ma) HSL.out).mono ?_; rintro e w9 ⟨rfl, hM⟩
      obtain ⟨v9, hT⟩ := HT8.out.a hM
      have HT9 := Lib.hid hT
      clear hM hT
      go_wp2_with (first
        | (refine wpList_load_box rfl 44 (.tmp 4) rfl w.heap.size 0 rfl (insV i) (insV i) HT9.out.xb whole_at _ Tryz.underlying44 rfl 5 size_ins5 rfl ?_)
        | (refine wpList_load_box rfl 30 (.tmp 5) rfl (w.heap.size + 1) 0 rfl (oV o) (oV o) HT9.out.ob whole_at _ Tryz.underlying30 rfl 16 (by kernel_rfl) ((oV_len o).trans HOL.out) ?_))
      refine (refSent_any i o _ HOL.out).mono ?_; rintro e w10 ⟨v, rfl, hrow, hnew, hb⟩
      have HT10 := Lib.hid (HT9.out.below hb)
      obtain ⟨A10, c10, rfl⟩ := hrow.form
      have HR10 := Lib.hid hrow
      have HA10 : Hid (∀ a, A10 = some a → ∀ (b : Nat) (v : Value) (l : List Cel), Mk b (w.heap.size + 4) pc off w9 v l → ¬ (a.block = b ∨ v.ownBlock = some a.block)) := by
        intro a ha b v l hm
        have h1 := hnew a _ _ (by rw [ha])
        rintro (e | e)
        · have := hm.lt; omega
        · have := (hm.own.lt _ e).2; omega
      clear hrow hnew hb
      go_wp2_with (first
        | (refine wpList_load_box rfl 44 (.tmp 4) rfl w.heap.size 0 rfl (insV i) (insV i) HT10.out.xb whole_at _ Tryz.underlying44 rfl 5 size_ins5 rfl ?_)
        | (refine wpList_load_box rfl 30 (.tmp 5) rfl (w.heap.size + 1) 0 rfl (oV o) (oV o) HT10.out.ob whole_at _ Tryz.underlying30 rfl 16 (by kernel_rfl) ((oV_len o).trans HOL.out) ?_))
      refine (mkRegs_any 6 A10 c10 _ (sentL o (readsZ i)) _ HT10.out.me (by simp) rfl HR10.out (fun a ha => HA10.out a ha _ _ _ HT9.out.me) HSL.out).mono ?_; rintro e w11 ⟨rfl, hM⟩
      obtain ⟨v11, hT⟩ := HT10.out.e hM
      have HT11 := Lib.hid hT
      clear hM hT
      go_wp2_with (first
        | (refine wpList_load_box rfl 44 (.tmp 4) rfl w.heap.size 0 rfl (insV i) (insV i) HT11.out.xb whole_at _ Tryz.underlying44 rfl 5 size_ins5 rfl ?_)
        | (refine wpList_load_box rfl 30 (.tmp 5) rfl (w.heap.size + 1) 0 rfl (oV o) (oV o) HT11.out.ob whole_at _ Tryz.underlying30 rfl 16 (by kernel_rfl) ((oV_len o).trans HOL.out) ?_))
      refine (mkIns_any 1 i _ HT11.out.me (by have := HSL.out; simp [regsC_len]; omega)).mono ?_; rintro e w12 ⟨rfl, hM⟩
      obtain ⟨v12, hT⟩ := HT11.out.e hM
      have HT12 := Lib.hid hT
      clear hM hT
      have cA : w12.cell? ⟨ba, 2, none⟩ = some v9 := HT12.out.ma.bx.cell (k := 2) rfl
      have cE : w12.cell? ⟨be, 2, none⟩ = some v12 := HT12.out.me.bx.cell (k := 2) rfl
      go_wp2_with fail
      go_quiet (fail)
      go_wp2_with fail
      exact bodyPost_ret (v := .tuple #[v9, v12]) (by simp [results, Tryz.results48, go_sem]) rfl (HT12.out.out (Below.drewN_ (Below.refl _ _) _) (by rw [(emit_1e (z := zeroed o) (pc := pc) (off := off) HR.out HF.out HS.out).1]; rw [HZE.out]; try rfl) (by rw [(emit_1e (z := zeroed o) (pc := pc) (off := off) HR.out HF.out HS.out).2]; rw [HZE.out]; try rfl))
  · rw [hc]
    clear hc
    go_wp2_with (first
      | (refine wpList_load_box rfl 44 (.tmp 4) rfl w.heap.size 0 rfl (insV i) (insV i) HT5.out.xb whole_at _ Tryz.underlying44 rfl 5 size_ins5 rfl ?_)
      | (refine wpList_load_box rfl 30 (.tmp 5) rfl (w.heap.size + 1) 0 rfl (oV o) (oV o) HT5.out.ob whole_at _ Tryz.underlying30 rfl 16 (by kernel_rfl) ((oV_len o).trans HOL.out) ?_))
    refine (refSide_any i o _ HOL.out).mono ?_; rintro e w7 ⟨rfl, hb⟩
    have HT7 := Lib.hid (HT5.out.below hb)
    clear hb
    by_cases hs : sideZ i o = 1
    · have q1 : (sideZ i o == 1) = true := by simpa using hs
      have HS := Lib.hid (HSD.out.trans hs)
      clear hs
      go_wp2_with (first
        | (refine wpList_load_box rfl 44 (.tmp 4) rfl w.heap.size 0 rfl (insV i) (insV i) HT7.out.xb whole_at _ Tryz.underlying44 rfl 5 size_ins5 rfl ?_)
        | (refine wpList_load_box rfl 30 (.tmp 5) rfl (w.heap.size + 1) 0 rfl (oV o) (oV o) HT7.out.ob whole_at _ Tryz.underlying30 rfl 16 (by kernel_rfl) ((oV_len o).trans HOL.out) ?_))
      refine (mkIns_any 1 i _ HT7.out.ma (by simp)).mono ?_; rintro e w8 ⟨rfl, hM⟩
      obtain ⟨v8, hT⟩ := HT7.out.a hM
      have HT8 := Lib.hid hT
      clear hM hT
      have cA : w8.cell? ⟨ba, 2, none⟩ = some v8 := HT8.out.ma.bx.cell (k := 2) rfl
      have cE : w8.cell? ⟨be, 2, none⟩ = some (Value.slice none 0 0) := HT8.out.me.bx.cell (k := 2) rfl
      go_wp2_with fail
      go_quiet (fail)
      go_wp2_with fail
      exact bodyPost_ret (v := .tuple #[v8, (Value.slice none 0 0)]) (by simp [results, Tryz.results48, go_sem]) rfl (HT8.out.out (Below.drewN_ (Below.refl _ _) _) (by rw [(emit_1a (z := zeroed o) (pc := pc) (off := off) HR.out HF.out HS.out).1]; try rfl) (by rw [(emit_1a (z := zeroed o) (pc := pc) (off := off) HR.out HF.out HS.out).2]; try rfl))
    · have q1 : (sideZ i o == 1) = false := by simpa using hs
      have HS := Lib.hid (fun c => hs (HSD.out.symm.trans c) : ¬ sideZ i (zeroed o) = 1)
      clear hs
      go_wp2_with (first
        | (refine wpList_load_box rfl 44 (.tmp 4) rfl w.heap.size 0 rfl (insV i) (insV i) HT7.out.xb whole_at _ Tryz.underlying44 rfl 5 size_ins5 rfl ?_)
        | (refine wpList_load_box rfl 30 (.tmp 5) rfl (w.heap.size + 1) 0 rfl (oV o) (oV o) HT7.out.ob whole_at _ Tryz.underlying30 rfl 16 (by kernel_rfl) ((oV_len o).trans HOL.out) ?_))
      refine (refSent_any i o _ HOL.out).mono ?_; rintro e w8 ⟨v, rfl, hrow, hnew, hb⟩
      have HT8 := Lib.hid (HT7.out.below hb)
      obtain ⟨A8, c8, rfl⟩ := hrow.form
      have HR8 := Lib.hid hrow
      have HA8 : Hid (∀ a, A8 = some a → ∀ (b : Nat) (v : Value) (l : List Cel), Mk b (w.heap.size + 4) pc off w7 v l → ¬ (a.block = b ∨ v.ownBlock = some a.block)) := by
        intro a ha b v l hm
        have h1 := hnew a _ _ (by rw [ha])
        rintro (e | e)
        · have := hm.lt; omega
        · have := (hm.own.lt _ e).2; omega
      clear hrow hnew hb
      go_wp2_with (first
        | (refine wpList_load_box rfl 44 (.tmp 4) rfl w.heap.size 0 rfl (insV i) (insV i) HT8.out.xb whole_at _ Tryz.underlying44 rfl 5 size_ins5 rfl ?_)
        | (refine wpList_load_box rfl 30 (.tmp 5) rfl (w.heap.size + 1) 0 rfl (oV o) (oV o) HT8.out.ob whole_at _ Tryz.underlying30 rfl 16 (by kernel_rfl) ((oV_len o).trans HOL.out) ?_))
      refine (mkRegs_any 5 A8 c8 _ (sentL o (readsZ i)) _ HT8.out.ma (by simp) rfl HR8.out (fun a ha => HA8.out a ha _ _ _ HT7.out.ma) HSL.out).mono ?_; rintro e w9 ⟨rfl, hM⟩
      obtain ⟨v9, hT⟩ := HT8.out.a hM
      have HT9 := Lib.hid hT
      clear hM hT
      go_wp2_with (first
        | (refine wpList_load_box rfl 44 (.tmp 4) rfl w.heap.size 0 rfl (insV i) (insV i) HT9.out.xb whole_at _ Tryz.underlying44 rfl 5 size_ins5 rfl ?_)
        | (refine wpList_load_box rfl 30 (.tmp 5) rfl (w.heap.size + 1) 0 rfl (oV o) (oV o) HT9.out.ob whole_at _ Tryz.underlying30 rfl 16 (by kernel_rfl) ((oV_len o).trans HOL.out) ?_))
      refine (refSent_any i o _ HOL.out).mono ?_; rintro e w10 ⟨v, rfl, hrow, hnew, hb⟩
      have HT10 := Lib.hid (HT9.out.below hb)
      obtain ⟨A10, c10, rfl⟩ := hrow.form
      have HR10 := Lib.hid hrow
      have HA10 : Hid (∀ a, A10 = some a → ∀ (b : Nat) (v : Value) (l : List Cel), Mk b (w.heap.size + 4) pc off w9 v l → ¬ (a.block = b ∨ v.ownBlock = some a.block)) := by
        intro a ha b v l hm
        have h1 := hnew a _ _ (by rw [ha])
        rintro (e | e)
        · have := hm.lt; omega
        · have := (hm.own.lt _ e).2; omega
      clear hrow hnew hb
      go_wp2_with (first
        | (refine wpList_load_box rfl 44 (.tmp 4) rfl w.heap.size 0 rfl (insV i) (insV i) HT10.out.xb whole_at _ Tryz.underlying44 rfl 5 size_ins5 rfl ?_)
        | (refine wpList_load_box rfl 30 (.tmp 5) rfl (w.heap.size + 1) 0 rfl (oV o) (oV o) HT10.out.ob whole_at _ Tryz.underlying30 rfl 16 (by kernel_rfl) ((oV_len o).trans HOL.out) ?_))
      refine (mkRegs_any 6 A10 c10 _ (sentL o (readsZ i)) _ HT10.out.me (by simp) rfl HR10.out (fun a ha => HA10.out a ha _ _ _ HT9.out.me) HSL.out).mono ?_; rintro e w11 ⟨rfl, hM⟩
      obtain ⟨v11, hT⟩ := HT10.out.e hM
      have HT11 := Lib.hid hT
      clear hM hT
      go_wp2_with (first
        | (refine wpList_load_box rfl 44 (.tmp 4) rfl w.heap.size 0 rfl (insV i) (insV i) HT11.out.xb whole_at _ Tryz.underlying44 rfl 5 size_ins5 rfl ?_)
        | (refine wpList_load_box rfl 30 (.tmp 5) rfl (w.heap.size + 1) 0 rfl (oV o) (oV o) HT11.out.ob whole_at _ Tryz.underlying30 rfl 16 (by kernel_rfl) ((oV_len o).trans HOL.out) ?_))
      refine (mkIns_any 1 i _ HT11.out.me (by have := HSL.out; simp [regsC_len]; omega)).mono ?_; rintro e w12 ⟨rfl, hM⟩
      obtain ⟨v12, hT⟩ := HT11.out.e hM
      have HT12 := Lib.hid hT
      clear hM hT
      have cA : w12.cell? ⟨ba, 2, none⟩ = some v9 := HT12.out.ma.bx.cell (k := 2) rfl
      have cE : w12.cell? ⟨be, 2, none⟩ = some v12 := HT12.out.me.bx.cell (k := 2) rfl
      go_wp2_with fail
      go_quiet (fail)
      go_wp2_with fail
      exact bodyPost_ret (v := .tuple #[v9, v12]) (by simp [results, Tryz.results48, go_sem]) rfl (HT12.out.out (Below.drewN_ (Below.refl _ _) _) (by rw [(emit_1e (z := zeroed o) (pc := pc) (off := off) HR.out HF.out HS.out).1]; rw [HZE.out]; try rfl) (by rw [(emit_1e (z := zeroed o) (pc := pc) (off := off) HR.out HF.out HS.out).2]; rw [HZE.out]; try rfl))
  · rw [hc]
    clear hc
    go_wp2_with (first
      | (refine wpList_load_box rfl 44 (.tmp 4) rfl w.heap.size 0 rfl (insV i) (insV i) HT5.out.xb whole_at _ Tryz.underlying44 rfl 5 size_ins5 rfl ?_)
      | (refine wpList_load_box rfl 30 (.tmp 5) rfl (w.heap.size + 1) 0 rfl (oV o) (oV o) HT5.out.ob whole_at _ Tryz.underlying30 rfl 16 (by kernel_rfl) ((oV_len o).trans HOL.out) ?_))
    refine (refSide_any i o _ HOL.out).mono ?_; rintro e w7 ⟨rfl, hb⟩
    have HT7 := Lib.hid (HT5.out.below hb)
    clear hb
    by_cases hs : sideZ i o = 1
    · have q1 : (sideZ i o == 1) = true := by simpa using hs
      have HS := Lib.hid (HSD.out.trans hs)
      clear hs
      go_wp2_with (first
        | (refine wpList_load_box rfl 44 (.tmp 4) rfl w.heap.size 0 rfl (insV i) (insV i) HT7.out.xb whole_at _ Tryz.underlying44 rfl 5 size_ins5 rfl ?_)
        | (refine wpList_load_box rfl 30 (.tmp 5) rfl (w.heap.size + 1) 0 rfl (oV o) (oV o) HT7.out.ob whole_at _ Tryz.underlying30 rfl 16 (by kernel_rfl) ((oV_len o).trans HOL.out) ?_))
      refine (mkIns_any 1 i _ HT7.out.ma (by simp)).mono ?_; rintro e w8 ⟨rfl, hM⟩
      obtain ⟨v8, hT⟩ := HT7.out.a hM
      have HT8 := Lib.hid hT
      clear hM hT
      have cA : w8.cell? ⟨ba, 2, none⟩ = some v8 := HT8.out.ma.bx.cell (k := 2) rfl
      have cE : w8.cell? ⟨be, 2, none⟩ = some (Value.slice none 0 0) := HT8.out.me.bx.cell (k := 2) rfl
      go_wp2_with fail
      go_quiet (fail)
      go_wp2_with fail
      exact bodyPost_ret (v := .tuple #[v8, (Value.slice none 0 0)]) (by simp [results, Tryz.results48, go_sem]) rfl (HT8.out.out (Below.drewN_ (Below.refl _ _) _) (by rw [(emit_1a (z := zeroed o) (pc := pc) (off := off) HR.out HF.out HS.out).1]; try rfl) (by rw [(emit_1a (z := zeroed o) (pc := pc) (off := off) HR.out HF.out HS.out).2]; try rfl))
    · have q1 : (sideZ i o == 1) = false := by simpa using hs
      have HS := Lib.hid (fun c => hs (HSD.out.symm.trans c) : ¬ sideZ i (zeroed o) = 1)
      clear hs
      go_wp2_with (first
        | (refine wpList_load_box rfl 44 (.tmp 4) rfl w.heap.size 0 rfl (insV i) (insV i) HT7.out.xb whole_at _ Tryz.underlying44 rfl 5 size_ins5 rfl ?_)
        | (refine wpList_load_box rfl 30 (.tmp 5) rfl (w.heap.size + 1) 0 rfl (oV o) (oV o) HT7.out.ob whole_at _ Tryz.underlying30 rfl 16 (by kernel_rfl) ((oV_len o).trans HOL.out) ?_))
      refine (refSent_any i o _ HOL.out).mono ?_; rintro e w8 ⟨v, rfl, hrow, hnew, hb⟩
      have HT8 := Lib.hid (HT7.out.below hb)
      obtain ⟨A8, c8, rfl⟩ := hrow.form
      have HR8 := Lib.hid hrow
      have HA8 : Hid (∀ a, A8 = some a → ∀ (b : Nat) (v : Value) (l : List Cel), Mk b (w.heap.size + 4) pc off w7 v l → ¬ (a.block = b ∨ v.ownBlock = some a.block)) := by
        intro a ha b v l hm
        have h1 := hnew a _ _ (by rw [ha])
        rintro (e | e)
        · have := hm.lt; omega
        · have := (hm.own.lt _ e).2; omega
      clear hrow hnew hb
      go_wp2_with (first
        | (refine wpList_load_box rfl 44 (.tmp 4) rfl w.heap.size 0 rfl (insV i) (insV i) HT8.out.xb whole_at _ Tryz.underlying44 rfl 5 size_ins5 rfl ?_)
        | (refine wpList_load_box rfl 30 (.tmp 5) rfl (w.heap.size + 1) 0 rfl (oV o) (oV o) HT8.out.ob whole_at _ Tryz.underlying30 rfl 16 (by kernel_rfl) ((oV_len o).trans HOL.out) ?_))
      refine (mkRegs_any 5 A8 c8 _ (sentL o (readsZ i)) _ HT8.out.ma (by simp) rfl HR8.out (fun a ha => HA8.out a ha _ _ _ HT7.out.ma) HSL.out).mono ?_; rintro e w9 ⟨rfl, hM⟩
      obtain ⟨v9, hT⟩ := HT8.out.a hM
      have HT9 := Lib.hid hT
      clear hM hT
      go_wp2_with (first
        | (refine wpList_load_box rfl 44 (.tmp 4) rfl w.heap.size 0 rfl (insV i) (insV i) HT9.out.xb whole_at _ Tryz.underlying44 rfl 5 size_ins5 rfl ?_)
        | (refine wpList_load_box rfl 30 (.tmp 5) rfl (w.heap.size + 1) 0 rfl (oV o) (oV o) HT9.out.ob whole_at _ Tryz.underlying30 rfl 16 (by kernel_rfl) ((oV_len o).trans HOL.out) ?_))
      refine (refSent_any i o _ HOL.out).mono ?_; rintro e w10 ⟨v, rfl, hrow, hnew, hb⟩
      have HT10 := Lib.hid (HT9.out.below hb)
      obtain ⟨A10, c10, rfl⟩ := hrow.form
      have HR10 := Lib.hid hrow
      have HA10 : Hid (∀ a, A10 = some a → ∀ (b : Nat) (v : Value) (l : List Cel), Mk b (w.heap.size + 4) pc off w9 v l → ¬ (a.block = b ∨ v.ownBlock = some a.block)) := by
        intro a ha b v l hm
        have h1 := hnew a _ _ (by rw [ha])
        rintro (e | e)
        · have := hm.lt; omega
        · have := (hm.own.lt _ e).2; omega
      clear hrow hnew hb
      go_wp2_with (first
        | (refine wpList_load_box rfl 44 (.tmp 4) rfl w.heap.size 0 rfl (insV i) (insV i) HT10.out.xb whole_at _ Tryz.underlying44 rfl 5 size_ins5 rfl ?_)
        | (refine wpList_load_box rfl 30 (.tmp 5) rfl (w.heap.size + 1) 0 rfl (oV o) (oV o) HT10.out.ob whole_at _ Tryz.underlying30 rfl 16 (by kernel_rfl) ((oV_len o).trans HOL.out) ?_))
      refine (mkRegs_any 6 A10 c10 _ (sentL o (readsZ i)) _ HT10.out.me (by simp) rfl HR10.out (fun a ha => HA10.out a ha _ _ _ HT9.out.me) HSL.out).mono ?_; rintro e w11 ⟨rfl, hM⟩
      obtain ⟨v11, hT⟩ := HT10.out.e hM
      have HT11 := Lib.hid hT
      clear hM hT
      go_wp2_with (first
        | (refine wpList_load_box rfl 44 (.tmp 4) rfl w.heap.size 0 rfl (insV i) (insV i) HT11.out.xb whole_at _ Tryz.underlying44 rfl 5 size_ins5 rfl ?_)
        | (refine wpList_load_box rfl 30 (.tmp 5) rfl (w.heap.size + 1) 0 rfl (oV o) (oV o) HT11.out.ob whole_at _ Tryz.underlying30 rfl 16 (by kernel_rfl) ((oV_len o).trans HOL.out) ?_))
      refine (mkIns_any 1 i _ HT11.out.me (by have := HSL.out; simp [regsC_len]; omega)).mono ?_; rintro e w12 ⟨rfl, hM⟩
      obtain ⟨v12, hT⟩ := HT11.out.e hM
      have HT12 := Lib.hid hT
      clear hM hT
      have cA : w12.cell? ⟨ba, 2, none⟩ = some v9 := HT12.out.ma.bx.cell (k := 2) rfl
      have cE : w12.cell? ⟨be, 2, none⟩ = some v12 := HT12.out.me.bx.cell (k := 2) rfl
      go_wp2_with fail
      go_quiet (fail)
      go_wp2_with fail
      exact bodyPost_ret (v := .tuple #[v9, v12]) (by simp [results, Tryz.results48, go_sem]) rfl (HT12.out.out (Below.drewN_ (Below.refl _ _) _) (by rw [(emit_1e (z := zeroed o) (pc := pc) (off := off) HR.out HF.out HS.out).1]; rw [HZE.out]; try rfl) (by rw [(emit_1e (z := zeroed o) (pc := pc) (off := off) HR.out HF.out HS.out).2]; rw [HZE.out]; try rfl))
end Go.Proofs.YteagglddgkjkmaaGreat.Words

/- Contract of the document's own With: a program's blocks with their cells. -/
namespace Go.Proofs.YteagglddgkjkmaaGreat.Words
set_option maxRecDepth 100000
open Go.RowKit
set_option linter.unusedVariables false
set_option linter.unusedSimpArgs false

set_option maxHeartbeats 2000000 in
theorem refWith_any (A : Option Addr) (c : Nat) (sz : Int) (A' : Option Addr) (m c' : Nat) (l : List Ins) (o : List Int) (w : World) (hr : Row w w.heap.size 5 (.slice A l.length c) l.length (codeCells l)) (hm : m ≤ c') (hc' : c' ≤ 9223372036854775807) (ho : o.length = 16) :
    Calls Tryz.prog 31 #[.agg #[.slice A l.length c, .int .i64 sz, .slice A' m c'], .agg (oV o).toArray] w
      (WithOut w (withZ l sz m o) (ownW l sz m o) (errW l sz m o)) := by
  obtain ⟨i0, hi, hz0, hz1, hz2⟩ := info_parts info_cel
  have HI := Lib.hid hi
  have HZ0 := Lib.hid hz0
  have HZ1 := Lib.hid hz1
  have HZ2 := Lib.hid hz2
  clear hi hz0 hz1 hz2
  obtain ⟨W1, hW1⟩ : ∃ W1, W1 = w.alloc (.cells #[.slice A l.length c, .int .i64 sz, .slice A' m c'] 28) := ⟨_, rfl⟩
  obtain ⟨W2, hW2⟩ : ∃ W2, W2 = W1.alloc (.cells (oV o).toArray 30) := ⟨_, rfl⟩
  obtain ⟨W3, hW3⟩ : ∃ W3, W3 = W2.alloc (.cells zeroSpl.toArray 32) := ⟨_, rfl⟩
  have hz1 : W1.heap.size = w.heap.size + 1 := by rw [hW1]; simp
  have hz2 : W2.heap.size = w.heap.size + 2 := by rw [hW2]; simp [hz1]
  have hz3 : W3.heap.size = w.heap.size + 3 := by rw [hW3]; simp [hz2]
  have HK3 : Hid (Below w.heap.size w W3) := by rw [hW3, hW2, hW1]; exact (((Below.refl w.heap.size w).alloc (Nat.le_refl _) _).alloc (by simp) _).alloc (by simp; omega) _
  have HP3 : Hid (Box W3 w.heap.size [.slice A l.length c, .int .i64 sz, .slice A' m c']) := by rw [hW3, hW2, hW1]; exact ((Box.new w [.slice A l.length c, .int .i64 sz, .slice A' m c'] _).alloc _).alloc _
  have HO3 : Hid (Box W3 (w.heap.size + 1) (oV o)) := by rw [hW3, hW2, ← hz1]; exact (Box.new W1 (oV o) _).alloc _
  have HS3 : Hid (Box W3 (w.heap.size + 2) zeroSpl) := by rw [hW3, ← hz2]; exact Box.new W2 zeroSpl _
  have HR3 := Lib.hid (hr.below HK3.out)
  have HZ3 : Hid (W3.heap.size = w.heap.size + 3) := hz3
  have HOL := Lib.hid ho
  have HCAP := Lib.hid (⟨hm, hc'⟩ : m ≤ c' ∧ c' ≤ 9223372036854775807)
  have HCL := Lib.hid hr.cap
  clear hr hm hc' ho hz1 hz2 hz3
  go_enter Tryz.func31, Tryz.ntmps31
  go_upto_region 1 with (fail)
  change Code.wp _ _ _ _ (((w.alloc (.cells #[.slice A l.length c, .int .i64 sz, .slice A' m c'] 28)).alloc (.cells (oV o).toArray 30)).alloc (.cells zeroSpl.toArray 32))
  rw [← hW1, ← hW2, ← hW3]
  clear hW1 hW2 hW3
  go_wp2_with (first
    | (refine wpList_load_box rfl 28 (.tmp 2) rfl w.heap.size 0 rfl [.slice A l.length c, .int .i64 sz, .slice A' m c'] [.slice A l.length c, .int .i64 sz, .slice A' m c'] HP3.out whole_at _ Tryz.underlying28 rfl 3 size_prg rfl ?_)
    | (refine wpList_load_box rfl 30 (.tmp 3) rfl (w.heap.size + 1) 0 rfl (oV o) (oV o) HO3.out whole_at _ Tryz.underlying30 rfl 16 (by kernel_rfl) ((oV_len o).trans HOL.out) ?_))
  refine (refClosed_any A c sz A' m c' l o _ (HR3.out.more (by have := HZ3.out; omega)) HCAP.out.1 HCAP.out.2 HOL.out).mono ?_; rintro e w4 ⟨rfl, hb⟩
  have HK4 := Lib.hid (HK3.out.trans (hb.mono (by have := HZ3.out; omega)))
  have HP4 := Lib.hid (HP3.out.below hb HP3.out.lt)
  have HO4 := Lib.hid (HO3.out.below hb HO3.out.lt)
  have HS4 := Lib.hid (HS3.out.below hb HS3.out.lt)
  have HZ4 : Hid (w.heap.size + 3 ≤ w4.heap.size) := by have := HZ3.out; have := hb.size; show _ ≤ _; omega
  have HR4 := Lib.hid (HR3.out.below (hb.mono (by have := HZ3.out; omega)))
  clear hb
  cases hcl : closedZ l sz m o
  · have HW := Lib.hid (with_no hcl)
    try dsimp only
    go_wp2_with (first
      | (refine wpList_store_box rfl 32 (.tmp 4) (.tmp 16) rfl (w.heap.size + 2) 0 zeroSpl rfl rfl zeroSpl HS4.out (by decide) 17 size_spl rfl (splV_one rfl) ?_; intro w5 B5 hg5; rw [splice_whole zeroSpl zeroSpl rfl] at B5))
    refine bodyPost_ret (v := .tuple #[.agg zeroSpl.toArray, .int .i64 1]) (results_cell_tmp' Tryz.results31 _ _ _ ⟨w.heap.size + 2, 0, none⟩ _ _ rfl (load_spl rfl B5) rfl) rfl ⟨.slice none 0 0, by rw [HW.out.2.1, HW.out.2.2]; rfl, ?_, ?_⟩
    · rw [HW.out.1]; exact ⟨[], Row.nil _ _ _, NewV.none _, rfl, fun k r c h => by simp at h⟩
    · exact HK4.out.grown hg5 (by have := HZ4.out; omega) (fun q hq => by injection hq with hq; omega)
  · have HW := Lib.hid (with_yes hcl)
    have HC1 := Lib.hid (cut_some hcl)
    clear hcl
    obtain ⟨bs, hbs⟩ : ∃ bs, bs = cutR l sz m := ⟨_, rfl⟩
    have HBS := Lib.hid hbs
    clear hbs
    try dsimp only
    go_wp2_with fail
    have hk4 : Kept w4 w4.drew := (Kept.refl w4).drew
    refine region_tree_ex (fun (act : Act) (B : Nat × Value) => ((((act.put (some 17) (.agg #[.slice A l.length c, .int .i64 sz, .slice A' m c'])).put (some 19) (.agg (oV o).toArray)).put (some 18) B.2).put (some 20) (.agg (splV B.2 o).toArray)).put (some 6) (.pointer (some ⟨B.1, 0, none⟩)))
      (fun B y => Box y B.1 (splV B.2 o) ∧ y.ownsRow w4.heap.size 24 6 B.2 bs.length (flat blkL bs) ∧ Kept w4 y ∧ w4.heap.size ≤ B.1 ∧ B.2.ownBlock ≠ some B.1)
      (LinT.of [(0, true), (2, true)] (.two 1 4 (LinT.of [(3, true), (4, false), (5, false)] .nil) (LinT.of [(1, false), (3, true), (5, false)] .nil)))
      (by kernel_rfl) (by kernel_rfl) rfl (by kernel_rfl) (Kept w4) ?_ ?_
    · simp only [LinT.of, LinT.look, List.getElem?_toArray, List.getElem?_cons_succ, List.getElem?_cons_zero]
      refine tree_load_ex hk4 (by rfl) 28 (.tmp 2) rfl w.heap.size 0 rfl [.slice A l.length c, .int .i64 sz, .slice A' m c'] [.slice A l.length c, .int .i64 sz, .slice A' m c'] (fun y hy => HP4.out.kept hy) whole_at _ Tryz.underlying28 rfl 3 size_prg rfl ?_
      simp only [Act.put, List.setIfInBounds_toArray, List.set_cons_zero, List.set_cons_succ]
      refine tree_load_ex hk4 (by rfl) 30 (.tmp 3) rfl (w.heap.size + 1) 0 rfl (oV o) (oV o) (fun y hy => HO4.out.kept hy) whole_at _ Tryz.underlying30 rfl 16 (by kernel_rfl) ((oV_len o).trans HOL.out) ?_
      simp only [Act.put, List.setIfInBounds_toArray, List.set_cons_zero, List.set_cons_succ]
      refine tree_two hk4 (by rfl) (by rfl) (fun K hK => ?_) (fun K hK => ?_)
      · go_simp
        refine (refCut_any A c sz A' m c' l _ (by exact (HR4.out.more (B' := w4.heap.size) (by have := HZ4.out; omega)).drew) HCAP.out.1 HCAP.out.2).mono ?_; rintro e w5 ⟨v, rfl, hO, hb⟩
        rw [← HBS.out] at hO
        obtain ⟨A5, c5, rfl⟩ := (Row.of_own hO).form
        go_wp2_with fail
        have hk5 := hk4.to hb
        have HO5 := Lib.hid hO
        refine hK.out _ _ hk5 (fun _ => ?_)
        clear hK K hb hO
        (try simp only [Act.put, List.setIfInBounds_toArray, List.set_cons_zero, List.set_cons_succ])
        refine tree_take (v := .agg (splV (.slice A5 bs.length c5) o).toArray) hk5 (by rfl) (fun x hx => exec_built _ _ rfl _ (by simp only [List.map_toArray, List.map_cons, List.map_nil]; exact spl_built A5 bs.length c5 o HOL.out) x) ?_
        (try simp only [Act.put, List.setIfInBounds_toArray, List.set_cons_zero, List.set_cons_succ])
        refine tree_call hk5 (by rfl) (fun K hK => ?_)
        go_simp
        have hk6 : Kept w4 (w5.alloc (.cells zeroSpl.toArray 32)) := hk5.alloc _
        have HB6 := Lib.hid (Box.new w5 zeroSpl 32)
        have HO6 := Lib.hid (HO5.out.alloc (.cells zeroSpl.toArray 32))
        have HNB : Hid ((Value.slice A5 bs.length c5).ownBlock ≠ some w5.heap.size) := fun e => by have := (HO5.out.lt _ e).2; omega
        refine hK.out _ _ hk6 (fun _ => ?_)
        clear hK K
        change wpT _ _ _ _ _ _ _ (w5.alloc (.cells zeroSpl.toArray 32))
        (try simp only [Act.put, List.setIfInBounds_toArray, List.set_cons_zero, List.set_cons_succ])
        refine tree_put_cells hk6 (by rfl) 32 (.tmp 6) (.tmp 20) rfl w5.heap.size 0 (splV (.slice A5 bs.length c5) o) rfl rfl zeroSpl HB6.out (by rw [splV_len HOL.out]; decide) 17 size_spl (splV_len HOL.out) (splV_one rfl) (fun y hy hg => Below.grown hk6 hg hk6.size (fun q hq => by injection hq with hq; have := hk5.size; omega)) ?_
        intro yz hbz hgz
        rw [splice_whole zeroSpl (splV (.slice A5 bs.length c5) o) (by rw [splV_len HOL.out]; rfl)] at hbz
        (try simp only [Act.put, List.setIfInBounds_toArray, List.set_cons_zero, List.set_cons_succ])
        exact tree_done ⟨(w5.heap.size, .slice A5 bs.length c5), rfl, hbz, own_grown HO6.out hgz (fun g e1 e2 => by injection e2 with e2; subst e2; exact HNB.out e1), Below.grown hk6 hgz hk6.size (fun q hq => by injection hq with hq; have := hk5.size; omega), hk5.size, HNB.out⟩
      · go_simp
        have hk5 : Kept w4 (w4.drew.alloc (.cells zeroSpl.toArray 32)) := hk4.alloc _
        have HB5 := Lib.hid (Box.new w4.drew zeroSpl 32)
        refine hK.out _ _ hk5 (fun _ => ?_)
        clear hK K
        change wpT _ _ _ _ _ _ _ (w4.drew.alloc (.cells zeroSpl.toArray 32))
        (try simp only [Act.put, List.setIfInBounds_toArray, List.set_cons_zero, List.set_cons_succ])
        obtain ⟨w5, hw5⟩ : ∃ w5, w5 = w4.drew.alloc (.cells zeroSpl.toArray 32) := ⟨_, rfl⟩
        have HZ5 : Hid (w5.heap.size = w4.heap.size + 1) := by show _ = _; rw [hw5]; simp
        rw [← hw5] at hk5 HB5 ⊢
        clear hw5
        refine tree_call hk5 (by rfl) (fun K hK => ?_)
        go_simp
        refine (refCut_any A c sz A' m c' l _ (by exact (HR4.out.more (by have := HZ4.out; omega)).below hk5 |>.more hk5.size) HCAP.out.1 HCAP.out.2).mono ?_; rintro e w6 ⟨v, rfl, hO, hb⟩
        rw [← HBS.out] at hO
        obtain ⟨A5, c5, rfl⟩ := (Row.of_own hO).form
        go_wp2_with fail
        have hk6 := hk5.to hb
        have HO6 := Lib.hid hO
        have HB6 : Hid (Box w6 w4.heap.size zeroSpl) := HB5.out.below hb HB5.out.lt
        have HNB : Hid ((Value.slice A5 bs.length c5).ownBlock ≠ some w4.heap.size) := fun e => by have := (HO6.out.lt _ e).1; have := HZ5.out; omega
        refine hK.out _ _ hk6 (fun _ => ?_)
        clear hK K hb hO
        (try simp only [Act.put, List.setIfInBounds_toArray, List.set_cons_zero, List.set_cons_succ])
        refine tree_take (v := .agg (splV (.slice A5 bs.length c5) o).toArray) hk6 (by rfl) (fun x hx => exec_built _ _ rfl _ (by simp only [List.map_toArray, List.map_cons, List.map_nil]; exact spl_built A5 bs.length c5 o HOL.out) x) ?_
        (try simp only [Act.put, List.setIfInBounds_toArray, List.set_cons_zero, List.set_cons_succ])
        refine tree_put_cells hk6 (by rfl) 32 (.tmp 6) (.tmp 20) rfl w4.heap.size 0 (splV (.slice A5 bs.length c5) o) rfl rfl zeroSpl HB6.out (by rw [splV_len HOL.out]; decide) 17 size_spl (splV_len HOL.out) (splV_one rfl) (fun y hy hg => Below.grown hk6 hg hk6.size (fun q hq => by injection hq with hq; omega)) ?_
        intro yz hbz hgz
        rw [splice_whole zeroSpl (splV (.slice A5 bs.length c5) o) (by rw [splV_len HOL.out]; rfl)] at hbz
        (try simp only [Act.put, List.setIfInBounds_toArray, List.set_cons_zero, List.set_cons_succ])
        exact tree_done ⟨(w4.heap.size, .slice A5 bs.length c5), rfl, hbz, own_less (own_grown HO6.out hgz (fun g e1 e2 => by injection e2 with e2; subst e2; exact HNB.out e1)) (by have := HZ5.out; omega), Below.grown hk6 hgz hk6.size (fun q hq => by injection hq with hq; omega), Nat.le_refl _, HNB.out⟩
    rintro ⟨BS, v⟩ w7 ⟨hB7, hO7, hk7, hB47, hne⟩
    dsimp only at hB7 hO7 hB47 hne
    obtain ⟨bv, cap, rfl, hbv, hbz⟩ := own_form hO7 (by have := HC1.out.1; rw [← HBS.out] at this; omega)
    have hne' : BS ≠ bv := fun e => hne (by rw [e]; rfl)
    have HNE := Lib.hid hne'
    have HBV : Hid (w.heap.size + 2 < bv) := by have := HZ4.out; show _ < _; omega
    have HC7 : Hid (WithC w.heap.size BS A c sz A' m c' l o (.slice (some ⟨bv, 0, none⟩) bs.length cap) w7) :=
      ⟨HP4.out.kept hk7, HO4.out.kept hk7, HS4.out.kept hk7, hB7, HR4.out.below (hk7.mono (by have := HZ4.out; omega))⟩
    have HF7 : Hid (FsR w4.heap.size bv cap (zeroed o) l bs 0 w7 w7) := FsR.first hO7
    have HK7 := Lib.hid (HK4.out.trans (hk7.mono (by have := HZ4.out; omega)))
    have HLL := Lib.hid HC1.out.2
    have HBE := Lib.hid (fun (k : Nat) (b : Blk) (h : bs[k]? = some b) => blk_ends (l := l) (sz := sz) (m := m) (k := k) (b := b) (by rw [← HBS.out]; exact h))
    have HBL : bs.length ≤ 2000 := by have h1 := cut_len l sz m; rw [← HBS.out] at h1; have := HLL.out; show _ ≤ _; omega
    have HCL2 := HCL.out
    clear hO7 hB7 hk7 hB47 hne hbv hbz hne' hk4
    generalize hn : bs.length = n at HC7 HBL ⊢
    have HBL := Lib.hid HBL
    have HN := Lib.hid hn
    clear hn
    simp only [Act.put, List.setIfInBounds_toArray, List.set_cons_zero, List.set_cons_succ]
    have hq0 : w7.cell? ⟨BS, 0, none⟩ = some (.slice (some ⟨bv, 0, none⟩) n cap) := HC7.out.ft.cell rfl
    have hgn : (0 : Int) ≤ n := by omega
    go_wp2_with fail
    clear hq0
    obtain ⟨ab, ao, rfl, hab, _⟩ := HC7.out.fr.at_ (by have := HC1.out.1; have h1 := cut_len l sz m; omega)
    have HAB := Lib.hid hab
    clear hab
    go_loopw [7] (fun ii wr => ∃ k : Nat, k ≤ n ∧ ii = .int .i64 k ∧ FsR w4.heap.size bv cap (zeroed o) l bs k w7 wr) (fun ii _ => n - (intOf ii).toNat)
    case atStart => exact ⟨0, Nat.zero_le _, rfl, HF7.out⟩
    case round =>
      obtain ⟨k, hkn, rfl, hF⟩ := hrel
      have HFr := Lib.hid hF
      clear hF
      have HCr := Lib.hid (HC7.out.keepS HFr.out.keep HBV.out HNE.out)
      have hq0 : wr.cell? ⟨BS, 0, none⟩ = some (.slice (some ⟨bv, 0, none⟩) n cap) := HCr.out.ft.cell rfl
      by_cases hlt : k < n
      · obtain ⟨b, hb⟩ := bs_at (l := bs) (k := k) (by have := HN.out; omega)
        obtain ⟨f, t, h1, h2, hft, htl⟩ := HBE.out k b hb
        have g0 : (0 : Int) ≤ k := by omega
        have g1 : (k : Int) < n := by omega
        have g2 : (k : Int) ≤ 2000 := by have := HBL.out; omega
        have HF1 := Lib.hid (HFr.out.start hb)
        have c0 := HF1.out.cells.1
        have HB0 := Lib.hid h1
        have HB1 := Lib.hid h2
        have HFT := Lib.hid hft
        have HTL := Lib.hid htl
        rw [h1] at c0
        clear hb h1 h2 hft htl
        obtain ⟨M, hM⟩ : ∃ M, M = wr.heap.size := ⟨_, rfl⟩
        rw [← hM] at HF1
        clear hM
        go_wp2_with fail
        clear hq0 c0
        go_loopw [9] (fun ii wx => ∃ (nn j : Nat) (va ve : Value), nn = f + j ∧ nn ≤ t ∧ ii = .int .i64 nn ∧ Fs w4.heap.size bv cap (zeroed o) l bs k b j j M w7 wx va ve) (fun ii _ => t - (intOf ii).toNat)
        case atStart => exact ⟨f, 0, _, _, rfl, by have := HFT.out; omega, rfl, HF1.out⟩
        case round =>
          obtain ⟨nn, j, va, ve, hnn, hnt, rfl, hF⟩ := hrel
          have HNN := Lib.hid hnn
          obtain ⟨⟨Aa, ka, hva⟩, ⟨Ae, ke, hve⟩⟩ := hF.forms
          obtain ⟨La, hLa⟩ : ∃ La, La = (fillA (zeroed o) l b.from_.toNat j).length := ⟨_, rfl⟩
          obtain ⟨Le, hLe⟩ : ∃ Le, Le = (fillE (zeroed o) l b.from_.toNat j).length := ⟨_, rfl⟩
          rw [← hLa] at hva
          rw [← hLe] at hve
          subst hva hve
          have HLa := Lib.hid hLa
          have HLe := Lib.hid hLe
          have HFx := Lib.hid hF
          clear hF hnn hLa hLe
          have HCx := Lib.hid (HC7.out.keepS HFx.out.keep HBV.out HNE.out)
          obtain ⟨c0, c1, _, _⟩ := HFx.out.cells
          rw [HB0.out] at c0
          rw [HB1.out] at c1
          by_cases hlx : nn < t
          · have hkl : nn < l.length := by have := HTL.out; omega
            obtain ⟨x, hxe⟩ : ∃ x, x = insAtZ l nn := ⟨_, rfl⟩
            have hx : l[nn]? = some x := by rw [hxe]; unfold insAtZ; rw [List.getD_eq_getElem?_getD, List.getElem?_eq_getElem hkl]; rfl
            have HIA := Lib.hid hxe.symm
            clear hxe
            have HIX := Lib.hid (fun (y : World) (hy : Kept wr y) => (HCx.out.fr.below (hy.mono (Nat.le_of_lt HCx.out.fp.lt))).ins hx)
            have ci := HIX.out
            have hsub : (nn : Int) - (f : Int) = (j : Int) := by have := HNN.out; omega
            have g3 : (0 : Int) ≤ nn := by omega
            have g4 : (nn : Int) < t := by omega
            have g5 : (nn : Int) < l.length := by omega
            have g6 : (nn : Int) ≤ 2000 := by have := HLL.out; omega
            have g7 : (j : Int) ≤ 2000 := by have := HLL.out; have := HNN.out; omega
            have g8 : (0 : Int) ≤ j := by omega
            have hwj : IntKind.i64.wrap (j : Int) = j := IntWalk.i64_in _ ⟨by omega, by omega⟩
            have k0 : Kept wr wr.drew := (Kept.refl wr).drew
            have ct := fun (y : World) (hy : Kept wr y) => (HCx.out.fp.kept hy).cell (k := 0) rfl
            have cf := fun (y : World) (hy : Kept wr y) => hy.cell (by have := HFx.out.lt; omega) c0
            have HLF : Hid ((fillA (zeroed o) l b.from_.toNat j).length ≤ 6000 ∧ (fillE (zeroed o) l b.from_.toNat j).length ≤ 6000) := ⟨by have := fillA_len (zeroed o) l b.from_.toNat j; omega, by have := fillE_len (zeroed o) l b.from_.toNat j; omega⟩
            have HLE : Hid ((emitA (zeroed o) x (nn : Int) (j : Int)).length ≤ 3 ∧ (emitE (zeroed o) x (nn : Int) (j : Int)).length ≤ 3) := ⟨emitA_le3 _ _ _ _, emitE_le3 _ _ _ _⟩
            clear hx hkl
            go_upto_region 11 with (fail)
            refine wp_region_lin [(0, true), (1, true), (2, true), (3, true), (4, true), (5, true), (6, true), (7, true), (8, true), (9, true), (10, true), (11, true), (12, true), (13, false), (14, true), (15, true), (16, true), (17, true), (18, true)]
              (by kernel_rfl) (by kernel_rfl) rfl (by kernel_rfl) (Kept wr) ?_
            simp only [List.map_cons, List.map_nil, List.getElem?_toArray, List.getElem?_cons_succ, List.getElem?_cons_zero]
            clear c0 c1
            iterate 5 (refine lin_take (v := ?_) k0 (by rfl) ?_ ?_; rotate_left; (intro y hy; have ct1 := ct y hy; obtain ⟨ci0, ci1, ci2, ci3, ci4⟩ := ci y hy; have cf1 := cf y hy; go_simp; try (with_reducible rfl)); (try simp only [Act.put, List.setIfInBounds_toArray, List.set_cons_zero, List.set_cons_succ]))
            refine lin_take_box k0 rfl 30 (.tmp 3) rfl (w.heap.size + 1) 0 rfl (oV o) (oV o) (fun y hy => HCx.out.fo.kept hy) whole_at _ Tryz.underlying30 rfl 16 (by kernel_rfl) ((oV_len o).trans HOL.out) ?_
            (try simp only [Act.put, List.setIfInBounds_toArray, List.set_cons_zero, List.set_cons_succ])
            iterate 7 (refine lin_take (v := ?_) k0 (by rfl) ?_ ?_; rotate_left; (intro y hy; have ct1 := ct y hy; obtain ⟨ci0, ci1, ci2, ci3, ci4⟩ := ci y hy; have cf1 := cf y hy; go_simp; try (with_reducible rfl)); (try simp only [Act.put, List.setIfInBounds_toArray, List.set_cons_zero, List.set_cons_succ]))
            refine lin_call k0 (by rfl) (fun K hK => ?_)
            go_simp
            refine (refEmit_any x o (nn : Int) (j : Int) _ HOL.out).mono ?_; rintro e w8 ⟨vx, vy, rfl, hrx, hry, hnx, hny, hb8⟩
            go_wp2_with fail
            have HF8 := Lib.hid (HFx.out.drew.below hb8)
            have HRX := Lib.hid hrx
            have HRY := Lib.hid hry
            have HNY := Lib.hid hny
            have k8 : Kept wr w8 := k0.to hb8
            refine hK.out _ _ k8 (fun _ => ?_)
            clear hK K hrx hry hnx hny
            (try simp only [Act.put, List.setIfInBounds_toArray, List.set_cons_zero, List.set_cons_succ])
            iterate 5 (refine lin_take (v := ?_) k8 (by rfl) ?_ ?_; rotate_left; (intro y hy; go_simp; try (with_reducible rfl)); (try simp only [Act.put, List.setIfInBounds_toArray, List.set_cons_zero, List.set_cons_succ]))
            refine lin_done ?_
            obtain ⟨_, _, c4, _⟩ := HF8.out.cells
            clear hb8 k8 k0 ci ct cf
            go_wp2_with (first
              | (refine wpList_append_new _ rfl (.tmp 65) (.tmp 66) 22 rfl M 49 i0 _ 9 72 Tryz.underlying22 HI.out HZ0.out HZ1.out HZ2.out rfl (by omega) (.slice Aa La ka) La (flat celCells (fillA (zeroed o) l b.from_.toNat j)) rfl (by have h8 := HF8.out.oa; rw [← HLa.out] at h8; exact h8) _ vx (emitA (zeroed o) x (nn : Int) (j : Int)).length (flat celCells (emitA (zeroed o) x (nn : Int) (j : Int))) rfl HRX.out (flat_one9 _) (by unfold maxLen; have := HLF.out.1; have := HLa.out; have := HLE.out.1; omega) (by have := HLF.out.1; have := HLa.out; have := HLE.out.1; omega) HF8.out.lt.2.1 ?_; intro v1 w9 hO hg hn; obtain ⟨hF9, qA1, ⟨uA1, qA2⟩, AA1, kA1, rfl⟩ := HF8.out.appA HB0.out (by rw [← HNN.out, HIA.out]) (by rw [← HNN.out, HIA.out]; rw [HLa.out] at hO; exact hO) hg hn; have HF9 := Lib.hid hF9; have HRY2 : Hid (Row (w9.setCell ⟨bv, k * 6 + 4, none⟩ (.slice AA1 ((fillA (zeroed o) l b.from_.toNat j).length + (emitA (zeroed o) x (nn : Int) (j : Int)).length) kA1)) w8.heap.size 9 vy (emitE (zeroed o) x (nn : Int) (j : Int)).length (flat celCells (emitE (zeroed o) x (nn : Int) (j : Int)))) := row_keepN HRY.out HNY.out (Nat.le_refl _) ((KeepS.of_grown (S := fun q => (Value.slice Aa La ka).ownBlock = some q ∨ q = bv) hg (fun g e => .inl e)).setCell (.inr rfl) _ _) (fun q h1 h2 e => e.elim (fun e => by have := (HFx.out.oa.lt _ e).2; have h1 : wr.heap.size ≤ q := h1; omega) (fun e => by have := HFx.out.lt; have h1 : wr.heap.size ≤ q := h1; omega)); have qA5 : w9.cell? ⟨bv, k * 6 + 5, none⟩ = some (.slice Ae Le ke) := (World.cell?_setCell_other _ _ _ _ (by simp)).symm.trans HF9.out.cells.2.2.2; clear hO hg hn hF9)
              | (refine wpList_append_new _ rfl (.tmp 74) (.tmp 75) 22 rfl M 49 i0 _ 9 72 Tryz.underlying22 HI.out HZ0.out HZ1.out HZ2.out rfl (by omega) (.slice Ae Le ke) Le (flat celCells (fillE (zeroed o) l b.from_.toNat j)) rfl (by have h8 := HF9.out.oe; rw [← HLe.out] at h8; exact h8) _ vy (emitE (zeroed o) x (nn : Int) (j : Int)).length (flat celCells (emitE (zeroed o) x (nn : Int) (j : Int))) rfl HRY2.out (flat_one9 _) (by unfold maxLen; have := HLF.out.2; have := HLe.out; have := HLE.out.2; omega) (by have := HLF.out.2; have := HLe.out; have := HLE.out.2; omega) HF9.out.lt.2.1 ?_; intro v2 w11 hO hg hn; obtain ⟨hF9, qE1, ⟨uE1, qE2⟩, AE1, kE1, rfl⟩ := HF9.out.appE HB0.out (by rw [← HNN.out, HIA.out]) (by rw [← HNN.out, HIA.out]; rw [HLe.out] at hO; exact hO) hg hn; have HF10 := Lib.hid hF9; clear hO hg hn hF9))
            go_roundw
            case rel => exact ⟨nn + 1, j + 1, _, _, by have := HNN.out; omega, by omega, by go_num, HF10.out⟩
            case measure => simp only [intOf]; omega
          · have HE : Hid (FsR w4.heap.size bv cap (zeroed o) l bs (k + 1) w7 wr) := HFx.out.rest HB0.out HB1.out (by have := HNN.out; omega)
            go_wp2_with fail
            go_roundw
            case rel => exact ⟨k + 1, by omega, by go_num, HE.out⟩
            case measure => simp only [intOf]; omega
      · have hge : ¬ (k : Int) < n := by omega
        have HE : Hid (FsR w4.heap.size bv cap (zeroed o) l bs bs.length w7 wr) := by rw [HN.out, show n = k by omega]; exact HFr.out
        have HCr := Lib.hid (HC7.out.keepS HFr.out.keep HBV.out HNE.out)
        go_wp2_with (first
          | (refine wpList_load_box rfl 32 (.tmp 6) rfl BS 0 rfl (splV (.slice (some ⟨bv, 0, none⟩) n cap) o) (splV (.slice (some ⟨bv, 0, none⟩) n cap) o) HCr.out.ft whole_at _ Tryz.underlying32 rfl 17 size_spl (splV_len HOL.out) ?_)
          | (refine wpList_store_box rfl 32 (.tmp 4) (.tmp 79) rfl (w.heap.size + 2) 0 (splV (.slice (some ⟨bv, 0, none⟩) n cap) o) rfl rfl zeroSpl HCr.out.fs (by rw [splV_len HOL.out]; decide) 17 size_spl (splV_len HOL.out) (splV_one rfl) ?_; intro w8 B8 hg8; rw [splice_whole zeroSpl (splV (.slice (some ⟨bv, 0, none⟩) n cap) o) (by rw [splV_len HOL.out]; rfl)] at B8))
        refine bodyPost_ret (v := .tuple #[.agg (splV (.slice (some ⟨bv, 0, none⟩) n cap) o).toArray, .int .i64 0]) (results_cell_tmp' Tryz.results31 _ _ _ ⟨w.heap.size + 2, 0, none⟩ _ _ rfl (load_spl HOL.out B8) rfl) rfl ⟨.slice (some ⟨bv, 0, none⟩) n cap, by rw [HW.out.2.1, HW.out.2.2], ?_, ?_⟩
        · rw [HW.out.1, ← HBS.out]
          have hV := HE.out.all_keep (KeepS.of_grown (S := fun j => j = w.heap.size + 2) hg8 (fun q hq => by injection hq with hq; exact hq.symm)) (fun j e => by have := HBV.out; omega) (lo := w.heap.size) (by have := HBV.out; omega)
          rw [HN.out] at hV
          exact hV
        · exact Below.grown (HK7.out.trans (HFr.out.keep.below (B := w.heap.size) (by have := HK7.out.size; omega) (fun j e => by have := HBV.out; omega))) hg8 (by have := HCr.out.fs.lt; omega) (fun q hq => by injection hq with hq; omega)
end Go.Proofs.YteagglddgkjkmaaGreat.Words

/- Small laws of chapter 13: a split's owner has sixteen numbers; a result put into a box of its own. -/
namespace Go.Proofs.YteagglddgkjkmaaGreat.Words
set_option maxRecDepth 100000
open Go.RowKit
set_option linter.unusedVariables false

theorem ownW_len {l : List Ins} {sz : Int} {m : Nat} {o : List Int} (h : o.length = 16) : (ownW l sz m o).length = 16 := by unfold ownW; split; exact h; rfl
/-- A split that a call answers is put into a box of its own: what stood, stands. -/
theorem box_stored {w2 w3 : World} {v : List Value} {t : TypeId} (hg : (w2.alloc (.cells v.toArray t)).grownBy w3 (some w2.heap.size)) : Below w2.heap.size w2 w3 :=
  Below.grown ((Below.refl _ _).alloc (Nat.le_refl _) _) hg (by simp) (fun q hq => by injection hq with hq; omega)
end Go.Proofs.YteagglddgkjkmaaGreat.Words

/- Contracts of the document's own Most and RightSplit of chapter 14. -/
namespace Go.Proofs.YteagglddgkjkmaaGreat.Words
set_option maxRecDepth 100000
open Go.RowKit
set_option linter.unusedVariables false
set_option linter.unusedSimpArgs false

def mostSTo (bs : List BlkC) (j : Nat) : Nat := mostS (bs.take j)
theorem mostSTo_step {bs : List BlkC} {j : Nat} {b : BlkC} (hb : bs[j]? = some b) : mostSTo bs (j + 1) = max (mostSTo bs j) (max (mostZ b.a) (mostZ b.e)) := by
  unfold mostSTo mostS
  rw [List.take_add_one, hb, List.map_append, List.foldl_append]; rfl

set_option maxHeartbeats 2000000 in
theorem refMostS_any (A : Option Addr) (c : Nat) (l : List BlkC) (o : List Int) (w : World) (hv : BlksV w w.heap.size (.slice A l.length c) l) :
    Calls Tryz.prog 14 #[.agg (splV (.slice A l.length c) o).toArray] w fun e w' => e = .returned (.int .i64 (mostS l : Int)) ∧ Below w.heap.size w w' := by
  obtain ⟨W, hW⟩ : ∃ W, W = w.alloc (.cells (splV (.slice A l.length c) o).toArray 32) := ⟨_, rfl⟩
  have hb : Below w.heap.size w W := by rw [hW]; exact (Below.refl w.heap.size w).alloc (Nat.le_refl _) _
  have HB := Lib.hid hb
  have X1 : Hid (Box W w.heap.size (splV (.slice A l.length c) o)) := by rw [hW]; exact Box.new w _ _
  have u1 := hv.cap
  have V := Lib.hid ((hv.below hb).more hb.size)
  have HSp := Lib.hid (fun (h : l.length ≠ 0) => hv.spot h)
  have HA := Lib.hid (fun j (h : j < l.length) => at_someG (l := l) (j := j) h)
  have HST := Lib.hid (fun (j : Nat) (b : BlkC) (h : l[j]? = some b) => mostSTo_step h)
  have HE := Lib.hid (fun (j : Nat) (h : l.length ≤ j) => (show mostSTo l j = mostS l by unfold mostSTo; rw [List.take_of_length_le h]))
  have e0 : mostSTo l 0 = 0 := rfl
  have HE0 := Lib.hid e0
  clear hv hb e0
  go_enter Tryz.func14, Tryz.ntmps14
  go_upto_region 1 with (fail)
  change Code.wp _ _ _ _ (w.alloc (.cells (splV (.slice A l.length c) o).toArray 32))
  rw [← hW]
  clear hW
  generalize l.length = n at *
  go_wp2_with fail
  go_loopw [3, 4] (fun m i wr => ∃ k : Nat, k ≤ n ∧ m = .int .i64 (mostSTo l k : Int) ∧ i = .int .i64 k ∧ Kept W wr) (fun _ i _ => n - (intOf i).toNat)
  case atStart => exact ⟨0, Nat.zero_le _, by rw [HE0.out]; rfl, rfl, Kept.refl _⟩
  case round =>
    obtain ⟨k, hk, rfl, rfl, hK⟩ := hrel
    have HK := Lib.hid hK
    obtain ⟨bst, hbst⟩ : ∃ bst, bst = mostSTo l k := ⟨_, rfl⟩
    rw [← hbst]
    have HBS := Lib.hid hbst
    clear hbst
    have s0 : wr.cell? ⟨w.heap.size, 0, none⟩ = some (.slice A n c) := (X1.out.kept hK).cell (k := 0) rfl
    by_cases hlt : k < n
    · obtain ⟨b, off, rfl⟩ := HSp.out (by omega)
      obtain ⟨x, hx⟩ := HA.out k hlt
      obtain ⟨A3, c3, A5, c5, _, _, _, _, a4, a5, ra, re⟩ := ((V.out.below (w' := wr) hK).more hK.size).at_ hx
      have HRA := Lib.hid ra
      have HRE := Lib.hid re
      have HS := Lib.hid (HST.out k x hx)
      have g0 : (0 : Int) ≤ k := by omega
      have g1 : (k : Int) < n := by omega
      clear hx ra re hK
      go_wp2_with fail
      refine (refMost_any A3 c3 x.a.length x.a wr rfl HRA.out).mono ?_; rintro e w2 ⟨rfl, q, rfl⟩
      have s1 : (wr.drewN q).cell? ⟨w.heap.size, 0, none⟩ = some (.slice (some ⟨b, off, none⟩) n c) := s0
      have a5' : (wr.drewN q).cell? ⟨b, off + k * 6 + 5, none⟩ = some (.slice A5 x.e.length c5) := a5
      obtain ⟨ma, hma⟩ : ∃ ma, ma = mostZ x.a := ⟨_, rfl⟩
      rw [← hma]
      have HMA := Lib.hid hma
      clear hma
      try dsimp only
      go_wp2_with fail
      refine (refMost_any A5 c5 x.e.length x.e (wr.drewN q) rfl (HRE.out.drewN q)).mono ?_; rintro e w3 ⟨rfl, q3, rfl⟩
      obtain ⟨me, hme⟩ : ∃ me, me = mostZ x.e := ⟨_, rfl⟩
      rw [← hme]
      have HME := Lib.hid hme
      clear hme s0 s1 a4 a5 a5'
      have hs2 : mostSTo l (k + 1) = max bst (max ma me) := by rw [HS.out, ← HBS.out, ← HMA.out, ← HME.out]
      have HS2 := Lib.hid hs2
      clear hs2
      try dsimp only
      by_cases h1 : bst < ma
      · have f1 : (bst : Int) < ma := by omega
        by_cases h2 : ma < me
        · have f2 : (ma : Int) < me := by omega
          have hres := Lib.hid (show mostSTo l (k + 1) = me by rw [HS2.out]; omega)
          go_wp2_with fail
          go_roundw
          case rel => exact ⟨k + 1, by omega, by rw [hres.out], by go_num, HK.out.drewN _⟩
          case measure => simp [intOf]; omega
        · have f2 : ¬ (ma : Int) < me := by omega
          have hres := Lib.hid (show mostSTo l (k + 1) = ma by rw [HS2.out]; omega)
          go_wp2_with fail
          go_roundw
          case rel => exact ⟨k + 1, by omega, by rw [hres.out], by go_num, HK.out.drewN _⟩
          case measure => simp [intOf]; omega
      · have f1 : ¬ (bst : Int) < ma := by omega
        by_cases h2 : bst < me
        · have f2 : (bst : Int) < me := by omega
          have hres := Lib.hid (show mostSTo l (k + 1) = me by rw [HS2.out]; omega)
          go_wp2_with fail
          go_roundw
          case rel => exact ⟨k + 1, by omega, by rw [hres.out], by go_num, HK.out.drewN _⟩
          case measure => simp [intOf]; omega
        · have f2 : ¬ (bst : Int) < me := by omega
          have hres := Lib.hid (show mostSTo l (k + 1) = bst by rw [HS2.out]; omega)
          go_wp2_with fail
          go_roundw
          case rel => exact ⟨k + 1, by omega, by rw [hres.out], by go_num, HK.out.drewN _⟩
          case measure => simp [intOf]; omega
    · have hres := Lib.hid (show mostS l = bst by rw [HBS.out]; exact (HE.out k (by omega)).symm)
      go_wp2_with fail
      go_ret
      exact ⟨by rw [hres.out]; rfl, HB.out.trans (HK.out.mono HB.out.size)⟩

/-- Is a split that of a program and its owner? -/
def rightS (l : List Ins) (sz : Int) (m : Nat) (bs : List BlkC) (o : List Int) : Bool := closedZ l sz m o && decide (withZ l sz m o = bs)
set_option maxHeartbeats 2000000 in
theorem refRightS_any (A : Option Addr) (c : Nat) (sz : Int) (A' : Option Addr) (m c' : Nat) (l : List Ins) (Ab : Option Addr) (cb : Nat) (bs : List BlkC) (o : List Int) (w : World) (hr : Row w w.heap.size 5 (.slice A l.length c) l.length (codeCells l)) (hm : m ≤ c') (hc' : c' ≤ 9223372036854775807)
    (hv : BlksV w w.heap.size (.slice Ab bs.length cb) bs) (ho : o.length = 16) :
    Calls Tryz.prog 12 #[.agg #[.slice A l.length c, .int .i64 sz, .slice A' m c'], .agg (splV (.slice Ab bs.length cb) o).toArray] w fun e w' => e = .returned (.bool (rightS l sz m bs o)) ∧ Below w.heap.size w w' := by
  obtain ⟨W1, hW1⟩ : ∃ W1, W1 = w.alloc (.cells #[.slice A l.length c, .int .i64 sz, .slice A' m c'] 28) := ⟨_, rfl⟩
  obtain ⟨W, hW⟩ : ∃ W, W = W1.alloc (.cells (splV (.slice Ab bs.length cb) o).toArray 32) := ⟨_, rfl⟩
  have hz1 : W1.heap.size = w.heap.size + 1 := by rw [hW1]; simp
  have HK : Hid (Below w.heap.size w W) := by rw [hW, hW1]; exact ((Below.refl w.heap.size w).alloc (Nat.le_refl _) _).alloc (by simp) _
  have XP : Hid (Box W w.heap.size [.slice A l.length c, .int .i64 sz, .slice A' m c']) := by rw [hW, hW1]; exact (Box.new w _ _).alloc _
  have XS : Hid (Box W (w.heap.size + 1) (splV (.slice Ab bs.length cb) o)) := by rw [hW, ← hz1]; exact Box.new W1 _ _
  have RC := Lib.hid ((hr.below HK.out).more HK.out.size)
  have VB := Lib.hid ((hv.below HK.out).more HK.out.size)
  have HOL := Lib.hid ho
  have HCAP := Lib.hid (⟨hm, hc'⟩ : m ≤ c' ∧ c' ≤ 9223372036854775807)
  clear hr hm hc' hv ho hz1
  go_enter Tryz.func12, Tryz.ntmps12
  go_upto_region 1 with (fail)
  change Code.wp _ _ _ _ ((w.alloc (.cells #[.slice A l.length c, .int .i64 sz, .slice A' m c'] 28)).alloc (.cells (splV (.slice Ab bs.length cb) o).toArray 32))
  rw [← hW1, ← hW]
  clear hW1 hW
  go_wp2_with (first
    | (refine wpList_load_box rfl 28 (.tmp 2) rfl w.heap.size 0 rfl [.slice A l.length c, .int .i64 sz, .slice A' m c'] [.slice A l.length c, .int .i64 sz, .slice A' m c'] XP.out whole_at _ Tryz.underlying28 rfl 3 size_prg rfl ?_)
    | (refine wpList_load_box rfl 30 (.tmp 9) rfl (w.heap.size + 1) 1 rfl (splV (.slice Ab bs.length cb) o) (oV o) XS.out (fun j u h => spl_own j u h) _ Tryz.underlying30 rfl 16 (by kernel_rfl) ((oV_len o).trans HOL.out) ?_))
  refine (refWith_any A c sz A' m c' l o _ RC.out HCAP.out.1 HCAP.out.2 HOL.out).mono ?_; rintro e w2 ⟨v2, rfl, hv2, hb2⟩
  obtain ⟨L1, hL1⟩ : ∃ L1, L1 = withZ l sz m o := ⟨_, rfl⟩
  obtain ⟨O1, hO1⟩ : ∃ O1, O1 = ownW l sz m o := ⟨_, rfl⟩
  have N1 : Hid (O1.length = 16) := by rw [hO1]; exact ownW_len HOL.out
  rw [← hL1] at hv2
  rw [← hO1]
  have HL1 := Lib.hid hL1
  have HO1 := Lib.hid hO1
  obtain ⟨A2, c2, rfl⟩ := hv2.blks.form
  have HV2 := Lib.hid hv2.blks
  have HB2 := Lib.hid hb2
  have XS2 := Lib.hid (XS.out.below hb2 XS.out.lt)
  have VB2 := Lib.hid ((VB.out.below hb2).more hb2.size)
  have HK2 := Lib.hid (HK.out.trans (hb2.mono HK.out.size))
  clear hL1 hO1 hv2 hb2
  try dsimp only
  go_upto_region 2 with (first
    | (refine wpList_store_box rfl 32 (.tmp 5) (.tmp 12) rfl w2.heap.size 0 (splV (.slice A2 L1.length c2) O1) rfl rfl zeroSpl (Box.new w2 zeroSpl 32) (by rw [splV_len N1.out]; decide) 17 size_spl (splV_len N1.out) (splV_one rfl) ?_; intro y2 B2 hg2; rw [splice_whole zeroSpl (splV (.slice A2 L1.length c2) O1) (by rw [splV_len N1.out]; rfl)] at B2; have HX2 : Hid (Box y2 w2.heap.size (splV (.slice A2 L1.length c2) O1)) := B2; have HS2 := Lib.hid (box_stored hg2); clear B2 hg2))
  have XS3 := Lib.hid (XS2.out.below HS2.out XS2.out.lt)
  have VB3 := Lib.hid ((VB2.out.below HS2.out).more HS2.out.size)
  have HV3 := Lib.hid ((HV2.out.below HS2.out).more HS2.out.size)
  have HK3 := Lib.hid (HK2.out.trans (HS2.out.mono HK2.out.size))
  clear XS2 VB2 HV2 HK2 HB2 VB RC
  cases hcl : closedZ l sz m o
  · obtain ⟨q1, q2, q3⟩ := with_no hcl
    have hres := Lib.hid (show rightS l sz m bs o = false by unfold rightS; rw [hcl]; rfl)
    rw [q3]
    clear q1 q2 q3 hcl
    go_wp2_with fail
    go_ret
    exact ⟨ret_bool hres.out.symm, HK3.out⟩
  · obtain ⟨q1, q2, q3⟩ := with_yes hcl
    have hO : O1 = o := HO1.out.trans q2
    have hres : Hid (decide (L1 = bs ∧ O1 = o) = rightS l sz m bs o) := by
      show _ = _
      unfold rightS; rw [hcl, ← HL1.out, hO]; simp
    rw [q3]
    clear q1 q2 q3 hcl hO
    go_wp2_with (first
      | (refine wpList_load_box rfl 32 (.tmp 5) rfl w2.heap.size 0 rfl (splV (.slice A2 L1.length c2) O1) (splV (.slice A2 L1.length c2) O1) HX2.out whole_at _ Tryz.underlying32 rfl 17 size_spl (splV_len N1.out) ?_)
      | (refine wpList_load_box rfl 32 (.tmp 3) rfl (w.heap.size + 1) 0 rfl (splV (.slice Ab bs.length cb) o) (splV (.slice Ab bs.length cb) o) XS3.out whole_at _ Tryz.underlying32 rfl 17 size_spl (splV_len HOL.out) ?_))
    refine (refSameSpl_any A2 Ab c2 cb L1 bs O1 o _ N1.out HOL.out HV3.out VB3.out).mono ?_; rintro e w4 ⟨rfl, hb4⟩
    rw [hres.out]
    have HE := Lib.hid (HK3.out.trans (hb4.mono HK3.out.size))
    clear hb4
    cases hd : rightS l sz m bs o
    all_goals
      try dsimp only
      go_wp2_with fail
      go_ret
      first | exact ⟨ret_bool hd.symm, HE.out⟩ | exact ⟨by first | rfl | trivial, HE.out⟩ | exact ⟨ret_bool hd, HE.out⟩
end Go.Proofs.YteagglddgkjkmaaGreat.Words

/- Contract of package cert's Most. -/
namespace Go.Proofs.YteagglddgkjkmaaGreat.Words
set_option maxRecDepth 100000
open Go.RowKit
set_option linter.unusedVariables false
set_option linter.unusedSimpArgs false

theorem maxI4 (a b c : Nat) : (if (if a < b then (b : Int) else (a : Int)) < (c : Int) then (c : Int) else if a < b then (b : Int) else (a : Int)) = ((max a (max b c) : Nat) : Int) := by
  by_cases h : a < b
  · rw [if_pos h]
    by_cases g : (b : Int) < c
    · rw [if_pos g]; omega
    · rw [if_neg g]; omega
  · rw [if_neg h]
    by_cases g : (a : Int) < c
    · rw [if_pos g]; omega
    · rw [if_neg g]; omega
set_option maxHeartbeats 4000000 in
theorem mostS_any (A : Option Addr) (c : Nat) (l : List BlkC) (o : List Int) (w : World) (hv : BlksV w w.heap.size (.slice A l.length c) l) (hoff : ∀ b ∈ l, (∀ x ∈ b.a, offOk x.off) ∧ ∀ x ∈ b.e, offOk x.off) :
    Calls Tryz.prog 13 #[.agg (splV (.slice A l.length c) o).toArray] w fun e w' => e = .returned (.int .i64 (mostS l : Int)) ∧ Below w.heap.size w w' := by
  obtain ⟨W, hW⟩ : ∃ W, W = w.alloc (.cells (splV (.slice A l.length c) o).toArray 32) := ⟨_, rfl⟩
  have hb : Below w.heap.size w W := by rw [hW]; exact (Below.refl w.heap.size w).alloc (Nat.le_refl _) _
  have HB := Lib.hid hb
  have X1 : Hid (Box W w.heap.size (splV (.slice A l.length c) o)) := by rw [hW]; exact Box.new w _ _
  have u1 := hv.cap
  have V := Lib.hid ((hv.below hb).more hb.size)
  have HSp := Lib.hid (fun (h : l.length ≠ 0) => hv.spot h)
  have HA := Lib.hid (fun j (h : j < l.length) => at_someG (l := l) (j := j) h)
  have HST := Lib.hid (fun (j : Nat) (b : BlkC) (h : l[j]? = some b) => mostSTo_step h)
  have HOF := Lib.hid (fun (j : Nat) (b : BlkC) (h : l[j]? = some b) => hoff b (List.mem_of_getElem? h))
  have HE := Lib.hid (fun (j : Nat) (h : l.length ≤ j) => (show mostSTo l j = mostS l by unfold mostSTo; rw [List.take_of_length_le h]))
  have e0 : mostSTo l 0 = 0 := rfl
  have HE0 := Lib.hid e0
  have s0 : W.cell? ⟨w.heap.size, 0, none⟩ = some (.slice A l.length c) := X1.out.cell (k := 0) rfl
  clear hv hb e0 hoff
  go_enter Tryz.func13, Tryz.ntmps13
  go_upto_region 1 with (fail)
  change Code.wp _ _ _ _ (w.alloc (.cells (splV (.slice A l.length c) o).toArray 32))
  rw [← hW]
  clear hW
  generalize l.length = n at *
  go_wp2_with fail
  clear s0
  go_loopw [3, 9] (fun m i wr => ∃ k : Nat, k ≤ n ∧ m = .int .i64 (mostSTo l k : Int) ∧ i = .int .i64 k ∧ Kept W wr) (fun _ i _ => n - (intOf i).toNat)
  case atStart => exact ⟨0, Nat.zero_le _, by rw [HE0.out]; rfl, rfl, Kept.refl _⟩
  case round =>
    obtain ⟨k, hk, rfl, rfl, hK⟩ := hrel
    have HK := Lib.hid hK
    obtain ⟨bst, hbst⟩ : ∃ bst, bst = mostSTo l k := ⟨_, rfl⟩
    rw [← hbst]
    have HBS := Lib.hid hbst
    clear hbst
    by_cases hlt : k < n
    · obtain ⟨b, off, rfl⟩ := HSp.out (by omega)
      obtain ⟨x, hx⟩ := HA.out k hlt
      obtain ⟨A3, c3, A5, c5, a0, a1, a2, a3, a4, a5, ra, re⟩ := ((V.out.below (w' := wr) hK).more hK.size).at_ hx
      have HRA := Lib.hid ra
      have HRE := Lib.hid re
      have HS := Lib.hid (HST.out k x hx)
      have HO := Lib.hid (HOF.out k x hx)
      have g0 : (0 : Int) ≤ k := by omega
      have g1 : (k : Int) < n := by omega
      have z1 : b < wr.heap.size := by
        rcases Nat.lt_or_ge b wr.heap.size with h | h
        · exact h
        · simp only [World.cell?] at a0; rw [Array.getElem?_eq_none h] at a0; simp at a0
      clear hx ra re hK
      go_upto_region 5 with (fail)
      change Code.wp _ _ _ _ (wr.alloc (.cells #[.int .i64 x.from_, .int .i64 x.to, .int .i64 x.next, .int .i64 x.taken, .slice A3 x.a.length c3, .slice A5 x.e.length c5] 24))
      obtain ⟨Y, hY⟩ : ∃ Y, Y = wr.alloc (.cells #[.int .i64 x.from_, .int .i64 x.to, .int .i64 x.next, .int .i64 x.taken, .slice A3 x.a.length c3, .slice A5 x.e.length c5] 24) := ⟨_, rfl⟩
      have XK : Hid (Box Y wr.heap.size [.int .i64 x.from_, .int .i64 x.to, .int .i64 x.next, .int .i64 x.taken, .slice A3 x.a.length c3, .slice A5 x.e.length c5]) := by rw [hY]; exact Box.new wr _ _
      have HKY : Hid (Kept W Y) := by rw [hY]; exact HK.out.alloc _
      have HWY : Hid (Kept wr Y) := by rw [hY]; exact (Kept.refl wr).alloc _
      rw [← hY]
      clear hY a0 a1 a2 a3 a4 a5 z1
      refine wp_region_lin [(0, true), (1, true), (2, true), (4, true), (5, true), (3, false), (6, false), (7, true), (8, true)]
        (by kernel_rfl) (by kernel_rfl) rfl (by kernel_rfl) (Kept Y) ?_
      simp only [List.map_cons, List.map_nil, List.getElem?_toArray, List.getElem?_cons_succ, List.getElem?_cons_zero]
      generalize hWD : Y.drew = WD
      have k0 : Kept Y WD := by rw [← hWD]; exact (Kept.refl Y).drew
      clear hWD
      have ca := fun (y : World) (hy : Kept Y y) => (XK.out.kept hy).cell (k := 4) rfl
      have ce := fun (y : World) (hy : Kept Y y) => (XK.out.kept hy).cell (k := 5) rfl
      iterate 5 (refine lin_take (v := ?_) k0 (by rfl) ?_ ?_; rotate_left; (intro y hy; have ca1 := ca y hy; have ce1 := ce y hy; go_simp; try (with_reducible rfl)); (try simp only [Act.put, List.setIfInBounds_toArray, List.set_cons_zero, List.set_cons_succ]))
      clear ca ce
      refine lin_call k0 (by rfl) (fun K hK => ?_)
      go_simp
      refine (mostOf_any A3 c3 x.a.length x.a WD rfl ((HWY.out.trans k0).row HRA.out) HO.out.1).mono ?_; rintro e w2 ⟨rfl, hb2⟩
      go_wp2_with fail
      have k2 := k0.to hb2
      refine hK.out _ _ k2 (fun _ => ?_)
      clear hK K k0 hb2
      refine lin_call k2 (by rfl) (fun K hK => ?_)
      go_simp
      refine (mostOf_any A5 c5 x.e.length x.e w2 rfl ((HWY.out.trans k2).row HRE.out) HO.out.2).mono ?_; rintro e w3 ⟨rfl, hb3⟩
      go_wp2_with fail
      have k3 := k2.to hb3
      refine hK.out _ _ k3 (fun _ => ?_)
      clear hK K k2 hb3
      obtain ⟨ma, hma⟩ : ∃ ma, ma = mostZ x.a := ⟨_, rfl⟩
      obtain ⟨me, hme⟩ : ∃ me, me = mostZ x.e := ⟨_, rfl⟩
      rw [← hma, ← hme]
      have hres := Lib.hid (show mostSTo l (k + 1) = max bst (max ma me) by rw [HS.out, ← HBS.out, ← hma, ← hme])
      clear hma hme
      iterate 2 (refine lin_take (v := ?_) k3 (by rfl) ?_ ?_; rotate_left; (intro y hy; go_simp; try (with_reducible rfl)); (try simp only [Act.put, List.setIfInBounds_toArray, List.set_cons_zero, List.set_cons_succ]))
      refine lin_done ?_
      have HK3 := Lib.hid (HKY.out.trans k3)
      clear k3
      go_wp2_with fail
      go_roundw
      case rel => exact ⟨k + 1, by omega, by rw [hres.out, maxI4], by go_num, HK3.out⟩
      case measure => simp [intOf]; omega
    · have hres := Lib.hid (show mostS l = bst by rw [HBS.out]; exact (HE.out k (by omega)).symm)
      go_wp2_with fail
      go_ret
      exact ⟨by rw [hres.out]; rfl, HB.out.trans (HK.out.mono HB.out.size)⟩
end Go.Proofs.YteagglddgkjkmaaGreat.Words

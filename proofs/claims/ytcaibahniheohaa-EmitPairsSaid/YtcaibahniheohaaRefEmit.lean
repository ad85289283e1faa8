/- Contract of the document's own Emit: the cells that an instruction has on either side. -/
import Derived.Test.YtcaibahniheohaaRefSent
namespace Go.Proofs.Ytcaibahniheohaa.Words
set_option maxRecDepth 100000
open Go.RowKit
set_option linter.unusedVariables false
set_option linter.unusedSimpArgs false

/-- Both makers, and the boxes of what was handed in, all behind world w. -/
structure Tw (i : Ins) (o : List Int) (pc off : Int) (w : World) (ba be : Nat) (Z : World) (va ve : Value) (la le : List Cel) : Prop where
  xb : Box Z w.heap.size (insV i)
  ob : Box Z (w.heap.size + 1) (oV o)
  ma : Mk ba (w.heap.size + 4) pc off Z va la
  me : Mk be (w.heap.size + 4) pc off Z ve le
  ne : ∀ g, va.ownBlock = some g → ve.ownBlock ≠ some g
  kp : Below w.heap.size w Z
  ha : ba = w.heap.size + 2
  he : be = w.heap.size + 3
section
variable {i : Ins} {o : List Int} {pc off : Int} {w Z Y : World} {ba be : Nat} {va ve : Value} {la le l : List Cel}
theorem Tw.below (h : Tw i o pc off w ba be Z va ve la le) (hb : Below Z.heap.size Z Y) : Tw i o pc off w ba be Y va ve la le :=
  ⟨h.xb.below hb h.xb.lt, h.ob.below hb h.ob.lt, h.ma.below hb, h.me.below hb, h.ne, h.kp.trans (hb.mono h.kp.size), h.ha, h.he⟩
theorem Tw.a (h : Tw i o pc off w ba be Z va ve la le) (m : MkOut ba (w.heap.size + 4) pc off va l Z Y) : ∃ v', Tw i o pc off w ba be Y v' ve l le := by
  obtain ⟨v', m1, m2, m3⟩ := m
  have e1 := h.ha
  have e2 := h.he
  have hown : ∀ g, va.ownBlock = some g → w.heap.size + 4 ≤ g := fun g e => (h.ma.own.lt g e).1
  have hne : ∀ g, ve.ownBlock = some g → ¬ (g = ba ∨ va.ownBlock = some g) := by
    rintro g hg (e | e)
    · have := (h.me.own.lt g hg).1; omega
    · exact h.ne g e hg
  refine ⟨v', h.xb.keepS m2 ?_, h.ob.keepS m2 ?_, m1, h.me.keepS m2 ?_ hne, ?_, ?_, h.ha, h.he⟩
  · rintro (e | e)
    · omega
    · have := hown _ e; omega
  · rintro (e | e)
    · omega
    · have := hown _ e; omega
  · rintro (e | e)
    · omega
    · have := hown _ e; omega
  · intro g hg hg2
    rcases m3 g hg with e | e
    · exact h.ne g e hg2
    · have := (h.me.own.lt g hg2).2; omega
  · refine h.kp.trans (m2.below h.kp.size ?_)
    rintro k (e | e)
    · omega
    · have := hown _ e; omega
theorem Tw.e (h : Tw i o pc off w ba be Z va ve la le) (m : MkOut be (w.heap.size + 4) pc off ve l Z Y) : ∃ v', Tw i o pc off w ba be Y va v' la l := by
  obtain ⟨v', m1, m2, m3⟩ := m
  have e1 := h.ha
  have e2 := h.he
  have hown : ∀ g, ve.ownBlock = some g → w.heap.size + 4 ≤ g := fun g e => (h.me.own.lt g e).1
  have hne : ∀ g, va.ownBlock = some g → ¬ (g = be ∨ ve.ownBlock = some g) := by
    rintro g hg (e | e)
    · have := (h.ma.own.lt g hg).1; omega
    · exact h.ne g hg e
  refine ⟨v', h.xb.keepS m2 ?_, h.ob.keepS m2 ?_, h.ma.keepS m2 ?_ hne, m1, ?_, ?_, h.ha, h.he⟩
  · rintro (e | e)
    · omega
    · have := hown _ e; omega
  · rintro (e | e)
    · omega
    · have := hown _ e; omega
  · rintro (e | e)
    · omega
    · have := hown _ e; omega
  · intro g hg hg2
    rcases m3 g hg2 with e | e
    · exact h.ne g hg e
    · have := (h.ma.own.lt g hg).2; omega
  · refine h.kp.trans (m2.below h.kp.size ?_)
    rintro k (e | e)
    · omega
    · have := hown _ e; omega
theorem sent_one (z : List Int) (r : Int) : sentL z [r] = if atO z r = 1 then [r] else [] := by
  unfold sentL putS
  by_cases h : atO z r = 1 <;> simp [h]
/-- What Emit leaves. -/
def EmitOut (w : World) (i : Ins) (z : List Int) (pc off : Int) (e : Ending) (w' : World) : Prop :=
  ∃ va ve, e = .returned (.tuple #[va, ve]) ∧ Row w' w'.heap.size 9 va (emitA z i pc off).length (flat celCells (emitA z i pc off)) ∧ Row w' w'.heap.size 9 ve (emitE z i pc off).length (flat celCells (emitE z i pc off)) ∧ NewV w.heap.size va ∧ NewV w.heap.size ve ∧ Below w.heap.size w w'
theorem Tw.out {z : List Int} (h : Tw i o pc off w ba be Z va ve la le) (hb : Below Z.heap.size Z Y) (hA : emitA z i pc off = la) (hE : emitE z i pc off = le) : EmitOut w i z pc off (.returned (.tuple #[va, ve])) Y := by
  have h2 := h.below hb
  refine ⟨va, ve, rfl, by rw [hA]; exact Row.of_own h2.ma.own, by rw [hE]; exact Row.of_own h2.me.own, ?_, ?_, h2.kp⟩
  · intro a n c hv
    have := NewV.own h2.ma.own a n c hv; omega
  · intro a n c hv
    have := NewV.own h2.me.own a n c hv; omega
end

set_option maxHeartbeats 8000000 in
theorem refEmit_any (i : Ins) (o : List Int) (pc off : Int) (w : World) (ho : o.length = 16) :
    Calls Try.prog 8 #[.agg #[.int .i64 i.op, .int .i64 i.d, .int .i64 i.a, .int .i64 i.b, .int .i64 i.imm], .agg (oV o).toArray, .int .i64 pc, .int .i64 off] w (EmitOut w i (zeroed o) pc off) := by
  obtain ⟨W1, hW1⟩ : ∃ W1, W1 = w.alloc (.cells (insV i).toArray 23) := ⟨_, rfl⟩
  obtain ⟨W2, hW2⟩ : ∃ W2, W2 = W1.alloc (.cells (oV o).toArray 24) := ⟨_, rfl⟩
  obtain ⟨W3, hW3⟩ : ∃ W3, W3 = W2.alloc (.cells #[.int .i64 pc, .int .i64 off, .slice none 0 0] 46) := ⟨_, rfl⟩
  obtain ⟨W4, hW4⟩ : ∃ W4, W4 = W3.alloc (.cells #[.int .i64 pc, .int .i64 off, .slice none 0 0] 46) := ⟨_, rfl⟩
  have hz1 : W1.heap.size = w.heap.size + 1 := by rw [hW1]; simp
  have hz2 : W2.heap.size = w.heap.size + 2 := by rw [hW2]; simp [hz1]
  have hz3 : W3.heap.size = w.heap.size + 3 := by rw [hW3]; simp [hz2]
  have hz4 : W4.heap.size = w.heap.size + 4 := by rw [hW4]; simp [hz3]
  have HT0 : Hid (Tw i o pc off w (w.heap.size + 1 + 1) (w.heap.size + 1 + 1 + 1) W4 (.slice none 0 0) (.slice none 0 0) [] []) := by
    refine ⟨?_, ?_, ⟨?_, World.ownsRow_nil _ _ _ _, by omega, by omega⟩, ⟨?_, World.ownsRow_nil _ _ _ _, by omega, by omega⟩, (fun g h => by cases h), ?_, rfl, rfl⟩
    · rw [hW4, hW3, hW2, hW1]; exact (((Box.new w (insV i) _).alloc _).alloc _).alloc _
    · rw [hW4, hW3, hW2, ← hz1]; exact ((Box.new W1 (oV o) _).alloc _).alloc _
    · rw [hW4, hW3, show w.heap.size + 1 + 1 = W2.heap.size from hz2.symm]; exact (Box.new W2 [.int .i64 pc, .int .i64 off, .slice none 0 0] _).alloc _
    · rw [hW4, show w.heap.size + 1 + 1 + 1 = W3.heap.size from hz3.symm]; exact Box.new W3 [.int .i64 pc, .int .i64 off, .slice none 0 0] _
    · rw [hW4, hW3, hW2, hW1]; exact ((((Below.refl w.heap.size w).alloc (Nat.le_refl _) _).alloc (by simp) _).alloc (by simp; omega) _).alloc (by simp; omega) _
  have HOL := Lib.hid ho
  have HZA := Lib.hid (zeroed_any ho i)
  have HZD := Lib.hid (fun (r : Int) (h0 : 0 ≤ r) (h1 : r ≤ 15) => zeroed_on ho h0 h1)
  have HZO := Lib.hid (fun (r : Int) (h0 : 0 ≤ r) (h1 : r ≤ 15) => zeroed_at ho h0 h1)
  have HZE : Hid (sentL (zeroed o) (readsZ i) = sentL o (readsZ i)) := zeroed_sent ho (fun r hr => by have := reads_mem hr; omega)
  have HZS := Lib.hid (fun (h : rightB i = true) => zeroed_side ho h)
  have HRL := Lib.hid (reads_len i)
  have HSL : Hid ((sentL o (readsZ i)).length ≤ 8) := by have h1 := sent_len o (readsZ i); have := HRL.out; show _ ≤ _; omega
  clear ho hz1 hz2 hz3 hz4
  go_enter Try.func8, Try.ntmps8
  go_upto_region 3 with (fail)
  change Code.wp _ _ _ _ ((((w.alloc (.cells (insV i).toArray 23)).alloc (.cells (oV o).toArray 24)).alloc (.cells #[.int .i64 pc, .int .i64 off, .slice none 0 0] 46)).alloc (.cells #[.int .i64 pc, .int .i64 off, .slice none 0 0] 46))
  rw [← hW1, ← hW2, ← hW3, ← hW4]
  clear hW1 hW2 hW3 hW4
  obtain ⟨ba, hba⟩ : ∃ ba, ba = w.heap.size + 1 + 1 := ⟨_, rfl⟩
  obtain ⟨be, hbe⟩ : ∃ be, be = w.heap.size + 1 + 1 + 1 := ⟨_, rfl⟩
  rw [← hbe, ← hba] at HT0 ⊢
  clear hba hbe
  go_wp2_with (first
    | (refine wpList_load_box rfl 23 (.tmp 4) rfl w.heap.size 0 rfl (insV i) (insV i) HT0.out.xb whole_at _ Try.underlying23 rfl 5 size_ins5 rfl ?_)
    | (refine wpList_load_box rfl 24 (.tmp 5) rfl (w.heap.size + 1) 0 rfl (oV o) (oV o) HT0.out.ob whole_at _ Try.underlying24 rfl 16 (by kernel_rfl) ((oV_len o).trans HOL.out) ?_))
  refine (rightIns_any i _).mono ?_; rintro e w5 ⟨rfl, hb⟩
  have HT5 := Lib.hid (HT0.out.below hb)
  clear hb
  cases hr : rightB i
  · try dsimp only
    go_wp2_with fail
    exact bodyPost_ret (v := .tuple #[.slice none 0 0, .slice none 0 0]) (by simp [results, Try.results8, go_sem]) rfl (HT5.out.out (Below.refl _ _) (emit_no hr).1 (emit_no hr).2)
  have HR := Lib.hid hr
  have HRR := Lib.hid (right_range hr)
  clear hr
  try dsimp only
  have co : w5.cell? ⟨w.heap.size, 0, none⟩ = some (.int .i64 i.op) := HT5.out.xb.cell (k := 0) rfl
  go_wp2_with fail
  refine (refForm_any _ _).mono ?_; rintro e w6 ⟨rfl, rfl⟩
  have hF := formZ_range i.op
  try dsimp only
  by_cases h4 : formZ i.op = 4
  · have HF := Lib.hid h4
    rw [h4]
    clear h4 hF
    have cd : w5.cell? ⟨w.heap.size, 1, none⟩ = some (.int .i64 i.d) := HT5.out.xb.cell (k := 1) rfl
    have HD := Lib.hid (HZD.out i.d HRR.out.2.1.1 HRR.out.2.1.2)
    go_wp2_with (first
      | (refine wpList_load_box rfl 23 (.tmp 4) rfl w.heap.size 0 rfl (insV i) (insV i) HT5.out.xb whole_at _ Try.underlying23 rfl 5 size_ins5 rfl ?_)
      | (refine wpList_load_box rfl 24 (.tmp 5) rfl (w.heap.size + 1) 0 rfl (oV o) (oV o) HT5.out.ob whole_at _ Try.underlying24 rfl 16 (by kernel_rfl) ((oV_len o).trans HOL.out) ?_))
    refine (refOnE_any o i.d _ HOL.out HRR.out.2.1.2).mono ?_; rintro e w7 ⟨rfl, hb⟩
    have HT7 := Lib.hid (HT5.out.below hb)
    clear hb cd co
    cases hq : onEB o i.d
    · try dsimp only
      go_wp2_with (first
        | (refine wpList_load_box rfl 23 (.tmp 4) rfl w.heap.size 0 rfl (insV i) (insV i) HT7.out.xb whole_at _ Try.underlying23 rfl 5 size_ins5 rfl ?_)
        | (refine wpList_load_box rfl 24 (.tmp 5) rfl (w.heap.size + 1) 0 rfl (oV o) (oV o) HT7.out.ob whole_at _ Try.underlying24 rfl 16 (by kernel_rfl) ((oV_len o).trans HOL.out) ?_))
      refine (mkIns_any 2 i _ HT7.out.ma (by simp)).mono ?_; rintro e w8 ⟨rfl, hM⟩
      obtain ⟨v8, hT⟩ := HT7.out.a hM
      have HT8 := Lib.hid hT
      clear hM hT
      have cA : w8.cell? ⟨ba, 2, none⟩ = some v8 := HT8.out.ma.bx.cell (k := 2) rfl
      have cE : w8.cell? ⟨be, 2, none⟩ = some (Value.slice none 0 0) := HT8.out.me.bx.cell (k := 2) rfl
      go_wp2_with fail
      go_quiet (fail)
      go_wp2_with fail
      exact bodyPost_ret (v := .tuple #[v8, (Value.slice none 0 0)]) (by simp [results, Try.results8, go_sem]) rfl (HT8.out.out (Below.drewN_ (Below.refl _ _) _) (by rw [(emit_4a (z := zeroed o) (pc := pc) (off := off) HR.out HF.out (of_decide_eq_false (by rw [HD.out, hq]))).1]; try rfl) (by rw [(emit_4a (z := zeroed o) (pc := pc) (off := off) HR.out HF.out (of_decide_eq_false (by rw [HD.out, hq]))).2]; try rfl))
    · try dsimp only
      go_wp2_with (first
        | (refine wpList_load_box rfl 23 (.tmp 4) rfl w.heap.size 0 rfl (insV i) (insV i) HT7.out.xb whole_at _ Try.underlying23 rfl 5 size_ins5 rfl ?_)
        | (refine wpList_load_box rfl 24 (.tmp 5) rfl (w.heap.size + 1) 0 rfl (oV o) (oV o) HT7.out.ob whole_at _ Try.underlying24 rfl 16 (by kernel_rfl) ((oV_len o).trans HOL.out) ?_))
      refine (mkIns_any 3 i _ HT7.out.ma (by simp)).mono ?_; rintro e w8 ⟨rfl, hM⟩
      obtain ⟨v8, hT⟩ := HT7.out.a hM
      have HT8 := Lib.hid hT
      clear hM hT
      go_wp2_with (first
        | (refine wpList_load_box rfl 23 (.tmp 4) rfl w.heap.size 0 rfl (insV i) (insV i) HT8.out.xb whole_at _ Try.underlying23 rfl 5 size_ins5 rfl ?_)
        | (refine wpList_load_box rfl 24 (.tmp 5) rfl (w.heap.size + 1) 0 rfl (oV o) (oV o) HT8.out.ob whole_at _ Try.underlying24 rfl 16 (by kernel_rfl) ((oV_len o).trans HOL.out) ?_))
      refine (mkIns_any 7 i _ HT8.out.me (by simp)).mono ?_; rintro e w9 ⟨rfl, hM⟩
      obtain ⟨v9, hT⟩ := HT8.out.e hM
      have HT9 := Lib.hid hT
      clear hM hT
      have cA : w9.cell? ⟨ba, 2, none⟩ = some v8 := HT9.out.ma.bx.cell (k := 2) rfl
      have cE : w9.cell? ⟨be, 2, none⟩ = some v9 := HT9.out.me.bx.cell (k := 2) rfl
      go_wp2_with fail
      go_quiet (fail)
      go_wp2_with fail
      exact bodyPost_ret (v := .tuple #[v8, v9]) (by simp [results, Try.results8, go_sem]) rfl (HT9.out.out (Below.drewN_ (Below.refl _ _) _) (by rw [(emit_4e (z := zeroed o) (pc := pc) (off := off) HR.out HF.out (of_decide_eq_true (by rw [HD.out, hq]))).1]; try rfl) (by rw [(emit_4e (z := zeroed o) (pc := pc) (off := off) HR.out HF.out (of_decide_eq_true (by rw [HD.out, hq]))).2]; try rfl))
  by_cases h5 : formZ i.op = 5
  · have HF := Lib.hid h5
    rw [h5]
    clear h4 h5 hF
    have cd : w5.cell? ⟨w.heap.size, 3, none⟩ = some (.int .i64 i.b) := HT5.out.xb.cell (k := 3) rfl
    have HD := Lib.hid (HZO.out i.b HRR.out.2.2.2.1.1 HRR.out.2.2.2.1.2)
    have HSO := Lib.hid (sent_one (zeroed o) i.b)
    go_wp2_with (first
      | (refine wpList_load_box rfl 23 (.tmp 4) rfl w.heap.size 0 rfl (insV i) (insV i) HT5.out.xb whole_at _ Try.underlying23 rfl 5 size_ins5 rfl ?_)
      | (refine wpList_load_box rfl 24 (.tmp 5) rfl (w.heap.size + 1) 0 rfl (oV o) (oV o) HT5.out.ob whole_at _ Try.underlying24 rfl 16 (by kernel_rfl) ((oV_len o).trans HOL.out) ?_))
    refine (refOwned_any o i.b _ HOL.out).mono ?_; rintro e w7 ⟨rfl, hb⟩
    have HT7 := Lib.hid (HT5.out.below hb)
    clear hb cd co
    by_cases hq : ownedZ o i.b = 1
    · have q1 : (ownedZ o i.b == 1) = true := by simpa using hq
      have HQ := Lib.hid hq
      clear hq
      have cb7 : w7.cell? ⟨w.heap.size, 3, none⟩ = some (.int .i64 i.b) := HT7.out.xb.cell (k := 3) rfl
      go_wp2_with (first
        | (refine wpList_load_box rfl 23 (.tmp 4) rfl w.heap.size 0 rfl (insV i) (insV i) HT7.out.xb whole_at _ Try.underlying23 rfl 5 size_ins5 rfl ?_)
        | (refine wpList_load_box rfl 24 (.tmp 5) rfl (w.heap.size + 1) 0 rfl (oV o) (oV o) HT7.out.ob whole_at _ Try.underlying24 rfl 16 (by kernel_rfl) ((oV_len o).trans HOL.out) ?_))
      refine (mkReg_any 5 i.b _ HT7.out.ma (by simp)).mono ?_; rintro e w8 ⟨rfl, hM⟩
      obtain ⟨v8, hT⟩ := HT7.out.a hM
      have HT8 := Lib.hid hT
      clear hM hT
      have cb8 : w8.cell? ⟨w.heap.size, 3, none⟩ = some (.int .i64 i.b) := HT8.out.xb.cell (k := 3) rfl
      go_wp2_with (first
        | (refine wpList_load_box rfl 23 (.tmp 4) rfl w.heap.size 0 rfl (insV i) (insV i) HT8.out.xb whole_at _ Try.underlying23 rfl 5 size_ins5 rfl ?_)
        | (refine wpList_load_box rfl 24 (.tmp 5) rfl (w.heap.size + 1) 0 rfl (oV o) (oV o) HT8.out.ob whole_at _ Try.underlying24 rfl 16 (by kernel_rfl) ((oV_len o).trans HOL.out) ?_))
      refine (mkReg_any 6 i.b _ HT8.out.me (by simp)).mono ?_; rintro e w9 ⟨rfl, hM⟩
      obtain ⟨v9, hT⟩ := HT8.out.e hM
      have HT9 := Lib.hid hT
      clear hM hT
      go_wp2_with (first
        | (refine wpList_load_box rfl 23 (.tmp 4) rfl w.heap.size 0 rfl (insV i) (insV i) HT9.out.xb whole_at _ Try.underlying23 rfl 5 size_ins5 rfl ?_)
        | (refine wpList_load_box rfl 24 (.tmp 5) rfl (w.heap.size + 1) 0 rfl (oV o) (oV o) HT9.out.ob whole_at _ Try.underlying24 rfl 16 (by kernel_rfl) ((oV_len o).trans HOL.out) ?_))
      refine (mkIns_any 4 i _ HT9.out.ma (by simp)).mono ?_; rintro e w10 ⟨rfl, hM⟩
      obtain ⟨v10, hT⟩ := HT9.out.a hM
      have HT10 := Lib.hid hT
      clear hM hT
      have cb10 : w10.cell? ⟨w.heap.size, 3, none⟩ = some (.int .i64 i.b) := HT10.out.xb.cell (k := 3) rfl
      go_wp2_with (first
        | (refine wpList_load_box rfl 23 (.tmp 4) rfl w.heap.size 0 rfl (insV i) (insV i) HT10.out.xb whole_at _ Try.underlying23 rfl 5 size_ins5 rfl ?_)
        | (refine wpList_load_box rfl 24 (.tmp 5) rfl (w.heap.size + 1) 0 rfl (oV o) (oV o) HT10.out.ob whole_at _ Try.underlying24 rfl 16 (by kernel_rfl) ((oV_len o).trans HOL.out) ?_))
      refine (mkReg_any 8 i.b _ HT10.out.me (by simp)).mono ?_; rintro e w11 ⟨rfl, hM⟩
      obtain ⟨v11, hT⟩ := HT10.out.e hM
      have HT11 := Lib.hid hT
      clear hM hT
      have cA : w11.cell? ⟨ba, 2, none⟩ = some v10 := HT11.out.ma.bx.cell (k := 2) rfl
      have cE : w11.cell? ⟨be, 2, none⟩ = some v11 := HT11.out.me.bx.cell (k := 2) rfl
      go_wp2_with fail
      go_quiet (fail)
      go_wp2_with fail
      exact bodyPost_ret (v := .tuple #[v10, v11]) (by simp [results, Try.results8, go_sem]) rfl (HT11.out.out (Below.drewN_ (Below.refl _ _) _) (by rw [(emit_5 (z := zeroed o) (pc := pc) (off := off) HR.out HF.out).1]; rw [HSO.out, if_pos (by rw [HD.out]; exact HQ.out)]; try rfl) (by rw [(emit_5 (z := zeroed o) (pc := pc) (off := off) HR.out HF.out).2]; rw [HSO.out, if_pos (by rw [HD.out]; exact HQ.out)]; try rfl))
    · have q1 : (ownedZ o i.b == 1) = false := by simpa using hq
      have HQ := Lib.hid hq
      clear hq
      go_wp2_with (first
        | (refine wpList_load_box rfl 23 (.tmp 4) rfl w.heap.size 0 rfl (insV i) (insV i) HT7.out.xb whole_at _ Try.underlying23 rfl 5 size_ins5 rfl ?_)
        | (refine wpList_load_box rfl 24 (.tmp 5) rfl (w.heap.size + 1) 0 rfl (oV o) (oV o) HT7.out.ob whole_at _ Try.underlying24 rfl 16 (by kernel_rfl) ((oV_len o).trans HOL.out) ?_))
      refine (mkIns_any 4 i _ HT7.out.ma (by simp)).mono ?_; rintro e w8 ⟨rfl, hM⟩
      obtain ⟨v8, hT⟩ := HT7.out.a hM
      have HT8 := Lib.hid hT
      clear hM hT
      have cb8 : w8.cell? ⟨w.heap.size, 3, none⟩ = some (.int .i64 i.b) := HT8.out.xb.cell (k := 3) rfl
      go_wp2_with (first
        | (refine wpList_load_box rfl 23 (.tmp 4) rfl w.heap.size 0 rfl (insV i) (insV i) HT8.out.xb whole_at _ Try.underlying23 rfl 5 size_ins5 rfl ?_)
        | (refine wpList_load_box rfl 24 (.tmp 5) rfl (w.heap.size + 1) 0 rfl (oV o) (oV o) HT8.out.ob whole_at _ Try.underlying24 rfl 16 (by kernel_rfl) ((oV_len o).trans HOL.out) ?_))
      refine (mkReg_any 8 i.b _ HT8.out.me (by simp)).mono ?_; rintro e w9 ⟨rfl, hM⟩
      obtain ⟨v9, hT⟩ := HT8.out.e hM
      have HT9 := Lib.hid hT
      clear hM hT
      have cA : w9.cell? ⟨ba, 2, none⟩ = some v8 := HT9.out.ma.bx.cell (k := 2) rfl
      have cE : w9.cell? ⟨be, 2, none⟩ = some v9 := HT9.out.me.bx.cell (k := 2) rfl
      go_wp2_with fail
      go_quiet (fail)
      go_wp2_with fail
      exact bodyPost_ret (v := .tuple #[v8, v9]) (by simp [results, Try.results8, go_sem]) rfl (HT9.out.out (Below.drewN_ (Below.refl _ _) _) (by rw [(emit_5 (z := zeroed o) (pc := pc) (off := off) HR.out HF.out).1]; rw [HSO.out, if_neg (by rw [HD.out]; exact HQ.out)]; try rfl) (by rw [(emit_5 (z := zeroed o) (pc := pc) (off := off) HR.out HF.out).2]; rw [HSO.out, if_neg (by rw [HD.out]; exact HQ.out)]; try rfl))
  by_cases h6 : formZ i.op = 6
  · have HF := Lib.hid h6
    rw [h6]
    clear h4 h5 h6 hF co
    go_wp2_with fail
    refine wp_region_lin [(0, true), (1, true), (2, false), (3, false), (4, true)] (by kernel_rfl) (by kernel_rfl) rfl (by kernel_rfl) (Kept w5) ?_
    have k9 : Kept w5 w5.drew := (Kept.refl w5).drew
    simp only [List.map_cons, List.map_nil, List.getElem?_toArray, List.getElem?_cons_succ, List.getElem?_cons_zero]
    refine lin_take_box k9 rfl 24 (.tmp 5) rfl (w.heap.size + 1) 0 rfl (oV o) (oV o) (fun y hy => HT5.out.ob.kept hy) whole_at _ Try.underlying24 rfl 16 (by kernel_rfl) ((oV_len o).trans HOL.out) ?_
    simp only [Act.put, List.setIfInBounds_toArray, List.set_cons_zero, List.set_cons_succ]
    refine lin_take_box k9 rfl 23 (.tmp 4) rfl w.heap.size 0 rfl (insV i) (insV i) (fun y hy => HT5.out.xb.kept hy) whole_at _ Try.underlying23 rfl 5 size_ins5 rfl ?_
    simp only [Act.put, List.setIfInBounds_toArray, List.set_cons_zero, List.set_cons_succ]
    refine lin_call k9 (by rfl) (fun K hK => ?_)
    go_simp
    refine (refReadsN_any i _).mono ?_; rintro e wq ⟨v, rfl, hrow, hnew, hbq⟩
    go_wp2_with fail
    have k10 := k9.to hbq
    obtain ⟨Aq, cq, rfl⟩ := hrow.form
    have HRQ := Lib.hid hrow
    refine hK.out _ _ k10 (fun _ => ?_)
    clear hK K hrow hnew hbq
    try simp only [Act.put, List.setIfInBounds_toArray, List.set_cons_zero, List.set_cons_succ]
    refine lin_call k10 (by rfl) (fun K hK => ?_)
    go_simp
    refine (refAnyE_any Aq cq (readsZ i) o _ HOL.out HRQ.out (fun r hr => by have := reads_mem hr; omega) (by have := HRL.out; omega)).mono ?_; rintro e w7 ⟨rfl, hb7⟩
    go_wp2_with fail
    have k11 := k10.to hb7
    have HT7 := Lib.hid (HT5.out.below k11)
    refine hK.out _ _ k11 (fun _ => ?_)
    clear hK K hb7
    try simp only [Act.put, List.setIfInBounds_toArray, List.set_cons_zero, List.set_cons_succ]
    iterate 1 (refine lin_take (v := ?_) k11 (by rfl) ?_ ?_; rotate_left; (intro x hx; (try dsimp only at hx); go_simp; try (with_reducible rfl)); (try simp only [Act.put, List.setIfInBounds_toArray, List.set_cons_zero, List.set_cons_succ]))
    refine lin_done ?_
    clear k9 k10 k11
    cases ha : anyEB (readsZ i) o
    · try dsimp only
      go_wp2_with (first
        | (refine wpList_load_box rfl 23 (.tmp 4) rfl w.heap.size 0 rfl (insV i) (insV i) HT7.out.xb whole_at _ Try.underlying23 rfl 5 size_ins5 rfl ?_)
        | (refine wpList_load_box rfl 24 (.tmp 5) rfl (w.heap.size + 1) 0 rfl (oV o) (oV o) HT7.out.ob whole_at _ Try.underlying24 rfl 16 (by kernel_rfl) ((oV_len o).trans HOL.out) ?_))
      refine (mkIns_any 9 i _ HT7.out.ma (by simp)).mono ?_; rintro e w8 ⟨rfl, hM⟩
      obtain ⟨v8, hT⟩ := HT7.out.a hM
      have HT8 := Lib.hid hT
      clear hM hT
      go_wp2_with (first
        | (refine wpList_load_box rfl 23 (.tmp 4) rfl w.heap.size 0 rfl (insV i) (insV i) HT8.out.xb whole_at _ Try.underlying23 rfl 5 size_ins5 rfl ?_)
        | (refine wpList_load_box rfl 24 (.tmp 5) rfl (w.heap.size + 1) 0 rfl (oV o) (oV o) HT8.out.ob whole_at _ Try.underlying24 rfl 16 (by kernel_rfl) ((oV_len o).trans HOL.out) ?_))
      refine (mkPlain_any 10 _ HT8.out.me (by simp)).mono ?_; rintro e w9 ⟨rfl, hM⟩
      obtain ⟨v9, hT⟩ := HT8.out.e hM
      have HT9 := Lib.hid hT
      clear hM hT
      have cA : w9.cell? ⟨ba, 2, none⟩ = some v8 := HT9.out.ma.bx.cell (k := 2) rfl
      have cE : w9.cell? ⟨be, 2, none⟩ = some v9 := HT9.out.me.bx.cell (k := 2) rfl
      go_wp2_with fail
      go_quiet (fail)
      go_wp2_with fail
      exact bodyPost_ret (v := .tuple #[v8, v9]) (by simp [results, Try.results8, go_sem]) rfl (HT9.out.out (Below.drewN_ (Below.refl _ _) _) (by rw [(emit_6a (z := zeroed o) (pc := pc) (off := off) HR.out HF.out (by rw [HZA.out]; exact ha)).1]; try rfl) (by rw [(emit_6a (z := zeroed o) (pc := pc) (off := off) HR.out HF.out (by rw [HZA.out]; exact ha)).2]; try rfl))
    · try dsimp only
      go_wp2_with (first
        | (refine wpList_load_box rfl 23 (.tmp 4) rfl w.heap.size 0 rfl (insV i) (insV i) HT7.out.xb whole_at _ Try.underlying23 rfl 5 size_ins5 rfl ?_)
        | (refine wpList_load_box rfl 24 (.tmp 5) rfl (w.heap.size + 1) 0 rfl (oV o) (oV o) HT7.out.ob whole_at _ Try.underlying24 rfl 16 (by kernel_rfl) ((oV_len o).trans HOL.out) ?_))
      refine (refSent_any i o _ HOL.out).mono ?_; rintro e w8 ⟨v, rfl, hrow, hnew, hb⟩
      have HT8 := Lib.hid (HT7.out.below hb)
      obtain ⟨A8, c8, rfl⟩ := hrow.form
      have HR8 := Lib.hid hrow
      have HA8 : Hid (∀ a, A8 = some a → ∀ (b : Nat) (v : Value) (l : List Cel), Mk b (w.heap.size + 4) pc off w7 v l → ¬ (a.block = b ∨ v.ownBlock = some a.block)) := by
        intro a ha b v l hm
        have h1 := hnew a _ _ (by rw [ha])
        rintro (e | e)
        · have := hm.lt; omega
        · have := (hm.own.lt _ e).2; omega
      clear hrow hnew hb
      go_wp2_with (first
        | (refine wpList_load_box rfl 23 (.tmp 4) rfl w.heap.size 0 rfl (insV i) (insV i) HT8.out.xb whole_at _ Try.underlying23 rfl 5 size_ins5 rfl ?_)
        | (refine wpList_load_box rfl 24 (.tmp 5) rfl (w.heap.size + 1) 0 rfl (oV o) (oV o) HT8.out.ob whole_at _ Try.underlying24 rfl 16 (by kernel_rfl) ((oV_len o).trans HOL.out) ?_))
      refine (mkRegs_any 5 A8 c8 _ (sentL o (readsZ i)) _ HT8.out.ma (by simp) rfl HR8.out (fun a ha => HA8.out a ha _ _ _ HT7.out.ma) HSL.out).mono ?_; rintro e w9 ⟨rfl, hM⟩
      obtain ⟨v9, hT⟩ := HT8.out.a hM
      have HT9 := Lib.hid hT
      clear hM hT
      go_wp2_with (first
        | (refine wpList_load_box rfl 23 (.tmp 4) rfl w.heap.size 0 rfl (insV i) (insV i) HT9.out.xb whole_at _ Try.underlying23 rfl 5 size_ins5 rfl ?_)
        | (refine wpList_load_box rfl 24 (.tmp 5) rfl (w.heap.size + 1) 0 rfl (oV o) (oV o) HT9.out.ob whole_at _ Try.underlying24 rfl 16 (by kernel_rfl) ((oV_len o).trans HOL.out) ?_))
      refine (mkPlain_any 10 _ HT9.out.ma (by have := HSL.out; simp [regsC_len]; omega)).mono ?_; rintro e w10 ⟨rfl, hM⟩
      obtain ⟨v10, hT⟩ := HT9.out.a hM
      have HT10 := Lib.hid hT
      clear hM hT
      go_wp2_with (first
        | (refine wpList_load_box rfl 23 (.tmp 4) rfl w.heap.size 0 rfl (insV i) (insV i) HT10.out.xb whole_at _ Try.underlying23 rfl 5 size_ins5 rfl ?_)
        | (refine wpList_load_box rfl 24 (.tmp 5) rfl (w.heap.size + 1) 0 rfl (oV o) (oV o) HT10.out.ob whole_at _ Try.underlying24 rfl 16 (by kernel_rfl) ((oV_len o).trans HOL.out) ?_))
      refine (refSent_any i o _ HOL.out).mono ?_; rintro e w11 ⟨v, rfl, hrow, hnew, hb⟩
      have HT11 := Lib.hid (HT10.out.below hb)
      obtain ⟨A11, c11, rfl⟩ := hrow.form
      have HR11 := Lib.hid hrow
      have HA11 : Hid (∀ a, A11 = some a → ∀ (b : Nat) (v : Value) (l : List Cel), Mk b (w.heap.size + 4) pc off w10 v l → ¬ (a.block = b ∨ v.ownBlock = some a.block)) := by
        intro a ha b v l hm
        have h1 := hnew a _ _ (by rw [ha])
        rintro (e | e)
        · have := hm.lt; omega
        · have := (hm.own.lt _ e).2; omega
      clear hrow hnew hb
      go_wp2_with (first
        | (refine wpList_load_box rfl 23 (.tmp 4) rfl w.heap.size 0 rfl (insV i) (insV i) HT11.out.xb whole_at _ Try.underlying23 rfl 5 size_ins5 rfl ?_)
        | (refine wpList_load_box rfl 24 (.tmp 5) rfl (w.heap.size + 1) 0 rfl (oV o) (oV o) HT11.out.ob whole_at _ Try.underlying24 rfl 16 (by kernel_rfl) ((oV_len o).trans HOL.out) ?_))
      refine (mkRegs_any 6 A11 c11 _ (sentL o (readsZ i)) _ HT11.out.me (by simp) rfl HR11.out (fun a ha => HA11.out a ha _ _ _ HT10.out.me) HSL.out).mono ?_; rintro e w12 ⟨rfl, hM⟩
      obtain ⟨v12, hT⟩ := HT11.out.e hM
      have HT12 := Lib.hid hT
      clear hM hT
      go_wp2_with (first
        | (refine wpList_load_box rfl 23 (.tmp 4) rfl w.heap.size 0 rfl (insV i) (insV i) HT12.out.xb whole_at _ Try.underlying23 rfl 5 size_ins5 rfl ?_)
        | (refine wpList_load_box rfl 24 (.tmp 5) rfl (w.heap.size + 1) 0 rfl (oV o) (oV o) HT12.out.ob whole_at _ Try.underlying24 rfl 16 (by kernel_rfl) ((oV_len o).trans HOL.out) ?_))
      refine (mkIns_any 9 i _ HT12.out.me (by have := HSL.out; simp [regsC_len]; omega)).mono ?_; rintro e w13 ⟨rfl, hM⟩
      obtain ⟨v13, hT⟩ := HT12.out.e hM
      have HT13 := Lib.hid hT
      clear hM hT
      have cA : w13.cell? ⟨ba, 2, none⟩ = some v10 := HT13.out.ma.bx.cell (k := 2) rfl
      have cE : w13.cell? ⟨be, 2, none⟩ = some v13 := HT13.out.me.bx.cell (k := 2) rfl
      go_wp2_with fail
      go_quiet (fail)
      go_wp2_with fail
      exact bodyPost_ret (v := .tuple #[v10, v13]) (by simp [results, Try.results8, go_sem]) rfl (HT13.out.out (Below.drewN_ (Below.refl _ _) _) (by rw [(emit_6e (z := zeroed o) (pc := pc) (off := off) HR.out HF.out (by rw [HZA.out]; exact ha)).1]; rw [HZE.out]; try rfl) (by rw [(emit_6e (z := zeroed o) (pc := pc) (off := off) HR.out HF.out (by rw [HZA.out]; exact ha)).2]; rw [HZE.out]; try rfl))
  by_cases h7 : formZ i.op = 7
  · have HF := Lib.hid h7
    rw [h7]
    clear h4 h5 h6 h7 hF co
    go_wp2_with (first
      | (refine wpList_load_box rfl 23 (.tmp 4) rfl w.heap.size 0 rfl (insV i) (insV i) HT5.out.xb whole_at _ Try.underlying23 rfl 5 size_ins5 rfl ?_)
      | (refine wpList_load_box rfl 24 (.tmp 5) rfl (w.heap.size + 1) 0 rfl (oV o) (oV o) HT5.out.ob whole_at _ Try.underlying24 rfl 16 (by kernel_rfl) ((oV_len o).trans HOL.out) ?_))
    refine (mkPlain_any 11 _ HT5.out.ma (by simp)).mono ?_; rintro e w7 ⟨rfl, hM⟩
    obtain ⟨v7, hT⟩ := HT5.out.a hM
    have HT7 := Lib.hid hT
    clear hM hT
    go_wp2_with (first
      | (refine wpList_load_box rfl 23 (.tmp 4) rfl w.heap.size 0 rfl (insV i) (insV i) HT7.out.xb whole_at _ Try.underlying23 rfl 5 size_ins5 rfl ?_)
      | (refine wpList_load_box rfl 24 (.tmp 5) rfl (w.heap.size + 1) 0 rfl (oV o) (oV o) HT7.out.ob whole_at _ Try.underlying24 rfl 16 (by kernel_rfl) ((oV_len o).trans HOL.out) ?_))
    refine (mkPlain_any 11 _ HT7.out.me (by simp)).mono ?_; rintro e w8 ⟨rfl, hM⟩
    obtain ⟨v8, hT⟩ := HT7.out.e hM
    have HT8 := Lib.hid hT
    clear hM hT
    have cA : w8.cell? ⟨ba, 2, none⟩ = some v7 := HT8.out.ma.bx.cell (k := 2) rfl
    have cE : w8.cell? ⟨be, 2, none⟩ = some v8 := HT8.out.me.bx.cell (k := 2) rfl
    go_wp2_with fail
    go_quiet (fail)
    go_wp2_with fail
    exact bodyPost_ret (v := .tuple #[v7, v8]) (by simp [results, Try.results8, go_sem]) rfl (HT8.out.out (Below.drewN_ (Below.refl _ _) _) (by rw [(emit_7 (z := zeroed o) (pc := pc) (off := off) HR.out HF.out).1]; try rfl) (by rw [(emit_7 (z := zeroed o) (pc := pc) (off := off) HR.out HF.out).2]; try rfl))
  by_cases h8 : formZ i.op = 8
  · have HF := Lib.hid h8
    rw [h8]
    clear h4 h5 h6 h7 h8 hF co
    go_wp2_with (first
      | (refine wpList_load_box rfl 23 (.tmp 4) rfl w.heap.size 0 rfl (insV i) (insV i) HT5.out.xb whole_at _ Try.underlying23 rfl 5 size_ins5 rfl ?_)
      | (refine wpList_load_box rfl 24 (.tmp 5) rfl (w.heap.size + 1) 0 rfl (oV o) (oV o) HT5.out.ob whole_at _ Try.underlying24 rfl 16 (by kernel_rfl) ((oV_len o).trans HOL.out) ?_))
    refine (mkPlain_any 12 _ HT5.out.ma (by simp)).mono ?_; rintro e w7 ⟨rfl, hM⟩
    obtain ⟨v7, hT⟩ := HT5.out.a hM
    have HT7 := Lib.hid hT
    clear hM hT
    go_wp2_with (first
      | (refine wpList_load_box rfl 23 (.tmp 4) rfl w.heap.size 0 rfl (insV i) (insV i) HT7.out.xb whole_at _ Try.underlying23 rfl 5 size_ins5 rfl ?_)
      | (refine wpList_load_box rfl 24 (.tmp 5) rfl (w.heap.size + 1) 0 rfl (oV o) (oV o) HT7.out.ob whole_at _ Try.underlying24 rfl 16 (by kernel_rfl) ((oV_len o).trans HOL.out) ?_))
    refine (mkPlain_any 12 _ HT7.out.me (by simp)).mono ?_; rintro e w8 ⟨rfl, hM⟩
    obtain ⟨v8, hT⟩ := HT7.out.e hM
    have HT8 := Lib.hid hT
    clear hM hT
    have cA : w8.cell? ⟨ba, 2, none⟩ = some v7 := HT8.out.ma.bx.cell (k := 2) rfl
    have cE : w8.cell? ⟨be, 2, none⟩ = some v8 := HT8.out.me.bx.cell (k := 2) rfl
    go_wp2_with fail
    go_quiet (fail)
    go_wp2_with fail
    exact bodyPost_ret (v := .tuple #[v7, v8]) (by simp [results, Try.results8, go_sem]) rfl (HT8.out.out (Below.drewN_ (Below.refl _ _) _) (by rw [(emit_8 (z := zeroed o) (pc := pc) (off := off) HR.out HF.out).1]; try rfl) (by rw [(emit_8 (z := zeroed o) (pc := pc) (off := off) HR.out HF.out).2]; try rfl))
  have hf3 : formZ i.op ≤ 3 := by omega
  have hf1 : 1 ≤ formZ i.op := by
    have h1 := (HRR.out).1
    have := formZ_cases i.op
    omega
  have HF := Lib.hid hf3
  have HSD := Lib.hid (HZS.out HR.out)
  have hcases : formZ i.op = 1 ∨ formZ i.op = 2 ∨ formZ i.op = 3 := by omega
  clear h4 h5 h6 h7 h8 hF hf3 hf1 co
  rcases hcases with hc | hc | hc
  · rw [hc]
    clear hc
    go_wp2_with (first
      | (refine wpList_load_box rfl 23 (.tmp 4) rfl w.heap.size 0 rfl (insV i) (insV i) HT5.out.xb whole_at _ Try.underlying23 rfl 5 size_ins5 rfl ?_)
      | (refine wpList_load_box rfl 24 (.tmp 5) rfl (w.heap.size + 1) 0 rfl (oV o) (oV o) HT5.out.ob whole_at _ Try.underlying24 rfl 16 (by kernel_rfl) ((oV_len o).trans HOL.out) ?_))
    refine (refSide_any i o _ HOL.out).mono ?_; rintro e w7 ⟨rfl, hb⟩
    have HT7 := Lib.hid (HT5.out.below hb)
    clear hb
    by_cases hs : sideZ i o = 1
    · have q1 : (sideZ i o == 1) = true := by simpa using hs
      have HS := Lib.hid (HSD.out.trans hs)
      clear hs
      go_wp2_with (first
        | (refine wpList_load_box rfl 23 (.tmp 4) rfl w.heap.size 0 rfl (insV i) (insV i) HT7.out.xb whole_at _ Try.underlying23 rfl 5 size_ins5 rfl ?_)
        | (refine wpList_load_box rfl 24 (.tmp 5) rfl (w.heap.size + 1) 0 rfl (oV o) (oV o) HT7.out.ob whole_at _ Try.underlying24 rfl 16 (by kernel_rfl) ((oV_len o).trans HOL.out) ?_))
      refine (mkIns_any 1 i _ HT7.out.ma (by simp)).mono ?_; rintro e w8 ⟨rfl, hM⟩
      obtain ⟨v8, hT⟩ := HT7.out.a hM
      have HT8 := Lib.hid hT
      clear hM hT
      have cA : w8.cell? ⟨ba, 2, none⟩ = some v8 := HT8.out.ma.bx.cell (k := 2) rfl
      have cE : w8.cell? ⟨be, 2, none⟩ = some (Value.slice none 0 0) := HT8.out.me.bx.cell (k := 2) rfl
      go_wp2_with fail
      go_quiet (fail)
      go_wp2_with fail
      exact bodyPost_ret (v := .tuple #[v8, (Value.slice none 0 0)]) (by simp [results, Try.results8, go_sem]) rfl (HT8.out.out (Below.drewN_ (Below.refl _ _) _) (by rw [(emit_1a (z := zeroed o) (pc := pc) (off := off) HR.out HF.out HS.out).1]; try rfl) (by rw [(emit_1a (z := zeroed o) (pc := pc) (off := off) HR.out HF.out HS.out).2]; try rfl))
    · have q1 : (sideZ i o == 1) = false := by simpa using hs
      have HS := Lib.hid (fun c => hs (HSD.out.symm.trans c) : ¬ sideZ i (zeroed o) = 1)
      clear hs
      go_wp2_with (first
        | (refine wpList_load_box rfl 23 (.tmp 4) rfl w.heap.size 0 rfl (insV i) (insV i) HT7.out.xb whole_at _ Try.underlying23 rfl 5 size_ins5 rfl ?_)
        | (refine wpList_load_box rfl 24 (.tmp 5) rfl (w.heap.size + 1) 0 rfl (oV o) (oV o) HT7.out.ob whole_at _ Try.underlying24 rfl 16 (by kernel_rfl) ((oV_len o).trans HOL.out) ?_))
      refine (refSent_any i o _ HOL.out).mono ?_; rintro e w8 ⟨v, rfl, hrow, hnew, hb⟩
      have HT8 := Lib.hid (HT7.out.below hb)
      obtain ⟨A8, c8, rfl⟩ := hrow.form
      have HR8 := Lib.hid hrow
      have HA8 : Hid (∀ a, A8 = some a → ∀ (b : Nat) (v : Value) (l : List Cel), Mk b (w.heap.size + 4) pc off w7 v l → ¬ (a.block = b ∨ v.ownBlock = some a.block)) := by
        intro a ha b v l hm
        have h1 := hnew a _ _ (by rw [ha])
        rintro (e | e)
        · have := hm.lt; omega
        · have := (hm.own.lt _ e).2; omega
      clear hrow hnew hb
      go_wp2_with (first
        | (refine wpList_load_box rfl 23 (.tmp 4) rfl w.heap.size 0 rfl (insV i) (insV i) HT8.out.xb whole_at _ Try.underlying23 rfl 5 size_ins5 rfl ?_)
        | (refine wpList_load_box rfl 24 (.tmp 5) rfl (w.heap.size + 1) 0 rfl (oV o) (oV o) HT8.out.ob whole_at _ Try.underlying24 rfl 16 (by kernel_rfl) ((oV_len o).trans HOL.out) ?_))
      refine (mkRegs_any 5 A8 c8 _ (sentL o (readsZ i)) _ HT8.out.ma (by simp) rfl HR8.out (fun a ha => HA8.out a ha _ _ _ HT7.out.ma) HSL.out).mono ?_; rintro e w9 ⟨rfl, hM⟩
      obtain ⟨v9, hT⟩ := HT8.out.a hM
      have HT9 := Lib.hid hT
      clear hM hT
      go_wp2_with (first
        | (refine wpList_load_box rfl 23 (.tmp 4) rfl w.heap.size 0 rfl (insV i) (insV i) HT9.out.xb whole_at _ Try.underlying23 rfl 5 size_ins5 rfl ?_)
        | (refine wpList_load_box rfl 24 (.tmp 5) rfl (w.heap.size + 1) 0 rfl (oV o) (oV o) HT9.out.ob whole_at _ Try.underlying24 rfl 16 (by kernel_rfl) ((oV_len o).trans HOL.out) ?_))
      refine (refSent_any i o _ HOL.out).mono ?_; rintro e w10 ⟨v, rfl, hrow, hnew, hb⟩
      have HT10 := Lib.hid (HT9.out.below hb)
      obtain ⟨A10, c10, rfl⟩ := hrow.form
      have HR10 := Lib.hid hrow
      have HA10 : Hid (∀ a, A10 = some a → ∀ (b : Nat) (v : Value) (l : List Cel), Mk b (w.heap.size + 4) pc off w9 v l → ¬ (a.block = b ∨ v.ownBlock = some a.block)) := by
        intro a ha b v l hm
        have h1 := hnew a _ _ (by rw [ha])
        rintro (e | e)
        · have := hm.lt; omega
        · have := (hm.own.lt _ e).2; omega
      clear hrow hnew hb
      go_wp2_with (first
        | (refine wpList_load_box rfl 23 (.tmp 4) rfl w.heap.size 0 rfl (insV i) (insV i) HT10.out.xb whole_at _ Try.underlying23 rfl 5 size_ins5 rfl ?_)
        | (refine wpList_load_box rfl 24 (.tmp 5) rfl (w.heap.size + 1) 0 rfl (oV o) (oV o) HT10.out.ob whole_at _ Try.underlying24 rfl 16 (by kernel_rfl) ((oV_len o).trans HOL.out) ?_))
      refine (mkRegs_any 6 A10 c10 _ (sentL o (readsZ i)) _ HT10.out.me (by simp) rfl HR10.out (fun a ha => HA10.out a ha _ _ _ HT9.out.me) HSL.out).mono ?_; rintro e w11 ⟨rfl, hM⟩
      obtain ⟨v11, hT⟩ := HT10.out.e hM
      have HT11 := Lib.hid hT
      clear hM hT
      go_wp2_with (first
        | (refine wpList_load_box rfl 23 (.tmp 4) rfl w.heap.size 0 rfl (insV i) (insV i) HT11.out.xb whole_at _ Try.underlying23 rfl 5 size_ins5 rfl ?_)
        | (refine wpList_load_box rfl 24 (.tmp 5) rfl (w.heap.size + 1) 0 rfl (oV o) (oV o) HT11.out.ob whole_at _ Try.underlying24 rfl 16 (by kernel_rfl) ((oV_len o).trans HOL.out) ?_))
      refine (mkIns_any 1 i _ HT11.out.me (by have := HSL.out; simp [regsC_len]; omega)).mono ?_; rintro e w12 ⟨rfl, hM⟩
      obtain ⟨v12, hT⟩ := HT11.out.e hM
      have HT12 := Lib.hid hT
      clear hM hT
      have cA : w12.cell? ⟨ba, 2, none⟩ = some v9 := HT12.out.ma.bx.cell (k := 2) rfl
      have cE : w12.cell? ⟨be, 2, none⟩ = some v12 := HT12.out.me.bx.cell (k := 2) rfl
      go_wp2_with fail
      go_quiet (fail)
      go_wp2_with fail
      exact bodyPost_ret (v := .tuple #[v9, v12]) (by simp [results, Try.results8, go_sem]) rfl (HT12.out.out (Below.drewN_ (Below.refl _ _) _) (by rw [(emit_1e (z := zeroed o) (pc := pc) (off := off) HR.out HF.out HS.out).1]; rw [HZE.out]; try rfl) (by rw [(emit_1e (z := zeroed o) (pc := pc) (off := off) HR.out HF.out HS.out).2]; rw [HZE.out]; try rfl))
  · rw [hc]
    clear hc
    go_wp2_with (first
      | (refine wpList_load_box rfl 23 (.tmp 4) rfl w.heap.size 0 rfl (insV i) (insV i) HT5.out.xb whole_at _ Try.underlying23 rfl 5 size_ins5 rfl ?_)
      | (refine wpList_load_box rfl 24 (.tmp 5) rfl (w.heap.size + 1) 0 rfl (oV o) (oV o) HT5.out.ob whole_at _ Try.underlying24 rfl 16 (by kernel_rfl) ((oV_len o).trans HOL.out) ?_))
    refine (refSide_any i o _ HOL.out).mono ?_; rintro e w7 ⟨rfl, hb⟩
    have HT7 := Lib.hid (HT5.out.below hb)
    clear hb
    by_cases hs : sideZ i o = 1
    · have q1 : (sideZ i o == 1) = true := by simpa using hs
      have HS := Lib.hid (HSD.out.trans hs)
      clear hs
      go_wp2_with (first
        | (refine wpList_load_box rfl 23 (.tmp 4) rfl w.heap.size 0 rfl (insV i) (insV i) HT7.out.xb whole_at _ Try.underlying23 rfl 5 size_ins5 rfl ?_)
        | (refine wpList_load_box rfl 24 (.tmp 5) rfl (w.heap.size + 1) 0 rfl (oV o) (oV o) HT7.out.ob whole_at _ Try.underlying24 rfl 16 (by kernel_rfl) ((oV_len o).trans HOL.out) ?_))
      refine (mkIns_any 1 i _ HT7.out.ma (by simp)).mono ?_; rintro e w8 ⟨rfl, hM⟩
      obtain ⟨v8, hT⟩ := HT7.out.a hM
      have HT8 := Lib.hid hT
      clear hM hT
      have cA : w8.cell? ⟨ba, 2, none⟩ = some v8 := HT8.out.ma.bx.cell (k := 2) rfl
      have cE : w8.cell? ⟨be, 2, none⟩ = some (Value.slice none 0 0) := HT8.out.me.bx.cell (k := 2) rfl
      go_wp2_with fail
      go_quiet (fail)
      go_wp2_with fail
      exact bodyPost_ret (v := .tuple #[v8, (Value.slice none 0 0)]) (by simp [results, Try.results8, go_sem]) rfl (HT8.out.out (Below.drewN_ (Below.refl _ _) _) (by rw [(emit_1a (z := zeroed o) (pc := pc) (off := off) HR.out HF.out HS.out).1]; try rfl) (by rw [(emit_1a (z := zeroed o) (pc := pc) (off := off) HR.out HF.out HS.out).2]; try rfl))
    · have q1 : (sideZ i o == 1) = false := by simpa using hs
      have HS := Lib.hid (fun c => hs (HSD.out.symm.trans c) : ¬ sideZ i (zeroed o) = 1)
      clear hs
      go_wp2_with (first
        | (refine wpList_load_box rfl 23 (.tmp 4) rfl w.heap.size 0 rfl (insV i) (insV i) HT7.out.xb whole_at _ Try.underlying23 rfl 5 size_ins5 rfl ?_)
        | (refine wpList_load_box rfl 24 (.tmp 5) rfl (w.heap.size + 1) 0 rfl (oV o) (oV o) HT7.out.ob whole_at _ Try.underlying24 rfl 16 (by kernel_rfl) ((oV_len o).trans HOL.out) ?_))
      refine (refSent_any i o _ HOL.out).mono ?_; rintro e w8 ⟨v, rfl, hrow, hnew, hb⟩
      have HT8 := Lib.hid (HT7.out.below hb)
      obtain ⟨A8, c8, rfl⟩ := hrow.form
      have HR8 := Lib.hid hrow
      have HA8 : Hid (∀ a, A8 = some a → ∀ (b : Nat) (v : Value) (l : List Cel), Mk b (w.heap.size + 4) pc off w7 v l → ¬ (a.block = b ∨ v.ownBlock = some a.block)) := by
        intro a ha b v l hm
        have h1 := hnew a _ _ (by rw [ha])
        rintro (e | e)
        · have := hm.lt; omega
        · have := (hm.own.lt _ e).2; omega
      clear hrow hnew hb
      go_wp2_with (first
        | (refine wpList_load_box rfl 23 (.tmp 4) rfl w.heap.size 0 rfl (insV i) (insV i) HT8.out.xb whole_at _ Try.underlying23 rfl 5 size_ins5 rfl ?_)
        | (refine wpList_load_box rfl 24 (.tmp 5) rfl (w.heap.size + 1) 0 rfl (oV o) (oV o) HT8.out.ob whole_at _ Try.underlying24 rfl 16 (by kernel_rfl) ((oV_len o).trans HOL.out) ?_))
      refine (mkRegs_any 5 A8 c8 _ (sentL o (readsZ i)) _ HT8.out.ma (by simp) rfl HR8.out (fun a ha => HA8.out a ha _ _ _ HT7.out.ma) HSL.out).mono ?_; rintro e w9 ⟨rfl, hM⟩
      obtain ⟨v9, hT⟩ := HT8.out.a hM
      have HT9 := Lib.hid hT
      clear hM hT
      go_wp2_with (first
        | (refine wpList_load_box rfl 23 (.tmp 4) rfl w.heap.size 0 rfl (insV i) (insV i) HT9.out.xb whole_at _ Try.underlying23 rfl 5 size_ins5 rfl ?_)
        | (refine wpList_load_box rfl 24 (.tmp 5) rfl (w.heap.size + 1) 0 rfl (oV o) (oV o) HT9.out.ob whole_at _ Try.underlying24 rfl 16 (by kernel_rfl) ((oV_len o).trans HOL.out) ?_))
      refine (refSent_any i o _ HOL.out).mono ?_; rintro e w10 ⟨v, rfl, hrow, hnew, hb⟩
      have HT10 := Lib.hid (HT9.out.below hb)
      obtain ⟨A10, c10, rfl⟩ := hrow.form
      have HR10 := Lib.hid hrow
      have HA10 : Hid (∀ a, A10 = some a → ∀ (b : Nat) (v : Value) (l : List Cel), Mk b (w.heap.size + 4) pc off w9 v l → ¬ (a.block = b ∨ v.ownBlock = some a.block)) := by
        intro a ha b v l hm
        have h1 := hnew a _ _ (by rw [ha])
        rintro (e | e)
        · have := hm.lt; omega
        · have := (hm.own.lt _ e).2; omega
      clear hrow hnew hb
      go_wp2_with (first
        | (refine wpList_load_box rfl 23 (.tmp 4) rfl w.heap.size 0 rfl (insV i) (insV i) HT10.out.xb whole_at _ Try.underlying23 rfl 5 size_ins5 rfl ?_)
        | (refine wpList_load_box rfl 24 (.tmp 5) rfl (w.heap.size + 1) 0 rfl (oV o) (oV o) HT10.out.ob whole_at _ Try.underlying24 rfl 16 (by kernel_rfl) ((oV_len o).trans HOL.out) ?_))
      refine (mkRegs_any 6 A10 c10 _ (sentL o (readsZ i)) _ HT10.out.me (by simp) rfl HR10.out (fun a ha => HA10.out a ha _ _ _ HT9.out.me) HSL.out).mono ?_; rintro e w11 ⟨rfl, hM⟩
      obtain ⟨v11, hT⟩ := HT10.out.e hM
      have HT11 := Lib.hid hT
      clear hM hT
      go_wp2_with (first
        | (refine wpList_load_box rfl 23 (.tmp 4) rfl w.heap.size 0 rfl (insV i) (insV i) HT11.out.xb whole_at _ Try.underlying23 rfl 5 size_ins5 rfl ?_)
        | (refine wpList_load_box rfl 24 (.tmp 5) rfl (w.heap.size + 1) 0 rfl (oV o) (oV o) HT11.out.ob whole_at _ Try.underlying24 rfl 16 (by kernel_rfl) ((oV_len o).trans HOL.out) ?_))
      refine (mkIns_any 1 i _ HT11.out.me (by have := HSL.out; simp [regsC_len]; omega)).mono ?_; rintro e w12 ⟨rfl, hM⟩
      obtain ⟨v12, hT⟩ := HT11.out.e hM
      have HT12 := Lib.hid hT
      clear hM hT
      have cA : w12.cell? ⟨ba, 2, none⟩ = some v9 := HT12.out.ma.bx.cell (k := 2) rfl
      have cE : w12.cell? ⟨be, 2, none⟩ = some v12 := HT12.out.me.bx.cell (k := 2) rfl
      go_wp2_with fail
      go_quiet (fail)
      go_wp2_with fail
      exact bodyPost_ret (v := .tuple #[v9, v12]) (by simp [results, Try.results8, go_sem]) rfl (HT12.out.out (Below.drewN_ (Below.refl _ _) _) (by rw [(emit_1e (z := zeroed o) (pc := pc) (off := off) HR.out HF.out HS.out).1]; rw [HZE.out]; try rfl) (by rw [(emit_1e (z := zeroed o) (pc := pc) (off := off) HR.out HF.out HS.out).2]; rw [HZE.out]; try rfl))
  · rw [hc]
    clear hc
    go_wp2_with (first
      | (refine wpList_load_box rfl 23 (.tmp 4) rfl w.heap.size 0 rfl (insV i) (insV i) HT5.out.xb whole_at _ Try.underlying23 rfl 5 size_ins5 rfl ?_)
      | (refine wpList_load_box rfl 24 (.tmp 5) rfl (w.heap.size + 1) 0 rfl (oV o) (oV o) HT5.out.ob whole_at _ Try.underlying24 rfl 16 (by kernel_rfl) ((oV_len o).trans HOL.out) ?_))
    refine (refSide_any i o _ HOL.out).mono ?_; rintro e w7 ⟨rfl, hb⟩
    have HT7 := Lib.hid (HT5.out.below hb)
    clear hb
    by_cases hs : sideZ i o = 1
    · have q1 : (sideZ i o == 1) = true := by simpa using hs
      have HS := Lib.hid (HSD.out.trans hs)
      clear hs
      go_wp2_with (first
        | (refine wpList_load_box rfl 23 (.tmp 4) rfl w.heap.size 0 rfl (insV i) (insV i) HT7.out.xb whole_at _ Try.underlying23 rfl 5 size_ins5 rfl ?_)
        | (refine wpList_load_box rfl 24 (.tmp 5) rfl (w.heap.size + 1) 0 rfl (oV o) (oV o) HT7.out.ob whole_at _ Try.underlying24 rfl 16 (by kernel_rfl) ((oV_len o).trans HOL.out) ?_))
      refine (mkIns_any 1 i _ HT7.out.ma (by simp)).mono ?_; rintro e w8 ⟨rfl, hM⟩
      obtain ⟨v8, hT⟩ := HT7.out.a hM
      have HT8 := Lib.hid hT
      clear hM hT
      have cA : w8.cell? ⟨ba, 2, none⟩ = some v8 := HT8.out.ma.bx.cell (k := 2) rfl
      have cE : w8.cell? ⟨be, 2, none⟩ = some (Value.slice none 0 0) := HT8.out.me.bx.cell (k := 2) rfl
      go_wp2_with fail
      go_quiet (fail)
      go_wp2_with fail
      exact bodyPost_ret (v := .tuple #[v8, (Value.slice none 0 0)]) (by simp [results, Try.results8, go_sem]) rfl (HT8.out.out (Below.drewN_ (Below.refl _ _) _) (by rw [(emit_1a (z := zeroed o) (pc := pc) (off := off) HR.out HF.out HS.out).1]; try rfl) (by rw [(emit_1a (z := zeroed o) (pc := pc) (off := off) HR.out HF.out HS.out).2]; try rfl))
    · have q1 : (sideZ i o == 1) = false := by simpa using hs
      have HS := Lib.hid (fun c => hs (HSD.out.symm.trans c) : ¬ sideZ i (zeroed o) = 1)
      clear hs
      go_wp2_with (first
        | (refine wpList_load_box rfl 23 (.tmp 4) rfl w.heap.size 0 rfl (insV i) (insV i) HT7.out.xb whole_at _ Try.underlying23 rfl 5 size_ins5 rfl ?_)
        | (refine wpList_load_box rfl 24 (.tmp 5) rfl (w.heap.size + 1) 0 rfl (oV o) (oV o) HT7.out.ob whole_at _ Try.underlying24 rfl 16 (by kernel_rfl) ((oV_len o).trans HOL.out) ?_))
      refine (refSent_any i o _ HOL.out).mono ?_; rintro e w8 ⟨v, rfl, hrow, hnew, hb⟩
      have HT8 := Lib.hid (HT7.out.below hb)
      obtain ⟨A8, c8, rfl⟩ := hrow.form
      have HR8 := Lib.hid hrow
      have HA8 : Hid (∀ a, A8 = some a → ∀ (b : Nat) (v : Value) (l : List Cel), Mk b (w.heap.size + 4) pc off w7 v l → ¬ (a.block = b ∨ v.ownBlock = some a.block)) := by
        intro a ha b v l hm
        have h1 := hnew a _ _ (by rw [ha])
        rintro (e | e)
        · have := hm.lt; omega
        · have := (hm.own.lt _ e).2; omega
      clear hrow hnew hb
      go_wp2_with (first
        | (refine wpList_load_box rfl 23 (.tmp 4) rfl w.heap.size 0 rfl (insV i) (insV i) HT8.out.xb whole_at _ Try.underlying23 rfl 5 size_ins5 rfl ?_)
        | (refine wpList_load_box rfl 24 (.tmp 5) rfl (w.heap.size + 1) 0 rfl (oV o) (oV o) HT8.out.ob whole_at _ Try.underlying24 rfl 16 (by kernel_rfl) ((oV_len o).trans HOL.out) ?_))
      refine (mkRegs_any 5 A8 c8 _ (sentL o (readsZ i)) _ HT8.out.ma (by simp) rfl HR8.out (fun a ha => HA8.out a ha _ _ _ HT7.out.ma) HSL.out).mono ?_; rintro e w9 ⟨rfl, hM⟩
      obtain ⟨v9, hT⟩ := HT8.out.a hM
      have HT9 := Lib.hid hT
      clear hM hT
      go_wp2_with (first
        | (refine wpList_load_box rfl 23 (.tmp 4) rfl w.heap.size 0 rfl (insV i) (insV i) HT9.out.xb whole_at _ Try.underlying23 rfl 5 size_ins5 rfl ?_)
        | (refine wpList_load_box rfl 24 (.tmp 5) rfl (w.heap.size + 1) 0 rfl (oV o) (oV o) HT9.out.ob whole_at _ Try.underlying24 rfl 16 (by kernel_rfl) ((oV_len o).trans HOL.out) ?_))
      refine (refSent_any i o _ HOL.out).mono ?_; rintro e w10 ⟨v, rfl, hrow, hnew, hb⟩
      have HT10 := Lib.hid (HT9.out.below hb)
      obtain ⟨A10, c10, rfl⟩ := hrow.form
      have HR10 := Lib.hid hrow
      have HA10 : Hid (∀ a, A10 = some a → ∀ (b : Nat) (v : Value) (l : List Cel), Mk b (w.heap.size + 4) pc off w9 v l → ¬ (a.block = b ∨ v.ownBlock = some a.block)) := by
        intro a ha b v l hm
        have h1 := hnew a _ _ (by rw [ha])
        rintro (e | e)
        · have := hm.lt; omega
        · have := (hm.own.lt _ e).2; omega
      clear hrow hnew hb
      go_wp2_with (first
        | (refine wpList_load_box rfl 23 (.tmp 4) rfl w.heap.size 0 rfl (insV i) (insV i) HT10.out.xb whole_at _ Try.underlying23 rfl 5 size_ins5 rfl ?_)
        | (refine wpList_load_box rfl 24 (.tmp 5) rfl (w.heap.size + 1) 0 rfl (oV o) (oV o) HT10.out.ob whole_at _ Try.underlying24 rfl 16 (by kernel_rfl) ((oV_len o).trans HOL.out) ?_))
      refine (mkRegs_any 6 A10 c10 _ (sentL o (readsZ i)) _ HT10.out.me (by simp) rfl HR10.out (fun a ha => HA10.out a ha _ _ _ HT9.out.me) HSL.out).mono ?_; rintro e w11 ⟨rfl, hM⟩
      obtain ⟨v11, hT⟩ := HT10.out.e hM
      have HT11 := Lib.hid hT
      clear hM hT
      go_wp2_with (first
        | (refine wpList_load_box rfl 23 (.tmp 4) rfl w.heap.size 0 rfl (insV i) (insV i) HT11.out.xb whole_at _ Try.underlying23 rfl 5 size_ins5 rfl ?_)
        | (refine wpList_load_box rfl 24 (.tmp 5) rfl (w.heap.size + 1) 0 rfl (oV o) (oV o) HT11.out.ob whole_at _ Try.underlying24 rfl 16 (by kernel_rfl) ((oV_len o).trans HOL.out) ?_))
      refine (mkIns_any 1 i _ HT11.out.me (by have := HSL.out; simp [regsC_len]; omega)).mono ?_; rintro e w12 ⟨rfl, hM⟩
      obtain ⟨v12, hT⟩ := HT11.out.e hM
      have HT12 := Lib.hid hT
      clear hM hT
      have cA : w12.cell? ⟨ba, 2, none⟩ = some v9 := HT12.out.ma.bx.cell (k := 2) rfl
      have cE : w12.cell? ⟨be, 2, none⟩ = some v12 := HT12.out.me.bx.cell (k := 2) rfl
      go_wp2_with fail
      go_quiet (fail)
      go_wp2_with fail
      exact bodyPost_ret (v := .tuple #[v9, v12]) (by simp [results, Try.results8, go_sem]) rfl (HT12.out.out (Below.drewN_ (Below.refl _ _) _) (by rw [(emit_1e (z := zeroed o) (pc := pc) (off := off) HR.out HF.out HS.out).1]; rw [HZE.out]; try rfl) (by rw [(emit_1e (z := zeroed o) (pc := pc) (off := off) HR.out HF.out HS.out).2]; rw [HZE.out]; try rfl))
end Go.Proofs.Ytcaibahniheohaa.Words

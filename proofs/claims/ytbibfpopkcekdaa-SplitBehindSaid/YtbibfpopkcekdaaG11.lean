/- Several texts in one: RefEmit, RefWith, OnrMath2, OnrOf. -/
import Derived.Test.YtbibfpopkcekdaaG10
import Derived.Test.YtbibfpopkcekdaaG07
import Derived.Test.YtbibfpopkcekdaaG00
import Derived.Test.YtbibfpopkcekdaaG05

/- Contract of the document's own Emit: the cells that an instruction has on either side. -/
namespace Go.Proofs.Ytbibfpopkcekdaa.Words
set_option maxRecDepth 100000
open Go.RowKit
set_option linter.unusedVariables false
set_option linter.unusedSimpArgs false

/-- Both makers, and the boxes of what was handed in, all behind world w. -/
structure Tw (i : Ins) (o : List Int) (pc off : Int) (w : World) (ba be : Nat) (Z : World) (va ve : Value) (la le : List Cel) : Prop where
  xb : Box Z w.heap.size (insV i)
  ob : Box Z (w.heap.size + 1) (oV o)
  ma : Mk ba (w.heap.size + 4) pc off Z va la
  me : Mk be (w.heap.size + 4) pc off Z ve le
  ne : ∀ g, va.ownBlock = some g → ve.ownBlock ≠ some g
  kp : Below w.heap.size w Z
  ha : ba = w.heap.size + 2
  he : be = w.heap.size + 3
section
variable {i : Ins} {o : List Int} {pc off : Int} {w Z Y : World} {ba be : Nat} {va ve : Value} {la le l : List Cel}
theorem Tw.below (h : Tw i o pc off w ba be Z va ve la le) (hb : Below Z.heap.size Z Y) : Tw i o pc off w ba be Y va ve la le :=
  ⟨h.xb.below hb h.xb.lt, h.ob.below hb h.ob.lt, h.ma.below hb, h.me.below hb, h.ne, h.kp.trans (hb.mono h.kp.size), h.ha, h.he⟩
theorem Tw.a (h : Tw i o pc off w ba be Z va ve la le) (m : MkOut ba (w.heap.size + 4) pc off va l Z Y) : ∃ v', Tw i o pc off w ba be Y v' ve l le := by
  obtain ⟨v', m1, m2, m3⟩ := m
  have e1 := h.ha
  have e2 := h.he
  have hown : ∀ g, va.ownBlock = some g → w.heap.size + 4 ≤ g := fun g e => (h.ma.own.lt g e).1
  have hne : ∀ g, ve.ownBlock = some g → ¬ (g = ba ∨ va.ownBlock = some g) := by
    rintro g hg (e | e)
    · have := (h.me.own.lt g hg).1; omega
    · exact h.ne g e hg
  refine ⟨v', h.xb.keepS m2 ?_, h.ob.keepS m2 ?_, m1, h.me.keepS m2 ?_ hne, ?_, ?_, h.ha, h.he⟩
  · rintro (e | e)
    · omega
    · have := hown _ e; omega
  · rintro (e | e)
    · omega
    · have := hown _ e; omega
  · rintro (e | e)
    · omega
    · have := hown _ e; omega
  · intro g hg hg2
    rcases m3 g hg with e | e
    · exact h.ne g e hg2
    · have := (h.me.own.lt g hg2).2; omega
  · refine h.kp.trans (m2.below h.kp.size ?_)
    rintro k (e | e)
    · omega
    · have := hown _ e; omega
theorem Tw.e (h : Tw i o pc off w ba be Z va ve la le) (m : MkOut be (w.heap.size + 4) pc off ve l Z Y) : ∃ v', Tw i o pc off w ba be Y va v' la l := by
  obtain ⟨v', m1, m2, m3⟩ := m
  have e1 := h.ha
  have e2 := h.he
  have hown : ∀ g, ve.ownBlock = some g → w.heap.size + 4 ≤ g := fun g e => (h.me.own.lt g e).1
  have hne : ∀ g, va.ownBlock = some g → ¬ (g = be ∨ ve.ownBlock = some g) := by
    rintro g hg (e | e)
    · have := (h.ma.own.lt g hg).1; omega
    · exact h.ne g hg e
  refine ⟨v', h.xb.keepS m2 ?_, h.ob.keepS m2 ?_, h.ma.keepS m2 ?_ hne, m1, ?_, ?_, h.ha, h.he⟩
  · rintro (e | e)
    · omega
    · have := hown _ e; omega
  · rintro (e | e)
    · omega
    · have := hown _ e; omega
  · rintro (e | e)
    · omega
    · have := hown _ e; omega
  · intro g hg hg2
    rcases m3 g hg2 with e | e
    · exact h.ne g hg e
    · have := (h.ma.own.lt g hg).2; omega
  · refine h.kp.trans (m2.below h.kp.size ?_)
    rintro k (e | e)
    · omega
    · have := hown _ e; omega
theorem sent_one (z : List Int) (r : Int) : sentL z [r] = if atO z r = 1 then [r] else [] := by
  unfold sentL putS
  by_cases h : atO z r = 1 <;> simp [h]
/-- What Emit leaves. -/
def EmitOut (w : World) (i : Ins) (z : List Int) (pc off : Int) (e : Ending) (w' : World) : Prop :=
  ∃ va ve, e = .returned (.tuple #[va, ve]) ∧ Row w' w'.heap.size 9 va (emitA z i pc off).length (flat celCells (emitA z i pc off)) ∧ Row w' w'.heap.size 9 ve (emitE z i pc off).length (flat celCells (emitE z i pc off)) ∧ NewV w.heap.size va ∧ NewV w.heap.size ve ∧ Below w.heap.size w w'
theorem Tw.out {z : List Int} (h : Tw i o pc off w ba be Z va ve la le) (hb : Below Z.heap.size Z Y) (hA : emitA z i pc off = la) (hE : emitE z i pc off = le) : EmitOut w i z pc off (.returned (.tuple #[va, ve])) Y := by
  have h2 := h.below hb
  refine ⟨va, ve, rfl, by rw [hA]; exact Row.of_own h2.ma.own, by rw [hE]; exact Row.of_own h2.me.own, ?_, ?_, h2.kp⟩
  · intro a n c hv
    have := NewV.own h2.ma.own a n c hv; omega
  · intro a n c hv
    have := NewV.own h2.me.own a n c hv; omega
end

set_option maxHeartbeats 8000000 in
theorem refEmit_any (i : Ins) (o : List Int) (pc off : Int) (w : World) (ho : o.length = 16) :
    Calls Try.prog 27 #[.agg #[.int .i64 i.op, .int .i64 i.d, .int .i64 i.a, .int .i64 i.b, .int .i64 i.imm], .agg (oV o).toArray, .int .i64 pc, .int .i64 off] w (EmitOut w i (zeroed o) pc off) := by
  obtain ⟨W1, hW1⟩ : ∃ W1, W1 = w.alloc (.cells (insV i).toArray 51) := ⟨_, rfl⟩
  obtain ⟨W2, hW2⟩ : ∃ W2, W2 = W1.alloc (.cells (oV o).toArray 26) := ⟨_, rfl⟩
  obtain ⟨W3, hW3⟩ : ∃ W3, W3 = W2.alloc (.cells #[.int .i64 pc, .int .i64 off, .slice none 0 0] 82) := ⟨_, rfl⟩
  obtain ⟨W4, hW4⟩ : ∃ W4, W4 = W3.alloc (.cells #[.int .i64 pc, .int .i64 off, .slice none 0 0] 82) := ⟨_, rfl⟩
  have hz1 : W1.heap.size = w.heap.size + 1 := by rw [hW1]; simp
  have hz2 : W2.heap.size = w.heap.size + 2 := by rw [hW2]; simp [hz1]
  have hz3 : W3.heap.size = w.heap.size + 3 := by rw [hW3]; simp [hz2]
  have hz4 : W4.heap.size = w.heap.size + 4 := by rw [hW4]; simp [hz3]
  have HT0 : Hid (Tw i o pc off w (w.heap.size + 1 + 1) (w.heap.size + 1 + 1 + 1) W4 (.slice none 0 0) (.slice none 0 0) [] []) := by
    refine ⟨?_, ?_, ⟨?_, World.ownsRow_nil _ _ _ _, by omega, by omega⟩, ⟨?_, World.ownsRow_nil _ _ _ _, by omega, by omega⟩, (fun g h => by cases h), ?_, rfl, rfl⟩
    · rw [hW4, hW3, hW2, hW1]; exact (((Box.new w (insV i) _).alloc _).alloc _).alloc _
    · rw [hW4, hW3, hW2, ← hz1]; exact ((Box.new W1 (oV o) _).alloc _).alloc _
    · rw [hW4, hW3, show w.heap.size + 1 + 1 = W2.heap.size from hz2.symm]; exact (Box.new W2 [.int .i64 pc, .int .i64 off, .slice none 0 0] _).alloc _
    · rw [hW4, show w.heap.size + 1 + 1 + 1 = W3.heap.size from hz3.symm]; exact Box.new W3 [.int .i64 pc, .int .i64 off, .slice none 0 0] _
    · rw [hW4, hW3, hW2, hW1]; exact ((((Below.refl w.heap.size w).alloc (Nat.le_refl _) _).alloc (by simp) _).alloc (by simp; omega) _).alloc (by simp; omega) _
  have HOL := Lib.hid ho
  have HZA := Lib.hid (zeroed_any ho i)
  have HZD := Lib.hid (fun (r : Int) (h0 : 0 ≤ r) (h1 : r ≤ 15) => zeroed_on ho h0 h1)
  have HZO := Lib.hid (fun (r : Int) (h0 : 0 ≤ r) (h1 : r ≤ 15) => zeroed_at ho h0 h1)
  have HZE : Hid (sentL (zeroed o) (readsZ i) = sentL o (readsZ i)) := zeroed_sent ho (fun r hr => by have := reads_mem hr; omega)
  have HZS := Lib.hid (fun (h : rightB i = true) => zeroed_side ho h)
  have HRL := Lib.hid (reads_len i)
  have HSL : Hid ((sentL o (readsZ i)).length ≤ 8) := by have h1 := sent_len o (readsZ i); have := HRL.out; show _ ≤ _; omega
  clear ho hz1 hz2 hz3 hz4
  go_enter Try.func27, Try.ntmps27
  go_upto_region 3 with (fail)
  change Code.wp _ _ _ _ ((((w.alloc (.cells (insV i).toArray 51)).alloc (.cells (oV o).toArray 26)).alloc (.cells #[.int .i64 pc, .int .i64 off, .slice none 0 0] 82)).alloc (.cells #[.int .i64 pc, .int .i64 off, .slice none 0 0] 82))
  rw [← hW1, ← hW2, ← hW3, ← hW4]
  clear hW1 hW2 hW3 hW4
  obtain ⟨ba, hba⟩ : ∃ ba, ba = w.heap.size + 1 + 1 := ⟨_, rfl⟩
  obtain ⟨be, hbe⟩ : ∃ be, be = w.heap.size + 1 + 1 + 1 := ⟨_, rfl⟩
  rw [← hbe, ← hba] at HT0 ⊢
  clear hba hbe
  go_wp2_with (first
    | (refine wpList_load_box rfl 51 (.tmp 4) rfl w.heap.size 0 rfl (insV i) (insV i) HT0.out.xb whole_at _ Try.underlying51 rfl 5 size_ins5 rfl ?_)
    | (refine wpList_load_box rfl 26 (.tmp 5) rfl (w.heap.size + 1) 0 rfl (oV o) (oV o) HT0.out.ob whole_at _ Try.underlying26 rfl 16 (by kernel_rfl) ((oV_len o).trans HOL.out) ?_))
  refine (rightIns_any i _).mono ?_; rintro e w5 ⟨rfl, hb⟩
  have HT5 := Lib.hid (HT0.out.below hb)
  clear hb
  cases hr : rightB i
  · try dsimp only
    go_wp2_with fail
    exact bodyPost_ret (v := .tuple #[.slice none 0 0, .slice none 0 0]) (by simp [results, Try.results27, go_sem]) rfl (HT5.out.out (Below.refl _ _) (emit_no hr).1 (emit_no hr).2)
  have HR := Lib.hid hr
  have HRR := Lib.hid (right_range hr)
  clear hr
  try dsimp only
  have co : w5.cell? ⟨w.heap.size, 0, none⟩ = some (.int .i64 i.op) := HT5.out.xb.cell (k := 0) rfl
  go_wp2_with fail
  refine (refForm_any _ _).mono ?_; rintro e w6 ⟨rfl, rfl⟩
  have hF := formZ_range i.op
  try dsimp only
  by_cases h4 : formZ i.op = 4
  · have HF := Lib.hid h4
    rw [h4]
    clear h4 hF
    have cd : w5.cell? ⟨w.heap.size, 1, none⟩ = some (.int .i64 i.d) := HT5.out.xb.cell (k := 1) rfl
    have HD := Lib.hid (HZD.out i.d HRR.out.2.1.1 HRR.out.2.1.2)
    go_wp2_with (first
      | (refine wpList_load_box rfl 51 (.tmp 4) rfl w.heap.size 0 rfl (insV i) (insV i) HT5.out.xb whole_at _ Try.underlying51 rfl 5 size_ins5 rfl ?_)
      | (refine wpList_load_box rfl 26 (.tmp 5) rfl (w.heap.size + 1) 0 rfl (oV o) (oV o) HT5.out.ob whole_at _ Try.underlying26 rfl 16 (by kernel_rfl) ((oV_len o).trans HOL.out) ?_))
    refine (refOnE_any o i.d _ HOL.out HRR.out.2.1.2).mono ?_; rintro e w7 ⟨rfl, hb⟩
    have HT7 := Lib.hid (HT5.out.below hb)
    clear hb cd co
    cases hq : onEB o i.d
    · try dsimp only
      go_wp2_with (first
        | (refine wpList_load_box rfl 51 (.tmp 4) rfl w.heap.size 0 rfl (insV i) (insV i) HT7.out.xb whole_at _ Try.underlying51 rfl 5 size_ins5 rfl ?_)
        | (refine wpList_load_box rfl 26 (.tmp 5) rfl (w.heap.size + 1) 0 rfl (oV o) (oV o) HT7.out.ob whole_at _ Try.underlying26 rfl 16 (by kernel_rfl) ((oV_len o).trans HOL.out) ?_))
      refine (mkIns_any 2 i _ HT7.out.ma (by simp)).mono ?_; rintro e w8 ⟨rfl, hM⟩
      obtain ⟨v8, hT⟩ := HT7.out.a hM
      have HT8 := Lib.hid hT
      clear hM hT
      have cA : w8.cell? ⟨ba, 2, none⟩ = some v8 := HT8.out.ma.bx.cell (k := 2) rfl
      have cE : w8.cell? ⟨be, 2, none⟩ = some (Value.slice none 0 0) := HT8.out.me.bx.cell (k := 2) rfl
      go_wp2_with fail
      go_quiet (fail)
      go_wp2_with fail
      exact bodyPost_ret (v := .tuple #[v8, (Value.slice none 0 0)]) (by simp [results, Try.results27, go_sem]) rfl (HT8.out.out (Below.drewN_ (Below.refl _ _) _) (by rw [(emit_4a (z := zeroed o) (pc := pc) (off := off) HR.out HF.out (of_decide_eq_false (by rw [HD.out, hq]))).1]; try rfl) (by rw [(emit_4a (z := zeroed o) (pc := pc) (off := off) HR.out HF.out (of_decide_eq_false (by rw [HD.out, hq]))).2]; try rfl))
    · try dsimp only
      go_wp2_with (first
        | (refine wpList_load_box rfl 51 (.tmp 4) rfl w.heap.size 0 rfl (insV i) (insV i) HT7.out.xb whole_at _ Try.underlying51 rfl 5 size_ins5 rfl ?_)
        | (refine wpList_load_box rfl 26 (.tmp 5) rfl (w.heap.size + 1) 0 rfl (oV o) (oV o) HT7.out.ob whole_at _ Try.underlying26 rfl 16 (by kernel_rfl) ((oV_len o).trans HOL.out) ?_))
      refine (mkIns_any 3 i _ HT7.out.ma (by simp)).mono ?_; rintro e w8 ⟨rfl, hM⟩
      obtain ⟨v8, hT⟩ := HT7.out.a hM
      have HT8 := Lib.hid hT
      clear hM hT
      go_wp2_with (first
        | (refine wpList_load_box rfl 51 (.tmp 4) rfl w.heap.size 0 rfl (insV i) (insV i) HT8.out.xb whole_at _ Try.underlying51 rfl 5 size_ins5 rfl ?_)
        | (refine wpList_load_box rfl 26 (.tmp 5) rfl (w.heap.size + 1) 0 rfl (oV o) (oV o) HT8.out.ob whole_at _ Try.underlying26 rfl 16 (by kernel_rfl) ((oV_len o).trans HOL.out) ?_))
      refine (mkIns_any 7 i _ HT8.out.me (by simp)).mono ?_; rintro e w9 ⟨rfl, hM⟩
      obtain ⟨v9, hT⟩ := HT8.out.e hM
      have HT9 := Lib.hid hT
      clear hM hT
      have cA : w9.cell? ⟨ba, 2, none⟩ = some v8 := HT9.out.ma.bx.cell (k := 2) rfl
      have cE : w9.cell? ⟨be, 2, none⟩ = some v9 := HT9.out.me.bx.cell (k := 2) rfl
      go_wp2_with fail
      go_quiet (fail)
      go_wp2_with fail
      exact bodyPost_ret (v := .tuple #[v8, v9]) (by simp [results, Try.results27, go_sem]) rfl (HT9.out.out (Below.drewN_ (Below.refl _ _) _) (by rw [(emit_4e (z := zeroed o) (pc := pc) (off := off) HR.out HF.out (of_decide_eq_true (by rw [HD.out, hq]))).1]; try rfl) (by rw [(emit_4e (z := zeroed o) (pc := pc) (off := off) HR.out HF.out (of_decide_eq_true (by rw [HD.out, hq]))).2]; try rfl))
  by_cases h5 : formZ i.op = 5
  · have HF := Lib.hid h5
    rw [h5]
    clear h4 h5 hF
    have cd : w5.cell? ⟨w.heap.size, 3, none⟩ = some (.int .i64 i.b) := HT5.out.xb.cell (k := 3) rfl
    have HD := Lib.hid (HZO.out i.b HRR.out.2.2.2.1.1 HRR.out.2.2.2.1.2)
    have HSO := Lib.hid (sent_one (zeroed o) i.b)
    go_wp2_with (first
      | (refine wpList_load_box rfl 51 (.tmp 4) rfl w.heap.size 0 rfl (insV i) (insV i) HT5.out.xb whole_at _ Try.underlying51 rfl 5 size_ins5 rfl ?_)
      | (refine wpList_load_box rfl 26 (.tmp 5) rfl (w.heap.size + 1) 0 rfl (oV o) (oV o) HT5.out.ob whole_at _ Try.underlying26 rfl 16 (by kernel_rfl) ((oV_len o).trans HOL.out) ?_))
    refine (refOwned_any o i.b _ HOL.out).mono ?_; rintro e w7 ⟨rfl, hb⟩
    have HT7 := Lib.hid (HT5.out.below hb)
    clear hb cd co
    by_cases hq : ownedZ o i.b = 1
    · have q1 : (ownedZ o i.b == 1) = true := by simpa using hq
      have HQ := Lib.hid hq
      clear hq
      have cb7 : w7.cell? ⟨w.heap.size, 3, none⟩ = some (.int .i64 i.b) := HT7.out.xb.cell (k := 3) rfl
      go_wp2_with (first
        | (refine wpList_load_box rfl 51 (.tmp 4) rfl w.heap.size 0 rfl (insV i) (insV i) HT7.out.xb whole_at _ Try.underlying51 rfl 5 size_ins5 rfl ?_)
        | (refine wpList_load_box rfl 26 (.tmp 5) rfl (w.heap.size + 1) 0 rfl (oV o) (oV o) HT7.out.ob whole_at _ Try.underlying26 rfl 16 (by kernel_rfl) ((oV_len o).trans HOL.out) ?_))
      refine (mkReg_any 5 i.b _ HT7.out.ma (by simp)).mono ?_; rintro e w8 ⟨rfl, hM⟩
      obtain ⟨v8, hT⟩ := HT7.out.a hM
      have HT8 := Lib.hid hT
      clear hM hT
      have cb8 : w8.cell? ⟨w.heap.size, 3, none⟩ = some (.int .i64 i.b) := HT8.out.xb.cell (k := 3) rfl
      go_wp2_with (first
        | (refine wpList_load_box rfl 51 (.tmp 4) rfl w.heap.size 0 rfl (insV i) (insV i) HT8.out.xb whole_at _ Try.underlying51 rfl 5 size_ins5 rfl ?_)
        | (refine wpList_load_box rfl 26 (.tmp 5) rfl (w.heap.size + 1) 0 rfl (oV o) (oV o) HT8.out.ob whole_at _ Try.underlying26 rfl 16 (by kernel_rfl) ((oV_len o).trans HOL.out) ?_))
      refine (mkReg_any 6 i.b _ HT8.out.me (by simp)).mono ?_; rintro e w9 ⟨rfl, hM⟩
      obtain ⟨v9, hT⟩ := HT8.out.e hM
      have HT9 := Lib.hid hT
      clear hM hT
      go_wp2_with (first
        | (refine wpList_load_box rfl 51 (.tmp 4) rfl w.heap.size 0 rfl (insV i) (insV i) HT9.out.xb whole_at _ Try.underlying51 rfl 5 size_ins5 rfl ?_)
        | (refine wpList_load_box rfl 26 (.tmp 5) rfl (w.heap.size + 1) 0 rfl (oV o) (oV o) HT9.out.ob whole_at _ Try.underlying26 rfl 16 (by kernel_rfl) ((oV_len o).trans HOL.out) ?_))
      refine (mkIns_any 4 i _ HT9.out.ma (by simp)).mono ?_; rintro e w10 ⟨rfl, hM⟩
      obtain ⟨v10, hT⟩ := HT9.out.a hM
      have HT10 := Lib.hid hT
      clear hM hT
      have cb10 : w10.cell? ⟨w.heap.size, 3, none⟩ = some (.int .i64 i.b) := HT10.out.xb.cell (k := 3) rfl
      go_wp2_with (first
        | (refine wpList_load_box rfl 51 (.tmp 4) rfl w.heap.size 0 rfl (insV i) (insV i) HT10.out.xb whole_at _ Try.underlying51 rfl 5 size_ins5 rfl ?_)
        | (refine wpList_load_box rfl 26 (.tmp 5) rfl (w.heap.size + 1) 0 rfl (oV o) (oV o) HT10.out.ob whole_at _ Try.underlying26 rfl 16 (by kernel_rfl) ((oV_len o).trans HOL.out) ?_))
      refine (mkReg_any 8 i.b _ HT10.out.me (by simp)).mono ?_; rintro e w11 ⟨rfl, hM⟩
      obtain ⟨v11, hT⟩ := HT10.out.e hM
      have HT11 := Lib.hid hT
      clear hM hT
      have cA : w11.cell? ⟨ba, 2, none⟩ = some v10 := HT11.out.ma.bx.cell (k := 2) rfl
      have cE : w11.cell? ⟨be, 2, none⟩ = some v11 := HT11.out.me.bx.cell (k := 2) rfl
      go_wp2_with fail
      go_quiet (fail)
      go_wp2_with fail
      exact bodyPost_ret (v := .tuple #[v10, v11]) (by simp [results, Try.results27, go_sem]) rfl (HT11.out.out (Below.drewN_ (Below.refl _ _) _) (by rw [(emit_5 (z := zeroed o) (pc := pc) (off := off) HR.out HF.out).1]; rw [HSO.out, if_pos (by rw [HD.out]; exact HQ.out)]; try rfl) (by rw [(emit_5 (z := zeroed o) (pc := pc) (off := off) HR.out HF.out).2]; rw [HSO.out, if_pos (by rw [HD.out]; exact HQ.out)]; try rfl))
    · have q1 : (ownedZ o i.b == 1) = false := by simpa using hq
      have HQ := Lib.hid hq
      clear hq
      go_wp2_with (first
        | (refine wpList_load_box rfl 51 (.tmp 4) rfl w.heap.size 0 rfl (insV i) (insV i) HT7.out.xb whole_at _ Try.underlying51 rfl 5 size_ins5 rfl ?_)
        | (refine wpList_load_box rfl 26 (.tmp 5) rfl (w.heap.size + 1) 0 rfl (oV o) (oV o) HT7.out.ob whole_at _ Try.underlying26 rfl 16 (by kernel_rfl) ((oV_len o).trans HOL.out) ?_))
      refine (mkIns_any 4 i _ HT7.out.ma (by simp)).mono ?_; rintro e w8 ⟨rfl, hM⟩
      obtain ⟨v8, hT⟩ := HT7.out.a hM
      have HT8 := Lib.hid hT
      clear hM hT
      have cb8 : w8.cell? ⟨w.heap.size, 3, none⟩ = some (.int .i64 i.b) := HT8.out.xb.cell (k := 3) rfl
      go_wp2_with (first
        | (refine wpList_load_box rfl 51 (.tmp 4) rfl w.heap.size 0 rfl (insV i) (insV i) HT8.out.xb whole_at _ Try.underlying51 rfl 5 size_ins5 rfl ?_)
        | (refine wpList_load_box rfl 26 (.tmp 5) rfl (w.heap.size + 1) 0 rfl (oV o) (oV o) HT8.out.ob whole_at _ Try.underlying26 rfl 16 (by kernel_rfl) ((oV_len o).trans HOL.out) ?_))
      refine (mkReg_any 8 i.b _ HT8.out.me (by simp)).mono ?_; rintro e w9 ⟨rfl, hM⟩
      obtain ⟨v9, hT⟩ := HT8.out.e hM
      have HT9 := Lib.hid hT
      clear hM hT
      have cA : w9.cell? ⟨ba, 2, none⟩ = some v8 := HT9.out.ma.bx.cell (k := 2) rfl
      have cE : w9.cell? ⟨be, 2, none⟩ = some v9 := HT9.out.me.bx.cell (k := 2) rfl
      go_wp2_with fail
      go_quiet (fail)
      go_wp2_with fail
      exact bodyPost_ret (v := .tuple #[v8, v9]) (by simp [results, Try.results27, go_sem]) rfl (HT9.out.out (Below.drewN_ (Below.refl _ _) _) (by rw [(emit_5 (z := zeroed o) (pc := pc) (off := off) HR.out HF.out).1]; rw [HSO.out, if_neg (by rw [HD.out]; exact HQ.out)]; try rfl) (by rw [(emit_5 (z := zeroed o) (pc := pc) (off := off) HR.out HF.out).2]; rw [HSO.out, if_neg (by rw [HD.out]; exact HQ.out)]; try rfl))
  by_cases h6 : formZ i.op = 6
  · have HF := Lib.hid h6
    rw [h6]
    clear h4 h5 h6 hF co
    go_wp2_with fail
    refine wp_region_lin [(0, true), (1, true), (2, false), (3, false), (4, true)] (by kernel_rfl) (by kernel_rfl) rfl (by kernel_rfl) (Kept w5) ?_
    have k9 : Kept w5 w5.drew := (Kept.refl w5).drew
    simp only [List.map_cons, List.map_nil, List.getElem?_toArray, List.getElem?_cons_succ, List.getElem?_cons_zero]
    refine lin_take_box k9 rfl 26 (.tmp 5) rfl (w.heap.size + 1) 0 rfl (oV o) (oV o) (fun y hy => HT5.out.ob.kept hy) whole_at _ Try.underlying26 rfl 16 (by kernel_rfl) ((oV_len o).trans HOL.out) ?_
    simp only [Act.put, List.setIfInBounds_toArray, List.set_cons_zero, List.set_cons_succ]
    refine lin_take_box k9 rfl 51 (.tmp 4) rfl w.heap.size 0 rfl (insV i) (insV i) (fun y hy => HT5.out.xb.kept hy) whole_at _ Try.underlying51 rfl 5 size_ins5 rfl ?_
    simp only [Act.put, List.setIfInBounds_toArray, List.set_cons_zero, List.set_cons_succ]
    refine lin_call k9 (by rfl) (fun K hK => ?_)
    go_simp
    refine (refReadsN_any i _).mono ?_; rintro e wq ⟨v, rfl, hrow, hnew, hbq⟩
    go_wp2_with fail
    have k10 := k9.to hbq
    obtain ⟨Aq, cq, rfl⟩ := hrow.form
    have HRQ := Lib.hid hrow
    refine hK.out _ _ k10 (fun _ => ?_)
    clear hK K hrow hnew hbq
    try simp only [Act.put, List.setIfInBounds_toArray, List.set_cons_zero, List.set_cons_succ]
    refine lin_call k10 (by rfl) (fun K hK => ?_)
    go_simp
    refine (refAnyE_any Aq cq (readsZ i) o _ HOL.out HRQ.out (fun r hr => by have := reads_mem hr; omega) (by have := HRL.out; omega)).mono ?_; rintro e w7 ⟨rfl, hb7⟩
    go_wp2_with fail
    have k11 := k10.to hb7
    have HT7 := Lib.hid (HT5.out.below k11)
    refine hK.out _ _ k11 (fun _ => ?_)
    clear hK K hb7
    try simp only [Act.put, List.setIfInBounds_toArray, List.set_cons_zero, List.set_cons_succ]
    iterate 1 (refine lin_take (v := ?_) k11 (by rfl) ?_ ?_; rotate_left; (intro x hx; (try dsimp only at hx); go_simp; try (with_reducible rfl)); (try simp only [Act.put, List.setIfInBounds_toArray, List.set_cons_zero, List.set_cons_succ]))
    refine lin_done ?_
    clear k9 k10 k11
    cases ha : anyEB (readsZ i) o
    · try dsimp only
      go_wp2_with (first
        | (refine wpList_load_box rfl 51 (.tmp 4) rfl w.heap.size 0 rfl (insV i) (insV i) HT7.out.xb whole_at _ Try.underlying51 rfl 5 size_ins5 rfl ?_)
        | (refine wpList_load_box rfl 26 (.tmp 5) rfl (w.heap.size + 1) 0 rfl (oV o) (oV o) HT7.out.ob whole_at _ Try.underlying26 rfl 16 (by kernel_rfl) ((oV_len o).trans HOL.out) ?_))
      refine (mkIns_any 9 i _ HT7.out.ma (by simp)).mono ?_; rintro e w8 ⟨rfl, hM⟩
      obtain ⟨v8, hT⟩ := HT7.out.a hM
      have HT8 := Lib.hid hT
      clear hM hT
      go_wp2_with (first
        | (refine wpList_load_box rfl 51 (.tmp 4) rfl w.heap.size 0 rfl (insV i) (insV i) HT8.out.xb whole_at _ Try.underlying51 rfl 5 size_ins5 rfl ?_)
        | (refine wpList_load_box rfl 26 (.tmp 5) rfl (w.heap.size + 1) 0 rfl (oV o) (oV o) HT8.out.ob whole_at _ Try.underlying26 rfl 16 (by kernel_rfl) ((oV_len o).trans HOL.out) ?_))
      refine (mkPlain_any 10 _ HT8.out.me (by simp)).mono ?_; rintro e w9 ⟨rfl, hM⟩
      obtain ⟨v9, hT⟩ := HT8.out.e hM
      have HT9 := Lib.hid hT
      clear hM hT
      have cA : w9.cell? ⟨ba, 2, none⟩ = some v8 := HT9.out.ma.bx.cell (k := 2) rfl
      have cE : w9.cell? ⟨be, 2, none⟩ = some v9 := HT9.out.me.bx.cell (k := 2) rfl
      go_wp2_with fail
      go_quiet (fail)
      go_wp2_with fail
      exact bodyPost_ret (v := .tuple #[v8, v9]) (by simp [results, Try.results27, go_sem]) rfl (HT9.out.out (Below.drewN_ (Below.refl _ _) _) (by rw [(emit_6a (z := zeroed o) (pc := pc) (off := off) HR.out HF.out (by rw [HZA.out]; exact ha)).1]; try rfl) (by rw [(emit_6a (z := zeroed o) (pc := pc) (off := off) HR.out HF.out (by rw [HZA.out]; exact ha)).2]; try rfl))
    · try dsimp only
      go_wp2_with (first
        | (refine wpList_load_box rfl 51 (.tmp 4) rfl w.heap.size 0 rfl (insV i) (insV i) HT7.out.xb whole_at _ Try.underlying51 rfl 5 size_ins5 rfl ?_)
        | (refine wpList_load_box rfl 26 (.tmp 5) rfl (w.heap.size + 1) 0 rfl (oV o) (oV o) HT7.out.ob whole_at _ Try.underlying26 rfl 16 (by kernel_rfl) ((oV_len o).trans HOL.out) ?_))
      refine (refSent_any i o _ HOL.out).mono ?_; rintro e w8 ⟨v, rfl, hrow, hnew, hb⟩
      have HT8 := Lib.hid (HT7.out.below hb)
      obtain ⟨A8, c8, rfl⟩ := hrow.form
      have HR8 := Lib.hid hrow
      have HA8 : Hid (∀ a, A8 = some a → ∀ (b : Nat) (v : Value) (l : List Cel), Mk b (w.heap.size + 4) pc off w7 v l → ¬ (a.block = b ∨ v.ownBlock = some a.block)) := by
        intro a ha b v l hm
        have h1 := hnew a _ _ (by rw [ha])
        rintro (e | e)
        · have := hm.lt; omega
        · have := (hm.own.lt _ e).2; omega
      clear hrow hnew hb
      go_wp2_with (first
        | (refine wpList_load_box rfl 51 (.tmp 4) rfl w.heap.size 0 rfl (insV i) (insV i) HT8.out.xb whole_at _ Try.underlying51 rfl 5 size_ins5 rfl ?_)
        | (refine wpList_load_box rfl 26 (.tmp 5) rfl (w.heap.size + 1) 0 rfl (oV o) (oV o) HT8.out.ob whole_at _ Try.underlying26 rfl 16 (by kernel_rfl) ((oV_len o).trans HOL.out) ?_))
      refine (mkRegs_any 5 A8 c8 _ (sentL o (readsZ i)) _ HT8.out.ma (by simp) rfl HR8.out (fun a ha => HA8.out a ha _ _ _ HT7.out.ma) HSL.out).mono ?_; rintro e w9 ⟨rfl, hM⟩
      obtain ⟨v9, hT⟩ := HT8.out.a hM
      have HT9 := Lib.hid hT
      clear hM hT
      go_wp2_with (first
        | (refine wpList_load_box rfl 51 (.tmp 4) rfl w.heap.size 0 rfl (insV i) (insV i) HT9.out.xb whole_at _ Try.underlying51 rfl 5 size_ins5 rfl ?_)
        | (refine wpList_load_box rfl 26 (.tmp 5) rfl (w.heap.size + 1) 0 rfl (oV o) (oV o) HT9.out.ob whole_at _ Try.underlying26 rfl 16 (by kernel_rfl) ((oV_len o).trans HOL.out) ?_))
      refine (mkPlain_any 10 _ HT9.out.ma (by have := HSL.out; simp [regsC_len]; omega)).mono ?_; rintro e w10 ⟨rfl, hM⟩
      obtain ⟨v10, hT⟩ := HT9.out.a hM
      have HT10 := Lib.hid hT
      clear hM hT
      go_wp2_with (first
        | (refine wpList_load_box rfl 51 (.tmp 4) rfl w.heap.size 0 rfl (insV i) (insV i) HT10.out.xb whole_at _ Try.underlying51 rfl 5 size_ins5 rfl ?_)
        | (refine wpList_load_box rfl 26 (.tmp 5) rfl (w.heap.size + 1) 0 rfl (oV o) (oV o) HT10.out.ob whole_at _ Try.underlying26 rfl 16 (by kernel_rfl) ((oV_len o).trans HOL.out) ?_))
      refine (refSent_any i o _ HOL.out).mono ?_; rintro e w11 ⟨v, rfl, hrow, hnew, hb⟩
      have HT11 := Lib.hid (HT10.out.below hb)
      obtain ⟨A11, c11, rfl⟩ := hrow.form
      have HR11 := Lib.hid hrow
      have HA11 : Hid (∀ a, A11 = some a → ∀ (b : Nat) (v : Value) (l : List Cel), Mk b (w.heap.size + 4) pc off w10 v l → ¬ (a.block = b ∨ v.ownBlock = some a.block)) := by
        intro a ha b v l hm
        have h1 := hnew a _ _ (by rw [ha])
        rintro (e | e)
        · have := hm.lt; omega
        · have := (hm.own.lt _ e).2; omega
      clear hrow hnew hb
      go_wp2_with (first
        | (refine wpList_load_box rfl 51 (.tmp 4) rfl w.heap.size 0 rfl (insV i) (insV i) HT11.out.xb whole_at _ Try.underlying51 rfl 5 size_ins5 rfl ?_)
        | (refine wpList_load_box rfl 26 (.tmp 5) rfl (w.heap.size + 1) 0 rfl (oV o) (oV o) HT11.out.ob whole_at _ Try.underlying26 rfl 16 (by kernel_rfl) ((oV_len o).trans HOL.out) ?_))
      refine (mkRegs_any 6 A11 c11 _ (sentL o (readsZ i)) _ HT11.out.me (by simp) rfl HR11.out (fun a ha => HA11.out a ha _ _ _ HT10.out.me) HSL.out).mono ?_; rintro e w12 ⟨rfl, hM⟩
      obtain ⟨v12, hT⟩ := HT11.out.e hM
      have HT12 := Lib.hid hT
      clear hM hT
      go_wp2_with (first
        | (refine wpList_load_box rfl 51 (.tmp 4) rfl w.heap.size 0 rfl (insV i) (insV i) HT12.out.xb whole_at _ Try.underlying51 rfl 5 size_ins5 rfl ?_)
        | (refine wpList_load_box rfl 26 (.tmp 5) rfl (w.heap.size + 1) 0 rfl (oV o) (oV o) HT12.out.ob whole_at _ Try.underlying26 rfl 16 (by kernel_rfl) ((oV_len o).trans HOL.out) ?_))
      refine (mkIns_any 9 i _ HT12.out.me (by have := HSL.out; simp [regsC_len]; omega)).mono ?_; rintro e w13 ⟨rfl, hM⟩
      obtain ⟨v13, hT⟩ := HT12.out.e hM
      have HT13 := Lib.hid hT
      clear hM hT
      have cA : w13.cell? ⟨ba, 2, none⟩ = some v10 := HT13.out.ma.bx.cell (k := 2) rfl
      have cE : w13.cell? ⟨be, 2, none⟩ = some v13 := HT13.out.me.bx.cell (k := 2) rfl
      go_wp2_with fail
      go_quiet (fail)
      go_wp2_with fail
      exact bodyPost_ret (v := .tuple #[v10, v13]) (by simp [results, Try.results27, go_sem]) rfl (HT13.out.out (Below.drewN_ (Below.refl _ _) _) (by rw [(emit_6e (z := zeroed o) (pc := pc) (off := off) HR.out HF.out (by rw [HZA.out]; exact ha)).1]; rw [HZE.out]; try rfl) (by rw [(emit_6e (z := zeroed o) (pc := pc) (off := off) HR.out HF.out (by rw [HZA.out]; exact ha)).2]; rw [HZE.out]; try rfl))
  by_cases h7 : formZ i.op = 7
  · have HF := Lib.hid h7
    rw [h7]
    clear h4 h5 h6 h7 hF co
    go_wp2_with (first
      | (refine wpList_load_box rfl 51 (.tmp 4) rfl w.heap.size 0 rfl (insV i) (insV i) HT5.out.xb whole_at _ Try.underlying51 rfl 5 size_ins5 rfl ?_)
      | (refine wpList_load_box rfl 26 (.tmp 5) rfl (w.heap.size + 1) 0 rfl (oV o) (oV o) HT5.out.ob whole_at _ Try.underlying26 rfl 16 (by kernel_rfl) ((oV_len o).trans HOL.out) ?_))
    refine (mkPlain_any 11 _ HT5.out.ma (by simp)).mono ?_; rintro e w7 ⟨rfl, hM⟩
    obtain ⟨v7, hT⟩ := HT5.out.a hM
    have HT7 := Lib.hid hT
    clear hM hT
    go_wp2_with (first
      | (refine wpList_load_box rfl 51 (.tmp 4) rfl w.heap.size 0 rfl (insV i) (insV i) HT7.out.xb whole_at _ Try.underlying51 rfl 5 size_ins5 rfl ?_)
      | (refine wpList_load_box rfl 26 (.tmp 5) rfl (w.heap.size + 1) 0 rfl (oV o) (oV o) HT7.out.ob whole_at _ Try.underlying26 rfl 16 (by kernel_rfl) ((oV_len o).trans HOL.out) ?_))
    refine (mkPlain_any 11 _ HT7.out.me (by simp)).mono ?_; rintro e w8 ⟨rfl, hM⟩
    obtain ⟨v8, hT⟩ := HT7.out.e hM
    have HT8 := Lib.hid hT
    clear hM hT
    have cA : w8.cell? ⟨ba, 2, none⟩ = some v7 := HT8.out.ma.bx.cell (k := 2) rfl
    have cE : w8.cell? ⟨be, 2, none⟩ = some v8 := HT8.out.me.bx.cell (k := 2) rfl
    go_wp2_with fail
    go_quiet (fail)
    go_wp2_with fail
    exact bodyPost_ret (v := .tuple #[v7, v8]) (by simp [results, Try.results27, go_sem]) rfl (HT8.out.out (Below.drewN_ (Below.refl _ _) _) (by rw [(emit_7 (z := zeroed o) (pc := pc) (off := off) HR.out HF.out).1]; try rfl) (by rw [(emit_7 (z := zeroed o) (pc := pc) (off := off) HR.out HF.out).2]; try rfl))
  by_cases h8 : formZ i.op = 8
  · have HF := Lib.hid h8
    rw [h8]
    clear h4 h5 h6 h7 h8 hF co
    go_wp2_with (first
      | (refine wpList_load_box rfl 51 (.tmp 4) rfl w.heap.size 0 rfl (insV i) (insV i) HT5.out.xb whole_at _ Try.underlying51 rfl 5 size_ins5 rfl ?_)
      | (refine wpList_load_box rfl 26 (.tmp 5) rfl (w.heap.size + 1) 0 rfl (oV o) (oV o) HT5.out.ob whole_at _ Try.underlying26 rfl 16 (by kernel_rfl) ((oV_len o).trans HOL.out) ?_))
    refine (mkPlain_any 12 _ HT5.out.ma (by simp)).mono ?_; rintro e w7 ⟨rfl, hM⟩
    obtain ⟨v7, hT⟩ := HT5.out.a hM
    have HT7 := Lib.hid hT
    clear hM hT
    go_wp2_with (first
      | (refine wpList_load_box rfl 51 (.tmp 4) rfl w.heap.size 0 rfl (insV i) (insV i) HT7.out.xb whole_at _ Try.underlying51 rfl 5 size_ins5 rfl ?_)
      | (refine wpList_load_box rfl 26 (.tmp 5) rfl (w.heap.size + 1) 0 rfl (oV o) (oV o) HT7.out.ob whole_at _ Try.underlying26 rfl 16 (by kernel_rfl) ((oV_len o).trans HOL.out) ?_))
    refine (mkPlain_any 12 _ HT7.out.me (by simp)).mono ?_; rintro e w8 ⟨rfl, hM⟩
    obtain ⟨v8, hT⟩ := HT7.out.e hM
    have HT8 := Lib.hid hT
    clear hM hT
    have cA : w8.cell? ⟨ba, 2, none⟩ = some v7 := HT8.out.ma.bx.cell (k := 2) rfl
    have cE : w8.cell? ⟨be, 2, none⟩ = some v8 := HT8.out.me.bx.cell (k := 2) rfl
    go_wp2_with fail
    go_quiet (fail)
    go_wp2_with fail
    exact bodyPost_ret (v := .tuple #[v7, v8]) (by simp [results, Try.results27, go_sem]) rfl (HT8.out.out (Below.drewN_ (Below.refl _ _) _) (by rw [(emit_8 (z := zeroed o) (pc := pc) (off := off) HR.out HF.out).1]; try rfl) (by rw [(emit_8 (z := zeroed o) (pc := pc) (off := off) HR.out HF.out).2]; try rfl))
  have hf3 : formZ i.op ≤ 3 := by omega
  have hf1 : 1 ≤ formZ i.op := by
    have h1 := (HRR.out).1
    have := formZ_cases i.op
    omega
  have HF := Lib.hid hf3
  have HSD := Lib.hid (HZS.out HR.out)
  have hcases : formZ i.op = 1 ∨ formZ i.op = 2 ∨ formZ i.op = 3 := by omega
  clear h4 h5 h6 h7 h8 hF hf3 hf1 co
  rcases hcases with hc | hc | hc
  · rw [hc]
    clear hc
    go_wp2_with (first
      | (refine wpList_load_box rfl 51 (.tmp 4) rfl w.heap.size 0 rfl (insV i) (insV i) HT5.out.xb whole_at _ Try.underlying51 rfl 5 size_ins5 rfl ?_)
      | (refine wpList_load_box rfl 26 (.tmp 5) rfl (w.heap.size + 1) 0 rfl (oV o) (oV o) HT5.out.ob whole_at _ Try.underlying26 rfl 16 (by kernel_rfl) ((oV_len o).trans HOL.out) ?_))
    refine (refSide_any i o _ HOL.out).mono ?_; rintro e w7 ⟨rfl, hb⟩
    have HT7 := Lib.hid (HT5.out.below hb)
    clear hb
    by_cases hs : sideZ i o = 1
    · have q1 : (sideZ i o == 1) = true := by simpa using hs
      have HS := Lib.hid (HSD.out.trans hs)
      clear hs
      go_wp2_with (first
        | (refine wpList_load_box rfl 51 (.tmp 4) rfl w.heap.size 0 rfl (insV i) (insV i) HT7.out.xb whole_at _ Try.underlying51 rfl 5 size_ins5 rfl ?_)
        | (refine wpList_load_box rfl 26 (.tmp 5) rfl (w.heap.size + 1) 0 rfl (oV o) (oV o) HT7.out.ob whole_at _ Try.underlying26 rfl 16 (by kernel_rfl) ((oV_len o).trans HOL.out) ?_))
      refine (mkIns_any 1 i _ HT7.out.ma (by simp)).mono ?_; rintro e w8 ⟨rfl, hM⟩
      obtain ⟨v8, hT⟩ := HT7.out.a hM
      have HT8 := Lib.hid hT
      clear hM hT
      have cA : w8.cell? ⟨ba, 2, none⟩ = some v8 := HT8.out.ma.bx.cell (k := 2) rfl
      have cE : w8.cell? ⟨be, 2, none⟩ = some (Value.slice none 0 0) := HT8.out.me.bx.cell (k := 2) rfl
      go_wp2_with fail
      go_quiet (fail)
      go_wp2_with fail
      exact bodyPost_ret (v := .tuple #[v8, (Value.slice none 0 0)]) (by simp [results, Try.results27, go_sem]) rfl (HT8.out.out (Below.drewN_ (Below.refl _ _) _) (by rw [(emit_1a (z := zeroed o) (pc := pc) (off := off) HR.out HF.out HS.out).1]; try rfl) (by rw [(emit_1a (z := zeroed o) (pc := pc) (off := off) HR.out HF.out HS.out).2]; try rfl))
    · have q1 : (sideZ i o == 1) = false := by simpa using hs
      have HS := Lib.hid (fun c => hs (HSD.out.symm.trans c) : ¬ sideZ i (zeroed o) = 1)
      clear hs
      go_wp2_with (first
        | (refine wpList_load_box rfl 51 (.tmp 4) rfl w.heap.size 0 rfl (insV i) (insV i) HT7.out.xb whole_at _ Try.underlying51 rfl 5 size_ins5 rfl ?_)
        | (refine wpList_load_box rfl 26 (.tmp 5) rfl (w.heap.size + 1) 0 rfl (oV o) (oV o) HT7.out.ob whole_at _ Try.underlying26 rfl 16 (by kernel_rfl) ((oV_len o).trans HOL.out) ?_))
      refine (refSent_any i o _ HOL.out).mono ?_; rintro e w8 ⟨v, rfl, hrow, hnew, hb⟩
      have HT8 := Lib.hid (HT7.out.below hb)
      obtain ⟨A8, c8, rfl⟩ := hrow.form
      have HR8 := Lib.hid hrow
      have HA8 : Hid (∀ a, A8 = some a → ∀ (b : Nat) (v : Value) (l : List Cel), Mk b (w.heap.size + 4) pc off w7 v l → ¬ (a.block = b ∨ v.ownBlock = some a.block)) := by
        intro a ha b v l hm
        have h1 := hnew a _ _ (by rw [ha])
        rintro (e | e)
        · have := hm.lt; omega
        · have := (hm.own.lt _ e).2; omega
      clear hrow hnew hb
      go_wp2_with (first
        | (refine wpList_load_box rfl 51 (.tmp 4) rfl w.heap.size 0 rfl (insV i) (insV i) HT8.out.xb whole_at _ Try.underlying51 rfl 5 size_ins5 rfl ?_)
        | (refine wpList_load_box rfl 26 (.tmp 5) rfl (w.heap.size + 1) 0 rfl (oV o) (oV o) HT8.out.ob whole_at _ Try.underlying26 rfl 16 (by kernel_rfl) ((oV_len o).trans HOL.out) ?_))
      refine (mkRegs_any 5 A8 c8 _ (sentL o (readsZ i)) _ HT8.out.ma (by simp) rfl HR8.out (fun a ha => HA8.out a ha _ _ _ HT7.out.ma) HSL.out).mono ?_; rintro e w9 ⟨rfl, hM⟩
      obtain ⟨v9, hT⟩ := HT8.out.a hM
      have HT9 := Lib.hid hT
      clear hM hT
      go_wp2_with (first
        | (refine wpList_load_box rfl 51 (.tmp 4) rfl w.heap.size 0 rfl (insV i) (insV i) HT9.out.xb whole_at _ Try.underlying51 rfl 5 size_ins5 rfl ?_)
        | (refine wpList_load_box rfl 26 (.tmp 5) rfl (w.heap.size + 1) 0 rfl (oV o) (oV o) HT9.out.ob whole_at _ Try.underlying26 rfl 16 (by kernel_rfl) ((oV_len o).trans HOL.out) ?_))
      refine (refSent_any i o _ HOL.out).mono ?_; rintro e w10 ⟨v, rfl, hrow, hnew, hb⟩
      have HT10 := Lib.hid (HT9.out.below hb)
      obtain ⟨A10, c10, rfl⟩ := hrow.form
      have HR10 := Lib.hid hrow
      have HA10 : Hid (∀ a, A10 = some a → ∀ (b : Nat) (v : Value) (l : List Cel), Mk b (w.heap.size + 4) pc off w9 v l → ¬ (a.block = b ∨ v.ownBlock = some a.block)) := by
        intro a ha b v l hm
        have h1 := hnew a _ _ (by rw [ha])
        rintro (e | e)
        · have := hm.lt; omega
        · have := (hm.own.lt _ e).2; omega
      clear hrow hnew hb
      go_wp2_with (first
        | (refine wpList_load_box rfl 51 (.tmp 4) rfl w.heap.size 0 rfl (insV i) (insV i) HT10.out.xb whole_at _ Try.underlying51 rfl 5 size_ins5 rfl ?_)
        | (refine wpList_load_box rfl 26 (.tmp 5) rfl (w.heap.size + 1) 0 rfl (oV o) (oV o) HT10.out.ob whole_at _ Try.underlying26 rfl 16 (by kernel_rfl) ((oV_len o).trans HOL.out) ?_))
      refine (mkRegs_any 6 A10 c10 _ (sentL o (readsZ i)) _ HT10.out.me (by simp) rfl HR10.out (fun a ha => HA10.out a ha _ _ _ HT9.out.me) HSL.out).mono ?_; rintro e w11 ⟨rfl, hM⟩
      obtain ⟨v11, hT⟩ := HT10.out.e hM
      have HT11 := Lib.hid hT
      clear hM hT
      go_wp2_with (first
        | (refine wpList_load_box rfl 51 (.tmp 4) rfl w.heap.size 0 rfl (insV i) (insV i) HT11.out.xb whole_at _ Try.underlying51 rfl 5 size_ins5 rfl ?_)
        | (refine wpList_load_box rfl 26 (.tmp 5) rfl (w.heap.size + 1) 0 rfl (oV o) (oV o) HT11.out.ob whole_at _ Try.underlying26 rfl 16 (by kernel_rfl) ((oV_len o).trans HOL.out) ?_))
      refine (mkIns_any 1 i _ HT11.out.me (by have := HSL.out; simp [regsC_len]; omega)).mono ?_; rintro e w12 ⟨rfl, hM⟩
      obtain ⟨v12, hT⟩ := HT11.out.e hM
      have HT12 := Lib.hid hT
      clear hM hT
      have cA : w12.cell? ⟨ba, 2, none⟩ = some v9 := HT12.out.ma.bx.cell (k := 2) rfl
      have cE : w12.cell? ⟨be, 2, none⟩ = some v12 := HT12.out.me.bx.cell (k := 2) rfl
      go_wp2_with fail
      go_quiet (fail)
      go_wp2_with fail
      exact bodyPost_ret (v := .tuple #[v9, v12]) (by simp [results, Try.results27, go_sem]) rfl (HT12.out.out (Below.drewN_ (Below.refl _ _) _) (by rw [(emit_1e (z := zeroed o) (pc := pc) (off := off) HR.out HF.out HS.out).1]; rw [HZE.out]; try rfl) (by rw [(emit_1e (z := zeroed o) (pc := pc) (off := off) HR.out HF.out HS.out).2]; rw [HZE.out]; try rfl))
  · rw [hc]
    clear hc
    go_wp2_with (first
      | (refine wpList_load_box rfl 51 (.tmp 4) rfl w.heap.size 0 rfl (insV i) (insV i) HT5.out.xb whole_at _ Try.underlying51 rfl 5 size_ins5 rfl ?_)
      | (refine wpList_load_box rfl 26 (.tmp 5) rfl (w.heap.size + 1) 0 rfl (oV o) (oV o) HT5.out.ob whole_at _ Try.underlying26 rfl 16 (by kernel_rfl) ((oV_len o).trans HOL.out) ?_))
    refine (refSide_any i o _ HOL.out).mono ?_; rintro e w7 ⟨rfl, hb⟩
    have HT7 := Lib.hid (HT5.out.below hb)
    clear hb
    by_cases hs : sideZ i o = 1
    · have q1 : (sideZ i o == 1) = true := by simpa using hs
      have HS := Lib.hid (HSD.out.trans hs)
      clear hs
      go_wp2_with (first
        | (refine wpList_load_box rfl 51 (.tmp 4) rfl w.heap.size 0 rfl (insV i) (insV i) HT7.out.xb whole_at _ Try.underlying51 rfl 5 size_ins5 rfl ?_)
        | (refine wpList_load_box rfl 26 (.tmp 5) rfl (w.heap.size + 1) 0 rfl (oV o) (oV o) HT7.out.ob whole_at _ Try.underlying26 rfl 16 (by kernel_rfl) ((oV_len o).trans HOL.out) ?_))
      refine (mkIns_any 1 i _ HT7.out.ma (by simp)).mono ?_; rintro e w8 ⟨rfl, hM⟩
      obtain ⟨v8, hT⟩ := HT7.out.a hM
      have HT8 := Lib.hid hT
      clear hM hT
      have cA : w8.cell? ⟨ba, 2, none⟩ = some v8 := HT8.out.ma.bx.cell (k := 2) rfl
      have cE : w8.cell? ⟨be, 2, none⟩ = some (Value.slice none 0 0) := HT8.out.me.bx.cell (k := 2) rfl
      go_wp2_with fail
      go_quiet (fail)
      go_wp2_with fail
      exact bodyPost_ret (v := .tuple #[v8, (Value.slice none 0 0)]) (by simp [results, Try.results27, go_sem]) rfl (HT8.out.out (Below.drewN_ (Below.refl _ _) _) (by rw [(emit_1a (z := zeroed o) (pc := pc) (off := off) HR.out HF.out HS.out).1]; try rfl) (by rw [(emit_1a (z := zeroed o) (pc := pc) (off := off) HR.out HF.out HS.out).2]; try rfl))
    · have q1 : (sideZ i o == 1) = false := by simpa using hs
      have HS := Lib.hid (fun c => hs (HSD.out.symm.trans c) : ¬ sideZ i (zeroed o) = 1)
      clear hs
      go_wp2_with (first
        | (refine wpList_load_box rfl 51 (.tmp 4) rfl w.heap.size 0 rfl (insV i) (insV i) HT7.out.xb whole_at _ Try.underlying51 rfl 5 size_ins5 rfl ?_)
        | (refine wpList_load_box rfl 26 (.tmp 5) rfl (w.heap.size + 1) 0 rfl (oV o) (oV o) HT7.out.ob whole_at _ Try.underlying26 rfl 16 (by kernel_rfl) ((oV_len o).trans HOL.out) ?_))
      refine (refSent_any i o _ HOL.out).mono ?_; rintro e w8 ⟨v, rfl, hrow, hnew, hb⟩
      have HT8 := Lib.hid (HT7.out.below hb)
      obtain ⟨A8, c8, rfl⟩ := hrow.form
      have HR8 := Lib.hid hrow
      have HA8 : Hid (∀ a, A8 = some a → ∀ (b : Nat) (v : Value) (l : List Cel), Mk b (w.heap.size + 4) pc off w7 v l → ¬ (a.block = b ∨ v.ownBlock = some a.block)) := by
        intro a ha b v l hm
        have h1 := hnew a _ _ (by rw [ha])
        rintro (e | e)
        · have := hm.lt; omega
        · have := (hm.own.lt _ e).2; omega
      clear hrow hnew hb
      go_wp2_with (first
        | (refine wpList_load_box rfl 51 (.tmp 4) rfl w.heap.size 0 rfl (insV i) (insV i) HT8.out.xb whole_at _ Try.underlying51 rfl 5 size_ins5 rfl ?_)
        | (refine wpList_load_box rfl 26 (.tmp 5) rfl (w.heap.size + 1) 0 rfl (oV o) (oV o) HT8.out.ob whole_at _ Try.underlying26 rfl 16 (by kernel_rfl) ((oV_len o).trans HOL.out) ?_))
      refine (mkRegs_any 5 A8 c8 _ (sentL o (readsZ i)) _ HT8.out.ma (by simp) rfl HR8.out (fun a ha => HA8.out a ha _ _ _ HT7.out.ma) HSL.out).mono ?_; rintro e w9 ⟨rfl, hM⟩
      obtain ⟨v9, hT⟩ := HT8.out.a hM
      have HT9 := Lib.hid hT
      clear hM hT
      go_wp2_with (first
        | (refine wpList_load_box rfl 51 (.tmp 4) rfl w.heap.size 0 rfl (insV i) (insV i) HT9.out.xb whole_at _ Try.underlying51 rfl 5 size_ins5 rfl ?_)
        | (refine wpList_load_box rfl 26 (.tmp 5) rfl (w.heap.size + 1) 0 rfl (oV o) (oV o) HT9.out.ob whole_at _ Try.underlying26 rfl 16 (by kernel_rfl) ((oV_len o).trans HOL.out) ?_))
      refine (refSent_any i o _ HOL.out).mono ?_; rintro e w10 ⟨v, rfl, hrow, hnew, hb⟩
      have HT10 := Lib.hid (HT9.out.below hb)
      obtain ⟨A10, c10, rfl⟩ := hrow.form
      have HR10 := Lib.hid hrow
      have HA10 : Hid (∀ a, A10 = some a → ∀ (b : Nat) (v : Value) (l : List Cel), Mk b (w.heap.size + 4) pc off w9 v l → ¬ (a.block = b ∨ v.ownBlock = some a.block)) := by
        intro a ha b v l hm
        have h1 := hnew a _ _ (by rw [ha])
        rintro (e | e)
        · have := hm.lt; omega
        · have := (hm.own.lt _ e).2; omega
      clear hrow hnew hb
      go_wp2_with (first
        | (refine wpList_load_box rfl 51 (.tmp 4) rfl w.heap.size 0 rfl (insV i) (insV i) HT10.out.xb whole_at _ Try.underlying51 rfl 5 size_ins5 rfl ?_)
        | (refine wpList_load_box rfl 26 (.tmp 5) rfl (w.heap.size + 1) 0 rfl (oV o) (oV o) HT10.out.ob whole_at _ Try.underlying26 rfl 16 (by kernel_rfl) ((oV_len o).trans HOL.out) ?_))
      refine (mkRegs_any 6 A10 c10 _ (sentL o (readsZ i)) _ HT10.out.me (by simp) rfl HR10.out (fun a ha => HA10.out a ha _ _ _ HT9.out.me) HSL.out).mono ?_; rintro e w11 ⟨rfl, hM⟩
      obtain ⟨v11, hT⟩ := HT10.out.e hM
      have HT11 := Lib.hid hT
      clear hM hT
      go_wp2_with (first
        | (refine wpList_load_box rfl 51 (.tmp 4) rfl w.heap.size 0 rfl (insV i) (insV i) HT11.out.xb whole_at _ Try.underlying51 rfl 5 size_ins5 rfl ?_)
        | (refine wpList_load_box rfl 26 (.tmp 5) rfl (w.heap.size + 1) 0 rfl (oV o) (oV o) HT11.out.ob whole_at _ Try.underlying26 rfl 16 (by kernel_rfl) ((oV_len o).trans HOL.out) ?_))
      refine (mkIns_any 1 i _ HT11.out.me (by have := HSL.out; simp [regsC_len]; omega)).mono ?_; rintro e w12 ⟨rfl, hM⟩
      obtain ⟨v12, hT⟩ := HT11.out.e hM
      have HT12 := Lib.hid hT
      clear hM hT
      have cA : w12.cell? ⟨ba, 2, none⟩ = some v9 := HT12.out.ma.bx.cell (k := 2) rfl
      have cE : w12.cell? ⟨be, 2, none⟩ = some v12 := HT12.out.me.bx.cell (k := 2) rfl
      go_wp2_with fail
      go_quiet (fail)
      go_wp2_with fail
      exact bodyPost_ret (v := .tuple #[v9, v12]) (by simp [results, Try.results27, go_sem]) rfl (HT12.out.out (Below.drewN_ (Below.refl _ _) _) (by rw [(emit_1e (z := zeroed o) (pc := pc) (off := off) HR.out HF.out HS.out).1]; rw [HZE.out]; try rfl) (by rw [(emit_1e (z := zeroed o) (pc := pc) (off := off) HR.out HF.out HS.out).2]; rw [HZE.out]; try rfl))
  · rw [hc]
    clear hc
    go_wp2_with (first
      | (refine wpList_load_box rfl 51 (.tmp 4) rfl w.heap.size 0 rfl (insV i) (insV i) HT5.out.xb whole_at _ Try.underlying51 rfl 5 size_ins5 rfl ?_)
      | (refine wpList_load_box rfl 26 (.tmp 5) rfl (w.heap.size + 1) 0 rfl (oV o) (oV o) HT5.out.ob whole_at _ Try.underlying26 rfl 16 (by kernel_rfl) ((oV_len o).trans HOL.out) ?_))
    refine (refSide_any i o _ HOL.out).mono ?_; rintro e w7 ⟨rfl, hb⟩
    have HT7 := Lib.hid (HT5.out.below hb)
    clear hb
    by_cases hs : sideZ i o = 1
    · have q1 : (sideZ i o == 1) = true := by simpa using hs
      have HS := Lib.hid (HSD.out.trans hs)
      clear hs
      go_wp2_with (first
        | (refine wpList_load_box rfl 51 (.tmp 4) rfl w.heap.size 0 rfl (insV i) (insV i) HT7.out.xb whole_at _ Try.underlying51 rfl 5 size_ins5 rfl ?_)
        | (refine wpList_load_box rfl 26 (.tmp 5) rfl (w.heap.size + 1) 0 rfl (oV o) (oV o) HT7.out.ob whole_at _ Try.underlying26 rfl 16 (by kernel_rfl) ((oV_len o).trans HOL.out) ?_))
      refine (mkIns_any 1 i _ HT7.out.ma (by simp)).mono ?_; rintro e w8 ⟨rfl, hM⟩
      obtain ⟨v8, hT⟩ := HT7.out.a hM
      have HT8 := Lib.hid hT
      clear hM hT
      have cA : w8.cell? ⟨ba, 2, none⟩ = some v8 := HT8.out.ma.bx.cell (k := 2) rfl
      have cE : w8.cell? ⟨be, 2, none⟩ = some (Value.slice none 0 0) := HT8.out.me.bx.cell (k := 2) rfl
      go_wp2_with fail
      go_quiet (fail)
      go_wp2_with fail
      exact bodyPost_ret (v := .tuple #[v8, (Value.slice none 0 0)]) (by simp [results, Try.results27, go_sem]) rfl (HT8.out.out (Below.drewN_ (Below.refl _ _) _) (by rw [(emit_1a (z := zeroed o) (pc := pc) (off := off) HR.out HF.out HS.out).1]; try rfl) (by rw [(emit_1a (z := zeroed o) (pc := pc) (off := off) HR.out HF.out HS.out).2]; try rfl))
    · have q1 : (sideZ i o == 1) = false := by simpa using hs
      have HS := Lib.hid (fun c => hs (HSD.out.symm.trans c) : ¬ sideZ i (zeroed o) = 1)
      clear hs
      go_wp2_with (first
        | (refine wpList_load_box rfl 51 (.tmp 4) rfl w.heap.size 0 rfl (insV i) (insV i) HT7.out.xb whole_at _ Try.underlying51 rfl 5 size_ins5 rfl ?_)
        | (refine wpList_load_box rfl 26 (.tmp 5) rfl (w.heap.size + 1) 0 rfl (oV o) (oV o) HT7.out.ob whole_at _ Try.underlying26 rfl 16 (by kernel_rfl) ((oV_len o).trans HOL.out) ?_))
      refine (refSent_any i o _ HOL.out).mono ?_; rintro e w8 ⟨v, rfl, hrow, hnew, hb⟩
      have HT8 := Lib.hid (HT7.out.below hb)
      obtain ⟨A8, c8, rfl⟩ := hrow.form
      have HR8 := Lib.hid hrow
      have HA8 : Hid (∀ a, A8 = some a → ∀ (b : Nat) (v : Value) (l : List Cel), Mk b (w.heap.size + 4) pc off w7 v l → ¬ (a.block = b ∨ v.ownBlock = some a.block)) := by
        intro a ha b v l hm
        have h1 := hnew a _ _ (by rw [ha])
        rintro (e | e)
        · have := hm.lt; omega
        · have := (hm.own.lt _ e).2; omega
      clear hrow hnew hb
      go_wp2_with (first
        | (refine wpList_load_box rfl 51 (.tmp 4) rfl w.heap.size 0 rfl (insV i) (insV i) HT8.out.xb whole_at _ Try.underlying51 rfl 5 size_ins5 rfl ?_)
        | (refine wpList_load_box rfl 26 (.tmp 5) rfl (w.heap.size + 1) 0 rfl (oV o) (oV o) HT8.out.ob whole_at _ Try.underlying26 rfl 16 (by kernel_rfl) ((oV_len o).trans HOL.out) ?_))
      refine (mkRegs_any 5 A8 c8 _ (sentL o (readsZ i)) _ HT8.out.ma (by simp) rfl HR8.out (fun a ha => HA8.out a ha _ _ _ HT7.out.ma) HSL.out).mono ?_; rintro e w9 ⟨rfl, hM⟩
      obtain ⟨v9, hT⟩ := HT8.out.a hM
      have HT9 := Lib.hid hT
      clear hM hT
      go_wp2_with (first
        | (refine wpList_load_box rfl 51 (.tmp 4) rfl w.heap.size 0 rfl (insV i) (insV i) HT9.out.xb whole_at _ Try.underlying51 rfl 5 size_ins5 rfl ?_)
        | (refine wpList_load_box rfl 26 (.tmp 5) rfl (w.heap.size + 1) 0 rfl (oV o) (oV o) HT9.out.ob whole_at _ Try.underlying26 rfl 16 (by kernel_rfl) ((oV_len o).trans HOL.out) ?_))
      refine (refSent_any i o _ HOL.out).mono ?_; rintro e w10 ⟨v, rfl, hrow, hnew, hb⟩
      have HT10 := Lib.hid (HT9.out.below hb)
      obtain ⟨A10, c10, rfl⟩ := hrow.form
      have HR10 := Lib.hid hrow
      have HA10 : Hid (∀ a, A10 = some a → ∀ (b : Nat) (v : Value) (l : List Cel), Mk b (w.heap.size + 4) pc off w9 v l → ¬ (a.block = b ∨ v.ownBlock = some a.block)) := by
        intro a ha b v l hm
        have h1 := hnew a _ _ (by rw [ha])
        rintro (e | e)
        · have := hm.lt; omega
        · have := (hm.own.lt _ e).2; omega
      clear hrow hnew hb
      go_wp2_with (first
        | (refine wpList_load_box rfl 51 (.tmp 4) rfl w.heap.size 0 rfl (insV i) (insV i) HT10.out.xb whole_at _ Try.underlying51 rfl 5 size_ins5 rfl ?_)
        | (refine wpList_load_box rfl 26 (.tmp 5) rfl (w.heap.size + 1) 0 rfl (oV o) (oV o) HT10.out.ob whole_at _ Try.underlying26 rfl 16 (by kernel_rfl) ((oV_len o).trans HOL.out) ?_))
      refine (mkRegs_any 6 A10 c10 _ (sentL o (readsZ i)) _ HT10.out.me (by simp) rfl HR10.out (fun a ha => HA10.out a ha _ _ _ HT9.out.me) HSL.out).mono ?_; rintro e w11 ⟨rfl, hM⟩
      obtain ⟨v11, hT⟩ := HT10.out.e hM
      have HT11 := Lib.hid hT
      clear hM hT
      go_wp2_with (first
        | (refine wpList_load_box rfl 51 (.tmp 4) rfl w.heap.size 0 rfl (insV i) (insV i) HT11.out.xb whole_at _ Try.underlying51 rfl 5 size_ins5 rfl ?_)
        | (refine wpList_load_box rfl 26 (.tmp 5) rfl (w.heap.size + 1) 0 rfl (oV o) (oV o) HT11.out.ob whole_at _ Try.underlying26 rfl 16 (by kernel_rfl) ((oV_len o).trans HOL.out) ?_))
      refine (mkIns_any 1 i _ HT11.out.me (by have := HSL.out; simp [regsC_len]; omega)).mono ?_; rintro e w12 ⟨rfl, hM⟩
      obtain ⟨v12, hT⟩ := HT11.out.e hM
      have HT12 := Lib.hid hT
      clear hM hT
      have cA : w12.cell? ⟨ba, 2, none⟩ = some v9 := HT12.out.ma.bx.cell (k := 2) rfl
      have cE : w12.cell? ⟨be, 2, none⟩ = some v12 := HT12.out.me.bx.cell (k := 2) rfl
      go_wp2_with fail
      go_quiet (fail)
      go_wp2_with fail
      exact bodyPost_ret (v := .tuple #[v9, v12]) (by simp [results, Try.results27, go_sem]) rfl (HT12.out.out (Below.drewN_ (Below.refl _ _) _) (by rw [(emit_1e (z := zeroed o) (pc := pc) (off := off) HR.out HF.out HS.out).1]; rw [HZE.out]; try rfl) (by rw [(emit_1e (z := zeroed o) (pc := pc) (off := off) HR.out HF.out HS.out).2]; rw [HZE.out]; try rfl))
end Go.Proofs.Ytbibfpopkcekdaa.Words

/- Contract of the document's own With: a program's blocks with their cells. -/
namespace Go.Proofs.Ytbibfpopkcekdaa.Words
set_option maxRecDepth 100000
open Go.RowKit
set_option linter.unusedVariables false
set_option linter.unusedSimpArgs false

set_option maxHeartbeats 2000000 in
theorem refWith_any (A : Option Addr) (c : Nat) (sz : Int) (A' : Option Addr) (m c' : Nat) (l : List Ins) (o : List Int) (w : World) (hr : Row w w.heap.size 5 (.slice A l.length c) l.length (codeCells l)) (hm : m ≤ c') (hc' : c' ≤ 9223372036854775807) (ho : o.length = 16) :
    Calls Try.prog 13 #[.agg #[.slice A l.length c, .int .i64 sz, .slice A' m c'], .agg (oV o).toArray] w
      (WithOut w (withZ l sz m o) (ownW l sz m o) (errW l sz m o)) := by
  obtain ⟨i0, hi, hz0, hz1, hz2⟩ := info_parts info_cel
  have HI := Lib.hid hi
  have HZ0 := Lib.hid hz0
  have HZ1 := Lib.hid hz1
  have HZ2 := Lib.hid hz2
  clear hi hz0 hz1 hz2
  obtain ⟨W1, hW1⟩ : ∃ W1, W1 = w.alloc (.cells #[.slice A l.length c, .int .i64 sz, .slice A' m c'] 25) := ⟨_, rfl⟩
  obtain ⟨W2, hW2⟩ : ∃ W2, W2 = W1.alloc (.cells (oV o).toArray 26) := ⟨_, rfl⟩
  obtain ⟨W3, hW3⟩ : ∃ W3, W3 = W2.alloc (.cells zeroSpl.toArray 29) := ⟨_, rfl⟩
  have hz1 : W1.heap.size = w.heap.size + 1 := by rw [hW1]; simp
  have hz2 : W2.heap.size = w.heap.size + 2 := by rw [hW2]; simp [hz1]
  have hz3 : W3.heap.size = w.heap.size + 3 := by rw [hW3]; simp [hz2]
  have HK3 : Hid (Below w.heap.size w W3) := by rw [hW3, hW2, hW1]; exact (((Below.refl w.heap.size w).alloc (Nat.le_refl _) _).alloc (by simp) _).alloc (by simp; omega) _
  have HP3 : Hid (Box W3 w.heap.size [.slice A l.length c, .int .i64 sz, .slice A' m c']) := by rw [hW3, hW2, hW1]; exact ((Box.new w [.slice A l.length c, .int .i64 sz, .slice A' m c'] _).alloc _).alloc _
  have HO3 : Hid (Box W3 (w.heap.size + 1) (oV o)) := by rw [hW3, hW2, ← hz1]; exact (Box.new W1 (oV o) _).alloc _
  have HS3 : Hid (Box W3 (w.heap.size + 2) zeroSpl) := by rw [hW3, ← hz2]; exact Box.new W2 zeroSpl _
  have HR3 := Lib.hid (hr.below HK3.out)
  have HZ3 : Hid (W3.heap.size = w.heap.size + 3) := hz3
  have HOL := Lib.hid ho
  have HCAP := Lib.hid (⟨hm, hc'⟩ : m ≤ c' ∧ c' ≤ 9223372036854775807)
  have HCL := Lib.hid hr.cap
  clear hr hm hc' ho hz1 hz2 hz3
  go_enter Try.func13, Try.ntmps13
  go_upto_region 1 with (fail)
  change Code.wp _ _ _ _ (((w.alloc (.cells #[.slice A l.length c, .int .i64 sz, .slice A' m c'] 25)).alloc (.cells (oV o).toArray 26)).alloc (.cells zeroSpl.toArray 29))
  rw [← hW1, ← hW2, ← hW3]
  clear hW1 hW2 hW3
  go_wp2_with (first
    | (refine wpList_load_box rfl 25 (.tmp 2) rfl w.heap.size 0 rfl [.slice A l.length c, .int .i64 sz, .slice A' m c'] [.slice A l.length c, .int .i64 sz, .slice A' m c'] HP3.out whole_at _ Try.underlying25 rfl 3 size_prg rfl ?_)
    | (refine wpList_load_box rfl 26 (.tmp 3) rfl (w.heap.size + 1) 0 rfl (oV o) (oV o) HO3.out whole_at _ Try.underlying26 rfl 16 (by kernel_rfl) ((oV_len o).trans HOL.out) ?_))
  refine (refClosed_any A c sz A' m c' l o _ (HR3.out.more (by have := HZ3.out; omega)) HCAP.out.1 HCAP.out.2 HOL.out).mono ?_; rintro e w4 ⟨rfl, hb⟩
  have HK4 := Lib.hid (HK3.out.trans (hb.mono (by have := HZ3.out; omega)))
  have HP4 := Lib.hid (HP3.out.below hb HP3.out.lt)
  have HO4 := Lib.hid (HO3.out.below hb HO3.out.lt)
  have HS4 := Lib.hid (HS3.out.below hb HS3.out.lt)
  have HZ4 : Hid (w.heap.size + 3 ≤ w4.heap.size) := by have := HZ3.out; have := hb.size; show _ ≤ _; omega
  have HR4 := Lib.hid (HR3.out.below (hb.mono (by have := HZ3.out; omega)))
  clear hb
  cases hcl : closedZ l sz m o
  · have HW := Lib.hid (with_no hcl)
    try dsimp only
    go_wp2_with (first
      | (refine wpList_store_box rfl 29 (.tmp 4) (.tmp 16) rfl (w.heap.size + 2) 0 zeroSpl rfl rfl zeroSpl HS4.out (by decide) 17 size_spl rfl (splV_one rfl) ?_; intro w5 B5 hg5; rw [splice_whole zeroSpl zeroSpl rfl] at B5))
    refine bodyPost_ret (v := .tuple #[.agg zeroSpl.toArray, .int .i64 1]) (results_cell_tmp' Try.results13 _ _ _ ⟨w.heap.size + 2, 0, none⟩ _ _ rfl (load_spl rfl B5) rfl) rfl ⟨.slice none 0 0, by rw [HW.out.2.1, HW.out.2.2]; rfl, ?_, ?_⟩
    · rw [HW.out.1]; exact ⟨[], Row.nil _ _ _, NewV.none _, rfl, fun k r c h => by simp at h⟩
    · exact HK4.out.grown hg5 (by have := HZ4.out; omega) (fun q hq => by injection hq with hq; omega)
  · have HW := Lib.hid (with_yes hcl)
    have HC1 := Lib.hid (cut_some hcl)
    clear hcl
    obtain ⟨bs, hbs⟩ : ∃ bs, bs = cutR l sz m := ⟨_, rfl⟩
    have HBS := Lib.hid hbs
    clear hbs
    try dsimp only
    go_wp2_with fail
    have hk4 : Kept w4 w4.drew := (Kept.refl w4).drew
    refine region_tree_ex (fun (act : Act) (B : Nat × Value) => ((((act.put (some 17) (.agg #[.slice A l.length c, .int .i64 sz, .slice A' m c'])).put (some 19) (.agg (oV o).toArray)).put (some 18) B.2).put (some 20) (.agg (splV B.2 o).toArray)).put (some 6) (.pointer (some ⟨B.1, 0, none⟩)))
      (fun B y => Box y B.1 (splV B.2 o) ∧ y.ownsRow w4.heap.size 47 6 B.2 bs.length (flat blkL bs) ∧ Kept w4 y ∧ w4.heap.size ≤ B.1 ∧ B.2.ownBlock ≠ some B.1)
      (LinT.of [(0, true), (2, true)] (.two 1 4 (LinT.of [(3, true), (4, false), (5, false)] .nil) (LinT.of [(1, false), (3, true), (5, false)] .nil)))
      (by kernel_rfl) (by kernel_rfl) rfl (by kernel_rfl) (Kept w4) ?_ ?_
    · simp only [LinT.of, LinT.look, List.getElem?_toArray, List.getElem?_cons_succ, List.getElem?_cons_zero]
      refine tree_load_ex hk4 (by rfl) 25 (.tmp 2) rfl w.heap.size 0 rfl [.slice A l.length c, .int .i64 sz, .slice A' m c'] [.slice A l.length c, .int .i64 sz, .slice A' m c'] (fun y hy => HP4.out.kept hy) whole_at _ Try.underlying25 rfl 3 size_prg rfl ?_
      simp only [Act.put, List.setIfInBounds_toArray, List.set_cons_zero, List.set_cons_succ]
      refine tree_load_ex hk4 (by rfl) 26 (.tmp 3) rfl (w.heap.size + 1) 0 rfl (oV o) (oV o) (fun y hy => HO4.out.kept hy) whole_at _ Try.underlying26 rfl 16 (by kernel_rfl) ((oV_len o).trans HOL.out) ?_
      simp only [Act.put, List.setIfInBounds_toArray, List.set_cons_zero, List.set_cons_succ]
      refine tree_two hk4 (by rfl) (by rfl) (fun K hK => ?_) (fun K hK => ?_)
      · go_simp
        refine (refCut_any A c sz A' m c' l _ (by exact (HR4.out.more (B' := w4.heap.size) (by have := HZ4.out; omega)).drew) HCAP.out.1 HCAP.out.2).mono ?_; rintro e w5 ⟨v, rfl, hO, hb⟩
        rw [← HBS.out] at hO
        obtain ⟨A5, c5, rfl⟩ := (Row.of_own hO).form
        go_wp2_with fail
        have hk5 := hk4.to hb
        have HO5 := Lib.hid hO
        refine hK.out _ _ hk5 (fun _ => ?_)
        clear hK K hb hO
        (try simp only [Act.put, List.setIfInBounds_toArray, List.set_cons_zero, List.set_cons_succ])
        refine tree_take (v := .agg (splV (.slice A5 bs.length c5) o).toArray) hk5 (by rfl) (fun x hx => exec_built _ _ rfl _ (by simp only [List.map_toArray, List.map_cons, List.map_nil]; exact spl_built A5 bs.length c5 o HOL.out) x) ?_
        (try simp only [Act.put, List.setIfInBounds_toArray, List.set_cons_zero, List.set_cons_succ])
        refine tree_call hk5 (by rfl) (fun K hK => ?_)
        go_simp
        have hk6 : Kept w4 (w5.alloc (.cells zeroSpl.toArray 29)) := hk5.alloc _
        have HB6 := Lib.hid (Box.new w5 zeroSpl 29)
        have HO6 := Lib.hid (HO5.out.alloc (.cells zeroSpl.toArray 29))
        have HNB : Hid ((Value.slice A5 bs.length c5).ownBlock ≠ some w5.heap.size) := fun e => by have := (HO5.out.lt _ e).2; omega
        refine hK.out _ _ hk6 (fun _ => ?_)
        clear hK K
        change wpT _ _ _ _ _ _ _ (w5.alloc (.cells zeroSpl.toArray 29))
        (try simp only [Act.put, List.setIfInBounds_toArray, List.set_cons_zero, List.set_cons_succ])
        refine tree_put_cells hk6 (by rfl) 29 (.tmp 6) (.tmp 20) rfl w5.heap.size 0 (splV (.slice A5 bs.length c5) o) rfl rfl zeroSpl HB6.out (by rw [splV_len HOL.out]; decide) 17 size_spl (splV_len HOL.out) (splV_one rfl) (fun y hy hg => Below.grown hk6 hg hk6.size (fun q hq => by injection hq with hq; have := hk5.size; omega)) ?_
        intro yz hbz hgz
        rw [splice_whole zeroSpl (splV (.slice A5 bs.length c5) o) (by rw [splV_len HOL.out]; rfl)] at hbz
        (try simp only [Act.put, List.setIfInBounds_toArray, List.set_cons_zero, List.set_cons_succ])
        exact tree_done ⟨(w5.heap.size, .slice A5 bs.length c5), rfl, hbz, own_grown HO6.out hgz (fun g e1 e2 => by injection e2 with e2; subst e2; exact HNB.out e1), Below.grown hk6 hgz hk6.size (fun q hq => by injection hq with hq; have := hk5.size; omega), hk5.size, HNB.out⟩
      · go_simp
        have hk5 : Kept w4 (w4.drew.alloc (.cells zeroSpl.toArray 29)) := hk4.alloc _
        have HB5 := Lib.hid (Box.new w4.drew zeroSpl 29)
        refine hK.out _ _ hk5 (fun _ => ?_)
        clear hK K
        change wpT _ _ _ _ _ _ _ (w4.drew.alloc (.cells zeroSpl.toArray 29))
        (try simp only [Act.put, List.setIfInBounds_toArray, List.set_cons_zero, List.set_cons_succ])
        obtain ⟨w5, hw5⟩ : ∃ w5, w5 = w4.drew.alloc (.cells zeroSpl.toArray 29) := ⟨_, rfl⟩
        have HZ5 : Hid (w5.heap.size = w4.heap.size + 1) := by show _ = _; rw [hw5]; simp
        rw [← hw5] at hk5 HB5 ⊢
        clear hw5
        refine tree_call hk5 (by rfl) (fun K hK => ?_)
        go_simp
        refine (refCut_any A c sz A' m c' l _ (by exact (HR4.out.more (by have := HZ4.out; omega)).below hk5 |>.more hk5.size) HCAP.out.1 HCAP.out.2).mono ?_; rintro e w6 ⟨v, rfl, hO, hb⟩
        rw [← HBS.out] at hO
        obtain ⟨A5, c5, rfl⟩ := (Row.of_own hO).form
        go_wp2_with fail
        have hk6 := hk5.to hb
        have HO6 := Lib.hid hO
        have HB6 : Hid (Box w6 w4.heap.size zeroSpl) := HB5.out.below hb HB5.out.lt
        have HNB : Hid ((Value.slice A5 bs.length c5).ownBlock ≠ some w4.heap.size) := fun e => by have := (HO6.out.lt _ e).1; have := HZ5.out; omega
        refine hK.out _ _ hk6 (fun _ => ?_)
        clear hK K hb hO
        (try simp only [Act.put, List.setIfInBounds_toArray, List.set_cons_zero, List.set_cons_succ])
        refine tree_take (v := .agg (splV (.slice A5 bs.length c5) o).toArray) hk6 (by rfl) (fun x hx => exec_built _ _ rfl _ (by simp only [List.map_toArray, List.map_cons, List.map_nil]; exact spl_built A5 bs.length c5 o HOL.out) x) ?_
        (try simp only [Act.put, List.setIfInBounds_toArray, List.set_cons_zero, List.set_cons_succ])
        refine tree_put_cells hk6 (by rfl) 29 (.tmp 6) (.tmp 20) rfl w4.heap.size 0 (splV (.slice A5 bs.length c5) o) rfl rfl zeroSpl HB6.out (by rw [splV_len HOL.out]; decide) 17 size_spl (splV_len HOL.out) (splV_one rfl) (fun y hy hg => Below.grown hk6 hg hk6.size (fun q hq => by injection hq with hq; omega)) ?_
        intro yz hbz hgz
        rw [splice_whole zeroSpl (splV (.slice A5 bs.length c5) o) (by rw [splV_len HOL.out]; rfl)] at hbz
        (try simp only [Act.put, List.setIfInBounds_toArray, List.set_cons_zero, List.set_cons_succ])
        exact tree_done ⟨(w4.heap.size, .slice A5 bs.length c5), rfl, hbz, own_less (own_grown HO6.out hgz (fun g e1 e2 => by injection e2 with e2; subst e2; exact HNB.out e1)) (by have := HZ5.out; omega), Below.grown hk6 hgz hk6.size (fun q hq => by injection hq with hq; omega), Nat.le_refl _, HNB.out⟩
    rintro ⟨BS, v⟩ w7 ⟨hB7, hO7, hk7, hB47, hne⟩
    dsimp only at hB7 hO7 hB47 hne
    obtain ⟨bv, cap, rfl, hbv, hbz⟩ := own_form hO7 (by have := HC1.out.1; rw [← HBS.out] at this; omega)
    have hne' : BS ≠ bv := fun e => hne (by rw [e]; rfl)
    have HNE := Lib.hid hne'
    have HBV : Hid (w.heap.size + 2 < bv) := by have := HZ4.out; show _ < _; omega
    have HC7 : Hid (WithC w.heap.size BS A c sz A' m c' l o (.slice (some ⟨bv, 0, none⟩) bs.length cap) w7) :=
      ⟨HP4.out.kept hk7, HO4.out.kept hk7, HS4.out.kept hk7, hB7, HR4.out.below (hk7.mono (by have := HZ4.out; omega))⟩
    have HF7 : Hid (FsR w4.heap.size bv cap (zeroed o) l bs 0 w7 w7) := FsR.first hO7
    have HK7 := Lib.hid (HK4.out.trans (hk7.mono (by have := HZ4.out; omega)))
    have HLL := Lib.hid HC1.out.2
    have HBE := Lib.hid (fun (k : Nat) (b : Blk) (h : bs[k]? = some b) => blk_ends (l := l) (sz := sz) (m := m) (k := k) (b := b) (by rw [← HBS.out]; exact h))
    have HBL : bs.length ≤ 2000 := by have h1 := cut_len l sz m; rw [← HBS.out] at h1; have := HLL.out; show _ ≤ _; omega
    have HCL2 := HCL.out
    clear hO7 hB7 hk7 hB47 hne hbv hbz hne' hk4
    generalize hn : bs.length = n at HC7 HBL ⊢
    have HBL := Lib.hid HBL
    have HN := Lib.hid hn
    clear hn
    simp only [Act.put, List.setIfInBounds_toArray, List.set_cons_zero, List.set_cons_succ]
    have hq0 : w7.cell? ⟨BS, 0, none⟩ = some (.slice (some ⟨bv, 0, none⟩) n cap) := HC7.out.ft.cell rfl
    have hgn : (0 : Int) ≤ n := by omega
    go_wp2_with fail
    clear hq0
    obtain ⟨ab, ao, rfl, hab, _⟩ := HC7.out.fr.at_ (by have := HC1.out.1; have h1 := cut_len l sz m; omega)
    have HAB := Lib.hid hab
    clear hab
    go_loopw [7] (fun ii wr => ∃ k : Nat, k ≤ n ∧ ii = .int .i64 k ∧ FsR w4.heap.size bv cap (zeroed o) l bs k w7 wr) (fun ii _ => n - (intOf ii).toNat)
    case atStart => exact ⟨0, Nat.zero_le _, rfl, HF7.out⟩
    case round =>
      obtain ⟨k, hkn, rfl, hF⟩ := hrel
      have HFr := Lib.hid hF
      clear hF
      have HCr := Lib.hid (HC7.out.keepS HFr.out.keep HBV.out HNE.out)
      have hq0 : wr.cell? ⟨BS, 0, none⟩ = some (.slice (some ⟨bv, 0, none⟩) n cap) := HCr.out.ft.cell rfl
      by_cases hlt : k < n
      · obtain ⟨b, hb⟩ := bs_at (l := bs) (k := k) (by have := HN.out; omega)
        obtain ⟨f, t, h1, h2, hft, htl⟩ := HBE.out k b hb
        have g0 : (0 : Int) ≤ k := by omega
        have g1 : (k : Int) < n := by omega
        have g2 : (k : Int) ≤ 2000 := by have := HBL.out; omega
        have HF1 := Lib.hid (HFr.out.start hb)
        have c0 := HF1.out.cells.1
        have HB0 := Lib.hid h1
        have HB1 := Lib.hid h2
        have HFT := Lib.hid hft
        have HTL := Lib.hid htl
        rw [h1] at c0
        clear hb h1 h2 hft htl
        obtain ⟨M, hM⟩ : ∃ M, M = wr.heap.size := ⟨_, rfl⟩
        rw [← hM] at HF1
        clear hM
        go_wp2_with fail
        clear hq0 c0
        go_loopw [9] (fun ii wx => ∃ (nn j : Nat) (va ve : Value), nn = f + j ∧ nn ≤ t ∧ ii = .int .i64 nn ∧ Fs w4.heap.size bv cap (zeroed o) l bs k b j j M w7 wx va ve) (fun ii _ => t - (intOf ii).toNat)
        case atStart => exact ⟨f, 0, _, _, rfl, by have := HFT.out; omega, rfl, HF1.out⟩
        case round =>
          obtain ⟨nn, j, va, ve, hnn, hnt, rfl, hF⟩ := hrel
          have HNN := Lib.hid hnn
          obtain ⟨⟨Aa, ka, hva⟩, ⟨Ae, ke, hve⟩⟩ := hF.forms
          obtain ⟨La, hLa⟩ : ∃ La, La = (fillA (zeroed o) l b.from_.toNat j).length := ⟨_, rfl⟩
          obtain ⟨Le, hLe⟩ : ∃ Le, Le = (fillE (zeroed o) l b.from_.toNat j).length := ⟨_, rfl⟩
          rw [← hLa] at hva
          rw [← hLe] at hve
          subst hva hve
          have HLa := Lib.hid hLa
          have HLe := Lib.hid hLe
          have HFx := Lib.hid hF
          clear hF hnn hLa hLe
          have HCx := Lib.hid (HC7.out.keepS HFx.out.keep HBV.out HNE.out)
          obtain ⟨c0, c1, _, _⟩ := HFx.out.cells
          rw [HB0.out] at c0
          rw [HB1.out] at c1
          by_cases hlx : nn < t
          · have hkl : nn < l.length := by have := HTL.out; omega
            obtain ⟨x, hxe⟩ : ∃ x, x = insAtZ l nn := ⟨_, rfl⟩
            have hx : l[nn]? = some x := by rw [hxe]; unfold insAtZ; rw [List.getD_eq_getElem?_getD, List.getElem?_eq_getElem hkl]; rfl
            have HIA := Lib.hid hxe.symm
            clear hxe
            have HIX := Lib.hid (fun (y : World) (hy : Kept wr y) => (HCx.out.fr.below (hy.mono (Nat.le_of_lt HCx.out.fp.lt))).ins hx)
            have ci := HIX.out
            have hsub : (nn : Int) - (f : Int) = (j : Int) := by have := HNN.out; omega
            have g3 : (0 : Int) ≤ nn := by omega
            have g4 : (nn : Int) < t := by omega
            have g5 : (nn : Int) < l.length := by omega
            have g6 : (nn : Int) ≤ 2000 := by have := HLL.out; omega
            have g7 : (j : Int) ≤ 2000 := by have := HLL.out; have := HNN.out; omega
            have g8 : (0 : Int) ≤ j := by omega
            have hwj : IntKind.i64.wrap (j : Int) = j := IntWalk.i64_in _ ⟨by omega, by omega⟩
            have k0 : Kept wr wr.drew := (Kept.refl wr).drew
            have ct := fun (y : World) (hy : Kept wr y) => (HCx.out.fp.kept hy).cell (k := 0) rfl
            have cf := fun (y : World) (hy : Kept wr y) => hy.cell (by have := HFx.out.lt; omega) c0
            have HLF : Hid ((fillA (zeroed o) l b.from_.toNat j).length ≤ 6000 ∧ (fillE (zeroed o) l b.from_.toNat j).length ≤ 6000) := ⟨by have := fillA_len (zeroed o) l b.from_.toNat j; omega, by have := fillE_len (zeroed o) l b.from_.toNat j; omega⟩
            have HLE : Hid ((emitA (zeroed o) x (nn : Int) (j : Int)).length ≤ 3 ∧ (emitE (zeroed o) x (nn : Int) (j : Int)).length ≤ 3) := ⟨emitA_le3 _ _ _ _, emitE_le3 _ _ _ _⟩
            clear hx hkl
            go_upto_region 11 with (fail)
            refine wp_region_lin [(0, true), (1, true), (2, true), (3, true), (4, true), (5, true), (6, true), (7, true), (8, true), (9, true), (10, true), (11, true), (12, true), (13, false), (14, true), (15, true), (16, true), (17, true), (18, true)]
              (by kernel_rfl) (by kernel_rfl) rfl (by kernel_rfl) (Kept wr) ?_
            simp only [List.map_cons, List.map_nil, List.getElem?_toArray, List.getElem?_cons_succ, List.getElem?_cons_zero]
            clear c0 c1
            iterate 5 (refine lin_take (v := ?_) k0 (by rfl) ?_ ?_; rotate_left; (intro y hy; have ct1 := ct y hy; obtain ⟨ci0, ci1, ci2, ci3, ci4⟩ := ci y hy; have cf1 := cf y hy; go_simp; try (with_reducible rfl)); (try simp only [Act.put, List.setIfInBounds_toArray, List.set_cons_zero, List.set_cons_succ]))
            refine lin_take_box k0 rfl 26 (.tmp 3) rfl (w.heap.size + 1) 0 rfl (oV o) (oV o) (fun y hy => HCx.out.fo.kept hy) whole_at _ Try.underlying26 rfl 16 (by kernel_rfl) ((oV_len o).trans HOL.out) ?_
            (try simp only [Act.put, List.setIfInBounds_toArray, List.set_cons_zero, List.set_cons_succ])
            iterate 7 (refine lin_take (v := ?_) k0 (by rfl) ?_ ?_; rotate_left; (intro y hy; have ct1 := ct y hy; obtain ⟨ci0, ci1, ci2, ci3, ci4⟩ := ci y hy; have cf1 := cf y hy; go_simp; try (with_reducible rfl)); (try simp only [Act.put, List.setIfInBounds_toArray, List.set_cons_zero, List.set_cons_succ]))
            refine lin_call k0 (by rfl) (fun K hK => ?_)
            go_simp
            refine (refEmit_any x o (nn : Int) (j : Int) _ HOL.out).mono ?_; rintro e w8 ⟨vx, vy, rfl, hrx, hry, hnx, hny, hb8⟩
            go_wp2_with fail
            have HF8 := Lib.hid (HFx.out.drew.below hb8)
            have HRX := Lib.hid hrx
            have HRY := Lib.hid hry
            have HNY := Lib.hid hny
            have k8 : Kept wr w8 := k0.to hb8
            refine hK.out _ _ k8 (fun _ => ?_)
            clear hK K hrx hry hnx hny
            (try simp only [Act.put, List.setIfInBounds_toArray, List.set_cons_zero, List.set_cons_succ])
            iterate 5 (refine lin_take (v := ?_) k8 (by rfl) ?_ ?_; rotate_left; (intro y hy; go_simp; try (with_reducible rfl)); (try simp only [Act.put, List.setIfInBounds_toArray, List.set_cons_zero, List.set_cons_succ]))
            refine lin_done ?_
            obtain ⟨_, _, c4, _⟩ := HF8.out.cells
            clear hb8 k8 k0 ci ct cf
            go_wp2_with (first
              | (refine wpList_append_new _ rfl (.tmp 65) (.tmp 66) 45 rfl M 53 i0 _ 9 72 Try.underlying45 HI.out HZ0.out HZ1.out HZ2.out rfl (by omega) (.slice Aa La ka) La (flat celCells (fillA (zeroed o) l b.from_.toNat j)) rfl (by have h8 := HF8.out.oa; rw [← HLa.out] at h8; exact h8) _ vx (emitA (zeroed o) x (nn : Int) (j : Int)).length (flat celCells (emitA (zeroed o) x (nn : Int) (j : Int))) rfl HRX.out (flat_one9 _) (by unfold maxLen; have := HLF.out.1; have := HLa.out; have := HLE.out.1; omega) (by have := HLF.out.1; have := HLa.out; have := HLE.out.1; omega) HF8.out.lt.2.1 ?_; intro v1 w9 hO hg hn; obtain ⟨hF9, qA1, ⟨uA1, qA2⟩, AA1, kA1, rfl⟩ := HF8.out.appA HB0.out (by rw [← HNN.out, HIA.out]) (by rw [← HNN.out, HIA.out]; rw [HLa.out] at hO; exact hO) hg hn; have HF9 := Lib.hid hF9; have HRY2 : Hid (Row (w9.setCell ⟨bv, k * 6 + 4, none⟩ (.slice AA1 ((fillA (zeroed o) l b.from_.toNat j).length + (emitA (zeroed o) x (nn : Int) (j : Int)).length) kA1)) w8.heap.size 9 vy (emitE (zeroed o) x (nn : Int) (j : Int)).length (flat celCells (emitE (zeroed o) x (nn : Int) (j : Int)))) := row_keepN HRY.out HNY.out (Nat.le_refl _) ((KeepS.of_grown (S := fun q => (Value.slice Aa La ka).ownBlock = some q ∨ q = bv) hg (fun g e => .inl e)).setCell (.inr rfl) _ _) (fun q h1 h2 e => e.elim (fun e => by have := (HFx.out.oa.lt _ e).2; have h1 : wr.heap.size ≤ q := h1; omega) (fun e => by have := HFx.out.lt; have h1 : wr.heap.size ≤ q := h1; omega)); have qA5 : w9.cell? ⟨bv, k * 6 + 5, none⟩ = some (.slice Ae Le ke) := (World.cell?_setCell_other _ _ _ _ (by simp)).symm.trans HF9.out.cells.2.2.2; clear hO hg hn hF9)
              | (refine wpList_append_new _ rfl (.tmp 74) (.tmp 75) 45 rfl M 53 i0 _ 9 72 Try.underlying45 HI.out HZ0.out HZ1.out HZ2.out rfl (by omega) (.slice Ae Le ke) Le (flat celCells (fillE (zeroed o) l b.from_.toNat j)) rfl (by have h8 := HF9.out.oe; rw [← HLe.out] at h8; exact h8) _ vy (emitE (zeroed o) x (nn : Int) (j : Int)).length (flat celCells (emitE (zeroed o) x (nn : Int) (j : Int))) rfl HRY2.out (flat_one9 _) (by unfold maxLen; have := HLF.out.2; have := HLe.out; have := HLE.out.2; omega) (by have := HLF.out.2; have := HLe.out; have := HLE.out.2; omega) HF9.out.lt.2.1 ?_; intro v2 w11 hO hg hn; obtain ⟨hF9, qE1, ⟨uE1, qE2⟩, AE1, kE1, rfl⟩ := HF9.out.appE HB0.out (by rw [← HNN.out, HIA.out]) (by rw [← HNN.out, HIA.out]; rw [HLe.out] at hO; exact hO) hg hn; have HF10 := Lib.hid hF9; clear hO hg hn hF9))
            go_roundw
            case rel => exact ⟨nn + 1, j + 1, _, _, by have := HNN.out; omega, by omega, by go_num, HF10.out⟩
            case measure => simp only [intOf]; omega
          · have HE : Hid (FsR w4.heap.size bv cap (zeroed o) l bs (k + 1) w7 wr) := HFx.out.rest HB0.out HB1.out (by have := HNN.out; omega)
            go_wp2_with fail
            go_roundw
            case rel => exact ⟨k + 1, by omega, by go_num, HE.out⟩
            case measure => simp only [intOf]; omega
      · have hge : ¬ (k : Int) < n := by omega
        have HE : Hid (FsR w4.heap.size bv cap (zeroed o) l bs bs.length w7 wr) := by rw [HN.out, show n = k by omega]; exact HFr.out
        have HCr := Lib.hid (HC7.out.keepS HFr.out.keep HBV.out HNE.out)
        go_wp2_with (first
          | (refine wpList_load_box rfl 29 (.tmp 6) rfl BS 0 rfl (splV (.slice (some ⟨bv, 0, none⟩) n cap) o) (splV (.slice (some ⟨bv, 0, none⟩) n cap) o) HCr.out.ft whole_at _ Try.underlying29 rfl 17 size_spl (splV_len HOL.out) ?_)
          | (refine wpList_store_box rfl 29 (.tmp 4) (.tmp 79) rfl (w.heap.size + 2) 0 (splV (.slice (some ⟨bv, 0, none⟩) n cap) o) rfl rfl zeroSpl HCr.out.fs (by rw [splV_len HOL.out]; decide) 17 size_spl (splV_len HOL.out) (splV_one rfl) ?_; intro w8 B8 hg8; rw [splice_whole zeroSpl (splV (.slice (some ⟨bv, 0, none⟩) n cap) o) (by rw [splV_len HOL.out]; rfl)] at B8))
        refine bodyPost_ret (v := .tuple #[.agg (splV (.slice (some ⟨bv, 0, none⟩) n cap) o).toArray, .int .i64 0]) (results_cell_tmp' Try.results13 _ _ _ ⟨w.heap.size + 2, 0, none⟩ _ _ rfl (load_spl HOL.out B8) rfl) rfl ⟨.slice (some ⟨bv, 0, none⟩) n cap, by rw [HW.out.2.1, HW.out.2.2], ?_, ?_⟩
        · rw [HW.out.1, ← HBS.out]
          have hV := HE.out.all_keep (KeepS.of_grown (S := fun j => j = w.heap.size + 2) hg8 (fun q hq => by injection hq with hq; exact hq.symm)) (fun j e => by have := HBV.out; omega) (lo := w.heap.size) (by have := HBV.out; omega)
          rw [HN.out] at hV
          exact hV
        · exact Below.grown (HK7.out.trans (HFr.out.keep.below (B := w.heap.size) (by have := HK7.out.size; omega) (fun j e => by have := HBV.out; omega))) hg8 (by have := HCr.out.fs.lt; omega) (fun q hq => by injection hq with hq; omega)
end Go.Proofs.Ytbibfpopkcekdaa.Words

/- Plain mathematics of chapter 11: owners made register by register; two owners joined; what a load and its address ask for. Nothing here speaks of one program text. -/
namespace Go.Proofs.Ytbibfpopkcekdaa.Words
set_option maxRecDepth 100000
open Go.RowKit
set_option linter.unusedVariables false

/-- Sixteen registers by a function. -/
def funO (f : Nat → Int) : List Int := (List.range 16).map f
theorem funO_len (f : Nat → Int) : (funO f).length = 16 := by simp [funO]
theorem funO_at (f : Nat → Int) {k : Nat} (hk : k ≤ 15) : atO (funO f) k = f k := by
  rw [atO_nat, List.getD_eq_getElem?_getD]; unfold funO
  rw [List.getElem?_map, List.getElem?_range (show k < 16 by omega)]; rfl
theorem funO_ext {f g : Nat → Int} (h : ∀ k, k ≤ 15 → f k = g k) : funO f = funO g := ext_O (funO_len f) (funO_len g) fun k hk => by rw [funO_at f hk, funO_at g hk, h k hk]
theorem funO_set (f : Nat → Int) (i : Nat) (x : Int) : (funO f).set i x = funO (fun k => if k = i then x else f k) := by
  refine List.ext_getElem (by simp [funO]) fun k h1 h2 => ?_
  simp only [funO, List.length_set, List.length_map, List.length_range] at h1
  rw [List.getElem_set]
  simp only [funO, List.getElem_map, List.getElem_range]
  by_cases e : i = k
  · subst e; simp
  · rw [if_neg e, if_neg (fun c => e c.symm)]
theorem funO_of {o : List Int} (h : o.length = 16) : o = funO (fun k => atO o k) := ext_O h (funO_len _) fun k hk => (funO_at (fun k => atO o k) hk).symm
theorem funO_ok {f : Nat → Int} (h0 : f 0 = 0) (h : ∀ k, 1 ≤ k → k ≤ 15 → f k = 1 ∨ f k = 2) : OkO (funO f) := by
  refine ⟨funO_len f, ?_, fun k h1 h2 => ?_⟩
  · have := funO_at f (k := 0) (by omega); rw [h0] at this; exact this
  · rw [funO_at f h2]; exact h k h1 h2

theorem mem_need {i : Ins} {o : List Int} {r : Int} : r ∈ needZ i o ↔ (memB i.op = true ∧ r = i.a) ∨ (memB i.op = false ∧ recB i.op = true ∧ atO o i.d = 1 ∧ r ∈ readsZ i) := by
  unfold needZ
  cases hm : memB i.op
  · rw [if_neg (by decide)]
    by_cases hd : recB i.op = true ∧ atO o i.d = 1
    · rw [if_pos hd]; simp [hd.1, hd.2]
    · rw [if_neg hd]
      constructor
      · intro h; cases h
      · rintro (⟨h, _⟩ | ⟨_, h1, h2, _⟩)
        · exact absurd h (by decide)
        · exact absurd ⟨h1, h2⟩ hd
  · rw [if_pos rfl]; simp

/-- On A in either. -/
def orO (x y : List Int) : List Int := funO fun k => if 1 ≤ k ∧ atO y k = 1 then 1 else atO x k
/-- On A in both. -/
def andO (x y : List Int) : List Int := funO fun k => if 1 ≤ k ∧ atO y k ≠ 1 then 2 else atO x k
theorem orO_ok {x y : List Int} (hx : OkO x) : OkO (orO x y) := funO_ok (by rw [if_neg (by omega)]; exact hx.2.1) fun k h1 h2 => by
  split
  · exact .inl rfl
  · exact hx.2.2 k h1 h2
theorem andO_ok {x y : List Int} (hx : OkO x) : OkO (andO x y) := funO_ok (by rw [if_neg (by omega)]; exact hx.2.1) fun k h1 h2 => by
  split
  · exact .inr rfl
  · exact hx.2.2 k h1 h2
theorem at_or (x y : List Int) {r : Int} (hr : 0 ≤ r ∧ r ≤ 15) : atO (orO x y) r = if 1 ≤ r ∧ atO y r = 1 then 1 else atO x r := by
  obtain ⟨n, rfl, hn⟩ := nat_of hr
  rw [orO, funO_at _ hn]
  by_cases h : 1 ≤ n
  · have h' : (1 : Int) ≤ (n : Int) := by omega
    simp only [h, h', true_and]
  · rw [if_neg (fun c => h c.1), if_neg (fun c => h (by omega))]
theorem at_and (x y : List Int) {r : Int} (hr : 0 ≤ r ∧ r ≤ 15) : atO (andO x y) r = if 1 ≤ r ∧ atO y r ≠ 1 then 2 else atO x r := by
  obtain ⟨n, rfl, hn⟩ := nat_of hr
  rw [andO, funO_at _ hn]
  by_cases h : 1 ≤ n
  · have h' : (1 : Int) ≤ (n : Int) := by omega
    simp only [h, h', true_and]
  · rw [if_neg (fun c => h c.1), if_neg (fun c => h (by omega))]
theorem at_zero {o : List Int} (ho : OkO o) {r : Int} (hr : 0 ≤ r) (h : ¬ 1 ≤ r) : atO o r = 0 := by rw [show r = 0 from by omega]; exact ho.2.1
theorem or_all {code : List Ins} {x y : List Int} (hc : ∀ i ∈ code, rightB i = true) (hx : OkO x) (hy : OkO y) (ax : AllO code x) (ay : AllO code y) : AllO code (orO x y) := by
  intro i hi r hr
  have hri := right_range (hc i hi)
  have h15 := need_range (hc i hi) hr
  rw [at_or x y h15]
  rcases mem_need.1 hr with ⟨hm, rfl⟩ | ⟨hm, hrc, hd, hmem⟩
  · have := ax i hi i.a (mem_need.2 (.inl ⟨hm, rfl⟩))
    split
    · decide
    · exact this
  · have hr1 := reads_mem hmem
    rw [at_or x y hri.2.1] at hd
    split at hd
    · rename_i c
      have := on_of hy ⟨hr1.2.1, hr1.2.2.1⟩ (ay i hi r (mem_need.2 (.inr ⟨hm, hrc, c.2, hmem⟩)))
      rw [if_pos ⟨hr1.2.1, this⟩]; decide
    · have := ax i hi r (mem_need.2 (.inr ⟨hm, hrc, hd, hmem⟩))
      split
      · decide
      · exact this
theorem and_all {code : List Ins} {x y : List Int} (hc : ∀ i ∈ code, rightB i = true) (hx : OkO x) (hy : OkO y) (ax : AllO code x) (ay : AllO code y) : AllO code (andO x y) := by
  intro i hi r hr
  have hri := right_range (hc i hi)
  have h15 := need_range (hc i hi) hr
  rw [at_and x y h15]
  by_cases h1 : 1 ≤ r
  rotate_left
  · rw [if_neg (fun c => h1 c.1), at_zero hx h15.1 h1]; decide
  rcases mem_need.1 hr with ⟨hm, rfl⟩ | ⟨hm, hrc, hd, hmem⟩
  · have a1 := ax i hi i.a (mem_need.2 (.inl ⟨hm, rfl⟩))
    have a2 := on_of hy ⟨h1, h15.2⟩ (ay i hi i.a (mem_need.2 (.inl ⟨hm, rfl⟩)))
    rw [if_neg (fun c => c.2 a2)]; exact a1
  · rw [at_and x y hri.2.1] at hd
    split at hd
    · exact absurd hd (by decide)
    · rename_i c
      have d1 : 1 ≤ i.d := by
        by_cases h : 1 ≤ i.d
        · exact h
        · rw [at_zero hx hri.2.1.1 h] at hd; exact absurd hd (by decide)
      have dy : atO y i.d = 1 := by
        by_cases h : atO y i.d = 1
        · exact h
        · exact absurd ⟨d1, h⟩ c
      have a1 := ax i hi r (mem_need.2 (.inr ⟨hm, hrc, hd, hmem⟩))
      have a2 := on_of hy ⟨h1, h15.2⟩ (ay i hi r (mem_need.2 (.inr ⟨hm, hrc, dy, hmem⟩)))
      rw [if_neg (fun c => c.2 a2)]; exact a1
/-- All on A. -/
def allA : List Int := [0, 1, 1, 1, 1, 1, 1, 1, 1, 1, 1, 1, 1, 1, 1, 1]
theorem allA_ok : OkO allA := ⟨rfl, rfl, fun k h1 h2 => (by decide : ∀ k : Fin 16, 1 ≤ k.val → (atO allA (k.val : Int) = 1 ∨ atO allA (k.val : Int) = 2)) ⟨k, by omega⟩ h1⟩
theorem allA_at {r : Int} (hr : 0 ≤ r ∧ r ≤ 15) : atO allA r ≠ 2 := by
  obtain ⟨n, rfl, hn⟩ := nat_of hr
  exact (by decide : ∀ k : Fin 16, atO allA (k.val : Int) ≠ 2) ⟨n, by omega⟩
theorem allA_all {code : List Ins} (hc : ∀ i ∈ code, rightB i = true) : AllO code allA := fun i hi r hr => allA_at (need_range (hc i hi) hr)

/-- The program of OwnerLoads, and what is on A of it. -/
def loadCode (base d b op : Int) : List Ins := [⟨op, d, base, 0, 0⟩, ⟨1, b, d, b, 0⟩, ⟨31, 0, base, b, 0⟩, ⟨41, 0, 0, 0, 0⟩]
def loadOn (base d b : Int) (k : Nat) : Bool := decide ((k : Int) = base ∨ (b = base ∧ ((k : Int) = d ∨ (k : Int) = b)))
section
variable {base d b op : Int} (h1 : 1 ≤ base ∧ base ≤ 15) (h2 : 1 ≤ d ∧ d ≤ 15) (h3 : 1 ≤ b ∧ b ≤ 15) (h4 : 26 ≤ op ∧ op ≤ 30)
include h1 h2 h3 h4
theorem load_right : ∀ i ∈ loadCode base d b op, rightB i = true := by
  intro i hi
  simp only [loadCode, List.mem_cons, List.not_mem_nil, or_false] at hi
  rw [rightB_iff]
  rcases hi with rfl | rfl | rfl | rfl
  all_goals (have := lowI_cases op; have := lowI_cases 1; have := lowI_cases 31; have := lowI_cases 41; simp only; refine ⟨by omega, ?_, ?_, ?_, ?_⟩ <;> split <;> first | omega | trivial)
theorem load_least (k : Nat) (h5 : 1 ≤ k ∧ k ≤ 15) : atO (leastO (loadCode base d b op)) k = 1 ↔ loadOn base d b k = true := by
  have hc := load_right h1 h2 h3 h4
  have hok := least_ok _ hc
  have hall := least_all hc
  have fo := formZ_cases op
  have e1 : memB op = true := decide_eq_true (by omega)
  have e2 : memB 1 = false := by decide
  have e3 : recB 1 = true := by decide
  have e4 : memB 31 = true := by decide
  have e5 : memB 41 = false := by decide
  have e6 : recB 41 = false := by decide
  have r1 : readsZ ⟨1, b, d, b, 0⟩ = [d, b] := by
    rw [readsZ_yes (hc _ (by simp [loadCode]))]
    rw [if_neg (by simp only; omega), if_neg (by simp only; omega)]; rfl
  constructor
  · intro hk
    have hT : OkO (funO fun k => if k = 0 then 0 else if loadOn base d b k = true then 1 else 2) := funO_ok (by simp) fun k a1 a2 => by
      rw [if_neg (by omega)]; split <;> simp
    have hat : ∀ r : Int, 1 ≤ r ∧ r ≤ 15 → atO (funO fun k => if k = 0 then 0 else if loadOn base d b k = true then 1 else 2) r = if r = base ∨ (b = base ∧ (r = d ∨ r = b)) then 1 else 2 := by
      intro r hr
      obtain ⟨n, rfl, hn⟩ := nat_of (r := r) (by omega)
      rw [funO_at _ hn, if_neg (by omega)]
      unfold loadOn
      simp only [decide_eq_true_eq]
    have hA : AllO (loadCode base d b op) (funO fun k => if k = 0 then 0 else if loadOn base d b k = true then 1 else 2) := by
      intro i hi r hr
      simp only [loadCode, List.mem_cons, List.not_mem_nil, or_false] at hi
      rw [mem_need] at hr
      rcases hi with rfl | rfl | rfl | rfl
      · rcases hr with ⟨_, rfl⟩ | ⟨hm, _⟩
        · rw [hat _ h1, if_pos (.inl rfl)]; decide
        · simp only [e1] at hm; cases hm
      · rcases hr with ⟨hm, _⟩ | ⟨_, _, hd, hmem⟩
        · simp only [e2] at hm; cases hm
        · rw [r1] at hmem
          simp only at hd
          rw [hat _ h3] at hd
          simp only [List.mem_cons, List.not_mem_nil, or_false] at hmem
          split at hd
          · rename_i c
            have hb : b = base := by omega
            rw [hat _ (by omega), if_pos (by omega)]; decide
          · exact absurd hd (by decide)
      · rcases hr with ⟨_, rfl⟩ | ⟨hm, _⟩
        · rw [hat _ h1, if_pos (.inl rfl)]; decide
        · simp only [e4] at hm; cases hm
      · rcases hr with ⟨hm, _⟩ | ⟨_, hm, _⟩
        · simp only [e5] at hm; cases hm
        · simp only [e6] at hm; cases hm
    have := least_sub hc hT hA k h5.2 hk
    rw [hat _ (by omega)] at this
    unfold loadOn
    refine decide_eq_true ?_
    split at this
    · assumption
    · exact absurd this (by decide)
  · intro hk
    have hb := of_decide_eq_true hk
    have on1 : atO (leastO (loadCode base d b op)) base = 1 := on_of hok h1 (hall ⟨op, d, base, 0, 0⟩ (by simp [loadCode]) base (mem_need.2 (.inl ⟨e1, rfl⟩)))
    rcases hb with e | ⟨e, e'⟩
    · rw [e]; exact on1
    · have on2 : ∀ r ∈ readsZ ⟨1, b, d, b, 0⟩, atO (leastO (loadCode base d b op)) r ≠ 2 := fun r hr => hall ⟨1, b, d, b, 0⟩ (by simp [loadCode]) r (mem_need.2 (.inr ⟨e2, e3, by simp only; rw [e] at on1 ⊢; exact on1, hr⟩))
      rw [r1] at on2
      rcases e' with e' | e'
      · rw [e']; exact on_of hok h2 (on2 d (by simp))
      · rw [e']; exact on_of hok h3 (on2 b (by simp))
end
/-- The program of OwnerChain. -/
def chainCode (n : Nat) (load : Bool) : List Ins := ((List.range (n - 1)).map fun k => ⟨1, (k : Int) + 2, (k : Int) + 1, (k : Int) + 1, 0⟩) ++ [⟨1, 15, 14, n, 0⟩] ++ [if load = true then ⟨26, 14, n, 0, 0⟩ else ⟨31, 0, n, 14, 0⟩]
set_option maxHeartbeats 1000000 in
theorem chain_all : ∀ n : Fin 13, ∀ load : Bool, (chainCode (n.val + 1) load).all rightB = true ∧ ∀ k : Fin 15, atO (leastO (chainCode (n.val + 1) load)) ((k.val : Int) + 1) = if k.val + 1 ≤ n.val + 1 then 1 else 2 := by decide +kernel
end Go.Proofs.Ytbibfpopkcekdaa.Words

/- Contract of package owner's Of: the least owner. -/
namespace Go.Proofs.Ytbibfpopkcekdaa.Words
set_option maxRecDepth 100000
open Go.RowKit
set_option linter.unusedVariables false
set_option linter.unusedSimpArgs false

/-- What Of answers. -/
def ofZ (l : List Ins) (sz : Int) (m : Nat) : List Int := if rightZ l sz m = true then leastO l else zeroO
theorem rightZ_insO {l : List Ins} {sz : Int} {m : Nat} (h : rightZ l sz m = true) : l.length ≤ 2000 ∧ ∀ i ∈ l, rightB i = true := by
  rw [rightZ_fit, Bool.and_eq_true, Bool.and_eq_true] at h
  obtain ⟨⟨h1, h2⟩, _⟩ := h
  have := of_decide_eq_true h1
  exact ⟨by omega, List.all_eq_true.1 h2⟩
theorem ofZ_len {l : List Ins} {sz : Int} {m : Nat} : (ofZ l sz m).length = 16 := by
  unfold ofZ
  split
  · rename_i h; exact (least_ok l (rightZ_insO h).2).1
  · rfl
theorem load_own {w : World} {b : Nat} {o : List Int} (h : Box w b (oV o)) (ho : o.length = 16) : (loadVar 26 ⟨b, 0, none⟩).run Try.prog w = .ok (.agg (oV o).toArray) w :=
  run_loadVar_mid w b 0 26 (oV o) _ h.whole Try.underlying26 rfl (by rw [oV_len, ho]; kernel_rfl)
/-- The registers while they are put on E. -/
def startO (k : Nat) : List Int := funO fun j => if 1 ≤ j ∧ j < k then 2 else 0
theorem startO_1 : startO 1 = zeroO := by decide
theorem startO_16 : startO 16 = firstO := by decide
theorem startO_set {k : Nat} (h : 1 ≤ k) : (startO k).set k 2 = startO (k + 1) := by
  unfold startO
  rw [funO_set]
  refine funO_ext fun j hj => ?_
  by_cases e : j = k
  · subst e; rw [if_pos rfl, if_pos ⟨h, by omega⟩]
  · rw [if_neg e]
    by_cases c : 1 ≤ j ∧ j < k
    · rw [if_pos c, if_pos ⟨c.1, by omega⟩]
    · rw [if_neg c, if_neg (by omega)]
/-- The registers in a block. -/
def decO (w : World) (b : Nat) : List Int := (List.range 16).map fun k => match w.cell? ⟨b, k, none⟩ with | some (.int _ x) => x | _ => 0
theorem decO_eq {w : World} {b : Nat} {o : List Int} (h : Box w b (oV o)) (ho : o.length = 16) : decO w b = o := by
  refine List.ext_getElem (by simp [decO, ho]) fun k h1 h2 => ?_
  simp only [decO, List.getElem_map, List.getElem_range]
  rw [h.cell (oV_at ho (n := k) (by omega))]
  simp only
  rw [atO_nat, List.getD_eq_getElem?_getD, List.getElem?_eq_getElem h2]; rfl
def bitV (v : Value) : Nat := match v with | .bool true => 1 | _ => 0

set_option maxHeartbeats 8000000 in
theorem of_any' (A : Option Addr) (c : Nat) (sz : Int) (A' : Option Addr) (m c' : Nat) (l : List Ins) (w : World) (hr : Row w w.heap.size 5 (.slice A l.length c) l.length (codeCells l)) (hm : m ≤ c') (hc' : c' ≤ 9223372036854775807) :
    Calls Try.prog 21 #[.agg #[.slice A l.length c, .int .i64 sz, .slice A' m c']] w fun e w' => e = .returned (.agg (oV (ofZ l sz m)).toArray) ∧ Below w.heap.size w w' := by
  obtain ⟨W1, hW1⟩ : ∃ W1, W1 = w.alloc (.cells #[.slice A l.length c, .int .i64 sz, .slice A' m c'] 25) := ⟨_, rfl⟩
  obtain ⟨W2, hW2⟩ : ∃ W2, W2 = W1.alloc (.cells #[.int .i64 0, .int .i64 0, .int .i64 0, .int .i64 0, .int .i64 0, .int .i64 0, .int .i64 0, .int .i64 0, .int .i64 0, .int .i64 0, .int .i64 0, .int .i64 0, .int .i64 0, .int .i64 0, .int .i64 0, .int .i64 0] 26) := ⟨_, rfl⟩
  have hz1 : W1.heap.size = w.heap.size + 1 := by rw [hW1]; simp
  have hz2 : W2.heap.size = w.heap.size + 2 := by rw [hW2]; simp [hz1]
  have hK : Below w.heap.size w W2 := by rw [hW2, hW1]; exact ((Below.refl w.heap.size w).alloc (Nat.le_refl _) _).alloc (by simp) _
  have HB0 : Box W2 (w.heap.size + 1) (oV zeroO) := by rw [hW2, ← hz1]; exact Box.new W1 (oV zeroO) _
  have HI : Box W2 w.heap.size [.slice A l.length c, .int .i64 sz, .slice A' m c'] := by
    rw [hW2]; refine Box.alloc ?_ _; rw [hW1]; exact Box.new w [.slice A l.length c, .int .i64 sz, .slice A' m c'] _
  have HR : Row W2 W2.heap.size 5 (.slice A l.length c) l.length (codeCells l) := (hr.below hK).more (by omega)
  have c0 := HI.cell (k := 0) rfl
  have c1 := HI.cell (k := 1) rfl
  have c2 := HI.cell (k := 2) rfl
  have HB := Lib.hid HB0
  have HIB := Lib.hid HI
  have HRR := Lib.hid HR
  have HKK := Lib.hid hK
  obtain ⟨hcl, hcm⟩ := hr.cap
  clear HI HB0 hK hr HR
  go_enter Try.func21, Try.ntmps21
  go_wp2_with fail
  rw [← hW1, ← hW2]
  clear hW1 hW2
  refine (imgRight_any A c sz A' m c' l _ HRR.out hm hc').mono ?_; rintro e w1 ⟨rfl, hb1⟩
  have HBX := Lib.hid (HB.out.below hb1 HB.out.lt)
  have HIX := Lib.hid (HIB.out.below hb1 HIB.out.lt)
  have HRX := Lib.hid ((HRR.out.below hb1).more hb1.size)
  have HKX := Lib.hid (HKK.out.trans (hb1.mono (by omega)))
  have hz3 : w.heap.size + 2 ≤ w1.heap.size := by have := hb1.size; omega
  clear hb1 c0 c1 c2 HB HIB HRR HKK hz1 hz2
  cases hri : rightZ l sz m
  · have HL := Lib.hid (show ofZ l sz m = zeroO by unfold ofZ; rw [if_neg (by rw [hri]; decide)])
    clear hri
    go_wp2_with (first
      | (refine wpList_store_box rfl 26 (.tmp 2) (.tmp 9) rfl (w.heap.size + 1) 0 (oV zeroO) rfl rfl (oV zeroO) HBX.out (Nat.le_refl _) 16 (by kernel_rfl) rfl (oV_one _) ?_; intro w3 B3 hg3; rw [splice_whole _ _ rfl] at B3))
    refine bodyPost_ret (v := .agg (oV zeroO).toArray) ?_ rfl ⟨by rw [HL.out], ?_⟩
    · exact results_cell Try.results21 _ _ _ ⟨w.heap.size + 1, 0, none⟩ _ rfl (load_own B3 rfl)
    · exact Below.grown HKX.out hg3 (by omega) (fun i hi => by injection hi with hi; omega)
  have HL := Lib.hid (show ofZ l sz m = leastO l by unfold ofZ; rw [if_pos hri])
  have hp := rightZ_insO hri
  have HPR := Lib.hid hp.2
  have hl2 : l.length ≤ 2000 := hp.1
  clear hri hp
  have HO0 : Hid (Box (w1.alloc (.cells (oV zeroO).toArray 26)) w1.heap.size (oV (startO 1))) := by rw [startO_1]; exact Box.new w1 (oV zeroO) 26
  have HK1 : Hid (Below w1.heap.size w1 (w1.alloc (.cells (oV zeroO).toArray 26))) := (Below.refl _ _).alloc (Nat.le_refl _) _
  go_wp2_with fail
  change Code.wp _ _ _ _ (w1.alloc (.cells (oV zeroO).toArray 26))
  obtain ⟨b, hb⟩ : ∃ b, b = w1.heap.size := ⟨_, rfl⟩
  rw [← hb] at HO0 HK1 hz3 ⊢
  have HBE := Lib.hid hb
  clear hb
  generalize w1.alloc (.cells (oV zeroO).toArray 26) = Y at *
  go_loopw [4] (fun ii wr => ∃ k : Nat, 1 ≤ k ∧ k ≤ 16 ∧ ii = .int .i64 k ∧ Box wr b (oV (startO k)) ∧ Below b w1 wr) (fun ii _ => 16 - (intOf ii).toNat)
  case atStart => exact ⟨1, by omega, by omega, rfl, HO0.out, HK1.out⟩
  case round =>
    obtain ⟨k, hk1, hk, rfl, hbx, hbl⟩ := hrel
    have HX := Lib.hid hbx
    have HKY := Lib.hid hbl
    clear hbx hbl
    by_cases hlt : k < 16
    · have f1 := HX.out.cell (oV_at (funO_len _) (n := k) (by omega))
      have f2 := HX.out.frozen k
      have hbz := HX.out.lt
      have g0 : (0 : Int) ≤ k := by omega
      have g1 : (k : Int) < 16 := by omega
      have HN : Hid (Box (wr.setCell ⟨b, k, none⟩ (.int .i64 2)) b (oV (startO (k + 1)))) := by
        have := HX.out.setCell k (.int .i64 2)
        rwa [oV_set, startO_set hk1] at this
      have HKN : Hid (Below b w1 (wr.setCell ⟨b, k, none⟩ (.int .i64 2))) := HKY.out.setCell (p := ⟨b, k, none⟩) (Nat.le_refl _) _
      go_wp2_with fail
      go_roundw
      case rel => exact ⟨k + 1, by omega, by omega, by go_num, HN.out, HKN.out⟩
      case measure => simp only [intOf]; omega
    · have HX : Hid (Box wr b (oV firstO)) := by rw [← startO_16, show 16 = k from by omega]; exact HX.out
      have g1 : ¬ (k : Int) < 16 := by omega
      have HB0 := Lib.hid (show Row w1 b 5 (.slice A l.length c) l.length (codeCells l) from by rw [HBE.out]; exact HRX.out)
      have HP0 := Lib.hid (HIX.out.below HKY.out (by omega))
      go_wp2_with fail
      go_loopw [5] (fun mm wx => ∃ (k : Nat) (p : List Int) (mv : Bool), mm = .bool mv ∧ Below b w1 wx ∧ Box wx b (oV p) ∧ OkO p ∧ p = iterO l k firstO ∧ (mv = true → k + cntE p ≤ 15) ∧ (mv = false → k ≤ 17 ∧ roundO l p = p)) (fun mm wx => 2 * cntE (decO wx b) + bitV mm)
      case atStart => exact ⟨0, firstO, true, rfl, HKY.out, HX.out, firstO_ok, rfl, fun _ => by decide, fun h => by cases h⟩
      case round =>
        obtain ⟨k, p, mv, rfl, hbl, hbx, hok, hit, hy, hn⟩ := hrel
        have HX2 := Lib.hid hbx
        have HKY2 := Lib.hid hbl
        have HOK := Lib.hid hok
        have HIT := Lib.hid hit
        clear hbx hbl hok hit
        cases mv
        · obtain ⟨h17, hfix⟩ := hn rfl
          have HE := Lib.hid (HL.out.trans (least_of l HIT.out h17 hfix))
          have HPL := Lib.hid HOK.out.1
          have HRB := Lib.hid (HBX.out.below HKY2.out (by omega))
          clear hfix hy hn h17
          go_wp2_with (first
            | (refine wpList_load_box rfl 26 (.tmp 3) rfl b 0 rfl (oV p) (oV p) HX2.out whole_at _ Try.underlying26 rfl 16 (by kernel_rfl) ((oV_len p).trans HPL.out) ?_)
            | (refine wpList_store_box rfl 26 (.tmp 2) (.tmp 20) rfl (w.heap.size + 1) 0 (oV p) rfl rfl (oV zeroO) HRB.out (by rw [oV_len, HPL.out]; exact Nat.le_refl _) 16 (by kernel_rfl) ((oV_len p).trans HPL.out) (oV_one _) ?_; intro w3 B3 hg3; rw [splice_whole _ _ (by rw [oV_len, HPL.out]; rfl)] at B3))
          refine bodyPost_ret (v := .agg (oV p).toArray) ?_ rfl ⟨by rw [HE.out], ?_⟩
          · exact results_cell Try.results21 _ _ _ ⟨w.heap.size + 1, 0, none⟩ _ rfl (load_own B3 HPL.out)
          · exact Below.grown (HKX.out.trans (HKY2.out.mono (by omega))) hg3 (by have := HKX.out.size; have := HKY2.out.size; omega) (fun i hi => by injection hi with hi; omega)
        · have HY := Lib.hid (hy rfl)
          have HPB := Lib.hid (HIX.out.below HKY2.out (by omega))
          have c0 := HPB.out.cell (k := 0) rfl
          have HRW := Lib.hid (HB0.out.below HKY2.out)
          have hbz := HX2.out.lt
          clear hy hn
          go_wp2_with fail
          refine (move_any A c l b p _ HRW.out (by omega) HPR.out HOK.out HX2.out).mono ?_; rintro e w5 ⟨mv, rfl, hS⟩
          have HS := Lib.hid hS
          clear hS
          go_wp2_with fail
          go_roundw
          case rel =>
            refine ⟨k + 1, roundO l p, mv, rfl, HKY2.out.trans HS.out.below, HS.out.box, HS.out.mv.ok, by rw [iter_succ, ← HIT.out], fun h => ?_, fun h => ?_⟩
            · have := HS.out.mv.yes h
              have := HY.out
              omega
            · have e := HS.out.mv.no h
              have := HY.out
              exact ⟨by omega, by rw [e]; exact e⟩
          case measure =>
            rw [decO_eq HS.out.box HS.out.mv.ok.1, decO_eq HX2.out HOK.out.1]
            cases mv
            · have := HS.out.mv.no rfl
              rw [this]; simp [bitV]
            · have := HS.out.mv.yes rfl
              simp only [bitV]; omega
end Go.Proofs.Ytbibfpopkcekdaa.Words

/- Several texts in one: ShowOf, ShowIns, ShowTop, ShowCall. -/
import Derived.Test.YtcaibahniheohaaDoorBG28
import Derived.Test.YtcaibahniheohaaDoorBG04
import Derived.Test.YtcaibahniheohaaDoorBG02

/- What registers and instructions are put together of, and what is written of them. -/
namespace Go.Proofs.YtcaibahniheohaaDoor.Words
set_option maxRecDepth 100000
open Go.RowKit Go.Shelf Go.Lib
set_option linter.unusedVariables false
set_option linter.unusedSimpArgs false
theorem own_lit (w : World) (l : List Value) (t : TypeId) (hl : l.length ≤ 1000000) : (w.alloc (.cells l.toArray t)).ownsRow w.heap.size t 1 (.slice (some ⟨w.heap.size, 0, none⟩) l.length l.length) l.length l :=
  ⟨(Nat.mul_one _).symm, .inr ⟨w.heap.size, l.length, l.toArray, rfl, Nat.le_refl _, heap_alloc_new w _, Nat.le_refl _, by unfold maxLen; omega, by simp, by simp⟩⟩
set_option maxHeartbeats 2000000 in
theorem parts_reg (k : Int) (hk : 0 ≤ k ∧ k ≤ 15) : PartsC (.iface 143 (.int .i64 k)) [.s [114], .n k] := by
  intro w hT
  have a1 := as_rr (.int .i64 k)
  obtain ⟨k0, k1⟩ := hk
  have hO := own_lit w [.iface 9 (.string ⟨#[114]⟩), .iface 3 (.int .i64 k)] 20 (by simp)
  have HO := Lib.hid hO
  have g1 : decide (0 ≤ k) = true := decide_eq_true k0
  have g2 : decide (k ≤ 15) = true := decide_eq_true k1
  clear hO hT
  go_enter Tryd.func71, Tryd.ntmps71
  go_wp2_with fail
  go_ret
  exact ⟨_, rfl, HO.out, (Below.refl _ _).alloc (Nat.le_refl _) _⟩
set_option maxHeartbeats 2000000 in
theorem parts_regno (k : Int) (hk : -9223372036854775808 ≤ k ∧ k ≤ 9223372036854775807) (h : ¬ (0 ≤ k ∧ k ≤ 15)) : PartsC (.iface 143 (.int .i64 k)) [] := by
  intro w hT
  have a1 := as_rr (.int .i64 k)
  have a2 := as_ri (.int .i64 k)
  have a3 := as_rc (.int .i64 k)
  have a4 := as_rp (.int .i64 k)
  unfold zIns at a2
  unfold zCell at a3
  unfold zProg at a4
  clear hT
  by_cases h0 : 0 ≤ k
  · have h1 : ¬ k ≤ 15 := fun e => h ⟨h0, e⟩
    have g1 : decide (0 ≤ k) = true := decide_eq_true h0
    have g2 : decide (k ≤ 15) = false := decide_eq_false h1
    clear h
    go_enter Tryd.func71, Tryd.ntmps71
    go_wp2_with fail
    go_ret
    exact ⟨_, rfl, World.ownsRow_nil _ _ _ _, by first | exact (((Below.refl _ _).alloc (Nat.le_refl _) _).alloc (by simp) _).alloc (by simp; omega) _ | (refine (((Below.refl w.heap.size w).alloc (Nat.le_refl _) _).alloc ?_ _).alloc ?_ _ <;> simp <;> omega)⟩
  · have g1 : decide (0 ≤ k) = false := decide_eq_false h0
    clear h
    go_enter Tryd.func71, Tryd.ntmps71
    go_wp2_with fail
    go_ret
    exact ⟨_, rfl, World.ownsRow_nil _ _ _ _, by first | exact (((Below.refl _ _).alloc (Nat.le_refl _) _).alloc (by simp) _).alloc (by simp; omega) _ | (refine (((Below.refl w.heap.size w).alloc (Nat.le_refl _) _).alloc ?_ _).alloc ?_ _ <;> simp <;> omega)⟩
theorem write_reg {B : Nat} (hB : B + 200 ≤ 1099511627776) (k : Int) (hk : -9223372036854775808 ≤ k ∧ k ≤ 9223372036854775807) : WriteC B (Part.reg k).val (Part.reg k).text := by
  by_cases h : 0 ≤ k ∧ k ≤ 15
  · have e : (Part.reg k).text = partsTxt [.s [114], .n k] := by
      show (if 0 ≤ k ∧ k ≤ 15 then some (regS k) else none) = _
      rw [if_pos h, partsTxt_cons (a := [114]) (b := decN k) rfl (partsTxt_some rfl)]
      rfl
    rw [e]
    have hd : (decN k).length ≤ 12 := decN_len (by omega)
    refine write_parts (deep_reg _) (parts_reg k h) (by simp) (by simp) (fun p hp => ?_) (fun p hp => ?_)
    · simp only [List.mem_cons, List.not_mem_nil, or_false] at hp
      rcases hp with rfl | rfl
      · show ([114] : List UInt8).length ≤ 60; decide
      · exact ⟨by omega, by omega, by omega⟩
    · simp only [List.mem_cons, List.not_mem_nil, or_false] at hp
      rcases hp with rfl | rfl
      · exact write_str (by simp; omega) [114] (by decide)
      · exact write_int (by simp; omega) k (by omega) (by omega)
  · have e : (Part.reg k).text = none := if_neg h
    rw [e]
    exact write_nothing (deep_reg _) (parts_regno k hk h)
/-! ### the fields of an instruction -/
def fieldP (i : Ins) (c : UInt8) : Part := if c = 68 then .reg i.d else if c = 65 then .reg i.a else if c = 66 then .reg i.b else if c = 78 then .n i.imm else .s [c]
theorem rune_32 : ∀ w, (convert 21 9 (.int .i32 32)).run Tryd.prog w = .ok (.string ⟨#[32]⟩) w := fun _ => by kernel_rfl
theorem rune_44 : ∀ w, (convert 21 9 (.int .i32 44)).run Tryd.prog w = .ok (.string ⟨#[44]⟩) w := fun _ => by kernel_rfl
theorem rune_40 : ∀ w, (convert 21 9 (.int .i32 40)).run Tryd.prog w = .ok (.string ⟨#[40]⟩) w := fun _ => by kernel_rfl
theorem rune_41 : ∀ w, (convert 21 9 (.int .i32 41)).run Tryd.prog w = .ok (.string ⟨#[41]⟩) w := fun _ => by kernel_rfl
def FieldC (c : UInt8) : Prop := c = 68 ∨ c = 65 ∨ c = 66 ∨ c = 78 ∨ c = 32 ∨ c = 44 ∨ c = 40 ∨ c = 41
set_option maxHeartbeats 1000000 in
theorem showField_68 (i : Ins) (w : World) : Calls Tryd.prog 103 #[.agg #[.int .i64 i.op, .int .i64 i.d, .int .i64 i.a, .int .i64 i.b, .int .i64 i.imm], .int .i32 68] w fun e w' => e = .returned (Part.reg i.d).val ∧ Below w.heap.size w w' := by
  go_enter Tryd.func103, Tryd.ntmps103
  go_wp2_with fail
  go_ret
  exact ⟨rfl, (Below.refl _ _).alloc (Nat.le_refl _) _⟩
set_option maxHeartbeats 1000000 in
theorem showField_65 (i : Ins) (w : World) : Calls Tryd.prog 103 #[.agg #[.int .i64 i.op, .int .i64 i.d, .int .i64 i.a, .int .i64 i.b, .int .i64 i.imm], .int .i32 65] w fun e w' => e = .returned (Part.reg i.a).val ∧ Below w.heap.size w w' := by
  go_enter Tryd.func103, Tryd.ntmps103
  go_wp2_with fail
  go_ret
  exact ⟨rfl, (Below.refl _ _).alloc (Nat.le_refl _) _⟩
set_option maxHeartbeats 1000000 in
theorem showField_66 (i : Ins) (w : World) : Calls Tryd.prog 103 #[.agg #[.int .i64 i.op, .int .i64 i.d, .int .i64 i.a, .int .i64 i.b, .int .i64 i.imm], .int .i32 66] w fun e w' => e = .returned (Part.reg i.b).val ∧ Below w.heap.size w w' := by
  go_enter Tryd.func103, Tryd.ntmps103
  go_wp2_with fail
  go_ret
  exact ⟨rfl, (Below.refl _ _).alloc (Nat.le_refl _) _⟩
set_option maxHeartbeats 1000000 in
theorem showField_78 (i : Ins) (w : World) : Calls Tryd.prog 103 #[.agg #[.int .i64 i.op, .int .i64 i.d, .int .i64 i.a, .int .i64 i.b, .int .i64 i.imm], .int .i32 78] w fun e w' => e = .returned (Part.n i.imm).val ∧ Below w.heap.size w w' := by
  go_enter Tryd.func103, Tryd.ntmps103
  go_wp2_with fail
  go_ret
  exact ⟨rfl, (Below.refl _ _).alloc (Nat.le_refl _) _⟩
set_option maxHeartbeats 1000000 in
theorem showField_32 (i : Ins) (w : World) : Calls Tryd.prog 103 #[.agg #[.int .i64 i.op, .int .i64 i.d, .int .i64 i.a, .int .i64 i.b, .int .i64 i.imm], .int .i32 32] w fun e w' => e = .returned (Part.s [32]).val ∧ Below w.heap.size w w' := by
  have r1 := rune_32
  go_enter Tryd.func103, Tryd.ntmps103
  go_wp2_with fail
  go_ret
  exact ⟨rfl, (Below.refl _ _).alloc (Nat.le_refl _) _⟩
set_option maxHeartbeats 1000000 in
theorem showField_44 (i : Ins) (w : World) : Calls Tryd.prog 103 #[.agg #[.int .i64 i.op, .int .i64 i.d, .int .i64 i.a, .int .i64 i.b, .int .i64 i.imm], .int .i32 44] w fun e w' => e = .returned (Part.s [44]).val ∧ Below w.heap.size w w' := by
  have r1 := rune_44
  go_enter Tryd.func103, Tryd.ntmps103
  go_wp2_with fail
  go_ret
  exact ⟨rfl, (Below.refl _ _).alloc (Nat.le_refl _) _⟩
set_option maxHeartbeats 1000000 in
theorem showField_40 (i : Ins) (w : World) : Calls Tryd.prog 103 #[.agg #[.int .i64 i.op, .int .i64 i.d, .int .i64 i.a, .int .i64 i.b, .int .i64 i.imm], .int .i32 40] w fun e w' => e = .returned (Part.s [40]).val ∧ Below w.heap.size w w' := by
  have r1 := rune_40
  go_enter Tryd.func103, Tryd.ntmps103
  go_wp2_with fail
  go_ret
  exact ⟨rfl, (Below.refl _ _).alloc (Nat.le_refl _) _⟩
set_option maxHeartbeats 1000000 in
theorem showField_41 (i : Ins) (w : World) : Calls Tryd.prog 103 #[.agg #[.int .i64 i.op, .int .i64 i.d, .int .i64 i.a, .int .i64 i.b, .int .i64 i.imm], .int .i32 41] w fun e w' => e = .returned (Part.s [41]).val ∧ Below w.heap.size w w' := by
  have r1 := rune_41
  go_enter Tryd.func103, Tryd.ntmps103
  go_wp2_with fail
  go_ret
  exact ⟨rfl, (Below.refl _ _).alloc (Nat.le_refl _) _⟩
theorem showField_any (i : Ins) (c : UInt8) (hc : FieldC c) (w : World) :
    Calls Tryd.prog 103 #[.agg #[.int .i64 i.op, .int .i64 i.d, .int .i64 i.a, .int .i64 i.b, .int .i64 i.imm], .int .i32 (c.toNat : Int)] w fun e w' => e = .returned (fieldP i c).val ∧ Below w.heap.size w w' := by
  rcases hc with rfl | rfl | rfl | rfl | rfl | rfl | rfl | rfl
  · exact showField_68 i w
  · exact showField_65 i w
  · exact showField_66 i w
  · exact showField_78 i w
  · exact showField_32 i w
  · exact showField_44 i w
  · exact showField_40 i w
  · exact showField_41 i w
end Go.Proofs.YtcaibahniheohaaDoor.Words

/- What an instruction is put together of, and what is written of it. -/
namespace Go.Proofs.YtcaibahniheohaaDoor.Words
set_option maxRecDepth 100000
open Go.RowKit Go.Shelf Go.Lib
set_option linter.unusedVariables false
set_option linter.unusedSimpArgs false
def shapeS (op : Int) : List UInt8 := shapesS.getD (formZ op).toNat []
theorem shapeS_at (op : Int) : shapesS[(formZ op).toNat]? = some (shapeS op) := by
  have := formZ_range op
  unfold shapeS
  rw [List.getD_eq_getElem?_getD, List.getElem?_eq_getElem (show (formZ op).toNat < shapesS.length by show _ < 9; omega)]
  rfl
theorem shapeS_ok (op : Int) : ∀ c ∈ shapeS op, FieldC c := by
  have h : ∀ t ∈ shapesS, ∀ c ∈ t, c = 68 ∨ c = 65 ∨ c = 66 ∨ c = 78 ∨ c = 32 ∨ c = 44 ∨ c = 40 ∨ c = 41 := by decide
  exact h _ (List.mem_of_getElem? (shapeS_at op))
theorem shapeS_len (op : Int) : (shapeS op).length ≤ 8 := by
  have h : ∀ t ∈ shapesS, t.length ≤ 8 := by decide
  exact h _ (List.mem_of_getElem? (shapeS_at op))
theorem fieldC_low {c : UInt8} (h : FieldC c) : c.toNat < 128 := by rcases h with rfl | rfl | rfl | rfl | rfl | rfl | rfl | rfl <;> decide
def insParts (i : Ins) : List Part := .op i.op :: (shapeS i.op).map (fieldP i)
theorem insParts_len (i : Ins) : (insParts i).length ≤ 9 := by
  have := shapeS_len i.op
  unfold insParts; simp; omega
theorem insParts_ok {i : Ins} (hr : rightB i = true) : ∀ p ∈ insParts i, p.ok := by
  obtain ⟨ho, hd, ha, hb, hi⟩ := right_range hr
  have hl := decN_len8 hi
  intro p hp
  rcases List.mem_cons.1 hp with rfl | hp
  · exact ho
  · obtain ⟨c, hc, rfl⟩ := List.mem_map.1 hp
    unfold fieldP
    split
    · exact ⟨by omega, by omega⟩
    split
    · exact ⟨by omega, by omega⟩
    split
    · exact ⟨by omega, by omega⟩
    split
    · exact ⟨by omega, by omega, by omega⟩
    · show ([c] : List UInt8).length ≤ 60; simp
theorem insParts_txt {i : Ins} (hr : rightB i = true) : partsTxt (insParts i) = some (showI i) := by
  obtain ⟨ho, hd, ha, hb, hi⟩ := right_range hr
  have td : (Part.reg i.d).text = some (regN i.d) := by rw [← regS_eq hd]; exact if_pos hd
  have ta : (Part.reg i.a).text = some (regN i.a) := by rw [← regS_eq ha]; exact if_pos ha
  have tb : (Part.reg i.b).text = some (regN i.b) := by rw [← regS_eq hb]; exact if_pos hb
  have f8 := formZ_right hr
  rw [showI_form rfl]
  unfold insParts shapeS
  have h8 : formZ i.op = 1 ∨ formZ i.op = 2 ∨ formZ i.op = 3 ∨ formZ i.op = 4 ∨ formZ i.op = 5 ∨ formZ i.op = 6 ∨ formZ i.op = 7 ∨ formZ i.op = 8 := by omega
  rcases h8 with h | h | h | h | h | h | h | h <;> rw [h] <;>
    simp [shapesS, fieldP, partsTxt, Part.text, hd, ha, hb, regS_eq, pcText, Pc.text]
theorem val_iface (p : Part) : ∃ T u, p.val = .iface T u := by cases p <;> exact ⟨_, _, rfl⟩
set_option maxHeartbeats 4000000 in
theorem partsOfIns_any (i : Ins) (w : World) (hr : rightB i = true) (hT : TabsS w) :
    Calls Tryd.prog 89 #[.agg #[.int .i64 i.op, .int .i64 i.d, .int .i64 i.a, .int .i64 i.b, .int .i64 i.imm]] w fun e w' => ∃ v, e = .returned v ∧ w'.ownsRow w.heap.size 20 1 v (insParts i).length (partVals (insParts i)) ∧ Below w.heap.size w w' := by
  obtain ⟨i0, hi, hz0, hz1, hz2⟩ := info_parts (show (Tryd.prog.info? 20).map (fun i => (i.zero, i.size, i.bytes)) = some (some .nilIface, 1, 16) by kernel_rfl)
  have HI := Lib.hid hi
  have HZ0 := Lib.hid hz0
  have HZ1 := Lib.hid hz1
  have HZ2 := Lib.hid hz2
  clear hi hz0 hz1 hz2
  have f0 := formZ_range i.op
  have cF := Lib.hid (fun y => form_any i.op y)
  obtain ⟨K, hK⟩ : ∃ K : Nat, formZ i.op = (K : Int) := ⟨(formZ i.op).toNat, by omega⟩
  have hKt : (formZ i.op).toNat = K := by omega
  have hsh := hT.2.2 (formZ i.op).toNat (shapeS i.op) (shapeS_at i.op)
  have hgw : 3 < w.heap.size := hT.2.1
  rw [hKt] at hsh
  have HSO := Lib.hid (shapeS_ok i.op)
  have HSL := Lib.hid (shapeS_len i.op)
  have HIP : Hid (insParts i = .op i.op :: (shapeS i.op).map (fieldP i)) := rfl
  have ixk : (0 : Int) ≤ K ∧ (K : Int) < 9 := by omega
  obtain ⟨ix0, ix1⟩ := ixk
  have hB1 : w.heap.size < (w.alloc (.cells #[.int .i64 i.op, .int .i64 i.d, .int .i64 i.a, .int .i64 i.b, .int .i64 i.imm] 38)).heap.size := by simp
  have hx0 : Box (w.alloc (.cells #[.int .i64 i.op, .int .i64 i.d, .int .i64 i.a, .int .i64 i.b, .int .i64 i.imm] 38)) w.heap.size [.int .i64 i.op, .int .i64 i.d, .int .i64 i.a, .int .i64 i.b, .int .i64 i.imm] := Box.new w _ _
  have HX0 := Lib.hid hx0
  have hsh1 := below_cell ((Below.refl w.heap.size w).alloc (Nat.le_refl _) (.cells #[.int .i64 i.op, .int .i64 i.d, .int .i64 i.a, .int .i64 i.b, .int .i64 i.imm] 38)) hgw hsh
  have HBW := Lib.hid ((Below.refl w.heap.size w).alloc (Nat.le_refl _) (.cells #[.int .i64 i.op, .int .i64 i.d, .int .i64 i.a, .int .i64 i.b, .int .i64 i.imm] 38))
  have c0 : (w.alloc (.cells #[.int .i64 i.op, .int .i64 i.d, .int .i64 i.a, .int .i64 i.b, .int .i64 i.imm] 38)).cell? ⟨w.heap.size, 0, none⟩ = some (.int .i64 i.op) := hx0.cell (k := 0) rfl
  generalize shapeS i.op = sh at *
  rw [hK] at cF
  clear hT hr f0 hK hKt hsh hx0
  go_enter Tryd.func89, Tryd.ntmps89
  go_wp2_with fail
  have HWS := Lib.hid (show (w.alloc (.cells #[.int .i64 i.op, .int .i64 i.d, .int .i64 i.a, .int .i64 i.b, .int .i64 i.imm] 38)).heap.size = w.heap.size + 1 by simp)
  generalize (w.alloc (.cells #[.int .i64 i.op, .int .i64 i.d, .int .i64 i.a, .int .i64 i.b, .int .i64 i.imm] 38)) = W at *
  have hO1 := own_lit W [(Part.op i.op).val] 20 (by simp)
  change (W.alloc (.cells #[.iface 122 (.int .i64 i.op)] 20)).ownsRow W.heap.size 20 1 (.slice (some ⟨W.heap.size, 0, none⟩) 1 1) 1 [(Part.op i.op).val] at hO1
  have hb2 : Below W.heap.size W (W.alloc (.cells #[.iface 122 (.int .i64 i.op)] 20)) := (Below.refl _ _).alloc (Nat.le_refl _) _
  have hsz2 : (W.alloc (.cells #[.iface 122 (.int .i64 i.op)] 20)).heap.size = W.heap.size + 1 := by simp
  have d0 := below_cell hb2 hB1 c0
  have hgW : 3 < W.heap.size := by omega
  have hsh2 := below_cell hb2 hgW hsh1
  have HX2 := Lib.hid (HX0.out.below hb2 hB1)
  have HB2 := Lib.hid (HBW.out.trans (hb2.mono HBW.out.size))
  generalize (W.alloc (.cells #[.iface 122 (.int .i64 i.op)] 20)) = X at *
  have HO1 := Lib.hid hO1
  clear hO1 hsh1 c0 hb2
  refine (cF.out _).mono ?_; rintro en w2 ⟨rfl, rfl⟩
  go_wp2_with fail
  clear d0 hsh2
  have HWX := Lib.hid hsz2
  have HLW := Lib.hid hB1
  go_loopw [3] (fun v wr => ∃ k : Nat, k ≤ sh.length ∧ wr.heap[(W.heap.size + 1)]? = some (.stringIter (txt sh) k) ∧ wr.ownsRow (w.heap.size + 1) 20 1 v (1 + k) (partVals (.op i.op :: (sh.take k).map (fieldP i))) ∧ Box wr w.heap.size [.int .i64 i.op, .int .i64 i.d, .int .i64 i.a, .int .i64 i.b, .int .i64 i.imm] ∧ Below w.heap.size w wr) (fun _ wr => sh.length - wr.iterPos (W.heap.size + 1))
  case atStart =>
    have hal : Below X.heap.size X (X.iter (txt sh) 0) := (Below.refl _ X).alloc (Nat.le_refl _) _
    refine ⟨0, Nat.zero_le _, by have := World.iter_heap X (txt sh) 0; rw [HWX.out] at this; exact this, ?_, HX2.out.below hal (by have := HWX.out; omega), HB2.out.trans (hal.mono HB2.out.size)⟩
    have := own_below (own_base HO1.out (show w.heap.size + 1 ≤ W.heap.size by omega)) hal
    show World.ownsRow _ _ _ _ _ _ (partVals (.op i.op :: (sh.take 0).map (fieldP i)))
    rw [List.take_zero]
    rw [HWS.out] at this
    exact this
  case round =>
    obtain ⟨k, hk, hit, hown, hbx, hbw⟩ := hrel
    have HIT := Lib.hid hit
    have HO := Lib.hid hown
    have HBX := Lib.hid hbx
    have HBW2 := Lib.hid hbw
    have HK := Lib.hid hk
    have hsz : (W.heap.size + 1) < wr.heap.size := (Array.getElem?_eq_some_iff.1 hit).1
    have HSZ := Lib.hid hsz
    have hts := txt_sz sh
    obtain ⟨A, cc, rfl⟩ := (Row.of_own hown).form
    by_cases hlk : k < sh.length
    · obtain ⟨c, hc⟩ : ∃ c, sh[k]? = some c := ⟨_, List.getElem?_eq_getElem hlk⟩
      have hcm : c ∈ sh := List.mem_iff_getElem?.2 ⟨k, hc⟩
      have hcf := HSO.out c hcm
      have hc128 := fieldC_low hcf
      have hnx := fun ty => next_rune (P := Tryd.prog) hit (show k < (txt sh).size by rw [hts]; exact hlk) ty
      obtain ⟨q1, q2⟩ := ascii_at hc hc128
      rw [txt_data, q1, q2] at hnx
      have hit2 := Lib.hid (Lib.iterAt_heap wr (W.heap.size + 1) (txt sh) k (k + 1) hit)
      have hXw : w.heap.size < W.heap.size + 1 := by have := HLW.out; omega
      have HB3 := Lib.hid (Lib.below_iterAt hbw (k := (W.heap.size + 1)) (Nat.le_of_lt hXw) (txt sh) (k + 1))
      have hsz3 : (wr.iterAt (W.heap.size + 1) (txt sh) (k + 1)).heap.size = wr.heap.size := Lib.iterAt_size _ _ _ _
      have hne : ∀ g, (Value.slice A (1 + k) cc).ownBlock = some g → some g ≠ some (W.heap.size + 1) := by
        intro g hg e
        injection e with e
        subst e
        rcases hown.2 with ⟨h0, _⟩ | ⟨g1, c1, cur1, h0, _, a1, _⟩
        · rw [h0] at hg; cases hg
        · rw [h0] at hg
          simp only [Value.ownBlock, Option.some.injEq] at hg
          subst hg
          rw [hit] at a1
          cases a1
      have HO3 := Lib.hid (own_grown hown (iterAt_grown wr (W.heap.size + 1) (txt sh) (k + 1)) hne)
      have HX3 := Lib.hid (hbx.grown (iterAt_grown wr (W.heap.size + 1) (txt sh) (k + 1)) (fun e => by injection e with e; omega))
      have HNE := Lib.hid hne
      have e0 := HX3.out.cell (k := 0) rfl
      have e1 := HX3.out.cell (k := 1) rfl
      have e2 := HX3.out.cell (k := 2) rfl
      have e3 := HX3.out.cell (k := 3) rfl
      have e4 := HX3.out.cell (k := 4) rfl
      have HC := Lib.hid hc
      have HLK := Lib.hid hlk
      have cFd := Lib.hid (fun y => showField_any i c hcf y)
      have HSZ3 := Lib.hid hsz3
      generalize hC : (c.toNat : Int) = C at *
      clear hC hc hcm hcf hc128 q1 q2 hit hown hbx hbw hk hlk hne hts hsz hsz3 hXw
      go_wp2_with fail
      generalize (wr.iterAt (W.heap.size + 1) (txt sh) (k + 1)) = Y at *
      refine (cFd.out _).mono ?_
      rintro e w4 ⟨rfl, hb4⟩
      have HB4 := Lib.hid hb4
      have HO4 := Lib.hid (own_below HO3.out hb4)
      have HX4 := Lib.hid (HX3.out.below hb4 HX3.out.lt)
      clear hb4 e0 e1 e2 e3 e4
      obtain ⟨T, u, hpv⟩ := val_iface (fieldP i c)
      rw [hpv]
      have HPV := Lib.hid hpv
      clear hpv
      go_wp2_with (at_builtin; refine wpList_append_row _ rfl (.tmp 19) (.tmp 23) 124 rfl (w.heap.size + 1) 20 i0 _ 1 16 Tryd.underlying124 HI.out HZ0.out HZ1.out HZ2.out rfl (by omega) (.slice A (1 + k) cc) (1 + k) _ rfl (HO4.out.alloc _) (w4.heap.size + 1) (.slice (some ⟨w4.heap.size, 0, none⟩) 1 1) 1 [.iface T u] rfl (row_list w4 [.iface T u] _) (by simp [Value.oneCell']) (by have := HSL.out; have := HLK.out; unfold maxLen; omega) (by have := HSL.out; have := HLK.out; omega) (by have := HX4.out.lt; simp; omega) ?_; intro v3 y3 hO5 hg3; have HO5 := Lib.hid hO5; have HG3 := Lib.hid hg3; clear hO5 hg3)
      have hpm : partVals (.op i.op :: (sh.take k).map (fieldP i)) ++ [.iface T u] = partVals (.op i.op :: (sh.take (k + 1)).map (fieldP i)) := by
        rw [← HPV.out]
        obtain ⟨hh, he⟩ := List.getElem?_eq_some_iff.1 HC.out
        rw [List.take_add_one, List.getElem?_eq_getElem hh, he]
        simp [partVals]
      have HPM := Lib.hid hpm
      clear hpm
      go_roundw
      case rel =>
        refine ⟨k + 1, HLK.out, ?_, ?_, ?_, ?_⟩
        · rw [HG3.out.block _ (by have := HB4.out.size; have := HSZ3.out; have := HSZ.out; rw [World.size_alloc]; omega) (fun e => HNE.out _ e.symm rfl)]
          refine (Below.heap_alloc _ _ _ (by have := HB4.out.size; have := HSZ3.out; have := HSZ.out; omega)).trans ?_
          exact (HB4.out.block _ (by have := HSZ3.out; have := HSZ.out; omega)).trans hit2.out
        · have := HO5.out
          rw [HPM.out] at this
          exact this
        · exact ((HX4.out.alloc _).grown HG3.out (fun e => by have := (HO4.out.lt _ e.symm).1; omega))
        · refine (((HB3.out.trans (HB4.out.mono HB3.out.size)).alloc ?_ _).grown HG3.out ?_ (fun j hj => by have := (HO4.out.lt j hj).1; omega))
          · have := HB4.out.size; have := HB3.out.size; omega
          · rw [World.size_alloc]; have := HB4.out.size; have := HB3.out.size; omega
      case measure =>
        simp only [World.iterPos, HIT.out]
        have : y3.heap[W.heap.size + 1]? = some (.stringIter (txt sh) (k + 1)) := by
          rw [HG3.out.block _ (by have := HB4.out.size; have := HSZ3.out; have := HSZ.out; rw [World.size_alloc]; omega) (fun e => HNE.out _ e.symm rfl)]
          refine (Below.heap_alloc _ _ _ (by have := HB4.out.size; have := HSZ3.out; have := HSZ.out; omega)).trans ?_
          exact (HB4.out.block _ (by have := HSZ3.out; have := HSZ.out; omega)).trans hit2.out
        rw [this]
        have := HLK.out
        simp only
        omega
    · have hnx := fun ty => next_none (P := Tryd.prog) hit (show ¬ k < (txt sh).size by rw [hts]; exact hlk) ty
      have hkk : k = sh.length := by omega
      clear hown hit hk hbx hbw hts
      go_wp2_with fail
      go_ret
      refine ⟨.slice A (1 + k) cc, rfl, ?_, HBW2.out⟩
      have := HO.out
      rw [hkk, List.take_length] at this
      rw [HIP.out, hkk]
      have e : (Part.op i.op :: sh.map (fieldP i)).length = 1 + sh.length := by simp; omega
      rw [e]
      exact own_base this (Nat.le_succ _)
end Go.Proofs.YtcaibahniheohaaDoor.Words

/- What is written of an instruction; contracts of show.shown and show.Ins. -/
namespace Go.Proofs.YtcaibahniheohaaDoor.Words
set_option maxRecDepth 100000
open Go.RowKit Go.Shelf Go.Lib
set_option linter.unusedVariables false
set_option linter.unusedSimpArgs false
set_option maxHeartbeats 2000000 in
theorem parts_ins (i : Ins) (hr : rightB i = true) : PartsC (.iface 38 (insV i)) (insParts i) := by
  intro w hT
  have a1 := as_ir (insV i)
  have a2 := as_ii (insV i)
  have cR := fun y => right_any i y
  have cP := fun y (hy : TabsS y) => partsOfIns_any i y hr hy
  rw [hr] at cR
  unfold insV at a1 a2 ⊢
  have hb0 := (Below.refl w.heap.size w).alloc (Nat.le_refl _) (.cells #[.int .i64 i.op, .int .i64 i.d, .int .i64 i.a, .int .i64 i.b, .int .i64 i.imm] 38)
  have HB0 := Lib.hid hb0
  have HT := Lib.hid (hT.below hb0)
  have hs0 : w.heap.size < (w.alloc (.cells #[.int .i64 i.op, .int .i64 i.d, .int .i64 i.a, .int .i64 i.b, .int .i64 i.imm] 38)).heap.size := by simp
  have hx0 : Box (w.alloc (.cells #[.int .i64 i.op, .int .i64 i.d, .int .i64 i.a, .int .i64 i.b, .int .i64 i.imm] 38)) w.heap.size [.int .i64 i.op, .int .i64 i.d, .int .i64 i.a, .int .i64 i.b, .int .i64 i.imm] := Box.new w _ _
  have HX0 := Lib.hid hx0
  have CP := Lib.hid cP
  clear hT hb0 cP hx0
  go_enter Tryd.func71, Tryd.ntmps71
  go_wp2_with fail
  refine (cR _).mono ?_
  rintro e w1 ⟨rfl, hb1⟩
  generalize (w.alloc (.cells #[.int .i64 i.op, .int .i64 i.d, .int .i64 i.a, .int .i64 i.b, .int .i64 i.imm] 38)) = W at *
  have HX1 := HX0.out.below hb1 hs0
  have d0 := HX1.cell (k := 0) rfl
  have d1 := HX1.cell (k := 1) rfl
  have d2 := HX1.cell (k := 2) rfl
  have d3 := HX1.cell (k := 3) rfl
  have d4 := HX1.cell (k := 4) rfl
  have HB1 := Lib.hid (HB0.out.trans (hb1.mono HB0.out.size))
  have HT1 := Lib.hid (HT.out.below hb1)
  clear hb1 HX1
  go_wp2_with fail
  refine (CP.out _ HT1.out).mono ?_
  rintro e w2 ⟨v, rfl, ho, hb2⟩
  have HO2 := Lib.hid (own_base ho HB1.out.size)
  have HB2 := Lib.hid (HB1.out.trans (hb2.mono HB1.out.size))
  clear ho hb2
  go_wp2_with fail
  go_ret
  exact ⟨v, rfl, HO2.out, HB2.out⟩
set_option maxHeartbeats 2000000 in
theorem parts_insno (i : Ins) (hr : rightB i = false) : PartsC (.iface 38 (insV i)) [] := by
  intro w hT
  have a1 := as_ir (insV i)
  have a2 := as_ii (insV i)
  have a3 := as_ic (insV i)
  have a4 := as_ip (insV i)
  have cR := fun y => right_any i y
  rw [hr] at cR
  unfold insV at a1 a2 a3 a4 ⊢
  unfold zCell at a3
  unfold zProg at a4
  have HB0 := Lib.hid ((Below.refl w.heap.size w).alloc (Nat.le_refl _) (.cells #[.int .i64 i.op, .int .i64 i.d, .int .i64 i.a, .int .i64 i.b, .int .i64 i.imm] 38))
  clear hT
  go_enter Tryd.func71, Tryd.ntmps71
  go_wp2_with fail
  refine (cR _).mono ?_
  rintro e w1 ⟨rfl, hb1⟩
  generalize (w.alloc (.cells #[.int .i64 i.op, .int .i64 i.d, .int .i64 i.a, .int .i64 i.b, .int .i64 i.imm] 38)) = W at *
  have HB1 := Lib.hid (HB0.out.trans (hb1.mono HB0.out.size))
  clear hb1
  go_wp2_with fail
  go_ret
  have hb := HB1.out
  exact ⟨_, rfl, World.ownsRow_nil _ _ _ _, (hb.alloc hb.size _).alloc (by have := hb.size; simp; omega) _⟩
theorem write_ins {B : Nat} (hB : B + 2000 ≤ 1099511627776) (i : Ins) (hf : i.Fits) : WriteC B (Part.ins i).val (Part.ins i).text := by
  cases hr : rightB i
  · have e : (Part.ins i).text = none := if_neg (by rw [hr]; decide)
    rw [e]
    exact write_nothing (deep_ins _) (parts_insno i hr)
  · have e : (Part.ins i).text = partsTxt (insParts i) := by
      rw [insParts_txt hr]
      exact if_pos hr
    rw [e]
    have h9 := insParts_len i
    have hop := (right_range hr).1
    have hi := (right_range hr).2.2.2.2
    have hl := decN_len8 hi
    refine write_parts (deep_ins _) (parts_ins i hr) (by unfold insParts; simp) (by omega) (insParts_ok hr) (fun p hp => ?_)
    generalize hL : 60 * (insParts i).length = L
    have hL2 : L ≤ 540 := by omega
    have hok := insParts_ok hr p hp
    rcases List.mem_cons.1 hp with rfl | hp
    · exact write_op (by omega) i.op hop
    · obtain ⟨c, hc, rfl⟩ := List.mem_map.1 hp
      have key : ∀ p : Part, p.ok → (∀ j, p ≠ .ins j) → WriteC (B + L) p.val p.text := by
        intro p hp hn
        cases p with
        | s t => exact write_str (by omega) t (by have : t.length ≤ 60 := hp; omega)
        | n k => exact write_int (by omega) k ⟨hp.1, hp.2.1⟩ (by have := hp.2.2; omega)
        | op k => exact write_op (by omega) k hp
        | reg k => exact write_reg (by omega) k hp
        | ins j => exact absurd rfl (hn j)
      refine key _ hok (fun j hj => ?_)
      unfold fieldP at hj
      repeat' split at hj
      all_goals cases hj
end Go.Proofs.YtcaibahniheohaaDoor.Words

/- Contracts of show.shown and show.Ins. -/
namespace Go.Proofs.YtcaibahniheohaaDoor.Words
set_option maxRecDepth 100000
open Go.RowKit Go.Shelf Go.Lib
set_option linter.unusedVariables false
set_option linter.unusedSimpArgs false
theorem byteL_ints (xs : List UInt8) : byteL xs = (xs.map (fun c => (c.toNat : Int))).map (Value.int .u8) := by unfold byteL; rw [List.map_map]; rfl
theorem strOf_byteL (xs : List UInt8) : strOfNums (xs.map (fun c => (c.toNat : Int))) = txt xs := by
  apply txt_eq
  rw [strOfNums_data, List.map_map]
  refine Eq.trans (List.map_congr_left (g := id) fun c _ => ?_) (List.map_id xs)
  show UInt8.ofNat ((c.toNat : Int).toNat) = c
  rw [Int.toNat_natCast]
  exact UInt8.ofNat_toNat
def ShownC (x : Value) (t : List UInt8) : Prop := ∀ w : World, TabsS w → Calls Tryd.prog 28 #[x] w fun e w' => e = .returned (.string (txt t)) ∧ Below w.heap.size w w'
set_option maxHeartbeats 2000000 in
theorem shown_at {x : Value} {o : Option (List UInt8)} {w : World} (hW : ∀ X b vn vt, Below w.heap.size w X → Wr X b vn vt [] → TabsSB b X → WriteAt X b vn vt [] x o) (hT : TabsS w) :
    Calls Tryd.prog 28 #[x] w fun e w' => e = .returned (.string (txt (o.getD []))) ∧ Below w.heap.size w w' := by
  unfold WriteAt at hW
  have cN := names_any w
  have HWC := Lib.hid hW
  have HT := Lib.hid hT
  clear hT hW
  go_enter Tryd.func28, Tryd.ntmps28
  go_wp2_with fail
  refine cN.mono ?_
  rintro e w1 ⟨vn, rfl, hn, hb1⟩
  obtain ⟨g, c, rfl, hg0, hg1⟩ := own_form hn (by decide)
  have HB1 := Lib.hid hb1
  have HR := Lib.hid (Row.of_own hn)
  have HG := Lib.hid hg1
  clear hn hb1 hg0 hg1
  go_wp2_with fail
  have hw : Wr (w1.alloc (.cells #[.slice (some ⟨g, 0, none⟩) 41 c, .slice none 0 0] 102)) w1.heap.size (.slice (some ⟨g, 0, none⟩) 41 c) (.slice none 0 0) [] :=
    ⟨Box.new w1 _ _, ⟨g, 0, c, rfl, HG.out⟩, HR.out.alloc (Nat.le_refl _) _, World.ownsRow_nil _ _ _ _⟩
  have hb2 : Below w1.heap.size w1 (w1.alloc (.cells #[.slice (some ⟨g, 0, none⟩) 41 c, .slice none 0 0] 102)) := (Below.refl _ _).alloc (Nat.le_refl _) _
  have HB2 := Lib.hid (HB1.out.trans (hb2.mono HB1.out.size))
  have hlt : w1.heap.size < (w1.alloc (.cells #[.slice (some ⟨g, 0, none⟩) 41 c, .slice none 0 0] 102)).heap.size := by simp
  have hT2 : TabsSB w1.heap.size (w1.alloc (.cells #[.slice (some ⟨g, 0, none⟩) 41 c, .slice none 0 0] 102)) := (HT.out.below HB1.out).all.go hb2
  generalize (w1.alloc (.cells #[.slice (some ⟨g, 0, none⟩) 41 c, .slice none 0 0] 102)) = X at *
  have cW := Lib.hid (HWC.out X w1.heap.size _ _ HB2.out hw hT2)
  clear hw hb2 hT2 hlt
  refine cW.out.mono ?_
  intro e w2 h2
  cases o with
  | none =>
    obtain ⟨rfl, _, ht⟩ := h2
    have HB3 := Lib.hid (HB2.out.trans (ht.bel.mono HB1.out.size))
    clear ht
    go_wp2_with fail
    go_ret
    exact ⟨rfl, HB3.out⟩
  | some t =>
    obtain ⟨rfl, ⟨vt, hw2⟩, ht⟩ := h2
    rw [List.nil_append] at hw2
    have HB3 := Lib.hid (HB2.out.trans (ht.bel.mono HB1.out.size))
    obtain ⟨A, c2, rfl⟩ := hw2.form
    have c1 : w2.cell? ⟨w1.heap.size, 1, none⟩ = some (.slice A t.length c2) := hw2.1.cell (k := 1) rfl
    have hr := Row.of_own hw2.2.2.2
    rw [byteL_ints] at hr
    have cv := conv_row (P := Tryd.prog) w2 24 5 Tryd.underlying24 Tryd.underlying5 hr 9 Tryd.underlying9
    rw [strOf_byteL] at cv
    clear ht hw2 hr
    go_wp2_with fail
    go_ret
    exact ⟨rfl, HB3.out⟩
theorem shown_any {x : Value} {o : Option (List UInt8)} (hW : WriteC 0 x o) : ShownC x (o.getD []) := fun w hT => shown_at (fun X b vn vt _ h hTB => hW X b vn vt [] h (Nat.le_refl _) hTB) hT
set_option maxHeartbeats 1000000 in
theorem showIns_any (i : Ins) (hf : i.Fits) (w : World) (hT : TabsS w) :
    Calls Tryd.prog 26 #[.agg #[.int .i64 i.op, .int .i64 i.d, .int .i64 i.a, .int .i64 i.b, .int .i64 i.imm]] w fun e w' => e = .returned (.string (txt (showZ i))) ∧ Below w.heap.size w w' := by
  have cS := Lib.hid (shown_any (write_ins (B := 0) (by decide) i hf))
  have ht : ((Part.ins i).text).getD [] = showZ i := by
    show (if rightB i = true then some (showI i) else none).getD [] = _
    unfold showZ
    split <;> rfl
  rw [ht] at cS
  have hb0 := (Below.refl w.heap.size w).alloc (Nat.le_refl _) (.cells #[.int .i64 i.op, .int .i64 i.d, .int .i64 i.a, .int .i64 i.b, .int .i64 i.imm] 38)
  have HB0 := Lib.hid hb0
  have HT := Lib.hid (hT.below hb0)
  clear hT hb0 ht hf
  go_enter Tryd.func26, Tryd.ntmps26
  go_wp2_with fail
  refine (cS.out _ HT.out).mono ?_
  rintro e w1 ⟨rfl, hb1⟩
  have HB1 := Lib.hid (HB0.out.trans (hb1.mono HB0.out.size))
  clear hb1
  go_wp2_with fail
  go_ret
  exact ⟨rfl, HB1.out⟩
end Go.Proofs.YtcaibahniheohaaDoor.Words

/- Several texts in one: AsmLabels, IsaRight, AsmBld, AsmBins. -/
import Derived.Test.YtfdegdbknponkaaDoorG05
import Derived.LoopTactic
import Derived.Test.YtfdegdbknponkaaDoorG04

/- Contract of package asm's labelsOf. -/
namespace Go.Proofs.YtfdegdbknponkaaDoor.Words
set_option maxRecDepth 100000
open Go.RowKit Go.Shelf Go.Lib
set_option linter.unusedVariables false
set_option linter.unusedSimpArgs false

theorem Row.part {w : World} {B n c : Nat} {b off : Nat} {l : List PartZ} (h : Row w B 13 (.slice (some ⟨b, off, none⟩) n c) n (partsL l)) {k : Nat} {i : PartZ} (hi : l[k]? = some i) :
    w.rangeAt b (off + k * 13) (partL i) := by
  intro j u hu
  have hj : j < 13 := (List.getElem?_eq_some_iff.1 hu).1
  have := h.cells ⟨b, off, none⟩ rfl (k * 13 + j) u ((partsL_at l k i hi j hj).trans hu)
  rwa [add_spot, ← Nat.add_assoc] at this
theorem range_cells {w : World} {b o : Nat} {x : PartZ} (h : w.rangeAt b o (partL x)) :
    w.cell? ⟨b, o, none⟩ = some (.int .i64 x.kind) ∧ w.cell? ⟨b, o + 1, none⟩ = some (.int .i64 (x.at_ : Int)) ∧ w.cell? ⟨b, o + 2, none⟩ = some (.int .i64 x.num) ∧ w.cell? ⟨b, o + 3, none⟩ = some (.string (txt x.name)) ∧
    w.cell? ⟨b, o + 4, none⟩ = some (.int .i64 x.ins.op) ∧ w.cell? ⟨b, o + 5, none⟩ = some (.int .i64 x.ins.d) ∧ w.cell? ⟨b, o + 6, none⟩ = some (.int .i64 x.ins.a) ∧ w.cell? ⟨b, o + 7, none⟩ = some (.int .i64 x.ins.b) ∧ w.cell? ⟨b, o + 8, none⟩ = some (.int .i64 x.ins.imm) ∧
    w.cell? ⟨b, o + 9, none⟩ = some (.int .i64 x.target.kind) ∧ w.cell? ⟨b, o + 10, none⟩ = some (.int .i64 x.target.num) ∧ w.cell? ⟨b, o + 11, none⟩ = some (.int .i64 (x.target.at_ : Int)) ∧ w.cell? ⟨b, o + 12, none⟩ = some (.string (txt x.target.text)) :=
  ⟨h 0 _ rfl, h 1 _ rfl, h 2 _ rfl, h 3 _ rfl, h 4 _ rfl, h 5 _ rfl, h 6 _ rfl, h 7 _ rfl, h 8 _ rfl, h 9 _ rfl, h 10 _ rfl, h 11 _ rfl, h 12 _ rfl⟩
theorem take_snoc {α : Type} {l : List α} {k : Nat} {x : α} (h : l[k]? = some x) : l.take (k + 1) = l.take k ++ [x] := by
  rw [List.take_add_one, h]
  rfl
theorem firstL_snoc (t : List UInt8) (l : List PartZ) (x : PartZ) : firstL t (l ++ [x]) 0 = match firstL t l 0 with | some r => some r | none => if x.kind = 1 ∧ x.name = t then some ((x.at_ : Int), (nIns l : Int)) else none := by
  rw [firstL_append]
  cases firstL t l 0 with
  | some r => rfl
  | none =>
    show firstL t [x] _ = _
    rw [firstL_cons]
    by_cases h : x.kind = 1 ∧ x.name = t
    · rw [if_pos h]; simp [h]
    · rw [if_neg h]; simp only [h, if_false]; rfl
theorem firstL_other {t : List UInt8} {l : List PartZ} {x : PartZ} (h : x.kind ≠ 1 ∨ x.name ≠ t ∨ (firstL t l 0).isSome = true) : firstL t (l ++ [x]) 0 = firstL t l 0 := by
  rw [firstL_snoc]
  cases hf : firstL t l 0 with
  | some r => rfl
  | none =>
    rw [hf] at h
    show (if x.kind = 1 ∧ x.name = t then _ else _) = _
    rw [if_neg]
    rintro ⟨h1, h2⟩
    rcases h with h | h | h
    · exact h h1
    · exact h h2
    · cases h

set_option maxHeartbeats 4000000 in
theorem labelsOf_any (vp : Value) (ps : List PartZ) (w : World) (hr : Row w w.heap.size 13 vp ps.length (partsL ps)) (hn : ∀ x ∈ ps, x.name.length ≤ 1000000) (hps : ps.length ≤ 1000000) :
    Calls Tryd.prog 33 #[vp] w fun e w' => e = .returned (.map (some w.heap.size)) ∧ LabM w' w.heap.size ps.length (fun t => firstL t ps 0) ∧ Below w.heap.size w w' := by
  obtain ⟨A, c, rfl⟩ := hr.form
  have HR := Lib.hid hr
  have HN := Lib.hid hn
  have HPS := Lib.hid hps
  obtain ⟨N, hN⟩ : ∃ N, N = ps.length := ⟨_, rfl⟩
  have HNN := Lib.hid hN
  rw [← hN]
  have n0 : (N : Int) ≤ 1000000 := by omega
  have hmm := @run_makeMap Tryd.prog
  have LM0 := Lib.hid (labM_made w)
  clear hr hn hps hN
  go_enter Tryd.func33, Tryd.ntmps33
  go_wp2_with fail
  go_loopw [4, 12] (fun q i wr => ∃ k : Nat, k ≤ N ∧ i = .int .i64 k ∧ q = .int .i64 (nIns (ps.take k) : Int) ∧ LabM wr w.heap.size k (fun t => firstL t (ps.take k) 0) ∧ Below w.heap.size w wr) (fun _ i _ => N - (intOf i).toNat)
  case atStart => exact ⟨0, Nat.zero_le _, rfl, rfl, LM0.out, (Below.refl _ _).alloc (Nat.le_refl _) _⟩
  case round =>
    obtain ⟨k, hk, rfl, rfl, hM, hB⟩ := hrel
    have HM := Lib.hid hM
    have HB := Lib.hid hB
    have HK := Lib.hid hk
    have hmlt := hM.lt
    by_cases hlt : k < N
    · obtain ⟨x, hx⟩ : ∃ x, ps[k]? = some x := ⟨_, List.getElem?_eq_getElem (by have := HNN.out; omega)⟩
      obtain ⟨g, off, rfl, hg, _⟩ := HR.out.at_ (by have := HNN.out; omega)
      have hcells := range_cells ((HR.out.below hB).part hx)
      obtain ⟨c0, c1, c2, c3, c4, c5, c6, c7, c8, c9, c10, c11, c12⟩ := hcells
      have hxm : x ∈ ps := List.mem_iff_getElem?.2 ⟨k, hx⟩
      have hxn := HN.out x hxm
      have HTK := Lib.hid (take_snoc hx)
      have HIN := Lib.hid (nIns_append (ps.take k) [x])
      have hgr : g < wr.heap.size := Nat.lt_of_lt_of_le hg hB.size
      have kq : decide ((k : Int) < N) = true := decide_eq_true (by omega)
      have kq2 : decide (k < N) = true := decide_eq_true hlt
      have k0 : (0 : Int) ≤ k := by omega
      have k1 : (k : Int) < N := by omega
      have hnk : (nIns (ps.take k) : Int) ≤ 1000000 := by have := nIns_le (ps.take k); have := List.length_take_le k ps; omega
      have hnk0 : (0 : Int) ≤ nIns (ps.take k) := by omega
      obtain ⟨D, hown, hD⟩ := HM.out
      have HOWN := Lib.hid hown
      have HD := Lib.hid hD
      have hisM := hown.isMap
      have LK := fun y (hy : LabM y w.heap.size k (fun t => firstL t (ps.take k) 0)) => hy.look_ok hxn
      have HLK := Lib.hid LK
      have HMA := Lib.hid (fun o => hM.go ((Below.refl _ wr).alloc (Nat.le_refl _) o))
      clear LK hxm hxn hM hk hown hD hB
      by_cases h2 : x.kind = 2
      · have q1 : (x.kind == 2) = true := by simpa using h2
        have HNX : Hid (nIns (ps.take (k + 1)) = nIns (ps.take k) + 1) := by show _ = _; rw [HTK.out, HIN.out]; simp [nIns, h2]
        have HFX : Hid (∀ t, firstL t (ps.take k) 0 = firstL t (ps.take (k + 1)) 0) := by intro t; rw [HTK.out]; exact (firstL_other (.inl (by omega))).symm
        clear h2 hisM
        generalize nIns (ps.take k) = nk at *
        go_wp2_with fail
        go_roundw
        case rel => exact ⟨k + 1, by omega, rfl, by rw [HNX.out]; rfl, by
            obtain ⟨D2, hown2, hD2⟩ := (HMA.out _).ext HFX.out
            exact ⟨D2, hown2.mono (Nat.le_succ _), hD2⟩, HB.out.alloc HB.out.size _⟩
        case measure => simp only [intOf]; omega
      by_cases h1 : x.kind = 1
      · have q1 : (x.kind == 2) = false := by simpa using h2
        have q2 : (x.kind == 1) = true := by simpa using h1
        have HNX : Hid (nIns (ps.take (k + 1)) = nIns (ps.take k)) := by show _ = _; rw [HTK.out, HIN.out]; simp [nIns, h2]
        cases hf : firstL x.name (ps.take k) 0 with
        | some r =>
          have HFX : Hid (∀ t, firstL t (ps.take k) 0 = firstL t (ps.take (k + 1)) 0) := by
            intro t
            rw [HTK.out]
            by_cases ht : x.name = t
            · exact (firstL_other (.inr (.inr (by rw [← ht, hf]; rfl)))).symm
            · exact (firstL_other (.inr (.inl ht))).symm
          have lk := HLK.out (wr.alloc (.cells #[.int .i64 x.kind, .int .i64 (x.at_ : Int), .int .i64 x.num, .string (txt x.name), .int .i64 x.ins.op, .int .i64 x.ins.d, .int .i64 x.ins.a, .int .i64 x.ins.b, .int .i64 x.ins.imm, .int .i64 x.target.kind, .int .i64 x.target.num, .int .i64 (x.target.at_ : Int), .string (txt x.target.text)] 69)) (HMA.out _)
          rw [hf] at lk
          simp only [Option.getD_some, Option.isSome_some] at lk
          clear h1 h2 hisM hf
          generalize nIns (ps.take k) = nk at *
          go_wp2_with fail
          go_roundw
          case rel => exact ⟨k + 1, by omega, rfl, by rw [HNX.out], by
              obtain ⟨D2, hown2, hD2⟩ := ((HMA.out _).go ((Below.refl _ _).alloc (Nat.le_refl _) _)).ext HFX.out
              exact ⟨D2, hown2.mono (Nat.le_succ _), hD2⟩, (HB.out.alloc HB.out.size _).alloc (by have := HB.out.size; simp; omega) _⟩
          case measure => simp only [intOf]; omega
        | none =>
          have lk := HLK.out (wr.alloc (.cells #[.int .i64 x.kind, .int .i64 (x.at_ : Int), .int .i64 x.num, .string (txt x.name), .int .i64 x.ins.op, .int .i64 x.ins.d, .int .i64 x.ins.a, .int .i64 x.ins.b, .int .i64 x.ins.imm, .int .i64 x.target.kind, .int .i64 x.target.num, .int .i64 (x.target.at_ : Int), .string (txt x.target.text)] 69)) (HMA.out _)
          rw [hf] at lk
          simp only [Option.getD_none, Option.isSome_none] at lk
          have HF1 : Hid (firstL x.name (ps.take (k + 1)) 0 = some ((x.at_ : Int), (nIns (ps.take k) : Int))) := by
            show _ = _
            rw [HTK.out, firstL_snoc, hf]
            simp [h1]
          have HF2 : Hid (∀ u, u ≠ x.name → firstL u (ps.take (k + 1)) 0 = firstL u (ps.take k) 0) := by
            intro u hu
            rw [HTK.out]
            exact firstL_other (.inr (.inl (fun e => hu e.symm)))
          have HKEY := Lib.hid (keyT (t := x.name) (HN.out x (List.mem_iff_getElem?.2 ⟨k, hx⟩)))
          have HIM := Lib.hid hisM
          clear h1 h2 hisM hf
          generalize nIns (ps.take k) = nk at *
          go_wp2_with (at_mapUpdate; refine wpList_mapUpdate_own _ rfl _ _ _ 64 rfl 9 94 keyS Tryd.underlying64 labR w.heap.size k D rfl ((HOWN.out.alloc _).alloc _) (by unfold maxLen; omega) _ _ (.string x.name) rfl rfl HKEY.out (labD (x.at_ : Int) (nk : Int)) [] (labR_mk _ _) ?_; intro w1 hown1 hgrow1)
          go_roundw
          case rel => exact ⟨k + 1, by omega, rfl, by rw [HNX.out], labM_put HD.out HIM.out HF1.out HF2.out hown1, ((HB.out.alloc HB.out.size _).alloc (by have := HB.out.size; simp; omega) _).grown hgrow1 (by have := HB.out.size; simp; omega) (fun j hj => by injection hj with hj; omega)⟩
          case measure => simp only [intOf]; omega
      · have q1 : (x.kind == 2) = false := by simpa using h2
        have q2 : (x.kind == 1) = false := by simpa using h1
        have HNX : Hid (nIns (ps.take (k + 1)) = nIns (ps.take k)) := by show _ = _; rw [HTK.out, HIN.out]; simp [nIns, h2]
        have HFX : Hid (∀ t, firstL t (ps.take k) 0 = firstL t (ps.take (k + 1)) 0) := by intro t; rw [HTK.out]; exact (firstL_other (.inl h1)).symm
        clear h1 h2 hisM
        generalize nIns (ps.take k) = nk at *
        go_wp2_with fail
        go_roundw
        case rel => exact ⟨k + 1, by omega, rfl, by rw [HNX.out], by
            obtain ⟨D2, hown2, hD2⟩ := (HMA.out _).ext HFX.out
            exact ⟨D2, hown2.mono (Nat.le_succ _), hD2⟩, HB.out.alloc HB.out.size _⟩
        case measure => simp only [intOf]; omega
    · have hkN : k = N := by omega
      have kq : decide ((k : Int) < N) = false := decide_eq_false (by omega)
      have kq2 : decide (k < N) = false := decide_eq_false hlt
      have HE : Hid (ps.take k = ps) := List.take_of_length_le (by have := HNN.out; omega)
      clear hM hk hB
      go_wp2_with fail
      go_ret
      refine ⟨rfl, ?_, HB.out⟩
      have := HM.out
      rw [HE.out, hkN] at this
      exact this
end Go.Proofs.YtfdegdbknponkaaDoor.Words

/- Contracts of isa.Right and of the document's own RightIns: whether an instruction is one that may be. No conditions. -/
namespace Go.Proofs.YtfdegdbknponkaaDoor.Words
set_option maxRecDepth 100000
open Go.RowKit

theorem right_none {i : Ins} (h : (formZ i.op == 0) = true) : rightB i = false := by
  have : formZ i.op = 0 := by simpa using h
  unfold rightB; simp [this]
theorem right_some {i : Ins} (h : (formZ i.op == 0) = false) : rightB i = (fitsB i.d 0 15 (hasD (formZ i.op)) && fitsB i.a 0 15 (hasA (formZ i.op)) && fitsB i.b 0 15 (hasB (formZ i.op)) && fitsB i.imm (lowI i.op) (highI i.op) (hasI (formZ i.op))) := by
  have : formZ i.op ≠ 0 := by simpa using h
  unfold rightB; simp [this]

set_option maxHeartbeats 1000000 in
/-- Right: the instruction is boxed, and its fields, in new memory. -/
theorem right_any (i : Ins) (w : World) :
    Calls Tryd.prog 72 #[.agg #[.int .i64 i.op, .int .i64 i.d, .int .i64 i.a, .int .i64 i.b, .int .i64 i.imm]] w fun e w' => e = .returned (.bool (rightB i)) ∧ Below w.heap.size w w' := by
  have hr := formZ_range i.op
  cases h0 : (formZ i.op == 0)
  · have hright := Lib.hid (right_some h0)
    go_enter Tryd.func72, Tryd.ntmps72
    go_wp2_with fail
    refine (form_any _ _).mono ?_; rintro e w1 ⟨rfl, rfl⟩
    go_wp2_with fail
    refine (fieldsOf_any _ _ hr.1 hr.2).mono ?_; rintro e w1 ⟨rfl, hb1⟩
    obtain ⟨hc1, hf1⟩ := bcell hb1
    have hz1 : w.heap.size < w1.heap.size := by have := hb1.size; simp at this; omega
    have hB := (((Below.refl w.heap.size w).alloc (Nat.le_refl _) _).trans (hb1.mono (by simp)))
    cases hd : fitsB i.d 0 15 (hasD (formZ i.op))
    · rw [hd] at hright
      go_wp2_with fail
      refine (limits_any _ _).mono ?_; rintro e w2 ⟨rfl, rfl⟩
      go_wp2_with fail
      refine (fits_any _ _ _ _ _).mono ?_; rintro e w2 ⟨rfl, rfl⟩
      rw [hd]
      go_wp2_with fail
      go_ret
      exact ⟨ret_bool (by rw [hright.out]; rfl), hB.alloc (by omega) _⟩
    cases ha : fitsB i.a 0 15 (hasA (formZ i.op))
    · rw [hd, ha] at hright
      go_wp2_with fail
      refine (limits_any _ _).mono ?_; rintro e w2 ⟨rfl, rfl⟩
      go_wp2_with fail
      refine (fits_any _ _ _ _ _).mono ?_; rintro e w2 ⟨rfl, rfl⟩
      rw [hd]
      go_wp2_with fail
      refine (fits_any _ _ _ _ _).mono ?_; rintro e w2 ⟨rfl, rfl⟩
      rw [ha]
      go_wp2_with fail
      go_ret
      exact ⟨ret_bool (by rw [hright.out]; rfl), hB.alloc (by omega) _⟩
    cases hb : fitsB i.b 0 15 (hasB (formZ i.op))
    · rw [hd, ha, hb] at hright
      go_wp2_with fail
      refine (limits_any _ _).mono ?_; rintro e w2 ⟨rfl, rfl⟩
      go_wp2_with fail
      refine (fits_any _ _ _ _ _).mono ?_; rintro e w2 ⟨rfl, rfl⟩
      rw [hd]
      go_wp2_with fail
      refine (fits_any _ _ _ _ _).mono ?_; rintro e w2 ⟨rfl, rfl⟩
      rw [ha]
      go_wp2_with fail
      refine (fits_any _ _ _ _ _).mono ?_; rintro e w2 ⟨rfl, rfl⟩
      rw [hb]
      go_wp2_with fail
      go_ret
      exact ⟨ret_bool (by rw [hright.out]; rfl), hB.alloc (by omega) _⟩
    · rw [hd, ha, hb] at hright
      go_wp2_with fail
      refine (limits_any _ _).mono ?_; rintro e w2 ⟨rfl, rfl⟩
      go_wp2_with fail
      refine (fits_any _ _ _ _ _).mono ?_; rintro e w2 ⟨rfl, rfl⟩
      rw [hd]
      go_wp2_with fail
      refine (fits_any _ _ _ _ _).mono ?_; rintro e w2 ⟨rfl, rfl⟩
      rw [ha]
      go_wp2_with fail
      refine (fits_any _ _ _ _ _).mono ?_; rintro e w2 ⟨rfl, rfl⟩
      rw [hb]
      go_wp2_with fail
      refine (fits_any _ _ _ _ _).mono ?_; rintro e w2 ⟨rfl, rfl⟩
      go_wp2_with fail
      go_ret
      exact ⟨ret_bool (by rw [hright.out]; rfl), hB.alloc (by omega) _⟩
  · have hright := Lib.hid (right_none h0)
    go_enter Tryd.func72, Tryd.ntmps72
    go_wp2_with fail
    refine (form_any _ _).mono ?_; rintro e w1 ⟨rfl, rfl⟩
    go_wp2_with fail
    go_ret
    exact ⟨ret_bool hright.out.symm, (Below.refl _ _).alloc (Nat.le_refl _) _⟩

set_option maxHeartbeats 1000000 in
theorem rightIns_any (i : Ins) (w : World) :
    Calls Tryd.prog 28 #[.agg #[.int .i64 i.op, .int .i64 i.d, .int .i64 i.a, .int .i64 i.b, .int .i64 i.imm]] w fun e w' => e = .returned (.bool (rightB i)) ∧ Below w.heap.size w w' := by
  have hB : ∀ o, Below w.heap.size w (w.alloc o) := fun o => (Below.refl w.heap.size w).alloc (Nat.le_refl _) o
  have HB := Lib.hid hB
  clear hB
  cases h0 : (formZ i.op == 0)
  · have hright := Lib.hid (right_some h0)
    cases hd : fitsB i.d 0 15 (hasD (formZ i.op))
    · rw [hd] at hright
      go_enter Tryd.func28, Tryd.ntmps28
      go_wp2_with fail
      refine (refForm_any _ _).mono ?_; rintro e w1 ⟨rfl, rfl⟩
      go_wp2_with fail
      refine (has_any _ _).mono ?_; rintro e w1 ⟨rfl, rfl⟩
      go_wp2_with fail
      refine (reg_any _ _ _).mono ?_; rintro e w1 ⟨rfl, rfl⟩
      rw [hd]
      go_wp2_with fail
      go_ret
      exact ⟨ret_bool (by rw [hright.out]; rfl), HB.out _⟩
    cases ha : fitsB i.a 0 15 (hasA (formZ i.op))
    · rw [hd, ha] at hright
      go_enter Tryd.func28, Tryd.ntmps28
      go_wp2_with fail
      refine (refForm_any _ _).mono ?_; rintro e w1 ⟨rfl, rfl⟩
      go_wp2_with fail
      refine (has_any _ _).mono ?_; rintro e w1 ⟨rfl, rfl⟩
      go_wp2_with fail
      refine (reg_any _ _ _).mono ?_; rintro e w1 ⟨rfl, rfl⟩
      rw [hd]
      go_wp2_with fail
      refine (reg_any _ _ _).mono ?_; rintro e w1 ⟨rfl, rfl⟩
      rw [ha]
      go_wp2_with fail
      go_ret
      exact ⟨ret_bool (by rw [hright.out]; rfl), HB.out _⟩
    cases hb : fitsB i.b 0 15 (hasB (formZ i.op))
    · rw [hd, ha, hb] at hright
      go_enter Tryd.func28, Tryd.ntmps28
      go_wp2_with fail
      refine (refForm_any _ _).mono ?_; rintro e w1 ⟨rfl, rfl⟩
      go_wp2_with fail
      refine (has_any _ _).mono ?_; rintro e w1 ⟨rfl, rfl⟩
      go_wp2_with fail
      refine (reg_any _ _ _).mono ?_; rintro e w1 ⟨rfl, rfl⟩
      rw [hd]
      go_wp2_with fail
      refine (reg_any _ _ _).mono ?_; rintro e w1 ⟨rfl, rfl⟩
      rw [ha]
      go_wp2_with fail
      refine (reg_any _ _ _).mono ?_; rintro e w1 ⟨rfl, rfl⟩
      rw [hb]
      go_wp2_with fail
      go_ret
      exact ⟨ret_bool (by rw [hright.out]; rfl), HB.out _⟩
    · rw [hd, ha, hb] at hright
      have hl := lowI_cases i.op
      cases hi : hasI (formZ i.op)
      · rw [hi] at hright
        by_cases hz : i.imm = 0
        · have hz' : (i.imm != 0) = false := by simp [hz]
          have hv : rightB i = true := by rw [hright.out]; simp [fitsB, hz]
          have HV := Lib.hid hv
          clear hv
          go_enter Tryd.func28, Tryd.ntmps28
          go_wp2_with fail
          refine (refForm_any _ _).mono ?_; rintro e w1 ⟨rfl, rfl⟩
          go_wp2_with fail
          refine (has_any _ _).mono ?_; rintro e w1 ⟨rfl, rfl⟩
          rw [hi]
          go_wp2_with fail
          refine (reg_any _ _ _).mono ?_; rintro e w1 ⟨rfl, rfl⟩
          rw [hd]
          go_wp2_with fail
          refine (reg_any _ _ _).mono ?_; rintro e w1 ⟨rfl, rfl⟩
          rw [ha]
          go_wp2_with fail
          refine (reg_any _ _ _).mono ?_; rintro e w1 ⟨rfl, rfl⟩
          rw [hb]
          go_wp2_with fail
          all_goals
            go_ret
            exact ⟨ret_bool_iff (by first | (rw [HV.out]; done) | (rw [HV.out]; simp; done) | (rw [HV.out]; simp; omega)), HB.out _⟩
        · have hz' : (i.imm != 0) = true := by simp [hz]
          have hv : rightB i = false := by rw [hright.out]; simp [fitsB, hz]
          have HV := Lib.hid hv
          clear hv
          go_enter Tryd.func28, Tryd.ntmps28
          go_wp2_with fail
          refine (refForm_any _ _).mono ?_; rintro e w1 ⟨rfl, rfl⟩
          go_wp2_with fail
          refine (has_any _ _).mono ?_; rintro e w1 ⟨rfl, rfl⟩
          rw [hi]
          go_wp2_with fail
          refine (reg_any _ _ _).mono ?_; rintro e w1 ⟨rfl, rfl⟩
          rw [hd]
          go_wp2_with fail
          refine (reg_any _ _ _).mono ?_; rintro e w1 ⟨rfl, rfl⟩
          rw [ha]
          go_wp2_with fail
          refine (reg_any _ _ _).mono ?_; rintro e w1 ⟨rfl, rfl⟩
          rw [hb]
          go_wp2_with fail
          go_ret
          exact ⟨ret_bool HV.out.symm, HB.out _⟩
      · rw [hi] at hright
        have hv : rightB i = decide (lowI i.op ≤ i.imm ∧ i.imm ≤ highI i.op) := by rw [hright.out]; simp [fitsB]
        have HV := Lib.hid hv
        clear hv
        go_enter Tryd.func28, Tryd.ntmps28
        go_wp2_with fail
        refine (refForm_any _ _).mono ?_; rintro e w1 ⟨rfl, rfl⟩
        go_wp2_with fail
        refine (has_any _ _).mono ?_; rintro e w1 ⟨rfl, rfl⟩
        rw [hi]
        go_wp2_with fail
        refine (reg_any _ _ _).mono ?_; rintro e w1 ⟨rfl, rfl⟩
        rw [hd]
        go_wp2_with fail
        refine (reg_any _ _ _).mono ?_; rintro e w1 ⟨rfl, rfl⟩
        rw [ha]
        go_wp2_with fail
        refine (reg_any _ _ _).mono ?_; rintro e w1 ⟨rfl, rfl⟩
        rw [hb]
        go_wp2_with fail
        all_goals
          go_ret
          exact ⟨ret_bool_iff (by rw [HV.out]; (try simp only [beq_iff_eq, beq_eq_false_iff_ne, ne_eq] at *); first | (simp; done) | (simp; omega)), HB.out _⟩
  · have hright := Lib.hid (right_none h0)
    go_enter Tryd.func28, Tryd.ntmps28
    go_wp2_with fail
    refine (refForm_any _ _).mono ?_; rintro e w1 ⟨rfl, rfl⟩
    go_wp2_with fail
    refine (has_any _ _).mono ?_; rintro e w1 ⟨rfl, rfl⟩
    go_wp2_with fail
    go_ret
    exact ⟨ret_bool hright.out.symm, HB.out _⟩
end Go.Proofs.YtfdegdbknponkaaDoor.Words

/- A builder in its block: its labels and its program as cells; what a part lays. -/
namespace Go.Proofs.YtfdegdbknponkaaDoor.Words
set_option maxRecDepth 100000
open Go.RowKit Go.Shelf Go.Lib
set_option linter.unusedVariables false
set_option linter.unusedSimpArgs false

/-- A builder in block c: the map of labels in block m, the program's code and data. -/
def Bld (w : World) (c m n : Nat) (f : List UInt8 → Option (Int × Int)) (p : Prog) (vc vd : Value) : Prop :=
  Box w c [.map (some m), vc, .int .i64 p.size, vd] ∧ LabM w m n f ∧ w.ownsRow (c + 1) 38 5 vc p.code.length (codeCells p.code) ∧ w.ownsRow (c + 1) 5 1 vd p.data.length (p.data.map (Value.int .u8)) ∧ m < c
theorem apart8 {w : World} {b1 b2 s1 s2 n1 n2 : Nat} {e1 e2 : TypeId} {v1 v2 : Value} {x1 x2 : List Value} (h1 : w.ownsRow b1 e1 s1 v1 n1 x1) (h2 : w.ownsRow b2 e2 s2 v2 n2 x2) (hne : e1 ≠ e2) {g : Nat} (hg : v1.ownBlock = some g) : some g ≠ v2.ownBlock := by
  rcases h1.2 with ⟨rfl, _⟩ | ⟨g1, c1, cur1, rfl, _, a1, _⟩
  · cases hg
  rcases h2.2 with ⟨rfl, _⟩ | ⟨g2, c2, cur2, rfl, _, a2, _⟩
  · intro h; cases h
  · intro h
    simp only [Value.ownBlock, Option.some.injEq] at h hg
    subst hg
    subst h
    rw [a1] at a2
    simp only [Option.some.injEq, Obj.cells.injEq] at a2
    exact hne a2.2.1
theorem row_list (w : World) (l : List Value) (t : TypeId) : Row (w.alloc (.cells l.toArray t)) (w.heap.size + 1) l.length (.slice (some ⟨w.heap.size, 0, none⟩) 1 1) 1 l := by
  refine ⟨(Nat.one_mul _).symm, _, _, rfl, Nat.le_refl _, by omega, (fun h => by cases h), fun _ => ⟨w.heap.size, 0, rfl, Nat.lt_succ_self _, fun j u hu => ?_⟩⟩
  have := new_cells w l.toArray t l (by simp) j u hu
  rwa [add_spot] at this
theorem info_ins8 : (Tryd.prog.info? 38).map (fun i => (i.zero, i.size, i.bytes)) = some (some (.agg #[.int .i64 0, .int .i64 0, .int .i64 0, .int .i64 0, .int .i64 0]), 5, 40) := by kernel_rfl
theorem info_byte8 : (Tryd.prog.info? 5).map (fun i => (i.zero, i.size, i.bytes)) = some (some (.int .u8 0), 1, 1) := by kernel_rfl
theorem size_ins8 : (Tryd.prog.info? 38).map (·.size) = some 5 := by kernel_rfl
section
variable {w w' : World} {c m n : Nat} {f : List UInt8 → Option (Int × Int)} {p : Prog} {vc vd : Value}
theorem Bld.lt (h : Bld w c m n f p vc vd) : c < w.heap.size := h.1.lt
theorem Bld.keepS {S : Nat → Prop} (h : Bld w c m n f p vc vd) (hk : KeepS S w w') (hs : ∀ k, S k → c < k) (h1 : ∀ g, vc.ownBlock = some g → ¬ S g) (h2 : ∀ g, vd.ownBlock = some g → ¬ S g) : Bld w' c m n f p vc vd := by
  obtain ⟨q1, q2, q3, q4, q5⟩ := h
  exact ⟨q1.keepS hk (fun e => by have := hs _ e; omega), q2.keepS hk (fun e => by have := hs _ e; omega), own_keepS q3 hk h1, own_keepS q4 hk h2, q5⟩
theorem Bld.go (h : Bld w c m n f p vc vd) (hb : Below w.heap.size w w') : Bld w' c m n f p vc vd := by
  obtain ⟨q1, q2, q3, q4, q5⟩ := h
  exact ⟨q1.below hb q1.lt, q2.go hb, own_below q3 hb, own_below q4 hb, q5⟩
theorem Bld.alloc (h : Bld w c m n f p vc vd) (o : Obj) : Bld (w.alloc o) c m n f p vc vd := h.go ((Below.refl _ _).alloc (Nat.le_refl _) o)
theorem Bld.drew (h : Bld w c m n f p vc vd) : Bld w.drew c m n f p vc vd := h
/-- A write into a block behind a builder's that is none of its rows'. -/
theorem Bld.set (h : Bld w c m n f p vc vd) {x : Nat} (hx : c < x) (h1 : vc.ownBlock ≠ some x) (h2 : vd.ownBlock ≠ some x) (k : Nat) (v : Value) : Bld (w.setCell ⟨x, k, none⟩ v) c m n f p vc vd :=
  h.keepS ((KeepS.refl (fun j => j = x) w).setCell rfl k v) (fun j hj => by omega) (fun g hg e => h1 (by rw [hg, e])) (fun g hg e => h2 (by rw [hg, e]))
/-- An instruction more. -/
theorem Bld.code {X y : World} {v3 : Value} {i : Ins} {o : Obj} {cells : List Value} (h : Bld X c m n f p vc vd) (hg : (X.alloc o).grownBy y vc.ownBlock) (ho : y.ownsRow (c + 1) 38 5 v3 (p.code.length + 1) (codeCells p.code ++ cells)) (hc : cells = insCells i) :
    Bld (y.setCell ⟨c, 1, none⟩ v3) c m n f { p with code := p.code ++ [i] } v3 vd ∧ Below c X (y.setCell ⟨c, 1, none⟩ v3) := by
  subst hc
  have hlt := h.lt
  obtain ⟨q1, q2, q3, q4, q5⟩ := h
  have hob : ∀ k, vc.ownBlock = some k → c + 1 ≤ k := fun k hk => (q3.lt k hk).1
  have hB : Below c X y := ((Below.refl c X).alloc (Nat.le_of_lt hlt) o).grown hg (by simp; omega) (fun k hk => by have := hob k hk; omega)
  have hB2 : Below c X (y.setCell ⟨c, 1, none⟩ v3) := hB.setCell (Nat.le_refl _) _
  refine ⟨⟨?_, ?_, ?_, ?_, q5⟩, hB2⟩
  · exact ((q1.alloc o).grown hg (fun e => by have := hob c e.symm; omega)).setCell 1 v3
  · exact q2.keepS (S := fun j => c ≤ j) ⟨hB2.os, hB2.tape, hB2.output, hB2.size, fun k hk hs => hB2.block k (Nat.lt_of_not_le hs)⟩ (by omega)
  · rw [codeCells_append, List.length_append]
    exact ownsRow_setCell_below (by simpa [codeCells] using ho) (a := ⟨c, 1, none⟩) (Nat.lt_succ_self c) v3
  · exact ownsRow_setCell_below (own_grown (q4.alloc o) hg (fun g hh => apart8 (q4.alloc o) (q3.alloc o) (by decide) hh)) (a := ⟨c, 1, none⟩) (Nat.lt_succ_self c) v3
/-- A byte more. -/
theorem Bld.byte {X y : World} {v3 : Value} {k : Int} {o : Obj} (h : Bld X c m n f p vc vd) (hg : (X.alloc o).grownBy y vd.ownBlock) (ho : y.ownsRow (c + 1) 5 1 v3 (p.data.length + 1) (p.data.map (Value.int .u8) ++ [.int .u8 k])) :
    Bld (y.setCell ⟨c, 3, none⟩ v3) c m n f { p with data := p.data ++ [k] } vc v3 ∧ Below c X (y.setCell ⟨c, 3, none⟩ v3) := by
  have hlt := h.lt
  obtain ⟨q1, q2, q3, q4, q5⟩ := h
  have hob : ∀ k, vd.ownBlock = some k → c + 1 ≤ k := fun k hk => (q4.lt k hk).1
  have hB : Below c X y := ((Below.refl c X).alloc (Nat.le_of_lt hlt) o).grown hg (by simp; omega) (fun k hk => by have := hob k hk; omega)
  have hB2 : Below c X (y.setCell ⟨c, 3, none⟩ v3) := hB.setCell (Nat.le_refl _) _
  refine ⟨⟨?_, ?_, ?_, ?_, q5⟩, hB2⟩
  · exact ((q1.alloc o).grown hg (fun e => by have := hob c e.symm; omega)).setCell 3 v3
  · exact q2.keepS (S := fun j => c ≤ j) ⟨hB2.os, hB2.tape, hB2.output, hB2.size, fun k hk hs => hB2.block k (Nat.lt_of_not_le hs)⟩ (by omega)
  · exact ownsRow_setCell_below (own_grown (q3.alloc o) hg (fun g hh => apart8 (q3.alloc o) (q4.alloc o) (by decide) hh)) (a := ⟨c, 3, none⟩) (Nat.lt_succ_self c) v3
  · rw [List.map_append, List.length_append]
    exact ownsRow_setCell_below ho (a := ⟨c, 3, none⟩) (Nat.lt_succ_self c) v3
/-- Another size. -/
theorem Bld.resize {X : World} (h : Bld X c m n f p vc vd) (k : Int) : Bld (X.setCell ⟨c, 2, none⟩ (.int .i64 k)) c m n f { p with size := k } vc vd ∧ Below c X (X.setCell ⟨c, 2, none⟩ (.int .i64 k)) := by
  have hK : KeepS (fun j => j = c) X (X.setCell ⟨c, 2, none⟩ (.int .i64 k)) := (KeepS.refl (fun j => j = c) X).setCell rfl _ _
  obtain ⟨q1, q2, q3, q4, q5⟩ := h
  exact ⟨⟨q1.setCell 2 _, q2.keepS hK (by omega), own_keepS q3 hK (fun g hg e => by have := (q3.lt g hg).1; omega), own_keepS q4 hK (fun g hg e => by have := (q4.lt g hg).1; omega), q5⟩, (Below.refl c X).setCell (Nat.le_refl _) _⟩
end
/-- What a part lays, by the first labels. -/
def put1 (i : Ins) (x : PartZ) (p : Prog) : AsmR := if rightB i = true then .ok { p with code := p.code ++ [i] } else .bad x.at_ 8
def ins1 (f : List UInt8 → Option (Int × Int)) (x : PartZ) (p : Prog) : AsmR :=
  if x.target.kind = 1 then (match f x.target.text with | none => .bad x.target.at_ 6 | some r => put1 { x.ins with imm := r.2 - p.code.length } x p) else put1 x.ins x p
def lay1 (f : List UInt8 → Option (Int × Int)) (x : PartZ) (p : Prog) : AsmR :=
  if x.kind = 1 then (if ((f x.name).getD (0, 0)).1 ≠ x.at_ then .bad x.at_ 6 else .ok p)
  else if x.kind = 3 then .ok { p with size := x.num }
  else if x.kind = 4 then (if x.num < 0 ∨ 255 < x.num then .bad x.at_ 8 else .ok { p with data := p.data ++ [x.num] })
  else if x.kind = 2 then ins1 f x p
  else .ok p
/-- What the call leaves. -/
def LayOut (w : World) (c m n : Nat) (f : List UInt8 → Option (Int × Int)) (Z : AsmR) (en : Ending) (w' : World) : Prop :=
  match Z with
  | .bad a e => en = .returned (.tuple #[.int .i64 (a : Int), .int .i64 e]) ∧ Below c w w'
  | .ok p => en = .returned (.tuple #[.int .i64 0, .int .i64 0]) ∧ (∃ vc vd, Bld w' c m n f p vc vd) ∧ Below c w w'
theorem LayOut.bad {w w' : World} {c m n : Nat} {f : List UInt8 → Option (Int × Int)} {Z : AsmR} {en : Ending} {a : Nat} {e : Int} (h : Z = .bad a e) (he : en = .returned (.tuple #[.int .i64 (a : Int), .int .i64 e])) (hb : Below c w w') : LayOut w c m n f Z en w' := by
  subst h; exact ⟨he, hb⟩
theorem LayOut.ok {w w' : World} {c m n : Nat} {f : List UInt8 → Option (Int × Int)} {Z : AsmR} {en : Ending} {p : Prog} {vc vd : Value} (h : Z = .ok p) (he : en = .returned (.tuple #[.int .i64 0, .int .i64 0])) (hB : Bld w' c m n f p vc vd) (hb : Below c w w') : LayOut w c m n f Z en w' := by
  subst h; exact ⟨he, ⟨vc, vd, hB⟩, hb⟩
end Go.Proofs.YtfdegdbknponkaaDoor.Words

/- Contract of package asm's builder.instruction. -/
namespace Go.Proofs.YtfdegdbknponkaaDoor.Words
set_option maxRecDepth 100000
open Go.RowKit Go.Shelf Go.Lib
set_option linter.unusedVariables false
set_option linter.unusedSimpArgs false


set_option maxHeartbeats 4000000 in
theorem bins_plain_no (x : PartZ) (p : Prog) (w : World) (c m n : Nat) (f : List UInt8 → Option (Int × Int)) (vc vd : Value) (hB : Bld w c m n f p vc vd) (hpc : p.code.length ≤ 1000000) (hk : x.target.kind ≠ 1) (hright : rightB x.ins = false) :
    Calls Tryd.prog 47 #[.pointer (some ⟨c, 0, none⟩), .agg #[.int .i64 x.kind, .int .i64 (x.at_ : Int), .int .i64 x.num, .string (txt x.name), .int .i64 x.ins.op, .int .i64 x.ins.d, .int .i64 x.ins.a, .int .i64 x.ins.b, .int .i64 x.ins.imm, .int .i64 x.target.kind, .int .i64 x.target.num, .int .i64 (x.target.at_ : Int), .string (txt x.target.text)]] w (LayOut w c m n f (ins1 f x p)) := by
  have hlt := hB.lt
  have HPC := Lib.hid hpc
  have HZ : Hid (ins1 f x p = .bad x.at_ 8) := by show _ = _; unfold ins1 put1; rw [if_neg hk, hright]; rfl
  have HXB : Hid (Box (w.alloc (.cells #[.int .i64 x.kind, .int .i64 (x.at_ : Int), .int .i64 x.num, .string (txt x.name), .int .i64 x.ins.op, .int .i64 x.ins.d, .int .i64 x.ins.a, .int .i64 x.ins.b, .int .i64 x.ins.imm, .int .i64 x.target.kind, .int .i64 x.target.num, .int .i64 (x.target.at_ : Int), .string (txt x.target.text)] 69)) w.heap.size (partL x)) := Box.new w (partL x) _
  have HBL := Lib.hid (hB.alloc (.cells #[.int .i64 x.kind, .int .i64 (x.at_ : Int), .int .i64 x.num, .string (txt x.name), .int .i64 x.ins.op, .int .i64 x.ins.d, .int .i64 x.ins.a, .int .i64 x.ins.b, .int .i64 x.ins.imm, .int .i64 x.target.kind, .int .i64 x.target.num, .int .i64 (x.target.at_ : Int), .string (txt x.target.text)] 69))
  have HBW : Hid (Below c w (w.alloc (.cells #[.int .i64 x.kind, .int .i64 (x.at_ : Int), .int .i64 x.num, .string (txt x.name), .int .i64 x.ins.op, .int .i64 x.ins.d, .int .i64 x.ins.a, .int .i64 x.ins.b, .int .i64 x.ins.imm, .int .i64 x.target.kind, .int .i64 x.target.num, .int .i64 (x.target.at_ : Int), .string (txt x.target.text)] 69))) := (Below.refl c w).alloc (Nat.le_of_lt hlt) _
  have HN1 : Hid (vc.ownBlock ≠ some w.heap.size) := fun e => by have := (hB.2.2.1.lt _ e).2; omega
  have hcx : c ≠ w.heap.size := by omega
  have hk2 : (x.target.kind == 1) = false := by simpa using hk
  generalize ins1 f x p = Z at *
  clear hB hpc hk
  go_enter Tryd.func47, Tryd.ntmps47
  go_wp2_with fail
  refine (right_any x.ins _).mono ?_; rintro en w2 ⟨rfl, hb2⟩
  rw [hright]
  have HB2 := Lib.hid (HBW.out.trans (hb2.mono (Nat.le_of_lt HBL.out.lt)))
  have HX2 : Hid (Box w2 w.heap.size (partL x)) := HXB.out.below hb2 HXB.out.lt
  have HL2 := Lib.hid (HBL.out.go hb2)
  have y1 := HX2.out.cell (k := 1) rfl
  try simp only at y1
  clear hb2 hright
  go_wp2_with fail
  exact bodyPost_ret (v := .tuple #[.int .i64 (x.at_ : Int), .int .i64 8]) (by simp [results, Tryd.results47, go_sem]) rfl (LayOut.bad HZ.out rfl HB2.out)

set_option maxHeartbeats 4000000 in
theorem bins_plain_yes (x : PartZ) (p : Prog) (w : World) (c m n : Nat) (f : List UInt8 → Option (Int × Int)) (vc vd : Value) (hB : Bld w c m n f p vc vd) (hpc : p.code.length ≤ 1000000) (hk : x.target.kind ≠ 1) (hright : rightB x.ins = true) :
    Calls Tryd.prog 47 #[.pointer (some ⟨c, 0, none⟩), .agg #[.int .i64 x.kind, .int .i64 (x.at_ : Int), .int .i64 x.num, .string (txt x.name), .int .i64 x.ins.op, .int .i64 x.ins.d, .int .i64 x.ins.a, .int .i64 x.ins.b, .int .i64 x.ins.imm, .int .i64 x.target.kind, .int .i64 x.target.num, .int .i64 (x.target.at_ : Int), .string (txt x.target.text)]] w (LayOut w c m n f (ins1 f x p)) := by
  have hlt := hB.lt
  have HPC := Lib.hid hpc
  have HZ : Hid (ins1 f x p = .ok { p with code := p.code ++ [x.ins] }) := by show _ = _; unfold ins1 put1; rw [if_neg hk, hright]; rfl
  have HXB : Hid (Box (w.alloc (.cells #[.int .i64 x.kind, .int .i64 (x.at_ : Int), .int .i64 x.num, .string (txt x.name), .int .i64 x.ins.op, .int .i64 x.ins.d, .int .i64 x.ins.a, .int .i64 x.ins.b, .int .i64 x.ins.imm, .int .i64 x.target.kind, .int .i64 x.target.num, .int .i64 (x.target.at_ : Int), .string (txt x.target.text)] 69)) w.heap.size (partL x)) := Box.new w (partL x) _
  have HBL := Lib.hid (hB.alloc (.cells #[.int .i64 x.kind, .int .i64 (x.at_ : Int), .int .i64 x.num, .string (txt x.name), .int .i64 x.ins.op, .int .i64 x.ins.d, .int .i64 x.ins.a, .int .i64 x.ins.b, .int .i64 x.ins.imm, .int .i64 x.target.kind, .int .i64 x.target.num, .int .i64 (x.target.at_ : Int), .string (txt x.target.text)] 69))
  have HBW : Hid (Below c w (w.alloc (.cells #[.int .i64 x.kind, .int .i64 (x.at_ : Int), .int .i64 x.num, .string (txt x.name), .int .i64 x.ins.op, .int .i64 x.ins.d, .int .i64 x.ins.a, .int .i64 x.ins.b, .int .i64 x.ins.imm, .int .i64 x.target.kind, .int .i64 x.target.num, .int .i64 (x.target.at_ : Int), .string (txt x.target.text)] 69))) := (Below.refl c w).alloc (Nat.le_of_lt hlt) _
  have HN1 : Hid (vc.ownBlock ≠ some w.heap.size) := fun e => by have := (hB.2.2.1.lt _ e).2; omega
  have hcx : c ≠ w.heap.size := by omega
  have hk2 : (x.target.kind == 1) = false := by simpa using hk
  generalize ins1 f x p = Z at *
  clear hB hpc hk
  go_enter Tryd.func47, Tryd.ntmps47
  go_wp2_with fail
  refine (right_any x.ins _).mono ?_; rintro en w2 ⟨rfl, hb2⟩
  rw [hright]
  have HB2 := Lib.hid (HBW.out.trans (hb2.mono (Nat.le_of_lt HBL.out.lt)))
  have HX2 : Hid (Box w2 w.heap.size (partL x)) := HXB.out.below hb2 HXB.out.lt
  have HL2 := Lib.hid (HBL.out.go hb2)
  have y1 := HX2.out.cell (k := 1) rfl
  try simp only at y1
  clear hb2 hright
  clear y1
  have hl2 := HL2.out.lt
  go_wp2_with fail
  have HX3 : Hid (Box w2.drew w.heap.size (partL x)) := HX2.out.drew
  have HL3 : Hid (Bld w2.drew c m n f p vc vd) := HL2.out.drew
  clear hl2
  refine wp_region_tree (fun a x => _) (LinT.of [(0, true), (1, true), (2, true), (3, true), (4, true), (6, true), (7, true)] (.two 5 8 (LinT.of [(8, false), (9, false), (10, true), (11, true), (12, true), (13, false)] .nil) (LinT.of [(5, false), (9, false), (10, true), (11, true), (12, true), (13, false)] .nil))) (by kernel_rfl) (by kernel_rfl) rfl (by kernel_rfl) (fun y => Box y w.heap.size (partL x)) (fun _ _ h => h) ?_
  simp only [LinT.of, LinT.look, List.getElem?_toArray, List.getElem?_cons_succ, List.getElem?_cons_zero]
  have hS0 : Box w2.drew w.heap.size (partL x) := HX3.out
  iterate 6 (refine tree_take (v := ?_) hS0 (by rfl) ?_ ?_; rotate_left; (intro x hx; go_simp; try (with_reducible rfl)); (simp only [Act.put, List.setIfInBounds_toArray, List.set_cons_zero, List.set_cons_succ]))
  refine tree_get_box hS0 (by rfl) 38 (.tmp 51) rfl w.heap.size 4 rfl (partL x) [.int .i64 x.ins.op, .int .i64 x.ins.d, .int .i64 x.ins.a, .int .i64 x.ins.b, .int .i64 x.ins.imm] (fun y hy => hy) (by intro j v hj; rcases j with _ | _ | _ | _ | _ | j <;> first | exact hj | (simp at hj)) _ Tryd.underlying38 rfl 5 size_ins8 rfl ?_
  try (simp only [Act.put, List.setIfInBounds_toArray, List.set_cons_zero, List.set_cons_succ])
  obtain ⟨i0, hi, hz0, hz1, hz2⟩ := info_parts info_ins8
  have HI := Lib.hid hi
  have HZ0 := Lib.hid hz0
  have HZ1 := Lib.hid hz1
  have HZ2 := Lib.hid hz2
  clear hi hz0 hz1 hz2
  have c1 : w2.cell? ⟨c, 1, none⟩ = some vc := HL3.out.1.cell (k := 1) rfl
  have hcl : c < w2.heap.size := HL3.out.lt
  have hpcc := HPC.out
  have HEND : Hid (∀ (o : Obj) (y3 : World) (v3 : Value), (w2.drew.alloc o).grownBy y3 vc.ownBlock → y3.ownsRow (c + 1) 38 5 v3 (p.code.length + 1) (codeCells p.code ++ [.int .i64 x.ins.op, .int .i64 x.ins.d, .int .i64 x.ins.a, .int .i64 x.ins.b, .int .i64 x.ins.imm]) →
      (Bld (y3.setCell ⟨c, 1, none⟩ v3) c m n f { p with code := p.code ++ [x.ins] } v3 vd ∧ Below c w (y3.setCell ⟨c, 1, none⟩ v3)) ∧ Box y3 w.heap.size (partL x) ∧ y3.cell? ⟨c, 1, none⟩ = some vc ∧ y3.frozen? ⟨c, 1, none⟩ = false ∧ c < y3.heap.size ∧ ∃ A3 k3, v3 = .slice A3 (p.code.length + 1) k3) := by
    intro o y3 v3 hg ho
    have hne : some c ≠ vc.ownBlock := fun e => by have := (HL3.out.2.2.1.lt c e.symm).1; omega
    obtain ⟨q1, q2⟩ := HL3.out.code (i := x.ins) hg ho rfl
    obtain ⟨A3, k3, h3⟩ := (Row.of_own ho).form
    have hb2 := HL3.out.1.alloc o
    refine ⟨⟨q1, HB2.out.trans ((Below.refl c w2).drew.trans q2)⟩, (HX3.out.alloc o).grown hg (fun e => HN1.out e.symm), hg.cell (hb2.cell (k := 1) rfl) hne, ?_, ?_, A3, k3, h3⟩
    · rw [World.frozen?_of_block (w := w2.drew.alloc o) (hg.block c hb2.lt hne)]; exact hb2.frozen 1
    · have := hg.size; have := hb2.lt; omega
  refine tree_two hS0 (by rfl) (by rfl) (fun K hK => ?_) (fun K hK => ?_)
  · go_simp
    refine hK.out _ _ hS0 (fun _ => ?_)
    clear hK K
    try (simp only [Act.put, List.setIfInBounds_toArray, List.set_cons_zero, List.set_cons_succ])
    refine tree_call hS0 (by rfl) (fun K hK => ?_)
    go_simp
    have hSa : Box (w2.drew.alloc (.cells #[.int .i64 x.ins.op, .int .i64 x.ins.d, .int .i64 x.ins.a, .int .i64 x.ins.b, .int .i64 x.ins.imm] 38)) w.heap.size (partL x) := hS0.alloc _
    refine hK.out _ _ hSa (fun _ => ?_)
    clear hK K
    try (simp only [Act.put, List.setIfInBounds_toArray, List.set_cons_zero, List.set_cons_succ])
    refine tree_call hSa (by rfl) (fun K hK => ?_)
    refine wp_append_row _ (.tmp 50) (.tmp 53) 23 rfl (c + 1) 38 i0 _ 5 40 Tryd.underlying23 HI.out HZ0.out HZ1.out HZ2.out rfl (by omega) _ p.code.length (codeCells p.code) rfl (HL3.out.2.2.1.alloc _) _ (.slice (some ⟨w2.heap.size, 0, none⟩) 1 1) 1 [.int .i64 x.ins.op, .int .i64 x.ins.d, .int .i64 x.ins.a, .int .i64 x.ins.b, .int .i64 x.ins.imm] rfl (row_list w2.drew [.int .i64 x.ins.op, .int .i64 x.ins.d, .int .i64 x.ins.a, .int .i64 x.ins.b, .int .i64 x.ins.imm] _) (by simp [Value.oneCell']) (by unfold maxLen; omega) (by omega) (by simp; omega) ?_
    intro v3 y3 hO3 hg3
    obtain ⟨PA, hS3, q3, q4, hy3, A3, k3, rfl⟩ := HEND.out _ _ _ hg3 hO3
    have HPA := Lib.hid PA
    clear hO3 hg3 PA
    refine hK.out _ _ hS3 (fun _ => ?_)
    clear hK K
    try (simp only [Act.put, List.setIfInBounds_toArray, List.set_cons_zero, List.set_cons_succ])
    iterate 3 (refine tree_take (v := ?_) hS3 (by rfl) ?_ ?_; rotate_left; (intro x hx; go_simp; try (with_reducible rfl)); (simp only [Act.put, List.setIfInBounds_toArray, List.set_cons_zero, List.set_cons_succ]))
    refine tree_call hS3 (by rfl) (fun K hK => ?_)
    go_simp
    refine hK.out _ _ (hS3.setCell_other hcx.symm 1 _) (fun _ => ?_)
    clear hK K
    refine tree_done ?_
    try (simp only [Act.put, List.setIfInBounds_toArray, List.set_cons_zero, List.set_cons_succ])
    go_wp2_with fail
    exact bodyPost_ret (v := .tuple #[.int .i64 0, .int .i64 0]) (by simp [results, Tryd.results47, go_sem]) rfl (LayOut.ok HZ.out rfl HPA.out.1 HPA.out.2)
  · go_simp
    have hSa : Box (w2.drew.alloc (.cells #[.int .i64 x.ins.op, .int .i64 x.ins.d, .int .i64 x.ins.a, .int .i64 x.ins.b, .int .i64 x.ins.imm] 38)) w.heap.size (partL x) := hS0.alloc _
    have c1a : (w2.drew.alloc (.cells #[.int .i64 x.ins.op, .int .i64 x.ins.d, .int .i64 x.ins.a, .int .i64 x.ins.b, .int .i64 x.ins.imm] 38)).cell? ⟨c, 1, none⟩ = some vc := (World.cell?_alloc_lt _ _ _ hcl).trans c1
    have c1b : (w2.alloc (.cells #[.int .i64 x.ins.op, .int .i64 x.ins.d, .int .i64 x.ins.a, .int .i64 x.ins.b, .int .i64 x.ins.imm] 38)).cell? ⟨c, 1, none⟩ = some vc := c1a
    refine hK.out _ _ hSa (fun _ => ?_)
    clear hK K
    try (simp only [Act.put, List.setIfInBounds_toArray, List.set_cons_zero, List.set_cons_succ])
    refine tree_call hSa (by rfl) (fun K hK => ?_)
    go_simp
    refine hK.out _ _ hSa (fun _ => ?_)
    clear hK K
    try (simp only [Act.put, List.setIfInBounds_toArray, List.set_cons_zero, List.set_cons_succ])
    refine tree_call hSa (by rfl) (fun K hK => ?_)
    refine wp_append_row _ (.tmp 50) (.tmp 53) 23 rfl (c + 1) 38 i0 _ 5 40 Tryd.underlying23 HI.out HZ0.out HZ1.out HZ2.out rfl (by omega) _ p.code.length (codeCells p.code) rfl (HL3.out.2.2.1.alloc _) _ (.slice (some ⟨w2.heap.size, 0, none⟩) 1 1) 1 [.int .i64 x.ins.op, .int .i64 x.ins.d, .int .i64 x.ins.a, .int .i64 x.ins.b, .int .i64 x.ins.imm] rfl (row_list w2.drew [.int .i64 x.ins.op, .int .i64 x.ins.d, .int .i64 x.ins.a, .int .i64 x.ins.b, .int .i64 x.ins.imm] _) (by simp [Value.oneCell']) (by unfold maxLen; omega) (by omega) (by simp; omega) ?_
    intro v3 y3 hO3 hg3
    obtain ⟨PA, hS3, q3, q4, hy3, A3, k3, rfl⟩ := HEND.out _ _ _ hg3 hO3
    have HPA := Lib.hid PA
    clear hO3 hg3 PA
    refine hK.out _ _ hS3 (fun _ => ?_)
    clear hK K
    try (simp only [Act.put, List.setIfInBounds_toArray, List.set_cons_zero, List.set_cons_succ])
    iterate 3 (refine tree_take (v := ?_) hS3 (by rfl) ?_ ?_; rotate_left; (intro x hx; go_simp; try (with_reducible rfl)); (simp only [Act.put, List.setIfInBounds_toArray, List.set_cons_zero, List.set_cons_succ]))
    refine tree_call hS3 (by rfl) (fun K hK => ?_)
    go_simp
    refine hK.out _ _ (hS3.setCell_other hcx.symm 1 _) (fun _ => ?_)
    clear hK K
    refine tree_done ?_
    try (simp only [Act.put, List.setIfInBounds_toArray, List.set_cons_zero, List.set_cons_succ])
    go_wp2_with fail
    exact bodyPost_ret (v := .tuple #[.int .i64 0, .int .i64 0]) (by simp [results, Tryd.results47, go_sem]) rfl (LayOut.ok HZ.out rfl HPA.out.1 HPA.out.2)

set_option maxHeartbeats 4000000 in
theorem bins_none (x : PartZ) (p : Prog) (w : World) (c m n : Nat) (f : List UInt8 → Option (Int × Int)) (vc vd : Value) (hB : Bld w c m n f p vc vd) (hpc : p.code.length ≤ 1000000) (hk : x.target.kind = 1) (htx : x.target.text.length ≤ 1000000) (hf : f x.target.text = none) :
    Calls Tryd.prog 47 #[.pointer (some ⟨c, 0, none⟩), .agg #[.int .i64 x.kind, .int .i64 (x.at_ : Int), .int .i64 x.num, .string (txt x.name), .int .i64 x.ins.op, .int .i64 x.ins.d, .int .i64 x.ins.a, .int .i64 x.ins.b, .int .i64 x.ins.imm, .int .i64 x.target.kind, .int .i64 x.target.num, .int .i64 (x.target.at_ : Int), .string (txt x.target.text)]] w (LayOut w c m n f (ins1 f x p)) := by
  have hlt := hB.lt
  have HPC := Lib.hid hpc
  have HXB : Hid (Box (w.alloc (.cells #[.int .i64 x.kind, .int .i64 (x.at_ : Int), .int .i64 x.num, .string (txt x.name), .int .i64 x.ins.op, .int .i64 x.ins.d, .int .i64 x.ins.a, .int .i64 x.ins.b, .int .i64 x.ins.imm, .int .i64 x.target.kind, .int .i64 x.target.num, .int .i64 (x.target.at_ : Int), .string (txt x.target.text)] 69)) w.heap.size (partL x)) := Box.new w (partL x) _
  have HBL := Lib.hid (hB.alloc (.cells #[.int .i64 x.kind, .int .i64 (x.at_ : Int), .int .i64 x.num, .string (txt x.name), .int .i64 x.ins.op, .int .i64 x.ins.d, .int .i64 x.ins.a, .int .i64 x.ins.b, .int .i64 x.ins.imm, .int .i64 x.target.kind, .int .i64 x.target.num, .int .i64 (x.target.at_ : Int), .string (txt x.target.text)] 69))
  have HBW : Hid (Below c w (w.alloc (.cells #[.int .i64 x.kind, .int .i64 (x.at_ : Int), .int .i64 x.num, .string (txt x.name), .int .i64 x.ins.op, .int .i64 x.ins.d, .int .i64 x.ins.a, .int .i64 x.ins.b, .int .i64 x.ins.imm, .int .i64 x.target.kind, .int .i64 x.target.num, .int .i64 (x.target.at_ : Int), .string (txt x.target.text)] 69))) := (Below.refl c w).alloc (Nat.le_of_lt hlt) _
  have HN1 : Hid (vc.ownBlock ≠ some w.heap.size) := fun e => by have := (hB.2.2.1.lt _ e).2; omega
  have HN2 : Hid (vd.ownBlock ≠ some w.heap.size) := fun e => by have := (hB.2.2.2.1.lt _ e).2; omega
  have HMC : Hid (m < c) := hB.2.2.2.2
  have hcx : c ≠ w.heap.size := by omega
  have hk2 : (x.target.kind == 1) = true := by simpa using hk
  have HKT : Hid (∀ y, LabM y m n f → (Instr.lookup 64 (.map (some m)) (.string (txt x.target.text)) true).run Tryd.prog y = .ok (.tuple #[.agg #[.int .i64 0, .int .i64 0], .bool false]) y) := by
    intro y hy
    have := hy.look_ok htx
    rw [hf] at this
    exact this
  obtain ⟨A0, k0, hvc⟩ := (Row.of_own hB.2.2.1).form
  have HZ : Hid (ins1 f x p = .bad x.target.at_ 6) := by show _ = _; unfold ins1; rw [if_pos hk, hf]
  generalize ins1 f x p = Z at *
  clear hB hpc hk htx hf
  go_enter Tryd.func47, Tryd.ntmps47
  go_wp2_with fail
  have hS : Box (w.alloc (.cells #[.int .i64 x.kind, .int .i64 (x.at_ : Int), .int .i64 x.num, .string (txt x.name), .int .i64 x.ins.op, .int .i64 x.ins.d, .int .i64 x.ins.a, .int .i64 x.ins.b, .int .i64 x.ins.imm, .int .i64 x.target.kind, .int .i64 x.target.num, .int .i64 (x.target.at_ : Int), .string (txt x.target.text)] 69)).drew w.heap.size (partL x) ∧ Bld (w.alloc (.cells #[.int .i64 x.kind, .int .i64 (x.at_ : Int), .int .i64 x.num, .string (txt x.name), .int .i64 x.ins.op, .int .i64 x.ins.d, .int .i64 x.ins.a, .int .i64 x.ins.b, .int .i64 x.ins.imm, .int .i64 x.target.kind, .int .i64 x.target.num, .int .i64 (x.target.at_ : Int), .string (txt x.target.text)] 69)).drew c m n f p vc vd := ⟨HXB.out.drew, HBL.out.drew⟩
  refine wp_region_lin [(0, true), (1, true), (2, true), (3, true), (4, true), (5, true), (6, true), (7, true), (8, true), (9, true), (10, true), (11, false), (12, false), (13, true)] (by kernel_rfl) (by kernel_rfl) rfl (by kernel_rfl) (fun y => Box y w.heap.size (partL x) ∧ Bld y c m n f p vc vd) ?_
  simp only [List.map_cons, List.map_nil, List.getElem?_toArray, List.getElem?_cons_succ, List.getElem?_cons_zero]
  iterate 11 (refine lin_take (v := ?_) hS (by rfl) ?_ ?_; rotate_left; (intro y hy; obtain ⟨h1, h2⟩ := hy; have e1 := h2.1.cell (k := 0) rfl; have e2 := h1.cell (k := 12) rfl; have e3 := HKT.out y h2.2.1; clear h1 h2; go_simp; try (with_reducible rfl)); (simp only [Act.put, List.setIfInBounds_toArray, List.set_cons_zero, List.set_cons_succ]))
  have hSa : Box ((w.alloc (.cells #[.int .i64 x.kind, .int .i64 (x.at_ : Int), .int .i64 x.num, .string (txt x.name), .int .i64 x.ins.op, .int .i64 x.ins.d, .int .i64 x.ins.a, .int .i64 x.ins.b, .int .i64 x.ins.imm, .int .i64 x.target.kind, .int .i64 x.target.num, .int .i64 (x.target.at_ : Int), .string (txt x.target.text)] 69)).drew.alloc (.cells #[.int .i64 0, .int .i64 0] 94)) w.heap.size (partL x) ∧ Bld ((w.alloc (.cells #[.int .i64 x.kind, .int .i64 (x.at_ : Int), .int .i64 x.num, .string (txt x.name), .int .i64 x.ins.op, .int .i64 x.ins.d, .int .i64 x.ins.a, .int .i64 x.ins.b, .int .i64 x.ins.imm, .int .i64 x.target.kind, .int .i64 x.target.num, .int .i64 (x.target.at_ : Int), .string (txt x.target.text)] 69)).drew.alloc (.cells #[.int .i64 0, .int .i64 0] 94)) c m n f p vc vd := ⟨hS.1.alloc _, hS.2.alloc _⟩
  refine lin_call hS (by rfl) (fun K hK => ?_)
  go_simp
  refine hK.out _ _ hSa (fun _ => ?_)
  clear hK K
  try (simp only [Act.put, List.setIfInBounds_toArray, List.set_cons_zero, List.set_cons_succ])
  refine lin_call hSa (by rfl) (fun K hK => ?_)
  go_simp
  have hSb : Box (((w.alloc (.cells #[.int .i64 x.kind, .int .i64 (x.at_ : Int), .int .i64 x.num, .string (txt x.name), .int .i64 x.ins.op, .int .i64 x.ins.d, .int .i64 x.ins.a, .int .i64 x.ins.b, .int .i64 x.ins.imm, .int .i64 x.target.kind, .int .i64 x.target.num, .int .i64 (x.target.at_ : Int), .string (txt x.target.text)] 69)).alloc (.cells #[.int .i64 0, .int .i64 0] 94)).drew) w.heap.size (partL x) ∧ Bld (((w.alloc (.cells #[.int .i64 x.kind, .int .i64 (x.at_ : Int), .int .i64 x.num, .string (txt x.name), .int .i64 x.ins.op, .int .i64 x.ins.d, .int .i64 x.ins.a, .int .i64 x.ins.b, .int .i64 x.ins.imm, .int .i64 x.target.kind, .int .i64 x.target.num, .int .i64 (x.target.at_ : Int), .string (txt x.target.text)] 69)).alloc (.cells #[.int .i64 0, .int .i64 0] 94)).drew) c m n f p vc vd := ⟨(HXB.out.alloc _).drew, (HBL.out.alloc _).drew⟩
  have hlb : (((w.alloc (.cells #[.int .i64 x.kind, .int .i64 (x.at_ : Int), .int .i64 x.num, .string (txt x.name), .int .i64 x.ins.op, .int .i64 x.ins.d, .int .i64 x.ins.a, .int .i64 x.ins.b, .int .i64 x.ins.imm, .int .i64 x.target.kind, .int .i64 x.target.num, .int .i64 (x.target.at_ : Int), .string (txt x.target.text)] 69)).alloc (.cells #[.int .i64 0, .int .i64 0] 94)).drew).cell? ⟨w.heap.size + 1, 1, none⟩ = some (.int .i64 0) := by
    have := (Box.new (w.alloc (.cells #[.int .i64 x.kind, .int .i64 (x.at_ : Int), .int .i64 x.num, .string (txt x.name), .int .i64 x.ins.op, .int .i64 x.ins.d, .int .i64 x.ins.a, .int .i64 x.ins.b, .int .i64 x.ins.imm, .int .i64 x.target.kind, .int .i64 x.target.num, .int .i64 (x.target.at_ : Int), .string (txt x.target.text)] 69)) [.int .i64 0, .int .i64 0] 94).cell (k := 1) rfl
    rw [show (w.alloc (.cells #[.int .i64 x.kind, .int .i64 (x.at_ : Int), .int .i64 x.num, .string (txt x.name), .int .i64 x.ins.op, .int .i64 x.ins.d, .int .i64 x.ins.a, .int .i64 x.ins.b, .int .i64 x.ins.imm, .int .i64 x.target.kind, .int .i64 x.target.num, .int .i64 (x.target.at_ : Int), .string (txt x.target.text)] 69)).heap.size = w.heap.size + 1 by simp] at this
    exact this
  have hbw : Below c w (((w.alloc (.cells #[.int .i64 x.kind, .int .i64 (x.at_ : Int), .int .i64 x.num, .string (txt x.name), .int .i64 x.ins.op, .int .i64 x.ins.d, .int .i64 x.ins.a, .int .i64 x.ins.b, .int .i64 x.ins.imm, .int .i64 x.target.kind, .int .i64 x.target.num, .int .i64 (x.target.at_ : Int), .string (txt x.target.text)] 69)).alloc (.cells #[.int .i64 0, .int .i64 0] 94)).drew) := (HBW.out.alloc (Nat.le_of_lt HBL.out.lt) _).drew
  have hxl : w.heap.size + 1 < (((w.alloc (.cells #[.int .i64 x.kind, .int .i64 (x.at_ : Int), .int .i64 x.num, .string (txt x.name), .int .i64 x.ins.op, .int .i64 x.ins.d, .int .i64 x.ins.a, .int .i64 x.ins.b, .int .i64 x.ins.imm, .int .i64 x.target.kind, .int .i64 x.target.num, .int .i64 (x.target.at_ : Int), .string (txt x.target.text)] 69)).alloc (.cells #[.int .i64 0, .int .i64 0] 94)).drew).heap.size := by show _ < ((w.alloc (.cells #[.int .i64 x.kind, .int .i64 (x.at_ : Int), .int .i64 x.num, .string (txt x.name), .int .i64 x.ins.op, .int .i64 x.ins.d, .int .i64 x.ins.a, .int .i64 x.ins.b, .int .i64 x.ins.imm, .int .i64 x.target.kind, .int .i64 x.target.num, .int .i64 (x.target.at_ : Int), .string (txt x.target.text)] 69)).alloc _).heap.size; simp
  refine hK.out _ _ hSb (fun _ => ?_)
  clear hK K hS hSa
  try (simp only [Act.put, List.setIfInBounds_toArray, List.set_cons_zero, List.set_cons_succ])
  (refine lin_take (v := ?_) hSb (by rfl) ?_ ?_; rotate_left; (intro y hy; go_simp; try (with_reducible rfl)); (simp only [Act.put, List.setIfInBounds_toArray, List.set_cons_zero, List.set_cons_succ]))
  refine lin_done ?_
  clear HXB HBL HBW
  obtain ⟨HXB, HBL⟩ : Hid (Box (((w.alloc (.cells #[.int .i64 x.kind, .int .i64 (x.at_ : Int), .int .i64 x.num, .string (txt x.name), .int .i64 x.ins.op, .int .i64 x.ins.d, .int .i64 x.ins.a, .int .i64 x.ins.b, .int .i64 x.ins.imm, .int .i64 x.target.kind, .int .i64 x.target.num, .int .i64 (x.target.at_ : Int), .string (txt x.target.text)] 69)).alloc (.cells #[.int .i64 0, .int .i64 0] 94)).drew) w.heap.size (partL x)) ∧ Hid (Bld (((w.alloc (.cells #[.int .i64 x.kind, .int .i64 (x.at_ : Int), .int .i64 x.num, .string (txt x.name), .int .i64 x.ins.op, .int .i64 x.ins.d, .int .i64 x.ins.a, .int .i64 x.ins.b, .int .i64 x.ins.imm, .int .i64 x.target.kind, .int .i64 x.target.num, .int .i64 (x.target.at_ : Int), .string (txt x.target.text)] 69)).alloc (.cells #[.int .i64 0, .int .i64 0] 94)).drew) c m n f p vc vd) := ⟨hSb.1, hSb.2⟩
  have HBW := Lib.hid hbw
  clear hSb hbw
  generalize (((w.alloc (.cells #[.int .i64 x.kind, .int .i64 (x.at_ : Int), .int .i64 x.num, .string (txt x.name), .int .i64 x.ins.op, .int .i64 x.ins.d, .int .i64 x.ins.a, .int .i64 x.ins.b, .int .i64 x.ins.imm, .int .i64 x.target.kind, .int .i64 x.target.num, .int .i64 (x.target.at_ : Int), .string (txt x.target.text)] 69)).alloc (.cells #[.int .i64 0, .int .i64 0] 94)).drew) = X at *
  have y11 := HXB.out.cell (k := 11) rfl
  go_wp2_with fail
  exact bodyPost_ret (v := .tuple #[.int .i64 (x.target.at_ : Int), .int .i64 6]) (by simp [results, Tryd.results47, go_sem]) rfl (LayOut.bad HZ.out rfl HBW.out)

set_option maxHeartbeats 4000000 in
theorem bins_some_no (x : PartZ) (p : Prog) (w : World) (c m n : Nat) (f : List UInt8 → Option (Int × Int)) (vc vd : Value) (hB : Bld w c m n f p vc vd) (hpc : p.code.length ≤ 1000000) (r : Int × Int) (K0 : Int) (hk : x.target.kind = 1) (htx : x.target.text.length ≤ 1000000) (hf : f x.target.text = some r) (hr0 : 0 ≤ r.2) (hr1 : r.2 ≤ 1000000) (hK0 : K0 = r.2 - p.code.length) (hright : rightB { x.ins with imm := K0 } = false) :
    Calls Tryd.prog 47 #[.pointer (some ⟨c, 0, none⟩), .agg #[.int .i64 x.kind, .int .i64 (x.at_ : Int), .int .i64 x.num, .string (txt x.name), .int .i64 x.ins.op, .int .i64 x.ins.d, .int .i64 x.ins.a, .int .i64 x.ins.b, .int .i64 x.ins.imm, .int .i64 x.target.kind, .int .i64 x.target.num, .int .i64 (x.target.at_ : Int), .string (txt x.target.text)]] w (LayOut w c m n f (ins1 f x p)) := by
  have hlt := hB.lt
  have HPC := Lib.hid hpc
  have HXB : Hid (Box (w.alloc (.cells #[.int .i64 x.kind, .int .i64 (x.at_ : Int), .int .i64 x.num, .string (txt x.name), .int .i64 x.ins.op, .int .i64 x.ins.d, .int .i64 x.ins.a, .int .i64 x.ins.b, .int .i64 x.ins.imm, .int .i64 x.target.kind, .int .i64 x.target.num, .int .i64 (x.target.at_ : Int), .string (txt x.target.text)] 69)) w.heap.size (partL x)) := Box.new w (partL x) _
  have HBL := Lib.hid (hB.alloc (.cells #[.int .i64 x.kind, .int .i64 (x.at_ : Int), .int .i64 x.num, .string (txt x.name), .int .i64 x.ins.op, .int .i64 x.ins.d, .int .i64 x.ins.a, .int .i64 x.ins.b, .int .i64 x.ins.imm, .int .i64 x.target.kind, .int .i64 x.target.num, .int .i64 (x.target.at_ : Int), .string (txt x.target.text)] 69))
  have HBW : Hid (Below c w (w.alloc (.cells #[.int .i64 x.kind, .int .i64 (x.at_ : Int), .int .i64 x.num, .string (txt x.name), .int .i64 x.ins.op, .int .i64 x.ins.d, .int .i64 x.ins.a, .int .i64 x.ins.b, .int .i64 x.ins.imm, .int .i64 x.target.kind, .int .i64 x.target.num, .int .i64 (x.target.at_ : Int), .string (txt x.target.text)] 69))) := (Below.refl c w).alloc (Nat.le_of_lt hlt) _
  have HN1 : Hid (vc.ownBlock ≠ some w.heap.size) := fun e => by have := (hB.2.2.1.lt _ e).2; omega
  have HN2 : Hid (vd.ownBlock ≠ some w.heap.size) := fun e => by have := (hB.2.2.2.1.lt _ e).2; omega
  have HMC : Hid (m < c) := hB.2.2.2.2
  have hcx : c ≠ w.heap.size := by omega
  have hk2 : (x.target.kind == 1) = true := by simpa using hk
  have HKT : Hid (∀ y, LabM y m n f → (Instr.lookup 64 (.map (some m)) (.string (txt x.target.text)) true).run Tryd.prog y = .ok (.tuple #[.agg #[.int .i64 r.1, .int .i64 r.2], .bool true]) y) := by
    intro y hy
    have := hy.look_ok htx
    rw [hf] at this
    exact this
  obtain ⟨A0, k0, hvc⟩ := (Row.of_own hB.2.2.1).form
  have HZ : Hid (ins1 f x p = .bad x.at_ 8) := by show _ = _; unfold ins1 put1; rw [if_pos hk, hf]; simp only; rw [← hK0, hright]; rfl
  generalize ins1 f x p = Z at *
  obtain ⟨r1, r2⟩ := r
  simp only at hr0 hr1 hK0 HKT
  have HK0 := Lib.hid hK0
  clear hK0
  have HPL : Hid (p.code.length ≤ 1000000) := hpc
  clear hB hk htx hf
  go_enter Tryd.func47, Tryd.ntmps47
  go_wp2_with fail
  have hS : Box (w.alloc (.cells #[.int .i64 x.kind, .int .i64 (x.at_ : Int), .int .i64 x.num, .string (txt x.name), .int .i64 x.ins.op, .int .i64 x.ins.d, .int .i64 x.ins.a, .int .i64 x.ins.b, .int .i64 x.ins.imm, .int .i64 x.target.kind, .int .i64 x.target.num, .int .i64 (x.target.at_ : Int), .string (txt x.target.text)] 69)).drew w.heap.size (partL x) ∧ Bld (w.alloc (.cells #[.int .i64 x.kind, .int .i64 (x.at_ : Int), .int .i64 x.num, .string (txt x.name), .int .i64 x.ins.op, .int .i64 x.ins.d, .int .i64 x.ins.a, .int .i64 x.ins.b, .int .i64 x.ins.imm, .int .i64 x.target.kind, .int .i64 x.target.num, .int .i64 (x.target.at_ : Int), .string (txt x.target.text)] 69)).drew c m n f p vc vd := ⟨HXB.out.drew, HBL.out.drew⟩
  refine wp_region_lin [(0, true), (1, true), (2, true), (3, true), (4, true), (5, true), (6, true), (7, true), (8, true), (9, true), (10, true), (11, false), (12, false), (13, true)] (by kernel_rfl) (by kernel_rfl) rfl (by kernel_rfl) (fun y => Box y w.heap.size (partL x) ∧ Bld y c m n f p vc vd) ?_
  simp only [List.map_cons, List.map_nil, List.getElem?_toArray, List.getElem?_cons_succ, List.getElem?_cons_zero]
  iterate 11 (refine lin_take (v := ?_) hS (by rfl) ?_ ?_; rotate_left; (intro y hy; obtain ⟨h1, h2⟩ := hy; have e1 := h2.1.cell (k := 0) rfl; have e2 := h1.cell (k := 12) rfl; have e3 := HKT.out y h2.2.1; clear h1 h2; go_simp; try (with_reducible rfl)); (simp only [Act.put, List.setIfInBounds_toArray, List.set_cons_zero, List.set_cons_succ]))
  have hSa : Box ((w.alloc (.cells #[.int .i64 x.kind, .int .i64 (x.at_ : Int), .int .i64 x.num, .string (txt x.name), .int .i64 x.ins.op, .int .i64 x.ins.d, .int .i64 x.ins.a, .int .i64 x.ins.b, .int .i64 x.ins.imm, .int .i64 x.target.kind, .int .i64 x.target.num, .int .i64 (x.target.at_ : Int), .string (txt x.target.text)] 69)).drew.alloc (.cells #[.int .i64 0, .int .i64 0] 94)) w.heap.size (partL x) ∧ Bld ((w.alloc (.cells #[.int .i64 x.kind, .int .i64 (x.at_ : Int), .int .i64 x.num, .string (txt x.name), .int .i64 x.ins.op, .int .i64 x.ins.d, .int .i64 x.ins.a, .int .i64 x.ins.b, .int .i64 x.ins.imm, .int .i64 x.target.kind, .int .i64 x.target.num, .int .i64 (x.target.at_ : Int), .string (txt x.target.text)] 69)).drew.alloc (.cells #[.int .i64 0, .int .i64 0] 94)) c m n f p vc vd := ⟨hS.1.alloc _, hS.2.alloc _⟩
  refine lin_call hS (by rfl) (fun K hK => ?_)
  go_simp
  refine hK.out _ _ hSa (fun _ => ?_)
  clear hK K
  try (simp only [Act.put, List.setIfInBounds_toArray, List.set_cons_zero, List.set_cons_succ])
  refine lin_call hSa (by rfl) (fun K hK => ?_)
  go_simp
  have hSb : Box (((w.alloc (.cells #[.int .i64 x.kind, .int .i64 (x.at_ : Int), .int .i64 x.num, .string (txt x.name), .int .i64 x.ins.op, .int .i64 x.ins.d, .int .i64 x.ins.a, .int .i64 x.ins.b, .int .i64 x.ins.imm, .int .i64 x.target.kind, .int .i64 x.target.num, .int .i64 (x.target.at_ : Int), .string (txt x.target.text)] 69)).alloc (.cells #[.int .i64 r1, .int .i64 r2] 94)).drew) w.heap.size (partL x) ∧ Bld (((w.alloc (.cells #[.int .i64 x.kind, .int .i64 (x.at_ : Int), .int .i64 x.num, .string (txt x.name), .int .i64 x.ins.op, .int .i64 x.ins.d, .int .i64 x.ins.a, .int .i64 x.ins.b, .int .i64 x.ins.imm, .int .i64 x.target.kind, .int .i64 x.target.num, .int .i64 (x.target.at_ : Int), .string (txt x.target.text)] 69)).alloc (.cells #[.int .i64 r1, .int .i64 r2] 94)).drew) c m n f p vc vd := ⟨(HXB.out.alloc _).drew, (HBL.out.alloc _).drew⟩
  have hlb : (((w.alloc (.cells #[.int .i64 x.kind, .int .i64 (x.at_ : Int), .int .i64 x.num, .string (txt x.name), .int .i64 x.ins.op, .int .i64 x.ins.d, .int .i64 x.ins.a, .int .i64 x.ins.b, .int .i64 x.ins.imm, .int .i64 x.target.kind, .int .i64 x.target.num, .int .i64 (x.target.at_ : Int), .string (txt x.target.text)] 69)).alloc (.cells #[.int .i64 r1, .int .i64 r2] 94)).drew).cell? ⟨w.heap.size + 1, 1, none⟩ = some (.int .i64 r2) := by
    have := (Box.new (w.alloc (.cells #[.int .i64 x.kind, .int .i64 (x.at_ : Int), .int .i64 x.num, .string (txt x.name), .int .i64 x.ins.op, .int .i64 x.ins.d, .int .i64 x.ins.a, .int .i64 x.ins.b, .int .i64 x.ins.imm, .int .i64 x.target.kind, .int .i64 x.target.num, .int .i64 (x.target.at_ : Int), .string (txt x.target.text)] 69)) [.int .i64 r1, .int .i64 r2] 94).cell (k := 1) rfl
    rw [show (w.alloc (.cells #[.int .i64 x.kind, .int .i64 (x.at_ : Int), .int .i64 x.num, .string (txt x.name), .int .i64 x.ins.op, .int .i64 x.ins.d, .int .i64 x.ins.a, .int .i64 x.ins.b, .int .i64 x.ins.imm, .int .i64 x.target.kind, .int .i64 x.target.num, .int .i64 (x.target.at_ : Int), .string (txt x.target.text)] 69)).heap.size = w.heap.size + 1 by simp] at this
    exact this
  have hbw : Below c w (((w.alloc (.cells #[.int .i64 x.kind, .int .i64 (x.at_ : Int), .int .i64 x.num, .string (txt x.name), .int .i64 x.ins.op, .int .i64 x.ins.d, .int .i64 x.ins.a, .int .i64 x.ins.b, .int .i64 x.ins.imm, .int .i64 x.target.kind, .int .i64 x.target.num, .int .i64 (x.target.at_ : Int), .string (txt x.target.text)] 69)).alloc (.cells #[.int .i64 r1, .int .i64 r2] 94)).drew) := (HBW.out.alloc (Nat.le_of_lt HBL.out.lt) _).drew
  have hxl : w.heap.size + 1 < (((w.alloc (.cells #[.int .i64 x.kind, .int .i64 (x.at_ : Int), .int .i64 x.num, .string (txt x.name), .int .i64 x.ins.op, .int .i64 x.ins.d, .int .i64 x.ins.a, .int .i64 x.ins.b, .int .i64 x.ins.imm, .int .i64 x.target.kind, .int .i64 x.target.num, .int .i64 (x.target.at_ : Int), .string (txt x.target.text)] 69)).alloc (.cells #[.int .i64 r1, .int .i64 r2] 94)).drew).heap.size := by show _ < ((w.alloc (.cells #[.int .i64 x.kind, .int .i64 (x.at_ : Int), .int .i64 x.num, .string (txt x.name), .int .i64 x.ins.op, .int .i64 x.ins.d, .int .i64 x.ins.a, .int .i64 x.ins.b, .int .i64 x.ins.imm, .int .i64 x.target.kind, .int .i64 x.target.num, .int .i64 (x.target.at_ : Int), .string (txt x.target.text)] 69)).alloc _).heap.size; simp
  refine hK.out _ _ hSb (fun _ => ?_)
  clear hK K hS hSa
  try (simp only [Act.put, List.setIfInBounds_toArray, List.set_cons_zero, List.set_cons_succ])
  (refine lin_take (v := ?_) hSb (by rfl) ?_ ?_; rotate_left; (intro y hy; go_simp; try (with_reducible rfl)); (simp only [Act.put, List.setIfInBounds_toArray, List.set_cons_zero, List.set_cons_succ]))
  refine lin_done ?_
  clear HXB HBL HBW
  have hpl := HPC.out
  obtain ⟨HXB, HBL⟩ : Hid (Box (((w.alloc (.cells #[.int .i64 x.kind, .int .i64 (x.at_ : Int), .int .i64 x.num, .string (txt x.name), .int .i64 x.ins.op, .int .i64 x.ins.d, .int .i64 x.ins.a, .int .i64 x.ins.b, .int .i64 x.ins.imm, .int .i64 x.target.kind, .int .i64 x.target.num, .int .i64 (x.target.at_ : Int), .string (txt x.target.text)] 69)).alloc (.cells #[.int .i64 r1, .int .i64 r2] 94)).drew) w.heap.size (partL x)) ∧ Hid (Bld (((w.alloc (.cells #[.int .i64 x.kind, .int .i64 (x.at_ : Int), .int .i64 x.num, .string (txt x.name), .int .i64 x.ins.op, .int .i64 x.ins.d, .int .i64 x.ins.a, .int .i64 x.ins.b, .int .i64 x.ins.imm, .int .i64 x.target.kind, .int .i64 x.target.num, .int .i64 (x.target.at_ : Int), .string (txt x.target.text)] 69)).alloc (.cells #[.int .i64 r1, .int .i64 r2] 94)).drew) c m n f p vc vd) := ⟨hSb.1, hSb.2⟩
  have HBW := Lib.hid hbw
  clear hSb hbw
  generalize (((w.alloc (.cells #[.int .i64 x.kind, .int .i64 (x.at_ : Int), .int .i64 x.num, .string (txt x.name), .int .i64 x.ins.op, .int .i64 x.ins.d, .int .i64 x.ins.a, .int .i64 x.ins.b, .int .i64 x.ins.imm, .int .i64 x.target.kind, .int .i64 x.target.num, .int .i64 (x.target.at_ : Int), .string (txt x.target.text)] 69)).alloc (.cells #[.int .i64 r1, .int .i64 r2] 94)).drew) = X at *
  subst hvc
  have z1 := HBL.out.1.cell (k := 1) rfl
  have hcX := HBL.out.lt
  go_wp2_with fail
  have hS : X.drew.cell? ⟨w.heap.size + 1, 1, none⟩ = some (.int .i64 r2) ∧ X.drew.cell? ⟨c, 1, none⟩ = some (.slice A0 p.code.length k0) := ⟨hlb, z1⟩
  clear hlb z1
  refine wp_region_lin [(0, true), (1, true), (2, true), (3, true), (4, true), (5, true), (6, true), (7, true), (8, true), (9, true), (10, true), (11, false)] (by kernel_rfl) (by kernel_rfl) rfl (by kernel_rfl) (fun y => y.cell? ⟨w.heap.size + 1, 1, none⟩ = some (.int .i64 r2) ∧ y.cell? ⟨c, 1, none⟩ = some (.slice A0 p.code.length k0)) ?_
  simp only [List.map_cons, List.map_nil, List.getElem?_toArray, List.getElem?_cons_succ, List.getElem?_cons_zero]
  iterate 11 (refine lin_take (v := ?_) hS (by rfl) ?_ ?_; rotate_left; (intro y hy; obtain ⟨e1, e2⟩ := hy; go_simp; try (with_reducible rfl)); (simp only [Act.put, List.setIfInBounds_toArray, List.set_cons_zero, List.set_cons_succ]))
  have hw : IntKind.i64.wrap (r2 - (p.code.length : Int)) = K0 := by have := HK0.out; rw [this]; exact IntWalk.i64_in _ ⟨by omega, by omega⟩
  rw [hw]
  have y8 : X.drew.cell? ⟨w.heap.size, 8, none⟩ = some (.int .i64 x.ins.imm) := HXB.out.cell (k := 8) rfl
  have f8 : X.drew.frozen? ⟨w.heap.size, 8, none⟩ = false := HXB.out.frozen 8
  have hSc : (X.drew.setCell ⟨w.heap.size, 8, none⟩ (.int .i64 K0)).cell? ⟨w.heap.size + 1, 1, none⟩ = some (.int .i64 r2) ∧ (X.drew.setCell ⟨w.heap.size, 8, none⟩ (.int .i64 K0)).cell? ⟨c, 1, none⟩ = some (.slice A0 p.code.length k0) :=
    ⟨(World.cell?_setCell_other _ _ _ _ (fun e => by have := congrArg Addr.block e; simp at this)).trans hS.1, (World.cell?_setCell_other _ _ _ _ (fun e => hcx (congrArg Addr.block e).symm)).trans hS.2⟩
  refine lin_call hS (by rfl) (fun K hK => ?_)
  go_simp
  refine hK.out _ _ hSc (fun _ => ?_)
  clear hK K hS hSc y8 f8
  try (simp only [Act.put, List.setIfInBounds_toArray, List.set_cons_zero, List.set_cons_succ])
  refine lin_done ?_
  obtain ⟨HXC, HBC, HWC⟩ : Hid (Box ((X.setCell ⟨w.heap.size, 8, none⟩ (.int .i64 K0)).drew) w.heap.size (partL { x with ins := { x.ins with imm := K0 } })) ∧ Hid (Bld ((X.setCell ⟨w.heap.size, 8, none⟩ (.int .i64 K0)).drew) c m n f p (.slice A0 p.code.length k0) vd) ∧ Hid (Below c w ((X.setCell ⟨w.heap.size, 8, none⟩ (.int .i64 K0)).drew)) :=
    ⟨(HXB.out.setCell 8 _).drew, (HBL.out.set hlt HN1.out HN2.out 8 _).drew, (HBW.out.setCell (p := ⟨w.heap.size, 8, none⟩) (Nat.le_of_lt hlt) _).drew⟩
  clear HXB HBL HBW
  have HXB := HXC
  have HBL := HBC
  have HBW := HWC
  clear HXC HBC HWC hw
  generalize (X.setCell ⟨w.heap.size, 8, none⟩ (.int .i64 K0)).drew = Y at *
  have y4 : Y.cell? ⟨w.heap.size, 4, none⟩ = some (.int .i64 x.ins.op) := HXB.out.cell (k := 4) rfl
  have y5 : Y.cell? ⟨w.heap.size, 5, none⟩ = some (.int .i64 x.ins.d) := HXB.out.cell (k := 5) rfl
  have y6 : Y.cell? ⟨w.heap.size, 6, none⟩ = some (.int .i64 x.ins.a) := HXB.out.cell (k := 6) rfl
  have y7 : Y.cell? ⟨w.heap.size, 7, none⟩ = some (.int .i64 x.ins.b) := HXB.out.cell (k := 7) rfl
  have y8 : Y.cell? ⟨w.heap.size, 8, none⟩ = some (.int .i64 K0) := HXB.out.cell (k := 8) rfl
  have HHR := Lib.hid hright
  clear hright
  go_wp2_with fail
  have hright := HHR.out
  clear y4 y5 y6 y7 y8
  refine (right_any ({ x.ins with imm := K0 } : Ins) _).mono ?_; rintro en w2 ⟨rfl, hb2⟩
  rw [hright]
  have HB2 := Lib.hid (HBW.out.trans (hb2.mono (Nat.le_of_lt HBL.out.lt)))
  have HX2 : Hid (Box w2 w.heap.size (partL { x with ins := { x.ins with imm := K0 } })) := HXB.out.below hb2 HXB.out.lt
  have HL2 := Lib.hid (HBL.out.go hb2)
  have y1 := HX2.out.cell (k := 1) rfl
  try simp only at y1
  clear hb2 hright
  have y1b : w2.cell? ⟨w.heap.size, 1, none⟩ = some (.int .i64 (x.at_ : Int)) := y1
  go_wp2_with fail
  exact bodyPost_ret (v := .tuple #[.int .i64 (x.at_ : Int), .int .i64 8]) (by simp [results, Tryd.results47, go_sem]) rfl (LayOut.bad HZ.out rfl HB2.out)

set_option maxHeartbeats 4000000 in
theorem bins_some_yes (x : PartZ) (p : Prog) (w : World) (c m n : Nat) (f : List UInt8 → Option (Int × Int)) (vc vd : Value) (hB : Bld w c m n f p vc vd) (hpc : p.code.length ≤ 1000000) (r : Int × Int) (K0 : Int) (hk : x.target.kind = 1) (htx : x.target.text.length ≤ 1000000) (hf : f x.target.text = some r) (hr0 : 0 ≤ r.2) (hr1 : r.2 ≤ 1000000) (hK0 : K0 = r.2 - p.code.length) (hright : rightB { x.ins with imm := K0 } = true) :
    Calls Tryd.prog 47 #[.pointer (some ⟨c, 0, none⟩), .agg #[.int .i64 x.kind, .int .i64 (x.at_ : Int), .int .i64 x.num, .string (txt x.name), .int .i64 x.ins.op, .int .i64 x.ins.d, .int .i64 x.ins.a, .int .i64 x.ins.b, .int .i64 x.ins.imm, .int .i64 x.target.kind, .int .i64 x.target.num, .int .i64 (x.target.at_ : Int), .string (txt x.target.text)]] w (LayOut w c m n f (ins1 f x p)) := by
  have hlt := hB.lt
  have HPC := Lib.hid hpc
  have HXB : Hid (Box (w.alloc (.cells #[.int .i64 x.kind, .int .i64 (x.at_ : Int), .int .i64 x.num, .string (txt x.name), .int .i64 x.ins.op, .int .i64 x.ins.d, .int .i64 x.ins.a, .int .i64 x.ins.b, .int .i64 x.ins.imm, .int .i64 x.target.kind, .int .i64 x.target.num, .int .i64 (x.target.at_ : Int), .string (txt x.target.text)] 69)) w.heap.size (partL x)) := Box.new w (partL x) _
  have HBL := Lib.hid (hB.alloc (.cells #[.int .i64 x.kind, .int .i64 (x.at_ : Int), .int .i64 x.num, .string (txt x.name), .int .i64 x.ins.op, .int .i64 x.ins.d, .int .i64 x.ins.a, .int .i64 x.ins.b, .int .i64 x.ins.imm, .int .i64 x.target.kind, .int .i64 x.target.num, .int .i64 (x.target.at_ : Int), .string (txt x.target.text)] 69))
  have HBW : Hid (Below c w (w.alloc (.cells #[.int .i64 x.kind, .int .i64 (x.at_ : Int), .int .i64 x.num, .string (txt x.name), .int .i64 x.ins.op, .int .i64 x.ins.d, .int .i64 x.ins.a, .int .i64 x.ins.b, .int .i64 x.ins.imm, .int .i64 x.target.kind, .int .i64 x.target.num, .int .i64 (x.target.at_ : Int), .string (txt x.target.text)] 69))) := (Below.refl c w).alloc (Nat.le_of_lt hlt) _
  have HN1 : Hid (vc.ownBlock ≠ some w.heap.size) := fun e => by have := (hB.2.2.1.lt _ e).2; omega
  have HN2 : Hid (vd.ownBlock ≠ some w.heap.size) := fun e => by have := (hB.2.2.2.1.lt _ e).2; omega
  have HMC : Hid (m < c) := hB.2.2.2.2
  have hcx : c ≠ w.heap.size := by omega
  have hk2 : (x.target.kind == 1) = true := by simpa using hk
  have HKT : Hid (∀ y, LabM y m n f → (Instr.lookup 64 (.map (some m)) (.string (txt x.target.text)) true).run Tryd.prog y = .ok (.tuple #[.agg #[.int .i64 r.1, .int .i64 r.2], .bool true]) y) := by
    intro y hy
    have := hy.look_ok htx
    rw [hf] at this
    exact this
  obtain ⟨A0, k0, hvc⟩ := (Row.of_own hB.2.2.1).form
  have HZ : Hid (ins1 f x p = .ok { p with code := p.code ++ [({ x.ins with imm := K0 } : Ins)] }) := by show _ = _; unfold ins1 put1; rw [if_pos hk, hf]; simp only; rw [← hK0, hright]; rfl
  generalize ins1 f x p = Z at *
  obtain ⟨r1, r2⟩ := r
  simp only at hr0 hr1 hK0 HKT
  have HK0 := Lib.hid hK0
  clear hK0
  have HPL : Hid (p.code.length ≤ 1000000) := hpc
  clear hB hk htx hf
  go_enter Tryd.func47, Tryd.ntmps47
  go_wp2_with fail
  have hS : Box (w.alloc (.cells #[.int .i64 x.kind, .int .i64 (x.at_ : Int), .int .i64 x.num, .string (txt x.name), .int .i64 x.ins.op, .int .i64 x.ins.d, .int .i64 x.ins.a, .int .i64 x.ins.b, .int .i64 x.ins.imm, .int .i64 x.target.kind, .int .i64 x.target.num, .int .i64 (x.target.at_ : Int), .string (txt x.target.text)] 69)).drew w.heap.size (partL x) ∧ Bld (w.alloc (.cells #[.int .i64 x.kind, .int .i64 (x.at_ : Int), .int .i64 x.num, .string (txt x.name), .int .i64 x.ins.op, .int .i64 x.ins.d, .int .i64 x.ins.a, .int .i64 x.ins.b, .int .i64 x.ins.imm, .int .i64 x.target.kind, .int .i64 x.target.num, .int .i64 (x.target.at_ : Int), .string (txt x.target.text)] 69)).drew c m n f p vc vd := ⟨HXB.out.drew, HBL.out.drew⟩
  refine wp_region_lin [(0, true), (1, true), (2, true), (3, true), (4, true), (5, true), (6, true), (7, true), (8, true), (9, true), (10, true), (11, false), (12, false), (13, true)] (by kernel_rfl) (by kernel_rfl) rfl (by kernel_rfl) (fun y => Box y w.heap.size (partL x) ∧ Bld y c m n f p vc vd) ?_
  simp only [List.map_cons, List.map_nil, List.getElem?_toArray, List.getElem?_cons_succ, List.getElem?_cons_zero]
  iterate 11 (refine lin_take (v := ?_) hS (by rfl) ?_ ?_; rotate_left; (intro y hy; obtain ⟨h1, h2⟩ := hy; have e1 := h2.1.cell (k := 0) rfl; have e2 := h1.cell (k := 12) rfl; have e3 := HKT.out y h2.2.1; clear h1 h2; go_simp; try (with_reducible rfl)); (simp only [Act.put, List.setIfInBounds_toArray, List.set_cons_zero, List.set_cons_succ]))
  have hSa : Box ((w.alloc (.cells #[.int .i64 x.kind, .int .i64 (x.at_ : Int), .int .i64 x.num, .string (txt x.name), .int .i64 x.ins.op, .int .i64 x.ins.d, .int .i64 x.ins.a, .int .i64 x.ins.b, .int .i64 x.ins.imm, .int .i64 x.target.kind, .int .i64 x.target.num, .int .i64 (x.target.at_ : Int), .string (txt x.target.text)] 69)).drew.alloc (.cells #[.int .i64 0, .int .i64 0] 94)) w.heap.size (partL x) ∧ Bld ((w.alloc (.cells #[.int .i64 x.kind, .int .i64 (x.at_ : Int), .int .i64 x.num, .string (txt x.name), .int .i64 x.ins.op, .int .i64 x.ins.d, .int .i64 x.ins.a, .int .i64 x.ins.b, .int .i64 x.ins.imm, .int .i64 x.target.kind, .int .i64 x.target.num, .int .i64 (x.target.at_ : Int), .string (txt x.target.text)] 69)).drew.alloc (.cells #[.int .i64 0, .int .i64 0] 94)) c m n f p vc vd := ⟨hS.1.alloc _, hS.2.alloc _⟩
  refine lin_call hS (by rfl) (fun K hK => ?_)
  go_simp
  refine hK.out _ _ hSa (fun _ => ?_)
  clear hK K
  try (simp only [Act.put, List.setIfInBounds_toArray, List.set_cons_zero, List.set_cons_succ])
  refine lin_call hSa (by rfl) (fun K hK => ?_)
  go_simp
  have hSb : Box (((w.alloc (.cells #[.int .i64 x.kind, .int .i64 (x.at_ : Int), .int .i64 x.num, .string (txt x.name), .int .i64 x.ins.op, .int .i64 x.ins.d, .int .i64 x.ins.a, .int .i64 x.ins.b, .int .i64 x.ins.imm, .int .i64 x.target.kind, .int .i64 x.target.num, .int .i64 (x.target.at_ : Int), .string (txt x.target.text)] 69)).alloc (.cells #[.int .i64 r1, .int .i64 r2] 94)).drew) w.heap.size (partL x) ∧ Bld (((w.alloc (.cells #[.int .i64 x.kind, .int .i64 (x.at_ : Int), .int .i64 x.num, .string (txt x.name), .int .i64 x.ins.op, .int .i64 x.ins.d, .int .i64 x.ins.a, .int .i64 x.ins.b, .int .i64 x.ins.imm, .int .i64 x.target.kind, .int .i64 x.target.num, .int .i64 (x.target.at_ : Int), .string (txt x.target.text)] 69)).alloc (.cells #[.int .i64 r1, .int .i64 r2] 94)).drew) c m n f p vc vd := ⟨(HXB.out.alloc _).drew, (HBL.out.alloc _).drew⟩
  have hlb : (((w.alloc (.cells #[.int .i64 x.kind, .int .i64 (x.at_ : Int), .int .i64 x.num, .string (txt x.name), .int .i64 x.ins.op, .int .i64 x.ins.d, .int .i64 x.ins.a, .int .i64 x.ins.b, .int .i64 x.ins.imm, .int .i64 x.target.kind, .int .i64 x.target.num, .int .i64 (x.target.at_ : Int), .string (txt x.target.text)] 69)).alloc (.cells #[.int .i64 r1, .int .i64 r2] 94)).drew).cell? ⟨w.heap.size + 1, 1, none⟩ = some (.int .i64 r2) := by
    have := (Box.new (w.alloc (.cells #[.int .i64 x.kind, .int .i64 (x.at_ : Int), .int .i64 x.num, .string (txt x.name), .int .i64 x.ins.op, .int .i64 x.ins.d, .int .i64 x.ins.a, .int .i64 x.ins.b, .int .i64 x.ins.imm, .int .i64 x.target.kind, .int .i64 x.target.num, .int .i64 (x.target.at_ : Int), .string (txt x.target.text)] 69)) [.int .i64 r1, .int .i64 r2] 94).cell (k := 1) rfl
    rw [show (w.alloc (.cells #[.int .i64 x.kind, .int .i64 (x.at_ : Int), .int .i64 x.num, .string (txt x.name), .int .i64 x.ins.op, .int .i64 x.ins.d, .int .i64 x.ins.a, .int .i64 x.ins.b, .int .i64 x.ins.imm, .int .i64 x.target.kind, .int .i64 x.target.num, .int .i64 (x.target.at_ : Int), .string (txt x.target.text)] 69)).heap.size = w.heap.size + 1 by simp] at this
    exact this
  have hbw : Below c w (((w.alloc (.cells #[.int .i64 x.kind, .int .i64 (x.at_ : Int), .int .i64 x.num, .string (txt x.name), .int .i64 x.ins.op, .int .i64 x.ins.d, .int .i64 x.ins.a, .int .i64 x.ins.b, .int .i64 x.ins.imm, .int .i64 x.target.kind, .int .i64 x.target.num, .int .i64 (x.target.at_ : Int), .string (txt x.target.text)] 69)).alloc (.cells #[.int .i64 r1, .int .i64 r2] 94)).drew) := (HBW.out.alloc (Nat.le_of_lt HBL.out.lt) _).drew
  have hxl : w.heap.size + 1 < (((w.alloc (.cells #[.int .i64 x.kind, .int .i64 (x.at_ : Int), .int .i64 x.num, .string (txt x.name), .int .i64 x.ins.op, .int .i64 x.ins.d, .int .i64 x.ins.a, .int .i64 x.ins.b, .int .i64 x.ins.imm, .int .i64 x.target.kind, .int .i64 x.target.num, .int .i64 (x.target.at_ : Int), .string (txt x.target.text)] 69)).alloc (.cells #[.int .i64 r1, .int .i64 r2] 94)).drew).heap.size := by show _ < ((w.alloc (.cells #[.int .i64 x.kind, .int .i64 (x.at_ : Int), .int .i64 x.num, .string (txt x.name), .int .i64 x.ins.op, .int .i64 x.ins.d, .int .i64 x.ins.a, .int .i64 x.ins.b, .int .i64 x.ins.imm, .int .i64 x.target.kind, .int .i64 x.target.num, .int .i64 (x.target.at_ : Int), .string (txt x.target.text)] 69)).alloc _).heap.size; simp
  refine hK.out _ _ hSb (fun _ => ?_)
  clear hK K hS hSa
  try (simp only [Act.put, List.setIfInBounds_toArray, List.set_cons_zero, List.set_cons_succ])
  (refine lin_take (v := ?_) hSb (by rfl) ?_ ?_; rotate_left; (intro y hy; go_simp; try (with_reducible rfl)); (simp only [Act.put, List.setIfInBounds_toArray, List.set_cons_zero, List.set_cons_succ]))
  refine lin_done ?_
  clear HXB HBL HBW
  have hpl := HPC.out
  obtain ⟨HXB, HBL⟩ : Hid (Box (((w.alloc (.cells #[.int .i64 x.kind, .int .i64 (x.at_ : Int), .int .i64 x.num, .string (txt x.name), .int .i64 x.ins.op, .int .i64 x.ins.d, .int .i64 x.ins.a, .int .i64 x.ins.b, .int .i64 x.ins.imm, .int .i64 x.target.kind, .int .i64 x.target.num, .int .i64 (x.target.at_ : Int), .string (txt x.target.text)] 69)).alloc (.cells #[.int .i64 r1, .int .i64 r2] 94)).drew) w.heap.size (partL x)) ∧ Hid (Bld (((w.alloc (.cells #[.int .i64 x.kind, .int .i64 (x.at_ : Int), .int .i64 x.num, .string (txt x.name), .int .i64 x.ins.op, .int .i64 x.ins.d, .int .i64 x.ins.a, .int .i64 x.ins.b, .int .i64 x.ins.imm, .int .i64 x.target.kind, .int .i64 x.target.num, .int .i64 (x.target.at_ : Int), .string (txt x.target.text)] 69)).alloc (.cells #[.int .i64 r1, .int .i64 r2] 94)).drew) c m n f p vc vd) := ⟨hSb.1, hSb.2⟩
  have HBW := Lib.hid hbw
  clear hSb hbw
  generalize (((w.alloc (.cells #[.int .i64 x.kind, .int .i64 (x.at_ : Int), .int .i64 x.num, .string (txt x.name), .int .i64 x.ins.op, .int .i64 x.ins.d, .int .i64 x.ins.a, .int .i64 x.ins.b, .int .i64 x.ins.imm, .int .i64 x.target.kind, .int .i64 x.target.num, .int .i64 (x.target.at_ : Int), .string (txt x.target.text)] 69)).alloc (.cells #[.int .i64 r1, .int .i64 r2] 94)).drew) = X at *
  subst hvc
  have z1 := HBL.out.1.cell (k := 1) rfl
  have hcX := HBL.out.lt
  go_wp2_with fail
  have hS : X.drew.cell? ⟨w.heap.size + 1, 1, none⟩ = some (.int .i64 r2) ∧ X.drew.cell? ⟨c, 1, none⟩ = some (.slice A0 p.code.length k0) := ⟨hlb, z1⟩
  clear hlb z1
  refine wp_region_lin [(0, true), (1, true), (2, true), (3, true), (4, true), (5, true), (6, true), (7, true), (8, true), (9, true), (10, true), (11, false)] (by kernel_rfl) (by kernel_rfl) rfl (by kernel_rfl) (fun y => y.cell? ⟨w.heap.size + 1, 1, none⟩ = some (.int .i64 r2) ∧ y.cell? ⟨c, 1, none⟩ = some (.slice A0 p.code.length k0)) ?_
  simp only [List.map_cons, List.map_nil, List.getElem?_toArray, List.getElem?_cons_succ, List.getElem?_cons_zero]
  iterate 11 (refine lin_take (v := ?_) hS (by rfl) ?_ ?_; rotate_left; (intro y hy; obtain ⟨e1, e2⟩ := hy; go_simp; try (with_reducible rfl)); (simp only [Act.put, List.setIfInBounds_toArray, List.set_cons_zero, List.set_cons_succ]))
  have hw : IntKind.i64.wrap (r2 - (p.code.length : Int)) = K0 := by have := HK0.out; rw [this]; exact IntWalk.i64_in _ ⟨by omega, by omega⟩
  rw [hw]
  have y8 : X.drew.cell? ⟨w.heap.size, 8, none⟩ = some (.int .i64 x.ins.imm) := HXB.out.cell (k := 8) rfl
  have f8 : X.drew.frozen? ⟨w.heap.size, 8, none⟩ = false := HXB.out.frozen 8
  have hSc : (X.drew.setCell ⟨w.heap.size, 8, none⟩ (.int .i64 K0)).cell? ⟨w.heap.size + 1, 1, none⟩ = some (.int .i64 r2) ∧ (X.drew.setCell ⟨w.heap.size, 8, none⟩ (.int .i64 K0)).cell? ⟨c, 1, none⟩ = some (.slice A0 p.code.length k0) :=
    ⟨(World.cell?_setCell_other _ _ _ _ (fun e => by have := congrArg Addr.block e; simp at this)).trans hS.1, (World.cell?_setCell_other _ _ _ _ (fun e => hcx (congrArg Addr.block e).symm)).trans hS.2⟩
  refine lin_call hS (by rfl) (fun K hK => ?_)
  go_simp
  refine hK.out _ _ hSc (fun _ => ?_)
  clear hK K hS hSc y8 f8
  try (simp only [Act.put, List.setIfInBounds_toArray, List.set_cons_zero, List.set_cons_succ])
  refine lin_done ?_
  obtain ⟨HXC, HBC, HWC⟩ : Hid (Box ((X.setCell ⟨w.heap.size, 8, none⟩ (.int .i64 K0)).drew) w.heap.size (partL { x with ins := { x.ins with imm := K0 } })) ∧ Hid (Bld ((X.setCell ⟨w.heap.size, 8, none⟩ (.int .i64 K0)).drew) c m n f p (.slice A0 p.code.length k0) vd) ∧ Hid (Below c w ((X.setCell ⟨w.heap.size, 8, none⟩ (.int .i64 K0)).drew)) :=
    ⟨(HXB.out.setCell 8 _).drew, (HBL.out.set hlt HN1.out HN2.out 8 _).drew, (HBW.out.setCell (p := ⟨w.heap.size, 8, none⟩) (Nat.le_of_lt hlt) _).drew⟩
  clear HXB HBL HBW
  have HXB := HXC
  have HBL := HBC
  have HBW := HWC
  clear HXC HBC HWC hw
  generalize (X.setCell ⟨w.heap.size, 8, none⟩ (.int .i64 K0)).drew = Y at *
  have y4 : Y.cell? ⟨w.heap.size, 4, none⟩ = some (.int .i64 x.ins.op) := HXB.out.cell (k := 4) rfl
  have y5 : Y.cell? ⟨w.heap.size, 5, none⟩ = some (.int .i64 x.ins.d) := HXB.out.cell (k := 5) rfl
  have y6 : Y.cell? ⟨w.heap.size, 6, none⟩ = some (.int .i64 x.ins.a) := HXB.out.cell (k := 6) rfl
  have y7 : Y.cell? ⟨w.heap.size, 7, none⟩ = some (.int .i64 x.ins.b) := HXB.out.cell (k := 7) rfl
  have y8 : Y.cell? ⟨w.heap.size, 8, none⟩ = some (.int .i64 K0) := HXB.out.cell (k := 8) rfl
  have HHR := Lib.hid hright
  clear hright
  go_wp2_with fail
  have hright := HHR.out
  clear y4 y5 y6 y7 y8
  refine (right_any ({ x.ins with imm := K0 } : Ins) _).mono ?_; rintro en w2 ⟨rfl, hb2⟩
  rw [hright]
  have HB2 := Lib.hid (HBW.out.trans (hb2.mono (Nat.le_of_lt HBL.out.lt)))
  have HX2 : Hid (Box w2 w.heap.size (partL { x with ins := { x.ins with imm := K0 } })) := HXB.out.below hb2 HXB.out.lt
  have HL2 := Lib.hid (HBL.out.go hb2)
  have y1 := HX2.out.cell (k := 1) rfl
  try simp only at y1
  clear hb2 hright
  clear y1
  have hl2 := HL2.out.lt
  go_wp2_with fail
  have HX3 : Hid (Box w2.drew w.heap.size (partL { x with ins := { x.ins with imm := K0 } })) := HX2.out.drew
  have HL3 : Hid (Bld w2.drew c m n f p (Value.slice A0 p.code.length k0) vd) := HL2.out.drew
  clear hl2
  refine wp_region_tree (fun a x => _) (LinT.of [(0, true), (1, true), (2, true), (3, true), (4, true), (6, true), (7, true)] (.two 5 8 (LinT.of [(8, false), (9, false), (10, true), (11, true), (12, true), (13, false)] .nil) (LinT.of [(5, false), (9, false), (10, true), (11, true), (12, true), (13, false)] .nil))) (by kernel_rfl) (by kernel_rfl) rfl (by kernel_rfl) (fun y => Box y w.heap.size (partL { x with ins := { x.ins with imm := K0 } })) (fun _ _ h => h) ?_
  simp only [LinT.of, LinT.look, List.getElem?_toArray, List.getElem?_cons_succ, List.getElem?_cons_zero]
  have hS0 : Box w2.drew w.heap.size (partL { x with ins := { x.ins with imm := K0 } }) := HX3.out
  iterate 6 (refine tree_take (v := ?_) hS0 (by rfl) ?_ ?_; rotate_left; (intro x hx; go_simp; try (with_reducible rfl)); (simp only [Act.put, List.setIfInBounds_toArray, List.set_cons_zero, List.set_cons_succ]))
  refine tree_get_box hS0 (by rfl) 38 (.tmp 51) rfl w.heap.size 4 rfl (partL { x with ins := { x.ins with imm := K0 } }) [.int .i64 x.ins.op, .int .i64 x.ins.d, .int .i64 x.ins.a, .int .i64 x.ins.b, .int .i64 K0] (fun y hy => hy) (by intro j v hj; rcases j with _ | _ | _ | _ | _ | j <;> first | exact hj | (simp at hj)) _ Tryd.underlying38 rfl 5 size_ins8 rfl ?_
  try (simp only [Act.put, List.setIfInBounds_toArray, List.set_cons_zero, List.set_cons_succ])
  obtain ⟨i0, hi, hz0, hz1, hz2⟩ := info_parts info_ins8
  have HI := Lib.hid hi
  have HZ0 := Lib.hid hz0
  have HZ1 := Lib.hid hz1
  have HZ2 := Lib.hid hz2
  clear hi hz0 hz1 hz2
  have c1 : w2.cell? ⟨c, 1, none⟩ = some (Value.slice A0 p.code.length k0) := HL3.out.1.cell (k := 1) rfl
  have hcl : c < w2.heap.size := HL3.out.lt
  have hpcc := HPC.out
  have HEND : Hid (∀ (o : Obj) (y3 : World) (v3 : Value), (w2.drew.alloc o).grownBy y3 (Value.slice A0 p.code.length k0).ownBlock → y3.ownsRow (c + 1) 38 5 v3 (p.code.length + 1) (codeCells p.code ++ [.int .i64 x.ins.op, .int .i64 x.ins.d, .int .i64 x.ins.a, .int .i64 x.ins.b, .int .i64 K0]) →
      (Bld (y3.setCell ⟨c, 1, none⟩ v3) c m n f { p with code := p.code ++ [({ x.ins with imm := K0 } : Ins)] } v3 vd ∧ Below c w (y3.setCell ⟨c, 1, none⟩ v3)) ∧ Box y3 w.heap.size (partL { x with ins := { x.ins with imm := K0 } }) ∧ y3.cell? ⟨c, 1, none⟩ = some (Value.slice A0 p.code.length k0) ∧ y3.frozen? ⟨c, 1, none⟩ = false ∧ c < y3.heap.size ∧ ∃ A3 k3, v3 = .slice A3 (p.code.length + 1) k3) := by
    intro o y3 v3 hg ho
    have hne : some c ≠ (Value.slice A0 p.code.length k0).ownBlock := fun e => by have := (HL3.out.2.2.1.lt c e.symm).1; omega
    obtain ⟨q1, q2⟩ := HL3.out.code (i := ({ x.ins with imm := K0 } : Ins)) hg ho rfl
    obtain ⟨A3, k3, h3⟩ := (Row.of_own ho).form
    have hb2 := HL3.out.1.alloc o
    refine ⟨⟨q1, HB2.out.trans ((Below.refl c w2).drew.trans q2)⟩, (HX3.out.alloc o).grown hg (fun e => HN1.out e.symm), hg.cell (hb2.cell (k := 1) rfl) hne, ?_, ?_, A3, k3, h3⟩
    · rw [World.frozen?_of_block (w := w2.drew.alloc o) (hg.block c hb2.lt hne)]; exact hb2.frozen 1
    · have := hg.size; have := hb2.lt; omega
  refine tree_two hS0 (by rfl) (by rfl) (fun K hK => ?_) (fun K hK => ?_)
  · go_simp
    refine hK.out _ _ hS0 (fun _ => ?_)
    clear hK K
    try (simp only [Act.put, List.setIfInBounds_toArray, List.set_cons_zero, List.set_cons_succ])
    refine tree_call hS0 (by rfl) (fun K hK => ?_)
    go_simp
    have hSa : Box (w2.drew.alloc (.cells #[.int .i64 x.ins.op, .int .i64 x.ins.d, .int .i64 x.ins.a, .int .i64 x.ins.b, .int .i64 K0] 38)) w.heap.size (partL { x with ins := { x.ins with imm := K0 } }) := hS0.alloc _
    refine hK.out _ _ hSa (fun _ => ?_)
    clear hK K
    try (simp only [Act.put, List.setIfInBounds_toArray, List.set_cons_zero, List.set_cons_succ])
    refine tree_call hSa (by rfl) (fun K hK => ?_)
    refine wp_append_row _ (.tmp 50) (.tmp 53) 23 rfl (c + 1) 38 i0 _ 5 40 Tryd.underlying23 HI.out HZ0.out HZ1.out HZ2.out rfl (by omega) _ p.code.length (codeCells p.code) rfl (HL3.out.2.2.1.alloc _) _ (.slice (some ⟨w2.heap.size, 0, none⟩) 1 1) 1 [.int .i64 x.ins.op, .int .i64 x.ins.d, .int .i64 x.ins.a, .int .i64 x.ins.b, .int .i64 K0] rfl (row_list w2.drew [.int .i64 x.ins.op, .int .i64 x.ins.d, .int .i64 x.ins.a, .int .i64 x.ins.b, .int .i64 K0] _) (by simp [Value.oneCell']) (by unfold maxLen; omega) (by omega) (by simp; omega) ?_
    intro v3 y3 hO3 hg3
    obtain ⟨PA, hS3, q3, q4, hy3, A3, k3, rfl⟩ := HEND.out _ _ _ hg3 hO3
    have HPA := Lib.hid PA
    clear hO3 hg3 PA
    refine hK.out _ _ hS3 (fun _ => ?_)
    clear hK K
    try (simp only [Act.put, List.setIfInBounds_toArray, List.set_cons_zero, List.set_cons_succ])
    iterate 3 (refine tree_take (v := ?_) hS3 (by rfl) ?_ ?_; rotate_left; (intro x hx; go_simp; try (with_reducible rfl)); (simp only [Act.put, List.setIfInBounds_toArray, List.set_cons_zero, List.set_cons_succ]))
    refine tree_call hS3 (by rfl) (fun K hK => ?_)
    go_simp
    refine hK.out _ _ (hS3.setCell_other hcx.symm 1 _) (fun _ => ?_)
    clear hK K
    refine tree_done ?_
    try (simp only [Act.put, List.setIfInBounds_toArray, List.set_cons_zero, List.set_cons_succ])
    go_wp2_with fail
    exact bodyPost_ret (v := .tuple #[.int .i64 0, .int .i64 0]) (by simp [results, Tryd.results47, go_sem]) rfl (LayOut.ok HZ.out rfl HPA.out.1 HPA.out.2)
  · go_simp
    have hSa : Box (w2.drew.alloc (.cells #[.int .i64 x.ins.op, .int .i64 x.ins.d, .int .i64 x.ins.a, .int .i64 x.ins.b, .int .i64 K0] 38)) w.heap.size (partL { x with ins := { x.ins with imm := K0 } }) := hS0.alloc _
    have c1a : (w2.drew.alloc (.cells #[.int .i64 x.ins.op, .int .i64 x.ins.d, .int .i64 x.ins.a, .int .i64 x.ins.b, .int .i64 K0] 38)).cell? ⟨c, 1, none⟩ = some (Value.slice A0 p.code.length k0) := (World.cell?_alloc_lt _ _ _ hcl).trans c1
    have c1b : (w2.alloc (.cells #[.int .i64 x.ins.op, .int .i64 x.ins.d, .int .i64 x.ins.a, .int .i64 x.ins.b, .int .i64 K0] 38)).cell? ⟨c, 1, none⟩ = some (Value.slice A0 p.code.length k0) := c1a
    refine hK.out _ _ hSa (fun _ => ?_)
    clear hK K
    try (simp only [Act.put, List.setIfInBounds_toArray, List.set_cons_zero, List.set_cons_succ])
    refine tree_call hSa (by rfl) (fun K hK => ?_)
    go_simp
    refine hK.out _ _ hSa (fun _ => ?_)
    clear hK K
    try (simp only [Act.put, List.setIfInBounds_toArray, List.set_cons_zero, List.set_cons_succ])
    refine tree_call hSa (by rfl) (fun K hK => ?_)
    refine wp_append_row _ (.tmp 50) (.tmp 53) 23 rfl (c + 1) 38 i0 _ 5 40 Tryd.underlying23 HI.out HZ0.out HZ1.out HZ2.out rfl (by omega) _ p.code.length (codeCells p.code) rfl (HL3.out.2.2.1.alloc _) _ (.slice (some ⟨w2.heap.size, 0, none⟩) 1 1) 1 [.int .i64 x.ins.op, .int .i64 x.ins.d, .int .i64 x.ins.a, .int .i64 x.ins.b, .int .i64 K0] rfl (row_list w2.drew [.int .i64 x.ins.op, .int .i64 x.ins.d, .int .i64 x.ins.a, .int .i64 x.ins.b, .int .i64 K0] _) (by simp [Value.oneCell']) (by unfold maxLen; omega) (by omega) (by simp; omega) ?_
    intro v3 y3 hO3 hg3
    obtain ⟨PA, hS3, q3, q4, hy3, A3, k3, rfl⟩ := HEND.out _ _ _ hg3 hO3
    have HPA := Lib.hid PA
    clear hO3 hg3 PA
    refine hK.out _ _ hS3 (fun _ => ?_)
    clear hK K
    try (simp only [Act.put, List.setIfInBounds_toArray, List.set_cons_zero, List.set_cons_succ])
    iterate 3 (refine tree_take (v := ?_) hS3 (by rfl) ?_ ?_; rotate_left; (intro x hx; go_simp; try (with_reducible rfl)); (simp only [Act.put, List.setIfInBounds_toArray, List.set_cons_zero, List.set_cons_succ]))
    refine tree_call hS3 (by rfl) (fun K hK => ?_)
    go_simp
    refine hK.out _ _ (hS3.setCell_other hcx.symm 1 _) (fun _ => ?_)
    clear hK K
    refine tree_done ?_
    try (simp only [Act.put, List.setIfInBounds_toArray, List.set_cons_zero, List.set_cons_succ])
    go_wp2_with fail
    exact bodyPost_ret (v := .tuple #[.int .i64 0, .int .i64 0]) (by simp [results, Tryd.results47, go_sem]) rfl (LayOut.ok HZ.out rfl HPA.out.1 HPA.out.2)
end Go.Proofs.YtfdegdbknponkaaDoor.Words

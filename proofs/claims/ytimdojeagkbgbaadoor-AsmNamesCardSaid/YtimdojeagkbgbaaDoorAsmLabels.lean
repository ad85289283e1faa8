/- Contract of package asm's labelsOf. -/
import Derived.Test.YtimdojeagkbgbaaDoorAsmMap
import Derived.LoopTactic
namespace Go.Proofs.YtimdojeagkbgbaaDoor.Words
set_option maxRecDepth 100000
open Go.RowKit Go.Shelf Go.Lib
set_option linter.unusedVariables false
set_option linter.unusedSimpArgs false

theorem Row.part {w : World} {B n c : Nat} {b off : Nat} {l : List PartZ} (h : Row w B 13 (.slice (some ⟨b, off, none⟩) n c) n (partsL l)) {k : Nat} {i : PartZ} (hi : l[k]? = some i) :
    w.rangeAt b (off + k * 13) (partL i) := by
  intro j u hu
  have hj : j < 13 := (List.getElem?_eq_some_iff.1 hu).1
  have := h.cells ⟨b, off, none⟩ rfl (k * 13 + j) u ((partsL_at l k i hi j hj).trans hu)
  rwa [add_spot, ← Nat.add_assoc] at this
theorem range_cells {w : World} {b o : Nat} {x : PartZ} (h : w.rangeAt b o (partL x)) :
    w.cell? ⟨b, o, none⟩ = some (.int .i64 x.kind) ∧ w.cell? ⟨b, o + 1, none⟩ = some (.int .i64 (x.at_ : Int)) ∧ w.cell? ⟨b, o + 2, none⟩ = some (.int .i64 x.num) ∧ w.cell? ⟨b, o + 3, none⟩ = some (.string (txt x.name)) ∧
    w.cell? ⟨b, o + 4, none⟩ = some (.int .i64 x.ins.op) ∧ w.cell? ⟨b, o + 5, none⟩ = some (.int .i64 x.ins.d) ∧ w.cell? ⟨b, o + 6, none⟩ = some (.int .i64 x.ins.a) ∧ w.cell? ⟨b, o + 7, none⟩ = some (.int .i64 x.ins.b) ∧ w.cell? ⟨b, o + 8, none⟩ = some (.int .i64 x.ins.imm) ∧
    w.cell? ⟨b, o + 9, none⟩ = some (.int .i64 x.target.kind) ∧ w.cell? ⟨b, o + 10, none⟩ = some (.int .i64 x.target.num) ∧ w.cell? ⟨b, o + 11, none⟩ = some (.int .i64 (x.target.at_ : Int)) ∧ w.cell? ⟨b, o + 12, none⟩ = some (.string (txt x.target.text)) :=
  ⟨h 0 _ rfl, h 1 _ rfl, h 2 _ rfl, h 3 _ rfl, h 4 _ rfl, h 5 _ rfl, h 6 _ rfl, h 7 _ rfl, h 8 _ rfl, h 9 _ rfl, h 10 _ rfl, h 11 _ rfl, h 12 _ rfl⟩
theorem take_snoc {α : Type} {l : List α} {k : Nat} {x : α} (h : l[k]? = some x) : l.take (k + 1) = l.take k ++ [x] := by
  rw [List.take_add_one, h]
  rfl
theorem firstL_snoc (t : List UInt8) (l : List PartZ) (x : PartZ) : firstL t (l ++ [x]) 0 = match firstL t l 0 with | some r => some r | none => if x.kind = 1 ∧ x.name = t then some ((x.at_ : Int), (nIns l : Int)) else none := by
  rw [firstL_append]
  cases firstL t l 0 with
  | some r => rfl
  | none =>
    show firstL t [x] _ = _
    rw [firstL_cons]
    by_cases h : x.kind = 1 ∧ x.name = t
    · rw [if_pos h]; simp [h]
    · rw [if_neg h]; simp only [h, if_false]; rfl
theorem firstL_other {t : List UInt8} {l : List PartZ} {x : PartZ} (h : x.kind ≠ 1 ∨ x.name ≠ t ∨ (firstL t l 0).isSome = true) : firstL t (l ++ [x]) 0 = firstL t l 0 := by
  rw [firstL_snoc]
  cases hf : firstL t l 0 with
  | some r => rfl
  | none =>
    rw [hf] at h
    show (if x.kind = 1 ∧ x.name = t then _ else _) = _
    rw [if_neg]
    rintro ⟨h1, h2⟩
    rcases h with h | h | h
    · exact h h1
    · exact h h2
    · cases h

set_option maxHeartbeats 4000000 in
theorem labelsOf_any (vp : Value) (ps : List PartZ) (w : World) (hr : Row w w.heap.size 13 vp ps.length (partsL ps)) (hn : ∀ x ∈ ps, x.name.length ≤ 1000000) (hps : ps.length ≤ 1000000) :
    Calls Tryd.prog 36 #[vp] w fun e w' => e = .returned (.map (some w.heap.size)) ∧ LabM w' w.heap.size ps.length (fun t => firstL t ps 0) ∧ Below w.heap.size w w' := by
  obtain ⟨A, c, rfl⟩ := hr.form
  have HR := Lib.hid hr
  have HN := Lib.hid hn
  have HPS := Lib.hid hps
  obtain ⟨N, hN⟩ : ∃ N, N = ps.length := ⟨_, rfl⟩
  have HNN := Lib.hid hN
  rw [← hN]
  have n0 : (N : Int) ≤ 1000000 := by omega
  have hmm := @run_makeMap Tryd.prog
  have LM0 := Lib.hid (labM_made w)
  clear hr hn hps hN
  go_enter Tryd.func36, Tryd.ntmps36
  go_wp2_with fail
  go_loopw [4, 12] (fun q i wr => ∃ k : Nat, k ≤ N ∧ i = .int .i64 k ∧ q = .int .i64 (nIns (ps.take k) : Int) ∧ LabM wr w.heap.size k (fun t => firstL t (ps.take k) 0) ∧ Below w.heap.size w wr) (fun _ i _ => N - (intOf i).toNat)
  case atStart => exact ⟨0, Nat.zero_le _, rfl, rfl, LM0.out, (Below.refl _ _).alloc (Nat.le_refl _) _⟩
  case round =>
    obtain ⟨k, hk, rfl, rfl, hM, hB⟩ := hrel
    have HM := Lib.hid hM
    have HB := Lib.hid hB
    have HK := Lib.hid hk
    have hmlt := hM.lt
    by_cases hlt : k < N
    · obtain ⟨x, hx⟩ : ∃ x, ps[k]? = some x := ⟨_, List.getElem?_eq_getElem (by have := HNN.out; omega)⟩
      obtain ⟨g, off, rfl, hg, _⟩ := HR.out.at_ (by have := HNN.out; omega)
      have hcells := range_cells ((HR.out.below hB).part hx)
      obtain ⟨c0, c1, c2, c3, c4, c5, c6, c7, c8, c9, c10, c11, c12⟩ := hcells
      have hxm : x ∈ ps := List.mem_iff_getElem?.2 ⟨k, hx⟩
      have hxn := HN.out x hxm
      have HTK := Lib.hid (take_snoc hx)
      have HIN := Lib.hid (nIns_append (ps.take k) [x])
      have hgr : g < wr.heap.size := Nat.lt_of_lt_of_le hg hB.size
      have kq : decide ((k : Int) < N) = true := decide_eq_true (by omega)
      have kq2 : decide (k < N) = true := decide_eq_true hlt
      have k0 : (0 : Int) ≤ k := by omega
      have k1 : (k : Int) < N := by omega
      have hnk : (nIns (ps.take k) : Int) ≤ 1000000 := by have := nIns_le (ps.take k); have := List.length_take_le k ps; omega
      have hnk0 : (0 : Int) ≤ nIns (ps.take k) := by omega
      obtain ⟨D, hown, hD⟩ := HM.out
      have HOWN := Lib.hid hown
      have HD := Lib.hid hD
      have hisM := hown.isMap
      have LK := fun y (hy : LabM y w.heap.size k (fun t => firstL t (ps.take k) 0)) => hy.look_ok hxn
      have HLK := Lib.hid LK
      have HMA := Lib.hid (fun o => hM.go ((Below.refl _ wr).alloc (Nat.le_refl _) o))
      clear LK hxm hxn hM hk hown hD hB
      by_cases h2 : x.kind = 2
      · have q1 : (x.kind == 2) = true := by simpa using h2
        have HNX : Hid (nIns (ps.take (k + 1)) = nIns (ps.take k) + 1) := by show _ = _; rw [HTK.out, HIN.out]; simp [nIns, h2]
        have HFX : Hid (∀ t, firstL t (ps.take k) 0 = firstL t (ps.take (k + 1)) 0) := by intro t; rw [HTK.out]; exact (firstL_other (.inl (by omega))).symm
        clear h2 hisM
        generalize nIns (ps.take k) = nk at *
        go_wp2_with fail
        go_roundw
        case rel => exact ⟨k + 1, by omega, rfl, by rw [HNX.out]; rfl, by
            obtain ⟨D2, hown2, hD2⟩ := (HMA.out _).ext HFX.out
            exact ⟨D2, hown2.mono (Nat.le_succ _), hD2⟩, HB.out.alloc HB.out.size _⟩
        case measure => simp only [intOf]; omega
      by_cases h1 : x.kind = 1
      · have q1 : (x.kind == 2) = false := by simpa using h2
        have q2 : (x.kind == 1) = true := by simpa using h1
        have HNX : Hid (nIns (ps.take (k + 1)) = nIns (ps.take k)) := by show _ = _; rw [HTK.out, HIN.out]; simp [nIns, h2]
        cases hf : firstL x.name (ps.take k) 0 with
        | some r =>
          have HFX : Hid (∀ t, firstL t (ps.take k) 0 = firstL t (ps.take (k + 1)) 0) := by
            intro t
            rw [HTK.out]
            by_cases ht : x.name = t
            · exact (firstL_other (.inr (.inr (by rw [← ht, hf]; rfl)))).symm
            · exact (firstL_other (.inr (.inl ht))).symm
          have lk := HLK.out (wr.alloc (.cells #[.int .i64 x.kind, .int .i64 (x.at_ : Int), .int .i64 x.num, .string (txt x.name), .int .i64 x.ins.op, .int .i64 x.ins.d, .int .i64 x.ins.a, .int .i64 x.ins.b, .int .i64 x.ins.imm, .int .i64 x.target.kind, .int .i64 x.target.num, .int .i64 (x.target.at_ : Int), .string (txt x.target.text)] 77)) (HMA.out _)
          rw [hf] at lk
          simp only [Option.getD_some, Option.isSome_some] at lk
          clear h1 h2 hisM hf
          generalize nIns (ps.take k) = nk at *
          go_wp2_with fail
          go_roundw
          case rel => exact ⟨k + 1, by omega, rfl, by rw [HNX.out], by
              obtain ⟨D2, hown2, hD2⟩ := ((HMA.out _).go ((Below.refl _ _).alloc (Nat.le_refl _) _)).ext HFX.out
              exact ⟨D2, hown2.mono (Nat.le_succ _), hD2⟩, (HB.out.alloc HB.out.size _).alloc (by have := HB.out.size; simp; omega) _⟩
          case measure => simp only [intOf]; omega
        | none =>
          have lk := HLK.out (wr.alloc (.cells #[.int .i64 x.kind, .int .i64 (x.at_ : Int), .int .i64 x.num, .string (txt x.name), .int .i64 x.ins.op, .int .i64 x.ins.d, .int .i64 x.ins.a, .int .i64 x.ins.b, .int .i64 x.ins.imm, .int .i64 x.target.kind, .int .i64 x.target.num, .int .i64 (x.target.at_ : Int), .string (txt x.target.text)] 77)) (HMA.out _)
          rw [hf] at lk
          simp only [Option.getD_none, Option.isSome_none] at lk
          have HF1 : Hid (firstL x.name (ps.take (k + 1)) 0 = some ((x.at_ : Int), (nIns (ps.take k) : Int))) := by
            show _ = _
            rw [HTK.out, firstL_snoc, hf]
            simp [h1]
          have HF2 : Hid (∀ u, u ≠ x.name → firstL u (ps.take (k + 1)) 0 = firstL u (ps.take k) 0) := by
            intro u hu
            rw [HTK.out]
            exact firstL_other (.inr (.inl (fun e => hu e.symm)))
          have HKEY := Lib.hid (keyT (t := x.name) (HN.out x (List.mem_iff_getElem?.2 ⟨k, hx⟩)))
          have HIM := Lib.hid hisM
          clear h1 h2 hisM hf
          generalize nIns (ps.take k) = nk at *
          go_wp2_with (at_mapUpdate; refine wpList_mapUpdate_own _ rfl _ _ _ 72 rfl 9 100 keyS Tryd.underlying72 labR w.heap.size k D rfl ((HOWN.out.alloc _).alloc _) (by unfold maxLen; omega) _ _ (.string x.name) rfl rfl HKEY.out (labD (x.at_ : Int) (nk : Int)) [] (labR_mk _ _) ?_; intro w1 hown1 hgrow1)
          go_roundw
          case rel => exact ⟨k + 1, by omega, rfl, by rw [HNX.out], labM_put HD.out HIM.out HF1.out HF2.out hown1, ((HB.out.alloc HB.out.size _).alloc (by have := HB.out.size; simp; omega) _).grown hgrow1 (by have := HB.out.size; simp; omega) (fun j hj => by injection hj with hj; omega)⟩
          case measure => simp only [intOf]; omega
      · have q1 : (x.kind == 2) = false := by simpa using h2
        have q2 : (x.kind == 1) = false := by simpa using h1
        have HNX : Hid (nIns (ps.take (k + 1)) = nIns (ps.take k)) := by show _ = _; rw [HTK.out, HIN.out]; simp [nIns, h2]
        have HFX : Hid (∀ t, firstL t (ps.take k) 0 = firstL t (ps.take (k + 1)) 0) := by intro t; rw [HTK.out]; exact (firstL_other (.inl h1)).symm
        clear h1 h2 hisM
        generalize nIns (ps.take k) = nk at *
        go_wp2_with fail
        go_roundw
        case rel => exact ⟨k + 1, by omega, rfl, by rw [HNX.out], by
            obtain ⟨D2, hown2, hD2⟩ := (HMA.out _).ext HFX.out
            exact ⟨D2, hown2.mono (Nat.le_succ _), hD2⟩, HB.out.alloc HB.out.size _⟩
        case measure => simp only [intOf]; omega
    · have hkN : k = N := by omega
      have kq : decide ((k : Int) < N) = false := decide_eq_false (by omega)
      have kq2 : decide (k < N) = false := decide_eq_false hlt
      have HE : Hid (ps.take k = ps) := List.take_of_length_le (by have := HNN.out; omega)
      clear hM hk hB
      go_wp2_with fail
      go_ret
      refine ⟨rfl, ?_, HB.out⟩
      have := HM.out
      rw [HE.out, hkN] at this
      exact this
end Go.Proofs.YtimdojeagkbgbaaDoor.Words

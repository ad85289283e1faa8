/- Contracts of package asm's Names, and of the document's own. -/
import Derived.Test.YtimdojeagkbgbaaDoorAsmBld
import Derived.LoopTactic
namespace Go.Proofs.YtimdojeagkbgbaaDoor.Words
set_option maxRecDepth 100000
open Go.RowKit Go.Shelf Go.Lib
set_option linter.unusedVariables false
set_option linter.unusedSimpArgs false

/-- All names, a blank behind each. -/
def allN : List UInt8 := namesZ.flatMap (fun t => t ++ [32])
theorem allN_len : allN.length = 169 := by decide +kernel
theorem allN_low : ∀ c ∈ allN, c.toNat < 128 := by decide +kernel
/-- The names that end ahead of a place, and where the next one begins. -/
def atN : Nat → List (List UInt8) × Nat
  | 0 => ([], 0)
  | k + 1 => if allN[k]? = some 32 then ((atN k).1 ++ [(allN.drop (atN k).2).take (k - (atN k).2)], k + 1) else atN k
theorem atN_le : ∀ k, (atN k).2 ≤ k ∧ (atN k).1.length ≤ k
  | 0 => ⟨Nat.le_refl _, Nat.le_refl _⟩
  | k + 1 => by
    have := atN_le k
    unfold atN
    split
    · simp; omega
    · omega
theorem atN_end : (atN 169).1 = namesZ := by decide +kernel
theorem info_str : (Tryd.prog.info? 9).map (fun i => (i.zero, i.size, i.bytes)) = some (some (.string ⟨#[]⟩), 1, 16) := by kernel_rfl

theorem lit_eq : (⟨#[97, 100, 100, 32, 115, 117, 98, 32, 97, 110, 100, 32, 111, 114, 32, 120, 111, 114, 32, 115, 108, 108, 32, 115, 114, 108, 32, 115, 114, 97, 32, 115, 108, 116, 32, 115, 108, 116, 117, 32, 109, 117, 108, 32, 109, 117, 108, 104, 32, 100, 105, 118, 32, 100, 105, 118, 117, 32, 114, 101, 109, 32, 114, 101, 109, 117, 32, 97, 100, 100, 105, 32, 97, 110, 100, 105, 32, 111, 114, 105, 32, 120, 111, 114, 105, 32, 115, 108, 116, 105, 32, 115, 108, 108, 105, 32, 115, 114, 108, 105, 32, 115, 114, 97, 105, 32, 108, 117, 105, 32, 108, 119, 32, 108, 104, 32, 108, 104, 117, 32, 108, 98, 32, 108, 98, 117, 32, 115, 119, 32, 115, 104, 32, 115, 98, 32, 98, 101, 113, 32, 98, 110, 101, 32, 98, 108, 116, 32, 98, 103, 101, 32, 98, 108, 116, 117, 32, 98, 103, 101, 117, 32, 106, 32, 104, 97, 108, 116, 32]⟩ : ByteArray) = txt allN := by decide +kernel
set_option maxHeartbeats 4000000 in
theorem names_any (w : World) : Calls Tryd.prog 22 #[] w fun e w' => ∃ v, e = .returned v ∧ w'.ownsRow w.heap.size 9 1 v 41 namesL ∧ Below w.heap.size w w' := by
  obtain ⟨i0, hi, hz0, hz1, hz2⟩ := info_parts info_str
  have HI := Lib.hid hi
  have HZ0 := Lib.hid hz0
  have HZ1 := Lib.hid hz1
  have HZ2 := Lib.hid hz2
  clear hi hz0 hz1 hz2
  go_enter Tryd.func22, Tryd.ntmps22
  go_wp2_with fail
  go_loopw [1, 2] (fun v bg wr => ∃ k : Nat, k ≤ 169 ∧ bg = .int .i64 ((atN k).2 : Int) ∧ wr.heap[w.heap.size]? = some (.stringIter (txt allN) k) ∧ wr.ownsRow (w.heap.size + 1) 9 1 v (atN k).1.length ((atN k).1.map (fun t => Value.string (txt t))) ∧ Below w.heap.size w wr) (fun _ _ wr => 169 - wr.iterPos w.heap.size)
  case atStart =>
    refine ⟨0, Nat.zero_le _, rfl, ?_, World.ownsRow_nil _ _ _ _, (Below.refl _ w).alloc (Nat.le_refl _) _⟩
    rw [← lit_eq]
    exact World.iter_heap w _ 0
  case round =>
    obtain ⟨k, hk, rfl, hit, hown, hB⟩ := hrel
    have HIT := Lib.hid hit
    have HO := Lib.hid hown
    have HB := Lib.hid hB
    have HK := Lib.hid hk
    obtain ⟨A, cc, rfl⟩ := (Row.of_own hown).form
    have hsz : w.heap.size < wr.heap.size := (Array.getElem?_eq_some_iff.1 hit).1
    have hal := allN_len
    have hts : (txt allN).size = 169 := by rw [txt_sz, allN_len]
    obtain ⟨b0, b1⟩ := atN_le k
    by_cases hlt : k < 169
    · obtain ⟨c, hc⟩ : ∃ c, allN[k]? = some c := ⟨_, List.getElem?_eq_getElem (by omega)⟩
      have hc128 := allN_low c (List.mem_iff_getElem?.2 ⟨k, hc⟩)
      have hnx := fun ty => next_rune (P := Tryd.prog) hit (show k < (txt allN).size by omega) ty
      obtain ⟨q1, q2⟩ := ascii_at hc hc128
      rw [txt_data, q1, q2] at hnx
      have hit2 := Lib.hid (Lib.iterAt_heap wr w.heap.size (txt allN) k (k + 1) hit)
      have HB2 := Lib.hid (Lib.below_iterAt hB (k := w.heap.size) (Nat.le_refl _) (txt allN) (k + 1))
      have hsz2 : (wr.iterAt w.heap.size (txt allN) (k + 1)).heap.size = wr.heap.size := Lib.iterAt_size _ _ _ _
      have HSZ2 := Lib.hid hsz2
      have HO2 : Hid ((wr.iterAt w.heap.size (txt allN) (k + 1)).ownsRow (w.heap.size + 1) 9 1 (.slice A (atN k).1.length cc) (atN k).1.length ((atN k).1.map (fun t => Value.string (txt t)))) :=
        own_grown hown (iterAt_grown _ _ _ _) (fun g hg e => by have := (hown.lt g hg).1; injection e with e; omega)
      have HST : Hid (atN (k + 1) = if allN[k]? = some 32 then ((atN k).1 ++ [(allN.drop (atN k).2).take (k - (atN k).2)], k + 1) else atN k) := rfl
      rw [hc] at HST
      by_cases h32 : c = 32
      · subst h32
        have HS2 : Hid (atN (k + 1) = ((atN k).1 ++ [(allN.drop (atN k).2).take (k - (atN k).2)], k + 1)) := by show _ = _; rw [HST.out, if_pos rfl]
        have HCUT : Hid ((txt allN).extract (atN k).2 k = txt ((allN.drop (atN k).2).take (k - (atN k).2))) := by
          have := txt_cut (txt allN) (atN k).2 (k - (atN k).2)
          rw [txt_data, Nat.add_sub_cancel' b0] at this
          exact this
        clear HST hc hc128 q1 q2 hit hown hB hk hsz2
        generalize (atN k).2 = bg at *
        generalize (atN k).1 = ws at *
        have e32 : ((32 : UInt8).toNat : Int) = 32 := rfl
        rw [e32] at hnx
        have j0 : (0 : Int) ≤ bg := by omega
        have j1 : (bg : Int) ≤ k := by omega
        have j2 : (k : Int) ≤ 169 := by omega
        have HWS := Lib.hid b1
        clear b1
        have hwl : ws.length ≤ 1000 := by have := HWS.out; omega
        go_wp2_with (at_builtin; refine wpList_append_row _ rfl (.tmp 12) (.tmp 16) 34 rfl (w.heap.size + 1) 9 i0 _ 1 16 Tryd.underlying34 HI.out HZ0.out HZ1.out HZ2.out rfl (by omega) (.slice A ws.length cc) ws.length (ws.map (fun t => Value.string (txt t))) rfl (HO2.out.alloc _) ((wr.iterAt w.heap.size (txt allN) (k + 1)).heap.size + 1) (.slice (some ⟨(wr.iterAt w.heap.size (txt allN) (k + 1)).heap.size, 0, none⟩) 1 1) 1 [.string ((⟨#[97, 100, 100, 32, 115, 117, 98, 32, 97, 110, 100, 32, 111, 114, 32, 120, 111, 114, 32, 115, 108, 108, 32, 115, 114, 108, 32, 115, 114, 97, 32, 115, 108, 116, 32, 115, 108, 116, 117, 32, 109, 117, 108, 32, 109, 117, 108, 104, 32, 100, 105, 118, 32, 100, 105, 118, 117, 32, 114, 101, 109, 32, 114, 101, 109, 117, 32, 97, 100, 100, 105, 32, 97, 110, 100, 105, 32, 111, 114, 105, 32, 120, 111, 114, 105, 32, 115, 108, 116, 105, 32, 115, 108, 108, 105, 32, 115, 114, 108, 105, 32, 115, 114, 97, 105, 32, 108, 117, 105, 32, 108, 119, 32, 108, 104, 32, 108, 104, 117, 32, 108, 98, 32, 108, 98, 117, 32, 115, 119, 32, 115, 104, 32, 115, 98, 32, 98, 101, 113, 32, 98, 110, 101, 32, 98, 108, 116, 32, 98, 103, 101, 32, 98, 108, 116, 117, 32, 98, 103, 101, 117, 32, 106, 32, 104, 97, 108, 116, 32]⟩ : ByteArray).extract bg k)] rfl (row_list (wr.iterAt w.heap.size (txt allN) (k + 1)) [.string ((⟨#[97, 100, 100, 32, 115, 117, 98, 32, 97, 110, 100, 32, 111, 114, 32, 120, 111, 114, 32, 115, 108, 108, 32, 115, 114, 108, 32, 115, 114, 97, 32, 115, 108, 116, 32, 115, 108, 116, 117, 32, 109, 117, 108, 32, 109, 117, 108, 104, 32, 100, 105, 118, 32, 100, 105, 118, 117, 32, 114, 101, 109, 32, 114, 101, 109, 117, 32, 97, 100, 100, 105, 32, 97, 110, 100, 105, 32, 111, 114, 105, 32, 120, 111, 114, 105, 32, 115, 108, 116, 105, 32, 115, 108, 108, 105, 32, 115, 114, 108, 105, 32, 115, 114, 97, 105, 32, 108, 117, 105, 32, 108, 119, 32, 108, 104, 32, 108, 104, 117, 32, 108, 98, 32, 108, 98, 117, 32, 115, 119, 32, 115, 104, 32, 115, 98, 32, 98, 101, 113, 32, 98, 110, 101, 32, 98, 108, 116, 32, 98, 103, 101, 32, 98, 108, 116, 117, 32, 98, 103, 101, 117, 32, 106, 32, 104, 97, 108, 116, 32]⟩ : ByteArray).extract bg k)] _) (by simp [Value.oneCell']) (by unfold maxLen; omega) (by omega) (by rw [World.size_alloc, HSZ2.out]; omega) ?_; intro v3 y3 hO3 hg3; have HO3 := Lib.hid hO3; have HG3 := Lib.hid hg3; clear hO3 hg3)
        go_roundw
        case rel =>
          refine ⟨k + 1, by omega, by rw [HS2.out]; simp, ?_, ?_, ?_⟩
          · rw [HG3.out.block _ (by rw [World.size_alloc, HSZ2.out]; omega) (fun e => by have := (HO2.out.lt _ e.symm).1; omega)]
            exact (Below.heap_alloc _ _ _ (by rw [HSZ2.out]; exact hsz)).trans hit2.out
          · have := HO3.out
            rw [lit_eq, HCUT.out] at this
            rw [HS2.out]
            simp only [List.length_append, List.length_cons, List.length_nil, List.map_append, List.map_cons, List.map_nil]
            exact this
          · exact (HB2.out.alloc (by rw [HSZ2.out]; omega) _).grown HG3.out (by rw [World.size_alloc, HSZ2.out]; omega) (fun j hj => by have := (HO2.out.lt j hj).1; omega)
        case measure =>
          simp only [World.iterPos, HIT.out]
          have : y3.heap[w.heap.size]? = some (.stringIter (txt allN) (k + 1)) := by
            rw [HG3.out.block _ (by rw [World.size_alloc, HSZ2.out]; omega) (fun e => by have := (HO2.out.lt _ e.symm).1; omega)]
            exact (Below.heap_alloc _ _ _ (by rw [HSZ2.out]; exact hsz)).trans hit2.out
          rw [this]
          simp only
          omega
      · have HS2 : Hid (atN (k + 1) = atN k) := by show _ = _; rw [HST.out, if_neg (fun e => h32 (by injection e))]
        have hne : ((c.toNat : Int) == 32) = false := by
          simp only [beq_eq_false_iff_ne, ne_eq]
          intro e
          apply h32
          have : c.toNat = 32 := by omega
          exact UInt8.toNat_inj.1 this
        generalize (c.toNat : Int) = C at *
        clear HST hc hc128 q1 q2 hit hown hB hk hsz2
        go_wp2_with fail
        go_roundw
        case rel => exact ⟨k + 1, by omega, by rw [HS2.out], hit2.out, by rw [HS2.out]; exact HO2.out, HB2.out⟩
        case measure =>
          simp only [World.iterPos, hit2.out, HIT.out]
          omega
    · have hnx := fun ty => next_none (P := Tryd.prog) hit (show ¬ k < (txt allN).size by omega) ty
      have hkk : k = 169 := by omega
      clear hown hB hit hk
      go_wp2_with fail
      go_ret
      have e : (atN k).1 = namesZ := by rw [hkk]; exact atN_end
      refine ⟨.slice A (atN k).1.length cc, rfl, ?_, HB.out⟩
      have := HO.out
      rw [e] at this ⊢
      exact own_base this (Nat.le_succ _)
end Go.Proofs.YtimdojeagkbgbaaDoor.Words

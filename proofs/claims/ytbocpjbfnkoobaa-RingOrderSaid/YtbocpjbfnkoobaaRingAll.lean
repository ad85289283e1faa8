/- Contracts of package ring: Room and All. -/
import Derived.Test.YtbocpjbfnkoobaaRingOf
import Derived.Test.YtbocpjbfnkoobaaKept
namespace Go.Proofs.Ytbocpjbfnkoobaa.Words
set_option maxRecDepth 100000
open Go.RowKit
set_option linter.unusedVariables false
set_option linter.unusedSimpArgs false

def w32 (l : List Int) : List Value := l.map (Value.int .u32)
theorem w32_one (l : List Int) : ∀ u ∈ w32 l, u.oneCell' = true := by
  intro u hu
  obtain ⟨x, _, rfl⟩ := List.mem_map.1 hu; rfl
theorem w32_len (l : List Int) : (w32 l).length = l.length := by simp [w32]
theorem w32_app (l m : List Int) : w32 l ++ w32 m = w32 (l ++ m) := by simp [w32]
theorem info_u32 : (Try.prog.info? 30).map (fun i => (i.zero, i.size, i.bytes)) = some (some (.int .u32 0), 1, 4) := by kernel_rfl
theorem parts_u32 : ∃ i, Try.prog.info? 30 = some i ∧ i.zero = some (.int .u32 0) ∧ i.size = 1 ∧ i.bytes = 4 := by
  have h := info_u32
  cases hi : Try.prog.info? 30 with
  | none => rw [hi] at h; cases h
  | some i =>
    rw [hi] at h
    simp only [Option.map_some, Option.some.injEq, Prod.mk.injEq] at h
    exact ⟨i, rfl, h.1, h.2.1, h.2.2⟩
theorem row_one1 (w : World) (x : Int) (t : TypeId) : Row (w.alloc (.cells #[.int .u32 x] t)) (w.heap.size + 1) 1 (.slice (some ⟨w.heap.size, 0, none⟩) 1 1) 1 (w32 [x]) := by
  refine ⟨rfl, _, _, rfl, Nat.le_refl _, by omega, (fun h => by cases h), fun _ => ⟨w.heap.size, 0, rfl, Nat.lt_succ_self _, fun j u hu => ?_⟩⟩
  have := new_cells w #[.int .u32 x] t [.int .u32 x] rfl j u hu
  rwa [add_spot] at this
theorem slot_at {m f : Nat} {q : List Int} {S : List Value} (h : RgM m f q S) {j : Nat} (hj : j < q.length) : S[(f + j) % m]? = some (slotW (q.getD j 0)) := by
  rw [h.at_ j (by have := h.ql; omega), slotQ_in hj]
theorem take_next {q : List Int} {j : Nat} (hj : j < q.length) : q.take (j + 1) = q.take j ++ [q.getD j 0] := by
  rw [List.take_add_one, List.getElem?_eq_getElem hj, List.getD_eq_getElem?_getD, List.getElem?_eq_getElem hj]; rfl

set_option maxHeartbeats 1000000 in
theorem room_any (b m : Nat) (q : List Int) (w : World) (h : Rg w b m q) :
    Calls Try.prog 14 #[.pointer (some ⟨b, 0, none⟩)] w fun e w' => e = .returned (.int .i64 ((m - q.length : Nat) : Int)) ∧ Below w.heap.size w w' := by
  obtain ⟨f, S, hR, hB⟩ := h
  have m1 := hR.m1
  have m2 := hR.m2
  have d64 : w.cell? ⟨b, 64, none⟩ = some (.int .i64 m) := hB.cell (ringL_end hR.len 0)
  have HS := Lib.hid (fun (k : Nat) (hk : k < 64) => hR.slot hk)
  have HN := Lib.hid (fun (k : Nat) (v : Value) (hv : S[k]? = some v) => nilN_step hv)
  have HE := Lib.hid hR.room
  have HLE := Lib.hid (fun (k : Nat) => nilN_le k S)
  have HZ := Lib.hid (nilN_zero S)
  have HC := Lib.hid (fun (k : Nat) (v : Value) (hv : S[k]? = some v) => hB.cell (ringL_slot (m := m) (f := f) (q := q) hR.len hv))
  have an := as_none
  have aw := as_word
  have k0 : (0 : Int) ≤ m := by omega
  have k1 : (m : Int) ≤ 64 := by omega
  clear hR hB
  go_enter Try.func14, Try.ntmps14
  go_wp2_with fail
  go_quiet (fail)
  go_wp2_with fail
  go_loopw [3, 19] (fun r i wr => ∃ j : Nat, j ≤ m ∧ r = .int .i64 (nilN j S : Int) ∧ i = .int .i64 j ∧ wr = w.drewN nq) (fun _ i _ => m - (intOf i).toNat)
  case atStart => exact ⟨0, Nat.zero_le _, by rw [HZ.out]; rfl, rfl, rfl⟩
  case round =>
    obtain ⟨j, hj, rfl, rfl, rfl⟩ := hrel
    obtain ⟨r, hr⟩ : ∃ r, r = nilN j S := ⟨_, rfl⟩
    have hrl := HLE.out j
    rw [← hr] at hrl ⊢
    have HR := Lib.hid hr
    clear hr
    by_cases hlt : j < m
    · have k2 : (0 : Int) ≤ j := by omega
      have k3 : (j : Int) < m := by omega
      rcases HS.out j (by omega) with hs | ⟨x, hs⟩
      · have ds := HC.out j _ hs
        have hres := Lib.hid (show nilN (j + 1) S = r + 1 by rw [HN.out j _ hs, ← HR.out]; rfl)
        clear hs
        go_wp2_with fail
        go_roundw
        case rel => exact ⟨j + 1, by omega, by rw [hres.out]; rfl, by go_num, by first | rfl | trivial⟩
        case measure => simp [intOf]; omega
      · have ds := HC.out j _ hs
        unfold slotW at ds
        have hres := Lib.hid (show nilN (j + 1) S = r by rw [HN.out j _ hs, ← HR.out]; rfl)
        clear hs
        go_wp2_with fail
        go_roundw
        case rel => exact ⟨j + 1, by omega, by rw [hres.out], by go_num, by first | rfl | trivial⟩
        case measure => simp [intOf]; omega
    · have hres := Lib.hid (show r = m - q.length by rw [HR.out, show j = m by omega, HE.out])
      go_wp2_with fail
      go_ret
      exact ⟨ret_int (by rw [hres.out]), Below.drewN_ (Below.refl _ _) _⟩

set_option maxHeartbeats 2000000 in
theorem all_any (b m : Nat) (q : List Int) (w : World) (h : Rg w b m q) :
    Calls Try.prog 17 #[.pointer (some ⟨b, 0, none⟩)] w fun e w' => ∃ v, e = .returned v ∧ w'.ownsRow w.heap.size 30 1 v q.length (w32 q) ∧ Below w.heap.size w w' := by
  obtain ⟨i0, hi, hq0, hq1, hq2⟩ := parts_u32
  have HI := Lib.hid hi
  have HZ0 := Lib.hid hq0
  have HZ1 := Lib.hid hq1
  have HZ2 := Lib.hid hq2
  clear hi hq0 hq1 hq2
  obtain ⟨f, S, hR, hB⟩ := h
  have m1 := hR.m1
  have m2 := hR.m2
  have f2 := hR.ff
  have ql := hR.ql
  have hbl := hB.lt
  have d64 : w.cell? ⟨b, 64, none⟩ = some (.int .i64 m) := hB.cell (ringL_end hR.len 0)
  have d65 : w.cell? ⟨b, 65, none⟩ = some (.int .i64 f) := hB.cell (ringL_end hR.len 1)
  have HA := Lib.hid (fun (j : Nat) (hj : j < m) => hB.cell (ringL_slot (m := m) (f := f) (q := q) hR.len (hR.at_ j hj)))
  have HK1 := Lib.hid (fun (j : Nat) => (show (f + j) % m < m from Nat.mod_lt _ (by omega)))
  have an := as_none
  have aw := as_word
  have HD64 := Lib.hid d64
  have HD65 := Lib.hid d65
  clear hR hB
  go_enter Try.func17, Try.ntmps17
  go_wp2_with fail
  clear d64 d65
  go_loopw [3, 13] (fun v i wr => ∃ j : Nat, j ≤ m ∧ j ≤ q.length ∧ i = .int .i64 j ∧ wr.ownsRow w.heap.size 30 1 v j (w32 (q.take j)) ∧ Below w.heap.size w wr) (fun _ i _ => m - (intOf i).toNat)
  case atStart => exact ⟨0, Nat.zero_le _, Nat.zero_le _, rfl, World.ownsRow_nil _ _ _ _, Below.refl _ _⟩
  case round =>
    obtain ⟨j, hj, hjq, rfl, hO, hB⟩ := hrel
    have HO := Lib.hid hO
    have HB := Lib.hid hB
    obtain ⟨A3, c3, rfl⟩ := (Row.of_own hO).form
    have hbw : b < wr.heap.size := Nat.lt_of_lt_of_le hbl hB.size
    have e64 := below_cell hB hbl HD64.out
    have e65 := below_cell hB hbl HD65.out
    clear hO hB
    by_cases hlt : j < m
    · have k2 : (0 : Int) ≤ j := by omega
      have k3 : (j : Int) < m := by omega
      have ds := below_cell HB.out hbl (HA.out j hlt)
      have hk := HK1.out j
      have hkc : (((f : Int) + j) % m) = (((f + j) % m : Nat) : Int) := by rw [Int.natCast_emod]; rfl
      obtain ⟨k, hke⟩ : ∃ k, k = (f + j) % m := ⟨_, rfl⟩
      rw [← hke] at ds hk hkc
      clear hke
      have k4 : (0 : Int) ≤ k := by omega
      have k5 : (k : Int) < 64 := by omega
      by_cases hq : j < q.length
      · rw [slotQ_in hq] at ds
        unfold slotW at ds
        have HT := Lib.hid (take_next hq)
        obtain ⟨x, hx⟩ : ∃ x, x = q.getD j 0 := ⟨_, rfl⟩
        rw [← hx] at ds HT
        clear hx
        have HL := Lib.hid hq
        have HQL := Lib.hid ql
        clear hq hjq ql
        go_wp2_with fail
        go_quiet (fail)
        have HBY := Lib.hid (Below.drewN_ HB.out nq)
        have HOY := Lib.hid (own_below HO.out (Below.drewN_ (Below.refl wr.heap.size wr) nq))
        obtain ⟨Y, hY⟩ : ∃ Y, Y = wr.drewN nq := ⟨_, rfl⟩
        rw [← hY] at HBY HOY ⊢
        clear hY e64 e65 ds HO HB hbw
        have HY1 := Lib.hid ((Below.refl Y.heap.size Y).alloc (Nat.le_refl _) (.cells #[.int .u32 x] 30))
        have HOA := Lib.hid (own_below HOY.out HY1.out)
        have HBA := Lib.hid (HBY.out.alloc HBY.out.size (.cells #[.int .u32 x] 30))
        have HON := Lib.hid (row_one1 Y x 30)
        go_wp2_with (first
          | (refine wpList_append_new _ rfl (.tmp 38) (.tmp 40) 23 rfl w.heap.size 30 i0 _ 1 4 Try.underlying23 HI.out HZ0.out HZ1.out HZ2.out rfl (by omega) (.slice A3 j c3) j (w32 (q.take j)) rfl HOA.out _ (.slice (some ⟨Y.heap.size, 0, none⟩) 1 1) 1 (w32 [x]) rfl HON.out (w32_one _) (by unfold maxLen; omega) (by omega) (by have := HBA.out.size; exact this) ?_; intro v2 w2 hO hg hn2; have HO2 := Lib.hid hO; have HK2 : Hid (Below w.heap.size w w2) := Below.grown HBA.out hg HBA.out.size (fun q hq => (HOY.out.lt q hq).1); clear hO hg hn2))
        go_roundw
        case rel =>
          refine ⟨j + 1, by omega, HL.out, by go_num, ?_, HK2.out⟩
          rw [HT.out, ← w32_app]
          exact HO2.out
        case measure => simp [intOf]; omega
      · rw [slotQ_out (by omega)] at ds
        have hjq2 : j = q.length := by omega
        subst hjq2
        rw [List.take_length] at HO
        generalize hql : q.length = j at *
        have HQ := Lib.hid hql
        clear hq hjq ql hql
        go_wp2_with fail
        go_quiet (fail)
        go_wp2_with fail
        go_ret
        exact ⟨_, rfl, by rw [HQ.out]; exact own_below HO.out (Below.drewN_ (Below.refl _ _) _), Below.drewN_ HB.out _⟩
    · have hjq2 : j = q.length := by omega
      have hjm : q.length = m := by omega
      subst hjq2
      rw [List.take_length] at HO
      generalize hql : q.length = j at *
      have HQ := Lib.hid hql
      clear hjq ql hql hjm
      have k9 : ¬ (j : Int) < m := by omega
      go_wp2_with fail
      go_ret
      exact ⟨_, rfl, by rw [HQ.out]; exact HO.out, HB.out⟩
end Go.Proofs.Ytbocpjbfnkoobaa.Words

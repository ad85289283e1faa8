/- Contracts of package ring: after, New, Push, Pop. -/
import Derived.Test.YtbocpjbfnkoobaaRingMath
import Derived.Test.YtbocpjbfnkoobaaLin
import Derived.Test.YtbocpjbfnkoobaaRegEx
import Derived.Test.YtbocpjbfnkoobaaRows
import Derived.LoopTactic
namespace Go.Proofs.Ytbocpjbfnkoobaa.Words
set_option maxRecDepth 100000
open Go.RowKit
set_option linter.unusedVariables false
set_option linter.unusedSimpArgs false

theorem as_word (v : Value) (w : World) : (Instr.typeAssert (.iface 30 v) 20 30 true).run Try.prog w = .ok (.tuple #[v, .bool true]) w := by kernel_rfl
theorem as_none (w : World) : (Instr.typeAssert .nilIface 20 30 true).run Try.prog w = .ok (.tuple #[.int .u32 0, .bool false]) w := by kernel_rfl

set_option maxHeartbeats 400000 in
theorem after_any (b m k : Nat) (w : World) (h1 : 1 ≤ m) (h2 : m ≤ 64) (hk : k < m) (hc : w.cell? ⟨b, 64, none⟩ = some (.int .i64 m)) :
    Calls Try.prog 20 #[.pointer (some ⟨b, 0, none⟩), .int .i64 k] w fun e w' => e = .returned (.int .i64 ((k + 1) % m : Nat)) ∧ w = w' := by
  go_enter Try.func20, Try.ntmps20
  go_wp2_with fail
  go_ret
  exact ⟨ret_int (by rw [Int.natCast_emod]; rfl), rfl⟩

set_option maxHeartbeats 1000000 in
theorem push_any (b m : Nat) (q : List Int) (x : Int) (w : World) (h : Rg w b m q) :
    Calls Try.prog 10 #[.pointer (some ⟨b, 0, none⟩), .int .u32 x] w fun e w' => e = .returned (.bool (goesQ m q)) ∧ Rg w' b m (pushQ m q x) ∧ KeepS (fun j => j = b) w w' := by
  obtain ⟨f, S, hR, hB⟩ := h
  have m1 := hR.m1
  have m2 := hR.m2
  have hk := hR.hind_lt
  have d64 : w.cell? ⟨b, 64, none⟩ = some (.int .i64 m) := hB.cell (ringL_end hR.len 0)
  have d66 : w.cell? ⟨b, 66, none⟩ = some (.int .i64 (hindR m f q)) := hB.cell (ringL_end hR.len 2)
  have m0 : ((m : Int) == 0) = false := by rw [beq_eq_false_iff_ne]; omega
  have an := as_none
  have aw := as_word
  by_cases hl : q.length < m
  · have ds := hB.cell (ringL_slot (m := m) (f := f) (q := q) hR.len (hR.hind_free hl))
    have fs := hB.frozen (hindR m f q)
    have HG := Lib.hid (show goesQ m q = true from decide_eq_true hl)
    have HP := Lib.hid (show pushQ m q x = q ++ [x] from if_pos hl)
    have hbl := hB.lt
    have HR := Lib.hid hR
    have HB := Lib.hid hB
    have HL := Lib.hid hl
    clear hR hB hl
    obtain ⟨k, hkk⟩ : ∃ k, k = hindR m f q := ⟨_, rfl⟩
    rw [← hkk] at hk d66 ds fs
    have HK := Lib.hid hkk
    clear hkk
    have k0 : (0 : Int) ≤ k := by omega
    have k1 : (k : Int) < 64 := by omega
    go_enter Try.func10, Try.ntmps10
    go_wp2_with fail
    go_quiet (fail)
    go_wp2_with fail
    go_region
    have hset : (ringL m f q S).set k (slotW x) = (S.set k (slotW x)) ++ [.int .i64 m, .int .i64 f, .int .i64 k] := by rw [ringL_set HR.out.len (by omega), ← HK.out]
    have hbW : Box ((w.drewN (nq + 1)).setCell ⟨b, k, none⟩ (slotW x)) b ((S.set k (slotW x)) ++ [.int .i64 m, .int .i64 f, .int .i64 k]) := by
      rw [← hset]; exact (HB.out.drewN _).setCell k (slotW x)
    have hkW : KeepS (fun j => j = b) w ((w.drewN (nq + 1)).setCell ⟨b, k, none⟩ (slotW x)) := ((KeepS.refl (fun j => j = b) w).drewN _).setCell rfl k _
    obtain ⟨W, hW⟩ : ∃ W, W = (w.drewN (nq + 1)).setCell ⟨b, k, none⟩ (slotW x) := ⟨_, rfl⟩
    rw [show Value.iface 30 (Value.int IntKind.u32 x) = slotW x from rfl, ← hW]
    rw [← hW] at hbW hkW
    have hlen : (S.set k (slotW x)).length = 64 := by rw [List.length_set]; exact HR.out.len
    have e64 : W.cell? ⟨b, 64, none⟩ = some (.int .i64 m) := hbW.cell (end_at hlen 0)
    have e66 : W.cell? ⟨b, 66, none⟩ = some (.int .i64 k) := hbW.cell (end_at hlen 2)
    have g66 := hbW.frozen 66
    have HBW := Lib.hid hbW
    have HKW := Lib.hid hkW
    clear hW hset hbW hkW d64 d66 ds fs
    go_wp2_with fail
    refine (after_any b m k W m1 m2 hk e64).mono ?_
    rintro e w1 ⟨rfl, rfl⟩
    go_wp2_with fail
    go_ret
    refine ⟨ret_bool HG.out.symm, ?_, HKW.out.setCell rfl _ _⟩
    rw [HP.out]
    refine ⟨f, _, HR.out.push HL.out x, ?_⟩
    have := HBW.out.setCell 66 (.int .i64 ((k + 1) % m : Nat))
    rw [end_set2 hlen] at this
    rw [← HK.out]
    unfold ringL
    rw [HR.out.hind_push, ← HK.out]
    exact this
  · obtain ⟨y, hy⟩ := hR.hind_full hl
    have ds := hB.cell (ringL_slot (m := m) (f := f) (q := q) hR.len hy)
    have HG := Lib.hid (show goesQ m q = false from decide_eq_false hl)
    have HP := Lib.hid (show pushQ m q x = q from if_neg hl)
    have HR := Lib.hid hR
    have HB := Lib.hid hB
    clear hR hB hl hy
    generalize hkk : hindR m f q = k at *
    clear hkk
    have k0 : (0 : Int) ≤ k := by omega
    have k1 : (k : Int) < 64 := by omega
    unfold slotW at ds
    go_enter Try.func10, Try.ntmps10
    go_wp2_with fail
    go_quiet (fail)
    go_wp2_with fail
    go_ret
    exact ⟨ret_bool HG.out.symm, by rw [HP.out]; exact ⟨f, S, HR.out, HB.out.drewN _⟩, (KeepS.refl _ w).drewN _⟩

set_option maxHeartbeats 1000000 in
theorem pop_any (b m : Nat) (q : List Int) (w : World) (h : Rg w b m q) :
    Calls Try.prog 12 #[.pointer (some ⟨b, 0, none⟩)] w fun e w' => e = .returned (.tuple #[.int .u32 (headQ q), .bool (anyQ q)]) ∧ Rg w' b m q.tail ∧ KeepS (fun j => j = b) w w' := by
  obtain ⟨f, S, hR, hB⟩ := h
  have m1 := hR.m1
  have m2 := hR.m2
  have hk := hR.ff
  have d64 : w.cell? ⟨b, 64, none⟩ = some (.int .i64 m) := hB.cell (ringL_end hR.len 0)
  have d65 : w.cell? ⟨b, 65, none⟩ = some (.int .i64 f) := hB.cell (ringL_end hR.len 1)
  have an := as_none
  have aw := as_word
  have k0 : (0 : Int) ≤ f := by omega
  have k1 : (f : Int) < 64 := by omega
  cases q with
  | nil =>
    have ds := hB.cell (ringL_slot (m := m) (f := f) (q := []) hR.len hR.first_none)
    have HR := Lib.hid hR
    have HB := Lib.hid hB
    clear hR hB
    go_enter Try.func12, Try.ntmps12
    go_wp2_with fail
    go_quiet (fail)
    go_wp2_with fail
    exact bodyPost_ret (v := .tuple #[.int .u32 0, .bool false]) (by simp [results, Try.results12, go_sem]) rfl ⟨rfl, ⟨f, S, HR.out, HB.out.drewN _⟩, (KeepS.refl _ w).drewN _⟩
  | cons x q =>
    have ds := hB.cell (ringL_slot (m := m) (f := f) (q := x :: q) hR.len hR.first_some)
    have fs := hB.frozen f
    have hbl := hB.lt
    have HR := Lib.hid hR
    have HB := Lib.hid hB
    clear hR hB
    unfold slotW at ds
    go_enter Try.func12, Try.ntmps12
    go_wp2_with fail
    go_quiet (fail)
    go_wp2_with fail
    go_region
    have hset : (ringL m f (x :: q) S).set f .nilIface = (S.set f .nilIface) ++ [.int .i64 m, .int .i64 f, .int .i64 (hindR m f (x :: q))] := by rw [ringL_set HR.out.len (by omega)]
    have hbW : Box ((w.drewN (nq + 1)).setCell ⟨b, f, none⟩ .nilIface) b ((S.set f .nilIface) ++ [.int .i64 m, .int .i64 f, .int .i64 (hindR m f (x :: q))]) := by
      rw [← hset]; exact (HB.out.drewN _).setCell f .nilIface
    have hkW : KeepS (fun j => j = b) w ((w.drewN (nq + 1)).setCell ⟨b, f, none⟩ .nilIface) := ((KeepS.refl (fun j => j = b) w).drewN _).setCell rfl f _
    obtain ⟨W, hW⟩ : ∃ W, W = (w.drewN (nq + 1)).setCell ⟨b, f, none⟩ .nilIface := ⟨_, rfl⟩
    rw [← hW]
    rw [← hW] at hbW hkW
    have hlen : (S.set f .nilIface).length = 64 := by rw [List.length_set]; exact HR.out.len
    have e64 : W.cell? ⟨b, 64, none⟩ = some (.int .i64 m) := hbW.cell (end_at hlen 0)
    have e65 : W.cell? ⟨b, 65, none⟩ = some (.int .i64 f) := hbW.cell (end_at hlen 1)
    have g65 := hbW.frozen 65
    have HBW := Lib.hid hbW
    have HKW := Lib.hid hkW
    clear hW hset hbW hkW d64 d65 ds fs
    go_wp2_with fail
    refine (after_any b m f W m1 m2 hk e64).mono ?_
    rintro e w1 ⟨rfl, rfl⟩
    go_wp2_with fail
    refine bodyPost_ret (v := .tuple #[.int .u32 x, .bool true]) (by simp [results, Try.results12, go_sem]) rfl ⟨rfl, ?_, HKW.out.setCell rfl _ _⟩
    refine ⟨(f + 1) % m, _, HR.out.pop, ?_⟩
    have := HBW.out.setCell 65 (.int .i64 ((f + 1) % m : Nat))
    rw [end_set1 hlen] at this
    unfold ringL
    rw [show hindR m ((f + 1) % m) (x :: q).tail = hindR m f (x :: q) from HR.out.hind_pop]
    exact this

def zeroRing (c : Int) : List Value := List.replicate 64 Value.nilIface ++ [.int .i64 c, .int .i64 0, .int .i64 0]
theorem ring_built (c : Int) : Try.prog.built 42 [(1, .int .i64 c)] = some (zeroRing c).toArray := by kernel_rfl
theorem ring_made (n : Int) (w : World) (c : Int) (hc : (capQ n : Int) = c) : Rg (w.alloc (.cells (zeroRing c).toArray 42)) w.heap.size (capQ n) [] := by
  refine ⟨0, _, RgM.new (capQ n) (capQ_1 n) (capQ_64 n), ?_⟩
  have h0 : hindR (capQ n) 0 [] = 0 := by unfold hindR; simp
  unfold ringL
  rw [h0, hc]
  exact Box.new w _ _
set_option maxHeartbeats 1000000 in
theorem new_any (n : Int) (w : World) :
    Calls Try.prog 8 #[.int .i64 n] w fun e w' => e = .returned (.pointer (some ⟨w.heap.size, 0, none⟩)) ∧ Rg w' w.heap.size (capQ n) [] ∧ Below w.heap.size w w' := by
  have HC := Lib.hid (capQ_min n)
  have HM := Lib.hid (ring_made n w)
  go_enter Try.func8, Try.ntmps8
  by_cases h1 : n < 1
  · have h2 : ¬ 1 ≤ n := by omega
    have HE := Lib.hid (show (capQ n : Int) = 1 by unfold capQ; rw [if_pos h1]; rfl)
    go_wp2_with (first | (refine wpList_built_at _ rfl 42 _ rfl _ (by simp only [List.map_toArray, List.map_cons, List.map_nil]; exact ring_built _) ?_))
    go_ret
    exact ⟨rfl, HM.out _ (by exact HE.out), (Below.refl _ _).alloc (Nat.le_refl _) _⟩
  · by_cases h3 : 64 < n
    · have HE := Lib.hid (show (capQ n : Int) = 64 by unfold capQ; rw [if_neg h1, if_pos h3]; rfl)
      go_wp2_with (first | (refine wpList_built_at _ rfl 42 _ rfl _ (by simp only [List.map_toArray, List.map_cons, List.map_nil]; exact ring_built _) ?_))
      go_ret
      exact ⟨rfl, HM.out _ (by exact HE.out), (Below.refl _ _).alloc (Nat.le_refl _) _⟩
    · have HE := Lib.hid (show (capQ n : Int) = n by unfold capQ; rw [if_neg h1, if_neg h3]; omega)
      have h4 : ¬ n < 1 := h1
      go_wp2_with (first | (refine wpList_built_at _ rfl 42 _ rfl _ (by simp only [List.map_toArray, List.map_cons, List.map_nil]; exact ring_built _) ?_))
      go_ret
      exact ⟨rfl, HM.out _ (by exact HE.out), (Below.refl _ _).alloc (Nat.le_refl _) _⟩
end Go.Proofs.Ytbocpjbfnkoobaa.Words

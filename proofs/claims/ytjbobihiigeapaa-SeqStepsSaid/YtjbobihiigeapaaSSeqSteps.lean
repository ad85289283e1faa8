/- The walk of SeqSteps: a run is its steps, one by one. -/
import Derived.Test.YtjbobihiigeapaaG11
import Derived.Test.YtjbobihiigeapaaSImageHelp
import Derived.Test.YtjbobihiigeapaaG17
import Derived.Test.YtjbobihiigeapaaG18
import Derived.Test.YtjbobihiigeapaaSRunGrow
namespace Go.Proofs.Ytjbobihiigeapaa.Words
set_option maxRecDepth 100000
open Go.RowKit
set_option linter.unusedVariables false

set_option maxHeartbeats 1000000 in
theorem seqSteps_few (A D : Option Addr) (c d : Nat) (p : Prog) (fuel more : Int) (w : World) (hp : ProgV w w.heap.size (.slice A p.code.length c) (.slice D p.data.length d) p) (hf : p.Fits) (hfew : fewB p.code.length p.data.length = false) :
    Calls Try.prog 4 #[.agg #[.slice A p.code.length c, .int .i64 p.size, .slice D p.data.length d], .int .i64 fuel, .int .i64 more] w fun e w' => e = .returned (.bool true) ∧ Below w.heap.size w w' := by
  have HF : Hid (fewB p.code.length p.data.length = false) := hfew
  clear hfew
  obtain ⟨u1, u2⟩ := hp.code.cap
  obtain ⟨u3, u4⟩ := hp.data.cap
  have hs : (w.alloc (.cells #[.slice A p.code.length c, .int .i64 p.size, .slice D p.data.length d] 25)).heap.size = w.heap.size + 1 := by simp
  have HB := Lib.hid ((Below.refl w.heap.size w).alloc (Nat.le_refl _) (.cells #[.slice A p.code.length c, .int .i64 p.size, .slice D p.data.length d] 25))
  have HP0 := Lib.hid (fun (x : World) (h : Below w.heap.size w x) => (hp.below h).more h.size)
  have e0 : (w.alloc (.cells #[.slice A p.code.length c, .int .i64 p.size, .slice D p.data.length d] 25)).cell? ⟨w.heap.size, 0, none⟩ = some (.slice A p.code.length c) := by go_simp
  have e1 : (w.alloc (.cells #[.slice A p.code.length c, .int .i64 p.size, .slice D p.data.length d] 25)).cell? ⟨w.heap.size, 1, none⟩ = some (.int .i64 p.size) := by go_simp
  have e2 : (w.alloc (.cells #[.slice A p.code.length c, .int .i64 p.size, .slice D p.data.length d] 25)).cell? ⟨w.heap.size, 2, none⟩ = some (.slice D p.data.length d) := by go_simp
  clear hp hf
  go_enter Try.func4, Try.ntmps4
  go_wp2_with fail
  generalize (w.alloc (.cells #[.slice A p.code.length c, .int .i64 p.size, .slice D p.data.length d] 25)) = W0 at *
  have EF := Lib.hid (fun (x : World) (h : Below (w.heap.size + 1) W0 x) => And.intro (below_cell h (Nat.lt_succ_self _) e0) (And.intro (below_cell h (Nat.lt_succ_self _) e1) (below_cell h (Nat.lt_succ_self _) e2)))
  have HL := Lib.hid (fun (x : World) (h : Below (w.heap.size + 1) W0 x) => HB.out.trans (h.mono (Nat.le_succ _)))
  clear e0 e1 e2
  refine (seqAlive_any _).mono ?_; rintro e w1 ⟨rfl, hb1⟩
  have k1 : Below (w.heap.size + 1) W0 w1 := hs ▸ hb1
  obtain ⟨e0, e1, e2⟩ := EF.out _ k1
  clear hb1
  go_wp2_with fail
  refine (few_any A D p.code.length c p.data.length d p.size _ (by omega) (by omega)).mono ?_; rintro e w2 ⟨rfl, hb2⟩
  rw [HF.out]
  have k2 := k1.trans (hb2.mono (by have := k1.size; omega))
  clear hb2 e0 e1 e2 k1
  obtain ⟨e0, e1, e2⟩ := EF.out _ k2
  go_wp2_with fail
  go_ret
  exact ⟨rfl, HL.out _ k2⟩

set_option maxHeartbeats 1000000 in
theorem seqSteps_size (A D : Option Addr) (c d : Nat) (p : Prog) (fuel more : Int) (w : World) (hp : ProgV w w.heap.size (.slice A p.code.length c) (.slice D p.data.length d) p) (hf : p.Fits) (hfew : fewB p.code.length p.data.length = true) (hz : 500 < p.size) :
    Calls Try.prog 4 #[.agg #[.slice A p.code.length c, .int .i64 p.size, .slice D p.data.length d], .int .i64 fuel, .int .i64 more] w fun e w' => e = .returned (.bool true) ∧ Below w.heap.size w w' := by
  have HF : Hid (fewB p.code.length p.data.length = true) := hfew
  clear hfew
  obtain ⟨u1, u2⟩ := hp.code.cap
  obtain ⟨u3, u4⟩ := hp.data.cap
  have hs : (w.alloc (.cells #[.slice A p.code.length c, .int .i64 p.size, .slice D p.data.length d] 25)).heap.size = w.heap.size + 1 := by simp
  have HB := Lib.hid ((Below.refl w.heap.size w).alloc (Nat.le_refl _) (.cells #[.slice A p.code.length c, .int .i64 p.size, .slice D p.data.length d] 25))
  have HP0 := Lib.hid (fun (x : World) (h : Below w.heap.size w x) => (hp.below h).more h.size)
  have e0 : (w.alloc (.cells #[.slice A p.code.length c, .int .i64 p.size, .slice D p.data.length d] 25)).cell? ⟨w.heap.size, 0, none⟩ = some (.slice A p.code.length c) := by go_simp
  have e1 : (w.alloc (.cells #[.slice A p.code.length c, .int .i64 p.size, .slice D p.data.length d] 25)).cell? ⟨w.heap.size, 1, none⟩ = some (.int .i64 p.size) := by go_simp
  have e2 : (w.alloc (.cells #[.slice A p.code.length c, .int .i64 p.size, .slice D p.data.length d] 25)).cell? ⟨w.heap.size, 2, none⟩ = some (.slice D p.data.length d) := by go_simp
  clear hp hf
  go_enter Try.func4, Try.ntmps4
  go_wp2_with fail
  generalize (w.alloc (.cells #[.slice A p.code.length c, .int .i64 p.size, .slice D p.data.length d] 25)) = W0 at *
  have EF := Lib.hid (fun (x : World) (h : Below (w.heap.size + 1) W0 x) => And.intro (below_cell h (Nat.lt_succ_self _) e0) (And.intro (below_cell h (Nat.lt_succ_self _) e1) (below_cell h (Nat.lt_succ_self _) e2)))
  have HL := Lib.hid (fun (x : World) (h : Below (w.heap.size + 1) W0 x) => HB.out.trans (h.mono (Nat.le_succ _)))
  clear e0 e1 e2
  refine (seqAlive_any _).mono ?_; rintro e w1 ⟨rfl, hb1⟩
  have k1 : Below (w.heap.size + 1) W0 w1 := hs ▸ hb1
  obtain ⟨e0, e1, e2⟩ := EF.out _ k1
  clear hb1
  go_wp2_with fail
  refine (few_any A D p.code.length c p.data.length d p.size _ (by omega) (by omega)).mono ?_; rintro e w2 ⟨rfl, hb2⟩
  rw [HF.out]
  have k2 := k1.trans (hb2.mono (by have := k1.size; omega))
  clear hb2 e0 e1 e2 k1
  obtain ⟨e0, e1, e2⟩ := EF.out _ k2
  go_wp2_with fail
  go_ret
  exact ⟨rfl, HL.out _ k2⟩

set_option maxHeartbeats 1000000 in
theorem seqSteps_wrong (A D : Option Addr) (c d : Nat) (p : Prog) (fuel more : Int) (w : World) (hp : ProgV w w.heap.size (.slice A p.code.length c) (.slice D p.data.length d) p) (hf : p.Fits) (hfew : fewB p.code.length p.data.length = true) (hz : p.size ≤ 500) (hr : p.right = false) :
    Calls Try.prog 4 #[.agg #[.slice A p.code.length c, .int .i64 p.size, .slice D p.data.length d], .int .i64 fuel, .int .i64 more] w fun e w' => e = .returned (.bool true) ∧ Below w.heap.size w w' := by
  have HF : Hid (fewB p.code.length p.data.length = true) := hfew
  have HRT : Hid (p.right = false) := hr
  clear hfew hr
  obtain ⟨u1, u2⟩ := hp.code.cap
  obtain ⟨u3, u4⟩ := hp.data.cap
  have hs : (w.alloc (.cells #[.slice A p.code.length c, .int .i64 p.size, .slice D p.data.length d] 25)).heap.size = w.heap.size + 1 := by simp
  have HB := Lib.hid ((Below.refl w.heap.size w).alloc (Nat.le_refl _) (.cells #[.slice A p.code.length c, .int .i64 p.size, .slice D p.data.length d] 25))
  have HP0 := Lib.hid (fun (x : World) (h : Below w.heap.size w x) => (hp.below h).more h.size)
  have e0 : (w.alloc (.cells #[.slice A p.code.length c, .int .i64 p.size, .slice D p.data.length d] 25)).cell? ⟨w.heap.size, 0, none⟩ = some (.slice A p.code.length c) := by go_simp
  have e1 : (w.alloc (.cells #[.slice A p.code.length c, .int .i64 p.size, .slice D p.data.length d] 25)).cell? ⟨w.heap.size, 1, none⟩ = some (.int .i64 p.size) := by go_simp
  have e2 : (w.alloc (.cells #[.slice A p.code.length c, .int .i64 p.size, .slice D p.data.length d] 25)).cell? ⟨w.heap.size, 2, none⟩ = some (.slice D p.data.length d) := by go_simp
  clear hp hf
  go_enter Try.func4, Try.ntmps4
  go_wp2_with fail
  generalize (w.alloc (.cells #[.slice A p.code.length c, .int .i64 p.size, .slice D p.data.length d] 25)) = W0 at *
  have EF := Lib.hid (fun (x : World) (h : Below (w.heap.size + 1) W0 x) => And.intro (below_cell h (Nat.lt_succ_self _) e0) (And.intro (below_cell h (Nat.lt_succ_self _) e1) (below_cell h (Nat.lt_succ_self _) e2)))
  have HL := Lib.hid (fun (x : World) (h : Below (w.heap.size + 1) W0 x) => HB.out.trans (h.mono (Nat.le_succ _)))
  clear e0 e1 e2
  refine (seqAlive_any _).mono ?_; rintro e w1 ⟨rfl, hb1⟩
  have k1 : Below (w.heap.size + 1) W0 w1 := hs ▸ hb1
  obtain ⟨e0, e1, e2⟩ := EF.out _ k1
  clear hb1
  go_wp2_with fail
  refine (few_any A D p.code.length c p.data.length d p.size _ (by omega) (by omega)).mono ?_; rintro e w2 ⟨rfl, hb2⟩
  rw [HF.out]
  have k2 := k1.trans (hb2.mono (by have := k1.size; omega))
  clear hb2 e0 e1 e2 k1
  obtain ⟨e0, e1, e2⟩ := EF.out _ k2
  go_wp2_with fail
  refine (refRight_any A c p.size D p.data.length d p.code _ (HP0.out _ (HL.out _ k2)).code u3 u4).mono ?_; rintro e w3 ⟨rfl, hb3⟩
  rw [show rightZ p.code p.size p.data.length = false from HRT.out]
  have k3 := k2.trans (hb3.mono (by have := k2.size; omega))
  clear hb3 e0 e1 e2 k2
  obtain ⟨e0, e1, e2⟩ := EF.out _ k3
  go_wp2_with fail
  go_ret
  exact ⟨rfl, HL.out _ k3⟩

set_option maxHeartbeats 1000000 in
theorem seqSteps_far (A D : Option Addr) (c d : Nat) (p : Prog) (fuel more : Int) (w : World) (hp : ProgV w w.heap.size (.slice A p.code.length c) (.slice D p.data.length d) p) (hf : p.Fits) (hfew : fewB p.code.length p.data.length = true) (hz : p.size ≤ 500) (hr : p.right = true) (ho : fuel < 0 ∨ 150 < fuel ∨ more < 0 ∨ 100 < more) :
    Calls Try.prog 4 #[.agg #[.slice A p.code.length c, .int .i64 p.size, .slice D p.data.length d], .int .i64 fuel, .int .i64 more] w fun e w' => e = .returned (.bool true) ∧ Below w.heap.size w w' := by
  have HF : Hid (fewB p.code.length p.data.length = true) := hfew
  have HRT : Hid (p.right = true) := hr
  clear hfew hr
  obtain ⟨u1, u2⟩ := hp.code.cap
  obtain ⟨u3, u4⟩ := hp.data.cap
  have hs : (w.alloc (.cells #[.slice A p.code.length c, .int .i64 p.size, .slice D p.data.length d] 25)).heap.size = w.heap.size + 1 := by simp
  have HB := Lib.hid ((Below.refl w.heap.size w).alloc (Nat.le_refl _) (.cells #[.slice A p.code.length c, .int .i64 p.size, .slice D p.data.length d] 25))
  have HP0 := Lib.hid (fun (x : World) (h : Below w.heap.size w x) => (hp.below h).more h.size)
  have e0 : (w.alloc (.cells #[.slice A p.code.length c, .int .i64 p.size, .slice D p.data.length d] 25)).cell? ⟨w.heap.size, 0, none⟩ = some (.slice A p.code.length c) := by go_simp
  have e1 : (w.alloc (.cells #[.slice A p.code.length c, .int .i64 p.size, .slice D p.data.length d] 25)).cell? ⟨w.heap.size, 1, none⟩ = some (.int .i64 p.size) := by go_simp
  have e2 : (w.alloc (.cells #[.slice A p.code.length c, .int .i64 p.size, .slice D p.data.length d] 25)).cell? ⟨w.heap.size, 2, none⟩ = some (.slice D p.data.length d) := by go_simp
  clear hp hf
  go_enter Try.func4, Try.ntmps4
  go_wp2_with fail
  generalize (w.alloc (.cells #[.slice A p.code.length c, .int .i64 p.size, .slice D p.data.length d] 25)) = W0 at *
  have EF := Lib.hid (fun (x : World) (h : Below (w.heap.size + 1) W0 x) => And.intro (below_cell h (Nat.lt_succ_self _) e0) (And.intro (below_cell h (Nat.lt_succ_self _) e1) (below_cell h (Nat.lt_succ_self _) e2)))
  have HL := Lib.hid (fun (x : World) (h : Below (w.heap.size + 1) W0 x) => HB.out.trans (h.mono (Nat.le_succ _)))
  clear e0 e1 e2
  refine (seqAlive_any _).mono ?_; rintro e w1 ⟨rfl, hb1⟩
  have k1 : Below (w.heap.size + 1) W0 w1 := hs ▸ hb1
  obtain ⟨e0, e1, e2⟩ := EF.out _ k1
  clear hb1
  go_wp2_with fail
  refine (few_any A D p.code.length c p.data.length d p.size _ (by omega) (by omega)).mono ?_; rintro e w2 ⟨rfl, hb2⟩
  rw [HF.out]
  have k2 := k1.trans (hb2.mono (by have := k1.size; omega))
  clear hb2 e0 e1 e2 k1
  obtain ⟨e0, e1, e2⟩ := EF.out _ k2
  go_wp2_with fail
  refine (refRight_any A c p.size D p.data.length d p.code _ (HP0.out _ (HL.out _ k2)).code u3 u4).mono ?_; rintro e w3 ⟨rfl, hb3⟩
  rw [show rightZ p.code p.size p.data.length = true from HRT.out]
  have k3 := k2.trans (hb3.mono (by have := k2.size; omega))
  clear hb3 e0 e1 e2 k2
  obtain ⟨e0, e1, e2⟩ := EF.out _ k3
  go_wp2
  all_goals first
    | (exfalso; omega)
    | (go_ret; exact ⟨rfl, HL.out _ k3⟩)

set_option maxHeartbeats 3000000 in
theorem seqSteps_in (A D : Option Addr) (c d : Nat) (p : Prog) (n mo : Nat) (w : World) (hp : ProgV w w.heap.size (.slice A p.code.length c) (.slice D p.data.length d) p) (hf : p.Fits) (hfew : fewB p.code.length p.data.length = true) (hz : p.size ≤ 500) (hr : p.right = true) (hn : (n : Int) ≤ 150) (hmo : (mo : Int) ≤ 100) :
    Calls Try.prog 4 #[.agg #[.slice A p.code.length c, .int .i64 p.size, .slice D p.data.length d], .int .i64 (n : Int), .int .i64 (mo : Int)] w fun e w' => e = .returned (.bool true) ∧ Below w.heap.size w w' := by
  have HF : Hid (fewB p.code.length p.data.length = true) := hfew
  have HRT : Hid (p.right = true) := hr
  have HRC := Lib.hid (right_code hr)
  obtain ⟨km, hkm⟩ : ∃ k : Nat, p.size = (k : Int) := ⟨p.size.toNat, by have := HRC.out; omega⟩
  have HKM := Lib.hid hkm
  have HFL := Lib.hid (firstZ_len p km hkm (by have := HRC.out; omega))
  have hs0 : 0 ≤ p.size := HRC.out.2.2.1
  have hs1 : (p.data.length : Int) ≤ p.size := HRC.out.2.2.2.2.1
  have HD := Lib.hid hf.2.2
  have HN : Hid (n ≤ 150 ∧ mo ≤ 100) := ⟨by omega, by omega⟩
  have hn0 : (0 : Int) ≤ n := by omega
  have hmo0 : (0 : Int) ≤ mo := by omega
  clear hfew hr hkm
  obtain ⟨u1, u2⟩ := hp.code.cap
  obtain ⟨u3, u4⟩ := hp.data.cap
  have hs : (w.alloc (.cells #[.slice A p.code.length c, .int .i64 p.size, .slice D p.data.length d] 25)).heap.size = w.heap.size + 1 := by simp
  have HB := Lib.hid ((Below.refl w.heap.size w).alloc (Nat.le_refl _) (.cells #[.slice A p.code.length c, .int .i64 p.size, .slice D p.data.length d] 25))
  have HP0 := Lib.hid (fun (x : World) (h : Below w.heap.size w x) => (hp.below h).more h.size)
  have e0 : (w.alloc (.cells #[.slice A p.code.length c, .int .i64 p.size, .slice D p.data.length d] 25)).cell? ⟨w.heap.size, 0, none⟩ = some (.slice A p.code.length c) := by go_simp
  have e1 : (w.alloc (.cells #[.slice A p.code.length c, .int .i64 p.size, .slice D p.data.length d] 25)).cell? ⟨w.heap.size, 1, none⟩ = some (.int .i64 p.size) := by go_simp
  have e2 : (w.alloc (.cells #[.slice A p.code.length c, .int .i64 p.size, .slice D p.data.length d] 25)).cell? ⟨w.heap.size, 2, none⟩ = some (.slice D p.data.length d) := by go_simp
  clear hp hf
  go_enter Try.func4, Try.ntmps4
  go_wp2_with fail
  generalize (w.alloc (.cells #[.slice A p.code.length c, .int .i64 p.size, .slice D p.data.length d] 25)) = W0 at *
  have EF := Lib.hid (fun (x : World) (h : Below (w.heap.size + 1) W0 x) => And.intro (below_cell h (Nat.lt_succ_self _) e0) (And.intro (below_cell h (Nat.lt_succ_self _) e1) (below_cell h (Nat.lt_succ_self _) e2)))
  have HL := Lib.hid (fun (x : World) (h : Below (w.heap.size + 1) W0 x) => HB.out.trans (h.mono (Nat.le_succ _)))
  clear e0 e1 e2
  refine (seqAlive_any _).mono ?_; rintro e w1 ⟨rfl, hb1⟩
  have k1 : Below (w.heap.size + 1) W0 w1 := hs ▸ hb1
  obtain ⟨e0, e1, e2⟩ := EF.out _ k1
  clear hb1
  go_wp2_with fail
  refine (few_any A D p.code.length c p.data.length d p.size _ (by omega) (by omega)).mono ?_; rintro e w2 ⟨rfl, hb2⟩
  rw [HF.out]
  have k2 := k1.trans (hb2.mono (by have := k1.size; omega))
  clear hb2 e0 e1 e2 k1
  obtain ⟨e0, e1, e2⟩ := EF.out _ k2
  go_wp2_with fail
  refine (refRight_any A c p.size D p.data.length d p.code _ (HP0.out _ (HL.out _ k2)).code u3 u4).mono ?_; rintro e w3 ⟨rfl, hb3⟩
  rw [show rightZ p.code p.size p.data.length = true from HRT.out]
  have k3 := k2.trans (hb3.mono (by have := k2.size; omega))
  clear hb3 e0 e1 e2 k2
  obtain ⟨e0, e1, e2⟩ := EF.out _ k3
  go_wp2_with fail
  refine (refFirst_any A D c d km p w3 (HP0.out _ (HL.out _ k3)) HKM.out (by have := HRC.out; have := HKM.out; omega) (by have := HRC.out; have := HKM.out; omega)).mono ?_; rintro e w4 ⟨vm1, rfl, hO4, hb4⟩
  have k4 := k3.trans (hb4.mono (by have := k3.size; omega))
  obtain ⟨Am, cm, rfl⟩ := (Row.of_own hO4).form
  have hz1 : w.heap.size + 1 ≤ w3.heap.size := by have := k3.size; omega
  have O4 := Lib.hid (own_base hO4 hz1)
  have hz4 : w.heap.size + 1 ≤ w4.heap.size := by have := k4.size; omega
  have K4 := Lib.hid k4
  have AP4 : Hid (RowsApart w4.heap.size (.slice Am km cm) (.slice none 0 0)) := ⟨fun h => by have := O4.out.lt _ h; omega, fun h => by cases h⟩
  have BN := Lib.hid (Box.new w4 (resL noRes (.slice none 0 0) (.slice none 0 0)) 32)
  clear e0 e1 e2 k3 hO4 hb4 k4
  go_wp2_with (first
    | (refine wpList_built rfl 32 _ rfl _ (by simp only [List.map_toArray, List.map_cons, List.map_nil]; exact result_built Am km cm) ?_)
    | (refine wpList_store_box rfl 32 (.tmp 8) (.tmp 52) rfl w4.heap.size 0 (resL noRes (.slice Am km cm) (.slice none 0 0)) rfl rfl (resL noRes (.slice none 0 0) (.slice none 0 0)) BN.out (by rw [resL_len rfl]; exact Nat.le_refl _) 23 info_res (resL_len rfl) (resL_one rfl rfl) ?_; intro w5 hB5 hg5; rw [splice_whole _ _ (by rw [resL_len rfl, resL_len rfl])] at hB5))
  have MB3 : Hid (Box w5 w4.heap.size (resL (startZ p).1 (.slice Am km cm) (.slice none 0 0))) := hB5
  have O3 : Hid (ResOwn w5 (w.heap.size + 1) (.slice Am km cm) (.slice none 0 0) (startZ p).1) := by
    refine ⟨?_, World.ownsRow_nil _ _ _ _, rfl⟩
    show World.ownsRow _ _ _ _ _ (firstZ p).length _
    rw [HFL.out]
    exact (O4.out.alloc _).kept hg5 (.inr AP4.out.mem)
  have K5 := Lib.hid (Below.grown (K4.out.alloc hz4 (.cells #[.int .i64 0, .int .i64 0, .int .i64 0, .int .i64 0, .int .i64 0, .int .u32 0, .int .u32 0, .int .u32 0, .int .u32 0, .int .u32 0, .int .u32 0, .int .u32 0, .int .u32 0, .int .u32 0, .int .u32 0, .int .u32 0, .int .u32 0, .int .u32 0, .int .u32 0, .int .u32 0, .int .u32 0, .slice none 0 0, .slice none 0 0] 32)) hg5 (by simp; omega) (fun k hk => grown_ge hk hz4))
  clear hB5 hg5 BN O4 K4
  generalize w4.heap.size = rb at *
  go_loopw [9, 10] (fun q i wr => ∃ (k : Nat) (vm vw : Value), k ≤ n ∧ q = .int .i64 (stepsZ p k (startZ p)).2 ∧ i = .int .i64 k ∧ RoundF p w5 wr (w.heap.size + 1) rb k vm vw) (fun _ i _ => n - (intOf i).toNat)
  case atStart => exact ⟨0, _, _, Nat.zero_le _, rfl, rfl, ⟨MB3.out, O3.out, Below.refl _ _, AP4.out⟩⟩
  case round =>
    obtain ⟨k, vm, vw, hk, rfl, rfl, hR⟩ := hrel
    have hok := RunOk.steps k (RunOk.start HD.out hs0 hs1) (by have := HN.out; omega)
    have hrf := RunFits.steps HRT.out k (RunFits.start p) (RunOk.start HD.out hs0 hs1) (by have := HN.out; omega)
    rw [Nat.zero_add] at hok hrf
    have HKr := Lib.hid (K5.out.trans hR.bel)
    have HRF := Lib.hid (Res.fits_of hok hrf (by have := HN.out; omega))
    have hrbs : rb < wr.heap.size := hR.box.lt
    obtain ⟨M5, m5, rfl⟩ := (Row.of_own hR.own.mem).form
    obtain ⟨U5, u5, rfl⟩ := (Row.of_own hR.own.ws).form
    have z0 := hR.box.cell (resL_0 (r := (stepsZ p k (startZ p)).1))
    have BR := Lib.hid hR.box
    have OR := Lib.hid hR.own
    have APR := Lib.hid hR.apart
    have HBEL := Lib.hid hR.bel
    have NX := Lib.hid hR.own.regs
    have MX := Lib.hid hok.mem
    have HXM : Hid ((stepsZ p k (startZ p)).1.mem.length ≤ 65536) := by have := hok.size; have := HRC.out; show _ ≤ _; omega
    have HXW : Hid ((stepsZ p k (startZ p)).1.ws.length ≤ 100000) := by have := hok.ws; have := HN.out; show _ ≤ _; omega
    have HNK := Lib.hid hk
    clear hR hok hrf hk
    obtain ⟨e0, e1, e2⟩ := EF.out _ HKr.out
    cases he : ((stepsZ p k (startZ p)).1.e == 0)
    · have he0 := Lib.hid (show (stepsZ p k (startZ p)).1.e ≠ 0 by simpa using he)
      have HRUN := Lib.hid (show runZ p (n : Int) = (stepsZ p k (startZ p)).1 by rw [runZ_at HRT.out (clampZ_nat n (by have := HN.out; omega)) HNK.out (.inr he0.out)]; unfold fuelZ; rw [if_neg he0.out])
      have HRUNB := Lib.hid (show runZ p ((n : Int) + mo) = (stepsZ p k (startZ p)).1 by rw [show ((n : Int) + mo) = ((n + mo : Nat) : Int) by omega, runZ_at HRT.out (clampZ_nat (n + mo) (by have := HN.out; omega)) (Nat.le_trans HNK.out (Nat.le_add_right _ _)) (.inr he0.out)]; unfold fuelZ; rw [if_neg he0.out])
      generalize (stepsZ p k (startZ p)) = x5 at *
      have hkk : (decide ((k : Int) < n) = true ∧ decide (k < n) = true) ∨ (decide ((k : Int) < n) = false ∧ decide (k < n) = false) := by
        by_cases hlt : k < n
        · exact .inl ⟨decide_eq_true (by omega), decide_eq_true hlt⟩
        · exact .inr ⟨decide_eq_false (by omega), decide_eq_false hlt⟩
      rcases hkk with ⟨kq, kq2⟩ | ⟨kq, kq2⟩
      all_goals
        obtain ⟨Ra, hRa⟩ : ∃ R, R = runZ p (n : Int) := ⟨_, rfl⟩
        obtain ⟨Rb, hRb⟩ : ∃ R, R = runZ p ((n : Int) + mo) := ⟨_, rfl⟩
        have na : Hid (Ra.regs.length = 16) := hRa ▸ (runZ_ok HD.out).1
        have nb : Hid (Rb.regs.length = 16) := hRb ▸ (runZ_ok HD.out).1
        have ma : Hid (∀ b ∈ Ra.mem, 0 ≤ b ∧ b ≤ 255) := hRa ▸ (runZ_ok HD.out).2
        have mb : Hid (∀ b ∈ Rb.mem, 0 ≤ b ∧ b ≤ 255) := hRb ▸ (runZ_ok HD.out).2
        have HRa := Lib.hid hRa
        have HRb := Lib.hid hRb
        clear hRa hRb
        go_wp2_with fail
        refine (seqRun_any A D c d p wr (n : Int) (HP0.out _ (HL.out _ HKr.out)) HD.out (by omega)).mono ?_; rintro e w5 ⟨va, ua, rfl, hOa, hb5⟩
        rw [← HRa.out] at hOa ⊢
        have OA5 := Lib.hid hOa
        have APA := Lib.hid (RowsApart.of hOa BR.out.lt)
        obtain ⟨Aa, ca, rfl⟩ := (Row.of_own hOa.mem).form
        obtain ⟨Ba, da, rfl⟩ := (Row.of_own hOa.ws).form
        have HK5 := Lib.hid (HKr.out.trans (hb5.mono (by have := HKr.out.size; omega)))
        have BR5 := Lib.hid (BR.out.below hb5 BR.out.lt)
        have OR5 := Lib.hid (OR.out.below hb5)
        clear hOa hb5 e0 e1 e2 z0
        obtain ⟨e0, e1, e2⟩ := EF.out _ HK5.out
        have z5 := BR5.out.lt
        go_wp2_with (refine wpList_store_box rfl 32 (.tmp 11) (.tmp 72) rfl w5.heap.size 0 (resL Ra (.slice Aa Ra.mem.length ca) (.slice Ba Ra.ws.length da)) rfl rfl (resL noRes (.slice none 0 0) (.slice none 0 0)) (Box.new w5 (resL noRes (.slice none 0 0) (.slice none 0 0)) 32) (by rw [resL_len na.out, resL_len rfl]; exact Nat.le_refl _) 23 info_res (resL_len na.out) (resL_one rfl rfl) ?_; intro w6 hBa hg6; rw [splice_whole _ _ (by rw [resL_len na.out, resL_len rfl])] at hBa; have BA6 := Lib.hid hBa; have hng : some rb ≠ some w5.heap.size := (fun h => (by injection h with h; omega)); have BR6 := Lib.hid ((BR5.out.alloc (.cells #[.int .i64 0, .int .i64 0, .int .i64 0, .int .i64 0, .int .i64 0, .int .u32 0, .int .u32 0, .int .u32 0, .int .u32 0, .int .u32 0, .int .u32 0, .int .u32 0, .int .u32 0, .int .u32 0, .int .u32 0, .int .u32 0, .int .u32 0, .int .u32 0, .int .u32 0, .int .u32 0, .int .u32 0, .slice none 0 0, .slice none 0 0] 32)).grown hg6 hng); have HK6 := Lib.hid (Below.grown (HK5.out.alloc (by have := HK5.out.size; omega) (.cells #[.int .i64 0, .int .i64 0, .int .i64 0, .int .i64 0, .int .i64 0, .int .u32 0, .int .u32 0, .int .u32 0, .int .u32 0, .int .u32 0, .int .u32 0, .int .u32 0, .int .u32 0, .int .u32 0, .int .u32 0, .int .u32 0, .int .u32 0, .int .u32 0, .int .u32 0, .int .u32 0, .int .u32 0, .slice none 0 0, .slice none 0 0] 32)) hg6 (by have := HK5.out.size; simp; omega) (fun k hk => grown_ge hk (by have := HK5.out.size; omega))); have LB6 := Lib.hid (Below.grown ((Below.refl w5.heap.size w5).alloc (Nat.le_refl _) (.cells #[.int .i64 0, .int .i64 0, .int .i64 0, .int .i64 0, .int .i64 0, .int .u32 0, .int .u32 0, .int .u32 0, .int .u32 0, .int .u32 0, .int .u32 0, .int .u32 0, .int .u32 0, .int .u32 0, .int .u32 0, .int .u32 0, .int .u32 0, .int .u32 0, .int .u32 0, .int .u32 0, .int .u32 0, .slice none 0 0, .slice none 0 0] 32)) hg6 (by simp) (fun k hk => grown_ge hk (Nat.le_refl _))); have OR6 := Lib.hid (OR5.out.below LB6.out); have OA6 := Lib.hid (OA5.out.below LB6.out); clear hBa hg6 hng e0 e1 e2; obtain ⟨e0, e1, e2⟩ := EF.out _ HK6.out)
        refine (seqRun_any A D c d p w6 ((n : Int) + mo) (HP0.out _ (HL.out _ HK6.out)) HD.out (by omega)).mono ?_; rintro e w7 ⟨vb, ub, rfl, hOb, hb7⟩
        rw [← HRb.out] at hOb ⊢
        have OB7 := Lib.hid hOb
        obtain ⟨Ab, cb, rfl⟩ := (Row.of_own hOb.mem).form
        obtain ⟨Bb, db, rfl⟩ := (Row.of_own hOb.ws).form
        have HK7 := Lib.hid (HK6.out.trans (hb7.mono (by have := HK6.out.size; omega)))
        have BR7 := Lib.hid (BR6.out.below hb7 BR6.out.lt)
        have BA7 := Lib.hid (BA6.out.below hb7 BA6.out.lt)
        have OR7 := Lib.hid (OR6.out.below hb7)
        have OA7 := Lib.hid (OA6.out.below hb7)
        have hne57 : w5.heap.size < w7.heap.size := BA7.out.lt
        clear hOb hb7 e0 e1 e2
        obtain ⟨e0, e1, e2⟩ := EF.out _ HK7.out
        go_wp2_with (first
          | (refine wpList_store_box rfl 32 (.tmp 12) (.tmp 77) rfl w7.heap.size 0 (resL Rb (.slice Ab Rb.mem.length cb) (.slice Bb Rb.ws.length db)) rfl rfl (resL noRes (.slice none 0 0) (.slice none 0 0)) (Box.new w7 (resL noRes (.slice none 0 0) (.slice none 0 0)) 32) (by rw [resL_len nb.out, resL_len rfl]; exact Nat.le_refl _) 23 info_res (resL_len nb.out) (resL_one rfl rfl) ?_; intro w8 hBb hg8; rw [splice_whole _ _ (by rw [resL_len nb.out, resL_len rfl])] at hBb; have BB8 := Lib.hid hBb; have hng : some rb ≠ some w7.heap.size := (fun h => (by injection h with h; omega)); have hna : some w5.heap.size ≠ some w7.heap.size := (fun h => (by injection h with h; omega)); have BR8 := Lib.hid ((BR7.out.alloc (.cells #[.int .i64 0, .int .i64 0, .int .i64 0, .int .i64 0, .int .i64 0, .int .u32 0, .int .u32 0, .int .u32 0, .int .u32 0, .int .u32 0, .int .u32 0, .int .u32 0, .int .u32 0, .int .u32 0, .int .u32 0, .int .u32 0, .int .u32 0, .int .u32 0, .int .u32 0, .int .u32 0, .int .u32 0, .slice none 0 0, .slice none 0 0] 32)).grown hg8 hng); have BA8 := Lib.hid ((BA7.out.alloc (.cells #[.int .i64 0, .int .i64 0, .int .i64 0, .int .i64 0, .int .i64 0, .int .u32 0, .int .u32 0, .int .u32 0, .int .u32 0, .int .u32 0, .int .u32 0, .int .u32 0, .int .u32 0, .int .u32 0, .int .u32 0, .int .u32 0, .int .u32 0, .int .u32 0, .int .u32 0, .int .u32 0, .int .u32 0, .slice none 0 0, .slice none 0 0] 32)).grown hg8 hna); have HK8 := Lib.hid (Below.grown (HK7.out.alloc (by have := HK7.out.size; omega) (.cells #[.int .i64 0, .int .i64 0, .int .i64 0, .int .i64 0, .int .i64 0, .int .u32 0, .int .u32 0, .int .u32 0, .int .u32 0, .int .u32 0, .int .u32 0, .int .u32 0, .int .u32 0, .int .u32 0, .int .u32 0, .int .u32 0, .int .u32 0, .int .u32 0, .int .u32 0, .int .u32 0, .int .u32 0, .slice none 0 0, .slice none 0 0] 32)) hg8 (by have := HK7.out.size; simp; omega) (fun k hk => grown_ge hk (by have := HK7.out.size; omega))); have LB8 := Lib.hid (Below.grown ((Below.refl w7.heap.size w7).alloc (Nat.le_refl _) (.cells #[.int .i64 0, .int .i64 0, .int .i64 0, .int .i64 0, .int .i64 0, .int .u32 0, .int .u32 0, .int .u32 0, .int .u32 0, .int .u32 0, .int .u32 0, .int .u32 0, .int .u32 0, .int .u32 0, .int .u32 0, .int .u32 0, .int .u32 0, .int .u32 0, .int .u32 0, .int .u32 0, .int .u32 0, .slice none 0 0, .slice none 0 0] 32)) hg8 (by simp) (fun k hk => grown_ge hk (Nat.le_refl _))); have OR8 := Lib.hid (OR7.out.below LB8.out); have OA8 := Lib.hid (OA7.out.below LB8.out); have OB8 := Lib.hid (OB7.out.below LB8.out); have hr8 : rb < w8.heap.size := BR8.out.lt; have ha8 : w5.heap.size < w8.heap.size := BA8.out.lt; have hb8' : w7.heap.size < w8.heap.size := BB8.out.lt; clear hBb hg8 hng hna e0 e1 e2; obtain ⟨e0, e1, e2⟩ := EF.out _ HK8.out; have z0 := BR8.out.cell (resL_0 (r := x5.1)))
          | (refine wpList_load_box rfl 32 (.tmp 8) rfl rb 0 rfl (resL x5.1 (.slice M5 x5.1.mem.length m5) (.slice U5 x5.1.ws.length u5)) (resL x5.1 (.slice M5 x5.1.mem.length m5) (.slice U5 x5.1.ws.length u5)) BR8.out (fun j v hv => by rw [Nat.zero_add]; exact hv) _ Try.underlying32 rfl 23 info_res (resL_len NX.out) ?_))
        refine (seqStep_any A D c d p M5 U5 m5 u5 x5.1 w8 x5.2 (HP0.out _ (HL.out _ HK8.out)) OR8.out.rows (by have := HXM.out; omega) (by have := HXW.out; omega) HRF.out).mono ?_; rintro e w9 ⟨vs, us, rfl, hOs, hb9⟩
        rw [stepZ_stay (.inl he0.out)] at hOs ⊢
        have OS9 := Lib.hid hOs
        obtain ⟨As, cs, rfl⟩ := (Row.of_own hOs.mem).form
        obtain ⟨Bs, ds, rfl⟩ := (Row.of_own hOs.ws).form
        have HK9 := Lib.hid (HK8.out.trans (hb9.mono (by have := HK8.out.size; omega)))
        have BR9 := Lib.hid (BR8.out.below hb9 hr8)
        have BA9 := Lib.hid (BA8.out.below hb9 ha8)
        have BB9 := Lib.hid (BB8.out.below hb9 hb8')
        have OR9 := Lib.hid (OR8.out.below hb9)
        have OA9 := Lib.hid (OA8.out.below hb9)
        have OB9 := Lib.hid (OB8.out.below hb9)
        have hr9 : rb < w9.heap.size := BR9.out.lt
        have ha9 : w5.heap.size < w9.heap.size := BA9.out.lt
        have hb9' : w7.heap.size < w9.heap.size := BB9.out.lt
        clear hOs hb9 e0 e1 e2 z0
        go_wp2_with (first
          | (refine wpList_store_box rfl 32 (.tmp 13) (.tmp 106) rfl w9.heap.size 0 (resL x5.1 (.slice As x5.1.mem.length cs) (.slice Bs x5.1.ws.length ds)) rfl rfl (resL noRes (.slice none 0 0) (.slice none 0 0)) (Box.new w9 (resL noRes (.slice none 0 0) (.slice none 0 0)) 32) (by rw [resL_len NX.out, resL_len rfl]; exact Nat.le_refl _) 23 info_res (resL_len NX.out) (resL_one rfl rfl) ?_; intro w10 hBs hg10; rw [splice_whole _ _ (by rw [resL_len NX.out, resL_len rfl])] at hBs; have BS10 := Lib.hid hBs; have n1 : some rb ≠ some w9.heap.size := (fun h => (by injection h with h; omega)); have n2 : some w5.heap.size ≠ some w9.heap.size := (fun h => (by injection h with h; omega)); have n3 : some w7.heap.size ≠ some w9.heap.size := (fun h => (by injection h with h; omega)); have BR10 := Lib.hid ((BR9.out.alloc (.cells #[.int .i64 0, .int .i64 0, .int .i64 0, .int .i64 0, .int .i64 0, .int .u32 0, .int .u32 0, .int .u32 0, .int .u32 0, .int .u32 0, .int .u32 0, .int .u32 0, .int .u32 0, .int .u32 0, .int .u32 0, .int .u32 0, .int .u32 0, .int .u32 0, .int .u32 0, .int .u32 0, .int .u32 0, .slice none 0 0, .slice none 0 0] 32)).grown hg10 n1); have BA10 := Lib.hid ((BA9.out.alloc (.cells #[.int .i64 0, .int .i64 0, .int .i64 0, .int .i64 0, .int .i64 0, .int .u32 0, .int .u32 0, .int .u32 0, .int .u32 0, .int .u32 0, .int .u32 0, .int .u32 0, .int .u32 0, .int .u32 0, .int .u32 0, .int .u32 0, .int .u32 0, .int .u32 0, .int .u32 0, .int .u32 0, .int .u32 0, .slice none 0 0, .slice none 0 0] 32)).grown hg10 n2); have BB10 := Lib.hid ((BB9.out.alloc (.cells #[.int .i64 0, .int .i64 0, .int .i64 0, .int .i64 0, .int .i64 0, .int .u32 0, .int .u32 0, .int .u32 0, .int .u32 0, .int .u32 0, .int .u32 0, .int .u32 0, .int .u32 0, .int .u32 0, .int .u32 0, .int .u32 0, .int .u32 0, .int .u32 0, .int .u32 0, .int .u32 0, .int .u32 0, .slice none 0 0, .slice none 0 0] 32)).grown hg10 n3); have LB10 := Lib.hid (Below.grown ((Below.refl w9.heap.size w9).alloc (Nat.le_refl _) (.cells #[.int .i64 0, .int .i64 0, .int .i64 0, .int .i64 0, .int .i64 0, .int .u32 0, .int .u32 0, .int .u32 0, .int .u32 0, .int .u32 0, .int .u32 0, .int .u32 0, .int .u32 0, .int .u32 0, .int .u32 0, .int .u32 0, .int .u32 0, .int .u32 0, .int .u32 0, .int .u32 0, .int .u32 0, .slice none 0 0, .slice none 0 0] 32)) hg10 (by simp) (fun k hk => grown_ge hk (Nat.le_refl _))); have OR10 := Lib.hid (OR9.out.below LB10.out); have OA10 := Lib.hid (OA9.out.below LB10.out); have OB10 := Lib.hid (OB9.out.below LB10.out); have OS10 := Lib.hid (OS9.out.below LB10.out); have HL10 := Lib.hid ((HL.out _ HK9.out).trans (LB10.out.mono (HL.out _ HK9.out).size)); clear hBs hg10 n1 n2 n3)
          | (refine wpList_load_box rfl 32 (.tmp 11) rfl w5.heap.size 0 rfl (resL Ra (.slice Aa Ra.mem.length ca) (.slice Ba Ra.ws.length da)) (resL Ra (.slice Aa Ra.mem.length ca) (.slice Ba Ra.ws.length da)) BA10.out (fun j v hv => by rw [Nat.zero_add]; exact hv) _ Try.underlying32 rfl 23 info_res (resL_len na.out) ?_)
          | (refine wpList_load_box rfl 32 (.tmp 8) rfl rb 0 rfl (resL x5.1 (.slice M5 x5.1.mem.length m5) (.slice U5 x5.1.ws.length u5)) (resL x5.1 (.slice M5 x5.1.mem.length m5) (.slice U5 x5.1.ws.length u5)) BR10.out (fun j v hv => by rw [Nat.zero_add]; exact hv) _ Try.underlying32 rfl 23 info_res (resL_len NX.out) ?_))
        refine (refSameRes_any Ra x5.1 Aa Ba M5 U5 ca da m5 u5 _ OA10.out.rows OR10.out.rows ma.out MX.out).mono ?_; rintro e w11 ⟨rfl, hb11⟩
        rw [(sameB_iff Ra x5.1).2 (HRa.out.trans HRUN.out)]
        have BR11 := Lib.hid (BR10.out.below hb11 BR10.out.lt)
        have BB11 := Lib.hid (BB10.out.below hb11 BB10.out.lt)
        have BS11 := Lib.hid (BS10.out.below hb11 BS10.out.lt)
        have OR11 := Lib.hid (OR10.out.below hb11)
        have OB11 := Lib.hid (OB10.out.below hb11)
        have OS11 := Lib.hid (OS10.out.below hb11)
        have HL11 := Lib.hid (HL10.out.trans (hb11.mono HL10.out.size))
        clear hb11
        go_wp2_with (first
          | (refine wpList_load_box rfl 32 (.tmp 12) rfl w7.heap.size 0 rfl (resL Rb (.slice Ab Rb.mem.length cb) (.slice Bb Rb.ws.length db)) (resL Rb (.slice Ab Rb.mem.length cb) (.slice Bb Rb.ws.length db)) BB11.out (fun j v hv => by rw [Nat.zero_add]; exact hv) _ Try.underlying32 rfl 23 info_res (resL_len nb.out) ?_)
          | (refine wpList_load_box rfl 32 (.tmp 8) rfl rb 0 rfl (resL x5.1 (.slice M5 x5.1.mem.length m5) (.slice U5 x5.1.ws.length u5)) (resL x5.1 (.slice M5 x5.1.mem.length m5) (.slice U5 x5.1.ws.length u5)) BR11.out (fun j v hv => by rw [Nat.zero_add]; exact hv) _ Try.underlying32 rfl 23 info_res (resL_len NX.out) ?_))
        refine (refSameRes_any Rb x5.1 Ab Bb M5 U5 cb db m5 u5 _ OB11.out.rows OR11.out.rows mb.out MX.out).mono ?_; rintro e w12 ⟨rfl, hb12⟩
        rw [(sameB_iff Rb x5.1).2 (HRb.out.trans HRUNB.out)]
        have BR12 := Lib.hid (BR11.out.below hb12 BR11.out.lt)
        have BS12 := Lib.hid (BS11.out.below hb12 BS11.out.lt)
        have OR12 := Lib.hid (OR11.out.below hb12)
        have OS12 := Lib.hid (OS11.out.below hb12)
        have HL12 := Lib.hid (HL11.out.trans (hb12.mono HL11.out.size))
        clear hb12
        go_wp2_with (first
          | (refine wpList_load_box rfl 32 (.tmp 13) rfl w9.heap.size 0 rfl (resL x5.1 (.slice As x5.1.mem.length cs) (.slice Bs x5.1.ws.length ds)) (resL x5.1 (.slice As x5.1.mem.length cs) (.slice Bs x5.1.ws.length ds)) BS12.out (fun j v hv => by rw [Nat.zero_add]; exact hv) _ Try.underlying32 rfl 23 info_res (resL_len NX.out) ?_)
          | (refine wpList_load_box rfl 32 (.tmp 8) rfl rb 0 rfl (resL x5.1 (.slice M5 x5.1.mem.length m5) (.slice U5 x5.1.ws.length u5)) (resL x5.1 (.slice M5 x5.1.mem.length m5) (.slice U5 x5.1.ws.length u5)) BR12.out (fun j v hv => by rw [Nat.zero_add]; exact hv) _ Try.underlying32 rfl 23 info_res (resL_len NX.out) ?_))
        refine (refSameRes_any x5.1 x5.1 As Bs M5 U5 cs ds m5 u5 _ OS12.out.rows OR12.out.rows MX.out MX.out).mono ?_; rintro e w13 ⟨rfl, hb13⟩
        rw [(sameB_iff x5.1 x5.1).2 rfl]
        have HL13 := Lib.hid (HL12.out.trans (hb13.mono HL12.out.size))
        clear hb13
        go_wp2_with fail
        go_ret
        exact ⟨rfl, HL13.out⟩
    · have he0 := Lib.hid (show (stepsZ p k (startZ p)).1.e = 0 by simpa using he)
      by_cases hlt : k < n
      · have k0 : (0 : Int) ≤ k := by omega
        have kq : decide ((k : Int) < n) = true := decide_eq_true (by omega)
        have kq2 : decide (k < n) = true := decide_eq_true hlt
        have hsu := Lib.hid (stepsZ_succ p k (startZ p))
        have HK1 := Lib.hid (show k + 1 ≤ n from hlt)
        have hk7 : (k : Int) ≤ 100000 := by have := HN.out; omega
        go_wp2_with (refine wpList_load_box rfl 32 (.tmp 8) rfl rb 0 rfl (resL (stepsZ p k (startZ p)).1 (.slice M5 (stepsZ p k (startZ p)).1.mem.length m5) (.slice U5 (stepsZ p k (startZ p)).1.ws.length u5)) (resL (stepsZ p k (startZ p)).1 (.slice M5 (stepsZ p k (startZ p)).1.mem.length m5) (.slice U5 (stepsZ p k (startZ p)).1.ws.length u5)) BR.out (fun j v hv => by rw [Nat.zero_add]; exact hv) _ Try.underlying32 rfl 23 info_res (resL_len NX.out) ?_)
        refine (seqStep_any A D c d p M5 U5 m5 u5 (stepsZ p k (startZ p)).1 wr (stepsZ p k (startZ p)).2 (HP0.out _ (HL.out _ HKr.out)) OR.out.rows (by have := HXM.out; omega) (by have := HXW.out; omega) HRF.out).mono ?_; rintro e w6 ⟨vm5, vw5, rfl, hO5, hb5⟩
        rw [← hsu.out] at hO5 ⊢
        have hv1 := own_one hO5.mem
        have hv2 := own_one hO5.ws
        have N6 := Lib.hid hO5.regs
        have BX5 := Lib.hid (BR.out.below hb5 hrbs)
        have hbel := Lib.hid (HBEL.out.trans (hb5.mono (by omega)))
        have O5 := Lib.hid (hO5.base (show w.heap.size + 1 ≤ wr.heap.size by omega))
        have AP5 := Lib.hid (RowsApart.of hO5 hrbs)
        clear hO5 hb5
        go_wp2_with (refine wpList_store_box rfl 32 (.tmp 8) (.tmp 68) rfl rb 0 (resL (stepsZ p (k + 1) (startZ p)).1 vm5 vw5) rfl rfl (resL (stepsZ p k (startZ p)).1 (.slice M5 (stepsZ p k (startZ p)).1.mem.length m5) (.slice U5 (stepsZ p k (startZ p)).1.ws.length u5)) BX5.out (by rw [resL_len N6.out, resL_len NX.out]; exact Nat.le_refl _) 23 info_res (resL_len N6.out) (resL_one hv1 hv2) ?_; intro w7 hB6' hg6'; rw [splice_whole _ _ (by rw [resL_len N6.out, resL_len NX.out])] at hB6'; have hB6 := Lib.hid hB6'; have hg6 := Lib.hid hg6'; clear hB6' hg6')
        go_roundw
        case rel => exact ⟨k + 1, vm5, vw5, HK1.out, rfl, by go_num, ⟨hB6.out, O5.out.grownA AP5.out hg6.out, Below.grown hbel.out hg6.out (by have := BX5.out.lt; omega) (fun k hk => grown_ge hk (by omega)), AP5.out⟩⟩
        case measure => simp [intOf]; omega
      · have kq : decide ((k : Int) < n) = false := decide_eq_false (by omega)
        have kq2 : decide (k < n) = false := decide_eq_false hlt
        have HRUN := Lib.hid (show runZ p (n : Int) = { (stepsZ p k (startZ p)).1 with e := 3 } by rw [runZ_at HRT.out (clampZ_nat n (by have := HN.out; omega)) HNK.out (.inl (by have := HNK.out; omega))]; unfold fuelZ; rw [if_pos he0.out])
        have HGR := Lib.hid (runZ_more (n := n) (m := mo) HD.out HRT.out (by have := HN.out; omega))
        clear hlt
        generalize (stepsZ p k (startZ p)) = x5 at *
        obtain ⟨Ra, hRa⟩ : ∃ R, R = runZ p (n : Int) := ⟨_, rfl⟩
        obtain ⟨Rb, hRb⟩ : ∃ R, R = runZ p ((n : Int) + mo) := ⟨_, rfl⟩
        have na : Hid (Ra.regs.length = 16) := hRa ▸ (runZ_ok HD.out).1
        have nb : Hid (Rb.regs.length = 16) := hRb ▸ (runZ_ok HD.out).1
        have ma : Hid (∀ b ∈ Ra.mem, 0 ≤ b ∧ b ≤ 255) := hRa ▸ (runZ_ok HD.out).2
        have mb : Hid (∀ b ∈ Rb.mem, 0 ≤ b ∧ b ≤ 255) := hRb ▸ (runZ_ok HD.out).2
        have HRa := Lib.hid hRa
        have HRb := Lib.hid hRb
        clear hRa hRb
        go_wp2_with fail
        refine (seqRun_any A D c d p wr (n : Int) (HP0.out _ (HL.out _ HKr.out)) HD.out (by omega)).mono ?_; rintro e w5 ⟨va, ua, rfl, hOa, hb5⟩
        rw [← HRa.out] at hOa ⊢
        have OA5 := Lib.hid hOa
        have APA := Lib.hid (RowsApart.of hOa BR.out.lt)
        obtain ⟨Aa, ca, rfl⟩ := (Row.of_own hOa.mem).form
        obtain ⟨Ba, da, rfl⟩ := (Row.of_own hOa.ws).form
        have HK5 := Lib.hid (HKr.out.trans (hb5.mono (by have := HKr.out.size; omega)))
        have BR5 := Lib.hid (BR.out.below hb5 BR.out.lt)
        have OR5 := Lib.hid (OR.out.below hb5)
        clear hOa hb5 e0 e1 e2 z0
        obtain ⟨e0, e1, e2⟩ := EF.out _ HK5.out
        have z5 := BR5.out.lt
        go_wp2_with (refine wpList_store_box rfl 32 (.tmp 11) (.tmp 72) rfl w5.heap.size 0 (resL Ra (.slice Aa Ra.mem.length ca) (.slice Ba Ra.ws.length da)) rfl rfl (resL noRes (.slice none 0 0) (.slice none 0 0)) (Box.new w5 (resL noRes (.slice none 0 0) (.slice none 0 0)) 32) (by rw [resL_len na.out, resL_len rfl]; exact Nat.le_refl _) 23 info_res (resL_len na.out) (resL_one rfl rfl) ?_; intro w6 hBa hg6; rw [splice_whole _ _ (by rw [resL_len na.out, resL_len rfl])] at hBa; have BA6 := Lib.hid hBa; have hng : some rb ≠ some w5.heap.size := (fun h => (by injection h with h; omega)); have BR6 := Lib.hid ((BR5.out.alloc (.cells #[.int .i64 0, .int .i64 0, .int .i64 0, .int .i64 0, .int .i64 0, .int .u32 0, .int .u32 0, .int .u32 0, .int .u32 0, .int .u32 0, .int .u32 0, .int .u32 0, .int .u32 0, .int .u32 0, .int .u32 0, .int .u32 0, .int .u32 0, .int .u32 0, .int .u32 0, .int .u32 0, .int .u32 0, .slice none 0 0, .slice none 0 0] 32)).grown hg6 hng); have HK6 := Lib.hid (Below.grown (HK5.out.alloc (by have := HK5.out.size; omega) (.cells #[.int .i64 0, .int .i64 0, .int .i64 0, .int .i64 0, .int .i64 0, .int .u32 0, .int .u32 0, .int .u32 0, .int .u32 0, .int .u32 0, .int .u32 0, .int .u32 0, .int .u32 0, .int .u32 0, .int .u32 0, .int .u32 0, .int .u32 0, .int .u32 0, .int .u32 0, .int .u32 0, .int .u32 0, .slice none 0 0, .slice none 0 0] 32)) hg6 (by have := HK5.out.size; simp; omega) (fun k hk => grown_ge hk (by have := HK5.out.size; omega))); have LB6 := Lib.hid (Below.grown ((Below.refl w5.heap.size w5).alloc (Nat.le_refl _) (.cells #[.int .i64 0, .int .i64 0, .int .i64 0, .int .i64 0, .int .i64 0, .int .u32 0, .int .u32 0, .int .u32 0, .int .u32 0, .int .u32 0, .int .u32 0, .int .u32 0, .int .u32 0, .int .u32 0, .int .u32 0, .int .u32 0, .int .u32 0, .int .u32 0, .int .u32 0, .int .u32 0, .int .u32 0, .slice none 0 0, .slice none 0 0] 32)) hg6 (by simp) (fun k hk => grown_ge hk (Nat.le_refl _))); have OR6 := Lib.hid (OR5.out.below LB6.out); have OA6 := Lib.hid (OA5.out.below LB6.out); clear hBa hg6 hng e0 e1 e2; obtain ⟨e0, e1, e2⟩ := EF.out _ HK6.out)
        refine (seqRun_any A D c d p w6 ((n : Int) + mo) (HP0.out _ (HL.out _ HK6.out)) HD.out (by omega)).mono ?_; rintro e w7 ⟨vb, ub, rfl, hOb, hb7⟩
        rw [← HRb.out] at hOb ⊢
        have OB7 := Lib.hid hOb
        obtain ⟨Ab, cb, rfl⟩ := (Row.of_own hOb.mem).form
        obtain ⟨Bb, db, rfl⟩ := (Row.of_own hOb.ws).form
        have HK7 := Lib.hid (HK6.out.trans (hb7.mono (by have := HK6.out.size; omega)))
        have BR7 := Lib.hid (BR6.out.below hb7 BR6.out.lt)
        have BA7 := Lib.hid (BA6.out.below hb7 BA6.out.lt)
        have OR7 := Lib.hid (OR6.out.below hb7)
        have OA7 := Lib.hid (OA6.out.below hb7)
        have hne57 : w5.heap.size < w7.heap.size := BA7.out.lt
        clear hOb hb7 e0 e1 e2
        obtain ⟨e0, e1, e2⟩ := EF.out _ HK7.out
        go_wp2_with (first
          | (refine wpList_store_box rfl 32 (.tmp 12) (.tmp 77) rfl w7.heap.size 0 (resL Rb (.slice Ab Rb.mem.length cb) (.slice Bb Rb.ws.length db)) rfl rfl (resL noRes (.slice none 0 0) (.slice none 0 0)) (Box.new w7 (resL noRes (.slice none 0 0) (.slice none 0 0)) 32) (by rw [resL_len nb.out, resL_len rfl]; exact Nat.le_refl _) 23 info_res (resL_len nb.out) (resL_one rfl rfl) ?_; intro w8 hBb hg8; rw [splice_whole _ _ (by rw [resL_len nb.out, resL_len rfl])] at hBb; have BB8 := Lib.hid hBb; have hng : some rb ≠ some w7.heap.size := (fun h => (by injection h with h; omega)); have hna : some w5.heap.size ≠ some w7.heap.size := (fun h => (by injection h with h; omega)); have BR8 := Lib.hid ((BR7.out.alloc (.cells #[.int .i64 0, .int .i64 0, .int .i64 0, .int .i64 0, .int .i64 0, .int .u32 0, .int .u32 0, .int .u32 0, .int .u32 0, .int .u32 0, .int .u32 0, .int .u32 0, .int .u32 0, .int .u32 0, .int .u32 0, .int .u32 0, .int .u32 0, .int .u32 0, .int .u32 0, .int .u32 0, .int .u32 0, .slice none 0 0, .slice none 0 0] 32)).grown hg8 hng); have BA8 := Lib.hid ((BA7.out.alloc (.cells #[.int .i64 0, .int .i64 0, .int .i64 0, .int .i64 0, .int .i64 0, .int .u32 0, .int .u32 0, .int .u32 0, .int .u32 0, .int .u32 0, .int .u32 0, .int .u32 0, .int .u32 0, .int .u32 0, .int .u32 0, .int .u32 0, .int .u32 0, .int .u32 0, .int .u32 0, .int .u32 0, .int .u32 0, .slice none 0 0, .slice none 0 0] 32)).grown hg8 hna); have HK8 := Lib.hid (Below.grown (HK7.out.alloc (by have := HK7.out.size; omega) (.cells #[.int .i64 0, .int .i64 0, .int .i64 0, .int .i64 0, .int .i64 0, .int .u32 0, .int .u32 0, .int .u32 0, .int .u32 0, .int .u32 0, .int .u32 0, .int .u32 0, .int .u32 0, .int .u32 0, .int .u32 0, .int .u32 0, .int .u32 0, .int .u32 0, .int .u32 0, .int .u32 0, .int .u32 0, .slice none 0 0, .slice none 0 0] 32)) hg8 (by have := HK7.out.size; simp; omega) (fun k hk => grown_ge hk (by have := HK7.out.size; omega))); have LB8 := Lib.hid (Below.grown ((Below.refl w7.heap.size w7).alloc (Nat.le_refl _) (.cells #[.int .i64 0, .int .i64 0, .int .i64 0, .int .i64 0, .int .i64 0, .int .u32 0, .int .u32 0, .int .u32 0, .int .u32 0, .int .u32 0, .int .u32 0, .int .u32 0, .int .u32 0, .int .u32 0, .int .u32 0, .int .u32 0, .int .u32 0, .int .u32 0, .int .u32 0, .int .u32 0, .int .u32 0, .slice none 0 0, .slice none 0 0] 32)) hg8 (by simp) (fun k hk => grown_ge hk (Nat.le_refl _))); have OR8 := Lib.hid (OR7.out.below LB8.out); have OA8 := Lib.hid (OA7.out.below LB8.out); have OB8 := Lib.hid (OB7.out.below LB8.out); have hr8 : rb < w8.heap.size := BR8.out.lt; have ha8 : w5.heap.size < w8.heap.size := BA8.out.lt; have hb8' : w7.heap.size < w8.heap.size := BB8.out.lt; clear hBb hg8 hng hna e0 e1 e2; obtain ⟨e0, e1, e2⟩ := EF.out _ HK8.out; have z0 := BR8.out.cell (resL_0 (r := x5.1)); have d0 := BR8.out.frozen 0; have BR9 : Hid (Box (w8.setCell ⟨rb, 0, none⟩ (.int .i64 3)) rb (resL { x5.1 with e := 3 } (.slice M5 x5.1.mem.length m5) (.slice U5 x5.1.ws.length u5))) := (by have := BR8.out.setCell 0 (.int .i64 3); rwa [resL_set0] at this); have BA9 := Lib.hid (BA8.out.setCell_other (show w5.heap.size ≠ rb by omega) 0 (.int .i64 3)); have BB9 := Lib.hid (BB8.out.setCell_other (show w7.heap.size ≠ rb by omega) 0 (.int .i64 3)); have OR9 := Lib.hid (OR8.out.setRB APR.out 0 (.int .i64 3) hr8); have OA9 := Lib.hid (OA8.out.setRB APA.out 0 (.int .i64 3) hr8); have HL9 := Lib.hid ((HL.out _ HK8.out).setCell (p := ⟨rb, 0, none⟩) (show w.heap.size ≤ rb by omega) (.int .i64 3)))
          | (refine wpList_load_box rfl 32 (.tmp 11) rfl w5.heap.size 0 rfl (resL Ra (.slice Aa Ra.mem.length ca) (.slice Ba Ra.ws.length da)) (resL Ra (.slice Aa Ra.mem.length ca) (.slice Ba Ra.ws.length da)) BA9.out (fun j v hv => by rw [Nat.zero_add]; exact hv) _ Try.underlying32 rfl 23 info_res (resL_len na.out) ?_)
          | (refine wpList_load_box rfl 32 (.tmp 8) rfl rb 0 rfl (resL { x5.1 with e := 3 } (.slice M5 x5.1.mem.length m5) (.slice U5 x5.1.ws.length u5)) (resL { x5.1 with e := 3 } (.slice M5 x5.1.mem.length m5) (.slice U5 x5.1.ws.length u5)) BR9.out (fun j v hv => by rw [Nat.zero_add]; exact hv) _ Try.underlying32 rfl 23 info_res (resL_len (r := { x5.1 with e := 3 }) NX.out) ?_))
        refine (refSameRes_any Ra { x5.1 with e := 3 } Aa Ba M5 U5 ca da m5 u5 _ OA9.out.rows (show ResV _ _ _ _ { x5.1 with e := 3 } from ⟨OR9.out.rows.mem, OR9.out.rows.ws, NX.out⟩) ma.out MX.out).mono ?_; rintro e w10 ⟨rfl, hb10⟩
        rw [(sameB_iff Ra { x5.1 with e := 3 }).2 (HRa.out.trans HRUN.out)]
        have HL10 := Lib.hid (HL9.out.trans (hb10.mono HL9.out.size))
        have BA10 := BA9.out.below hb10 (by simp [World.setCell]; omega)
        have BB10 := BB9.out.below hb10 (by simp [World.setCell]; omega)
        have a22 := BA10.cell (resL_22 na.out)
        have b22 := BB10.cell (resL_22 nb.out)
        have a4 := BA10.cell (resL_4 (r := Ra))
        have b4 := BB10.cell (resL_4 (r := Rb))
        have hgw : (Ra.ws.length : Int) ≤ Rb.ws.length := by have := HGR.out.1; rw [← HRa.out, ← HRb.out] at this; omega
        have hgs : Ra.st ≤ Rb.st := by have := HGR.out.2; rw [← HRa.out, ← HRb.out] at this; exact this
        have q1 : decide ((Ra.ws.length : Int) ≤ Rb.ws.length) = true := decide_eq_true hgw
        have q1' : decide (Ra.ws.length ≤ Rb.ws.length) = true := decide_eq_true (by omega)
        have q2 : decide (Ra.st ≤ Rb.st) = true := decide_eq_true hgs
        clear BA10 BB10 hb10 e0 e1 e2
        go_wp2_with fail
        go_ret
        exact ⟨rfl, HL10.out⟩

theorem seqSteps_walk (A0 : Option Addr) (c0 : Nat) (D0 : Option Addr) (e0 : Nat) (z0 : Prog) (a1 a2 : Int) (w : World) (f0 : z0.Fits) (r0 : ProgV w w.heap.size (.slice A0 z0.code.length c0) (.slice D0 z0.data.length e0) z0) (w1 : -9223372036854775808 ≤ a1 ∧ a1 ≤ 9223372036854775807) (w2 : -9223372036854775808 ≤ a2 ∧ a2 ≤ 9223372036854775807) :
    Calls Try.prog 4 #[.agg #[.slice A0 z0.code.length c0, .int .i64 z0.size, .slice D0 z0.data.length e0], .int .i64 a1, .int .i64 a2] w fun e w' => e = .returned (.bool true) ∧ Below w.heap.size w w' := by
  cases hfew : fewB z0.code.length z0.data.length
  · exact seqSteps_few A0 D0 c0 e0 z0 a1 a2 w r0 f0 hfew
  by_cases hz : z0.size ≤ 500
  rotate_left
  · exact seqSteps_size A0 D0 c0 e0 z0 a1 a2 w r0 f0 hfew (by omega)
  cases hr : z0.right
  · exact seqSteps_wrong A0 D0 c0 e0 z0 a1 a2 w r0 f0 hfew hz hr
  by_cases ho : a1 < 0 ∨ 150 < a1 ∨ a2 < 0 ∨ 100 < a2
  · exact seqSteps_far A0 D0 c0 e0 z0 a1 a2 w r0 f0 hfew hz hr ho
  obtain ⟨n, rfl⟩ : ∃ n : Nat, a1 = (n : Int) := ⟨a1.toNat, by omega⟩
  obtain ⟨m, rfl⟩ : ∃ m : Nat, a2 = (m : Int) := ⟨a2.toNat, by omega⟩
  exact seqSteps_in A0 D0 c0 e0 z0 n m w r0 f0 hfew hz hr (by omega) (by omega)
end Go.Proofs.Ytjbobihiigeapaa.Words

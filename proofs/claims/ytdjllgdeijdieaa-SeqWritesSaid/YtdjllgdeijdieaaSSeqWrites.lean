/- The walk of SeqWrites: memory is what it was at first, with all writes, one by one. -/
import Derived.Test.YtdjllgdeijdieaaG11
import Derived.Test.YtdjllgdeijdieaaG13
import Derived.Test.YtdjllgdeijdieaaG12
import Derived.Test.YtdjllgdeijdieaaSWritesMath
import Derived.Test.YtdjllgdeijdieaaG04
namespace Go.Proofs.Ytdjllgdeijdieaa.Words
set_option maxRecDepth 100000
open Go.RowKit
set_option linter.unusedVariables false

theorem own_base' {w : World} {base b : Nat} {e : TypeId} {size : Nat} {v : Value} {n : Nat} {xs : List Value} (h : w.ownsRow base e size v n xs) (hb : b ≤ base) : w.ownsRow b e size v n xs := own_base h hb

set_option maxHeartbeats 1000000 in
theorem seqWrites_few (A D : Option Addr) (c d : Nat) (p : Prog) (fuel : Int) (w : World) (hp : ProgV w w.heap.size (.slice A p.code.length c) (.slice D p.data.length d) p) (hf : p.Fits) (hfew : fewB p.code.length p.data.length = false) :
    Calls Try.prog 3 #[.agg #[.slice A p.code.length c, .int .i64 p.size, .slice D p.data.length d], .int .i64 fuel] w fun e w' => e = .returned (.bool true) ∧ Below w.heap.size w w' := by
  have HF : Hid (fewB p.code.length p.data.length = false) := hfew
  clear hfew
  obtain ⟨u1, u2⟩ := hp.code.cap
  obtain ⟨u3, u4⟩ := hp.data.cap
  have hs : (w.alloc (.cells #[.slice A p.code.length c, .int .i64 p.size, .slice D p.data.length d] 25)).heap.size = w.heap.size + 1 := by simp
  have HB := Lib.hid ((Below.refl w.heap.size w).alloc (Nat.le_refl _) (.cells #[.slice A p.code.length c, .int .i64 p.size, .slice D p.data.length d] 25))
  have HP0 := Lib.hid (fun (x : World) (h : Below w.heap.size w x) => (hp.below h).more h.size)
  have e0 : (w.alloc (.cells #[.slice A p.code.length c, .int .i64 p.size, .slice D p.data.length d] 25)).cell? ⟨w.heap.size, 0, none⟩ = some (.slice A p.code.length c) := by go_simp
  have e1 : (w.alloc (.cells #[.slice A p.code.length c, .int .i64 p.size, .slice D p.data.length d] 25)).cell? ⟨w.heap.size, 1, none⟩ = some (.int .i64 p.size) := by go_simp
  have e2 : (w.alloc (.cells #[.slice A p.code.length c, .int .i64 p.size, .slice D p.data.length d] 25)).cell? ⟨w.heap.size, 2, none⟩ = some (.slice D p.data.length d) := by go_simp
  clear hp hf
  go_enter Try.func3, Try.ntmps3
  go_wp2_with fail
  generalize (w.alloc (.cells #[.slice A p.code.length c, .int .i64 p.size, .slice D p.data.length d] 25)) = W0 at *
  have EF := Lib.hid (fun (x : World) (h : Below (w.heap.size + 1) W0 x) => And.intro (below_cell h (Nat.lt_succ_self _) e0) (And.intro (below_cell h (Nat.lt_succ_self _) e1) (below_cell h (Nat.lt_succ_self _) e2)))
  have HL := Lib.hid (fun (x : World) (h : Below (w.heap.size + 1) W0 x) => HB.out.trans (h.mono (Nat.le_succ _)))
  clear e0 e1 e2
  refine (seqAlive_any _).mono ?_; rintro e w1 ⟨rfl, hb1⟩
  have k1 : Below (w.heap.size + 1) W0 w1 := hs ▸ hb1
  obtain ⟨e0, e1, e2⟩ := EF.out _ k1
  clear hb1
  go_wp2_with fail
  refine (few_any A D p.code.length c p.data.length d p.size _ (by omega) (by omega)).mono ?_; rintro e w2 ⟨rfl, hb2⟩
  rw [HF.out]
  have k2 := k1.trans (hb2.mono (by have := k1.size; omega))
  clear hb2 e0 e1 e2 k1
  obtain ⟨e0, e1, e2⟩ := EF.out _ k2
  go_wp2_with fail
  go_ret
  exact ⟨rfl, HL.out _ k2⟩

set_option maxHeartbeats 1000000 in
theorem seqWrites_size (A D : Option Addr) (c d : Nat) (p : Prog) (fuel : Int) (w : World) (hp : ProgV w w.heap.size (.slice A p.code.length c) (.slice D p.data.length d) p) (hf : p.Fits) (hfew : fewB p.code.length p.data.length = true) (hz : 500 < p.size) :
    Calls Try.prog 3 #[.agg #[.slice A p.code.length c, .int .i64 p.size, .slice D p.data.length d], .int .i64 fuel] w fun e w' => e = .returned (.bool true) ∧ Below w.heap.size w w' := by
  have HF : Hid (fewB p.code.length p.data.length = true) := hfew
  clear hfew
  obtain ⟨u1, u2⟩ := hp.code.cap
  obtain ⟨u3, u4⟩ := hp.data.cap
  have hs : (w.alloc (.cells #[.slice A p.code.length c, .int .i64 p.size, .slice D p.data.length d] 25)).heap.size = w.heap.size + 1 := by simp
  have HB := Lib.hid ((Below.refl w.heap.size w).alloc (Nat.le_refl _) (.cells #[.slice A p.code.length c, .int .i64 p.size, .slice D p.data.length d] 25))
  have HP0 := Lib.hid (fun (x : World) (h : Below w.heap.size w x) => (hp.below h).more h.size)
  have e0 : (w.alloc (.cells #[.slice A p.code.length c, .int .i64 p.size, .slice D p.data.length d] 25)).cell? ⟨w.heap.size, 0, none⟩ = some (.slice A p.code.length c) := by go_simp
  have e1 : (w.alloc (.cells #[.slice A p.code.length c, .int .i64 p.size, .slice D p.data.length d] 25)).cell? ⟨w.heap.size, 1, none⟩ = some (.int .i64 p.size) := by go_simp
  have e2 : (w.alloc (.cells #[.slice A p.code.length c, .int .i64 p.size, .slice D p.data.length d] 25)).cell? ⟨w.heap.size, 2, none⟩ = some (.slice D p.data.length d) := by go_simp
  clear hp hf
  go_enter Try.func3, Try.ntmps3
  go_wp2_with fail
  generalize (w.alloc (.cells #[.slice A p.code.length c, .int .i64 p.size, .slice D p.data.length d] 25)) = W0 at *
  have EF := Lib.hid (fun (x : World) (h : Below (w.heap.size + 1) W0 x) => And.intro (below_cell h (Nat.lt_succ_self _) e0) (And.intro (below_cell h (Nat.lt_succ_self _) e1) (below_cell h (Nat.lt_succ_self _) e2)))
  have HL := Lib.hid (fun (x : World) (h : Below (w.heap.size + 1) W0 x) => HB.out.trans (h.mono (Nat.le_succ _)))
  clear e0 e1 e2
  refine (seqAlive_any _).mono ?_; rintro e w1 ⟨rfl, hb1⟩
  have k1 : Below (w.heap.size + 1) W0 w1 := hs ▸ hb1
  obtain ⟨e0, e1, e2⟩ := EF.out _ k1
  clear hb1
  go_wp2_with fail
  refine (few_any A D p.code.length c p.data.length d p.size _ (by omega) (by omega)).mono ?_; rintro e w2 ⟨rfl, hb2⟩
  rw [HF.out]
  have k2 := k1.trans (hb2.mono (by have := k1.size; omega))
  clear hb2 e0 e1 e2 k1
  obtain ⟨e0, e1, e2⟩ := EF.out _ k2
  go_wp2_with fail
  go_ret
  exact ⟨rfl, HL.out _ k2⟩

set_option maxHeartbeats 1000000 in
theorem seqWrites_wrong (A D : Option Addr) (c d : Nat) (p : Prog) (fuel : Int) (w : World) (hp : ProgV w w.heap.size (.slice A p.code.length c) (.slice D p.data.length d) p) (hf : p.Fits) (hfew : fewB p.code.length p.data.length = true) (hz : p.size ≤ 500) (hr : p.right = false) :
    Calls Try.prog 3 #[.agg #[.slice A p.code.length c, .int .i64 p.size, .slice D p.data.length d], .int .i64 fuel] w fun e w' => e = .returned (.bool true) ∧ Below w.heap.size w w' := by
  have HF : Hid (fewB p.code.length p.data.length = true) := hfew
  have HRT : Hid (p.right = false) := hr
  clear hfew hr
  obtain ⟨u1, u2⟩ := hp.code.cap
  obtain ⟨u3, u4⟩ := hp.data.cap
  have hs : (w.alloc (.cells #[.slice A p.code.length c, .int .i64 p.size, .slice D p.data.length d] 25)).heap.size = w.heap.size + 1 := by simp
  have HB := Lib.hid ((Below.refl w.heap.size w).alloc (Nat.le_refl _) (.cells #[.slice A p.code.length c, .int .i64 p.size, .slice D p.data.length d] 25))
  have HP0 := Lib.hid (fun (x : World) (h : Below w.heap.size w x) => (hp.below h).more h.size)
  have e0 : (w.alloc (.cells #[.slice A p.code.length c, .int .i64 p.size, .slice D p.data.length d] 25)).cell? ⟨w.heap.size, 0, none⟩ = some (.slice A p.code.length c) := by go_simp
  have e1 : (w.alloc (.cells #[.slice A p.code.length c, .int .i64 p.size, .slice D p.data.length d] 25)).cell? ⟨w.heap.size, 1, none⟩ = some (.int .i64 p.size) := by go_simp
  have e2 : (w.alloc (.cells #[.slice A p.code.length c, .int .i64 p.size, .slice D p.data.length d] 25)).cell? ⟨w.heap.size, 2, none⟩ = some (.slice D p.data.length d) := by go_simp
  clear hp hf
  go_enter Try.func3, Try.ntmps3
  go_wp2_with fail
  generalize (w.alloc (.cells #[.slice A p.code.length c, .int .i64 p.size, .slice D p.data.length d] 25)) = W0 at *
  have EF := Lib.hid (fun (x : World) (h : Below (w.heap.size + 1) W0 x) => And.intro (below_cell h (Nat.lt_succ_self _) e0) (And.intro (below_cell h (Nat.lt_succ_self _) e1) (below_cell h (Nat.lt_succ_self _) e2)))
  have HL := Lib.hid (fun (x : World) (h : Below (w.heap.size + 1) W0 x) => HB.out.trans (h.mono (Nat.le_succ _)))
  clear e0 e1 e2
  refine (seqAlive_any _).mono ?_; rintro e w1 ⟨rfl, hb1⟩
  have k1 : Below (w.heap.size + 1) W0 w1 := hs ▸ hb1
  obtain ⟨e0, e1, e2⟩ := EF.out _ k1
  clear hb1
  go_wp2_with fail
  refine (few_any A D p.code.length c p.data.length d p.size _ (by omega) (by omega)).mono ?_; rintro e w2 ⟨rfl, hb2⟩
  rw [HF.out]
  have k2 := k1.trans (hb2.mono (by have := k1.size; omega))
  clear hb2 e0 e1 e2 k1
  obtain ⟨e0, e1, e2⟩ := EF.out _ k2
  go_wp2_with fail
  refine (refRight_any A c p.size D p.data.length d p.code _ (HP0.out _ (HL.out _ k2)).code u3 u4).mono ?_; rintro e w3 ⟨rfl, hb3⟩
  rw [show rightZ p.code p.size p.data.length = false from HRT.out]
  have k3 := k2.trans (hb3.mono (by have := k2.size; omega))
  clear hb3 e0 e1 e2 k2
  obtain ⟨e0, e1, e2⟩ := EF.out _ k3
  go_wp2_with fail
  go_ret
  exact ⟨rfl, HL.out _ k3⟩

set_option maxHeartbeats 1000000 in
theorem seqWrites_far (A D : Option Addr) (c d : Nat) (p : Prog) (fuel : Int) (w : World) (hp : ProgV w w.heap.size (.slice A p.code.length c) (.slice D p.data.length d) p) (hf : p.Fits) (hfew : fewB p.code.length p.data.length = true) (hz : p.size ≤ 500) (hr : p.right = true) (ho : fuel < 0 ∨ 300 < fuel) :
    Calls Try.prog 3 #[.agg #[.slice A p.code.length c, .int .i64 p.size, .slice D p.data.length d], .int .i64 fuel] w fun e w' => e = .returned (.bool true) ∧ Below w.heap.size w w' := by
  have HF : Hid (fewB p.code.length p.data.length = true) := hfew
  have HRT : Hid (p.right = true) := hr
  clear hfew hr
  obtain ⟨u1, u2⟩ := hp.code.cap
  obtain ⟨u3, u4⟩ := hp.data.cap
  have hs : (w.alloc (.cells #[.slice A p.code.length c, .int .i64 p.size, .slice D p.data.length d] 25)).heap.size = w.heap.size + 1 := by simp
  have HB := Lib.hid ((Below.refl w.heap.size w).alloc (Nat.le_refl _) (.cells #[.slice A p.code.length c, .int .i64 p.size, .slice D p.data.length d] 25))
  have HP0 := Lib.hid (fun (x : World) (h : Below w.heap.size w x) => (hp.below h).more h.size)
  have e0 : (w.alloc (.cells #[.slice A p.code.length c, .int .i64 p.size, .slice D p.data.length d] 25)).cell? ⟨w.heap.size, 0, none⟩ = some (.slice A p.code.length c) := by go_simp
  have e1 : (w.alloc (.cells #[.slice A p.code.length c, .int .i64 p.size, .slice D p.data.length d] 25)).cell? ⟨w.heap.size, 1, none⟩ = some (.int .i64 p.size) := by go_simp
  have e2 : (w.alloc (.cells #[.slice A p.code.length c, .int .i64 p.size, .slice D p.data.length d] 25)).cell? ⟨w.heap.size, 2, none⟩ = some (.slice D p.data.length d) := by go_simp
  clear hp hf
  go_enter Try.func3, Try.ntmps3
  go_wp2_with fail
  generalize (w.alloc (.cells #[.slice A p.code.length c, .int .i64 p.size, .slice D p.data.length d] 25)) = W0 at *
  have EF := Lib.hid (fun (x : World) (h : Below (w.heap.size + 1) W0 x) => And.intro (below_cell h (Nat.lt_succ_self _) e0) (And.intro (below_cell h (Nat.lt_succ_self _) e1) (below_cell h (Nat.lt_succ_self _) e2)))
  have HL := Lib.hid (fun (x : World) (h : Below (w.heap.size + 1) W0 x) => HB.out.trans (h.mono (Nat.le_succ _)))
  clear e0 e1 e2
  refine (seqAlive_any _).mono ?_; rintro e w1 ⟨rfl, hb1⟩
  have k1 : Below (w.heap.size + 1) W0 w1 := hs ▸ hb1
  obtain ⟨e0, e1, e2⟩ := EF.out _ k1
  clear hb1
  go_wp2_with fail
  refine (few_any A D p.code.length c p.data.length d p.size _ (by omega) (by omega)).mono ?_; rintro e w2 ⟨rfl, hb2⟩
  rw [HF.out]
  have k2 := k1.trans (hb2.mono (by have := k1.size; omega))
  clear hb2 e0 e1 e2 k1
  obtain ⟨e0, e1, e2⟩ := EF.out _ k2
  go_wp2_with fail
  refine (refRight_any A c p.size D p.data.length d p.code _ (HP0.out _ (HL.out _ k2)).code u3 u4).mono ?_; rintro e w3 ⟨rfl, hb3⟩
  rw [show rightZ p.code p.size p.data.length = true from HRT.out]
  have k3 := k2.trans (hb3.mono (by have := k2.size; omega))
  clear hb3 e0 e1 e2 k2
  obtain ⟨e0, e1, e2⟩ := EF.out _ k3
  go_wp2
  all_goals first
    | (exfalso; omega)
    | (go_ret; exact ⟨rfl, HL.out _ k3⟩)

set_option maxHeartbeats 3000000 in
theorem seqWrites_in (A D : Option Addr) (c d : Nat) (p : Prog) (n : Nat) (w : World) (hp : ProgV w w.heap.size (.slice A p.code.length c) (.slice D p.data.length d) p) (hf : p.Fits) (hfew : fewB p.code.length p.data.length = true) (hz : p.size ≤ 500) (hr : p.right = true) (hn : (n : Int) ≤ 300) :
    Calls Try.prog 3 #[.agg #[.slice A p.code.length c, .int .i64 p.size, .slice D p.data.length d], .int .i64 (n : Int)] w fun e w' => e = .returned (.bool true) ∧ Below w.heap.size w w' := by
  have HF : Hid (fewB p.code.length p.data.length = true) := hfew
  have HRT : Hid (p.right = true) := hr
  have HRC := Lib.hid (right_code hr)
  obtain ⟨km, hkm⟩ : ∃ k : Nat, p.size = (k : Int) := ⟨p.size.toNat, by have := HRC.out; omega⟩
  have HKM := Lib.hid hkm
  have HFL := Lib.hid (firstZ_len p km hkm (by have := HRC.out; omega))
  have HD := Lib.hid hf.2.2
  have hn0 : (0 : Int) ≤ n := by omega
  have hq1 : decide (500 < p.size) = false := decide_eq_false (by omega)
  have hq2 : decide ((n : Int) < 0) = false := decide_eq_false (by omega)
  have hq3 : decide (300 < (n : Int)) = false := decide_eq_false (by omega)
  clear hfew hr hkm
  obtain ⟨u1, u2⟩ := hp.code.cap
  obtain ⟨u3, u4⟩ := hp.data.cap
  have hs : (w.alloc (.cells #[.slice A p.code.length c, .int .i64 p.size, .slice D p.data.length d] 25)).heap.size = w.heap.size + 1 := by simp
  have HB := Lib.hid ((Below.refl w.heap.size w).alloc (Nat.le_refl _) (.cells #[.slice A p.code.length c, .int .i64 p.size, .slice D p.data.length d] 25))
  have HP0 := Lib.hid (fun (x : World) (h : Below w.heap.size w x) => (hp.below h).more h.size)
  have e0 : (w.alloc (.cells #[.slice A p.code.length c, .int .i64 p.size, .slice D p.data.length d] 25)).cell? ⟨w.heap.size, 0, none⟩ = some (.slice A p.code.length c) := by go_simp
  have e1 : (w.alloc (.cells #[.slice A p.code.length c, .int .i64 p.size, .slice D p.data.length d] 25)).cell? ⟨w.heap.size, 1, none⟩ = some (.int .i64 p.size) := by go_simp
  have e2 : (w.alloc (.cells #[.slice A p.code.length c, .int .i64 p.size, .slice D p.data.length d] 25)).cell? ⟨w.heap.size, 2, none⟩ = some (.slice D p.data.length d) := by go_simp
  clear hp hf
  go_enter Try.func3, Try.ntmps3
  go_wp2_with fail
  generalize (w.alloc (.cells #[.slice A p.code.length c, .int .i64 p.size, .slice D p.data.length d] 25)) = W0 at *
  have EF := Lib.hid (fun (x : World) (h : Below (w.heap.size + 1) W0 x) => And.intro (below_cell h (Nat.lt_succ_self _) e0) (And.intro (below_cell h (Nat.lt_succ_self _) e1) (below_cell h (Nat.lt_succ_self _) e2)))
  have HL := Lib.hid (fun (x : World) (h : Below (w.heap.size + 1) W0 x) => HB.out.trans (h.mono (Nat.le_succ _)))
  clear e0 e1 e2
  refine (seqAlive_any _).mono ?_; rintro e w1 ⟨rfl, hb1⟩
  have k1 : Below (w.heap.size + 1) W0 w1 := hs ▸ hb1
  obtain ⟨e0, e1, e2⟩ := EF.out _ k1
  clear hb1
  go_wp2_with fail
  refine (few_any A D p.code.length c p.data.length d p.size _ (by omega) (by omega)).mono ?_; rintro e w2 ⟨rfl, hb2⟩
  rw [HF.out]
  have k2 := k1.trans (hb2.mono (by have := k1.size; omega))
  clear hb2 e0 e1 e2 k1
  obtain ⟨e0, e1, e2⟩ := EF.out _ k2
  go_wp2_with fail
  refine (refRight_any A c p.size D p.data.length d p.code _ (HP0.out _ (HL.out _ k2)).code u3 u4).mono ?_; rintro e w3 ⟨rfl, hb3⟩
  rw [show rightZ p.code p.size p.data.length = true from HRT.out]
  have k3 := k2.trans (hb3.mono (by have := k2.size; omega))
  clear hb3 e0 e1 e2 k2
  obtain ⟨e0, e1, e2⟩ := EF.out _ k3
  obtain ⟨R, hR⟩ : ∃ R, R = runZ p (n : Int) := ⟨_, rfl⟩
  have NR : Hid (R.regs.length = 16) := hR ▸ (runZ_ok HD.out).1
  have MR : Hid (∀ b ∈ R.mem, 0 ≤ b ∧ b ≤ 255) := hR ▸ (runZ_ok HD.out).2
  have WO : Hid (WritesOk p R) := hR ▸ WritesOk.run HRT.out _
  have WS : Hid (R.ws.length ≤ 100000 ∧ (∀ x ∈ R.ws, x.Fits) ∧ (R.mem.length : Int) = p.size) := hR ▸ runZ_ws HD.out HRT.out
  have HR := Lib.hid hR
  clear hR
  go_wp2_with fail
  refine (seqRun_any A D c d p w3 (n : Int) (HP0.out _ (HL.out _ k3)) HD.out (by omega)).mono ?_; rintro e w4 ⟨va, ua, rfl, hOa, hb4⟩
  rw [← HR.out] at hOa ⊢
  have OA4 := Lib.hid hOa
  obtain ⟨Aa, ca, rfl⟩ := (Row.of_own hOa.mem).form
  obtain ⟨Ba, da, rfl⟩ := (Row.of_own hOa.ws).form
  have k4 := k3.trans (hb4.mono (by have := k3.size; omega))
  have K4 := Lib.hid k4
  have hz4 : w.heap.size + 1 ≤ w4.heap.size := by have := k4.size; omega
  clear hOa hb4 e0 e1 e2 k3 k4
  obtain ⟨e0, e1, e2⟩ := EF.out _ K4.out
  go_wp2_with (refine wpList_store_box rfl 34 (.tmp 6) (.tmp 39) rfl w4.heap.size 0 (resL R (.slice Aa R.mem.length ca) (.slice Ba R.ws.length da)) rfl rfl (resL noRes (.slice none 0 0) (.slice none 0 0)) (Box.new w4 (resL noRes (.slice none 0 0) (.slice none 0 0)) 34) (by rw [resL_len NR.out, resL_len rfl]; exact Nat.le_refl _) 23 info_res (resL_len NR.out) (resL_one rfl rfl) ?_; intro w5 hBa hg5; rw [splice_whole _ _ (by rw [resL_len NR.out, resL_len rfl])] at hBa; have BA5 := Lib.hid hBa; have K5 := Lib.hid (Below.grown (K4.out.alloc hz4 (.cells #[.int .i64 0, .int .i64 0, .int .i64 0, .int .i64 0, .int .i64 0, .int .u32 0, .int .u32 0, .int .u32 0, .int .u32 0, .int .u32 0, .int .u32 0, .int .u32 0, .int .u32 0, .int .u32 0, .int .u32 0, .int .u32 0, .int .u32 0, .int .u32 0, .int .u32 0, .int .u32 0, .int .u32 0, .slice none 0 0, .slice none 0 0] 34)) hg5 (by simp; omega) (fun k hk => grown_ge hk hz4)); have LB5 := Lib.hid (Below.grown ((Below.refl w4.heap.size w4).alloc (Nat.le_refl _) (.cells #[.int .i64 0, .int .i64 0, .int .i64 0, .int .i64 0, .int .i64 0, .int .u32 0, .int .u32 0, .int .u32 0, .int .u32 0, .int .u32 0, .int .u32 0, .int .u32 0, .int .u32 0, .int .u32 0, .int .u32 0, .int .u32 0, .int .u32 0, .int .u32 0, .int .u32 0, .int .u32 0, .int .u32 0, .slice none 0 0, .slice none 0 0] 34)) hg5 (by simp) (fun k hk => grown_ge hk (Nat.le_refl _))); have OA5 := Lib.hid (OA4.out.below LB5.out); clear hBa hg5 e0 e1 e2; obtain ⟨e0, e1, e2⟩ := EF.out _ K5.out)
  have hb5 : w4.heap.size < w5.heap.size := BA5.out.lt
  refine (refFirst_any A D c d km p w5 (HP0.out _ (HL.out _ K5.out)) HKM.out (by have := HRC.out; have := HKM.out; omega) (by have := HRC.out; have := HKM.out; omega)).mono ?_; rintro e w6 ⟨vm1, rfl, hO6, hb6⟩
  have O6 := Lib.hid hO6
  have BA6 := Lib.hid (BA5.out.below hb6 hb5)
  have OA6 := Lib.hid (OA5.out.below hb6)
  have K6 := Lib.hid (K5.out.trans (hb6.mono (by have := K5.out.size; omega)))
  have hz6 : w5.heap.size ≤ w6.heap.size := hb6.size
  clear hO6 hb6 e0 e1 e2
  go_wp2_with fail
  go_loopw [7, 8] (fun q i wr => ∃ (k : Nat), k ≤ R.ws.length ∧ i = .int .i64 k ∧ wr.ownsRow w5.heap.size 5 1 q km ((layZ (firstZ p) (R.ws.take k)).map (Value.int .u8)) ∧ Below w6.heap.size w6 wr) (fun _ i _ => R.ws.length - (intOf i).toNat)
  case atStart => exact ⟨0, Nat.zero_le _, rfl, by rw [List.take_zero, layZ_nil]; exact O6.out, Below.refl _ _⟩
  case round =>
    obtain ⟨k, hk, rfl, hO, hB⟩ := hrel
    obtain ⟨Am, cm, rfl⟩ := (Row.of_own hO).form
    have OM := Lib.hid hO
    have HBr := Lib.hid hB
    have Kr := Lib.hid (K6.out.trans (hB.mono (by have := K6.out.size; omega)))
    have BR := Lib.hid (BA6.out.below hB (by omega))
    have OR := Lib.hid (OA6.out.below hB)
    have hwr : w6.heap.size ≤ wr.heap.size := hB.size
    have HNK := Lib.hid hk
    clear hO hB hk
    obtain ⟨e0, e1, e2⟩ := EF.out _ Kr.out
    have z22 := BR.out.cell (resL_22 NR.out)
    by_cases hlt : k < R.ws.length
    · obtain ⟨b, off, rfl, _, _⟩ := (Row.of_own OR.out.ws).at_ (by omega)
      obtain ⟨x, hx⟩ := wr_at hlt
      have HSN := Lib.hid (layZ_take (firstZ p) R.ws hx)
      have HXI := Lib.hid (WO.out.each x (List.mem_of_getElem? hx))
      have HXF := Lib.hid (WS.out.2.1 x (List.mem_of_getElem? hx))
      obtain ⟨c0, c1, c2⟩ := (Row.of_own OR.out.ws).wr hx
      have kq : decide ((k : Int) < R.ws.length) = true := decide_eq_true (by omega)
      have kq2 : decide (k < R.ws.length) = true := decide_eq_true hlt
      have k0 : (0 : Int) ≤ k := by omega
      have k1 : (k : Int) < R.ws.length := by omega
      have k2 : (k : Int) ≤ 100000 := by have := WS.out.1; omega
      have x0 : 0 ≤ x.addr := HXI.out.2.1
      have x1 : x.addr ≤ 4294967295 := HXI.out.2.2.1
      have x2 : x.addr % 4294967296 = x.addr := Int.emod_eq_of_lt x0 (by omega)
      have x2' : IntKind.u32.wrap x.addr = x.addr := x2
      have x3 : decide (x.addr < 0) = false := decide_eq_false (by omega)
      have HV : Hid (0 ≤ x.val ∧ x.val ≤ 4294967295) := HXF.out.2.2
      have HZ : Hid (-9223372036854775808 ≤ x.size ∧ x.size ≤ 9223372036854775807) := HXF.out.2.1
      have hC : ∀ y, Calls Try.prog 12 #[.int .i64 x.size, .int .u32 x.addr, .int .i64 p.size] y fun e w' => e = .returned (.int .i64 0) ∧ y = w' := fun y => by
        have := refCheck_any x.size x.addr p.size y x0 x1 HZ.out (by have := HRC.out; omega)
        rwa [HXI.out.1] at this
      have hM : ∀ y, Calls Try.prog 13 #[.int .u32 x.val, .int .i64 x.size] y fun e w' => e = .returned (.int .u32 x.val) ∧ y = w' := fun y => by
        have := refMask_any x.val x.size y HV.out.1 (by have := HV.out; omega)
        rwa [HXI.out.2.2.2] at this
      have hwz : w.heap.size < wr.heap.size := by omega
      have hwz4 : w4.heap.size < wr.heap.size := by omega
      have HC := Lib.hid hC
      have HM := Lib.hid hM
      clear hC hM hx
      go_wp2_with fail
      go_quiet (first
        | (go_at_call 12; refine quiet_mine (HC.out _))
        | (go_at_call 13; refine quiet_mine (HM.out _)))
      go_wp2_with fail
      have hBA := Below.drewN_ ((Below.refl wr.heap.size wr).alloc (Nat.le_refl _) (.cells #[.int .i64 x.addr, .int .i64 x.size, .int .u32 x.val] 38)) nq
      have hsz : ((wr.alloc (.cells #[.int .i64 x.addr, .int .i64 x.size, .int .u32 x.val] 38)).drewN nq).heap.size = wr.heap.size + 1 := by simp [World.drewN]
      have HBA := Lib.hid hBA
      have HSZ := Lib.hid hsz
      clear hBA hsz
      refine (refStore_any Am cm km _ x.val ((wr.alloc (.cells #[.int .i64 x.addr, .int .i64 x.size, .int .u32 x.val] 38)).drewN nq) x.size x.addr (((Row.of_own OM.out).below HBA.out).more (by rw [HSZ.out]; omega)) (by have := HKM.out; omega) HZ.out (by omega) HV.out).mono ?_; rintro e w9 ⟨v9, rfl, hO9, hb9⟩
      rw [← HSN.out, HSZ.out] at hO9
      rw [HSZ.out] at hb9
      have HO9 := Lib.hid hO9
      have HB9 := Lib.hid (HBr.out.trans ((HBA.out.mono hwr).trans (hb9.mono (by omega))))
      clear hO9 hb9 e0 e1 e2 c0 c1 c2 z22
      go_wp2_with fail
      go_roundw
      case rel => exact ⟨k + 1, hlt, by go_num, own_base HO9.out (by omega), HB9.out⟩
      case measure => simp [intOf]; omega
    · have kq : decide ((k : Int) < R.ws.length) = false := decide_eq_false (by omega)
      have kq2 : decide (k < R.ws.length) = false := decide_eq_false hlt
      have hend := Lib.hid (show layZ (firstZ p) (R.ws.take k) = R.mem by rw [List.take_of_length_le (by omega), ← WO.out.mem])
      have v1 := conv_row (P := Try.prog) wr 23 5 Try.underlying23 Try.underlying5 (Row.of_own OM.out) 9 Try.underlying9
      have v2 := conv_row (P := Try.prog) wr 23 5 Try.underlying23 Try.underlying5 (Row.of_own OR.out.mem) 9 Try.underlying9
      rw [hend.out] at v1
      have z21 := BR.out.cell (resL_21 NR.out)
      have z5 : wr.cell? ⟨w4.heap.size, 5, none⟩ = some (.int .u32 0) := by
        have := BR.out.cell (resL_reg NR.out 0 (by omega))
        rwa [List.getD_eq_getElem?_getD, WO.out.zero] at this
      go_wp2_with fail
      go_ret
      exact ⟨rfl, HL.out _ Kr.out⟩


theorem seqWrites_walk (A0 : Option Addr) (c0 : Nat) (D0 : Option Addr) (e0 : Nat) (z0 : Prog) (a1 : Int) (w : World) (f0 : z0.Fits) (r0 : ProgV w w.heap.size (.slice A0 z0.code.length c0) (.slice D0 z0.data.length e0) z0) (w1 : -9223372036854775808 ≤ a1 ∧ a1 ≤ 9223372036854775807) :
    Calls Try.prog 3 #[.agg #[.slice A0 z0.code.length c0, .int .i64 z0.size, .slice D0 z0.data.length e0], .int .i64 a1] w fun e w' => e = .returned (.bool true) ∧ Below w.heap.size w w' := by
  cases hfew : fewB z0.code.length z0.data.length
  · exact seqWrites_few A0 D0 c0 e0 z0 a1 w r0 f0 hfew
  by_cases hz : z0.size ≤ 500
  rotate_left
  · exact seqWrites_size A0 D0 c0 e0 z0 a1 w r0 f0 hfew (by omega)
  cases hr : z0.right
  · exact seqWrites_wrong A0 D0 c0 e0 z0 a1 w r0 f0 hfew hz hr
  by_cases ho : a1 < 0 ∨ 300 < a1
  · exact seqWrites_far A0 D0 c0 e0 z0 a1 w r0 f0 hfew hz hr ho
  obtain ⟨n, rfl⟩ : ∃ n : Nat, a1 = (n : Int) := ⟨a1.toNat, by omega⟩
  exact seqWrites_in A0 D0 c0 e0 z0 n w r0 f0 hfew hz hr (by omega)
end Go.Proofs.Ytdjllgdeijdieaa.Words

/- Of chapter 18's law: is a state small enough? -/
import Derived.Test.YthhoigkmmlkfcaaG04
namespace Go.Proofs.Ythhoigkmmlkfcaa.Words
set_option maxRecDepth 100000
open Go.RowKit
set_option linter.unusedVariables false
set_option linter.unusedSimpArgs false

def Few18 (x : Sta) : Prop := x.mem.length ≤ 1000 ∧ x.table.length ≤ 64 ∧ x.saq.length ≤ 64 ∧ x.ldq.length ≤ 64 ∧ x.ws.length ≤ 100 ∧ x.sdq.length ≤ 64 ∧ x.aeq.length ≤ 64 ∧ x.abq.length ≤ 64 ∧ x.ebq.length ≤ 64
instance (x : Sta) : Decidable (Few18 x) := by unfold Few18; infer_instance
set_option maxHeartbeats 4000000 in
theorem few18_any (x : Sta) (v : Vs) (w : World) (hx : x.Ok) (hv : StaV w w.heap.size v x) :
    Calls Try.prog 9 #[.agg (staL x v).toArray] w fun e w' => e = .returned (.bool (decide (Few18 x))) ∧ Below w.heap.size w w' := by
  obtain ⟨W, hW⟩ : ∃ W, W = w.alloc (.cells (staL x v).toArray 44) := ⟨_, rfl⟩
  have hB : Below w.heap.size w W := by rw [hW]; exact (Below.refl _ _).alloc (Nat.le_refl _) _
  have hX : Box W w.heap.size (staL x v) := by rw [hW]; exact Box.new w _ _
  obtain ⟨A_mem, c_mem, h_mem⟩ := hv.mem.form
  have d_mem := hX.cell (sta_mem hx)
  rw [h_mem] at d_mem
  obtain ⟨A_table, c_table, h_table⟩ := hv.table.form
  have d_table := hX.cell (sta_table hx)
  rw [h_table] at d_table
  obtain ⟨A_saq, c_saq, h_saq⟩ := hv.saq.form
  have d_saq := hX.cell (sta_saq hx)
  rw [h_saq] at d_saq
  obtain ⟨A_ldq, c_ldq, h_ldq⟩ := hv.ldq.form
  have d_ldq := hX.cell (sta_ldq hx)
  rw [h_ldq] at d_ldq
  obtain ⟨A_ws, c_ws, h_ws⟩ := hv.ws.form
  have d_ws := hX.cell (sta_ws hx)
  rw [h_ws] at d_ws
  obtain ⟨A_sdq, c_sdq, h_sdq⟩ := hv.sdq.form
  have d_sdq := hX.cell (sta_sdq hx)
  rw [h_sdq] at d_sdq
  obtain ⟨A_aeq, c_aeq, h_aeq⟩ := hv.aeq.form
  have d_aeq := hX.cell (sta_aeq hx)
  rw [h_aeq] at d_aeq
  obtain ⟨A_abq, c_abq, h_abq⟩ := hv.abq.form
  have d_abq := hX.cell (sta_abq hx)
  rw [h_abq] at d_abq
  obtain ⟨A_ebq, c_ebq, h_ebq⟩ := hv.ebq.form
  have d_ebq := hX.cell (sta_ebq hx)
  rw [h_ebq] at d_ebq
  have HB := Lib.hid hB
  have hD : decide (Few18 x) = decide (x.mem.length ≤ 1000 ∧ x.table.length ≤ 64 ∧ x.saq.length ≤ 64 ∧ x.ldq.length ≤ 64 ∧ x.ws.length ≤ 100 ∧ x.sdq.length ≤ 64 ∧ x.aeq.length ≤ 64 ∧ x.abq.length ≤ 64 ∧ x.ebq.length ≤ 64) := rfl
  rw [hD]
  clear hX hB hD hv h_mem h_table h_saq h_ldq h_ws h_sdq h_aeq h_abq h_ebq
  generalize x.mem.length = n_mem at *
  generalize x.table.length = n_table at *
  generalize x.saq.length = n_saq at *
  generalize x.ldq.length = n_ldq at *
  generalize x.ws.length = n_ws at *
  generalize x.sdq.length = n_sdq at *
  generalize x.aeq.length = n_aeq at *
  generalize x.abq.length = n_abq at *
  generalize x.ebq.length = n_ebq at *
  generalize staL x v = L at *
  clear hx
  by_cases g_mem : (n_mem : Int) ≤ 1000
  case neg =>
    have HD : Hid (decide (n_mem ≤ 1000 ∧ n_table ≤ 64 ∧ n_saq ≤ 64 ∧ n_ldq ≤ 64 ∧ n_ws ≤ 100 ∧ n_sdq ≤ 64 ∧ n_aeq ≤ 64 ∧ n_abq ≤ 64 ∧ n_ebq ≤ 64) = false) := Lib.hid (decide_eq_false (by omega))
    rw [HD.out]
    go_enter Try.func9, Try.ntmps9
    go_wp2_with (first | (rw [← hW]; clear hW))
    go_ret
    exact ⟨rfl, HB.out⟩
  by_cases g_table : (n_table : Int) ≤ 64
  case neg =>
    have HD : Hid (decide (n_mem ≤ 1000 ∧ n_table ≤ 64 ∧ n_saq ≤ 64 ∧ n_ldq ≤ 64 ∧ n_ws ≤ 100 ∧ n_sdq ≤ 64 ∧ n_aeq ≤ 64 ∧ n_abq ≤ 64 ∧ n_ebq ≤ 64) = false) := Lib.hid (decide_eq_false (by omega))
    rw [HD.out]
    go_enter Try.func9, Try.ntmps9
    go_wp2_with (first | (rw [← hW]; clear hW))
    go_ret
    exact ⟨rfl, HB.out⟩
  by_cases g_saq : (n_saq : Int) ≤ 64
  case neg =>
    have HD : Hid (decide (n_mem ≤ 1000 ∧ n_table ≤ 64 ∧ n_saq ≤ 64 ∧ n_ldq ≤ 64 ∧ n_ws ≤ 100 ∧ n_sdq ≤ 64 ∧ n_aeq ≤ 64 ∧ n_abq ≤ 64 ∧ n_ebq ≤ 64) = false) := Lib.hid (decide_eq_false (by omega))
    rw [HD.out]
    go_enter Try.func9, Try.ntmps9
    go_wp2_with (first | (rw [← hW]; clear hW))
    go_ret
    exact ⟨rfl, HB.out⟩
  by_cases g_ldq : (n_ldq : Int) ≤ 64
  case neg =>
    have HD : Hid (decide (n_mem ≤ 1000 ∧ n_table ≤ 64 ∧ n_saq ≤ 64 ∧ n_ldq ≤ 64 ∧ n_ws ≤ 100 ∧ n_sdq ≤ 64 ∧ n_aeq ≤ 64 ∧ n_abq ≤ 64 ∧ n_ebq ≤ 64) = false) := Lib.hid (decide_eq_false (by omega))
    rw [HD.out]
    go_enter Try.func9, Try.ntmps9
    go_wp2_with (first | (rw [← hW]; clear hW))
    go_ret
    exact ⟨rfl, HB.out⟩
  by_cases g_ws : (n_ws : Int) ≤ 100
  case neg =>
    have HD : Hid (decide (n_mem ≤ 1000 ∧ n_table ≤ 64 ∧ n_saq ≤ 64 ∧ n_ldq ≤ 64 ∧ n_ws ≤ 100 ∧ n_sdq ≤ 64 ∧ n_aeq ≤ 64 ∧ n_abq ≤ 64 ∧ n_ebq ≤ 64) = false) := Lib.hid (decide_eq_false (by omega))
    rw [HD.out]
    go_enter Try.func9, Try.ntmps9
    go_wp2_with (first | (rw [← hW]; clear hW))
    go_ret
    exact ⟨rfl, HB.out⟩
  by_cases g_sdq : (n_sdq : Int) ≤ 64
  case neg =>
    have HD : Hid (decide (n_mem ≤ 1000 ∧ n_table ≤ 64 ∧ n_saq ≤ 64 ∧ n_ldq ≤ 64 ∧ n_ws ≤ 100 ∧ n_sdq ≤ 64 ∧ n_aeq ≤ 64 ∧ n_abq ≤ 64 ∧ n_ebq ≤ 64) = false) := Lib.hid (decide_eq_false (by omega))
    rw [HD.out]
    go_enter Try.func9, Try.ntmps9
    go_wp2_with (first | (rw [← hW]; clear hW))
    go_ret
    exact ⟨rfl, HB.out⟩
  by_cases g_aeq : (n_aeq : Int) ≤ 64
  case neg =>
    have HD : Hid (decide (n_mem ≤ 1000 ∧ n_table ≤ 64 ∧ n_saq ≤ 64 ∧ n_ldq ≤ 64 ∧ n_ws ≤ 100 ∧ n_sdq ≤ 64 ∧ n_aeq ≤ 64 ∧ n_abq ≤ 64 ∧ n_ebq ≤ 64) = false) := Lib.hid (decide_eq_false (by omega))
    rw [HD.out]
    go_enter Try.func9, Try.ntmps9
    go_wp2_with (first | (rw [← hW]; clear hW))
    go_ret
    exact ⟨rfl, HB.out⟩
  by_cases g_abq : (n_abq : Int) ≤ 64
  case neg =>
    have HD : Hid (decide (n_mem ≤ 1000 ∧ n_table ≤ 64 ∧ n_saq ≤ 64 ∧ n_ldq ≤ 64 ∧ n_ws ≤ 100 ∧ n_sdq ≤ 64 ∧ n_aeq ≤ 64 ∧ n_abq ≤ 64 ∧ n_ebq ≤ 64) = false) := Lib.hid (decide_eq_false (by omega))
    rw [HD.out]
    go_enter Try.func9, Try.ntmps9
    go_wp2_with (first | (rw [← hW]; clear hW))
    go_ret
    exact ⟨rfl, HB.out⟩
  by_cases g_ebq : (n_ebq : Int) ≤ 64
  case neg =>
    have HD : Hid (decide (n_mem ≤ 1000 ∧ n_table ≤ 64 ∧ n_saq ≤ 64 ∧ n_ldq ≤ 64 ∧ n_ws ≤ 100 ∧ n_sdq ≤ 64 ∧ n_aeq ≤ 64 ∧ n_abq ≤ 64 ∧ n_ebq ≤ 64) = false) := Lib.hid (decide_eq_false (by omega))
    rw [HD.out]
    go_enter Try.func9, Try.ntmps9
    go_wp2_with (first | (rw [← hW]; clear hW))
    go_ret
    exact ⟨rfl, HB.out⟩
  have HD : Hid (decide (n_mem ≤ 1000 ∧ n_table ≤ 64 ∧ n_saq ≤ 64 ∧ n_ldq ≤ 64 ∧ n_ws ≤ 100 ∧ n_sdq ≤ 64 ∧ n_aeq ≤ 64 ∧ n_abq ≤ 64 ∧ n_ebq ≤ 64) = true) := Lib.hid (decide_eq_true (by omega))
  rw [HD.out]
  go_enter Try.func9, Try.ntmps9
  go_wp2_with (first | (rw [← hW]; clear hW))
  go_ret
  exact ⟨rfl, HB.out⟩
end Go.Proofs.Ythhoigkmmlkfcaa.Words

/- Contracts of package image: number, readNumbers, readCode. -/
import Derived.Test.YthnimeibjannpaaRefRead
import Derived.Test.YthnimeibjannpaaRefReadMain
import Derived.Test.YthnimeibjannpaaImgRight2
import Derived.Test.YthnimeibjannpaaWordOf
import Derived.OwnWalk
namespace Go.Proofs.Ythnimeibjannpaa.Words
open Go.RowKit
set_option linter.unusedVariables false

set_option maxHeartbeats 400000 in
theorem number_any {w : World} {B : Nat} {v : Value} {n : Nat} {zs : List Int} (h : Row w B 1 v n (zs.map (Value.int .u8))) (hz : ∀ x ∈ zs, 0 ≤ x ∧ x ≤ 255) (k : Nat) (at_ : Int) (hat : at_ = (k : Int)) (hk : k + 4 ≤ zs.length) :
    Calls Try.prog 39 #[v, .int .i64 at_] w fun e w' => e = .returned (.int .i64 (sgn (numAt zs k))) ∧ ∃ j, w' = w.drewN j := by
  subst hat
  obtain ⟨A, c, rfl⟩ := h.form
  have hr := wordAt_range hz k
  have hg := Lib.hid (getR_yes hk)
  have he := Lib.hid (numAt_eq hz k)
  rw [he.out] at hr
  go_enter Try.func39, Try.ntmps39
  go_wp2_with fail
  refine (get_row h hz (k : Int)).mono ?_; rintro e w1 ⟨rfl, j, rfl⟩
  rw [hg.out, he.out]
  try dsimp only
  go_wp2_with fail
  refine (int_any _ _ hr.1 (by omega)).mono ?_; rintro e w1 ⟨rfl, rfl⟩
  go_wp2_with fail
  go_ret
  exact ⟨rfl, j, rfl⟩

theorem fit_nums {a b c : Nat} (ha : a < 4294967296) (hb : b < 4294967296) (hc : c < 4294967296) : fitN (sgn a) (sgn b) (sgn c) = decide (1 ≤ a ∧ a ≤ 2000 ∧ b ≤ 65536 ∧ c ≤ b) := by
  unfold fitN sgn
  rw [decide_eq_decide]
  split <;> split <;> split <;> omega
theorem num_lt {zs : List Int} (hz : ∀ x ∈ zs, 0 ≤ x ∧ x ≤ 255) (k : Nat) : numAt zs k < 4294967296 := by
  have := wordAt_range hz k
  rw [numAt_eq hz] at this
  omega

set_option maxHeartbeats 1000000 in
theorem readNumbers_head (A : Option Addr) (c : Nat) (zs : List Int) (w : World) (h : Row w w.heap.size 1 (.slice A zs.length c) zs.length (zs.map (Value.int .u8))) (hz : ∀ x ∈ zs, 0 ≤ x ∧ x ≤ 255) (hh : headOk zs = false) :
    Calls Try.prog 22 #[.slice A zs.length c] w fun e w' => e = .returned (.tuple #[.agg #[.int .i64 0, .int .i64 0, .int .i64 0], .bool false]) ∧ Below w.heap.size w w' := by
  obtain ⟨u1, u2⟩ := h.cap
  by_cases hl : zs.length < 16
  · go_enter Try.func22, Try.ntmps22
    go_wp2_with fail
    refine bodyPost_ret (v := .tuple #[.agg #[.int .i64 0, .int .i64 0, .int .i64 0], .bool false]) (by simp [results, Try.results22, go_sem]; done) rfl ⟨rfl, ?_⟩
    exact (Below.refl w.heap.size w).alloc (Nat.le_refl _) _
  obtain ⟨b, off, rfl, hb, _⟩ := h.at_ (by omega)
  have hf : ¬ zs.take 4 = [83, 82, 73, 1] := by
    intro g
    unfold headOk at hh
    rw [decide_eq_true (by omega), decide_eq_true g] at hh
    cases hh
  have cv := conv_row (P := Try.prog) (w.alloc (.cells #[.int .i64 0, .int .i64 0, .int .i64 0] 49)) 23 5 Try.underlying23 Try.underlying5 ((h.front (k := 4) (by omega)).alloc (Nat.le_refl _) _) 9 Try.underlying9
  have hs := head_eq hz
  rw [decide_eq_false hf] at hs
  go_enter Try.func22, Try.ntmps22
  go_wp2_with fail
  refine bodyPost_ret (v := .tuple #[.agg #[.int .i64 0, .int .i64 0, .int .i64 0], .bool false]) (by simp [results, Try.results22, go_sem]; done) rfl ⟨rfl, ?_⟩
  exact (Below.refl w.heap.size w).alloc (Nat.le_refl _) _

/-- What holds of the numbers without the length. -/
def numsHalf (zs : List Int) : Bool := decide (1 ≤ numAt zs 4 ∧ numAt zs 4 ≤ 2000 ∧ numAt zs 8 ≤ 65536 ∧ numAt zs 12 ≤ numAt zs 8)
theorem fit_zs {zs : List Int} (hz : ∀ x ∈ zs, 0 ≤ x ∧ x ≤ 255) : fitN (sgn (numAt zs 4)) (sgn (numAt zs 8)) (sgn (numAt zs 12)) = numsHalf zs := fit_nums (num_lt hz 4) (num_lt hz 8) (num_lt hz 12)
theorem half_no {zs : List Int} (h : numsHalf zs = false) : numsOk zs = false := by
  unfold numsHalf at h
  unfold numsOk
  exact decide_eq_false (fun g => (of_decide_eq_false h) ⟨g.1, g.2.1, g.2.2.1, g.2.2.2.1⟩)
theorem half_yes {zs : List Int} (h : numsHalf zs = true) : (numsOk zs = decide (zs.length = 16 + numAt zs 4 * 4 + numAt zs 12)) ∧ (1 ≤ numAt zs 4 ∧ numAt zs 4 ≤ 2000 ∧ numAt zs 8 ≤ 65536 ∧ numAt zs 12 ≤ numAt zs 8) ∧
    sgn (numAt zs 4) = numAt zs 4 ∧ sgn (numAt zs 8) = numAt zs 8 ∧ sgn (numAt zs 12) = numAt zs 12 := by
  have g := of_decide_eq_true h
  refine ⟨?_, g, sgn_low (by omega), sgn_low (by omega), sgn_low (by omega)⟩
  unfold numsOk
  rw [decide_eq_decide]
  omega
theorem ok_yes {zs : List Int} (h : numsOk zs = true) : numsHalf zs = true := by
  have g := of_decide_eq_true h
  exact decide_eq_true ⟨g.1, g.2.1, g.2.2.1, g.2.2.2.1⟩

set_option maxHeartbeats 4000000 in
theorem readNumbers_nums (A : Option Addr) (c : Nat) (zs : List Int) (w : World) (h : Row w w.heap.size 1 (.slice A zs.length c) zs.length (zs.map (Value.int .u8))) (hz : ∀ x ∈ zs, 0 ≤ x ∧ x ≤ 255) (hh : headOk zs = true) (n m d : Nat)
    (hno : numsOk zs = true → n = numAt zs 4 ∧ m = numAt zs 8 ∧ d = numAt zs 12) (hoff : numsOk zs = false → n = 0 ∧ m = 0 ∧ d = 0) :
    Calls Try.prog 22 #[.slice A zs.length c] w fun e w' => e = .returned (.tuple #[.agg #[.int .i64 n, .int .i64 m, .int .i64 d], .bool (numsOk zs)]) ∧ Below w.heap.size w w' := by
  obtain ⟨u1, u2⟩ := h.cap
  obtain ⟨hl, hf⟩ := head_parts hh
  obtain ⟨b, off, rfl, hb, _⟩ := h.at_ (by omega)
  have HZ := Lib.hid hz
  have cv := conv_row (P := Try.prog) (w.alloc (.cells #[.int .i64 0, .int .i64 0, .int .i64 0] 49)) 23 5 Try.underlying23 Try.underlying5 ((h.front (k := 4) (by omega)).alloc (Nat.le_refl _) _) 9 Try.underlying9
  have hs := head_eq hz
  rw [decide_eq_true hf] at hs
  have hR := h.alloc (Nat.le_refl _) (.cells #[.int .i64 0, .int .i64 0, .int .i64 0] 49)
  clear hf hz hh
  go_enter Try.func22, Try.ntmps22
  go_wp2_with fail
  refine (number_any hR HZ.out 4 4 rfl (by omega)).mono ?_; rintro e w1 ⟨rfl, k1, rfl⟩
  go_wp2_with fail
  refine (number_any (hR.drewN k1) HZ.out 8 8 rfl (by omega)).mono ?_; rintro e w2 ⟨rfl, k2, rfl⟩
  go_wp2_with fail
  refine (number_any (hR.drewN (k1 + k2)) HZ.out 12 12 rfl (by omega)).mono ?_; rintro e w3 ⟨rfl, k3, rfl⟩
  go_wp2_with fail
  have hW : Below w.heap.size w (((w.alloc (.cells #[.int .i64 0, .int .i64 0, .int .i64 0] 49)).drewN (k1 + k2 + k3)).alloc (.cells #[.int .i64 (sgn (numAt zs 4)), .int .i64 (sgn (numAt zs 8)), .int .i64 (sgn (numAt zs 12))] 49)) := Below.alloc (Below.drewN_ ((Below.refl w.heap.size w).alloc (Nat.le_refl _) _) _) (by simp) _
  have z0 : (((w.alloc (.cells #[.int .i64 0, .int .i64 0, .int .i64 0] 49)).drewN (k1 + k2 + k3)).alloc (.cells #[.int .i64 (sgn (numAt zs 4)), .int .i64 (sgn (numAt zs 8)), .int .i64 (sgn (numAt zs 12))] 49)).cell? ⟨w.heap.size, 0, none⟩ = some (.int .i64 0) := by go_simp
  have z1 : (((w.alloc (.cells #[.int .i64 0, .int .i64 0, .int .i64 0] 49)).drewN (k1 + k2 + k3)).alloc (.cells #[.int .i64 (sgn (numAt zs 4)), .int .i64 (sgn (numAt zs 8)), .int .i64 (sgn (numAt zs 12))] 49)).cell? ⟨w.heap.size, 1, none⟩ = some (.int .i64 0) := by go_simp
  have z2 : (((w.alloc (.cells #[.int .i64 0, .int .i64 0, .int .i64 0] 49)).drewN (k1 + k2 + k3)).alloc (.cells #[.int .i64 (sgn (numAt zs 4)), .int .i64 (sgn (numAt zs 8)), .int .i64 (sgn (numAt zs 12))] 49)).cell? ⟨w.heap.size, 2, none⟩ = some (.int .i64 0) := by go_simp
  have zf : ∀ k, (((w.alloc (.cells #[.int .i64 0, .int .i64 0, .int .i64 0] 49)).drewN (k1 + k2 + k3)).alloc (.cells #[.int .i64 (sgn (numAt zs 4)), .int .i64 (sgn (numAt zs 8)), .int .i64 (sgn (numAt zs 12))] 49)).frozen? ⟨w.heap.size, k, none⟩ = false := fun k => by go_simp
  have y0 : (((w.alloc (.cells #[.int .i64 0, .int .i64 0, .int .i64 0] 49)).drewN (k1 + k2 + k3)).alloc (.cells #[.int .i64 (sgn (numAt zs 4)), .int .i64 (sgn (numAt zs 8)), .int .i64 (sgn (numAt zs 12))] 49)).cell? ⟨w.heap.size + 1, 0, none⟩ = some (.int .i64 (sgn (numAt zs 4))) := by go_simp
  have y1 : (((w.alloc (.cells #[.int .i64 0, .int .i64 0, .int .i64 0] 49)).drewN (k1 + k2 + k3)).alloc (.cells #[.int .i64 (sgn (numAt zs 4)), .int .i64 (sgn (numAt zs 8)), .int .i64 (sgn (numAt zs 12))] 49)).cell? ⟨w.heap.size + 1, 1, none⟩ = some (.int .i64 (sgn (numAt zs 8))) := by go_simp
  have y2 : (((w.alloc (.cells #[.int .i64 0, .int .i64 0, .int .i64 0] 49)).drewN (k1 + k2 + k3)).alloc (.cells #[.int .i64 (sgn (numAt zs 4)), .int .i64 (sgn (numAt zs 8)), .int .i64 (sgn (numAt zs 12))] 49)).cell? ⟨w.heap.size + 1, 2, none⟩ = some (.int .i64 (sgn (numAt zs 12))) := by go_simp
  have hWs : w.heap.size + 1 < (((w.alloc (.cells #[.int .i64 0, .int .i64 0, .int .i64 0] 49)).drewN (k1 + k2 + k3)).alloc (.cells #[.int .i64 (sgn (numAt zs 4)), .int .i64 (sgn (numAt zs 8)), .int .i64 (sgn (numAt zs 12))] 49)).heap.size := by simp
  generalize (((w.alloc (.cells #[.int .i64 0, .int .i64 0, .int .i64 0] 49)).drewN (k1 + k2 + k3)).alloc (.cells #[.int .i64 (sgn (numAt zs 4)), .int .i64 (sgn (numAt zs 8)), .int .i64 (sgn (numAt zs 12))] 49)) = W at *
  clear hR cv hs h
  have Z0 := Lib.hid (fun (x : World) (h : Kept W x) => h.cell (by omega) z0)
  have Z1 := Lib.hid (fun (x : World) (h : Kept W x) => h.cell (by omega) z1)
  have Z2 := Lib.hid (fun (x : World) (h : Kept W x) => h.cell (by omega) z2)
  have ZF := Lib.hid (fun (x : World) (h : Kept W x) (k : Nat) => below_frozen (k := k) h (by omega) (zf k))
  have Y0 := Lib.hid (fun (x : World) (h : Kept W x) => h.cell hWs y0)
  have Y1 := Lib.hid (fun (x : World) (h : Kept W x) => h.cell hWs y1)
  have Y2 := Lib.hid (fun (x : World) (h : Kept W x) => h.cell hWs y2)
  have HWB := Lib.hid (fun (x : World) (h : Kept W x) => hW.trans (h.mono (by omega)))
  have HNO := Lib.hid hno
  have HOFF := Lib.hid hoff
  clear z0 z1 z2 zf y0 y1 y2 hW hno hoff
  refine (fit_any _ _ _ _).mono ?_; rintro e w4 ⟨rfl, hb4⟩
  have kk : Kept W w4 := hb4
  clear hb4
  rw [fit_zs HZ.out]
  have z0 := Z0.out _ kk
  have z1 := Z1.out _ kk
  have z2 := Z2.out _ kk
  have f0 := ZF.out _ kk 0
  have f1 := ZF.out _ kk 1
  have f2 := ZF.out _ kk 2
  have hs4 := kk.size
  cases hf : numsHalf zs
  · have hno := Lib.hid (half_no hf)
    obtain ⟨rfl, rfl, rfl⟩ := HOFF.out hno.out
    clear hf
    go_wp2_with fail
    rw [hno.out]
    refine bodyPost_ret (v := .tuple #[.agg #[.int .i64 0, .int .i64 0, .int .i64 0], .bool false]) (by simp [results, Try.results22, go_sem, z0, z1, z2]; done) rfl ⟨rfl, ?_⟩
    exact (((HWB.out _ kk).setCell (by simp) _).setCell (by simp) _).setCell (by simp) _
  obtain ⟨hok, hrg, s4, s8, s12⟩ := half_yes hf
  rw [s4] at Y0
  rw [s8] at Y1
  rw [s12] at Y2
  have HOK := Lib.hid hok
  have y0 := Y0.out _ kk
  have y1 := Y1.out _ kk
  have y2 := Y2.out _ kk
  clear hf hok s4 s8 s12
  generalize numAt zs 4 = a at *
  generalize numAt zs 8 = b4 at *
  generalize numAt zs 12 = d4 at *
  go_wp2_with fail
  refine (length_any a b4 d4 _ (by omega)).mono ?_; rintro e w5 ⟨rfl, hb5⟩
  have kk5 := kk.to hb5
  have z0 := Z0.out _ kk5
  have z1 := Z1.out _ kk5
  have z2 := Z2.out _ kk5
  have f0 := ZF.out _ kk5 0
  have f1 := ZF.out _ kk5 1
  have f2 := ZF.out _ kk5 2
  have y0 := Y0.out _ kk5
  have y1 := Y1.out _ kk5
  have y2 := Y2.out _ kk5
  have hs5 := kk5.size
  clear hb5 kk
  by_cases hq : zs.length = 16 + a * 4 + d4
  · have hok : numsOk zs = true := by rw [HOK.out]; exact decide_eq_true hq
    obtain ⟨rfl, rfl, rfl⟩ := HNO.out hok
    have HQ := Lib.hid hok
    have h6 : (16 + (n : Int) * 4 + d != (zs.length : Int)) = false := by simp; omega
    clear hq hok
    go_wp2_with fail
    rw [HQ.out]
    refine bodyPost_ret (v := .tuple #[.agg #[.int .i64 n, .int .i64 m, .int .i64 d], .bool true]) (by simp [results, Try.results22, go_sem, z0, z1, z2]; done) rfl ⟨rfl, ?_⟩
    exact (((HWB.out _ kk5).setCell (by simp) _).setCell (by simp) _).setCell (by simp) _
  · have hok : numsOk zs = false := by rw [HOK.out]; exact decide_eq_false hq
    obtain ⟨rfl, rfl, rfl⟩ := HOFF.out hok
    have HQ := Lib.hid hok
    have h6 : (16 + (a : Int) * 4 + d4 != (zs.length : Int)) = true := by simp; omega
    clear hq hok
    go_wp2_with fail
    rw [HQ.out]
    refine bodyPost_ret (v := .tuple #[.agg #[.int .i64 0, .int .i64 0, .int .i64 0], .bool false]) (by simp [results, Try.results22, go_sem, z0, z1, z2]; done) rfl ⟨rfl, ?_⟩
    exact (((HWB.out _ kk5).setCell (by simp) _).setCell (by simp) _).setCell (by simp) _
end Go.Proofs.Ythnimeibjannpaa.Words

/- Contract of the document's own ReadImage: which program bytes are, or why none. -/
import Derived.Test.YthnimeibjannpaaRefSame
import Derived.Test.YthnimeibjannpaaRefImage
import Derived.Test.YthnimeibjannpaaReadMath
import Derived.Test.YthnimeibjannpaaIsaDecode
namespace Go.Proofs.Ythnimeibjannpaa.Words
open Go.RowKit
set_option linter.unusedVariables false

theorem head_eq {zs : List Int} (hz : ∀ x ∈ zs, 0 ≤ x ∧ x ≤ 255) : ((strOfNums (zs.take 4)).toList == [83, 82, 73, 1]) = decide (zs.take 4 = [83, 82, 73, 1]) := by
  rw [← str_eq (xs := zs.take 4) (ys := [83, 82, 73, 1]) (fun b hb => hz b (List.mem_of_mem_take hb)) (by intro b hb; simp at hb; omega), Lib.strOfNums_toList [83, 82, 73, 1]]
  rfl
theorem head_parts {zs : List Int} (h : headOk zs = true) : 16 ≤ zs.length ∧ zs.take 4 = [83, 82, 73, 1] := by
  unfold headOk at h
  rw [Bool.and_eq_true, decide_eq_true_iff, decide_eq_true_iff] at h
  exact h

set_option maxHeartbeats 1000000 in
theorem refRead_head (A : Option Addr) (c : Nat) (zs : List Int) (w : World) (h : Row w w.heap.size 1 (.slice A zs.length c) zs.length (zs.map (Value.int .u8))) (hz : ∀ x ∈ zs, 0 ≤ x ∧ x ≤ 255) (hh : headOk zs = false) :
    Calls Try.prog 12 #[.slice A zs.length c] w fun e w' => e = .returned (.tuple #[.agg #[.slice none 0 0, .int .i64 0, .slice none 0 0], .int .i64 2]) ∧ Below w.heap.size w w' := by
  obtain ⟨u1, u2⟩ := h.cap
  by_cases hl : zs.length < 16
  · go_enter Try.func12, Try.ntmps12
    go_wp2_with fail
    refine bodyPost_ret (v := .tuple #[.agg #[.slice none 0 0, .int .i64 0, .slice none 0 0], .int .i64 2]) (by simp [results, Try.results12, go_sem]; done) rfl ⟨rfl, ?_⟩
    exact (Below.refl w.heap.size w).alloc (Nat.le_refl _) _
  obtain ⟨b, off, rfl, hb, _⟩ := h.at_ (by omega)
  have hf : ¬ zs.take 4 = [83, 82, 73, 1] := by
    intro g
    unfold headOk at hh
    rw [decide_eq_true (by omega), decide_eq_true g] at hh
    cases hh
  have cv := conv_row (P := Try.prog) (w.alloc (.cells #[.slice none 0 0, .int .i64 0, .slice none 0 0] 25)) 23 5 Try.underlying23 Try.underlying5 ((h.front (k := 4) (by omega)).alloc (Nat.le_refl _) _) 9 Try.underlying9
  have hs := head_eq hz
  rw [decide_eq_false hf] at hs
  go_enter Try.func12, Try.ntmps12
  go_wp2_with fail
  refine bodyPost_ret (v := .tuple #[.agg #[.slice none 0 0, .int .i64 0, .slice none 0 0], .int .i64 2]) (by simp [results, Try.results12, go_sem]; done) rfl ⟨rfl, ?_⟩
  exact (Below.refl w.heap.size w).alloc (Nat.le_refl _) _

set_option maxHeartbeats 4000000 in
theorem refRead_nums (A : Option Addr) (c : Nat) (zs : List Int) (w : World) (h : Row w w.heap.size 1 (.slice A zs.length c) zs.length (zs.map (Value.int .u8))) (hz : ∀ x ∈ zs, 0 ≤ x ∧ x ≤ 255) (hh : headOk zs = true) (hn : numsOk zs = false) :
    Calls Try.prog 12 #[.slice A zs.length c] w fun e w' => e = .returned (.tuple #[.agg #[.slice none 0 0, .int .i64 0, .slice none 0 0], .int .i64 2]) ∧ Below w.heap.size w w' := by
  have hno : ¬ (1 ≤ numAt zs 4 ∧ numAt zs 4 ≤ 2000 ∧ numAt zs 8 ≤ 65536 ∧ numAt zs 12 ≤ numAt zs 8 ∧ zs.length = 16 + 4 * numAt zs 4 + numAt zs 12) := by
    unfold numsOk at hn; exact of_decide_eq_false hn
  have r4 := wordAt_range hz 4
  have r8 := wordAt_range hz 8
  have r12 := wordAt_range hz 12
  rw [numAt_eq hz] at r4 r8 r12
  obtain ⟨u1, u2⟩ := h.cap
  obtain ⟨hl, hf⟩ := head_parts hh
  obtain ⟨b, off, rfl, hb, _⟩ := h.at_ (by omega)
  have HZ := Lib.hid hz
  have cv := conv_row (P := Try.prog) (w.alloc (.cells #[.slice none 0 0, .int .i64 0, .slice none 0 0] 25)) 23 5 Try.underlying23 Try.underlying5 ((h.front (k := 4) (by omega)).alloc (Nat.le_refl _) _) 9 Try.underlying9
  have hs := head_eq hz
  rw [decide_eq_true hf] at hs
  have hR := h.alloc (Nat.le_refl _) (.cells #[.slice none 0 0, .int .i64 0, .slice none 0 0] 25)
  have g4 := Lib.hid (getR_yes (zs := zs) (k := 4) (by omega))
  have g8 := Lib.hid (getR_yes (zs := zs) (k := 8) (by omega))
  have g12 := Lib.hid (getR_yes (zs := zs) (k := 12) (by omega))
  have e4 := Lib.hid (numAt_eq hz 4)
  have e8 := Lib.hid (numAt_eq hz 8)
  have e12 := Lib.hid (numAt_eq hz 12)
  clear hf hz
  go_enter Try.func12, Try.ntmps12
  go_wp2_with fail
  refine (refGet_row hR HZ.out (4 : Nat)).mono ?_; rintro e w1 ⟨rfl, k1, rfl⟩
  rw [g4.out, e4.out]
  try dsimp only
  go_wp2_with fail
  refine (refGet_row (hR.drewN k1) HZ.out (8 : Nat)).mono ?_; rintro e w2 ⟨rfl, k2, rfl⟩
  rw [g8.out, e8.out]
  try dsimp only
  go_wp2_with fail
  refine (refGet_row (hR.drewN (k1 + k2)) HZ.out (12 : Nat)).mono ?_; rintro e w3 ⟨rfl, k3, rfl⟩
  rw [g12.out, e12.out]
  try dsimp only
  generalize numAt zs 4 = n at *
  generalize numAt zs 8 = m at *
  generalize numAt zs 12 = d at *
  generalize zs.length = L at *
  by_cases h1 : n < 1
  · clear hno
    go_wp2_with fail
    refine bodyPost_ret (v := .tuple #[.agg #[.slice none 0 0, .int .i64 0, .slice none 0 0], .int .i64 2]) (by simp [results, Try.results12, go_sem]; done) rfl ⟨rfl, ?_⟩
    exact (((Below.drewN_ ((Below.refl w.heap.size w).alloc (Nat.le_refl _) _) _).setCell (by simp) _).setCell (by simp) _).setCell (by simp) _
  by_cases h2 : 2000 < n
  · clear hno
    go_wp2_with fail
    refine bodyPost_ret (v := .tuple #[.agg #[.slice none 0 0, .int .i64 0, .slice none 0 0], .int .i64 2]) (by simp [results, Try.results12, go_sem]; done) rfl ⟨rfl, ?_⟩
    exact (((Below.drewN_ ((Below.refl w.heap.size w).alloc (Nat.le_refl _) _) _).setCell (by simp) _).setCell (by simp) _).setCell (by simp) _
  by_cases h3 : 65536 < m
  · clear hno
    go_wp2_with fail
    refine bodyPost_ret (v := .tuple #[.agg #[.slice none 0 0, .int .i64 0, .slice none 0 0], .int .i64 2]) (by simp [results, Try.results12, go_sem]; done) rfl ⟨rfl, ?_⟩
    exact (((Below.drewN_ ((Below.refl w.heap.size w).alloc (Nat.le_refl _) _) _).setCell (by simp) _).setCell (by simp) _).setCell (by simp) _
  by_cases h4 : m < d
  · clear hno
    go_wp2_with fail
    refine bodyPost_ret (v := .tuple #[.agg #[.slice none 0 0, .int .i64 0, .slice none 0 0], .int .i64 2]) (by simp [results, Try.results12, go_sem]; done) rfl ⟨rfl, ?_⟩
    exact (((Below.drewN_ ((Below.refl w.heap.size w).alloc (Nat.le_refl _) _) _).setCell (by simp) _).setCell (by simp) _).setCell (by simp) _
  have h5 : ¬ L = 16 + 4 * n + d := fun g => hno ⟨by omega, by omega, by omega, by omega, g⟩
  have h6 : ((L : Int) != 16 + 4 * (n : Int) + d) = true := by simp; omega
  clear hno h5
  go_wp2_with fail
  refine bodyPost_ret (v := .tuple #[.agg #[.slice none 0 0, .int .i64 0, .slice none 0 0], .int .i64 2]) (by simp [results, Try.results12, go_sem]; done) rfl ⟨rfl, ?_⟩
  exact (((Below.drewN_ ((Below.refl w.heap.size w).alloc (Nat.le_refl _) _) _).setCell (by simp) _).setCell (by simp) _).setCell (by simp) _
end Go.Proofs.Ythnimeibjannpaa.Words

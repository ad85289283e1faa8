/- Contract of the document's own Load. -/
import Derived.Test.YtjkijjbakocilaaRefLoad
namespace Go.Proofs.Ytjkijjbakocilaa.Words
set_option maxRecDepth 100000
open Go.RowKit
set_option linter.unusedVariables false

theorem or_zero_u32 (x : Int) (b : 0 ≤ x ∧ x ≤ 255) : bits .or .u32 0 x = x := by
  have := or_join 0 0 x (by omega) (by omega) (by omega) (by omega) (by omega)
  simpa using this
theorem join2' (x0 x1 : Int) (b0 : 0 ≤ x0 ∧ x0 ≤ 255) (b1 : 0 ≤ x1 ∧ x1 ≤ 255) : bits .or .u32 (bits .or .u32 0 x0) (x1 * 256) = x0 + 256 * x1 := by
  rw [or_zero_u32 x0 b0]
  have e1 := or_join 8 x0 x1 (by omega) (by omega) (by omega) (by omega) (by omega)
  simp only [show (2 : Int) ^ 8 = 256 from rfl] at e1
  rw [e1]; omega
theorem join4' (x0 x1 x2 x3 : Int) (b0 : 0 ≤ x0 ∧ x0 ≤ 255) (b1 : 0 ≤ x1 ∧ x1 ≤ 255) (b2 : 0 ≤ x2 ∧ x2 ≤ 255) (b3 : 0 ≤ x3 ∧ x3 ≤ 255) :
    bits .or .u32 (bits .or .u32 (bits .or .u32 (bits .or .u32 0 x0) (x1 * 256)) (x2 * 65536)) (x3 * 16777216) = x0 + 256 * x1 + 65536 * x2 + 16777216 * x3 := by
  rw [or_zero_u32 x0 b0]; exact join4 x0 x1 x2 x3 b0 b1 b2 b3

set_option maxHeartbeats 1000000 in
theorem refLoad_26 (b off c n k : Nat) (x0 x1 x2 x3 : Int) (w : World) (hn : n ≤ c) (hc : c ≤ 9223372036854775807) (hk : (k : Int) ≤ 4294967295) (hck : checkZ 4 k n = 0)
    (b0 : 0 ≤ x0 ∧ x0 ≤ 255) (b1 : 0 ≤ x1 ∧ x1 ≤ 255) (b2 : 0 ≤ x2 ∧ x2 ≤ 255) (b3 : 0 ≤ x3 ∧ x3 ≤ 255)
    (c0 : w.cell? ⟨b, off + k, none⟩ = some (.int .u8 x0)) (c1 : w.cell? ⟨b, off + (k + 1), none⟩ = some (.int .u8 x1)) (c2 : w.cell? ⟨b, off + (k + 2), none⟩ = some (.int .u8 x2)) (c3 : w.cell? ⟨b, off + (k + 3), none⟩ = some (.int .u8 x3)) :
    Calls Try.prog 19 #[.slice (some ⟨b, off, none⟩) n c, .int .i64 26, .int .u32 (k : Int)] w fun e w' => e = .returned (.int .u32 (extendZ 26 (x0 + 256 * x1 + 65536 * x2 + 16777216 * x3))) ∧ w = w' := by
  obtain ⟨_, hr⟩ := checkZ_zero hck
  have HCK := Lib.hid hck
  have hk1 : k + 3 < n := by omega
  have hk0 : (0 : Int) ≤ k := by omega
  clear hck
  go_enter Try.func19, Try.ntmps19
  go_wp2_with fail
  refine (refSize_any _ _).mono ?_; rintro e w1 ⟨rfl, rfl⟩
  rw [show sizeZ 26 = 4 from rfl]
  go_wp2_with fail
  refine (refForm_any _ _).mono ?_; rintro e w1 ⟨rfl, rfl⟩
  rw [show formZ 26 = 4 from rfl]
  go_wp2_with fail
  refine (refCheck_any 4 k n _ (by omega) hk (by omega) (by omega)).mono ?_; rintro e w1 ⟨rfl, rfl⟩
  rw [HCK.out]
  go_wp2_with fail
  refine wp_loop_rounds 5 ?_
  iterate 5 (rw [rounds_succ]; go_wp2_with fail)
  rw [join4' x0 x1 x2 x3 b0 b1 b2 b3]
  refine (refExtend_any 26 _ _ (by omega) (by omega)).mono ?_; rintro e w1 ⟨rfl, rfl⟩
  go_wp2_with fail
  go_ret
  exact ⟨rfl, rfl⟩

set_option maxHeartbeats 1000000 in
theorem refLoad_27 (b off c n k : Nat) (x0 x1 : Int) (w : World) (hn : n ≤ c) (hc : c ≤ 9223372036854775807) (hk : (k : Int) ≤ 4294967295) (hck : checkZ 2 k n = 0)
    (b0 : 0 ≤ x0 ∧ x0 ≤ 255) (b1 : 0 ≤ x1 ∧ x1 ≤ 255)
    (c0 : w.cell? ⟨b, off + k, none⟩ = some (.int .u8 x0)) (c1 : w.cell? ⟨b, off + (k + 1), none⟩ = some (.int .u8 x1)) :
    Calls Try.prog 19 #[.slice (some ⟨b, off, none⟩) n c, .int .i64 27, .int .u32 (k : Int)] w fun e w' => e = .returned (.int .u32 (extendZ 27 (x0 + 256 * x1))) ∧ w = w' := by
  obtain ⟨_, hr⟩ := checkZ_zero hck
  have HCK := Lib.hid hck
  have hk1 : k + 1 < n := by omega
  have hk0 : (0 : Int) ≤ k := by omega
  clear hck
  go_enter Try.func19, Try.ntmps19
  go_wp2_with fail
  refine (refSize_any _ _).mono ?_; rintro e w1 ⟨rfl, rfl⟩
  rw [show sizeZ 27 = 2 from rfl]
  go_wp2_with fail
  refine (refForm_any _ _).mono ?_; rintro e w1 ⟨rfl, rfl⟩
  rw [show formZ 27 = 4 from rfl]
  go_wp2_with fail
  refine (refCheck_any 2 k n _ (by omega) hk (by omega) (by omega)).mono ?_; rintro e w1 ⟨rfl, rfl⟩
  rw [HCK.out]
  go_wp2_with fail
  refine wp_loop_rounds 3 ?_
  iterate 3 (rw [rounds_succ]; go_wp2_with fail)
  rw [join2' x0 x1 b0 b1]
  refine (refExtend_any 27 _ _ (by omega) (by omega)).mono ?_; rintro e w1 ⟨rfl, rfl⟩
  go_wp2_with fail
  go_ret
  exact ⟨rfl, rfl⟩

set_option maxHeartbeats 1000000 in
theorem refLoad_28 (b off c n k : Nat) (x0 x1 : Int) (w : World) (hn : n ≤ c) (hc : c ≤ 9223372036854775807) (hk : (k : Int) ≤ 4294967295) (hck : checkZ 2 k n = 0)
    (b0 : 0 ≤ x0 ∧ x0 ≤ 255) (b1 : 0 ≤ x1 ∧ x1 ≤ 255)
    (c0 : w.cell? ⟨b, off + k, none⟩ = some (.int .u8 x0)) (c1 : w.cell? ⟨b, off + (k + 1), none⟩ = some (.int .u8 x1)) :
    Calls Try.prog 19 #[.slice (some ⟨b, off, none⟩) n c, .int .i64 28, .int .u32 (k : Int)] w fun e w' => e = .returned (.int .u32 (extendZ 28 (x0 + 256 * x1))) ∧ w = w' := by
  obtain ⟨_, hr⟩ := checkZ_zero hck
  have HCK := Lib.hid hck
  have hk1 : k + 1 < n := by omega
  have hk0 : (0 : Int) ≤ k := by omega
  clear hck
  go_enter Try.func19, Try.ntmps19
  go_wp2_with fail
  refine (refSize_any _ _).mono ?_; rintro e w1 ⟨rfl, rfl⟩
  rw [show sizeZ 28 = 2 from rfl]
  go_wp2_with fail
  refine (refForm_any _ _).mono ?_; rintro e w1 ⟨rfl, rfl⟩
  rw [show formZ 28 = 4 from rfl]
  go_wp2_with fail
  refine (refCheck_any 2 k n _ (by omega) hk (by omega) (by omega)).mono ?_; rintro e w1 ⟨rfl, rfl⟩
  rw [HCK.out]
  go_wp2_with fail
  refine wp_loop_rounds 3 ?_
  iterate 3 (rw [rounds_succ]; go_wp2_with fail)
  rw [join2' x0 x1 b0 b1]
  refine (refExtend_any 28 _ _ (by omega) (by omega)).mono ?_; rintro e w1 ⟨rfl, rfl⟩
  go_wp2_with fail
  go_ret
  exact ⟨rfl, rfl⟩

set_option maxHeartbeats 1000000 in
theorem refLoad_29 (b off c n k : Nat) (x0 : Int) (w : World) (hn : n ≤ c) (hc : c ≤ 9223372036854775807) (hk : (k : Int) ≤ 4294967295) (hck : checkZ 1 k n = 0)
    (b0 : 0 ≤ x0 ∧ x0 ≤ 255)
    (c0 : w.cell? ⟨b, off + k, none⟩ = some (.int .u8 x0)) :
    Calls Try.prog 19 #[.slice (some ⟨b, off, none⟩) n c, .int .i64 29, .int .u32 (k : Int)] w fun e w' => e = .returned (.int .u32 (extendZ 29 x0)) ∧ w = w' := by
  obtain ⟨_, hr⟩ := checkZ_zero hck
  have HCK := Lib.hid hck
  have hk1 : k + 0 < n := by omega
  have hk0 : (0 : Int) ≤ k := by omega
  clear hck
  go_enter Try.func19, Try.ntmps19
  go_wp2_with fail
  refine (refSize_any _ _).mono ?_; rintro e w1 ⟨rfl, rfl⟩
  rw [show sizeZ 29 = 1 from rfl]
  go_wp2_with fail
  refine (refForm_any _ _).mono ?_; rintro e w1 ⟨rfl, rfl⟩
  rw [show formZ 29 = 4 from rfl]
  go_wp2_with fail
  refine (refCheck_any 1 k n _ (by omega) hk (by omega) (by omega)).mono ?_; rintro e w1 ⟨rfl, rfl⟩
  rw [HCK.out]
  go_wp2_with fail
  refine wp_loop_rounds 2 ?_
  iterate 2 (rw [rounds_succ]; go_wp2_with fail)
  rw [or_zero_u32 x0 b0]
  refine (refExtend_any 29 _ _ (by omega) (by omega)).mono ?_; rintro e w1 ⟨rfl, rfl⟩
  go_wp2_with fail
  go_ret
  exact ⟨rfl, rfl⟩

set_option maxHeartbeats 1000000 in
theorem refLoad_30 (b off c n k : Nat) (x0 : Int) (w : World) (hn : n ≤ c) (hc : c ≤ 9223372036854775807) (hk : (k : Int) ≤ 4294967295) (hck : checkZ 1 k n = 0)
    (b0 : 0 ≤ x0 ∧ x0 ≤ 255)
    (c0 : w.cell? ⟨b, off + k, none⟩ = some (.int .u8 x0)) :
    Calls Try.prog 19 #[.slice (some ⟨b, off, none⟩) n c, .int .i64 30, .int .u32 (k : Int)] w fun e w' => e = .returned (.int .u32 (extendZ 30 x0)) ∧ w = w' := by
  obtain ⟨_, hr⟩ := checkZ_zero hck
  have HCK := Lib.hid hck
  have hk1 : k + 0 < n := by omega
  have hk0 : (0 : Int) ≤ k := by omega
  clear hck
  go_enter Try.func19, Try.ntmps19
  go_wp2_with fail
  refine (refSize_any _ _).mono ?_; rintro e w1 ⟨rfl, rfl⟩
  rw [show sizeZ 30 = 1 from rfl]
  go_wp2_with fail
  refine (refForm_any _ _).mono ?_; rintro e w1 ⟨rfl, rfl⟩
  rw [show formZ 30 = 4 from rfl]
  go_wp2_with fail
  refine (refCheck_any 1 k n _ (by omega) hk (by omega) (by omega)).mono ?_; rintro e w1 ⟨rfl, rfl⟩
  rw [HCK.out]
  go_wp2_with fail
  refine wp_loop_rounds 2 ?_
  iterate 2 (rw [rounds_succ]; go_wp2_with fail)
  rw [or_zero_u32 x0 b0]
  refine (refExtend_any 30 _ _ (by omega) (by omega)).mono ?_; rintro e w1 ⟨rfl, rfl⟩
  go_wp2_with fail
  go_ret
  exact ⟨rfl, rfl⟩

theorem refLoad_any (A : Option Addr) (c n B : Nat) (zs : List Int) (op addr : Int) (w : World) (h : Row w B 1 (.slice A n c) n (zs.map (Value.int .u8))) (hz : ∀ x ∈ zs, 0 ≤ x ∧ x ≤ 255) (h0 : 0 ≤ addr) (h1 : addr ≤ 4294967295) :
    Calls Try.prog 19 #[.slice A n c, .int .i64 op, .int .u32 addr] w fun e w' => e = .returned (.int .u32 (loadZ zs op addr)) ∧ w = w' := by
  have hl : zs.length = n := by have := h.len; simpa using this
  obtain ⟨u1, u2⟩ := h.cap
  by_cases hno : op < 26 ∨ 30 < op ∨ checkZ (sizeZ op) addr n ≠ 0
  · exact refLoad_no A c n zs op addr w hl (by omega) h0 h1 hno
  have hck : checkZ (sizeZ op) addr n = 0 := by omega
  have hs := sizeZ_cases op
  have hr := (checkZ_zero hck).2
  obtain ⟨k, rfl⟩ := Int.eq_ofNat_of_zero_le h0
  have hn0 : n ≠ 0 := by omega
  obtain ⟨b, off, rfl, _, hcell⟩ := h.at_ hn0
  rw [loadZ_yes (by omega) (by omega) (by rw [hl]; exact hck), Int.toNat_natCast]
  have hop : op = 26 ∨ op = 27 ∨ op = 28 ∨ op = 29 ∨ op = 30 := by omega
  rcases hop with rfl | rfl | rfl | rfl | rfl
  · exact refLoad_26 b off c n k _ _ _ _ w u1 u2 h1 hck (byte_at hz k) (byte_at hz (k + 1)) (byte_at hz (k + 2)) (byte_at hz (k + 3)) (cell_row hcell k (by have e : sizeZ 26 = 4 := rfl; omega)) (cell_row hcell (k + 1) (by have e : sizeZ 26 = 4 := rfl; omega)) (cell_row hcell (k + 2) (by have e : sizeZ 26 = 4 := rfl; omega)) (cell_row hcell (k + 3) (by have e : sizeZ 26 = 4 := rfl; omega))
  · exact refLoad_27 b off c n k _ _ w u1 u2 h1 hck (byte_at hz k) (byte_at hz (k + 1)) (cell_row hcell k (by have e : sizeZ 27 = 2 := rfl; omega)) (cell_row hcell (k + 1) (by have e : sizeZ 27 = 2 := rfl; omega))
  · exact refLoad_28 b off c n k _ _ w u1 u2 h1 hck (byte_at hz k) (byte_at hz (k + 1)) (cell_row hcell k (by have e : sizeZ 28 = 2 := rfl; omega)) (cell_row hcell (k + 1) (by have e : sizeZ 28 = 2 := rfl; omega))
  · exact refLoad_29 b off c n k _ w u1 u2 h1 hck (byte_at hz k) (cell_row hcell k (by have e : sizeZ 29 = 1 := rfl; omega))
  · exact refLoad_30 b off c n k _ w u1 u2 h1 hck (byte_at hz k) (cell_row hcell k (by have e : sizeZ 30 = 1 := rfl; omega))
end Go.Proofs.Ytjkijjbakocilaa.Words

/- Several texts in one: RefSlots, RefSizes, RefBytes, RefForm, Sgn, RefInt, WordJoin. -/
import Derived.Test.YthhoigkmmlkfcaaG02
import Derived.Test.YthhoigkmmlkfcaaG00
import Derived.LoopTactic
import Derived.Test.YthhoigkmmlkfcaaRows

/- Contracts of the document's own places that are filled in any order: slots, Reserve, Fill, PopSlot. -/
namespace Go.Proofs.Ythhoigkmmlkfcaa.Words
set_option maxRecDepth 100000
open Go.RowKit
set_option linter.unusedVariables false
set_option linter.unusedSimpArgs false

theorem info_slt : (Try.prog.info? 58).map (fun i => (i.zero, i.size, i.bytes)) = some (some (.agg #[.int .i64 0, .bool false, .int .u32 0]), 3, 16) := by kernel_rfl
theorem parts_slt : ∃ i, Try.prog.info? 58 = some i ∧ i.zero = some (.agg #[.int .i64 0, .bool false, .int .u32 0]) ∧ i.size = 3 ∧ i.bytes = 16 := by
  have h := info_slt
  cases hi : Try.prog.info? 58 with
  | none => rw [hi] at h; cases h
  | some i =>
    rw [hi] at h
    simp only [Option.map_some, Option.some.injEq, Prod.mk.injEq] at h
    exact ⟨i, rfl, h.1, h.2.1, h.2.2⟩
/-- What is answered: places in a row of the call's own. -/
def SltsOut (w : World) (l : List Slt) (mk : Value → Value) (e : Ending) (w' : World) : Prop :=
  ∃ v, e = .returned (mk v) ∧ w'.ownsRow w.heap.size 58 3 v l.length (flat sltL l) ∧ Below w.heap.size w w'
theorem Row.slt {w : World} {B n c b off : Nat} {l : List Slt} (h : Row w B 3 (.slice (some ⟨b, off, none⟩) n c) n (flat sltL l)) {k : Nat} {x : Slt} (hx : l[k]? = some x) :
    w.cell? ⟨b, off + k * 3, none⟩ = some (.int .i64 x.tag) ∧ w.cell? ⟨b, off + k * 3 + 1, none⟩ = some (.bool x.full) ∧ w.cell? ⟨b, off + k * 3 + 2, none⟩ = some (.int .u32 x.val) :=
  ⟨h.flat_cell sltL_len hx (j := 0) (by omega) rfl, h.flat_cell sltL_len hx (j := 1) (by omega) rfl, h.flat_cell sltL_len hx (j := 2) (by omega) rfl⟩
theorem row_slt (w : World) (x : Slt) : Row (w.alloc (.cells #[.int .i64 x.tag, .bool x.full, .int .u32 x.val] 58)) (w.heap.size + 1) 3 (.slice (some ⟨w.heap.size, 0, none⟩) 1 1) 1 (flat sltL [x]) := by
  rw [flat_one]; exact row_new w (sltL x) 3 rfl (by omega) _

set_option maxHeartbeats 400000 in
theorem refSlots_any (A : Option Addr) (c : Nat) (l : List Slt) (w : World) (h : Row w w.heap.size 3 (.slice A l.length c) l.length (flat sltL l)) (hs : l.length ≤ 2000000) :
    Calls Try.prog 30 #[.slice A l.length c] w (SltsOut w l id) := by
  obtain ⟨i0, hi, hq0, hq1, hq2⟩ := parts_slt
  have HI := Lib.hid hi
  have HZ0 := Lib.hid hq0
  have HZ1 := Lib.hid hq1
  have HZ2 := Lib.hid hq2
  clear hi hq0 hq1 hq2
  have HR := Lib.hid h
  clear h
  generalize hn : l.length = n at *
  have HN := Lib.hid hn
  clear hn
  go_enter Try.func30, Try.ntmps30
  go_wp2_with (first
    | (refine wpList_append_new _ rfl (.const (.slice none 0 0)) (.tmp 3) 34 rfl w.heap.size 58 i0 _ 3 16 Try.underlying34 HI.out HZ0.out HZ1.out HZ2.out rfl (by omega) (.slice none 0 0) 0 [] rfl (World.ownsRow_nil _ _ _ _) _ (.slice A n c) n (flat sltL l) rfl HR.out (flat_oneC sltL_one l) (by unfold maxLen; omega) (by omega) (Nat.le_refl _) ?_; intro v2 w2 hO hg hn2; have HO2 := Lib.hid hO; have HK2 : Hid (Below w.heap.size w w2) := Below.grown (Below.refl _ _) hg (Nat.le_refl _) (fun q hq => by cases hq); clear hO hg hn2))
  go_ret
  refine ⟨_, rfl, ?_, HK2.out⟩
  have := HO2.out
  rw [Nat.zero_add, List.nil_append] at this
  rw [HN.out]; exact this

end Go.Proofs.Ythhoigkmmlkfcaa.Words

/- Contracts of the document's own Size and Check. -/
namespace Go.Proofs.Ythhoigkmmlkfcaa.Words
set_option maxRecDepth 100000
open Go.RowKit
set_option linter.unusedVariables false

set_option maxHeartbeats 400000 in
theorem refSize_any (op : Int) (w : World) :
    Calls Try.prog 20 #[.int .i64 op] w fun e w' => e = .returned (.int .i64 (sizeZ op)) ∧ w = w' := by
  have hc := sizeZ_cases op
  go_enter Try.func20, Try.ntmps20
  go_wp2
  all_goals
    go_ret
    exact ⟨ret_int (by (try simp only [beq_iff_eq, beq_eq_false_iff_ne, ne_eq] at *); omega), rfl⟩

set_option maxHeartbeats 1000000 in
theorem refCheck_any (size addr n : Int) (w : World) (h0 : 0 ≤ addr) (h1 : addr ≤ 4294967295) (hs : -9223372036854775808 ≤ size ∧ size ≤ 9223372036854775807) (hn : -9223372036854775808 ≤ n ∧ n ≤ 9223372036854775807) :
    Calls Try.prog 33 #[.int .i64 size, .int .u32 addr, .int .i64 n] w fun e w' => e = .returned (.int .i64 (checkZ size addr n)) ∧ w = w' := by
  obtain ⟨s0, s1⟩ := hs
  obtain ⟨n0, n1⟩ := hn
  by_cases hs : size < 1
  · by_cases hr : n < addr + size
    · have t := Lib.hid (checkZ_range (n := n) (addr := addr) (.inl hs) hr)
      go_enter Try.func33, Try.ntmps33
      go_wp2_with fail
      go_ret
      exact ⟨ret_int t.out.symm, rfl⟩
    · have t := Lib.hid (checkZ_ok (n := n) (addr := addr) (.inl hs) (by omega))
      go_enter Try.func33, Try.ntmps33
      go_wp2_with fail
      go_ret
      exact ⟨ret_int t.out.symm, rfl⟩
  have hm0 : 0 ≤ addr % size := Int.emod_nonneg _ (by omega)
  have hm1 : addr % size < size := Int.emod_lt_of_pos _ (by omega)
  by_cases hm : addr % size = 0
  · have HM := Lib.hid hm
    by_cases hr : n < size
    · have t := Lib.hid (checkZ_range (n := n) (addr := addr) (.inr hm) (by omega))
      go_enter Try.func33, Try.ntmps33
      go_wp2_with fail
      go_ret
      exact ⟨ret_int t.out.symm, rfl⟩
    by_cases hq : n < addr + size
    · have t := Lib.hid (checkZ_range (n := n) (addr := addr) (.inr hm) hq)
      go_enter Try.func33, Try.ntmps33
      go_wp2_with fail
      go_ret
      exact ⟨ret_int t.out.symm, rfl⟩
    · have t := Lib.hid (checkZ_ok (n := n) (addr := addr) (.inr hm) (by omega))
      go_enter Try.func33, Try.ntmps33
      go_wp2_with fail
      go_ret
      exact ⟨ret_int t.out.symm, rfl⟩
  · have t := Lib.hid (checkZ_mis (n := n) (show 1 ≤ size by omega) hm)
    have hq : (addr % size != 0) = true := by simp [hm]
    go_enter Try.func33, Try.ntmps33
    go_wp2_with fail
    go_ret
    exact ⟨ret_int t.out.symm, rfl⟩
end Go.Proofs.Ythhoigkmmlkfcaa.Words

/- Contract of the document's own Overlap. -/
namespace Go.Proofs.Ythhoigkmmlkfcaa.Words
set_option maxRecDepth 100000
open Go.RowKit
set_option linter.unusedVariables false

end Go.Proofs.Ythhoigkmmlkfcaa.Words

/- Contract of the document's own answer on forms. No conditions. -/
namespace Go.Proofs.Ythhoigkmmlkfcaa.Words
set_option maxRecDepth 100000
open Go.RowKit

set_option maxHeartbeats 400000 in
theorem refForm_any (op : Int) (w : World) :
    Calls Try.prog 21 #[.int .i64 op] w fun e w' => e = .returned (.int .i64 (formZ op)) ∧ w = w' := by
  have hc := formZ_cases op
  go_enter Try.func21, Try.ntmps21
  go_wp2
  all_goals
    go_ret
    exact ⟨ret_int (by (try simp only [beq_iff_eq, beq_eq_false_iff_ne, ne_eq] at *); omega), rfl⟩

end Go.Proofs.Ythhoigkmmlkfcaa.Words

/- A word as a number with a sign. Nothing here speaks of one program text. -/
namespace Go.Proofs.Ythhoigkmmlkfcaa.Words
set_option maxRecDepth 100000
open Go.RowKit

/-- A word as a number with a sign. -/
def sgn (n : Int) : Int := if n < 2147483648 then n else n - 4294967296
theorem sgn_low {n : Int} (h : n < 2147483648) : sgn n = n := by unfold sgn; rw [if_pos h]
theorem sgn_high {n : Int} (h : 2147483648 ≤ n) : sgn n = n - 4294967296 := by unfold sgn; rw [if_neg (by omega)]
theorem sgn_range {n : Int} (h0 : 0 ≤ n) (h1 : n < 4294967296) : -2147483648 ≤ sgn n ∧ sgn n ≤ 2147483647 := by unfold sgn; split <;> omega
theorem sgn_of (n : Int) (h0 : 0 ≤ n) (h1 : n < 4294967296) : sgn n % 4294967296 = n := by unfold sgn; split <;> omega
theorem of_sgn (n : Int) (h0 : -2147483648 ≤ n) (h1 : n ≤ 2147483647) : sgn (n % 4294967296) = n := by unfold sgn; split <;> omega

end Go.Proofs.Ythhoigkmmlkfcaa.Words

/- Contract of the document's own answer for Int. No conditions but that a word is from 0 to 2^32 - 1. -/
namespace Go.Proofs.Ythhoigkmmlkfcaa.Words
set_option maxRecDepth 100000
open Go.RowKit

set_option maxHeartbeats 400000 in
theorem refInt_any (n : Int) (w : World) (h0 : 0 ≤ n) (h1 : n < 4294967296) :
    Calls Try.prog 39 #[.int .u32 n] w fun e w' => e = .returned (.int .i64 (sgn n)) ∧ w = w' := by
  by_cases h : n < 2147483648
  · go_enter Try.func39, Try.ntmps39
    go_wp2
    go_ret
    exact ⟨ret_int (sgn_low h).symm, rfl⟩
  · go_enter Try.func39, Try.ntmps39
    go_wp2
    go_ret
    exact ⟨ret_int (sgn_high (by omega)).symm, rfl⟩
end Go.Proofs.Ythhoigkmmlkfcaa.Words

/- Bytes joined to a word. Nothing here speaks of one program text. -/
namespace Go.Proofs.Ythhoigkmmlkfcaa.Words
set_option maxRecDepth 100000
open Go.RowKit

/-- Four bytes, one behind the other, the lowest first. -/
theorem or_join (i : Nat) (x y : Int) (hx0 : 0 ≤ x) (hx1 : x < 2 ^ i) (hy0 : 0 ≤ y) (hy1 : y < 256) (hi : i + 8 ≤ 32) :
    bits .or .u32 x (y * 2 ^ i) = x + y * 2 ^ i := by
  obtain ⟨a, rfl⟩ := Int.eq_ofNat_of_zero_le hx0
  obtain ⟨c, rfl⟩ := Int.eq_ofNat_of_zero_le hy0
  have ha : a < 2 ^ i := by exact_mod_cast hx1
  have hc : c < 256 := by omega
  have hp : 2 ^ i * 256 ≤ 4294967296 := by
    have : (2 : Nat) ^ (i + 8) ≤ 2 ^ 32 := Nat.pow_le_pow_right (by omega) hi
    rw [Nat.pow_add] at this; simpa using this
  have hpos : 0 < 2 ^ i := Nat.pow_pos (by omega)
  have hm : c * 2 ^ i ≤ 255 * 2 ^ i := Nat.mul_le_mul_right _ (by omega)
  have e : ((c : Int) * 2 ^ i) = ((c * 2 ^ i : Nat) : Int) := by simp
  rw [e, u32_or_nat a (c * 2 ^ i) (by omega) (by omega), Nat.or_comm, nat_join i (c * 2 ^ i) a (by simp) ha]
  omega
theorem join4 (x0 x1 x2 x3 : Int) (b0 : 0 ≤ x0 ∧ x0 ≤ 255) (b1 : 0 ≤ x1 ∧ x1 ≤ 255) (b2 : 0 ≤ x2 ∧ x2 ≤ 255) (b3 : 0 ≤ x3 ∧ x3 ≤ 255) :
    bits .or .u32 (bits .or .u32 (bits .or .u32 x0 (x1 * 256)) (x2 * 65536)) (x3 * 16777216) = x0 + 256 * x1 + 65536 * x2 + 16777216 * x3 := by
  have e1 := or_join 8 x0 x1 (by omega) (by omega) (by omega) (by omega) (by omega)
  have e2 := or_join 16 (x0 + x1 * 256) x2 (by omega) (by omega) (by omega) (by omega) (by omega)
  have e3 := or_join 24 (x0 + x1 * 256 + x2 * 65536) x3 (by omega) (by omega) (by omega) (by omega) (by omega)
  simp only [show (2 : Int) ^ 8 = 256 from rfl, show (2 : Int) ^ 16 = 65536 from rfl, show (2 : Int) ^ 24 = 16777216 from rfl] at e1 e2 e3
  rw [e1, e2, e3]; omega
end Go.Proofs.Ythhoigkmmlkfcaa.Words

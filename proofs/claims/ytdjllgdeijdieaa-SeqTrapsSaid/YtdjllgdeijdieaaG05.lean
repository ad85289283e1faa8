/- Several texts in one: BytesSmall, BytesFits, WordJoin, WordGet, BytesLoad, SeqMem, OwnMore. -/
import Derived.Test.YtdjllgdeijdieaaRows
import Derived.Test.YtdjllgdeijdieaaG00
import Derived.Test.YtdjllgdeijdieaaG02
import Derived.Test.YtdjllgdeijdieaaG03
import Derived.Test.YtdjllgdeijdieaaG01

/- Contracts of package bytes: Size, Check, Overlap and the small calls behind them. -/
namespace Go.Proofs.Ytdjllgdeijdieaa.Words
set_option maxRecDepth 100000
open Go.RowKit
set_option linter.unusedVariables false

set_option maxHeartbeats 400000 in
theorem size_any (op : Int) (w : World) :
    Calls Try.prog 49 #[.int .i64 op] w fun e w' => e = .returned (.int .i64 (sizeZ op)) ∧ w = w' := by
  have hc := sizeZ_cases op
  go_enter Try.func49, Try.ntmps49
  go_wp2
  all_goals
    go_ret
    exact ⟨ret_int (by (try simp only [beq_iff_eq, beq_eq_false_iff_ne, ne_eq] at *); omega), rfl⟩

set_option maxHeartbeats 1000000 in
theorem check_any (size addr n : Int) (w : World) (h0 : 0 ≤ addr) (h1 : addr ≤ 4294967295) (hs : -9223372036854775808 ≤ size ∧ size ≤ 9223372036854775807) (hn : -9223372036854775808 ≤ n ∧ n ≤ 9223372036854775807) :
    Calls Try.prog 59 #[.int .i64 size, .int .u32 addr, .int .i64 n] w fun e w' => e = .returned (.int .i64 (checkZ size addr n)) ∧ w = w' := by
  obtain ⟨s0, s1⟩ := hs
  obtain ⟨n0, n1⟩ := hn
  by_cases hs : size < 1
  · by_cases hr : n < addr + size
    · have t := Lib.hid (checkZ_range (n := n) (addr := addr) (.inl hs) hr)
      go_enter Try.func59, Try.ntmps59
      go_wp2_with fail
      go_ret
      exact ⟨ret_int t.out.symm, rfl⟩
    · have t := Lib.hid (checkZ_ok (n := n) (addr := addr) (.inl hs) (by omega))
      go_enter Try.func59, Try.ntmps59
      go_wp2_with fail
      go_ret
      exact ⟨ret_int t.out.symm, rfl⟩
  have hm0 : 0 ≤ addr % size := Int.emod_nonneg _ (by omega)
  have hm1 : addr % size < size := Int.emod_lt_of_pos _ (by omega)
  by_cases hm : addr % size = 0
  · have HM := Lib.hid hm
    have hle : addr + size ≤ 9223372036854775807 := by
      by_cases hz : addr = 0
      · omega
      · have : size ≤ addr := Int.le_of_dvd (by omega) (Int.dvd_of_emod_eq_zero hm)
        omega
    by_cases hq : n < addr + size
    · have t := Lib.hid (checkZ_range (n := n) (addr := addr) (.inr hm) hq)
      go_enter Try.func59, Try.ntmps59
      go_wp2_with fail
      go_ret
      exact ⟨ret_int t.out.symm, rfl⟩
    · have t := Lib.hid (checkZ_ok (n := n) (addr := addr) (.inr hm) (by omega))
      go_enter Try.func59, Try.ntmps59
      go_wp2_with fail
      go_ret
      exact ⟨ret_int t.out.symm, rfl⟩
  · have t := Lib.hid (checkZ_mis (n := n) (show 1 ≤ size by omega) hm)
    have hq : (addr % size != 0) = true := by simp [hm]
    go_enter Try.func59, Try.ntmps59
    go_wp2_with fail
    go_ret
    exact ⟨ret_int t.out.symm, rfl⟩

theorem wrapu64 (x : Int) : IntKind.u64.wrap x = x % 18446744073709551616 := rfl
theorem wrapi16 (x : Int) : IntKind.i16.wrap x = if x % 65536 < 32768 then x % 65536 else x % 65536 - 65536 := by
  simp only [IntKind.wrap, IntKind.bits, IntKind.signed]; simp; split <;> split <;> omega
theorem wrapi8 (x : Int) : IntKind.i8.wrap x = if x % 256 < 128 then x % 256 else x % 256 - 256 := by
  simp only [IntKind.wrap, IntKind.bits, IntKind.signed]; simp; split <;> split <;> omega

set_option maxHeartbeats 400000 in
theorem isLoad_any (op : Int) (w : World) :
    Calls Try.prog 60 #[.int .i64 op] w fun e w' => e = .returned (.bool (decide (26 ≤ op ∧ op ≤ 30))) ∧ w = w' := by
  go_enter Try.func60, Try.ntmps60
  go_wp2
  all_goals
    go_ret
    refine ⟨ret_bool ?_, rfl⟩
    (try simp only [beq_iff_eq, beq_eq_false_iff_ne, ne_eq] at *)
    symm
    first
      | exact decide_eq_true (by omega)
      | exact decide_eq_false (by omega)

set_option maxHeartbeats 400000 in
theorem bsigned_any (op x : Int) (w : World) (h0 : 0 ≤ x) (h1 : x < 4294967296) :
    Calls Try.prog 62 #[.int .i64 op, .int .u32 x] w fun e w' => e = .returned (.int .u32 (extendZ op x)) ∧ w = w' := by
  go_enter Try.func62, Try.ntmps62
  go_wp2
  all_goals
    go_ret
    refine ⟨ret_int ?_, rfl⟩
    (try simp only [beq_iff_eq, beq_eq_false_iff_ne, ne_eq] at *)
    unfold extendZ
    (try simp only [wrapi16, wrapi8])
    repeat' split
    all_goals omega

set_option maxHeartbeats 400000 in
theorem isSize_any (n : Int) (w : World) :
    Calls Try.prog 70 #[.int .i64 n] w fun e w' => e = .returned (.bool (decide (n = 1 ∨ n = 2 ∨ n = 4))) ∧ w = w' := by
  by_cases a : n = 4
  · subst a
    go_enter Try.func70, Try.ntmps70
    go_wp2_with fail
    go_ret
    exact ⟨rfl, rfl⟩
  by_cases b : n = 2
  · subst b
    go_enter Try.func70, Try.ntmps70
    go_wp2_with fail
    go_ret
    exact ⟨rfl, rfl⟩
  by_cases c : n = 1
  · subst c
    go_enter Try.func70, Try.ntmps70
    go_wp2_with fail
    go_ret
    exact ⟨rfl, rfl⟩
  · have t := Lib.hid (show decide (n = 1 ∨ n = 2 ∨ n = 4) = false from decide_eq_false (by omega))
    have q1 : (n == 4) = false := by simp; exact a
    have q2 : (n == 2) = false := by simp; exact b
    have q3 : (n == 1) = false := by simp; exact c
    clear a b c
    go_enter Try.func70, Try.ntmps70
    go_wp2_with fail
    go_ret
    exact ⟨ret_bool t.out.symm, rfl⟩

set_option maxHeartbeats 400000 in
theorem isAddress_any (n : Int) (w : World) :
    Calls Try.prog 71 #[.int .i64 n] w fun e w' => e = .returned (.bool (decide (0 ≤ n ∧ n ≤ 4294967295))) ∧ w = w' := by
  by_cases a : n < 0
  · have t := Lib.hid (show decide (0 ≤ n ∧ n ≤ 4294967295) = false from decide_eq_false (by omega))
    go_enter Try.func71, Try.ntmps71
    go_wp2_with fail
    go_ret
    exact ⟨ret_bool (t.out.symm ▸ (by simp; try omega)), rfl⟩
  by_cases b : n ≤ 4294967295
  · have t := Lib.hid (show decide (0 ≤ n ∧ n ≤ 4294967295) = true from decide_eq_true (by omega))
    go_enter Try.func71, Try.ntmps71
    go_wp2_with fail
    go_ret
    exact ⟨ret_bool (t.out.symm ▸ (by simp; try omega)), rfl⟩
  · have t := Lib.hid (show decide (0 ≤ n ∧ n ≤ 4294967295) = false from decide_eq_false (by omega))
    go_enter Try.func71, Try.ntmps71
    go_wp2_with fail
    go_ret
    exact ⟨ret_bool (t.out.symm ▸ (by simp; try omega)), rfl⟩
end Go.Proofs.Ytdjllgdeijdieaa.Words

/- Contract of bytes.fits. -/
namespace Go.Proofs.Ytdjllgdeijdieaa.Words
set_option maxRecDepth 100000
open Go.RowKit
set_option linter.unusedVariables false

theorem quiet_same {P : Program} {f : FuncId} {args : Array Value} {w : World} {n : Nat} {v : Value} (h : Calls P f args (w.drewN n) fun e w' => e = .returned v ∧ w.drewN n = w') :
    Calls P f args (w.drewN n) fun e w'' => e = .returned v ∧ ∃ m, w'' = w.drewN m := h.mono fun _ _ ⟨he, hm⟩ => ⟨he, n, hm.symm⟩

set_option maxHeartbeats 1000000 in
theorem bfits_any (addr size v n : Int) (w : World) (hs : -9223372036854775808 ≤ size ∧ size ≤ 9223372036854775807) (hn : -9223372036854775808 ≤ n ∧ n ≤ 9223372036854775807) :
    Calls Try.prog 68 #[.agg #[.int .i64 addr, .int .i64 size, .int .u32 v], .int .i64 n] w fun e w' => e = .returned (.bool (storeOk size addr n)) ∧ Below w.heap.size w w' := by
  have HW := Lib.hid ((Below.refl w.heap.size w).alloc (Nat.le_refl _) (.cells #[.int .i64 addr, .int .i64 size, .int .u32 v] 38))
  by_cases a : size = 1 ∨ size = 2 ∨ size = 4
  · have A1 := Lib.hid (show decide (size = 1 ∨ size = 2 ∨ size = 4) = true from decide_eq_true a)
    have B1 := Lib.hid (fun x : World => show Calls Try.prog 70 #[.int .i64 size] x (fun e w' => e = .returned (.bool true) ∧ x = w') by have h := isSize_any size x; rw [A1.out] at h; exact h)
    by_cases b : 0 ≤ addr ∧ addr ≤ 4294967295
    · have A2 := Lib.hid (show decide (0 ≤ addr ∧ addr ≤ 4294967295) = true from decide_eq_true b)
      have B2 := Lib.hid (fun x : World => show Calls Try.prog 71 #[.int .i64 addr] x (fun e w' => e = .returned (.bool true) ∧ x = w') by have h := isAddress_any addr x; rw [A2.out] at h; exact h)
      have e2 : addr % 4294967296 = addr := by omega
      have t : (checkZ size addr n == 0) = storeOk size addr n := by
        unfold storeOk
        by_cases h : checkZ size addr n = 0
        · rw [decide_eq_true ⟨a, b.1, b.2, h⟩]; simp [h]
        · rw [decide_eq_false (fun g => h g.2.2.2)]; simp [h]
      have T := Lib.hid t
      clear t
      have A := Lib.hid a
      clear a
      obtain ⟨b0, b1⟩ := b
      go_enter Try.func68, Try.ntmps68
      go_wp2_with fail
      go_quiet (first
        | (go_at_call 70; refine quiet_same (B1.out _))
        | (go_at_call 71; refine quiet_same (B2.out _))
        | (go_at_call 58; refine quiet_same (of_any _ _))
        | (go_at_call 59; refine quiet_same (check_any _ _ _ _ b0 b1 hs hn)))
      go_wp2_with fail
      go_ret
      exact ⟨ret_bool T.out, Below.drewN_ HW.out _⟩
    · have A2 := Lib.hid (show decide (0 ≤ addr ∧ addr ≤ 4294967295) = false from decide_eq_false b)
      have B2 := Lib.hid (fun x : World => show Calls Try.prog 71 #[.int .i64 addr] x (fun e w' => e = .returned (.bool false) ∧ x = w') by have h := isAddress_any addr x; rw [A2.out] at h; exact h)
      have T := Lib.hid (storeOk_no (size := size) (addr := addr) (n := n) (fun g => b ⟨g.2.1, g.2.2.1⟩))
      clear a b
      go_enter Try.func68, Try.ntmps68
      go_wp2_with fail
      go_quiet (first
        | (go_at_call 70; refine quiet_same (B1.out _))
        | (go_at_call 71; refine quiet_same (B2.out _)))
      go_wp2_with fail
      go_ret
      exact ⟨ret_bool T.out.symm, Below.drewN_ HW.out _⟩
  · have A1 := Lib.hid (show decide (size = 1 ∨ size = 2 ∨ size = 4) = false from decide_eq_false a)
    have B1 := Lib.hid (fun x : World => show Calls Try.prog 70 #[.int .i64 size] x (fun e w' => e = .returned (.bool false) ∧ x = w') by have h := isSize_any size x; rw [A1.out] at h; exact h)
    have T := Lib.hid (storeOk_no (size := size) (addr := addr) (n := n) (fun g => a g.1))
    clear a
    go_enter Try.func68, Try.ntmps68
    go_wp2_with fail
    go_quiet (first
      | (go_at_call 70; refine quiet_same (B1.out _)))
    go_wp2_with fail
    go_ret
    exact ⟨ret_bool T.out.symm, Below.drewN_ HW.out _⟩
end Go.Proofs.Ytdjllgdeijdieaa.Words

/- Bytes joined to a word. Nothing here speaks of one program text. -/
namespace Go.Proofs.Ytdjllgdeijdieaa.Words
set_option maxRecDepth 100000
open Go.RowKit

/-- Four bytes, one behind the other, the lowest first. -/
theorem or_join (i : Nat) (x y : Int) (hx0 : 0 ≤ x) (hx1 : x < 2 ^ i) (hy0 : 0 ≤ y) (hy1 : y < 256) (hi : i + 8 ≤ 32) :
    bits .or .u32 x (y * 2 ^ i) = x + y * 2 ^ i := by
  obtain ⟨a, rfl⟩ := Int.eq_ofNat_of_zero_le hx0
  obtain ⟨c, rfl⟩ := Int.eq_ofNat_of_zero_le hy0
  have ha : a < 2 ^ i := by exact_mod_cast hx1
  have hc : c < 256 := by omega
  have hp : 2 ^ i * 256 ≤ 4294967296 := by
    have : (2 : Nat) ^ (i + 8) ≤ 2 ^ 32 := Nat.pow_le_pow_right (by omega) hi
    rw [Nat.pow_add] at this; simpa using this
  have hpos : 0 < 2 ^ i := Nat.pow_pos (by omega)
  have hm : c * 2 ^ i ≤ 255 * 2 ^ i := Nat.mul_le_mul_right _ (by omega)
  have e : ((c : Int) * 2 ^ i) = ((c * 2 ^ i : Nat) : Int) := by simp
  rw [e, u32_or_nat a (c * 2 ^ i) (by omega) (by omega), Nat.or_comm, nat_join i (c * 2 ^ i) a (by simp) ha]
  omega
theorem join4 (x0 x1 x2 x3 : Int) (b0 : 0 ≤ x0 ∧ x0 ≤ 255) (b1 : 0 ≤ x1 ∧ x1 ≤ 255) (b2 : 0 ≤ x2 ∧ x2 ≤ 255) (b3 : 0 ≤ x3 ∧ x3 ≤ 255) :
    bits .or .u32 (bits .or .u32 (bits .or .u32 x0 (x1 * 256)) (x2 * 65536)) (x3 * 16777216) = x0 + 256 * x1 + 65536 * x2 + 16777216 * x3 := by
  have e1 := or_join 8 x0 x1 (by omega) (by omega) (by omega) (by omega) (by omega)
  have e2 := or_join 16 (x0 + x1 * 256) x2 (by omega) (by omega) (by omega) (by omega) (by omega)
  have e3 := or_join 24 (x0 + x1 * 256 + x2 * 65536) x3 (by omega) (by omega) (by omega) (by omega) (by omega)
  simp only [show (2 : Int) ^ 8 = 256 from rfl, show (2 : Int) ^ 16 = 65536 from rfl, show (2 : Int) ^ 24 = 16777216 from rfl] at e1 e2 e3
  rw [e1, e2, e3]; omega
end Go.Proofs.Ytdjllgdeijdieaa.Words

/- Contract of word.Get: which word the four bytes from a place on are, or that they are not all there. -/
namespace Go.Proofs.Ytdjllgdeijdieaa.Words
set_option maxRecDepth 100000
open Go.RowKit

theorem ret_word {a b : Int} {t : Bool} (h : a = b) : Ending.returned (.tuple #[.int .u32 a, .bool t]) = .returned (.tuple #[.int .u32 b, .bool t]) := by rw [h]

set_option maxHeartbeats 400000 in
theorem get_no (A : Option Addr) (n c : Nat) (at_ : Int) (w : World) (hn : n ≤ 9223372036854775807) (h : at_ < 0 ∨ (n : Int) < at_ + 4) :
    Calls Try.prog 61 #[.slice A n c, .int .i64 at_] w fun e w' => e = .returned (.tuple #[.int .u32 0, .bool false]) ∧ w = w' := by
  by_cases h0 : at_ < 0
  · go_enter Try.func61, Try.ntmps61
    go_wp2
    go_ret2
    exact ⟨rfl, rfl⟩
  · have h1 : (n : Int) - 4 < at_ := by omega
    go_enter Try.func61, Try.ntmps61
    go_wp2
    go_ret2
    exact ⟨rfl, rfl⟩

set_option maxHeartbeats 400000 in
theorem get_yes (b off n c j : Nat) (x0 x1 x2 x3 : Int) (w : World) (hn : n ≤ c) (hc : c ≤ 9223372036854775807) (hj : j + 4 ≤ n)
    (b0 : 0 ≤ x0 ∧ x0 ≤ 255) (b1 : 0 ≤ x1 ∧ x1 ≤ 255) (b2 : 0 ≤ x2 ∧ x2 ≤ 255) (b3 : 0 ≤ x3 ∧ x3 ≤ 255)
    (c0 : w.cell? ⟨b, off + j, none⟩ = some (.int .u8 x0)) (c1 : w.cell? ⟨b, off + j + 1, none⟩ = some (.int .u8 x1))
    (c2 : w.cell? ⟨b, off + j + 2, none⟩ = some (.int .u8 x2)) (c3 : w.cell? ⟨b, off + j + 3, none⟩ = some (.int .u8 x3)) :
    Calls Try.prog 61 #[.slice (some ⟨b, off, none⟩) n c, .int .i64 j] w fun e w' => e = .returned (.tuple #[.int .u32 (x0 + 256 * x1 + 65536 * x2 + 16777216 * x3), .bool true]) ∧ ∃ k, w' = w.drewN k := by
  have h0 : (0 : Int) ≤ j := by omega
  have h1 : (j : Int) ≤ (n : Int) - 4 := by omega
  go_enter Try.func61, Try.ntmps61
  go_wp2
  go_quiet (fail)
  go_wp2
  go_ret2
  exact ⟨ret_word (join4 x0 x1 x2 x3 b0 b1 b2 b3), _, rfl⟩
end Go.Proofs.Ytdjllgdeijdieaa.Words

/- Contract of bytes.Load. -/
namespace Go.Proofs.Ytdjllgdeijdieaa.Words
set_option maxRecDepth 100000
open Go.RowKit
set_option linter.unusedVariables false

theorem getD_at {zs : List Int} {k : Nat} (h : k < zs.length) : zs.getD k 0 = zs[k] := by rw [List.getD_eq_getElem?_getD, List.getElem?_eq_getElem h]; rfl
theorem take1 (zs : List Int) (k : Nat) (h : k + 1 ≤ zs.length) : ((zs.map (Value.int .u8)).drop k).take 1 = [Value.int .u8 (zs.getD k 0)] := by
  rw [List.drop_eq_getElem_cons (by simp; omega), getD_at (by omega)]
  simp
theorem take2 (zs : List Int) (k : Nat) (h : k + 2 ≤ zs.length) : ((zs.map (Value.int .u8)).drop k).take 2 = [Value.int .u8 (zs.getD k 0), Value.int .u8 (zs.getD (k + 1) 0)] := by
  rw [List.drop_eq_getElem_cons (by simp; omega), List.drop_eq_getElem_cons (by simp; omega), getD_at (by omega), getD_at (by omega)]
  simp
theorem take4 (zs : List Int) (k : Nat) (h : k + 4 ≤ zs.length) : ((zs.map (Value.int .u8)).drop k).take 4 = [Value.int .u8 (zs.getD k 0), Value.int .u8 (zs.getD (k + 1) 0), Value.int .u8 (zs.getD (k + 2) 0), Value.int .u8 (zs.getD (k + 3) 0)] := by
  rw [List.drop_eq_getElem_cons (by simp; omega), List.drop_eq_getElem_cons (by simp; omega), List.drop_eq_getElem_cons (by simp; omega), List.drop_eq_getElem_cons (by simp; omega), getD_at (by omega), getD_at (by omega), getD_at (by omega), getD_at (by omega)]
  simp

set_option maxHeartbeats 1000000 in
theorem load_no (A : Option Addr) (c n : Nat) (zs : List Int) (op addr : Int) (w : World) (hl : zs.length = n) (hn : n ≤ 9223372036854775807) (h0 : 0 ≤ addr) (h1 : addr ≤ 4294967295) (h : op < 26 ∨ 30 < op ∨ checkZ (sizeZ op) addr n ≠ 0) :
    Calls Try.prog 48 #[.slice A n c, .int .i64 op, .int .u32 addr] w fun e w' => e = .returned (.int .u32 (loadZ zs op addr)) ∧ Below w.heap.size w w' := by
  rw [loadZ_no (by rw [hl]; exact h)]
  have hsz := sizeZ_cases op
  have hck := checkZ_cases (sizeZ op) addr n
  by_cases hr : op < 26 ∨ 30 < op
  · have q := Lib.hid (show decide (26 ≤ op ∧ op ≤ 30) = false from decide_eq_false (by omega))
    clear h hck
    go_enter Try.func48, Try.ntmps48
    go_wp2_with fail
    refine (size_any _ _).mono ?_; rintro e w1 ⟨rfl, rfl⟩
    go_wp2_with fail
    refine (isLoad_any _ _).mono ?_; rintro e w1 ⟨rfl, rfl⟩
    rw [q.out]
    go_wp2_with fail
    go_ret
    exact ⟨rfl, Below.refl _ _⟩
  · have q := Lib.hid (show decide (26 ≤ op ∧ op ≤ 30) = true from decide_eq_true (by omega))
    have h' : checkZ (sizeZ op) addr n ≠ 0 := by omega
    have q2 : (checkZ (sizeZ op) addr n != 0) = true := by simp; exact h'
    have hb : -9223372036854775808 ≤ sizeZ op ∧ sizeZ op ≤ 9223372036854775807 := by omega
    clear h h' hsz hck
    go_enter Try.func48, Try.ntmps48
    go_wp2_with fail
    refine (size_any _ _).mono ?_; rintro e w1 ⟨rfl, rfl⟩
    go_wp2_with fail
    refine (isLoad_any _ _).mono ?_; rintro e w1 ⟨rfl, rfl⟩
    rw [q.out]
    go_wp2_with fail
    refine (check_any (sizeZ op) addr n _ h0 h1 hb (by omega)).mono ?_; rintro e w1 ⟨rfl, rfl⟩
    go_wp2_with fail
    go_ret
    exact ⟨rfl, Below.refl _ _⟩

set_option maxHeartbeats 1000000 in
theorem load_26 (b off c n k B : Nat) (x0 x1 x2 x3 : Int) (ys : List Value) (w : World) (hrow : Row w B 1 (.slice (some ⟨b, off, none⟩) n c) n ys) (hk : (k : Int) ≤ 4294967295) (hck : checkZ 4 k n = 0)
    (b0 : 0 ≤ x0 ∧ x0 ≤ 255) (b1 : 0 ≤ x1 ∧ x1 ≤ 255) (b2 : 0 ≤ x2 ∧ x2 ≤ 255) (b3 : 0 ≤ x3 ∧ x3 ≤ 255) (hys : (ys.drop k).take 4 = [Value.int .u8 x0, Value.int .u8 x1, Value.int .u8 x2, Value.int .u8 x3]) (hB : B ≤ w.heap.size) :
    Calls Try.prog 48 #[.slice (some ⟨b, off, none⟩) n c, .int .i64 26, .int .u32 (k : Int)] w fun e w' => e = .returned (.int .u32 (extendZ 26 (x0 + 256 * x1 + 65536 * x2 + 16777216 * x3))) ∧ Below w.heap.size w w' := by
  obtain ⟨i0, hi, hz0, hz1, hz2⟩ := info_parts info_u8
  have HZ2 := Lib.hid hz2
  clear hz2
  obtain ⟨_, hr⟩ := checkZ_zero hck
  have HCK := Lib.hid hck
  obtain ⟨u1, u2⟩ := hrow.cap
  have hk1 : k + 4 ≤ n := by omega
  have hk0 : (0 : Int) ≤ k := by omega
  have hcut := Lib.hid (hrow.cut (k := k) (m := 4) hk1 (by omega))
  clear hck hrow
  go_enter Try.func48, Try.ntmps48
  go_wp2_with fail
  refine (size_any _ _).mono ?_; rintro e w1 ⟨rfl, rfl⟩
  rw [show sizeZ 26 = 4 from rfl]
  go_wp2_with fail
  refine (isLoad_any _ _).mono ?_; rintro e w1 ⟨rfl, rfl⟩
  rw [show decide ((26 : Int) ≤ 26 ∧ (26 : Int) ≤ 30) = true from rfl]
  go_wp2_with fail
  refine (check_any 4 k n _ (by omega) hk (by omega) (by omega)).mono ?_; rintro e w1 ⟨rfl, rfl⟩
  rw [HCK.out]
  go_wp2_with (first
    | (at_make; refine wpList_make_full _ rfl _ _ 23 rfl w.heap.size 5 i0 (.int .u8 0) 1 Try.underlying23 hi hz0 hz1 _ _ _ _ 4 rfl rfl rfl rfl (by rw [HZ2.out]; omega) (by unfold maxLen; omega) (Nat.le_refl _) ?_; intro w1 hown1 hg1; have hb1 : Below w.heap.size w w1 := (Below.refl _ _).grown hg1 (Nat.le_refl _) (fun _ h => by cases h))
    | (with_reducible show wpList _ _ _ _ _ _; refine wpList_copy_rows rfl (.tmp 28) (.tmp 34) 23 23 rfl 5 Try.underlying23 (by kernel_rfl) w.heap.size w.heap.size 4 4 0 4 4 _ hown1 rfl (some ⟨b, off + k, none⟩) 4 (c - k) B _ (by go_simp) ((hcut.out.below (hb1.mono hB))) (by rw [hys]; simp [Value.oneCell']) (by omega) ?_; intro w2 hown2 hb2))
  rw [hys] at hown2
  have hown3 : w2.ownsRow w.heap.size 5 1 (.slice (some ⟨w.heap.size, 0, none⟩) 4 4) 4 [Value.int .u8 x0, Value.int .u8 x1, Value.int .u8 x2, Value.int .u8 x3] := by have hh := hown2; rw [show ((Value.int .u8 0).cells) = #[Value.int .u8 0] from rfl, toList_madeCells_one] at hh; exact hh
  clear hown1 hown2
  refine (get_yes w.heap.size 0 4 4 0 x0 x1 x2 x3 w2 (by omega) (by omega) (by omega) b0 b1 b2 b3 (hown3.cellAt 0 (by simp)) (hown3.cellAt 1 (by simp)) (hown3.cellAt 2 (by simp)) (hown3.cellAt 3 (by simp))).mono ?_
  rintro e w3 ⟨rfl, kk, rfl⟩
  go_wp2_with fail
  refine (bsigned_any 26 _ _ (by omega) (by omega)).mono ?_; rintro e w4 ⟨rfl, rfl⟩
  go_wp2_with fail
  go_ret
  exact ⟨ret_int (by first | rfl | (congr 1; omega)), Below.drewN_ (hb1.trans hb2) _⟩

set_option maxHeartbeats 1000000 in
theorem load_27 (b off c n k B : Nat) (x0 x1 : Int) (ys : List Value) (w : World) (hrow : Row w B 1 (.slice (some ⟨b, off, none⟩) n c) n ys) (hk : (k : Int) ≤ 4294967295) (hck : checkZ 2 k n = 0)
    (b0 : 0 ≤ x0 ∧ x0 ≤ 255) (b1 : 0 ≤ x1 ∧ x1 ≤ 255) (hys : (ys.drop k).take 2 = [Value.int .u8 x0, Value.int .u8 x1]) (hB : B ≤ w.heap.size) :
    Calls Try.prog 48 #[.slice (some ⟨b, off, none⟩) n c, .int .i64 27, .int .u32 (k : Int)] w fun e w' => e = .returned (.int .u32 (extendZ 27 (x0 + 256 * x1))) ∧ Below w.heap.size w w' := by
  obtain ⟨i0, hi, hz0, hz1, hz2⟩ := info_parts info_u8
  have HZ2 := Lib.hid hz2
  clear hz2
  obtain ⟨_, hr⟩ := checkZ_zero hck
  have HCK := Lib.hid hck
  obtain ⟨u1, u2⟩ := hrow.cap
  have hk1 : k + 2 ≤ n := by omega
  have hk0 : (0 : Int) ≤ k := by omega
  have hcut := Lib.hid (hrow.cut (k := k) (m := 2) hk1 (by omega))
  clear hck hrow
  go_enter Try.func48, Try.ntmps48
  go_wp2_with fail
  refine (size_any _ _).mono ?_; rintro e w1 ⟨rfl, rfl⟩
  rw [show sizeZ 27 = 2 from rfl]
  go_wp2_with fail
  refine (isLoad_any _ _).mono ?_; rintro e w1 ⟨rfl, rfl⟩
  rw [show decide ((26 : Int) ≤ 27 ∧ (27 : Int) ≤ 30) = true from rfl]
  go_wp2_with fail
  refine (check_any 2 k n _ (by omega) hk (by omega) (by omega)).mono ?_; rintro e w1 ⟨rfl, rfl⟩
  rw [HCK.out]
  go_wp2_with (first
    | (at_make; refine wpList_make_full _ rfl _ _ 23 rfl w.heap.size 5 i0 (.int .u8 0) 1 Try.underlying23 hi hz0 hz1 _ _ _ _ 4 rfl rfl rfl rfl (by rw [HZ2.out]; omega) (by unfold maxLen; omega) (Nat.le_refl _) ?_; intro w1 hown1 hg1; have hb1 : Below w.heap.size w w1 := (Below.refl _ _).grown hg1 (Nat.le_refl _) (fun _ h => by cases h))
    | (with_reducible show wpList _ _ _ _ _ _; refine wpList_copy_rows rfl (.tmp 28) (.tmp 34) 23 23 rfl 5 Try.underlying23 (by kernel_rfl) w.heap.size w.heap.size 4 4 0 4 4 _ hown1 rfl (some ⟨b, off + k, none⟩) 2 (c - k) B _ (by go_simp) ((hcut.out.below (hb1.mono hB))) (by rw [hys]; simp [Value.oneCell']) (by omega) ?_; intro w2 hown2 hb2))
  rw [hys] at hown2
  have hown3 : w2.ownsRow w.heap.size 5 1 (.slice (some ⟨w.heap.size, 0, none⟩) 4 4) 4 [Value.int .u8 x0, Value.int .u8 x1, Value.int .u8 0, Value.int .u8 0] := by have hh := hown2; rw [show ((Value.int .u8 0).cells) = #[Value.int .u8 0] from rfl, toList_madeCells_one] at hh; exact hh
  clear hown1 hown2
  refine (get_yes w.heap.size 0 4 4 0 x0 x1 0 0 w2 (by omega) (by omega) (by omega) b0 b1 (by omega) (by omega) (hown3.cellAt 0 (by simp)) (hown3.cellAt 1 (by simp)) (hown3.cellAt 2 (by simp)) (hown3.cellAt 3 (by simp))).mono ?_
  rintro e w3 ⟨rfl, kk, rfl⟩
  go_wp2_with fail
  refine (bsigned_any 27 _ _ (by omega) (by omega)).mono ?_; rintro e w4 ⟨rfl, rfl⟩
  go_wp2_with fail
  go_ret
  exact ⟨ret_int (by first | rfl | (congr 1; omega)), Below.drewN_ (hb1.trans hb2) _⟩

set_option maxHeartbeats 1000000 in
theorem load_28 (b off c n k B : Nat) (x0 x1 : Int) (ys : List Value) (w : World) (hrow : Row w B 1 (.slice (some ⟨b, off, none⟩) n c) n ys) (hk : (k : Int) ≤ 4294967295) (hck : checkZ 2 k n = 0)
    (b0 : 0 ≤ x0 ∧ x0 ≤ 255) (b1 : 0 ≤ x1 ∧ x1 ≤ 255) (hys : (ys.drop k).take 2 = [Value.int .u8 x0, Value.int .u8 x1]) (hB : B ≤ w.heap.size) :
    Calls Try.prog 48 #[.slice (some ⟨b, off, none⟩) n c, .int .i64 28, .int .u32 (k : Int)] w fun e w' => e = .returned (.int .u32 (extendZ 28 (x0 + 256 * x1))) ∧ Below w.heap.size w w' := by
  obtain ⟨i0, hi, hz0, hz1, hz2⟩ := info_parts info_u8
  have HZ2 := Lib.hid hz2
  clear hz2
  obtain ⟨_, hr⟩ := checkZ_zero hck
  have HCK := Lib.hid hck
  obtain ⟨u1, u2⟩ := hrow.cap
  have hk1 : k + 2 ≤ n := by omega
  have hk0 : (0 : Int) ≤ k := by omega
  have hcut := Lib.hid (hrow.cut (k := k) (m := 2) hk1 (by omega))
  clear hck hrow
  go_enter Try.func48, Try.ntmps48
  go_wp2_with fail
  refine (size_any _ _).mono ?_; rintro e w1 ⟨rfl, rfl⟩
  rw [show sizeZ 28 = 2 from rfl]
  go_wp2_with fail
  refine (isLoad_any _ _).mono ?_; rintro e w1 ⟨rfl, rfl⟩
  rw [show decide ((26 : Int) ≤ 28 ∧ (28 : Int) ≤ 30) = true from rfl]
  go_wp2_with fail
  refine (check_any 2 k n _ (by omega) hk (by omega) (by omega)).mono ?_; rintro e w1 ⟨rfl, rfl⟩
  rw [HCK.out]
  go_wp2_with (first
    | (at_make; refine wpList_make_full _ rfl _ _ 23 rfl w.heap.size 5 i0 (.int .u8 0) 1 Try.underlying23 hi hz0 hz1 _ _ _ _ 4 rfl rfl rfl rfl (by rw [HZ2.out]; omega) (by unfold maxLen; omega) (Nat.le_refl _) ?_; intro w1 hown1 hg1; have hb1 : Below w.heap.size w w1 := (Below.refl _ _).grown hg1 (Nat.le_refl _) (fun _ h => by cases h))
    | (with_reducible show wpList _ _ _ _ _ _; refine wpList_copy_rows rfl (.tmp 28) (.tmp 34) 23 23 rfl 5 Try.underlying23 (by kernel_rfl) w.heap.size w.heap.size 4 4 0 4 4 _ hown1 rfl (some ⟨b, off + k, none⟩) 2 (c - k) B _ (by go_simp) ((hcut.out.below (hb1.mono hB))) (by rw [hys]; simp [Value.oneCell']) (by omega) ?_; intro w2 hown2 hb2))
  rw [hys] at hown2
  have hown3 : w2.ownsRow w.heap.size 5 1 (.slice (some ⟨w.heap.size, 0, none⟩) 4 4) 4 [Value.int .u8 x0, Value.int .u8 x1, Value.int .u8 0, Value.int .u8 0] := by have hh := hown2; rw [show ((Value.int .u8 0).cells) = #[Value.int .u8 0] from rfl, toList_madeCells_one] at hh; exact hh
  clear hown1 hown2
  refine (get_yes w.heap.size 0 4 4 0 x0 x1 0 0 w2 (by omega) (by omega) (by omega) b0 b1 (by omega) (by omega) (hown3.cellAt 0 (by simp)) (hown3.cellAt 1 (by simp)) (hown3.cellAt 2 (by simp)) (hown3.cellAt 3 (by simp))).mono ?_
  rintro e w3 ⟨rfl, kk, rfl⟩
  go_wp2_with fail
  refine (bsigned_any 28 _ _ (by omega) (by omega)).mono ?_; rintro e w4 ⟨rfl, rfl⟩
  go_wp2_with fail
  go_ret
  exact ⟨ret_int (by first | rfl | (congr 1; omega)), Below.drewN_ (hb1.trans hb2) _⟩

set_option maxHeartbeats 1000000 in
theorem load_29 (b off c n k B : Nat) (x0 : Int) (ys : List Value) (w : World) (hrow : Row w B 1 (.slice (some ⟨b, off, none⟩) n c) n ys) (hk : (k : Int) ≤ 4294967295) (hck : checkZ 1 k n = 0)
    (b0 : 0 ≤ x0 ∧ x0 ≤ 255) (hys : (ys.drop k).take 1 = [Value.int .u8 x0]) (hB : B ≤ w.heap.size) :
    Calls Try.prog 48 #[.slice (some ⟨b, off, none⟩) n c, .int .i64 29, .int .u32 (k : Int)] w fun e w' => e = .returned (.int .u32 (extendZ 29 (x0))) ∧ Below w.heap.size w w' := by
  obtain ⟨i0, hi, hz0, hz1, hz2⟩ := info_parts info_u8
  have HZ2 := Lib.hid hz2
  clear hz2
  obtain ⟨_, hr⟩ := checkZ_zero hck
  have HCK := Lib.hid hck
  obtain ⟨u1, u2⟩ := hrow.cap
  have hk1 : k + 1 ≤ n := by omega
  have hk0 : (0 : Int) ≤ k := by omega
  have hcut := Lib.hid (hrow.cut (k := k) (m := 1) hk1 (by omega))
  clear hck hrow
  go_enter Try.func48, Try.ntmps48
  go_wp2_with fail
  refine (size_any _ _).mono ?_; rintro e w1 ⟨rfl, rfl⟩
  rw [show sizeZ 29 = 1 from rfl]
  go_wp2_with fail
  refine (isLoad_any _ _).mono ?_; rintro e w1 ⟨rfl, rfl⟩
  rw [show decide ((26 : Int) ≤ 29 ∧ (29 : Int) ≤ 30) = true from rfl]
  go_wp2_with fail
  refine (check_any 1 k n _ (by omega) hk (by omega) (by omega)).mono ?_; rintro e w1 ⟨rfl, rfl⟩
  rw [HCK.out]
  go_wp2_with (first
    | (at_make; refine wpList_make_full _ rfl _ _ 23 rfl w.heap.size 5 i0 (.int .u8 0) 1 Try.underlying23 hi hz0 hz1 _ _ _ _ 4 rfl rfl rfl rfl (by rw [HZ2.out]; omega) (by unfold maxLen; omega) (Nat.le_refl _) ?_; intro w1 hown1 hg1; have hb1 : Below w.heap.size w w1 := (Below.refl _ _).grown hg1 (Nat.le_refl _) (fun _ h => by cases h))
    | (with_reducible show wpList _ _ _ _ _ _; refine wpList_copy_rows rfl (.tmp 28) (.tmp 34) 23 23 rfl 5 Try.underlying23 (by kernel_rfl) w.heap.size w.heap.size 4 4 0 4 4 _ hown1 rfl (some ⟨b, off + k, none⟩) 1 (c - k) B _ (by go_simp) ((hcut.out.below (hb1.mono hB))) (by rw [hys]; simp [Value.oneCell']) (by omega) ?_; intro w2 hown2 hb2))
  rw [hys] at hown2
  have hown3 : w2.ownsRow w.heap.size 5 1 (.slice (some ⟨w.heap.size, 0, none⟩) 4 4) 4 [Value.int .u8 x0, Value.int .u8 0, Value.int .u8 0, Value.int .u8 0] := by have hh := hown2; rw [show ((Value.int .u8 0).cells) = #[Value.int .u8 0] from rfl, toList_madeCells_one] at hh; exact hh
  clear hown1 hown2
  refine (get_yes w.heap.size 0 4 4 0 x0 0 0 0 w2 (by omega) (by omega) (by omega) b0 (by omega) (by omega) (by omega) (hown3.cellAt 0 (by simp)) (hown3.cellAt 1 (by simp)) (hown3.cellAt 2 (by simp)) (hown3.cellAt 3 (by simp))).mono ?_
  rintro e w3 ⟨rfl, kk, rfl⟩
  go_wp2_with fail
  refine (bsigned_any 29 _ _ (by omega) (by omega)).mono ?_; rintro e w4 ⟨rfl, rfl⟩
  go_wp2_with fail
  go_ret
  exact ⟨ret_int (by first | rfl | (congr 1; omega)), Below.drewN_ (hb1.trans hb2) _⟩

set_option maxHeartbeats 1000000 in
theorem load_30 (b off c n k B : Nat) (x0 : Int) (ys : List Value) (w : World) (hrow : Row w B 1 (.slice (some ⟨b, off, none⟩) n c) n ys) (hk : (k : Int) ≤ 4294967295) (hck : checkZ 1 k n = 0)
    (b0 : 0 ≤ x0 ∧ x0 ≤ 255) (hys : (ys.drop k).take 1 = [Value.int .u8 x0]) (hB : B ≤ w.heap.size) :
    Calls Try.prog 48 #[.slice (some ⟨b, off, none⟩) n c, .int .i64 30, .int .u32 (k : Int)] w fun e w' => e = .returned (.int .u32 (extendZ 30 (x0))) ∧ Below w.heap.size w w' := by
  obtain ⟨i0, hi, hz0, hz1, hz2⟩ := info_parts info_u8
  have HZ2 := Lib.hid hz2
  clear hz2
  obtain ⟨_, hr⟩ := checkZ_zero hck
  have HCK := Lib.hid hck
  obtain ⟨u1, u2⟩ := hrow.cap
  have hk1 : k + 1 ≤ n := by omega
  have hk0 : (0 : Int) ≤ k := by omega
  have hcut := Lib.hid (hrow.cut (k := k) (m := 1) hk1 (by omega))
  clear hck hrow
  go_enter Try.func48, Try.ntmps48
  go_wp2_with fail
  refine (size_any _ _).mono ?_; rintro e w1 ⟨rfl, rfl⟩
  rw [show sizeZ 30 = 1 from rfl]
  go_wp2_with fail
  refine (isLoad_any _ _).mono ?_; rintro e w1 ⟨rfl, rfl⟩
  rw [show decide ((26 : Int) ≤ 30 ∧ (30 : Int) ≤ 30) = true from rfl]
  go_wp2_with fail
  refine (check_any 1 k n _ (by omega) hk (by omega) (by omega)).mono ?_; rintro e w1 ⟨rfl, rfl⟩
  rw [HCK.out]
  go_wp2_with (first
    | (at_make; refine wpList_make_full _ rfl _ _ 23 rfl w.heap.size 5 i0 (.int .u8 0) 1 Try.underlying23 hi hz0 hz1 _ _ _ _ 4 rfl rfl rfl rfl (by rw [HZ2.out]; omega) (by unfold maxLen; omega) (Nat.le_refl _) ?_; intro w1 hown1 hg1; have hb1 : Below w.heap.size w w1 := (Below.refl _ _).grown hg1 (Nat.le_refl _) (fun _ h => by cases h))
    | (with_reducible show wpList _ _ _ _ _ _; refine wpList_copy_rows rfl (.tmp 28) (.tmp 34) 23 23 rfl 5 Try.underlying23 (by kernel_rfl) w.heap.size w.heap.size 4 4 0 4 4 _ hown1 rfl (some ⟨b, off + k, none⟩) 1 (c - k) B _ (by go_simp) ((hcut.out.below (hb1.mono hB))) (by rw [hys]; simp [Value.oneCell']) (by omega) ?_; intro w2 hown2 hb2))
  rw [hys] at hown2
  have hown3 : w2.ownsRow w.heap.size 5 1 (.slice (some ⟨w.heap.size, 0, none⟩) 4 4) 4 [Value.int .u8 x0, Value.int .u8 0, Value.int .u8 0, Value.int .u8 0] := by have hh := hown2; rw [show ((Value.int .u8 0).cells) = #[Value.int .u8 0] from rfl, toList_madeCells_one] at hh; exact hh
  clear hown1 hown2
  refine (get_yes w.heap.size 0 4 4 0 x0 0 0 0 w2 (by omega) (by omega) (by omega) b0 (by omega) (by omega) (by omega) (hown3.cellAt 0 (by simp)) (hown3.cellAt 1 (by simp)) (hown3.cellAt 2 (by simp)) (hown3.cellAt 3 (by simp))).mono ?_
  rintro e w3 ⟨rfl, kk, rfl⟩
  go_wp2_with fail
  refine (bsigned_any 30 _ _ (by omega) (by omega)).mono ?_; rintro e w4 ⟨rfl, rfl⟩
  go_wp2_with fail
  go_ret
  exact ⟨ret_int (by first | rfl | (congr 1; omega)), Below.drewN_ (hb1.trans hb2) _⟩

theorem load_any (A : Option Addr) (c n B : Nat) (zs : List Int) (op addr : Int) (w : World) (h : Row w B 1 (.slice A n c) n (zs.map (Value.int .u8))) (hB : B ≤ w.heap.size) (hz : ∀ x ∈ zs, 0 ≤ x ∧ x ≤ 255) (h0 : 0 ≤ addr) (h1 : addr ≤ 4294967295) :
    Calls Try.prog 48 #[.slice A n c, .int .i64 op, .int .u32 addr] w fun e w' => e = .returned (.int .u32 (loadZ zs op addr)) ∧ Below w.heap.size w w' := by
  have hl : zs.length = n := by have := h.len; simpa using this
  obtain ⟨u1, u2⟩ := h.cap
  by_cases hno : op < 26 ∨ 30 < op ∨ checkZ (sizeZ op) addr n ≠ 0
  · exact load_no A c n zs op addr w hl (by omega) h0 h1 hno
  have hck : checkZ (sizeZ op) addr n = 0 := by omega
  have hs := sizeZ_cases op
  have hr := (checkZ_zero hck).2
  obtain ⟨k, rfl⟩ := Int.eq_ofNat_of_zero_le h0
  have hn0 : n ≠ 0 := by omega
  obtain ⟨b, off, rfl, _, hcell⟩ := h.at_ hn0
  rw [loadZ_yes (by omega) (by omega) (by rw [hl]; exact hck), Int.toNat_natCast]
  have hop : op = 26 ∨ op = 27 ∨ op = 28 ∨ op = 29 ∨ op = 30 := by omega
  rcases hop with rfl | rfl | rfl | rfl | rfl
  · exact load_26 b off c n k B _ _ _ _ _ w h h1 hck (byte_at hz k) (byte_at hz (k + 1)) (byte_at hz (k + 2)) (byte_at hz (k + 3)) (take4 zs k (by have e : sizeZ 26 = 4 := rfl; omega)) hB
  · exact load_27 b off c n k B _ _ _ w h h1 hck (byte_at hz k) (byte_at hz (k + 1)) (take2 zs k (by have e : sizeZ 27 = 2 := rfl; omega)) hB
  · exact load_28 b off c n k B _ _ _ w h h1 hck (byte_at hz k) (byte_at hz (k + 1)) (take2 zs k (by have e : sizeZ 28 = 2 := rfl; omega)) hB
  · exact load_29 b off c n k B _ _ w h h1 hck (byte_at hz k) (take1 zs k (by have e : sizeZ 29 = 1 := rfl; omega)) hB
  · exact load_30 b off c n k B _ _ w h h1 hck (byte_at hz k) (take1 zs k (by have e : sizeZ 30 = 1 := rfl; omega)) hB
end Go.Proofs.Ytdjllgdeijdieaa.Words

/- Contracts of package seq: lowest, address and load. -/
namespace Go.Proofs.Ytdjllgdeijdieaa.Words
set_option maxRecDepth 100000
open Go.RowKit
set_option linter.unusedVariables false

theorem wrapu32 (x : Int) : IntKind.u32.wrap x = x % 4294967296 := rfl
theorem of_im (n im : Int) (w : World) (h : im = n % 4294967296) : Calls Try.prog 58 #[.int .i64 n] w fun e w' => e = .returned (.int .u32 im) ∧ w = w' := h ▸ of_any n w
theorem shl_shr_24 (v : Int) (h0 : 0 ≤ v) (h1 : v ≤ 4294967295) : v * 16777216 % 4294967296 / 16777216 = v % 256 := by omega
theorem shl_shr_16 (v : Int) (h0 : 0 ≤ v) (h1 : v ≤ 4294967295) : v * 65536 % 4294967296 / 65536 = v % 65536 := by omega

set_option maxHeartbeats 1000000 in
theorem lowest_any (v size : Int) (w : World) (h0 : 0 ≤ v) (h1 : v ≤ 4294967295) (hs : size = 1 ∨ size = 2 ∨ size = 4) :
    Calls Try.prog 50 #[.int .u32 v, .int .i64 size] w fun e w' => e = .returned (.int .u32 (maskZ v size)) ∧ w = w' := by
  have e1 := shl_shr_24 v h0 h1
  have e2 := shl_shr_16 v h0 h1
  rcases hs with rfl | rfl | rfl
  · go_enter Try.func50, Try.ntmps50
    go_wp2_with fail
    go_ret
    exact ⟨by simp [maskZ], rfl⟩
  · go_enter Try.func50, Try.ntmps50
    go_wp2_with fail
    go_ret
    exact ⟨by simp [maskZ], rfl⟩
  · go_enter Try.func50, Try.ntmps50
    go_wp2_with fail
    go_ret
    exact ⟨by simp [maskZ], rfl⟩

set_option maxHeartbeats 1000000 in
theorem mAddr_ok (vc : Value) (r : Res) (Am : Option Addr) (cm : Nat) (vw : Value) (pc op imm : Int) (id ia ib b : Nat) (w : World) (hb : MBox w b (machL vc (resL r (.slice Am r.mem.length cm) vw) pc)) (h16 : r.regs.length = 16) (fr : ∀ x ∈ r.regs, 0 ≤ x ∧ x ≤ 4294967295) (bd : id ≤ 15) (ba : ia ≤ 15) (bb : ib ≤ 15) (bi : -8192 ≤ imm ∧ imm ≤ 8191) (hp : -100000 ≤ pc ∧ pc ≤ 100000) (hm : r.mem.length ≤ 140737488355328) (hk : checkZ (sizeZ op) ((valZ r.regs ia + imm) % 4294967296) r.mem.length = 0) :
    Calls Try.prog 47 #[.pointer (some ⟨b, 0, none⟩), .agg #[.int .i64 op, .int .i64 (id : Int), .int .i64 (ia : Int), .int .i64 (ib : Int), .int .i64 imm]] w fun e w' => e = .returned (.tuple #[.int .u32 ((valZ r.regs ia + imm) % 4294967296), .bool true]) ∧ MBox w' b (machL vc (resL r (.slice Am r.mem.length cm) vw) pc) ∧ w.grownBy w' (some b) := by
  have hlt := hb.lt
  have va0 := valZ_range fr ia
  have vb0 := valZ_range fr ib
  obtain ⟨va, hva⟩ : ∃ v, v = valZ r.regs ia := ⟨_, rfl⟩
  obtain ⟨vb, hvb⟩ : ∃ v, v = valZ r.regs ib := ⟨_, rfl⟩
  rw [← hva] at va0
  rw [← hvb] at vb0
  have HVA := Lib.hid hva
  have HVB := Lib.hid hvb
  have i0 : (w.alloc (.cells #[.int .i64 op, .int .i64 (id : Int), .int .i64 (ia : Int), .int .i64 (ib : Int), .int .i64 imm] 44)).cell? ⟨w.heap.size, 0, none⟩ = some (.int .i64 op) := by go_simp
  have i1 : (w.alloc (.cells #[.int .i64 op, .int .i64 (id : Int), .int .i64 (ia : Int), .int .i64 (ib : Int), .int .i64 imm] 44)).cell? ⟨w.heap.size, 1, none⟩ = some (.int .i64 (id : Int)) := by go_simp
  have i2 : (w.alloc (.cells #[.int .i64 op, .int .i64 (id : Int), .int .i64 (ia : Int), .int .i64 (ib : Int), .int .i64 imm] 44)).cell? ⟨w.heap.size, 2, none⟩ = some (.int .i64 (ia : Int)) := by go_simp
  have i3 : (w.alloc (.cells #[.int .i64 op, .int .i64 (id : Int), .int .i64 (ia : Int), .int .i64 (ib : Int), .int .i64 imm] 44)).cell? ⟨w.heap.size, 3, none⟩ = some (.int .i64 (ib : Int)) := by go_simp
  have i4 : (w.alloc (.cells #[.int .i64 op, .int .i64 (id : Int), .int .i64 (ia : Int), .int .i64 (ib : Int), .int .i64 imm] 44)).cell? ⟨w.heap.size, 4, none⟩ = some (.int .i64 imm) := by go_simp
  have hz0 : w.heap.size < (w.alloc (.cells #[.int .i64 op, .int .i64 (id : Int), .int .i64 (ia : Int), .int .i64 (ib : Int), .int .i64 imm] 44)).heap.size := by simp
  have HB0 := Lib.hid (hb.alloc (.cells #[.int .i64 op, .int .i64 (id : Int), .int .i64 (ia : Int), .int .i64 (ib : Int), .int .i64 imm] 44))
  have HG0 := Lib.hid (w.grownBy_alloc (.cells #[.int .i64 op, .int .i64 (id : Int), .int .i64 (ia : Int), .int .i64 (ib : Int), .int .i64 imm] 44) (some b))
  obtain ⟨bi0, bi1⟩ := bi
  obtain ⟨hp0, hp1⟩ := hp
  obtain ⟨adr, hadr⟩ : ∃ a, a = (va + imm) % 4294967296 := ⟨_, rfl⟩
  obtain ⟨im, him⟩ : ∃ x, x = imm % 4294967296 := ⟨_, rfl⟩
  have had : IntKind.u32.wrap (va + im) = adr := by rw [wrapu32, hadr]; omega
  have HIM := Lib.hid him
  have im0 : 0 ≤ im ∧ im ≤ 4294967295 := by omega
  clear him
  have ad0 : 0 ≤ adr ∧ adr ≤ 4294967295 := by omega
  have HAD := Lib.hid hadr
  have hadr' : (valZ r.regs ia + imm) % 4294967296 = adr := by rw [hadr, hva]
  have hsz := sizeZ_cases op
  have hszb : -9223372036854775808 ≤ sizeZ op ∧ sizeZ op ≤ 9223372036854775807 := by omega
  rw [hadr'] at hk ⊢
  clear hadr'
  obtain ⟨kd, hkd⟩ : ∃ k, k = checkZ (sizeZ op) adr r.mem.length := ⟨_, rfl⟩
  rw [← hkd] at hk
  have hkb := checkZ_cases (sizeZ op) adr r.mem.length
  rw [← hkd] at hkb
  skip
  have HKD := Lib.hid hkd
  subst hk
  skip
  have i6 := HB0.out.cell (machL_res (resL_len h16) (resL_21 (vm := (.slice Am r.mem.length cm)) (vw := vw) h16))
  have hml : -9223372036854775808 ≤ (r.mem.length : Int) ∧ (r.mem.length : Int) ≤ 9223372036854775807 := by omega
  have HML := Lib.hid hml
  have HSZ := Lib.hid hszb
  clear hsz hkb hkd hadr hm hml hszb
  clear hva hvb hb fr
  go_enter Try.func47, Try.ntmps47
  go_wp2_with fail
  generalize hw0 : w.alloc (.cells #[.int .i64 op, .int .i64 (id : Int), .int .i64 (ia : Int), .int .i64 (ib : Int), .int .i64 imm] 44) = w0 at *
  clear hw0
  refine wp_region_lin [(0, true), (1, true), (2, true), (4, true), (5, true), (3, false), (6, false), (7, true), (8, true)]
    (by kernel_rfl) (by kernel_rfl) rfl (by kernel_rfl) (fun x => x.cell? ⟨w.heap.size, 0, none⟩ = some (.int .i64 op) ∧ x.cell? ⟨w.heap.size, 1, none⟩ = some (.int .i64 (id : Int)) ∧ x.cell? ⟨w.heap.size, 2, none⟩ = some (.int .i64 (ia : Int)) ∧ x.cell? ⟨w.heap.size, 3, none⟩ = some (.int .i64 (ib : Int)) ∧ x.cell? ⟨w.heap.size, 4, none⟩ = some (.int .i64 imm) ∧ x.cell? ⟨b, 21 + 1, none⟩ = some (.slice Am r.mem.length cm)) ?_
  simp only [List.map_cons, List.map_nil, List.getElem?_toArray, List.getElem?_cons_succ, List.getElem?_cons_zero]
  have hS : w0.drew.cell? ⟨w.heap.size, 0, none⟩ = some (.int .i64 op) ∧ w0.drew.cell? ⟨w.heap.size, 1, none⟩ = some (.int .i64 (id : Int)) ∧ w0.drew.cell? ⟨w.heap.size, 2, none⟩ = some (.int .i64 (ia : Int)) ∧ w0.drew.cell? ⟨w.heap.size, 3, none⟩ = some (.int .i64 (ib : Int)) ∧ w0.drew.cell? ⟨w.heap.size, 4, none⟩ = some (.int .i64 imm) ∧ w0.drew.cell? ⟨b, 21 + 1, none⟩ = some (.slice Am r.mem.length cm) := ⟨i0, i1, i2, i3, i4, i6⟩
  iterate 5 (refine lin_take (v := ?_) hS (by rfl) ?_ ?_; rotate_left; (intro x hx; obtain ⟨x0, x1, x2, x3, x4, x6⟩ := hx; go_simp; try (with_reducible rfl)); (simp only [Act.put, List.setIfInBounds_toArray, List.set_cons_zero, List.set_cons_succ]))
  refine lin_call hS (by rfl) (fun K hK => ?_)
  go_simp
  refine (mRead_any vc r (.slice Am r.mem.length cm) vw pc b ia _ (HB0.out.drew) h16 ba).mono ?_
  rintro e w5 ⟨rfl, rfl⟩
  rw [← HVA.out]
  go_wp2_with fail
  refine hK.out _ _ hS (fun _ => ?_)
  clear hK K
  try simp only [Act.put, List.setIfInBounds_toArray, List.set_cons_zero, List.set_cons_succ]
  refine lin_call hS (by rfl) (fun K hK => ?_)
  go_simp
  refine (of_im imm im _ HIM.out).mono ?_
  rintro e w5 ⟨rfl, rfl⟩
  go_wp2_with fail
  refine hK.out _ _ hS (fun _ => ?_)
  clear hK K
  try simp only [Act.put, List.setIfInBounds_toArray, List.set_cons_zero, List.set_cons_succ]
  iterate 2 (refine lin_take (v := ?_) hS (by rfl) ?_ ?_; rotate_left; (intro x hx; obtain ⟨x0, x1, x2, x3, x4, x6⟩ := hx; go_simp; try (with_reducible rfl)); (simp only [Act.put, List.setIfInBounds_toArray, List.set_cons_zero, List.set_cons_succ]))
  refine lin_done ?_
  clear i0 i1 i2 i3 i4 i6
  obtain ⟨i0, i1, i2, i3, i4, i6⟩ := hS
  have HB1 := Lib.hid HB0.out.drew
  have HG1 := Lib.hid (grown_drew HG0.out)
  have hz1 : w.heap.size < w0.drew.heap.size := hz0
  clear HB0 HG0 hz0
  generalize w0.drew = w1 at *
  go_wp2_with fail
  refine wp_region_lin [(0, true), (1, true), (3, true), (4, true), (5, true), (6, true), (7, true), (8, true), (9, true), (2, false), (10, false), (11, true)]
    (by kernel_rfl) (by kernel_rfl) rfl (by kernel_rfl) (fun x => x.cell? ⟨w.heap.size, 0, none⟩ = some (.int .i64 op) ∧ x.cell? ⟨w.heap.size, 1, none⟩ = some (.int .i64 (id : Int)) ∧ x.cell? ⟨w.heap.size, 2, none⟩ = some (.int .i64 (ia : Int)) ∧ x.cell? ⟨w.heap.size, 3, none⟩ = some (.int .i64 (ib : Int)) ∧ x.cell? ⟨w.heap.size, 4, none⟩ = some (.int .i64 imm) ∧ x.cell? ⟨b, 21 + 1, none⟩ = some (.slice Am r.mem.length cm)) ?_
  simp only [List.map_cons, List.map_nil, List.getElem?_toArray, List.getElem?_cons_succ, List.getElem?_cons_zero]
  have hS : w1.drew.cell? ⟨w.heap.size, 0, none⟩ = some (.int .i64 op) ∧ w1.drew.cell? ⟨w.heap.size, 1, none⟩ = some (.int .i64 (id : Int)) ∧ w1.drew.cell? ⟨w.heap.size, 2, none⟩ = some (.int .i64 (ia : Int)) ∧ w1.drew.cell? ⟨w.heap.size, 3, none⟩ = some (.int .i64 (ib : Int)) ∧ w1.drew.cell? ⟨w.heap.size, 4, none⟩ = some (.int .i64 imm) ∧ w1.drew.cell? ⟨b, 21 + 1, none⟩ = some (.slice Am r.mem.length cm) := ⟨i0, i1, i2, i3, i4, i6⟩
  iterate 9 (refine lin_take (v := ?_) hS (by rfl) ?_ ?_; rotate_left; (intro x hx; obtain ⟨x0, x1, x2, x3, x4, x6⟩ := hx; go_simp; try (with_reducible rfl)); (simp only [Act.put, List.setIfInBounds_toArray, List.set_cons_zero, List.set_cons_succ]))
  refine lin_call hS (by rfl) (fun K hK => ?_)
  go_simp
  refine (size_any op _).mono ?_
  rintro e w5 ⟨rfl, rfl⟩
  go_wp2_with fail
  refine hK.out _ _ hS (fun _ => ?_)
  clear hK K
  try simp only [Act.put, List.setIfInBounds_toArray, List.set_cons_zero, List.set_cons_succ]
  refine lin_call hS (by rfl) (fun K hK => ?_)
  go_simp
  refine (check_any (sizeZ op) adr r.mem.length _ ad0.1 ad0.2 HSZ.out HML.out).mono ?_
  rintro e w5 ⟨rfl, rfl⟩
  rw [← HKD.out]
  go_wp2_with fail
  refine hK.out _ _ hS (fun _ => ?_)
  clear hK K
  try simp only [Act.put, List.setIfInBounds_toArray, List.set_cons_zero, List.set_cons_succ]
  (refine lin_take (v := ?_) hS (by rfl) ?_ ?_; rotate_left; (intro x hx; obtain ⟨x0, x1, x2, x3, x4, x6⟩ := hx; go_simp; try (with_reducible rfl)); (simp only [Act.put, List.setIfInBounds_toArray, List.set_cons_zero, List.set_cons_succ]))
  refine lin_done ?_
  clear i0 i1 i2 i3 i4 i6
  obtain ⟨i0, i1, i2, i3, i4, i6⟩ := hS
  go_wp2_with fail
  go_ret2
  exact ⟨rfl, HB1.out.drew, grown_drew HG1.out⟩

set_option maxHeartbeats 1000000 in
theorem mAddr_no (vc : Value) (r : Res) (Am : Option Addr) (cm : Nat) (vw : Value) (pc op imm : Int) (id ia ib b : Nat) (w : World) (hb : MBox w b (machL vc (resL r (.slice Am r.mem.length cm) vw) pc)) (h16 : r.regs.length = 16) (fr : ∀ x ∈ r.regs, 0 ≤ x ∧ x ≤ 4294967295) (bd : id ≤ 15) (ba : ia ≤ 15) (bb : ib ≤ 15) (bi : -8192 ≤ imm ∧ imm ≤ 8191) (hp : -100000 ≤ pc ∧ pc ≤ 100000) (hm : r.mem.length ≤ 140737488355328) (hk : checkZ (sizeZ op) ((valZ r.regs ia + imm) % 4294967296) r.mem.length ≠ 0) :
    Calls Try.prog 47 #[.pointer (some ⟨b, 0, none⟩), .agg #[.int .i64 op, .int .i64 (id : Int), .int .i64 (ia : Int), .int .i64 (ib : Int), .int .i64 imm]] w fun e w' => e = .returned (.tuple #[.int .u32 0, .bool false]) ∧ MBox w' b (machL vc (resL (trapZ r (checkZ (sizeZ op) ((valZ r.regs ia + imm) % 4294967296) r.mem.length) pc) (.slice Am r.mem.length cm) vw) pc) ∧ w.grownBy w' (some b) := by
  have hlt := hb.lt
  have va0 := valZ_range fr ia
  have vb0 := valZ_range fr ib
  obtain ⟨va, hva⟩ : ∃ v, v = valZ r.regs ia := ⟨_, rfl⟩
  obtain ⟨vb, hvb⟩ : ∃ v, v = valZ r.regs ib := ⟨_, rfl⟩
  rw [← hva] at va0
  rw [← hvb] at vb0
  have HVA := Lib.hid hva
  have HVB := Lib.hid hvb
  have i0 : (w.alloc (.cells #[.int .i64 op, .int .i64 (id : Int), .int .i64 (ia : Int), .int .i64 (ib : Int), .int .i64 imm] 44)).cell? ⟨w.heap.size, 0, none⟩ = some (.int .i64 op) := by go_simp
  have i1 : (w.alloc (.cells #[.int .i64 op, .int .i64 (id : Int), .int .i64 (ia : Int), .int .i64 (ib : Int), .int .i64 imm] 44)).cell? ⟨w.heap.size, 1, none⟩ = some (.int .i64 (id : Int)) := by go_simp
  have i2 : (w.alloc (.cells #[.int .i64 op, .int .i64 (id : Int), .int .i64 (ia : Int), .int .i64 (ib : Int), .int .i64 imm] 44)).cell? ⟨w.heap.size, 2, none⟩ = some (.int .i64 (ia : Int)) := by go_simp
  have i3 : (w.alloc (.cells #[.int .i64 op, .int .i64 (id : Int), .int .i64 (ia : Int), .int .i64 (ib : Int), .int .i64 imm] 44)).cell? ⟨w.heap.size, 3, none⟩ = some (.int .i64 (ib : Int)) := by go_simp
  have i4 : (w.alloc (.cells #[.int .i64 op, .int .i64 (id : Int), .int .i64 (ia : Int), .int .i64 (ib : Int), .int .i64 imm] 44)).cell? ⟨w.heap.size, 4, none⟩ = some (.int .i64 imm) := by go_simp
  have hz0 : w.heap.size < (w.alloc (.cells #[.int .i64 op, .int .i64 (id : Int), .int .i64 (ia : Int), .int .i64 (ib : Int), .int .i64 imm] 44)).heap.size := by simp
  have HB0 := Lib.hid (hb.alloc (.cells #[.int .i64 op, .int .i64 (id : Int), .int .i64 (ia : Int), .int .i64 (ib : Int), .int .i64 imm] 44))
  have HG0 := Lib.hid (w.grownBy_alloc (.cells #[.int .i64 op, .int .i64 (id : Int), .int .i64 (ia : Int), .int .i64 (ib : Int), .int .i64 imm] 44) (some b))
  obtain ⟨bi0, bi1⟩ := bi
  obtain ⟨hp0, hp1⟩ := hp
  obtain ⟨adr, hadr⟩ : ∃ a, a = (va + imm) % 4294967296 := ⟨_, rfl⟩
  obtain ⟨im, him⟩ : ∃ x, x = imm % 4294967296 := ⟨_, rfl⟩
  have had : IntKind.u32.wrap (va + im) = adr := by rw [wrapu32, hadr]; omega
  have HIM := Lib.hid him
  have im0 : 0 ≤ im ∧ im ≤ 4294967295 := by omega
  clear him
  have ad0 : 0 ≤ adr ∧ adr ≤ 4294967295 := by omega
  have HAD := Lib.hid hadr
  have hadr' : (valZ r.regs ia + imm) % 4294967296 = adr := by rw [hadr, hva]
  have hsz := sizeZ_cases op
  have hszb : -9223372036854775808 ≤ sizeZ op ∧ sizeZ op ≤ 9223372036854775807 := by omega
  rw [hadr'] at hk ⊢
  clear hadr'
  obtain ⟨kd, hkd⟩ : ∃ k, k = checkZ (sizeZ op) adr r.mem.length := ⟨_, rfl⟩
  rw [← hkd] at hk
  have hkb := checkZ_cases (sizeZ op) adr r.mem.length
  rw [← hkd] at hkb
  rw [← hkd]
  have HKD := Lib.hid hkd
  have qk : (kd != 0) = true := by simp; exact hk
  clear hk
  have i6 := HB0.out.cell (machL_res (resL_len h16) (resL_21 (vm := (.slice Am r.mem.length cm)) (vw := vw) h16))
  have hml : -9223372036854775808 ≤ (r.mem.length : Int) ∧ (r.mem.length : Int) ≤ 9223372036854775807 := by omega
  have HML := Lib.hid hml
  have HSZ := Lib.hid hszb
  clear hsz hkb hkd hadr hm hml hszb
  clear hva hvb hb fr
  go_enter Try.func47, Try.ntmps47
  go_wp2_with fail
  generalize hw0 : w.alloc (.cells #[.int .i64 op, .int .i64 (id : Int), .int .i64 (ia : Int), .int .i64 (ib : Int), .int .i64 imm] 44) = w0 at *
  clear hw0
  refine wp_region_lin [(0, true), (1, true), (2, true), (4, true), (5, true), (3, false), (6, false), (7, true), (8, true)]
    (by kernel_rfl) (by kernel_rfl) rfl (by kernel_rfl) (fun x => x.cell? ⟨w.heap.size, 0, none⟩ = some (.int .i64 op) ∧ x.cell? ⟨w.heap.size, 1, none⟩ = some (.int .i64 (id : Int)) ∧ x.cell? ⟨w.heap.size, 2, none⟩ = some (.int .i64 (ia : Int)) ∧ x.cell? ⟨w.heap.size, 3, none⟩ = some (.int .i64 (ib : Int)) ∧ x.cell? ⟨w.heap.size, 4, none⟩ = some (.int .i64 imm) ∧ x.cell? ⟨b, 21 + 1, none⟩ = some (.slice Am r.mem.length cm)) ?_
  simp only [List.map_cons, List.map_nil, List.getElem?_toArray, List.getElem?_cons_succ, List.getElem?_cons_zero]
  have hS : w0.drew.cell? ⟨w.heap.size, 0, none⟩ = some (.int .i64 op) ∧ w0.drew.cell? ⟨w.heap.size, 1, none⟩ = some (.int .i64 (id : Int)) ∧ w0.drew.cell? ⟨w.heap.size, 2, none⟩ = some (.int .i64 (ia : Int)) ∧ w0.drew.cell? ⟨w.heap.size, 3, none⟩ = some (.int .i64 (ib : Int)) ∧ w0.drew.cell? ⟨w.heap.size, 4, none⟩ = some (.int .i64 imm) ∧ w0.drew.cell? ⟨b, 21 + 1, none⟩ = some (.slice Am r.mem.length cm) := ⟨i0, i1, i2, i3, i4, i6⟩
  iterate 5 (refine lin_take (v := ?_) hS (by rfl) ?_ ?_; rotate_left; (intro x hx; obtain ⟨x0, x1, x2, x3, x4, x6⟩ := hx; go_simp; try (with_reducible rfl)); (simp only [Act.put, List.setIfInBounds_toArray, List.set_cons_zero, List.set_cons_succ]))
  refine lin_call hS (by rfl) (fun K hK => ?_)
  go_simp
  refine (mRead_any vc r (.slice Am r.mem.length cm) vw pc b ia _ (HB0.out.drew) h16 ba).mono ?_
  rintro e w5 ⟨rfl, rfl⟩
  rw [← HVA.out]
  go_wp2_with fail
  refine hK.out _ _ hS (fun _ => ?_)
  clear hK K
  try simp only [Act.put, List.setIfInBounds_toArray, List.set_cons_zero, List.set_cons_succ]
  refine lin_call hS (by rfl) (fun K hK => ?_)
  go_simp
  refine (of_im imm im _ HIM.out).mono ?_
  rintro e w5 ⟨rfl, rfl⟩
  go_wp2_with fail
  refine hK.out _ _ hS (fun _ => ?_)
  clear hK K
  try simp only [Act.put, List.setIfInBounds_toArray, List.set_cons_zero, List.set_cons_succ]
  iterate 2 (refine lin_take (v := ?_) hS (by rfl) ?_ ?_; rotate_left; (intro x hx; obtain ⟨x0, x1, x2, x3, x4, x6⟩ := hx; go_simp; try (with_reducible rfl)); (simp only [Act.put, List.setIfInBounds_toArray, List.set_cons_zero, List.set_cons_succ]))
  refine lin_done ?_
  clear i0 i1 i2 i3 i4 i6
  obtain ⟨i0, i1, i2, i3, i4, i6⟩ := hS
  have HB1 := Lib.hid HB0.out.drew
  have HG1 := Lib.hid (grown_drew HG0.out)
  have hz1 : w.heap.size < w0.drew.heap.size := hz0
  clear HB0 HG0 hz0
  generalize w0.drew = w1 at *
  go_wp2_with fail
  refine wp_region_lin [(0, true), (1, true), (3, true), (4, true), (5, true), (6, true), (7, true), (8, true), (9, true), (2, false), (10, false), (11, true)]
    (by kernel_rfl) (by kernel_rfl) rfl (by kernel_rfl) (fun x => x.cell? ⟨w.heap.size, 0, none⟩ = some (.int .i64 op) ∧ x.cell? ⟨w.heap.size, 1, none⟩ = some (.int .i64 (id : Int)) ∧ x.cell? ⟨w.heap.size, 2, none⟩ = some (.int .i64 (ia : Int)) ∧ x.cell? ⟨w.heap.size, 3, none⟩ = some (.int .i64 (ib : Int)) ∧ x.cell? ⟨w.heap.size, 4, none⟩ = some (.int .i64 imm) ∧ x.cell? ⟨b, 21 + 1, none⟩ = some (.slice Am r.mem.length cm)) ?_
  simp only [List.map_cons, List.map_nil, List.getElem?_toArray, List.getElem?_cons_succ, List.getElem?_cons_zero]
  have hS : w1.drew.cell? ⟨w.heap.size, 0, none⟩ = some (.int .i64 op) ∧ w1.drew.cell? ⟨w.heap.size, 1, none⟩ = some (.int .i64 (id : Int)) ∧ w1.drew.cell? ⟨w.heap.size, 2, none⟩ = some (.int .i64 (ia : Int)) ∧ w1.drew.cell? ⟨w.heap.size, 3, none⟩ = some (.int .i64 (ib : Int)) ∧ w1.drew.cell? ⟨w.heap.size, 4, none⟩ = some (.int .i64 imm) ∧ w1.drew.cell? ⟨b, 21 + 1, none⟩ = some (.slice Am r.mem.length cm) := ⟨i0, i1, i2, i3, i4, i6⟩
  iterate 9 (refine lin_take (v := ?_) hS (by rfl) ?_ ?_; rotate_left; (intro x hx; obtain ⟨x0, x1, x2, x3, x4, x6⟩ := hx; go_simp; try (with_reducible rfl)); (simp only [Act.put, List.setIfInBounds_toArray, List.set_cons_zero, List.set_cons_succ]))
  refine lin_call hS (by rfl) (fun K hK => ?_)
  go_simp
  refine (size_any op _).mono ?_
  rintro e w5 ⟨rfl, rfl⟩
  go_wp2_with fail
  refine hK.out _ _ hS (fun _ => ?_)
  clear hK K
  try simp only [Act.put, List.setIfInBounds_toArray, List.set_cons_zero, List.set_cons_succ]
  refine lin_call hS (by rfl) (fun K hK => ?_)
  go_simp
  refine (check_any (sizeZ op) adr r.mem.length _ ad0.1 ad0.2 HSZ.out HML.out).mono ?_
  rintro e w5 ⟨rfl, rfl⟩
  rw [← HKD.out]
  go_wp2_with fail
  refine hK.out _ _ hS (fun _ => ?_)
  clear hK K
  try simp only [Act.put, List.setIfInBounds_toArray, List.set_cons_zero, List.set_cons_succ]
  (refine lin_take (v := ?_) hS (by rfl) ?_ ?_; rotate_left; (intro x hx; obtain ⟨x0, x1, x2, x3, x4, x6⟩ := hx; go_simp; try (with_reducible rfl)); (simp only [Act.put, List.setIfInBounds_toArray, List.set_cons_zero, List.set_cons_succ]))
  refine lin_done ?_
  clear i0 i1 i2 i3 i4 i6
  obtain ⟨i0, i1, i2, i3, i4, i6⟩ := hS
  go_wp2_with fail
  refine (mTrap_any vc r (.slice Am r.mem.length cm) vw pc kd b _ HB1.out.drew h16).mono ?_; rintro e w8 ⟨rfl, hb8, hg8⟩
  have hb8' := Lib.hid hb8
  have hg8' := Lib.hid (grown_trans (grown_drew HG1.out) hg8)
  clear hb8 hg8
  go_wp2_with fail
  go_ret2
  exact ⟨rfl, hb8'.out, hg8'.out⟩

set_option maxHeartbeats 1000000 in
theorem mLoad_ok (vc : Value) (r : Res) (Am : Option Addr) (cm : Nat) (vw : Value) (pc op imm : Int) (id ia ib b : Nat) (w : World) (hb : MBox w b (machL vc (resL r (.slice Am r.mem.length cm) vw) pc)) (h16 : r.regs.length = 16) (fr : ∀ x ∈ r.regs, 0 ≤ x ∧ x ≤ 4294967295) (bd : id ≤ 15) (ba : ia ≤ 15) (bb : ib ≤ 15) (bi : -8192 ≤ imm ∧ imm ≤ 8191) (hp : -100000 ≤ pc ∧ pc ≤ 100000) (hm : r.mem.length ≤ 140737488355328) (B : Nat) (ho : ResOwn w B (.slice Am r.mem.length cm) vw r) (hmb : ∀ x ∈ r.mem, 0 ≤ x ∧ x ≤ 255) (hk : checkZ (sizeZ op) ((valZ r.regs ia + imm) % 4294967296) r.mem.length = 0) :
    Calls Try.prog 37 #[.pointer (some ⟨b, 0, none⟩), .agg #[.int .i64 op, .int .i64 (id : Int), .int .i64 (ia : Int), .int .i64 (ib : Int), .int .i64 imm]] w fun e w' => e = .returned (.tuple #[]) ∧ MBox w' b (machL vc (resL (bumpZ { r with regs := setZ r.regs id (loadZ r.mem op ((valZ r.regs ia + imm) % 4294967296)) }) (.slice Am r.mem.length cm) vw) (pc + 1)) ∧ w.grownBy w' (some b) := by
  have HFR := Lib.hid fr
  have HK := Lib.hid hk
  clear hk
  have hlt0 := hb.lt
  have HO0 := Lib.hid (ho.grownM hb (w.grownBy_alloc (.cells #[.int .i64 op, .int .i64 (id : Int), .int .i64 (ia : Int), .int .i64 (ib : Int), .int .i64 imm] 44) (some b)))
  clear ho
  have hlt := hb.lt
  have va0 := valZ_range fr ia
  have vb0 := valZ_range fr ib
  obtain ⟨va, hva⟩ : ∃ v, v = valZ r.regs ia := ⟨_, rfl⟩
  obtain ⟨vb, hvb⟩ : ∃ v, v = valZ r.regs ib := ⟨_, rfl⟩
  rw [← hva] at va0
  rw [← hvb] at vb0
  have HVA := Lib.hid hva
  have HVB := Lib.hid hvb
  have i0 : (w.alloc (.cells #[.int .i64 op, .int .i64 (id : Int), .int .i64 (ia : Int), .int .i64 (ib : Int), .int .i64 imm] 44)).cell? ⟨w.heap.size, 0, none⟩ = some (.int .i64 op) := by go_simp
  have i1 : (w.alloc (.cells #[.int .i64 op, .int .i64 (id : Int), .int .i64 (ia : Int), .int .i64 (ib : Int), .int .i64 imm] 44)).cell? ⟨w.heap.size, 1, none⟩ = some (.int .i64 (id : Int)) := by go_simp
  have i2 : (w.alloc (.cells #[.int .i64 op, .int .i64 (id : Int), .int .i64 (ia : Int), .int .i64 (ib : Int), .int .i64 imm] 44)).cell? ⟨w.heap.size, 2, none⟩ = some (.int .i64 (ia : Int)) := by go_simp
  have i3 : (w.alloc (.cells #[.int .i64 op, .int .i64 (id : Int), .int .i64 (ia : Int), .int .i64 (ib : Int), .int .i64 imm] 44)).cell? ⟨w.heap.size, 3, none⟩ = some (.int .i64 (ib : Int)) := by go_simp
  have i4 : (w.alloc (.cells #[.int .i64 op, .int .i64 (id : Int), .int .i64 (ia : Int), .int .i64 (ib : Int), .int .i64 imm] 44)).cell? ⟨w.heap.size, 4, none⟩ = some (.int .i64 imm) := by go_simp
  have hz0 : w.heap.size < (w.alloc (.cells #[.int .i64 op, .int .i64 (id : Int), .int .i64 (ia : Int), .int .i64 (ib : Int), .int .i64 imm] 44)).heap.size := by simp
  have HB0 := Lib.hid (hb.alloc (.cells #[.int .i64 op, .int .i64 (id : Int), .int .i64 (ia : Int), .int .i64 (ib : Int), .int .i64 imm] 44))
  have HG0 := Lib.hid (w.grownBy_alloc (.cells #[.int .i64 op, .int .i64 (id : Int), .int .i64 (ia : Int), .int .i64 (ib : Int), .int .i64 imm] 44) (some b))
  obtain ⟨bi0, bi1⟩ := bi
  obtain ⟨hp0, hp1⟩ := hp
  obtain ⟨dz, hdz⟩ : ∃ x, x = (loadZ r.mem op ((valZ r.regs ia + imm) % 4294967296)) := ⟨_, rfl⟩
  rw [← hdz]
  have HDZ := Lib.hid hdz
  clear hdz
  skip
  skip
  skip
  clear hva hvb hb fr
  go_enter Try.func37, Try.ntmps37
  go_wp2_with fail
  generalize hw0 : w.alloc (.cells #[.int .i64 op, .int .i64 (id : Int), .int .i64 (ia : Int), .int .i64 (ib : Int), .int .i64 imm] 44) = w0 at *
  clear hw0
  refine (mAddr_ok vc r Am cm vw pc op imm id ia ib b w0 HB0.out h16 HFR.out bd ba bb (And.intro bi0 bi1) (And.intro hp0 hp1) hm HK.out).mono ?_; rintro e w1 ⟨rfl, hb1, hg1⟩
  have hne : some w.heap.size ≠ some b := fun h => by injection h with h; omega
  have I0 := hg1.cell i0 hne
  have I1 := hg1.cell i1 hne
  have I2 := hg1.cell i2 hne
  have I3 := hg1.cell i3 hne
  have I4 := hg1.cell i4 hne
  have I6 := hb1.cell (machL_res (resL_len h16) (resL_21 (vm := (.slice Am r.mem.length cm)) (vw := vw) h16))
  have HB1 := Lib.hid hb1
  have HO1 := Lib.hid (HO0.out.grownM HB0.out hg1)
  have HG1 := Lib.hid (grown_trans HG0.out hg1)
  have hz1 : w.heap.size < w1.heap.size := Nat.lt_of_lt_of_le hz0 hg1.size
  clear hb1 hg1 i0 i1 i2 i3 i4 HB0 HG0 HO0 hne
  obtain ⟨adr, hadr⟩ : ∃ a, a = ((valZ r.regs ia + imm) % 4294967296) := ⟨_, rfl⟩
  have HAD := Lib.hid hadr
  have ad0 : 0 ≤ adr ∧ adr ≤ 4294967295 := by rw [hadr]; omega
  rw [← hadr]
  clear hadr
  have q : (!true) = false := rfl
  go_wp2_with fail
  refine wp_region_lin [(0, true), (1, true), (2, true), (3, true), (4, true), (5, true), (6, true), (7, true), (8, true), (9, true), (10, true), (11, false), (12, false)]
    (by kernel_rfl) (by kernel_rfl) rfl (by kernel_rfl) (fun x => x.cell? ⟨w.heap.size, 0, none⟩ = some (.int .i64 op) ∧ x.cell? ⟨w.heap.size, 1, none⟩ = some (.int .i64 (id : Int)) ∧ x.cell? ⟨w.heap.size, 2, none⟩ = some (.int .i64 (ia : Int)) ∧ x.cell? ⟨w.heap.size, 3, none⟩ = some (.int .i64 (ib : Int)) ∧ x.cell? ⟨w.heap.size, 4, none⟩ = some (.int .i64 imm) ∧ x.cell? ⟨b, 21 + 1, none⟩ = some (.slice Am r.mem.length cm)) ?_
  simp only [List.map_cons, List.map_nil, List.getElem?_toArray, List.getElem?_cons_succ, List.getElem?_cons_zero]
  have hS : w1.drew.cell? ⟨w.heap.size, 0, none⟩ = some (.int .i64 op) ∧ w1.drew.cell? ⟨w.heap.size, 1, none⟩ = some (.int .i64 (id : Int)) ∧ w1.drew.cell? ⟨w.heap.size, 2, none⟩ = some (.int .i64 (ia : Int)) ∧ w1.drew.cell? ⟨w.heap.size, 3, none⟩ = some (.int .i64 (ib : Int)) ∧ w1.drew.cell? ⟨w.heap.size, 4, none⟩ = some (.int .i64 imm) ∧ w1.drew.cell? ⟨b, 21 + 1, none⟩ = some (.slice Am r.mem.length cm) := ⟨I0, I1, I2, I3, I4, I6⟩
  iterate 11 (refine lin_take (v := ?_) hS (by rfl) ?_ ?_; rotate_left; (intro x hx; obtain ⟨x0, x1, x2, x3, x4, x6⟩ := hx; go_simp; try (with_reducible rfl)); (simp only [Act.put, List.setIfInBounds_toArray, List.set_cons_zero, List.set_cons_succ]))
  refine lin_call hS (by rfl) (fun K hK => ?_)
  go_simp
  refine (load_any Am cm r.mem.length _ r.mem op adr _ (Row.drew (Row.of_own HO1.out.mem)) (Nat.le_refl _) hmb ad0.1 ad0.2).mono ?_
  rintro e w5 ⟨rfl, hb5⟩
  rw [show loadZ r.mem op adr = dz by rw [HAD.out]; exact HDZ.out.symm]
  have hb5' : Below w1.heap.size w1 w5 := ⟨hb5.os, hb5.tape, hb5.output, hb5.size, hb5.block⟩
  have hbl : b < w1.heap.size := HB1.out.lt
  clear hS
  have hS : w5.cell? ⟨w.heap.size, 0, none⟩ = some (.int .i64 op) ∧ w5.cell? ⟨w.heap.size, 1, none⟩ = some (.int .i64 (id : Int)) ∧ w5.cell? ⟨w.heap.size, 2, none⟩ = some (.int .i64 (ia : Int)) ∧ w5.cell? ⟨w.heap.size, 3, none⟩ = some (.int .i64 (ib : Int)) ∧ w5.cell? ⟨w.heap.size, 4, none⟩ = some (.int .i64 imm) ∧ w5.cell? ⟨b, 21 + 1, none⟩ = some (.slice Am r.mem.length cm) := ⟨below_cell hb5' hz1 I0, below_cell hb5' hz1 I1, below_cell hb5' hz1 I2, below_cell hb5' hz1 I3, below_cell hb5' hz1 I4, below_cell hb5' hbl I6⟩
  have HB5 := Lib.hid (HB1.out.below hb5' hbl)
  have HO5 := Lib.hid (HO1.out.below hb5')
  have HG5 := Lib.hid (grown_trans HG1.out (grown_of_below hb5'))
  clear hb5 hb5'
  go_wp2_with fail
  refine hK.out _ _ hS (fun _ => ?_)
  clear hK K
  try simp only [Act.put, List.setIfInBounds_toArray, List.set_cons_zero, List.set_cons_succ]
  refine lin_call hS (by rfl) (fun K hK => ?_)
  go_simp
  refine (mWrite_any vc r (.slice Am r.mem.length cm) vw pc dz b id _ HB5.out h16 bd).mono ?_
  rintro e w6 ⟨rfl, hb6, hg6⟩
  have S16 : (setZ r.regs id dz).length = 16 := by rw [setZ_len]; exact h16
  have hS6 : w6.cell? ⟨w.heap.size, 0, none⟩ = some (.int .i64 op) ∧ w6.cell? ⟨w.heap.size, 1, none⟩ = some (.int .i64 (id : Int)) ∧ w6.cell? ⟨w.heap.size, 2, none⟩ = some (.int .i64 (ia : Int)) ∧ w6.cell? ⟨w.heap.size, 3, none⟩ = some (.int .i64 (ib : Int)) ∧ w6.cell? ⟨w.heap.size, 4, none⟩ = some (.int .i64 imm) ∧ w6.cell? ⟨b, 21 + 1, none⟩ = some (.slice Am r.mem.length cm) := by
    obtain ⟨y0, y1, y2, y3, y4, _⟩ := hS
    have hne : some w.heap.size ≠ some b := fun h => by injection h with h; omega
    exact ⟨hg6.cell y0 hne, hg6.cell y1 hne, hg6.cell y2 hne, hg6.cell y3 hne, hg6.cell y4 hne, hb6.cell (machL_res (resL_len (r := { r with regs := setZ r.regs id dz }) S16) (resL_21 (r := { r with regs := setZ r.regs id dz }) (vm := (.slice Am r.mem.length cm)) (vw := vw) S16))⟩
  have HB6 := Lib.hid hb6
  have HG6 := Lib.hid (grown_trans HG5.out hg6)
  clear hb6 hg6 hS
  go_wp2_with fail
  refine hK.out _ _ hS6 (fun _ => ?_)
  clear hK K I0 I1 I2 I3 I4 I6
  try simp only [Act.put, List.setIfInBounds_toArray, List.set_cons_zero, List.set_cons_succ]
  refine lin_done ?_
  obtain ⟨x0, x1, x2, x3, x4, x6⟩ := hS6
  clear x0 x1 x2 x3 x4 x6
  go_wp2_with fail
  refine (mPass_any vc { r with regs := setZ r.regs id dz } (.slice Am r.mem.length cm) vw pc 1 b _ HB6.out S16 (by omega) (by omega)).mono ?_; rintro e w9 ⟨rfl, hb9, hg9⟩
  have hb9' := Lib.hid hb9
  have hg9' := Lib.hid (grown_trans HG6.out hg9)
  clear hb9 hg9
  go_wp2_with fail
  exact bodyPost_end (v := .tuple #[]) (by simp [results, Try.results37]) rfl ⟨rfl, hb9'.out, hg9'.out⟩

set_option maxHeartbeats 1000000 in
theorem mLoad_no (vc : Value) (r : Res) (Am : Option Addr) (cm : Nat) (vw : Value) (pc op imm : Int) (id ia ib b : Nat) (w : World) (hb : MBox w b (machL vc (resL r (.slice Am r.mem.length cm) vw) pc)) (h16 : r.regs.length = 16) (fr : ∀ x ∈ r.regs, 0 ≤ x ∧ x ≤ 4294967295) (bd : id ≤ 15) (ba : ia ≤ 15) (bb : ib ≤ 15) (bi : -8192 ≤ imm ∧ imm ≤ 8191) (hp : -100000 ≤ pc ∧ pc ≤ 100000) (hm : r.mem.length ≤ 140737488355328) (B : Nat) (ho : ResOwn w B (.slice Am r.mem.length cm) vw r) (hmb : ∀ x ∈ r.mem, 0 ≤ x ∧ x ≤ 255) (hk : checkZ (sizeZ op) ((valZ r.regs ia + imm) % 4294967296) r.mem.length ≠ 0) :
    Calls Try.prog 37 #[.pointer (some ⟨b, 0, none⟩), .agg #[.int .i64 op, .int .i64 (id : Int), .int .i64 (ia : Int), .int .i64 (ib : Int), .int .i64 imm]] w fun e w' => e = .returned (.tuple #[]) ∧ MBox w' b (machL vc (resL (trapZ r (checkZ (sizeZ op) ((valZ r.regs ia + imm) % 4294967296) r.mem.length) pc) (.slice Am r.mem.length cm) vw) pc) ∧ w.grownBy w' (some b) := by
  have HFR := Lib.hid fr
  have HK := Lib.hid hk
  clear hk
  have hlt0 := hb.lt
  have HO0 := Lib.hid (ho.grownM hb (w.grownBy_alloc (.cells #[.int .i64 op, .int .i64 (id : Int), .int .i64 (ia : Int), .int .i64 (ib : Int), .int .i64 imm] 44) (some b)))
  clear ho
  have hlt := hb.lt
  have va0 := valZ_range fr ia
  have vb0 := valZ_range fr ib
  obtain ⟨va, hva⟩ : ∃ v, v = valZ r.regs ia := ⟨_, rfl⟩
  obtain ⟨vb, hvb⟩ : ∃ v, v = valZ r.regs ib := ⟨_, rfl⟩
  rw [← hva] at va0
  rw [← hvb] at vb0
  have HVA := Lib.hid hva
  have HVB := Lib.hid hvb
  have i0 : (w.alloc (.cells #[.int .i64 op, .int .i64 (id : Int), .int .i64 (ia : Int), .int .i64 (ib : Int), .int .i64 imm] 44)).cell? ⟨w.heap.size, 0, none⟩ = some (.int .i64 op) := by go_simp
  have i1 : (w.alloc (.cells #[.int .i64 op, .int .i64 (id : Int), .int .i64 (ia : Int), .int .i64 (ib : Int), .int .i64 imm] 44)).cell? ⟨w.heap.size, 1, none⟩ = some (.int .i64 (id : Int)) := by go_simp
  have i2 : (w.alloc (.cells #[.int .i64 op, .int .i64 (id : Int), .int .i64 (ia : Int), .int .i64 (ib : Int), .int .i64 imm] 44)).cell? ⟨w.heap.size, 2, none⟩ = some (.int .i64 (ia : Int)) := by go_simp
  have i3 : (w.alloc (.cells #[.int .i64 op, .int .i64 (id : Int), .int .i64 (ia : Int), .int .i64 (ib : Int), .int .i64 imm] 44)).cell? ⟨w.heap.size, 3, none⟩ = some (.int .i64 (ib : Int)) := by go_simp
  have i4 : (w.alloc (.cells #[.int .i64 op, .int .i64 (id : Int), .int .i64 (ia : Int), .int .i64 (ib : Int), .int .i64 imm] 44)).cell? ⟨w.heap.size, 4, none⟩ = some (.int .i64 imm) := by go_simp
  have hz0 : w.heap.size < (w.alloc (.cells #[.int .i64 op, .int .i64 (id : Int), .int .i64 (ia : Int), .int .i64 (ib : Int), .int .i64 imm] 44)).heap.size := by simp
  have HB0 := Lib.hid (hb.alloc (.cells #[.int .i64 op, .int .i64 (id : Int), .int .i64 (ia : Int), .int .i64 (ib : Int), .int .i64 imm] 44))
  have HG0 := Lib.hid (w.grownBy_alloc (.cells #[.int .i64 op, .int .i64 (id : Int), .int .i64 (ia : Int), .int .i64 (ib : Int), .int .i64 imm] 44) (some b))
  obtain ⟨bi0, bi1⟩ := bi
  obtain ⟨hp0, hp1⟩ := hp
  skip
  skip
  skip
  obtain ⟨kd, hkd⟩ : ∃ k, k = checkZ (sizeZ op) ((valZ r.regs ia + imm) % 4294967296) r.mem.length := ⟨_, rfl⟩
  rw [← hkd]
  have HKD := Lib.hid hkd
  clear hkd
  clear hva hvb hb fr
  go_enter Try.func37, Try.ntmps37
  go_wp2_with fail
  generalize hw0 : w.alloc (.cells #[.int .i64 op, .int .i64 (id : Int), .int .i64 (ia : Int), .int .i64 (ib : Int), .int .i64 imm] 44) = w0 at *
  clear hw0
  refine (mAddr_no vc r Am cm vw pc op imm id ia ib b w0 HB0.out h16 HFR.out bd ba bb (And.intro bi0 bi1) (And.intro hp0 hp1) hm HK.out).mono ?_; rintro e w1 ⟨rfl, hb1, hg1⟩
  rw [← HKD.out] at hb1
  have hb1' := Lib.hid hb1
  have hg1' := Lib.hid (grown_trans HG0.out hg1)
  clear hb1 hg1 i0 i1 i2 i3 i4
  go_wp2_with fail
  exact bodyPost_ret (v := .tuple #[]) (by simp [results, Try.results37]) rfl ⟨rfl, hb1'.out, hg1'.out⟩
end Go.Proofs.Ytdjllgdeijdieaa.Words

/- Rows of the call's own: two of two types lie apart; a slice of one new element; a slice is one cell. Nothing here speaks of one program text. -/
namespace Go.Proofs.Ytdjllgdeijdieaa.Words
set_option maxRecDepth 100000
open Go.RowKit
set_option linter.unusedVariables false

theorem row_one3 (w : World) (a b c : Value) (t : TypeId) : Row (w.alloc (.cells #[a, b, c] t)) (w.heap.size + 1) 3 (.slice (some ⟨w.heap.size, 0, none⟩) 1 1) 1 [a, b, c] := by
  refine ⟨rfl, _, _, rfl, Nat.le_refl _, by omega, (fun h => by cases h), fun _ => ⟨w.heap.size, 0, rfl, Nat.lt_succ_self _, fun j u hu => ?_⟩⟩
  have := new_cells w #[a, b, c] t [a, b, c] rfl j u hu
  rwa [add_spot] at this
theorem own_apart {w : World} {b1 b2 s1 s2 n1 n2 : Nat} {e1 e2 : TypeId} {v1 v2 : Value} {x1 x2 : List Value} (h1 : w.ownsRow b1 e1 s1 v1 n1 x1) (h2 : w.ownsRow b2 e2 s2 v2 n2 x2) (hne : e1 ≠ e2) {g : Nat} (hg : v1.ownBlock = some g) : v1.ownBlock ≠ v2.ownBlock := by
  rcases h1.2 with ⟨rfl, _⟩ | ⟨g1, c1, cur1, rfl, _, a1, _⟩
  · cases hg
  rcases h2.2 with ⟨rfl, _⟩ | ⟨g2, c2, cur2, rfl, _, a2, _⟩
  · intro h; cases h
  · intro h
    simp only [Value.ownBlock, Option.some.injEq] at h
    subst h
    rw [a1] at a2
    simp only [Option.some.injEq, Obj.cells.injEq] at a2
    exact hne a2.2.1
theorem own_apart2 {w : World} {b1 b2 s1 s2 n1 n2 : Nat} {e1 e2 : TypeId} {v1 v2 : Value} {x1 x2 : List Value} (h1 : w.ownsRow b1 e1 s1 v1 n1 x1) (h2 : w.ownsRow b2 e2 s2 v2 n2 x2) (hne : e1 ≠ e2) : v1.ownBlock = none ∨ v1.ownBlock ≠ v2.ownBlock := by
  cases hg : v1.ownBlock with
  | none => exact .inl rfl
  | some g => exact .inr (hg ▸ own_apart h1 h2 hne hg)
theorem cell_set_other {w : World} {b b' k k' : Nat} {u v : Value} (h : w.cell? ⟨b, k, none⟩ = some v) (hne : b ≠ b') : (w.setCell ⟨b', k', none⟩ u).cell? ⟨b, k, none⟩ = some v := by
  rw [World.cell?_of_block (w := w) (a := ⟨b, k, none⟩) (Below.heap_setCell w ⟨b', k', none⟩ u b hne)]; exact h
theorem own_one {w : World} {B s n : Nat} {e : TypeId} {v : Value} {xs : List Value} (h : w.ownsRow B e s v n xs) : v.oneCell' = true := by
  rcases h.2 with ⟨rfl, _⟩ | ⟨g, cap, cur, rfl, _⟩ <;> rfl
end Go.Proofs.Ytdjllgdeijdieaa.Words

/- Contract of bytes.Load. -/
import Derived.Test.YtkmflgfhhlhgeaaBytesFits
import Derived.Test.YtkmflgfhhlhgeaaRowCopy
import Derived.Test.YtkmflgfhhlhgeaaByteRow
import Derived.Test.YtkmflgfhhlhgeaaInfo8
import Derived.Test.YtkmflgfhhlhgeaaWordGet
namespace Go.Proofs.Ytkmflgfhhlhgeaa.Words
open Go.RowKit
set_option linter.unusedVariables false

theorem getD_at {zs : List Int} {k : Nat} (h : k < zs.length) : zs.getD k 0 = zs[k] := by rw [List.getD_eq_getElem?_getD, List.getElem?_eq_getElem h]; rfl
theorem take1 (zs : List Int) (k : Nat) (h : k + 1 ≤ zs.length) : ((zs.map (Value.int .u8)).drop k).take 1 = [Value.int .u8 (zs.getD k 0)] := by
  rw [List.drop_eq_getElem_cons (by simp; omega), getD_at (by omega)]
  simp
theorem take2 (zs : List Int) (k : Nat) (h : k + 2 ≤ zs.length) : ((zs.map (Value.int .u8)).drop k).take 2 = [Value.int .u8 (zs.getD k 0), Value.int .u8 (zs.getD (k + 1) 0)] := by
  rw [List.drop_eq_getElem_cons (by simp; omega), List.drop_eq_getElem_cons (by simp; omega), getD_at (by omega), getD_at (by omega)]
  simp
theorem take4 (zs : List Int) (k : Nat) (h : k + 4 ≤ zs.length) : ((zs.map (Value.int .u8)).drop k).take 4 = [Value.int .u8 (zs.getD k 0), Value.int .u8 (zs.getD (k + 1) 0), Value.int .u8 (zs.getD (k + 2) 0), Value.int .u8 (zs.getD (k + 3) 0)] := by
  rw [List.drop_eq_getElem_cons (by simp; omega), List.drop_eq_getElem_cons (by simp; omega), List.drop_eq_getElem_cons (by simp; omega), List.drop_eq_getElem_cons (by simp; omega), getD_at (by omega), getD_at (by omega), getD_at (by omega), getD_at (by omega)]
  simp

set_option maxHeartbeats 1000000 in
theorem load_no (A : Option Addr) (c n : Nat) (zs : List Int) (op addr : Int) (w : World) (hl : zs.length = n) (hn : n ≤ 9223372036854775807) (h0 : 0 ≤ addr) (h1 : addr ≤ 4294967295) (h : op < 26 ∨ 30 < op ∨ checkZ (sizeZ op) addr n ≠ 0) :
    Calls Try.prog 14 #[.slice A n c, .int .i64 op, .int .u32 addr] w fun e w' => e = .returned (.int .u32 (loadZ zs op addr)) ∧ Below w.heap.size w w' := by
  rw [loadZ_no (by rw [hl]; exact h)]
  have hsz := sizeZ_cases op
  have hck := checkZ_cases (sizeZ op) addr n
  by_cases hr : op < 26 ∨ 30 < op
  · have q := Lib.hid (show decide (26 ≤ op ∧ op ≤ 30) = false from decide_eq_false (by omega))
    clear h hck
    go_enter Try.func14, Try.ntmps14
    go_wp2_with fail
    refine (size_any _ _).mono ?_; rintro e w1 ⟨rfl, rfl⟩
    go_wp2_with fail
    refine (isLoad_any _ _).mono ?_; rintro e w1 ⟨rfl, rfl⟩
    rw [q.out]
    go_wp2_with fail
    go_ret
    exact ⟨rfl, Below.refl _ _⟩
  · have q := Lib.hid (show decide (26 ≤ op ∧ op ≤ 30) = true from decide_eq_true (by omega))
    have h' : checkZ (sizeZ op) addr n ≠ 0 := by omega
    have q2 : (checkZ (sizeZ op) addr n != 0) = true := by simp; exact h'
    have hb : -9223372036854775808 ≤ sizeZ op ∧ sizeZ op ≤ 9223372036854775807 := by omega
    clear h h' hsz hck
    go_enter Try.func14, Try.ntmps14
    go_wp2_with fail
    refine (size_any _ _).mono ?_; rintro e w1 ⟨rfl, rfl⟩
    go_wp2_with fail
    refine (isLoad_any _ _).mono ?_; rintro e w1 ⟨rfl, rfl⟩
    rw [q.out]
    go_wp2_with fail
    refine (check_any (sizeZ op) addr n _ h0 h1 hb (by omega)).mono ?_; rintro e w1 ⟨rfl, rfl⟩
    go_wp2_with fail
    go_ret
    exact ⟨rfl, Below.refl _ _⟩

set_option maxHeartbeats 1000000 in
theorem load_26 (b off c n k B : Nat) (x0 x1 x2 x3 : Int) (ys : List Value) (w : World) (hrow : Row w B 1 (.slice (some ⟨b, off, none⟩) n c) n ys) (hk : (k : Int) ≤ 4294967295) (hck : checkZ 4 k n = 0)
    (b0 : 0 ≤ x0 ∧ x0 ≤ 255) (b1 : 0 ≤ x1 ∧ x1 ≤ 255) (b2 : 0 ≤ x2 ∧ x2 ≤ 255) (b3 : 0 ≤ x3 ∧ x3 ≤ 255) (hys : (ys.drop k).take 4 = [Value.int .u8 x0, Value.int .u8 x1, Value.int .u8 x2, Value.int .u8 x3]) (hB : B ≤ w.heap.size) :
    Calls Try.prog 14 #[.slice (some ⟨b, off, none⟩) n c, .int .i64 26, .int .u32 (k : Int)] w fun e w' => e = .returned (.int .u32 (extendZ 26 (x0 + 256 * x1 + 65536 * x2 + 16777216 * x3))) ∧ Below w.heap.size w w' := by
  obtain ⟨i0, hi, hz0, hz1, hz2⟩ := info_parts info_u8
  have HZ2 := Lib.hid hz2
  clear hz2
  obtain ⟨_, hr⟩ := checkZ_zero hck
  have HCK := Lib.hid hck
  obtain ⟨u1, u2⟩ := hrow.cap
  have hk1 : k + 4 ≤ n := by omega
  have hk0 : (0 : Int) ≤ k := by omega
  have hcut := Lib.hid (hrow.cut (k := k) (m := 4) hk1 (by omega))
  clear hck hrow
  go_enter Try.func14, Try.ntmps14
  go_wp2_with fail
  refine (size_any _ _).mono ?_; rintro e w1 ⟨rfl, rfl⟩
  rw [show sizeZ 26 = 4 from rfl]
  go_wp2_with fail
  refine (isLoad_any _ _).mono ?_; rintro e w1 ⟨rfl, rfl⟩
  rw [show decide ((26 : Int) ≤ 26 ∧ (26 : Int) ≤ 30) = true from rfl]
  go_wp2_with fail
  refine (check_any 4 k n _ (by omega) hk (by omega) (by omega)).mono ?_; rintro e w1 ⟨rfl, rfl⟩
  rw [HCK.out]
  go_wp2_with (first
    | (at_make; refine wpList_make_full _ rfl _ _ 22 rfl w.heap.size 5 i0 (.int .u8 0) 1 Try.underlying22 hi hz0 hz1 _ _ _ _ 4 rfl rfl rfl rfl (by rw [HZ2.out]; omega) (by unfold maxLen; omega) (Nat.le_refl _) ?_; intro w1 hown1 hg1; have hb1 : Below w.heap.size w w1 := (Below.refl _ _).grown hg1 (Nat.le_refl _) (fun _ h => by cases h))
    | (with_reducible show wpList _ _ _ _ _ _; refine wpList_copy_rows rfl (.tmp 28) (.tmp 34) 22 22 rfl 5 Try.underlying22 (by kernel_rfl) w.heap.size w.heap.size 4 4 0 4 4 _ hown1 rfl (some ⟨b, off + k, none⟩) 4 (c - k) B _ (by go_simp) ((hcut.out.below (hb1.mono hB))) (by rw [hys]; simp [Value.oneCell']) (by omega) ?_; intro w2 hown2 hb2))
  rw [hys] at hown2
  have hown3 : w2.ownsRow w.heap.size 5 1 (.slice (some ⟨w.heap.size, 0, none⟩) 4 4) 4 [Value.int .u8 x0, Value.int .u8 x1, Value.int .u8 x2, Value.int .u8 x3] := by have hh := hown2; rw [show ((Value.int .u8 0).cells) = #[Value.int .u8 0] from rfl, toList_madeCells_one] at hh; exact hh
  clear hown1 hown2
  refine (get_yes w.heap.size 0 4 4 0 x0 x1 x2 x3 w2 (by omega) (by omega) (by omega) b0 b1 b2 b3 (hown3.cellAt 0 (by simp)) (hown3.cellAt 1 (by simp)) (hown3.cellAt 2 (by simp)) (hown3.cellAt 3 (by simp))).mono ?_
  rintro e w3 ⟨rfl, kk, rfl⟩
  go_wp2_with fail
  refine (signed_any 26 _ _ (by omega) (by omega)).mono ?_; rintro e w4 ⟨rfl, rfl⟩
  go_wp2_with fail
  go_ret
  exact ⟨ret_int (by first | rfl | (congr 1; omega)), Below.drewN_ (hb1.trans hb2) _⟩

set_option maxHeartbeats 1000000 in
theorem load_27 (b off c n k B : Nat) (x0 x1 : Int) (ys : List Value) (w : World) (hrow : Row w B 1 (.slice (some ⟨b, off, none⟩) n c) n ys) (hk : (k : Int) ≤ 4294967295) (hck : checkZ 2 k n = 0)
    (b0 : 0 ≤ x0 ∧ x0 ≤ 255) (b1 : 0 ≤ x1 ∧ x1 ≤ 255) (hys : (ys.drop k).take 2 = [Value.int .u8 x0, Value.int .u8 x1]) (hB : B ≤ w.heap.size) :
    Calls Try.prog 14 #[.slice (some ⟨b, off, none⟩) n c, .int .i64 27, .int .u32 (k : Int)] w fun e w' => e = .returned (.int .u32 (extendZ 27 (x0 + 256 * x1))) ∧ Below w.heap.size w w' := by
  obtain ⟨i0, hi, hz0, hz1, hz2⟩ := info_parts info_u8
  have HZ2 := Lib.hid hz2
  clear hz2
  obtain ⟨_, hr⟩ := checkZ_zero hck
  have HCK := Lib.hid hck
  obtain ⟨u1, u2⟩ := hrow.cap
  have hk1 : k + 2 ≤ n := by omega
  have hk0 : (0 : Int) ≤ k := by omega
  have hcut := Lib.hid (hrow.cut (k := k) (m := 2) hk1 (by omega))
  clear hck hrow
  go_enter Try.func14, Try.ntmps14
  go_wp2_with fail
  refine (size_any _ _).mono ?_; rintro e w1 ⟨rfl, rfl⟩
  rw [show sizeZ 27 = 2 from rfl]
  go_wp2_with fail
  refine (isLoad_any _ _).mono ?_; rintro e w1 ⟨rfl, rfl⟩
  rw [show decide ((26 : Int) ≤ 27 ∧ (27 : Int) ≤ 30) = true from rfl]
  go_wp2_with fail
  refine (check_any 2 k n _ (by omega) hk (by omega) (by omega)).mono ?_; rintro e w1 ⟨rfl, rfl⟩
  rw [HCK.out]
  go_wp2_with (first
    | (at_make; refine wpList_make_full _ rfl _ _ 22 rfl w.heap.size 5 i0 (.int .u8 0) 1 Try.underlying22 hi hz0 hz1 _ _ _ _ 4 rfl rfl rfl rfl (by rw [HZ2.out]; omega) (by unfold maxLen; omega) (Nat.le_refl _) ?_; intro w1 hown1 hg1; have hb1 : Below w.heap.size w w1 := (Below.refl _ _).grown hg1 (Nat.le_refl _) (fun _ h => by cases h))
    | (with_reducible show wpList _ _ _ _ _ _; refine wpList_copy_rows rfl (.tmp 28) (.tmp 34) 22 22 rfl 5 Try.underlying22 (by kernel_rfl) w.heap.size w.heap.size 4 4 0 4 4 _ hown1 rfl (some ⟨b, off + k, none⟩) 2 (c - k) B _ (by go_simp) ((hcut.out.below (hb1.mono hB))) (by rw [hys]; simp [Value.oneCell']) (by omega) ?_; intro w2 hown2 hb2))
  rw [hys] at hown2
  have hown3 : w2.ownsRow w.heap.size 5 1 (.slice (some ⟨w.heap.size, 0, none⟩) 4 4) 4 [Value.int .u8 x0, Value.int .u8 x1, Value.int .u8 0, Value.int .u8 0] := by have hh := hown2; rw [show ((Value.int .u8 0).cells) = #[Value.int .u8 0] from rfl, toList_madeCells_one] at hh; exact hh
  clear hown1 hown2
  refine (get_yes w.heap.size 0 4 4 0 x0 x1 0 0 w2 (by omega) (by omega) (by omega) b0 b1 (by omega) (by omega) (hown3.cellAt 0 (by simp)) (hown3.cellAt 1 (by simp)) (hown3.cellAt 2 (by simp)) (hown3.cellAt 3 (by simp))).mono ?_
  rintro e w3 ⟨rfl, kk, rfl⟩
  go_wp2_with fail
  refine (signed_any 27 _ _ (by omega) (by omega)).mono ?_; rintro e w4 ⟨rfl, rfl⟩
  go_wp2_with fail
  go_ret
  exact ⟨ret_int (by first | rfl | (congr 1; omega)), Below.drewN_ (hb1.trans hb2) _⟩

set_option maxHeartbeats 1000000 in
theorem load_28 (b off c n k B : Nat) (x0 x1 : Int) (ys : List Value) (w : World) (hrow : Row w B 1 (.slice (some ⟨b, off, none⟩) n c) n ys) (hk : (k : Int) ≤ 4294967295) (hck : checkZ 2 k n = 0)
    (b0 : 0 ≤ x0 ∧ x0 ≤ 255) (b1 : 0 ≤ x1 ∧ x1 ≤ 255) (hys : (ys.drop k).take 2 = [Value.int .u8 x0, Value.int .u8 x1]) (hB : B ≤ w.heap.size) :
    Calls Try.prog 14 #[.slice (some ⟨b, off, none⟩) n c, .int .i64 28, .int .u32 (k : Int)] w fun e w' => e = .returned (.int .u32 (extendZ 28 (x0 + 256 * x1))) ∧ Below w.heap.size w w' := by
  obtain ⟨i0, hi, hz0, hz1, hz2⟩ := info_parts info_u8
  have HZ2 := Lib.hid hz2
  clear hz2
  obtain ⟨_, hr⟩ := checkZ_zero hck
  have HCK := Lib.hid hck
  obtain ⟨u1, u2⟩ := hrow.cap
  have hk1 : k + 2 ≤ n := by omega
  have hk0 : (0 : Int) ≤ k := by omega
  have hcut := Lib.hid (hrow.cut (k := k) (m := 2) hk1 (by omega))
  clear hck hrow
  go_enter Try.func14, Try.ntmps14
  go_wp2_with fail
  refine (size_any _ _).mono ?_; rintro e w1 ⟨rfl, rfl⟩
  rw [show sizeZ 28 = 2 from rfl]
  go_wp2_with fail
  refine (isLoad_any _ _).mono ?_; rintro e w1 ⟨rfl, rfl⟩
  rw [show decide ((26 : Int) ≤ 28 ∧ (28 : Int) ≤ 30) = true from rfl]
  go_wp2_with fail
  refine (check_any 2 k n _ (by omega) hk (by omega) (by omega)).mono ?_; rintro e w1 ⟨rfl, rfl⟩
  rw [HCK.out]
  go_wp2_with (first
    | (at_make; refine wpList_make_full _ rfl _ _ 22 rfl w.heap.size 5 i0 (.int .u8 0) 1 Try.underlying22 hi hz0 hz1 _ _ _ _ 4 rfl rfl rfl rfl (by rw [HZ2.out]; omega) (by unfold maxLen; omega) (Nat.le_refl _) ?_; intro w1 hown1 hg1; have hb1 : Below w.heap.size w w1 := (Below.refl _ _).grown hg1 (Nat.le_refl _) (fun _ h => by cases h))
    | (with_reducible show wpList _ _ _ _ _ _; refine wpList_copy_rows rfl (.tmp 28) (.tmp 34) 22 22 rfl 5 Try.underlying22 (by kernel_rfl) w.heap.size w.heap.size 4 4 0 4 4 _ hown1 rfl (some ⟨b, off + k, none⟩) 2 (c - k) B _ (by go_simp) ((hcut.out.below (hb1.mono hB))) (by rw [hys]; simp [Value.oneCell']) (by omega) ?_; intro w2 hown2 hb2))
  rw [hys] at hown2
  have hown3 : w2.ownsRow w.heap.size 5 1 (.slice (some ⟨w.heap.size, 0, none⟩) 4 4) 4 [Value.int .u8 x0, Value.int .u8 x1, Value.int .u8 0, Value.int .u8 0] := by have hh := hown2; rw [show ((Value.int .u8 0).cells) = #[Value.int .u8 0] from rfl, toList_madeCells_one] at hh; exact hh
  clear hown1 hown2
  refine (get_yes w.heap.size 0 4 4 0 x0 x1 0 0 w2 (by omega) (by omega) (by omega) b0 b1 (by omega) (by omega) (hown3.cellAt 0 (by simp)) (hown3.cellAt 1 (by simp)) (hown3.cellAt 2 (by simp)) (hown3.cellAt 3 (by simp))).mono ?_
  rintro e w3 ⟨rfl, kk, rfl⟩
  go_wp2_with fail
  refine (signed_any 28 _ _ (by omega) (by omega)).mono ?_; rintro e w4 ⟨rfl, rfl⟩
  go_wp2_with fail
  go_ret
  exact ⟨ret_int (by first | rfl | (congr 1; omega)), Below.drewN_ (hb1.trans hb2) _⟩

set_option maxHeartbeats 1000000 in
theorem load_29 (b off c n k B : Nat) (x0 : Int) (ys : List Value) (w : World) (hrow : Row w B 1 (.slice (some ⟨b, off, none⟩) n c) n ys) (hk : (k : Int) ≤ 4294967295) (hck : checkZ 1 k n = 0)
    (b0 : 0 ≤ x0 ∧ x0 ≤ 255) (hys : (ys.drop k).take 1 = [Value.int .u8 x0]) (hB : B ≤ w.heap.size) :
    Calls Try.prog 14 #[.slice (some ⟨b, off, none⟩) n c, .int .i64 29, .int .u32 (k : Int)] w fun e w' => e = .returned (.int .u32 (extendZ 29 (x0))) ∧ Below w.heap.size w w' := by
  obtain ⟨i0, hi, hz0, hz1, hz2⟩ := info_parts info_u8
  have HZ2 := Lib.hid hz2
  clear hz2
  obtain ⟨_, hr⟩ := checkZ_zero hck
  have HCK := Lib.hid hck
  obtain ⟨u1, u2⟩ := hrow.cap
  have hk1 : k + 1 ≤ n := by omega
  have hk0 : (0 : Int) ≤ k := by omega
  have hcut := Lib.hid (hrow.cut (k := k) (m := 1) hk1 (by omega))
  clear hck hrow
  go_enter Try.func14, Try.ntmps14
  go_wp2_with fail
  refine (size_any _ _).mono ?_; rintro e w1 ⟨rfl, rfl⟩
  rw [show sizeZ 29 = 1 from rfl]
  go_wp2_with fail
  refine (isLoad_any _ _).mono ?_; rintro e w1 ⟨rfl, rfl⟩
  rw [show decide ((26 : Int) ≤ 29 ∧ (29 : Int) ≤ 30) = true from rfl]
  go_wp2_with fail
  refine (check_any 1 k n _ (by omega) hk (by omega) (by omega)).mono ?_; rintro e w1 ⟨rfl, rfl⟩
  rw [HCK.out]
  go_wp2_with (first
    | (at_make; refine wpList_make_full _ rfl _ _ 22 rfl w.heap.size 5 i0 (.int .u8 0) 1 Try.underlying22 hi hz0 hz1 _ _ _ _ 4 rfl rfl rfl rfl (by rw [HZ2.out]; omega) (by unfold maxLen; omega) (Nat.le_refl _) ?_; intro w1 hown1 hg1; have hb1 : Below w.heap.size w w1 := (Below.refl _ _).grown hg1 (Nat.le_refl _) (fun _ h => by cases h))
    | (with_reducible show wpList _ _ _ _ _ _; refine wpList_copy_rows rfl (.tmp 28) (.tmp 34) 22 22 rfl 5 Try.underlying22 (by kernel_rfl) w.heap.size w.heap.size 4 4 0 4 4 _ hown1 rfl (some ⟨b, off + k, none⟩) 1 (c - k) B _ (by go_simp) ((hcut.out.below (hb1.mono hB))) (by rw [hys]; simp [Value.oneCell']) (by omega) ?_; intro w2 hown2 hb2))
  rw [hys] at hown2
  have hown3 : w2.ownsRow w.heap.size 5 1 (.slice (some ⟨w.heap.size, 0, none⟩) 4 4) 4 [Value.int .u8 x0, Value.int .u8 0, Value.int .u8 0, Value.int .u8 0] := by have hh := hown2; rw [show ((Value.int .u8 0).cells) = #[Value.int .u8 0] from rfl, toList_madeCells_one] at hh; exact hh
  clear hown1 hown2
  refine (get_yes w.heap.size 0 4 4 0 x0 0 0 0 w2 (by omega) (by omega) (by omega) b0 (by omega) (by omega) (by omega) (hown3.cellAt 0 (by simp)) (hown3.cellAt 1 (by simp)) (hown3.cellAt 2 (by simp)) (hown3.cellAt 3 (by simp))).mono ?_
  rintro e w3 ⟨rfl, kk, rfl⟩
  go_wp2_with fail
  refine (signed_any 29 _ _ (by omega) (by omega)).mono ?_; rintro e w4 ⟨rfl, rfl⟩
  go_wp2_with fail
  go_ret
  exact ⟨ret_int (by first | rfl | (congr 1; omega)), Below.drewN_ (hb1.trans hb2) _⟩

set_option maxHeartbeats 1000000 in
theorem load_30 (b off c n k B : Nat) (x0 : Int) (ys : List Value) (w : World) (hrow : Row w B 1 (.slice (some ⟨b, off, none⟩) n c) n ys) (hk : (k : Int) ≤ 4294967295) (hck : checkZ 1 k n = 0)
    (b0 : 0 ≤ x0 ∧ x0 ≤ 255) (hys : (ys.drop k).take 1 = [Value.int .u8 x0]) (hB : B ≤ w.heap.size) :
    Calls Try.prog 14 #[.slice (some ⟨b, off, none⟩) n c, .int .i64 30, .int .u32 (k : Int)] w fun e w' => e = .returned (.int .u32 (extendZ 30 (x0))) ∧ Below w.heap.size w w' := by
  obtain ⟨i0, hi, hz0, hz1, hz2⟩ := info_parts info_u8
  have HZ2 := Lib.hid hz2
  clear hz2
  obtain ⟨_, hr⟩ := checkZ_zero hck
  have HCK := Lib.hid hck
  obtain ⟨u1, u2⟩ := hrow.cap
  have hk1 : k + 1 ≤ n := by omega
  have hk0 : (0 : Int) ≤ k := by omega
  have hcut := Lib.hid (hrow.cut (k := k) (m := 1) hk1 (by omega))
  clear hck hrow
  go_enter Try.func14, Try.ntmps14
  go_wp2_with fail
  refine (size_any _ _).mono ?_; rintro e w1 ⟨rfl, rfl⟩
  rw [show sizeZ 30 = 1 from rfl]
  go_wp2_with fail
  refine (isLoad_any _ _).mono ?_; rintro e w1 ⟨rfl, rfl⟩
  rw [show decide ((26 : Int) ≤ 30 ∧ (30 : Int) ≤ 30) = true from rfl]
  go_wp2_with fail
  refine (check_any 1 k n _ (by omega) hk (by omega) (by omega)).mono ?_; rintro e w1 ⟨rfl, rfl⟩
  rw [HCK.out]
  go_wp2_with (first
    | (at_make; refine wpList_make_full _ rfl _ _ 22 rfl w.heap.size 5 i0 (.int .u8 0) 1 Try.underlying22 hi hz0 hz1 _ _ _ _ 4 rfl rfl rfl rfl (by rw [HZ2.out]; omega) (by unfold maxLen; omega) (Nat.le_refl _) ?_; intro w1 hown1 hg1; have hb1 : Below w.heap.size w w1 := (Below.refl _ _).grown hg1 (Nat.le_refl _) (fun _ h => by cases h))
    | (with_reducible show wpList _ _ _ _ _ _; refine wpList_copy_rows rfl (.tmp 28) (.tmp 34) 22 22 rfl 5 Try.underlying22 (by kernel_rfl) w.heap.size w.heap.size 4 4 0 4 4 _ hown1 rfl (some ⟨b, off + k, none⟩) 1 (c - k) B _ (by go_simp) ((hcut.out.below (hb1.mono hB))) (by rw [hys]; simp [Value.oneCell']) (by omega) ?_; intro w2 hown2 hb2))
  rw [hys] at hown2
  have hown3 : w2.ownsRow w.heap.size 5 1 (.slice (some ⟨w.heap.size, 0, none⟩) 4 4) 4 [Value.int .u8 x0, Value.int .u8 0, Value.int .u8 0, Value.int .u8 0] := by have hh := hown2; rw [show ((Value.int .u8 0).cells) = #[Value.int .u8 0] from rfl, toList_madeCells_one] at hh; exact hh
  clear hown1 hown2
  refine (get_yes w.heap.size 0 4 4 0 x0 0 0 0 w2 (by omega) (by omega) (by omega) b0 (by omega) (by omega) (by omega) (hown3.cellAt 0 (by simp)) (hown3.cellAt 1 (by simp)) (hown3.cellAt 2 (by simp)) (hown3.cellAt 3 (by simp))).mono ?_
  rintro e w3 ⟨rfl, kk, rfl⟩
  go_wp2_with fail
  refine (signed_any 30 _ _ (by omega) (by omega)).mono ?_; rintro e w4 ⟨rfl, rfl⟩
  go_wp2_with fail
  go_ret
  exact ⟨ret_int (by first | rfl | (congr 1; omega)), Below.drewN_ (hb1.trans hb2) _⟩

theorem load_any (A : Option Addr) (c n B : Nat) (zs : List Int) (op addr : Int) (w : World) (h : Row w B 1 (.slice A n c) n (zs.map (Value.int .u8))) (hB : B ≤ w.heap.size) (hz : ∀ x ∈ zs, 0 ≤ x ∧ x ≤ 255) (h0 : 0 ≤ addr) (h1 : addr ≤ 4294967295) :
    Calls Try.prog 14 #[.slice A n c, .int .i64 op, .int .u32 addr] w fun e w' => e = .returned (.int .u32 (loadZ zs op addr)) ∧ Below w.heap.size w w' := by
  have hl : zs.length = n := by have := h.len; simpa using this
  obtain ⟨u1, u2⟩ := h.cap
  by_cases hno : op < 26 ∨ 30 < op ∨ checkZ (sizeZ op) addr n ≠ 0
  · exact load_no A c n zs op addr w hl (by omega) h0 h1 hno
  have hck : checkZ (sizeZ op) addr n = 0 := by omega
  have hs := sizeZ_cases op
  have hr := (checkZ_zero hck).2
  obtain ⟨k, rfl⟩ := Int.eq_ofNat_of_zero_le h0
  have hn0 : n ≠ 0 := by omega
  obtain ⟨b, off, rfl, _, hcell⟩ := h.at_ hn0
  rw [loadZ_yes (by omega) (by omega) (by rw [hl]; exact hck), Int.toNat_natCast]
  have hop : op = 26 ∨ op = 27 ∨ op = 28 ∨ op = 29 ∨ op = 30 := by omega
  rcases hop with rfl | rfl | rfl | rfl | rfl
  · exact load_26 b off c n k B _ _ _ _ _ w h h1 hck (byte_at hz k) (byte_at hz (k + 1)) (byte_at hz (k + 2)) (byte_at hz (k + 3)) (take4 zs k (by have e : sizeZ 26 = 4 := rfl; omega)) hB
  · exact load_27 b off c n k B _ _ _ w h h1 hck (byte_at hz k) (byte_at hz (k + 1)) (take2 zs k (by have e : sizeZ 27 = 2 := rfl; omega)) hB
  · exact load_28 b off c n k B _ _ _ w h h1 hck (byte_at hz k) (byte_at hz (k + 1)) (take2 zs k (by have e : sizeZ 28 = 2 := rfl; omega)) hB
  · exact load_29 b off c n k B _ _ w h h1 hck (byte_at hz k) (take1 zs k (by have e : sizeZ 29 = 1 := rfl; omega)) hB
  · exact load_30 b off c n k B _ _ w h h1 hck (byte_at hz k) (take1 zs k (by have e : sizeZ 30 = 1 := rfl; omega)) hB
end Go.Proofs.Ytkmflgfhhlhgeaa.Words

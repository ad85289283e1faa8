/- Several texts in one: BytesLoad, RefFill, SltRes, OwnPut, SltFill, BnkMath, AdvMath. -/
import Derived.Test.YthhoigkmmlkfcaaG05
import Derived.Test.YthhoigkmmlkfcaaG01
import Derived.Test.YthhoigkmmlkfcaaG00
import Derived.Test.YthhoigkmmlkfcaaG03
import Derived.Test.YthhoigkmmlkfcaaG02

/- Contract of bytes.Load. -/
namespace Go.Proofs.Ythhoigkmmlkfcaa.Words
set_option maxRecDepth 100000
open Go.RowKit
set_option linter.unusedVariables false

theorem getD_at {zs : List Int} {k : Nat} (h : k < zs.length) : zs.getD k 0 = zs[k] := by rw [List.getD_eq_getElem?_getD, List.getElem?_eq_getElem h]; rfl
theorem take1 (zs : List Int) (k : Nat) (h : k + 1 ≤ zs.length) : ((zs.map (Value.int .u8)).drop k).take 1 = [Value.int .u8 (zs.getD k 0)] := by
  rw [List.drop_eq_getElem_cons (by simp; omega), getD_at (by omega)]
  simp
theorem take2 (zs : List Int) (k : Nat) (h : k + 2 ≤ zs.length) : ((zs.map (Value.int .u8)).drop k).take 2 = [Value.int .u8 (zs.getD k 0), Value.int .u8 (zs.getD (k + 1) 0)] := by
  rw [List.drop_eq_getElem_cons (by simp; omega), List.drop_eq_getElem_cons (by simp; omega), getD_at (by omega), getD_at (by omega)]
  simp
theorem take4 (zs : List Int) (k : Nat) (h : k + 4 ≤ zs.length) : ((zs.map (Value.int .u8)).drop k).take 4 = [Value.int .u8 (zs.getD k 0), Value.int .u8 (zs.getD (k + 1) 0), Value.int .u8 (zs.getD (k + 2) 0), Value.int .u8 (zs.getD (k + 3) 0)] := by
  rw [List.drop_eq_getElem_cons (by simp; omega), List.drop_eq_getElem_cons (by simp; omega), List.drop_eq_getElem_cons (by simp; omega), List.drop_eq_getElem_cons (by simp; omega), getD_at (by omega), getD_at (by omega), getD_at (by omega), getD_at (by omega)]
  simp

set_option maxHeartbeats 1000000 in
theorem load_no (A : Option Addr) (c n : Nat) (zs : List Int) (op addr : Int) (w : World) (hl : zs.length = n) (hn : n ≤ 9223372036854775807) (h0 : 0 ≤ addr) (h1 : addr ≤ 4294967295) (h : op < 26 ∨ 30 < op ∨ checkZ (sizeZ op) addr n ≠ 0) :
    Calls Try.prog 45 #[.slice A n c, .int .i64 op, .int .u32 addr] w fun e w' => e = .returned (.int .u32 (loadZ zs op addr)) ∧ Below w.heap.size w w' := by
  rw [loadZ_no (by rw [hl]; exact h)]
  have hsz := sizeZ_cases op
  have hck := checkZ_cases (sizeZ op) addr n
  by_cases hr : op < 26 ∨ 30 < op
  · have q := Lib.hid (show decide (26 ≤ op ∧ op ≤ 30) = false from decide_eq_false (by omega))
    clear h hck
    go_enter Try.func45, Try.ntmps45
    go_wp2_with fail
    refine (size_any _ _).mono ?_; rintro e w1 ⟨rfl, rfl⟩
    go_wp2_with fail
    refine (isLoad_any _ _).mono ?_; rintro e w1 ⟨rfl, rfl⟩
    rw [q.out]
    go_wp2_with fail
    go_ret
    exact ⟨rfl, Below.refl _ _⟩
  · have q := Lib.hid (show decide (26 ≤ op ∧ op ≤ 30) = true from decide_eq_true (by omega))
    have h' : checkZ (sizeZ op) addr n ≠ 0 := by omega
    have q2 : (checkZ (sizeZ op) addr n != 0) = true := by simp; exact h'
    have hb : -9223372036854775808 ≤ sizeZ op ∧ sizeZ op ≤ 9223372036854775807 := by omega
    clear h h' hsz hck
    go_enter Try.func45, Try.ntmps45
    go_wp2_with fail
    refine (size_any _ _).mono ?_; rintro e w1 ⟨rfl, rfl⟩
    go_wp2_with fail
    refine (isLoad_any _ _).mono ?_; rintro e w1 ⟨rfl, rfl⟩
    rw [q.out]
    go_wp2_with fail
    refine (check_any (sizeZ op) addr n _ h0 h1 hb (by omega)).mono ?_; rintro e w1 ⟨rfl, rfl⟩
    go_wp2_with fail
    go_ret
    exact ⟨rfl, Below.refl _ _⟩

set_option maxHeartbeats 1000000 in
theorem load_26 (b off c n k B : Nat) (x0 x1 x2 x3 : Int) (ys : List Value) (w : World) (hrow : Row w B 1 (.slice (some ⟨b, off, none⟩) n c) n ys) (hk : (k : Int) ≤ 4294967295) (hck : checkZ 4 k n = 0)
    (b0 : 0 ≤ x0 ∧ x0 ≤ 255) (b1 : 0 ≤ x1 ∧ x1 ≤ 255) (b2 : 0 ≤ x2 ∧ x2 ≤ 255) (b3 : 0 ≤ x3 ∧ x3 ≤ 255) (hys : (ys.drop k).take 4 = [Value.int .u8 x0, Value.int .u8 x1, Value.int .u8 x2, Value.int .u8 x3]) (hB : B ≤ w.heap.size) :
    Calls Try.prog 45 #[.slice (some ⟨b, off, none⟩) n c, .int .i64 26, .int .u32 (k : Int)] w fun e w' => e = .returned (.int .u32 (extendZ 26 (x0 + 256 * x1 + 65536 * x2 + 16777216 * x3))) ∧ Below w.heap.size w w' := by
  obtain ⟨i0, hi, hz0, hz1, hz2⟩ := info_parts info_u8
  have HZ2 := Lib.hid hz2
  clear hz2
  obtain ⟨_, hr⟩ := checkZ_zero hck
  have HCK := Lib.hid hck
  obtain ⟨u1, u2⟩ := hrow.cap
  have hk1 : k + 4 ≤ n := by omega
  have hk0 : (0 : Int) ≤ k := by omega
  have hcut := Lib.hid (hrow.cut (k := k) (m := 4) hk1 (by omega))
  clear hck hrow
  go_enter Try.func45, Try.ntmps45
  go_wp2_with fail
  refine (size_any _ _).mono ?_; rintro e w1 ⟨rfl, rfl⟩
  rw [show sizeZ 26 = 4 from rfl]
  go_wp2_with fail
  refine (isLoad_any _ _).mono ?_; rintro e w1 ⟨rfl, rfl⟩
  rw [show decide ((26 : Int) ≤ 26 ∧ (26 : Int) ≤ 30) = true from rfl]
  go_wp2_with fail
  refine (check_any 4 k n _ (by omega) hk (by omega) (by omega)).mono ?_; rintro e w1 ⟨rfl, rfl⟩
  rw [HCK.out]
  go_wp2_with (first
    | (at_make; refine wpList_make_full _ rfl _ _ 39 rfl w.heap.size 5 i0 (.int .u8 0) 1 Try.underlying39 hi hz0 hz1 _ _ _ _ 4 rfl rfl rfl rfl (by rw [HZ2.out]; omega) (by unfold maxLen; omega) (Nat.le_refl _) ?_; intro w1 hown1 hg1; have hb1 : Below w.heap.size w w1 := (Below.refl _ _).grown hg1 (Nat.le_refl _) (fun _ h => by cases h))
    | (with_reducible show wpList _ _ _ _ _ _; refine wpList_copy_rows rfl (.tmp 28) (.tmp 34) 39 39 rfl 5 Try.underlying39 (by kernel_rfl) w.heap.size w.heap.size 4 4 0 4 4 _ hown1 rfl (some ⟨b, off + k, none⟩) 4 (c - k) B _ (by go_simp) ((hcut.out.below (hb1.mono hB))) (by rw [hys]; simp [Value.oneCell']) (by omega) ?_; intro w2 hown2 hb2))
  rw [hys] at hown2
  have hown3 : w2.ownsRow w.heap.size 5 1 (.slice (some ⟨w.heap.size, 0, none⟩) 4 4) 4 [Value.int .u8 x0, Value.int .u8 x1, Value.int .u8 x2, Value.int .u8 x3] := by have hh := hown2; rw [show ((Value.int .u8 0).cells) = #[Value.int .u8 0] from rfl, toList_madeCells_one] at hh; exact hh
  clear hown1 hown2
  refine (get_yes w.heap.size 0 4 4 0 x0 x1 x2 x3 w2 (by omega) (by omega) (by omega) b0 b1 b2 b3 (hown3.cellAt 0 (by simp)) (hown3.cellAt 1 (by simp)) (hown3.cellAt 2 (by simp)) (hown3.cellAt 3 (by simp))).mono ?_
  rintro e w3 ⟨rfl, kk, rfl⟩
  go_wp2_with fail
  refine (bsigned_any 26 _ _ (by omega) (by omega)).mono ?_; rintro e w4 ⟨rfl, rfl⟩
  go_wp2_with fail
  go_ret
  exact ⟨ret_int (by first | rfl | (congr 1; omega)), Below.drewN_ (hb1.trans hb2) _⟩

set_option maxHeartbeats 1000000 in
theorem load_27 (b off c n k B : Nat) (x0 x1 : Int) (ys : List Value) (w : World) (hrow : Row w B 1 (.slice (some ⟨b, off, none⟩) n c) n ys) (hk : (k : Int) ≤ 4294967295) (hck : checkZ 2 k n = 0)
    (b0 : 0 ≤ x0 ∧ x0 ≤ 255) (b1 : 0 ≤ x1 ∧ x1 ≤ 255) (hys : (ys.drop k).take 2 = [Value.int .u8 x0, Value.int .u8 x1]) (hB : B ≤ w.heap.size) :
    Calls Try.prog 45 #[.slice (some ⟨b, off, none⟩) n c, .int .i64 27, .int .u32 (k : Int)] w fun e w' => e = .returned (.int .u32 (extendZ 27 (x0 + 256 * x1))) ∧ Below w.heap.size w w' := by
  obtain ⟨i0, hi, hz0, hz1, hz2⟩ := info_parts info_u8
  have HZ2 := Lib.hid hz2
  clear hz2
  obtain ⟨_, hr⟩ := checkZ_zero hck
  have HCK := Lib.hid hck
  obtain ⟨u1, u2⟩ := hrow.cap
  have hk1 : k + 2 ≤ n := by omega
  have hk0 : (0 : Int) ≤ k := by omega
  have hcut := Lib.hid (hrow.cut (k := k) (m := 2) hk1 (by omega))
  clear hck hrow
  go_enter Try.func45, Try.ntmps45
  go_wp2_with fail
  refine (size_any _ _).mono ?_; rintro e w1 ⟨rfl, rfl⟩
  rw [show sizeZ 27 = 2 from rfl]
  go_wp2_with fail
  refine (isLoad_any _ _).mono ?_; rintro e w1 ⟨rfl, rfl⟩
  rw [show decide ((26 : Int) ≤ 27 ∧ (27 : Int) ≤ 30) = true from rfl]
  go_wp2_with fail
  refine (check_any 2 k n _ (by omega) hk (by omega) (by omega)).mono ?_; rintro e w1 ⟨rfl, rfl⟩
  rw [HCK.out]
  go_wp2_with (first
    | (at_make; refine wpList_make_full _ rfl _ _ 39 rfl w.heap.size 5 i0 (.int .u8 0) 1 Try.underlying39 hi hz0 hz1 _ _ _ _ 4 rfl rfl rfl rfl (by rw [HZ2.out]; omega) (by unfold maxLen; omega) (Nat.le_refl _) ?_; intro w1 hown1 hg1; have hb1 : Below w.heap.size w w1 := (Below.refl _ _).grown hg1 (Nat.le_refl _) (fun _ h => by cases h))
    | (with_reducible show wpList _ _ _ _ _ _; refine wpList_copy_rows rfl (.tmp 28) (.tmp 34) 39 39 rfl 5 Try.underlying39 (by kernel_rfl) w.heap.size w.heap.size 4 4 0 4 4 _ hown1 rfl (some ⟨b, off + k, none⟩) 2 (c - k) B _ (by go_simp) ((hcut.out.below (hb1.mono hB))) (by rw [hys]; simp [Value.oneCell']) (by omega) ?_; intro w2 hown2 hb2))
  rw [hys] at hown2
  have hown3 : w2.ownsRow w.heap.size 5 1 (.slice (some ⟨w.heap.size, 0, none⟩) 4 4) 4 [Value.int .u8 x0, Value.int .u8 x1, Value.int .u8 0, Value.int .u8 0] := by have hh := hown2; rw [show ((Value.int .u8 0).cells) = #[Value.int .u8 0] from rfl, toList_madeCells_one] at hh; exact hh
  clear hown1 hown2
  refine (get_yes w.heap.size 0 4 4 0 x0 x1 0 0 w2 (by omega) (by omega) (by omega) b0 b1 (by omega) (by omega) (hown3.cellAt 0 (by simp)) (hown3.cellAt 1 (by simp)) (hown3.cellAt 2 (by simp)) (hown3.cellAt 3 (by simp))).mono ?_
  rintro e w3 ⟨rfl, kk, rfl⟩
  go_wp2_with fail
  refine (bsigned_any 27 _ _ (by omega) (by omega)).mono ?_; rintro e w4 ⟨rfl, rfl⟩
  go_wp2_with fail
  go_ret
  exact ⟨ret_int (by first | rfl | (congr 1; omega)), Below.drewN_ (hb1.trans hb2) _⟩

set_option maxHeartbeats 1000000 in
theorem load_28 (b off c n k B : Nat) (x0 x1 : Int) (ys : List Value) (w : World) (hrow : Row w B 1 (.slice (some ⟨b, off, none⟩) n c) n ys) (hk : (k : Int) ≤ 4294967295) (hck : checkZ 2 k n = 0)
    (b0 : 0 ≤ x0 ∧ x0 ≤ 255) (b1 : 0 ≤ x1 ∧ x1 ≤ 255) (hys : (ys.drop k).take 2 = [Value.int .u8 x0, Value.int .u8 x1]) (hB : B ≤ w.heap.size) :
    Calls Try.prog 45 #[.slice (some ⟨b, off, none⟩) n c, .int .i64 28, .int .u32 (k : Int)] w fun e w' => e = .returned (.int .u32 (extendZ 28 (x0 + 256 * x1))) ∧ Below w.heap.size w w' := by
  obtain ⟨i0, hi, hz0, hz1, hz2⟩ := info_parts info_u8
  have HZ2 := Lib.hid hz2
  clear hz2
  obtain ⟨_, hr⟩ := checkZ_zero hck
  have HCK := Lib.hid hck
  obtain ⟨u1, u2⟩ := hrow.cap
  have hk1 : k + 2 ≤ n := by omega
  have hk0 : (0 : Int) ≤ k := by omega
  have hcut := Lib.hid (hrow.cut (k := k) (m := 2) hk1 (by omega))
  clear hck hrow
  go_enter Try.func45, Try.ntmps45
  go_wp2_with fail
  refine (size_any _ _).mono ?_; rintro e w1 ⟨rfl, rfl⟩
  rw [show sizeZ 28 = 2 from rfl]
  go_wp2_with fail
  refine (isLoad_any _ _).mono ?_; rintro e w1 ⟨rfl, rfl⟩
  rw [show decide ((26 : Int) ≤ 28 ∧ (28 : Int) ≤ 30) = true from rfl]
  go_wp2_with fail
  refine (check_any 2 k n _ (by omega) hk (by omega) (by omega)).mono ?_; rintro e w1 ⟨rfl, rfl⟩
  rw [HCK.out]
  go_wp2_with (first
    | (at_make; refine wpList_make_full _ rfl _ _ 39 rfl w.heap.size 5 i0 (.int .u8 0) 1 Try.underlying39 hi hz0 hz1 _ _ _ _ 4 rfl rfl rfl rfl (by rw [HZ2.out]; omega) (by unfold maxLen; omega) (Nat.le_refl _) ?_; intro w1 hown1 hg1; have hb1 : Below w.heap.size w w1 := (Below.refl _ _).grown hg1 (Nat.le_refl _) (fun _ h => by cases h))
    | (with_reducible show wpList _ _ _ _ _ _; refine wpList_copy_rows rfl (.tmp 28) (.tmp 34) 39 39 rfl 5 Try.underlying39 (by kernel_rfl) w.heap.size w.heap.size 4 4 0 4 4 _ hown1 rfl (some ⟨b, off + k, none⟩) 2 (c - k) B _ (by go_simp) ((hcut.out.below (hb1.mono hB))) (by rw [hys]; simp [Value.oneCell']) (by omega) ?_; intro w2 hown2 hb2))
  rw [hys] at hown2
  have hown3 : w2.ownsRow w.heap.size 5 1 (.slice (some ⟨w.heap.size, 0, none⟩) 4 4) 4 [Value.int .u8 x0, Value.int .u8 x1, Value.int .u8 0, Value.int .u8 0] := by have hh := hown2; rw [show ((Value.int .u8 0).cells) = #[Value.int .u8 0] from rfl, toList_madeCells_one] at hh; exact hh
  clear hown1 hown2
  refine (get_yes w.heap.size 0 4 4 0 x0 x1 0 0 w2 (by omega) (by omega) (by omega) b0 b1 (by omega) (by omega) (hown3.cellAt 0 (by simp)) (hown3.cellAt 1 (by simp)) (hown3.cellAt 2 (by simp)) (hown3.cellAt 3 (by simp))).mono ?_
  rintro e w3 ⟨rfl, kk, rfl⟩
  go_wp2_with fail
  refine (bsigned_any 28 _ _ (by omega) (by omega)).mono ?_; rintro e w4 ⟨rfl, rfl⟩
  go_wp2_with fail
  go_ret
  exact ⟨ret_int (by first | rfl | (congr 1; omega)), Below.drewN_ (hb1.trans hb2) _⟩

set_option maxHeartbeats 1000000 in
theorem load_29 (b off c n k B : Nat) (x0 : Int) (ys : List Value) (w : World) (hrow : Row w B 1 (.slice (some ⟨b, off, none⟩) n c) n ys) (hk : (k : Int) ≤ 4294967295) (hck : checkZ 1 k n = 0)
    (b0 : 0 ≤ x0 ∧ x0 ≤ 255) (hys : (ys.drop k).take 1 = [Value.int .u8 x0]) (hB : B ≤ w.heap.size) :
    Calls Try.prog 45 #[.slice (some ⟨b, off, none⟩) n c, .int .i64 29, .int .u32 (k : Int)] w fun e w' => e = .returned (.int .u32 (extendZ 29 (x0))) ∧ Below w.heap.size w w' := by
  obtain ⟨i0, hi, hz0, hz1, hz2⟩ := info_parts info_u8
  have HZ2 := Lib.hid hz2
  clear hz2
  obtain ⟨_, hr⟩ := checkZ_zero hck
  have HCK := Lib.hid hck
  obtain ⟨u1, u2⟩ := hrow.cap
  have hk1 : k + 1 ≤ n := by omega
  have hk0 : (0 : Int) ≤ k := by omega
  have hcut := Lib.hid (hrow.cut (k := k) (m := 1) hk1 (by omega))
  clear hck hrow
  go_enter Try.func45, Try.ntmps45
  go_wp2_with fail
  refine (size_any _ _).mono ?_; rintro e w1 ⟨rfl, rfl⟩
  rw [show sizeZ 29 = 1 from rfl]
  go_wp2_with fail
  refine (isLoad_any _ _).mono ?_; rintro e w1 ⟨rfl, rfl⟩
  rw [show decide ((26 : Int) ≤ 29 ∧ (29 : Int) ≤ 30) = true from rfl]
  go_wp2_with fail
  refine (check_any 1 k n _ (by omega) hk (by omega) (by omega)).mono ?_; rintro e w1 ⟨rfl, rfl⟩
  rw [HCK.out]
  go_wp2_with (first
    | (at_make; refine wpList_make_full _ rfl _ _ 39 rfl w.heap.size 5 i0 (.int .u8 0) 1 Try.underlying39 hi hz0 hz1 _ _ _ _ 4 rfl rfl rfl rfl (by rw [HZ2.out]; omega) (by unfold maxLen; omega) (Nat.le_refl _) ?_; intro w1 hown1 hg1; have hb1 : Below w.heap.size w w1 := (Below.refl _ _).grown hg1 (Nat.le_refl _) (fun _ h => by cases h))
    | (with_reducible show wpList _ _ _ _ _ _; refine wpList_copy_rows rfl (.tmp 28) (.tmp 34) 39 39 rfl 5 Try.underlying39 (by kernel_rfl) w.heap.size w.heap.size 4 4 0 4 4 _ hown1 rfl (some ⟨b, off + k, none⟩) 1 (c - k) B _ (by go_simp) ((hcut.out.below (hb1.mono hB))) (by rw [hys]; simp [Value.oneCell']) (by omega) ?_; intro w2 hown2 hb2))
  rw [hys] at hown2
  have hown3 : w2.ownsRow w.heap.size 5 1 (.slice (some ⟨w.heap.size, 0, none⟩) 4 4) 4 [Value.int .u8 x0, Value.int .u8 0, Value.int .u8 0, Value.int .u8 0] := by have hh := hown2; rw [show ((Value.int .u8 0).cells) = #[Value.int .u8 0] from rfl, toList_madeCells_one] at hh; exact hh
  clear hown1 hown2
  refine (get_yes w.heap.size 0 4 4 0 x0 0 0 0 w2 (by omega) (by omega) (by omega) b0 (by omega) (by omega) (by omega) (hown3.cellAt 0 (by simp)) (hown3.cellAt 1 (by simp)) (hown3.cellAt 2 (by simp)) (hown3.cellAt 3 (by simp))).mono ?_
  rintro e w3 ⟨rfl, kk, rfl⟩
  go_wp2_with fail
  refine (bsigned_any 29 _ _ (by omega) (by omega)).mono ?_; rintro e w4 ⟨rfl, rfl⟩
  go_wp2_with fail
  go_ret
  exact ⟨ret_int (by first | rfl | (congr 1; omega)), Below.drewN_ (hb1.trans hb2) _⟩

set_option maxHeartbeats 1000000 in
theorem load_30 (b off c n k B : Nat) (x0 : Int) (ys : List Value) (w : World) (hrow : Row w B 1 (.slice (some ⟨b, off, none⟩) n c) n ys) (hk : (k : Int) ≤ 4294967295) (hck : checkZ 1 k n = 0)
    (b0 : 0 ≤ x0 ∧ x0 ≤ 255) (hys : (ys.drop k).take 1 = [Value.int .u8 x0]) (hB : B ≤ w.heap.size) :
    Calls Try.prog 45 #[.slice (some ⟨b, off, none⟩) n c, .int .i64 30, .int .u32 (k : Int)] w fun e w' => e = .returned (.int .u32 (extendZ 30 (x0))) ∧ Below w.heap.size w w' := by
  obtain ⟨i0, hi, hz0, hz1, hz2⟩ := info_parts info_u8
  have HZ2 := Lib.hid hz2
  clear hz2
  obtain ⟨_, hr⟩ := checkZ_zero hck
  have HCK := Lib.hid hck
  obtain ⟨u1, u2⟩ := hrow.cap
  have hk1 : k + 1 ≤ n := by omega
  have hk0 : (0 : Int) ≤ k := by omega
  have hcut := Lib.hid (hrow.cut (k := k) (m := 1) hk1 (by omega))
  clear hck hrow
  go_enter Try.func45, Try.ntmps45
  go_wp2_with fail
  refine (size_any _ _).mono ?_; rintro e w1 ⟨rfl, rfl⟩
  rw [show sizeZ 30 = 1 from rfl]
  go_wp2_with fail
  refine (isLoad_any _ _).mono ?_; rintro e w1 ⟨rfl, rfl⟩
  rw [show decide ((26 : Int) ≤ 30 ∧ (30 : Int) ≤ 30) = true from rfl]
  go_wp2_with fail
  refine (check_any 1 k n _ (by omega) hk (by omega) (by omega)).mono ?_; rintro e w1 ⟨rfl, rfl⟩
  rw [HCK.out]
  go_wp2_with (first
    | (at_make; refine wpList_make_full _ rfl _ _ 39 rfl w.heap.size 5 i0 (.int .u8 0) 1 Try.underlying39 hi hz0 hz1 _ _ _ _ 4 rfl rfl rfl rfl (by rw [HZ2.out]; omega) (by unfold maxLen; omega) (Nat.le_refl _) ?_; intro w1 hown1 hg1; have hb1 : Below w.heap.size w w1 := (Below.refl _ _).grown hg1 (Nat.le_refl _) (fun _ h => by cases h))
    | (with_reducible show wpList _ _ _ _ _ _; refine wpList_copy_rows rfl (.tmp 28) (.tmp 34) 39 39 rfl 5 Try.underlying39 (by kernel_rfl) w.heap.size w.heap.size 4 4 0 4 4 _ hown1 rfl (some ⟨b, off + k, none⟩) 1 (c - k) B _ (by go_simp) ((hcut.out.below (hb1.mono hB))) (by rw [hys]; simp [Value.oneCell']) (by omega) ?_; intro w2 hown2 hb2))
  rw [hys] at hown2
  have hown3 : w2.ownsRow w.heap.size 5 1 (.slice (some ⟨w.heap.size, 0, none⟩) 4 4) 4 [Value.int .u8 x0, Value.int .u8 0, Value.int .u8 0, Value.int .u8 0] := by have hh := hown2; rw [show ((Value.int .u8 0).cells) = #[Value.int .u8 0] from rfl, toList_madeCells_one] at hh; exact hh
  clear hown1 hown2
  refine (get_yes w.heap.size 0 4 4 0 x0 0 0 0 w2 (by omega) (by omega) (by omega) b0 (by omega) (by omega) (by omega) (hown3.cellAt 0 (by simp)) (hown3.cellAt 1 (by simp)) (hown3.cellAt 2 (by simp)) (hown3.cellAt 3 (by simp))).mono ?_
  rintro e w3 ⟨rfl, kk, rfl⟩
  go_wp2_with fail
  refine (bsigned_any 30 _ _ (by omega) (by omega)).mono ?_; rintro e w4 ⟨rfl, rfl⟩
  go_wp2_with fail
  go_ret
  exact ⟨ret_int (by first | rfl | (congr 1; omega)), Below.drewN_ (hb1.trans hb2) _⟩

theorem load_any (A : Option Addr) (c n B : Nat) (zs : List Int) (op addr : Int) (w : World) (h : Row w B 1 (.slice A n c) n (zs.map (Value.int .u8))) (hB : B ≤ w.heap.size) (hz : ∀ x ∈ zs, 0 ≤ x ∧ x ≤ 255) (h0 : 0 ≤ addr) (h1 : addr ≤ 4294967295) :
    Calls Try.prog 45 #[.slice A n c, .int .i64 op, .int .u32 addr] w fun e w' => e = .returned (.int .u32 (loadZ zs op addr)) ∧ Below w.heap.size w w' := by
  have hl : zs.length = n := by have := h.len; simpa using this
  obtain ⟨u1, u2⟩ := h.cap
  by_cases hno : op < 26 ∨ 30 < op ∨ checkZ (sizeZ op) addr n ≠ 0
  · exact load_no A c n zs op addr w hl (by omega) h0 h1 hno
  have hck : checkZ (sizeZ op) addr n = 0 := by omega
  have hs := sizeZ_cases op
  have hr := (checkZ_zero hck).2
  obtain ⟨k, rfl⟩ := Int.eq_ofNat_of_zero_le h0
  have hn0 : n ≠ 0 := by omega
  obtain ⟨b, off, rfl, _, hcell⟩ := h.at_ hn0
  rw [loadZ_yes (by omega) (by omega) (by rw [hl]; exact hck), Int.toNat_natCast]
  have hop : op = 26 ∨ op = 27 ∨ op = 28 ∨ op = 29 ∨ op = 30 := by omega
  rcases hop with rfl | rfl | rfl | rfl | rfl
  · exact load_26 b off c n k B _ _ _ _ _ w h h1 hck (byte_at hz k) (byte_at hz (k + 1)) (byte_at hz (k + 2)) (byte_at hz (k + 3)) (take4 zs k (by have e : sizeZ 26 = 4 := rfl; omega)) hB
  · exact load_27 b off c n k B _ _ _ w h h1 hck (byte_at hz k) (byte_at hz (k + 1)) (take2 zs k (by have e : sizeZ 27 = 2 := rfl; omega)) hB
  · exact load_28 b off c n k B _ _ _ w h h1 hck (byte_at hz k) (byte_at hz (k + 1)) (take2 zs k (by have e : sizeZ 28 = 2 := rfl; omega)) hB
  · exact load_29 b off c n k B _ _ w h h1 hck (byte_at hz k) (take1 zs k (by have e : sizeZ 29 = 1 := rfl; omega)) hB
  · exact load_30 b off c n k B _ _ w h h1 hck (byte_at hz k) (take1 zs k (by have e : sizeZ 30 = 1 := rfl; omega)) hB
end Go.Proofs.Ythhoigkmmlkfcaa.Words

/- Contracts of the document's own Fill and PopSlot. -/
namespace Go.Proofs.Ythhoigkmmlkfcaa.Words
set_option maxRecDepth 100000
open Go.RowKit
set_option linter.unusedVariables false
set_option linter.unusedSimpArgs false

set_option maxHeartbeats 1000000 in
theorem refFill_any (A : Option Addr) (c : Nat) (l : List Slt) (tag u : Int) (w : World) (h : Row w w.heap.size 3 (.slice A l.length c) l.length (flat sltL l)) (hs : l.length ≤ 1000000) :
    Calls Try.prog 38 #[.slice A l.length c, .int .i64 tag, .int .u32 u] w (SltsOut w (fillZ tag u l) fun v => .tuple #[v, .bool (hasZ tag l)]) := by
  have HS := Lib.hid (refSlots_any A c l w h (by omega))
  have HFL := Lib.hid (fill_len tag u l)
  clear h
  go_enter Try.func38, Try.ntmps38
  go_wp2_with fail
  refine HS.out.mono ?_
  rintro e w1 ⟨v, rfl, ho, hb⟩
  obtain ⟨A1, c1, hv⟩ := (Row.of_own ho).form
  subst hv
  have HO := Lib.hid ho
  have HB := Lib.hid hb
  clear ho hb
  generalize hn : l.length = m at *
  have HN := Lib.hid hn
  clear hn
  go_wp2_with fail
  go_loopw [8] (fun i wr => ∃ j : Nat, j ≤ m ∧ i = .int .i64 j ∧ wr = w1 ∧ (∀ k x, k < j → l[k]? = some x → waits tag x = false)) (fun i _ => m - (intOf i).toNat)
  case atStart => exact ⟨0, Nat.zero_le _, rfl, rfl, fun k x hk _ => by omega⟩
  case round =>
    obtain ⟨j, hj, rfl, rfl, hP⟩ := hrel
    have HP := Lib.hid hP
    clear hP
    by_cases hlt : j < m
    · obtain ⟨x, hx⟩ : ∃ x, l[j]? = some x := ⟨_, List.getElem?_eq_getElem (by rw [HN.out]; exact hlt)⟩
      obtain ⟨g, cap, hvf, hg1, hg2⟩ := own_form HO.out (by omega)
      injection hvf with hA _ hC
      subst hA hC
      obtain ⟨d0, d1, d2⟩ := (Row.of_own HO.out).slt hx
      rw [Nat.zero_add] at d0 d1 d2
      have f1 := own_thaw HO.out (j * 3 + 1)
      have f2 := own_thaw HO.out (j * 3 + 2)
      have k0 : (0 : Int) ≤ j := by omega
      have k1 : (j : Int) < m := by omega
      have HX := Lib.hid hx
      clear hx
      cases hq : waits tag x
      · have HST := Lib.hid (pass_step HP.out HX.out hq)
        by_cases ht : x.tag = tag
        · have hf : x.full = true := by unfold waits at hq; simpa [ht] using hq
          have ht1 : (x.tag == tag) = true := by simpa using ht
          rw [hf] at d1
          clear hq ht hf
          go_wp2_with fail
          go_roundw
          case rel => exact ⟨j + 1, by omega, by go_num, by first | rfl | trivial, HST.out⟩
          case measure => simp [intOf]; omega
        · have ht1 : (x.tag == tag) = false := by simpa using ht
          clear hq
          go_wp2_with fail
          go_roundw
          case rel => exact ⟨j + 1, by omega, by go_num, by first | rfl | trivial, HST.out⟩
          case measure => simp [intOf]; omega
      · have HFA := Lib.hid (fill_at (w := u) HP.out HX.out hq)
        unfold waits at hq
        simp only [Bool.and_eq_true, decide_eq_true_eq, Bool.not_eq_true'] at hq
        obtain ⟨ht, hf⟩ := hq
        have ht1 : (x.tag == tag) = true := by simpa using ht
        rw [hf] at d1
        have hbl : g < wr.heap.size := hg2
        clear ht hf
        go_wp2_with fail
        have ho1 := own_setAt HO.out (j * 3 + 1) (by omega) (.bool true)
        have ho2 := own_setAt ho1 (j * 3 + 2) (by omega) (.int .u32 u)
        refine bodyPost_ret (v := .tuple #[.slice (some ⟨g, 0, none⟩) m c1, .bool true]) (by simp [results, Try.results38, go_sem]) rfl ⟨_, by rw [HFA.out.2], ?_, ?_⟩
        · rw [HFL.out, HFA.out.1]
          have e1 := flat_setG (f := sltL) sltL_len l j x ⟨x.tag, true, x.val⟩ 1 (.bool true) HX.out rfl (by omega)
          have hl := (List.getElem?_eq_some_iff.1 HX.out).1
          have e2 := flat_setG (f := sltL) sltL_len (l.set j ⟨x.tag, true, x.val⟩) j ⟨x.tag, true, x.val⟩ ⟨x.tag, true, u⟩ 2 (.int .u32 u) (by rw [List.getElem?_set_self hl]) rfl (by omega)
          rw [e1, e2, List.set_set] at ho2
          exact ho2
        · have hk := ((KeepS.refl (fun q => q = g) wr).setCell rfl (j * 3 + 1) (.bool true)).setCell rfl (j * 3 + 2) (.int .u32 u)
          exact Below.trans HB.out (hk.below HB.out.size (fun q e => by rw [e]; exact hg1))
    · have hjm : j = l.length := by rw [HN.out]; omega
      have HFN := Lib.hid (fill_none (w := u) (fun k x hk hx => HP.out k x (by omega) hx))
      clear hjm
      go_wp2_with fail
      refine bodyPost_ret (v := .tuple #[.slice A1 m c1, .bool false]) (by simp [results, Try.results38, go_sem]) rfl ⟨_, by rw [HFN.out.2], ?_, HB.out⟩
      rw [HFL.out, HFN.out.1]; exact HO.out

/-- A row of places without its first. -/
theorem row_tail3 {w : World} {B n c g o : Nat} {x : Slt} {r : List Slt} (h : Row w B 3 (.slice (some ⟨g, o, none⟩) (n + 1) c) (n + 1) (flat sltL (x :: r))) : Row w B 3 (.slice (some ⟨g, o + 3, none⟩) n (c - 1)) n (flat sltL r) := by
  obtain ⟨h1, h2⟩ := h.cap
  obtain ⟨g', o', e, hb, hc⟩ := h.at_ (by omega)
  simp only [Option.some.injEq, Addr.mk.injEq, and_true] at e
  obtain ⟨rfl, rfl⟩ := e
  have hl := h.len
  rw [flat_cons] at hl hc
  rw [List.length_append, sltL_len] at hl
  refine ⟨by omega, _, _, rfl, by omega, by omega, (fun e => by cases e), fun _ => ⟨g, o + 3, rfl, hb, fun j u hu => ?_⟩⟩
  have := hc (3 + j) u (by rw [List.getElem?_append_right (by rw [sltL_len]; omega), sltL_len, show 3 + j - 3 = j by omega]; exact hu)
  rwa [← Nat.add_assoc] at this

end Go.Proofs.Ythhoigkmmlkfcaa.Words

/- Contracts of package slots: copied, Reserve. -/
namespace Go.Proofs.Ythhoigkmmlkfcaa.Words
set_option maxRecDepth 100000
open Go.RowKit
set_option linter.unusedVariables false
set_option linter.unusedSimpArgs false

set_option maxHeartbeats 400000 in
theorem copied_any (A : Option Addr) (c : Nat) (l : List Slt) (w : World) (h : Row w w.heap.size 3 (.slice A l.length c) l.length (flat sltL l)) (hs : l.length ≤ 2000000) :
    Calls Try.prog 48 #[.slice A l.length c] w (SltsOut w l id) := by
  obtain ⟨i0, hi, hq0, hq1, hq2⟩ := parts_slt
  have HI := Lib.hid hi
  have HZ0 := Lib.hid hq0
  have HZ1 := Lib.hid hq1
  have HZ2 := Lib.hid hq2
  clear hi hq0 hq1 hq2
  have HR := Lib.hid h
  clear h
  generalize hn : l.length = n at *
  have HN := Lib.hid hn
  clear hn
  go_enter Try.func48, Try.ntmps48
  go_wp2_with (first
    | (refine wpList_append_new _ rfl (.const (.slice none 0 0)) (.tmp 3) 34 rfl w.heap.size 58 i0 _ 3 16 Try.underlying34 HI.out HZ0.out HZ1.out HZ2.out rfl (by omega) (.slice none 0 0) 0 [] rfl (World.ownsRow_nil _ _ _ _) _ (.slice A n c) n (flat sltL l) rfl HR.out (flat_oneC sltL_one l) (by unfold maxLen; omega) (by omega) (Nat.le_refl _) ?_; intro v2 w2 hO hg hn2; have HO2 := Lib.hid hO; have HK2 : Hid (Below w.heap.size w w2) := Below.grown (Below.refl _ _) hg (Nat.le_refl _) (fun q hq => by cases hq); clear hO hg hn2))
  go_ret
  refine ⟨_, rfl, ?_, HK2.out⟩
  have := HO2.out
  rw [Nat.zero_add, List.nil_append] at this
  rw [HN.out]; exact this

end Go.Proofs.Ythhoigkmmlkfcaa.Words

/- A whole record is written into a row of the call's own: what the row reads as then. Laws of no one program. -/
namespace Go.Proofs.Ythhoigkmmlkfcaa.Words
set_option maxRecDepth 100000
open Go.RowKit
set_option linter.unusedVariables false
theorem own_form0 {w : World} {base : Nat} {e : TypeId} {s n c : Nat} {A : Option Addr} {xs : List Value} (h : w.ownsRow base e s (.slice A n c) n xs) (h0 : n ≠ 0) : ∃ g, A = some ⟨g, 0, none⟩ ∧ base ≤ g ∧ g < w.heap.size := by
  obtain ⟨g, cap, he, h1, h2⟩ := own_form h h0
  injection he with hA _ _
  exact ⟨g, hA, h1, h2⟩
theorem own_boxL {w : World} {base : Nat} {e : TypeId} {s g n cap : Nat} {xs : List Value} (h : w.ownsRow base e s (.slice (some ⟨g, 0, none⟩) n cap) n xs) : ∃ ys, Box w g (xs ++ ys) := by
  obtain ⟨h0, h1⟩ := h
  rcases h1 with ⟨h', _⟩ | ⟨g', cap', cur, h', h1, h2, h3, h4, h5, h6⟩
  · simp at h'
  · simp only [Value.slice.injEq, Option.some.injEq, Addr.mk.injEq, and_true, true_and] at h'
    obtain ⟨rfl, rfl⟩ := h'
    refine ⟨cur.toList.drop (n * s), ⟨e, ?_⟩⟩
    rw [← h6, List.take_append_drop]
    simpa using h2
theorem own_setsAt {base : Nat} {e : TypeId} {s g n cap : Nat} : ∀ {cs : List Value} {w : World} {xs : List Value} (k : Nat), w.ownsRow base e s (.slice (some ⟨g, 0, none⟩) n cap) n xs → k + cs.length ≤ n * s → (w.setCells g k cs).ownsRow base e s (.slice (some ⟨g, 0, none⟩) n cap) n (splice xs k cs)
  | [], w, xs, k, h, _ => by rw [splice_nil]; exact h
  | v :: r, w, xs, k, h, hk => by
    simp at hk
    rw [World.setCells, splice_cons _ _ _ _ (by have := h.1; omega)]
    exact own_setsAt (k + 1) (own_setAt h k (by omega) v) (by omega)
theorem splice_at (A B : List Value) {X Y : List Value} (h : X.length = Y.length) : splice (A ++ X ++ B) A.length Y = A ++ Y ++ B := by
  unfold splice
  simp [h, List.drop_append]
theorem splice_flatG {α : Type} {f : α → List Value} {s : Nat} (hf : ∀ x, (f x).length = s) (l : List α) (k : Nat) (r : α) (hk : k < l.length) : splice (flat f l) (k * s) (f r) = flat f (l.set k r) := by
  have e1 : l = l.take k ++ [l[k]] ++ l.drop (k + 1) := by rw [← List.take_succ_eq_append_getElem hk, List.take_append_drop]
  have e2 : l.set k r = l.take k ++ [r] ++ l.drop (k + 1) := by rw [List.set_eq_take_append_cons_drop, if_pos hk]; simp
  have e3 : flat f l = flat f (l.take k) ++ f l[k] ++ flat f (l.drop (k + 1)) := by conv => lhs; rw [e1]; rw [flat_append, flat_append, flat_one]
  rw [e2, e3, flat_append, flat_append, flat_one]
  have := splice_at (flat f (l.take k)) (flat f (l.drop (k + 1))) (X := f l[k]) (Y := f r) (by rw [hf, hf])
  rw [flat_len hf, List.length_take, Nat.min_eq_left (Nat.le_of_lt hk)] at this
  exact this
section
variable {P : Program} {w : World} {ops : Array Oper} {rest : List Oper} {op : Oper} {a : Act} {Q : Exit → Act → World → Prop}
/-- A record is written whole, in its place of a row of the call's own. -/
theorem wpList_store_own {α : Type} {f : α → List Value} {s : Nat} (hf : ∀ x, (f x).length = s) (hw : Region.wanted op (yielded ops a.tmps) = true) (ty : TypeId) (x y : Operand) (ho : op.op = .store ty x y)
    (base : Nat) (e : TypeId) (g n cap : Nat) (l : List α) (k : Nat) (r : α) (hx : a.eval x = .pointer (some ⟨g, k * s, none⟩)) (hy : a.eval y = .agg (f r).toArray) (hO : w.ownsRow base e s (.slice (some ⟨g, 0, none⟩) n cap) n (flat f l)) (hn : l.length = n) (hk : k < n)
    (hi : (P.info? ty).map (·.size) = some s) (h1 : ∀ v ∈ f r, v.oneCell' = true)
    (h : ∀ w', w'.ownsRow base e s (.slice (some ⟨g, 0, none⟩) n cap) n (flat f (l.set k r)) → w.grownBy w' (some g) → wpList P ops Q rest (a.put op.dst undef) w') : wpList P ops Q (op :: rest) a w :=
  wpList_step fun K hK => by
    obtain ⟨ys, hb⟩ := own_boxL hO
    have hks : k * s + s ≤ n * s := by rw [← Nat.succ_mul]; exact Nat.mul_le_mul_right _ hk
    rw [if_pos hw]
    refine wp_store_mid ty x y ho g (k * s) (f r).toArray hx hy (hb.there (by simp [hf]; have := hO.1; omega)) (by rw [hi]; simp [hf]) (all_oneCell_toArray h1) (hK _ _ <| h _ ?_ (by simpa using grown_setCells w g (f r) (k * s) hb.lt))
    have := own_setsAt (w := w) (cs := f r) (k * s) hO (by rw [hf]; exact hks)
    rw [splice_flatG hf l k r (by omega)] at this
    simpa using this
end
end Go.Proofs.Ythhoigkmmlkfcaa.Words

/- Contract of package slots: Fill. -/
namespace Go.Proofs.Ythhoigkmmlkfcaa.Words
set_option maxRecDepth 100000
open Go.RowKit
set_option linter.unusedVariables false
set_option linter.unusedSimpArgs false

set_option maxHeartbeats 2000000 in
theorem fillS_any (A : Option Addr) (c : Nat) (l : List Slt) (tag u : Int) (w : World) (h : Row w w.heap.size 3 (.slice A l.length c) l.length (flat sltL l)) (hs : l.length ≤ 1000000) :
    Calls Try.prog 44 #[.slice A l.length c, .int .i64 tag, .int .u32 u] w (SltsOut w (fillZ tag u l) fun v => .tuple #[v, .bool (hasZ tag l)]) := by
  have HS := Lib.hid (copied_any A c l w h (by omega))
  have HFL := Lib.hid (fill_len tag u l)
  clear h
  go_enter Try.func44, Try.ntmps44
  go_wp2_with fail
  refine HS.out.mono ?_
  rintro e w1 ⟨v, rfl, ho, hb⟩
  obtain ⟨A1, c1, hv⟩ := (Row.of_own ho).form
  subst hv
  have HO := Lib.hid ho
  have HB := Lib.hid hb
  clear ho hb
  generalize hn : l.length = m at *
  have HN := Lib.hid hn
  clear hn
  go_wp2_with fail
  go_loopw [15] (fun i wr => ∃ j : Nat, j ≤ m ∧ i = .int .i64 j ∧ Below w1.heap.size w1 wr ∧ (∀ k x, k < j → l[k]? = some x → waits tag x = false)) (fun i _ => m - (intOf i).toNat)
  case atStart => exact ⟨0, Nat.zero_le _, rfl, Below.refl _ _, fun k x hk _ => by omega⟩
  case round =>
    obtain ⟨j, hj, rfl, hbw, hP⟩ := hrel
    have HP := Lib.hid hP
    have HW := Lib.hid hbw
    have HOR := Lib.hid (own_below HO.out hbw)
    have HBR := Lib.hid (Below.trans HB.out (hbw.mono HB.out.size))
    clear hP hbw
    by_cases hlt : j < m
    · obtain ⟨x, hx⟩ : ∃ x, l[j]? = some x := ⟨_, List.getElem?_eq_getElem (by rw [HN.out]; exact hlt)⟩
      obtain ⟨g, cap, hvf, hg1, hg2⟩ := own_form HOR.out (by omega)
      injection hvf with hA _ hC
      subst hA hC
      obtain ⟨d0, d1, d2⟩ := (Row.of_own HOR.out).slt hx
      rw [Nat.zero_add] at d0 d1 d2
      have HG1 := Lib.hid hg1
      have HG2 := Lib.hid hg2
      have k0 : (0 : Int) ≤ j := by omega
      have k1 : (j : Int) < m := by omega
      have HX := Lib.hid hx
      have HWA := Lib.hid (Below.trans HW.out ((Below.refl wr.heap.size wr).alloc (Nat.le_refl _) (.cells #[.int .i64 x.tag, .bool x.full, .int .u32 x.val] 58)|>.mono HW.out.size))
      clear hx
      cases hq : waits tag x
      · have HST := Lib.hid (pass_step HP.out HX.out hq)
        by_cases ht : x.tag = tag
        · have hf : x.full = true := by unfold waits at hq; simpa [ht] using hq
          have ht1 : (x.tag == tag) = true := by simpa using ht
          rw [hf] at d1 HWA
          clear hq ht hf
          go_wp2_with fail
          go_roundw
          case rel => exact ⟨j + 1, by omega, by go_num, HWA.out, HST.out⟩
          case measure => simp [intOf]; omega
        · have ht1 : (x.tag == tag) = false := by simpa using ht
          clear hq
          go_wp2_with fail
          go_roundw
          case rel => exact ⟨j + 1, by omega, by go_num, HWA.out, HST.out⟩
          case measure => simp [intOf]; omega
      · have HFA := Lib.hid (fill_at (w := u) HP.out HX.out hq)
        unfold waits at hq
        simp only [Bool.and_eq_true, decide_eq_true_eq, Bool.not_eq_true'] at hq
        obtain ⟨ht, hf⟩ := hq
        have ht1 : (x.tag == tag) = true := by simpa using ht
        rw [hf] at d1
        have hbl : g < wr.heap.size := hg2
        have HTT := Lib.hid ht
        clear ht hf
        have HOA := Lib.hid (own_below HOR.out ((Below.refl wr.heap.size wr).alloc (Nat.le_refl _) (.cells #[.int .i64 x.tag, .bool false, .int .u32 x.val] 58)))
        have HBA := Lib.hid (HBR.out.alloc HBR.out.size (.cells #[.int .i64 x.tag, .bool false, .int .u32 x.val] 58))
        have hi3 : (Try.prog.info? 58).map (·.size) = some 3 := by kernel_rfl
        go_wp2_with (first
          | (refine wpList_store_own sltL_len (by rfl) _ _ _ rfl w.heap.size 58 g m c1 l j ⟨tag, true, u⟩ rfl rfl HOA.out HN.out hlt hi3 (sltL_one _) ?_; intro w2 ho2 hg2; have HO2 := Lib.hid ho2; have HK2 : Hid (Below w.heap.size w w2) := Below.grown HBA.out hg2 HBA.out.size (fun q hq => by injection hq with hq; rw [← hq]; exact HG1.out); clear ho2 hg2))
        refine bodyPost_ret (v := .tuple #[.slice (some ⟨g, 0, none⟩) m c1, .bool true]) (by simp [results, Try.results44, go_sem]) rfl ⟨_, by rw [HFA.out.2], ?_, HK2.out⟩
        rw [HFL.out, HFA.out.1, HTT.out]; exact HO2.out
    · have hjm : j = l.length := by rw [HN.out]; omega
      have HFN := Lib.hid (fill_none (w := u) (fun k x hk hx => HP.out k x (by omega) hx))
      clear hjm
      go_wp2_with fail
      refine bodyPost_ret (v := .tuple #[.slice A1 m c1, .bool false]) (by simp [results, Try.results44, go_sem]) rfl ⟨_, by rw [HFN.out.2], ?_, HBR.out⟩
      rw [HFL.out, HFN.out.1]; exact HOR.out
end Go.Proofs.Ythhoigkmmlkfcaa.Words

/- Banks of memory: which one, which latency, which pick, as plain mathematics. -/
namespace Go.Proofs.Ythhoigkmmlkfcaa.Words
set_option maxRecDepth 100000
open Go.RowKit
set_option linter.unusedVariables false

def bankZ (addr n : Int) : Int := if addr < 0 ∨ n < 1 then 0 else addr / 4 % n
def ithZ (l : List Int) (i : Int) : Int := if l.length = 0 ∨ i < 0 then 0 else l.getD (i % l.length).toNat 0 % 1073741824
def latsZ (l : List Int) (i most : Int) : Int := if most < 1 then 1 else 1 + ithZ l i % most
def pickZ (l : List Int) (i n : Int) : Int := if n < 1 then 0 else ithZ l i % n
def withinB (n most : Int) : Bool := decide (1 ≤ n ∧ n ≤ most)
theorem ithZ_range (l : List Int) (i : Int) : 0 ≤ ithZ l i ∧ ithZ l i < 1073741824 := by
  unfold ithZ; split
  · omega
  · constructor <;> omega
theorem latsZ_range (l : List Int) (i most : Int) (hm : most ≤ 1000) : 1 ≤ latsZ l i most ∧ latsZ l i most ≤ 1000 := by
  unfold latsZ; split
  · omega
  · have h1 := Int.emod_nonneg (ithZ l i) (show most ≠ 0 by omega)
    have h2 := Int.emod_lt_of_pos (ithZ l i) (show 0 < most by omega)
    omega
theorem pickZ_range (l : List Int) (i n : Int) (h : 1 ≤ n) : 0 ≤ pickZ l i n ∧ pickZ l i n < n := by
  unfold pickZ
  rw [if_neg (by omega)]
  exact ⟨Int.emod_nonneg _ (by omega), Int.emod_lt_of_pos _ (by omega)⟩
end Go.Proofs.Ythhoigkmmlkfcaa.Words

/- What a request that is done leaves of a state, as plain mathematics. -/
namespace Go.Proofs.Ythhoigkmmlkfcaa.Words
set_option maxRecDepth 100000
open Go.RowKit
set_option linter.unusedVariables false

def Rqs.Fits (q : Rqs) : Prop :=
  (-9223372036854775808 ≤ q.op ∧ q.op ≤ 9223372036854775807) ∧ (-9223372036854775808 ≤ q.addr ∧ q.addr ≤ 9223372036854775807) ∧ (-9223372036854775808 ≤ q.size ∧ q.size ≤ 9223372036854775807) ∧ (0 ≤ q.val ∧ q.val ≤ 4294967295) ∧ (-9223372036854775808 ≤ q.left ∧ q.left ≤ 9223372036854775807) ∧ (-9223372036854775808 ≤ q.reg ∧ q.reg ≤ 9223372036854775807) ∧ (-9223372036854775808 ≤ q.tag ∧ q.tag ≤ 9223372036854775807)
/-- What a load brings. -/
def broughtZ (mem : List Int) (q : Rqs) : Int := if 0 ≤ q.addr ∧ q.addr < 4294967296 then loadZ mem q.op q.addr else 0
def doneZ (x : Sta) (q : Rqs) : Sta :=
  if q.store = true then { x with mem := storeZ x.mem q.size q.addr q.val, ws := x.ws ++ [⟨q.addr, q.size, q.val⟩], saq := x.saq.tail }
  else if q.reg < 0 then { x with ldq := fillZ q.tag (broughtZ x.mem q) x.ldq }
  else if 1 ≤ q.reg ∧ q.reg ≤ 15 then { x with a := { x.a with regs := x.a.regs.set q.reg.toNat (broughtZ x.mem q), ready := x.a.ready.set q.reg.toNat (wrap64 (x.cycle + 1)) } }
  else x
theorem done_store {x : Sta} {q : Rqs} (h : q.store = true) : doneZ x q = { x with mem := storeZ x.mem q.size q.addr q.val, ws := x.ws ++ [⟨q.addr, q.size, q.val⟩], saq := x.saq.tail } := if_pos h
theorem done_slot {x : Sta} {q : Rqs} (h : q.store = false) (hr : q.reg < 0) : doneZ x q = { x with ldq := fillZ q.tag (broughtZ x.mem q) x.ldq } := by unfold doneZ; rw [if_neg (by simp [h]), if_pos hr]
theorem done_reg {x : Sta} {q : Rqs} (h : q.store = false) (h1 : 1 ≤ q.reg) (h2 : q.reg ≤ 15) : doneZ x q = { x with a := { x.a with regs := x.a.regs.set q.reg.toNat (broughtZ x.mem q), ready := x.a.ready.set q.reg.toNat (wrap64 (x.cycle + 1)) } } := by
  unfold doneZ; rw [if_neg (by simp [h]), if_neg (by omega), if_pos ⟨h1, h2⟩]
theorem done_not {x : Sta} {q : Rqs} (h : q.store = false) (h0 : ¬ q.reg < 0) (h1 : ¬ (1 ≤ q.reg ∧ q.reg ≤ 15)) : doneZ x q = x := by unfold doneZ; rw [if_neg (by simp [h]), if_neg h0, if_neg h1]
theorem done_ok {x : Sta} (q : Rqs) (h : x.Ok) : (doneZ x q).Ok := by
  unfold doneZ
  split
  · exact ⟨h.a, h.e⟩
  · split
    · exact ⟨h.a, h.e⟩
    · split
      · exact ⟨⟨by simp [h.a.regs], by simp [h.a.ready]⟩, h.e⟩
      · exact h
end Go.Proofs.Ythhoigkmmlkfcaa.Words

/- The walk of ImageTurned. -/
import Derived.Test.YthnimeibjannpaaImageApart
namespace Go.Proofs.Ythnimeibjannpaa.Words
open Go.RowKit
set_option linter.unusedVariables false

theorem turned_u8_fin : ∀ (x : Fin 256) (m : Fin 8), 0 ≤ bits .xor .u8 (x.val : Int) (2 ^ m.val % 256) ∧ bits .xor .u8 (x.val : Int) (2 ^ m.val % 256) ≤ 255 ∧ bits .xor .u8 (x.val : Int) (2 ^ m.val % 256) ≠ (x.val : Int) := by decide +kernel
theorem turned_u8 (x : Int) (m : Nat) (h0 : 0 ≤ x) (h1 : x ≤ 255) (b1 : m < 8) :
    0 ≤ bits .xor .u8 x (2 ^ m % 256) ∧ bits .xor .u8 x (2 ^ m % 256) ≤ 255 ∧ bits .xor .u8 x (2 ^ m % 256) ≠ x := by
  obtain ⟨a, rfl⟩ := Int.eq_ofNat_of_zero_le h0
  exact turned_u8_fin ⟨a, by omega⟩ ⟨m, b1⟩
theorem readE_range (zs : List Int) : 0 ≤ readE zs ∧ readE zs ≤ 4 := by
  unfold readE
  split
  · omega
  · split
    · omega
    · split
      · omega
      · split <;> omega
theorem read_data {zs : List Int} (hz : ∀ b ∈ zs, 0 ≤ b ∧ b ≤ 255) : ∀ b ∈ (readP zs).data, 0 ≤ b ∧ b ≤ 255 := by
  intro b hb
  unfold readP at hb
  split at hb
  · exact hz b (List.mem_of_mem_drop hb)
  · cases hb
theorem set_ne {zs : List Int} {j : Nat} {y : Int} (hj : j < zs.length) (h : y ≠ zs.getD j 0) : zs.set j y ≠ zs := by
  intro e
  have : (zs.set j y).getD j 0 = y := by rw [List.getD_eq_getElem?_getD, List.getElem?_set_self hj]; rfl
  rw [e] at this
  exact h this.symm
theorem set_bytes {zs : List Int} {j : Nat} {y : Int} (hz : ∀ b ∈ zs, 0 ≤ b ∧ b ≤ 255) (hy : 0 ≤ y ∧ y ≤ 255) : ∀ b ∈ zs.set j y, 0 ≤ b ∧ b ≤ 255 := by
  intro b hb
  rcases List.mem_or_eq_of_mem_set hb with h | rfl
  · exact hz b h
  · exact hy
theorem own_u8 {w : World} {base g cap L : Nat} {zs : List Int} (h : w.ownsRow base 5 1 (.slice (some ⟨g, 0, none⟩) L cap) L (zs.map (Value.int .u8))) (j : Nat) (hj : j < L) : w.cell? ⟨g, j, none⟩ = some (.int .u8 (zs.getD j 0)) := by
  have hl : zs.length = L := by have := h.1; simpa using this
  rw [h.cellAt j (by omega), List.getElem?_map, List.getD_eq_getElem?_getD, List.getElem?_eq_getElem (by omega)]; rfl
theorem some_u8 {x y : Int} (h : x = y) : some (Value.int .u8 x) = some (.int .u8 y) := by rw [h]
theorem read_empty {zs : List Int} (h : readE zs ≠ 0) : readP zs = ⟨[], 0, []⟩ := by unfold readP; rw [if_neg h]
theorem turned_other {p : Prog} {zs : List Int} (hz : ∀ b ∈ zs, 0 ≤ b ∧ b ≤ 255) (hne : zs ≠ imgZ p) (h : readE zs = 0) : decide (readP zs = p) = false := by
  apply decide_eq_false
  intro e
  exact hne (by rw [← e, read_img hz h])

section
variable (A : Option Addr) (c : Nat) (D : Option Addr) (d : Nat) (p : Prog) (a1 : Int) (w : World)

set_option maxHeartbeats 1000000 in
theorem imageTurned_few (f : p.Fits) (r : ProgV w w.heap.size (.slice A p.code.length c) (.slice D p.data.length d) p) (hf : fewB p.code.length p.data.length = false) :
    Calls Try.prog 7 #[.agg #[.slice A p.code.length c, .int .i64 p.size, .slice D p.data.length d], .int .i64 a1] w fun e w' => e = .returned (.bool true) ∧ Below w.heap.size w w' := by
  have HF := Lib.hid hf
  clear hf
  obtain ⟨u1, u2⟩ := r.code.cap
  obtain ⟨u3, u4⟩ := r.data.cap
  have hB : w.heap.size < (w.alloc (.cells #[.slice A p.code.length c, .int .i64 p.size, .slice D p.data.length d] 25)).heap.size := by simp
  have HP := Lib.hid ((r.alloc (Nat.le_refl _) (.cells #[.slice A p.code.length c, .int .i64 p.size, .slice D p.data.length d] 25)).more (Nat.le_of_lt hB))
  have HW := Lib.hid ((Below.refl w.heap.size w).alloc (Nat.le_refl _) (.cells #[.slice A p.code.length c, .int .i64 p.size, .slice D p.data.length d] 25))
  have c0 : (w.alloc (.cells #[.slice A p.code.length c, .int .i64 p.size, .slice D p.data.length d] 25)).cell? ⟨w.heap.size, 0, none⟩ = some (.slice A p.code.length c) := by go_simp
  have c1 : (w.alloc (.cells #[.slice A p.code.length c, .int .i64 p.size, .slice D p.data.length d] 25)).cell? ⟨w.heap.size, 1, none⟩ = some (.int .i64 p.size) := by go_simp
  have c2 : (w.alloc (.cells #[.slice A p.code.length c, .int .i64 p.size, .slice D p.data.length d] 25)).cell? ⟨w.heap.size, 2, none⟩ = some (.slice D p.data.length d) := by go_simp
  clear r
  go_enter Try.func7, Try.ntmps7
  go_wp2_with fail
  generalize (w.alloc (.cells #[.slice A p.code.length c, .int .i64 p.size, .slice D p.data.length d] 25)) = W at *
  have C0 := Lib.hid (fun (x : World) (h : Kept W x) => h.cell hB c0)
  have C1 := Lib.hid (fun (x : World) (h : Kept W x) => h.cell hB c1)
  have C2 := Lib.hid (fun (x : World) (h : Kept W x) => h.cell hB c2)
  have HPx := Lib.hid (fun (x : World) (h : Kept W x) => (show ProgV x x.heap.size _ _ p from ⟨h.row HP.out.code, h.row HP.out.data⟩))
  have HWB := Lib.hid (fun (x : World) (h : Kept W x) => HW.out.trans (h.mono (Nat.le_of_lt hB)))
  clear c0 c1 c2 HP HW
  refine (imgAlive_any _).mono ?_; rintro e w1 ⟨rfl, hb1⟩
  have k1 : Kept W w1 := hb1
  have c0 := C0.out _ k1
  have c1 := C1.out _ k1
  have c2 := C2.out _ k1
  clear hb1
  go_wp2_with fail
  refine (refImage_any A D c d p _ (HPx.out _ k1)).mono ?_; rintro e w2 ⟨v2, rfl, own2, hb2⟩
  have k2 := k1.to hb2
  clear c0 c1 c2
  have c0 := C0.out _ k2
  have c1 := C1.out _ k2
  have c2 := C2.out _ k2
  have hs1 := k1.size
  clear hb2 k1
  obtain ⟨A2, c2', rfl⟩ := (Row.of_own own2).form
  go_wp2_with fail
  refine (few_any A D p.code.length c p.data.length d p.size _ (by omega) (by omega)).mono ?_; rintro e w3 ⟨rfl, hb3⟩
  rw [HF.out]
  have kk3 : Kept w2 w3 := hb3
  have k3 := k2.to hb3
  clear c0 c1 c2 hb3
  have c0 := C0.out _ k3
  have c1 := C1.out _ k3
  have c2 := C2.out _ k3
  go_wp2_with fail
  go_ret
  exact ⟨rfl, HWB.out _ k3⟩

set_option maxHeartbeats 1000000 in
theorem imageTurned_no (f : p.Fits) (r : ProgV w w.heap.size (.slice A p.code.length c) (.slice D p.data.length d) p) (hf : fewB p.code.length p.data.length = true) (hr : p.right = false) :
    Calls Try.prog 7 #[.agg #[.slice A p.code.length c, .int .i64 p.size, .slice D p.data.length d], .int .i64 a1] w fun e w' => e = .returned (.bool true) ∧ Below w.heap.size w w' := by
  have HF := Lib.hid hf
  have HI := Lib.hid (imgOf_no hr)
  clear hf hr
  obtain ⟨u1, u2⟩ := r.code.cap
  obtain ⟨u3, u4⟩ := r.data.cap
  have hB : w.heap.size < (w.alloc (.cells #[.slice A p.code.length c, .int .i64 p.size, .slice D p.data.length d] 25)).heap.size := by simp
  have HP := Lib.hid ((r.alloc (Nat.le_refl _) (.cells #[.slice A p.code.length c, .int .i64 p.size, .slice D p.data.length d] 25)).more (Nat.le_of_lt hB))
  have HW := Lib.hid ((Below.refl w.heap.size w).alloc (Nat.le_refl _) (.cells #[.slice A p.code.length c, .int .i64 p.size, .slice D p.data.length d] 25))
  have c0 : (w.alloc (.cells #[.slice A p.code.length c, .int .i64 p.size, .slice D p.data.length d] 25)).cell? ⟨w.heap.size, 0, none⟩ = some (.slice A p.code.length c) := by go_simp
  have c1 : (w.alloc (.cells #[.slice A p.code.length c, .int .i64 p.size, .slice D p.data.length d] 25)).cell? ⟨w.heap.size, 1, none⟩ = some (.int .i64 p.size) := by go_simp
  have c2 : (w.alloc (.cells #[.slice A p.code.length c, .int .i64 p.size, .slice D p.data.length d] 25)).cell? ⟨w.heap.size, 2, none⟩ = some (.slice D p.data.length d) := by go_simp
  clear r
  go_enter Try.func7, Try.ntmps7
  go_wp2_with fail
  generalize (w.alloc (.cells #[.slice A p.code.length c, .int .i64 p.size, .slice D p.data.length d] 25)) = W at *
  have C0 := Lib.hid (fun (x : World) (h : Kept W x) => h.cell hB c0)
  have C1 := Lib.hid (fun (x : World) (h : Kept W x) => h.cell hB c1)
  have C2 := Lib.hid (fun (x : World) (h : Kept W x) => h.cell hB c2)
  have HPx := Lib.hid (fun (x : World) (h : Kept W x) => (show ProgV x x.heap.size _ _ p from ⟨h.row HP.out.code, h.row HP.out.data⟩))
  have HWB := Lib.hid (fun (x : World) (h : Kept W x) => HW.out.trans (h.mono (Nat.le_of_lt hB)))
  clear c0 c1 c2 HP HW
  refine (imgAlive_any _).mono ?_; rintro e w1 ⟨rfl, hb1⟩
  have k1 : Kept W w1 := hb1
  have c0 := C0.out _ k1
  have c1 := C1.out _ k1
  have c2 := C2.out _ k1
  clear hb1
  go_wp2_with fail
  refine (refImage_any A D c d p _ (HPx.out _ k1)).mono ?_; rintro e w2 ⟨v2, rfl, own2, hb2⟩
  have k2 := k1.to hb2
  clear c0 c1 c2
  have c0 := C0.out _ k2
  have c1 := C1.out _ k2
  have c2 := C2.out _ k2
  have hs1 := k1.size
  clear hb2 k1
  obtain ⟨A2, c2', rfl⟩ := (Row.of_own own2).form
  go_wp2_with fail
  refine (few_any A D p.code.length c p.data.length d p.size _ (by omega) (by omega)).mono ?_; rintro e w3 ⟨rfl, hb3⟩
  rw [HF.out]
  have kk3 : Kept w2 w3 := hb3
  have k3 := k2.to hb3
  clear c0 c1 c2 hb3
  have c0 := C0.out _ k3
  have c1 := C1.out _ k3
  have c2 := C2.out _ k3
  rw [HI.out]
  dsimp only [List.length_nil]
  go_wp2_with fail
  go_ret
  exact ⟨rfl, HWB.out _ k3⟩

set_option maxHeartbeats 1000000 in
theorem imageTurned_neg (f : p.Fits) (r : ProgV w w.heap.size (.slice A p.code.length c) (.slice D p.data.length d) p) (hf : fewB p.code.length p.data.length = true) (hr : p.right = true) (ha : a1 < 0) :
    Calls Try.prog 7 #[.agg #[.slice A p.code.length c, .int .i64 p.size, .slice D p.data.length d], .int .i64 a1] w fun e w' => e = .returned (.bool true) ∧ Below w.heap.size w w' := by
  have HF := Lib.hid hf
  have hl : 0 < (imgOf p).length := by rw [imgOf_yes hr, imgZ_len]; omega
  clear hf hr
  obtain ⟨u1, u2⟩ := r.code.cap
  obtain ⟨u3, u4⟩ := r.data.cap
  have hB : w.heap.size < (w.alloc (.cells #[.slice A p.code.length c, .int .i64 p.size, .slice D p.data.length d] 25)).heap.size := by simp
  have HP := Lib.hid ((r.alloc (Nat.le_refl _) (.cells #[.slice A p.code.length c, .int .i64 p.size, .slice D p.data.length d] 25)).more (Nat.le_of_lt hB))
  have HW := Lib.hid ((Below.refl w.heap.size w).alloc (Nat.le_refl _) (.cells #[.slice A p.code.length c, .int .i64 p.size, .slice D p.data.length d] 25))
  have c0 : (w.alloc (.cells #[.slice A p.code.length c, .int .i64 p.size, .slice D p.data.length d] 25)).cell? ⟨w.heap.size, 0, none⟩ = some (.slice A p.code.length c) := by go_simp
  have c1 : (w.alloc (.cells #[.slice A p.code.length c, .int .i64 p.size, .slice D p.data.length d] 25)).cell? ⟨w.heap.size, 1, none⟩ = some (.int .i64 p.size) := by go_simp
  have c2 : (w.alloc (.cells #[.slice A p.code.length c, .int .i64 p.size, .slice D p.data.length d] 25)).cell? ⟨w.heap.size, 2, none⟩ = some (.slice D p.data.length d) := by go_simp
  clear r
  go_enter Try.func7, Try.ntmps7
  go_wp2_with fail
  generalize (w.alloc (.cells #[.slice A p.code.length c, .int .i64 p.size, .slice D p.data.length d] 25)) = W at *
  have C0 := Lib.hid (fun (x : World) (h : Kept W x) => h.cell hB c0)
  have C1 := Lib.hid (fun (x : World) (h : Kept W x) => h.cell hB c1)
  have C2 := Lib.hid (fun (x : World) (h : Kept W x) => h.cell hB c2)
  have HPx := Lib.hid (fun (x : World) (h : Kept W x) => (show ProgV x x.heap.size _ _ p from ⟨h.row HP.out.code, h.row HP.out.data⟩))
  have HWB := Lib.hid (fun (x : World) (h : Kept W x) => HW.out.trans (h.mono (Nat.le_of_lt hB)))
  clear c0 c1 c2 HP HW
  refine (imgAlive_any _).mono ?_; rintro e w1 ⟨rfl, hb1⟩
  have k1 : Kept W w1 := hb1
  have c0 := C0.out _ k1
  have c1 := C1.out _ k1
  have c2 := C2.out _ k1
  clear hb1
  go_wp2_with fail
  refine (refImage_any A D c d p _ (HPx.out _ k1)).mono ?_; rintro e w2 ⟨v2, rfl, own2, hb2⟩
  have k2 := k1.to hb2
  clear c0 c1 c2
  have c0 := C0.out _ k2
  have c1 := C1.out _ k2
  have c2 := C2.out _ k2
  have hs1 := k1.size
  clear hb2 k1
  obtain ⟨A2, c2', rfl⟩ := (Row.of_own own2).form
  go_wp2_with fail
  refine (few_any A D p.code.length c p.data.length d p.size _ (by omega) (by omega)).mono ?_; rintro e w3 ⟨rfl, hb3⟩
  rw [HF.out]
  have kk3 : Kept w2 w3 := hb3
  have k3 := k2.to hb3
  clear c0 c1 c2 hb3
  have c0 := C0.out _ k3
  have c1 := C1.out _ k3
  have c2 := C2.out _ k3
  generalize (imgOf p).length = L at *
  go_wp2_with fail
  go_ret
  exact ⟨rfl, HWB.out _ k3⟩

set_option maxHeartbeats 2000000 in
theorem imageTurned_main (f : p.Fits) (r : ProgV w w.heap.size (.slice A p.code.length c) (.slice D p.data.length d) p) (hf : fewB p.code.length p.data.length = true) (hr : p.right = true) (ha : 0 ≤ a1) (h1 : a1 ≤ 9223372036854775807) :
    Calls Try.prog 7 #[.agg #[.slice A p.code.length c, .int .i64 p.size, .slice D p.data.length d], .int .i64 a1] w fun e w' => e = .returned (.bool true) ∧ Below w.heap.size w w' := by
  obtain ⟨i0, hi, hz0, hz1, hz2⟩ := info_parts info_u8
  have HZ2 := Lib.hid hz2
  clear hz2
  have HFf := Lib.hid f
  have HF := Lib.hid hf
  have HR := Lib.hid hr
  have hfe := few_yes hf
  have HI := Lib.hid (imgOf_yes hr)
  have hlen := imgZ_len p
  have hbytes := Lib.hid (imgZ_bytes hr f.2.2)
  clear hf hr
  obtain ⟨u1, u2⟩ := r.code.cap
  obtain ⟨u3, u4⟩ := r.data.cap
  have hB : w.heap.size < (w.alloc (.cells #[.slice A p.code.length c, .int .i64 p.size, .slice D p.data.length d] 25)).heap.size := by simp
  have HP := Lib.hid ((r.alloc (Nat.le_refl _) (.cells #[.slice A p.code.length c, .int .i64 p.size, .slice D p.data.length d] 25)).more (Nat.le_of_lt hB))
  have HW := Lib.hid ((Below.refl w.heap.size w).alloc (Nat.le_refl _) (.cells #[.slice A p.code.length c, .int .i64 p.size, .slice D p.data.length d] 25))
  have c0 : (w.alloc (.cells #[.slice A p.code.length c, .int .i64 p.size, .slice D p.data.length d] 25)).cell? ⟨w.heap.size, 0, none⟩ = some (.slice A p.code.length c) := by go_simp
  have c1 : (w.alloc (.cells #[.slice A p.code.length c, .int .i64 p.size, .slice D p.data.length d] 25)).cell? ⟨w.heap.size, 1, none⟩ = some (.int .i64 p.size) := by go_simp
  have c2 : (w.alloc (.cells #[.slice A p.code.length c, .int .i64 p.size, .slice D p.data.length d] 25)).cell? ⟨w.heap.size, 2, none⟩ = some (.slice D p.data.length d) := by go_simp
  clear r
  go_enter Try.func7, Try.ntmps7
  go_wp2_with fail
  generalize (w.alloc (.cells #[.slice A p.code.length c, .int .i64 p.size, .slice D p.data.length d] 25)) = W at *
  have C0 := Lib.hid (fun (x : World) (h : Kept W x) => h.cell hB c0)
  have C1 := Lib.hid (fun (x : World) (h : Kept W x) => h.cell hB c1)
  have C2 := Lib.hid (fun (x : World) (h : Kept W x) => h.cell hB c2)
  have HPx := Lib.hid (fun (x : World) (h : Kept W x) => (show ProgV x x.heap.size _ _ p from ⟨h.row HP.out.code, h.row HP.out.data⟩))
  have HWB := Lib.hid (fun (x : World) (h : Kept W x) => HW.out.trans (h.mono (Nat.le_of_lt hB)))
  clear c0 c1 c2 HP HW
  refine (imgAlive_any _).mono ?_; rintro e w1 ⟨rfl, hb1⟩
  have k1 : Kept W w1 := hb1
  have c0 := C0.out _ k1
  have c1 := C1.out _ k1
  have c2 := C2.out _ k1
  clear hb1
  go_wp2_with fail
  refine (refImage_any A D c d p _ (HPx.out _ k1)).mono ?_; rintro e w2 ⟨v2, rfl, own2, hb2⟩
  have k2 := k1.to hb2
  clear c0 c1 c2
  have c0 := C0.out _ k2
  have c1 := C1.out _ k2
  have c2 := C2.out _ k2
  have hs1 := k1.size
  clear hb2 k1
  obtain ⟨A2, c2', rfl⟩ := (Row.of_own own2).form
  go_wp2_with fail
  refine (few_any A D p.code.length c p.data.length d p.size _ (by omega) (by omega)).mono ?_; rintro e w3 ⟨rfl, hb3⟩
  rw [HF.out]
  have kk3 : Kept w2 w3 := hb3
  have k3 := k2.to hb3
  clear c0 c1 c2 hb3
  have c0 := C0.out _ k3
  have c1 := C1.out _ k3
  have c2 := C2.out _ k3
  rw [HI.out] at own2 ⊢
  generalize hZ : imgZ p = zs at *
  have HZ := Lib.hid hZ
  generalize hL : zs.length = L at *
  have HL := Lib.hid hL
  have L1 : 16 ≤ L := by omega
  have L2 : L ≤ 2000 := by omega
  clear hZ hL hfe hlen
  have hm0 : 0 ≤ a1 % (8 * (L : Int)) := Int.emod_nonneg _ (by omega)
  have hm1 : a1 % (8 * (L : Int)) < 8 * L := Int.emod_lt_of_pos _ (by omega)
  have hrow := kk3.row (Row.of_own own2)
  have hcap := hrow.cap
  obtain ⟨j, hj⟩ := Int.eq_ofNat_of_zero_le (show 0 ≤ a1 % (8 * (L : Int)) / 8 by omega)
  obtain ⟨m, hm⟩ := Int.eq_ofNat_of_zero_le (show 0 ≤ a1 % (8 * (L : Int)) % 8 by omega)
  have hjL : j < L := by omega
  have hm8 : m < 8 := by omega
  have hL0 : ((L : Int) == 0) = false := by simp; omega
  obtain ⟨hx0, hx1⟩ := byte_at hbytes.out j
  generalize hX : zs.getD j 0 = x0 at *
  have HX := Lib.hid hX
  have HJ := Lib.hid hj
  have HM := Lib.hid hm
  clear hX hj hm
  go_wp2_with (at_builtin; refine wpList_append_row _ rfl (.const (.slice none 0 0)) (.tmp 36) 23 rfl w3.heap.size 5 i0 (.int .u8 0) 1 1 Try.underlying23 hi hz0 hz1 HZ2.out rfl (by omega) (.slice none 0 0) 0 [] rfl (World.ownsRow_nil _ _ _ _) _ _ L _ rfl hrow (u8_one _) (by unfold maxLen; omega) (by omega) (Nat.le_refl _) ?_; intro v4 w4 hown4 hg4; simp only [Nat.zero_add, List.nil_append] at hown4; obtain ⟨g, cap, rfl, hg0, hg1⟩ := own_form hown4 (by omega); generalize a1 % (8 * (L : Int)) = kk at hm0 hm1 HJ HM ⊢; have q0 := (own_u8 hown4 j hjL).trans (some_u8 HX.out); have f0 := hown4.frozenAt j; have hj := HJ.out; have hm := HM.out)
  obtain ⟨y0, y1, y2⟩ := turned_u8 x0 m hx0 hx1 hm8
  generalize bits BinOp.xor IntKind.u8 x0 (2 ^ m % 256) = y at *
  have hst := (hown4.stored j (.int .u8 y)).1
  have e5 : (zs.map (Value.int .u8)).set j (.int .u8 y) = (zs.set j y).map (Value.int .u8) := by rw [List.map_set]
  rw [e5] at hst
  have hl' : (zs.set j y).length = L := by rw [List.length_set, HL.out]
  have hne : zs.set j y ≠ zs := set_ne (by rw [HL.out]; exact hjL) (by rw [HX.out]; exact y2)
  have hzb := set_bytes (j := j) hbytes.out ⟨y0, y1⟩
  have kk4 : Kept w3 (w4.setCell ⟨g, j, none⟩ (.int .u8 y)) := Below.setCell (Below.grown (Below.refl _ _) hg4 (Nat.le_refl _) (fun k hk => by cases hk)) hg0 _
  have k4 := k3.trans kk4
  generalize zs.set j y = zs' at *
  generalize w4.setCell ⟨g, j, none⟩ (.int .u8 y) = w5 at *
  have HNE := Lib.hid hne
  have HZB := Lib.hid hzb
  have hR5 := Row.of_own hst
  clear hst e5 hx0 hx1 hown4 hg4 q0 f0 hrow hne hzb kk3 own2
  refine (imgRead_len hl' hR5 HZB.out).mono ?_; rintro e w6 ⟨vc, vd, rfl, hP, hb6⟩
  have k6 := k4.to hb6
  have hE := readE_range zs'
  have h1 := Lib.hid (fun h => read_empty (zs := zs') h)
  have h2 := Lib.hid (fun (h : readE zs' = 0) => turned_other (p := p) HZB.out (by rw [HZ.out]; exact HNE.out) h)
  have h3 := Lib.hid (fun h => read_right (zs := zs') h)
  have hdb := Lib.hid (read_data HZB.out)
  have hP6 := Lib.hid hP.prog
  obtain ⟨A6, c6, rfl⟩ := (Row.of_own hP.code).form
  obtain ⟨D6, d6, rfl⟩ := (Row.of_own hP.data).form
  have hcl := hP.prog.code.cap
  have hdl := hP.prog.data.cap
  clear hP hb6 hR5 hl'
  generalize readP zs' = P' at *
  generalize readE zs' = E' at *
  clear c0 c1 c2
  have c0 := C0.out _ k6
  have c1 := C1.out _ k6
  have c2 := C2.out _ k6
  have kA : Kept w6 (w6.alloc (.cells #[.slice A6 P'.code.length c6, .int .i64 P'.size, .slice D6 P'.data.length d6] 25)) := (Kept.refl w6).alloc _
  have hP7 := Lib.hid (show ProgV (w6.alloc (.cells #[.slice A6 P'.code.length c6, .int .i64 P'.size, .slice D6 P'.data.length d6] 25)) _ _ _ P' from ⟨kA.row hP6.out.code, kA.row hP6.out.data⟩)
  have hsw : w.heap.size < w6.heap.size := by have := k6.size; omega
  go_wp2_with fail
  refine (num_any _ _ (by omega)).mono ?_; rintro e w7 ⟨rfl, rfl⟩
  by_cases h0 : E' = 0
  · subst h0
    have g2 := Lib.hid (h2.out rfl)
    have g3 := Lib.hid (h3.out rfl)
    go_wp2_with fail
    refine (refSame_any A6 D6 A D c6 d6 c d P' p _ hP7.out (HPx.out _ (k6.trans kA)) hdb.out HFf.out.2.2).mono ?_; rintro e w7 ⟨rfl, hb7⟩
    rw [g2.out]
    have kB : Kept w6 w7 := kA.to hb7
    have x0 : w7.cell? ⟨w6.heap.size, 0, none⟩ = some (.slice A6 P'.code.length c6) := below_cell hb7 (by simp) (by go_simp)
    have x1 : w7.cell? ⟨w6.heap.size, 1, none⟩ = some (.int .i64 P'.size) := below_cell hb7 (by simp) (by go_simp)
    have x2 : w7.cell? ⟨w6.heap.size, 2, none⟩ = some (.slice D6 P'.data.length d6) := below_cell hb7 (by simp) (by go_simp)
    clear hb7
    go_wp2_with fail
    refine (imgRight_any A6 c6 P'.size D6 P'.data.length d6 P'.code _ (kB.row hP6.out.code) hdl.1 hdl.2).mono ?_; rintro e w8 ⟨rfl, hb8⟩
    rw [← right_prog, g3.out]
    go_wp2_with fail
    go_ret
    exact ⟨rfl, HWB.out _ ((k6.trans kB).to hb8)⟩
  · have g1 := Lib.hid (h1.out h0)
    have hq : (E' != 0) = true := by simp [h0]
    clear h0
    go_wp2_with fail
    refine (refSame_any A6 D6 none none c6 d6 0 0 P' ⟨[], 0, []⟩ _ hP7.out ⟨Row.nil _ _ _, Row.nil _ _ _⟩ hdb.out (by simp)).mono ?_; rintro e w7 ⟨rfl, hb7⟩
    rw [decide_eq_true g1.out]
    go_wp2_with fail
    go_ret
    exact ⟨rfl, HWB.out _ ((k6.trans kA).to hb7)⟩

theorem imageTurned_walk (f : p.Fits) (r : ProgV w w.heap.size (.slice A p.code.length c) (.slice D p.data.length d) p) (h1 : -9223372036854775808 ≤ a1 ∧ a1 ≤ 9223372036854775807) :
    Calls Try.prog 7 #[.agg #[.slice A p.code.length c, .int .i64 p.size, .slice D p.data.length d], .int .i64 a1] w fun e w' => e = .returned (.bool true) ∧ Below w.heap.size w w' := by
  cases hf : fewB p.code.length p.data.length
  · exact imageTurned_few A c D d p a1 w f r hf
  cases hr : p.right
  · exact imageTurned_no A c D d p a1 w f r hf hr
  by_cases ha : a1 < 0
  · exact imageTurned_neg A c D d p a1 w f r hf hr ha
  · exact imageTurned_main A c D d p a1 w f r hf hr (by omega) h1.2
end
end Go.Proofs.Ythnimeibjannpaa.Words

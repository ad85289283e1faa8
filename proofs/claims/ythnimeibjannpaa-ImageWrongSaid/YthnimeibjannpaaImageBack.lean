/- The walk of ImageBack. -/
import Derived.Test.YthnimeibjannpaaImgAlive
namespace Go.Proofs.Ythnimeibjannpaa.Words
open Go.RowKit
set_option linter.unusedVariables false

theorem few_yes {p : Prog} (h : fewB p.code.length p.data.length = true) : p.code.length ≤ 200 ∧ p.data.length ≤ 500 := of_decide_eq_true h
theorem own_grown {w w' : World} {base : Nat} {e : TypeId} {size : Nat} {v : Value} {n : Nat} {xs : List Value} {row : Option Nat} (h : w.ownsRow base e size v n xs) (hg : w.grownBy w' row) (hne : ∀ g, v.ownBlock = some g → some g ≠ row) : w'.ownsRow base e size v n xs := by
  refine ⟨h.1, ?_⟩
  rcases h.2 with h' | ⟨g, cap, cur, rfl, h1, h2, h3⟩
  · exact .inl h'
  · exact .inr ⟨g, cap, cur, rfl, h1, (hg.block g (Array.getElem?_eq_some_iff.1 h2).1 (hne g rfl)).trans h2, h3⟩

theorem imgRead_len {A : Option Addr} {c n : Nat} {zs : List Int} {w : World} (hn : zs.length = n) (h : Row w w.heap.size 1 (.slice A n c) n (zs.map (Value.int .u8))) (hz : ∀ x ∈ zs, 0 ≤ x ∧ x ≤ 255) :
    Calls Try.prog 11 #[.slice A n c] w fun e w' => ∃ vc vd, e = .returned (.tuple #[.agg #[vc, .int .i64 (readP zs).size, vd], .int .i64 (readE zs)]) ∧ OwnP w' w.heap.size vc vd (readP zs) ∧ Below w.heap.size w w' := by
  subst hn; exact imgRead_own A c zs w h hz
theorem own_form {w : World} {base : Nat} {e : TypeId} {size : Nat} {v : Value} {n : Nat} {xs : List Value} (h : w.ownsRow base e size v n xs) (hn : n ≠ 0) : ∃ g cap, v = .slice (some ⟨g, 0, none⟩) n cap ∧ base ≤ g ∧ g < w.heap.size := by
  rcases h.2 with ⟨rfl, rfl⟩ | ⟨g, cap, cur, rfl, h1, h2, h3⟩
  · exact absurd rfl hn
  · exact ⟨g, cap, rfl, h1, (Array.getElem?_eq_some_iff.1 h2).1⟩

section
variable (A : Option Addr) (c : Nat) (D : Option Addr) (d : Nat) (p : Prog) (a1 a2 : Int) (w : World)

set_option maxHeartbeats 1000000 in
theorem imageBack_few (f : p.Fits) (r : ProgV w w.heap.size (.slice A p.code.length c) (.slice D p.data.length d) p) (hf : fewB p.code.length p.data.length = false) :
    Calls Try.prog 4 #[.agg #[.slice A p.code.length c, .int .i64 p.size, .slice D p.data.length d], .int .i64 a1, .int .u8 a2] w fun e w' => e = .returned (.bool true) ∧ Below w.heap.size w w' := by
  obtain ⟨u1, u2⟩ := r.code.cap
  obtain ⟨u3, u4⟩ := r.data.cap
  have HF := Lib.hid hf
  clear hf r
  go_enter Try.func4, Try.ntmps4
  go_wp2_with fail
  refine (imgAlive_any _).mono ?_; rintro e w1 ⟨rfl, hb1⟩
  obtain ⟨hc, hfz⟩ := bcell hb1
  have hz : w.heap.size < w1.heap.size := by have := hb1.size; simp at this; omega
  have hB1 : Below w.heap.size w w1 := ((Below.refl w.heap.size w).alloc (Nat.le_refl _) _).trans (hb1.mono (by simp))
  clear hb1
  go_wp2_with fail
  refine (few_any A D p.code.length c p.data.length d p.size _ (by omega) (by omega)).mono ?_; rintro e w2 ⟨rfl, hb2⟩
  rw [HF.out]
  go_wp2_with fail
  go_ret
  exact ⟨rfl, hB1.trans (hb2.mono hB1.size)⟩

set_option maxHeartbeats 1000000 in
theorem imageBack_right (f : p.Fits) (r : ProgV w w.heap.size (.slice A p.code.length c) (.slice D p.data.length d) p) (hf : fewB p.code.length p.data.length = true) (hr : p.right = false) :
    Calls Try.prog 4 #[.agg #[.slice A p.code.length c, .int .i64 p.size, .slice D p.data.length d], .int .i64 a1, .int .u8 a2] w fun e w' => e = .returned (.bool true) ∧ Below w.heap.size w w' := by
  obtain ⟨u1, u2⟩ := r.code.cap
  obtain ⟨u3, u4⟩ := r.data.cap
  have HF := Lib.hid hf
  have HR := Lib.hid hr
  have hB : w.heap.size < (w.alloc (.cells #[.slice A p.code.length c, .int .i64 p.size, .slice D p.data.length d] 25)).heap.size := by simp
  have HP := Lib.hid ((r.alloc (Nat.le_refl _) (.cells #[.slice A p.code.length c, .int .i64 p.size, .slice D p.data.length d] 25)).more (Nat.le_of_lt hB))
  have HW := Lib.hid ((Below.refl w.heap.size w).alloc (Nat.le_refl _) (.cells #[.slice A p.code.length c, .int .i64 p.size, .slice D p.data.length d] 25))
  have c0 : (w.alloc (.cells #[.slice A p.code.length c, .int .i64 p.size, .slice D p.data.length d] 25)).cell? ⟨w.heap.size, 0, none⟩ = some (.slice A p.code.length c) := by go_simp
  have c1 : (w.alloc (.cells #[.slice A p.code.length c, .int .i64 p.size, .slice D p.data.length d] 25)).cell? ⟨w.heap.size, 1, none⟩ = some (.int .i64 p.size) := by go_simp
  have c2 : (w.alloc (.cells #[.slice A p.code.length c, .int .i64 p.size, .slice D p.data.length d] 25)).cell? ⟨w.heap.size, 2, none⟩ = some (.slice D p.data.length d) := by go_simp
  clear hf hr r
  go_enter Try.func4, Try.ntmps4
  go_wp2_with fail
  generalize (w.alloc (.cells #[.slice A p.code.length c, .int .i64 p.size, .slice D p.data.length d] 25)) = W at *
  have C0 := Lib.hid (fun (x : World) (h : Kept W x) => h.cell hB c0)
  have C1 := Lib.hid (fun (x : World) (h : Kept W x) => h.cell hB c1)
  have C2 := Lib.hid (fun (x : World) (h : Kept W x) => h.cell hB c2)
  have HPx := Lib.hid (fun (x : World) (h : Kept W x) => (show ProgV x x.heap.size _ _ p from ⟨h.row HP.out.code, h.row HP.out.data⟩))
  have HWB := Lib.hid (fun (x : World) (h : Kept W x) => HW.out.trans (h.mono (Nat.le_of_lt hB)))
  clear c0 c1 c2 HP HW
  refine (imgAlive_any _).mono ?_; rintro e w1 ⟨rfl, hb1⟩
  have k1 : Kept W w1 := hb1
  have c0 := C0.out _ k1
  have c1 := C1.out _ k1
  have c2 := C2.out _ k1
  clear hb1
  go_wp2_with fail
  refine (few_any A D p.code.length c p.data.length d p.size _ (by omega) (by omega)).mono ?_; rintro e w2 ⟨rfl, hb2⟩
  rw [HF.out]
  have k2 := k1.to hb2
  have c0 := C0.out _ k2
  have c1 := C1.out _ k2
  have c2 := C2.out _ k2
  clear hb2 k1
  go_wp2_with fail
  refine (refRight_any A c p.size D p.data.length d p.code _ (HPx.out _ k2).code u3 u4).mono ?_; rintro e w3 ⟨rfl, hb3⟩
  rw [← right_prog, HR.out]
  have k3 := k2.to hb3
  have c0 := C0.out _ k3
  have c1 := C1.out _ k3
  have c2 := C2.out _ k3
  clear hb3 k2
  go_wp2_with fail
  go_ret
  exact ⟨rfl, HWB.out _ k3⟩

set_option maxHeartbeats 1000000 in
theorem imageBack_neg (f : p.Fits) (r : ProgV w w.heap.size (.slice A p.code.length c) (.slice D p.data.length d) p) (hf : fewB p.code.length p.data.length = true) (hr : p.right = true) (ha : a1 < 0) :
    Calls Try.prog 4 #[.agg #[.slice A p.code.length c, .int .i64 p.size, .slice D p.data.length d], .int .i64 a1, .int .u8 a2] w fun e w' => e = .returned (.bool true) ∧ Below w.heap.size w w' := by
  obtain ⟨u1, u2⟩ := r.code.cap
  obtain ⟨u3, u4⟩ := r.data.cap
  have HF := Lib.hid hf
  have HR := Lib.hid hr
  have hB : w.heap.size < (w.alloc (.cells #[.slice A p.code.length c, .int .i64 p.size, .slice D p.data.length d] 25)).heap.size := by simp
  have HP := Lib.hid ((r.alloc (Nat.le_refl _) (.cells #[.slice A p.code.length c, .int .i64 p.size, .slice D p.data.length d] 25)).more (Nat.le_of_lt hB))
  have HW := Lib.hid ((Below.refl w.heap.size w).alloc (Nat.le_refl _) (.cells #[.slice A p.code.length c, .int .i64 p.size, .slice D p.data.length d] 25))
  have c0 : (w.alloc (.cells #[.slice A p.code.length c, .int .i64 p.size, .slice D p.data.length d] 25)).cell? ⟨w.heap.size, 0, none⟩ = some (.slice A p.code.length c) := by go_simp
  have c1 : (w.alloc (.cells #[.slice A p.code.length c, .int .i64 p.size, .slice D p.data.length d] 25)).cell? ⟨w.heap.size, 1, none⟩ = some (.int .i64 p.size) := by go_simp
  have c2 : (w.alloc (.cells #[.slice A p.code.length c, .int .i64 p.size, .slice D p.data.length d] 25)).cell? ⟨w.heap.size, 2, none⟩ = some (.slice D p.data.length d) := by go_simp
  clear hf hr r
  go_enter Try.func4, Try.ntmps4
  go_wp2_with fail
  generalize (w.alloc (.cells #[.slice A p.code.length c, .int .i64 p.size, .slice D p.data.length d] 25)) = W at *
  have C0 := Lib.hid (fun (x : World) (h : Kept W x) => h.cell hB c0)
  have C1 := Lib.hid (fun (x : World) (h : Kept W x) => h.cell hB c1)
  have C2 := Lib.hid (fun (x : World) (h : Kept W x) => h.cell hB c2)
  have HPx := Lib.hid (fun (x : World) (h : Kept W x) => (show ProgV x x.heap.size _ _ p from ⟨h.row HP.out.code, h.row HP.out.data⟩))
  have HWB := Lib.hid (fun (x : World) (h : Kept W x) => HW.out.trans (h.mono (Nat.le_of_lt hB)))
  clear c0 c1 c2 HP HW
  refine (imgAlive_any _).mono ?_; rintro e w1 ⟨rfl, hb1⟩
  have k1 : Kept W w1 := hb1
  have c0 := C0.out _ k1
  have c1 := C1.out _ k1
  have c2 := C2.out _ k1
  clear hb1
  go_wp2_with fail
  refine (few_any A D p.code.length c p.data.length d p.size _ (by omega) (by omega)).mono ?_; rintro e w2 ⟨rfl, hb2⟩
  rw [HF.out]
  have k2 := k1.to hb2
  have c0 := C0.out _ k2
  have c1 := C1.out _ k2
  have c2 := C2.out _ k2
  clear hb2 k1
  go_wp2_with fail
  refine (refRight_any A c p.size D p.data.length d p.code _ (HPx.out _ k2).code u3 u4).mono ?_; rintro e w3 ⟨rfl, hb3⟩
  rw [← right_prog, HR.out]
  have k3 := k2.to hb3
  have c0 := C0.out _ k3
  have c1 := C1.out _ k3
  have c2 := C2.out _ k3
  clear hb3 k2
  go_wp2_with fail
  go_ret
  exact ⟨rfl, HWB.out _ k3⟩

set_option maxHeartbeats 2000000 in
theorem imageBack_main (f : p.Fits) (r : ProgV w w.heap.size (.slice A p.code.length c) (.slice D p.data.length d) p) (hf : fewB p.code.length p.data.length = true) (hr : p.right = true) (ha : 0 ≤ a1) (h2 : 0 ≤ a2 ∧ a2 ≤ 255) :
    Calls Try.prog 4 #[.agg #[.slice A p.code.length c, .int .i64 p.size, .slice D p.data.length d], .int .i64 a1, .int .u8 a2] w fun e w' => e = .returned (.bool true) ∧ Below w.heap.size w w' := by
  have HFf := Lib.hid f
  obtain ⟨i0, hi, hz0, hz1, hz2⟩ := info_parts info_u8
  have HZ2 := Lib.hid hz2
  clear hz2
  have HF0 := Lib.hid (few_yes hf)
  obtain ⟨u1, u2⟩ := r.code.cap
  obtain ⟨u3, u4⟩ := r.data.cap
  have HF := Lib.hid hf
  have HR := Lib.hid hr
  have hB : w.heap.size < (w.alloc (.cells #[.slice A p.code.length c, .int .i64 p.size, .slice D p.data.length d] 25)).heap.size := by simp
  have HP := Lib.hid ((r.alloc (Nat.le_refl _) (.cells #[.slice A p.code.length c, .int .i64 p.size, .slice D p.data.length d] 25)).more (Nat.le_of_lt hB))
  have HW := Lib.hid ((Below.refl w.heap.size w).alloc (Nat.le_refl _) (.cells #[.slice A p.code.length c, .int .i64 p.size, .slice D p.data.length d] 25))
  have c0 : (w.alloc (.cells #[.slice A p.code.length c, .int .i64 p.size, .slice D p.data.length d] 25)).cell? ⟨w.heap.size, 0, none⟩ = some (.slice A p.code.length c) := by go_simp
  have c1 : (w.alloc (.cells #[.slice A p.code.length c, .int .i64 p.size, .slice D p.data.length d] 25)).cell? ⟨w.heap.size, 1, none⟩ = some (.int .i64 p.size) := by go_simp
  have c2 : (w.alloc (.cells #[.slice A p.code.length c, .int .i64 p.size, .slice D p.data.length d] 25)).cell? ⟨w.heap.size, 2, none⟩ = some (.slice D p.data.length d) := by go_simp
  clear hf hr r
  go_enter Try.func4, Try.ntmps4
  go_wp2_with fail
  generalize (w.alloc (.cells #[.slice A p.code.length c, .int .i64 p.size, .slice D p.data.length d] 25)) = W at *
  have C0 := Lib.hid (fun (x : World) (h : Kept W x) => h.cell hB c0)
  have C1 := Lib.hid (fun (x : World) (h : Kept W x) => h.cell hB c1)
  have C2 := Lib.hid (fun (x : World) (h : Kept W x) => h.cell hB c2)
  have HPx := Lib.hid (fun (x : World) (h : Kept W x) => (show ProgV x x.heap.size _ _ p from ⟨h.row HP.out.code, h.row HP.out.data⟩))
  have HWB := Lib.hid (fun (x : World) (h : Kept W x) => HW.out.trans (h.mono (Nat.le_of_lt hB)))
  clear c0 c1 c2 HP HW
  refine (imgAlive_any _).mono ?_; rintro e w1 ⟨rfl, hb1⟩
  have k1 : Kept W w1 := hb1
  have c0 := C0.out _ k1
  have c1 := C1.out _ k1
  have c2 := C2.out _ k1
  clear hb1
  go_wp2_with fail
  refine (few_any A D p.code.length c p.data.length d p.size _ (by omega) (by omega)).mono ?_; rintro e w2 ⟨rfl, hb2⟩
  rw [HF.out]
  have k2 := k1.to hb2
  have c0 := C0.out _ k2
  have c1 := C1.out _ k2
  have c2 := C2.out _ k2
  clear hb2 k1
  go_wp2_with fail
  refine (refRight_any A c p.size D p.data.length d p.code _ (HPx.out _ k2).code u3 u4).mono ?_; rintro e w3 ⟨rfl, hb3⟩
  rw [← right_prog, HR.out]
  have k3 := k2.to hb3
  have c0 := C0.out _ k3
  have c1 := C1.out _ k3
  have c2 := C2.out _ k3
  clear hb3 k2
  go_wp2_with fail
  refine (bytes_any A D c d p _ (HPx.out _ k3)).mono ?_; rintro e w4 ⟨v, rfl, own4, hb4⟩
  have k4 := k3.to hb4
  have c0 := C0.out _ k4
  have c1 := C1.out _ k4
  have c2 := C2.out _ k4
  have hs3 := k3.size
  clear hb4
  have hpr := HR.out
  have hbytes := Lib.hid (imgZ_bytes hpr HFf.out.2.2)
  have hback := Lib.hid (img_back hpr)
  have hoth := Lib.hid (fun zs h g => img_other hpr (zs := zs) h g)
  have hlen := imgZ_len p
  rw [imgOf_yes hpr] at own4
  obtain ⟨g, cap, rfl, hg0, hg1⟩ := own_form own4 (by omega)
  generalize hZ : imgZ p = zs at *
  have HZ := Lib.hid hZ
  generalize hL : zs.length = L at *
  have HL := Lib.hid hL
  have HLen := Lib.hid hlen
  have L1 : 16 ≤ L := by omega
  obtain ⟨l1, l2⟩ := HF0.out
  have L2 : L ≤ 2000 := by omega
  clear hZ hL hlen hpr l1 l2
  have hR4 := Row.of_own own4
  have hcap := hR4.cap
  go_wp2_with fail
  refine (imgRead_len HL.out hR4 hbytes.out).mono ?_; rintro e w5 ⟨vc, vd, rfl, hP5, hb5⟩
  rw [hback.out.1, hback.out.2]
  rw [hback.out.2] at hP5
  obtain ⟨A5, c5, rfl⟩ := (Row.of_own hP5.code).form
  obtain ⟨D5, d5, rfl⟩ := (Row.of_own hP5.data).form
  have kw5 : Kept w4 w5 := hb5
  have hs5 : g < w5.heap.size := by have := hb5.size; omega
  clear hb5
  have hk0 : 0 ≤ a1 % (L : Int) := Int.emod_nonneg _ (by omega)
  have hk1 : a1 % (L : Int) < L := Int.emod_lt_of_pos _ (by omega)
  go_wp2_with fail
  have hk2 : (a1 % (L : Int)).toNat < L := by omega
  generalize (a1 % (L : Int)).toNat = k at *
  have x0 : (w5.alloc (.cells #[.slice A5 p.code.length c5, .int .i64 p.size, .slice D5 p.data.length d5] 25)).cell? ⟨w5.heap.size, 0, none⟩ = some (.slice A5 p.code.length c5) := by go_simp
  have x1 : (w5.alloc (.cells #[.slice A5 p.code.length c5, .int .i64 p.size, .slice D5 p.data.length d5] 25)).cell? ⟨w5.heap.size, 1, none⟩ = some (.int .i64 p.size) := by go_simp
  have x2 : (w5.alloc (.cells #[.slice A5 p.code.length c5, .int .i64 p.size, .slice D5 p.data.length d5] 25)).cell? ⟨w5.heap.size, 2, none⟩ = some (.slice D5 p.data.length d5) := by go_simp
  have k6 : Kept w5 (w5.alloc (.cells #[.slice A5 p.code.length c5, .int .i64 p.size, .slice D5 p.data.length d5] 25)) := (Kept.refl w5).alloc _
  have hs6 : w5.heap.size < (w5.alloc (.cells #[.slice A5 p.code.length c5, .int .i64 p.size, .slice D5 p.data.length d5] 25)).heap.size := by simp
  clear hk0 hk1
  generalize (w5.alloc (.cells #[.slice A5 p.code.length c5, .int .i64 p.size, .slice D5 p.data.length d5] 25)) = W6 at *
  have hR6 := (kw5.trans k6).row hR4
  refine (imgRead_len (zs := zs.take k) (by rw [List.length_take, HL.out]; omega) (hR6.front (by omega)) (fun b hb => hbytes.out b (List.mem_of_mem_take hb))).mono ?_; rintro e w7 ⟨vc7, vd7, rfl, hP7, hb7⟩
  have ho := hoth.out (zs.take k) (by
    rw [List.length_take, HL.out]
    by_cases h16 : k < 16
    · exact .inl (by omega)
    · exact .inr (by rw [List.take_take, Nat.min_eq_left (by omega)])) (by rw [List.length_take, HL.out]; omega)
  rw [ho.1, ho.2]
  rw [ho.2] at hP7
  clear ho
  obtain ⟨A7, c7, rfl⟩ := (Row.of_own hP7.code).form
  obtain ⟨D7, d7, rfl⟩ := (Row.of_own hP7.data).form
  have k7 : Kept W6 w7 := hb7
  have k8 : Kept W6 (w7.alloc (.cells #[.slice A7 0 c7, .int .i64 0, .slice D7 0 d7] 25)) := k7.alloc _
  have own8 := own_below own4 (((kw5.trans k6).trans k8))
  have hs8 : (w7.alloc (.cells #[.slice A7 0 c7, .int .i64 0, .slice D7 0 d7] 25)).heap.size = w7.heap.size + 1 := by simp
  have hs7 := hb7.size
  have hg4 : w3.heap.size ≤ g := hg0
  clear hb7 hR6 hP7 hR4
  dsimp only [List.length_nil]
  go_wp2_with (at_builtin; refine wpList_append_own _ rfl (.tmp 54) (.tmp 56) 23 rfl w3.heap.size 5 i0 (.int .u8 0) 1 1 Try.underlying23 hi hz0 hz1 HZ2.out rfl (by omega) (.slice (some ⟨g, 0, none⟩) L cap) L _ rfl (own8.alloc _) ⟨w7.heap.size + 1, 0, none⟩ 1 1 [.int .u8 a2] rfl rfl (new_cells1 w7 _ _ _ _ rfl) (u8_one [a2]) (by unfold maxLen; omega) (by omega) (by simp; omega) ?_; intro v9 w9 hown9 hg9 _; obtain ⟨A9, c9, rfl⟩ := (Row.of_own hown9).form)
  have kP : Kept W ((w7.alloc (.cells #[.slice A7 0 c7, .int .i64 0, .slice D7 0 d7] 25)).alloc (.cells #[.int .u8 a2] 5)) := ((((k4.trans kw5).trans k6).trans k8).alloc _)
  have kP9 : Kept W w9 := Below.grown kP hg9 kP.size (fun k hk => by
    have : k = g := by simpa [Value.ownBlock] using hk.symm
    have := k3.size; omega)
  have y0 : w9.cell? ⟨w5.heap.size, 0, none⟩ = some (.slice A5 p.code.length c5) := (grown_cell hg9 0 (by omega) (by simp [Value.ownBlock]; omega)).trans (k8.cell hs6 x0)
  have y1 : w9.cell? ⟨w5.heap.size, 1, none⟩ = some (.int .i64 p.size) := (grown_cell hg9 1 (by omega) (by simp [Value.ownBlock]; omega)).trans (k8.cell hs6 x1)
  have y2 : w9.cell? ⟨w5.heap.size, 2, none⟩ = some (.slice D5 p.data.length d5) := (grown_cell hg9 2 (by omega) (by simp [Value.ownBlock]; omega)).trans (k8.cell hs6 x2)
  have hs9 : w5.heap.size < w9.heap.size := by have := hg9.size; simp at this; omega
  have hne : ∀ {v : Value} {e : TypeId} {s n : Nat} {xs : List Value}, w5.ownsRow w4.heap.size e s v n xs → ∀ q, v.ownBlock = some q → some q ≠ (Value.slice (some ⟨g, 0, none⟩) L cap).ownBlock := fun h q hq hh => by
    have h1 := (h.lt q hq).1
    have : q = g := by simpa [Value.ownBlock] using hh
    omega
  have kE : Kept w5 ((w7.alloc (.cells #[.slice A7 0 c7, .int .i64 0, .slice D7 0 d7] 25)).alloc (.cells #[.int .u8 a2] 5)) := ((k6.trans k8).alloc _)
  have hX9 : OwnP w9 w4.heap.size (.slice A5 p.code.length c5) (.slice D5 p.data.length d5) p := ⟨own_grown (own_below hP5.code kE) hg9 (hne hP5.code), own_grown (own_below hP5.data kE) hg9 (hne hP5.data)⟩
  have hR9 := Row.of_own hown9
  clear hg9 kP kE hne x0 x1 x2 k8 k7 hs7 hs8 own8 hown9 hP5 own4 hcap
  have hZs : (zs ++ [a2]).map (Value.int .u8) = zs.map (Value.int .u8) ++ [.int .u8 a2] := by simp
  rw [← hZs] at hR9
  refine (imgRead_len (zs := zs ++ [a2]) (by rw [List.length_append, HL.out]; rfl) hR9 (fun b hb => by
    rcases List.mem_append.1 hb with h | h
    · exact hbytes.out b h
    · simp at h; omega)).mono ?_; rintro e w10 ⟨vc9, vd9, rfl, hP9, hb10⟩
  have ho := hoth.out (zs ++ [a2]) (.inr (List.take_append_of_le_length (by rw [HL.out]; omega))) (by rw [List.length_append, HL.out]; simp)
  rw [ho.1, ho.2]
  rw [ho.2] at hP9
  clear ho hZs hR9
  obtain ⟨A10, c10, rfl⟩ := (Row.of_own hP9.code).form
  obtain ⟨D10, d10, rfl⟩ := (Row.of_own hP9.data).form
  dsimp only [List.length_nil]
  clear hP9
  have y0 := below_cell hb10 hs9 y0
  have y1 := below_cell hb10 hs9 y1
  have y2 := below_cell hb10 hs9 y2
  have kP10 := kP9.to hb10
  have hX10 : OwnP w10 w4.heap.size (.slice A5 p.code.length c5) (.slice D5 p.data.length d5) p := ⟨own_below hX9.code hb10, own_below hX9.data hb10⟩
  have c0 := C0.out _ kP10
  have c1 := C1.out _ kP10
  have c2 := C2.out _ kP10
  have hs10 : w5.heap.size < w10.heap.size := by have := hb10.size; omega
  have hsw : w.heap.size < w10.heap.size := by have := kP10.size; omega
  clear hb10 hX9 kP9
  have kA : Kept w10 (w10.alloc (.cells #[.slice A10 0 c10, .int .i64 0, .slice D10 0 d10] 25)) := (Kept.refl w10).alloc _
  go_wp2_with fail
  refine (num_any _ _ (by omega)).mono ?_; rintro e w11 ⟨rfl, rfl⟩
  go_wp2_with fail
  have hSame := refSame_any A5 D5 A D c5 d5 c d p p _ (⟨kA.row (Row.of_own hX10.code), kA.row (Row.of_own hX10.data)⟩) (HPx.out _ (kP10.trans kA)) HFf.out.2.2 HFf.out.2.2
  rw [decide_eq_true rfl] at hSame
  refine hSame.mono ?_; rintro e w11 ⟨rfl, hb11⟩
  have k11 := (kP10.trans kA).to hb11
  have c0 := C0.out _ k11
  have c1 := C1.out _ k11
  have c2 := C2.out _ k11
  clear hb11
  go_wp2_with fail
  refine (num_any _ _ (by omega)).mono ?_; rintro e w12 ⟨rfl, rfl⟩
  go_wp2_with fail
  refine (num_any _ _ (by omega)).mono ?_; rintro e w12 ⟨rfl, rfl⟩
  obtain ⟨l1, l2⟩ := HF0.out
  go_wp2_with fail
  go_ret
  exact ⟨ret_bool (by have := HLen.out; rw [beq_iff_eq]; omega), HWB.out _ k11⟩

theorem imageBack_walk (f : p.Fits) (r : ProgV w w.heap.size (.slice A p.code.length c) (.slice D p.data.length d) p) (h1 : -9223372036854775808 ≤ a1 ∧ a1 ≤ 9223372036854775807) (h2 : 0 ≤ a2 ∧ a2 ≤ 255) :
    Calls Try.prog 4 #[.agg #[.slice A p.code.length c, .int .i64 p.size, .slice D p.data.length d], .int .i64 a1, .int .u8 a2] w fun e w' => e = .returned (.bool true) ∧ Below w.heap.size w w' := by
  cases hf : fewB p.code.length p.data.length
  · exact imageBack_few A c D d p a1 a2 w f r hf
  cases hr : p.right
  · exact imageBack_right A c D d p a1 a2 w f r hf hr
  by_cases ha : a1 < 0
  · exact imageBack_neg A c D d p a1 a2 w f r hf hr ha
  · exact imageBack_main A c D d p a1 a2 w f r hf hr (by omega) h2
end
end Go.Proofs.Ythnimeibjannpaa.Words

/- Contract of package image's Bytes: a program's bytes, in memory of the call's own; nothing for one that may not be. -/
import Derived.Test.YthnimeibjannpaaImgRight2
import Derived.Test.YthnimeibjannpaaRefImage
import Derived.Test.YthnimeibjannpaaWordOf
import Derived.OwnWalk
import Derived.Lib.AppendStr
namespace Go.Proofs.Ythnimeibjannpaa.Words
open Go.RowKit
set_option linter.unusedVariables false

set_option maxHeartbeats 1000000 in
theorem appendWord_any {w : World} {base : Nat} {v : Value} {n : Nat} {xs : List Value} (x : Int) (h0 : 0 ≤ x) (h1 : x < 4294967296)
    (hown : w.ownsRow base 5 1 v n xs) (hbase : base ≤ w.heap.size) (hb : n + 4 ≤ 140737488355328) :
    Calls Try.prog 35 #[v, .int .u32 x] w fun e w' =>
      ∃ v', e = .returned v' ∧ w'.ownsRow base 5 1 v' (n + 4) (xs ++ quad x) ∧ Below base w w' := by
  obtain ⟨i0, hi, hz0, hz1, hz2⟩ := info_parts info_u8
  have HZ := Lib.hid hz2
  clear hz2
  have HG := Lib.hid (fun (k : Nat) (hk : v.ownBlock = some k) => (hown.lt k hk).1)
  go_enter Try.func35, Try.ntmps35
  go_wp2_with fail
  refine (put_form (A := none) (n := 0) (c := 0) (xs := []) x h0 h1 (Row.nil _ _ _) (by simp) (by omega)).mono ?_; rintro e w1 ⟨rfl, hO1, hb1⟩
  have hO := own_below hown hb1
  have hs1 : base ≤ w1.heap.size := Nat.le_trans hbase hb1.size
  go_wp2_with (at_builtin; refine wpList_append_row _ rfl (.tmp 5) (.tmp 7) 23 rfl base 5 i0 (.int .u8 0) 1 1 Try.underlying23 hi hz0 hz1 HZ.out rfl (by omega) v n xs rfl hO _ _ 4 (quad x) rfl (Row.of_own hO1) (quad_one x) (by unfold maxLen; omega) (by omega) hs1 ?_; intro v' w2 hown2 hg2)
  go_ret
  exact ⟨_, rfl, hown2, Below.grown (hb1.mono hbase) hg2 hs1 HG.out⟩

set_option maxHeartbeats 1000000 in
theorem bytes_no (A A' : Option Addr) (c c' : Nat) (p : Prog) (w : World) (h : ProgV w w.heap.size (.slice A p.code.length c) (.slice A' p.data.length c') p) (hr : p.right = false) :
    Calls Try.prog 18 #[.agg #[.slice A p.code.length c, .int .i64 p.size, .slice A' p.data.length c']] w fun e w' => e = .returned (.slice none 0 0) ∧ Below w.heap.size w w' := by
  obtain ⟨u1, u2⟩ := h.data.cap
  go_enter Try.func18, Try.ntmps18
  go_wp2_with fail
  refine (imgRight_any A c p.size A' p.data.length c' p.code _ ((h.code.alloc (Nat.le_refl _) _).more (by simp)) u1 u2).mono ?_; rintro e w1 ⟨rfl, hb1⟩
  rw [← right_prog, hr]
  go_wp2_with fail
  go_ret
  exact ⟨rfl, ((Below.refl w.heap.size w).alloc (Nat.le_refl _) _).trans (hb1.mono (by simp))⟩

set_option maxHeartbeats 4000000 in
theorem bytes_yes (A A' : Option Addr) (c c' : Nat) (p : Prog) (w : World) (h : ProgV w w.heap.size (.slice A p.code.length c) (.slice A' p.data.length c') p) (hr : p.right = true) :
    Calls Try.prog 18 #[.agg #[.slice A p.code.length c, .int .i64 p.size, .slice A' p.data.length c']] w fun e w' =>
      ∃ v, e = .returned v ∧ w'.ownsRow w.heap.size 5 1 v (16 + 4 * p.code.length + p.data.length) ((imgZ p).map (Value.int .u8)) ∧ Below w.heap.size w w' := by
  obtain ⟨i0, hi, hz0, hz1, hz2⟩ := info_parts info_u8
  have HZ2 := Lib.hid hz2
  clear hz2
  obtain ⟨⟨n1, n2, n3, n4, n5⟩, hall, _⟩ := right_parts hr
  obtain ⟨u1, u2⟩ := h.data.cap
  obtain ⟨u3, u4⟩ := h.code.cap
  have hB : w.heap.size < (w.alloc (.cells #[.slice A p.code.length c, .int .i64 p.size, .slice A' p.data.length c'] 25)).heap.size := by simp
  have hP := h.alloc (Nat.le_refl _) (.cells #[.slice A p.code.length c, .int .i64 p.size, .slice A' p.data.length c'] 25)
  have HP := Lib.hid (hP.more (Nat.le_of_lt hB))
  have HW := Lib.hid ((Below.refl w.heap.size w).alloc (Nat.le_refl _) (.cells #[.slice A p.code.length c, .int .i64 p.size, .slice A' p.data.length c'] 25))
  have c0 : (w.alloc (.cells #[.slice A p.code.length c, .int .i64 p.size, .slice A' p.data.length c'] 25)).cell? ⟨w.heap.size, 0, none⟩ = some (.slice A p.code.length c) := by go_simp
  have c1 : (w.alloc (.cells #[.slice A p.code.length c, .int .i64 p.size, .slice A' p.data.length c'] 25)).cell? ⟨w.heap.size, 1, none⟩ = some (.int .i64 p.size) := by go_simp
  have c2 : (w.alloc (.cells #[.slice A p.code.length c, .int .i64 p.size, .slice A' p.data.length c'] 25)).cell? ⟨w.heap.size, 2, none⟩ = some (.slice A' p.data.length c') := by go_simp
  go_enter Try.func18, Try.ntmps18
  go_wp2_with fail
  generalize w.alloc (.cells #[.slice A p.code.length c, .int .i64 p.size, .slice A' p.data.length c'] 25) = W at *
  refine (imgRight_any A c p.size A' p.data.length c' p.code _ HP.out.code u1 u2).mono ?_; rintro e w1 ⟨rfl, hb1⟩
  rw [← right_prog, hr]
  have k1 : Kept W w1 := hb1
  have C0 := Lib.hid (fun (x : World) (h : Kept W x) => h.cell hB c0)
  have C1 := Lib.hid (fun (x : World) (h : Kept W x) => h.cell hB c1)
  have C2 := Lib.hid (fun (x : World) (h : Kept W x) => h.cell hB c2)
  clear c0 c1 c2 hb1 hP
  have c0 := C0.out _ k1
  have c1 := C1.out _ k1
  have c2 := C2.out _ k1
  go_wp2_with fail
  refine (numbersOf_any A A' p.code.length c p.data.length c' p.size _ (by omega) (by omega)).mono ?_; rintro e w2 ⟨rfl, hb2⟩
  have k2 := k1.to hb2
  clear hb2 k1 c0 c1 c2
  go_wp2_with fail
  have k3 : Kept W (w2.alloc (.cells #[.int .i64 p.code.length, .int .i64 p.size, .int .i64 p.data.length] 49)) := k2.alloc _
  have e0 : (w2.alloc (.cells #[.int .i64 p.code.length, .int .i64 p.size, .int .i64 p.data.length] 49)).cell? ⟨w2.heap.size, 0, none⟩ = some (.int .i64 p.code.length) := by go_simp
  have e1 : (w2.alloc (.cells #[.int .i64 p.code.length, .int .i64 p.size, .int .i64 p.data.length] 49)).cell? ⟨w2.heap.size, 1, none⟩ = some (.int .i64 p.size) := by go_simp
  have e2 : (w2.alloc (.cells #[.int .i64 p.code.length, .int .i64 p.size, .int .i64 p.data.length] 49)).cell? ⟨w2.heap.size, 2, none⟩ = some (.int .i64 p.data.length) := by go_simp
  have hB2 : w2.heap.size < (w2.alloc (.cells #[.int .i64 p.code.length, .int .i64 p.size, .int .i64 p.data.length] 49)).heap.size := by simp
  generalize w2.alloc (.cells #[.int .i64 p.code.length, .int .i64 p.size, .int .i64 p.data.length] 49) = W2 at *
  have E0 := Lib.hid (fun (x : World) (h : Kept W2 x) => h.cell hB2 e0)
  have E1 := Lib.hid (fun (x : World) (h : Kept W2 x) => h.cell hB2 e1)
  have E2 := Lib.hid (fun (x : World) (h : Kept W2 x) => h.cell hB2 e2)
  have HWB := Lib.hid (fun (x : World) (h : Kept W2 x) => HW.out.trans ((k3.trans h).mono (Nat.le_of_lt hB)))
  have C0' := Lib.hid (fun (x : World) (h : Kept W2 x) => C0.out x (k3.trans h))
  have C2' := Lib.hid (fun (x : World) (h : Kept W2 x) => C2.out x (k3.trans h))
  have HP' := Lib.hid (fun (x : World) (h : Kept W2 x) => (show ProgV x x.heap.size _ _ p from ⟨(k3.trans h).row HP.out.code, (k3.trans h).row HP.out.data⟩))
  have hbase : w.heap.size ≤ W2.heap.size := by have := k3.size; omega
  clear C0 C1 C2 e0 e1 e2 HP k2 HW
  refine (length_any p.code.length p.size p.data.length _ (by omega)).mono ?_; rintro e w3 ⟨rfl, hb3⟩
  have k4 : Kept W2 w3 := hb3
  clear hb3
  go_wp2_with (first | (refine wpList_make_own _ rfl (.const (.int .i64 0)) (.tmp 15) 23 rfl W2.heap.size 5 i0 (.int .u8 0) 1 Try.underlying23 hi hz0 hz1 .i64 .i64 (16 + (p.code.length : Int) * 4 + p.data.length) (16 + p.code.length * 4 + p.data.length) rfl rfl (by omega) (by rw [HZ2.out]; omega) (by unfold maxLen; omega) k4.size ?_; intro w4 hown4 hg4; generalize Value.slice (some ⟨w3.heap.size, 0, none⟩) 0 (16 + p.code.length * 4 + p.data.length) = v4 at hown4 ⊢; have k5 : Kept W2 w4 := Below.grown k4 hg4 k4.size (fun k hk => nomatch hk)) | (at_builtin; refine Lib.wpList_append_own_string _ rfl (.tmp 17) (.const (.string ⟨#[83, 82, 73, 1]⟩)) 23 9 rfl W2.heap.size 5 i0 Try.underlying23 Try.underlying9 hi hz0 hz1 HZ2.out v4 0 [] rfl hown4 ⟨#[83, 82, 73, 1]⟩ rfl (by decide) (by decide) k5.size ?_; intro v5 w5 hown5 hg5 _; have k6 : Kept W2 w5 := Below.grown k5 hg5 k5.size (fun k hk => (hown4.lt k hk).1); have own5 : w5.ownsRow W2.heap.size 5 1 v5 4 ([83, 82, 73, 1].map (Value.int .u8)) := hown5; have x0 := E0.out _ k6))
  clear k4 hg4
  clear hg5 hown5 hown4 k5
  refine (of_any _ _).mono ?_; rintro e w6 ⟨rfl, rfl⟩
  rw [show (p.code.length : Int) % 4294967296 = p.code.length by omega]
  go_wp2_with fail
  refine (appendWord_any (p.code.length : Int) (by omega) (by omega) own5 k6.size (by omega)).mono ?_; rintro e w6 ⟨v6, rfl, own6, hb6⟩
  have k7 := k6.up hb6
  have x1 := E1.out _ k7
  clear hb6 own5 k6 x0
  go_wp2_with fail
  refine (of_any _ _).mono ?_; rintro e w7 ⟨rfl, rfl⟩
  rw [show p.size % 4294967296 = p.size by omega]
  go_wp2_with fail
  refine (appendWord_any p.size (by omega) (by omega) own6 k7.size (by omega)).mono ?_; rintro e w7 ⟨v7, rfl, own7, hb7⟩
  have k8 := k7.up hb7
  have x2 := E2.out _ k8
  clear hb7 own6 k7 x1
  go_wp2_with fail
  refine (of_any _ _).mono ?_; rintro e w8 ⟨rfl, rfl⟩
  rw [show (p.data.length : Int) % 4294967296 = p.data.length by omega]
  go_wp2_with fail
  refine (appendWord_any (p.data.length : Int) (by omega) (by omega) own7 k8.size (by omega)).mono ?_; rintro e w8 ⟨v8, rfl, own8, hb8⟩
  have k9 := k8.up hb8
  have c0 := C0'.out _ k9
  clear hb8 own7 k8 x2
  have hown : w8.ownsRow W2.heap.size 5 1 v8 (16 + 4 * 0) ((imgHead p.code.length p.size p.data.length ++ codeBytes (p.code.take 0)).map (Value.int .u8)) := own8
  clear own8 E0 E1 E2
  go_wp2_with fail
  have HA := Lib.hid (fun j (h : j < p.code.length) => at_some (l := p.code) (j := j) h)
  have HR := Lib.hid (fun (j : Nat) (i : Ins) (h : p.code[j]? = some i) => all_at hall h)
  have HT := Lib.hid (fun (j : Nat) (i : Ins) (h : p.code[j]? = some i) => codeBytes_take h)
  have HH := Lib.hid (imgHead_len p.code.length p.size p.data.length)
  obtain ⟨b, off, rfl, hb, _⟩ := (HP'.out _ k9).code.at_ (by omega)
  have HC := Lib.hid (fun (x : World) (h : Kept W2 x) (k : Nat) (i : Ins) (hi : p.code[k]? = some i) => (HP'.out x h).code.ins hi)
  have HD := Lib.hid (fun (x : World) (h : Kept W2 x) => (HP'.out x h).data)
  have HI := Lib.hid (show imgZ p = imgHead p.code.length p.size p.data.length ++ codeBytes (p.code.take p.code.length) ++ p.data by rw [List.take_length]; rfl)
  clear HP' hall c0
  generalize imgHead p.code.length p.size p.data.length = hd at *
  generalize hN : p.code.length = n at *
  generalize hM : p.data.length = m at *
  have HN := Lib.hid hN
  have HM := Lib.hid hM
  clear hN hM
  go_loopw [4, 37] (fun bv i wr => ∃ j : Nat, j ≤ n ∧ i = .int .i64 j ∧ Kept W2 wr ∧ wr.ownsRow W2.heap.size 5 1 bv (16 + 4 * j) ((hd ++ codeBytes (p.code.take j)).map (Value.int .u8))) (fun _ i _ => n - (intOf i).toNat)
  case atStart => exact ⟨0, Nat.zero_le _, rfl, k9, hown⟩
  case round =>
    obtain ⟨j, hj, rfl, hK, hO⟩ := hrel
    have c0 := C0'.out _ hK
    by_cases hlt : j < n
    · obtain ⟨i, hi⟩ := HA.out j hlt
      have hri := Lib.hid (HR.out j i hi)
      have ht := Lib.hid (HT.out j i hi)
      obtain ⟨d0, d1, d2, d3, d4⟩ := HC.out _ hK j i hi
      have j0 : (0 : Int) ≤ j := by omega
      have j1 : (j : Int) < n := by omega
      go_wp2_with fail
      refine (encode_yes i _ hri.out).mono ?_; rintro e y1 ⟨rfl, hb1⟩
      have hK0 := hK.alloc (.cells #[.int .i64 i.op, .int .i64 i.d, .int .i64 i.a, .int .i64 i.b, .int .i64 i.imm] 41)
      have hK1 := hK0.to hb1
      have hO1 := own_below (hO.alloc (.cells #[.int .i64 i.op, .int .i64 i.d, .int .i64 i.a, .int .i64 i.b, .int .i64 i.imm] 41)) hb1
      have hen := enc_range hri.out
      clear hb1 d0 d1 d2 d3 d4 hO hi c0
      go_wp2_with fail
      refine (appendWord_any (encZ i) (by omega) (by omega) hO1 hK1.size (by omega)).mono ?_; rintro e y2 ⟨v', rfl, hO2, hb2⟩
      have hK2 := hK1.up hb2
      have hO3 : y2.ownsRow W2.heap.size 5 1 v' (16 + 4 * (j + 1)) ((hd ++ codeBytes (p.code.take (j + 1))).map (Value.int .u8)) := by
        rw [ht.out, ← List.append_assoc, List.map_append, ← quad_map]; exact hO2
      clear hO2 hb2
      go_wp2_with fail
      go_roundw
      case rel => exact ⟨j + 1, by omega, by go_num, hK2, hO3⟩
      case measure => simp [intOf]; omega
    · obtain rfl : j = n := by omega
      have c2 := C2'.out _ hK
      have hD := HD.out _ hK
      go_wp2_with (at_builtin; refine wpList_append_row _ rfl (.tmp 50) (.tmp 52) 23 rfl W2.heap.size 5 i0 (.int .u8 0) 1 1 Try.underlying23 hi hz0 hz1 HZ2.out rfl (by omega) _ _ _ rfl hO _ _ _ _ rfl hD (u8_one _) (by unfold maxLen; omega) (by omega) hK.size ?_; intro v' y1 hown1 hg1)
      have hB2 : Kept W2 y1 := Below.grown hK hg1 hK.size (fun k hk => (hO.lt k hk).1)
      have hfin : y1.ownsRow w.heap.size 5 1 v' (16 + 4 * j + m) ((imgZ p).map (Value.int .u8)) := by
        rw [HI.out, List.map_append]; exact own_base hown1 hbase
      clear hown1 hg1
      go_ret
      exact ⟨_, rfl, by rw [HN.out, HM.out]; exact hfin, HWB.out _ hB2⟩

theorem bytes_any (A A' : Option Addr) (c c' : Nat) (p : Prog) (w : World) (h : ProgV w w.heap.size (.slice A p.code.length c) (.slice A' p.data.length c') p) :
    Calls Try.prog 18 #[.agg #[.slice A p.code.length c, .int .i64 p.size, .slice A' p.data.length c']] w fun e w' =>
      ∃ v, e = .returned v ∧ w'.ownsRow w.heap.size 5 1 v (imgOf p).length ((imgOf p).map (Value.int .u8)) ∧ Below w.heap.size w w' := by
  cases hr : p.right
  · rw [imgOf_no hr]
    exact (bytes_no A A' c c' p w h hr).mono fun e w' ⟨h1, h2⟩ => ⟨_, h1, World.ownsRow_nil _ _ _ _, h2⟩
  · rw [imgOf_yes hr, imgZ_len]
    exact bytes_yes A A' c c' p w h hr
end Go.Proofs.Ythnimeibjannpaa.Words

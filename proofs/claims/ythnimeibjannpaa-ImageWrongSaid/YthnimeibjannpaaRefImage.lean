/- Contract of the document's own ImageBytes: a program's bytes, in memory of the call's own; nothing for one that may not be. -/
import Derived.Test.YthnimeibjannpaaRefRight
import Derived.Test.YthnimeibjannpaaImgMath
import Derived.Test.YthnimeibjannpaaWordPuts
import Derived.Test.YthnimeibjannpaaIsaEncode
import Derived.Test.YthnimeibjannpaaLin
namespace Go.Proofs.Ythnimeibjannpaa.Words
open Go.RowKit
set_option linter.unusedVariables false

theorem quad_map (x : Int) : quad x = (quadZ x).map (Value.int .u8) := rfl
theorem own_below {w w' : World} {base : Nat} {e : TypeId} {size : Nat} {v : Value} {n : Nat} {xs : List Value} (h : w.ownsRow base e size v n xs) (hb : Below w.heap.size w w') : w'.ownsRow base e size v n xs := by
  refine ⟨h.1, ?_⟩
  rcases h.2 with h' | ⟨g, cap, cur, rfl, h1, h2, h3⟩
  · exact .inl h'
  · exact .inr ⟨g, cap, cur, rfl, h1, (hb.block g (Array.getElem?_eq_some_iff.1 h2).1).trans h2, h3⟩
theorem own_base {w : World} {base base' : Nat} {e : TypeId} {size : Nat} {v : Value} {n : Nat} {xs : List Value} (h : w.ownsRow base e size v n xs) (hb : base' ≤ base) : w.ownsRow base' e size v n xs := by
  refine ⟨h.1, ?_⟩
  rcases h.2 with h' | ⟨g, cap, cur, rfl, h1, h2⟩
  · exact .inl h'
  · exact .inr ⟨g, cap, cur, rfl, Nat.le_trans hb h1, h2⟩
theorem Kept.up {W x y : World} (h : Kept W x) (hb : Below W.heap.size x y) : Kept W y := Below.trans h hb
theorem u8_one (l : List Int) : ∀ u ∈ l.map (Value.int .u8), u.oneCell' = true := by
  intro u hu
  obtain ⟨x, _, rfl⟩ := List.mem_map.1 hu
  rfl

set_option maxHeartbeats 1000000 in
theorem refImage_no (A A' : Option Addr) (c c' : Nat) (p : Prog) (w : World) (h : ProgV w w.heap.size (.slice A p.code.length c) (.slice A' p.data.length c') p) (hr : p.right = false) :
    Calls Try.prog 19 #[.agg #[.slice A p.code.length c, .int .i64 p.size, .slice A' p.data.length c']] w fun e w' => e = .returned (.slice none 0 0) ∧ Below w.heap.size w w' := by
  obtain ⟨u1, u2⟩ := h.data.cap
  go_enter Try.func19, Try.ntmps19
  go_wp2_with fail
  refine (refRight_any A c p.size A' p.data.length c' p.code _ ((h.code.alloc (Nat.le_refl _) _).more (by simp)) u1 u2).mono ?_; rintro e w1 ⟨rfl, hb1⟩
  rw [← right_prog, hr]
  go_wp2_with fail
  go_ret
  exact ⟨rfl, ((Below.refl w.heap.size w).alloc (Nat.le_refl _) _).trans (hb1.mono (by simp))⟩

set_option maxHeartbeats 4000000 in
theorem refImage_yes (A A' : Option Addr) (c c' : Nat) (p : Prog) (w : World) (h : ProgV w w.heap.size (.slice A p.code.length c) (.slice A' p.data.length c') p) (hr : p.right = true) :
    Calls Try.prog 19 #[.agg #[.slice A p.code.length c, .int .i64 p.size, .slice A' p.data.length c']] w fun e w' =>
      ∃ v, e = .returned v ∧ w'.ownsRow w.heap.size 5 1 v (16 + 4 * p.code.length + p.data.length) ((imgZ p).map (Value.int .u8)) ∧ Below w.heap.size w w' := by
  obtain ⟨i0, hi, hz0, hz1, hz2⟩ := info_parts info_u8
  have HZ2 := Lib.hid hz2
  clear hz2
  obtain ⟨⟨n1, n2, n3, n4, n5⟩, hall, _⟩ := right_parts hr
  obtain ⟨u1, u2⟩ := h.data.cap
  obtain ⟨u3, u4⟩ := h.code.cap
  have hB : w.heap.size < (w.alloc (.cells #[.slice A p.code.length c, .int .i64 p.size, .slice A' p.data.length c'] 25)).heap.size := by simp
  have hP := h.alloc (Nat.le_refl _) (.cells #[.slice A p.code.length c, .int .i64 p.size, .slice A' p.data.length c'] 25)
  have HP := Lib.hid (hP.more (Nat.le_of_lt hB))
  have HW := Lib.hid ((Below.refl w.heap.size w).alloc (Nat.le_refl _) (.cells #[.slice A p.code.length c, .int .i64 p.size, .slice A' p.data.length c'] 25))
  have c0 : (w.alloc (.cells #[.slice A p.code.length c, .int .i64 p.size, .slice A' p.data.length c'] 25)).cell? ⟨w.heap.size, 0, none⟩ = some (.slice A p.code.length c) := by go_simp
  have c1 : (w.alloc (.cells #[.slice A p.code.length c, .int .i64 p.size, .slice A' p.data.length c'] 25)).cell? ⟨w.heap.size, 1, none⟩ = some (.int .i64 p.size) := by go_simp
  have c2 : (w.alloc (.cells #[.slice A p.code.length c, .int .i64 p.size, .slice A' p.data.length c'] 25)).cell? ⟨w.heap.size, 2, none⟩ = some (.slice A' p.data.length c') := by go_simp
  go_enter Try.func19, Try.ntmps19
  go_wp2_with fail
  generalize w.alloc (.cells #[.slice A p.code.length c, .int .i64 p.size, .slice A' p.data.length c'] 25) = W at *
  refine (refRight_any A c p.size A' p.data.length c' p.code _ HP.out.code u1 u2).mono ?_; rintro e w1 ⟨rfl, hb1⟩
  rw [← right_prog, hr]
  have kW : Kept W w1 := hb1
  have c0 := kW.cell hB c0
  have c1 := kW.cell hB c1
  have c2 := kW.cell hB c2
  have hB1 : w.heap.size < w1.heap.size := by have := kW.size; omega
  have HP1 := Lib.hid (show ProgV w1 w1.heap.size (.slice A p.code.length c) (.slice A' p.data.length c') p from ⟨kW.row HP.out.code, kW.row HP.out.data⟩)
  have HW1 := Lib.hid (HW.out.trans (hb1.mono (Nat.le_of_lt hB)))
  clear hb1 kW hP hr
  go_wp2_with fail
  have C0 : ∀ y, Kept w1 y → y.cell? ⟨w.heap.size, 0, none⟩ = some (.slice A p.code.length c) := fun y h => Kept.cell h hB1 c0
  have C1 : ∀ y, Kept w1 y → y.cell? ⟨w.heap.size, 1, none⟩ = some (.int .i64 p.size) := fun y h => Kept.cell h hB1 c1
  have C2 : ∀ y, Kept w1 y → y.cell? ⟨w.heap.size, 2, none⟩ = some (.slice A' p.data.length c') := fun y h => Kept.cell h hB1 c2
  have k6 : Kept w1 w1.drew := (Kept.refl w1).drew
  clear c0 c1 c2
  have q1 : IntKind.u32.wrap (p.code.length : Int) = p.code.length := by rw [IntKind.wrap_u32]; omega
  have q2 : IntKind.u32.wrap p.size = p.size := by rw [IntKind.wrap_u32]; omega
  have q3 : IntKind.u32.wrap (p.data.length : Int) = p.data.length := by rw [IntKind.wrap_u32]; omega
  refine wp_region_lin [(1, true), (2, true), (3, true), (4, true), (6, true), (7, true), (8, true), (10, true), (11, true), (12, true), (13, true), (0, false), (5, false), (9, false), (14, false), (15, true)]
    (by kernel_rfl) (by kernel_rfl) rfl (by kernel_rfl) (Kept w1) ?_
  simp only [List.map_cons, List.map_nil, List.getElem?_toArray, List.getElem?_cons_succ, List.getElem?_cons_zero]
  iterate 11 (refine lin_take (v := ?_) (by assumption) (by rfl) ?_ ?_; rotate_left; (intro x hx; (try dsimp only at hx); go_simp; try (with_reducible rfl)); (simp only [Act.put, List.setIfInBounds_toArray, List.set_cons_zero, List.set_cons_succ]))
  refine lin_call (by assumption) (by rfl) (fun K hK => ?_)
  go_wp2_with fail
  have own1 := (World.ownsRow_lit (base := w1.heap.size) (size := 1) (e := 5) w1 #[.int .u8 83, .int .u8 82, .int .u8 73, .int .u8 1] 4 (Nat.le_refl _) (by unfold maxLen; omega) rfl).drew
  have k1 : Kept w1 (w1.alloc (.cells #[.int .u8 83, .int .u8 82, .int .u8 73, .int .u8 1] 5)).drew := ((Kept.refl w1).alloc _).drew
  refine hK.out _ _ k1 (fun _ => ?_)
  clear hK K k6
  try simp only [Act.put, List.setIfInBounds_toArray, List.set_cons_zero, List.set_cons_succ]
  refine lin_call (by assumption) (by rfl) (fun K hK => ?_)
  go_simp
  refine (refPut_any (p.code.length : Int) (by omega) (by omega) own1 k1.size (by omega)).mono ?_
  rintro e x2 ⟨v2, rfl, own2, hb⟩
  have k2 := k1.up hb
  clear hb
  go_wp2_with fail
  refine hK.out _ _ k2 (fun _ => ?_)
  clear hK K
  try simp only [Act.put, List.setIfInBounds_toArray, List.set_cons_zero, List.set_cons_succ]
  refine lin_call (by assumption) (by rfl) (fun K hK => ?_)
  go_simp
  refine (refPut_any p.size (by omega) (by omega) own2 k2.size (by omega)).mono ?_
  rintro e x3 ⟨v3, rfl, own3, hb⟩
  have k3 := k2.up hb
  clear hb
  go_wp2_with fail
  refine hK.out _ _ k3 (fun _ => ?_)
  clear hK K
  try simp only [Act.put, List.setIfInBounds_toArray, List.set_cons_zero, List.set_cons_succ]
  refine lin_call (by assumption) (by rfl) (fun K hK => ?_)
  go_simp
  refine (refPut_any (p.data.length : Int) (by omega) (by omega) own3 k3.size (by omega)).mono ?_
  rintro e x4 ⟨v4, rfl, own4, hb⟩
  have k4 := k3.up hb
  clear hb
  go_wp2_with fail
  refine hK.out _ _ k4 (fun _ => ?_)
  clear hK K
  try simp only [Act.put, List.setIfInBounds_toArray, List.set_cons_zero, List.set_cons_succ]
  (refine lin_take (v := ?_) (by assumption) (by rfl) ?_ ?_; rotate_left; (intro x hx; (try dsimp only at hx); go_simp; try (with_reducible rfl)); (simp only [Act.put, List.setIfInBounds_toArray, List.set_cons_zero, List.set_cons_succ]))
  refine lin_done ?_
  have hown : x4.ownsRow w1.heap.size 5 1 v4 (16 + 4 * 0) ((imgHead p.code.length p.size p.data.length ++ codeBytes (p.code.take 0)).map (Value.int .u8)) := own4
  clear own1 own2 own3 own4 k1 k2 k3
  have HA := Lib.hid (fun j (h : j < p.code.length) => at_some (l := p.code) (j := j) h)
  have HR := Lib.hid (fun (j : Nat) (i : Ins) (h : p.code[j]? = some i) => all_at hall h)
  have HT := Lib.hid (fun (j : Nat) (i : Ins) (h : p.code[j]? = some i) => codeBytes_take h)
  have HH := Lib.hid (imgHead_len p.code.length p.size p.data.length)
  obtain ⟨b, off, rfl, hb, _⟩ := HP1.out.code.at_ (by omega)
  have HC := Lib.hid (fun (x : World) (h : Kept w1 x) (k : Nat) (i : Ins) (hi : p.code[k]? = some i) => (h.row HP1.out.code).ins hi)
  have HD := Lib.hid (fun (x : World) (h : Kept w1 x) => h.row HP1.out.data)
  have HI := Lib.hid (show imgZ p = imgHead p.code.length p.size p.data.length ++ codeBytes (p.code.take p.code.length) ++ p.data by rw [List.take_length]; rfl)
  have C0' := Lib.hid C0
  have C2' := Lib.hid C2
  clear C0 C1 C2 HP HP1 hall q1 q2 q3
  generalize imgHead p.code.length p.size p.data.length = hd at *
  generalize hN : p.code.length = n at *
  generalize hM : p.data.length = m at *
  have HN := Lib.hid hN
  have HM := Lib.hid hM
  clear hN hM
  go_wp2_with fail
  go_loopw [3, 4] (fun bv i wr => ∃ j : Nat, j ≤ n ∧ i = .int .i64 j ∧ Kept w1 wr ∧ wr.ownsRow w1.heap.size 5 1 bv (16 + 4 * j) ((hd ++ codeBytes (p.code.take j)).map (Value.int .u8))) (fun _ i _ => n - (intOf i).toNat)
  case atStart => exact ⟨0, Nat.zero_le _, rfl, k4, hown⟩
  case round =>
    obtain ⟨j, hj, rfl, hK, hO⟩ := hrel
    have c0 := C0'.out _ hK
    by_cases hlt : j < n
    · obtain ⟨i, hi⟩ := HA.out j hlt
      have hri := Lib.hid (HR.out j i hi)
      have ht := Lib.hid (HT.out j i hi)
      obtain ⟨d0, d1, d2, d3, d4⟩ := HC.out _ hK j i hi
      have j0 : (0 : Int) ≤ j := by omega
      have j1 : (j : Int) < n := by omega
      go_wp2_with fail
      refine (refEncode_yes i _ hri.out).mono ?_; rintro e y1 ⟨rfl, hb1⟩
      have hK1 := hK.to hb1
      have hO1 := own_below hO hb1
      have hen := enc_range hri.out
      clear hb1 d0 d1 d2 d3 d4 hO hi c0
      go_wp2_with fail
      refine (refPut_any (encZ i) (by omega) (by omega) hO1 hK1.size (by omega)).mono ?_; rintro e y2 ⟨v', rfl, hO2, hb2⟩
      have hK2 := hK1.up hb2
      have hO3 : y2.ownsRow w1.heap.size 5 1 v' (16 + 4 * (j + 1)) ((hd ++ codeBytes (p.code.take (j + 1))).map (Value.int .u8)) := by
        rw [ht.out, ← List.append_assoc, List.map_append, ← quad_map]; exact hO2
      clear hO2 hb2
      go_wp2_with fail
      go_roundw
      case rel => exact ⟨j + 1, by omega, by go_num, hK2, hO3⟩
      case measure => simp [intOf]; omega
    · obtain rfl : j = n := by omega
      have c2 := C2'.out _ hK
      have hD := HD.out _ hK
      go_wp2_with (at_builtin; refine wpList_append_row _ rfl (.tmp 44) (.tmp 46) 23 rfl w1.heap.size 5 i0 (.int .u8 0) 1 1 Try.underlying23 hi hz0 hz1 HZ2.out rfl (by omega) _ _ _ rfl hO _ _ _ _ rfl hD (u8_one _) (by unfold maxLen; omega) (by omega) hK.size ?_; intro v' y1 hown1 hg1)
      have hB2 : Below w1.heap.size w1 y1 := Below.grown hK hg1 hK.size (fun k hk => (hO.lt k hk).1)
      have hfin : y1.ownsRow w.heap.size 5 1 v' (16 + 4 * j + m) ((imgZ p).map (Value.int .u8)) := by
        rw [HI.out, List.map_append]; exact own_base hown1 (Nat.le_of_lt hB1)
      clear hown1 hg1
      go_ret
      exact ⟨_, rfl, by rw [HN.out, HM.out]; exact hfin, HW1.out.trans (hB2.mono (Nat.le_of_lt hB1))⟩

/-- What ImageBytes answers. -/
def imgOf (p : Prog) : List Int := if p.right = true then imgZ p else []
theorem imgOf_yes {p : Prog} (h : p.right = true) : imgOf p = imgZ p := by unfold imgOf; rw [if_pos h]
theorem imgOf_no {p : Prog} (h : p.right = false) : imgOf p = [] := by unfold imgOf; rw [if_neg (by simp [h])]
theorem refImage_any (A A' : Option Addr) (c c' : Nat) (p : Prog) (w : World) (h : ProgV w w.heap.size (.slice A p.code.length c) (.slice A' p.data.length c') p) :
    Calls Try.prog 19 #[.agg #[.slice A p.code.length c, .int .i64 p.size, .slice A' p.data.length c']] w fun e w' =>
      ∃ v, e = .returned v ∧ w'.ownsRow w.heap.size 5 1 v (imgOf p).length ((imgOf p).map (Value.int .u8)) ∧ Below w.heap.size w w' := by
  cases hr : p.right
  · rw [imgOf_no hr]
    exact (refImage_no A A' c c' p w h hr).mono fun e w' ⟨h1, h2⟩ => ⟨_, h1, World.ownsRow_nil _ _ _ _, h2⟩
  · rw [imgOf_yes hr, imgZ_len]
    exact refImage_yes A A' c c' p w h hr
end Go.Proofs.Ythnimeibjannpaa.Words

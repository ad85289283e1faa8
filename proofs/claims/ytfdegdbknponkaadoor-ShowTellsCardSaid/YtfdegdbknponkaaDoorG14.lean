/- Several texts in one: RefCell, OpenCel. -/
import Derived.Test.YtfdegdbknponkaaDoorG11
import Derived.Test.YtfdegdbknponkaaDoorG13

/- Contract of the document's own ShowCell. -/
namespace Go.Proofs.YtfdegdbknponkaaDoor.Words
set_option maxRecDepth 100000
open Go.RowKit Go.Shelf Go.Lib
set_option linter.unusedVariables false
set_option linter.unusedSimpArgs false

theorem txt_isE {a : List UInt8} : ((txt a).toList == []) = decide (a = []) := by
  rw [Lib.toList_data, txt_data]
  cases a <;> rfl


set_option maxHeartbeats 2000000 in
theorem refCell_1 (i : Ins) (reg pc off : Int) (w : World) :
    Calls Tryd.prog 27 #[.agg #[.int .i64 1, .int .i64 i.op, .int .i64 i.d, .int .i64 i.a, .int .i64 i.b, .int .i64 i.imm, .int .i64 reg, .int .i64 pc, .int .i64 off]] w fun e w' => e = .returned (.string (txt (cellZ ⟨1, i, reg, pc, off⟩))) ∧ Below w.heap.size w w' := by
  have cZ := fun y => refShow_any i y
  have hB := Lib.hid (((Below.refl w.heap.size w).alloc (Nat.le_refl _) (.cells #[.int .i64 1, .int .i64 i.op, .int .i64 i.d, .int .i64 i.a, .int .i64 i.b, .int .i64 i.imm, .int .i64 reg, .int .i64 pc, .int .i64 off] 49)).alloc (by simp) (.cells #[.string ⟨#[]⟩, .string ⟨#[100, 111]⟩, .string ⟨#[108, 111, 97, 100]⟩, .string ⟨#[102, 101, 116, 99, 104]⟩, .string ⟨#[115, 116, 111, 114, 101]⟩, .string ⟨#[115, 101, 110, 100]⟩, .string ⟨#[114, 101, 99, 118]⟩, .string ⟨#[112, 111, 112]⟩, .string ⟨#[112, 117, 116]⟩, .string ⟨#[98, 114, 97, 110, 99, 104]⟩, .string ⟨#[102, 111, 108, 108, 111, 119]⟩, .string ⟨#[106, 117, 109, 112]⟩, .string ⟨#[104, 97, 108, 116]⟩] 9))
  have hws : ((w.alloc (.cells #[.int .i64 1, .int .i64 i.op, .int .i64 i.d, .int .i64 i.a, .int .i64 i.b, .int .i64 i.imm, .int .i64 reg, .int .i64 pc, .int .i64 off] 49)).alloc (.cells #[.string ⟨#[]⟩, .string ⟨#[100, 111]⟩, .string ⟨#[108, 111, 97, 100]⟩, .string ⟨#[102, 101, 116, 99, 104]⟩, .string ⟨#[115, 116, 111, 114, 101]⟩, .string ⟨#[115, 101, 110, 100]⟩, .string ⟨#[114, 101, 99, 118]⟩, .string ⟨#[112, 111, 112]⟩, .string ⟨#[112, 117, 116]⟩, .string ⟨#[98, 114, 97, 110, 99, 104]⟩, .string ⟨#[102, 111, 108, 108, 111, 119]⟩, .string ⟨#[106, 117, 109, 112]⟩, .string ⟨#[104, 97, 108, 116]⟩] 9)).heap.size = w.heap.size + 2 := by simp
  cases hr : rightB i
  · have e : cellZ ⟨1, i, reg, pc, off⟩ = [] := by
      have e1 : celParts ⟨1, i, reg, pc, off⟩ = [.s [100, 111, 32], .ins i] := rfl
      have t : (Part.ins i).text = none := if_neg (by rw [hr]; decide)
      unfold cellZ celO
      have e2 : partsTxt [.s [100, 111, 32], .ins i] = none := partsTxt_none (ps := [.s [100, 111, 32]]) [] t
      rw [e1, if_neg (by simp), e2]
      rfl
    rw [e]
    rw [showZ_no hr] at cZ
    have q : ((txt []).toList == []) = true := by rw [Lib.toList_data]; rfl
    clear e
    go_enter Tryd.func27, Tryd.ntmps27
    go_wp2_with fail
    generalize ((w.alloc (.cells #[.int .i64 1, .int .i64 i.op, .int .i64 i.d, .int .i64 i.a, .int .i64 i.b, .int .i64 i.imm, .int .i64 reg, .int .i64 pc, .int .i64 off] 49)).alloc (.cells #[.string ⟨#[]⟩, .string ⟨#[100, 111]⟩, .string ⟨#[108, 111, 97, 100]⟩, .string ⟨#[102, 101, 116, 99, 104]⟩, .string ⟨#[115, 116, 111, 114, 101]⟩, .string ⟨#[115, 101, 110, 100]⟩, .string ⟨#[114, 101, 99, 118]⟩, .string ⟨#[112, 111, 112]⟩, .string ⟨#[112, 117, 116]⟩, .string ⟨#[98, 114, 97, 110, 99, 104]⟩, .string ⟨#[102, 111, 108, 108, 111, 119]⟩, .string ⟨#[106, 117, 109, 112]⟩, .string ⟨#[104, 97, 108, 116]⟩] 9)) = V at *
    refine (cZ _).mono ?_; rintro e w2 ⟨rfl, hb2⟩
    have HB := Lib.hid (hB.out.trans (hb2.mono hB.out.size))
    clear hb2
    go_wp2_with fail
    go_ret
    exact ⟨rfl, HB.out⟩
  · have e : cellZ ⟨1, i, reg, pc, off⟩ = [100, 111, 32] ++ showI i := by
      have e1 : celParts ⟨1, i, reg, pc, off⟩ = [.s [100, 111, 32], .ins i] := rfl
      have t : (Part.ins i).text = some (showI i) := if_pos hr
      unfold cellZ celO
      rw [e1, if_neg (by simp), partsTxt_cons (a := [100, 111, 32]) rfl (partsTxt_some t)]
      rfl
    rw [e]
    rw [showZ_yes hr] at cZ
    have q : ((txt (showI i)).toList == []) = false := by rw [txt_isE]; exact decide_eq_false (showI_ne hr)
    have hl := showI_len hr
    have j : ((⟨#[100, 111]⟩ : ByteArray) ++ (⟨#[32]⟩ : ByteArray)) ++ txt (showI i) = txt ([100, 111, 32] ++ showI i) := by
      rw [show (⟨#[100, 111]⟩ : ByteArray) ++ (⟨#[32]⟩ : ByteArray) = txt [100, 111, 32] by decide, txt_join]
    have u1 : ¬ (((⟨#[100, 111]⟩ : ByteArray)).size + ((⟨#[32]⟩ : ByteArray)).size > 9223372036854775807) := by decide
    have u2 : ¬ (((⟨#[100, 111]⟩ : ByteArray) ++ (⟨#[32]⟩ : ByteArray)).size + (txt (showI i)).size > 9223372036854775807) := by
      rw [show ((⟨#[100, 111]⟩ : ByteArray) ++ (⟨#[32]⟩ : ByteArray)).size = 3 by decide, txt_len]; omega
    have HJ := Lib.hid j
    clear e hl
    generalize txt ([100, 111, 32] ++ showI i) = Z at *
    generalize txt (showI i) = X at *
    go_enter Tryd.func27, Tryd.ntmps27
    go_wp2_with fail
    generalize ((w.alloc (.cells #[.int .i64 1, .int .i64 i.op, .int .i64 i.d, .int .i64 i.a, .int .i64 i.b, .int .i64 i.imm, .int .i64 reg, .int .i64 pc, .int .i64 off] 49)).alloc (.cells #[.string ⟨#[]⟩, .string ⟨#[100, 111]⟩, .string ⟨#[108, 111, 97, 100]⟩, .string ⟨#[102, 101, 116, 99, 104]⟩, .string ⟨#[115, 116, 111, 114, 101]⟩, .string ⟨#[115, 101, 110, 100]⟩, .string ⟨#[114, 101, 99, 118]⟩, .string ⟨#[112, 111, 112]⟩, .string ⟨#[112, 117, 116]⟩, .string ⟨#[98, 114, 97, 110, 99, 104]⟩, .string ⟨#[102, 111, 108, 108, 111, 119]⟩, .string ⟨#[106, 117, 109, 112]⟩, .string ⟨#[104, 97, 108, 116]⟩] 9)) = V at *
    refine (cZ _).mono ?_; rintro e w2 ⟨rfl, hb2⟩
    have HB := Lib.hid (hB.out.trans (hb2.mono hB.out.size))
    clear hb2
    go_wp2_with fail
    go_ret
    exact ⟨by first | rfl | (rw [← HJ.out]; done) | (rw [← HJ.out]; rfl), HB.out⟩


set_option maxHeartbeats 2000000 in
theorem refCell_2 (i : Ins) (reg pc off : Int) (w : World) :
    Calls Tryd.prog 27 #[.agg #[.int .i64 2, .int .i64 i.op, .int .i64 i.d, .int .i64 i.a, .int .i64 i.b, .int .i64 i.imm, .int .i64 reg, .int .i64 pc, .int .i64 off]] w fun e w' => e = .returned (.string (txt (cellZ ⟨2, i, reg, pc, off⟩))) ∧ Below w.heap.size w w' := by
  have cZ := fun y => refShow_any i y
  have hB := Lib.hid (((Below.refl w.heap.size w).alloc (Nat.le_refl _) (.cells #[.int .i64 2, .int .i64 i.op, .int .i64 i.d, .int .i64 i.a, .int .i64 i.b, .int .i64 i.imm, .int .i64 reg, .int .i64 pc, .int .i64 off] 49)).alloc (by simp) (.cells #[.string ⟨#[]⟩, .string ⟨#[100, 111]⟩, .string ⟨#[108, 111, 97, 100]⟩, .string ⟨#[102, 101, 116, 99, 104]⟩, .string ⟨#[115, 116, 111, 114, 101]⟩, .string ⟨#[115, 101, 110, 100]⟩, .string ⟨#[114, 101, 99, 118]⟩, .string ⟨#[112, 111, 112]⟩, .string ⟨#[112, 117, 116]⟩, .string ⟨#[98, 114, 97, 110, 99, 104]⟩, .string ⟨#[102, 111, 108, 108, 111, 119]⟩, .string ⟨#[106, 117, 109, 112]⟩, .string ⟨#[104, 97, 108, 116]⟩] 9))
  have hws : ((w.alloc (.cells #[.int .i64 2, .int .i64 i.op, .int .i64 i.d, .int .i64 i.a, .int .i64 i.b, .int .i64 i.imm, .int .i64 reg, .int .i64 pc, .int .i64 off] 49)).alloc (.cells #[.string ⟨#[]⟩, .string ⟨#[100, 111]⟩, .string ⟨#[108, 111, 97, 100]⟩, .string ⟨#[102, 101, 116, 99, 104]⟩, .string ⟨#[115, 116, 111, 114, 101]⟩, .string ⟨#[115, 101, 110, 100]⟩, .string ⟨#[114, 101, 99, 118]⟩, .string ⟨#[112, 111, 112]⟩, .string ⟨#[112, 117, 116]⟩, .string ⟨#[98, 114, 97, 110, 99, 104]⟩, .string ⟨#[102, 111, 108, 108, 111, 119]⟩, .string ⟨#[106, 117, 109, 112]⟩, .string ⟨#[104, 97, 108, 116]⟩] 9)).heap.size = w.heap.size + 2 := by simp
  cases hr : rightB i
  · have e : cellZ ⟨2, i, reg, pc, off⟩ = [] := by
      have e1 : celParts ⟨2, i, reg, pc, off⟩ = [.s [108, 111, 97, 100, 32], .ins i] := rfl
      have t : (Part.ins i).text = none := if_neg (by rw [hr]; decide)
      unfold cellZ celO
      have e2 : partsTxt [.s [108, 111, 97, 100, 32], .ins i] = none := partsTxt_none (ps := [.s [108, 111, 97, 100, 32]]) [] t
      rw [e1, if_neg (by simp), e2]
      rfl
    rw [e]
    rw [showZ_no hr] at cZ
    have q : ((txt []).toList == []) = true := by rw [Lib.toList_data]; rfl
    clear e
    go_enter Tryd.func27, Tryd.ntmps27
    go_wp2_with fail
    generalize ((w.alloc (.cells #[.int .i64 2, .int .i64 i.op, .int .i64 i.d, .int .i64 i.a, .int .i64 i.b, .int .i64 i.imm, .int .i64 reg, .int .i64 pc, .int .i64 off] 49)).alloc (.cells #[.string ⟨#[]⟩, .string ⟨#[100, 111]⟩, .string ⟨#[108, 111, 97, 100]⟩, .string ⟨#[102, 101, 116, 99, 104]⟩, .string ⟨#[115, 116, 111, 114, 101]⟩, .string ⟨#[115, 101, 110, 100]⟩, .string ⟨#[114, 101, 99, 118]⟩, .string ⟨#[112, 111, 112]⟩, .string ⟨#[112, 117, 116]⟩, .string ⟨#[98, 114, 97, 110, 99, 104]⟩, .string ⟨#[102, 111, 108, 108, 111, 119]⟩, .string ⟨#[106, 117, 109, 112]⟩, .string ⟨#[104, 97, 108, 116]⟩] 9)) = V at *
    refine (cZ _).mono ?_; rintro e w2 ⟨rfl, hb2⟩
    have HB := Lib.hid (hB.out.trans (hb2.mono hB.out.size))
    clear hb2
    go_wp2_with fail
    go_ret
    exact ⟨rfl, HB.out⟩
  · have e : cellZ ⟨2, i, reg, pc, off⟩ = [108, 111, 97, 100, 32] ++ showI i := by
      have e1 : celParts ⟨2, i, reg, pc, off⟩ = [.s [108, 111, 97, 100, 32], .ins i] := rfl
      have t : (Part.ins i).text = some (showI i) := if_pos hr
      unfold cellZ celO
      rw [e1, if_neg (by simp), partsTxt_cons (a := [108, 111, 97, 100, 32]) rfl (partsTxt_some t)]
      rfl
    rw [e]
    rw [showZ_yes hr] at cZ
    have q : ((txt (showI i)).toList == []) = false := by rw [txt_isE]; exact decide_eq_false (showI_ne hr)
    have hl := showI_len hr
    have j : ((⟨#[108, 111, 97, 100]⟩ : ByteArray) ++ (⟨#[32]⟩ : ByteArray)) ++ txt (showI i) = txt ([108, 111, 97, 100, 32] ++ showI i) := by
      rw [show (⟨#[108, 111, 97, 100]⟩ : ByteArray) ++ (⟨#[32]⟩ : ByteArray) = txt [108, 111, 97, 100, 32] by decide, txt_join]
    have u1 : ¬ (((⟨#[108, 111, 97, 100]⟩ : ByteArray)).size + ((⟨#[32]⟩ : ByteArray)).size > 9223372036854775807) := by decide
    have u2 : ¬ (((⟨#[108, 111, 97, 100]⟩ : ByteArray) ++ (⟨#[32]⟩ : ByteArray)).size + (txt (showI i)).size > 9223372036854775807) := by
      rw [show ((⟨#[108, 111, 97, 100]⟩ : ByteArray) ++ (⟨#[32]⟩ : ByteArray)).size = 5 by decide, txt_len]; omega
    have HJ := Lib.hid j
    clear e hl
    generalize txt ([108, 111, 97, 100, 32] ++ showI i) = Z at *
    generalize txt (showI i) = X at *
    go_enter Tryd.func27, Tryd.ntmps27
    go_wp2_with fail
    generalize ((w.alloc (.cells #[.int .i64 2, .int .i64 i.op, .int .i64 i.d, .int .i64 i.a, .int .i64 i.b, .int .i64 i.imm, .int .i64 reg, .int .i64 pc, .int .i64 off] 49)).alloc (.cells #[.string ⟨#[]⟩, .string ⟨#[100, 111]⟩, .string ⟨#[108, 111, 97, 100]⟩, .string ⟨#[102, 101, 116, 99, 104]⟩, .string ⟨#[115, 116, 111, 114, 101]⟩, .string ⟨#[115, 101, 110, 100]⟩, .string ⟨#[114, 101, 99, 118]⟩, .string ⟨#[112, 111, 112]⟩, .string ⟨#[112, 117, 116]⟩, .string ⟨#[98, 114, 97, 110, 99, 104]⟩, .string ⟨#[102, 111, 108, 108, 111, 119]⟩, .string ⟨#[106, 117, 109, 112]⟩, .string ⟨#[104, 97, 108, 116]⟩] 9)) = V at *
    refine (cZ _).mono ?_; rintro e w2 ⟨rfl, hb2⟩
    have HB := Lib.hid (hB.out.trans (hb2.mono hB.out.size))
    clear hb2
    go_wp2_with fail
    go_ret
    exact ⟨by first | rfl | (rw [← HJ.out]; done) | (rw [← HJ.out]; rfl), HB.out⟩


set_option maxHeartbeats 2000000 in
theorem refCell_3 (i : Ins) (reg pc off : Int) (w : World) :
    Calls Tryd.prog 27 #[.agg #[.int .i64 3, .int .i64 i.op, .int .i64 i.d, .int .i64 i.a, .int .i64 i.b, .int .i64 i.imm, .int .i64 reg, .int .i64 pc, .int .i64 off]] w fun e w' => e = .returned (.string (txt (cellZ ⟨3, i, reg, pc, off⟩))) ∧ Below w.heap.size w w' := by
  have cZ := fun y => refShow_any i y
  have hB := Lib.hid (((Below.refl w.heap.size w).alloc (Nat.le_refl _) (.cells #[.int .i64 3, .int .i64 i.op, .int .i64 i.d, .int .i64 i.a, .int .i64 i.b, .int .i64 i.imm, .int .i64 reg, .int .i64 pc, .int .i64 off] 49)).alloc (by simp) (.cells #[.string ⟨#[]⟩, .string ⟨#[100, 111]⟩, .string ⟨#[108, 111, 97, 100]⟩, .string ⟨#[102, 101, 116, 99, 104]⟩, .string ⟨#[115, 116, 111, 114, 101]⟩, .string ⟨#[115, 101, 110, 100]⟩, .string ⟨#[114, 101, 99, 118]⟩, .string ⟨#[112, 111, 112]⟩, .string ⟨#[112, 117, 116]⟩, .string ⟨#[98, 114, 97, 110, 99, 104]⟩, .string ⟨#[102, 111, 108, 108, 111, 119]⟩, .string ⟨#[106, 117, 109, 112]⟩, .string ⟨#[104, 97, 108, 116]⟩] 9))
  have hws : ((w.alloc (.cells #[.int .i64 3, .int .i64 i.op, .int .i64 i.d, .int .i64 i.a, .int .i64 i.b, .int .i64 i.imm, .int .i64 reg, .int .i64 pc, .int .i64 off] 49)).alloc (.cells #[.string ⟨#[]⟩, .string ⟨#[100, 111]⟩, .string ⟨#[108, 111, 97, 100]⟩, .string ⟨#[102, 101, 116, 99, 104]⟩, .string ⟨#[115, 116, 111, 114, 101]⟩, .string ⟨#[115, 101, 110, 100]⟩, .string ⟨#[114, 101, 99, 118]⟩, .string ⟨#[112, 111, 112]⟩, .string ⟨#[112, 117, 116]⟩, .string ⟨#[98, 114, 97, 110, 99, 104]⟩, .string ⟨#[102, 111, 108, 108, 111, 119]⟩, .string ⟨#[106, 117, 109, 112]⟩, .string ⟨#[104, 97, 108, 116]⟩] 9)).heap.size = w.heap.size + 2 := by simp
  cases hr : rightB i
  · have e : cellZ ⟨3, i, reg, pc, off⟩ = [] := by
      have e1 : celParts ⟨3, i, reg, pc, off⟩ = [.s [102, 101, 116, 99, 104, 32], .ins i] := rfl
      have t : (Part.ins i).text = none := if_neg (by rw [hr]; decide)
      unfold cellZ celO
      have e2 : partsTxt [.s [102, 101, 116, 99, 104, 32], .ins i] = none := partsTxt_none (ps := [.s [102, 101, 116, 99, 104, 32]]) [] t
      rw [e1, if_neg (by simp), e2]
      rfl
    rw [e]
    rw [showZ_no hr] at cZ
    have q : ((txt []).toList == []) = true := by rw [Lib.toList_data]; rfl
    clear e
    go_enter Tryd.func27, Tryd.ntmps27
    go_wp2_with fail
    generalize ((w.alloc (.cells #[.int .i64 3, .int .i64 i.op, .int .i64 i.d, .int .i64 i.a, .int .i64 i.b, .int .i64 i.imm, .int .i64 reg, .int .i64 pc, .int .i64 off] 49)).alloc (.cells #[.string ⟨#[]⟩, .string ⟨#[100, 111]⟩, .string ⟨#[108, 111, 97, 100]⟩, .string ⟨#[102, 101, 116, 99, 104]⟩, .string ⟨#[115, 116, 111, 114, 101]⟩, .string ⟨#[115, 101, 110, 100]⟩, .string ⟨#[114, 101, 99, 118]⟩, .string ⟨#[112, 111, 112]⟩, .string ⟨#[112, 117, 116]⟩, .string ⟨#[98, 114, 97, 110, 99, 104]⟩, .string ⟨#[102, 111, 108, 108, 111, 119]⟩, .string ⟨#[106, 117, 109, 112]⟩, .string ⟨#[104, 97, 108, 116]⟩] 9)) = V at *
    refine (cZ _).mono ?_; rintro e w2 ⟨rfl, hb2⟩
    have HB := Lib.hid (hB.out.trans (hb2.mono hB.out.size))
    clear hb2
    go_wp2_with fail
    go_ret
    exact ⟨rfl, HB.out⟩
  · have e : cellZ ⟨3, i, reg, pc, off⟩ = [102, 101, 116, 99, 104, 32] ++ showI i := by
      have e1 : celParts ⟨3, i, reg, pc, off⟩ = [.s [102, 101, 116, 99, 104, 32], .ins i] := rfl
      have t : (Part.ins i).text = some (showI i) := if_pos hr
      unfold cellZ celO
      rw [e1, if_neg (by simp), partsTxt_cons (a := [102, 101, 116, 99, 104, 32]) rfl (partsTxt_some t)]
      rfl
    rw [e]
    rw [showZ_yes hr] at cZ
    have q : ((txt (showI i)).toList == []) = false := by rw [txt_isE]; exact decide_eq_false (showI_ne hr)
    have hl := showI_len hr
    have j : ((⟨#[102, 101, 116, 99, 104]⟩ : ByteArray) ++ (⟨#[32]⟩ : ByteArray)) ++ txt (showI i) = txt ([102, 101, 116, 99, 104, 32] ++ showI i) := by
      rw [show (⟨#[102, 101, 116, 99, 104]⟩ : ByteArray) ++ (⟨#[32]⟩ : ByteArray) = txt [102, 101, 116, 99, 104, 32] by decide, txt_join]
    have u1 : ¬ (((⟨#[102, 101, 116, 99, 104]⟩ : ByteArray)).size + ((⟨#[32]⟩ : ByteArray)).size > 9223372036854775807) := by decide
    have u2 : ¬ (((⟨#[102, 101, 116, 99, 104]⟩ : ByteArray) ++ (⟨#[32]⟩ : ByteArray)).size + (txt (showI i)).size > 9223372036854775807) := by
      rw [show ((⟨#[102, 101, 116, 99, 104]⟩ : ByteArray) ++ (⟨#[32]⟩ : ByteArray)).size = 6 by decide, txt_len]; omega
    have HJ := Lib.hid j
    clear e hl
    generalize txt ([102, 101, 116, 99, 104, 32] ++ showI i) = Z at *
    generalize txt (showI i) = X at *
    go_enter Tryd.func27, Tryd.ntmps27
    go_wp2_with fail
    generalize ((w.alloc (.cells #[.int .i64 3, .int .i64 i.op, .int .i64 i.d, .int .i64 i.a, .int .i64 i.b, .int .i64 i.imm, .int .i64 reg, .int .i64 pc, .int .i64 off] 49)).alloc (.cells #[.string ⟨#[]⟩, .string ⟨#[100, 111]⟩, .string ⟨#[108, 111, 97, 100]⟩, .string ⟨#[102, 101, 116, 99, 104]⟩, .string ⟨#[115, 116, 111, 114, 101]⟩, .string ⟨#[115, 101, 110, 100]⟩, .string ⟨#[114, 101, 99, 118]⟩, .string ⟨#[112, 111, 112]⟩, .string ⟨#[112, 117, 116]⟩, .string ⟨#[98, 114, 97, 110, 99, 104]⟩, .string ⟨#[102, 111, 108, 108, 111, 119]⟩, .string ⟨#[106, 117, 109, 112]⟩, .string ⟨#[104, 97, 108, 116]⟩] 9)) = V at *
    refine (cZ _).mono ?_; rintro e w2 ⟨rfl, hb2⟩
    have HB := Lib.hid (hB.out.trans (hb2.mono hB.out.size))
    clear hb2
    go_wp2_with fail
    go_ret
    exact ⟨by first | rfl | (rw [← HJ.out]; done) | (rw [← HJ.out]; rfl), HB.out⟩


set_option maxHeartbeats 2000000 in
theorem refCell_4 (i : Ins) (reg pc off : Int) (w : World) :
    Calls Tryd.prog 27 #[.agg #[.int .i64 4, .int .i64 i.op, .int .i64 i.d, .int .i64 i.a, .int .i64 i.b, .int .i64 i.imm, .int .i64 reg, .int .i64 pc, .int .i64 off]] w fun e w' => e = .returned (.string (txt (cellZ ⟨4, i, reg, pc, off⟩))) ∧ Below w.heap.size w w' := by
  have cZ := fun y => refShow_any i y
  have hB := Lib.hid (((Below.refl w.heap.size w).alloc (Nat.le_refl _) (.cells #[.int .i64 4, .int .i64 i.op, .int .i64 i.d, .int .i64 i.a, .int .i64 i.b, .int .i64 i.imm, .int .i64 reg, .int .i64 pc, .int .i64 off] 49)).alloc (by simp) (.cells #[.string ⟨#[]⟩, .string ⟨#[100, 111]⟩, .string ⟨#[108, 111, 97, 100]⟩, .string ⟨#[102, 101, 116, 99, 104]⟩, .string ⟨#[115, 116, 111, 114, 101]⟩, .string ⟨#[115, 101, 110, 100]⟩, .string ⟨#[114, 101, 99, 118]⟩, .string ⟨#[112, 111, 112]⟩, .string ⟨#[112, 117, 116]⟩, .string ⟨#[98, 114, 97, 110, 99, 104]⟩, .string ⟨#[102, 111, 108, 108, 111, 119]⟩, .string ⟨#[106, 117, 109, 112]⟩, .string ⟨#[104, 97, 108, 116]⟩] 9))
  have hws : ((w.alloc (.cells #[.int .i64 4, .int .i64 i.op, .int .i64 i.d, .int .i64 i.a, .int .i64 i.b, .int .i64 i.imm, .int .i64 reg, .int .i64 pc, .int .i64 off] 49)).alloc (.cells #[.string ⟨#[]⟩, .string ⟨#[100, 111]⟩, .string ⟨#[108, 111, 97, 100]⟩, .string ⟨#[102, 101, 116, 99, 104]⟩, .string ⟨#[115, 116, 111, 114, 101]⟩, .string ⟨#[115, 101, 110, 100]⟩, .string ⟨#[114, 101, 99, 118]⟩, .string ⟨#[112, 111, 112]⟩, .string ⟨#[112, 117, 116]⟩, .string ⟨#[98, 114, 97, 110, 99, 104]⟩, .string ⟨#[102, 111, 108, 108, 111, 119]⟩, .string ⟨#[106, 117, 109, 112]⟩, .string ⟨#[104, 97, 108, 116]⟩] 9)).heap.size = w.heap.size + 2 := by simp
  cases hr : rightB i
  · have e : cellZ ⟨4, i, reg, pc, off⟩ = [] := by
      have e1 : celParts ⟨4, i, reg, pc, off⟩ = [.s [115, 116, 111, 114, 101, 32], .ins i] := rfl
      have t : (Part.ins i).text = none := if_neg (by rw [hr]; decide)
      unfold cellZ celO
      have e2 : partsTxt [.s [115, 116, 111, 114, 101, 32], .ins i] = none := partsTxt_none (ps := [.s [115, 116, 111, 114, 101, 32]]) [] t
      rw [e1, if_neg (by simp), e2]
      rfl
    rw [e]
    rw [showZ_no hr] at cZ
    have q : ((txt []).toList == []) = true := by rw [Lib.toList_data]; rfl
    clear e
    go_enter Tryd.func27, Tryd.ntmps27
    go_wp2_with fail
    generalize ((w.alloc (.cells #[.int .i64 4, .int .i64 i.op, .int .i64 i.d, .int .i64 i.a, .int .i64 i.b, .int .i64 i.imm, .int .i64 reg, .int .i64 pc, .int .i64 off] 49)).alloc (.cells #[.string ⟨#[]⟩, .string ⟨#[100, 111]⟩, .string ⟨#[108, 111, 97, 100]⟩, .string ⟨#[102, 101, 116, 99, 104]⟩, .string ⟨#[115, 116, 111, 114, 101]⟩, .string ⟨#[115, 101, 110, 100]⟩, .string ⟨#[114, 101, 99, 118]⟩, .string ⟨#[112, 111, 112]⟩, .string ⟨#[112, 117, 116]⟩, .string ⟨#[98, 114, 97, 110, 99, 104]⟩, .string ⟨#[102, 111, 108, 108, 111, 119]⟩, .string ⟨#[106, 117, 109, 112]⟩, .string ⟨#[104, 97, 108, 116]⟩] 9)) = V at *
    refine (cZ _).mono ?_; rintro e w2 ⟨rfl, hb2⟩
    have HB := Lib.hid (hB.out.trans (hb2.mono hB.out.size))
    clear hb2
    go_wp2_with fail
    go_ret
    exact ⟨rfl, HB.out⟩
  · have e : cellZ ⟨4, i, reg, pc, off⟩ = [115, 116, 111, 114, 101, 32] ++ showI i := by
      have e1 : celParts ⟨4, i, reg, pc, off⟩ = [.s [115, 116, 111, 114, 101, 32], .ins i] := rfl
      have t : (Part.ins i).text = some (showI i) := if_pos hr
      unfold cellZ celO
      rw [e1, if_neg (by simp), partsTxt_cons (a := [115, 116, 111, 114, 101, 32]) rfl (partsTxt_some t)]
      rfl
    rw [e]
    rw [showZ_yes hr] at cZ
    have q : ((txt (showI i)).toList == []) = false := by rw [txt_isE]; exact decide_eq_false (showI_ne hr)
    have hl := showI_len hr
    have j : ((⟨#[115, 116, 111, 114, 101]⟩ : ByteArray) ++ (⟨#[32]⟩ : ByteArray)) ++ txt (showI i) = txt ([115, 116, 111, 114, 101, 32] ++ showI i) := by
      rw [show (⟨#[115, 116, 111, 114, 101]⟩ : ByteArray) ++ (⟨#[32]⟩ : ByteArray) = txt [115, 116, 111, 114, 101, 32] by decide, txt_join]
    have u1 : ¬ (((⟨#[115, 116, 111, 114, 101]⟩ : ByteArray)).size + ((⟨#[32]⟩ : ByteArray)).size > 9223372036854775807) := by decide
    have u2 : ¬ (((⟨#[115, 116, 111, 114, 101]⟩ : ByteArray) ++ (⟨#[32]⟩ : ByteArray)).size + (txt (showI i)).size > 9223372036854775807) := by
      rw [show ((⟨#[115, 116, 111, 114, 101]⟩ : ByteArray) ++ (⟨#[32]⟩ : ByteArray)).size = 6 by decide, txt_len]; omega
    have HJ := Lib.hid j
    clear e hl
    generalize txt ([115, 116, 111, 114, 101, 32] ++ showI i) = Z at *
    generalize txt (showI i) = X at *
    go_enter Tryd.func27, Tryd.ntmps27
    go_wp2_with fail
    generalize ((w.alloc (.cells #[.int .i64 4, .int .i64 i.op, .int .i64 i.d, .int .i64 i.a, .int .i64 i.b, .int .i64 i.imm, .int .i64 reg, .int .i64 pc, .int .i64 off] 49)).alloc (.cells #[.string ⟨#[]⟩, .string ⟨#[100, 111]⟩, .string ⟨#[108, 111, 97, 100]⟩, .string ⟨#[102, 101, 116, 99, 104]⟩, .string ⟨#[115, 116, 111, 114, 101]⟩, .string ⟨#[115, 101, 110, 100]⟩, .string ⟨#[114, 101, 99, 118]⟩, .string ⟨#[112, 111, 112]⟩, .string ⟨#[112, 117, 116]⟩, .string ⟨#[98, 114, 97, 110, 99, 104]⟩, .string ⟨#[102, 111, 108, 108, 111, 119]⟩, .string ⟨#[106, 117, 109, 112]⟩, .string ⟨#[104, 97, 108, 116]⟩] 9)) = V at *
    refine (cZ _).mono ?_; rintro e w2 ⟨rfl, hb2⟩
    have HB := Lib.hid (hB.out.trans (hb2.mono hB.out.size))
    clear hb2
    go_wp2_with fail
    go_ret
    exact ⟨by first | rfl | (rw [← HJ.out]; done) | (rw [← HJ.out]; rfl), HB.out⟩


set_option maxHeartbeats 2000000 in
theorem refCell_9 (i : Ins) (reg pc off : Int) (w : World) :
    Calls Tryd.prog 27 #[.agg #[.int .i64 9, .int .i64 i.op, .int .i64 i.d, .int .i64 i.a, .int .i64 i.b, .int .i64 i.imm, .int .i64 reg, .int .i64 pc, .int .i64 off]] w fun e w' => e = .returned (.string (txt (cellZ ⟨9, i, reg, pc, off⟩))) ∧ Below w.heap.size w w' := by
  have cZ := fun y => refShow_any i y
  have hB := Lib.hid (((Below.refl w.heap.size w).alloc (Nat.le_refl _) (.cells #[.int .i64 9, .int .i64 i.op, .int .i64 i.d, .int .i64 i.a, .int .i64 i.b, .int .i64 i.imm, .int .i64 reg, .int .i64 pc, .int .i64 off] 49)).alloc (by simp) (.cells #[.string ⟨#[]⟩, .string ⟨#[100, 111]⟩, .string ⟨#[108, 111, 97, 100]⟩, .string ⟨#[102, 101, 116, 99, 104]⟩, .string ⟨#[115, 116, 111, 114, 101]⟩, .string ⟨#[115, 101, 110, 100]⟩, .string ⟨#[114, 101, 99, 118]⟩, .string ⟨#[112, 111, 112]⟩, .string ⟨#[112, 117, 116]⟩, .string ⟨#[98, 114, 97, 110, 99, 104]⟩, .string ⟨#[102, 111, 108, 108, 111, 119]⟩, .string ⟨#[106, 117, 109, 112]⟩, .string ⟨#[104, 97, 108, 116]⟩] 9))
  have hws : ((w.alloc (.cells #[.int .i64 9, .int .i64 i.op, .int .i64 i.d, .int .i64 i.a, .int .i64 i.b, .int .i64 i.imm, .int .i64 reg, .int .i64 pc, .int .i64 off] 49)).alloc (.cells #[.string ⟨#[]⟩, .string ⟨#[100, 111]⟩, .string ⟨#[108, 111, 97, 100]⟩, .string ⟨#[102, 101, 116, 99, 104]⟩, .string ⟨#[115, 116, 111, 114, 101]⟩, .string ⟨#[115, 101, 110, 100]⟩, .string ⟨#[114, 101, 99, 118]⟩, .string ⟨#[112, 111, 112]⟩, .string ⟨#[112, 117, 116]⟩, .string ⟨#[98, 114, 97, 110, 99, 104]⟩, .string ⟨#[102, 111, 108, 108, 111, 119]⟩, .string ⟨#[106, 117, 109, 112]⟩, .string ⟨#[104, 97, 108, 116]⟩] 9)).heap.size = w.heap.size + 2 := by simp
  cases hr : rightB i
  · have e : cellZ ⟨9, i, reg, pc, off⟩ = [] := by
      have e1 : celParts ⟨9, i, reg, pc, off⟩ = [.s [98, 114, 97, 110, 99, 104, 32], .ins i] := rfl
      have t : (Part.ins i).text = none := if_neg (by rw [hr]; decide)
      unfold cellZ celO
      have e2 : partsTxt [.s [98, 114, 97, 110, 99, 104, 32], .ins i] = none := partsTxt_none (ps := [.s [98, 114, 97, 110, 99, 104, 32]]) [] t
      rw [e1, if_neg (by simp), e2]
      rfl
    rw [e]
    rw [showZ_no hr] at cZ
    have q : ((txt []).toList == []) = true := by rw [Lib.toList_data]; rfl
    clear e
    go_enter Tryd.func27, Tryd.ntmps27
    go_wp2_with fail
    generalize ((w.alloc (.cells #[.int .i64 9, .int .i64 i.op, .int .i64 i.d, .int .i64 i.a, .int .i64 i.b, .int .i64 i.imm, .int .i64 reg, .int .i64 pc, .int .i64 off] 49)).alloc (.cells #[.string ⟨#[]⟩, .string ⟨#[100, 111]⟩, .string ⟨#[108, 111, 97, 100]⟩, .string ⟨#[102, 101, 116, 99, 104]⟩, .string ⟨#[115, 116, 111, 114, 101]⟩, .string ⟨#[115, 101, 110, 100]⟩, .string ⟨#[114, 101, 99, 118]⟩, .string ⟨#[112, 111, 112]⟩, .string ⟨#[112, 117, 116]⟩, .string ⟨#[98, 114, 97, 110, 99, 104]⟩, .string ⟨#[102, 111, 108, 108, 111, 119]⟩, .string ⟨#[106, 117, 109, 112]⟩, .string ⟨#[104, 97, 108, 116]⟩] 9)) = V at *
    refine (cZ _).mono ?_; rintro e w2 ⟨rfl, hb2⟩
    have HB := Lib.hid (hB.out.trans (hb2.mono hB.out.size))
    clear hb2
    go_wp2_with fail
    go_ret
    exact ⟨rfl, HB.out⟩
  · have e : cellZ ⟨9, i, reg, pc, off⟩ = [98, 114, 97, 110, 99, 104, 32] ++ showI i := by
      have e1 : celParts ⟨9, i, reg, pc, off⟩ = [.s [98, 114, 97, 110, 99, 104, 32], .ins i] := rfl
      have t : (Part.ins i).text = some (showI i) := if_pos hr
      unfold cellZ celO
      rw [e1, if_neg (by simp), partsTxt_cons (a := [98, 114, 97, 110, 99, 104, 32]) rfl (partsTxt_some t)]
      rfl
    rw [e]
    rw [showZ_yes hr] at cZ
    have q : ((txt (showI i)).toList == []) = false := by rw [txt_isE]; exact decide_eq_false (showI_ne hr)
    have hl := showI_len hr
    have j : ((⟨#[98, 114, 97, 110, 99, 104]⟩ : ByteArray) ++ (⟨#[32]⟩ : ByteArray)) ++ txt (showI i) = txt ([98, 114, 97, 110, 99, 104, 32] ++ showI i) := by
      rw [show (⟨#[98, 114, 97, 110, 99, 104]⟩ : ByteArray) ++ (⟨#[32]⟩ : ByteArray) = txt [98, 114, 97, 110, 99, 104, 32] by decide, txt_join]
    have u1 : ¬ (((⟨#[98, 114, 97, 110, 99, 104]⟩ : ByteArray)).size + ((⟨#[32]⟩ : ByteArray)).size > 9223372036854775807) := by decide
    have u2 : ¬ (((⟨#[98, 114, 97, 110, 99, 104]⟩ : ByteArray) ++ (⟨#[32]⟩ : ByteArray)).size + (txt (showI i)).size > 9223372036854775807) := by
      rw [show ((⟨#[98, 114, 97, 110, 99, 104]⟩ : ByteArray) ++ (⟨#[32]⟩ : ByteArray)).size = 7 by decide, txt_len]; omega
    have HJ := Lib.hid j
    clear e hl
    generalize txt ([98, 114, 97, 110, 99, 104, 32] ++ showI i) = Z at *
    generalize txt (showI i) = X at *
    go_enter Tryd.func27, Tryd.ntmps27
    go_wp2_with fail
    generalize ((w.alloc (.cells #[.int .i64 9, .int .i64 i.op, .int .i64 i.d, .int .i64 i.a, .int .i64 i.b, .int .i64 i.imm, .int .i64 reg, .int .i64 pc, .int .i64 off] 49)).alloc (.cells #[.string ⟨#[]⟩, .string ⟨#[100, 111]⟩, .string ⟨#[108, 111, 97, 100]⟩, .string ⟨#[102, 101, 116, 99, 104]⟩, .string ⟨#[115, 116, 111, 114, 101]⟩, .string ⟨#[115, 101, 110, 100]⟩, .string ⟨#[114, 101, 99, 118]⟩, .string ⟨#[112, 111, 112]⟩, .string ⟨#[112, 117, 116]⟩, .string ⟨#[98, 114, 97, 110, 99, 104]⟩, .string ⟨#[102, 111, 108, 108, 111, 119]⟩, .string ⟨#[106, 117, 109, 112]⟩, .string ⟨#[104, 97, 108, 116]⟩] 9)) = V at *
    refine (cZ _).mono ?_; rintro e w2 ⟨rfl, hb2⟩
    have HB := Lib.hid (hB.out.trans (hb2.mono hB.out.size))
    clear hb2
    go_wp2_with fail
    go_ret
    exact ⟨by first | rfl | (rw [← HJ.out]; done) | (rw [← HJ.out]; rfl), HB.out⟩


set_option maxHeartbeats 2000000 in
theorem refCell_5 (i : Ins) (reg pc off : Int) (w : World) (hreg : -9223372036854775808 ≤ reg ∧ reg ≤ 9223372036854775807) :
    Calls Tryd.prog 27 #[.agg #[.int .i64 5, .int .i64 i.op, .int .i64 i.d, .int .i64 i.a, .int .i64 i.b, .int .i64 i.imm, .int .i64 reg, .int .i64 pc, .int .i64 off]] w fun e w' => e = .returned (.string (txt (cellZ ⟨5, i, reg, pc, off⟩))) ∧ Below w.heap.size w w' := by
  have hB := Lib.hid (((Below.refl w.heap.size w).alloc (Nat.le_refl _) (.cells #[.int .i64 5, .int .i64 i.op, .int .i64 i.d, .int .i64 i.a, .int .i64 i.b, .int .i64 i.imm, .int .i64 reg, .int .i64 pc, .int .i64 off] 49)).alloc (by simp) (.cells #[.string ⟨#[]⟩, .string ⟨#[100, 111]⟩, .string ⟨#[108, 111, 97, 100]⟩, .string ⟨#[102, 101, 116, 99, 104]⟩, .string ⟨#[115, 116, 111, 114, 101]⟩, .string ⟨#[115, 101, 110, 100]⟩, .string ⟨#[114, 101, 99, 118]⟩, .string ⟨#[112, 111, 112]⟩, .string ⟨#[112, 117, 116]⟩, .string ⟨#[98, 114, 97, 110, 99, 104]⟩, .string ⟨#[102, 111, 108, 108, 111, 119]⟩, .string ⟨#[106, 117, 109, 112]⟩, .string ⟨#[104, 97, 108, 116]⟩] 9))
  have hws : ((w.alloc (.cells #[.int .i64 5, .int .i64 i.op, .int .i64 i.d, .int .i64 i.a, .int .i64 i.b, .int .i64 i.imm, .int .i64 reg, .int .i64 pc, .int .i64 off] 49)).alloc (.cells #[.string ⟨#[]⟩, .string ⟨#[100, 111]⟩, .string ⟨#[108, 111, 97, 100]⟩, .string ⟨#[102, 101, 116, 99, 104]⟩, .string ⟨#[115, 116, 111, 114, 101]⟩, .string ⟨#[115, 101, 110, 100]⟩, .string ⟨#[114, 101, 99, 118]⟩, .string ⟨#[112, 111, 112]⟩, .string ⟨#[112, 117, 116]⟩, .string ⟨#[98, 114, 97, 110, 99, 104]⟩, .string ⟨#[102, 111, 108, 108, 111, 119]⟩, .string ⟨#[106, 117, 109, 112]⟩, .string ⟨#[104, 97, 108, 116]⟩] 9)).heap.size = w.heap.size + 2 := by simp
  by_cases h : 0 ≤ reg ∧ reg ≤ 15
  ·
    have e : cellZ ⟨5, i, reg, pc, off⟩ = [115, 101, 110, 100, 32] ++ regS reg := by
      have e1 : celParts ⟨5, i, reg, pc, off⟩ = [.s [115, 101, 110, 100, 32], .reg reg] := rfl
      have t : (Part.reg reg).text = some (regS reg) := if_pos h
      unfold cellZ celO
      rw [e1, if_neg (by simp), partsTxt_cons (a := [115, 101, 110, 100, 32]) rfl (partsTxt_some t)]
      rfl
    rw [e]
    have cR := fun y => refR_any reg y (by omega)
    have hl := regS_len (n := reg) (by omega)
    have j : ((⟨#[115, 101, 110, 100]⟩ : ByteArray) ++ (⟨#[32]⟩ : ByteArray)) ++ txt (regS reg) = txt ([115, 101, 110, 100, 32] ++ regS reg) := by
      rw [show (⟨#[115, 101, 110, 100]⟩ : ByteArray) ++ (⟨#[32]⟩ : ByteArray) = txt [115, 101, 110, 100, 32] by decide, txt_join]
    have u1 : ¬ (((⟨#[115, 101, 110, 100]⟩ : ByteArray)).size + ((⟨#[32]⟩ : ByteArray)).size > 9223372036854775807) := by decide
    have u2 : ¬ (((⟨#[115, 101, 110, 100]⟩ : ByteArray) ++ (⟨#[32]⟩ : ByteArray)).size + (txt (regS reg)).size > 9223372036854775807) := by
      rw [show ((⟨#[115, 101, 110, 100]⟩ : ByteArray) ++ (⟨#[32]⟩ : ByteArray)).size = 5 by decide, txt_len]; omega
    have HJ := Lib.hid j
    clear e hl
    generalize txt ([115, 101, 110, 100, 32] ++ regS reg) = Z at *
    generalize txt (regS reg) = X at *
    obtain ⟨h0, h1⟩ := h
    have g1 : decide (reg < 0) = false := decide_eq_false (by omega)
    have g2 : decide (15 < reg) = false := decide_eq_false (by omega)
    go_enter Tryd.func27, Tryd.ntmps27
    go_wp2_with (go_at_call 41; refine (cR _).mono ?_; rintro e w2 ⟨rfl, rfl⟩)
    go_ret
    exact ⟨by first | rfl | (rw [← HJ.out]; done) | (rw [← HJ.out]; rfl), hB.out⟩
  · have e : cellZ ⟨5, i, reg, pc, off⟩ = [] := by
      have e1 : celParts ⟨5, i, reg, pc, off⟩ = [.s [115, 101, 110, 100, 32], .reg reg] := rfl
      have t : (Part.reg reg).text = none := if_neg h
      unfold cellZ celO
      have e2 : partsTxt [.s [115, 101, 110, 100, 32], .reg reg] = none := partsTxt_none (ps := [.s [115, 101, 110, 100, 32]]) [] t
      rw [e1, if_neg (by simp), e2]
      rfl
    rw [e]
    clear e
    go_enter Tryd.func27, Tryd.ntmps27
    go_wp2
    all_goals first
      | (exfalso; omega)
      | (go_ret; exact ⟨rfl, hB.out⟩)


set_option maxHeartbeats 2000000 in
theorem refCell_6 (i : Ins) (reg pc off : Int) (w : World) (hreg : -9223372036854775808 ≤ reg ∧ reg ≤ 9223372036854775807) :
    Calls Tryd.prog 27 #[.agg #[.int .i64 6, .int .i64 i.op, .int .i64 i.d, .int .i64 i.a, .int .i64 i.b, .int .i64 i.imm, .int .i64 reg, .int .i64 pc, .int .i64 off]] w fun e w' => e = .returned (.string (txt (cellZ ⟨6, i, reg, pc, off⟩))) ∧ Below w.heap.size w w' := by
  have hB := Lib.hid (((Below.refl w.heap.size w).alloc (Nat.le_refl _) (.cells #[.int .i64 6, .int .i64 i.op, .int .i64 i.d, .int .i64 i.a, .int .i64 i.b, .int .i64 i.imm, .int .i64 reg, .int .i64 pc, .int .i64 off] 49)).alloc (by simp) (.cells #[.string ⟨#[]⟩, .string ⟨#[100, 111]⟩, .string ⟨#[108, 111, 97, 100]⟩, .string ⟨#[102, 101, 116, 99, 104]⟩, .string ⟨#[115, 116, 111, 114, 101]⟩, .string ⟨#[115, 101, 110, 100]⟩, .string ⟨#[114, 101, 99, 118]⟩, .string ⟨#[112, 111, 112]⟩, .string ⟨#[112, 117, 116]⟩, .string ⟨#[98, 114, 97, 110, 99, 104]⟩, .string ⟨#[102, 111, 108, 108, 111, 119]⟩, .string ⟨#[106, 117, 109, 112]⟩, .string ⟨#[104, 97, 108, 116]⟩] 9))
  have hws : ((w.alloc (.cells #[.int .i64 6, .int .i64 i.op, .int .i64 i.d, .int .i64 i.a, .int .i64 i.b, .int .i64 i.imm, .int .i64 reg, .int .i64 pc, .int .i64 off] 49)).alloc (.cells #[.string ⟨#[]⟩, .string ⟨#[100, 111]⟩, .string ⟨#[108, 111, 97, 100]⟩, .string ⟨#[102, 101, 116, 99, 104]⟩, .string ⟨#[115, 116, 111, 114, 101]⟩, .string ⟨#[115, 101, 110, 100]⟩, .string ⟨#[114, 101, 99, 118]⟩, .string ⟨#[112, 111, 112]⟩, .string ⟨#[112, 117, 116]⟩, .string ⟨#[98, 114, 97, 110, 99, 104]⟩, .string ⟨#[102, 111, 108, 108, 111, 119]⟩, .string ⟨#[106, 117, 109, 112]⟩, .string ⟨#[104, 97, 108, 116]⟩] 9)).heap.size = w.heap.size + 2 := by simp
  by_cases h : 0 ≤ reg ∧ reg ≤ 15
  ·
    have e : cellZ ⟨6, i, reg, pc, off⟩ = [114, 101, 99, 118, 32] ++ regS reg := by
      have e1 : celParts ⟨6, i, reg, pc, off⟩ = [.s [114, 101, 99, 118, 32], .reg reg] := rfl
      have t : (Part.reg reg).text = some (regS reg) := if_pos h
      unfold cellZ celO
      rw [e1, if_neg (by simp), partsTxt_cons (a := [114, 101, 99, 118, 32]) rfl (partsTxt_some t)]
      rfl
    rw [e]
    have cR := fun y => refR_any reg y (by omega)
    have hl := regS_len (n := reg) (by omega)
    have j : ((⟨#[114, 101, 99, 118]⟩ : ByteArray) ++ (⟨#[32]⟩ : ByteArray)) ++ txt (regS reg) = txt ([114, 101, 99, 118, 32] ++ regS reg) := by
      rw [show (⟨#[114, 101, 99, 118]⟩ : ByteArray) ++ (⟨#[32]⟩ : ByteArray) = txt [114, 101, 99, 118, 32] by decide, txt_join]
    have u1 : ¬ (((⟨#[114, 101, 99, 118]⟩ : ByteArray)).size + ((⟨#[32]⟩ : ByteArray)).size > 9223372036854775807) := by decide
    have u2 : ¬ (((⟨#[114, 101, 99, 118]⟩ : ByteArray) ++ (⟨#[32]⟩ : ByteArray)).size + (txt (regS reg)).size > 9223372036854775807) := by
      rw [show ((⟨#[114, 101, 99, 118]⟩ : ByteArray) ++ (⟨#[32]⟩ : ByteArray)).size = 5 by decide, txt_len]; omega
    have HJ := Lib.hid j
    clear e hl
    generalize txt ([114, 101, 99, 118, 32] ++ regS reg) = Z at *
    generalize txt (regS reg) = X at *
    obtain ⟨h0, h1⟩ := h
    have g1 : decide (reg < 0) = false := decide_eq_false (by omega)
    have g2 : decide (15 < reg) = false := decide_eq_false (by omega)
    go_enter Tryd.func27, Tryd.ntmps27
    go_wp2_with (go_at_call 41; refine (cR _).mono ?_; rintro e w2 ⟨rfl, rfl⟩)
    go_ret
    exact ⟨by first | rfl | (rw [← HJ.out]; done) | (rw [← HJ.out]; rfl), hB.out⟩
  · have e : cellZ ⟨6, i, reg, pc, off⟩ = [] := by
      have e1 : celParts ⟨6, i, reg, pc, off⟩ = [.s [114, 101, 99, 118, 32], .reg reg] := rfl
      have t : (Part.reg reg).text = none := if_neg h
      unfold cellZ celO
      have e2 : partsTxt [.s [114, 101, 99, 118, 32], .reg reg] = none := partsTxt_none (ps := [.s [114, 101, 99, 118, 32]]) [] t
      rw [e1, if_neg (by simp), e2]
      rfl
    rw [e]
    clear e
    go_enter Tryd.func27, Tryd.ntmps27
    go_wp2
    all_goals first
      | (exfalso; omega)
      | (go_ret; exact ⟨rfl, hB.out⟩)


set_option maxHeartbeats 2000000 in
theorem refCell_8 (i : Ins) (reg pc off : Int) (w : World) (hreg : -9223372036854775808 ≤ reg ∧ reg ≤ 9223372036854775807) :
    Calls Tryd.prog 27 #[.agg #[.int .i64 8, .int .i64 i.op, .int .i64 i.d, .int .i64 i.a, .int .i64 i.b, .int .i64 i.imm, .int .i64 reg, .int .i64 pc, .int .i64 off]] w fun e w' => e = .returned (.string (txt (cellZ ⟨8, i, reg, pc, off⟩))) ∧ Below w.heap.size w w' := by
  have hB := Lib.hid (((Below.refl w.heap.size w).alloc (Nat.le_refl _) (.cells #[.int .i64 8, .int .i64 i.op, .int .i64 i.d, .int .i64 i.a, .int .i64 i.b, .int .i64 i.imm, .int .i64 reg, .int .i64 pc, .int .i64 off] 49)).alloc (by simp) (.cells #[.string ⟨#[]⟩, .string ⟨#[100, 111]⟩, .string ⟨#[108, 111, 97, 100]⟩, .string ⟨#[102, 101, 116, 99, 104]⟩, .string ⟨#[115, 116, 111, 114, 101]⟩, .string ⟨#[115, 101, 110, 100]⟩, .string ⟨#[114, 101, 99, 118]⟩, .string ⟨#[112, 111, 112]⟩, .string ⟨#[112, 117, 116]⟩, .string ⟨#[98, 114, 97, 110, 99, 104]⟩, .string ⟨#[102, 111, 108, 108, 111, 119]⟩, .string ⟨#[106, 117, 109, 112]⟩, .string ⟨#[104, 97, 108, 116]⟩] 9))
  have hws : ((w.alloc (.cells #[.int .i64 8, .int .i64 i.op, .int .i64 i.d, .int .i64 i.a, .int .i64 i.b, .int .i64 i.imm, .int .i64 reg, .int .i64 pc, .int .i64 off] 49)).alloc (.cells #[.string ⟨#[]⟩, .string ⟨#[100, 111]⟩, .string ⟨#[108, 111, 97, 100]⟩, .string ⟨#[102, 101, 116, 99, 104]⟩, .string ⟨#[115, 116, 111, 114, 101]⟩, .string ⟨#[115, 101, 110, 100]⟩, .string ⟨#[114, 101, 99, 118]⟩, .string ⟨#[112, 111, 112]⟩, .string ⟨#[112, 117, 116]⟩, .string ⟨#[98, 114, 97, 110, 99, 104]⟩, .string ⟨#[102, 111, 108, 108, 111, 119]⟩, .string ⟨#[106, 117, 109, 112]⟩, .string ⟨#[104, 97, 108, 116]⟩] 9)).heap.size = w.heap.size + 2 := by simp
  by_cases h : 0 ≤ reg ∧ reg ≤ 15
  ·
    have e : cellZ ⟨8, i, reg, pc, off⟩ = [112, 117, 116, 32] ++ regS reg := by
      have e1 : celParts ⟨8, i, reg, pc, off⟩ = [.s [112, 117, 116, 32], .reg reg] := rfl
      have t : (Part.reg reg).text = some (regS reg) := if_pos h
      unfold cellZ celO
      rw [e1, if_neg (by simp), partsTxt_cons (a := [112, 117, 116, 32]) rfl (partsTxt_some t)]
      rfl
    rw [e]
    have cR := fun y => refR_any reg y (by omega)
    have hl := regS_len (n := reg) (by omega)
    have j : ((⟨#[112, 117, 116]⟩ : ByteArray) ++ (⟨#[32]⟩ : ByteArray)) ++ txt (regS reg) = txt ([112, 117, 116, 32] ++ regS reg) := by
      rw [show (⟨#[112, 117, 116]⟩ : ByteArray) ++ (⟨#[32]⟩ : ByteArray) = txt [112, 117, 116, 32] by decide, txt_join]
    have u1 : ¬ (((⟨#[112, 117, 116]⟩ : ByteArray)).size + ((⟨#[32]⟩ : ByteArray)).size > 9223372036854775807) := by decide
    have u2 : ¬ (((⟨#[112, 117, 116]⟩ : ByteArray) ++ (⟨#[32]⟩ : ByteArray)).size + (txt (regS reg)).size > 9223372036854775807) := by
      rw [show ((⟨#[112, 117, 116]⟩ : ByteArray) ++ (⟨#[32]⟩ : ByteArray)).size = 4 by decide, txt_len]; omega
    have HJ := Lib.hid j
    clear e hl
    generalize txt ([112, 117, 116, 32] ++ regS reg) = Z at *
    generalize txt (regS reg) = X at *
    obtain ⟨h0, h1⟩ := h
    have g1 : decide (reg < 0) = false := decide_eq_false (by omega)
    have g2 : decide (15 < reg) = false := decide_eq_false (by omega)
    go_enter Tryd.func27, Tryd.ntmps27
    go_wp2_with (go_at_call 41; refine (cR _).mono ?_; rintro e w2 ⟨rfl, rfl⟩)
    go_ret
    exact ⟨by first | rfl | (rw [← HJ.out]; done) | (rw [← HJ.out]; rfl), hB.out⟩
  · have e : cellZ ⟨8, i, reg, pc, off⟩ = [] := by
      have e1 : celParts ⟨8, i, reg, pc, off⟩ = [.s [112, 117, 116, 32], .reg reg] := rfl
      have t : (Part.reg reg).text = none := if_neg h
      unfold cellZ celO
      have e2 : partsTxt [.s [112, 117, 116, 32], .reg reg] = none := partsTxt_none (ps := [.s [112, 117, 116, 32]]) [] t
      rw [e1, if_neg (by simp), e2]
      rfl
    rw [e]
    clear e
    go_enter Tryd.func27, Tryd.ntmps27
    go_wp2
    all_goals first
      | (exfalso; omega)
      | (go_ret; exact ⟨rfl, hB.out⟩)


set_option maxHeartbeats 2000000 in
theorem refCell_7 (i : Ins) (reg pc off : Int) (w : World) :
    Calls Tryd.prog 27 #[.agg #[.int .i64 7, .int .i64 i.op, .int .i64 i.d, .int .i64 i.a, .int .i64 i.b, .int .i64 i.imm, .int .i64 reg, .int .i64 pc, .int .i64 off]] w fun e w' => e = .returned (.string (txt (cellZ ⟨7, i, reg, pc, off⟩))) ∧ Below w.heap.size w w' := by
  have hB := Lib.hid (((Below.refl w.heap.size w).alloc (Nat.le_refl _) (.cells #[.int .i64 7, .int .i64 i.op, .int .i64 i.d, .int .i64 i.a, .int .i64 i.b, .int .i64 i.imm, .int .i64 reg, .int .i64 pc, .int .i64 off] 49)).alloc (by simp) (.cells #[.string ⟨#[]⟩, .string ⟨#[100, 111]⟩, .string ⟨#[108, 111, 97, 100]⟩, .string ⟨#[102, 101, 116, 99, 104]⟩, .string ⟨#[115, 116, 111, 114, 101]⟩, .string ⟨#[115, 101, 110, 100]⟩, .string ⟨#[114, 101, 99, 118]⟩, .string ⟨#[112, 111, 112]⟩, .string ⟨#[112, 117, 116]⟩, .string ⟨#[98, 114, 97, 110, 99, 104]⟩, .string ⟨#[102, 111, 108, 108, 111, 119]⟩, .string ⟨#[106, 117, 109, 112]⟩, .string ⟨#[104, 97, 108, 116]⟩] 9))
  have hws : ((w.alloc (.cells #[.int .i64 7, .int .i64 i.op, .int .i64 i.d, .int .i64 i.a, .int .i64 i.b, .int .i64 i.imm, .int .i64 reg, .int .i64 pc, .int .i64 off] 49)).alloc (.cells #[.string ⟨#[]⟩, .string ⟨#[100, 111]⟩, .string ⟨#[108, 111, 97, 100]⟩, .string ⟨#[102, 101, 116, 99, 104]⟩, .string ⟨#[115, 116, 111, 114, 101]⟩, .string ⟨#[115, 101, 110, 100]⟩, .string ⟨#[114, 101, 99, 118]⟩, .string ⟨#[112, 111, 112]⟩, .string ⟨#[112, 117, 116]⟩, .string ⟨#[98, 114, 97, 110, 99, 104]⟩, .string ⟨#[102, 111, 108, 108, 111, 119]⟩, .string ⟨#[106, 117, 109, 112]⟩, .string ⟨#[104, 97, 108, 116]⟩] 9)).heap.size = w.heap.size + 2 := by simp
  have HX0 := Lib.hid ((Box.new w [.int .i64 7, .int .i64 i.op, .int .i64 i.d, .int .i64 i.a, .int .i64 i.b, .int .i64 i.imm, .int .i64 reg, .int .i64 pc, .int .i64 off] 49).alloc (.cells #[.string ⟨#[]⟩, .string ⟨#[100, 111]⟩, .string ⟨#[108, 111, 97, 100]⟩, .string ⟨#[102, 101, 116, 99, 104]⟩, .string ⟨#[115, 116, 111, 114, 101]⟩, .string ⟨#[115, 101, 110, 100]⟩, .string ⟨#[114, 101, 99, 118]⟩, .string ⟨#[112, 111, 112]⟩, .string ⟨#[112, 117, 116]⟩, .string ⟨#[98, 114, 97, 110, 99, 104]⟩, .string ⟨#[102, 111, 108, 108, 111, 119]⟩, .string ⟨#[106, 117, 109, 112]⟩, .string ⟨#[104, 97, 108, 116]⟩] 9))
  change Hid (Box ((w.alloc (.cells #[.int .i64 7, .int .i64 i.op, .int .i64 i.d, .int .i64 i.a, .int .i64 i.b, .int .i64 i.imm, .int .i64 reg, .int .i64 pc, .int .i64 off] 49)).alloc (.cells #[.string ⟨#[]⟩, .string ⟨#[100, 111]⟩, .string ⟨#[108, 111, 97, 100]⟩, .string ⟨#[102, 101, 116, 99, 104]⟩, .string ⟨#[115, 116, 111, 114, 101]⟩, .string ⟨#[115, 101, 110, 100]⟩, .string ⟨#[114, 101, 99, 118]⟩, .string ⟨#[112, 111, 112]⟩, .string ⟨#[112, 117, 116]⟩, .string ⟨#[98, 114, 97, 110, 99, 104]⟩, .string ⟨#[102, 111, 108, 108, 111, 119]⟩, .string ⟨#[106, 117, 109, 112]⟩, .string ⟨#[104, 97, 108, 116]⟩] 9)) w.heap.size _) at HX0
  have hn7 : ((w.alloc (.cells #[.int .i64 7, .int .i64 i.op, .int .i64 i.d, .int .i64 i.a, .int .i64 i.b, .int .i64 i.imm, .int .i64 reg, .int .i64 pc, .int .i64 off] 49)).alloc (.cells #[.string ⟨#[]⟩, .string ⟨#[100, 111]⟩, .string ⟨#[108, 111, 97, 100]⟩, .string ⟨#[102, 101, 116, 99, 104]⟩, .string ⟨#[115, 116, 111, 114, 101]⟩, .string ⟨#[115, 101, 110, 100]⟩, .string ⟨#[114, 101, 99, 118]⟩, .string ⟨#[112, 111, 112]⟩, .string ⟨#[112, 117, 116]⟩, .string ⟨#[98, 114, 97, 110, 99, 104]⟩, .string ⟨#[102, 111, 108, 108, 111, 119]⟩, .string ⟨#[106, 117, 109, 112]⟩, .string ⟨#[104, 97, 108, 116]⟩] 9)).cell? ⟨w.heap.size + 1, 7, none⟩ = some (.string ⟨#[112, 111, 112]⟩) := by go_simp
  have cI := fun y => rightIns_any i y
  cases hr : rightB i
  · have e : cellZ ⟨7, i, reg, pc, off⟩ = [] := by
      have e1 : celParts ⟨7, i, reg, pc, off⟩ = [] := by
        show (if rightB i = true then [Part.s [112, 111, 112, 32], .reg i.d] else []) = _
        rw [if_neg (by rw [hr]; decide)]
      unfold cellZ celO
      rw [e1, if_pos rfl]
      rfl
    rw [e]
    rw [hr] at cI
    clear e
    go_enter Tryd.func27, Tryd.ntmps27
    go_wp2_with fail
    generalize ((w.alloc (.cells #[.int .i64 7, .int .i64 i.op, .int .i64 i.d, .int .i64 i.a, .int .i64 i.b, .int .i64 i.imm, .int .i64 reg, .int .i64 pc, .int .i64 off] 49)).alloc (.cells #[.string ⟨#[]⟩, .string ⟨#[100, 111]⟩, .string ⟨#[108, 111, 97, 100]⟩, .string ⟨#[102, 101, 116, 99, 104]⟩, .string ⟨#[115, 116, 111, 114, 101]⟩, .string ⟨#[115, 101, 110, 100]⟩, .string ⟨#[114, 101, 99, 118]⟩, .string ⟨#[112, 111, 112]⟩, .string ⟨#[112, 117, 116]⟩, .string ⟨#[98, 114, 97, 110, 99, 104]⟩, .string ⟨#[102, 111, 108, 108, 111, 119]⟩, .string ⟨#[106, 117, 109, 112]⟩, .string ⟨#[104, 97, 108, 116]⟩] 9)) = V at *
    refine (cI _).mono ?_; rintro e w2 ⟨rfl, hb2⟩
    have HB := Lib.hid (hB.out.trans (hb2.mono hB.out.size))
    clear hb2
    go_wp2_with fail
    go_ret
    exact ⟨rfl, HB.out⟩
  · have hd := (right_range hr).2.1
    rw [hr] at cI
    have e : cellZ ⟨7, i, reg, pc, off⟩ = [112, 111, 112, 32] ++ regS i.d := by
      have e1 : celParts ⟨7, i, reg, pc, off⟩ = [.s [112, 111, 112, 32], .reg i.d] := by
        show (if rightB i = true then [Part.s [112, 111, 112, 32], .reg i.d] else []) = _
        rw [if_pos hr]
      have t : (Part.reg i.d).text = some (regS i.d) := if_pos hd
      unfold cellZ celO
      rw [e1, if_neg (by simp), partsTxt_cons (a := [112, 111, 112, 32]) rfl (partsTxt_some t)]
      rfl
    rw [e]
    have cR := fun y => refR_any i.d y (by omega)
    have hl := regS_len (n := i.d) (by omega)
    have j : ((⟨#[112, 111, 112]⟩ : ByteArray) ++ (⟨#[32]⟩ : ByteArray)) ++ txt (regS i.d) = txt ([112, 111, 112, 32] ++ regS i.d) := by
      rw [show (⟨#[112, 111, 112]⟩ : ByteArray) ++ (⟨#[32]⟩ : ByteArray) = txt [112, 111, 112, 32] by decide, txt_join]
    have u1 : ¬ (((⟨#[112, 111, 112]⟩ : ByteArray)).size + ((⟨#[32]⟩ : ByteArray)).size > 9223372036854775807) := by decide
    have u2 : ¬ (((⟨#[112, 111, 112]⟩ : ByteArray) ++ (⟨#[32]⟩ : ByteArray)).size + (txt (regS i.d)).size > 9223372036854775807) := by
      rw [show ((⟨#[112, 111, 112]⟩ : ByteArray) ++ (⟨#[32]⟩ : ByteArray)).size = 4 by decide, txt_len]; omega
    have HJ := Lib.hid j
    clear e hl
    generalize txt ([112, 111, 112, 32] ++ regS i.d) = Z at *
    generalize txt (regS i.d) = X at *
    clear hd
    go_enter Tryd.func27, Tryd.ntmps27
    go_wp2_with fail
    generalize ((w.alloc (.cells #[.int .i64 7, .int .i64 i.op, .int .i64 i.d, .int .i64 i.a, .int .i64 i.b, .int .i64 i.imm, .int .i64 reg, .int .i64 pc, .int .i64 off] 49)).alloc (.cells #[.string ⟨#[]⟩, .string ⟨#[100, 111]⟩, .string ⟨#[108, 111, 97, 100]⟩, .string ⟨#[102, 101, 116, 99, 104]⟩, .string ⟨#[115, 116, 111, 114, 101]⟩, .string ⟨#[115, 101, 110, 100]⟩, .string ⟨#[114, 101, 99, 118]⟩, .string ⟨#[112, 111, 112]⟩, .string ⟨#[112, 117, 116]⟩, .string ⟨#[98, 114, 97, 110, 99, 104]⟩, .string ⟨#[102, 111, 108, 108, 111, 119]⟩, .string ⟨#[106, 117, 109, 112]⟩, .string ⟨#[104, 97, 108, 116]⟩] 9)) = V at *
    refine (cI _).mono ?_; rintro e w2 ⟨rfl, hb2⟩
    have HB := Lib.hid (hB.out.trans (hb2.mono hB.out.size))
    have d2 := (HX0.out.below hb2 HX0.out.lt).cell (k := 2) rfl
    clear hb2
    go_wp2_with (go_at_call 41; refine (cR _).mono ?_; rintro e w3 ⟨rfl, rfl⟩)
    go_ret
    exact ⟨by first | rfl | (rw [← HJ.out]; done) | (rw [← HJ.out]; rfl), HB.out⟩


set_option maxHeartbeats 2000000 in
theorem refCell_10 (i : Ins) (reg pc off : Int) (w : World) :
    Calls Tryd.prog 27 #[.agg #[.int .i64 10, .int .i64 i.op, .int .i64 i.d, .int .i64 i.a, .int .i64 i.b, .int .i64 i.imm, .int .i64 reg, .int .i64 pc, .int .i64 off]] w fun e w' => e = .returned (.string (txt (cellZ ⟨10, i, reg, pc, off⟩))) ∧ Below w.heap.size w w' := by
  have hB := Lib.hid (((Below.refl w.heap.size w).alloc (Nat.le_refl _) (.cells #[.int .i64 10, .int .i64 i.op, .int .i64 i.d, .int .i64 i.a, .int .i64 i.b, .int .i64 i.imm, .int .i64 reg, .int .i64 pc, .int .i64 off] 49)).alloc (by simp) (.cells #[.string ⟨#[]⟩, .string ⟨#[100, 111]⟩, .string ⟨#[108, 111, 97, 100]⟩, .string ⟨#[102, 101, 116, 99, 104]⟩, .string ⟨#[115, 116, 111, 114, 101]⟩, .string ⟨#[115, 101, 110, 100]⟩, .string ⟨#[114, 101, 99, 118]⟩, .string ⟨#[112, 111, 112]⟩, .string ⟨#[112, 117, 116]⟩, .string ⟨#[98, 114, 97, 110, 99, 104]⟩, .string ⟨#[102, 111, 108, 108, 111, 119]⟩, .string ⟨#[106, 117, 109, 112]⟩, .string ⟨#[104, 97, 108, 116]⟩] 9))
  have hws : ((w.alloc (.cells #[.int .i64 10, .int .i64 i.op, .int .i64 i.d, .int .i64 i.a, .int .i64 i.b, .int .i64 i.imm, .int .i64 reg, .int .i64 pc, .int .i64 off] 49)).alloc (.cells #[.string ⟨#[]⟩, .string ⟨#[100, 111]⟩, .string ⟨#[108, 111, 97, 100]⟩, .string ⟨#[102, 101, 116, 99, 104]⟩, .string ⟨#[115, 116, 111, 114, 101]⟩, .string ⟨#[115, 101, 110, 100]⟩, .string ⟨#[114, 101, 99, 118]⟩, .string ⟨#[112, 111, 112]⟩, .string ⟨#[112, 117, 116]⟩, .string ⟨#[98, 114, 97, 110, 99, 104]⟩, .string ⟨#[102, 111, 108, 108, 111, 119]⟩, .string ⟨#[106, 117, 109, 112]⟩, .string ⟨#[104, 97, 108, 116]⟩] 9)).heap.size = w.heap.size + 2 := by simp
  have e : cellZ ⟨10, i, reg, pc, off⟩ = [102, 111, 108, 108, 111, 119] := rfl
  rw [e]
  go_enter Tryd.func27, Tryd.ntmps27
  go_wp2_with fail
  go_ret
  exact ⟨rfl, hB.out⟩


set_option maxHeartbeats 2000000 in
theorem refCell_11 (i : Ins) (reg pc off : Int) (w : World) :
    Calls Tryd.prog 27 #[.agg #[.int .i64 11, .int .i64 i.op, .int .i64 i.d, .int .i64 i.a, .int .i64 i.b, .int .i64 i.imm, .int .i64 reg, .int .i64 pc, .int .i64 off]] w fun e w' => e = .returned (.string (txt (cellZ ⟨11, i, reg, pc, off⟩))) ∧ Below w.heap.size w w' := by
  have hB := Lib.hid (((Below.refl w.heap.size w).alloc (Nat.le_refl _) (.cells #[.int .i64 11, .int .i64 i.op, .int .i64 i.d, .int .i64 i.a, .int .i64 i.b, .int .i64 i.imm, .int .i64 reg, .int .i64 pc, .int .i64 off] 49)).alloc (by simp) (.cells #[.string ⟨#[]⟩, .string ⟨#[100, 111]⟩, .string ⟨#[108, 111, 97, 100]⟩, .string ⟨#[102, 101, 116, 99, 104]⟩, .string ⟨#[115, 116, 111, 114, 101]⟩, .string ⟨#[115, 101, 110, 100]⟩, .string ⟨#[114, 101, 99, 118]⟩, .string ⟨#[112, 111, 112]⟩, .string ⟨#[112, 117, 116]⟩, .string ⟨#[98, 114, 97, 110, 99, 104]⟩, .string ⟨#[102, 111, 108, 108, 111, 119]⟩, .string ⟨#[106, 117, 109, 112]⟩, .string ⟨#[104, 97, 108, 116]⟩] 9))
  have hws : ((w.alloc (.cells #[.int .i64 11, .int .i64 i.op, .int .i64 i.d, .int .i64 i.a, .int .i64 i.b, .int .i64 i.imm, .int .i64 reg, .int .i64 pc, .int .i64 off] 49)).alloc (.cells #[.string ⟨#[]⟩, .string ⟨#[100, 111]⟩, .string ⟨#[108, 111, 97, 100]⟩, .string ⟨#[102, 101, 116, 99, 104]⟩, .string ⟨#[115, 116, 111, 114, 101]⟩, .string ⟨#[115, 101, 110, 100]⟩, .string ⟨#[114, 101, 99, 118]⟩, .string ⟨#[112, 111, 112]⟩, .string ⟨#[112, 117, 116]⟩, .string ⟨#[98, 114, 97, 110, 99, 104]⟩, .string ⟨#[102, 111, 108, 108, 111, 119]⟩, .string ⟨#[106, 117, 109, 112]⟩, .string ⟨#[104, 97, 108, 116]⟩] 9)).heap.size = w.heap.size + 2 := by simp
  have e : cellZ ⟨11, i, reg, pc, off⟩ = [106, 117, 109, 112] := rfl
  rw [e]
  go_enter Tryd.func27, Tryd.ntmps27
  go_wp2_with fail
  go_ret
  exact ⟨rfl, hB.out⟩


set_option maxHeartbeats 2000000 in
theorem refCell_12 (i : Ins) (reg pc off : Int) (w : World) :
    Calls Tryd.prog 27 #[.agg #[.int .i64 12, .int .i64 i.op, .int .i64 i.d, .int .i64 i.a, .int .i64 i.b, .int .i64 i.imm, .int .i64 reg, .int .i64 pc, .int .i64 off]] w fun e w' => e = .returned (.string (txt (cellZ ⟨12, i, reg, pc, off⟩))) ∧ Below w.heap.size w w' := by
  have hB := Lib.hid (((Below.refl w.heap.size w).alloc (Nat.le_refl _) (.cells #[.int .i64 12, .int .i64 i.op, .int .i64 i.d, .int .i64 i.a, .int .i64 i.b, .int .i64 i.imm, .int .i64 reg, .int .i64 pc, .int .i64 off] 49)).alloc (by simp) (.cells #[.string ⟨#[]⟩, .string ⟨#[100, 111]⟩, .string ⟨#[108, 111, 97, 100]⟩, .string ⟨#[102, 101, 116, 99, 104]⟩, .string ⟨#[115, 116, 111, 114, 101]⟩, .string ⟨#[115, 101, 110, 100]⟩, .string ⟨#[114, 101, 99, 118]⟩, .string ⟨#[112, 111, 112]⟩, .string ⟨#[112, 117, 116]⟩, .string ⟨#[98, 114, 97, 110, 99, 104]⟩, .string ⟨#[102, 111, 108, 108, 111, 119]⟩, .string ⟨#[106, 117, 109, 112]⟩, .string ⟨#[104, 97, 108, 116]⟩] 9))
  have hws : ((w.alloc (.cells #[.int .i64 12, .int .i64 i.op, .int .i64 i.d, .int .i64 i.a, .int .i64 i.b, .int .i64 i.imm, .int .i64 reg, .int .i64 pc, .int .i64 off] 49)).alloc (.cells #[.string ⟨#[]⟩, .string ⟨#[100, 111]⟩, .string ⟨#[108, 111, 97, 100]⟩, .string ⟨#[102, 101, 116, 99, 104]⟩, .string ⟨#[115, 116, 111, 114, 101]⟩, .string ⟨#[115, 101, 110, 100]⟩, .string ⟨#[114, 101, 99, 118]⟩, .string ⟨#[112, 111, 112]⟩, .string ⟨#[112, 117, 116]⟩, .string ⟨#[98, 114, 97, 110, 99, 104]⟩, .string ⟨#[102, 111, 108, 108, 111, 119]⟩, .string ⟨#[106, 117, 109, 112]⟩, .string ⟨#[104, 97, 108, 116]⟩] 9)).heap.size = w.heap.size + 2 := by simp
  have e : cellZ ⟨12, i, reg, pc, off⟩ = [104, 97, 108, 116] := rfl
  rw [e]
  go_enter Tryd.func27, Tryd.ntmps27
  go_wp2_with fail
  go_ret
  exact ⟨rfl, hB.out⟩


set_option maxHeartbeats 2000000 in
theorem refCell_no (k : Int) (i : Ins) (reg pc off : Int) (w : World) (hk : k < 1 ∨ 12 < k) :
    Calls Tryd.prog 27 #[.agg #[.int .i64 k, .int .i64 i.op, .int .i64 i.d, .int .i64 i.a, .int .i64 i.b, .int .i64 i.imm, .int .i64 reg, .int .i64 pc, .int .i64 off]] w fun e w' => e = .returned (.string (txt (cellZ ⟨k, i, reg, pc, off⟩))) ∧ Below w.heap.size w w' := by
  have hB := Lib.hid (((Below.refl w.heap.size w).alloc (Nat.le_refl _) (.cells #[.int .i64 k, .int .i64 i.op, .int .i64 i.d, .int .i64 i.a, .int .i64 i.b, .int .i64 i.imm, .int .i64 reg, .int .i64 pc, .int .i64 off] 49)).alloc (by simp) (.cells #[.string ⟨#[]⟩, .string ⟨#[100, 111]⟩, .string ⟨#[108, 111, 97, 100]⟩, .string ⟨#[102, 101, 116, 99, 104]⟩, .string ⟨#[115, 116, 111, 114, 101]⟩, .string ⟨#[115, 101, 110, 100]⟩, .string ⟨#[114, 101, 99, 118]⟩, .string ⟨#[112, 111, 112]⟩, .string ⟨#[112, 117, 116]⟩, .string ⟨#[98, 114, 97, 110, 99, 104]⟩, .string ⟨#[102, 111, 108, 108, 111, 119]⟩, .string ⟨#[106, 117, 109, 112]⟩, .string ⟨#[104, 97, 108, 116]⟩] 9))
  have hws : ((w.alloc (.cells #[.int .i64 k, .int .i64 i.op, .int .i64 i.d, .int .i64 i.a, .int .i64 i.b, .int .i64 i.imm, .int .i64 reg, .int .i64 pc, .int .i64 off] 49)).alloc (.cells #[.string ⟨#[]⟩, .string ⟨#[100, 111]⟩, .string ⟨#[108, 111, 97, 100]⟩, .string ⟨#[102, 101, 116, 99, 104]⟩, .string ⟨#[115, 116, 111, 114, 101]⟩, .string ⟨#[115, 101, 110, 100]⟩, .string ⟨#[114, 101, 99, 118]⟩, .string ⟨#[112, 111, 112]⟩, .string ⟨#[112, 117, 116]⟩, .string ⟨#[98, 114, 97, 110, 99, 104]⟩, .string ⟨#[102, 111, 108, 108, 111, 119]⟩, .string ⟨#[106, 117, 109, 112]⟩, .string ⟨#[104, 97, 108, 116]⟩] 9)).heap.size = w.heap.size + 2 := by simp
  have e : cellZ ⟨k, i, reg, pc, off⟩ = [] := by
    have e1 : celParts ⟨k, i, reg, pc, off⟩ = [] := by
      unfold celParts
      simp only
      rw [if_neg (by omega), if_neg (by omega), if_neg (by omega), if_neg (by omega)]
    unfold cellZ celO
    rw [e1, if_pos rfl]
    rfl
  rw [e]
  clear e
  go_enter Tryd.func27, Tryd.ntmps27
  go_wp2
  all_goals first
    | (exfalso; omega)
    | (go_ret; exact ⟨rfl, hB.out⟩)
theorem refCell_any (c : Cel) (hf : c.Fits) (w : World) :
    Calls Tryd.prog 27 #[.agg #[.int .i64 c.kind, .int .i64 c.ins.op, .int .i64 c.ins.d, .int .i64 c.ins.a, .int .i64 c.ins.b, .int .i64 c.ins.imm, .int .i64 c.reg, .int .i64 c.pc, .int .i64 c.off]] w fun e w' => e = .returned (.string (txt (cellZ c))) ∧ Below w.heap.size w w' := by
  obtain ⟨k, i, reg, pc, off⟩ := c
  have hreg := hf.2.2.1
  by_cases h : k < 1 ∨ 12 < k
  · exact refCell_no k i reg pc off w h
  · have h12 : k = 1 ∨ k = 2 ∨ k = 3 ∨ k = 4 ∨ k = 5 ∨ k = 6 ∨ k = 7 ∨ k = 8 ∨ k = 9 ∨ k = 10 ∨ k = 11 ∨ k = 12 := by omega
    rcases h12 with rfl | rfl | rfl | rfl | rfl | rfl | rfl | rfl | rfl | rfl | rfl | rfl
    · exact refCell_1 i reg pc off w
    · exact refCell_2 i reg pc off w
    · exact refCell_3 i reg pc off w
    · exact refCell_4 i reg pc off w
    · exact refCell_5 i reg pc off w hreg
    · exact refCell_6 i reg pc off w hreg
    · exact refCell_7 i reg pc off w
    · exact refCell_8 i reg pc off w hreg
    · exact refCell_9 i reg pc off w
    · exact refCell_10 i reg pc off w
    · exact refCell_11 i reg pc off w
    · exact refCell_12 i reg pc off w
end Go.Proofs.YtfdegdbknponkaaDoor.Words

/- An argument that is a cell (a struct by value, with an instruction in it): its plain data. -/
namespace Go.Proofs.YtfdegdbknponkaaDoor.Words
set_option maxRecDepth 100000
open Go.ChangeShapes Go.WideShapes Go.ChangeAt Go.RowKit
set_option linter.unusedVariables false
set_option linter.unusedSimpArgs false

section
variable {H : Type} {enc : TypeId × Value → H} {w : World} {base : Nat} {spare : Nat → Bool} {held : Bool}

def celCells (c : Cel) : List Value := [.int .i64 c.kind, .int .i64 c.ins.op, .int .i64 c.ins.d, .int .i64 c.ins.a, .int .i64 c.ins.b, .int .i64 c.ins.imm, .int .i64 c.reg, .int .i64 c.pc, .int .i64 c.off]
theorem cel_cells {fuel : Nat} {cs : List Value} {x : DataW H × List MemPlace} (h : DataW.trod enc Tryd.prog w base spare held fuel 49 cs = some x) :
    ∃ c : Cel, c.Fits ∧ cs = celCells c := by
  obtain ⟨xs, n, _, _, hlen, hxl, hg⟩ := DataW.trod_struct Tryd.underlying49 h
  have hC : Tryd.prog.cellsOf 49 = 9 := by kernel_rfl
  have hc1 : Tryd.prog.cellsOf 3 = 1 := by kernel_rfl
  have hc5 : Tryd.prog.cellsOf 38 = 5 := by kernel_rfl
  rw [hC] at hlen
  have hxl' : xs.length = 5 := hxl
  match cs, hlen with
  | [c0, c1, c2, c3, c4, c5, c6, c7, c8], _ =>
    have g0 : DataW.trod enc Tryd.prog w base spare held n 3 [c0] = some xs[0] := by
      have e := hg 0 _ rfl
      rw [List.getElem?_eq_getElem (by omega)] at e
      rw [← e]
      simp [hc1]
    have g1 : DataW.trod enc Tryd.prog w base spare held n 38 [c1, c2, c3, c4, c5] = some xs[1] := by
      have e := hg 1 _ rfl
      rw [List.getElem?_eq_getElem (by omega)] at e
      rw [← e]
      simp [hc1, hc5]
    have g2 : DataW.trod enc Tryd.prog w base spare held n 3 [c6] = some xs[2] := by
      have e := hg 2 _ rfl
      rw [List.getElem?_eq_getElem (by omega)] at e
      rw [← e]
      simp [hc1, hc5]
    have g3 : DataW.trod enc Tryd.prog w base spare held n 3 [c7] = some xs[3] := by
      have e := hg 3 _ rfl
      rw [List.getElem?_eq_getElem (by omega)] at e
      rw [← e]
      simp [hc1, hc5]
    have g4 : DataW.trod enc Tryd.prog w base spare held n 3 [c8] = some xs[4] := by
      have e := hg 4 _ rfl
      rw [List.getElem?_eq_getElem (by omega)] at e
      rw [← e]
      simp [hc1, hc5]
    obtain ⟨n0, e0, _, f0⟩ := DataW.trod_int Tryd.underlying3 g0
    obtain ⟨i, f1, e1⟩ := ins_cells g1
    obtain ⟨n2, e2, _, f2⟩ := DataW.trod_int Tryd.underlying3 g2
    obtain ⟨n3, e3, _, f3⟩ := DataW.trod_int Tryd.underlying3 g3
    obtain ⟨n4, e4, _, f4⟩ := DataW.trod_int Tryd.underlying3 g4
    simp only [insCells, List.cons.injEq, and_true] at e0 e1 e2 e3 e4
    obtain ⟨rfl, rfl, rfl, rfl, rfl⟩ := e1
    subst e0 e2 e3 e4
    exact ⟨⟨n0, i, n2, n3, n4⟩, ⟨bounds_i64 f0, f1, bounds_i64 f2, bounds_i64 f3, bounds_i64 f4⟩, rfl⟩

theorem open_cel {r : Reach} {b0 : Nat} {v : Value} {d : DataW H} {ps : List MemPlace} (hval : Value.okWide Tryd.prog w r b0 49 v) (hd : DataW.Trod enc Tryd.prog w base spare held 49 v d ps) :
    ∃ c : Cel, c.Fits ∧ v = .agg #[.int .i64 c.kind, .int .i64 c.ins.op, .int .i64 c.ins.d, .int .i64 c.ins.a, .int .i64 c.ins.b, .int .i64 c.ins.imm, .int .i64 c.reg, .int .i64 c.pc, .int .i64 c.off] := by
  obtain ⟨cs, rfl, _⟩ := okWide_struct Tryd.underlying49 hval
  obtain ⟨fuel, hf⟩ := hd
  obtain ⟨i, hi, hc⟩ := cel_cells hf
  refine ⟨i, hi, ?_⟩
  obtain ⟨l⟩ := cs
  have : l = celCells i := by simpa [Value.cells] using hc
  rw [this]; rfl
end
end Go.Proofs.YtfdegdbknponkaaDoor.Words

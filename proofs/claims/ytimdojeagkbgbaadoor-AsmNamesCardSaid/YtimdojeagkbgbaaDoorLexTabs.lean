/- The library's tables that a text's splitting reads, kept; contracts of package lex's small functions. -/
import Derived.Test.YtimdojeagkbgbaaDoorShelf
import Derived.Test.YtimdojeagkbgbaaDoorLexMath
import Derived.Test.YtimdojeagkbgbaaDoorBase
import Derived.Lib.OthersKept
namespace Go.Proofs.YtimdojeagkbgbaaDoor.Words
set_option maxRecDepth 100000
open Go.RowKit Go.Shelf Go.Lib
set_option linter.unusedVariables false

/-- The library's tables are laid. -/
def Tabs (w : World) : Prop := Lib.TabIs Tryd.prog w "unicode.properties" .u8 Lib.propertiesTab ∧ RVar 1 letterT w ∧ Lib.Utf8Tabs 2 3 w
theorem Tabs.below {w w' : World} (h : Tabs w) (hb : Below w.heap.size w w') : Tabs w' :=
  ⟨TabIs_below (g := 0) (by kernel_rfl) h.1 hb, RVar_below h.2.1 hb, Utf8Tabs_below h.2.2 hb⟩
/-- They are, whatever turns from block B on. -/
def TabsB (B : Nat) (w : World) : Prop := ∀ x, Below B w x → Tabs x
theorem TabsB.now {B : Nat} {w : World} (h : TabsB B w) : Tabs w := h w (Below.refl _ _)
theorem TabsB.go {B : Nat} {w w' : World} (h : TabsB B w) (hb : Below B w w') : TabsB B w' := fun x hx => h x (hb.trans hx)
theorem Tabs.all {w : World} (h : Tabs w) : TabsB w.heap.size w := fun x hx => h.below hx

theorem isLetter_any (r : Int) (w : World) (hr : -2147483648 ≤ r ∧ r ≤ 2147483647) (hT : Tabs w) :
    Calls Tryd.prog 53 #[.int .i32 r] w fun e w' => e = .returned (.bool (isLetterU r)) ∧ Below w.heap.size w w' :=
  Tryd.unicode_IsLetter_all r w hr.1 hr.2 hT.1 hT.2.1
theorem isBlank_any (r : Int) (w : World) : Calls Tryd.prog 47 #[.int .i32 r] w fun e w' => e = .returned (.bool (blankR r)) ∧ w = w' := by
  by_cases h1 : r = 32
  · subst h1
    go_enter Tryd.func47, Tryd.ntmps47
    go_wp2
    go_ret
    exact ⟨rfl, rfl⟩
  have k1 : (r == 32) = false := by simpa using h1
  by_cases h2 : r = 9
  · subst h2
    go_enter Tryd.func47, Tryd.ntmps47
    go_wp2
    go_ret
    exact ⟨rfl, rfl⟩
  have k2 : (r == 9) = false := by simpa using h2
  have hb : blankR r = (r == 13) := by unfold blankR; rw [Bool.eq_iff_iff]; simp [h1, h2]
  have HB := Lib.hid hb
  clear h1 h2 hb
  go_enter Tryd.func47, Tryd.ntmps47
  go_wp2
  go_ret
  exact ⟨ret_bool HB.out.symm, rfl⟩
theorem isSign_any (r : Int) (w : World) : Calls Tryd.prog 51 #[.int .i32 r] w fun e w' => e = .returned (.bool (signR r)) ∧ w = w' := by
  by_cases h1 : r = 44
  · subst h1
    go_enter Tryd.func51, Tryd.ntmps51
    go_wp2
    go_ret
    exact ⟨rfl, rfl⟩
  have k1 : (r == 44) = false := by simpa using h1
  by_cases h2 : r = 58
  · subst h2
    go_enter Tryd.func51, Tryd.ntmps51
    go_wp2
    go_ret
    exact ⟨rfl, rfl⟩
  have k2 : (r == 58) = false := by simpa using h2
  by_cases h3 : r = 40
  · subst h3
    go_enter Tryd.func51, Tryd.ntmps51
    go_wp2
    go_ret
    exact ⟨rfl, rfl⟩
  have k3 : (r == 40) = false := by simpa using h3
  have hb : signR r = (r == 41) := by unfold signR; rw [Bool.eq_iff_iff]; simp [h1, h2, h3]
  have HB := Lib.hid hb
  clear h1 h2 h3 hb
  go_enter Tryd.func51, Tryd.ntmps51
  go_wp2
  go_ret
  exact ⟨ret_bool HB.out.symm, rfl⟩
theorem digit_any (r : Int) (w : World) (hr : -2147483648 ≤ r ∧ r ≤ 2147483647) : Calls Tryd.prog 67 #[.int .i32 r] w fun e w' => e = .returned (.int .i64 (digR r)) ∧ w = w' := by
  obtain ⟨r0, r1⟩ := hr
  go_enter Tryd.func67, Tryd.ntmps67
  go_wp2
  all_goals first
    | (exfalso; omega)
    | (go_ret; exact ⟨ret_int (by unfold digR; repeat' split; all_goals omega), rfl⟩)
theorem isFirst_any (r : Int) (w : World) (hr : -2147483648 ≤ r ∧ r ≤ 2147483647) (hT : Tabs w) :
    Calls Tryd.prog 48 #[.int .i32 r] w fun e w' => e = .returned (.bool (firstR r)) ∧ Below w.heap.size w w' := by
  have cL := isLetter_any r w hr hT
  have HF := Lib.hid (show firstR r = (isLetterU r || decide (r = 95)) from rfl)
  clear hT
  cases hl : isLetterU r
  · rw [hl] at cL HF
    have k : (r == 95) = decide (r = 95) := by rw [Bool.eq_iff_iff]; simp
    have HK := Lib.hid k
    clear k hl
    go_enter Tryd.func48, Tryd.ntmps48
    go_wp2_with (go_at_call 53; refine cL.mono ?_; rintro e w1 ⟨rfl, hb⟩)
    go_ret
    exact ⟨ret_bool (by rw [HF.out, HK.out]; rfl), hb⟩
  · rw [hl] at cL HF
    clear hl
    go_enter Tryd.func48, Tryd.ntmps48
    go_wp2_with (go_at_call 53; refine cL.mono ?_; rintro e w1 ⟨rfl, hb⟩)
    go_ret
    exact ⟨ret_bool (by rw [HF.out]; rfl), hb⟩
theorem isBroken_any (s : ByteArray) (r : Int) (w : World) (hs : s.data.toList ≠ []) (hT : Tabs w) (hr : r = runeR s.data.toList) :
    Calls Tryd.prog 45 #[.string s, .int .i32 r] w fun e w' => e = .returned (.bool (badR s.data.toList)) ∧ Below w.heap.size w w' := by
  have cD := Tryd.utf8_DecodeRuneInString s w hT.2.2
  have h0 : s.size ≠ 0 := fun e => hs (List.eq_nil_of_length_eq_zero (by rw [← Lib.size_eq]; exact e))
  have hd : Lib.decodeGo s = decodeL s.data.toList := by
    unfold Lib.decodeGo
    rw [if_neg h0]
    have := Lib.decodeL_drop s 0
    rw [List.drop_zero] at this
    exact this.symm
  rw [hd] at cD
  have hB := Lib.hid (show badR s.data.toList = (decide (runeR s.data.toList = 65533) && decide (wideR s.data.toList = 1)) by unfold badR; rw [Bool.decide_and])
  rw [← hr] at hB
  obtain ⟨k, hk⟩ : ∃ k : Nat, k = wideR s.data.toList := ⟨_, rfl⟩
  have cD' : Calls Tryd.prog 65 #[.string s] w fun e w' => e = .returned (.tuple #[.int .i32 (runeR s.data.toList), .int .i64 (k : Int)]) ∧ Below w.heap.size w w' := by rw [hk]; exact cD
  rw [← hk] at hB
  clear cD hT hd h0 hs hk
  by_cases h1 : r = 65533
  · have k1 : (r == 65533) = true := by simpa using h1
    have hB2 : Hid (badR s.data.toList = ((k : Int) == 1)) := by
      show _ = _
      rw [hB.out, decide_eq_true h1, Bool.true_and, Bool.eq_iff_iff]; simp; omega
    clear h1 hr
    go_enter Tryd.func45, Tryd.ntmps45
    go_wp2_with (go_at_call 65; refine cD'.mono ?_; rintro e w1 ⟨rfl, hb⟩)
    go_ret
    exact ⟨ret_bool hB2.out.symm, hb⟩
  · have k1 : (r == 65533) = false := by simpa using h1
    have hB2 : Hid (badR s.data.toList = false) := by show _ = _; rw [hB.out, decide_eq_false h1]; rfl
    clear h1 hr
    go_enter Tryd.func45, Tryd.ntmps45
    go_wp2_with (go_at_call 65; refine cD'.mono ?_; rintro e w1 ⟨rfl, hb⟩)
    go_ret
    exact ⟨ret_bool hB2.out.symm, hb⟩
end Go.Proofs.YtimdojeagkbgbaaDoor.Words

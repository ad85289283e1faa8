/- The law's own helpers of chapter 8: num, alive; the document's own Names. -/
import Derived.Test.YtimdojeagkbgbaaDoorAsmRead
import Derived.Test.YtimdojeagkbgbaaDoorInsEq
namespace Go.Proofs.YtimdojeagkbgbaaDoor.Words
set_option maxRecDepth 100000
open Go.RowKit Go.Shelf Go.Lib
set_option linter.unusedVariables false
set_option linter.unusedSimpArgs false

/-- The tables of package unicode, and that of package asm. -/
def TabsA (w : World) : Prop := Tabs w ∧ Shapes w
theorem TabsA.below {w w' : World} (h : TabsA w) (hb : Below w.heap.size w w') : TabsA w' := ⟨h.1.below hb, h.2.below hb⟩
theorem num8_any (k : Int) (w : World) : Calls Tryd.prog 21 #[.int .i64 k] w fun e w' => e = .returned (.int .i64 k) ∧ w = w' := by
  go_enter Tryd.func21, Tryd.ntmps21
  go_wp2
  go_ret
  exact ⟨rfl, rfl⟩
theorem few_len {l : List UInt8} (h : l.length ≤ 8192) : ∀ t, lexZ l = .toks t → (textT t).1 = true → nIns (textT t).2.2 ≤ 8192 := by
  intro t ht _
  have h1 := lex_len ht
  have h2 := textF_len t.length t
  have h3 := nIns_le (textT t).2.2
  have h4 : (textT t).2.2 = (textF t.length t).2.2 := rfl
  rw [h4] at h3 ⊢
  omega
/-- Read of a short text. -/
theorem asmRead_short (l : List UInt8) (w : World) (hl : l.length ≤ 8192) (hT : TabsA w) :
    Calls Tryd.prog 18 #[.string (txt l)] w fun e w' => ReadOut (asmZ l) w.heap.size e w' ∧ Below w.heap.size w w' := by
  have := asmRead_any (txt l) w (by rw [txt_sz]; omega) hT.1 hT.2 (by rw [txt_data]; exact few_len hl)
  rwa [txt_data] at this
def aliveB : List UInt8 := [97, 58, 32, 106, 32, 97, 10, 115, 105, 122, 101, 32, 56, 10, 104, 97, 108, 116]
theorem alive_asm : asmZ aliveB = .ok ⟨[⟨40, 0, 0, 0, 0⟩, ⟨41, 0, 0, 0, 0⟩], 8, []⟩ := by decide +kernel
theorem none_asm : asmZ [] = .bad 0 1 := by decide +kernel
theorem row_lits (w : World) (l : List Value) (t : TypeId) (hl : l.length ≤ 1000000) : Row (w.alloc (.cells l.toArray t)) (w.heap.size + 1) 1 (.slice (some ⟨w.heap.size, 0, none⟩) l.length l.length) l.length l := by
  refine ⟨(Nat.mul_one _).symm, _, _, rfl, Nat.le_refl _, by omega, (fun h => by cases h), fun _ => ⟨w.heap.size, 0, rfl, Nat.lt_succ_self _, fun j u hu => ?_⟩⟩
  have := new_cells w l.toArray t l (by simp) j u hu
  rwa [add_spot] at this
set_option maxHeartbeats 2000000 in
theorem refNames_any (w : World) : Calls Tryd.prog 23 #[] w fun e w' => ∃ A c, e = .returned (.slice A 41 c) ∧ Row w' w'.heap.size 1 (.slice A 41 c) 41 namesL ∧ Below w.heap.size w w' := by
  have hR := Lib.hid (row_lits w namesL 9 (by decide))
  have hB := Lib.hid ((Below.refl w.heap.size w).alloc (Nat.le_refl _) (.cells namesL.toArray 9))
  go_enter Tryd.func23, Tryd.ntmps23
  go_wp2_with fail
  go_ret
  exact ⟨some ⟨w.heap.size, 0, none⟩, 41, rfl, (show Row _ _ _ _ _ _ from hR.out).more (by simp), hB.out⟩

set_option maxHeartbeats 2000000 in
theorem alive8_any (w : World) (hT : TabsA w) : Calls Tryd.prog 17 #[] w fun e w' => e = .returned (.bool true) ∧ Below w.heap.size w w' := by
  have HT := Lib.hid hT
  have c1 := Lib.hid (asmRead_short [] w (by decide) hT)
  rw [none_asm] at c1
  have c2 := Lib.hid (fun y (hy : TabsA y) => asmRead_short aliveB y (by decide) hy)
  rw [alive_asm] at c2
  have ins2 := Lib.hid (fun y => eql_ins ⟨40, 0, 0, 0, 0⟩ ⟨40, 0, 0, 0, 0⟩ y)
  clear hT
  go_enter Tryd.func17, Tryd.ntmps17
  go_wp2_with fail
  refine c1.out.mono ?_
  rintro e w1 ⟨ho, hb1⟩
  change _ = _ at ho
  subst ho
  have HB1 := Lib.hid hb1
  clear hb1
  go_wp2_with fail
  refine (c2.out _ (HT.out.below (HB1.out.alloc HB1.out.size _))).mono ?_
  rintro e w2 ⟨ho, hb2⟩
  obtain ⟨vc, vd, rfl, hc, hd⟩ := ho
  have HB2 := Lib.hid ((HB1.out.alloc HB1.out.size (.cells #[.slice none 0 0, .int .i64 0, .slice none 0 0] 39)).trans (hb2.mono (HB1.out.alloc HB1.out.size _).size))
  obtain ⟨Ac, cc, rfl⟩ := (Row.of_own hc).form
  obtain ⟨Ad, cd, rfl⟩ := (Row.of_own hd).form
  obtain ⟨g, off, rfl, hg, _⟩ := (Row.of_own hc).at_ (by decide)
  have x := (Row.of_own hc).ins (k := 0) (i := ⟨40, 0, 0, 0, 0⟩) rfl
  simp only [Nat.zero_mul, Nat.add_zero] at x
  obtain ⟨x0, x1, x2, x3, x4⟩ := x
  have i2 := ins2.out
  simp only [decide_true] at i2
  have HNM := Lib.hid (fun y => names_any y)
  clear hb2 hc hd
  try dsimp only [List.length_cons, List.length_nil]
  go_wp2_with (first
    | (go_at_call 21; refine (num8_any _ _).mono ?_; rintro e w3 ⟨rfl, rfl⟩)
    | (go_at_call 22; refine (HNM.out _).mono ?_; rintro e w4 ⟨vn, rfl, hn, hb4⟩; obtain ⟨An, cn, rfl⟩ := (Row.of_own hn).form))
  go_ret
  exact ⟨rfl, (HB2.out.alloc HB2.out.size _).trans (hb4.mono (HB2.out.alloc HB2.out.size _).size)⟩
end Go.Proofs.YtimdojeagkbgbaaDoor.Words

/- Contract of package asm's check. -/
import Derived.Test.YtimdojeagkbgbaaDoorAsmReadMath
namespace Go.Proofs.YtimdojeagkbgbaaDoor.Words
set_option maxRecDepth 100000
open Go.RowKit Go.Shelf Go.Lib
set_option linter.unusedVariables false
set_option linter.unusedSimpArgs false

def checkE (l : List Ins) (sz : Int) (m : Nat) : Int := if targetsOk l.length 0 l = false then 4 else if rightZ l sz m = true then 0 else 1
theorem checkE_z (p : Prog) : checkZ p = if checkE p.code p.size p.data.length = 0 then .ok p else .bad 0 (checkE p.code p.size p.data.length) := by
  unfold checkZ checkE
  by_cases h : targetsOk p.code.length 0 p.code = false
  · rw [if_pos h, if_pos h, if_neg (by decide)]
  · rw [if_neg h, if_neg h]
    by_cases h2 : rightZ p.code p.size p.data.length = true
    · rw [if_pos h2, if_pos h2, if_pos rfl]
    · rw [if_neg h2, if_neg h2, if_neg (by decide)]
set_option maxHeartbeats 2000000 in
theorem asmCheck_any (A : Option Addr) (c : Nat) (sz : Int) (A' : Option Addr) (m c' : Nat) (l : List Ins) (w : World) (hr : Row w w.heap.size 5 (.slice A l.length c) l.length (codeCells l)) (hm : m ≤ c') (hc' : c' ≤ 9223372036854775807) (hsmall : l.length ≤ 8192) :
    Calls Tryd.prog 38 #[.agg #[.slice A l.length c, .int .i64 sz, .slice A' m c']] w fun e w' => e = .returned (.int .i64 (checkE l sz m)) ∧ Below w.heap.size w w' := by
  have X1 : Hid (Box (w.alloc (.cells #[.slice A l.length c, .int .i64 sz, .slice A' m c'] 39)) w.heap.size [.slice A l.length c, .int .i64 sz, .slice A' m c']) := Box.new w [.slice A l.length c, .int .i64 sz, .slice A' m c'] _
  have B1 : Hid (Below w.heap.size w (w.alloc (.cells #[.slice A l.length c, .int .i64 sz, .slice A' m c'] 39))) := (Below.refl _ _).alloc (Nat.le_refl _) _
  have HR := Lib.hid hr
  have cT := Lib.hid (targets_any A c sz (.slice A' m c') l (w.alloc (.cells #[.slice A l.length c, .int .i64 sz, .slice A' m c'] 39)) ((hr.alloc (Nat.le_refl _) _).more (by simp)) hsmall)
  have HM := Lib.hid hm
  have HC := Lib.hid hc'
  have hW : (w.alloc (.cells #[.slice A l.length c, .int .i64 sz, .slice A' m c'] 39)).heap.size = w.heap.size + 1 := by simp
  clear hr hm hc' hsmall
  go_enter Tryd.func38, Tryd.ntmps38
  go_wp2_with fail
  refine cT.out.mono ?_; rintro en w2 ⟨rfl, hb2⟩
  cases ht : targetsOk l.length 0 l
  · have e4 : errT false = 4 := rfl
    rw [e4]
    have HB2 := Lib.hid (B1.out.trans (hb2.mono (by omega)))
    have HE : Hid (checkE l sz m = 4) := by show _ = _; unfold checkE; rw [if_pos ht]
    clear hb2 ht
    go_wp2_with fail
    go_ret
    exact ⟨by rw [HE.out]; rfl, HB2.out⟩
  · have e4 : errT true = 0 := rfl
    rw [e4]
    have HB2 := Lib.hid (B1.out.trans (hb2.mono (by omega)))
    have X2 := X1.out.below hb2 (by omega)
    have y0 := X2.cell (k := 0) rfl
    have y1 := X2.cell (k := 1) rfl
    have y2 := X2.cell (k := 2) rfl
    have cR := Lib.hid (imgRight_any A c sz A' m c' l w2 ((HR.out.below HB2.out).more HB2.out.size) HM.out HC.out)
    have HT := Lib.hid ht
    clear hb2 ht X2
    go_wp2_with fail
    refine cR.out.mono ?_; rintro en w3 ⟨rfl, hb3⟩
    have HB3 := Lib.hid (HB2.out.trans (hb3.mono HB2.out.size))
    clear hb3
    cases hz : rightZ l sz m
    · have HE : Hid (checkE l sz m = 1) := by show _ = _; unfold checkE; rw [if_neg (by rw [HT.out]; decide), hz]; rfl
      clear hz
      go_wp2_with fail
      go_ret
      exact ⟨by rw [HE.out]; rfl, HB3.out⟩
    · have HE : Hid (checkE l sz m = 0) := by show _ = _; unfold checkE; rw [if_neg (by rw [HT.out]; decide), hz]; rfl
      clear hz
      go_wp2_with fail
      go_ret
      exact ⟨by rw [HE.out]; rfl, HB3.out⟩
end Go.Proofs.YtimdojeagkbgbaaDoor.Words

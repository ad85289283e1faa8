/- Several texts in one: InsEq, AsmAlive, RaReg, RaTgt, RaIns, RaPlace, OwnNew. -/
import Derived.Test.YtcaibahniheohaaDoorRows
import Derived.Test.YtcaibahniheohaaDoorBG00
import Derived.Test.YtcaibahniheohaaDoorBG07
import Derived.Test.YtcaibahniheohaaDoorBG03
import Derived.Test.YtcaibahniheohaaDoorBG01
import Derived.Deep.QuietTactic
import Derived.BigQuiet
import Derived.Test.YtcaibahniheohaaDoorBG04

/- Two instructions compared. -/
namespace Go.Proofs.YtcaibahniheohaaDoor.Words
set_option maxRecDepth 100000
open Go.RowKit
theorem eqFields_ins (i k : Ins) (w : World) : (Op.equalIn 10000 38 (.agg #[.int .i64 i.op, .int .i64 i.d, .int .i64 i.a, .int .i64 i.b, .int .i64 i.imm]) (.agg #[.int .i64 k.op, .int .i64 k.d, .int .i64 k.a, .int .i64 k.b, .int .i64 k.imm])).run Tryd.prog w = .ok (decide (i = k)) w := by
 have hS : Tryd.prog.underlying 38 = some (.struct (Tryd.prog.fieldsOf 38)) := by kernel_rfl
 have hp : Tryd.prog.stoodInHeld 38 = false := by kernel_rfl
 rw [show (10000 : Nat) = 9999 + 1 from rfl, run_equalIn_agg w 9999 38 _ _ hS hp]
 simp only [Program.fieldsOf, Tryd.underlying38]
 go_simp
 have e := Ins.eq_iff i k
 by_cases h1 : i.op = k.op <;> by_cases h2 : i.d = k.d <;> by_cases h3 : i.a = k.a <;> by_cases h4 : i.b = k.b <;> by_cases h5 : i.imm = k.imm <;> simp [h1, h2, h3, h4, h5, e]
theorem neq_ins (i k : Ins) (w : World) : (binOp .neq 38 (.agg #[.int .i64 i.op, .int .i64 i.d, .int .i64 i.a, .int .i64 i.b, .int .i64 i.imm]) (.agg #[.int .i64 k.op, .int .i64 k.d, .int .i64 k.a, .int .i64 k.b, .int .i64 k.imm])).run Tryd.prog w = .ok (.bool (!decide (i = k))) w := by
 rw [run_neq_struct, eqFields_ins]; rfl
end Go.Proofs.YtcaibahniheohaaDoor.Words

/- The law's own helpers of chapter 8: num, alive; the document's own Names. -/
namespace Go.Proofs.YtcaibahniheohaaDoor.Words
set_option maxRecDepth 100000
open Go.RowKit Go.Shelf Go.Lib
set_option linter.unusedVariables false
set_option linter.unusedSimpArgs false
def TabsA (w : World) : Prop := Tabs w ∧ Shapes w
theorem TabsA.below {w w' : World} (h : TabsA w) (hb : Below w.heap.size w w') : TabsA w' := ⟨h.1.below hb, h.2.below hb⟩
theorem row_lits (w : World) (l : List Value) (t : TypeId) (hl : l.length ≤ 1000000) : Row (w.alloc (.cells l.toArray t)) (w.heap.size + 1) 1 (.slice (some ⟨w.heap.size, 0, none⟩) l.length l.length) l.length l := by
 refine ⟨(Nat.mul_one _).symm, _, _, rfl, Nat.le_refl _, by omega, (fun h => by cases h), fun _ => ⟨w.heap.size, 0, rfl, Nat.lt_succ_self _, fun j u hu => ?_⟩⟩
 have := new_cells w l.toArray t l (by simp) j u hu
 rwa [add_spot] at this
set_option maxHeartbeats 2000000 in
theorem refNames_any (w : World) : Calls Tryd.prog 41 #[] w fun e w' => ∃ A c, e = .returned (.slice A 41 c) ∧ Row w' w'.heap.size 1 (.slice A 41 c) 41 namesL ∧ Below w.heap.size w w' := by
 have hR := Lib.hid (row_lits w namesL 9 (by decide))
 have hB := Lib.hid ((Below.refl w.heap.size w).alloc (Nat.le_refl _) (.cells namesL.toArray 9))
 go_enter Tryd.func41, Tryd.ntmps41
 go_wp2_with fail
 go_ret
 exact ⟨some ⟨w.heap.size, 0, none⟩, 41, rfl, (show Row _ _ _ _ _ _ from hR.out).more (by simp), hB.out⟩
end Go.Proofs.YtcaibahniheohaaDoor.Words

/- The document's own reader: registers, commas. -/
namespace Go.Proofs.YtcaibahniheohaaDoor.Words
set_option maxRecDepth 100000
open Go.RowKit Go.Shelf Go.Lib
set_option linter.unusedVariables false
set_option linter.unusedSimpArgs false
def regG (s : List UInt8) : Nat → Nat → Int
 | 0, _ => -1
 | f + 1, i => if regS (i : Int) = s then i else regG s f (i + 1)
def regQ (s : List UInt8) : Int := regG s 16 0
theorem regG_succ (s : List UInt8) (f i : Nat) : regG s (f + 1) i = if regS (i : Int) = s then (i : Int) else regG s f (i + 1) := rfl
set_option maxHeartbeats 2000000 in
theorem refRegister_any (s : List UInt8) (w : World) : Calls Tryd.prog 87 #[.string (txt s)] w fun e w' => e = .returned (.int .i64 (regQ s)) ∧ w = w' := by
 go_enter Tryd.func87, Tryd.ntmps87
 go_wp2_with fail
 go_loopw [3] (fun q wr => ∃ i f : Nat, i + f = 16 ∧ q = .int .i64 i ∧ regQ s = regG s f i ∧ wr = w) (fun q _ => 16 - (intOf q).toNat)
 case atStart => exact ⟨0, 16, rfl, rfl, rfl, rfl⟩
 case round =>
  obtain ⟨i, f, hif, rfl, hq, rfl⟩ := hrel
  have HQ := Lib.hid hq
  cases f with
  | zero =>
   have hi : i = 16 := by omega
   subst hi
   have HE := Lib.hid (show regQ s = -1 from hq)
   clear hq hif HQ
   go_wp2_with fail
   go_ret
   exact ⟨by rw [HE.out]; rfl, rfl⟩
  | succ f =>
   have hi : i < 16 := by omega
   have cD := fun y => dec_any (i : Int) y (by omega)
   have hdl := decN_len (n := (i : Int)) (by omega)
   have hj : (⟨#[114]⟩ : ByteArray) ++ txt (decN (i : Int)) = txt (regS (i : Int)) := by
    rw [show (⟨#[114]⟩ : ByteArray) = txt [114] from rfl, txt_join]; rfl
   have hsum : ¬ ((⟨#[114]⟩ : ByteArray).size + (txt (decN (i : Int))).size > 9223372036854775807) := by
    rw [show (⟨#[114]⟩ : ByteArray).size = 1 from rfl, txt_len]; omega
   have hg : decide ((i : Int) < 16) = true := decide_eq_true (by omega)
   have hg2 : decide (i < 16) = true := decide_eq_true hi
   have n0 : (0 : Int) ≤ i := by omega
   have n1 : (i : Int) < 16 := by omega
   have heq : ((txt s).toList == (txt (regS (i : Int))).toList) = decide (s = regS (i : Int)) := txt_eqQ _ _
   have HIF := Lib.hid hif
   by_cases hr : regS (i : Int) = s
   ·have e : regQ s = i := by rw [hq, regG_succ, if_pos hr]
    have he : ((txt s).toList == (txt (regS (i : Int))).toList) = true := by rw [heq]; exact decide_eq_true hr.symm
    have HE := Lib.hid e
    clear hq HQ e heq hr hdl hif hi
    generalize txt (decN (i : Int)) = DD at *
    generalize txt (regS (i : Int)) = RR at *
    generalize txt s = SS at *
    go_wp2_with (go_at_call 101; refine (cD _).mono ?_; rintro e w1 ⟨rfl, rfl⟩)
    go_ret
    exact ⟨by rw [HE.out]; rfl, rfl⟩
   ·have e : regQ s = regG s f (i + 1) := by rw [hq, regG_succ, if_neg hr]
    have he : ((txt s).toList == (txt (regS (i : Int))).toList) = false := by rw [heq]; exact decide_eq_false (fun h => hr h.symm)
    have HE := Lib.hid e
    clear hq HQ e heq hr hdl hif hi
    generalize txt (decN (i : Int)) = DD at *
    generalize txt (regS (i : Int)) = RR at *
    generalize hSS : txt s = SS at *
    go_wp2_with (go_at_call 101; refine (cD _).mono ?_; rintro e w1 ⟨rfl, rfl⟩)
    go_roundw
    case rel => exact ⟨i + 1, f, by have := HIF.out; omega, by go_num, HE.out, by first | rfl | trivial⟩
    case measure => have := HIF.out; simp only [intOf]; omega
theorem quiet_is {P : Program} {f : FuncId} {args : Array Value} {w : World} {n : Nat} {v : Value} (h : Calls P f args (w.drewN n) fun e w' => e = .returned v ∧ ∃ m, w' = (w.drewN n).drewN m) :
  Calls P f args (w.drewN n) fun e w'' => e = .returned v ∧ ∃ m, w'' = w.drewN m := h.mono fun _ _ ⟨he, m, hm⟩ => ⟨he, n + m, by rw [hm]; simp⟩
def textAt (T : List Tok) (n : Nat) : List UInt8 := (T.getD n tok0).text
def regOk (T : List Tok) (n : Nat) (bad : Int) : Bool := isQ T n bad 1 [] && decide (0 ≤ regQ (textAt T n))
def regV (T : List Tok) (n : Nat) (bad : Int) : Int := if regOk T n bad = true then regQ (textAt T n) else 0
def regM (T : List Tok) (n : Nat) (bad : Int) : Nat := if regOk T n bad = true then n + 1 else n
def regB (T : List Tok) (E n : Nat) (bad : Int) : Int := if regOk T n bad = true then bad else failQ T E n bad
set_option maxHeartbeats 4000000 in
theorem refReg_any (b c : Nat) (A : Option Addr) (T : List Tok) (E n : Nat) (bad : Int) (w : World) (h : Rd w b A c T E n bad) :
  Calls Tryd.prog 67 #[.pointer (some ⟨b, 0, none⟩)] w fun e w' => e = .returned (.int .i64 (regV T n bad)) ∧ RdOut b c A T E (regM T n bad) (regB T E n bad) w w' := by
 have HR := Lib.hid h
 have cI := Lib.hid (fun y (hy : Rd y b A c T E n bad) => refIs_any b c A T E n bad 1 [] y hy)
 have cF := Lib.hid (fun y (hy : Rd y b A c T E n bad) => refFail_any b c A T E n bad y hy)
 cases hq : isQ T n bad 1 []
 ·have hok : regOk T n bad = false := by unfold regOk; rw [hq]; rfl
  have e1 : regV T n bad = 0 := if_neg (by rw [hok]; decide)
  have e2 : regM T n bad = n := if_neg (by rw [hok]; decide)
  have e3 : regB T E n bad = failQ T E n bad := if_neg (by rw [hok]; decide)
  rw [e1, e2, e3]
  rw [hq] at cI
  have c0 := h.1.cell (k := 0) rfl
  have c2 := h.1.cell (k := 2) rfl
  clear e1 e2 e3 hq h hok
  go_enter Tryd.func67, Tryd.ntmps67
  go_wp2_with fail
  go_quiet ((go_at_call 39; refine quiet_is (cI.out _ (HR.out.go (Below.drewN_ (Below.refl _ _) _)))))
  go_wp2_with fail
  refine (cF.out _ (HR.out.go (Below.drewN_ (Below.refl _ w) _))).mono ?_
  rintro e w2 ⟨rfl, h2, hb2⟩
  have H2 := Lib.hid h2
  have K2 := Lib.hid (((KeepS.refl (fun j => j = b) w).drewN _).trans hb2)
  clear h2 hb2
  go_wp2_with fail
  go_ret
  exact ⟨rfl, H2.out, K2.out⟩
 ·obtain ⟨x, hx, hnl⟩ := isQ_at hq
  have htx : textAt T n = x.text := by unfold textAt; rw [List.getD_eq_getElem?_getD, hx]; rfl
  obtain ⟨g, o, rfl, hg, _⟩ := h.2.1.at_ (by omega)
  have cR := Lib.hid (fun y => refRegister_any x.text y)
  rw [hq] at cI
  have c0 := h.1.cell (k := 0) rfl
  have c2 := h.1.cell (k := 2) rfl
  obtain ⟨_, _, _, x3⟩ := Row.tok h.2.1 (k := n) hx
  have n0 : (0 : Int) ≤ n := by omega
  have n1 : (n : Int) < T.length := by omega
  have hT := h.2.2.2
  have nT : (T.length : Int) ≤ 1000000 := by omega
  by_cases hreg : 0 ≤ regQ x.text
  ·have hok : regOk T n bad = true := by unfold regOk; rw [hq, htx]; simpa using hreg
   have e1 : regV T n bad = regQ x.text := by unfold regV; rw [if_pos hok, htx]
   have e2 : regM T n bad = n + 1 := if_pos hok
   have e3 : regB T E n bad = bad := if_pos hok
   have gr : decide (regQ x.text < 0) = false := decide_eq_false (by omega)
   rw [e1, e2, e3]
   have HX := Lib.hid hx
   have HNL := Lib.hid hnl
   clear e1 e2 e3 hq h hok htx hx hT hnl hg hreg
   generalize regQ x.text = RQ at *
   go_enter Tryd.func67, Tryd.ntmps67
   go_wp2_with fail
   go_quiet (first | (go_at_call 39; refine quiet_is (cI.out _ (HR.out.go (Below.drewN_ (Below.refl _ _) _)))) | (go_at_call 87; refine quiet_mine7 (cR.out _)))
   have hrn := fun nq => HR.out.go (Below.drewN_ (Below.refl _ w) nq)
   have f2 := fun nq => (hrn nq).1.frozen 2
   have hrs : ∀ nq, Rd ((w.drewN nq).setCell ⟨b, 2, none⟩ (.int .i64 ((n : Int) + 1))) b (some ⟨g, o, none⟩) c T E (n + 1) bad ∧ KeepS (fun j => j = b) w ((w.drewN nq).setCell ⟨b, 2, none⟩ (.int .i64 ((n : Int) + 1))) := fun nq => by
    obtain ⟨q1, q2⟩ := (hrn nq).next (m := n + 1) HNL.out
    rw [show ((n + 1 : Nat) : Int) = (n : Int) + 1 by simp] at q1 q2
    exact ⟨q1, ((KeepS.refl (fun j => j = b) w).drewN nq).trans q2⟩
   have s0 : ∀ nq, ((w.drewN nq).setCell ⟨b, 2, none⟩ (.int .i64 ((n : Int) + 1))).cell? ⟨b, 0, none⟩ = some (.slice (some ⟨g, o, none⟩) T.length c) := fun nq => (hrs nq).1.1.cell (k := 0) rfl
   have s2 : ∀ nq, ((w.drewN nq).setCell ⟨b, 2, none⟩ (.int .i64 ((n : Int) + 1))).cell? ⟨b, 2, none⟩ = some (.int .i64 ((n : Int) + 1)) := fun nq => by
    have := (hrs nq).1.1.cell (k := 2) rfl
    rw [show ((n + 1 : Nat) : Int) = (n : Int) + 1 by simp] at this
    exact this
   have s3 : ∀ nq, ((w.drewN nq).setCell ⟨b, 2, none⟩ (.int .i64 ((n : Int) + 1))).cell? ⟨g, o + n * 4 + 3, none⟩ = some (.string (txt x.text)) := fun nq => (Row.tok (hrs nq).1.2.1 (k := n) HX.out).2.2.2
   have HRS := Lib.hid hrs
   clear hrn hrs
   go_wp2_with fail
   go_quiet ((go_at_call 87; refine quiet_mine7 (cR.out _)))
   go_wp2_with fail
   go_ret
   exact ⟨rfl, (HRS.out _).1.go (Below.drewN_ (Below.refl _ _) _), (HRS.out _).2.drewN _⟩
  ·have hok : regOk T n bad = false := by unfold regOk; rw [hq, htx]; simpa using hreg
   have e1 : regV T n bad = 0 := if_neg (by rw [hok]; decide)
   have e2 : regM T n bad = n := if_neg (by rw [hok]; decide)
   have e3 : regB T E n bad = failQ T E n bad := if_neg (by rw [hok]; decide)
   have gr : decide (regQ x.text < 0) = true := decide_eq_true (by omega)
   rw [e1, e2, e3]
   clear e1 e2 e3 hq h hok htx hx hT hnl hg hreg
   generalize regQ x.text = RQ at *
   go_enter Tryd.func67, Tryd.ntmps67
   go_wp2_with fail
   go_quiet (first | (go_at_call 39; refine quiet_is (cI.out _ (HR.out.go (Below.drewN_ (Below.refl _ _) _)))) | (go_at_call 87; refine quiet_mine7 (cR.out _)))
   go_wp2_with fail
   refine (cF.out _ (HR.out.go (Below.drewN_ (Below.refl _ w) _))).mono ?_
   rintro e w2 ⟨rfl, h2, hb2⟩
   have H2 := Lib.hid h2
   have K2 := Lib.hid (((KeepS.refl (fun j => j = b) w).drewN _).trans hb2)
   clear h2 hb2
   go_wp2_with fail
   go_ret
   exact ⟨rfl, H2.out, K2.out⟩
end Go.Proofs.YtcaibahniheohaaDoor.Words

/- The document's own reader: commas, targets. -/
namespace Go.Proofs.YtcaibahniheohaaDoor.Words
set_option maxRecDepth 100000
open Go.RowKit Go.Shelf Go.Lib
set_option linter.unusedVariables false
set_option linter.unusedSimpArgs false
set_option maxHeartbeats 2000000 in
theorem refComma_any (b c : Nat) (A : Option Addr) (T : List Tok) (E n : Nat) (bad : Int) (w : World) (h : Rd w b A c T E n bad) :
  Calls Tryd.prog 68 #[.pointer (some ⟨b, 0, none⟩)] w fun e w' => e = .returned (.tuple #[]) ∧ RdOut b c A T E (takeN T n bad 3 [44]) (takeB T E n bad 3 [44]) w w' := by
 have cT := Lib.hid (refTake_any b c A T E n bad 3 [44] w h)
 clear h
 go_enter Tryd.func68, Tryd.ntmps68
 go_wp2_with fail
 refine cT.out.mono ?_
 rintro e w1 ⟨rfl, h1⟩
 have H1 := Lib.hid h1
 clear h1
 go_wp2_with fail
 exact bodyPost_end (v := .tuple #[]) (by simp [results, Tryd.results68]) rfl ⟨rfl, H1.out⟩
structure It where
 kind : Int
 at_ : Int
 label : List UInt8
 ins : Ins
 use : List UInt8
 useAt : Int
 nums : Value
 ats : Value
def itL (z : It) : List Value := [.int .i64 z.kind, .int .i64 z.at_, .string (txt z.label), .int .i64 z.ins.op, .int .i64 z.ins.d, .int .i64 z.ins.a, .int .i64 z.ins.b, .int .i64 z.ins.imm, .string (txt z.use), .int .i64 z.useAt, z.nums, z.ats]
def tgtZ (T : List Tok) (n : Nat) (bad : Int) (z : It) : It := if isQ T n bad 1 [] = true then { z with use := textAt T n, useAt := ((T.getD n tok0).at_ : Int) } else { z with ins := { z.ins with imm := (takeTok T n bad 2 []).num } }
def tgtM (T : List Tok) (n : Nat) (bad : Int) : Nat := if isQ T n bad 1 [] = true then n + 1 else takeN T n bad 2 []
def tgtB (T : List Tok) (E n : Nat) (bad : Int) : Int := if isQ T n bad 1 [] = true then bad else takeB T E n bad 2 []
def ItOut (b c : Nat) (A : Option Addr) (T : List Tok) (E m : Nat) (bad : Int) (bx : Nat) (z : It) (w w' : World) : Prop := Rd w' b A c T E m bad ∧ Box w' bx (itL z) ∧ KeepS (fun j => j = b ∨ j = bx) w w'
set_option maxHeartbeats 4000000 in
theorem refTgtNum_any (b c : Nat) (A : Option Addr) (T : List Tok) (E n : Nat) (bad : Int) (bx : Nat) (z : It) (w : World) (h : Rd w b A c T E n bad) (hx : Box w bx (itL z)) (hbx : b < bx) (hq : isQ T n bad 1 [] = false) :
  Calls Tryd.prog 69 #[.pointer (some ⟨b, 0, none⟩), .pointer (some ⟨bx, 0, none⟩)] w fun e w' => e = .returned (.tuple #[]) ∧ ItOut b c A T E (tgtM T n bad) (tgtB T E n bad) bx (tgtZ T n bad z) w w' := by
 have e1 : tgtZ T n bad z = { z with ins := { z.ins with imm := (takeTok T n bad 2 []).num } } := if_neg (by rw [hq]; decide)
 have e2 : tgtM T n bad = takeN T n bad 2 [] := if_neg (by rw [hq]; decide)
 have e3 : tgtB T E n bad = takeB T E n bad 2 [] := if_neg (by rw [hq]; decide)
 rw [e1, e2, e3]
 have cI := Lib.hid (refIs_any b c A T E n bad 1 [] w h)
 rw [hq] at cI
 have cT := Lib.hid (fun y (hy : Rd y b A c T E n bad) => refTake_any b c A T E n bad 2 [] y hy)
 have HR := Lib.hid h
 have HX := Lib.hid hx
 have HBX := Lib.hid hbx
 clear e1 e2 e3 hq h hx
 go_enter Tryd.func69, Tryd.ntmps69
 go_wp2_with fail
 refine cI.out.mono ?_
 rintro e w1 ⟨rfl, m, rfl⟩
 go_wp2_with fail
 refine (cT.out _ (HR.out.go (Below.drewN_ (Below.refl _ w) m))).mono ?_
 rintro e w2 ⟨rfl, h2, hk2⟩
 have hx2 : Box w2 bx (itL z) := (show Box (w.drewN m) bx (itL z) from HX.out).keepS hk2 (fun e => by omega)
 have f7 := hx2.frozen 7
 have c7 := hx2.cell (k := 7) rfl
 have H2 := Lib.hid h2
 have X2 := Lib.hid hx2
 have K2 := Lib.hid (((KeepS.refl (fun j => j = b) w).drewN m).trans hk2)
 generalize hTK : takeTok T n bad 2 [] = TK at *
 have HTK := Lib.hid hTK
 clear hTK
 clear h2 hk2 hx2
 dsimp only [tokVal]
 have fld : ∀ y, (Instr.field 48 (.agg #[.int .i64 TK.kind, .int .i64 TK.num, .int .i64 (TK.at_ : Int), .string (txt TK.text)]) 1).run Tryd.prog y = .ok (.int .i64 TK.num) y := fun _ => by kernel_rfl
 go_wp2_with fail
 have q1 : Box (w2.setCell ⟨bx, 7, none⟩ (.int .i64 TK.num)) bx (itL { z with ins := { z.ins with imm := TK.num } }) := X2.out.setCell 7 (.int .i64 TK.num)
 have q2 : KeepS (fun j => j = bx) w2 (w2.setCell ⟨bx, 7, none⟩ (.int .i64 TK.num)) := (KeepS.refl (fun j => j = bx) w2).setCell rfl 7 _
 exact bodyPost_end (v := .tuple #[]) (by simp [results, Tryd.results69]) rfl ⟨rfl, H2.out.keepS q2 (fun j hj => by omega), by rw [HTK.out]; exact q1, (K2.out.mono (fun j hj => .inl hj)).trans (q2.mono (fun j hj => .inr hj))⟩
theorem S_mk {b c g o n : Nat} {T : List Tok} {E : Nat} {bad : Int} {x : Tok} {w : World} (h : Rd w b (some ⟨g, o, none⟩) c T E n bad) (hx : T[n]? = some x) :
  w.cell? ⟨b, 0, none⟩ = some (.slice (some ⟨g, o, none⟩) T.length c) ∧ w.cell? ⟨b, 2, none⟩ = some (.int .i64 (n : Int)) ∧ w.cell? ⟨g, o + n * 4 + 2, none⟩ = some (.int .i64 (x.at_ : Int)) ∧ w.cell? ⟨g, o + n * 4 + 3, none⟩ = some (.string (txt x.text)) :=
 ⟨h.1.cell (k := 0) rfl, h.1.cell (k := 2) rfl, (Row.tok h.2.1 (k := n) hx).2.2.1, (Row.tok h.2.1 (k := n) hx).2.2.2⟩
set_option maxHeartbeats 4000000 in
theorem refTgtName_any (b c : Nat) (A : Option Addr) (T : List Tok) (E n : Nat) (bad : Int) (bx : Nat) (z : It) (w : World) (h : Rd w b A c T E n bad) (hx : Box w bx (itL z)) (hbx : b < bx) (hq : isQ T n bad 1 [] = true) :
  Calls Tryd.prog 69 #[.pointer (some ⟨b, 0, none⟩), .pointer (some ⟨bx, 0, none⟩)] w fun e w' => e = .returned (.tuple #[]) ∧ ItOut b c A T E (tgtM T n bad) (tgtB T E n bad) bx (tgtZ T n bad z) w w' := by
 obtain ⟨x, hxx, hnl⟩ := isQ_at hq
 have htx : textAt T n = x.text := by unfold textAt; rw [List.getD_eq_getElem?_getD, hxx]; rfl
 have hat : (T.getD n tok0).at_ = x.at_ := by rw [List.getD_eq_getElem?_getD, hxx]; rfl
 have e1 : tgtZ T n bad z = { z with use := x.text, useAt := (x.at_ : Int) } := by unfold tgtZ; rw [if_pos hq, htx, hat]
 have e2 : tgtM T n bad = n + 1 := if_pos hq
 have e3 : tgtB T E n bad = bad := if_pos hq
 rw [e1, e2, e3]
 obtain ⟨g, o, rfl, hg, _⟩ := h.2.1.at_ (by omega)
 have cI := Lib.hid (refIs_any b c (some ⟨g, o, none⟩) T E n bad 1 [] w h)
 rw [hq] at cI
 have HR := Lib.hid h
 have HBX := Lib.hid hbx
 have HX := Lib.hid hx
 have HXX := Lib.hid hxx
 have HNL := Lib.hid hnl
 have hT := h.2.2.2
 have n0 : (0 : Int) ≤ n := by omega
 have n1 : (n : Int) < T.length := by omega
 have nT : (T.length : Int) ≤ 1000000 := by omega
 clear e1 e2 e3 hq h hx hxx hnl htx hat hg hT
 go_enter Tryd.func69, Tryd.ntmps69
 go_wp2_with fail
 refine cI.out.mono ?_
 rintro e w1 ⟨rfl, m, rfl⟩
 have R1 := Lib.hid (HR.out.go (Below.drewN_ (Below.refl _ w) m))
 have X1 := Lib.hid (show Box (w.drewN m) bx (itL z) from HX.out)
 have K1 := Lib.hid ((KeepS.refl (fun j => j = b ∨ j = bx) w).drewN m)
 generalize w.drewN m = Y at *
 go_wp2_with fail
 have hS := S_mk (w := Y.drew) R1.out HXX.out
 refine wp_region_lin [(0, true), (1, true), (2, true), (3, true), (4, true), (5, true), (6, true), (7, true), (8, true), (9, true), (10, true), (11, true), (12, true), (13, true), (14, false)]
  (by kernel_rfl) (by kernel_rfl) rfl (by kernel_rfl) (fun y => y.cell? ⟨b, 0, none⟩ = some (.slice (some ⟨g, o, none⟩) T.length c) ∧ y.cell? ⟨b, 2, none⟩ = some (.int .i64 (n : Int)) ∧ y.cell? ⟨g, o + n * 4 + 2, none⟩ = some (.int .i64 (x.at_ : Int)) ∧ y.cell? ⟨g, o + n * 4 + 3, none⟩ = some (.string (txt x.text))) ?_
 simp only [List.map_cons, List.map_nil, List.getElem?_toArray, List.getElem?_cons_succ, List.getElem?_cons_zero]
 iterate 14 (refine lin_take (v := ?_) (by assumption) (by rfl) ?_ ?_; rotate_left; (intro y hy; (try dsimp only at hy); obtain ⟨z0, z2, zx2, zx3⟩ := hy; go_simp; try (with_reducible rfl)); (try simp only [Act.put, List.setIfInBounds_toArray, List.set_cons_zero, List.set_cons_succ]))
 refine lin_call (by assumption) (by rfl) (fun K hK => ?_)
 have f8 : Y.drew.frozen? ⟨bx, 8, none⟩ = false := X1.out.frozen 8
 have c8 : Y.drew.cell? ⟨bx, 8, none⟩ = some (.string (txt z.use)) := X1.out.cell (k := 8) rfl
 clear hS
 go_simp
 go_wp2_with fail
 have q2 : KeepS (fun j => j = bx) Y (Y.setCell ⟨bx, 8, none⟩ (.string (txt x.text))) := (KeepS.refl (fun j => j = bx) Y).setCell rfl 8 _
 have R2 := Lib.hid (R1.out.keepS q2 (fun j hj => by omega))
 have X2 := Lib.hid (show Box (Y.setCell ⟨bx, 8, none⟩ (.string (txt x.text))) bx (itL { z with use := x.text }) from X1.out.setCell 8 (.string (txt x.text)))
 have K2 := Lib.hid (K1.out.trans (q2.mono (fun j hj => .inr hj)))
 refine hK.out _ _ (S_mk (w := (Y.setCell ⟨bx, 8, none⟩ (.string (txt x.text))).drew) R2.out HXX.out) (fun _ => ?_)
 clear hK K q2 f8 c8
 try simp only [Act.put, List.setIfInBounds_toArray, List.set_cons_zero, List.set_cons_succ]
 refine lin_done ?_
 have R3 := Lib.hid (show Rd (Y.setCell ⟨bx, 8, none⟩ (.string (txt x.text))).drew b (some ⟨g, o, none⟩) c T E n bad from R2.out.go (Below.refl _ _).drew)
 have X3 := Lib.hid (show Box (Y.setCell ⟨bx, 8, none⟩ (.string (txt x.text))).drew bx (itL { z with use := x.text }) from X2.out)
 have K3 := Lib.hid (K2.out.drew)
 generalize (Y.setCell ⟨bx, 8, none⟩ (.string (txt x.text))).drew = Z at *
 go_wp2_with fail
 have hS := S_mk (w := Z.drew) R3.out HXX.out
 refine wp_region_lin [(0, true), (1, true), (2, true), (3, true), (4, true), (5, true), (6, true), (7, true), (8, true), (9, true), (10, true), (11, true), (12, true), (13, true), (14, false)]
  (by kernel_rfl) (by kernel_rfl) rfl (by kernel_rfl) (fun y => y.cell? ⟨b, 0, none⟩ = some (.slice (some ⟨g, o, none⟩) T.length c) ∧ y.cell? ⟨b, 2, none⟩ = some (.int .i64 (n : Int)) ∧ y.cell? ⟨g, o + n * 4 + 2, none⟩ = some (.int .i64 (x.at_ : Int)) ∧ y.cell? ⟨g, o + n * 4 + 3, none⟩ = some (.string (txt x.text))) ?_
 simp only [List.map_cons, List.map_nil, List.getElem?_toArray, List.getElem?_cons_succ, List.getElem?_cons_zero]
 iterate 14 (refine lin_take (v := ?_) (by assumption) (by rfl) ?_ ?_; rotate_left; (intro y hy; (try dsimp only at hy); obtain ⟨z0, z2, zx2, zx3⟩ := hy; go_simp; try (with_reducible rfl)); (try simp only [Act.put, List.setIfInBounds_toArray, List.set_cons_zero, List.set_cons_succ]))
 refine lin_call (by assumption) (by rfl) (fun K hK => ?_)
 have f9 : Z.drew.frozen? ⟨bx, 9, none⟩ = false := X3.out.frozen 9
 have c9 : Z.drew.cell? ⟨bx, 9, none⟩ = some (.int .i64 z.useAt) := X3.out.cell (k := 9) rfl
 clear hS
 go_simp
 go_wp2_with fail
 have q2 : KeepS (fun j => j = bx) Z (Z.setCell ⟨bx, 9, none⟩ (.int .i64 (x.at_ : Int))) := (KeepS.refl (fun j => j = bx) Z).setCell rfl 9 _
 have R4 := Lib.hid (R3.out.keepS q2 (fun j hj => by omega))
 have X4 := Lib.hid (show Box (Z.setCell ⟨bx, 9, none⟩ (.int .i64 (x.at_ : Int))) bx (itL { z with use := x.text, useAt := (x.at_ : Int) }) from X3.out.setCell 9 (.int .i64 (x.at_ : Int)))
 have K4 := Lib.hid (K3.out.trans (q2.mono (fun j hj => .inr hj)))
 refine hK.out _ _ (S_mk (w := (Z.setCell ⟨bx, 9, none⟩ (.int .i64 (x.at_ : Int))).drew) R4.out HXX.out) (fun _ => ?_)
 clear hK K q2 f9 c9
 try simp only [Act.put, List.setIfInBounds_toArray, List.set_cons_zero, List.set_cons_succ]
 refine lin_done ?_
 have R5 := Lib.hid (show Rd (Z.setCell ⟨bx, 9, none⟩ (.int .i64 (x.at_ : Int))).drew b (some ⟨g, o, none⟩) c T E n bad from R4.out.go (Below.refl _ _).drew)
 have X5 := Lib.hid (show Box (Z.setCell ⟨bx, 9, none⟩ (.int .i64 (x.at_ : Int))).drew bx (itL { z with use := x.text, useAt := (x.at_ : Int) }) from X4.out)
 have K5 := Lib.hid (K4.out.drew)
 generalize (Z.setCell ⟨bx, 9, none⟩ (.int .i64 (x.at_ : Int))).drew = V at *
 have c2 : V.cell? ⟨b, 2, none⟩ = some (.int .i64 (n : Int)) := R5.out.1.cell (k := 2) rfl
 have f2 : V.frozen? ⟨b, 2, none⟩ = false := R5.out.1.frozen 2
 go_wp2_with fail
 obtain ⟨rn, kn⟩ := R5.out.next (m := n + 1) HNL.out
 rw [show ((n + 1 : Nat) : Int) = (n : Int) + 1 by simp] at rn kn
 exact bodyPost_ret (v := .tuple #[]) (by simp [results, Tryd.results69, go_sem]) rfl ⟨rfl, rn, X5.out.keepS kn (fun e => by have := HBX.out; omega), K5.out.trans (kn.mono (fun j hj => .inl hj))⟩
theorem refTarget2_any (b c : Nat) (A : Option Addr) (T : List Tok) (E n : Nat) (bad : Int) (bx : Nat) (z : It) (w : World) (h : Rd w b A c T E n bad) (hx : Box w bx (itL z)) (hbx : b < bx) :
  Calls Tryd.prog 69 #[.pointer (some ⟨b, 0, none⟩), .pointer (some ⟨bx, 0, none⟩)] w fun e w' => e = .returned (.tuple #[]) ∧ ItOut b c A T E (tgtM T n bad) (tgtB T E n bad) bx (tgtZ T n bad z) w w' := by
 cases hq : isQ T n bad 1 []
 ·exact refTgtNum_any b c A T E n bad bx z w h hx hbx hq
 ·exact refTgtName_any b c A T E n bad bx z w h hx hbx hq
end Go.Proofs.YtcaibahniheohaaDoor.Words

/- The document's own reader: an instruction. -/
namespace Go.Proofs.YtcaibahniheohaaDoor.Words
set_option maxRecDepth 100000
open Go.RowKit Go.Shelf Go.Lib
set_option linter.unusedVariables false
set_option linter.unusedSimpArgs false
structure RdS where
 n : Nat
 bad : Int
 it : It
inductive Stp where
 | d | a | b | c | n | t | o | q
def stpQ (T : List Tok) (E : Nat) (s : RdS) : Stp → RdS
 | .d => ⟨regM T s.n s.bad, regB T E s.n s.bad, { s.it with ins := { s.it.ins with d := regV T s.n s.bad } }⟩
 | .a => ⟨regM T s.n s.bad, regB T E s.n s.bad, { s.it with ins := { s.it.ins with a := regV T s.n s.bad } }⟩
 | .b => ⟨regM T s.n s.bad, regB T E s.n s.bad, { s.it with ins := { s.it.ins with b := regV T s.n s.bad } }⟩
 | .c => ⟨takeN T s.n s.bad 3 [44], takeB T E s.n s.bad 3 [44], s.it⟩
 | .n => ⟨takeN T s.n s.bad 2 [], takeB T E s.n s.bad 2 [], { s.it with ins := { s.it.ins with imm := (takeTok T s.n s.bad 2 []).num } }⟩
 | .t => ⟨tgtM T s.n s.bad, tgtB T E s.n s.bad, tgtZ T s.n s.bad s.it⟩
 | .o => ⟨takeN T s.n s.bad 3 [40], takeB T E s.n s.bad 3 [40], s.it⟩
 | .q => ⟨takeN T s.n s.bad 3 [41], takeB T E s.n s.bad 3 [41], s.it⟩
def stpsQ (T : List Tok) (E : Nat) (l : List Stp) (s : RdS) : RdS := l.foldl (stpQ T E) s
def formQ (k : Int) : List Stp := if k = 1 then [.d, .c, .a, .c, .b] else if k = 2 then [.d, .c, .a, .c, .n] else if k = 3 then [.d, .c, .n] else if k = 4 then [.d, .c, .n, .o, .a, .q] else if k = 5 then [.b, .c, .n, .o, .a, .q] else if k = 6 then [.a, .c, .b, .c, .t] else if k = 7 then [.t] else []
def itIns (z : It) (op : Int) : It := { z with kind := 2, ins := { z.ins with op := op } }
def insQ (T : List Tok) (E : Nat) (op : Int) (s : RdS) : RdS := stpsQ T E (formQ (formZ op)) ⟨s.n, s.bad, itIns s.it op⟩
structure OnWay (b c : Nat) (A : Option Addr) (T : List Tok) (E : Nat) (bx : Nat) (s : RdS) (w x : World) : Prop where
 rd : Rd x b A c T E s.n s.bad
 it : Box x bx (itL s.it)
 keep : KeepS (fun j => j = b ∨ j = bx) w x
section
variable {b c bx E : Nat} {A : Option Addr} {T : List Tok} {s : RdS} {w x y : World}
theorem OnWay.out (h : OnWay b c A T E bx s w x) : ItOut b c A T E s.n s.bad bx s.it w x := ⟨h.rd, h.it, h.keep⟩
theorem OnWay.rdOut {m : Nat} {bad : Int} (h : OnWay b c A T E bx s w x) (hb : b < bx) (g : RdOut b c A T E m bad x y) : OnWay b c A T E bx ⟨m, bad, s.it⟩ w y :=
 ⟨g.1, h.it.keepS g.2 (fun e => by omega), h.keep.trans (g.2.mono (fun j hj => .inl hj))⟩
theorem OnWay.set (h : OnWay b c A T E bx s w x) (hb : b < bx) {k : Nat} {v : Value} {z : It} (hz : (itL s.it).set k v = itL z) : OnWay b c A T E bx ⟨s.n, s.bad, z⟩ w (x.setCell ⟨bx, k, none⟩ v) := by
 have q : KeepS (fun j => j = bx) x (x.setCell ⟨bx, k, none⟩ v) := (KeepS.refl (fun j => j = bx) x).setCell rfl k v
 exact ⟨h.rd.keepS q (fun j hj => by omega), by rw [← hz]; exact h.it.setCell k v, h.keep.trans (q.mono (fun j hj => .inr hj))⟩
theorem OnWay.setR (h : OnWay b c A T E bx s w x) (hb : b < bx) (g : RdOut b c A T E (regM T s.n s.bad) (regB T E s.n s.bad) x y) :
  OnWay b c A T E bx (stpQ T E s .d) w (y.setCell ⟨bx, 4, none⟩ (.int .i64 (regV T s.n s.bad))) ∧ OnWay b c A T E bx (stpQ T E s .a) w (y.setCell ⟨bx, 5, none⟩ (.int .i64 (regV T s.n s.bad))) ∧ OnWay b c A T E bx (stpQ T E s .b) w (y.setCell ⟨bx, 6, none⟩ (.int .i64 (regV T s.n s.bad))) :=
 ⟨(h.rdOut hb g).set hb rfl, (h.rdOut hb g).set hb rfl, (h.rdOut hb g).set hb rfl⟩
theorem OnWay.setN (h : OnWay b c A T E bx s w x) (hb : b < bx) (g : RdOut b c A T E (takeN T s.n s.bad 2 []) (takeB T E s.n s.bad 2 []) x y) :
  OnWay b c A T E bx (stpQ T E s .n) w (y.setCell ⟨bx, 7, none⟩ (.int .i64 (takeTok T s.n s.bad 2 []).num)) := (h.rdOut hb g).set hb rfl
theorem OnWay.itOut (h : OnWay b c A T E bx s w x) (g : ItOut b c A T E (tgtM T s.n s.bad) (tgtB T E s.n s.bad) bx (tgtZ T s.n s.bad s.it) x y) : OnWay b c A T E bx (stpQ T E s .t) w y := ⟨g.1, g.2.1, h.keep.trans g.2.2⟩
theorem OnWay.go (h : OnWay b c A T E bx s w x) (hb : Below x.heap.size x y) : OnWay b c A T E bx s w y := ⟨h.rd.go hb, h.it.below hb h.it.lt, h.keep.go hb⟩
end
theorem field_numQ (t : Tok) (y : World) : (Instr.field 48 (.agg #[.int .i64 t.kind, .int .i64 t.num, .int .i64 (t.at_ : Int), .string (txt t.text)]) 1).run Tryd.prog y = .ok (.int .i64 t.num) y := by kernel_rfl
set_option maxHeartbeats 8000000 in
theorem refIns_1 (b c : Nat) (A : Option Addr) (T : List Tok) (E n : Nat) (bad : Int) (bx : Nat) (z : It) (op : Int) (w : World) (h : Rd w b A c T E n bad) (hx : Box w bx (itL z)) (hbx : b < bx) (hf : formZ op = 1) :
  Calls Tryd.prog 42 #[.pointer (some ⟨b, 0, none⟩), .int .i64 op, .pointer (some ⟨bx, 0, none⟩)] w fun e w' => e = .returned (.tuple #[]) ∧ OnWay b c A T E bx (insQ T E op ⟨n, bad, z⟩) w w' := by
 have HBX := Lib.hid hbx
 have o0 : OnWay b c A T E bx ⟨n, bad, z⟩ w w := ⟨h, hx, KeepS.refl _ _⟩
 have o1 := (o0.set hbx (k := 0) (v := .int .i64 2) (z := { z with kind := 2 }) rfl).set hbx (k := 3) (v := .int .i64 op) (z := itIns z op) rfl
 have O1 := Lib.hid o1
 have f0 := hx.frozen 0
 have c0 := hx.cell (k := 0) rfl
 have o2 := o0.set hbx (k := 0) (v := .int .i64 2) (z := { z with kind := 2 }) rfl
 have f3 := o2.it.frozen 3
 have c3 := o2.it.cell (k := 3) rfl
 have hQ := Lib.hid (show insQ T E op ⟨n, bad, z⟩ = stpsQ T E (formQ (formZ op)) ⟨n, bad, itIns z op⟩ from rfl)
 rw [hf] at hQ
 clear h hx hbx o0 o1 o2
 go_enter Tryd.func42, Tryd.ntmps42
 go_wp2_with fail
 generalize ((w.setCell ⟨bx, 0, none⟩ (.int .i64 2)).setCell ⟨bx, 3, none⟩ (.int .i64 op)) = x1 at *
 refine (refForm_any op _).mono ?_; rintro e x0 ⟨rfl, rfl⟩
 rw [hf]
 clear f0 c0 f3 c3
 obtain ⟨s1, hs1⟩ : ∃ s : RdS, s = ⟨n, bad, itIns z op⟩ := ⟨_, rfl⟩
 rw [← hs1] at hQ
 have o1 := O1.out
 change OnWay b c A T E bx ⟨n, bad, itIns z op⟩ w x1 at o1
 rw [← hs1] at o1
 have Q1 := Lib.hid o1
 clear o1 O1 hs1
 go_wp2_with fail
 refine (refReg_any b c A T E s1.n s1.bad _ Q1.out.rd).mono ?_
 rintro e y2 ⟨rfl, g2⟩
 have f2 := (Q1.out.rdOut HBX.out g2).it.frozen 4
 have c2 := (Q1.out.rdOut HBX.out g2).it.cell (k := 4) rfl
 have R2 := Lib.hid (Q1.out.setR HBX.out g2).1
 clear g2
 obtain ⟨s2, hs2⟩ : ∃ s, s = stpQ T E s1 .d := ⟨_, rfl⟩
 rw [← hs2] at R2
 have HS2 := Lib.hid hs2
 clear hs2
 go_wp2_with fail
 generalize (y2.setCell ⟨bx, 4, none⟩ (.int .i64 (regV T s1.n s1.bad))) = x2 at *
 have Q2 := R2
 clear f2 c2
 go_wp2_with fail
 refine (refComma_any b c A T E s2.n s2.bad _ Q2.out.rd).mono ?_
 rintro e y3 ⟨rfl, g3⟩
 have R3 := Lib.hid (show OnWay b c A T E bx (stpQ T E s2 .c) w y3 from Q2.out.rdOut HBX.out g3)
 clear g3
 obtain ⟨s3, hs3⟩ : ∃ s, s = stpQ T E s2 .c := ⟨_, rfl⟩
 rw [← hs3] at R3
 have HS3 := Lib.hid hs3
 clear hs3
 have Q3 := R3
 go_wp2_with fail
 refine (refReg_any b c A T E s3.n s3.bad _ Q3.out.rd).mono ?_
 rintro e y4 ⟨rfl, g4⟩
 have f4 := (Q3.out.rdOut HBX.out g4).it.frozen 5
 have c4 := (Q3.out.rdOut HBX.out g4).it.cell (k := 5) rfl
 have R4 := Lib.hid (Q3.out.setR HBX.out g4).2.1
 clear g4
 obtain ⟨s4, hs4⟩ : ∃ s, s = stpQ T E s3 .a := ⟨_, rfl⟩
 rw [← hs4] at R4
 have HS4 := Lib.hid hs4
 clear hs4
 go_wp2_with fail
 generalize (y4.setCell ⟨bx, 5, none⟩ (.int .i64 (regV T s3.n s3.bad))) = x4 at *
 have Q4 := R4
 clear f4 c4
 go_wp2_with fail
 refine (refComma_any b c A T E s4.n s4.bad _ Q4.out.rd).mono ?_
 rintro e y5 ⟨rfl, g5⟩
 have R5 := Lib.hid (show OnWay b c A T E bx (stpQ T E s4 .c) w y5 from Q4.out.rdOut HBX.out g5)
 clear g5
 obtain ⟨s5, hs5⟩ : ∃ s, s = stpQ T E s4 .c := ⟨_, rfl⟩
 rw [← hs5] at R5
 have HS5 := Lib.hid hs5
 clear hs5
 have Q5 := R5
 go_wp2_with fail
 refine (refReg_any b c A T E s5.n s5.bad _ Q5.out.rd).mono ?_
 rintro e y6 ⟨rfl, g6⟩
 have f6 := (Q5.out.rdOut HBX.out g6).it.frozen 6
 have c6 := (Q5.out.rdOut HBX.out g6).it.cell (k := 6) rfl
 have R6 := Lib.hid (Q5.out.setR HBX.out g6).2.2
 clear g6
 obtain ⟨s6, hs6⟩ : ∃ s, s = stpQ T E s5 .b := ⟨_, rfl⟩
 rw [← hs6] at R6
 have HS6 := Lib.hid hs6
 clear hs6
 go_wp2_with fail
 generalize (y6.setCell ⟨bx, 6, none⟩ (.int .i64 (regV T s5.n s5.bad))) = x6 at *
 have Q6 := R6
 clear f6 c6
 go_wp2_with fail
 have hfin : insQ T E op ⟨n, bad, z⟩ = s6 := by
  rw [hQ.out]
  show (stpsQ T E [.d, .c, .a, .c, .b] s1) = _
  rw [HS6.out, HS5.out, HS4.out, HS3.out, HS2.out]
  rfl
 rw [← hfin] at Q6
 exact bodyPost_end (v := .tuple #[]) (by simp [results, Tryd.results42]) rfl ⟨rfl, Q6.out⟩
set_option maxHeartbeats 8000000 in
theorem refIns_2 (b c : Nat) (A : Option Addr) (T : List Tok) (E n : Nat) (bad : Int) (bx : Nat) (z : It) (op : Int) (w : World) (h : Rd w b A c T E n bad) (hx : Box w bx (itL z)) (hbx : b < bx) (hf : formZ op = 2) :
  Calls Tryd.prog 42 #[.pointer (some ⟨b, 0, none⟩), .int .i64 op, .pointer (some ⟨bx, 0, none⟩)] w fun e w' => e = .returned (.tuple #[]) ∧ OnWay b c A T E bx (insQ T E op ⟨n, bad, z⟩) w w' := by
 have HBX := Lib.hid hbx
 have o0 : OnWay b c A T E bx ⟨n, bad, z⟩ w w := ⟨h, hx, KeepS.refl _ _⟩
 have o1 := (o0.set hbx (k := 0) (v := .int .i64 2) (z := { z with kind := 2 }) rfl).set hbx (k := 3) (v := .int .i64 op) (z := itIns z op) rfl
 have O1 := Lib.hid o1
 have f0 := hx.frozen 0
 have c0 := hx.cell (k := 0) rfl
 have o2 := o0.set hbx (k := 0) (v := .int .i64 2) (z := { z with kind := 2 }) rfl
 have f3 := o2.it.frozen 3
 have c3 := o2.it.cell (k := 3) rfl
 have hQ := Lib.hid (show insQ T E op ⟨n, bad, z⟩ = stpsQ T E (formQ (formZ op)) ⟨n, bad, itIns z op⟩ from rfl)
 rw [hf] at hQ
 clear h hx hbx o0 o1 o2
 go_enter Tryd.func42, Tryd.ntmps42
 go_wp2_with fail
 generalize ((w.setCell ⟨bx, 0, none⟩ (.int .i64 2)).setCell ⟨bx, 3, none⟩ (.int .i64 op)) = x1 at *
 refine (refForm_any op _).mono ?_; rintro e x0 ⟨rfl, rfl⟩
 rw [hf]
 clear f0 c0 f3 c3
 obtain ⟨s1, hs1⟩ : ∃ s : RdS, s = ⟨n, bad, itIns z op⟩ := ⟨_, rfl⟩
 rw [← hs1] at hQ
 have o1 := O1.out
 change OnWay b c A T E bx ⟨n, bad, itIns z op⟩ w x1 at o1
 rw [← hs1] at o1
 have Q1 := Lib.hid o1
 clear o1 O1 hs1
 go_wp2_with fail
 refine (refReg_any b c A T E s1.n s1.bad _ Q1.out.rd).mono ?_
 rintro e y2 ⟨rfl, g2⟩
 have f2 := (Q1.out.rdOut HBX.out g2).it.frozen 4
 have c2 := (Q1.out.rdOut HBX.out g2).it.cell (k := 4) rfl
 have R2 := Lib.hid (Q1.out.setR HBX.out g2).1
 clear g2
 obtain ⟨s2, hs2⟩ : ∃ s, s = stpQ T E s1 .d := ⟨_, rfl⟩
 rw [← hs2] at R2
 have HS2 := Lib.hid hs2
 clear hs2
 go_wp2_with fail
 generalize (y2.setCell ⟨bx, 4, none⟩ (.int .i64 (regV T s1.n s1.bad))) = x2 at *
 have Q2 := R2
 clear f2 c2
 go_wp2_with fail
 refine (refComma_any b c A T E s2.n s2.bad _ Q2.out.rd).mono ?_
 rintro e y3 ⟨rfl, g3⟩
 have R3 := Lib.hid (show OnWay b c A T E bx (stpQ T E s2 .c) w y3 from Q2.out.rdOut HBX.out g3)
 clear g3
 obtain ⟨s3, hs3⟩ : ∃ s, s = stpQ T E s2 .c := ⟨_, rfl⟩
 rw [← hs3] at R3
 have HS3 := Lib.hid hs3
 clear hs3
 have Q3 := R3
 go_wp2_with fail
 refine (refReg_any b c A T E s3.n s3.bad _ Q3.out.rd).mono ?_
 rintro e y4 ⟨rfl, g4⟩
 have f4 := (Q3.out.rdOut HBX.out g4).it.frozen 5
 have c4 := (Q3.out.rdOut HBX.out g4).it.cell (k := 5) rfl
 have R4 := Lib.hid (Q3.out.setR HBX.out g4).2.1
 clear g4
 obtain ⟨s4, hs4⟩ : ∃ s, s = stpQ T E s3 .a := ⟨_, rfl⟩
 rw [← hs4] at R4
 have HS4 := Lib.hid hs4
 clear hs4
 go_wp2_with fail
 generalize (y4.setCell ⟨bx, 5, none⟩ (.int .i64 (regV T s3.n s3.bad))) = x4 at *
 have Q4 := R4
 clear f4 c4
 go_wp2_with fail
 refine (refComma_any b c A T E s4.n s4.bad _ Q4.out.rd).mono ?_
 rintro e y5 ⟨rfl, g5⟩
 have R5 := Lib.hid (show OnWay b c A T E bx (stpQ T E s4 .c) w y5 from Q4.out.rdOut HBX.out g5)
 clear g5
 obtain ⟨s5, hs5⟩ : ∃ s, s = stpQ T E s4 .c := ⟨_, rfl⟩
 rw [← hs5] at R5
 have HS5 := Lib.hid hs5
 clear hs5
 have Q5 := R5
 go_wp2_with fail
 refine (refTake_any b c A T E s5.n s5.bad 2 [] _ Q5.out.rd).mono ?_
 rintro e y6 ⟨rfl, g6⟩
 have f6 := (Q5.out.rdOut HBX.out g6).it.frozen 7
 have c6 := (Q5.out.rdOut HBX.out g6).it.cell (k := 7) rfl
 have R6 := Lib.hid (Q5.out.setN HBX.out g6)
 clear g6
 dsimp only [tokVal]
 have fld := fun y => field_numQ (takeTok T s5.n s5.bad 2 []) y
 obtain ⟨s6, hs6⟩ : ∃ s, s = stpQ T E s5 .n := ⟨_, rfl⟩
 rw [← hs6] at R6
 have HS6 := Lib.hid hs6
 clear hs6
 go_wp2_with fail
 generalize (y6.setCell ⟨bx, 7, none⟩ (.int .i64 (takeTok T s5.n s5.bad 2 []).num)) = x6 at *
 have Q6 := R6
 clear f6 c6 fld
 go_wp2_with fail
 have hfin : insQ T E op ⟨n, bad, z⟩ = s6 := by
  rw [hQ.out]
  show (stpsQ T E [.d, .c, .a, .c, .n] s1) = _
  rw [HS6.out, HS5.out, HS4.out, HS3.out, HS2.out]
  rfl
 rw [← hfin] at Q6
 exact bodyPost_end (v := .tuple #[]) (by simp [results, Tryd.results42]) rfl ⟨rfl, Q6.out⟩
set_option maxHeartbeats 8000000 in
theorem refIns_3 (b c : Nat) (A : Option Addr) (T : List Tok) (E n : Nat) (bad : Int) (bx : Nat) (z : It) (op : Int) (w : World) (h : Rd w b A c T E n bad) (hx : Box w bx (itL z)) (hbx : b < bx) (hf : formZ op = 3) :
  Calls Tryd.prog 42 #[.pointer (some ⟨b, 0, none⟩), .int .i64 op, .pointer (some ⟨bx, 0, none⟩)] w fun e w' => e = .returned (.tuple #[]) ∧ OnWay b c A T E bx (insQ T E op ⟨n, bad, z⟩) w w' := by
 have HBX := Lib.hid hbx
 have o0 : OnWay b c A T E bx ⟨n, bad, z⟩ w w := ⟨h, hx, KeepS.refl _ _⟩
 have o1 := (o0.set hbx (k := 0) (v := .int .i64 2) (z := { z with kind := 2 }) rfl).set hbx (k := 3) (v := .int .i64 op) (z := itIns z op) rfl
 have O1 := Lib.hid o1
 have f0 := hx.frozen 0
 have c0 := hx.cell (k := 0) rfl
 have o2 := o0.set hbx (k := 0) (v := .int .i64 2) (z := { z with kind := 2 }) rfl
 have f3 := o2.it.frozen 3
 have c3 := o2.it.cell (k := 3) rfl
 have hQ := Lib.hid (show insQ T E op ⟨n, bad, z⟩ = stpsQ T E (formQ (formZ op)) ⟨n, bad, itIns z op⟩ from rfl)
 rw [hf] at hQ
 clear h hx hbx o0 o1 o2
 go_enter Tryd.func42, Tryd.ntmps42
 go_wp2_with fail
 generalize ((w.setCell ⟨bx, 0, none⟩ (.int .i64 2)).setCell ⟨bx, 3, none⟩ (.int .i64 op)) = x1 at *
 refine (refForm_any op _).mono ?_; rintro e x0 ⟨rfl, rfl⟩
 rw [hf]
 clear f0 c0 f3 c3
 obtain ⟨s1, hs1⟩ : ∃ s : RdS, s = ⟨n, bad, itIns z op⟩ := ⟨_, rfl⟩
 rw [← hs1] at hQ
 have o1 := O1.out
 change OnWay b c A T E bx ⟨n, bad, itIns z op⟩ w x1 at o1
 rw [← hs1] at o1
 have Q1 := Lib.hid o1
 clear o1 O1 hs1
 go_wp2_with fail
 refine (refReg_any b c A T E s1.n s1.bad _ Q1.out.rd).mono ?_
 rintro e y2 ⟨rfl, g2⟩
 have f2 := (Q1.out.rdOut HBX.out g2).it.frozen 4
 have c2 := (Q1.out.rdOut HBX.out g2).it.cell (k := 4) rfl
 have R2 := Lib.hid (Q1.out.setR HBX.out g2).1
 clear g2
 obtain ⟨s2, hs2⟩ : ∃ s, s = stpQ T E s1 .d := ⟨_, rfl⟩
 rw [← hs2] at R2
 have HS2 := Lib.hid hs2
 clear hs2
 go_wp2_with fail
 generalize (y2.setCell ⟨bx, 4, none⟩ (.int .i64 (regV T s1.n s1.bad))) = x2 at *
 have Q2 := R2
 clear f2 c2
 go_wp2_with fail
 refine (refComma_any b c A T E s2.n s2.bad _ Q2.out.rd).mono ?_
 rintro e y3 ⟨rfl, g3⟩
 have R3 := Lib.hid (show OnWay b c A T E bx (stpQ T E s2 .c) w y3 from Q2.out.rdOut HBX.out g3)
 clear g3
 obtain ⟨s3, hs3⟩ : ∃ s, s = stpQ T E s2 .c := ⟨_, rfl⟩
 rw [← hs3] at R3
 have HS3 := Lib.hid hs3
 clear hs3
 have Q3 := R3
 go_wp2_with fail
 refine (refTake_any b c A T E s3.n s3.bad 2 [] _ Q3.out.rd).mono ?_
 rintro e y4 ⟨rfl, g4⟩
 have f4 := (Q3.out.rdOut HBX.out g4).it.frozen 7
 have c4 := (Q3.out.rdOut HBX.out g4).it.cell (k := 7) rfl
 have R4 := Lib.hid (Q3.out.setN HBX.out g4)
 clear g4
 dsimp only [tokVal]
 have fld := fun y => field_numQ (takeTok T s3.n s3.bad 2 []) y
 obtain ⟨s4, hs4⟩ : ∃ s, s = stpQ T E s3 .n := ⟨_, rfl⟩
 rw [← hs4] at R4
 have HS4 := Lib.hid hs4
 clear hs4
 go_wp2_with fail
 generalize (y4.setCell ⟨bx, 7, none⟩ (.int .i64 (takeTok T s3.n s3.bad 2 []).num)) = x4 at *
 have Q4 := R4
 clear f4 c4 fld
 go_wp2_with fail
 have hfin : insQ T E op ⟨n, bad, z⟩ = s4 := by
  rw [hQ.out]
  show (stpsQ T E [.d, .c, .n] s1) = _
  rw [HS4.out, HS3.out, HS2.out]
  rfl
 rw [← hfin] at Q4
 exact bodyPost_end (v := .tuple #[]) (by simp [results, Tryd.results42]) rfl ⟨rfl, Q4.out⟩
set_option maxHeartbeats 8000000 in
theorem refIns_4 (b c : Nat) (A : Option Addr) (T : List Tok) (E n : Nat) (bad : Int) (bx : Nat) (z : It) (op : Int) (w : World) (h : Rd w b A c T E n bad) (hx : Box w bx (itL z)) (hbx : b < bx) (hf : formZ op = 4) :
  Calls Tryd.prog 42 #[.pointer (some ⟨b, 0, none⟩), .int .i64 op, .pointer (some ⟨bx, 0, none⟩)] w fun e w' => e = .returned (.tuple #[]) ∧ OnWay b c A T E bx (insQ T E op ⟨n, bad, z⟩) w w' := by
 have HBX := Lib.hid hbx
 have o0 : OnWay b c A T E bx ⟨n, bad, z⟩ w w := ⟨h, hx, KeepS.refl _ _⟩
 have o1 := (o0.set hbx (k := 0) (v := .int .i64 2) (z := { z with kind := 2 }) rfl).set hbx (k := 3) (v := .int .i64 op) (z := itIns z op) rfl
 have O1 := Lib.hid o1
 have f0 := hx.frozen 0
 have c0 := hx.cell (k := 0) rfl
 have o2 := o0.set hbx (k := 0) (v := .int .i64 2) (z := { z with kind := 2 }) rfl
 have f3 := o2.it.frozen 3
 have c3 := o2.it.cell (k := 3) rfl
 have hQ := Lib.hid (show insQ T E op ⟨n, bad, z⟩ = stpsQ T E (formQ (formZ op)) ⟨n, bad, itIns z op⟩ from rfl)
 rw [hf] at hQ
 clear h hx hbx o0 o1 o2
 go_enter Tryd.func42, Tryd.ntmps42
 go_wp2_with fail
 generalize ((w.setCell ⟨bx, 0, none⟩ (.int .i64 2)).setCell ⟨bx, 3, none⟩ (.int .i64 op)) = x1 at *
 refine (refForm_any op _).mono ?_; rintro e x0 ⟨rfl, rfl⟩
 rw [hf]
 clear f0 c0 f3 c3
 obtain ⟨s1, hs1⟩ : ∃ s : RdS, s = ⟨n, bad, itIns z op⟩ := ⟨_, rfl⟩
 rw [← hs1] at hQ
 have o1 := O1.out
 change OnWay b c A T E bx ⟨n, bad, itIns z op⟩ w x1 at o1
 rw [← hs1] at o1
 have Q1 := Lib.hid o1
 clear o1 O1 hs1
 go_wp2_with fail
 refine (refReg_any b c A T E s1.n s1.bad _ Q1.out.rd).mono ?_
 rintro e y2 ⟨rfl, g2⟩
 have f2 := (Q1.out.rdOut HBX.out g2).it.frozen 4
 have c2 := (Q1.out.rdOut HBX.out g2).it.cell (k := 4) rfl
 have R2 := Lib.hid (Q1.out.setR HBX.out g2).1
 clear g2
 obtain ⟨s2, hs2⟩ : ∃ s, s = stpQ T E s1 .d := ⟨_, rfl⟩
 rw [← hs2] at R2
 have HS2 := Lib.hid hs2
 clear hs2
 go_wp2_with fail
 refine (refForm_any op _).mono ?_; rintro e x0 ⟨rfl, rfl⟩
 rw [hf]
 go_wp2_with fail
 generalize (y2.setCell ⟨bx, 4, none⟩ (.int .i64 (regV T s1.n s1.bad))) = x2 at *
 have Q2 := R2
 clear f2 c2
 go_wp2_with fail
 refine (refComma_any b c A T E s2.n s2.bad _ Q2.out.rd).mono ?_
 rintro e y3 ⟨rfl, g3⟩
 have R3 := Lib.hid (show OnWay b c A T E bx (stpQ T E s2 .c) w y3 from Q2.out.rdOut HBX.out g3)
 clear g3
 obtain ⟨s3, hs3⟩ : ∃ s, s = stpQ T E s2 .c := ⟨_, rfl⟩
 rw [← hs3] at R3
 have HS3 := Lib.hid hs3
 clear hs3
 have Q3 := R3
 go_wp2_with fail
 refine (refTake_any b c A T E s3.n s3.bad 2 [] _ Q3.out.rd).mono ?_
 rintro e y4 ⟨rfl, g4⟩
 have f4 := (Q3.out.rdOut HBX.out g4).it.frozen 7
 have c4 := (Q3.out.rdOut HBX.out g4).it.cell (k := 7) rfl
 have R4 := Lib.hid (Q3.out.setN HBX.out g4)
 clear g4
 dsimp only [tokVal]
 have fld := fun y => field_numQ (takeTok T s3.n s3.bad 2 []) y
 obtain ⟨s4, hs4⟩ : ∃ s, s = stpQ T E s3 .n := ⟨_, rfl⟩
 rw [← hs4] at R4
 have HS4 := Lib.hid hs4
 clear hs4
 go_wp2_with fail
 generalize (y4.setCell ⟨bx, 7, none⟩ (.int .i64 (takeTok T s3.n s3.bad 2 []).num)) = x4 at *
 have Q4 := R4
 clear f4 c4 fld
 go_wp2_with fail
 refine (refTake_any b c A T E s4.n s4.bad 3 [40] _ Q4.out.rd).mono ?_
 rintro e y5 ⟨rfl, g5⟩
 have R5 := Lib.hid (show OnWay b c A T E bx (stpQ T E s4 .o) w y5 from Q4.out.rdOut HBX.out g5)
 clear g5
 obtain ⟨s5, hs5⟩ : ∃ s, s = stpQ T E s4 .o := ⟨_, rfl⟩
 rw [← hs5] at R5
 have HS5 := Lib.hid hs5
 clear hs5
 have Q5 := R5
 go_wp2_with fail
 refine (refReg_any b c A T E s5.n s5.bad _ Q5.out.rd).mono ?_
 rintro e y6 ⟨rfl, g6⟩
 have f6 := (Q5.out.rdOut HBX.out g6).it.frozen 5
 have c6 := (Q5.out.rdOut HBX.out g6).it.cell (k := 5) rfl
 have R6 := Lib.hid (Q5.out.setR HBX.out g6).2.1
 clear g6
 obtain ⟨s6, hs6⟩ : ∃ s, s = stpQ T E s5 .a := ⟨_, rfl⟩
 rw [← hs6] at R6
 have HS6 := Lib.hid hs6
 clear hs6
 go_wp2_with fail
 generalize (y6.setCell ⟨bx, 5, none⟩ (.int .i64 (regV T s5.n s5.bad))) = x6 at *
 have Q6 := R6
 clear f6 c6
 go_wp2_with fail
 refine (refTake_any b c A T E s6.n s6.bad 3 [41] _ Q6.out.rd).mono ?_
 rintro e y7 ⟨rfl, g7⟩
 have R7 := Lib.hid (show OnWay b c A T E bx (stpQ T E s6 .q) w y7 from Q6.out.rdOut HBX.out g7)
 clear g7
 obtain ⟨s7, hs7⟩ : ∃ s, s = stpQ T E s6 .q := ⟨_, rfl⟩
 rw [← hs7] at R7
 have HS7 := Lib.hid hs7
 clear hs7
 have Q7 := R7
 go_wp2_with fail
 have hfin : insQ T E op ⟨n, bad, z⟩ = s7 := by
  rw [hQ.out]
  show (stpsQ T E [.d, .c, .n, .o, .a, .q] s1) = _
  rw [HS7.out, HS6.out, HS5.out, HS4.out, HS3.out, HS2.out]
  rfl
 rw [← hfin] at Q7
 exact bodyPost_end (v := .tuple #[]) (by simp [results, Tryd.results42]) rfl ⟨rfl, Q7.out⟩
set_option maxHeartbeats 8000000 in
theorem refIns_5 (b c : Nat) (A : Option Addr) (T : List Tok) (E n : Nat) (bad : Int) (bx : Nat) (z : It) (op : Int) (w : World) (h : Rd w b A c T E n bad) (hx : Box w bx (itL z)) (hbx : b < bx) (hf : formZ op = 5) :
  Calls Tryd.prog 42 #[.pointer (some ⟨b, 0, none⟩), .int .i64 op, .pointer (some ⟨bx, 0, none⟩)] w fun e w' => e = .returned (.tuple #[]) ∧ OnWay b c A T E bx (insQ T E op ⟨n, bad, z⟩) w w' := by
 have HBX := Lib.hid hbx
 have o0 : OnWay b c A T E bx ⟨n, bad, z⟩ w w := ⟨h, hx, KeepS.refl _ _⟩
 have o1 := (o0.set hbx (k := 0) (v := .int .i64 2) (z := { z with kind := 2 }) rfl).set hbx (k := 3) (v := .int .i64 op) (z := itIns z op) rfl
 have O1 := Lib.hid o1
 have f0 := hx.frozen 0
 have c0 := hx.cell (k := 0) rfl
 have o2 := o0.set hbx (k := 0) (v := .int .i64 2) (z := { z with kind := 2 }) rfl
 have f3 := o2.it.frozen 3
 have c3 := o2.it.cell (k := 3) rfl
 have hQ := Lib.hid (show insQ T E op ⟨n, bad, z⟩ = stpsQ T E (formQ (formZ op)) ⟨n, bad, itIns z op⟩ from rfl)
 rw [hf] at hQ
 clear h hx hbx o0 o1 o2
 go_enter Tryd.func42, Tryd.ntmps42
 go_wp2_with fail
 generalize ((w.setCell ⟨bx, 0, none⟩ (.int .i64 2)).setCell ⟨bx, 3, none⟩ (.int .i64 op)) = x1 at *
 refine (refForm_any op _).mono ?_; rintro e x0 ⟨rfl, rfl⟩
 rw [hf]
 clear f0 c0 f3 c3
 obtain ⟨s1, hs1⟩ : ∃ s : RdS, s = ⟨n, bad, itIns z op⟩ := ⟨_, rfl⟩
 rw [← hs1] at hQ
 have o1 := O1.out
 change OnWay b c A T E bx ⟨n, bad, itIns z op⟩ w x1 at o1
 rw [← hs1] at o1
 have Q1 := Lib.hid o1
 clear o1 O1 hs1
 go_wp2_with fail
 refine (refReg_any b c A T E s1.n s1.bad _ Q1.out.rd).mono ?_
 rintro e y2 ⟨rfl, g2⟩
 have f2 := (Q1.out.rdOut HBX.out g2).it.frozen 6
 have c2 := (Q1.out.rdOut HBX.out g2).it.cell (k := 6) rfl
 have R2 := Lib.hid (Q1.out.setR HBX.out g2).2.2
 clear g2
 obtain ⟨s2, hs2⟩ : ∃ s, s = stpQ T E s1 .b := ⟨_, rfl⟩
 rw [← hs2] at R2
 have HS2 := Lib.hid hs2
 clear hs2
 go_wp2_with fail
 refine (refForm_any op _).mono ?_; rintro e x0 ⟨rfl, rfl⟩
 rw [hf]
 go_wp2_with fail
 generalize (y2.setCell ⟨bx, 6, none⟩ (.int .i64 (regV T s1.n s1.bad))) = x2 at *
 have Q2 := R2
 clear f2 c2
 go_wp2_with fail
 refine (refComma_any b c A T E s2.n s2.bad _ Q2.out.rd).mono ?_
 rintro e y3 ⟨rfl, g3⟩
 have R3 := Lib.hid (show OnWay b c A T E bx (stpQ T E s2 .c) w y3 from Q2.out.rdOut HBX.out g3)
 clear g3
 obtain ⟨s3, hs3⟩ : ∃ s, s = stpQ T E s2 .c := ⟨_, rfl⟩
 rw [← hs3] at R3
 have HS3 := Lib.hid hs3
 clear hs3
 have Q3 := R3
 go_wp2_with fail
 refine (refTake_any b c A T E s3.n s3.bad 2 [] _ Q3.out.rd).mono ?_
 rintro e y4 ⟨rfl, g4⟩
 have f4 := (Q3.out.rdOut HBX.out g4).it.frozen 7
 have c4 := (Q3.out.rdOut HBX.out g4).it.cell (k := 7) rfl
 have R4 := Lib.hid (Q3.out.setN HBX.out g4)
 clear g4
 dsimp only [tokVal]
 have fld := fun y => field_numQ (takeTok T s3.n s3.bad 2 []) y
 obtain ⟨s4, hs4⟩ : ∃ s, s = stpQ T E s3 .n := ⟨_, rfl⟩
 rw [← hs4] at R4
 have HS4 := Lib.hid hs4
 clear hs4
 go_wp2_with fail
 generalize (y4.setCell ⟨bx, 7, none⟩ (.int .i64 (takeTok T s3.n s3.bad 2 []).num)) = x4 at *
 have Q4 := R4
 clear f4 c4 fld
 go_wp2_with fail
 refine (refTake_any b c A T E s4.n s4.bad 3 [40] _ Q4.out.rd).mono ?_
 rintro e y5 ⟨rfl, g5⟩
 have R5 := Lib.hid (show OnWay b c A T E bx (stpQ T E s4 .o) w y5 from Q4.out.rdOut HBX.out g5)
 clear g5
 obtain ⟨s5, hs5⟩ : ∃ s, s = stpQ T E s4 .o := ⟨_, rfl⟩
 rw [← hs5] at R5
 have HS5 := Lib.hid hs5
 clear hs5
 have Q5 := R5
 go_wp2_with fail
 refine (refReg_any b c A T E s5.n s5.bad _ Q5.out.rd).mono ?_
 rintro e y6 ⟨rfl, g6⟩
 have f6 := (Q5.out.rdOut HBX.out g6).it.frozen 5
 have c6 := (Q5.out.rdOut HBX.out g6).it.cell (k := 5) rfl
 have R6 := Lib.hid (Q5.out.setR HBX.out g6).2.1
 clear g6
 obtain ⟨s6, hs6⟩ : ∃ s, s = stpQ T E s5 .a := ⟨_, rfl⟩
 rw [← hs6] at R6
 have HS6 := Lib.hid hs6
 clear hs6
 go_wp2_with fail
 generalize (y6.setCell ⟨bx, 5, none⟩ (.int .i64 (regV T s5.n s5.bad))) = x6 at *
 have Q6 := R6
 clear f6 c6
 go_wp2_with fail
 refine (refTake_any b c A T E s6.n s6.bad 3 [41] _ Q6.out.rd).mono ?_
 rintro e y7 ⟨rfl, g7⟩
 have R7 := Lib.hid (show OnWay b c A T E bx (stpQ T E s6 .q) w y7 from Q6.out.rdOut HBX.out g7)
 clear g7
 obtain ⟨s7, hs7⟩ : ∃ s, s = stpQ T E s6 .q := ⟨_, rfl⟩
 rw [← hs7] at R7
 have HS7 := Lib.hid hs7
 clear hs7
 have Q7 := R7
 go_wp2_with fail
 have hfin : insQ T E op ⟨n, bad, z⟩ = s7 := by
  rw [hQ.out]
  show (stpsQ T E [.b, .c, .n, .o, .a, .q] s1) = _
  rw [HS7.out, HS6.out, HS5.out, HS4.out, HS3.out, HS2.out]
  rfl
 rw [← hfin] at Q7
 exact bodyPost_end (v := .tuple #[]) (by simp [results, Tryd.results42]) rfl ⟨rfl, Q7.out⟩
set_option maxHeartbeats 8000000 in
theorem refIns_6 (b c : Nat) (A : Option Addr) (T : List Tok) (E n : Nat) (bad : Int) (bx : Nat) (z : It) (op : Int) (w : World) (h : Rd w b A c T E n bad) (hx : Box w bx (itL z)) (hbx : b < bx) (hf : formZ op = 6) :
  Calls Tryd.prog 42 #[.pointer (some ⟨b, 0, none⟩), .int .i64 op, .pointer (some ⟨bx, 0, none⟩)] w fun e w' => e = .returned (.tuple #[]) ∧ OnWay b c A T E bx (insQ T E op ⟨n, bad, z⟩) w w' := by
 have HBX := Lib.hid hbx
 have o0 : OnWay b c A T E bx ⟨n, bad, z⟩ w w := ⟨h, hx, KeepS.refl _ _⟩
 have o1 := (o0.set hbx (k := 0) (v := .int .i64 2) (z := { z with kind := 2 }) rfl).set hbx (k := 3) (v := .int .i64 op) (z := itIns z op) rfl
 have O1 := Lib.hid o1
 have f0 := hx.frozen 0
 have c0 := hx.cell (k := 0) rfl
 have o2 := o0.set hbx (k := 0) (v := .int .i64 2) (z := { z with kind := 2 }) rfl
 have f3 := o2.it.frozen 3
 have c3 := o2.it.cell (k := 3) rfl
 have hQ := Lib.hid (show insQ T E op ⟨n, bad, z⟩ = stpsQ T E (formQ (formZ op)) ⟨n, bad, itIns z op⟩ from rfl)
 rw [hf] at hQ
 clear h hx hbx o0 o1 o2
 go_enter Tryd.func42, Tryd.ntmps42
 go_wp2_with fail
 generalize ((w.setCell ⟨bx, 0, none⟩ (.int .i64 2)).setCell ⟨bx, 3, none⟩ (.int .i64 op)) = x1 at *
 refine (refForm_any op _).mono ?_; rintro e x0 ⟨rfl, rfl⟩
 rw [hf]
 clear f0 c0 f3 c3
 obtain ⟨s1, hs1⟩ : ∃ s : RdS, s = ⟨n, bad, itIns z op⟩ := ⟨_, rfl⟩
 rw [← hs1] at hQ
 have o1 := O1.out
 change OnWay b c A T E bx ⟨n, bad, itIns z op⟩ w x1 at o1
 rw [← hs1] at o1
 have Q1 := Lib.hid o1
 clear o1 O1 hs1
 go_wp2_with fail
 refine (refReg_any b c A T E s1.n s1.bad _ Q1.out.rd).mono ?_
 rintro e y2 ⟨rfl, g2⟩
 have f2 := (Q1.out.rdOut HBX.out g2).it.frozen 5
 have c2 := (Q1.out.rdOut HBX.out g2).it.cell (k := 5) rfl
 have R2 := Lib.hid (Q1.out.setR HBX.out g2).2.1
 clear g2
 obtain ⟨s2, hs2⟩ : ∃ s, s = stpQ T E s1 .a := ⟨_, rfl⟩
 rw [← hs2] at R2
 have HS2 := Lib.hid hs2
 clear hs2
 go_wp2_with fail
 generalize (y2.setCell ⟨bx, 5, none⟩ (.int .i64 (regV T s1.n s1.bad))) = x2 at *
 have Q2 := R2
 clear f2 c2
 go_wp2_with fail
 refine (refComma_any b c A T E s2.n s2.bad _ Q2.out.rd).mono ?_
 rintro e y3 ⟨rfl, g3⟩
 have R3 := Lib.hid (show OnWay b c A T E bx (stpQ T E s2 .c) w y3 from Q2.out.rdOut HBX.out g3)
 clear g3
 obtain ⟨s3, hs3⟩ : ∃ s, s = stpQ T E s2 .c := ⟨_, rfl⟩
 rw [← hs3] at R3
 have HS3 := Lib.hid hs3
 clear hs3
 have Q3 := R3
 go_wp2_with fail
 refine (refReg_any b c A T E s3.n s3.bad _ Q3.out.rd).mono ?_
 rintro e y4 ⟨rfl, g4⟩
 have f4 := (Q3.out.rdOut HBX.out g4).it.frozen 6
 have c4 := (Q3.out.rdOut HBX.out g4).it.cell (k := 6) rfl
 have R4 := Lib.hid (Q3.out.setR HBX.out g4).2.2
 clear g4
 obtain ⟨s4, hs4⟩ : ∃ s, s = stpQ T E s3 .b := ⟨_, rfl⟩
 rw [← hs4] at R4
 have HS4 := Lib.hid hs4
 clear hs4
 go_wp2_with fail
 generalize (y4.setCell ⟨bx, 6, none⟩ (.int .i64 (regV T s3.n s3.bad))) = x4 at *
 have Q4 := R4
 clear f4 c4
 go_wp2_with fail
 refine (refComma_any b c A T E s4.n s4.bad _ Q4.out.rd).mono ?_
 rintro e y5 ⟨rfl, g5⟩
 have R5 := Lib.hid (show OnWay b c A T E bx (stpQ T E s4 .c) w y5 from Q4.out.rdOut HBX.out g5)
 clear g5
 obtain ⟨s5, hs5⟩ : ∃ s, s = stpQ T E s4 .c := ⟨_, rfl⟩
 rw [← hs5] at R5
 have HS5 := Lib.hid hs5
 clear hs5
 have Q5 := R5
 go_wp2_with fail
 refine (refTarget2_any b c A T E s5.n s5.bad bx s5.it _ Q5.out.rd Q5.out.it HBX.out).mono ?_
 rintro e y6 ⟨rfl, g6⟩
 have R6 := Lib.hid (Q5.out.itOut g6)
 clear g6
 obtain ⟨s6, hs6⟩ : ∃ s, s = stpQ T E s5 .t := ⟨_, rfl⟩
 rw [← hs6] at R6
 have HS6 := Lib.hid hs6
 clear hs6
 have Q6 := R6
 go_wp2_with fail
 have hfin : insQ T E op ⟨n, bad, z⟩ = s6 := by
  rw [hQ.out]
  show (stpsQ T E [.a, .c, .b, .c, .t] s1) = _
  rw [HS6.out, HS5.out, HS4.out, HS3.out, HS2.out]
  rfl
 rw [← hfin] at Q6
 exact bodyPost_end (v := .tuple #[]) (by simp [results, Tryd.results42]) rfl ⟨rfl, Q6.out⟩
set_option maxHeartbeats 8000000 in
theorem refIns_7 (b c : Nat) (A : Option Addr) (T : List Tok) (E n : Nat) (bad : Int) (bx : Nat) (z : It) (op : Int) (w : World) (h : Rd w b A c T E n bad) (hx : Box w bx (itL z)) (hbx : b < bx) (hf : formZ op = 7) :
  Calls Tryd.prog 42 #[.pointer (some ⟨b, 0, none⟩), .int .i64 op, .pointer (some ⟨bx, 0, none⟩)] w fun e w' => e = .returned (.tuple #[]) ∧ OnWay b c A T E bx (insQ T E op ⟨n, bad, z⟩) w w' := by
 have HBX := Lib.hid hbx
 have o0 : OnWay b c A T E bx ⟨n, bad, z⟩ w w := ⟨h, hx, KeepS.refl _ _⟩
 have o1 := (o0.set hbx (k := 0) (v := .int .i64 2) (z := { z with kind := 2 }) rfl).set hbx (k := 3) (v := .int .i64 op) (z := itIns z op) rfl
 have O1 := Lib.hid o1
 have f0 := hx.frozen 0
 have c0 := hx.cell (k := 0) rfl
 have o2 := o0.set hbx (k := 0) (v := .int .i64 2) (z := { z with kind := 2 }) rfl
 have f3 := o2.it.frozen 3
 have c3 := o2.it.cell (k := 3) rfl
 have hQ := Lib.hid (show insQ T E op ⟨n, bad, z⟩ = stpsQ T E (formQ (formZ op)) ⟨n, bad, itIns z op⟩ from rfl)
 rw [hf] at hQ
 clear h hx hbx o0 o1 o2
 go_enter Tryd.func42, Tryd.ntmps42
 go_wp2_with fail
 generalize ((w.setCell ⟨bx, 0, none⟩ (.int .i64 2)).setCell ⟨bx, 3, none⟩ (.int .i64 op)) = x1 at *
 refine (refForm_any op _).mono ?_; rintro e x0 ⟨rfl, rfl⟩
 rw [hf]
 clear f0 c0 f3 c3
 obtain ⟨s1, hs1⟩ : ∃ s : RdS, s = ⟨n, bad, itIns z op⟩ := ⟨_, rfl⟩
 rw [← hs1] at hQ
 have o1 := O1.out
 change OnWay b c A T E bx ⟨n, bad, itIns z op⟩ w x1 at o1
 rw [← hs1] at o1
 have Q1 := Lib.hid o1
 clear o1 O1 hs1
 go_wp2_with fail
 refine (refTarget2_any b c A T E s1.n s1.bad bx s1.it _ Q1.out.rd Q1.out.it HBX.out).mono ?_
 rintro e y2 ⟨rfl, g2⟩
 have R2 := Lib.hid (Q1.out.itOut g2)
 clear g2
 obtain ⟨s2, hs2⟩ : ∃ s, s = stpQ T E s1 .t := ⟨_, rfl⟩
 rw [← hs2] at R2
 have HS2 := Lib.hid hs2
 clear hs2
 have Q2 := R2
 go_wp2_with fail
 have hfin : insQ T E op ⟨n, bad, z⟩ = s2 := by
  rw [hQ.out]
  show (stpsQ T E [.t] s1) = _
  rw [HS2.out]
  rfl
 rw [← hfin] at Q2
 exact bodyPost_end (v := .tuple #[]) (by simp [results, Tryd.results42]) rfl ⟨rfl, Q2.out⟩
set_option maxHeartbeats 8000000 in
theorem refIns_8 (b c : Nat) (A : Option Addr) (T : List Tok) (E n : Nat) (bad : Int) (bx : Nat) (z : It) (op : Int) (w : World) (h : Rd w b A c T E n bad) (hx : Box w bx (itL z)) (hbx : b < bx) (hf : formZ op = 8 ∨ formZ op = 0) :
  Calls Tryd.prog 42 #[.pointer (some ⟨b, 0, none⟩), .int .i64 op, .pointer (some ⟨bx, 0, none⟩)] w fun e w' => e = .returned (.tuple #[]) ∧ OnWay b c A T E bx (insQ T E op ⟨n, bad, z⟩) w w' := by
 have HBX := Lib.hid hbx
 have o0 : OnWay b c A T E bx ⟨n, bad, z⟩ w w := ⟨h, hx, KeepS.refl _ _⟩
 have o1 := (o0.set hbx (k := 0) (v := .int .i64 2) (z := { z with kind := 2 }) rfl).set hbx (k := 3) (v := .int .i64 op) (z := itIns z op) rfl
 have O1 := Lib.hid o1
 have f0 := hx.frozen 0
 have c0 := hx.cell (k := 0) rfl
 have o2 := o0.set hbx (k := 0) (v := .int .i64 2) (z := { z with kind := 2 }) rfl
 have f3 := o2.it.frozen 3
 have c3 := o2.it.cell (k := 3) rfl
 have hQ := Lib.hid (show insQ T E op ⟨n, bad, z⟩ = stpsQ T E (formQ (formZ op)) ⟨n, bad, itIns z op⟩ from rfl)
 have hq2 : formQ (formZ op) = [] := by rcases hf with hf | hf <;> rw [hf] <;> rfl
 rw [hq2] at hQ
 clear h hx hbx o0 o1 o2
 go_enter Tryd.func42, Tryd.ntmps42
 go_wp2_with fail
 generalize ((w.setCell ⟨bx, 0, none⟩ (.int .i64 2)).setCell ⟨bx, 3, none⟩ (.int .i64 op)) = x1 at *
 refine (refForm_any op _).mono ?_; rintro e x0 ⟨rfl, rfl⟩
 have hk : ∀ j : Int, 1 ≤ j → j ≤ 7 → (formZ op == j) = false := fun j h1 h2 => by simp; omega
 have k1 := hk 1 (by decide) (by decide)
 have k2 := hk 2 (by decide) (by decide)
 have k3 := hk 3 (by decide) (by decide)
 have k4 := hk 4 (by decide) (by decide)
 have k5 := hk 5 (by decide) (by decide)
 have k6 := hk 6 (by decide) (by decide)
 have k7 := hk 7 (by decide) (by decide)
 clear f0 c0 f3 c3
 obtain ⟨s1, hs1⟩ : ∃ s : RdS, s = ⟨n, bad, itIns z op⟩ := ⟨_, rfl⟩
 rw [← hs1] at hQ
 have o1 := O1.out
 change OnWay b c A T E bx ⟨n, bad, itIns z op⟩ w x1 at o1
 rw [← hs1] at o1
 have Q1 := Lib.hid o1
 clear o1 O1 hs1
 go_wp2_with fail
 have hfin : insQ T E op ⟨n, bad, z⟩ = s1 := by
  rw [hQ.out]
  show (stpsQ T E [] s1) = _
  rfl
 rw [← hfin] at Q1
 exact bodyPost_end (v := .tuple #[]) (by simp [results, Tryd.results42]) rfl ⟨rfl, Q1.out⟩
theorem refInsQ_any (b c : Nat) (A : Option Addr) (T : List Tok) (E n : Nat) (bad : Int) (bx : Nat) (z : It) (op : Int) (w : World) (h : Rd w b A c T E n bad) (hx : Box w bx (itL z)) (hbx : b < bx) :
  Calls Tryd.prog 42 #[.pointer (some ⟨b, 0, none⟩), .int .i64 op, .pointer (some ⟨bx, 0, none⟩)] w fun e w' => e = .returned (.tuple #[]) ∧ OnWay b c A T E bx (insQ T E op ⟨n, bad, z⟩) w w' := by
 rcases formZ_cases op with ⟨hf, _⟩ | ⟨hf, _⟩ | ⟨hf, _⟩ | ⟨hf, _⟩ | ⟨hf, _⟩ | ⟨hf, _⟩ | ⟨hf, _⟩ | ⟨hf, _⟩ | ⟨hf, _⟩
 all_goals first
  | exact refIns_1 b c A T E n bad bx z op w h hx hbx hf
  | exact refIns_2 b c A T E n bad bx z op w h hx hbx hf
  | exact refIns_3 b c A T E n bad bx z op w h hx hbx hf
  | exact refIns_4 b c A T E n bad bx z op w h hx hbx hf
  | exact refIns_5 b c A T E n bad bx z op w h hx hbx hf
  | exact refIns_6 b c A T E n bad bx z op w h hx hbx hf
  | exact refIns_7 b c A T E n bad bx z op w h hx hbx hf
  | exact refIns_8 b c A T E n bad bx z op w h hx hbx (.inl hf)
  | exact refIns_8 b c A T E n bad bx z op w h hx hbx (.inr hf)
end Go.Proofs.YtcaibahniheohaaDoor.Words

/- The document's own items in a row; where a label is. -/
namespace Go.Proofs.YtcaibahniheohaaDoor.Words
set_option maxRecDepth 100000
open Go.RowKit Go.Shelf Go.Lib
set_option linter.unusedVariables false
set_option linter.unusedSimpArgs false
def itsL (l : List It) : List Value := l.flatMap itL
theorem itsL_cons (i : It) (l : List It) : itsL (i :: l) = itL i ++ itsL l := by simp [itsL]
theorem itsL_append (l m : List It) : itsL (l ++ m) = itsL l ++ itsL m := by simp [itsL]
theorem itsL_at (l : List It) (k : Nat) (i : It) (h : l[k]? = some i) (j : Nat) (hj : j < 12) : (itsL l)[k * 12 + j]? = (itL i)[j]? := by
 induction l generalizing k with
 | nil => simp at h
 | cons x l ih =>
  rw [itsL_cons]
  cases k with
  | zero =>
   simp at h; subst h
   rw [List.getElem?_append_left (by simp [itL]; omega), Nat.zero_mul, Nat.zero_add]
  | succ k =>
   simp at h
   have h5 : (itL x).length = 12 := rfl
   rw [List.getElem?_append_right (by omega), h5, show (k + 1) * 12 + j - 12 = k * 12 + j by omega]
   exact ih k h
theorem Row.item {w : World} {B n c : Nat} {b off : Nat} {l : List It} (h : Row w B 12 (.slice (some ⟨b, off, none⟩) n c) n (itsL l)) {k : Nat} {i : It} (hi : l[k]? = some i) {j : Nat} {u : Value} (hj : j < 12) (hu : (itL i)[j]? = some u) :
  w.cell? ⟨b, off + k * 12 + j, none⟩ = some u := by
 have := h.cells ⟨b, off, none⟩ rfl (k * 12 + j) u ((itsL_at l k i hi j hj).trans hu)
 rwa [add_spot, ← Nat.add_assoc] at this
def placeG (s : List UInt8) : List It → Nat → Int
 | [], _ => -1
 | x :: xs, n => if x.kind = 1 ∧ x.label = s then (n : Int) else placeG s xs (if x.kind = 2 then n + 1 else n)
set_option maxHeartbeats 4000000 in
theorem refPlace_any (A : Option Addr) (c : Nat) (l : List It) (s : List UInt8) (w : World) (hr : Row w w.heap.size 12 (.slice A l.length c) l.length (itsL l)) (hl : l.length ≤ 1000000) :
  Calls Tryd.prog 23 #[.slice A l.length c, .string (txt s)] w fun e w' => e = .returned (.int .i64 (placeG s l 0)) ∧ w = w' := by
 obtain ⟨SS, hSS⟩ : ∃ SS, SS = txt s := ⟨_, rfl⟩
 rw [← hSS]
 have HSS := Lib.hid hSS
 clear hSS
 have HR := Lib.hid hr
 have HL := Lib.hid hl
 clear hr hl
 generalize hN : l.length = N at *
 have HN := Lib.hid hN
 clear hN
 go_enter Tryd.func23, Tryd.ntmps23
 go_wp2_with fail
 go_loopw [5, 6] (fun q x wr => ∃ i m : Nat, i ≤ N ∧ m ≤ i ∧ q = .int .i64 m ∧ x = .int .i64 i ∧ placeG s l 0 = placeG s (l.drop i) m ∧ wr = w) (fun _ x _ => N - (intOf x).toNat)
 case atStart => exact ⟨0, 0, Nat.zero_le _, Nat.le_refl _, rfl, rfl, by rw [List.drop_zero], rfl⟩
 case round =>
  obtain ⟨i, m, hi, hm, rfl, rfl, hp, rfl⟩ := hrel
  have HP := Lib.hid hp
  have hll := HL.out
  by_cases hlt : i < N
  ·obtain ⟨x, hx⟩ : ∃ x, l[i]? = some x := ⟨_, List.getElem?_eq_getElem (by rw [HN.out]; exact hlt)⟩
   obtain ⟨g, o, rfl, hg, _⟩ := HR.out.at_ (by omega)
   have c0 := HR.out.item hx (j := 0) (by decide) rfl
   have c2 := HR.out.item hx (j := 2) (by decide) rfl
   rw [Nat.add_zero] at c0
   have hd : l.drop i = x :: l.drop (i + 1) := by
    obtain ⟨h1, rfl⟩ := List.getElem?_eq_some_iff.1 hx
    exact List.drop_eq_getElem_cons h1
   have hstep : placeG s l 0 = if x.kind = 1 ∧ x.label = s then (m : Int) else placeG s (l.drop (i + 1)) (if x.kind = 2 then m + 1 else m) := by rw [hp, hd]; rfl
   have heq : ((txt x.label).toList == SS.toList) = decide (x.label = s) := by rw [HSS.out]; exact txt_eqQ _ _
   have n0 : (0 : Int) ≤ i := by omega
   have n1 : (i : Int) < N := by omega
   have n2 : (N : Int) ≤ 1000000 := by omega
   have n3 : (m : Int) ≤ 1000000 := by omega
   have g1 : decide ((i : Int) < (N : Int)) = true := decide_eq_true n1
   have g2 : decide (i < N) = true := decide_eq_true hlt
   have HLT := Lib.hid hlt
   have HM := Lib.hid hm
   clear hp hd hx hg hi hlt hm
   by_cases hk1 : x.kind = 1
   ·have k1 : (x.kind == 1) = true := by simpa using hk1
    have k2 : (x.kind == 2) = false := by simp; omega
    have k2' : ¬ x.kind = 2 := by omega
    by_cases hlab : x.label = s
    ·rw [if_pos ⟨hk1, hlab⟩] at hstep
     have HST := Lib.hid hstep
     have he : ((txt x.label).toList == SS.toList) = true := by rw [heq]; exact decide_eq_true hlab
     clear hstep heq hlab hk1
     generalize txt x.label = XL at *
     go_wp2_with fail
     go_ret
     exact ⟨by rw [HST.out]; rfl, rfl⟩
    ·rw [if_neg (fun h => hlab h.2), if_neg k2'] at hstep
     have HST := Lib.hid hstep
     have he : ((txt x.label).toList == SS.toList) = false := by rw [heq]; exact decide_eq_false hlab
     clear hstep heq hlab hk1 k2'
     generalize txt x.label = XL at *
     go_wp2_with fail
     go_roundw
     case rel => exact ⟨i + 1, m, HLT.out, by have := HM.out; omega, rfl, by go_num, HST.out, by first | rfl | trivial⟩
     case measure => have := HLT.out; simp only [intOf]; omega
   ·have k1 : (x.kind == 1) = false := by simpa using hk1
    rw [if_neg (fun h => hk1 h.1)] at hstep
    by_cases hk2 : x.kind = 2
    ·have k2 : (x.kind == 2) = true := by simpa using hk2
     rw [if_pos hk2] at hstep
     have HST := Lib.hid hstep
     clear hstep heq hk1 hk2
     go_wp2_with fail
     go_roundw
     case rel => exact ⟨i + 1, m + 1, HLT.out, by have := HM.out; omega, by go_num, by go_num, HST.out, by first | rfl | trivial⟩
     case measure => have := HLT.out; simp only [intOf]; omega
    ·have k2 : (x.kind == 2) = false := by simpa using hk2
     rw [if_neg hk2] at hstep
     have HST := Lib.hid hstep
     clear hstep heq hk1 hk2
     go_wp2_with fail
     go_roundw
     case rel => exact ⟨i + 1, m, HLT.out, by have := HM.out; omega, rfl, by go_num, HST.out, by first | rfl | trivial⟩
     case measure => have := HLT.out; simp only [intOf]; omega
  ·have hie : i = N := by omega
   subst hie
   have hfin : placeG s l 0 = -1 := by rw [hp, List.drop_eq_nil_of_le (by rw [HN.out]; exact Nat.le_refl _)]; rfl
   have HF := Lib.hid hfin
   have g1 : decide ((i : Int) < (i : Int)) = false := decide_eq_false (by omega)
   have g2 : decide (i < i) = false := decide_eq_false (by omega)
   clear hp hfin hi hlt hm
   go_wp2_with fail
   go_ret
   exact ⟨by rw [HF.out]; rfl, rfl⟩
end Go.Proofs.YtcaibahniheohaaDoor.Words

/- append onto a row of the call's own: its block is the row's, or a new one. A law of no one program. -/
namespace Go.Proofs.YtcaibahniheohaaDoor.Words
set_option maxRecDepth 100000
open Go.RowKit
section
variable {P : Program} (w : World)
theorem run_append_new (base : Nat) (t ty e : TypeId) (i : TypeInfo) (z : Value) (size bytes : Nat) (ht : P.underlying t = some (.slice e)) (hi : P.info? e = some i) (hz : i.zero = some z)
  (hsize : i.size = size) (hby : i.bytes = bytes) (hzs : z.cells.size = size) (hsz : 0 < size)
  (v : Value) (n : Nat) (xs : List Value) (hown : w.ownsRow base e size v n xs) (B : Nat) (x : Value) (m : Nat) (news : List Value) (hr : Row w B size x m news) (h1 : ∀ u ∈ news, u.oneCell' = true)
  (h63 : n + m ≤ maxLen) (hbytes : (n + m) * bytes ≤ 140737488355328) (hbase : base ≤ w.heap.size) :
  ∃ v' w', (Builtin.append_ #[t, t] ty #[v, x]).run P w = .ok v' w' ∧ w'.ownsRow base e size v' (n + m) (xs ++ news) ∧ w.grownBy w' v.ownBlock ∧ (∀ g, v'.ownBlock = some g → v.ownBlock = some g ∨ w.heap.size ≤ g) := by
 obtain ⟨v', w', r1, r2, r3⟩ := run_append_row (P := P) w base t ty e i z size bytes ht hi hz hsize hby hzs hsz v n xs hown B x m news hr h1 h63 hbytes hbase
 refine ⟨v', w', r1, r2, r3, fun g hg => ?_⟩
 rcases hown.2 with ⟨rfl, rfl⟩ | ⟨g0, cap, cur, rfl, hbg, hh, hnc, hcm, hcs, htake⟩
 ·have hx : xs = [] := List.eq_nil_of_length_eq_zero (by simpa using hown.1)
  subst hx
  obtain ⟨v2, w2, k1, k2, _⟩ := run_append_row (P := P) w w.heap.size t ty e i z size bytes ht hi hz hsize hby hzs hsz _ 0 [] (World.ownsRow_nil _ _ _ _) B x m news hr h1 h63 hbytes (Nat.le_refl _)
  have := r1.symm.trans k1
  injection this with e1 e2
  subst e1
  exact .inr (k2.lt g hg).1
 ·obtain ⟨A, c, rfl⟩ := hr.form
  cases A with
  | none =>
   obtain ⟨rfl, rfl⟩ := hr.bare rfl
   have k1 := run_append_owned_none (P := P) w base t ty e i size ht hi _ n xs hown
   have := r1.symm.trans k1
   injection this with e1 e2
   subst e1
   exact .inl hg
  | some ad =>
   by_cases hroom : n + m ≤ cap
   ·have k1 := run_append_room (P := P) w t ty e i ht hi g0 n cap cur hh ad m c news (by rw [hsize]; exact hr.len) (hr.cells ad rfl) h1 hroom (by
     have := hr.len
     rw [hsize, this, ← Nat.add_mul]
     have h2 : cur.size = cap * size := by simpa using hcs
     rw [h2]
     exact Nat.mul_le_mul_right _ hroom)
    have := r1.symm.trans k1
    injection this with e1 e2
    rw [e1] at hg
    exact .inl hg
   ·have k1 := run_append_grow (P := P) w t ty e i z ht hi hz ⟨g0, 0, none⟩ n cap xs (by rw [hsize]; exact hown.1) (hown.cells (g := g0) rfl) ad m c news (by rw [hsize]; exact hr.len) (hr.cells ad rfl) (by omega) (by unfold maxLen at h63; omega)
     (by rw [hby]; exact growslice_fits (by omega) (by omega))
    have := r1.symm.trans k1
    injection this with e1 e2
    rw [e1] at hg
    simp only [Value.ownBlock, Option.some.injEq] at hg
    exact .inr (Nat.le_of_eq hg)
theorem wpList_append_new {ops : Array Oper} {rest : List Oper} {o : Oper} {a : Act} {Q : Exit → Act → World → Prop} (hgd : o.guard = none) (s y : Operand) (t : TypeId)
  (ho : o.op = .call { callee := .builtin .append, args := #[s, y], argTypes := #[t, t] })
  (base : Nat) (e : TypeId) (i : TypeInfo) (z : Value) (size bytes : Nat) (ht : P.underlying t = some (.slice e)) (hi : P.info? e = some i) (hz : i.zero = some z)
  (hsize : i.size = size) (hby : i.bytes = bytes) (hzs : z.cells.size = size) (hsz : 0 < size)
  (v : Value) (n : Nat) (xs : List Value) (hs : a.eval s = v) (hown : w.ownsRow base e size v n xs) (B : Nat) (x : Value) (m : Nat) (news : List Value) (hx : a.eval y = x) (hr : Row w B size x m news) (h1 : ∀ u ∈ news, u.oneCell' = true)
  (h63 : n + m ≤ maxLen) (hbytes : (n + m) * bytes ≤ 140737488355328) (hbase : base ≤ w.heap.size)
  (h : ∀ v' w', w'.ownsRow base e size v' (n + m) (xs ++ news) → w.grownBy w' v.ownBlock → (∀ g, v'.ownBlock = some g → v.ownBlock = some g ∨ w.heap.size ≤ g) → wpList P ops Q rest (a.put o.dst v') w') : wpList P ops Q (o :: rest) a w := by
 refine wpList_plain hgd fun K hK => ?_
 obtain ⟨v', w', hrun, h2, h3, h4⟩ := run_append_new (P := P) w base t o.type e i z size bytes ht hi hz hsize hby hzs hsz v n xs hown B x m news hr h1 h63 hbytes hbase
 unfold Oper.wp execOp
 simp only [ho, resolve, invoke, builtin, Sem.run_bind, Sem.run_pure, Result.andThen_ok, List.map_toArray, List.map_cons, List.map_nil, hs, hx, hrun]
 exact hK _ _ (h v' w' h2 h3 h4)
end
end Go.Proofs.YtcaibahniheohaaDoor.Words

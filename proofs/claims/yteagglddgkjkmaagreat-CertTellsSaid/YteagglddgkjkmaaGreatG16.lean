/- Several texts in one: SplFewLen, CertTellsData, ImageHelp, OpenIns, OpenProg, OpenOnr, OpenSpl. -/
import Derived.Test.YteagglddgkjkmaaGreatG10
import Derived.Test.YteagglddgkjkmaaGreatG12
import Derived.LoopTactic
import Derived.LoopN
import Derived.Test.YteagglddgkjkmaaGreatG15
import Derived.Test.YteagglddgkjkmaaGreatG13
import Derived.Test.YteagglddgkjkmaaGreatG03
import Derived.Laws.StructEq
import Derived.Test.YteagglddgkjkmaaGreatRows
import Derived.Test.YteagglddgkjkmaaGreatG02
import Derived.Test.YteagglddgkjkmaaGreatG00
import Derived.ProofKit
import Derived.OpenShut
import Derived.ChangeOld
import Derived.Deep.Slices
import Derived.Test.YteagglddgkjkmaaGreatG04

/- The law's own helper Few of chapter 13, where no side is longer than 2000000000000 (the form gives that): it says yes only if the lengths together are at most 1500. -/
namespace Go.Proofs.YteagglddgkjkmaaGreat.Words
set_option maxRecDepth 100000
open Go.RowKit
set_option linter.unusedVariables false
set_option linter.unusedSimpArgs false

def lensB : List BlkC → Nat
  | [] => 0
  | b :: l => 1 + b.a.length + b.e.length + lensB l
theorem lensB_append (a b : List BlkC) : lensB (a ++ b) = lensB a + lensB b := by
  induction a with
  | nil => simp [lensB]
  | cons x a ih => simp [lensB, ih]; omega
theorem lensB_take {l : List BlkC} {k : Nat} {x : BlkC} (h : l[k]? = some x) : lensB (l.take (k + 1)) = lensB (l.take k) + (1 + x.a.length + x.e.length) := by
  have hk : k < l.length := (List.getElem?_eq_some_iff.1 h).1
  have hx : l[k] = x := (List.getElem?_eq_some_iff.1 h).2
  rw [List.take_succ_eq_append_getElem hk, lensB_append, hx]
  simp [lensB]
theorem lensB_mem {l : List BlkC} {x : BlkC} (h : x ∈ l) : 1 + x.a.length + x.e.length ≤ lensB l := by
  induction l with
  | nil => cases h
  | cons y l ih =>
    simp only [lensB]
    rcases List.mem_cons.1 h with rfl | h
    · omega
    · have := ih h; omega
def FewLen (w : World) (l : List BlkC) (e : Ending) (w' : World) : Prop := (∃ b : Bool, e = .returned (.bool b) ∧ (b = true → lensB l ≤ 1500)) ∧ Below w.heap.size w w'
set_option maxHeartbeats 2000000 in
theorem few13_len (A : Option Addr) (c : Nat) (l : List BlkC) (o : List Int) (w : World) (hv : BlksV w w.heap.size (.slice A l.length c) l) (hsm : ∀ b ∈ l, b.a.length ≤ 2000000000000 ∧ b.e.length ≤ 2000000000000) :
    Calls Tryz.prog 6 #[.agg (splV (.slice A l.length c) o).toArray] w (FewLen w l) := by
  obtain ⟨W, hW⟩ : ∃ W, W = w.alloc (.cells (splV (.slice A l.length c) o).toArray 32) := ⟨_, rfl⟩
  have hb : Below w.heap.size w W := by rw [hW]; exact (Below.refl w.heap.size w).alloc (Nat.le_refl _) _
  have HB := Lib.hid hb
  have X1 : Hid (Box W w.heap.size (splV (.slice A l.length c) o)) := by rw [hW]; exact Box.new w _ _
  have u1 := hv.cap
  have V := Lib.hid ((hv.below hb).more hb.size)
  have HSp := Lib.hid (fun (h : l.length ≠ 0) => hv.spot h)
  have HA := Lib.hid (fun j (h : j < l.length) => at_someG (l := l) (j := j) h)
  have HSm := Lib.hid (fun j x (h : l[j]? = some x) => hsm x (List.mem_of_getElem? h))
  have HT := Lib.hid (fun j x (h : l[j]? = some x) => lensB_take h)
  have HF := Lib.hid (show lensB (l.take l.length) = lensB l by rw [List.take_length])
  clear hv hb hsm
  go_enter Tryz.func6, Tryz.ntmps6
  go_upto_region 1 with (fail)
  change Code.wp _ _ _ _ (w.alloc (.cells (splV (.slice A l.length c) o).toArray 32))
  rw [← hW]
  clear hW
  generalize l.length = n at *
  go_wp2_with fail
  go_loopw [3, 4] (fun m i wr => ∃ (k z : Nat), k ≤ n ∧ m = .int .i64 (z : Int) ∧ i = .int .i64 k ∧ Kept W wr ∧ z ≤ 5000000000000 ∧ (z < 10000 → z = lensB (l.take k))) (fun _ i _ => n - (intOf i).toNat)
  case atStart => exact ⟨0, 0, Nat.zero_le _, rfl, rfl, Kept.refl _, by omega, fun _ => rfl⟩
  case round =>
    obtain ⟨k, z, hk, rfl, rfl, hK, hz5, hz1⟩ := hrel
    have HK := Lib.hid hK
    have HZ1 := Lib.hid hz1
    have s0 : wr.cell? ⟨w.heap.size, 0, none⟩ = some (.slice A n c) := (X1.out.kept hK).cell (k := 0) rfl
    clear hK hz1
    by_cases hlt : k < n
    · obtain ⟨b, off, rfl⟩ := HSp.out (by omega)
      obtain ⟨x, hx⟩ := HA.out k hlt
      obtain ⟨A3, c3, A5, c5, _, _, _, _, a4, a5, _, _⟩ := ((V.out.below (w' := wr) HK.out).more HK.out.size).at_ hx
      obtain ⟨la, hla⟩ : ∃ la, la = x.a.length := ⟨_, rfl⟩
      obtain ⟨le, hle⟩ : ∃ le, le = x.e.length := ⟨_, rfl⟩
      rw [← hla] at a4
      rw [← hle] at a5
      have hS := Lib.hid (HT.out k x hx)
      have hM := HSm.out k x hx
      rw [← hla, ← hle] at hS hM
      clear hla hle
      obtain ⟨hM1, hM2⟩ := hM
      have g0 : (0 : Int) ≤ k := by omega
      have g1 : (k : Int) < n := by omega
      clear hx
      by_cases hz : z < 10000
      · have HZ := Lib.hid (HZ1.out hz)
        have g2 : (z : Int) < 10000 := by omega
        go_wp2_with fail
        go_quiet (fail)
        go_wp2_with fail
        go_roundw
        case rel => exact ⟨k + 1, z + 1 + la + le, by omega, by go_num, by go_num, HK.out.drewN _, by omega, fun _ => by have h1 := HZ.out; have h2 := hS.out; omega⟩
        case measure => simp [intOf]; omega
      · have g2 : ¬ (z : Int) < 10000 := by omega
        have g3 : ¬ (z : Int) ≤ 1500 := by omega
        go_wp2_with fail
        go_ret
        exact ⟨⟨_, rfl, fun h => absurd h (by simp)⟩, HB.out.trans (HK.out.mono HB.out.size)⟩
    · have hkn : k = n := by omega
      have HZ2 := Lib.hid (fun (h : z ≤ 1500) => (show lensB l ≤ 1500 by rw [← HF.out, ← hkn, ← HZ1.out (by omega)]; exact h))
      clear hkn
      go_wp2_with fail
      go_ret
      exact ⟨⟨_, rfl, fun h => HZ2.out (Int.ofNat_le.1 (by simpa using h))⟩, HB.out.trans (HK.out.mono HB.out.size)⟩
end Go.Proofs.YteagglddgkjkmaaGreat.Words

/- What CertTells needs besides: two rows of counts compared, a block in a row of its own. -/
namespace Go.Proofs.YteagglddgkjkmaaGreat.Words
set_option maxRecDepth 100000
open Go.RowKit
set_option linter.unusedVariables false
set_option linter.unusedSimpArgs false

theorem info_12 : (Tryz.prog.info? 36).map (·.size) = some 12 := by kernel_rfl
theorem eqIn_12 (l m : List Int) (w : World) (hl : l.length = 12) (hm : m.length = 12) : (Op.equalIn 9999 36 (.agg (oV l).toArray) (.agg (oV m).toArray)).run Tryz.prog w = .ok (decide (l = m)) w := by
  obtain ⟨i, hi, _⟩ := info_parts info_intB
  have hc : Tryz.prog.cellsOf 3 = 1 := by kernel_rfl
  unfold oV
  rw [show (9999 : Nat) = 9998 + 1 from rfl, run_equalIn_array w 9998 _ _ Tryz.underlying36 hi, hc, show (9998 : Nat) = 9997 + 1 from rfl,
    items_num w 9997 Tryz.underlying3 l m (List.range 12) (fun i h => by rw [List.mem_range] at h; omega), show (12 : Nat) = l.length from hl.symm, all_getD l m (hl.trans hm.symm)]
theorem part0_aux (a0 a1 a2 a3 a4 a5 a6 a7 a8 a9 a10 a11 e0 e1 e2 e3 e4 e5 e6 e7 e8 e9 e10 e11 : Int) (w : World) :
    (part 36 (c24 [a0, a1, a2, a3, a4, a5, a6, a7, a8, a9, a10, a11] [e0, e1, e2, e3, e4, e5, e6, e7, e8, e9, e10, e11]).toArray 0).run Tryz.prog w = .ok (.agg (oV [a0, a1, a2, a3, a4, a5, a6, a7, a8, a9, a10, a11]).toArray) w := by kernel_rfl
theorem part1_aux (a0 a1 a2 a3 a4 a5 a6 a7 a8 a9 a10 a11 e0 e1 e2 e3 e4 e5 e6 e7 e8 e9 e10 e11 : Int) (w : World) :
    (part 36 (c24 [a0, a1, a2, a3, a4, a5, a6, a7, a8, a9, a10, a11] [e0, e1, e2, e3, e4, e5, e6, e7, e8, e9, e10, e11]).toArray 12).run Tryz.prog w = .ok (.agg (oV [e0, e1, e2, e3, e4, e5, e6, e7, e8, e9, e10, e11]).toArray) w := by kernel_rfl
theorem part0 (a e : List Int) (ha : a.length = 12) (he : e.length = 12) (w : World) : (part 36 (c24 a e).toArray 0).run Tryz.prog w = .ok (.agg (oV a).toArray) w := by
  match a, e, ha, he with
  | [a0, a1, a2, a3, a4, a5, a6, a7, a8, a9, a10, a11], [e0, e1, e2, e3, e4, e5, e6, e7, e8, e9, e10, e11], _, _ => exact part0_aux ..
theorem part1 (a e : List Int) (ha : a.length = 12) (he : e.length = 12) (w : World) : (part 36 (c24 a e).toArray 12).run Tryz.prog w = .ok (.agg (oV e).toArray) w := by
  match a, e, ha, he with
  | [a0, a1, a2, a3, a4, a5, a6, a7, a8, a9, a10, a11], [e0, e1, e2, e3, e4, e5, e6, e7, e8, e9, e10, e11], _, _ => exact part1_aux ..
theorem eqIn_c24 (a e : List Int) (ha : a.length = 12) (he : e.length = 12) (w : World) : (Op.equalIn 10000 37 (.agg (c24 a e).toArray) (.agg (c24 a e).toArray)).run Tryz.prog w = .ok true w := by
  obtain ⟨i, hi, _⟩ : ∃ i, Tryz.prog.info? 36 = some i ∧ i.size = 12 := by
    have h := info_12
    cases hh : Tryz.prog.info? 36 with
    | none => rw [hh] at h; cases h
    | some i => rw [hh] at h; injection h with h; exact ⟨i, rfl, h⟩
  have hc : Tryz.prog.cellsOf 36 = 12 := by kernel_rfl
  rw [show (10000 : Nat) = 9999 + 1 from rfl, run_equalIn_array w 9999 _ _ Tryz.underlying37 hi, hc, show List.range 2 = [0, 1] from rfl]
  simp only [Op.eqItems, Sem.run_bind, Nat.zero_mul, Nat.one_mul, part0 a e ha he, part1 a e ha he, eqIn_12 a a _ ha ha, eqIn_12 e e _ he he, Result.andThen_ok, decide_true, Bool.not_true, Bool.false_eq_true, if_false, Sem.run_pure]
theorem eql_c24 (a e : List Int) (ha : a.length = 12) (he : e.length = 12) (w : World) : (binOp .eql 37 (.agg (c24 a e).toArray) (.agg (c24 a e).toArray)).run Tryz.prog w = .ok (.bool true) w := by
  rw [run_eql_struct, eqIn_c24 a e ha he]; rfl
section
variable {P : Program} {o : Oper} {a : Act}
theorem exec_eqT {t t2 : TypeId} {x y : Operand} {v : Value} {w : World} {xs ys : Array Value} (ho : o.op = .binOp .eql t x y t2) (hx : a.eval x = .agg xs) (hy : a.eval y = .agg ys) (hm : P.eqGuardType P.depth t = false)
    (h : (binOp .eql t (.agg xs) (.agg ys)).run P w = .ok v w) : (execOp a.eval o).run P w = .ok (.value v) w := by
  unfold execOp
  simp only [ho, Sem.run_bind, hx, hy, run_eqGuard_agg (hm := hm), h, Result.andThen_ok, Sem.run_pure]
end
/-- One block in a row of its own. -/
theorem blks_one {w : World} {B : Nat} {r : BlkR} {c : BlkC} (hw : w.heap.size ≤ B) (h : BlkV w w.heap.size r c) : BlksV (w.alloc (.cells (blkRL r).toArray 24)) (w.heap.size + 1) (.slice (some ⟨w.heap.size, 0, none⟩) 1 1) [c] := by
  refine ⟨[r], ?_, rfl, fun k r' c' hr hc => ?_⟩
  · have := row_new (w := w) (blkRL r) 6 rfl (by omega) 24
    rw [flat_one]; exact this
  · cases k with
    | zero =>
      simp at hr hc; subst hr hc
      exact (h.keep (fun a ha => World.cell?_alloc_lt w _ a ha)).more (Nat.le_succ _)
    | succ k => simp at hr
end Go.Proofs.YteagglddgkjkmaaGreat.Words

/- Contracts of the laws' own helpers of chapter 4 that call nothing of the program: num, Few. -/
namespace Go.Proofs.YteagglddgkjkmaaGreat.Words
set_option maxRecDepth 100000
open Go.RowKit
set_option linter.unusedVariables false

/-- Is a program short enough? -/
def fewB (n m : Nat) : Bool := decide (n ≤ 200 ∧ m ≤ 500)
set_option maxHeartbeats 400000 in
theorem few_any (A A' : Option Addr) (n c m c' : Nat) (sz : Int) (w : World) (hn : n ≤ 9223372036854775807) (hm : m ≤ 9223372036854775807) :
    Calls Tryz.prog 5 #[.agg #[.slice A n c, .int .i64 sz, .slice A' m c']] w fun e w' => e = .returned (.bool (fewB n m)) ∧ Below w.heap.size w w' := by
  by_cases h1 : n ≤ 200
  · by_cases h2 : m ≤ 500
    · have hr : fewB n m = true := decide_eq_true ⟨h1, h2⟩
      rw [hr]
      go_enter Tryz.func5, Tryz.ntmps5
      go_wp2_with fail
      go_ret
      exact ⟨by simp <;> omega, (Below.refl _ _).alloc (Nat.le_refl _) _⟩
    · have hr : fewB n m = false := decide_eq_false (fun h => h2 h.2)
      rw [hr]
      go_enter Tryz.func5, Tryz.ntmps5
      go_wp2_with fail
      go_ret
      exact ⟨by simp <;> omega, (Below.refl _ _).alloc (Nat.le_refl _) _⟩
  · have hr : fewB n m = false := decide_eq_false (fun h => h1 h.1)
    rw [hr]
    go_enter Tryz.func5, Tryz.ntmps5
    go_wp2_with fail
    go_ret
    exact ⟨by simp <;> omega, (Below.refl _ _).alloc (Nat.le_refl _) _⟩
end Go.Proofs.YteagglddgkjkmaaGreat.Words

/- An argument that is an instruction (a struct of five ints by value): its five numbers. -/
namespace Go.Proofs.YteagglddgkjkmaaGreat.Words
set_option maxRecDepth 100000
open Go.ChangeShapes Go.WideShapes Go.ChangeAt Go.RowKit

section
variable {H : Type} {enc : TypeId × Value → H} {w : World} {base : Nat} {spare : Nat → Bool} {held : Bool}


theorem ins_cells {fuel : Nat} {cs : List Value} {x : DataW H × List MemPlace} (h : DataW.trod enc Tryz.prog w base spare held fuel 44 cs = some x) :
    ∃ i : Ins, i.Fits ∧ cs = insCells i := by
  obtain ⟨xs, n, _, _, hlen, hxl, hg⟩ := DataW.trod_struct Tryz.underlying44 h
  have hC : Tryz.prog.cellsOf 44 = 5 := by kernel_rfl
  have hc1 : Tryz.prog.cellsOf 3 = 1 := by kernel_rfl
  rw [hC] at hlen
  have hxl' : xs.length = 5 := hxl
  match cs, hlen with
  | [c0, c1, c2, c3, c4], _ =>
    have g : ∀ (j : Nat) (hj : j < 5), DataW.trod enc Tryz.prog w base spare held n 3 (([c0, c1, c2, c3, c4].drop j).take 1) = some xs[j] := by
      intro j hj
      rw [← List.getElem?_eq_getElem (by omega), ← hc1]
      match j, hj with
      | 0, _ => exact hg 0 _ rfl
      | 1, _ => exact hg 1 _ rfl
      | 2, _ => exact hg 2 _ rfl
      | 3, _ => exact hg 3 _ rfl
      | 4, _ => exact hg 4 _ rfl
    obtain ⟨n0, e0, _, f0⟩ := DataW.trod_int Tryz.underlying3 (g 0 (by omega))
    obtain ⟨n1, e1, _, f1⟩ := DataW.trod_int Tryz.underlying3 (g 1 (by omega))
    obtain ⟨n2, e2, _, f2⟩ := DataW.trod_int Tryz.underlying3 (g 2 (by omega))
    obtain ⟨n3, e3, _, f3⟩ := DataW.trod_int Tryz.underlying3 (g 3 (by omega))
    obtain ⟨n4, e4, _, f4⟩ := DataW.trod_int Tryz.underlying3 (g 4 (by omega))
    simp only [List.drop_zero, List.take_succ_cons, List.take_zero, List.drop_succ_cons, List.cons.injEq, and_true] at e0 e1 e2 e3 e4
    subst e0 e1 e2 e3 e4
    exact ⟨⟨n0, n1, n2, n3, n4⟩, ⟨bounds_i64 f0, bounds_i64 f1, bounds_i64 f2, bounds_i64 f3, bounds_i64 f4⟩, rfl⟩

theorem open_ins {r : Reach} {b0 : Nat} {v : Value} {d : DataW H} {ps : List MemPlace} (hval : Value.okWide Tryz.prog w r b0 44 v) (hd : DataW.Trod enc Tryz.prog w base spare held 44 v d ps) :
    ∃ i : Ins, i.Fits ∧ v = .agg #[.int .i64 i.op, .int .i64 i.d, .int .i64 i.a, .int .i64 i.b, .int .i64 i.imm] := by
  obtain ⟨cs, rfl, _⟩ := okWide_struct Tryz.underlying44 hval
  obtain ⟨fuel, hf⟩ := hd
  obtain ⟨i, hi, hc⟩ := ins_cells hf
  refine ⟨i, hi, ?_⟩
  obtain ⟨l⟩ := cs
  have : l = insCells i := by simpa [Value.cells] using hc
  rw [this]; rfl
end
end Go.Proofs.YteagglddgkjkmaaGreat.Words

/- An argument that is a program (a struct of a slice of instructions, an int and a slice of bytes, by value): its plain data. -/
namespace Go.Proofs.YteagglddgkjkmaaGreat.Words
set_option maxRecDepth 100000
open Go.ChangeShapes Go.WideShapes Go.ChangeAt Go.RowKit

instance : Inhabited Ins := ⟨⟨0, 0, 0, 0, 0⟩⟩

section
variable {H : Type} {enc : TypeId × Value → H} {w : World} {base : Nat} {spare : Nat → Bool} {held : Bool}

theorem range_map_get {α : Type} (f : Nat → α) (n k : Nat) (h : k < n) : ((List.range n).map f)[k]? = some (f k) := by
  rw [List.getElem?_map, List.getElem?_range h]; rfl

/-- A slice of instructions. -/
theorem open_code {t : TypeId} (ht : Tryz.prog.underlying t = some (.slice 44)) {fuel : Nat} {cs : List Value} {x : DataW H × List MemPlace} (h : DataW.trod enc Tryz.prog w base spare held fuel t cs = some x) :
    ∃ (A : Option Addr) (c : Nat) (l : List Ins), cs = [.slice A l.length c] ∧ Row w w.heap.size 5 (.slice A l.length c) l.length (codeCells l) ∧ ∀ i ∈ l, i.Fits := by
  have hC : Tryz.prog.cellsOf 44 = 5 := by kernel_rfl
  rcases Deep.open_slice ht h with ⟨rfl, _⟩ | ⟨a, len, cap, m, n, D, Pl, rfl, hb, hl, hm, hmm, _, hx⟩
  · exact ⟨none, 0, [], rfl, Row.nil _ _ _, by simp⟩
  rw [hC] at hx
  have hlm : len ≤ m := by rw [hmm]; split <;> omega
  obtain ⟨f, hf⟩ := Deep.choose_lt (α := Ins) (n := len) (p := fun i v => v.Fits ∧ w.cells? base (a.add (i * 5)) 5 = some (insCells v)) (fun i hi => by
    obtain ⟨cs', h1, h2⟩ := hx i (by omega)
    obtain ⟨v, hv, rfl⟩ := ins_cells h2
    exact ⟨v, hv, h1⟩)
  have hlen : ((List.range len).map f).length = len := by simp
  refine ⟨some a, cap, (List.range len).map f, by rw [hlen], ?_, ?_⟩
  · rw [hlen]
    refine ⟨by rw [codeCells_length, hlen], some a, cap, rfl, hl, by simpa [maxLen] using hm, (fun h => by cases h), fun hn => ?_⟩
    have hcell : ∀ k j u, k < len → j < 5 → (insCells (f k))[j]? = some u → w.cell? (a.add (k * 5 + j)) = some u := by
      intro k j u hk hj hu
      have h1 := (hf k hk).2
      obtain ⟨_, h2, h3⟩ := World.cells?_some h1
      have := h3 j hj
      rwa [Deep.add_add, hu] at this
    have h00 := hcell 0 0 (.int .i64 (f 0).op) (by omega) (by omega) rfl
    obtain ⟨b, off, spot⟩ := a
    have hs : spot = none := by simpa [Addr.add] using World.cell?_spot h00
    subst hs
    refine ⟨b, off, rfl, ?_, fun j u hu => ?_⟩
    · rw [add_spot] at h00
      unfold World.cell? at h00
      rcases hh : w.heap[b]? with _ | o
      · simp [hh] at h00
      · exact (Array.getElem?_eq_some_iff.1 hh).1
    · have hj : j < len * 5 := by
        rw [List.getElem?_eq_some_iff] at hu
        obtain ⟨h, _⟩ := hu
        rw [codeCells_length, hlen] at h; exact h
      have hk : j / 5 < len := by omega
      have hr : j % 5 < 5 := by omega
      have e : j / 5 * 5 + j % 5 = j := by omega
      have h5 := codeCells_at ((List.range len).map f) (j / 5) (f (j / 5)) (range_map_get f len _ hk) (j % 5) hr
      rw [e, hu] at h5
      have := hcell (j / 5) (j % 5) u hk hr h5.symm
      rwa [e, add_spot] at this
  · intro i hi
    obtain ⟨k, hk, rfl⟩ := List.mem_map.1 hi
    exact (hf k (List.mem_range.1 hk)).1

/-- A slice of bytes. -/
theorem open_bytes {t : TypeId} (ht : Tryz.prog.underlying t = some (.slice 5)) {fuel : Nat} {cs : List Value} {x : DataW H × List MemPlace} (h : DataW.trod enc Tryz.prog w base (fun _ => true) held fuel t cs = some x) :
    ∃ (A : Option Addr) (c : Nat) (l : List Int), cs = [.slice A l.length c] ∧ Row w w.heap.size 1 (.slice A l.length c) l.length (l.map (Value.int .u8)) ∧ ∀ b ∈ l, 0 ≤ b ∧ b ≤ 255 := by
  rcases open_ints ht Tryz.underlying5 (by kernel_rfl) h with ⟨rfl, _⟩ | ⟨x, l, c, zs, rfl, _, hl, hm, hz, _, hcell, hwz⟩
  · exact ⟨none, 0, [], rfl, Row.nil _ _ _, by simp⟩
  · have hzl : zs.length = c := by simpa using hz
    have hlen : (zs.take l).length = l := by rw [List.length_take]; omega
    refine ⟨some x, c, zs.take l, by rw [hlen], ?_, fun b hb => bounds_u8 (hwz b (List.mem_of_mem_take hb))⟩
    rw [hlen]
    exact Row.of_ints hl hm hzl hcell

theorem open_prog {r : Reach} {b0 : Nat} {v : Value} {d : DataW H} {ps : List MemPlace} (hval : Value.okWide Tryz.prog w r b0 28 v) (hd : DataW.Trod enc Tryz.prog w base (fun _ => true) held 28 v d ps) :
    ∃ (A : Option Addr) (c : Nat) (A' : Option Addr) (c' : Nat) (p : Prog), p.Fits ∧ v = .agg #[.slice A p.code.length c, .int .i64 p.size, .slice A' p.data.length c'] ∧ ProgV w w.heap.size (.slice A p.code.length c) (.slice A' p.data.length c') p := by
  obtain ⟨cs, rfl, _⟩ := okWide_struct Tryz.underlying28 hval
  obtain ⟨fuel, hf⟩ := hd
  obtain ⟨xs, n, _, _, hlen, hxl, hg⟩ := DataW.trod_struct Tryz.underlying28 hf
  have hC : Tryz.prog.cellsOf 28 = 3 := by kernel_rfl
  have k0 : Tryz.prog.cellsOf 25 = 1 := by kernel_rfl
  have k1 : Tryz.prog.cellsOf 3 = 1 := by kernel_rfl
  have k2 : Tryz.prog.cellsOf 26 = 1 := by kernel_rfl
  rw [hC] at hlen
  have hxl' : xs.length = 3 := hxl
  obtain ⟨l⟩ := cs
  have hl : (Value.agg ⟨l⟩).cells.toList = l := by simp [Value.cells]
  rw [hl] at hlen hg
  match l, hlen with
  | [c0, c1, c2], _ =>
    have g0 : DataW.trod enc Tryz.prog w base (fun _ => true) held n 25 [c0] = some xs[0] := by
      have := hg 0 _ rfl
      rw [List.getElem?_eq_getElem (by omega)] at this
      simpa [k0] using this
    have g1 : DataW.trod enc Tryz.prog w base (fun _ => true) held n 3 [c1] = some xs[1] := by
      have := hg 1 _ rfl
      rw [List.getElem?_eq_getElem (by omega)] at this
      simpa [k1] using this
    have g2 : DataW.trod enc Tryz.prog w base (fun _ => true) held n 26 [c2] = some xs[2] := by
      have := hg 2 _ rfl
      rw [List.getElem?_eq_getElem (by omega)] at this
      simpa [k2] using this
    obtain ⟨A, c, code, e0, h0, f0⟩ := open_code Tryz.underlying25 g0
    obtain ⟨sz, e1, _, f1⟩ := DataW.trod_int Tryz.underlying3 g1
    obtain ⟨A', c', data, e2, h2, f2⟩ := open_bytes Tryz.underlying26 g2
    simp only [List.cons.injEq, and_true] at e0 e1 e2
    subst e0 e1 e2
    exact ⟨A, c, A', c', ⟨code, sz, data⟩, ⟨f0, bounds_i64 f1, f2⟩, rfl, ⟨h0, h2⟩⟩
end
end Go.Proofs.YteagglddgkjkmaaGreat.Words

/- An argument that is an owner (an array of sixteen ints by value): its numbers. -/
namespace Go.Proofs.YteagglddgkjkmaaGreat.Words
set_option maxRecDepth 100000
open Go.ChangeShapes Go.WideShapes Go.ChangeAt Go.RowKit

section
variable {H : Type} {enc : TypeId × Value → H} {w : World} {base : Nat} {spare : Nat → Bool} {held : Bool}
theorem onr_cells {fuel : Nat} {cs : List Value} {x : DataW H × List MemPlace} (h : DataW.trod enc Tryz.prog w base spare held fuel 30 cs = some x) :
    ∃ o : List Int, o.length = 16 ∧ cs = oV o := by
  obtain ⟨xs, n, _, _, hlen, hxl, hg⟩ := DataW.trod_array Tryz.underlying30 h
  have hC : Tryz.prog.cellsOf 30 = 16 := by kernel_rfl
  have hc : Tryz.prog.cellsOf 3 = 1 := by kernel_rfl
  rw [hC] at hlen
  have hxl' : xs.length = 16 := hxl
  have he : ∀ i, i < 16 → ∃ k : Int, cs[i]? = some (.int .i64 k) := by
    intro i hi
    have := hg i hi
    rw [hc, Nat.mul_one, List.getElem?_eq_getElem (by omega)] at this
    obtain ⟨k, e, _, _⟩ := DataW.trod_int Tryz.underlying3 this
    refine ⟨k, ?_⟩
    have h2 : ((cs.drop i).take 1)[0]? = some (.int .i64 k) := by rw [e]; rfl
    rw [List.getElem?_take_of_lt (by omega), List.getElem?_drop] at h2
    exact h2
  refine ⟨cs.map (fun v => match v with | .int _ k => k | _ => 0), by simp [hlen], ?_⟩
  refine List.ext_getElem? fun i => ?_
  unfold oV
  rw [List.map_map, List.getElem?_map]
  by_cases hi : i < 16
  · obtain ⟨k, hk⟩ := he i hi
    rw [hk]; rfl
  · rw [List.getElem?_eq_none (by omega)]; rfl
theorem open_onr {r : Reach} {b0 : Nat} {v : Value} {d : DataW H} {ps : List MemPlace} (hval : Value.okWide Tryz.prog w r b0 30 v) (hd : DataW.Trod enc Tryz.prog w base spare held 30 v d ps) :
    ∃ o : List Int, o.length = 16 ∧ v = .agg (oV o).toArray := by
  have hv : ∃ cs, v = .agg cs := by
    simp only [Value.okWide, Tryz.underlying30] at hval
    obtain ⟨cs, h1, _⟩ := hval
    exact ⟨cs, h1⟩
  obtain ⟨cs, rfl⟩ := hv
  obtain ⟨fuel, hf⟩ := hd
  obtain ⟨o, ho, hc⟩ := onr_cells hf
  refine ⟨o, ho, ?_⟩
  obtain ⟨l⟩ := cs
  have : l = oV o := by simpa [Value.cells] using hc
  rw [this]
end
end Go.Proofs.YteagglddgkjkmaaGreat.Words

/- An argument that is a split (a struct of a slice of blocks, each with two slices of cells, and an array of sixteen ints, by value): its plain data. -/
namespace Go.Proofs.YteagglddgkjkmaaGreat.Words
set_option maxRecDepth 100000
open Go.ChangeShapes Go.WideShapes Go.ChangeAt Go.RowKit
set_option linter.unusedVariables false
set_option linter.unusedSimpArgs false

section
variable {H : Type} {enc : TypeId × Value → H} {w : World} {base : Nat} {spare : Nat → Bool} {held : Bool}

theorem celS_cells {fuel : Nat} {cs : List Value} {x : DataW H × List MemPlace} (h : DataW.trod enc Tryz.prog w base spare held fuel 49 cs = some x) :
    ∃ c : Cel, c.Fits ∧ cs = celCells c := by
  obtain ⟨xs, n, _, _, hlen, hxl, hg⟩ := DataW.trod_struct Tryz.underlying49 h
  have hC : Tryz.prog.cellsOf 49 = 9 := by kernel_rfl
  have hc1 : Tryz.prog.cellsOf 3 = 1 := by kernel_rfl
  have hc5 : Tryz.prog.cellsOf 44 = 5 := by kernel_rfl
  rw [hC] at hlen
  have hxl' : xs.length = 5 := hxl
  match cs, hlen with
  | [c0, c1, c2, c3, c4, c5, c6, c7, c8], _ =>
    have g0 : DataW.trod enc Tryz.prog w base spare held n 3 [c0] = some xs[0] := by
      have e := hg 0 _ rfl
      rw [List.getElem?_eq_getElem (by omega)] at e
      rw [← e]
      simp [hc1]
    have g1 : DataW.trod enc Tryz.prog w base spare held n 44 [c1, c2, c3, c4, c5] = some xs[1] := by
      have e := hg 1 _ rfl
      rw [List.getElem?_eq_getElem (by omega)] at e
      rw [← e]
      simp [hc1, hc5]
    have g2 : DataW.trod enc Tryz.prog w base spare held n 3 [c6] = some xs[2] := by
      have e := hg 2 _ rfl
      rw [List.getElem?_eq_getElem (by omega)] at e
      rw [← e]
      simp [hc1, hc5]
    have g3 : DataW.trod enc Tryz.prog w base spare held n 3 [c7] = some xs[3] := by
      have e := hg 3 _ rfl
      rw [List.getElem?_eq_getElem (by omega)] at e
      rw [← e]
      simp [hc1, hc5]
    have g4 : DataW.trod enc Tryz.prog w base spare held n 3 [c8] = some xs[4] := by
      have e := hg 4 _ rfl
      rw [List.getElem?_eq_getElem (by omega)] at e
      rw [← e]
      simp [hc1, hc5]
    obtain ⟨n0, e0, _, f0⟩ := DataW.trod_int Tryz.underlying3 g0
    obtain ⟨i, f1, e1⟩ := ins_cells g1
    obtain ⟨n2, e2, _, f2⟩ := DataW.trod_int Tryz.underlying3 g2
    obtain ⟨n3, e3, _, f3⟩ := DataW.trod_int Tryz.underlying3 g3
    obtain ⟨n4, e4, _, f4⟩ := DataW.trod_int Tryz.underlying3 g4
    simp only [insCells, List.cons.injEq, and_true] at e0 e1 e2 e3 e4
    obtain ⟨rfl, rfl, rfl, rfl, rfl⟩ := e1
    subst e0 e2 e3 e4
    exact ⟨⟨n0, i, n2, n3, n4⟩, ⟨bounds_i64 f0, f1, bounds_i64 f2, bounds_i64 f3, bounds_i64 f4⟩, rfl⟩

/-- A slice of records: each reads as its cells say. -/
theorem open_flat {α : Type} [Inhabited α] {e t : TypeId} {s : Nat} (hs : 0 < s) (f : α → List Value) (hf : ∀ x, (f x).length = s) (Q : α → Prop) (hC : Tryz.prog.cellsOf e = s)
    (hel : ∀ (fuel : Nat) (cs : List Value) (x : DataW H × List MemPlace), DataW.trod enc Tryz.prog w base spare held fuel e cs = some x → ∃ v, Q v ∧ cs = f v)
    (ht : Tryz.prog.underlying t = some (.slice e)) {fuel : Nat} {cs : List Value} {x : DataW H × List MemPlace} (h : DataW.trod enc Tryz.prog w base spare held fuel t cs = some x) :
    ∃ (A : Option Addr) (c : Nat) (l : List α), cs = [.slice A l.length c] ∧ Row w w.heap.size s (.slice A l.length c) l.length (flat f l) ∧ ∀ v ∈ l, Q v := by
  rcases Deep.open_slice ht h with ⟨rfl, _⟩ | ⟨a, len, cap, m, n, D, Pl, rfl, hb, hl, hm, hmm, _, hx⟩
  · exact ⟨none, 0, [], rfl, Row.nil _ _ _, by simp⟩
  rw [hC] at hx
  have hlm : len ≤ m := by rw [hmm]; split <;> omega
  obtain ⟨g, hg⟩ := Deep.choose_lt (α := α) (n := len) (p := fun i v => Q v ∧ w.cells? base (a.add (i * s)) s = some (f v)) (fun i hi => by
    obtain ⟨cs', h1, h2⟩ := hx i (by omega)
    obtain ⟨v, hv, rfl⟩ := hel _ _ _ h2
    exact ⟨v, hv, h1⟩)
  have hlen : ((List.range len).map g).length = len := by simp
  have hget : ∀ k, k < len → ((List.range len).map g)[k]? = some (g k) := fun k hk => by rw [List.getElem?_map, List.getElem?_range hk]; rfl
  refine ⟨some a, cap, (List.range len).map g, by rw [hlen], ?_, ?_⟩
  · rw [hlen]
    refine ⟨by rw [flat_len hf, hlen], some a, cap, rfl, hl, by simpa [maxLen] using hm, (fun h => by cases h), fun hn => ?_⟩
    have hcell : ∀ k j u, k < len → j < s → (f (g k))[j]? = some u → w.cell? (a.add (k * s + j)) = some u := by
      intro k j u hk hj hu
      have h1 := (hg k hk).2
      obtain ⟨_, h2, h3⟩ := World.cells?_some h1
      have := h3 j hj
      rwa [Deep.add_add, hu] at this
    obtain ⟨u0, hu0⟩ : ∃ u0, (f (g 0))[0]? = some u0 := ⟨_, List.getElem?_eq_getElem (by rw [hf]; exact hs)⟩
    have h00 := hcell 0 0 u0 (by omega) hs hu0
    obtain ⟨b, off, spot⟩ := a
    have hsp : spot = none := by simpa [Addr.add] using World.cell?_spot h00
    subst hsp
    refine ⟨b, off, rfl, ?_, fun j u hu => ?_⟩
    · rw [add_spot] at h00
      unfold World.cell? at h00
      rcases hh : w.heap[b]? with _ | o
      · simp [hh] at h00
      · exact (Array.getElem?_eq_some_iff.1 hh).1
    · have hj : j < len * s := by
        rw [List.getElem?_eq_some_iff] at hu
        obtain ⟨h, _⟩ := hu
        rw [flat_len hf, hlen] at h; exact h
      have hk : j / s < len := Nat.div_lt_of_lt_mul (by rw [Nat.mul_comm]; exact hj)
      have hr : j % s < s := Nat.mod_lt _ hs
      have e : j / s * s + j % s = j := by rw [Nat.mul_comm]; exact Nat.div_add_mod _ _
      have h5 := flat_at hf ((List.range len).map g) (j / s) (g (j / s)) (hget _ hk) (j % s) hr
      rw [e, hu] at h5
      have := hcell (j / s) (j % s) u hk hr h5.symm
      rwa [e, add_spot] at this
  · intro i hi
    obtain ⟨k, hk, rfl⟩ := List.mem_map.1 hi
    exact (hg k (List.mem_range.1 hk)).1
instance : Inhabited Cel := ⟨⟨0, ⟨0, 0, 0, 0, 0⟩, 0, 0, 0⟩⟩
instance : Inhabited BlkR := ⟨⟨0, 0, 0, 0, .slice none 0 0, .slice none 0 0⟩⟩
theorem open_cels {t : TypeId} (ht : Tryz.prog.underlying t = some (.slice 49)) {fuel : Nat} {cs : List Value} {x : DataW H × List MemPlace} (h : DataW.trod enc Tryz.prog w base spare held fuel t cs = some x) :
    ∃ (A : Option Addr) (c : Nat) (l : List Cel), cs = [.slice A l.length c] ∧ Row w w.heap.size 9 (.slice A l.length c) l.length (flat celCells l) ∧ ∀ v ∈ l, v.Fits :=
  open_flat (by omega) celCells celCells_len Cel.Fits (by kernel_rfl) (fun _ _ _ h => celS_cells h) ht h
def BlkC.Fits (b : BlkC) : Prop := (-9223372036854775808 ≤ b.from_ ∧ b.from_ ≤ 9223372036854775807) ∧ (-9223372036854775808 ≤ b.to ∧ b.to ≤ 9223372036854775807) ∧ (-9223372036854775808 ≤ b.next ∧ b.next ≤ 9223372036854775807) ∧ (-9223372036854775808 ≤ b.taken ∧ b.taken ≤ 9223372036854775807) ∧ (∀ c ∈ b.a, c.Fits) ∧ ∀ c ∈ b.e, c.Fits
theorem blkS_cells {fuel : Nat} {cs : List Value} {x : DataW H × List MemPlace} (h : DataW.trod enc Tryz.prog w base spare held fuel 24 cs = some x) :
    ∃ r : BlkR, (∃ c : BlkC, c.Fits ∧ BlkV w w.heap.size r c) ∧ cs = blkRL r := by
  obtain ⟨xs, n, _, _, hlen, hxl, hg⟩ := DataW.trod_struct Tryz.underlying24 h
  have hC : Tryz.prog.cellsOf 24 = 6 := by kernel_rfl
  have hc1 : Tryz.prog.cellsOf 3 = 1 := by kernel_rfl
  have hc2 : Tryz.prog.cellsOf 22 = 1 := by kernel_rfl
  rw [hC] at hlen
  have hxl' : xs.length = 6 := hxl
  match cs, hlen with
  | [c0, c1, c2, c3, c4, c5], _ =>
    have g : ∀ (j : Nat) (t : TypeId), (hj : j < 6) → Tryz.prog.cellsOf t = 1 → DataW.trod enc Tryz.prog w base spare held n t (([c0, c1, c2, c3, c4, c5].drop j).take (Tryz.prog.cellsOf t)) = xs[j]? → DataW.trod enc Tryz.prog w base spare held n t (([c0, c1, c2, c3, c4, c5].drop j).take 1) = some (xs[j]'(by omega)) := by
      intro j t hj h1 h2
      rw [h1] at h2
      rw [h2, List.getElem?_eq_getElem (by omega)]
    have g0 : DataW.trod enc Tryz.prog w base spare held n 3 [c0] = some xs[0] := by
      have e := hg 0 _ rfl
      rw [List.getElem?_eq_getElem (by omega)] at e
      rw [← e]
      simp [hc1]
    have g1 : DataW.trod enc Tryz.prog w base spare held n 3 [c1] = some xs[1] := by
      have e := hg 1 _ rfl
      rw [List.getElem?_eq_getElem (by omega)] at e
      rw [← e]
      simp [hc1]
    have g2 : DataW.trod enc Tryz.prog w base spare held n 3 [c2] = some xs[2] := by
      have e := hg 2 _ rfl
      rw [List.getElem?_eq_getElem (by omega)] at e
      rw [← e]
      simp [hc1]
    have g3 : DataW.trod enc Tryz.prog w base spare held n 3 [c3] = some xs[3] := by
      have e := hg 3 _ rfl
      rw [List.getElem?_eq_getElem (by omega)] at e
      rw [← e]
      simp [hc1]
    have g4 : DataW.trod enc Tryz.prog w base spare held n 22 [c4] = some xs[4] := by
      have e := hg 4 _ rfl
      rw [List.getElem?_eq_getElem (by omega)] at e
      rw [← e]
      simp [hc1, hc2]
    have g5 : DataW.trod enc Tryz.prog w base spare held n 22 [c5] = some xs[5] := by
      have e := hg 5 _ rfl
      rw [List.getElem?_eq_getElem (by omega)] at e
      rw [← e]
      simp [hc1, hc2]
    obtain ⟨n0, e0, _, f0⟩ := DataW.trod_int Tryz.underlying3 g0
    obtain ⟨n1, e1, _, f1⟩ := DataW.trod_int Tryz.underlying3 g1
    obtain ⟨n2, e2, _, f2⟩ := DataW.trod_int Tryz.underlying3 g2
    obtain ⟨n3, e3, _, f3⟩ := DataW.trod_int Tryz.underlying3 g3
    obtain ⟨A4, k4, l4, e4, h4, f4⟩ := open_cels Tryz.underlying22 g4
    obtain ⟨A5, k5, l5, e5, h5, f5⟩ := open_cels Tryz.underlying22 g5
    simp only [List.cons.injEq, and_true] at e0 e1 e2 e3 e4 e5
    subst e0 e1 e2 e3 e4 e5
    exact ⟨⟨n0, n1, n2, n3, .slice A4 l4.length k4, .slice A5 l5.length k5⟩, ⟨⟨n0, n1, n2, n3, l4, l5⟩, ⟨bounds_i64 f0, bounds_i64 f1, bounds_i64 f2, bounds_i64 f3, f4, f5⟩, ⟨rfl, rfl, rfl, rfl, h4, h5⟩⟩, rfl⟩
theorem blks_choose {w : World} {B : Nat} : ∀ rs : List BlkR, (∀ r ∈ rs, ∃ c : BlkC, c.Fits ∧ BlkV w B r c) → ∃ l : List BlkC, rs.length = l.length ∧ (∀ c ∈ l, c.Fits) ∧ ∀ (k : Nat) (r : BlkR) (c : BlkC), rs[k]? = some r → l[k]? = some c → BlkV w B r c := by
  intro rs
  induction rs with
  | nil => intro _; exact ⟨[], rfl, by simp, fun k r c h => by simp at h⟩
  | cons r rs ih =>
    intro h
    obtain ⟨c, hc1, hc2⟩ := h r (by simp)
    obtain ⟨l, h1, h2, h3⟩ := ih (fun r hr => h r (by simp [hr]))
    refine ⟨c :: l, by simp [h1], ?_, ?_⟩
    · intro x hx
      rcases List.mem_cons.1 hx with rfl | hx
      · exact hc1
      · exact h2 x hx
    · intro k r' c' hr hc
      cases k with
      | zero => simp at hr hc; subst hr hc; exact hc2
      | succ k => simp at hr hc; exact h3 k r' c' hr hc
theorem open_spl {r : Reach} {b0 : Nat} {v : Value} {d : DataW H} {ps : List MemPlace} (hval : Value.okWide Tryz.prog w r b0 32 v) (hd : DataW.Trod enc Tryz.prog w base spare held 32 v d ps) :
    ∃ (u : Value) (l : List BlkC) (o : List Int), o.length = 16 ∧ v = .agg (splV u o).toArray ∧ BlksV w w.heap.size u l ∧ ∀ c ∈ l, c.Fits := by
  obtain ⟨cs, rfl, _⟩ := okWide_struct Tryz.underlying32 hval
  obtain ⟨fuel, hf⟩ := hd
  obtain ⟨xs, n, _, _, hlen, hxl, hg⟩ := DataW.trod_struct Tryz.underlying32 hf
  have hC : Tryz.prog.cellsOf 32 = 17 := by kernel_rfl
  have k0 : Tryz.prog.cellsOf 29 = 1 := by kernel_rfl
  have k1 : Tryz.prog.cellsOf 30 = 16 := by kernel_rfl
  rw [hC] at hlen
  have hxl' : xs.length = 2 := hxl
  obtain ⟨l⟩ := cs
  have hl : (Value.agg ⟨l⟩).cells.toList = l := by simp [Value.cells]
  rw [hl] at hlen hg
  obtain ⟨c0, t, rfl⟩ : ∃ c0 t, l = c0 :: t := by
    cases l with
    | nil => simp at hlen
    | cons a t => exact ⟨a, t, rfl⟩
  have ht : t.length = 16 := by simpa using hlen
  have g0 : DataW.trod enc Tryz.prog w base spare held n 29 [c0] = some xs[0] := by
    have := hg 0 _ rfl
    rw [List.getElem?_eq_getElem (by omega)] at this
    simpa [k0] using this
  have g1 : DataW.trod enc Tryz.prog w base spare held n 30 t = some xs[1] := by
    have := hg 1 _ rfl
    rw [List.getElem?_eq_getElem (by omega)] at this
    rw [← this]
    simp [k0, k1, List.take_of_length_le (Nat.le_of_eq ht)]
  obtain ⟨A, c, rs, e0, h0, f0⟩ := open_flat (s := 6) (by omega) blkRL blkRL_len (fun r => ∃ c : BlkC, c.Fits ∧ BlkV w w.heap.size r c) (by kernel_rfl) (fun _ _ _ h => blkS_cells h) Tryz.underlying29 g0
  obtain ⟨o, ho, e1⟩ := onr_cells g1
  obtain ⟨bl, b1, b2, b3⟩ := blks_choose rs f0
  simp only [List.cons.injEq, and_true] at e0
  subst e0 e1
  refine ⟨.slice A rs.length c, bl, o, ho, rfl, ⟨rs, ?_, b1, b3⟩, b2⟩
  rw [← b1]; exact h0
end
end Go.Proofs.YteagglddgkjkmaaGreat.Words

/- Several texts in one: RefMask, StepZ, SeqSmall, RefForm, IsaForm, IsaRight, WordOf1. -/
import Derived.Test.YtdjllgdeijdieaaRows
import Derived.Test.YtdjllgdeijdieaaG00
import Derived.Test.YtdjllgdeijdieaaG02

/- Contract of the document's own Mask. -/
namespace Go.Proofs.Ytdjllgdeijdieaa.Words
set_option maxRecDepth 100000
open Go.RowKit
set_option linter.unusedVariables false

/-- A word's lowest bytes. -/
def maskZ (v size : Int) : Int := if size = 1 then v % 256 else if size = 2 then v % 65536 else if size = 4 then v else 0
theorem and_one (x : Int) (h0 : 0 ≤ x) (h1 : x < 4294967296) : bits .and .u32 x 1 = x % 2 := by
  obtain ⟨a, rfl⟩ := Int.eq_ofNat_of_zero_le h0
  rw [show (1 : Int) = ((1 : Nat) : Int) from rfl, u32_and_nat a 1 (by omega) (by omega), show a &&& 1 = a % 2 from Nat.and_two_pow_sub_one_eq_mod a 1]
  omega
theorem and_255 (x : Int) (h0 : 0 ≤ x) (h1 : x < 4294967296) : bits .and .u32 x 255 = x % 256 := by
  obtain ⟨a, rfl⟩ := Int.eq_ofNat_of_zero_le h0
  rw [show (255 : Int) = ((255 : Nat) : Int) from rfl, u32_and_nat a 255 (by omega) (by omega), show a &&& 255 = a % 256 from Nat.and_two_pow_sub_one_eq_mod a 8]
  omega
theorem and_65535 (x : Int) (h0 : 0 ≤ x) (h1 : x < 4294967296) : bits .and .u32 x 65535 = x % 65536 := by
  obtain ⟨a, rfl⟩ := Int.eq_ofNat_of_zero_le h0
  rw [show (65535 : Int) = ((65535 : Nat) : Int) from rfl, u32_and_nat a 65535 (by omega) (by omega), show a &&& 65535 = a % 65536 from Nat.and_two_pow_sub_one_eq_mod a 16]
  omega

set_option maxHeartbeats 400000 in
theorem refMask_any (v size : Int) (w : World) (h0 : 0 ≤ v) (h1 : v < 4294967296) :
    Calls Try.prog 13 #[.int .u32 v, .int .i64 size] w fun e w' => e = .returned (.int .u32 (maskZ v size)) ∧ w = w' := by
  have e1 := and_255 v h0 h1
  have e2 := and_65535 v h0 h1
  by_cases a : size = 1
  · subst a
    go_enter Try.func13, Try.ntmps13
    go_wp2_with fail
    go_ret
    exact ⟨rfl, rfl⟩
  by_cases b : size = 2
  · subst b
    go_enter Try.func13, Try.ntmps13
    go_wp2_with fail
    go_ret
    exact ⟨rfl, rfl⟩
  by_cases c : size = 4
  · subst c
    go_enter Try.func13, Try.ntmps13
    go_wp2_with fail
    go_ret
    exact ⟨rfl, rfl⟩
  · have t := Lib.hid (show maskZ v size = 0 by unfold maskZ; rw [if_neg a, if_neg b, if_neg c])
    have q1 : (size == 1) = false := by simp; exact a
    have q2 : (size == 2) = false := by simp; exact b
    have q4 : (size == 4) = false := by simp; exact c
    clear a b c e1 e2
    go_enter Try.func13, Try.ntmps13
    go_wp2_with fail
    go_ret
    exact ⟨ret_int t.out.symm, rfl⟩
end Go.Proofs.Ytdjllgdeijdieaa.Words

/- What one step of a program leaves, as plain mathematics. Nothing here speaks of one program text. -/
namespace Go.Proofs.Ytdjllgdeijdieaa.Words
set_option maxRecDepth 100000
open Go.RowKit
set_option linter.unusedVariables false

/-- A register written; register 0 is not. -/
def setZ (regs : List Int) (k : Nat) (v : Int) : List Int := if k = 0 then regs else regs.set k v
theorem setZ_len (regs : List Int) (k : Nat) (v : Int) : (setZ regs k v).length = regs.length := by unfold setZ; split <;> simp
/-- One step more. -/
def bumpZ (r : Res) : Res := { r with st := wrap64 (r.st + 1) }
/-- What an instruction leaves, and where it goes on. -/
def insZ (size : Int) (r : Res) (pc : Int) (i : Ins) : Res × Int :=
  if formZ i.op = 4 ∨ formZ i.op = 5 then
    if checkZ (sizeZ i.op) ((valZ r.regs i.a.toNat + i.imm) % 4294967296) size ≠ 0 then (trapZ r (checkZ (sizeZ i.op) ((valZ r.regs i.a.toNat + i.imm) % 4294967296) size) pc, pc)
    else if formZ i.op = 4 then (bumpZ { r with regs := setZ r.regs i.d.toNat (loadZ r.mem i.op ((valZ r.regs i.a.toNat + i.imm) % 4294967296)) }, pc + 1)
    else (bumpZ { r with mem := storeZ r.mem (sizeZ i.op) ((valZ r.regs i.a.toNat + i.imm) % 4294967296) (maskZ (valZ r.regs i.b.toNat) (sizeZ i.op)),
                         ws := r.ws ++ [⟨(valZ r.regs i.a.toNat + i.imm) % 4294967296, sizeZ i.op, maskZ (valZ r.regs i.b.toNat) (sizeZ i.op)⟩] }, pc + 1)
  else if formZ i.op ≤ 3 then
    if doB i (valZ r.regs i.b.toNat) = false then (trapZ r 3 pc, pc)
    else (bumpZ { r with regs := setZ r.regs i.d.toNat (doZ i (valZ r.regs i.a.toNat) (valZ r.regs i.b.toNat)) }, pc + 1)
  else if formZ i.op = 6 then (bumpZ r, if takenB i.op (valZ r.regs i.a.toNat) (valZ r.regs i.b.toNat) = true then pc + i.imm else pc + 1)
  else if formZ i.op = 7 then (bumpZ r, pc + i.imm)
  else (bumpZ { r with e := 1 }, pc)
/-- What a step leaves, and where it goes on. -/
def stepZ (p : Prog) (r : Res) (pc : Int) : Res × Int :=
  if r.e ≠ 0 ∨ p.right = false ∨ (r.mem.length : Int) ≠ p.size then (r, pc)
  else if pc < 0 ∨ (p.code.length : Int) ≤ pc then (trapZ r 4 pc, pc)
  else insZ p.size r pc (p.code.getD pc.toNat ⟨0, 0, 0, 0, 0⟩)
theorem stepZ_stay {p : Prog} {r : Res} {pc : Int} (h : r.e ≠ 0 ∨ p.right = false ∨ (r.mem.length : Int) ≠ p.size) : stepZ p r pc = (r, pc) := by unfold stepZ; rw [if_pos h]
theorem stepZ_pc {p : Prog} {r : Res} {pc : Int} (h0 : r.e = 0) (h1 : p.right = true) (h2 : (r.mem.length : Int) = p.size) (h : pc < 0 ∨ (p.code.length : Int) ≤ pc) : stepZ p r pc = (trapZ r 4 pc, pc) := by
  unfold stepZ; rw [if_neg (by rw [h1]; simp [h0, h2]), if_pos h]
theorem stepZ_ins {p : Prog} {r : Res} {k : Nat} {i : Ins} (h0 : r.e = 0) (h1 : p.right = true) (h2 : (r.mem.length : Int) = p.size) (h : p.code[k]? = some i) : stepZ p r (k : Int) = insZ p.size r k i := by
  have hk := (List.getElem?_eq_some_iff.1 h).1
  unfold stepZ; rw [if_neg (by rw [h1]; simp [h0, h2]), if_neg (by omega), Int.toNat_natCast, List.getD_eq_getElem?_getD, h]; rfl
theorem resL_setZ {r : Res} {vm vw : Value} (h : r.regs.length = 16) (k : Nat) (hk : k ≤ 15) (x : Int) : (if k = 0 then resL r vm vw else (resL r vm vw).set (5 + k) (.int .u32 x)) = resL { r with regs := setZ r.regs k x } vm vw := by
  unfold setZ
  split
  · rfl
  · exact resL_setreg h k (by omega) x
end Go.Proofs.Ytdjllgdeijdieaa.Words

/- Contracts of package seq's small methods: trap, pass, read, write, lowest. -/
namespace Go.Proofs.Ytdjllgdeijdieaa.Words
set_option maxRecDepth 100000
open Go.RowKit
set_option linter.unusedVariables false

set_option maxHeartbeats 400000 in
theorem mRead_any (vc : Value) (r : Res) (vm vw : Value) (pc : Int) (b k : Nat) (w : World) (hb : MBox w b (machL vc (resL r vm vw) pc)) (h16 : r.regs.length = 16) (hk : k ≤ 15) :
    Calls Try.prog 45 #[.pointer (some ⟨b, 0, none⟩), .int .i64 (k : Int)] w fun e w' => e = .returned (.int .u32 (valZ r.regs k)) ∧ w = w' := by
  by_cases h0 : k = 0
  · subst h0
    go_enter Try.func45, Try.ntmps45
    go_wp2_with fail
    go_ret
    exact ⟨rfl, rfl⟩
  · have e : valZ r.regs k = r.regs.getD k 0 := by unfold valZ; rw [if_neg h0]
    rw [e]
    have c : w.cell? ⟨b, 6 + k, none⟩ = some (.int .u32 (r.regs.getD k 0)) := by
      have := hb.cell (machL_res (resL_len h16) (resL_reg (vm := vm) (vw := vw) h16 k (by omega)))
      rwa [show 5 + k + 1 = 6 + k by omega] at this
    have hk0 : (0 : Int) ≤ k := by omega
    have hk1 : (k : Int) < 16 := by omega
    have q : ((k : Int) == 0) = false := by simp; omega
    clear h0 e
    go_enter Try.func45, Try.ntmps45
    go_wp2_with fail
    go_ret
    exact ⟨rfl, rfl⟩

set_option maxHeartbeats 400000 in
theorem mWrite_any (vc : Value) (r : Res) (vm vw : Value) (pc x : Int) (b k : Nat) (w : World) (hb : MBox w b (machL vc (resL r vm vw) pc)) (h16 : r.regs.length = 16) (hk : k ≤ 15) :
    Calls Try.prog 46 #[.pointer (some ⟨b, 0, none⟩), .int .i64 (k : Int), .int .u32 x] w fun e w' => e = .returned (.tuple #[]) ∧ MBox w' b (machL vc (resL { r with regs := setZ r.regs k x } vm vw) pc) ∧ w.grownBy w' (some b) := by
  by_cases h0 : k = 0
  · subst h0
    have HB := Lib.hid hb
    clear hb
    go_enter Try.func46, Try.ntmps46
    go_wp2_with fail
    exact bodyPost_end (v := .tuple #[]) (by simp [results, Try.results46]) rfl ⟨rfl, HB.out, World.grownBy.refl _ _⟩
  · have c : w.cell? ⟨b, 6 + k, none⟩ = some (.int .u32 (r.regs.getD k 0)) := by
      have := hb.cell (machL_res (resL_len h16) (resL_reg (vm := vm) (vw := vw) h16 k (by omega)))
      rwa [show 5 + k + 1 = 6 + k by omega] at this
    have c' := hb.frozen (6 + k)
    have HB := Lib.hid hb
    have H0 := Lib.hid h0
    have hk0 : (0 : Int) ≤ k := by omega
    have hk1 : (k : Int) < 16 := by omega
    have q : ((k : Int) != 0) = true := by simp; omega
    clear h0 hb
    go_enter Try.func46, Try.ntmps46
    go_wp2_with fail
    refine bodyPost_end (v := .tuple #[]) (by simp [results, Try.results46]) rfl ⟨rfl, ?_, grown_setCell _ _ _ _ HB.out.lt⟩
    have := HB.out.setCell (6 + k) (.int .u32 x)
    rw [show 6 + k = 5 + k + 1 by omega, machL_set (resL_len h16) _ (by omega), resL_setreg h16 k (by omega)] at this
    rw [show 6 + k = 5 + k + 1 by omega]
    unfold setZ
    rw [if_neg H0.out]
    exact this

set_option maxHeartbeats 400000 in
theorem mPass_any (vc : Value) (r : Res) (vm vw : Value) (pc off : Int) (b : Nat) (w : World) (hb : MBox w b (machL vc (resL r vm vw) pc)) (h16 : r.regs.length = 16) (hp : -1000000 ≤ pc ∧ pc ≤ 1000000) (ho : -1000000 ≤ off ∧ off ≤ 1000000) :
    Calls Try.prog 40 #[.pointer (some ⟨b, 0, none⟩), .int .i64 off] w fun e w' => e = .returned (.tuple #[]) ∧ MBox w' b (machL vc (resL (bumpZ r) vm vw) (pc + off)) ∧ w.grownBy w' (some b) := by
  have c5 := hb.cell (machL_res (resL_len h16) (resL_4 (r := r) (vm := vm) (vw := vw)))
  have c24 := hb.cell (machL_24 (vc := vc) (pc := pc) (resL_len (vm := vm) (vw := vw) h16))
  have d5 := hb.frozen (4 + 1)
  have d24 := hb.frozen 24
  have HB := Lib.hid hb
  clear hb
  obtain ⟨p1, p2⟩ := hp
  obtain ⟨o1, o2⟩ := ho
  go_enter Try.func40, Try.ntmps40
  go_wp2_with fail
  refine bodyPost_end (v := .tuple #[]) (by simp [results, Try.results40]) rfl ⟨rfl, ?_, ?_⟩
  · have := (HB.out.setCell (4 + 1) (.int .i64 (wrap64 (r.st + 1)))).setCell 24 (.int .i64 (pc + off))
    rw [machL_set (resL_len h16) _ (by omega), resL_set4, machL_set24 (resL_len (r := { r with st := wrap64 (r.st + 1) }) h16)] at this
    exact this
  · exact grown_trans (grown_setCell _ _ _ _ HB.out.lt) (grown_setCell _ _ _ _ (HB.out.setCell (4 + 1) (.int .i64 (wrap64 (r.st + 1)))).lt)

set_option maxHeartbeats 400000 in
theorem mTrap_any (vc : Value) (r : Res) (vm vw : Value) (pc kd : Int) (b : Nat) (w : World) (hb : MBox w b (machL vc (resL r vm vw) pc)) (h16 : r.regs.length = 16) :
    Calls Try.prog 34 #[.pointer (some ⟨b, 0, none⟩), .int .i64 kd] w fun e w' => e = .returned (.tuple #[]) ∧ MBox w' b (machL vc (resL (trapZ r kd pc) vm vw) pc) ∧ w.grownBy w' (some b) := by
  have c1 := hb.cell (machL_res (resL_len h16) (resL_0 (r := r) (vm := vm) (vw := vw)))
  have d1 := hb.frozen (0 + 1)
  have B1 : MBox (w.setCell ⟨b, 0 + 1, none⟩ (.int .i64 2)) b (machL vc (resL { r with e := 2 } vm vw) pc) := by
    have := hb.setCell (0 + 1) (.int .i64 2)
    rwa [machL_set (resL_len h16) _ (by omega), resL_set0] at this
  have hg := grown_setCell w b (0 + 1) (.int .i64 2) hb.lt
  have c5 := B1.cell (machL_res (resL_len (r := { r with e := 2 }) h16) (resL_4 (r := { r with e := 2 }) (vm := vm) (vw := vw)))
  have c24 := B1.cell (machL_24 (vc := vc) (pc := pc) (resL_len (r := { r with e := 2 }) (vm := vm) (vw := vw) h16))
  have HG := Lib.hid hg
  have HB := Lib.hid B1
  have HC := Lib.hid (And.intro c5 c24)
  clear hb B1 hg c5 c24
  go_enter Try.func34, Try.ntmps34
  go_wp2_with fail
  generalize w.setCell ⟨b, 0 + 1, none⟩ (.int .i64 2) = w1 at *
  obtain ⟨c5, c24⟩ := HC.out
  clear c1 d1
  refine wp_region_lin [(0, true), (1, true), (2, true), (3, true), (4, true), (5, true), (6, true), (7, true), (8, true), (9, true), (10, true), (11, true), (12, true), (13, true), (14, true), (15, false)]
    (by kernel_rfl) (by kernel_rfl) rfl (by kernel_rfl) (fun x => x.cell? ⟨b, 4 + 1, none⟩ = some (.int .i64 r.st) ∧ x.cell? ⟨b, 24, none⟩ = some (.int .i64 pc)) ?_
  simp only [List.map_cons, List.map_nil, List.getElem?_toArray, List.getElem?_cons_succ, List.getElem?_cons_zero]
  have hS : w1.drew.cell? ⟨b, 4 + 1, none⟩ = some (.int .i64 r.st) ∧ w1.drew.cell? ⟨b, 24, none⟩ = some (.int .i64 pc) := ⟨c5, c24⟩
  clear c5 c24
  iterate 15 (refine lin_take (v := ?_) hS (by rfl) ?_ ?_; rotate_left; (intro x hx; obtain ⟨hx1, hx2⟩ := hx; go_simp; try (with_reducible rfl)); (simp only [Act.put, List.setIfInBounds_toArray, List.set_cons_zero, List.set_cons_succ]))
  have hN : ∀ w', MBox w' b (splice (machL vc (resL { r with e := 2 } vm vw) pc) (1 + 1) [.int .i64 kd, .int .i64 r.st, .int .i64 pc]) → MBox w' b (machL vc (resL (trapZ r kd pc) vm vw) pc) := fun w' h => by
    rw [machL_splice (resL_len (r := { r with e := 2 }) h16) 1 _ (by simp), resL_trap] at h
    exact h
  refine lin_store_mbox hS (by rfl) 29 (.tmp 22) (.tmp 19) rfl b 2 [.int .i64 kd, .int .i64 r.st, .int .i64 pc] rfl rfl (machL vc (resL { r with e := 2 } vm vw) pc) (MBox.drew HB.out) (by rw [machL_len (resL_len (r := { r with e := 2 }) h16)]; simp) 3 (by kernel_rfl) rfl (by simp [Value.oneCell']) ?_ ?_
  · intro w' h1 h2
    have h3 := hN w' h1
    exact ⟨h3.cell (machL_res (resL_len (r := trapZ r kd pc) h16) (resL_4 (r := trapZ r kd pc))), h3.cell (machL_24 (resL_len (r := trapZ r kd pc) h16))⟩
  · intro w' h1 h2
    have h3 := hN w' h1
    refine lin_done ?_
    go_wp2_with fail
    exact bodyPost_end (v := .tuple #[]) (by simp [results, Try.results34]) rfl ⟨rfl, h3, grown_trans HG.out (show w1.grownBy w' (some b) from ⟨h2.os, h2.tape, h2.output, h2.size, h2.block⟩)⟩
end Go.Proofs.Ytdjllgdeijdieaa.Words

/- Contract of the document's own answer on forms. No conditions. -/
namespace Go.Proofs.Ytdjllgdeijdieaa.Words
set_option maxRecDepth 100000
open Go.RowKit

set_option maxHeartbeats 400000 in
theorem refForm_any (op : Int) (w : World) :
    Calls Try.prog 17 #[.int .i64 op] w fun e w' => e = .returned (.int .i64 (formZ op)) ∧ w = w' := by
  have hc := formZ_cases op
  go_enter Try.func17, Try.ntmps17
  go_wp2
  all_goals
    go_ret
    exact ⟨ret_int (by (try simp only [beq_iff_eq, beq_eq_false_iff_ne, ne_eq] at *); omega), rfl⟩

end Go.Proofs.Ytdjllgdeijdieaa.Words

/- Contracts of package isa and of the document's own answers on forms and on which instructions may be: Form, Right. No conditions. -/
namespace Go.Proofs.Ytdjllgdeijdieaa.Words
set_option maxRecDepth 100000
open Go.RowKit

theorem results_tmp4 {fn : Func} {t u v x : Tmp} (h : fn.results = #[.tmp t, .tmp u, .tmp v, .tmp x]) (tmps : Array Value) (P : Program) (w : World) :
    (results fn tmps).run P w = .ok (.tuple #[tmps.getD t undef, tmps.getD u undef, tmps.getD v undef, tmps.getD x undef]) w := by simp [results, h]

theorem ret_ints {k l : IntKind} {a b c d : Int} (h : a = b) (h' : c = d) : Ending.returned (.tuple #[.int k a, .int l c]) = .returned (.tuple #[.int k b, .int l d]) := by rw [h, h']

theorem ret_wb {a b : Int} {t u : Bool} (h : a = b) (h' : t = u) : Ending.returned (.tuple #[.int .u32 a, .bool t]) = .returned (.tuple #[.int .u32 b, .bool u]) := by rw [h, h']

set_option maxHeartbeats 400000 in
theorem form_any (op : Int) (w : World) :
    Calls Try.prog 35 #[.int .i64 op] w fun e w' => e = .returned (.int .i64 (formZ op)) ∧ w = w' := by
  have hc := formZ_cases op
  go_enter Try.func35, Try.ntmps35
  go_wp2
  all_goals
    go_ret
    exact ⟨ret_int (by (try simp only [beq_iff_eq, beq_eq_false_iff_ne, ne_eq] at *); omega), rfl⟩

set_option maxHeartbeats 400000 in
theorem fits_any (n lo hi : Int) (had : Bool) (w : World) :
    Calls Try.prog 55 #[.int .i64 n, .int .i64 lo, .int .i64 hi, .bool had] w fun e w' => e = .returned (.bool (fitsB n lo hi had)) ∧ w = w' := by
  rcases had with _ | _
  · go_enter Try.func55, Try.ntmps55
    go_wp2
    all_goals
      go_ret
      exact ⟨ret_bool_iff (by simp [fitsB]), rfl⟩
  · go_enter Try.func55, Try.ntmps55
    go_wp2
    all_goals
      go_ret
      exact ⟨ret_bool_iff (by simp [fitsB]; try omega), rfl⟩

set_option maxHeartbeats 400000 in
theorem limits_any (op : Int) (w : World) :
    Calls Try.prog 54 #[.int .i64 op] w fun e w' => e = .returned (.tuple #[.int .i64 (lowI op), .int .i64 (highI op)]) ∧ w = w' := by
  have hc := lowI_cases op
  go_enter Try.func54, Try.ntmps54
  go_wp2
  all_goals
    go_ret2
    exact ⟨ret_ints (by (try simp only [beq_iff_eq, beq_eq_false_iff_ne, ne_eq] at *); omega) (by (try simp only [beq_iff_eq, beq_eq_false_iff_ne, ne_eq] at *); omega), rfl⟩

set_option maxHeartbeats 400000 in
theorem fieldsOf_any (f : Int) (w : World) (h0 : 0 ≤ f) (h8 : f ≤ 8) :
    Calls Try.prog 53 #[.int .i64 f] w fun e w' => e = .returned (.agg #[.bool (hasD f), .bool (hasA f), .bool (hasB f), .bool (hasI f)]) ∧ Below w.heap.size w w' := by
  have hf : f = 0 ∨ f = 1 ∨ f = 2 ∨ f = 3 ∨ f = 4 ∨ f = 5 ∨ f = 6 ∨ f = 7 ∨ f = 8 := by omega
  rcases hf with rfl | rfl | rfl | rfl | rfl | rfl | rfl | rfl | rfl
  all_goals
    go_enter Try.func53, Try.ntmps53
    go_wp2
    refine bodyPost_ret (v := .agg #[.bool (hasD _), .bool (hasA _), .bool (hasB _), .bool (hasI _)]) (by simp [results, Try.results53, go_sem]; try decide) rfl ⟨rfl, ?_⟩
    exact (Below.refl _ _).alloc (Nat.le_refl _) _


set_option maxHeartbeats 400000 in
theorem has_any (f : Int) (w : World) :
    Calls Try.prog 24 #[.int .i64 f] w fun e w' => e = .returned (.tuple #[.bool (hasD f), .bool (hasA f), .bool (hasB f), .bool (hasI f)]) ∧ w = w' := by
  by_cases hf : f = 1 ∨ f = 2 ∨ f = 3 ∨ f = 4 ∨ f = 5 ∨ f = 6 ∨ f = 7
  · rcases hf with rfl | rfl | rfl | rfl | rfl | rfl | rfl
    all_goals
      go_enter Try.func24, Try.ntmps24
      go_wp2
      refine bodyPost_ret (results_tmp4 rfl _ _ _) rfl ⟨rfl, rfl⟩
  · have h1 : (f == 1) = false := by simp; omega
    have h2 : (f == 2) = false := by simp; omega
    have h3 : (f == 3) = false := by simp; omega
    have h4 : (f == 4) = false := by simp; omega
    have h5 : (f == 5) = false := by simp; omega
    have h6 : (f == 6) = false := by simp; omega
    have h7 : (f == 7) = false := by simp; omega
    have e1 : hasD f = false := by unfold hasD; simp; omega
    have e2 : hasA f = false := by unfold hasA; simp; omega
    have e3 : hasB f = false := by unfold hasB; simp; omega
    have e4 : hasI f = false := by unfold hasI; simp; omega
    rw [e1, e2, e3, e4]
    clear e1 e2 e3 e4
    go_enter Try.func24, Try.ntmps24
    go_wp2
    refine bodyPost_ret (results_tmp4 rfl _ _ _) rfl ⟨rfl, rfl⟩

theorem fitsB_reg (n : Int) (had : Bool) : fitsB n 0 15 had = (n == 0 || (had && decide (0 < n) && decide (n ≤ 15))) := by
  rw [Bool.eq_iff_iff]; cases had <;> simp [fitsB]; omega
set_option maxHeartbeats 400000 in
theorem reg_any (n : Int) (had : Bool) (w : World) :
    Calls Try.prog 25 #[.int .i64 n, .bool had] w fun e w' => e = .returned (.bool (fitsB n 0 15 had)) ∧ w = w' := by
  rw [fitsB_reg]
  by_cases h0 : n = 0
  · subst h0
    go_enter Try.func25, Try.ntmps25
    go_wp2
    go_ret
    exact ⟨rfl, rfl⟩
  · have h1 : (n == 0) = false := by simpa using h0
    have h2 : ¬ n = 0 := h0
    rcases had with _ | _
    · go_enter Try.func25, Try.ntmps25
      go_wp2
      all_goals
        go_ret
        exact ⟨ret_bool (by simp [h1]), rfl⟩
    · by_cases h3 : 0 < n
      · go_enter Try.func25, Try.ntmps25
        go_wp2
        all_goals
          go_ret
          exact ⟨ret_bool (by simp [h1, h3]), rfl⟩
      · have h4 : n < 0 := by omega
        go_enter Try.func25, Try.ntmps25
        go_wp2
        all_goals
          go_ret
          exact ⟨ret_bool (by simp; omega), rfl⟩
end Go.Proofs.Ytdjllgdeijdieaa.Words

/- Contracts of isa.Right and of the document's own RightIns: whether an instruction is one that may be. No conditions. -/
namespace Go.Proofs.Ytdjllgdeijdieaa.Words
set_option maxRecDepth 100000
open Go.RowKit

theorem right_none {i : Ins} (h : (formZ i.op == 0) = true) : rightB i = false := by
  have : formZ i.op = 0 := by simpa using h
  unfold rightB; simp [this]
theorem right_some {i : Ins} (h : (formZ i.op == 0) = false) : rightB i = (fitsB i.d 0 15 (hasD (formZ i.op)) && fitsB i.a 0 15 (hasA (formZ i.op)) && fitsB i.b 0 15 (hasB (formZ i.op)) && fitsB i.imm (lowI i.op) (highI i.op) (hasI (formZ i.op))) := by
  have : formZ i.op ≠ 0 := by simpa using h
  unfold rightB; simp [this]

set_option maxHeartbeats 1000000 in
/-- Right: the instruction is boxed, and its fields, in new memory. -/
theorem right_any (i : Ins) (w : World) :
    Calls Try.prog 41 #[.agg #[.int .i64 i.op, .int .i64 i.d, .int .i64 i.a, .int .i64 i.b, .int .i64 i.imm]] w fun e w' => e = .returned (.bool (rightB i)) ∧ Below w.heap.size w w' := by
  have hr := formZ_range i.op
  cases h0 : (formZ i.op == 0)
  · have hright := Lib.hid (right_some h0)
    go_enter Try.func41, Try.ntmps41
    go_wp2_with fail
    refine (form_any _ _).mono ?_; rintro e w1 ⟨rfl, rfl⟩
    go_wp2_with fail
    refine (fieldsOf_any _ _ hr.1 hr.2).mono ?_; rintro e w1 ⟨rfl, hb1⟩
    obtain ⟨hc1, hf1⟩ := bcell hb1
    have hz1 : w.heap.size < w1.heap.size := by have := hb1.size; simp at this; omega
    have hB := (((Below.refl w.heap.size w).alloc (Nat.le_refl _) _).trans (hb1.mono (by simp)))
    cases hd : fitsB i.d 0 15 (hasD (formZ i.op))
    · rw [hd] at hright
      go_wp2_with fail
      refine (limits_any _ _).mono ?_; rintro e w2 ⟨rfl, rfl⟩
      go_wp2_with fail
      refine (fits_any _ _ _ _ _).mono ?_; rintro e w2 ⟨rfl, rfl⟩
      rw [hd]
      go_wp2_with fail
      go_ret
      exact ⟨ret_bool (by rw [hright.out]; rfl), hB.alloc (by omega) _⟩
    cases ha : fitsB i.a 0 15 (hasA (formZ i.op))
    · rw [hd, ha] at hright
      go_wp2_with fail
      refine (limits_any _ _).mono ?_; rintro e w2 ⟨rfl, rfl⟩
      go_wp2_with fail
      refine (fits_any _ _ _ _ _).mono ?_; rintro e w2 ⟨rfl, rfl⟩
      rw [hd]
      go_wp2_with fail
      refine (fits_any _ _ _ _ _).mono ?_; rintro e w2 ⟨rfl, rfl⟩
      rw [ha]
      go_wp2_with fail
      go_ret
      exact ⟨ret_bool (by rw [hright.out]; rfl), hB.alloc (by omega) _⟩
    cases hb : fitsB i.b 0 15 (hasB (formZ i.op))
    · rw [hd, ha, hb] at hright
      go_wp2_with fail
      refine (limits_any _ _).mono ?_; rintro e w2 ⟨rfl, rfl⟩
      go_wp2_with fail
      refine (fits_any _ _ _ _ _).mono ?_; rintro e w2 ⟨rfl, rfl⟩
      rw [hd]
      go_wp2_with fail
      refine (fits_any _ _ _ _ _).mono ?_; rintro e w2 ⟨rfl, rfl⟩
      rw [ha]
      go_wp2_with fail
      refine (fits_any _ _ _ _ _).mono ?_; rintro e w2 ⟨rfl, rfl⟩
      rw [hb]
      go_wp2_with fail
      go_ret
      exact ⟨ret_bool (by rw [hright.out]; rfl), hB.alloc (by omega) _⟩
    · rw [hd, ha, hb] at hright
      go_wp2_with fail
      refine (limits_any _ _).mono ?_; rintro e w2 ⟨rfl, rfl⟩
      go_wp2_with fail
      refine (fits_any _ _ _ _ _).mono ?_; rintro e w2 ⟨rfl, rfl⟩
      rw [hd]
      go_wp2_with fail
      refine (fits_any _ _ _ _ _).mono ?_; rintro e w2 ⟨rfl, rfl⟩
      rw [ha]
      go_wp2_with fail
      refine (fits_any _ _ _ _ _).mono ?_; rintro e w2 ⟨rfl, rfl⟩
      rw [hb]
      go_wp2_with fail
      refine (fits_any _ _ _ _ _).mono ?_; rintro e w2 ⟨rfl, rfl⟩
      go_wp2_with fail
      go_ret
      exact ⟨ret_bool (by rw [hright.out]; rfl), hB.alloc (by omega) _⟩
  · have hright := Lib.hid (right_none h0)
    go_enter Try.func41, Try.ntmps41
    go_wp2_with fail
    refine (form_any _ _).mono ?_; rintro e w1 ⟨rfl, rfl⟩
    go_wp2_with fail
    go_ret
    exact ⟨ret_bool hright.out.symm, (Below.refl _ _).alloc (Nat.le_refl _) _⟩

set_option maxHeartbeats 1000000 in
theorem rightIns_any (i : Ins) (w : World) :
    Calls Try.prog 16 #[.agg #[.int .i64 i.op, .int .i64 i.d, .int .i64 i.a, .int .i64 i.b, .int .i64 i.imm]] w fun e w' => e = .returned (.bool (rightB i)) ∧ Below w.heap.size w w' := by
  have hB : ∀ o, Below w.heap.size w (w.alloc o) := fun o => (Below.refl w.heap.size w).alloc (Nat.le_refl _) o
  have HB := Lib.hid hB
  clear hB
  cases h0 : (formZ i.op == 0)
  · have hright := Lib.hid (right_some h0)
    cases hd : fitsB i.d 0 15 (hasD (formZ i.op))
    · rw [hd] at hright
      go_enter Try.func16, Try.ntmps16
      go_wp2_with fail
      refine (refForm_any _ _).mono ?_; rintro e w1 ⟨rfl, rfl⟩
      go_wp2_with fail
      refine (has_any _ _).mono ?_; rintro e w1 ⟨rfl, rfl⟩
      go_wp2_with fail
      refine (reg_any _ _ _).mono ?_; rintro e w1 ⟨rfl, rfl⟩
      rw [hd]
      go_wp2_with fail
      go_ret
      exact ⟨ret_bool (by rw [hright.out]; rfl), HB.out _⟩
    cases ha : fitsB i.a 0 15 (hasA (formZ i.op))
    · rw [hd, ha] at hright
      go_enter Try.func16, Try.ntmps16
      go_wp2_with fail
      refine (refForm_any _ _).mono ?_; rintro e w1 ⟨rfl, rfl⟩
      go_wp2_with fail
      refine (has_any _ _).mono ?_; rintro e w1 ⟨rfl, rfl⟩
      go_wp2_with fail
      refine (reg_any _ _ _).mono ?_; rintro e w1 ⟨rfl, rfl⟩
      rw [hd]
      go_wp2_with fail
      refine (reg_any _ _ _).mono ?_; rintro e w1 ⟨rfl, rfl⟩
      rw [ha]
      go_wp2_with fail
      go_ret
      exact ⟨ret_bool (by rw [hright.out]; rfl), HB.out _⟩
    cases hb : fitsB i.b 0 15 (hasB (formZ i.op))
    · rw [hd, ha, hb] at hright
      go_enter Try.func16, Try.ntmps16
      go_wp2_with fail
      refine (refForm_any _ _).mono ?_; rintro e w1 ⟨rfl, rfl⟩
      go_wp2_with fail
      refine (has_any _ _).mono ?_; rintro e w1 ⟨rfl, rfl⟩
      go_wp2_with fail
      refine (reg_any _ _ _).mono ?_; rintro e w1 ⟨rfl, rfl⟩
      rw [hd]
      go_wp2_with fail
      refine (reg_any _ _ _).mono ?_; rintro e w1 ⟨rfl, rfl⟩
      rw [ha]
      go_wp2_with fail
      refine (reg_any _ _ _).mono ?_; rintro e w1 ⟨rfl, rfl⟩
      rw [hb]
      go_wp2_with fail
      go_ret
      exact ⟨ret_bool (by rw [hright.out]; rfl), HB.out _⟩
    · rw [hd, ha, hb] at hright
      have hl := lowI_cases i.op
      cases hi : hasI (formZ i.op)
      · rw [hi] at hright
        by_cases hz : i.imm = 0
        · have hz' : (i.imm != 0) = false := by simp [hz]
          have hv : rightB i = true := by rw [hright.out]; simp [fitsB, hz]
          have HV := Lib.hid hv
          clear hv
          go_enter Try.func16, Try.ntmps16
          go_wp2_with fail
          refine (refForm_any _ _).mono ?_; rintro e w1 ⟨rfl, rfl⟩
          go_wp2_with fail
          refine (has_any _ _).mono ?_; rintro e w1 ⟨rfl, rfl⟩
          rw [hi]
          go_wp2_with fail
          refine (reg_any _ _ _).mono ?_; rintro e w1 ⟨rfl, rfl⟩
          rw [hd]
          go_wp2_with fail
          refine (reg_any _ _ _).mono ?_; rintro e w1 ⟨rfl, rfl⟩
          rw [ha]
          go_wp2_with fail
          refine (reg_any _ _ _).mono ?_; rintro e w1 ⟨rfl, rfl⟩
          rw [hb]
          go_wp2_with fail
          all_goals
            go_ret
            exact ⟨ret_bool_iff (by first | (rw [HV.out]; done) | (rw [HV.out]; simp; done) | (rw [HV.out]; simp; omega)), HB.out _⟩
        · have hz' : (i.imm != 0) = true := by simp [hz]
          have hv : rightB i = false := by rw [hright.out]; simp [fitsB, hz]
          have HV := Lib.hid hv
          clear hv
          go_enter Try.func16, Try.ntmps16
          go_wp2_with fail
          refine (refForm_any _ _).mono ?_; rintro e w1 ⟨rfl, rfl⟩
          go_wp2_with fail
          refine (has_any _ _).mono ?_; rintro e w1 ⟨rfl, rfl⟩
          rw [hi]
          go_wp2_with fail
          refine (reg_any _ _ _).mono ?_; rintro e w1 ⟨rfl, rfl⟩
          rw [hd]
          go_wp2_with fail
          refine (reg_any _ _ _).mono ?_; rintro e w1 ⟨rfl, rfl⟩
          rw [ha]
          go_wp2_with fail
          refine (reg_any _ _ _).mono ?_; rintro e w1 ⟨rfl, rfl⟩
          rw [hb]
          go_wp2_with fail
          go_ret
          exact ⟨ret_bool HV.out.symm, HB.out _⟩
      · rw [hi] at hright
        have hv : rightB i = decide (lowI i.op ≤ i.imm ∧ i.imm ≤ highI i.op) := by rw [hright.out]; simp [fitsB]
        have HV := Lib.hid hv
        clear hv
        go_enter Try.func16, Try.ntmps16
        go_wp2_with fail
        refine (refForm_any _ _).mono ?_; rintro e w1 ⟨rfl, rfl⟩
        go_wp2_with fail
        refine (has_any _ _).mono ?_; rintro e w1 ⟨rfl, rfl⟩
        rw [hi]
        go_wp2_with fail
        refine (reg_any _ _ _).mono ?_; rintro e w1 ⟨rfl, rfl⟩
        rw [hd]
        go_wp2_with fail
        refine (reg_any _ _ _).mono ?_; rintro e w1 ⟨rfl, rfl⟩
        rw [ha]
        go_wp2_with fail
        refine (reg_any _ _ _).mono ?_; rintro e w1 ⟨rfl, rfl⟩
        rw [hb]
        go_wp2_with fail
        all_goals
          go_ret
          exact ⟨ret_bool_iff (by rw [HV.out]; (try simp only [beq_iff_eq, beq_eq_false_iff_ne, ne_eq] at *); first | (simp; done) | (simp; omega)), HB.out _⟩
  · have hright := Lib.hid (right_none h0)
    go_enter Try.func16, Try.ntmps16
    go_wp2_with fail
    refine (refForm_any _ _).mono ?_; rintro e w1 ⟨rfl, rfl⟩
    go_wp2_with fail
    refine (has_any _ _).mono ?_; rintro e w1 ⟨rfl, rfl⟩
    go_wp2_with fail
    go_ret
    exact ⟨ret_bool hright.out.symm, HB.out _⟩
end Go.Proofs.Ytdjllgdeijdieaa.Words

/- Contracts of the calls of package word on plain numbers (Of). No conditions but that a word is from 0 to 2^32 - 1. -/
namespace Go.Proofs.Ytdjllgdeijdieaa.Words
set_option maxRecDepth 100000
open Go.RowKit

set_option maxHeartbeats 400000 in
theorem of_any (n : Int) (w : World) :
    Calls Try.prog 58 #[.int .i64 n] w fun e w' => e = .returned (.int .u32 (n % 4294967296)) ∧ w = w' := by
  go_enter Try.func58, Try.ntmps58
  go_wp2
  go_ret
  exact ⟨rfl, rfl⟩
end Go.Proofs.Ytdjllgdeijdieaa.Words

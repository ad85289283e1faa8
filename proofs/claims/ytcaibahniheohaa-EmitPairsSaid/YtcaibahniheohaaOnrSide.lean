/- Contracts of the side that does an instruction: package owner's and the document's own; of the document's small functions of chapter 11. -/
import Derived.Test.YtcaibahniheohaaOnrSmall
import Derived.Test.YtcaibahniheohaaLin
namespace Go.Proofs.Ytcaibahniheohaa.Words
set_option maxRecDepth 100000
open Go.RowKit
set_option linter.unusedVariables false
set_option linter.unusedSimpArgs false

section
variable {P : Program} {ops : Array Oper} {rest : List (Option Oper × Bool)} {op : Oper} {a : Act} {Q : Exit → Act → World → Prop} {S : World → Prop} {w : World}
/-- In a region that draws its order: a variable of many cells is read. -/
theorem lin_take_box (hS : S w) (hw : Region.wanted op (yielded ops a.tmps) = true) (ty : TypeId) (x : Operand) (ho : op.op = .load ty x)
    (b k : Nat) (hx : a.eval x = .pointer (some ⟨b, k, none⟩)) (l cs : List Value) (hb : ∀ y, S y → Box y b l) (hc : ∀ j v, cs[j]? = some v → l[k + j]? = some v) (d : TypeDesc)
    (hu : P.underlying ty = some d) (hd : d.isRow = true) (n : Nat) (hi : (P.info? ty).map (·.size) = some n) (hn : cs.length = n)
    (h : wpLin P ops Q rest S (a.put op.dst (.agg cs.toArray)) w) : wpLin P ops Q ((some op, true) :: rest) S a w :=
  ⟨S, fun _ h => h, hS, _, yieldsIf_load_mid hw ty x ho b k hx cs d (fun y hy => (hb y hy).range hc) hu hd (by rw [hn]; exact hi), h⟩
end
theorem reads_len (i : Ins) : (readsZ i).length ≤ 2 := by
  unfold readsZ
  repeat' split
  all_goals simp
theorem whole_at {l : List Value} : ∀ j v, l[j]? = some v → l[0 + j]? = some v := fun j v h => by rw [Nat.zero_add]; exact h
/-- An instruction's cells. -/
def insV (i : Ins) : List Value := [.int .i64 i.op, .int .i64 i.d, .int .i64 i.a, .int .i64 i.b, .int .i64 i.imm]
theorem Box.kept {W x : World} {b : Nat} {l : List Value} (h : Box W b l) (hk : Kept W x) : Box x b l := h.below hk h.lt

def sideZ (i : Ins) (o : List Int) : Int := if recB i.op = false then 0 else if (if i.d = 0 then anyEB (readsZ i) o = false else (0 < i.d ∧ i.d < 16 ∧ atO o i.d = 1)) then 1 else 2
theorem sideZ_no {i : Ins} {o : List Int} (h : recB i.op = false) : sideZ i o = 0 := by unfold sideZ; rw [if_pos h]
theorem sideZ_0 {i : Ins} {o : List Int} (h : recB i.op = true) (hd : i.d = 0) : sideZ i o = if anyEB (readsZ i) o = false then 1 else 2 := by
  unfold sideZ; rw [if_neg (by rw [h]; decide)]; simp only [hd, if_true]
theorem sideZ_d {i : Ins} {o : List Int} (h : recB i.op = true) (hd : ¬ i.d = 0) : sideZ i o = if 0 < i.d ∧ i.d < 16 ∧ atO o i.d = 1 then 1 else 2 := by
  unfold sideZ; rw [if_neg (by rw [h]; decide)]; simp only [hd, if_false]

set_option maxHeartbeats 2000000 in
theorem side_any (i : Ins) (o : List Int) (w : World) (ho : o.length = 16) :
    Calls Try.prog 46 #[.agg #[.int .i64 i.op, .int .i64 i.d, .int .i64 i.a, .int .i64 i.b, .int .i64 i.imm], .agg (oV o).toArray] w fun e w' => e = .returned (.int .i64 (sideZ i o)) ∧ Below w.heap.size w w' := by
  obtain ⟨W1, hW1⟩ : ∃ W1, W1 = w.alloc (.cells #[.int .i64 i.op, .int .i64 i.d, .int .i64 i.a, .int .i64 i.b, .int .i64 i.imm] 23) := ⟨_, rfl⟩
  obtain ⟨W2, hW2⟩ : ∃ W2, W2 = W1.alloc (.cells (oV o).toArray 24) := ⟨_, rfl⟩
  have hz1 : W1.heap.size = w.heap.size + 1 := by rw [hW1]; simp
  have hz2 : W2.heap.size = w.heap.size + 2 := by rw [hW2]; simp [hz1]
  have hK : Below w.heap.size w W2 := by rw [hW2, hW1]; exact ((Below.refl w.heap.size w).alloc (Nat.le_refl _) _).alloc (by simp) _
  have HB0 : Box W2 (w.heap.size + 1) (oV o) := by rw [hW2, ← hz1]; exact Box.new W1 (oV o) _
  have HI : Box W2 w.heap.size [.int .i64 i.op, .int .i64 i.d, .int .i64 i.a, .int .i64 i.b, .int .i64 i.imm] := by
    rw [hW2]; refine Box.alloc ?_ _; rw [hW1]; exact Box.new w [.int .i64 i.op, .int .i64 i.d, .int .i64 i.a, .int .i64 i.b, .int .i64 i.imm] _
  have c0 := HI.cell (k := 0) rfl
  have c1 := HI.cell (k := 1) rfl
  have HB := Lib.hid HB0
  have HIB := Lib.hid HI
  have HO := Lib.hid ho
  have HKK := Lib.hid hK
  clear HI HB0 hK ho
  go_enter Try.func46, Try.ntmps46
  go_wp2_with fail
  rw [← hW1, ← hW2]
  clear hW1 hW2
  refine (reckons_any _ _).mono ?_; rintro e w1 ⟨rfl, rfl⟩
  try dsimp only
  cases hrb : recB i.op
  · have HL := Lib.hid (sideZ_no (o := o) hrb)
    clear hrb
    go_wp2_with fail
    go_ret
    exact ⟨ret_int HL.out.symm, HKK.out⟩
  by_cases hd0 : i.d = 0
  · have HL := Lib.hid (sideZ_0 (o := o) hrb hd0)
    rw [hd0] at c1
    have HRL := Lib.hid (reads_len i)
    clear hrb hd0
    go_wp2_with fail
    refine wp_region_lin [(0, true), (2, true), (1, false), (3, false), (4, true), (5, true)]
      (by kernel_rfl) (by kernel_rfl) rfl (by kernel_rfl) (Kept W2) ?_
    have k0 : Kept W2 W2.drew := (Kept.refl W2).drew
    simp only [List.map_cons, List.map_nil, List.getElem?_toArray, List.getElem?_cons_succ, List.getElem?_cons_zero]
    refine lin_take_box k0 rfl 23 (.tmp 2) rfl w.heap.size 0 rfl (insV i) (insV i) (fun y hy => HIB.out.kept hy) whole_at _ Try.underlying23 rfl 5 (by kernel_rfl) rfl ?_
    refine lin_take_box k0 rfl 24 (.tmp 3) rfl (w.heap.size + 1) 0 rfl (oV o) (oV o) (fun y hy => HB.out.kept hy) whole_at _ Try.underlying24 rfl 16 (by kernel_rfl) ((oV_len o).trans HO.out) ?_
    simp only [Act.put, List.setIfInBounds_toArray, List.set_cons_zero, List.set_cons_succ]
    refine lin_call k0 (by rfl) (fun K hK => ?_)
    go_simp
    refine (readsN_any i _).mono ?_; rintro e w1 ⟨v, rfl, hrow, hnew, hb1⟩
    go_wp2_with fail
    have k1 := k0.to hb1
    refine hK.out _ _ k1 (fun _ => ?_)
    clear hK K hb1
    obtain ⟨A1, c1', rfl⟩ := hrow.form
    try simp only [Act.put, List.setIfInBounds_toArray, List.set_cons_zero, List.set_cons_succ]
    refine lin_call k1 (by rfl) (fun K hK => ?_)
    go_simp
    refine (anyOnE_any A1 c1' (readsZ i) o _ HO.out hrow (fun r hr => by have := reads_mem hr; omega) (by have := HRL.out; omega)).mono ?_; rintro e w2 ⟨rfl, hb2⟩
    go_wp2_with fail
    have k2 := k1.to hb2
    refine hK.out _ _ k2 (fun _ => ?_)
    clear hK K hb2
    try simp only [Act.put, List.setIfInBounds_toArray, List.set_cons_zero, List.set_cons_succ]
    have HK2 := Lib.hid (HKK.out.trans (Below.mono k2 (by omega)))
    cases hq : anyEB (readsZ i) o
    · have HE := Lib.hid (HL.out.trans (if_pos hq))
      iterate 2 (refine lin_take (v := ?_) (by assumption) (by rfl) ?_ ?_; rotate_left; (intro x hx; (try dsimp only at hx); go_simp; try (with_reducible rfl)); (try simp only [Act.put, List.setIfInBounds_toArray, List.set_cons_zero, List.set_cons_succ]))
      refine lin_done ?_
      go_wp2_with fail
      go_ret
      exact ⟨ret_int HE.out.symm, HK2.out⟩
    · have HE := Lib.hid (HL.out.trans (if_neg (by rw [hq]; decide)))
      iterate 2 (refine lin_take (v := ?_) (by assumption) (by rfl) ?_ ?_; rotate_left; (intro x hx; (try dsimp only at hx); go_simp; try (with_reducible rfl)); (try simp only [Act.put, List.setIfInBounds_toArray, List.set_cons_zero, List.set_cons_succ]))
      refine lin_done ?_
      go_wp2_with fail
      go_ret
      exact ⟨ret_int HE.out.symm, HK2.out⟩
  · have HL := Lib.hid (sideZ_d (o := o) hrb hd0)
    have q0 : (i.d == 0) = false := by simpa using hd0
    clear hrb hd0
    by_cases h1 : 0 < i.d
    · by_cases h2 : i.d < 16
      · have d1 := HB.out.cell (oV_at HO.out (n := i.d.toNat) (by omega))
        have e5 : ((i.d.toNat : Nat) : Int) = i.d := by omega
        rw [e5] at d1
        clear e5
        have e6 := Lib.hid h1
        have e7 := Lib.hid h2
        have e8 : 0 ≤ i.d := by omega
        cases hq : (atO o i.d == 1)
        · have HE := Lib.hid (HL.out.trans (if_neg (fun h => by rw [h.2.2] at hq; exact absurd hq (by decide))))
          go_wp2_with fail
          go_ret
          exact ⟨ret_int HE.out.symm, HKK.out⟩
        · have HE := Lib.hid (HL.out.trans (if_pos ⟨h1, h2, by simpa using hq⟩))
          go_wp2_with fail
          go_ret
          exact ⟨ret_int HE.out.symm, HKK.out⟩
      · have HE := Lib.hid (HL.out.trans (if_neg (fun h => h2 h.2.1)))
        go_wp2_with fail
        go_ret
        exact ⟨ret_int HE.out.symm, HKK.out⟩
    · have HE := Lib.hid (HL.out.trans (if_neg (fun h => h1 h.1)))
      go_wp2_with fail
      go_ret
      exact ⟨ret_int HE.out.symm, HKK.out⟩
end Go.Proofs.Ytcaibahniheohaa.Words

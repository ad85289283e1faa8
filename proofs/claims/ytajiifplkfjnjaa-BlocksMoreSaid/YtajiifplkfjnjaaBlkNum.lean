/- Contracts of package blocks and of the document's own blocks that call nothing great: which instructions lead, end, go on; a place's number in a list. -/
import Derived.Test.YtajiifplkfjnjaaBlkMath
import Derived.Test.YtajiifplkfjnjaaKept
import Derived.Test.YtajiifplkfjnjaaIsaForm
import Derived.Test.YtajiifplkfjnjaaRefForm
import Derived.Test.YtajiifplkfjnjaaShelf
import Derived.LoopTactic
import Derived.LoopN
namespace Go.Proofs.Ytajiifplkfjnjaa.Words
set_option maxRecDepth 100000
open Go.RowKit
set_option linter.unusedVariables false

theorem isJump_eq (i : Ins) : isJump i = (decide (formZ i.op = 6) || decide (formZ i.op = 7)) := by
  rw [Bool.eq_iff_iff, isJump_form]; simp
theorem isEnd_eq (i : Ins) : isEnd i = (isJump i || decide (formZ i.op = 8)) := by
  have := formZ_cases i.op
  unfold isEnd; congr 1; rw [decide_eq_decide]; omega
theorem goesB_eq (i : Ins) : goesB i = !(decide (formZ i.op = 7) || decide (formZ i.op = 8)) := by
  have := formZ_cases i.op
  unfold goesB; congr 1; rw [Bool.eq_iff_iff]; simp; omega

set_option maxHeartbeats 400000 in
theorem blkHas_any (i : Ins) (w : World) :
    Calls Try.prog 19 #[.agg #[.int .i64 i.op, .int .i64 i.d, .int .i64 i.a, .int .i64 i.b, .int .i64 i.imm]] w fun e w' => e = .returned (.bool (isJump i)) ∧ Below w.heap.size w w' := by
  have hF := formZ_range i.op
  have HJ := Lib.hid (isJump_eq i)
  go_enter Try.func19, Try.ntmps19
  go_wp2_with fail
  refine (form_any _ _).mono ?_; rintro e w1 ⟨rfl, rfl⟩
  generalize formZ i.op = f at *
  by_cases h6 : f = 6
  · subst h6
    go_wp2_with fail
    go_ret
    exact ⟨ret_bool HJ.out.symm, (Below.refl _ _).alloc (Nat.le_refl _) _⟩
  by_cases h7 : f = 7
  · subst h7
    go_wp2_with fail
    go_ret
    exact ⟨ret_bool HJ.out.symm, (Below.refl _ _).alloc (Nat.le_refl _) _⟩
  · go_wp2_with fail
    go_ret
    exact ⟨ret_bool (by rw [HJ.out, Bool.eq_iff_iff]; simp [h6, h7]), (Below.refl _ _).alloc (Nat.le_refl _) _⟩

set_option maxHeartbeats 400000 in
theorem blkEnds_any (i : Ins) (w : World) :
    Calls Try.prog 20 #[.agg #[.int .i64 i.op, .int .i64 i.d, .int .i64 i.a, .int .i64 i.b, .int .i64 i.imm]] w fun e w' => e = .returned (.bool (isEnd i)) ∧ Below w.heap.size w w' := by
  have hF := formZ_range i.op
  have HJ := Lib.hid (isEnd_eq i)
  go_enter Try.func20, Try.ntmps20
  go_wp2_with fail
  refine (blkHas_any i _).mono ?_; rintro e w1 ⟨rfl, hb⟩
  have hk : Below w.heap.size w w1 := ((Below.refl w.heap.size w).alloc (Nat.le_refl _) _).trans (hb.mono (by simp))
  have c0 : w1.cell? ⟨w.heap.size, 0, none⟩ = some (.int .i64 i.op) := ((bcell hb).1 _ _ (by simp)).trans (by go_simp)
  have hz : w.heap.size < w1.heap.size := by have := hb.size; simp at this; omega
  clear hb
  cases hj : isJump i
  · rw [hj] at HJ
    go_wp2_with fail
    refine (form_any _ _).mono ?_; rintro e w2 ⟨rfl, rfl⟩
    generalize formZ i.op = f at *
    try dsimp only
    go_wp2_with fail
    go_ret
    exact ⟨ret_bool (by rw [HJ.out, Bool.eq_iff_iff]; simp), hk⟩
  · rw [hj] at HJ
    go_wp2_with fail
    go_ret
    exact ⟨ret_bool HJ.out.symm, hk⟩

set_option maxHeartbeats 400000 in
theorem blkGoes_any (i : Ins) (w : World) :
    Calls Try.prog 23 #[.agg #[.int .i64 i.op, .int .i64 i.d, .int .i64 i.a, .int .i64 i.b, .int .i64 i.imm]] w fun e w' => e = .returned (.bool (goesB i)) ∧ Below w.heap.size w w' := by
  have hF := formZ_range i.op
  have HJ := Lib.hid (goesB_eq i)
  go_enter Try.func23, Try.ntmps23
  go_wp2_with fail
  refine (form_any _ _).mono ?_; rintro e w1 ⟨rfl, rfl⟩
  generalize formZ i.op = f at *
  by_cases h7 : f = 7
  · subst h7
    go_wp2_with fail
    go_ret
    exact ⟨ret_bool HJ.out.symm, (Below.refl _ _).alloc (Nat.le_refl _) _⟩
  · go_wp2_with fail
    go_ret
    exact ⟨ret_bool (by rw [HJ.out, Bool.eq_iff_iff]; simp [h7]), (Below.refl _ _).alloc (Nat.le_refl _) _⟩

set_option maxHeartbeats 400000 in
theorem refEnds_any (i : Ins) (w : World) :
    Calls Try.prog 21 #[.agg #[.int .i64 i.op, .int .i64 i.d, .int .i64 i.a, .int .i64 i.b, .int .i64 i.imm]] w fun e w' => e = .returned (.bool (isEnd i)) ∧ Below w.heap.size w w' := by
  have hF := formZ_range i.op
  have HJ := Lib.hid (show isEnd i = (decide (formZ i.op = 6) || decide (formZ i.op = 7) || decide (formZ i.op = 8)) by rw [isEnd_eq, isJump_eq])
  go_enter Try.func21, Try.ntmps21
  go_wp2_with fail
  refine (refForm_any _ _).mono ?_; rintro e w1 ⟨rfl, rfl⟩
  generalize formZ i.op = f at *
  by_cases h6 : f = 6
  · subst h6
    go_wp2_with fail
    go_ret
    exact ⟨ret_bool HJ.out.symm, (Below.refl _ _).alloc (Nat.le_refl _) _⟩
  by_cases h7 : f = 7
  · subst h7
    go_wp2_with fail
    go_ret
    exact ⟨ret_bool HJ.out.symm, (Below.refl _ _).alloc (Nat.le_refl _) _⟩
  · have k6 : (f == 6) = false := by simpa using h6
    have k7 : (f == 7) = false := by simpa using h7
    go_wp2_with fail
    go_ret
    exact ⟨ret_bool (by rw [HJ.out, Bool.eq_iff_iff]; simp [h6, h7]), (Below.refl _ _).alloc (Nat.le_refl _) _⟩

/-- A list of places as cells. -/
def natL (L : List Nat) : List Value := L.map (fun y : Nat => Value.int .i64 (y : Int))
theorem natL_get {L : List Nat} {k : Nat} (h : k < L.length) : (natL L)[k]? = some (.int .i64 ((L.getD k 0 : Nat) : Int)) := by
  unfold natL; rw [List.getElem?_map, List.getD_eq_getElem?_getD, List.getElem?_eq_getElem h]; rfl
theorem natL_snoc (L : List Nat) (x : Nat) : natL (L ++ [x]) = natL L ++ [.int .i64 (x : Int)] := by simp [natL]
theorem idx_count {zs : List Int} (hs : zs.Pairwise (· < ·)) {x : Int} (hx : zs.contains x = true) : zs.countP (· < x) = zs.idxOf x := by
  induction zs with
  | nil => simp at hx
  | cons y zs ih =>
    obtain ⟨h1, h2⟩ := List.pairwise_cons.1 hs
    by_cases hxy : y = x
    · subst hxy
      rw [List.countP_cons, List.idxOf_cons_self]
      have : zs.countP (· < y) = 0 := by
        rw [List.countP_eq_zero]
        intro z hz
        have := h1 z hz
        simp; omega
      simp [this]
    · have hx' : zs.contains x = true := by
        simp only [List.contains_cons, Bool.or_eq_true, beq_iff_eq] at hx
        rcases hx with h | h
        · exact absurd h.symm hxy
        · exact h
      have hmem : x ∈ zs := by simpa using hx'
      have := h1 x hmem
      have e0 : (y == x) = false := by simpa using hxy
      rw [List.countP_cons, ih h2 hx', List.idxOf_cons, e0]
      simp [this]
theorem ints_sorted {L : List Nat} (h : L.Pairwise (· < ·)) : (L.map (fun y : Nat => (y : Int))).Pairwise (· < ·) := by
  rw [List.pairwise_map]
  exact h.imp fun h => by omega
theorem numZ_no {L : List Nat} {x : Int} (h : (L.map (fun y : Nat => (y : Int))).contains x = false) : numZ L x = -1 := by unfold numZ; rw [h]; rfl
theorem numZ_yes {L : List Nat} {x : Int} (h : (L.map (fun y : Nat => (y : Int))).contains x = true) : numZ L x = ((L.map (fun y : Nat => (y : Int))).idxOf x : Nat) := by unfold numZ; rw [if_pos h]

set_option maxHeartbeats 400000 in
theorem numberAt_any (b off c : Nat) (L : List Nat) (x : Int) (w : World) (hr : Row w w.heap.size 1 (.slice (some ⟨b, off, none⟩) L.length c) L.length (natL L)) (hs : L.Pairwise (· < ·)) (hbig : L.length ≤ 8192) :
    Calls Try.prog 24 #[.slice (some ⟨b, off, none⟩) L.length c, .int .i64 x] w fun e w' => e = .returned (.int .i64 (numZ L x)) ∧ ∃ q, w' = w.drewN q := by
  have hc := Lib.hid (Try.slices_BinarySearch_int b off L.length c (L.map (fun y : Nat => (y : Int))) x w (by simp) (by omega) (fun j hj => by
    have := hr.cells ⟨b, off, none⟩ rfl j (.int .i64 ((L.map (fun y : Nat => (y : Int))).getD j 0)) (by
      unfold natL
      rw [List.getElem?_map, List.getD_eq_getElem?_getD, List.getElem?_map]
      rw [List.length_map] at hj
      rw [List.getElem?_eq_getElem hj]; rfl)
    rwa [add_spot] at this) (by
      rw [List.take_of_length_le (by simp)]
      exact (ints_sorted hs).imp fun h => by omega))
  have ht : (L.map (fun y : Nat => (y : Int))).take L.length = L.map (fun y : Nat => (y : Int)) := List.take_of_length_le (by simp)
  rw [ht] at hc
  have HI := Lib.hid (fun h => idx_count (ints_sorted hs) (x := x) h)
  have HN := Lib.hid (fun h => numZ_no (L := L) (x := x) h)
  have HY := Lib.hid (fun h => numZ_yes (L := L) (x := x) h)
  clear ht hs hr
  go_enter Try.func24, Try.ntmps24
  go_wp2_with fail
  refine hc.out.mono ?_; rintro e w1 ⟨rfl, q, rfl⟩
  cases hh : (L.map (fun y : Nat => (y : Int))).contains x
  · have hres := Lib.hid (HN.out hh)
    go_wp2_with fail
    go_ret
    exact ⟨ret_int hres.out.symm, _, rfl⟩
  · have hres := Lib.hid (HY.out hh)
    rw [HI.out hh]
    go_wp2_with fail
    go_ret
    exact ⟨ret_int hres.out.symm, _, rfl⟩

set_option maxHeartbeats 400000 in
theorem shift_any (n m : Int) (w : World) (h : -1 ≤ n ∧ n ≤ 8192 ∧ 0 ≤ m ∧ m ≤ 8192) :
    Calls Try.prog 17 #[.int .i64 n, .int .i64 m] w fun e w' => e = .returned (.int .i64 (if n < 0 then -1 else n + m)) ∧ w = w' := by
  obtain ⟨h1, h2, h3, h4⟩ := h
  by_cases hn : n < 0
  · rw [if_pos hn]
    go_enter Try.func17, Try.ntmps17
    go_wp2_with fail
    go_ret
    exact ⟨rfl, rfl⟩
  · rw [if_neg hn]
    go_enter Try.func17, Try.ntmps17
    go_wp2_with fail
    go_ret
    exact ⟨rfl, rfl⟩

theorem numZ_idx {L : List Nat} {x : Int} {j : Nat} (hs : L.Pairwise (· < ·)) (hj : j < L.length) (hx : ((L.getD j 0 : Nat) : Int) = x) : numZ L x = j := by
  have hg : (L.map (fun y : Nat => (y : Int)))[j]? = some x := by
    rw [List.getElem?_map, ← hx, List.getD_eq_getElem?_getD, List.getElem?_eq_getElem hj]; rfl
  have hlt : j < (L.map (fun y : Nat => (y : Int))).length := by simpa using hj
  have he : (L.map (fun y : Nat => (y : Int)))[j] = x := by
    rw [List.getElem?_eq_getElem hlt] at hg; injection hg
  have hmem : x ∈ L.map (fun y : Nat => (y : Int)) := he ▸ List.getElem_mem hlt
  rw [numZ_yes (by simpa using hmem)]
  have hnd : (L.map (fun y : Nat => (y : Int))).Nodup := (ints_sorted hs).imp fun h => by omega
  rw [← he, hnd.idxOf_getElem j hlt]
theorem numZ_none {L : List Nat} {x : Int} (h : ∀ j, j < L.length → ((L.getD j 0 : Nat) : Int) ≠ x) : numZ L x = -1 := by
  refine numZ_no ?_
  cases hc : (L.map (fun y : Nat => (y : Int))).contains x
  · rfl
  · have hmem : x ∈ L.map (fun y : Nat => (y : Int)) := by simpa using hc
    obtain ⟨j, hlt, he⟩ := List.getElem_of_mem hmem
    have hj : j < L.length := by simpa using hlt
    refine absurd ?_ (h j hj)
    rw [List.getElem_map] at he
    rw [List.getD_eq_getElem?_getD, List.getElem?_eq_getElem hj]; exact he

set_option maxHeartbeats 1000000 in
theorem find_any (A : Option Addr) (c : Nat) (L : List Nat) (x : Int) (w : World) (hr : Row w w.heap.size 1 (.slice A L.length c) L.length (natL L)) (hs : L.Pairwise (· < ·)) (hbig : L.length ≤ 8192) :
    Calls Try.prog 25 #[.slice A L.length c, .int .i64 x] w fun e w' => e = .returned (.int .i64 (numZ L x)) ∧ w = w' := by
  by_cases hn : L.length = 0
  · have hl : L = [] := List.eq_nil_of_length_eq_zero hn
    subst hl
    go_enter Try.func25, Try.ntmps25
    go_wp2_with fail
    refine wp_loop_rounds 1 ?_
    rw [rounds_succ]
    go_wp2_with fail
    go_ret
    exact ⟨rfl, rfl⟩
  obtain ⟨b, off, rfl, hb, _⟩ := hr.at_ hn
  have HC := Lib.hid (fun (j : Nat) (h : j < L.length) => (by
    have := hr.cells ⟨b, off, none⟩ rfl j _ (natL_get h)
    rwa [add_spot] at this : w.cell? ⟨b, off + j, none⟩ = some (.int .i64 ((L.getD j 0 : Nat) : Int))))
  have HI := Lib.hid (fun (j : Nat) (h : j < L.length) hx => numZ_idx (L := L) (x := x) (j := j) hs h hx)
  have HN := Lib.hid (fun h => numZ_none (L := L) (x := x) h)
  clear hr hs hb
  go_enter Try.func25, Try.ntmps25
  go_wp2_with fail
  generalize hN : L.length = n at *
  have HL := Lib.hid hN
  clear hN
  go_loopw [5] (fun i wr => ∃ j : Nat, j ≤ n ∧ i = .int .i64 j ∧ wr = w ∧ ∀ k, k < j → ((L.getD k 0 : Nat) : Int) ≠ x) (fun i _ => n - (intOf i).toNat)
  case atStart => exact ⟨0, Nat.zero_le _, rfl, rfl, fun k hk => absurd hk (Nat.not_lt_zero _)⟩
  case round =>
    obtain ⟨j, hj, rfl, rfl, hT⟩ := hrel
    have HT := Lib.hid hT
    clear hT
    by_cases hlt : j < n
    · have c0 := HC.out j hlt
      have k0 : (0 : Int) ≤ j := by omega
      have k1 : (j : Int) < n := by omega
      have HJ := Lib.hid (HI.out j hlt)
      generalize hy : ((L.getD j 0 : Nat) : Int) = y at *
      have HYY := Lib.hid hy
      clear hy
      by_cases hyx : y = x
      · have hres := Lib.hid (HJ.out hyx)
        subst hyx
        go_wp2_with fail
        go_ret
        exact ⟨ret_int hres.out.symm, rfl⟩
      · have hb2 : (y == x) = false := by simpa using hyx
        have hnx := Lib.hid (show ∀ k, k < j + 1 → ((L.getD k 0 : Nat) : Int) ≠ x from fun k hk => by
          by_cases hkj : k = j
          · subst hkj; rw [HYY.out]; exact hyx
          · exact HT.out k (by omega))
        clear hyx
        go_wp2_with fail
        go_roundw
        case rel => exact ⟨j + 1, by omega, by go_num, by first | rfl | trivial, hnx.out⟩
        case measure => simp [intOf]; omega
    · have hres := Lib.hid (HN.out (fun k hk => HT.out k (by omega)))
      go_wp2_with fail
      go_ret
      exact ⟨ret_int hres.out.symm, rfl⟩
end Go.Proofs.Ytajiifplkfjnjaa.Words

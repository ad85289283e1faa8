/- Contract of package image's readCode. -/
import Derived.Test.YthnimeibjannpaaImgRead1
namespace Go.Proofs.Ythnimeibjannpaa.Words
open Go.RowKit
set_option linter.unusedVariables false

theorem made_ins (m : Nat) : (madeCells #[.int .i64 0, .int .i64 0, .int .i64 0, .int .i64 0, .int .i64 0] m).toList = List.replicate m (.int .i64 0) := by
  apply List.ext_getElem?
  intro j
  by_cases hj : j < m
  · have h5 : j % 5 < 5 := Nat.mod_lt _ (by omega)
    have : j % 5 = 0 ∨ j % 5 = 1 ∨ j % 5 = 2 ∨ j % 5 = 3 ∨ j % 5 = 4 := by omega
    rcases this with h | h | h | h | h <;> simp [madeCells, hj, h]
  · simp [madeCells, hj]
theorem noIns_cells (m : Nat) : List.replicate (m * 5) (Value.int .i64 0) = codeCells (List.replicate m ⟨0, 0, 0, 0, 0⟩) := by
  induction m with
  | zero => rfl
  | succ m ih =>
    rw [show (m + 1) * 5 = m * 5 + 1 + 1 + 1 + 1 + 1 by omega, List.replicate_succ, List.replicate_succ, List.replicate_succ, List.replicate_succ, List.replicate_succ, ih, List.replicate_succ, codeCells_cons]; rfl
theorem code_set (l : List Ins) (x i : Ins) (r : List Ins) (k : Nat) (hk : l.length = k) :
    (((((codeCells (l ++ x :: r)).set (k * 5) (.int .i64 i.op)).set (k * 5 + 1) (.int .i64 i.d)).set (k * 5 + 2) (.int .i64 i.a)).set (k * 5 + 3) (.int .i64 i.b)).set (k * 5 + 4) (.int .i64 i.imm) = codeCells (l ++ i :: r) := by
  have hl : (codeCells l).length = k * 5 := by rw [codeCells_length, hk]
  simp [codeCells_append, codeCells_cons, insCells, hl]
/-- An instruction stored in a row of the call's own. -/
theorem own_set {w : World} {base : Nat} {g n cap : Nat} {l : List Ins} {x : Ins} {r : List Ins} (i : Ins) (k : Nat) (hk : l.length = k)
    (h : w.ownsRow base 41 5 (.slice (some ⟨g, 0, none⟩) n cap) n (codeCells (l ++ x :: r))) :
    (((((w.setCell ⟨g, k * 5, none⟩ (.int .i64 i.op)).setCell ⟨g, k * 5 + 1, none⟩ (.int .i64 i.d)).setCell ⟨g, k * 5 + 2, none⟩ (.int .i64 i.a)).setCell ⟨g, k * 5 + 3, none⟩ (.int .i64 i.b)).setCell ⟨g, k * 5 + 4, none⟩ (.int .i64 i.imm)).ownsRow base 41 5 (.slice (some ⟨g, 0, none⟩) n cap) n (codeCells (l ++ i :: r)) := by
  have h1 := (h.stored (k * 5) (.int .i64 i.op)).1
  have h2 := (h1.stored (k * 5 + 1) (.int .i64 i.d)).1
  have h3 := (h2.stored (k * 5 + 2) (.int .i64 i.a)).1
  have h4 := (h3.stored (k * 5 + 3) (.int .i64 i.b)).1
  have h5 := (h4.stored (k * 5 + 4) (.int .i64 i.imm)).1
  rw [code_set l x i r k hk] at h5
  exact h5

/-- What readCode answers. -/
def codeR (zs : List Int) (n : Nat) : List Ins := if decodedTo zs n = true then codeTo zs n else []
/-- What holds ahead of each round: j instructions are stored. -/
structure RoundC (zs : List Int) (w wr : World) (g n j : Nat) : Prop where
  below : Below w.heap.size w wr
  own : wr.ownsRow w.heap.size 41 5 (.slice (some ⟨g, 0, none⟩) n n) n (codeCells (codeTo zs j ++ List.replicate (n - j) ⟨0, 0, 0, 0, 0⟩))
  done : decodedTo zs j = true
theorem repl_step {n j : Nat} (h : j < n) : List.replicate (n - j) (⟨0, 0, 0, 0, 0⟩ : Ins) = ⟨0, 0, 0, 0, 0⟩ :: List.replicate (n - (j + 1)) ⟨0, 0, 0, 0, 0⟩ := by
  rw [show n - j = (n - (j + 1)) + 1 by omega, List.replicate_succ]

set_option maxHeartbeats 400000 in
theorem readCode_any (A : Option Addr) (c n : Nat) (zs : List Int) (w : World) (h : Row w w.heap.size 1 (.slice A zs.length c) zs.length (zs.map (Value.int .u8))) (hz : ∀ x ∈ zs, 0 ≤ x ∧ x ≤ 255) (hl : 16 + 4 * n ≤ zs.length) (hn : n ≤ 2000) :
    Calls Try.prog 23 #[.slice A zs.length c, .int .i64 n] w fun e w' => ∃ v, e = .returned (.tuple #[v, .bool (decodedTo zs n)]) ∧ w'.ownsRow w.heap.size 41 5 v (codeR zs n).length (codeCells (codeR zs n)) ∧ Below w.heap.size w w' := by
  obtain ⟨i1, hi', hz0', hz1', hz2'⟩ := info_parts info_ins
  have HZ2' := Lib.hid hz2'
  clear hz2'
  obtain ⟨u1, u2⟩ := h.cap
  have HZ := Lib.hid hz
  have HG := Lib.hid (fun (j : Nat) (hj : j < n) => (show getR zs (16 + (j : Int) * 4) = (wordAt zs (16 + 4 * j), true) by
    rw [show (16 + (j : Int) * 4) = ((16 + 4 * j : Nat) : Int) by omega]; exact getR_yes (by omega)))
  have HWd := Lib.hid (fun (j : Nat) => wordAt_range hz (16 + 4 * j))
  have HRow := Lib.hid (fun (x : World) (hb : Below w.heap.size w x) => h.below hb)
  clear hz
  go_enter Try.func23, Try.ntmps23
  go_wp2_with (refine wpList_make_full _ rfl (.tmp 12) (.tmp 12) 22 rfl w.heap.size 41 i1 (.agg #[.int .i64 0, .int .i64 0, .int .i64 0, .int .i64 0, .int .i64 0]) 5 Try.underlying22 hi' hz0' hz1' .i64 .i64 n n n rfl rfl rfl rfl (by rw [HZ2'.out]; omega) (by unfold maxLen; omega) (Nat.le_refl _) ?_; intro w1 hown1 hg1)
  have hown : w1.ownsRow w.heap.size 41 5 (.slice (some ⟨w.heap.size, 0, none⟩) n n) n (codeCells (codeTo zs 0 ++ List.replicate (n - 0) ⟨0, 0, 0, 0, 0⟩)) := by
    rw [show codeTo zs 0 = [] from rfl, List.nil_append, Nat.sub_zero, ← noIns_cells, ← made_ins]; exact hown1
  have hb1 : Below w.heap.size w w1 := Below.grown (Below.refl _ _) hg1 (Nat.le_refl _) (fun k hk => nomatch hk)
  have hP : RoundC zs w w1 w.heap.size n 0 := ⟨hb1, hown, rfl⟩
  clear hown1 hg1 hown hb1 h
  go_loopw [16] (fun i wr => ∃ j : Nat, j ≤ n ∧ i = .int .i64 j ∧ RoundC zs w wr w.heap.size n j) (fun i _ => n - (intOf i).toNat)
  case atStart => exact ⟨0, Nat.zero_le _, rfl, hP⟩
  case round =>
    obtain ⟨j, hj, rfl, hK⟩ := hrel
    by_cases hlt : j < n
    · have j0 : (0 : Int) ≤ j := by omega
      have j1 : (j : Int) < n := by omega
      have hg := Lib.hid (HG.out j hlt)
      have hw := HWd.out j
      have hrow := HRow.out _ hK.below
      go_wp2_with fail
      refine (get_row hrow HZ.out (16 + (j : Int) * 4)).mono ?_; rintro e x1 ⟨rfl, k4, rfl⟩
      rw [hg.out]
      try dsimp only
      go_wp2_with fail
      refine (decode_any (wordAt zs (16 + 4 * j)) _ hw.1 hw.2).mono ?_; rintro e x2 ⟨rfl, hb2⟩
      have hB2 : Below w.heap.size w x2 := (Below.drewN_ hK.below k4).trans (hb2.mono hK.below.size)
      have hO2 := own_below (w := wr.drewN k4) hK.own hb2
      have hdone := Lib.hid hK.done
      have hsz : w.heap.size < x2.heap.size := by have := (hO2.lt _ rfl).2; exact this
      clear hb2 hK hrow
      cases hd : decB (wordAt zs (16 + 4 * j))
      · have hres := Lib.hid (decoded_down hd hlt)
        rw [decZ_no hd]
        dsimp only [noIns]
        go_wp2_with fail
        refine bodyPost_ret (v := .tuple #[.slice none 0 0, .bool false]) (by simp [results, Try.results23, go_sem]; done) rfl ⟨_, by rw [hres.out], ?_, hB2.alloc (by omega) _⟩
        unfold codeR
        rw [if_neg (by rw [hres.out]; simp)]
        exact World.ownsRow_nil _ _ _ _
      · have hins : decZ (wordAt zs (16 + 4 * j)) = insAt zs j := decZ_yes hd
        rw [hins]
        have hdone2 := Lib.hid (show decodedTo zs (j + 1) = true by rw [decodedTo_succ, hdone.out]; exact hd)
        have hsucc := Lib.hid (codeTo_succ zs j)
        clear hins
        generalize insAt zs j = i at *
        have hxl : (codeTo zs j ++ List.replicate (n - j) (⟨0, 0, 0, 0, 0⟩ : Ins))[j]? = some ⟨0, 0, 0, 0, 0⟩ := by
          rw [List.getElem?_append_right (by rw [codeTo_len]; omega), codeTo_len, Nat.sub_self, List.getElem?_replicate, if_pos (by omega)]
        have hrow := Row.of_own hO2
        obtain ⟨q0, q1, q2, q3, q4⟩ := hrow.ins hxl
        simp only [Nat.zero_add] at q0 q1 q2 q3 q4
        have g0 := hO2.frozenAt (j * 5)
        have g1 := hO2.frozenAt (j * 5 + 1)
        have g2 := hO2.frozenAt (j * 5 + 2)
        have g3 := hO2.frozenAt (j * 5 + 3)
        have g4 := hO2.frozenAt (j * 5 + 4)
        rw [repl_step hlt] at hO2
        have hO3 := own_set i j (codeTo_len zs j) hO2
        have HX := Lib.hid hO3
        clear hrow hxl hO2 hd hO3
        go_wp2_with fail
        go_roundw
        case rel =>
          refine ⟨j + 1, by omega, by go_num, ⟨?_, ?_, hdone2.out⟩⟩
          · exact Below.alloc (((((hB2.setCell (by simp) _).setCell (by simp) _).setCell (by simp) _).setCell (by simp) _).setCell (by simp) _) (by simp; omega) _
          · rw [hsucc.out, List.append_assoc]
            exact HX.out.alloc _
        case measure => simp [intOf]; omega
    · have hjn : j = n := by omega
      subst hjn
      have hO := hK.own
      have hB := hK.below
      have hdone := Lib.hid hK.done
      clear hK
      go_wp2_with fail
      refine bodyPost_ret (v := .tuple #[.slice (some ⟨w.heap.size, 0, none⟩) j j, .bool true]) (by simp [results, Try.results23, go_sem]; done) rfl ⟨_, by rw [hdone.out], ?_, hB⟩
      unfold codeR
      rw [if_pos hdone.out, codeTo_len]
      rw [Nat.sub_self, List.replicate_zero, List.append_nil] at hO
      exact hO
end Go.Proofs.Ythnimeibjannpaa.Words

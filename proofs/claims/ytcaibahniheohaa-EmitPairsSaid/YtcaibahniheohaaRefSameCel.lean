/- Contract of the document's own SameCells: are two lists of cells one? -/
import Derived.Test.YtcaibahniheohaaRows
import Derived.Test.YtcaibahniheohaaCelData
import Derived.Test.YtcaibahniheohaaKept
import Derived.LoopTactic
import Derived.LoopN
namespace Go.Proofs.Ytcaibahniheohaa.Words
set_option maxRecDepth 100000
open Go.RowKit
set_option linter.unusedVariables false

theorem eqFields_cel (i k : Cel) (w : World) : (Op.equalIn 10000 36 (celV i) (celV k)).run Try.prog w = .ok (decide (i = k)) w := by
  have hS : Try.prog.underlying 36 = some (.struct (Try.prog.fieldsOf 36)) := by kernel_rfl
  have hp : Try.prog.stoodInHeld 36 = false := by kernel_rfl
  unfold celV
  rw [show (10000 : Nat) = 9999 + 1 from rfl, run_equalIn_agg w 9999 36 _ _ hS hp]
  simp only [Program.fieldsOf, Try.underlying36]
  go_simp
  by_cases h : i = k
  · subst h; simp
  · rw [decide_eq_false h]
    repeat' split
    all_goals first | rfl | (exact absurd ((Cel.eq_iff i k).2 ⟨by assumption, by assumption, by assumption, by assumption, by assumption, by assumption, by assumption, by assumption, by assumption⟩) h)
theorem neq_cel (i k : Cel) (w : World) : (binOp .neq 36 (celV i) (celV k)).run Try.prog w = .ok (.bool (!decide (i = k))) w := by
  unfold celV
  rw [run_neq_struct]
  have := eqFields_cel i k w
  unfold celV at this
  rw [this]; rfl
theorem drop_eqG {α : Type} {l m : List α} {j : Nat} {x y : α} (hx : l[j]? = some x) (hy : m[j]? = some y) : (l.drop j = m.drop j) ↔ (x = y ∧ l.drop (j + 1) = m.drop (j + 1)) := by
  obtain ⟨h1, rfl⟩ := List.getElem?_eq_some_iff.1 hx
  obtain ⟨h2, rfl⟩ := List.getElem?_eq_some_iff.1 hy
  rw [List.drop_eq_getElem_cons h1, List.drop_eq_getElem_cons h2, List.cons.injEq]
theorem at_someG {α : Type} {l : List α} {j : Nat} (h : j < l.length) : ∃ i, l[j]? = some i := ⟨_, List.getElem?_eq_getElem h⟩

set_option maxHeartbeats 2000000 in
theorem refSameCells_any (A1 A2 : Option Addr) (n1 n2 c1 c2 : Nat) (l1 l2 : List Cel) (w : World) (e1 : l1.length = n1) (e2 : l2.length = n2)
    (h1 : Row w w.heap.size 9 (.slice A1 n1 c1) n1 (flat celCells l1)) (h2 : Row w w.heap.size 9 (.slice A2 n2 c2) n2 (flat celCells l2)) :
    Calls Try.prog 9 #[.slice A1 n1 c1, .slice A2 n2 c2] w fun e w' => e = .returned (.bool (decide (l1 = l2))) ∧ ∃ q, w' = w.drewN q := by
  obtain ⟨u1, u2⟩ := h1.cap
  obtain ⟨u5, u6⟩ := h2.cap
  by_cases hn : n1 = n2
  rotate_left
  · rw [decide_eq_false (fun h => hn (by rw [← e1, ← e2, h]))]
    have hb : ((n1 : Int) != n2) = true := by simp; omega
    clear h1 h2 e1 e2
    go_enter Try.func9, Try.ntmps9
    go_wp2_with fail
    go_ret
    exact ⟨rfl, 0, rfl⟩
  subst hn
  have E1 := Lib.hid e1
  have E2 := Lib.hid e2
  by_cases h0 : n1 = 0
  · have z1 : l1 = [] := List.eq_nil_of_length_eq_zero (by omega)
    have z2 : l2 = [] := List.eq_nil_of_length_eq_zero (by omega)
    subst h0 z1 z2
    clear h1 h2 e1 e2
    go_enter Try.func9, Try.ntmps9
    go_wp2_with fail
    refine wp_loop_rounds 1 ?_
    rw [rounds_succ]
    go_wp2_with fail
    go_ret
    exact ⟨rfl, 0, rfl⟩
  obtain ⟨b1, o1, rfl, hb1, _⟩ := h1.at_ h0
  obtain ⟨b2, o2, rfl, hb2, _⟩ := h2.at_ h0
  have HC1 := Lib.hid (fun (k : Nat) (i : Cel) (hi : l1[k]? = some i) => h1.cel hi)
  have HC2 := Lib.hid (fun (k : Nat) (i : Cel) (hi : l2[k]? = some i) => h2.cel hi)
  have HA1 := Lib.hid (fun j (h : j < n1) => at_someG (l := l1) (j := j) (by omega))
  have HA2 := Lib.hid (fun j (h : j < n1) => at_someG (l := l2) (j := j) (by omega))
  have HS := Lib.hid (fun (j : Nat) (x y : Cel) (hx : l1[j]? = some x) (hy : l2[j]? = some y) => drop_eqG hx hy)
  have HE1 := Lib.hid (fun (k : Nat) (h : n1 ≤ k) => (show l1.drop k = [] from List.drop_eq_nil_of_le (by omega)))
  have HE2 := Lib.hid (fun (k : Nat) (h : n1 ≤ k) => (show l2.drop k = [] from List.drop_eq_nil_of_le (by omega)))
  have H0 := Lib.hid (show (l1 = l2) ↔ (l1.drop 0 = l2.drop 0) by rw [List.drop_zero, List.drop_zero])
  clear h1 h2 e1 e2
  go_enter Try.func9, Try.ntmps9
  go_wp2_with fail
  go_loopw [5] (fun i wr => ∃ j m : Nat, j ≤ n1 ∧ i = .int .i64 j ∧ wr = w.drewN m ∧ ((l1 = l2) ↔ (l1.drop j = l2.drop j))) (fun i _ => n1 - (intOf i).toNat)
  case atStart => exact ⟨0, 0, Nat.zero_le _, rfl, rfl, H0.out⟩
  case round =>
    obtain ⟨j, m, hj, rfl, rfl, hT⟩ := hrel
    have HT := Lib.hid hT
    clear hT
    by_cases hlt : j < n1
    · obtain ⟨x, hx⟩ := HA1.out j hlt
      obtain ⟨y, hy⟩ := HA2.out j hlt
      have hs := Lib.hid (HS.out j x y hx hy)
      obtain ⟨a0, a1, a2, a3, a4, a5, a6, a7, a8⟩ := HC1.out j x hx
      obtain ⟨b0, b1', b2', b3, b4, b5, b6, b7, b8⟩ := HC2.out j y hy
      have k0 : (0 : Int) ≤ j := by omega
      have k1 : (j : Int) < n1 := by omega
      clear hx hy
      have q := neq_cel x y
      unfold celV at q
      by_cases hxy : x = y
      · subst hxy
        have hd : decide (x = x) = true := by simp
        rw [hd] at q
        have hres := Lib.hid (show (l1 = l2) ↔ (l1.drop (j + 1) = l2.drop (j + 1)) by rw [HT.out, hs.out]; simp)
        clear hd
        go_wp2_with fail
        go_quiet (fail)
        go_wp2_with fail
        go_roundw
        case rel => exact ⟨j + 1, _, by omega, by go_num, rfl, hres.out⟩
        case measure => simp [intOf]; omega
      · have hd : decide (x = y) = false := by simpa using hxy
        rw [hd] at q
        have hres := Lib.hid (show decide (l1 = l2) = false by rw [decide_eq_false_iff_not, HT.out, hs.out]; exact fun h => hxy h.1)
        clear hd hxy
        go_wp2_with fail
        go_quiet (fail)
        go_wp2_with fail
        go_ret
        exact ⟨ret_bool hres.out.symm, _, by rw [World.drewN_drewN]⟩
    · have hres := Lib.hid (show decide (l1 = l2) = true by rw [decide_eq_true_iff, HT.out, HE1.out j (by omega), HE2.out j (by omega)])
      go_wp2_with fail
      go_ret
      exact ⟨ret_bool hres.out.symm, m, rfl⟩
end Go.Proofs.Ytcaibahniheohaa.Words

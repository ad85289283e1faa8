/- A cycle of memory leaves a state whose lists are no longer, but for the writes. Plain mathematics. -/
import Derived.Test.YthhoigkmmlkfcaaG09
namespace Go.Proofs.Ythhoigkmmlkfcaa.Words
set_option maxRecDepth 100000
open Go.RowKit
set_option linter.unusedVariables false
theorem begin_same (c : Cfg) (lats picks : List Int) (p : Sta × List Rqs) (b : Nat) : ∃ m n, (beginZ c lats picks p b).1 = { p.1 with lats := m, picks := n } := by
  unfold beginZ
  dsimp only
  split
  · exact ⟨p.1.lats, p.1.picks, rfl⟩
  · split
    · exact ⟨_, _, rfl⟩
    · exact ⟨_, p.1.picks, rfl⟩
theorem begins_same (c : Cfg) (lats picks : List Int) (p : Sta × List Rqs) : ∀ b, ∃ m n, (beginsZ c lats picks p b).1 = { p.1 with lats := m, picks := n }
  | 0 => ⟨p.1.lats, p.1.picks, rfl⟩
  | b + 1 => by
    obtain ⟨m, n, h⟩ := begins_same c lats picks p b
    obtain ⟨m', n', h'⟩ := begin_same c lats picks (beginsZ c lats picks p b) b
    refine ⟨m', n', ?_⟩
    show (beginZ c lats picks (beginsZ c lats picks p b) b).1 = _
    rw [h', h]
theorem advance_lim {c : Cfg} {lats picks : List Int} {x : Sta} (h : StaLim 0 x) : StaLim x.table.length (advanceZ c lats picks x) ∧ (advanceZ c lats picks x).table.length ≤ x.table.length := by
  unfold advanceZ
  split
  · obtain ⟨h1, h2⟩ := ticks_lim (l := x.table) h x.table.length
    have h3 := ticks_len x x.table x.table.length
    rw [List.take_length] at h1 h2 h3
    obtain ⟨m, n, h4⟩ := begins_same c lats picks (ticksZ x x.table) c.banks.toNat
    have h5 := begins_len c lats picks (ticksZ x x.table) c.banks.toNat
    dsimp only
    rw [h4]
    refine ⟨⟨h1.ldq, h1.sdq, h1.aeq, h1.abq, h1.ebq, h1.saq, ?_, h1.mem, h1.ws, h1.bytes, ⟨h1.ok.a, h1.ok.e⟩⟩, by rw [h5]; exact h3⟩
    have := h.table
    show (beginsZ c lats picks (ticksZ x x.table) c.banks.toNat).2.length ≤ 100000
    omega
  · exact ⟨h.more (Nat.zero_le _), Nat.le_refl _⟩
theorem advance_num {c : Cfg} {lats picks : List Int} {x : Sta} (h : NumOk x) : NumOk (advanceZ c lats picks x) := by
  unfold advanceZ
  split
  · exact begins_num (ticks_num x.table h) _
  · exact h
theorem advance_fits {c : Cfg} {lats picks : List Int} {x : Sta} (h : ∀ q ∈ x.table, q.Fits) : ∀ q ∈ (advanceZ c lats picks x).table, q.Fits := by
  unfold advanceZ
  split
  · rename_i hr
    have hl : c.lat ≤ 1000 := by
      unfold runsB withinB at hr
      simp only [Bool.and_eq_true, decide_eq_true_eq] at hr
      omega
    exact begins_fits hl (ticks_fits h) _
  · exact h
theorem done_cycle (x : Sta) (q : Rqs) : (doneZ x q).cycle = x.cycle := by
  unfold doneZ
  repeat' split
  all_goals rfl
theorem ticks_cycle : ∀ (l : List Rqs) (p : Sta × List Rqs), (l.foldl tickZ p).1.cycle = p.1.cycle
  | [], p => rfl
  | q :: l, p => by
    rw [List.foldl_cons, ticks_cycle l]
    unfold tickZ
    split
    · split
      · exact done_cycle _ _
      · rfl
    · rfl
theorem adv_cycle (c : Cfg) (lats picks : List Int) (x : Sta) : (advanceZ c lats picks x).cycle = x.cycle := by
  unfold advanceZ
  split
  · obtain ⟨m, n, h4⟩ := begins_same c lats picks (ticksZ x x.table) c.banks.toNat
    dsimp only
    rw [h4]
    exact ticks_cycle x.table (x, [])
  · rfl
end Go.Proofs.Ythhoigkmmlkfcaa.Words

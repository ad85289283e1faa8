/- The law's own helper 'alive' of chapter 10. -/
import Derived.Test.YtajiifplkfjnjaaBlkCut
namespace Go.Proofs.Ytajiifplkfjnjaa.Words
set_option maxRecDepth 100000
open Go.RowKit
set_option linter.unusedVariables false

theorem ten_cut : cutR [⟨34, 0, 0, 0, 1⟩, ⟨41, 0, 0, 0, 0⟩] 0 0 = [⟨0, 1, 1, 1⟩, ⟨1, 2, -1, -1⟩] := by decide
theorem ten_nil : cutR [] 0 0 = [] := by decide
theorem ten_halt : leadsR [⟨41, 0, 0, 0, 0⟩] 0 0 = [0] := by decide
theorem row_code (w : World) (l : List Ins) (t : TypeId) (cs : Array Value) (n : Nat) (h : cs.toList = codeCells l) (hn : l.length = n) (hm : n ≤ 9223372036854775807) : Row (w.alloc (.cells cs t)) (w.heap.size + 1) 5 (.slice (some ⟨w.heap.size, 0, none⟩) n n) n (codeCells l) := by
  refine ⟨by rw [codeCells_length, hn], _, _, rfl, Nat.le_refl _, hm, (fun h => by cases h), fun _ => ⟨w.heap.size, 0, rfl, Nat.lt_succ_self _, fun j u hu => ?_⟩⟩
  have := new_cells w cs t _ h j u hu
  rwa [add_spot] at this

set_option maxHeartbeats 1000000 in
theorem alive10_any (w : World) :
    Calls Try.prog 7 #[] w fun e w' => e = .returned (.bool true) ∧ Below w.heap.size w w' := by
  have k0 := Kept.refl w
  have HR1 := Lib.hid (fun (x : World) => row_code x [⟨34, 0, 0, 0, 1⟩, ⟨41, 0, 0, 0, 0⟩] 41 #[.int .i64 34, .int .i64 0, .int .i64 0, .int .i64 0, .int .i64 1, .int .i64 41, .int .i64 0, .int .i64 0, .int .i64 0, .int .i64 0] 2 rfl rfl (by omega))
  have HR2 := Lib.hid (fun (x : World) => row_code x [⟨41, 0, 0, 0, 0⟩] 41 #[.int .i64 41, .int .i64 0, .int .i64 0, .int .i64 0, .int .i64 0] 1 rfl rfl (by omega))
  go_enter Try.func7, Try.ntmps7
  go_wp2_with fail
  have hr1 := HR1.out w
  have hz : (w.alloc (.cells #[.int .i64 34, .int .i64 0, .int .i64 0, .int .i64 0, .int .i64 1, .int .i64 41, .int .i64 0, .int .i64 0, .int .i64 0, .int .i64 0] 41)).heap.size = w.heap.size + 1 := by simp
  rw [← hz] at hr1
  refine (blkCut_any (some ⟨w.heap.size, 0, none⟩) 2 0 none 0 0 [⟨34, 0, 0, 0, 1⟩, ⟨41, 0, 0, 0, 0⟩] _ hr1 (by omega) (by omega)).mono ?_; rintro e w1 ⟨v, rfl, hown, hb1⟩
  rw [ten_cut] at hown
  obtain ⟨g, cp, rfl, hg0, hg1⟩ := own_form hown (by decide)
  have k1 : Kept w w1 := (k0.alloc _).to hb1
  have hrow := Row.of_own hown
  have u0 : w1.cell? ⟨g, 2, none⟩ = some (.int .i64 1) := hrow.flat_cell blkL_len (k := 0) (j := 2) rfl (by omega) rfl
  have u1 : w1.cell? ⟨g, 3, none⟩ = some (.int .i64 1) := hrow.flat_cell blkL_len (k := 0) (j := 3) rfl (by omega) rfl
  have u2 : w1.cell? ⟨g, 0 + 1 * 6 + 2, none⟩ = some (.int .i64 (-1)) := hrow.flat_cell blkL_len (k := 1) (j := 2) rfl (by omega) rfl
  have hgz : g < w1.heap.size := hg1
  clear hown hrow hr1 hb1 hz
  go_wp2_with fail
  refine (blkCut_any none 0 0 none 0 0 [] _ (Row.nil _ _ _) (by omega) (by omega)).mono ?_; rintro e w2 ⟨v2, rfl, hown2, hb2⟩
  rw [ten_nil] at hown2
  obtain ⟨A2, c2, rfl⟩ := (Row.of_own hown2).form
  have k2 := k1.to hb2
  have u0 := below_cell hb2 hgz u0
  have u1 := below_cell hb2 hgz u1
  have u2 := below_cell hb2 hgz u2
  clear hown2 hb2 
  try dsimp only [List.length_nil]
  go_wp2_with fail
  have hr2 := HR2.out w2
  have hz : (w2.alloc (.cells #[.int .i64 41, .int .i64 0, .int .i64 0, .int .i64 0, .int .i64 0] 41)).heap.size = w2.heap.size + 1 := by simp
  rw [← hz] at hr2
  refine (blkLeaders_any (some ⟨w2.heap.size, 0, none⟩) 1 0 none 0 0 [⟨41, 0, 0, 0, 0⟩] _ hr2 (by omega) (by omega)).mono ?_; rintro e w3 ⟨v3, rfl, hown3, hb3⟩
  rw [ten_halt] at hown3
  obtain ⟨A3, c3, rfl⟩ := (Row.of_own hown3).form
  have k3 := (k2.alloc _).to hb3
  clear hown3 hb3
  try dsimp only [List.length_cons, List.length_nil]
  go_wp2_with fail
  go_ret
  exact ⟨rfl, k3⟩
end Go.Proofs.Ytajiifplkfjnjaa.Words

/- Contract of the law's own helper 'kinds' of chapter 12; rows of rows of numbers that have just been made. -/
import Derived.Test.YtcaibahniheohaaEmtAlive
import Derived.LoopN
import Derived.Deep.QuietTactic
namespace Go.Proofs.Ytcaibahniheohaa.Words
set_option maxRecDepth 100000
open Go.RowKit
set_option linter.unusedVariables false
set_option linter.unusedSimpArgs false

set_option maxHeartbeats 2000000 in
theorem kinds_any (A1 A2 : Option Addr) (n1 n2 c1 c2 : Nat) (l : List Cel) (ks : List Int) (w : World) (e1 : l.length = n1) (e2 : n2 = n1) (hs : n1 ≤ 100) (hk : l.map Cel.kind = ks)
    (h1 : Row w w.heap.size 9 (.slice A1 n1 c1) n1 (flat celCells l)) (h2 : Row w w.heap.size 1 (.slice A2 n2 c2) n2 (ks.map (Value.int .i64))) :
    Calls Try.prog 15 #[.slice A1 n1 c1, .slice A2 n2 c2] w fun e w' => e = .returned (.bool true) ∧ Below w.heap.size w w' := by
  subst e2
  have E1 := Lib.hid e1
  have H1 := Lib.hid h1
  have H2 := Lib.hid h2
  have HK := Lib.hid hk
  clear h1 h2 e1 hk
  go_enter Try.func15, Try.ntmps15
  go_wp2_with fail
  go_loopw [5] (fun ii wr => ∃ j m : Nat, j ≤ n2 ∧ ii = .int .i64 j ∧ wr = w.drewN m) (fun ii _ => n2 - (intOf ii).toNat)
  case atStart => exact ⟨0, 0, Nat.zero_le _, rfl, rfl⟩
  case round =>
    obtain ⟨j, m, hj, rfl, rfl⟩ := hrel
    by_cases hlt : j < n2
    · have hl : j < l.length := by rw [E1.out]; exact hlt
      obtain ⟨x, hx⟩ := at_someG hl
      have hy : (ks.map (Value.int .i64))[j]? = some (.int .i64 x.kind) := by rw [← HK.out, List.map_map, List.getElem?_map, hx]; rfl
      obtain ⟨b1, o1, rfl, hb1, _⟩ := H1.out.at_ (by omega)
      obtain ⟨b2, o2, rfl, hb2, hc2⟩ := H2.out.at_ (by omega)
      obtain ⟨a0, a1, a2, a3, a4, a5, a6, a7, a8⟩ := H1.out.cel hx
      have d0 := hc2 j _ hy
      have k0 : (0 : Int) ≤ j := by omega
      have k1 : (j : Int) < n2 := by omega
      clear hx hy hl hc2 a1 a2 a3 a4 a5 a6 a7 a8
      go_wp2_with fail
      go_quiet (fail)
      go_wp2_with fail
      go_roundw
      case rel => exact ⟨j + 1, _, by omega, by go_num, rfl⟩
      case measure => simp only [intOf]; omega
    · go_wp2_with fail
      go_ret
      exact ⟨by first | rfl | trivial, Below.drewN_ (Below.refl _ _) _⟩

/-- Instructions in a new row. -/
theorem row_insN (w : World) (l : List Ins) (t : TypeId) (n : Nat) (hn : l.length = n) (hm : n ≤ 9223372036854775807) : Row (w.alloc (.cells (codeCells l).toArray t)) (w.alloc (.cells (codeCells l).toArray t)).heap.size 5 (.slice (some ⟨w.heap.size, 0, none⟩) n n) n (codeCells l) := by
  refine ⟨by rw [codeCells_length, hn], _, _, rfl, Nat.le_refl _, hm, (fun h => by cases h), fun _ => ⟨w.heap.size, 0, rfl, by simp, fun j u hu => ?_⟩⟩
  have := new_cells w (codeCells l).toArray t _ rfl j u hu
  rwa [add_spot] at this
/-- Rows of numbers, one behind the other in new blocks. -/
def allocI (w : World) : List (List Int) → World
  | [] => w
  | ks :: r => allocI (w.alloc (.cells (ks.map (Value.int .i64)).toArray 3)) r
def intsAt (B : Nat) : List (List Int) → List Value
  | [] => []
  | ks :: r => .slice (some ⟨B, 0, none⟩) ks.length ks.length :: intsAt (B + 1) r
theorem allocI_below (L : List (List Int)) : ∀ w : World, Below w.heap.size w (allocI w L) ∧ (allocI w L).heap.size = w.heap.size + L.length := by
  induction L with
  | nil => intro w; exact ⟨Below.refl _ _, rfl⟩
  | cons ks r ih =>
    intro w
    obtain ⟨h1, h2⟩ := ih (w.alloc (.cells (ks.map (Value.int .i64)).toArray 3))
    refine ⟨((Below.refl _ w).alloc (Nat.le_refl _) _).trans (h1.mono (by simp)), ?_⟩
    rw [allocI, h2]; simp; omega
theorem allocI_row (L : List (List Int)) : ∀ (w : World) (j : Nat) (ks : List Int), L[j]? = some ks → ks.length ≤ 100 →
    (intsAt w.heap.size L)[j]? = some (.slice (some ⟨w.heap.size + j, 0, none⟩) ks.length ks.length) ∧ Row (allocI w L) (allocI w L).heap.size 1 (.slice (some ⟨w.heap.size + j, 0, none⟩) ks.length ks.length) ks.length (ks.map (Value.int .i64)) := by
  induction L with
  | nil => intro w j ks h; simp at h
  | cons x r ih =>
    intro w j ks h hl
    obtain ⟨h1, h2⟩ := allocI_below r (w.alloc (.cells (x.map (Value.int .i64)).toArray 3))
    cases j with
    | zero =>
      simp at h; subst h
      refine ⟨rfl, ?_⟩
      rw [allocI]
      have hb := (Box.new w (x.map (Value.int .i64)) 3).below h1 (by simp)
      exact ⟨by simp, _, _, rfl, Nat.le_refl _, by omega, (fun h => by cases h), fun _ => ⟨w.heap.size, 0, rfl, hb.lt, fun j u hu => by rw [Nat.zero_add]; exact hb.cell hu⟩⟩
    | succ j =>
      simp at h
      have := ih (w.alloc (.cells (x.map (Value.int .i64)).toArray 3)) j ks h hl
      have e : (w.alloc (.cells (x.map (Value.int .i64)).toArray 3)).heap.size = w.heap.size + 1 := by simp
      rw [e, show w.heap.size + 1 + j = w.heap.size + (j + 1) by omega] at this
      exact this
end Go.Proofs.Ytcaibahniheohaa.Words

/- Contract of the law's own helper 'moved' of chapter 12: are cells others, but at another place? -/
import Derived.Test.YtcaibahniheohaaEmtAlive
import Derived.LoopN
import Derived.Deep.Cut
namespace Go.Proofs.Ytcaibahniheohaa.Words
set_option maxRecDepth 100000
open Go.RowKit
set_option linter.unusedVariables false
set_option linter.unusedSimpArgs false

/-- A cell elsewhere. -/
def atC (pc off : Int) (c : Cel) : Cel := { c with pc := pc, off := off }
theorem regsC_at (k pc off p f : Int) (l : List Int) : (regsC k pc off l).map (atC p f) = regsC k p f l := by
  unfold regsC; rw [List.map_map]; rfl
theorem emitA_at (z : List Int) (i : Ins) (pc off p f : Int) : (emitA z i pc off).map (atC p f) = emitA z i p f := by
  unfold emitA
  repeat' split
  all_goals (try simp only [List.map_append, regsC_at, List.map_cons, List.map_nil]); try rfl
theorem emitE_at (z : List Int) (i : Ins) (pc off p f : Int) : (emitE z i pc off).map (atC p f) = emitE z i p f := by
  unfold emitE
  repeat' split
  all_goals (try simp only [List.map_append, regsC_at, List.map_cons, List.map_nil]); try rfl

set_option maxHeartbeats 4000000 in
theorem moved_any (A1 A2 : Option Addr) (n1 n2 c1 c2 : Nat) (l1 : List Cel) (p f : Int) (w : World) (e1 : l1.length = n1) (e2 : n2 = n1) (hs : n1 ≤ 100)
    (h1 : Row w w.heap.size 9 (.slice A1 n1 c1) n1 (flat celCells l1)) (h2 : Row w w.heap.size 9 (.slice A2 n2 c2) n2 (flat celCells (l1.map (atC p f)))) :
    Calls Try.prog 14 #[.slice A1 n1 c1, .slice A2 n2 c2, .int .i64 p, .int .i64 f] w fun e w' => e = .returned (.bool true) ∧ Below w.heap.size w w' := by
  subst e2
  have E1 := Lib.hid e1
  have H1 := Lib.hid h1
  have H2 := Lib.hid h2
  clear h1 h2 e1
  go_enter Try.func14, Try.ntmps14
  go_wp2_with fail
  go_loopw [9] (fun ii wr => ∃ j : Nat, j ≤ n2 ∧ ii = .int .i64 j ∧ Below w.heap.size w wr) (fun ii _ => n2 - (intOf ii).toNat)
  case atStart => exact ⟨0, Nat.zero_le _, rfl, Below.refl _ _⟩
  case round =>
    obtain ⟨j, hj, rfl, hB⟩ := hrel
    have HB := Lib.hid hB
    have hz := hB.size
    clear hB
    by_cases hlt : j < n2
    · have hl : j < l1.length := by rw [E1.out]; exact hlt
      obtain ⟨x, hx⟩ := at_someG hl
      have hy : (l1.map (atC p f))[j]? = some (atC p f x) := by rw [List.getElem?_map, hx]; rfl
      have HR1 := Lib.hid (H1.out.below HB.out)
      have HR2 := Lib.hid (H2.out.below HB.out)
      obtain ⟨b1, o1, rfl, hb1, _⟩ := HR1.out.at_ (by omega)
      obtain ⟨b2, o2, rfl, hb2, _⟩ := HR2.out.at_ (by omega)
      obtain ⟨a0, a1, a2, a3, a4, a5, a6, a7, a8⟩ := HR1.out.cel hx
      have k0 : (0 : Int) ≤ j := by omega
      have k1 : (j : Int) < n2 := by omega
      clear hx hl
      obtain ⟨WD, hWD⟩ : ∃ WD, WD = wr.alloc (.cells (celCells (atC p f x)).toArray 36) := ⟨_, rfl⟩
      have HBX : Hid (Box WD wr.heap.size (celCells (atC p f x))) := by rw [hWD]; exact Box.new wr _ _
      have HBD : Hid (Below wr.heap.size wr WD) := by rw [hWD]; exact (Below.refl _ _).alloc (Nat.le_refl _) _
      go_upto_region 9 with (fail)
      change Code.wp _ _ _ _ (wr.alloc (.cells (celCells (atC p f x)).toArray 36))
      rw [← hWD]
      clear hWD a0 a1 a2 a3 a4 a5 a6 a7 a8
      have HRD := Lib.hid (HR2.out.below (HBD.out.mono hz))
      obtain ⟨a0, a1, a2, a3, a4, a5, a6, a7, a8⟩ := HRD.out.cel hy
      have d0 := HBX.out.cell (k := 0) rfl
      have d1 := HBX.out.cell (k := 1) rfl
      have d2 := HBX.out.cell (k := 2) rfl
      have d3 := HBX.out.cell (k := 3) rfl
      have d4 := HBX.out.cell (k := 4) rfl
      have d5 := HBX.out.cell (k := 5) rfl
      have d6 := HBX.out.cell (k := 6) rfl
      have d7 := HBX.out.cell (k := 7) rfl
      have d8 := HBX.out.cell (k := 8) rfl
      clear hy
      have HBE := Lib.hid (HB.out.trans (HBD.out.mono hz))
      have q := neq_cel (atC p f x) (atC p f x)
      rw [show decide (atC p f x = atC p f x) = true by simp] at q
      unfold celV at q
      generalize atC p f x = y at *
      go_wp2_with fail
      go_quiet (fail)
      go_wp2_with fail
      go_roundw
      case rel => exact ⟨j + 1, by omega, by go_num, Below.drewN_ HBE.out _⟩
      case measure => simp only [intOf]; omega
    · go_wp2_with fail
      go_ret
      exact ⟨by first | rfl | trivial, HB.out⟩
theorem regsC_le {k pc off : Int} {z l : List Int} {n : Nat} (h : l.length ≤ n) : (regsC k pc off (sentL z l)).length ≤ n := by
  rw [regsC_len]; exact Nat.le_trans (sent_len _ _) h
theorem emitA_len (z : List Int) (i : Ins) (pc off : Int) : (emitA z i pc off).length ≤ 100 := by
  have h1 := regsC_le (k := 5) (pc := pc) (off := off) (z := z) (reads_len i)
  have h2 := regsC_le (k := 5) (pc := pc) (off := off) (z := z) (l := [i.b]) (n := 1) (by simp)
  unfold emitA
  repeat' split
  all_goals (try simp only [List.length_append, List.length_cons, List.length_nil]); omega
theorem emitE_len (z : List Int) (i : Ins) (pc off : Int) : (emitE z i pc off).length ≤ 100 := by
  have h1 := regsC_le (k := 6) (pc := pc) (off := off) (z := z) (reads_len i)
  have h2 := regsC_le (k := 6) (pc := pc) (off := off) (z := z) (l := [i.b]) (n := 1) (by simp)
  unfold emitE
  repeat' split
  all_goals (try simp only [List.length_append, List.length_cons, List.length_nil]); omega
end Go.Proofs.Ytcaibahniheohaa.Words

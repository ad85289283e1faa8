/- The law's own helper Few of chapter 13: it answers, whatever it answers. -/
import Derived.Test.YtbibfpopkcekdaaG12
import Derived.Test.YtbibfpopkcekdaaG07
import Derived.LoopTactic
import Derived.LoopN
namespace Go.Proofs.Ytbibfpopkcekdaa.Words
set_option maxRecDepth 100000
open Go.RowKit
set_option linter.unusedVariables false
set_option linter.unusedSimpArgs false

def FewOut (w : World) (e : Ending) (w' : World) : Prop := (∃ b : Bool, e = .returned (.bool b)) ∧ Below w.heap.size w w'
set_option maxHeartbeats 2000000 in
theorem few13_any (A : Option Addr) (c : Nat) (l : List BlkC) (o : List Int) (w : World) (hv : BlksV w w.heap.size (.slice A l.length c) l) :
    Calls Try.prog 9 #[.agg (splV (.slice A l.length c) o).toArray] w (FewOut w) := by
  obtain ⟨W, hW⟩ : ∃ W, W = w.alloc (.cells (splV (.slice A l.length c) o).toArray 29) := ⟨_, rfl⟩
  have hb : Below w.heap.size w W := by rw [hW]; exact (Below.refl w.heap.size w).alloc (Nat.le_refl _) _
  have HB := Lib.hid hb
  have X1 : Hid (Box W w.heap.size (splV (.slice A l.length c) o)) := by rw [hW]; exact Box.new w _ _
  have u1 := hv.cap
  have V := Lib.hid ((hv.below hb).more hb.size)
  have HSp := Lib.hid (fun (h : l.length ≠ 0) => hv.spot h)
  have HA := Lib.hid (fun j (h : j < l.length) => at_someG (l := l) (j := j) h)
  clear hv hb
  go_enter Try.func9, Try.ntmps9
  go_upto_region 1 with (fail)
  change Code.wp _ _ _ _ (w.alloc (.cells (splV (.slice A l.length c) o).toArray 29))
  rw [← hW]
  clear hW
  generalize l.length = n at *
  go_wp2_with fail
  go_loopw [3, 4] (fun m i wr => ∃ (k : Nat) (z : Int), k ≤ n ∧ m = .int .i64 z ∧ i = .int .i64 k ∧ Kept W wr) (fun _ i _ => n - (intOf i).toNat)
  case atStart => exact ⟨0, 0, Nat.zero_le _, rfl, rfl, Kept.refl _⟩
  case round =>
    obtain ⟨k, z, hk, rfl, rfl, hK⟩ := hrel
    have HK := Lib.hid hK
    have s0 : wr.cell? ⟨w.heap.size, 0, none⟩ = some (.slice A n c) := (X1.out.kept hK).cell (k := 0) rfl
    clear hK
    by_cases hlt : k < n
    · obtain ⟨b, off, rfl⟩ := HSp.out (by omega)
      obtain ⟨x, hx⟩ := HA.out k hlt
      obtain ⟨A3, c3, A5, c5, _, _, _, _, a4, a5, _, _⟩ := ((V.out.below (w' := wr) HK.out).more HK.out.size).at_ hx
      have g0 : (0 : Int) ≤ k := by omega
      have g1 : (k : Int) < n := by omega
      clear hx
      by_cases hz : z < 10000
      · go_wp2_with fail
        go_quiet (fail)
        go_wp2_with fail
        go_roundw
        case rel => exact ⟨k + 1, _, by omega, rfl, by go_num, HK.out.drewN _⟩
        case measure => simp [intOf]; omega
      · go_wp2_with fail
        go_ret
        exact ⟨⟨_, rfl⟩, HB.out.trans (HK.out.mono HB.out.size)⟩
    · go_wp2_with fail
      go_ret
      exact ⟨⟨_, rfl⟩, HB.out.trans (HK.out.mono HB.out.size)⟩
end Go.Proofs.Ytbibfpopkcekdaa.Words

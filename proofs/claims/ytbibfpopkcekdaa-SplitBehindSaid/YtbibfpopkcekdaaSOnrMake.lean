/- Contracts of the laws' own helpers of chapter 11 that make owners. -/
import Derived.Test.YtbibfpopkcekdaaG11
namespace Go.Proofs.Ytbibfpopkcekdaa.Words
set_option maxRecDepth 100000
open Go.RowKit
set_option linter.unusedVariables false
set_option linter.unusedSimpArgs false

/-- By the bits of a number, from 1 on. -/
def bitP (pick : Int) (k : Nat) : Bool := bits BinOp.and IntKind.i64 (pick / 2 ^ k) 1 == 1
def pickO (pick : Int) (n : Nat) : List Int := funO fun j => if 1 ≤ j ∧ j < n then (if bitP pick j = true then 1 else 2) else 0
theorem pickO_1 (pick : Int) : pickO pick 1 = zeroO := by
  unfold pickO
  rw [show (fun j => if 1 ≤ j ∧ j < 1 then (if bitP pick j = true then 1 else 2) else 0) = (fun _ : Nat => (0 : Int)) from by funext j; rw [if_neg (by omega)]]
  decide
theorem pickO_set {pick : Int} {k : Nat} (h : 1 ≤ k) : (pickO pick k).set k (if bitP pick k = true then 1 else 2) = pickO pick (k + 1) := by
  unfold pickO
  rw [funO_set]
  refine funO_ext fun j hj => ?_
  by_cases e : j = k
  · subst e; rw [if_pos rfl, if_pos (show 1 ≤ j ∧ j < j + 1 from ⟨h, by omega⟩)]
  · rw [if_neg e]
    by_cases c : 1 ≤ j ∧ j < k
    · rw [if_pos c, if_pos (show 1 ≤ j ∧ j < k + 1 from ⟨c.1, by omega⟩)]
    · rw [if_neg c, if_neg (by omega)]
theorem set_twice (o : List Int) (k : Nat) (x y : Int) : (o.set k x).set k y = o.set k y := List.set_set ..
/-- What Owners makes. -/
def ownO (pick : Int) : List Int := pickO pick 16
theorem ownO_ok (pick : Int) : OkO (ownO pick) := funO_ok (by rw [if_neg (by omega)]) fun k h1 h2 => by
  rw [if_pos ⟨h1, by omega⟩]
  split <;> simp
theorem ownO_len (pick : Int) : (ownO pick).length = 16 := (ownO_ok pick).1
theorem ownO_all : ownO 65534 = allA := by decide +kernel

set_option maxHeartbeats 4000000 in
theorem owners_make (pick : Int) (w : World) (hp : -9223372036854775808 ≤ pick ∧ pick ≤ 9223372036854775807) :
    Calls Try.prog 18 #[.int .i64 pick] w fun e w' => e = .returned (.agg (oV (ownO pick)).toArray) ∧ Below w.heap.size w w' := by
  have HB0 : Hid (Box ((w.alloc (.cells (oV zeroO).toArray 26)).alloc (.cells (oV zeroO).toArray 26)) w.heap.size (oV zeroO)) := (Box.new w (oV zeroO) _).alloc _
  have HX0 : Hid (Box ((w.alloc (.cells (oV zeroO).toArray 26)).alloc (.cells (oV zeroO).toArray 26)) (w.heap.size + 1) (oV zeroO)) := by
    have := Box.new (w.alloc (.cells (oV zeroO).toArray 26)) (oV zeroO) 26
    have e : (w.alloc (.cells (oV zeroO).toArray 26)).heap.size = w.heap.size + 1 := by simp
    rw [e] at this
    exact this
  have HK0 : Hid (Below w.heap.size w ((w.alloc (.cells (oV zeroO).toArray 26)).alloc (.cells (oV zeroO).toArray 26))) := ((Below.refl w.heap.size w).alloc (Nat.le_refl _) _).alloc (by simp) _
  go_enter Try.func18, Try.ntmps18
  go_wp2_with fail
  change Code.wp _ _ _ _ ((w.alloc (.cells (oV zeroO).toArray 26)).alloc (.cells (oV zeroO).toArray 26))
  generalize (w.alloc (.cells (oV zeroO).toArray 26)).alloc (.cells (oV zeroO).toArray 26) = W at *
  rw [← pickO_1 pick] at HX0
  go_loopw [4] (fun ii wr => ∃ k : Nat, 1 ≤ k ∧ k ≤ 16 ∧ ii = .int .i64 k ∧ Box wr (w.heap.size + 1) (oV (pickO pick k)) ∧ Below (w.heap.size + 1) W wr) (fun ii _ => 16 - (intOf ii).toNat)
  case atStart => exact ⟨1, by omega, by omega, rfl, HX0.out, Below.refl _ _⟩
  case round =>
    obtain ⟨k, hk1, hk, rfl, hbx, hbl⟩ := hrel
    have HX := Lib.hid hbx
    have HKY := Lib.hid hbl
    clear hbx hbl
    by_cases hlt : k < 16
    · have f1 := HX.out.cell (oV_at (funO_len _) (n := k) (by omega))
      have f2 := HX.out.frozen k
      have hz := HX.out.lt
      have g0 : (0 : Int) ≤ k := by omega
      have g1 : (k : Int) < 16 := by omega
      have HST := Lib.hid (pickO_set (pick := pick) hk1)
      have HSB := Lib.hid (show bitP pick k = (bits BinOp.and IntKind.i64 (pick / 2 ^ k) 1 == 1) from rfl)
      cases hq : (bits BinOp.and IntKind.i64 (pick / 2 ^ k) 1 == 1)
      · have HE := Lib.hid (HST.out.symm.trans (congrArg (fun z => (pickO pick k).set k z) (if_neg (by rw [HSB.out, hq]; decide))))
        have HN : Hid (Box (wr.setCell ⟨w.heap.size + 1, k, none⟩ (.int .i64 2)) (w.heap.size + 1) (oV (pickO pick (k + 1)))) := by
          have := HX.out.setCell k (.int .i64 2)
          rw [oV_set] at this
          rw [HE.out]; exact this
        have HKN : Hid (Below (w.heap.size + 1) W (wr.setCell ⟨w.heap.size + 1, k, none⟩ (.int .i64 2))) := HKY.out.setCell (p := ⟨w.heap.size + 1, k, none⟩) (Nat.le_refl _) _
        go_wp2_with fail
        go_roundw
        case rel => exact ⟨k + 1, by omega, by omega, by go_num, HN.out, HKN.out⟩
        case measure => simp only [intOf]; omega
      · have HE := Lib.hid (HST.out.symm.trans (congrArg (fun z => (pickO pick k).set k z) (if_pos (by rw [HSB.out, hq]))))
        have HN : Hid (Box ((wr.setCell ⟨w.heap.size + 1, k, none⟩ (.int .i64 2)).setCell ⟨w.heap.size + 1, k, none⟩ (.int .i64 1)) (w.heap.size + 1) (oV (pickO pick (k + 1)))) := by
          have := (HX.out.setCell k (.int .i64 2)).setCell k (.int .i64 1)
          rw [oV_set, oV_set, set_twice] at this
          rw [HE.out]; exact this
        have HKN : Hid (Below (w.heap.size + 1) W ((wr.setCell ⟨w.heap.size + 1, k, none⟩ (.int .i64 2)).setCell ⟨w.heap.size + 1, k, none⟩ (.int .i64 1))) := (HKY.out.setCell (p := ⟨w.heap.size + 1, k, none⟩) (Nat.le_refl _) _).setCell (p := ⟨w.heap.size + 1, k, none⟩) (Nat.le_refl _) _
        go_wp2_with fail
        go_roundw
        case rel => exact ⟨k + 1, by omega, by omega, by go_num, HN.out, HKN.out⟩
        case measure => simp only [intOf]; omega
    · have HE : Hid (Box wr (w.heap.size + 1) (oV (ownO pick))) := by unfold ownO; rw [show 16 = k from by omega]; exact HX.out
      have HRB := Lib.hid (HB0.out.below HKY.out (by omega))
      have HPL := Lib.hid (ownO_len pick)
      have g1 : ¬ (k : Int) < 16 := by omega
      have HZ : Hid (w.heap.size + 1 ≤ wr.heap.size) := Nat.le_of_lt HX.out.lt
      clear HX
      obtain ⟨p, hpe⟩ : ∃ p, p = ownO pick := ⟨_, rfl⟩
      rw [← hpe] at HE HPL
      have HPE := Lib.hid hpe
      clear hpe
      go_wp2_with (first
        | (refine wpList_load_box rfl 26 (.tmp 3) rfl (w.heap.size + 1) 0 rfl (oV p) (oV p) HE.out whole_at _ Try.underlying26 rfl 16 (by kernel_rfl) ((oV_len p).trans HPL.out) ?_)
        | (refine wpList_store_box rfl 26 (.tmp 2) (.tmp 19) rfl w.heap.size 0 (oV p) rfl rfl (oV zeroO) HRB.out (by rw [oV_len, HPL.out]; exact Nat.le_refl _) 16 (by kernel_rfl) ((oV_len p).trans HPL.out) (oV_one _) ?_; intro w3 B3 hg3; rw [splice_whole _ _ (by rw [oV_len, HPL.out]; rfl)] at B3))
      refine bodyPost_ret (v := .agg (oV p).toArray) ?_ rfl ⟨by rw [HPE.out], ?_⟩
      · exact results_cell Try.results18 _ _ _ ⟨w.heap.size, 0, none⟩ _ rfl (load_own B3 HPL.out)
      · exact Below.grown (HK0.out.trans (HKY.out.mono (by omega))) hg3 (by have := HZ.out; omega) (fun i hi => by injection hi with hi; omega)
end Go.Proofs.Ytbibfpopkcekdaa.Words

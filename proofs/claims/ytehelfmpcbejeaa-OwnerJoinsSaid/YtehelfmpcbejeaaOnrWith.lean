/- Contract of the law's own helper 'with' of chapter 11: what is on A in either; partly joined owners. -/
import Derived.Test.YtehelfmpcbejeaaOnrMake
namespace Go.Proofs.Ytehelfmpcbejeaa.Words
set_option maxRecDepth 100000
open Go.RowKit
set_option linter.unusedVariables false
set_option linter.unusedSimpArgs false

def orP (x y : List Int) (n : Nat) : List Int := funO fun k => if (1 ≤ k ∧ k < n) ∧ atO y k = 1 then 1 else atO x k
def andP (x y : List Int) (n : Nat) : List Int := funO fun k => if (1 ≤ k ∧ k < n) ∧ atO y k ≠ 1 then 2 else atO x k
theorem orP_1 {x : List Int} (hx : x.length = 16) (y : List Int) : orP x y 1 = x :=
  ext_O (funO_len _) hx fun k hk => by rw [orP, funO_at _ hk, if_neg (by omega)]
theorem andP_1 {x : List Int} (hx : x.length = 16) (y : List Int) : andP x y 1 = x :=
  ext_O (funO_len _) hx fun k hk => by rw [andP, funO_at _ hk, if_neg (by omega)]
theorem orP_16 (x y : List Int) : orP x y 16 = orO x y := funO_ext fun k hk => by
  by_cases h : 1 ≤ k ∧ atO y k = 1
  · rw [if_pos h, if_pos ⟨⟨h.1, by omega⟩, h.2⟩]
  · rw [if_neg h, if_neg (fun c => h ⟨c.1.1, c.2⟩)]
theorem andP_16 (x y : List Int) : andP x y 16 = andO x y := funO_ext fun k hk => by
  by_cases h : 1 ≤ k ∧ atO y k ≠ 1
  · rw [if_pos h, if_pos ⟨⟨h.1, by omega⟩, h.2⟩]
  · rw [if_neg h, if_neg (fun c => h ⟨c.1.1, c.2⟩)]
theorem orP_yes {x y : List Int} {k : Nat} (h1 : 1 ≤ k) (h : atO y k = 1) : (orP x y k).set k 1 = orP x y (k + 1) := by
  unfold orP
  rw [funO_set]
  refine funO_ext fun j hj => ?_
  by_cases e : j = k
  · subst e; rw [if_pos rfl, if_pos ⟨⟨h1, by omega⟩, h⟩]
  · rw [if_neg e]
    by_cases c : (1 ≤ j ∧ j < k) ∧ atO y j = 1
    · rw [if_pos c, if_pos ⟨⟨c.1.1, by omega⟩, c.2⟩]
    · rw [if_neg c, if_neg (fun d => c ⟨⟨d.1.1, by omega⟩, d.2⟩)]
theorem orP_no {x y : List Int} {k : Nat} (h : atO y k ≠ 1) : orP x y (k + 1) = orP x y k := by
  refine funO_ext fun j hj => ?_
  by_cases c : (1 ≤ j ∧ j < k) ∧ atO y j = 1
  · rw [if_pos c, if_pos ⟨⟨c.1.1, by omega⟩, c.2⟩]
  · rw [if_neg c, if_neg (fun d => by
      by_cases e : j = k
      · subst e; exact h d.2
      · exact c ⟨⟨d.1.1, by omega⟩, d.2⟩)]
theorem andP_yes {x y : List Int} {k : Nat} (h : atO y k = 1) : andP x y (k + 1) = andP x y k := by
  refine funO_ext fun j hj => ?_
  by_cases c : (1 ≤ j ∧ j < k) ∧ atO y j ≠ 1
  · rw [if_pos c, if_pos ⟨⟨c.1.1, by omega⟩, c.2⟩]
  · rw [if_neg c, if_neg (fun d => by
      by_cases e : j = k
      · subst e; exact d.2 h
      · exact c ⟨⟨d.1.1, by omega⟩, d.2⟩)]
theorem andP_no {x y : List Int} {k : Nat} (h1 : 1 ≤ k) (h : atO y k ≠ 1) : (andP x y k).set k 2 = andP x y (k + 1) := by
  unfold andP
  rw [funO_set]
  refine funO_ext fun j hj => ?_
  by_cases e : j = k
  · subst e; rw [if_pos rfl, if_pos ⟨⟨h1, by omega⟩, h⟩]
  · rw [if_neg e]
    by_cases c : (1 ≤ j ∧ j < k) ∧ atO y j ≠ 1
    · rw [if_pos c, if_pos ⟨⟨c.1.1, by omega⟩, c.2⟩]
    · rw [if_neg c, if_neg (fun d => c ⟨⟨d.1.1, by omega⟩, d.2⟩)]

set_option maxHeartbeats 4000000 in
theorem with_any (x y : List Int) (w : World) (hx : x.length = 16) (hy : y.length = 16) :
    Calls Try.prog 18 #[.agg (oV x).toArray, .agg (oV y).toArray] w fun e w' => e = .returned (.agg (oV (orO x y)).toArray) ∧ Below w.heap.size w w' := by
  obtain ⟨W1, hW1⟩ : ∃ W1, W1 = w.alloc (.cells (oV x).toArray 26) := ⟨_, rfl⟩
  obtain ⟨W2, hW2⟩ : ∃ W2, W2 = W1.alloc (.cells (oV y).toArray 26) := ⟨_, rfl⟩
  obtain ⟨W3, hW3⟩ : ∃ W3, W3 = W2.alloc (.cells (oV zeroO).toArray 26) := ⟨_, rfl⟩
  have hz1 : W1.heap.size = w.heap.size + 1 := by rw [hW1]; simp
  have hz2 : W2.heap.size = w.heap.size + 2 := by rw [hW2]; simp [hz1]
  have hz3 : W3.heap.size = w.heap.size + 3 := by rw [hW3]; simp [hz2]
  have HK0 : Hid (Below w.heap.size w W3) := by rw [hW3, hW2, hW1]; exact (((Below.refl w.heap.size w).alloc (Nat.le_refl _) _).alloc (by simp) _).alloc (by simp; omega) _
  have HX0 : Hid (Box W3 w.heap.size (oV x)) := by rw [hW3, hW2, hW1]; exact ((Box.new w (oV x) _).alloc _).alloc _
  have HY0 : Hid (Box W3 (w.heap.size + 1) (oV y)) := by rw [hW3, hW2, ← hz1]; exact (Box.new W1 (oV y) _).alloc _
  have HZ0 : Hid (Box W3 (w.heap.size + 2) (oV zeroO)) := by rw [hW3, ← hz2]; exact Box.new W2 (oV zeroO) _
  have HYL := Lib.hid hy
  have HXL := Lib.hid hx
  clear hx hy
  go_enter Try.func18, Try.ntmps18
  go_wp2_with fail
  change Code.wp _ _ _ _ (((w.alloc (.cells (oV x).toArray 26)).alloc (.cells (oV y).toArray 26)).alloc (.cells (oV zeroO).toArray 26))
  rw [← hW1, ← hW2, ← hW3]
  clear hW1 hW2 hW3 hz1 hz2
  rw [← orP_1 HXL.out y] at HX0
  go_loopw [5] (fun ii wr => ∃ k : Nat, 1 ≤ k ∧ k ≤ 16 ∧ ii = .int .i64 k ∧ Box wr w.heap.size (oV (orP x y k)) ∧ Box wr (w.heap.size + 1) (oV y) ∧ Box wr (w.heap.size + 2) (oV zeroO) ∧ Below w.heap.size w wr) (fun ii _ => 16 - (intOf ii).toNat)
  case atStart => exact ⟨1, by omega, by omega, rfl, HX0.out, HY0.out, HZ0.out, HK0.out⟩
  case round =>
    obtain ⟨k, hk1, hk, rfl, hbx, hby, hbz, hbl⟩ := hrel
    have HX := Lib.hid hbx
    have HY := Lib.hid hby
    have HZ := Lib.hid hbz
    have HK := Lib.hid hbl
    have hlx := hbx.lt
    clear hbx hby hbz hbl
    by_cases hlt : k < 16
    · have f1 := HX.out.cell (oV_at (funO_len _) (n := k) (by omega))
      have f2 := HX.out.frozen k
      have f3 := HY.out.cell (oV_at HYL.out (n := k) (by omega))
      have g0 : (0 : Int) ≤ k := by omega
      have g1 : (k : Int) < 16 := by omega
      cases hq : (atO y k == 1)
      · have HE := Lib.hid (orP_no (x := x) (y := y) (k := k) (by simpa using hq))
        go_wp2_with fail
        go_roundw
        case rel => exact ⟨k + 1, by omega, by omega, by go_num, by rw [HE.out]; exact HX.out, HY.out, HZ.out, HK.out⟩
        case measure => simp only [intOf]; omega
      · have HE := Lib.hid (orP_yes (x := x) (y := y) hk1 (show atO y k = 1 by simpa using hq))
        have HN : Hid (Box (wr.setCell ⟨w.heap.size, k, none⟩ (.int .i64 1)) w.heap.size (oV (orP x y (k + 1)))) := by
          have := HX.out.setCell k (.int .i64 1)
          rwa [oV_set, HE.out] at this
        have HYN := Lib.hid (HY.out.setCell_other (b' := w.heap.size) (by omega) k (.int .i64 1))
        have HZN := Lib.hid (HZ.out.setCell_other (b' := w.heap.size) (by omega) k (.int .i64 1))
        have HKN : Hid (Below w.heap.size w (wr.setCell ⟨w.heap.size, k, none⟩ (.int .i64 1))) := HK.out.setCell (p := ⟨w.heap.size, k, none⟩) (Nat.le_refl _) _
        go_wp2_with fail
        go_roundw
        case rel => exact ⟨k + 1, by omega, by omega, by go_num, HN.out, HYN.out, HZN.out, HKN.out⟩
        case measure => simp only [intOf]; omega
    · have HE : Hid (Box wr w.heap.size (oV (orO x y))) := by rw [← orP_16, show 16 = k from by omega]; exact HX.out
      have hlen : (orO x y).length = 16 := funO_len _
      have HPL := Lib.hid hlen
      have g1 : ¬ (k : Int) < 16 := by omega
      clear HX hlen
      obtain ⟨p, hpe⟩ : ∃ p, p = orO x y := ⟨_, rfl⟩
      rw [← hpe] at HE HPL
      have HPE := Lib.hid hpe
      clear hpe
      go_wp2_with (first
        | (refine wpList_load_box rfl 26 (.tmp 2) rfl w.heap.size 0 rfl (oV p) (oV p) HE.out whole_at _ Try.underlying26 rfl 16 (by kernel_rfl) ((oV_len p).trans HPL.out) ?_)
        | (refine wpList_store_box rfl 26 (.tmp 4) (.tmp 16) rfl (w.heap.size + 2) 0 (oV p) rfl rfl (oV zeroO) HZ.out (by rw [oV_len, HPL.out]; exact Nat.le_refl _) 16 (by kernel_rfl) ((oV_len p).trans HPL.out) (oV_one _) ?_; intro w3 B3 hg3; rw [splice_whole _ _ (by rw [oV_len, HPL.out]; rfl)] at B3))
      refine bodyPost_ret (v := .agg (oV p).toArray) ?_ rfl ⟨by rw [HPE.out], ?_⟩
      · exact results_cell Try.results18 _ _ _ ⟨w.heap.size + 2, 0, none⟩ _ rfl (load_own B3 HPL.out)
      · exact Below.grown HK.out hg3 (Nat.le_of_lt hlx) (fun i hi => by injection hi with hi; omega)
end Go.Proofs.Ytehelfmpcbejeaa.Words

/- Contracts of package owner's and the document's own small functions of chapter 11: what reckons, whether a register is on E, what an instruction needs. -/
import Derived.Test.YtcaibahniheohaaOnrMath
import Derived.Test.YtcaibahniheohaaIsaReadsN
import Derived.Test.YtcaibahniheohaaBoxes
import Derived.Test.YtcaibahniheohaaKept
import Derived.Test.YtcaibahniheohaaRefForm
import Derived.LoopTactic
namespace Go.Proofs.Ytcaibahniheohaa.Words
set_option maxRecDepth 100000
open Go.RowKit
set_option linter.unusedVariables false
set_option linter.unusedSimpArgs false

/-- Registers as cells. -/
def oV (o : List Int) : List Value := o.map (Value.int .i64)
theorem oV_len (o : List Int) : (oV o).length = o.length := by simp [oV]
theorem oV_at {o : List Int} (h : o.length = 16) {n : Nat} (hn : n ≤ 15) : (oV o)[n]? = some (.int .i64 (atO o n)) := by
  unfold oV; rw [List.getElem?_map, atO_nat, List.getD_eq_getElem?_getD, List.getElem?_eq_getElem (show n < o.length by omega)]; rfl
theorem oV_set (o : List Int) (n : Nat) (x : Int) : (oV o).set n (.int .i64 x) = oV (o.set n x) := by unfold oV; rw [List.map_set]
theorem oV_one (o : List Int) : ∀ u ∈ oV o, u.oneCell' = true := by
  intro u hu
  obtain ⟨x, _, rfl⟩ := List.mem_map.1 hu; rfl
theorem ints_get {zs : List Int} {j : Nat} (h : j < zs.length) : (zs.map (Value.int .i64))[j]? = some (.int .i64 (zs.getD j 0)) := by
  rw [List.getElem?_map, List.getD_eq_getElem?_getD, List.getElem?_eq_getElem h]; rfl
theorem getD_mem {zs : List Int} {j : Nat} (h : j < zs.length) : zs.getD j 0 ∈ zs := by
  rw [List.getD_eq_getElem?_getD, List.getElem?_eq_getElem h]; exact List.getElem_mem h
theorem any_step {zs : List Int} {o : List Int} {j : Nat} (h : j < zs.length) : anyEB (zs.drop j) o = (decide (atO o (zs.getD j 0) = 2) || anyEB (zs.drop (j + 1)) o) := by
  rw [List.drop_eq_getElem_cons h, List.getD_eq_getElem?_getD, List.getElem?_eq_getElem h]; rfl

set_option maxHeartbeats 400000 in
theorem reckons_any (op : Int) (w : World) :
    Calls Try.prog 49 #[.int .i64 op] w fun e w' => e = .returned (.bool (recB op)) ∧ w = w' := by
  have hF := formZ_range op
  have HJ := Lib.hid (show recB op = decide (1 ≤ formZ op ∧ formZ op ≤ 3) from rfl)
  go_enter Try.func49, Try.ntmps49
  go_wp2_with fail
  refine (form_any _ _).mono ?_; rintro e w1 ⟨rfl, rfl⟩
  generalize formZ op = f at *
  by_cases h1 : 1 ≤ f
  · by_cases h3 : f ≤ 3
    · have g := Lib.hid (⟨h1, h3⟩ : 1 ≤ f ∧ f ≤ 3)
      go_wp2_with fail
      go_ret
      exact ⟨ret_bool (by rw [HJ.out, decide_eq_true g.out]), rfl⟩
    · have g := Lib.hid (fun h => h3 h.2 : ¬ (1 ≤ f ∧ f ≤ 3))
      have g3 : decide (f ≤ 3) = false := decide_eq_false h3
      go_wp2_with fail
      go_ret
      exact ⟨ret_bool (by rw [HJ.out, decide_eq_false g.out]), rfl⟩
  · have g := Lib.hid (fun h => h1 h.1 : ¬ (1 ≤ f ∧ f ≤ 3))
    go_wp2_with fail
    go_ret
    exact ⟨ret_bool (by rw [HJ.out, decide_eq_false g.out]), rfl⟩

set_option maxHeartbeats 1000000 in
theorem anyOnE_any (A : Option Addr) (c : Nat) (zs : List Int) (o : List Int) (w : World) (ho : o.length = 16) (hr : Row w w.heap.size 1 (.slice A zs.length c) zs.length (zs.map (Value.int .i64))) (hz : ∀ r ∈ zs, 0 ≤ r ∧ r ≤ 15) (hs : zs.length ≤ 8) :
    Calls Try.prog 50 #[.slice A zs.length c, .agg (oV o).toArray] w fun e w' => e = .returned (.bool (anyEB zs o)) ∧ Below w.heap.size w w' := by
  have HB := Lib.hid (Box.new w (oV o) 24)
  have HK := Lib.hid ((Below.refl w.heap.size w).alloc (Nat.le_refl _) (.cells (oV o).toArray 24))
  have HR := Lib.hid (hr.alloc (Nat.le_refl _) (.cells (oV o).toArray 24))
  have HZ := Lib.hid hz
  have HO := Lib.hid ho
  have H0 := Lib.hid (show anyEB zs o = anyEB (zs.drop 0) o by rw [List.drop_zero])
  have HN := Lib.hid (rfl : zs.length = zs.length)
  clear hr hz ho
  go_enter Try.func50, Try.ntmps50
  go_wp2_with fail
  generalize w.alloc (.cells (oV o).toArray 24) = W at *
  generalize hn : zs.length = n at HR hs ⊢
  have Hn := Lib.hid hn
  clear hn
  go_loopw [9] (fun i wr => ∃ j : Nat, j ≤ n ∧ i = .int .i64 j ∧ wr = W ∧ anyEB zs o = anyEB (zs.drop j) o) (fun i _ => n - (intOf i).toNat)
  case atStart => exact ⟨0, Nat.zero_le _, rfl, rfl, H0.out⟩
  case round =>
    obtain ⟨j, hj, rfl, rfl, hT⟩ := hrel
    have HT := Lib.hid hT
    clear hT
    by_cases hlt : j < n
    · have hl : j < zs.length := by rw [Hn.out]; exact hlt
      obtain ⟨b, off, rfl, hb, hcells⟩ := HR.out.at_ (by omega)
      have d0 := hcells j _ (ints_get hl)
      have HS := Lib.hid (any_step (o := o) hl)
      obtain ⟨r, hre⟩ : ∃ r, r = zs.getD j 0 := ⟨_, rfl⟩
      rw [← hre] at d0 HS
      obtain ⟨x, hx, hx15⟩ := nat_of (HZ.out r (by rw [hre]; exact getD_mem hl))
      have d1 := HB.out.cell (oV_at HO.out hx15)
      clear hcells hre hl
      subst hx
      have k0 : (0 : Int) ≤ j := by omega
      have k1 : (j : Int) < n := by omega
      have k2 : (x : Int) ≤ 15 := by omega
      have k3 : (0 : Int) ≤ x := by omega
      cases hq : (atO o x == 2)
      · go_wp2_with fail
        go_roundw
        case rel => exact ⟨j + 1, by omega, by go_num, by first | rfl | trivial, by rw [HT.out, HS.out, decide_eq_false (by simpa using hq)]; rfl⟩
        case measure => simp only [intOf]; omega
      · go_wp2_with fail
        go_ret
        exact ⟨ret_bool (by rw [HT.out, HS.out, decide_eq_true (by simpa using hq)]; rfl), HK.out⟩
    · go_wp2_with fail
      go_ret
      exact ⟨ret_bool (by rw [HT.out, List.drop_eq_nil_of_le (by rw [Hn.out]; omega)]; rfl), HK.out⟩

/-- A new row of one number. -/
theorem one_listed {w W : World} {t : TypeId} {x : Int} {zs : List Int} {B : Nat} (hB : W.heap.size = B) (hz : zs = [x]) (hb : Below w.heap.size w W) : ListedN w zs (.returned (.slice (some ⟨B, 0, none⟩) 1 1)) (W.alloc (.cells #[.int .i64 x] t)) := by
  subst hz hB
  refine ⟨_, rfl, ⟨rfl, _, _, rfl, Nat.le_refl _, by decide, (fun h => by cases h), fun _ => ⟨W.heap.size, 0, rfl, by simp, fun j u hu => ?_⟩⟩, fun a n c h => ?_, hb.alloc hb.size _⟩
  · have := new_cells W #[.int .i64 x] t [.int .i64 x] rfl j u hu
    rwa [add_spot] at this
  · injection h with h1 _ _
    injection h1 with h1
    subst h1; exact hb.size

/-- A part of an array as a row. -/
theorem box_row {w : World} {b : Nat} {o : List Int} (h : Box w b (oV o)) (ho : o.length = 16) : Row w w.heap.size 1 (.slice (some ⟨b, 1, none⟩) 15 15) 15 ((o.drop 1).map (Value.int .i64)) := by
  refine ⟨by simp [ho], _, _, rfl, Nat.le_refl _, by decide, (fun h => by cases h), fun _ => ⟨b, 1, rfl, h.lt, fun j u hu => h.cell ?_⟩⟩
  rw [show oV o = (o.map (Value.int .i64)) from rfl, ← hu, List.getElem?_map, List.getElem?_map, List.getElem?_drop]

theorem owners_step {o : List Int} (ho : o.length = 16) (j : Nat) (hj : j < 15) (f : Nat → Bool) : ((List.range 15).drop j).all f = (f j && ((List.range 15).drop (j + 1)).all f) := by
  rw [List.drop_eq_getElem_cons (by simpa using hj)]
  simp

theorem side_cases (i : Ins) (o : List Int) : True := trivial
end Go.Proofs.Ytcaibahniheohaa.Words

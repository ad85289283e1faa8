/- The walk of SeqCopies: a loop that copies memory, word by word, copies it, and writes each word once, in order. -/
import Derived.Test.YtdjllgdeijdieaaG11
import Derived.Test.YtdjllgdeijdieaaSCopiesMath
import Derived.Test.YtdjllgdeijdieaaG13
import Derived.Test.YtdjllgdeijdieaaG00
import Derived.Test.YtdjllgdeijdieaaG02
import Derived.Test.YtdjllgdeijdieaaG12
import Derived.Deep.QuietTactic
import Derived.BigQuiet
namespace Go.Proofs.Ytdjllgdeijdieaa.Words
set_option maxRecDepth 100000
open Go.RowKit
set_option linter.unusedVariables false

theorem str_twice (xs : List Int) : strOfNums (xs ++ xs) = strOfNums xs ++ strOfNums xs := by
  have h : ∀ a b : ByteArray, a.data = b.data → a = b := fun a b h => by cases a; cases b; cases h; rfl
  apply h
  rw [ByteArray.data_append]
  apply Array.toList_inj.1
  rw [Array.toList_append]
  simp [strOfNums_data]
theorem quad_map {x : Int} (h : 0 ≤ x ∧ x ≤ 4294967295) : quad x = (quadZ x).map (Value.int .u8) := rfl
theorem quads_take {l : List Int} {k : Nat} {x : Int} (h : l[k]? = some x) : quadsZ (l.take (k + 1)) = quadsZ (l.take k) ++ quadZ x := by
  obtain ⟨hk, rfl⟩ := List.getElem?_eq_some_iff.1 h
  rw [List.take_succ_eq_append_getElem hk, quadsZ_append]
  simp [quadsZ]
theorem copyW_at {l : List Int} {k : Nat} {x : Int} (h : l[k]? = some x) : (copyW l l.length)[k]? = some ⟨4 * (l.length : Int) + 4 * (k : Int), 4, x⟩ := by
  obtain ⟨hk, rfl⟩ := List.getElem?_eq_some_iff.1 h
  unfold copyW
  rw [List.getElem?_map, List.getElem?_range hk]
  simp [List.getD_eq_getElem?_getD, List.getElem?_eq_getElem hk]

set_option maxHeartbeats 400000 in
theorem seqCopies_out (A : Option Addr) (n c : Nat) (w : World) (h0 : n ≤ 9223372036854775807) (h : n < 1 ∨ 30 < n) :
    Calls Try.prog 5 #[.slice A n c] w fun e w' => e = .returned (.bool true) ∧ Below w.heap.size w w' := by
  have m0 : (n : Int) ≤ 9223372036854775807 := by omega
  go_enter Try.func5, Try.ntmps5
  go_wp2_with fail
  refine (seqAlive_any _).mono ?_; rintro e w1 ⟨rfl, hb1⟩
  go_wp2
  all_goals first
    | (exfalso; omega)
    | (go_ret; exact ⟨rfl, hb1⟩)

set_option maxHeartbeats 3000000 in
theorem seqCopies_in (A : Option Addr) (c : Nat) (zs : List Int) (w : World) (hz : Row w w.heap.size 1 (.slice A zs.length c) zs.length (zs.map (Value.int .u32))) (hzb : ∀ x ∈ zs, 0 ≤ x ∧ x ≤ 4294967295) (h1 : 1 ≤ zs.length) (h30 : zs.length ≤ 30) :
    Calls Try.prog 5 #[.slice A zs.length c] w fun e w' => e = .returned (.bool true) ∧ Below w.heap.size w w' := by
  obtain ⟨b, off, rfl, hbl, _⟩ := hz.at_ (by omega)
  obtain ⟨c1, c2⟩ := hz.cap
  have HCR := Lib.hid (copy_run h1 h30 hzb)
  have HCW : Hid ((copyW zs zs.length).length = zs.length) := by show _ = _; simp [copyW]
  have HQ := Lib.hid (quadsZ_bytes hzb)
  have HCELL := Lib.hid (fun (x : World) (h : Below w.heap.size w x) (k : Nat) (hk : k < zs.length) => ((hz.below h).num k hk))
  have HXB := Lib.hid hzb
  have m0 : (1 : Int) ≤ zs.length := by omega
  have m1 : (zs.length : Int) ≤ 30 := by omega
  have m2 : decide ((zs.length : Int) < 1) = false := decide_eq_false (by omega)
  have m2' : decide (zs.length < 1) = false := decide_eq_false (by omega)
  have m3 : decide (30 < (zs.length : Int)) = false := decide_eq_false (by omega)
  have m3' : decide (30 < zs.length) = false := decide_eq_false (by omega)
  clear hz hzb
  go_enter Try.func5, Try.ntmps5
  go_wp2_with fail
  refine (seqAlive_any _).mono ?_; rintro e w1 ⟨rfl, hb1⟩
  have HB1 := Lib.hid hb1
  have hw1 : w.heap.size ≤ w1.heap.size := hb1.size
  clear hb1
  go_wp2_with fail
  have HB2 := Lib.hid ((HB1.out.alloc HB1.out.size (.cells #[.int .i64 26, .int .i64 2, .int .i64 1, .int .i64 0, .int .i64 0, .int .i64 31, .int .i64 0, .int .i64 1, .int .i64 2, .int .i64 (4 * (zs.length : Int)), .int .i64 17, .int .i64 1, .int .i64 1, .int .i64 0, .int .i64 4, .int .i64 21, .int .i64 3, .int .i64 1, .int .i64 0, .int .i64 (4 * (zs.length : Int)), .int .i64 35, .int .i64 0, .int .i64 3, .int .i64 0, .int .i64 (-4), .int .i64 41, .int .i64 0, .int .i64 0, .int .i64 0, .int .i64 0] 44)).alloc (by have := HB1.out.size; simp; omega) (.cells #[.slice (some ⟨w1.heap.size, 0, none⟩) 6 6, .int .i64 (2 * (4 * (zs.length : Int))), .slice none 0 0] 25))
  have BP : Hid (Box ((w1.alloc (.cells #[.int .i64 26, .int .i64 2, .int .i64 1, .int .i64 0, .int .i64 0, .int .i64 31, .int .i64 0, .int .i64 1, .int .i64 2, .int .i64 (4 * (zs.length : Int)), .int .i64 17, .int .i64 1, .int .i64 1, .int .i64 0, .int .i64 4, .int .i64 21, .int .i64 3, .int .i64 1, .int .i64 0, .int .i64 (4 * (zs.length : Int)), .int .i64 35, .int .i64 0, .int .i64 3, .int .i64 0, .int .i64 (-4), .int .i64 41, .int .i64 0, .int .i64 0, .int .i64 0, .int .i64 0] 44)).alloc (.cells #[.slice (some ⟨w1.heap.size, 0, none⟩) 6 6, .int .i64 (2 * (4 * (zs.length : Int))), .slice none 0 0] 25)) (w1.heap.size + 1) [.slice (some ⟨w1.heap.size, 0, none⟩) 6 6, .int .i64 (2 * (4 * (zs.length : Int))), .slice none 0 0]) := by
    have := Box.new (w1.alloc (.cells #[.int .i64 26, .int .i64 2, .int .i64 1, .int .i64 0, .int .i64 0, .int .i64 31, .int .i64 0, .int .i64 1, .int .i64 2, .int .i64 (4 * (zs.length : Int)), .int .i64 17, .int .i64 1, .int .i64 1, .int .i64 0, .int .i64 4, .int .i64 21, .int .i64 3, .int .i64 1, .int .i64 0, .int .i64 (4 * (zs.length : Int)), .int .i64 35, .int .i64 0, .int .i64 3, .int .i64 0, .int .i64 (-4), .int .i64 41, .int .i64 0, .int .i64 0, .int .i64 0, .int .i64 0] 44)) [.slice (some ⟨w1.heap.size, 0, none⟩) 6 6, .int .i64 (2 * (4 * (zs.length : Int))), .slice none 0 0] 25
    have e : (w1.alloc (.cells #[.int .i64 26, .int .i64 2, .int .i64 1, .int .i64 0, .int .i64 0, .int .i64 31, .int .i64 0, .int .i64 1, .int .i64 2, .int .i64 (4 * (zs.length : Int)), .int .i64 17, .int .i64 1, .int .i64 1, .int .i64 0, .int .i64 4, .int .i64 21, .int .i64 3, .int .i64 1, .int .i64 0, .int .i64 (4 * (zs.length : Int)), .int .i64 35, .int .i64 0, .int .i64 3, .int .i64 0, .int .i64 (-4), .int .i64 41, .int .i64 0, .int .i64 0, .int .i64 0, .int .i64 0] 44)).heap.size = w1.heap.size + 1 := by simp
    rw [e] at this
    exact this
  have HK0 : Hid (∀ j u, (codeCells (copyP (4 * (zs.length : Int)) (quadsZ zs)).code)[j]? = some u → ((w1.alloc (.cells #[.int .i64 26, .int .i64 2, .int .i64 1, .int .i64 0, .int .i64 0, .int .i64 31, .int .i64 0, .int .i64 1, .int .i64 2, .int .i64 (4 * (zs.length : Int)), .int .i64 17, .int .i64 1, .int .i64 1, .int .i64 0, .int .i64 4, .int .i64 21, .int .i64 3, .int .i64 1, .int .i64 0, .int .i64 (4 * (zs.length : Int)), .int .i64 35, .int .i64 0, .int .i64 3, .int .i64 0, .int .i64 (-4), .int .i64 41, .int .i64 0, .int .i64 0, .int .i64 0, .int .i64 0] 44)).alloc (.cells #[.slice (some ⟨w1.heap.size, 0, none⟩) 6 6, .int .i64 (2 * (4 * (zs.length : Int))), .slice none 0 0] 25)).cell? ⟨w1.heap.size, j, none⟩ = some u) := fun j u hu => by
    have := new_cells w1 #[.int .i64 26, .int .i64 2, .int .i64 1, .int .i64 0, .int .i64 0, .int .i64 31, .int .i64 0, .int .i64 1, .int .i64 2, .int .i64 (4 * (zs.length : Int)), .int .i64 17, .int .i64 1, .int .i64 1, .int .i64 0, .int .i64 4, .int .i64 21, .int .i64 3, .int .i64 1, .int .i64 0, .int .i64 (4 * (zs.length : Int)), .int .i64 35, .int .i64 0, .int .i64 3, .int .i64 0, .int .i64 (-4), .int .i64 41, .int .i64 0, .int .i64 0, .int .i64 0, .int .i64 0] 44 (codeCells (copyP (4 * (zs.length : Int)) (quadsZ zs)).code) rfl j u hu
    rw [add_spot, Nat.zero_add] at this
    exact one_cell (by simp) this
  have hs2 : ((w1.alloc (.cells #[.int .i64 26, .int .i64 2, .int .i64 1, .int .i64 0, .int .i64 0, .int .i64 31, .int .i64 0, .int .i64 1, .int .i64 2, .int .i64 (4 * (zs.length : Int)), .int .i64 17, .int .i64 1, .int .i64 1, .int .i64 0, .int .i64 4, .int .i64 21, .int .i64 3, .int .i64 1, .int .i64 0, .int .i64 (4 * (zs.length : Int)), .int .i64 35, .int .i64 0, .int .i64 3, .int .i64 0, .int .i64 (-4), .int .i64 41, .int .i64 0, .int .i64 0, .int .i64 0, .int .i64 0] 44)).alloc (.cells #[.slice (some ⟨w1.heap.size, 0, none⟩) 6 6, .int .i64 (2 * (4 * (zs.length : Int))), .slice none 0 0] 25)).heap.size = w1.heap.size + 2 := by simp
  generalize ((w1.alloc (.cells #[.int .i64 26, .int .i64 2, .int .i64 1, .int .i64 0, .int .i64 0, .int .i64 31, .int .i64 0, .int .i64 1, .int .i64 2, .int .i64 (4 * (zs.length : Int)), .int .i64 17, .int .i64 1, .int .i64 1, .int .i64 0, .int .i64 4, .int .i64 21, .int .i64 3, .int .i64 1, .int .i64 0, .int .i64 (4 * (zs.length : Int)), .int .i64 35, .int .i64 0, .int .i64 3, .int .i64 0, .int .i64 (-4), .int .i64 41, .int .i64 0, .int .i64 0, .int .i64 0, .int .i64 0] 44)).alloc (.cells #[.slice (some ⟨w1.heap.size, 0, none⟩) 6 6, .int .i64 (2 * (4 * (zs.length : Int))), .slice none 0 0] 25)) = w2 at *
  go_loopw [6] (fun i wr => ∃ (k : Nat) (vd : Value), k ≤ zs.length ∧ i = .int .i64 k ∧ Box wr (w1.heap.size + 1) [.slice (some ⟨w1.heap.size, 0, none⟩) 6 6, .int .i64 (2 * (4 * (zs.length : Int))), vd] ∧ wr.ownsRow (w1.heap.size + 2) 5 1 vd (quadsZ (zs.take k)).length ((quadsZ (zs.take k)).map (Value.int .u8)) ∧ Below (w1.heap.size + 1) w2 wr) (fun i _ => zs.length - (intOf i).toNat)
  case atStart => exact ⟨0, _, Nat.zero_le _, rfl, BP.out, World.ownsRow_nil _ _ _ _, Below.refl _ _⟩
  case round =>
    obtain ⟨k, vd, hk, rfl, hbox, hown, hbel⟩ := hrel
    obtain ⟨D, dd, rfl⟩ := (Row.of_own hown).form
    have BR := Lib.hid hbox
    have OR := Lib.hid hown
    have HBr := Lib.hid hbel
    have HNK := Lib.hid hk
    have HLr := Lib.hid (HB2.out.trans (hbel.mono (by omega)))
    have hwr : w1.heap.size + 2 ≤ wr.heap.size := by have := hbel.size; omega
    have z0 := BR.out.cell (k := 0) rfl
    have z1 := BR.out.cell (k := 1) rfl
    have z2 := BR.out.cell (k := 2) rfl
    clear hbox hown hbel hk
    by_cases hlt : k < zs.length
    · obtain ⟨x, hx⟩ : ∃ x, zs[k]? = some x := ⟨_, List.getElem?_eq_getElem hlt⟩
      have HXX := Lib.hid (HXB.out x (List.mem_of_getElem? hx))
      have hcx := HCELL.out _ HLr.out k hlt
      rw [List.getD_eq_getElem?_getD, hx] at hcx
      have hcx' : wr.cell? ⟨b, off + k, none⟩ = some (.int .u32 x) := hcx
      have HQT := Lib.hid (quads_take hx)
      have HQL : Hid ((quadsZ (zs.take k)).length ≤ 120) := by show _ ≤ _; rw [quadsZ_len, List.length_take]; omega
      have kq : decide ((k : Int) < zs.length) = true := decide_eq_true (by omega)
      have kq2 : decide (k < zs.length) = true := decide_eq_true hlt
      have k0 : (0 : Int) ≤ k := by omega
      have k1 : (k : Int) < zs.length := by omega
      have k2 : (k : Int) ≤ 30 := by omega
      clear hcx hx
      go_wp2_with fail
      refine wp_region_lin [(0, true), (2, true), (3, true), (4, true), (5, true), (1, false), (6, false), (7, true), (8, false)]
        (by kernel_rfl) (by kernel_rfl) rfl (by kernel_rfl) (fun x' => x'.cell? ⟨b, off + k, none⟩ = some (.int .u32 x)) ?_
      simp only [List.map_cons, List.map_nil, List.getElem?_toArray, List.getElem?_cons_succ, List.getElem?_cons_zero]
      have hS : wr.drew.cell? ⟨b, off + k, none⟩ = some (.int .u32 x) := hcx'
      iterate 5 (refine lin_take (v := ?_) hS (by rfl) ?_ ?_; rotate_left; (intro x hx; go_simp; try (with_reducible rfl)); (simp only [Act.put, List.setIfInBounds_toArray, List.set_cons_zero, List.set_cons_succ]))
      refine lin_call hS (by rfl) (fun K hK => ?_)
      go_simp
      refine hK.out _ _ hS (fun _ => ?_)
      clear hK K
      try simp only [Act.put, List.setIfInBounds_toArray, List.set_cons_zero, List.set_cons_succ]
      have ORd : Hid (wr.drew.ownsRow (w1.heap.size + 2) 5 1 (.slice D (quadsZ (zs.take k)).length dd) (quadsZ (zs.take k)).length ((quadsZ (zs.take k)).map (Value.int .u8))) := OR.out
      have BRd := Lib.hid (BR.out.drew)
      have HBd : Hid (Below (w1.heap.size + 1) w2 wr.drew) := HBr.out.drew
      have hwd : w1.heap.size + 2 ≤ wr.drew.heap.size := hwr
      clear z0 z1 z2 OR BR HBr HLr hwr hcx'
      generalize wr.drew = wd at *
      refine lin_call hS (by rfl) (fun K hK => ?_)
      go_simp
      refine (refPut_any x HXX.out.1 (by have := HXX.out.2; omega) ORd.out hwd (by have := HQL.out; omega)).mono ?_
      rintro e w4 ⟨v4, rfl, hO4, hb4⟩
      obtain ⟨D4, d4, rfl⟩ := (Row.of_own hO4).form
      have hS4 : w4.cell? ⟨b, off + k, none⟩ = some (.int .u32 x) := below_cell hb4 (by omega) hS
      have B4 := Lib.hid (BRd.out.below hb4 (by omega))
      have O4 := Lib.hid hO4
      have K4 := Lib.hid (HBd.out.trans (hb4.mono (by omega)))
      have hw4 : w1.heap.size + 2 ≤ w4.heap.size := by have := hb4.size; omega
      clear hO4 hb4
      go_wp2_with fail
      refine hK.out _ _ hS4 (fun _ => ?_)
      clear hK K
      try simp only [Act.put, List.setIfInBounds_toArray, List.set_cons_zero, List.set_cons_succ]
      refine lin_take (v := ?_) hS4 (by rfl) ?_ ?_; rotate_left; (intro x hx; go_simp; try (with_reducible rfl)); (simp only [Act.put, List.setIfInBounds_toArray, List.set_cons_zero, List.set_cons_succ])
      have z4 := B4.out.cell (k := 2) rfl
      have f4 := B4.out.frozen 2
      refine lin_call hS4 (by rfl) (fun K hK => ?_)
      go_simp
      have B5 : Hid (Box (w4.setCell ⟨w1.heap.size + 1, 2, none⟩ (.slice D4 ((quadsZ (zs.take k)).length + 4) d4)) (w1.heap.size + 1) [.slice (some ⟨w1.heap.size, 0, none⟩) 6 6, .int .i64 (2 * (4 * (zs.length : Int))), (.slice D4 ((quadsZ (zs.take k)).length + 4) d4)]) := B4.out.setCell 2 _
      have O5 := Lib.hid (ownsRow_setCell_below O4.out (a := ⟨w1.heap.size + 1, 2, none⟩) (show w1.heap.size + 1 < w1.heap.size + 2 by omega) (.slice D4 ((quadsZ (zs.take k)).length + 4) d4))
      have K5 := Lib.hid (K4.out.setCell (p := ⟨w1.heap.size + 1, 2, none⟩) (Nat.le_refl _) (.slice D4 ((quadsZ (zs.take k)).length + 4) d4))
      have hS5 : (w4.setCell ⟨w1.heap.size + 1, 2, none⟩ (.slice D4 ((quadsZ (zs.take k)).length + 4) d4)).cell? ⟨b, off + k, none⟩ = some (.int .u32 x) := by
        exact below_cell (B := w1.heap.size + 1) ((Below.refl _ w4).setCell (p := ⟨w1.heap.size + 1, 2, none⟩) (Nat.le_refl _) _) (by omega) hS4
      refine hK.out _ _ hS5 (fun _ => ?_)
      clear hK K hS hS4 hS5 z4 f4
      try simp only [Act.put, List.setIfInBounds_toArray, List.set_cons_zero, List.set_cons_succ]
      refine lin_done ?_
      go_wp2_with fail
      go_roundw
      case rel =>
        refine ⟨k + 1, _, hlt, by go_num, B5.out, ?_, K5.out⟩
        have hl4 : (quadsZ (zs.take (k + 1))).length = (quadsZ (zs.take k)).length + 4 := by rw [HQT.out, List.length_append]; rfl
        have hm4 : (quadsZ (zs.take (k + 1))).map (Value.int .u8) = (quadsZ (zs.take k)).map (Value.int .u8) ++ quad x := by rw [HQT.out, List.map_append, quad_map HXX.out]
        rw [hl4, hm4]
        exact O5.out
      case measure => simp [intOf]; omega
    · have hkn : k = zs.length := by have := HNK.out; omega
      subst hkn
      have kq : decide ((zs.length : Int) < zs.length) = false := decide_eq_false (by omega)
      have kq2 : decide (zs.length < zs.length) = false := decide_eq_false (by omega)
      rw [List.take_length] at *
      have PVr : Hid (ProgV wr wr.heap.size (.slice (some ⟨w1.heap.size, 0, none⟩) (copyP (4 * (zs.length : Int)) (quadsZ zs)).code.length 6) (.slice D (copyP (4 * (zs.length : Int)) (quadsZ zs)).data.length dd) (copyP (4 * (zs.length : Int)) (quadsZ zs))) :=
        ⟨⟨by rw [codeCells_length], _, _, rfl, (by show 6 ≤ 6; omega), by omega, (fun h => by cases h), fun _ => ⟨w1.heap.size, 0, rfl, by omega, fun j u hu => by
          rw [Nat.zero_add]
          exact below_cell HBr.out (Nat.lt_succ_self _) (HK0.out j u hu)⟩⟩, Row.of_own OR.out⟩
      go_wp2_with fail
      refine (seqRun_any (some ⟨w1.heap.size, 0, none⟩) D 6 dd (copyP (4 * (zs.length : Int)) (quadsZ zs)) wr 1000 PVr.out HQ.out (by omega)).mono ?_; rintro e w5 ⟨va, ua, rfl, hOa, hb5⟩
      obtain ⟨Aa, ca, rfl⟩ := (Row.of_own hOa.mem).form
      obtain ⟨Ba, da, rfl⟩ := (Row.of_own hOa.ws).form
      generalize runZ (copyP (4 * (zs.length : Int)) (quadsZ zs)) 1000 = R at *
      have NR := Lib.hid hOa.regs
      have RE := Lib.hid HCR.out.1
      have RM := Lib.hid HCR.out.2.1
      have RW := Lib.hid HCR.out.2.2
      have RWL : Hid (R.ws.length = zs.length) := by show _ = _; rw [RW.out]; exact HCW.out
      have OA5 := Lib.hid hOa
      have B5 := Lib.hid (BR.out.below hb5 (by omega))
      have O5 := Lib.hid (own_below OR.out hb5)
      have HL5 := Lib.hid (HLr.out.trans (hb5.mono (by omega)))
      have hz5 : w1.heap.size + 2 ≤ w5.heap.size := by have := hb5.size; omega
      clear hOa hb5 z0 z1 z2 HCR PVr BR OR HBr HLr
      go_wp2_with (refine wpList_store_box rfl 34 (.tmp 7) (.tmp 53) rfl w5.heap.size 0 (resL R (.slice Aa R.mem.length ca) (.slice Ba R.ws.length da)) rfl rfl (resL noRes (.slice none 0 0) (.slice none 0 0)) (Box.new w5 (resL noRes (.slice none 0 0) (.slice none 0 0)) 34) (by rw [resL_len NR.out, resL_len rfl]; exact Nat.le_refl _) 23 info_res (resL_len NR.out) (resL_one rfl rfl) ?_; intro w6 hB6 hg6; rw [splice_whole _ _ (by rw [resL_len NR.out, resL_len rfl])] at hB6; have LB6 := Below.grown ((Below.refl w5.heap.size w5).alloc (Nat.le_refl _) (.cells #[.int .i64 0, .int .i64 0, .int .i64 0, .int .i64 0, .int .i64 0, .int .u32 0, .int .u32 0, .int .u32 0, .int .u32 0, .int .u32 0, .int .u32 0, .int .u32 0, .int .u32 0, .int .u32 0, .int .u32 0, .int .u32 0, .int .u32 0, .int .u32 0, .int .u32 0, .int .u32 0, .int .u32 0, .slice none 0 0, .slice none 0 0] 34)) hg6 (by simp) (fun k hk => grown_ge hk (Nat.le_refl _)); have BR6 := Lib.hid hB6; have B6 := Lib.hid (B5.out.below LB6 (by omega)); have O6 := Lib.hid (own_below O5.out LB6); have OA6 := Lib.hid (OA5.out.below LB6); have HL6 := Lib.hid (HL5.out.trans (LB6.mono HL5.out.size)); have y0 := BR6.out.cell resL_0; rw [RE.out] at y0; have y22 := BR6.out.cell (resL_22 NR.out); rw [RWL.out] at y22; have y21 := BR6.out.cell (resL_21 NR.out); have p2 := B6.out.cell (k := 2) rfl; have v1 := conv_row (P := Try.prog) w6 23 5 Try.underlying23 Try.underlying5 (Row.of_own OA6.out.mem) 9 Try.underlying9; rw [show strOfNums R.mem = strOfNums (quadsZ zs) ++ strOfNums (quadsZ zs) by rw [RM.out, str_twice]] at v1; have v2 := conv_row (P := Try.prog) w6 23 5 Try.underlying23 Try.underlying5 (Row.of_own O6.out) 9 Try.underlying9; have hsq : (strOfNums (quadsZ zs)).size ≤ 120 := (by rw [strOfNums_size, quadsZ_len]; omega); generalize strOfNums (quadsZ zs) = Sq at *; have hsq' : ¬ (Sq.size + Sq.size > 9223372036854775807) := (by omega); clear hB6 hg6 LB6 hsq)
      have HR6 := Lib.hid (Row.of_own OA6.out.ws)
      have HX6 := Lib.hid HL6.out
      clear v1 v2 p2 y21 y0 B5 O5 OA5 HL5
      obtain ⟨bw, ow, rfl, _, _⟩ := HR6.out.at_ (by have := RWL.out; omega)
      go_loopw [8] (fun i wr => ∃ (k m : Nat), k ≤ zs.length ∧ i = .int .i64 k ∧ wr = w6.drewN m) (fun i _ => zs.length - (intOf i).toNat)
      case atStart => exact ⟨0, 0, Nat.zero_le _, rfl, rfl⟩
      case round =>
        obtain ⟨j, m, hj, rfl, rfl⟩ := hrel
        by_cases hlt : j < zs.length
        · obtain ⟨x, hx⟩ : ∃ x, zs[j]? = some x := ⟨_, List.getElem?_eq_getElem hlt⟩
          have hcx := HCELL.out _ HX6.out j hlt
          rw [List.getD_eq_getElem?_getD, hx] at hcx
          have hcx' : w6.cell? ⟨b, off + j, none⟩ = some (.int .u32 x) := hcx
          obtain ⟨a0, a1, a2⟩ := HR6.out.wr (by rw [RW.out]; exact copyW_at hx)
          dsimp only at a0 a1 a2
          have q := neq_wr ⟨4 * (zs.length : Int) + 4 * (j : Int), 4, x⟩ ⟨4 * (zs.length : Int) + 4 * (j : Int), 4, x⟩
          rw [decide_eq_true rfl] at q
          dsimp only at q
          have jq : decide ((j : Int) < zs.length) = true := decide_eq_true (by omega)
          have jq2 : decide (j < zs.length) = true := decide_eq_true hlt
          have j0 : (0 : Int) ≤ j := by omega
          have j1 : (j : Int) < zs.length := by omega
          have j2 : (j : Int) ≤ 30 := by omega
          have s1 : IntKind.i64.wrap (4 * (j : Int)) = 4 * (j : Int) := IntWalk.i64_in _ (by omega)
          have s2 : IntKind.i64.wrap (4 * (zs.length : Int) + 4 * (j : Int)) = 4 * (zs.length : Int) + 4 * (j : Int) := IntWalk.i64_in _ (by omega)
          have HJ := Lib.hid hlt
          clear hcx hx
          go_wp2_with fail
          go_quiet ((fail))
          clear s1 s2 q a0 a1 a2 hcx'
          go_wp2_with fail
          go_roundw
          case rel => exact ⟨j + 1, _, HJ.out, by go_num, rfl⟩
          case measure => simp [intOf]; omega
        · have jq : decide ((j : Int) < zs.length) = false := decide_eq_false (by omega)
          have jq2 : decide (j < zs.length) = false := decide_eq_false hlt
          go_wp2_with fail
          go_ret
          exact ⟨rfl, Below.drewN_ HX6.out m⟩

theorem seqCopies_walk (v0 : Value) (n0 : Nat) (z0 : List Int) (w : World) (r0 : Row w w.heap.size 1 v0 n0 (z0.map (Value.int .u32))) (g0 : ∀ x ∈ z0, 0 ≤ x ∧ x ≤ 4294967295) :
    Calls Try.prog 5 #[v0] w fun e w' => e = .returned (.bool true) ∧ Below w.heap.size w w' := by
  obtain ⟨A, c, rfl⟩ := r0.form
  have hl : z0.length = n0 := by have := r0.len; simpa using this
  subst hl
  obtain ⟨c1, c2⟩ := r0.cap
  by_cases h : z0.length < 1 ∨ 30 < z0.length
  · exact seqCopies_out A z0.length c w (by omega) h
  · exact seqCopies_in A c z0 w r0 g0 (by omega) (by omega)
end Go.Proofs.Ytdjllgdeijdieaa.Words

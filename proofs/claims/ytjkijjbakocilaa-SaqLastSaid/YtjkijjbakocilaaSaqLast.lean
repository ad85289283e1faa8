/- The law SaqLast walked. -/
import Derived.Test.YtjkijjbakocilaaSaqSame
import Derived.Test.YtjkijjbakocilaaOpenEnt
namespace Go.Proofs.Ytjkijjbakocilaa.Words
set_option maxRecDepth 100000
open Go.RowKit
set_option linter.unusedVariables false
set_option linter.unusedSimpArgs false

/-- The last of the first i entries that has a byte of the load: its place, or -1. -/
def LastZ (addr size : Int) (l : List Ent) (i : Nat) (W : Int) : Prop :=
  (W = -1 ∧ ∀ (k : Nat) x, k < i → l[k]? = some x → meetsE addr size x = false) ∨
  ∃ j : Nat, W = j ∧ j < i ∧ ∃ y, l[j]? = some y ∧ meetsE addr size y = true ∧ ∀ (k : Nat) x, j < k → k < i → l[k]? = some x → meetsE addr size x = false
theorem last_zero {addr size : Int} {l : List Ent} : LastZ addr size l 0 (-1) := .inl ⟨rfl, fun k x h => absurd h (Nat.not_lt_zero k)⟩
theorem last_yes {addr size : Int} {l : List Ent} {i : Nat} {W : Int} {x : Ent} (hx : l[i]? = some x) (hm : meetsE addr size x = true) : LastZ addr size l (i + 1) i :=
  .inr ⟨i, rfl, Nat.lt_succ_self i, x, hx, hm, fun k y h1 h2 => by omega⟩
theorem last_no {addr size : Int} {l : List Ent} {i : Nat} {W : Int} {x : Ent} (h : LastZ addr size l i W) (hx : l[i]? = some x) (hm : meetsE addr size x = false) : LastZ addr size l (i + 1) W := by
  rcases h with ⟨h1, h2⟩ | ⟨j, h1, h2, y, h3, h4, h5⟩
  · refine .inl ⟨h1, fun k z hk hz => ?_⟩
    by_cases e : k = i
    · subst e; rw [hx] at hz; injection hz with hz; rw [← hz]; exact hm
    · exact h2 k z (by omega) hz
  · refine .inr ⟨j, h1, by omega, y, h3, h4, fun k z hj hk hz => ?_⟩
    by_cases e : k = i
    · subst e; rw [hx] at hz; injection hz with hz; rw [← hz]; exact hm
    · exact h5 k z hj (by omega) hz
/-- The place behind k bytes of the load. -/
def wantK (a s addr : Int) (i : Nat) (W : Int) (k : Nat) : Int := if a < addr + k ∧ addr < a + s ∧ 1 ≤ k ∧ 1 ≤ s then (i : Int) else W
theorem want_0 (a s addr : Int) (i : Nat) (W : Int) : wantK a s addr i W 0 = W := if_neg (by omega)
theorem want_hit {a s addr : Int} {i : Nat} {W : Int} {k : Nat} (h1 : a ≤ addr + k) (h2 : addr + k < a + s) : wantK a s addr i W (k + 1) = i := if_pos (by omega)
theorem want_miss {a s addr : Int} {i : Nat} {W : Int} {k : Nat} (h : ¬ (a ≤ addr + k ∧ addr + k < a + s)) : wantK a s addr i W (k + 1) = wantK a s addr i W k := by
  unfold wantK
  by_cases c : a < addr + k ∧ addr < a + s ∧ 1 ≤ k ∧ 1 ≤ s
  · rw [if_pos c, if_pos (by omega)]
  · rw [if_neg c, if_neg (by omega)]
theorem want_end {addr size : Int} {l : List Ent} {i : Nat} {W : Int} {x : Ent} {n : Nat} (hn : size = n) (h : LastZ addr size l i W) (hx : l[i]? = some x) : LastZ addr size l (i + 1) (wantK x.addr x.size addr i W n) := by
  unfold wantK
  by_cases c : x.addr < addr + n ∧ addr < x.addr + x.size ∧ 1 ≤ n ∧ 1 ≤ x.size
  · rw [if_pos c]
    exact last_yes (W := W) hx (overlapB_yes (by omega) (by omega) (by omega) (by omega))
  · rw [if_neg c]
    refine last_no h hx (decide_eq_false (by omega))
theorem search_n17 (A : Option Addr) (c n : Nat) (l : List Ent) (hn : l.length = n) (addr size : Int) (w : World) (h : Row w w.heap.size 5 (.slice A n c) n (flat entL l)) (hf : ∀ x ∈ l, x.Fits) (hs : n ≤ 1000000)
    (ha : -9223372036854775808 ≤ addr ∧ addr ≤ 9223372036854775807) (hz : -9223372036854775808 ≤ size ∧ size ≤ 9223372036854775807) :
    Calls Try.prog 10 #[.slice A n c, .int .i64 addr, .int .i64 size] w fun e w' => e = .returned (foundZ l addr size) ∧ Below w.heap.size w w' := by
  subst hn; exact search_any17 A c l addr size w h hf hs ha hz
set_option maxHeartbeats 4000000 in
theorem saqLast_walk (A : Option Addr) (c : Nat) (l : List Ent) (addr size : Int) (w : World) (hr : Row w w.heap.size 5 (.slice A l.length c) l.length (flat entL l)) (hf : ∀ v ∈ l, v.Fits) (ha : -9223372036854775808 ≤ addr ∧ addr ≤ 9223372036854775807) (hs : -9223372036854775808 ≤ size ∧ size ≤ 9223372036854775807) :
    Calls Try.prog 4 #[.slice A l.length c, .int .i64 addr, .int .i64 size] w fun e w' => e = .returned (.bool true) ∧ Below w.heap.size w w' := by
  have HR := Lib.hid hr
  have HF := Lib.hid hf
  clear hr hf ha hs
  by_cases g1 : (60 : Int) < l.length
  · go_enter Try.func4, Try.ntmps4
    go_wp2_with fail
    refine (alive17_any w).mono ?_
    rintro e w1 ⟨rfl, hb⟩
    have B1 := Lib.hid hb
    clear hb
    go_wp2_with fail
    go_ret
    exact ⟨rfl, B1.out⟩
  by_cases g2 : addr < 0
  · go_enter Try.func4, Try.ntmps4
    go_wp2_with fail
    refine (alive17_any w).mono ?_
    rintro e w1 ⟨rfl, hb⟩
    have B1 := Lib.hid hb
    clear hb
    go_wp2_with fail
    go_ret
    exact ⟨rfl, B1.out⟩
  by_cases g3 : 1000 < addr
  · go_enter Try.func4, Try.ntmps4
    go_wp2_with fail
    refine (alive17_any w).mono ?_
    rintro e w1 ⟨rfl, hb⟩
    have B1 := Lib.hid hb
    clear hb
    go_wp2_with fail
    go_ret
    exact ⟨rfl, B1.out⟩
  by_cases g4 : size < 1
  · go_enter Try.func4, Try.ntmps4
    go_wp2_with fail
    refine (alive17_any w).mono ?_
    rintro e w1 ⟨rfl, hb⟩
    have B1 := Lib.hid hb
    clear hb
    go_wp2_with fail
    go_ret
    exact ⟨rfl, B1.out⟩
  by_cases g5 : 8 < size
  · go_enter Try.func4, Try.ntmps4
    go_wp2_with fail
    refine (alive17_any w).mono ?_
    rintro e w1 ⟨rfl, hb⟩
    have B1 := Lib.hid hb
    clear hb
    go_wp2_with fail
    go_ret
    exact ⟨rfl, B1.out⟩
  obtain ⟨s, rfl⟩ : ∃ m : Nat, size = m := ⟨size.toNat, by omega⟩
  have hs8 : s ≤ 8 := by omega
  generalize hn : l.length = n at *
  have HN := Lib.hid hn
  have hn60 : n ≤ 60 := by omega
  have HN6 := Lib.hid hn60
  clear hn
  go_enter Try.func4, Try.ntmps4
  go_wp2_with fail
  refine (alive17_any w).mono ?_
  rintro e w1 ⟨rfl, hb⟩
  have B1 := Lib.hid hb
  have R1 := Lib.hid ((HR.out.below hb).more hb.size)
  clear hb
  go_wp2_with fail
  go_loopw [8, 9] (fun wv iv wr => ∃ (i : Nat) (W : Int), i ≤ n ∧ iv = .int .i64 i ∧ wv = .int .i64 W ∧ (-1 ≤ W ∧ W ≤ 60) ∧ LastZ addr s l i W ∧ Below w1.heap.size w1 wr) (fun _ iv _ => n - (intOf iv).toNat)
  case atStart => exact ⟨0, -1, Nat.zero_le _, rfl, rfl, by omega, last_zero, Below.refl _ _⟩
  case round =>
    obtain ⟨i, W, hi, rfl, rfl, hW, hL, hB⟩ := hrel
    have HL := Lib.hid hL
    have HB := Lib.hid hB
    clear hL hB
    by_cases hlt : i < n
    · obtain ⟨x, hx⟩ : ∃ x, l[i]? = some x := ⟨_, List.getElem?_eq_getElem (by rw [HN.out]; exact hlt)⟩
      obtain ⟨g, off, rfl, hg, _⟩ := R1.out.at_ (by omega)
      have hrow := R1.out.below HB.out
      obtain ⟨d0, d1, d2, d3, d4⟩ := hrow.ent hx
      have hgz : g < wr.heap.size := Nat.lt_of_lt_of_le hg HB.out.size
      have k0 : (0 : Int) ≤ i := by omega
      have k1 : (i : Int) < n := by omega
      have HX := Lib.hid hx
      have HFX := Lib.hid (HF.out x (List.mem_of_getElem? hx))
      clear hrow hx d2 d3 d4
      by_cases b1 : x.addr < 0
      · go_wp2_with fail
        go_ret
        exact ⟨rfl, B1.out.trans (HB.out.mono B1.out.size)⟩
      by_cases b2 : 1000 < x.addr
      · go_wp2_with fail
        go_ret
        exact ⟨rfl, B1.out.trans (HB.out.mono B1.out.size)⟩
      by_cases b3 : x.size < 0
      · go_wp2_with fail
        go_ret
        exact ⟨rfl, B1.out.trans (HB.out.mono B1.out.size)⟩
      by_cases b4 : 8 < x.size
      · go_wp2_with fail
        go_ret
        exact ⟨rfl, B1.out.trans (HB.out.mono B1.out.size)⟩
      go_wp2_with fail
      go_loopw [8, 10] (fun wv kv wx => ∃ (k : Nat), k ≤ s ∧ kv = .int .i64 k ∧ wv = .int .i64 (wantK x.addr x.size addr i W k) ∧ Below wr.heap.size wr wx) (fun _ kv _ => s - (intOf kv).toNat)
      case atStart => exact ⟨0, Nat.zero_le _, rfl, by rw [want_0], Below.refl _ _⟩
      case round =>
        obtain ⟨k, hk, rfl, rfl, hB2⟩ := hrel
        have HB2 := Lib.hid hB2
        have e0 := (HB2.out.cell (p := ⟨g, off + i * 5, none⟩) hgz).trans d0
        have e1 := (HB2.out.cell (p := ⟨g, off + i * 5 + 1, none⟩) hgz).trans d1
        clear hB2
        have hgx := Nat.lt_of_lt_of_le hgz HB2.out.size
        by_cases hks : k < s
        · have k2 : (0 : Int) ≤ k := by omega
          have k3 : (k : Int) < s := by omega
          by_cases c1 : x.addr ≤ addr + k
          · by_cases c2 : addr + k < x.addr + x.size
            · have HW := Lib.hid (want_hit (i := i) (W := W) c1 c2)
              generalize wantK x.addr x.size addr i W k = W0 at *
              go_wp2_with fail
              go_quiet (fail)
              go_wp2_with fail
              go_roundw
              case rel => exact ⟨k + 1, by omega, by go_num, by rw [HW.out], Below.drewN_ HB2.out _⟩
              case measure => simp only [intOf]; omega
            · have HW := Lib.hid (want_miss (a := x.addr) (s := x.size) (addr := addr) (i := i) (W := W) (k := k) (by omega))
              generalize wantK x.addr x.size addr i W k = W0 at *
              go_wp2_with fail
              go_quiet (fail)
              go_wp2_with fail
              go_roundw
              case rel => exact ⟨k + 1, by omega, by go_num, by rw [HW.out], Below.drewN_ HB2.out _⟩
              case measure => simp only [intOf]; omega
          · have c3 : decide (x.addr ≤ addr + (k : Int)) = false := decide_eq_false c1
            have HW := Lib.hid (want_miss (a := x.addr) (s := x.size) (addr := addr) (i := i) (W := W) (k := k) (by omega))
            generalize wantK x.addr x.size addr i W k = W0 at *
            go_wp2_with fail
            go_quiet (fail)
            go_wp2_with fail
            go_roundw
            case rel => exact ⟨k + 1, by omega, by go_num, by rw [HW.out], Below.drewN_ HB2.out _⟩
            case measure => simp only [intOf]; omega
        · have hks' : k = s := by omega
          have HE := Lib.hid (want_end (n := k) (by omega) HL.out HX.out)
          have hWb : -1 ≤ wantK x.addr x.size addr i W k ∧ wantK x.addr x.size addr i W k ≤ 60 := by have := HN6.out; unfold wantK; split <;> omega
          have HWB := Lib.hid hWb
          clear hWb e0 e1
          generalize wantK x.addr x.size addr i W k = W0 at *
          go_wp2_with fail
          go_roundw
          case rel => exact ⟨i + 1, W0, by omega, by go_num, rfl, HWB.out, HE.out, HB.out.trans (HB2.out.mono HB.out.size)⟩
          case measure => simp only [intOf]; omega
    · have hin : i = n := by omega
      have Rr := Lib.hid ((R1.out.below HB.out).more HB.out.size)
      have HLn : Hid (LastZ addr s l n W) := Lib.hid (by rw [← hin]; exact HL.out)
      have Br := Lib.hid (B1.out.trans (HB.out.mono B1.out.size))
      clear HL hin
      rcases HLn.out with ⟨h1, h2⟩ | ⟨j, h1, h2, y, h3, h4, h5⟩
      · have HS := Lib.hid (search_none (addr := addr) (size := s) (l := l) (fun k x hx => h2 k x (by have := (List.getElem?_eq_some_iff.1 hx).1; rw [HN.out] at this; exact this) hx))
        subst h1
        clear h2 HLn
        go_wp2_with fail
        refine (search_n17 _ c n l HN.out addr s _ Rr.out HF.out (by omega) (by omega) (by omega)).mono ?_
        rintro e w3 ⟨rfl, hb3⟩
        rw [found_eq, HS.out.1, HS.out.2]
        have B3 := Lib.hid (Br.out.trans (hb3.mono Br.out.size))
        clear hb3
        try dsimp only
        go_wp2_with (first
          | (refine wpList_store_box rfl 25 (.tmp 11) (.tmp 111) rfl w3.heap.size 0 [.int .i64 0, .int .i64 0, .int .i64 0, .bool false, .int .u32 0] rfl rfl _ (Box.new w3 (entL noE) 25) (Nat.le_refl 5) 5 (by kernel_rfl) rfl (ent_one noE) ?_; intro w4 hX2 hg2; have B4 := Lib.hid (B3.out.trans ((box_storedE hg2).mono B3.out.size)); clear hX2 hg2))
        go_quiet (fail)
        go_wp2_with fail
        go_ret
        exact ⟨rfl, Below.drewN_ B4.out _⟩
      · have HS := Lib.hid (search_at (fun k x hk hx => h5 k x hk (by have := (List.getElem?_eq_some_iff.1 hx).1; rw [HN.out] at this; exact this) hx) h3 h4)
        subst h1
        have HY := Lib.hid h3
        obtain ⟨g, off, rfl, hg, _⟩ := R1.out.at_ (by omega)
        have j0 : (0 : Int) ≤ j := by omega
        have j1 : (j : Int) < n := by omega
        clear h3 h4 h5 HLn
        go_wp2_with fail
        refine (search_n17 _ c n l HN.out addr s _ Rr.out HF.out (by omega) (by omega) (by omega)).mono ?_
        rintro e w3 ⟨rfl, hb3⟩
        rw [found_eq, HS.out.1, HS.out.2]
        have B3 := Lib.hid (Br.out.trans (hb3.mono Br.out.size))
        have R3 := Lib.hid ((Rr.out.below hb3).more hb3.size)
        clear hb3
        try dsimp only
        go_wp2_with (first
          | (refine wpList_store_box rfl 25 (.tmp 11) (.tmp 111) rfl w3.heap.size 0 [.int .i64 y.addr, .int .i64 y.size, .int .i64 y.step, .bool y.known, .int .u32 y.val] rfl rfl _ (Box.new w3 (entL noE) 25) (Nat.le_refl 5) 5 (by kernel_rfl) rfl (ent_one y) ?_; intro w4 hX2 hg2; have B4 := Lib.hid (B3.out.trans ((box_storedE hg2).mono B3.out.size)); have R4 := Lib.hid ((R3.out.below (box_storedE hg2)).more (box_storedE hg2).size); have HX4 : Hid (Box w4 w3.heap.size (entL y)) := Lib.hid hX2; clear hX2 hg2))
        obtain ⟨d0, d1, d2, d3, d4⟩ := R4.out.ent HY.out
        have f0 : w4.cell? ⟨w3.heap.size, 0, none⟩ = some (.int .i64 y.addr) := HX4.out.cell rfl
        have f1 : w4.cell? ⟨w3.heap.size, 1, none⟩ = some (.int .i64 y.size) := HX4.out.cell rfl
        have f2 : w4.cell? ⟨w3.heap.size, 2, none⟩ = some (.int .i64 y.step) := HX4.out.cell rfl
        have f3 : w4.cell? ⟨w3.heap.size, 3, none⟩ = some (.bool y.known) := HX4.out.cell rfl
        have f4 : w4.cell? ⟨w3.heap.size, 4, none⟩ = some (.int .u32 y.val) := HX4.out.cell rfl
        go_quiet (fail)
        go_wp2_with fail
        go_ret
        exact ⟨rfl, Below.drewN_ B4.out _⟩
end Go.Proofs.Ytjkijjbakocilaa.Words

/- The walk of law 13's SplitEach. -/
import Derived.Test.YtbibfpopkcekdaaG12
import Derived.Test.YtbibfpopkcekdaaSSplClosed
import Derived.Test.YtbibfpopkcekdaaSSplEachMath
import Derived.Test.YtbibfpopkcekdaaG13
import Derived.Test.YtbibfpopkcekdaaG04
namespace Go.Proofs.Ytbibfpopkcekdaa.Words
set_option maxRecDepth 100000
open Go.RowKit
set_option linter.unusedVariables false
set_option linter.unusedSimpArgs false

theorem few_partsE {n m : Nat} (h : fewB n m = true) : n ≤ 200 ∧ m ≤ 500 := of_decide_eq_true h
theorem cell_ltE {w : World} {b off : Nat} {v : Value} (h : w.cell? ⟨b, off, none⟩ = some v) : b < w.heap.size := by
  rcases Nat.lt_or_ge b w.heap.size with h1 | h1
  · exact h1
  · simp only [World.cell?] at h; rw [Array.getElem?_eq_none h1] at h; simp at h
theorem nums_made (n : Nat) : (madeCells (Value.int .i64 0).cells (n * 1)).toList = (List.replicate n (0 : Int)).map (Value.int .i64) := by
  rw [Nat.mul_one]
  have := toList_madeCells_one (.int .i64 0) n
  rw [List.map_replicate]
  exact this
theorem cntV_ints {n : Nat} (cs : List Cel) {j : Nat} (h : j < n) : ((cntV n cs).map (Value.int .i64))[j]? = some (.int .i64 (cntZ cs j : Int)) := by rw [List.getElem?_map, cntV_at cs h]; rfl
theorem cntV_put {n q : Nat} {cs : List Cel} {x : Cel} (hq : q < n) (hx : x.pc = (q : Int)) : ((cntV n cs).map (Value.int .i64)).set q (.int .i64 ((cntZ cs q : Int) + 1)) = (cntV n (cs ++ [x])).map (Value.int .i64) := by
  rw [← cntV_set hq hx, List.map_set]
/-- What stands while the counts are made. -/
structure EachS (hb N : Nat) (base : World) (cs : List Cel) (y : World) : Prop where
  keep : KeepS (fun j => j = hb) base y
  own : y.ownsRow hb 3 1 (.slice (some ⟨hb, 0, none⟩) N N) N ((cntV N cs).map (Value.int .i64))
theorem EachS.below {hb N : Nat} {base y y' : World} {cs : List Cel} (h : EachS hb N base cs y) (hb' : Below y.heap.size y y') : EachS hb N base cs y' := ⟨h.keep.go hb', own_below h.own hb'⟩
theorem EachS.lt {hb N : Nat} {base y : World} {cs : List Cel} (h : EachS hb N base cs y) : hb < y.heap.size := (h.own.lt hb rfl).2
theorem EachS.put {hb N q : Nat} {base y : World} {cs : List Cel} {x : Cel} (h : EachS hb N base cs y) (hq : q < N) (hx : x.pc = (q : Int)) : EachS hb N base (cs ++ [x]) (y.setCell ⟨hb, q, none⟩ (.int .i64 ((cntZ cs q : Int) + 1))) := by
  refine ⟨h.keep.trans ((KeepS.refl (fun j => j = hb) y).setCell rfl _ _), ?_⟩
  have := (h.own.stored q (.int .i64 ((cntZ cs q : Int) + 1))).1
  rwa [cntV_put hq hx] at this
theorem EachS.from {hb N : Nat} {base y y' : World} {cs : List Cel} (h : EachS hb N y cs y') (k : KeepS (fun j => j = hb) base y) : EachS hb N base cs y' := ⟨k.trans h.keep, h.own⟩
theorem EachS.again {hb N : Nat} {base y : World} {cs : List Cel} (h : EachS hb N base cs y) : EachS hb N y cs y := ⟨KeepS.refl _ _, h.own⟩

set_option maxHeartbeats 8000000 in
theorem splitEach_walk (A : Option Addr) (c : Nat) (D : Option Addr) (d : Nat) (p : Prog) (w : World)
    (hf : p.Fits) (hp : ProgV w w.heap.size (.slice A p.code.length c) (.slice D p.data.length d) p) :
    Calls Try.prog 5 #[.agg #[.slice A p.code.length c, .int .i64 p.size, .slice D p.data.length d]] w fun e w' => e = .returned (.bool true) ∧ Below w.heap.size w w' := by
  obtain ⟨i0, hi, hq0, hq1, hq2⟩ := info_parts info_cel
  have HI := Lib.hid hi
  have HZ0 := Lib.hid hq0
  have HZ1 := Lib.hid hq1
  have HZ2 := Lib.hid hq2
  clear hi hq0 hq1 hq2
  obtain ⟨i1, hi1, hn0, hn1, hn2⟩ := info_parts info_intB
  have HI1 := Lib.hid hi1
  have HN0 := Lib.hid hn0
  have HN1 := Lib.hid hn1
  have HN2 := Lib.hid hn2
  clear hi1 hn0 hn1 hn2
  obtain ⟨u1, u2⟩ := hp.code.cap
  obtain ⟨u3, u4⟩ := hp.data.cap
  obtain ⟨W, hW⟩ : ∃ W, W = w.alloc (.cells #[.slice A p.code.length c, .int .i64 p.size, .slice D p.data.length d] 25) := ⟨_, rfl⟩
  have HK0 : Hid (Below w.heap.size w W) := by rw [hW]; exact (Below.refl w.heap.size w).alloc (Nat.le_refl _) _
  have XP0 : Hid (Box W w.heap.size [.slice A p.code.length c, .int .i64 p.size, .slice D p.data.length d]) := by rw [hW]; exact Box.new w _ _
  have RC0 := Lib.hid ((hp.code.below HK0.out).more HK0.out.size)
  clear hp hf
  go_enter Try.func5, Try.ntmps5
  go_upto_region 1 with (fail)
  change Code.wp _ _ _ _ (w.alloc (.cells #[.slice A p.code.length c, .int .i64 p.size, .slice D p.data.length d] 25))
  rw [← hW]
  clear hW
  go_wp2_with fail
  refine (alive13_any _).mono ?_; rintro e w1 ⟨rfl, hb1⟩
  have HK1 := Lib.hid (HK0.out.trans ((hb1).mono HK0.out.size))
  have XP1 := Lib.hid (XP0.out.below (hb1) XP0.out.lt)
  have RC1 := Lib.hid ((RC0.out.below (hb1)).more (hb1).size)
  clear XP0 RC0 HK0
  clear hb1
  go_wp2_with (first
    | (refine wpList_load_box rfl 25 (.tmp 1) rfl w.heap.size 0 rfl [.slice A p.code.length c, .int .i64 p.size, .slice D p.data.length d] [.slice A p.code.length c, .int .i64 p.size, .slice D p.data.length d] XP1.out whole_at _ Try.underlying25 rfl 3 size_prg rfl ?_))
  refine (few_any A D p.code.length c p.data.length d p.size _ (by omega) (by omega)).mono ?_; rintro e w2 ⟨rfl, hb2⟩
  have HK2 := Lib.hid (HK1.out.trans ((hb2).mono HK1.out.size))
  have XP2 := Lib.hid (XP1.out.below (hb2) XP1.out.lt)
  have RC2 := Lib.hid ((RC1.out.below (hb2)).more (hb2).size)
  clear XP1 RC1 HK1
  clear hb2
  cases hfew : fewB p.code.length p.data.length
  · try dsimp only
    go_wp2_with (first
      | (refine wpList_load_box rfl 25 (.tmp 1) rfl w.heap.size 0 rfl [.slice A p.code.length c, .int .i64 p.size, .slice D p.data.length d] [.slice A p.code.length c, .int .i64 p.size, .slice D p.data.length d] XP2.out whole_at _ Try.underlying25 rfl 3 size_prg rfl ?_))
    go_ret
    exact ⟨by first | rfl | trivial, HK2.out⟩

  obtain ⟨f200, _⟩ := few_partsE hfew
  clear hfew
  try dsimp only
  go_wp2_with (first
    | (refine wpList_load_box rfl 25 (.tmp 1) rfl w.heap.size 0 rfl [.slice A p.code.length c, .int .i64 p.size, .slice D p.data.length d] [.slice A p.code.length c, .int .i64 p.size, .slice D p.data.length d] XP2.out whole_at _ Try.underlying25 rfl 3 size_prg rfl ?_))
  refine (refRight_any A c p.size D p.data.length d p.code _ RC2.out (by omega) (by omega)).mono ?_; rintro e w3 ⟨rfl, hb3⟩
  have HK3 := Lib.hid (HK2.out.trans ((hb3).mono HK2.out.size))
  have XP3 := Lib.hid (XP2.out.below (hb3) XP2.out.lt)
  have RC3 := Lib.hid ((RC2.out.below (hb3)).more (hb3).size)
  clear XP2 RC2 HK2
  clear hb3
  cases hri : rightZ p.code p.size p.data.length
  · try dsimp only
    go_wp2_with (first
      | (refine wpList_load_box rfl 25 (.tmp 1) rfl w.heap.size 0 rfl [.slice A p.code.length c, .int .i64 p.size, .slice D p.data.length d] [.slice A p.code.length c, .int .i64 p.size, .slice D p.data.length d] XP3.out whole_at _ Try.underlying25 rfl 3 size_prg rfl ?_))
    go_ret
    exact ⟨by first | rfl | trivial, HK3.out⟩

  have HRI := Lib.hid hri
  clear hri
  try dsimp only
  go_wp2_with (first
    | (refine wpList_load_box rfl 25 (.tmp 1) rfl w.heap.size 0 rfl [.slice A p.code.length c, .int .i64 p.size, .slice D p.data.length d] [.slice A p.code.length c, .int .i64 p.size, .slice D p.data.length d] XP3.out whole_at _ Try.underlying25 rfl 3 size_prg rfl ?_))
  refine (splOf_any A c p.size D p.data.length d p.code _ RC3.out (by omega) (by omega)).mono ?_; rintro e w4 ⟨v4, rfl, hv4, hb4⟩
  obtain ⟨q1, q2, q3⟩ := with_yes (closedS_least HRI.out)
  rw [q1] at hv4
  rw [q2, q3]
  clear q1 q2 q3
  obtain ⟨z1, hz1⟩ : ∃ z1, z1 = zeroed (ofZ p.code p.size p.data.length) := ⟨_, rfl⟩
  obtain ⟨O1, hO1⟩ : ∃ O1, O1 = ofZ p.code p.size p.data.length := ⟨_, rfl⟩
  have N1 : Hid (O1.length = 16) := by rw [hO1]; exact ofZ_len
  rw [← hz1] at hv4
  rw [← hO1]
  clear hz1 hO1
  have hc := cut_some (closedS_least HRI.out)
  have HCNT := Lib.hid (all_cnt z1 HRI.out)
  obtain ⟨bs, hbs⟩ : ∃ bs, bs = cutR p.code p.size p.data.length := ⟨_, rfl⟩
  rw [← hbs] at hv4 hc HCNT
  have HBE := Lib.hid (fun (k : Nat) (b : Blk) (h : bs[k]? = some b) => blk_ends (l := p.code) (sz := p.size) (m := p.data.length) (k := k) (b := b) (by rw [← hbs]; exact h))
  have HBS := Lib.hid hbs
  clear hbs
  obtain ⟨n, hn⟩ : ∃ n, n = bs.length := ⟨_, rfl⟩
  rw [← hn] at hc
  have hn0 : 0 < n := hc.1
  have HN := Lib.hid hn
  obtain ⟨A4, c4, rfl⟩ := hv4.blks.form
  have hn2 : (n : Int) ≤ 200 := by have h1 := cut_len p.code p.size p.data.length; rw [← HBS.out, ← hn] at h1; omega
  rw [List.length_map, ← hn] at hv4 ⊢
  obtain ⟨B, hB⟩ : ∃ B, B = bs.map (fillB z1 p.code) := ⟨_, rfl⟩
  rw [← hB] at hv4 HCNT
  have HBB := Lib.hid hB
  have HV4 : Hid (BlksV w4 w4.heap.size (.slice A4 n c4) B) := hv4.blks
  clear hn hv4 hc hB
  have HK4 := Lib.hid (HK3.out.trans ((hb4).mono HK3.out.size))
  have XP4 := Lib.hid (XP3.out.below (hb4) XP3.out.lt)
  have RC4 := Lib.hid ((RC3.out.below (hb4)).more (hb4).size)
  clear XP3 RC3 HK3
  clear hb4
  try dsimp only
  go_upto_region 5 with (first
    | (refine wpList_store_box rfl 29 (.tmp 4) (.tmp 29) rfl w4.heap.size 0 (splV (.slice A4 n c4) O1) rfl rfl zeroSpl (Box.new w4 zeroSpl 29) (by rw [splV_len N1.out]; decide) 17 size_spl (splV_len N1.out) (splV_one rfl) ?_; intro y4 B4 hg4; rw [splice_whole zeroSpl (splV (.slice A4 n c4) O1) (by rw [splV_len N1.out]; rfl)] at B4; have HX4 : Hid (Box y4 w4.heap.size (splV (.slice A4 n c4) O1)) := B4; have HS4 := Lib.hid (box_stored hg4); clear B4 hg4))
  have HK5 := Lib.hid (HK4.out.trans ((HS4.out).mono HK4.out.size))
  have XP5 := Lib.hid (XP4.out.below (HS4.out) XP4.out.lt)
  have RC5 := Lib.hid ((RC4.out.below (HS4.out)).more (HS4.out).size)
  clear XP4 RC4 HK4
  have XS5 := HX4
  have VS5 := Lib.hid ((HV4.out.below HS4.out).more HS4.out.size)
  clear HX4 HV4 HS4
  obtain ⟨b4, o4, rfl⟩ := VS5.out.spot (by rw [HBB.out, List.length_map, ← HN.out]; omega)
  obtain ⟨N, hN⟩ : ∃ N, N = p.code.length := ⟨_, rfl⟩
  have cp0 : y4.cell? ⟨w.heap.size, 0, none⟩ = some (.slice A p.code.length c) := XP5.out.cell (k := 0) rfl
  rw [← hN] at cp0 f200
  have HNC := Lib.hid hN
  clear hN
  obtain ⟨hb, hhb⟩ : ∃ hb, hb = y4.heap.size := ⟨_, rfl⟩
  go_upto_region 6 with (at_make; refine wpList_make_full _ rfl _ _ 49 rfl y4.heap.size 3 i1 (.int .i64 0) 1 Try.underlying49 HI1.out HN0.out HN1.out .i64 .i64 _ _ N rfl rfl (by omega) (by omega) (by rw [HN2.out]; omega) (by unfold maxLen; omega) (Nat.le_refl _) ?_; rotate_right; intro y5 hown hg5; rw [nums_made] at hown; have hb5 : Below y4.heap.size y4 y5 := Below.grown (Below.refl _ _) hg5 (Nat.le_refl _) (fun q hq => nomatch hq); rw [← hhb] at hown hb5; have HOWN := Lib.hid hown; have HB5 := Lib.hid hb5; clear hown hg5 hb5)
  rw [← hhb]
  have HX5 : Hid (Box y5 w4.heap.size (splV (.slice (some ⟨b4, o4, none⟩) n c4) O1)) := XS5.out.below HB5.out (by rw [hhb]; exact XS5.out.lt)
  have HV5 : Hid (BlksV y5 hb (.slice (some ⟨b4, o4, none⟩) n c4) B) := (show BlksV y4 hb _ _ by rw [hhb]; exact VS5.out).below HB5.out
  have HKY : Hid (Below w.heap.size w y5) := HK5.out.trans (HB5.out.mono (by rw [hhb]; exact HK5.out.size))
  have HSX : Hid (w4.heap.size < hb) := by rw [hhb]; exact XS5.out.lt
  have HPX : Hid (w.heap.size < hb) := by rw [hhb]; exact XP5.out.lt
  have HE5 : Hid (EachS hb N y5 [] y5) := ⟨KeepS.refl _ _, by rw [cntV_nil]; exact HOWN.out⟩
  clear XP5 RC5 XS5 VS5 HK5 HOWN HB5 hhb cp0
  have HDN := Lib.hid (fun (y : World) (h : KeepS (fun j => j = hb) y5 y) => (h.below (B := hb) (by have := HE5.out.lt; omega) (fun j e => by omega) : Below hb y5 y))
  have HA := Lib.hid (fun j (h : j < n) => bs_at (l := bs) (k := j) (by have := HN.out; omega))
  have e0 : allCs (B.take 0) = [] := rfl
  rw [← e0] at HE5
  clear e0
  go_wp2_with fail
  go_loopw [7] (fun ii wr => ∃ k : Nat, k ≤ n ∧ ii = .int .i64 k ∧ EachS hb N y5 (allCs (B.take k)) wr) (fun ii _ => n - (intOf ii).toNat)
  case atStart => exact ⟨0, Nat.zero_le _, rfl, HE5.out⟩
  case round =>
    obtain ⟨k, hk, rfl, hE⟩ := hrel
    have HE := Lib.hid hE
    have hdn := HDN.out _ hE.keep
    have s0 : wr.cell? ⟨w4.heap.size, 0, none⟩ = some (.slice (some ⟨b4, o4, none⟩) n c4) := (HX5.out.below hdn HSX.out).cell (k := 0) rfl
    by_cases hlt : k < n
    · obtain ⟨b, hb0⟩ := HA.out k hlt
      obtain ⟨f, t, h1, h2, hft, htl⟩ := HBE.out k b hb0
      have hBk : B[k]? = some (fillB z1 p.code b) := by rw [HBB.out]; exact fill_at hb0
      obtain ⟨A6, c6, A7, c7, a0, a1, a2, a3, a4, a5, ra, re⟩ := (HV5.out.below hdn).at_ hBk
      obtain ⟨ls, hls⟩ : ∃ ls, ls = blkCs (fillB z1 p.code b) := ⟨_, rfl⟩
      obtain ⟨n6, hn6⟩ : ∃ n6, n6 = (fillB z1 p.code b).a.length := ⟨_, rfl⟩
      obtain ⟨n7, hn7⟩ : ∃ n7, n7 = (fillB z1 p.code b).e.length := ⟨_, rfl⟩
      have HLF : Hid (flat celCells (fillB z1 p.code b).a ++ flat celCells (fillB z1 p.code b).e = flat celCells ls) := by show _ = _; rw [hls]; unfold blkCs; rw [flat_append]
      have HLL : Hid (ls.length = n6 + n7) := by show _ = _; rw [hls, hn6, hn7]; unfold blkCs; rw [List.length_append]
      have HCL := Lib.hid (fun (q : Nat) (x : Cel) (hx : ls[q]? = some x) => blk_cell z1 (l := p.code) h1 h2 hft (k := q) (x := x) (by rw [← hls]; exact hx))
      have HCO := Lib.hid (fun (q : Nat) (x y : Cel) (hq : 0 < q) (hn : q ≠ n6) (hx : ls[q]? = some x) (hy : ls[q - 1]? = some y) => blk_order z1 (l := p.code) h1 h2 (k := q) (x := x) (y := y) hq (by rw [← hn6]; exact hn) (by rw [← hls]; exact hx) (by rw [← hls]; exact hy))
      have HCE := Lib.hid (fun (q : Nat) (hq : ls.length ≤ q) => (show allCs (B.take k) ++ ls.take q = allCs (B.take (k + 1)) by rw [hls] at hq ⊢; exact allCs_end hBk hq))
      have HCB := Lib.hid (fun (q j : Nat) (hj : j < N) => (show cntZ (allCs (B.take k) ++ ls.take q) j ≤ 6 by rw [hls]; exact Nat.le_trans (each_le hBk j) (HCNT.out j (by rw [← HNC.out]; exact hj)).2))
      have htn : t ≤ N := by rw [HNC.out]; exact htl
      have hA3 : n6 ≤ 600 := by
        rw [hn6]; have := fillA_len z1 p.code b.from_.toNat (b.to - b.from_).toNat
        show (fillA z1 p.code b.from_.toNat (b.to - b.from_).toNat).length ≤ 600
        rw [h1, h2] at this ⊢; omega
      have hE3 : n7 ≤ 600 := by
        rw [hn7]; have := fillE_len z1 p.code b.from_.toNat (b.to - b.from_).toNat
        show (fillE z1 p.code b.from_.toNat (b.to - b.from_).toNat).length ≤ 600
        rw [h1, h2] at this ⊢; omega
      rw [← hn6] at a4 ra
      rw [← hn7] at a5 re
      change _ = some (Value.int .i64 b.from_) at a0
      change _ = some (Value.int .i64 b.to) at a1
      change _ = some (Value.int .i64 b.next) at a2
      change _ = some (Value.int .i64 b.taken) at a3
      rw [h1] at a0
      rw [h2] at a1
      obtain ⟨la, hla⟩ : ∃ la, la = flat celCells (fillB z1 p.code b).a := ⟨_, rfl⟩
      obtain ⟨le, hle⟩ : ∃ le, le = flat celCells (fillB z1 p.code b).e := ⟨_, rfl⟩
      have HOA : Hid (∀ u ∈ la, u.oneCell' = true) := by rw [hla]; exact flat_one9 _
      have HOE : Hid (∀ u ∈ le, u.oneCell' = true) := by rw [hle]; exact flat_one9 _
      rw [← hla] at ra HLF
      rw [← hle] at re HLF
      have HRA := Lib.hid ra
      have HRE := Lib.hid re
      have x6 : b4 < wr.heap.size := cell_ltE a0
      have x7 : hb < wr.heap.size := hE.lt
      have HX7 := Lib.hid x7
      have g0 : (0 : Int) ≤ k := by omega
      have g1 : (k : Int) < n := by omega
      have HTN := Lib.hid htn
      have HFT := Lib.hid hft
      have HA3 := Lib.hid hA3
      have HE3 := Lib.hid hE3
      obtain ⟨wa, hwa⟩ : ∃ wa, wa = wr.alloc (.cells #[.int .i64 (f : Int), .int .i64 (t : Int), .int .i64 b.next, .int .i64 b.taken, .slice A6 n6 c6, .slice A7 n7 c7] 47) := ⟨_, rfl⟩
      have HBX : Hid (Box wa wr.heap.size [.int .i64 (f : Int), .int .i64 (t : Int), .int .i64 b.next, .int .i64 b.taken, .slice A6 n6 c6, .slice A7 n7 c7]) := by rw [hwa]; exact Box.new wr _ _
      have HWA : Hid (Below wr.heap.size wr wa) := by rw [hwa]; exact (Below.refl _ _).alloc (Nat.le_refl _) _
      clear hb0 h1 h2 hft htl hBk hE hdn hls hn6 hn7 hla hle ra re htn hA3 hE3
      go_upto_region 10 with (fail)
      change Code.wp _ _ _ _ (wr.alloc (.cells #[.int .i64 (f : Int), .int .i64 (t : Int), .int .i64 b.next, .int .i64 b.taken, .slice A6 n6 c6, .slice A7 n7 c7] 47))
      rw [← hwa]
      clear hwa a0 a1 a2 a3 a4 a5 s0 x6 x7
      obtain ⟨xb, hxb⟩ : ∃ xb, xb = wr.heap.size := ⟨_, rfl⟩
      rw [← hxb] at HBX ⊢
      have HXB := Lib.hid hxb
      clear hxb
      have HZA : Hid (xb < wa.heap.size) := HBX.out.lt
      refine wp_region_lin [(0, true), (1, true), (3, true), (4, true), (2, false), (5, false), (6, true)]
        (by kernel_rfl) (by kernel_rfl) rfl (by kernel_rfl) (fun y => Box y xb [.int .i64 (f : Int), .int .i64 (t : Int), .int .i64 b.next, .int .i64 b.taken, .slice A6 n6 c6, .slice A7 n7 c7]) ?_
      simp only [List.map_cons, List.map_nil, List.getElem?_toArray, List.getElem?_cons_succ, List.getElem?_cons_zero]
      have k0 := HBX.out.drew
      iterate 4 (refine lin_take (v := ?_) k0 (by rfl) ?_ ?_; rotate_left; (intro y hy; have q4 := hy.cell (k := 4) rfl; have q5 := hy.cell (k := 5) rfl; go_simp; try (with_reducible rfl)); (try simp only [Act.put, List.setIfInBounds_toArray, List.set_cons_zero, List.set_cons_succ]))
      refine lin_call k0 (by rfl) (fun K hK => ?_)
      have hRA0 : Row wa.drew hb 9 (.slice A6 n6 c6) n6 la := HRA.out.below (HWA.out.mono (Nat.le_of_lt HX7.out)) |>.drew
      refine wp_append_new _ (.const (.slice none 0 0)) (.tmp 48) 45 rfl wa.heap.size 53 i0 _ 9 72 Try.underlying45 HI.out HZ0.out HZ1.out HZ2.out rfl (by omega) (.slice none 0 0) 0 [] rfl (World.ownsRow_nil _ _ _ _) _ (.slice A6 n6 c6) n6 la rfl hRA0 HOA.out (by unfold maxLen; have := HA3.out; omega) (by have := HA3.out; omega) (Nat.le_refl _) ?_
      intro v1 y1 hO1' hg1 hn1
      have k1 := k0.keepS (KeepS.of_grown (S := fun _ => False) hg1 (fun g e => by cases e)) (fun e => e)
      have HY1 : Hid (Below wa.heap.size wa y1) := Below.grown (Below.refl _ _).drew hg1 (Nat.le_refl _) (fun q hq => by cases hq)
      have HOW1 : Hid (y1.ownsRow wa.heap.size 53 9 v1 n6 la) := by rw [List.nil_append, Nat.zero_add] at hO1'; exact hO1'
      obtain ⟨AA, ca, rfl⟩ := (Row.of_own HOW1.out).form
      refine hK.out _ _ k1 (fun _ => ?_)
      clear hK K hO1' hg1 hn1 hRA0
      (try simp only [Act.put, List.setIfInBounds_toArray, List.set_cons_zero, List.set_cons_succ])
      refine lin_call k1 (by rfl) (fun K hK => ?_)
      have hRE1 : Row y1 hb 9 (.slice A7 n7 c7) n7 le := (HRE.out.below (HWA.out.mono (Nat.le_of_lt HX7.out))).below (HY1.out.mono (by have := HX7.out; have := HXB.out; have := HZA.out; omega))
      refine wp_append_new _ (.tmp 49) (.tmp 51) 45 rfl wa.heap.size 53 i0 _ 9 72 Try.underlying45 HI.out HZ0.out HZ1.out HZ2.out rfl (by omega) (.slice AA n6 ca) n6 la rfl HOW1.out _ (.slice A7 n7 c7) n7 le rfl hRE1 HOE.out (by unfold maxLen; have := HA3.out; have := HE3.out; omega) (by have := HA3.out; have := HE3.out; omega) HY1.out.size ?_
      intro v2 y2 hO2' hg2 hn2'
      have hkk : KeepS (fun q => (Value.slice AA n6 ca).ownBlock = some q) y1 y2 := KeepS.of_grown hg2 (fun g e => e)
      have k2 := k1.keepS hkk (fun e => by have := (HOW1.out.lt _ e).1; have := HZA.out; omega)
      have HY2 : Hid (Below wa.heap.size wa y2) := HY1.out.trans (hkk.below HY1.out.size (fun q e => (HOW1.out.lt _ e).1))
      rw [HLF.out] at hO2'
      have HOW2 := Lib.hid hO2'
      obtain ⟨A9, c9, rfl⟩ := (Row.of_own HOW2.out).form
      refine hK.out _ _ k2 (fun _ => ?_)
      clear hK K hO2' hg2 hn2' hRE1 hkk k1
      (try simp only [Act.put, List.setIfInBounds_toArray, List.set_cons_zero, List.set_cons_succ])
      refine lin_take (v := ?_) k2 (by rfl) ?_ ?_; rotate_left; (intro y hy; go_simp; try (with_reducible rfl)); (try simp only [Act.put, List.setIfInBounds_toArray, List.set_cons_zero, List.set_cons_succ])
      refine lin_done ?_
      have HBX2 := Lib.hid k2
      have HY : Hid (Below wr.heap.size wr y2) := HWA.out.trans (HY2.out.mono HWA.out.size)
      have HE2 := Lib.hid (HE.out.below HY.out)
      clear k2 k0 HBX HOW1 HY1
      obtain ⟨N9, hN9⟩ : ∃ N9, N9 = n6 + n7 := ⟨_, rfl⟩
      rw [← hN9] at HOW2 HLL ⊢
      have HN9 : Hid (N9 ≤ 1200) := by have := HA3.out; have := HE3.out; show _ ≤ _; omega
      clear hN9
      have HR9 := Lib.hid (Row.of_own HOW2.out)
      have HV9 := Lib.hid (NewV.own HOW2.out)
      have e0 : allCs (B.take k) ++ ls.take 0 = allCs (B.take k) := by rw [List.take_zero, List.append_nil]
      have HE3' : Hid (EachS hb N y2 (allCs (B.take k) ++ ls.take 0) y2) := by rw [e0]; exact HE2.out.again
      clear e0
      have HHX : Hid (hb < wa.heap.size) := by have := HX7.out; have := HXB.out; have := HZA.out; show _ < _; omega
      go_wp2_with fail
      go_loopw [10] (fun ii wy => ∃ q : Nat, q ≤ N9 ∧ ii = .int .i64 q ∧ EachS hb N y2 (allCs (B.take k) ++ ls.take q) wy) (fun ii _ => N9 - (intOf ii).toNat)
      case atStart => exact ⟨0, Nat.zero_le _, rfl, HE3'.out⟩
      case round =>
        obtain ⟨q, hq, rfl, hE⟩ := hrel
        have HEx := Lib.hid hE
        have hg9 : (N9 : Int) ≤ 1200 := by have := HN9.out; omega
        by_cases hlq : q < N9
        · have hbx := HBX2.out.keepS hE.keep (fun e => by have := HX7.out; have := HXB.out; omega)
          have hr9 := row_keepN HR9.out HV9.out (Nat.le_refl _) hE.keep (fun j h1 _ e => by have := HHX.out; omega)
          obtain ⟨x, hx⟩ := at_someG (l := ls) (j := q) (by have := HLL.out; omega)
          obtain ⟨r, r1, r2, r3, r4⟩ := HCL.out q x hx
          have htn := HTN.out
          obtain ⟨l9, o9, rfl, _, _⟩ := hr9.at_ (by omega)
          obtain ⟨_, _, _, _, _, _, _, p7, p8⟩ := hr9.cel hx
          rw [r3] at p7
          rw [r4] at p8
          have q0 := hbx.cell (k := 0) rfl
          have q1 := hbx.cell (k := 1) rfl
          have q4 := hbx.cell (k := 4) rfl
          have hcb := HCB.out q r (by omega)
          obtain ⟨h, hh⟩ : ∃ h, h = cntZ (allCs (B.take k) ++ ls.take q) r := ⟨_, rfl⟩
          have qh : wr.cell? ⟨hb, r, none⟩ = some (.int .i64 (h : Int)) := by rw [hE.own.cellAt r (by omega), cntV_ints _ (by omega), hh]
          have qf : wr.frozen? ⟨hb, r, none⟩ = false := hE.own.frozenAt r
          have HP := Lib.hid (hE.put (x := x) (show r < N by omega) r3)
          rw [← hh] at HP hcb
          have HP2 : Hid (EachS hb N y2 (allCs (B.take k) ++ ls.take (q + 1)) (wr.setCell ⟨hb, r, none⟩ (.int .i64 ((h : Int) + 1)))) := by rw [take_snoc hx, ← List.append_assoc]; exact HP.out
          have HCO2 := Lib.hid (fun (y : Cel) (hq0 : 0 < q) (hn : q ≠ n6) (hy : ls[q - 1]? = some y) => HCO.out q x y hq0 hn hx hy)
          have HPR := Lib.hid (fun (y : Cel) (j : Nat) (hy : ls[j]? = some y) => (hr9.cel hy).2.2.2.2.2.2.2.1)
          have HAT := Lib.hid (fun (j : Nat) (hj : j < N9) => at_someG (l := ls) (j := j) (by have := HLL.out; omega))
          have HCL2 := HCL
          have g0 : (0 : Int) ≤ q := by omega
          have g1 : (q : Int) < N9 := by omega
          have g2 : (f : Int) ≤ r := by omega
          have g3 : (r : Int) < t := by omega
          have g4 : (0 : Int) ≤ r := by omega
          have g5 : (r : Int) < N := by omega
          have g6 : (h : Int) ≤ 6 := by omega
          have g7 : (0 : Int) ≤ h := by omega
          have g8 : (r : Int) ≤ 200 := by omega
          have g9 : (0 : Int) ≤ f := by omega
          have g10 : ¬ (r : Int) < f := by omega
          have g11 : ¬ (t : Int) ≤ r := by omega
          obtain ⟨o, ho⟩ : ∃ o : Int, o = (r : Int) - (f : Int) := ⟨_, rfl⟩
          have hor : 0 ≤ o ∧ o ≤ 200 := by omega
          rw [← ho] at p8
          have hsub : (r : Int) - (f : Int) = o := ho.symm
          have hw : IntKind.i64.wrap o = o := IntWalk.i64_in _ ⟨by omega, by omega⟩
          have n6i : (n6 : Int) ≤ 600 := by have := HA3.out; omega
          have HX3 := Lib.hid r3
          clear hbx hr9 hx r1 r2 r3 r4 hE hh HP ho
          by_cases hq0 : q = 0
          · subst hq0
            simp only [Nat.zero_mul, Nat.add_zero] at p7 p8
            go_upto_region 14 with (fail)
            refine wp_region_lin [(0, true), (1, true), (2, true), (3, true), (4, true), (5, true), (6, true), (7, true), (8, true), (9, true), (10, true), (11, true), (12, true), (13, true), (14, true), (15, true), (16, true), (17, true), (18, true), (19, true), (20, true), (21, true), (22, true), (23, true), (24, true), (25, true), (26, true), (27, true), (28, true), (29, true), (30, true), (31, true), (32, true), (33, true), (34, true), (35, true), (36, true), (37, true), (38, true), (39, true), (40, true), (41, true), (42, true), (43, true), (44, true), (45, true), (46, true), (47, true), (48, true), (49, true), (50, true), (51, true), (52, true), (53, true), (54, true), (55, true), (56, true), (57, true), (58, true)]
              (by kernel_rfl) (by kernel_rfl) rfl (by kernel_rfl) (Kept wr) ?_
            simp only [List.map_cons, List.map_nil, List.getElem?_toArray, List.getElem?_cons_succ, List.getElem?_cons_zero]
            have k0 : Kept wr wr.drew := (Kept.refl wr).drew
            refine lin_take (v := ?_) k0 (by rfl) ?_ ?_; rotate_left; (intro y hy; have p7y := hy.cell (cell_ltE p7) p7; have p8y := hy.cell (cell_ltE p8) p8; have q0y := hy.cell (cell_ltE q0) q0; have q1y := hy.cell (cell_ltE q1) q1; have q4y := hy.cell (cell_ltE q4) q4; go_simp; try (with_reducible rfl)); (try simp only [Act.put, List.setIfInBounds_toArray, List.set_cons_zero, List.set_cons_succ])
            refine lin_take (v := ?_) k0 (by rfl) ?_ ?_; rotate_left; (intro y hy; have p7y := hy.cell (cell_ltE p7) p7; have p8y := hy.cell (cell_ltE p8) p8; have q0y := hy.cell (cell_ltE q0) q0; have q1y := hy.cell (cell_ltE q1) q1; have q4y := hy.cell (cell_ltE q4) q4; go_simp; try (with_reducible rfl)); (try simp only [Act.put, List.setIfInBounds_toArray, List.set_cons_zero, List.set_cons_succ])
            refine lin_take (v := ?_) k0 (by rfl) ?_ ?_; rotate_left; (intro y hy; have p7y := hy.cell (cell_ltE p7) p7; have p8y := hy.cell (cell_ltE p8) p8; have q0y := hy.cell (cell_ltE q0) q0; have q1y := hy.cell (cell_ltE q1) q1; have q4y := hy.cell (cell_ltE q4) q4; go_simp; try (with_reducible rfl)); (try simp only [Act.put, List.setIfInBounds_toArray, List.set_cons_zero, List.set_cons_succ])
            refine lin_take (v := ?_) k0 (by rfl) ?_ ?_; rotate_left; (intro y hy; have p7y := hy.cell (cell_ltE p7) p7; have p8y := hy.cell (cell_ltE p8) p8; have q0y := hy.cell (cell_ltE q0) q0; have q1y := hy.cell (cell_ltE q1) q1; have q4y := hy.cell (cell_ltE q4) q4; go_simp; try (with_reducible rfl)); (try simp only [Act.put, List.setIfInBounds_toArray, List.set_cons_zero, List.set_cons_succ])
            refine lin_take (v := ?_) k0 (by rfl) ?_ ?_; rotate_left; (intro y hy; have p7y := hy.cell (cell_ltE p7) p7; have p8y := hy.cell (cell_ltE p8) p8; have q0y := hy.cell (cell_ltE q0) q0; have q1y := hy.cell (cell_ltE q1) q1; have q4y := hy.cell (cell_ltE q4) q4; go_simp; try (with_reducible rfl)); (try simp only [Act.put, List.setIfInBounds_toArray, List.set_cons_zero, List.set_cons_succ])
            refine lin_take (v := ?_) k0 (by rfl) ?_ ?_; rotate_left; (intro y hy; have p7y := hy.cell (cell_ltE p7) p7; have p8y := hy.cell (cell_ltE p8) p8; have q0y := hy.cell (cell_ltE q0) q0; have q1y := hy.cell (cell_ltE q1) q1; have q4y := hy.cell (cell_ltE q4) q4; go_simp; try (with_reducible rfl)); (try simp only [Act.put, List.setIfInBounds_toArray, List.set_cons_zero, List.set_cons_succ])
            refine lin_take (v := ?_) k0 (by rfl) ?_ ?_; rotate_left; (intro y hy; have p7y := hy.cell (cell_ltE p7) p7; have p8y := hy.cell (cell_ltE p8) p8; have q0y := hy.cell (cell_ltE q0) q0; have q1y := hy.cell (cell_ltE q1) q1; have q4y := hy.cell (cell_ltE q4) q4; go_simp; try (with_reducible rfl)); (try simp only [Act.put, List.setIfInBounds_toArray, List.set_cons_zero, List.set_cons_succ])
            refine lin_take (v := ?_) k0 (by rfl) ?_ ?_; rotate_left; (intro y hy; have p7y := hy.cell (cell_ltE p7) p7; have p8y := hy.cell (cell_ltE p8) p8; have q0y := hy.cell (cell_ltE q0) q0; have q1y := hy.cell (cell_ltE q1) q1; have q4y := hy.cell (cell_ltE q4) q4; go_simp; try (with_reducible rfl)); (try simp only [Act.put, List.setIfInBounds_toArray, List.set_cons_zero, List.set_cons_succ])
            refine lin_take (v := ?_) k0 (by rfl) ?_ ?_; rotate_left; (intro y hy; have p7y := hy.cell (cell_ltE p7) p7; have p8y := hy.cell (cell_ltE p8) p8; have q0y := hy.cell (cell_ltE q0) q0; have q1y := hy.cell (cell_ltE q1) q1; have q4y := hy.cell (cell_ltE q4) q4; go_simp; try (with_reducible rfl)); (try simp only [Act.put, List.setIfInBounds_toArray, List.set_cons_zero, List.set_cons_succ])
            refine lin_take (v := ?_) k0 (by rfl) ?_ ?_; rotate_left; (intro y hy; have p7y := hy.cell (cell_ltE p7) p7; have p8y := hy.cell (cell_ltE p8) p8; have q0y := hy.cell (cell_ltE q0) q0; have q1y := hy.cell (cell_ltE q1) q1; have q4y := hy.cell (cell_ltE q4) q4; go_simp; try (with_reducible rfl)); (try simp only [Act.put, List.setIfInBounds_toArray, List.set_cons_zero, List.set_cons_succ])
            refine lin_take (v := ?_) k0 (by rfl) ?_ ?_; rotate_left; (intro y hy; have p7y := hy.cell (cell_ltE p7) p7; have p8y := hy.cell (cell_ltE p8) p8; have q0y := hy.cell (cell_ltE q0) q0; have q1y := hy.cell (cell_ltE q1) q1; have q4y := hy.cell (cell_ltE q4) q4; go_simp; try (with_reducible rfl)); (try simp only [Act.put, List.setIfInBounds_toArray, List.set_cons_zero, List.set_cons_succ])
            refine lin_take (v := ?_) k0 (by rfl) ?_ ?_; rotate_left; (intro y hy; have p7y := hy.cell (cell_ltE p7) p7; have p8y := hy.cell (cell_ltE p8) p8; have q0y := hy.cell (cell_ltE q0) q0; have q1y := hy.cell (cell_ltE q1) q1; have q4y := hy.cell (cell_ltE q4) q4; go_simp; try (with_reducible rfl)); (try simp only [Act.put, List.setIfInBounds_toArray, List.set_cons_zero, List.set_cons_succ])
            refine lin_take (v := ?_) k0 (by rfl) ?_ ?_; rotate_left; (intro y hy; have p7y := hy.cell (cell_ltE p7) p7; have p8y := hy.cell (cell_ltE p8) p8; have q0y := hy.cell (cell_ltE q0) q0; have q1y := hy.cell (cell_ltE q1) q1; have q4y := hy.cell (cell_ltE q4) q4; go_simp; try (with_reducible rfl)); (try simp only [Act.put, List.setIfInBounds_toArray, List.set_cons_zero, List.set_cons_succ])
            refine lin_take (v := ?_) k0 (by rfl) ?_ ?_; rotate_left; (intro y hy; have p7y := hy.cell (cell_ltE p7) p7; have p8y := hy.cell (cell_ltE p8) p8; have q0y := hy.cell (cell_ltE q0) q0; have q1y := hy.cell (cell_ltE q1) q1; have q4y := hy.cell (cell_ltE q4) q4; go_simp; try (with_reducible rfl)); (try simp only [Act.put, List.setIfInBounds_toArray, List.set_cons_zero, List.set_cons_succ])
            refine lin_take (v := ?_) k0 (by rfl) ?_ ?_; rotate_left; (intro y hy; have p7y := hy.cell (cell_ltE p7) p7; have p8y := hy.cell (cell_ltE p8) p8; have q0y := hy.cell (cell_ltE q0) q0; have q1y := hy.cell (cell_ltE q1) q1; have q4y := hy.cell (cell_ltE q4) q4; go_simp; try (with_reducible rfl)); (try simp only [Act.put, List.setIfInBounds_toArray, List.set_cons_zero, List.set_cons_succ])
            refine lin_take (v := ?_) k0 (by rfl) ?_ ?_; rotate_left; (intro y hy; have p7y := hy.cell (cell_ltE p7) p7; have p8y := hy.cell (cell_ltE p8) p8; have q0y := hy.cell (cell_ltE q0) q0; have q1y := hy.cell (cell_ltE q1) q1; have q4y := hy.cell (cell_ltE q4) q4; go_simp; try (with_reducible rfl)); (try simp only [Act.put, List.setIfInBounds_toArray, List.set_cons_zero, List.set_cons_succ])
            refine lin_take (v := ?_) k0 (by rfl) ?_ ?_; rotate_left; (intro y hy; have p7y := hy.cell (cell_ltE p7) p7; have p8y := hy.cell (cell_ltE p8) p8; have q0y := hy.cell (cell_ltE q0) q0; have q1y := hy.cell (cell_ltE q1) q1; have q4y := hy.cell (cell_ltE q4) q4; go_simp; try (with_reducible rfl)); (try simp only [Act.put, List.setIfInBounds_toArray, List.set_cons_zero, List.set_cons_succ])
            refine lin_take (v := ?_) k0 (by rfl) ?_ ?_; rotate_left; (intro y hy; have p7y := hy.cell (cell_ltE p7) p7; have p8y := hy.cell (cell_ltE p8) p8; have q0y := hy.cell (cell_ltE q0) q0; have q1y := hy.cell (cell_ltE q1) q1; have q4y := hy.cell (cell_ltE q4) q4; go_simp; try (with_reducible rfl)); (try simp only [Act.put, List.setIfInBounds_toArray, List.set_cons_zero, List.set_cons_succ])
            refine lin_take (v := ?_) k0 (by rfl) ?_ ?_; rotate_left; (intro y hy; have p7y := hy.cell (cell_ltE p7) p7; have p8y := hy.cell (cell_ltE p8) p8; have q0y := hy.cell (cell_ltE q0) q0; have q1y := hy.cell (cell_ltE q1) q1; have q4y := hy.cell (cell_ltE q4) q4; go_simp; try (with_reducible rfl)); (try simp only [Act.put, List.setIfInBounds_toArray, List.set_cons_zero, List.set_cons_succ])
            refine lin_take (v := ?_) k0 (by rfl) ?_ ?_; rotate_left; (intro y hy; have p7y := hy.cell (cell_ltE p7) p7; have p8y := hy.cell (cell_ltE p8) p8; have q0y := hy.cell (cell_ltE q0) q0; have q1y := hy.cell (cell_ltE q1) q1; have q4y := hy.cell (cell_ltE q4) q4; go_simp; try (with_reducible rfl)); (try simp only [Act.put, List.setIfInBounds_toArray, List.set_cons_zero, List.set_cons_succ])
            refine lin_take (v := ?_) k0 (by rfl) ?_ ?_; rotate_left; (intro y hy; have p7y := hy.cell (cell_ltE p7) p7; have p8y := hy.cell (cell_ltE p8) p8; have q0y := hy.cell (cell_ltE q0) q0; have q1y := hy.cell (cell_ltE q1) q1; have q4y := hy.cell (cell_ltE q4) q4; go_simp; try (with_reducible rfl)); (try simp only [Act.put, List.setIfInBounds_toArray, List.set_cons_zero, List.set_cons_succ])
            refine lin_take (v := ?_) k0 (by rfl) ?_ ?_; rotate_left; (intro y hy; have p7y := hy.cell (cell_ltE p7) p7; have p8y := hy.cell (cell_ltE p8) p8; have q0y := hy.cell (cell_ltE q0) q0; have q1y := hy.cell (cell_ltE q1) q1; have q4y := hy.cell (cell_ltE q4) q4; go_simp; try (with_reducible rfl)); (try simp only [Act.put, List.setIfInBounds_toArray, List.set_cons_zero, List.set_cons_succ])
            refine lin_take (v := ?_) k0 (by rfl) ?_ ?_; rotate_left; (intro y hy; have p7y := hy.cell (cell_ltE p7) p7; have p8y := hy.cell (cell_ltE p8) p8; have q0y := hy.cell (cell_ltE q0) q0; have q1y := hy.cell (cell_ltE q1) q1; have q4y := hy.cell (cell_ltE q4) q4; go_simp; try (with_reducible rfl)); (try simp only [Act.put, List.setIfInBounds_toArray, List.set_cons_zero, List.set_cons_succ])
            refine lin_take (v := ?_) k0 (by rfl) ?_ ?_; rotate_left; (intro y hy; have p7y := hy.cell (cell_ltE p7) p7; have p8y := hy.cell (cell_ltE p8) p8; have q0y := hy.cell (cell_ltE q0) q0; have q1y := hy.cell (cell_ltE q1) q1; have q4y := hy.cell (cell_ltE q4) q4; go_simp; try (with_reducible rfl)); (try simp only [Act.put, List.setIfInBounds_toArray, List.set_cons_zero, List.set_cons_succ])
            refine lin_take (v := ?_) k0 (by rfl) ?_ ?_; rotate_left; (intro y hy; have p7y := hy.cell (cell_ltE p7) p7; have p8y := hy.cell (cell_ltE p8) p8; have q0y := hy.cell (cell_ltE q0) q0; have q1y := hy.cell (cell_ltE q1) q1; have q4y := hy.cell (cell_ltE q4) q4; go_simp; try (with_reducible rfl)); (try simp only [Act.put, List.setIfInBounds_toArray, List.set_cons_zero, List.set_cons_succ])
            refine lin_take (v := ?_) k0 (by rfl) ?_ ?_; rotate_left; (intro y hy; have p7y := hy.cell (cell_ltE p7) p7; have p8y := hy.cell (cell_ltE p8) p8; have q0y := hy.cell (cell_ltE q0) q0; have q1y := hy.cell (cell_ltE q1) q1; have q4y := hy.cell (cell_ltE q4) q4; go_simp; try (with_reducible rfl)); (try simp only [Act.put, List.setIfInBounds_toArray, List.set_cons_zero, List.set_cons_succ])
            refine lin_take (v := ?_) k0 (by rfl) ?_ ?_; rotate_left; (intro y hy; have p7y := hy.cell (cell_ltE p7) p7; have p8y := hy.cell (cell_ltE p8) p8; have q0y := hy.cell (cell_ltE q0) q0; have q1y := hy.cell (cell_ltE q1) q1; have q4y := hy.cell (cell_ltE q4) q4; go_simp; try (with_reducible rfl)); (try simp only [Act.put, List.setIfInBounds_toArray, List.set_cons_zero, List.set_cons_succ])
            refine lin_take (v := ?_) k0 (by rfl) ?_ ?_; rotate_left; (intro y hy; have p7y := hy.cell (cell_ltE p7) p7; have p8y := hy.cell (cell_ltE p8) p8; have q0y := hy.cell (cell_ltE q0) q0; have q1y := hy.cell (cell_ltE q1) q1; have q4y := hy.cell (cell_ltE q4) q4; go_simp; try (with_reducible rfl)); (try simp only [Act.put, List.setIfInBounds_toArray, List.set_cons_zero, List.set_cons_succ])
            refine lin_take (v := ?_) k0 (by rfl) ?_ ?_; rotate_left; (intro y hy; have p7y := hy.cell (cell_ltE p7) p7; have p8y := hy.cell (cell_ltE p8) p8; have q0y := hy.cell (cell_ltE q0) q0; have q1y := hy.cell (cell_ltE q1) q1; have q4y := hy.cell (cell_ltE q4) q4; go_simp; try (with_reducible rfl)); (try simp only [Act.put, List.setIfInBounds_toArray, List.set_cons_zero, List.set_cons_succ])
            refine lin_take (v := ?_) k0 (by rfl) ?_ ?_; rotate_left; (intro y hy; have p7y := hy.cell (cell_ltE p7) p7; have p8y := hy.cell (cell_ltE p8) p8; have q0y := hy.cell (cell_ltE q0) q0; have q1y := hy.cell (cell_ltE q1) q1; have q4y := hy.cell (cell_ltE q4) q4; go_simp; try (with_reducible rfl)); (try simp only [Act.put, List.setIfInBounds_toArray, List.set_cons_zero, List.set_cons_succ])
            refine lin_take (v := ?_) k0 (by rfl) ?_ ?_; rotate_left; (intro y hy; have p7y := hy.cell (cell_ltE p7) p7; have p8y := hy.cell (cell_ltE p8) p8; have q0y := hy.cell (cell_ltE q0) q0; have q1y := hy.cell (cell_ltE q1) q1; have q4y := hy.cell (cell_ltE q4) q4; go_simp; try (with_reducible rfl)); (try simp only [Act.put, List.setIfInBounds_toArray, List.set_cons_zero, List.set_cons_succ])
            refine lin_take (v := ?_) k0 (by rfl) ?_ ?_; rotate_left; (intro y hy; have p7y := hy.cell (cell_ltE p7) p7; have p8y := hy.cell (cell_ltE p8) p8; have q0y := hy.cell (cell_ltE q0) q0; have q1y := hy.cell (cell_ltE q1) q1; have q4y := hy.cell (cell_ltE q4) q4; go_simp; try (with_reducible rfl)); (try simp only [Act.put, List.setIfInBounds_toArray, List.set_cons_zero, List.set_cons_succ])
            refine lin_take (v := ?_) k0 (by rfl) ?_ ?_; rotate_left; (intro y hy; have p7y := hy.cell (cell_ltE p7) p7; have p8y := hy.cell (cell_ltE p8) p8; have q0y := hy.cell (cell_ltE q0) q0; have q1y := hy.cell (cell_ltE q1) q1; have q4y := hy.cell (cell_ltE q4) q4; go_simp; try (with_reducible rfl)); (try simp only [Act.put, List.setIfInBounds_toArray, List.set_cons_zero, List.set_cons_succ])
            refine lin_take (v := ?_) k0 (by rfl) ?_ ?_; rotate_left; (intro y hy; have p7y := hy.cell (cell_ltE p7) p7; have p8y := hy.cell (cell_ltE p8) p8; have q0y := hy.cell (cell_ltE q0) q0; have q1y := hy.cell (cell_ltE q1) q1; have q4y := hy.cell (cell_ltE q4) q4; go_simp; try (with_reducible rfl)); (try simp only [Act.put, List.setIfInBounds_toArray, List.set_cons_zero, List.set_cons_succ])
            refine lin_take (v := ?_) k0 (by rfl) ?_ ?_; rotate_left; (intro y hy; have p7y := hy.cell (cell_ltE p7) p7; have p8y := hy.cell (cell_ltE p8) p8; have q0y := hy.cell (cell_ltE q0) q0; have q1y := hy.cell (cell_ltE q1) q1; have q4y := hy.cell (cell_ltE q4) q4; go_simp; try (with_reducible rfl)); (try simp only [Act.put, List.setIfInBounds_toArray, List.set_cons_zero, List.set_cons_succ])
            refine lin_take (v := ?_) k0 (by rfl) ?_ ?_; rotate_left; (intro y hy; have p7y := hy.cell (cell_ltE p7) p7; have p8y := hy.cell (cell_ltE p8) p8; have q0y := hy.cell (cell_ltE q0) q0; have q1y := hy.cell (cell_ltE q1) q1; have q4y := hy.cell (cell_ltE q4) q4; go_simp; try (with_reducible rfl)); (try simp only [Act.put, List.setIfInBounds_toArray, List.set_cons_zero, List.set_cons_succ])
            refine lin_take (v := ?_) k0 (by rfl) ?_ ?_; rotate_left; (intro y hy; have p7y := hy.cell (cell_ltE p7) p7; have p8y := hy.cell (cell_ltE p8) p8; have q0y := hy.cell (cell_ltE q0) q0; have q1y := hy.cell (cell_ltE q1) q1; have q4y := hy.cell (cell_ltE q4) q4; go_simp; try (with_reducible rfl)); (try simp only [Act.put, List.setIfInBounds_toArray, List.set_cons_zero, List.set_cons_succ])
            refine lin_take (v := ?_) k0 (by rfl) ?_ ?_; rotate_left; (intro y hy; have p7y := hy.cell (cell_ltE p7) p7; have p8y := hy.cell (cell_ltE p8) p8; have q0y := hy.cell (cell_ltE q0) q0; have q1y := hy.cell (cell_ltE q1) q1; have q4y := hy.cell (cell_ltE q4) q4; go_simp; try (with_reducible rfl)); (try simp only [Act.put, List.setIfInBounds_toArray, List.set_cons_zero, List.set_cons_succ])
            refine lin_skip k0 (by rfl) ?_
            (try simp only [Act.put, List.setIfInBounds_toArray, List.set_cons_zero, List.set_cons_succ])
            refine lin_skip k0 (by rfl) ?_
            (try simp only [Act.put, List.setIfInBounds_toArray, List.set_cons_zero, List.set_cons_succ])
            refine lin_skip k0 (by rfl) ?_
            (try simp only [Act.put, List.setIfInBounds_toArray, List.set_cons_zero, List.set_cons_succ])
            refine lin_skip k0 (by rfl) ?_
            (try simp only [Act.put, List.setIfInBounds_toArray, List.set_cons_zero, List.set_cons_succ])
            refine lin_skip k0 (by rfl) ?_
            (try simp only [Act.put, List.setIfInBounds_toArray, List.set_cons_zero, List.set_cons_succ])
            refine lin_take (v := ?_) k0 (by rfl) ?_ ?_; rotate_left; (intro y hy; have p7y := hy.cell (cell_ltE p7) p7; have p8y := hy.cell (cell_ltE p8) p8; have q0y := hy.cell (cell_ltE q0) q0; have q1y := hy.cell (cell_ltE q1) q1; have q4y := hy.cell (cell_ltE q4) q4; go_simp; try (with_reducible rfl)); (try simp only [Act.put, List.setIfInBounds_toArray, List.set_cons_zero, List.set_cons_succ])
            refine lin_take (v := ?_) k0 (by rfl) ?_ ?_; rotate_left; (intro y hy; have p7y := hy.cell (cell_ltE p7) p7; have p8y := hy.cell (cell_ltE p8) p8; have q0y := hy.cell (cell_ltE q0) q0; have q1y := hy.cell (cell_ltE q1) q1; have q4y := hy.cell (cell_ltE q4) q4; go_simp; try (with_reducible rfl)); (try simp only [Act.put, List.setIfInBounds_toArray, List.set_cons_zero, List.set_cons_succ])
            refine lin_skip k0 (by rfl) ?_
            (try simp only [Act.put, List.setIfInBounds_toArray, List.set_cons_zero, List.set_cons_succ])
            refine lin_skip k0 (by rfl) ?_
            (try simp only [Act.put, List.setIfInBounds_toArray, List.set_cons_zero, List.set_cons_succ])
            refine lin_skip k0 (by rfl) ?_
            (try simp only [Act.put, List.setIfInBounds_toArray, List.set_cons_zero, List.set_cons_succ])
            refine lin_skip k0 (by rfl) ?_
            (try simp only [Act.put, List.setIfInBounds_toArray, List.set_cons_zero, List.set_cons_succ])
            refine lin_skip k0 (by rfl) ?_
            (try simp only [Act.put, List.setIfInBounds_toArray, List.set_cons_zero, List.set_cons_succ])
            refine lin_skip k0 (by rfl) ?_
            (try simp only [Act.put, List.setIfInBounds_toArray, List.set_cons_zero, List.set_cons_succ])
            refine lin_skip k0 (by rfl) ?_
            (try simp only [Act.put, List.setIfInBounds_toArray, List.set_cons_zero, List.set_cons_succ])
            refine lin_skip k0 (by rfl) ?_
            (try simp only [Act.put, List.setIfInBounds_toArray, List.set_cons_zero, List.set_cons_succ])
            refine lin_skip k0 (by rfl) ?_
            (try simp only [Act.put, List.setIfInBounds_toArray, List.set_cons_zero, List.set_cons_succ])
            refine lin_skip k0 (by rfl) ?_
            (try simp only [Act.put, List.setIfInBounds_toArray, List.set_cons_zero, List.set_cons_succ])
            refine lin_skip k0 (by rfl) ?_
            (try simp only [Act.put, List.setIfInBounds_toArray, List.set_cons_zero, List.set_cons_succ])
            refine lin_skip k0 (by rfl) ?_
            (try simp only [Act.put, List.setIfInBounds_toArray, List.set_cons_zero, List.set_cons_succ])
            refine lin_take (v := ?_) k0 (by rfl) ?_ ?_; rotate_left; (intro y hy; have p7y := hy.cell (cell_ltE p7) p7; have p8y := hy.cell (cell_ltE p8) p8; have q0y := hy.cell (cell_ltE q0) q0; have q1y := hy.cell (cell_ltE q1) q1; have q4y := hy.cell (cell_ltE q4) q4; go_simp; try (with_reducible rfl)); (try simp only [Act.put, List.setIfInBounds_toArray, List.set_cons_zero, List.set_cons_succ])
            refine lin_take (v := ?_) k0 (by rfl) ?_ ?_; rotate_left; (intro y hy; have p7y := hy.cell (cell_ltE p7) p7; have p8y := hy.cell (cell_ltE p8) p8; have q0y := hy.cell (cell_ltE q0) q0; have q1y := hy.cell (cell_ltE q1) q1; have q4y := hy.cell (cell_ltE q4) q4; go_simp; try (with_reducible rfl)); (try simp only [Act.put, List.setIfInBounds_toArray, List.set_cons_zero, List.set_cons_succ])
            refine lin_done ?_
            clear k0
            have qh' : wr.drew.cell? ⟨hb, r, none⟩ = some (.int .i64 (h : Int)) := qh
            have qf' : wr.drew.frozen? ⟨hb, r, none⟩ = false := qf
            have p7' := (Kept.refl wr).drew.cell (cell_ltE p7) p7
            clear p7 p8 qh qf q0 q1 q4
            go_wp2_with fail
            go_roundw
            case rel => exact ⟨0 + 1, by omega, by go_num, (by first | exact HP2.out | exact HP2.out.below (Below.refl _ _).drew | exact HP2.out.below (Below.drewN_ (Below.refl _ _) _))⟩
            case measure => simp [intOf]; omega

          obtain ⟨K, hK⟩ : ∃ K, K = q - 1 := ⟨_, rfl⟩
          obtain ⟨y, hy⟩ := HAT.out K (by omega)
          obtain ⟨r', z1', z2', z3', _⟩ := HCL.out K y hy
          have p9 := HPR.out y K hy
          rw [z3'] at p9
          have hK1 : (q : Int) - 1 = (K : Int) := by omega
          have hK2 : IntKind.i64.wrap (K : Int) = K := IntWalk.i64_in _ ⟨by omega, by omega⟩
          have hK3 : (0 : Int) ≤ K := by omega
          have hK4 : (K : Int) < N9 := by omega
          have hpos : (0 : Int) < (q : Int) := by omega
          have hposN : 0 < q := by omega
          have HKK := Lib.hid hK
          by_cases hn6 : q = n6
          · have hne : ((q : Int) != (n6 : Int)) = false := by simp; omega
            clear hy z1' z2' z3' hn6 hK hq0
            go_upto_region 14 with (fail)
            refine wp_region_lin [(0, true), (1, true), (2, true), (3, true), (4, true), (5, true), (6, true), (7, true), (8, true), (9, true), (10, true), (11, true), (12, true), (13, true), (14, true), (15, true), (16, true), (17, true), (18, true), (19, true), (20, true), (21, true), (22, true), (23, true), (24, true), (25, true), (26, true), (27, true), (28, true), (29, true), (30, true), (31, true), (32, true), (33, true), (34, true), (35, true), (36, true), (37, true), (38, true), (39, true), (40, true), (41, true), (42, true), (43, true), (44, true), (45, true), (46, true), (47, true), (48, true), (49, true), (50, true), (51, true), (52, true), (53, true), (54, true), (55, true), (56, true), (57, true), (58, true)]
              (by kernel_rfl) (by kernel_rfl) rfl (by kernel_rfl) (Kept wr) ?_
            simp only [List.map_cons, List.map_nil, List.getElem?_toArray, List.getElem?_cons_succ, List.getElem?_cons_zero]
            have k0 : Kept wr wr.drew := (Kept.refl wr).drew
            refine lin_take (v := ?_) k0 (by rfl) ?_ ?_; rotate_left; (intro y hy; have p7y := hy.cell (cell_ltE p7) p7; have p8y := hy.cell (cell_ltE p8) p8; have q0y := hy.cell (cell_ltE q0) q0; have q1y := hy.cell (cell_ltE q1) q1; have q4y := hy.cell (cell_ltE q4) q4; have p9y := hy.cell (cell_ltE p9) p9; go_simp; try (with_reducible rfl)); (try simp only [Act.put, List.setIfInBounds_toArray, List.set_cons_zero, List.set_cons_succ])
            refine lin_take (v := ?_) k0 (by rfl) ?_ ?_; rotate_left; (intro y hy; have p7y := hy.cell (cell_ltE p7) p7; have p8y := hy.cell (cell_ltE p8) p8; have q0y := hy.cell (cell_ltE q0) q0; have q1y := hy.cell (cell_ltE q1) q1; have q4y := hy.cell (cell_ltE q4) q4; have p9y := hy.cell (cell_ltE p9) p9; go_simp; try (with_reducible rfl)); (try simp only [Act.put, List.setIfInBounds_toArray, List.set_cons_zero, List.set_cons_succ])
            refine lin_take (v := ?_) k0 (by rfl) ?_ ?_; rotate_left; (intro y hy; have p7y := hy.cell (cell_ltE p7) p7; have p8y := hy.cell (cell_ltE p8) p8; have q0y := hy.cell (cell_ltE q0) q0; have q1y := hy.cell (cell_ltE q1) q1; have q4y := hy.cell (cell_ltE q4) q4; have p9y := hy.cell (cell_ltE p9) p9; go_simp; try (with_reducible rfl)); (try simp only [Act.put, List.setIfInBounds_toArray, List.set_cons_zero, List.set_cons_succ])
            refine lin_take (v := ?_) k0 (by rfl) ?_ ?_; rotate_left; (intro y hy; have p7y := hy.cell (cell_ltE p7) p7; have p8y := hy.cell (cell_ltE p8) p8; have q0y := hy.cell (cell_ltE q0) q0; have q1y := hy.cell (cell_ltE q1) q1; have q4y := hy.cell (cell_ltE q4) q4; have p9y := hy.cell (cell_ltE p9) p9; go_simp; try (with_reducible rfl)); (try simp only [Act.put, List.setIfInBounds_toArray, List.set_cons_zero, List.set_cons_succ])
            refine lin_take (v := ?_) k0 (by rfl) ?_ ?_; rotate_left; (intro y hy; have p7y := hy.cell (cell_ltE p7) p7; have p8y := hy.cell (cell_ltE p8) p8; have q0y := hy.cell (cell_ltE q0) q0; have q1y := hy.cell (cell_ltE q1) q1; have q4y := hy.cell (cell_ltE q4) q4; have p9y := hy.cell (cell_ltE p9) p9; go_simp; try (with_reducible rfl)); (try simp only [Act.put, List.setIfInBounds_toArray, List.set_cons_zero, List.set_cons_succ])
            refine lin_take (v := ?_) k0 (by rfl) ?_ ?_; rotate_left; (intro y hy; have p7y := hy.cell (cell_ltE p7) p7; have p8y := hy.cell (cell_ltE p8) p8; have q0y := hy.cell (cell_ltE q0) q0; have q1y := hy.cell (cell_ltE q1) q1; have q4y := hy.cell (cell_ltE q4) q4; have p9y := hy.cell (cell_ltE p9) p9; go_simp; try (with_reducible rfl)); (try simp only [Act.put, List.setIfInBounds_toArray, List.set_cons_zero, List.set_cons_succ])
            refine lin_take (v := ?_) k0 (by rfl) ?_ ?_; rotate_left; (intro y hy; have p7y := hy.cell (cell_ltE p7) p7; have p8y := hy.cell (cell_ltE p8) p8; have q0y := hy.cell (cell_ltE q0) q0; have q1y := hy.cell (cell_ltE q1) q1; have q4y := hy.cell (cell_ltE q4) q4; have p9y := hy.cell (cell_ltE p9) p9; go_simp; try (with_reducible rfl)); (try simp only [Act.put, List.setIfInBounds_toArray, List.set_cons_zero, List.set_cons_succ])
            refine lin_take (v := ?_) k0 (by rfl) ?_ ?_; rotate_left; (intro y hy; have p7y := hy.cell (cell_ltE p7) p7; have p8y := hy.cell (cell_ltE p8) p8; have q0y := hy.cell (cell_ltE q0) q0; have q1y := hy.cell (cell_ltE q1) q1; have q4y := hy.cell (cell_ltE q4) q4; have p9y := hy.cell (cell_ltE p9) p9; go_simp; try (with_reducible rfl)); (try simp only [Act.put, List.setIfInBounds_toArray, List.set_cons_zero, List.set_cons_succ])
            refine lin_take (v := ?_) k0 (by rfl) ?_ ?_; rotate_left; (intro y hy; have p7y := hy.cell (cell_ltE p7) p7; have p8y := hy.cell (cell_ltE p8) p8; have q0y := hy.cell (cell_ltE q0) q0; have q1y := hy.cell (cell_ltE q1) q1; have q4y := hy.cell (cell_ltE q4) q4; have p9y := hy.cell (cell_ltE p9) p9; go_simp; try (with_reducible rfl)); (try simp only [Act.put, List.setIfInBounds_toArray, List.set_cons_zero, List.set_cons_succ])
            refine lin_take (v := ?_) k0 (by rfl) ?_ ?_; rotate_left; (intro y hy; have p7y := hy.cell (cell_ltE p7) p7; have p8y := hy.cell (cell_ltE p8) p8; have q0y := hy.cell (cell_ltE q0) q0; have q1y := hy.cell (cell_ltE q1) q1; have q4y := hy.cell (cell_ltE q4) q4; have p9y := hy.cell (cell_ltE p9) p9; go_simp; try (with_reducible rfl)); (try simp only [Act.put, List.setIfInBounds_toArray, List.set_cons_zero, List.set_cons_succ])
            refine lin_take (v := ?_) k0 (by rfl) ?_ ?_; rotate_left; (intro y hy; have p7y := hy.cell (cell_ltE p7) p7; have p8y := hy.cell (cell_ltE p8) p8; have q0y := hy.cell (cell_ltE q0) q0; have q1y := hy.cell (cell_ltE q1) q1; have q4y := hy.cell (cell_ltE q4) q4; have p9y := hy.cell (cell_ltE p9) p9; go_simp; try (with_reducible rfl)); (try simp only [Act.put, List.setIfInBounds_toArray, List.set_cons_zero, List.set_cons_succ])
            refine lin_take (v := ?_) k0 (by rfl) ?_ ?_; rotate_left; (intro y hy; have p7y := hy.cell (cell_ltE p7) p7; have p8y := hy.cell (cell_ltE p8) p8; have q0y := hy.cell (cell_ltE q0) q0; have q1y := hy.cell (cell_ltE q1) q1; have q4y := hy.cell (cell_ltE q4) q4; have p9y := hy.cell (cell_ltE p9) p9; go_simp; try (with_reducible rfl)); (try simp only [Act.put, List.setIfInBounds_toArray, List.set_cons_zero, List.set_cons_succ])
            refine lin_take (v := ?_) k0 (by rfl) ?_ ?_; rotate_left; (intro y hy; have p7y := hy.cell (cell_ltE p7) p7; have p8y := hy.cell (cell_ltE p8) p8; have q0y := hy.cell (cell_ltE q0) q0; have q1y := hy.cell (cell_ltE q1) q1; have q4y := hy.cell (cell_ltE q4) q4; have p9y := hy.cell (cell_ltE p9) p9; go_simp; try (with_reducible rfl)); (try simp only [Act.put, List.setIfInBounds_toArray, List.set_cons_zero, List.set_cons_succ])
            refine lin_take (v := ?_) k0 (by rfl) ?_ ?_; rotate_left; (intro y hy; have p7y := hy.cell (cell_ltE p7) p7; have p8y := hy.cell (cell_ltE p8) p8; have q0y := hy.cell (cell_ltE q0) q0; have q1y := hy.cell (cell_ltE q1) q1; have q4y := hy.cell (cell_ltE q4) q4; have p9y := hy.cell (cell_ltE p9) p9; go_simp; try (with_reducible rfl)); (try simp only [Act.put, List.setIfInBounds_toArray, List.set_cons_zero, List.set_cons_succ])
            refine lin_take (v := ?_) k0 (by rfl) ?_ ?_; rotate_left; (intro y hy; have p7y := hy.cell (cell_ltE p7) p7; have p8y := hy.cell (cell_ltE p8) p8; have q0y := hy.cell (cell_ltE q0) q0; have q1y := hy.cell (cell_ltE q1) q1; have q4y := hy.cell (cell_ltE q4) q4; have p9y := hy.cell (cell_ltE p9) p9; go_simp; try (with_reducible rfl)); (try simp only [Act.put, List.setIfInBounds_toArray, List.set_cons_zero, List.set_cons_succ])
            refine lin_take (v := ?_) k0 (by rfl) ?_ ?_; rotate_left; (intro y hy; have p7y := hy.cell (cell_ltE p7) p7; have p8y := hy.cell (cell_ltE p8) p8; have q0y := hy.cell (cell_ltE q0) q0; have q1y := hy.cell (cell_ltE q1) q1; have q4y := hy.cell (cell_ltE q4) q4; have p9y := hy.cell (cell_ltE p9) p9; go_simp; try (with_reducible rfl)); (try simp only [Act.put, List.setIfInBounds_toArray, List.set_cons_zero, List.set_cons_succ])
            refine lin_take (v := ?_) k0 (by rfl) ?_ ?_; rotate_left; (intro y hy; have p7y := hy.cell (cell_ltE p7) p7; have p8y := hy.cell (cell_ltE p8) p8; have q0y := hy.cell (cell_ltE q0) q0; have q1y := hy.cell (cell_ltE q1) q1; have q4y := hy.cell (cell_ltE q4) q4; have p9y := hy.cell (cell_ltE p9) p9; go_simp; try (with_reducible rfl)); (try simp only [Act.put, List.setIfInBounds_toArray, List.set_cons_zero, List.set_cons_succ])
            refine lin_take (v := ?_) k0 (by rfl) ?_ ?_; rotate_left; (intro y hy; have p7y := hy.cell (cell_ltE p7) p7; have p8y := hy.cell (cell_ltE p8) p8; have q0y := hy.cell (cell_ltE q0) q0; have q1y := hy.cell (cell_ltE q1) q1; have q4y := hy.cell (cell_ltE q4) q4; have p9y := hy.cell (cell_ltE p9) p9; go_simp; try (with_reducible rfl)); (try simp only [Act.put, List.setIfInBounds_toArray, List.set_cons_zero, List.set_cons_succ])
            refine lin_take (v := ?_) k0 (by rfl) ?_ ?_; rotate_left; (intro y hy; have p7y := hy.cell (cell_ltE p7) p7; have p8y := hy.cell (cell_ltE p8) p8; have q0y := hy.cell (cell_ltE q0) q0; have q1y := hy.cell (cell_ltE q1) q1; have q4y := hy.cell (cell_ltE q4) q4; have p9y := hy.cell (cell_ltE p9) p9; go_simp; try (with_reducible rfl)); (try simp only [Act.put, List.setIfInBounds_toArray, List.set_cons_zero, List.set_cons_succ])
            refine lin_take (v := ?_) k0 (by rfl) ?_ ?_; rotate_left; (intro y hy; have p7y := hy.cell (cell_ltE p7) p7; have p8y := hy.cell (cell_ltE p8) p8; have q0y := hy.cell (cell_ltE q0) q0; have q1y := hy.cell (cell_ltE q1) q1; have q4y := hy.cell (cell_ltE q4) q4; have p9y := hy.cell (cell_ltE p9) p9; go_simp; try (with_reducible rfl)); (try simp only [Act.put, List.setIfInBounds_toArray, List.set_cons_zero, List.set_cons_succ])
            refine lin_take (v := ?_) k0 (by rfl) ?_ ?_; rotate_left; (intro y hy; have p7y := hy.cell (cell_ltE p7) p7; have p8y := hy.cell (cell_ltE p8) p8; have q0y := hy.cell (cell_ltE q0) q0; have q1y := hy.cell (cell_ltE q1) q1; have q4y := hy.cell (cell_ltE q4) q4; have p9y := hy.cell (cell_ltE p9) p9; go_simp; try (with_reducible rfl)); (try simp only [Act.put, List.setIfInBounds_toArray, List.set_cons_zero, List.set_cons_succ])
            refine lin_take (v := ?_) k0 (by rfl) ?_ ?_; rotate_left; (intro y hy; have p7y := hy.cell (cell_ltE p7) p7; have p8y := hy.cell (cell_ltE p8) p8; have q0y := hy.cell (cell_ltE q0) q0; have q1y := hy.cell (cell_ltE q1) q1; have q4y := hy.cell (cell_ltE q4) q4; have p9y := hy.cell (cell_ltE p9) p9; go_simp; try (with_reducible rfl)); (try simp only [Act.put, List.setIfInBounds_toArray, List.set_cons_zero, List.set_cons_succ])
            refine lin_take (v := ?_) k0 (by rfl) ?_ ?_; rotate_left; (intro y hy; have p7y := hy.cell (cell_ltE p7) p7; have p8y := hy.cell (cell_ltE p8) p8; have q0y := hy.cell (cell_ltE q0) q0; have q1y := hy.cell (cell_ltE q1) q1; have q4y := hy.cell (cell_ltE q4) q4; have p9y := hy.cell (cell_ltE p9) p9; go_simp; try (with_reducible rfl)); (try simp only [Act.put, List.setIfInBounds_toArray, List.set_cons_zero, List.set_cons_succ])
            refine lin_take (v := ?_) k0 (by rfl) ?_ ?_; rotate_left; (intro y hy; have p7y := hy.cell (cell_ltE p7) p7; have p8y := hy.cell (cell_ltE p8) p8; have q0y := hy.cell (cell_ltE q0) q0; have q1y := hy.cell (cell_ltE q1) q1; have q4y := hy.cell (cell_ltE q4) q4; have p9y := hy.cell (cell_ltE p9) p9; go_simp; try (with_reducible rfl)); (try simp only [Act.put, List.setIfInBounds_toArray, List.set_cons_zero, List.set_cons_succ])
            refine lin_take (v := ?_) k0 (by rfl) ?_ ?_; rotate_left; (intro y hy; have p7y := hy.cell (cell_ltE p7) p7; have p8y := hy.cell (cell_ltE p8) p8; have q0y := hy.cell (cell_ltE q0) q0; have q1y := hy.cell (cell_ltE q1) q1; have q4y := hy.cell (cell_ltE q4) q4; have p9y := hy.cell (cell_ltE p9) p9; go_simp; try (with_reducible rfl)); (try simp only [Act.put, List.setIfInBounds_toArray, List.set_cons_zero, List.set_cons_succ])
            refine lin_take (v := ?_) k0 (by rfl) ?_ ?_; rotate_left; (intro y hy; have p7y := hy.cell (cell_ltE p7) p7; have p8y := hy.cell (cell_ltE p8) p8; have q0y := hy.cell (cell_ltE q0) q0; have q1y := hy.cell (cell_ltE q1) q1; have q4y := hy.cell (cell_ltE q4) q4; have p9y := hy.cell (cell_ltE p9) p9; go_simp; try (with_reducible rfl)); (try simp only [Act.put, List.setIfInBounds_toArray, List.set_cons_zero, List.set_cons_succ])
            refine lin_take (v := ?_) k0 (by rfl) ?_ ?_; rotate_left; (intro y hy; have p7y := hy.cell (cell_ltE p7) p7; have p8y := hy.cell (cell_ltE p8) p8; have q0y := hy.cell (cell_ltE q0) q0; have q1y := hy.cell (cell_ltE q1) q1; have q4y := hy.cell (cell_ltE q4) q4; have p9y := hy.cell (cell_ltE p9) p9; go_simp; try (with_reducible rfl)); (try simp only [Act.put, List.setIfInBounds_toArray, List.set_cons_zero, List.set_cons_succ])
            refine lin_take (v := ?_) k0 (by rfl) ?_ ?_; rotate_left; (intro y hy; have p7y := hy.cell (cell_ltE p7) p7; have p8y := hy.cell (cell_ltE p8) p8; have q0y := hy.cell (cell_ltE q0) q0; have q1y := hy.cell (cell_ltE q1) q1; have q4y := hy.cell (cell_ltE q4) q4; have p9y := hy.cell (cell_ltE p9) p9; go_simp; try (with_reducible rfl)); (try simp only [Act.put, List.setIfInBounds_toArray, List.set_cons_zero, List.set_cons_succ])
            refine lin_take (v := ?_) k0 (by rfl) ?_ ?_; rotate_left; (intro y hy; have p7y := hy.cell (cell_ltE p7) p7; have p8y := hy.cell (cell_ltE p8) p8; have q0y := hy.cell (cell_ltE q0) q0; have q1y := hy.cell (cell_ltE q1) q1; have q4y := hy.cell (cell_ltE q4) q4; have p9y := hy.cell (cell_ltE p9) p9; go_simp; try (with_reducible rfl)); (try simp only [Act.put, List.setIfInBounds_toArray, List.set_cons_zero, List.set_cons_succ])
            refine lin_take (v := ?_) k0 (by rfl) ?_ ?_; rotate_left; (intro y hy; have p7y := hy.cell (cell_ltE p7) p7; have p8y := hy.cell (cell_ltE p8) p8; have q0y := hy.cell (cell_ltE q0) q0; have q1y := hy.cell (cell_ltE q1) q1; have q4y := hy.cell (cell_ltE q4) q4; have p9y := hy.cell (cell_ltE p9) p9; go_simp; try (with_reducible rfl)); (try simp only [Act.put, List.setIfInBounds_toArray, List.set_cons_zero, List.set_cons_succ])
            refine lin_take (v := ?_) k0 (by rfl) ?_ ?_; rotate_left; (intro y hy; have p7y := hy.cell (cell_ltE p7) p7; have p8y := hy.cell (cell_ltE p8) p8; have q0y := hy.cell (cell_ltE q0) q0; have q1y := hy.cell (cell_ltE q1) q1; have q4y := hy.cell (cell_ltE q4) q4; have p9y := hy.cell (cell_ltE p9) p9; go_simp; try (with_reducible rfl)); (try simp only [Act.put, List.setIfInBounds_toArray, List.set_cons_zero, List.set_cons_succ])
            refine lin_take (v := ?_) k0 (by rfl) ?_ ?_; rotate_left; (intro y hy; have p7y := hy.cell (cell_ltE p7) p7; have p8y := hy.cell (cell_ltE p8) p8; have q0y := hy.cell (cell_ltE q0) q0; have q1y := hy.cell (cell_ltE q1) q1; have q4y := hy.cell (cell_ltE q4) q4; have p9y := hy.cell (cell_ltE p9) p9; go_simp; try (with_reducible rfl)); (try simp only [Act.put, List.setIfInBounds_toArray, List.set_cons_zero, List.set_cons_succ])
            refine lin_take (v := ?_) k0 (by rfl) ?_ ?_; rotate_left; (intro y hy; have p7y := hy.cell (cell_ltE p7) p7; have p8y := hy.cell (cell_ltE p8) p8; have q0y := hy.cell (cell_ltE q0) q0; have q1y := hy.cell (cell_ltE q1) q1; have q4y := hy.cell (cell_ltE q4) q4; have p9y := hy.cell (cell_ltE p9) p9; go_simp; try (with_reducible rfl)); (try simp only [Act.put, List.setIfInBounds_toArray, List.set_cons_zero, List.set_cons_succ])
            refine lin_take (v := ?_) k0 (by rfl) ?_ ?_; rotate_left; (intro y hy; have p7y := hy.cell (cell_ltE p7) p7; have p8y := hy.cell (cell_ltE p8) p8; have q0y := hy.cell (cell_ltE q0) q0; have q1y := hy.cell (cell_ltE q1) q1; have q4y := hy.cell (cell_ltE q4) q4; have p9y := hy.cell (cell_ltE p9) p9; go_simp; try (with_reducible rfl)); (try simp only [Act.put, List.setIfInBounds_toArray, List.set_cons_zero, List.set_cons_succ])
            refine lin_take (v := ?_) k0 (by rfl) ?_ ?_; rotate_left; (intro y hy; have p7y := hy.cell (cell_ltE p7) p7; have p8y := hy.cell (cell_ltE p8) p8; have q0y := hy.cell (cell_ltE q0) q0; have q1y := hy.cell (cell_ltE q1) q1; have q4y := hy.cell (cell_ltE q4) q4; have p9y := hy.cell (cell_ltE p9) p9; go_simp; try (with_reducible rfl)); (try simp only [Act.put, List.setIfInBounds_toArray, List.set_cons_zero, List.set_cons_succ])
            refine lin_take (v := ?_) k0 (by rfl) ?_ ?_; rotate_left; (intro y hy; have p7y := hy.cell (cell_ltE p7) p7; have p8y := hy.cell (cell_ltE p8) p8; have q0y := hy.cell (cell_ltE q0) q0; have q1y := hy.cell (cell_ltE q1) q1; have q4y := hy.cell (cell_ltE q4) q4; have p9y := hy.cell (cell_ltE p9) p9; go_simp; try (with_reducible rfl)); (try simp only [Act.put, List.setIfInBounds_toArray, List.set_cons_zero, List.set_cons_succ])
            refine lin_take (v := ?_) k0 (by rfl) ?_ ?_; rotate_left; (intro y hy; have p7y := hy.cell (cell_ltE p7) p7; have p8y := hy.cell (cell_ltE p8) p8; have q0y := hy.cell (cell_ltE q0) q0; have q1y := hy.cell (cell_ltE q1) q1; have q4y := hy.cell (cell_ltE q4) q4; have p9y := hy.cell (cell_ltE p9) p9; go_simp; try (with_reducible rfl)); (try simp only [Act.put, List.setIfInBounds_toArray, List.set_cons_zero, List.set_cons_succ])
            refine lin_take (v := ?_) k0 (by rfl) ?_ ?_; rotate_left; (intro y hy; have p7y := hy.cell (cell_ltE p7) p7; have p8y := hy.cell (cell_ltE p8) p8; have q0y := hy.cell (cell_ltE q0) q0; have q1y := hy.cell (cell_ltE q1) q1; have q4y := hy.cell (cell_ltE q4) q4; have p9y := hy.cell (cell_ltE p9) p9; go_simp; try (with_reducible rfl)); (try simp only [Act.put, List.setIfInBounds_toArray, List.set_cons_zero, List.set_cons_succ])
            refine lin_take (v := ?_) k0 (by rfl) ?_ ?_; rotate_left; (intro y hy; have p7y := hy.cell (cell_ltE p7) p7; have p8y := hy.cell (cell_ltE p8) p8; have q0y := hy.cell (cell_ltE q0) q0; have q1y := hy.cell (cell_ltE q1) q1; have q4y := hy.cell (cell_ltE q4) q4; have p9y := hy.cell (cell_ltE p9) p9; go_simp; try (with_reducible rfl)); (try simp only [Act.put, List.setIfInBounds_toArray, List.set_cons_zero, List.set_cons_succ])
            refine lin_take (v := ?_) k0 (by rfl) ?_ ?_; rotate_left; (intro y hy; have p7y := hy.cell (cell_ltE p7) p7; have p8y := hy.cell (cell_ltE p8) p8; have q0y := hy.cell (cell_ltE q0) q0; have q1y := hy.cell (cell_ltE q1) q1; have q4y := hy.cell (cell_ltE q4) q4; have p9y := hy.cell (cell_ltE p9) p9; go_simp; try (with_reducible rfl)); (try simp only [Act.put, List.setIfInBounds_toArray, List.set_cons_zero, List.set_cons_succ])
            refine lin_take (v := ?_) k0 (by rfl) ?_ ?_; rotate_left; (intro y hy; have p7y := hy.cell (cell_ltE p7) p7; have p8y := hy.cell (cell_ltE p8) p8; have q0y := hy.cell (cell_ltE q0) q0; have q1y := hy.cell (cell_ltE q1) q1; have q4y := hy.cell (cell_ltE q4) q4; have p9y := hy.cell (cell_ltE p9) p9; go_simp; try (with_reducible rfl)); (try simp only [Act.put, List.setIfInBounds_toArray, List.set_cons_zero, List.set_cons_succ])
            refine lin_take (v := ?_) k0 (by rfl) ?_ ?_; rotate_left; (intro y hy; have p7y := hy.cell (cell_ltE p7) p7; have p8y := hy.cell (cell_ltE p8) p8; have q0y := hy.cell (cell_ltE q0) q0; have q1y := hy.cell (cell_ltE q1) q1; have q4y := hy.cell (cell_ltE q4) q4; have p9y := hy.cell (cell_ltE p9) p9; go_simp; try (with_reducible rfl)); (try simp only [Act.put, List.setIfInBounds_toArray, List.set_cons_zero, List.set_cons_succ])
            refine lin_take (v := ?_) k0 (by rfl) ?_ ?_; rotate_left; (intro y hy; have p7y := hy.cell (cell_ltE p7) p7; have p8y := hy.cell (cell_ltE p8) p8; have q0y := hy.cell (cell_ltE q0) q0; have q1y := hy.cell (cell_ltE q1) q1; have q4y := hy.cell (cell_ltE q4) q4; have p9y := hy.cell (cell_ltE p9) p9; go_simp; try (with_reducible rfl)); (try simp only [Act.put, List.setIfInBounds_toArray, List.set_cons_zero, List.set_cons_succ])
            refine lin_take (v := ?_) k0 (by rfl) ?_ ?_; rotate_left; (intro y hy; have p7y := hy.cell (cell_ltE p7) p7; have p8y := hy.cell (cell_ltE p8) p8; have q0y := hy.cell (cell_ltE q0) q0; have q1y := hy.cell (cell_ltE q1) q1; have q4y := hy.cell (cell_ltE q4) q4; have p9y := hy.cell (cell_ltE p9) p9; go_simp; try (with_reducible rfl)); (try simp only [Act.put, List.setIfInBounds_toArray, List.set_cons_zero, List.set_cons_succ])
            refine lin_take (v := ?_) k0 (by rfl) ?_ ?_; rotate_left; (intro y hy; have p7y := hy.cell (cell_ltE p7) p7; have p8y := hy.cell (cell_ltE p8) p8; have q0y := hy.cell (cell_ltE q0) q0; have q1y := hy.cell (cell_ltE q1) q1; have q4y := hy.cell (cell_ltE q4) q4; have p9y := hy.cell (cell_ltE p9) p9; go_simp; try (with_reducible rfl)); (try simp only [Act.put, List.setIfInBounds_toArray, List.set_cons_zero, List.set_cons_succ])
            refine lin_skip k0 (by rfl) ?_
            (try simp only [Act.put, List.setIfInBounds_toArray, List.set_cons_zero, List.set_cons_succ])
            refine lin_skip k0 (by rfl) ?_
            (try simp only [Act.put, List.setIfInBounds_toArray, List.set_cons_zero, List.set_cons_succ])
            refine lin_skip k0 (by rfl) ?_
            (try simp only [Act.put, List.setIfInBounds_toArray, List.set_cons_zero, List.set_cons_succ])
            refine lin_skip k0 (by rfl) ?_
            (try simp only [Act.put, List.setIfInBounds_toArray, List.set_cons_zero, List.set_cons_succ])
            refine lin_skip k0 (by rfl) ?_
            (try simp only [Act.put, List.setIfInBounds_toArray, List.set_cons_zero, List.set_cons_succ])
            refine lin_skip k0 (by rfl) ?_
            (try simp only [Act.put, List.setIfInBounds_toArray, List.set_cons_zero, List.set_cons_succ])
            refine lin_skip k0 (by rfl) ?_
            (try simp only [Act.put, List.setIfInBounds_toArray, List.set_cons_zero, List.set_cons_succ])
            refine lin_skip k0 (by rfl) ?_
            (try simp only [Act.put, List.setIfInBounds_toArray, List.set_cons_zero, List.set_cons_succ])
            refine lin_skip k0 (by rfl) ?_
            (try simp only [Act.put, List.setIfInBounds_toArray, List.set_cons_zero, List.set_cons_succ])
            refine lin_skip k0 (by rfl) ?_
            (try simp only [Act.put, List.setIfInBounds_toArray, List.set_cons_zero, List.set_cons_succ])
            refine lin_skip k0 (by rfl) ?_
            (try simp only [Act.put, List.setIfInBounds_toArray, List.set_cons_zero, List.set_cons_succ])
            refine lin_skip k0 (by rfl) ?_
            (try simp only [Act.put, List.setIfInBounds_toArray, List.set_cons_zero, List.set_cons_succ])
            refine lin_take (v := ?_) k0 (by rfl) ?_ ?_; rotate_left; (intro y hy; have p7y := hy.cell (cell_ltE p7) p7; have p8y := hy.cell (cell_ltE p8) p8; have q0y := hy.cell (cell_ltE q0) q0; have q1y := hy.cell (cell_ltE q1) q1; have q4y := hy.cell (cell_ltE q4) q4; have p9y := hy.cell (cell_ltE p9) p9; go_simp; try (with_reducible rfl)); (try simp only [Act.put, List.setIfInBounds_toArray, List.set_cons_zero, List.set_cons_succ])
            refine lin_take (v := ?_) k0 (by rfl) ?_ ?_; rotate_left; (intro y hy; have p7y := hy.cell (cell_ltE p7) p7; have p8y := hy.cell (cell_ltE p8) p8; have q0y := hy.cell (cell_ltE q0) q0; have q1y := hy.cell (cell_ltE q1) q1; have q4y := hy.cell (cell_ltE q4) q4; have p9y := hy.cell (cell_ltE p9) p9; go_simp; try (with_reducible rfl)); (try simp only [Act.put, List.setIfInBounds_toArray, List.set_cons_zero, List.set_cons_succ])
            refine lin_done ?_
            clear k0
            have qh' : wr.drew.cell? ⟨hb, r, none⟩ = some (.int .i64 (h : Int)) := qh
            have qf' : wr.drew.frozen? ⟨hb, r, none⟩ = false := qf
            have p7' := (Kept.refl wr).drew.cell (cell_ltE p7) p7
            clear p7 p8 qh qf q0 q1 q4
            go_wp2_with fail
            go_roundw
            case rel => exact ⟨q + 1, by omega, by go_num, (by first | exact HP2.out | exact HP2.out.below (Below.refl _ _).drew | exact HP2.out.below (Below.drewN_ (Below.refl _ _) _))⟩
            case measure => simp [intOf]; omega

          · have hord := HCO2.out y (by omega) hn6 (by rw [← hK]; exact hy)
            have hle9 : ¬ (r : Int) < (r' : Int) := by
              rw [HX3.out, z3'] at hord; omega
            have hne : ((q : Int) != (n6 : Int)) = true := by simp; omega
            clear hy z1' z2' z3' hord hn6 hK hq0
            go_upto_region 14 with (fail)
            refine wp_region_lin [(0, true), (1, true), (2, true), (3, true), (4, true), (5, true), (6, true), (7, true), (8, true), (9, true), (10, true), (11, true), (12, true), (13, true), (14, true), (15, true), (16, true), (17, true), (18, true), (19, true), (20, true), (21, true), (22, true), (23, true), (24, true), (25, true), (26, true), (27, true), (28, true), (29, true), (30, true), (31, true), (32, true), (33, true), (34, true), (35, true), (36, true), (37, true), (38, true), (39, true), (40, true), (41, true), (42, true), (43, true), (44, true), (45, true), (46, true), (47, true), (48, true), (49, true), (50, true), (51, true), (52, true), (53, true), (54, true), (55, true), (56, true), (57, true), (58, true)]
              (by kernel_rfl) (by kernel_rfl) rfl (by kernel_rfl) (Kept wr) ?_
            simp only [List.map_cons, List.map_nil, List.getElem?_toArray, List.getElem?_cons_succ, List.getElem?_cons_zero]
            have k0 : Kept wr wr.drew := (Kept.refl wr).drew
            refine lin_take (v := ?_) k0 (by rfl) ?_ ?_; rotate_left; (intro y hy; have p7y := hy.cell (cell_ltE p7) p7; have p8y := hy.cell (cell_ltE p8) p8; have q0y := hy.cell (cell_ltE q0) q0; have q1y := hy.cell (cell_ltE q1) q1; have q4y := hy.cell (cell_ltE q4) q4; have p9y := hy.cell (cell_ltE p9) p9; go_simp; try (with_reducible rfl)); (try simp only [Act.put, List.setIfInBounds_toArray, List.set_cons_zero, List.set_cons_succ])
            refine lin_take (v := ?_) k0 (by rfl) ?_ ?_; rotate_left; (intro y hy; have p7y := hy.cell (cell_ltE p7) p7; have p8y := hy.cell (cell_ltE p8) p8; have q0y := hy.cell (cell_ltE q0) q0; have q1y := hy.cell (cell_ltE q1) q1; have q4y := hy.cell (cell_ltE q4) q4; have p9y := hy.cell (cell_ltE p9) p9; go_simp; try (with_reducible rfl)); (try simp only [Act.put, List.setIfInBounds_toArray, List.set_cons_zero, List.set_cons_succ])
            refine lin_take (v := ?_) k0 (by rfl) ?_ ?_; rotate_left; (intro y hy; have p7y := hy.cell (cell_ltE p7) p7; have p8y := hy.cell (cell_ltE p8) p8; have q0y := hy.cell (cell_ltE q0) q0; have q1y := hy.cell (cell_ltE q1) q1; have q4y := hy.cell (cell_ltE q4) q4; have p9y := hy.cell (cell_ltE p9) p9; go_simp; try (with_reducible rfl)); (try simp only [Act.put, List.setIfInBounds_toArray, List.set_cons_zero, List.set_cons_succ])
            refine lin_take (v := ?_) k0 (by rfl) ?_ ?_; rotate_left; (intro y hy; have p7y := hy.cell (cell_ltE p7) p7; have p8y := hy.cell (cell_ltE p8) p8; have q0y := hy.cell (cell_ltE q0) q0; have q1y := hy.cell (cell_ltE q1) q1; have q4y := hy.cell (cell_ltE q4) q4; have p9y := hy.cell (cell_ltE p9) p9; go_simp; try (with_reducible rfl)); (try simp only [Act.put, List.setIfInBounds_toArray, List.set_cons_zero, List.set_cons_succ])
            refine lin_take (v := ?_) k0 (by rfl) ?_ ?_; rotate_left; (intro y hy; have p7y := hy.cell (cell_ltE p7) p7; have p8y := hy.cell (cell_ltE p8) p8; have q0y := hy.cell (cell_ltE q0) q0; have q1y := hy.cell (cell_ltE q1) q1; have q4y := hy.cell (cell_ltE q4) q4; have p9y := hy.cell (cell_ltE p9) p9; go_simp; try (with_reducible rfl)); (try simp only [Act.put, List.setIfInBounds_toArray, List.set_cons_zero, List.set_cons_succ])
            refine lin_take (v := ?_) k0 (by rfl) ?_ ?_; rotate_left; (intro y hy; have p7y := hy.cell (cell_ltE p7) p7; have p8y := hy.cell (cell_ltE p8) p8; have q0y := hy.cell (cell_ltE q0) q0; have q1y := hy.cell (cell_ltE q1) q1; have q4y := hy.cell (cell_ltE q4) q4; have p9y := hy.cell (cell_ltE p9) p9; go_simp; try (with_reducible rfl)); (try simp only [Act.put, List.setIfInBounds_toArray, List.set_cons_zero, List.set_cons_succ])
            refine lin_take (v := ?_) k0 (by rfl) ?_ ?_; rotate_left; (intro y hy; have p7y := hy.cell (cell_ltE p7) p7; have p8y := hy.cell (cell_ltE p8) p8; have q0y := hy.cell (cell_ltE q0) q0; have q1y := hy.cell (cell_ltE q1) q1; have q4y := hy.cell (cell_ltE q4) q4; have p9y := hy.cell (cell_ltE p9) p9; go_simp; try (with_reducible rfl)); (try simp only [Act.put, List.setIfInBounds_toArray, List.set_cons_zero, List.set_cons_succ])
            refine lin_take (v := ?_) k0 (by rfl) ?_ ?_; rotate_left; (intro y hy; have p7y := hy.cell (cell_ltE p7) p7; have p8y := hy.cell (cell_ltE p8) p8; have q0y := hy.cell (cell_ltE q0) q0; have q1y := hy.cell (cell_ltE q1) q1; have q4y := hy.cell (cell_ltE q4) q4; have p9y := hy.cell (cell_ltE p9) p9; go_simp; try (with_reducible rfl)); (try simp only [Act.put, List.setIfInBounds_toArray, List.set_cons_zero, List.set_cons_succ])
            refine lin_take (v := ?_) k0 (by rfl) ?_ ?_; rotate_left; (intro y hy; have p7y := hy.cell (cell_ltE p7) p7; have p8y := hy.cell (cell_ltE p8) p8; have q0y := hy.cell (cell_ltE q0) q0; have q1y := hy.cell (cell_ltE q1) q1; have q4y := hy.cell (cell_ltE q4) q4; have p9y := hy.cell (cell_ltE p9) p9; go_simp; try (with_reducible rfl)); (try simp only [Act.put, List.setIfInBounds_toArray, List.set_cons_zero, List.set_cons_succ])
            refine lin_take (v := ?_) k0 (by rfl) ?_ ?_; rotate_left; (intro y hy; have p7y := hy.cell (cell_ltE p7) p7; have p8y := hy.cell (cell_ltE p8) p8; have q0y := hy.cell (cell_ltE q0) q0; have q1y := hy.cell (cell_ltE q1) q1; have q4y := hy.cell (cell_ltE q4) q4; have p9y := hy.cell (cell_ltE p9) p9; go_simp; try (with_reducible rfl)); (try simp only [Act.put, List.setIfInBounds_toArray, List.set_cons_zero, List.set_cons_succ])
            refine lin_take (v := ?_) k0 (by rfl) ?_ ?_; rotate_left; (intro y hy; have p7y := hy.cell (cell_ltE p7) p7; have p8y := hy.cell (cell_ltE p8) p8; have q0y := hy.cell (cell_ltE q0) q0; have q1y := hy.cell (cell_ltE q1) q1; have q4y := hy.cell (cell_ltE q4) q4; have p9y := hy.cell (cell_ltE p9) p9; go_simp; try (with_reducible rfl)); (try simp only [Act.put, List.setIfInBounds_toArray, List.set_cons_zero, List.set_cons_succ])
            refine lin_take (v := ?_) k0 (by rfl) ?_ ?_; rotate_left; (intro y hy; have p7y := hy.cell (cell_ltE p7) p7; have p8y := hy.cell (cell_ltE p8) p8; have q0y := hy.cell (cell_ltE q0) q0; have q1y := hy.cell (cell_ltE q1) q1; have q4y := hy.cell (cell_ltE q4) q4; have p9y := hy.cell (cell_ltE p9) p9; go_simp; try (with_reducible rfl)); (try simp only [Act.put, List.setIfInBounds_toArray, List.set_cons_zero, List.set_cons_succ])
            refine lin_take (v := ?_) k0 (by rfl) ?_ ?_; rotate_left; (intro y hy; have p7y := hy.cell (cell_ltE p7) p7; have p8y := hy.cell (cell_ltE p8) p8; have q0y := hy.cell (cell_ltE q0) q0; have q1y := hy.cell (cell_ltE q1) q1; have q4y := hy.cell (cell_ltE q4) q4; have p9y := hy.cell (cell_ltE p9) p9; go_simp; try (with_reducible rfl)); (try simp only [Act.put, List.setIfInBounds_toArray, List.set_cons_zero, List.set_cons_succ])
            refine lin_take (v := ?_) k0 (by rfl) ?_ ?_; rotate_left; (intro y hy; have p7y := hy.cell (cell_ltE p7) p7; have p8y := hy.cell (cell_ltE p8) p8; have q0y := hy.cell (cell_ltE q0) q0; have q1y := hy.cell (cell_ltE q1) q1; have q4y := hy.cell (cell_ltE q4) q4; have p9y := hy.cell (cell_ltE p9) p9; go_simp; try (with_reducible rfl)); (try simp only [Act.put, List.setIfInBounds_toArray, List.set_cons_zero, List.set_cons_succ])
            refine lin_take (v := ?_) k0 (by rfl) ?_ ?_; rotate_left; (intro y hy; have p7y := hy.cell (cell_ltE p7) p7; have p8y := hy.cell (cell_ltE p8) p8; have q0y := hy.cell (cell_ltE q0) q0; have q1y := hy.cell (cell_ltE q1) q1; have q4y := hy.cell (cell_ltE q4) q4; have p9y := hy.cell (cell_ltE p9) p9; go_simp; try (with_reducible rfl)); (try simp only [Act.put, List.setIfInBounds_toArray, List.set_cons_zero, List.set_cons_succ])
            refine lin_take (v := ?_) k0 (by rfl) ?_ ?_; rotate_left; (intro y hy; have p7y := hy.cell (cell_ltE p7) p7; have p8y := hy.cell (cell_ltE p8) p8; have q0y := hy.cell (cell_ltE q0) q0; have q1y := hy.cell (cell_ltE q1) q1; have q4y := hy.cell (cell_ltE q4) q4; have p9y := hy.cell (cell_ltE p9) p9; go_simp; try (with_reducible rfl)); (try simp only [Act.put, List.setIfInBounds_toArray, List.set_cons_zero, List.set_cons_succ])
            refine lin_take (v := ?_) k0 (by rfl) ?_ ?_; rotate_left; (intro y hy; have p7y := hy.cell (cell_ltE p7) p7; have p8y := hy.cell (cell_ltE p8) p8; have q0y := hy.cell (cell_ltE q0) q0; have q1y := hy.cell (cell_ltE q1) q1; have q4y := hy.cell (cell_ltE q4) q4; have p9y := hy.cell (cell_ltE p9) p9; go_simp; try (with_reducible rfl)); (try simp only [Act.put, List.setIfInBounds_toArray, List.set_cons_zero, List.set_cons_succ])
            refine lin_take (v := ?_) k0 (by rfl) ?_ ?_; rotate_left; (intro y hy; have p7y := hy.cell (cell_ltE p7) p7; have p8y := hy.cell (cell_ltE p8) p8; have q0y := hy.cell (cell_ltE q0) q0; have q1y := hy.cell (cell_ltE q1) q1; have q4y := hy.cell (cell_ltE q4) q4; have p9y := hy.cell (cell_ltE p9) p9; go_simp; try (with_reducible rfl)); (try simp only [Act.put, List.setIfInBounds_toArray, List.set_cons_zero, List.set_cons_succ])
            refine lin_take (v := ?_) k0 (by rfl) ?_ ?_; rotate_left; (intro y hy; have p7y := hy.cell (cell_ltE p7) p7; have p8y := hy.cell (cell_ltE p8) p8; have q0y := hy.cell (cell_ltE q0) q0; have q1y := hy.cell (cell_ltE q1) q1; have q4y := hy.cell (cell_ltE q4) q4; have p9y := hy.cell (cell_ltE p9) p9; go_simp; try (with_reducible rfl)); (try simp only [Act.put, List.setIfInBounds_toArray, List.set_cons_zero, List.set_cons_succ])
            refine lin_take (v := ?_) k0 (by rfl) ?_ ?_; rotate_left; (intro y hy; have p7y := hy.cell (cell_ltE p7) p7; have p8y := hy.cell (cell_ltE p8) p8; have q0y := hy.cell (cell_ltE q0) q0; have q1y := hy.cell (cell_ltE q1) q1; have q4y := hy.cell (cell_ltE q4) q4; have p9y := hy.cell (cell_ltE p9) p9; go_simp; try (with_reducible rfl)); (try simp only [Act.put, List.setIfInBounds_toArray, List.set_cons_zero, List.set_cons_succ])
            refine lin_take (v := ?_) k0 (by rfl) ?_ ?_; rotate_left; (intro y hy; have p7y := hy.cell (cell_ltE p7) p7; have p8y := hy.cell (cell_ltE p8) p8; have q0y := hy.cell (cell_ltE q0) q0; have q1y := hy.cell (cell_ltE q1) q1; have q4y := hy.cell (cell_ltE q4) q4; have p9y := hy.cell (cell_ltE p9) p9; go_simp; try (with_reducible rfl)); (try simp only [Act.put, List.setIfInBounds_toArray, List.set_cons_zero, List.set_cons_succ])
            refine lin_take (v := ?_) k0 (by rfl) ?_ ?_; rotate_left; (intro y hy; have p7y := hy.cell (cell_ltE p7) p7; have p8y := hy.cell (cell_ltE p8) p8; have q0y := hy.cell (cell_ltE q0) q0; have q1y := hy.cell (cell_ltE q1) q1; have q4y := hy.cell (cell_ltE q4) q4; have p9y := hy.cell (cell_ltE p9) p9; go_simp; try (with_reducible rfl)); (try simp only [Act.put, List.setIfInBounds_toArray, List.set_cons_zero, List.set_cons_succ])
            refine lin_take (v := ?_) k0 (by rfl) ?_ ?_; rotate_left; (intro y hy; have p7y := hy.cell (cell_ltE p7) p7; have p8y := hy.cell (cell_ltE p8) p8; have q0y := hy.cell (cell_ltE q0) q0; have q1y := hy.cell (cell_ltE q1) q1; have q4y := hy.cell (cell_ltE q4) q4; have p9y := hy.cell (cell_ltE p9) p9; go_simp; try (with_reducible rfl)); (try simp only [Act.put, List.setIfInBounds_toArray, List.set_cons_zero, List.set_cons_succ])
            refine lin_take (v := ?_) k0 (by rfl) ?_ ?_; rotate_left; (intro y hy; have p7y := hy.cell (cell_ltE p7) p7; have p8y := hy.cell (cell_ltE p8) p8; have q0y := hy.cell (cell_ltE q0) q0; have q1y := hy.cell (cell_ltE q1) q1; have q4y := hy.cell (cell_ltE q4) q4; have p9y := hy.cell (cell_ltE p9) p9; go_simp; try (with_reducible rfl)); (try simp only [Act.put, List.setIfInBounds_toArray, List.set_cons_zero, List.set_cons_succ])
            refine lin_take (v := ?_) k0 (by rfl) ?_ ?_; rotate_left; (intro y hy; have p7y := hy.cell (cell_ltE p7) p7; have p8y := hy.cell (cell_ltE p8) p8; have q0y := hy.cell (cell_ltE q0) q0; have q1y := hy.cell (cell_ltE q1) q1; have q4y := hy.cell (cell_ltE q4) q4; have p9y := hy.cell (cell_ltE p9) p9; go_simp; try (with_reducible rfl)); (try simp only [Act.put, List.setIfInBounds_toArray, List.set_cons_zero, List.set_cons_succ])
            refine lin_take (v := ?_) k0 (by rfl) ?_ ?_; rotate_left; (intro y hy; have p7y := hy.cell (cell_ltE p7) p7; have p8y := hy.cell (cell_ltE p8) p8; have q0y := hy.cell (cell_ltE q0) q0; have q1y := hy.cell (cell_ltE q1) q1; have q4y := hy.cell (cell_ltE q4) q4; have p9y := hy.cell (cell_ltE p9) p9; go_simp; try (with_reducible rfl)); (try simp only [Act.put, List.setIfInBounds_toArray, List.set_cons_zero, List.set_cons_succ])
            refine lin_take (v := ?_) k0 (by rfl) ?_ ?_; rotate_left; (intro y hy; have p7y := hy.cell (cell_ltE p7) p7; have p8y := hy.cell (cell_ltE p8) p8; have q0y := hy.cell (cell_ltE q0) q0; have q1y := hy.cell (cell_ltE q1) q1; have q4y := hy.cell (cell_ltE q4) q4; have p9y := hy.cell (cell_ltE p9) p9; go_simp; try (with_reducible rfl)); (try simp only [Act.put, List.setIfInBounds_toArray, List.set_cons_zero, List.set_cons_succ])
            refine lin_take (v := ?_) k0 (by rfl) ?_ ?_; rotate_left; (intro y hy; have p7y := hy.cell (cell_ltE p7) p7; have p8y := hy.cell (cell_ltE p8) p8; have q0y := hy.cell (cell_ltE q0) q0; have q1y := hy.cell (cell_ltE q1) q1; have q4y := hy.cell (cell_ltE q4) q4; have p9y := hy.cell (cell_ltE p9) p9; go_simp; try (with_reducible rfl)); (try simp only [Act.put, List.setIfInBounds_toArray, List.set_cons_zero, List.set_cons_succ])
            refine lin_take (v := ?_) k0 (by rfl) ?_ ?_; rotate_left; (intro y hy; have p7y := hy.cell (cell_ltE p7) p7; have p8y := hy.cell (cell_ltE p8) p8; have q0y := hy.cell (cell_ltE q0) q0; have q1y := hy.cell (cell_ltE q1) q1; have q4y := hy.cell (cell_ltE q4) q4; have p9y := hy.cell (cell_ltE p9) p9; go_simp; try (with_reducible rfl)); (try simp only [Act.put, List.setIfInBounds_toArray, List.set_cons_zero, List.set_cons_succ])
            refine lin_take (v := ?_) k0 (by rfl) ?_ ?_; rotate_left; (intro y hy; have p7y := hy.cell (cell_ltE p7) p7; have p8y := hy.cell (cell_ltE p8) p8; have q0y := hy.cell (cell_ltE q0) q0; have q1y := hy.cell (cell_ltE q1) q1; have q4y := hy.cell (cell_ltE q4) q4; have p9y := hy.cell (cell_ltE p9) p9; go_simp; try (with_reducible rfl)); (try simp only [Act.put, List.setIfInBounds_toArray, List.set_cons_zero, List.set_cons_succ])
            refine lin_take (v := ?_) k0 (by rfl) ?_ ?_; rotate_left; (intro y hy; have p7y := hy.cell (cell_ltE p7) p7; have p8y := hy.cell (cell_ltE p8) p8; have q0y := hy.cell (cell_ltE q0) q0; have q1y := hy.cell (cell_ltE q1) q1; have q4y := hy.cell (cell_ltE q4) q4; have p9y := hy.cell (cell_ltE p9) p9; go_simp; try (with_reducible rfl)); (try simp only [Act.put, List.setIfInBounds_toArray, List.set_cons_zero, List.set_cons_succ])
            refine lin_take (v := ?_) k0 (by rfl) ?_ ?_; rotate_left; (intro y hy; have p7y := hy.cell (cell_ltE p7) p7; have p8y := hy.cell (cell_ltE p8) p8; have q0y := hy.cell (cell_ltE q0) q0; have q1y := hy.cell (cell_ltE q1) q1; have q4y := hy.cell (cell_ltE q4) q4; have p9y := hy.cell (cell_ltE p9) p9; go_simp; try (with_reducible rfl)); (try simp only [Act.put, List.setIfInBounds_toArray, List.set_cons_zero, List.set_cons_succ])
            refine lin_take (v := ?_) k0 (by rfl) ?_ ?_; rotate_left; (intro y hy; have p7y := hy.cell (cell_ltE p7) p7; have p8y := hy.cell (cell_ltE p8) p8; have q0y := hy.cell (cell_ltE q0) q0; have q1y := hy.cell (cell_ltE q1) q1; have q4y := hy.cell (cell_ltE q4) q4; have p9y := hy.cell (cell_ltE p9) p9; go_simp; try (with_reducible rfl)); (try simp only [Act.put, List.setIfInBounds_toArray, List.set_cons_zero, List.set_cons_succ])
            refine lin_take (v := ?_) k0 (by rfl) ?_ ?_; rotate_left; (intro y hy; have p7y := hy.cell (cell_ltE p7) p7; have p8y := hy.cell (cell_ltE p8) p8; have q0y := hy.cell (cell_ltE q0) q0; have q1y := hy.cell (cell_ltE q1) q1; have q4y := hy.cell (cell_ltE q4) q4; have p9y := hy.cell (cell_ltE p9) p9; go_simp; try (with_reducible rfl)); (try simp only [Act.put, List.setIfInBounds_toArray, List.set_cons_zero, List.set_cons_succ])
            refine lin_take (v := ?_) k0 (by rfl) ?_ ?_; rotate_left; (intro y hy; have p7y := hy.cell (cell_ltE p7) p7; have p8y := hy.cell (cell_ltE p8) p8; have q0y := hy.cell (cell_ltE q0) q0; have q1y := hy.cell (cell_ltE q1) q1; have q4y := hy.cell (cell_ltE q4) q4; have p9y := hy.cell (cell_ltE p9) p9; go_simp; try (with_reducible rfl)); (try simp only [Act.put, List.setIfInBounds_toArray, List.set_cons_zero, List.set_cons_succ])
            refine lin_take (v := ?_) k0 (by rfl) ?_ ?_; rotate_left; (intro y hy; have p7y := hy.cell (cell_ltE p7) p7; have p8y := hy.cell (cell_ltE p8) p8; have q0y := hy.cell (cell_ltE q0) q0; have q1y := hy.cell (cell_ltE q1) q1; have q4y := hy.cell (cell_ltE q4) q4; have p9y := hy.cell (cell_ltE p9) p9; go_simp; try (with_reducible rfl)); (try simp only [Act.put, List.setIfInBounds_toArray, List.set_cons_zero, List.set_cons_succ])
            refine lin_take (v := ?_) k0 (by rfl) ?_ ?_; rotate_left; (intro y hy; have p7y := hy.cell (cell_ltE p7) p7; have p8y := hy.cell (cell_ltE p8) p8; have q0y := hy.cell (cell_ltE q0) q0; have q1y := hy.cell (cell_ltE q1) q1; have q4y := hy.cell (cell_ltE q4) q4; have p9y := hy.cell (cell_ltE p9) p9; go_simp; try (with_reducible rfl)); (try simp only [Act.put, List.setIfInBounds_toArray, List.set_cons_zero, List.set_cons_succ])
            refine lin_take (v := ?_) k0 (by rfl) ?_ ?_; rotate_left; (intro y hy; have p7y := hy.cell (cell_ltE p7) p7; have p8y := hy.cell (cell_ltE p8) p8; have q0y := hy.cell (cell_ltE q0) q0; have q1y := hy.cell (cell_ltE q1) q1; have q4y := hy.cell (cell_ltE q4) q4; have p9y := hy.cell (cell_ltE p9) p9; go_simp; try (with_reducible rfl)); (try simp only [Act.put, List.setIfInBounds_toArray, List.set_cons_zero, List.set_cons_succ])
            refine lin_take (v := ?_) k0 (by rfl) ?_ ?_; rotate_left; (intro y hy; have p7y := hy.cell (cell_ltE p7) p7; have p8y := hy.cell (cell_ltE p8) p8; have q0y := hy.cell (cell_ltE q0) q0; have q1y := hy.cell (cell_ltE q1) q1; have q4y := hy.cell (cell_ltE q4) q4; have p9y := hy.cell (cell_ltE p9) p9; go_simp; try (with_reducible rfl)); (try simp only [Act.put, List.setIfInBounds_toArray, List.set_cons_zero, List.set_cons_succ])
            refine lin_take (v := ?_) k0 (by rfl) ?_ ?_; rotate_left; (intro y hy; have p7y := hy.cell (cell_ltE p7) p7; have p8y := hy.cell (cell_ltE p8) p8; have q0y := hy.cell (cell_ltE q0) q0; have q1y := hy.cell (cell_ltE q1) q1; have q4y := hy.cell (cell_ltE q4) q4; have p9y := hy.cell (cell_ltE p9) p9; go_simp; try (with_reducible rfl)); (try simp only [Act.put, List.setIfInBounds_toArray, List.set_cons_zero, List.set_cons_succ])
            refine lin_take (v := ?_) k0 (by rfl) ?_ ?_; rotate_left; (intro y hy; have p7y := hy.cell (cell_ltE p7) p7; have p8y := hy.cell (cell_ltE p8) p8; have q0y := hy.cell (cell_ltE q0) q0; have q1y := hy.cell (cell_ltE q1) q1; have q4y := hy.cell (cell_ltE q4) q4; have p9y := hy.cell (cell_ltE p9) p9; go_simp; try (with_reducible rfl)); (try simp only [Act.put, List.setIfInBounds_toArray, List.set_cons_zero, List.set_cons_succ])
            refine lin_take (v := ?_) k0 (by rfl) ?_ ?_; rotate_left; (intro y hy; have p7y := hy.cell (cell_ltE p7) p7; have p8y := hy.cell (cell_ltE p8) p8; have q0y := hy.cell (cell_ltE q0) q0; have q1y := hy.cell (cell_ltE q1) q1; have q4y := hy.cell (cell_ltE q4) q4; have p9y := hy.cell (cell_ltE p9) p9; go_simp; try (with_reducible rfl)); (try simp only [Act.put, List.setIfInBounds_toArray, List.set_cons_zero, List.set_cons_succ])
            refine lin_take (v := ?_) k0 (by rfl) ?_ ?_; rotate_left; (intro y hy; have p7y := hy.cell (cell_ltE p7) p7; have p8y := hy.cell (cell_ltE p8) p8; have q0y := hy.cell (cell_ltE q0) q0; have q1y := hy.cell (cell_ltE q1) q1; have q4y := hy.cell (cell_ltE q4) q4; have p9y := hy.cell (cell_ltE p9) p9; go_simp; try (with_reducible rfl)); (try simp only [Act.put, List.setIfInBounds_toArray, List.set_cons_zero, List.set_cons_succ])
            refine lin_take (v := ?_) k0 (by rfl) ?_ ?_; rotate_left; (intro y hy; have p7y := hy.cell (cell_ltE p7) p7; have p8y := hy.cell (cell_ltE p8) p8; have q0y := hy.cell (cell_ltE q0) q0; have q1y := hy.cell (cell_ltE q1) q1; have q4y := hy.cell (cell_ltE q4) q4; have p9y := hy.cell (cell_ltE p9) p9; go_simp; try (with_reducible rfl)); (try simp only [Act.put, List.setIfInBounds_toArray, List.set_cons_zero, List.set_cons_succ])
            refine lin_take (v := ?_) k0 (by rfl) ?_ ?_; rotate_left; (intro y hy; have p7y := hy.cell (cell_ltE p7) p7; have p8y := hy.cell (cell_ltE p8) p8; have q0y := hy.cell (cell_ltE q0) q0; have q1y := hy.cell (cell_ltE q1) q1; have q4y := hy.cell (cell_ltE q4) q4; have p9y := hy.cell (cell_ltE p9) p9; go_simp; try (with_reducible rfl)); (try simp only [Act.put, List.setIfInBounds_toArray, List.set_cons_zero, List.set_cons_succ])
            refine lin_take (v := ?_) k0 (by rfl) ?_ ?_; rotate_left; (intro y hy; have p7y := hy.cell (cell_ltE p7) p7; have p8y := hy.cell (cell_ltE p8) p8; have q0y := hy.cell (cell_ltE q0) q0; have q1y := hy.cell (cell_ltE q1) q1; have q4y := hy.cell (cell_ltE q4) q4; have p9y := hy.cell (cell_ltE p9) p9; go_simp; try (with_reducible rfl)); (try simp only [Act.put, List.setIfInBounds_toArray, List.set_cons_zero, List.set_cons_succ])
            refine lin_take (v := ?_) k0 (by rfl) ?_ ?_; rotate_left; (intro y hy; have p7y := hy.cell (cell_ltE p7) p7; have p8y := hy.cell (cell_ltE p8) p8; have q0y := hy.cell (cell_ltE q0) q0; have q1y := hy.cell (cell_ltE q1) q1; have q4y := hy.cell (cell_ltE q4) q4; have p9y := hy.cell (cell_ltE p9) p9; go_simp; try (with_reducible rfl)); (try simp only [Act.put, List.setIfInBounds_toArray, List.set_cons_zero, List.set_cons_succ])
            refine lin_take (v := ?_) k0 (by rfl) ?_ ?_; rotate_left; (intro y hy; have p7y := hy.cell (cell_ltE p7) p7; have p8y := hy.cell (cell_ltE p8) p8; have q0y := hy.cell (cell_ltE q0) q0; have q1y := hy.cell (cell_ltE q1) q1; have q4y := hy.cell (cell_ltE q4) q4; have p9y := hy.cell (cell_ltE p9) p9; go_simp; try (with_reducible rfl)); (try simp only [Act.put, List.setIfInBounds_toArray, List.set_cons_zero, List.set_cons_succ])
            refine lin_take (v := ?_) k0 (by rfl) ?_ ?_; rotate_left; (intro y hy; have p7y := hy.cell (cell_ltE p7) p7; have p8y := hy.cell (cell_ltE p8) p8; have q0y := hy.cell (cell_ltE q0) q0; have q1y := hy.cell (cell_ltE q1) q1; have q4y := hy.cell (cell_ltE q4) q4; have p9y := hy.cell (cell_ltE p9) p9; go_simp; try (with_reducible rfl)); (try simp only [Act.put, List.setIfInBounds_toArray, List.set_cons_zero, List.set_cons_succ])
            refine lin_take (v := ?_) k0 (by rfl) ?_ ?_; rotate_left; (intro y hy; have p7y := hy.cell (cell_ltE p7) p7; have p8y := hy.cell (cell_ltE p8) p8; have q0y := hy.cell (cell_ltE q0) q0; have q1y := hy.cell (cell_ltE q1) q1; have q4y := hy.cell (cell_ltE q4) q4; have p9y := hy.cell (cell_ltE p9) p9; go_simp; try (with_reducible rfl)); (try simp only [Act.put, List.setIfInBounds_toArray, List.set_cons_zero, List.set_cons_succ])
            refine lin_take (v := ?_) k0 (by rfl) ?_ ?_; rotate_left; (intro y hy; have p7y := hy.cell (cell_ltE p7) p7; have p8y := hy.cell (cell_ltE p8) p8; have q0y := hy.cell (cell_ltE q0) q0; have q1y := hy.cell (cell_ltE q1) q1; have q4y := hy.cell (cell_ltE q4) q4; have p9y := hy.cell (cell_ltE p9) p9; go_simp; try (with_reducible rfl)); (try simp only [Act.put, List.setIfInBounds_toArray, List.set_cons_zero, List.set_cons_succ])
            refine lin_take (v := ?_) k0 (by rfl) ?_ ?_; rotate_left; (intro y hy; have p7y := hy.cell (cell_ltE p7) p7; have p8y := hy.cell (cell_ltE p8) p8; have q0y := hy.cell (cell_ltE q0) q0; have q1y := hy.cell (cell_ltE q1) q1; have q4y := hy.cell (cell_ltE q4) q4; have p9y := hy.cell (cell_ltE p9) p9; go_simp; try (with_reducible rfl)); (try simp only [Act.put, List.setIfInBounds_toArray, List.set_cons_zero, List.set_cons_succ])
            refine lin_take (v := ?_) k0 (by rfl) ?_ ?_; rotate_left; (intro y hy; have p7y := hy.cell (cell_ltE p7) p7; have p8y := hy.cell (cell_ltE p8) p8; have q0y := hy.cell (cell_ltE q0) q0; have q1y := hy.cell (cell_ltE q1) q1; have q4y := hy.cell (cell_ltE q4) q4; have p9y := hy.cell (cell_ltE p9) p9; go_simp; try (with_reducible rfl)); (try simp only [Act.put, List.setIfInBounds_toArray, List.set_cons_zero, List.set_cons_succ])
            refine lin_take (v := ?_) k0 (by rfl) ?_ ?_; rotate_left; (intro y hy; have p7y := hy.cell (cell_ltE p7) p7; have p8y := hy.cell (cell_ltE p8) p8; have q0y := hy.cell (cell_ltE q0) q0; have q1y := hy.cell (cell_ltE q1) q1; have q4y := hy.cell (cell_ltE q4) q4; have p9y := hy.cell (cell_ltE p9) p9; go_simp; try (with_reducible rfl)); (try simp only [Act.put, List.setIfInBounds_toArray, List.set_cons_zero, List.set_cons_succ])
            refine lin_take (v := ?_) k0 (by rfl) ?_ ?_; rotate_left; (intro y hy; have p7y := hy.cell (cell_ltE p7) p7; have p8y := hy.cell (cell_ltE p8) p8; have q0y := hy.cell (cell_ltE q0) q0; have q1y := hy.cell (cell_ltE q1) q1; have q4y := hy.cell (cell_ltE q4) q4; have p9y := hy.cell (cell_ltE p9) p9; go_simp; try (with_reducible rfl)); (try simp only [Act.put, List.setIfInBounds_toArray, List.set_cons_zero, List.set_cons_succ])
            refine lin_take (v := ?_) k0 (by rfl) ?_ ?_; rotate_left; (intro y hy; have p7y := hy.cell (cell_ltE p7) p7; have p8y := hy.cell (cell_ltE p8) p8; have q0y := hy.cell (cell_ltE q0) q0; have q1y := hy.cell (cell_ltE q1) q1; have q4y := hy.cell (cell_ltE q4) q4; have p9y := hy.cell (cell_ltE p9) p9; go_simp; try (with_reducible rfl)); (try simp only [Act.put, List.setIfInBounds_toArray, List.set_cons_zero, List.set_cons_succ])
            refine lin_take (v := ?_) k0 (by rfl) ?_ ?_; rotate_left; (intro y hy; have p7y := hy.cell (cell_ltE p7) p7; have p8y := hy.cell (cell_ltE p8) p8; have q0y := hy.cell (cell_ltE q0) q0; have q1y := hy.cell (cell_ltE q1) q1; have q4y := hy.cell (cell_ltE q4) q4; have p9y := hy.cell (cell_ltE p9) p9; go_simp; try (with_reducible rfl)); (try simp only [Act.put, List.setIfInBounds_toArray, List.set_cons_zero, List.set_cons_succ])
            refine lin_take (v := ?_) k0 (by rfl) ?_ ?_; rotate_left; (intro y hy; have p7y := hy.cell (cell_ltE p7) p7; have p8y := hy.cell (cell_ltE p8) p8; have q0y := hy.cell (cell_ltE q0) q0; have q1y := hy.cell (cell_ltE q1) q1; have q4y := hy.cell (cell_ltE q4) q4; have p9y := hy.cell (cell_ltE p9) p9; go_simp; try (with_reducible rfl)); (try simp only [Act.put, List.setIfInBounds_toArray, List.set_cons_zero, List.set_cons_succ])
            refine lin_take (v := ?_) k0 (by rfl) ?_ ?_; rotate_left; (intro y hy; have p7y := hy.cell (cell_ltE p7) p7; have p8y := hy.cell (cell_ltE p8) p8; have q0y := hy.cell (cell_ltE q0) q0; have q1y := hy.cell (cell_ltE q1) q1; have q4y := hy.cell (cell_ltE q4) q4; have p9y := hy.cell (cell_ltE p9) p9; go_simp; try (with_reducible rfl)); (try simp only [Act.put, List.setIfInBounds_toArray, List.set_cons_zero, List.set_cons_succ])
            refine lin_done ?_
            clear k0
            have qh' : wr.drew.cell? ⟨hb, r, none⟩ = some (.int .i64 (h : Int)) := qh
            have qf' : wr.drew.frozen? ⟨hb, r, none⟩ = false := qf
            have p7' := (Kept.refl wr).drew.cell (cell_ltE p7) p7
            clear p7 p8 qh qf q0 q1 q4
            go_wp2_with fail
            go_roundw
            case rel => exact ⟨q + 1, by omega, by go_num, (by first | exact HP2.out | exact HP2.out.below (Below.refl _ _).drew | exact HP2.out.below (Below.drewN_ (Below.refl _ _) _))⟩
            case measure => simp [intOf]; omega

        · have HCD := Lib.hid (HEx.out.from HE2.out.keep)
          have ec := HCE.out q (by have := HLL.out; omega)
          rw [ec] at HCD
          clear ec hE
          go_wp2_with fail
          go_roundw
          case rel => exact ⟨k + 1, by omega, by go_num, HCD.out⟩
          case measure => simp [intOf]; omega
    · have hkn : k = n := by omega
      have HFin : Hid (EachS hb N y5 (allCs B) wr) := by
        have := HE.out
        rw [hkn, List.take_of_length_le (by rw [HBB.out, List.length_map, ← HN.out]; exact Nat.le_refl _)] at this
        exact this
      clear hE hkn hdn HE
      go_wp2_with fail
      clear s0
      obtain ⟨wz, hwz⟩ : ∃ wz, wz = wr := ⟨_, rfl⟩
      have HFz : Hid (EachS hb N y5 (allCs B) wz) := by rw [hwz]; exact HFin.out
      rw [← hwz]
      clear hwz HFin
      go_loopw [11] (fun ii wy => ∃ q : Nat, q ≤ N ∧ ii = .int .i64 q ∧ wy = wz) (fun ii _ => N - (intOf ii).toNat)
      case atStart => exact ⟨0, Nat.zero_le _, rfl, rfl⟩
      case round =>
        obtain ⟨q, hq, rfl, rfl⟩ := hrel
        by_cases hlq : q < N
        · obtain ⟨c1, c2⟩ := HCNT.out q (by rw [← HNC.out]; exact hlq)
          obtain ⟨h, hh⟩ : ∃ h, h = cntZ (allCs B) q := ⟨_, rfl⟩
          have qh : wr.cell? ⟨hb, q, none⟩ = some (.int .i64 (h : Int)) := by rw [HFz.out.own.cellAt q (by omega), cntV_ints _ hlq, hh]
          rw [← hh] at c1 c2
          have g0 : (0 : Int) ≤ q := by omega
          have g1 : (q : Int) < N := by omega
          have g2 : ¬ (h : Int) < 1 := by omega
          have g3 : ¬ (6 : Int) < h := by omega
          have g4 : (q : Int) ≤ 200 := by omega
          clear hh
          go_wp2_with fail
          go_roundw
          case rel => exact ⟨q + 1, by omega, by go_num, by first | rfl | trivial⟩
          case measure => simp [intOf]; omega
        · go_wp2_with fail
          go_ret
          exact ⟨by first | rfl | trivial, HKY.out.trans ((HDN.out _ HFz.out.keep).mono (show w.heap.size ≤ hb by have := HPX.out; omega))⟩
end Go.Proofs.Ytbibfpopkcekdaa.Words

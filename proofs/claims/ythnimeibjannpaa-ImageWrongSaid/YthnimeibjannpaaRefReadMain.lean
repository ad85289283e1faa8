/- Contract of the document's own ReadImage where the head and the numbers are right: the loop over the code, and what is answered. -/
import Derived.Test.YthnimeibjannpaaRefRead
import Derived.OneCell
import Derived.LoopTactic
import Derived.LoopN
namespace Go.Proofs.Ythnimeibjannpaa.Words
open Go.RowKit
set_option linter.unusedVariables false

theorem info_ins : (Try.prog.info? 41).map (fun i => (i.zero, i.size, i.bytes)) = some (some (.agg #[.int .i64 0, .int .i64 0, .int .i64 0, .int .i64 0, .int .i64 0]), 5, 40) := by kernel_rfl
theorem insCells_one (i : Ins) : ∀ u ∈ insCells i, u.oneCell' = true := by
  intro u hu
  simp only [insCells, List.mem_cons, List.not_mem_nil, or_false] at hu
  rcases hu with rfl | rfl | rfl | rfl | rfl <;> rfl
theorem nums_parts {zs : List Int} (h : numsOk zs = true) : 1 ≤ numAt zs 4 ∧ numAt zs 4 ≤ 2000 ∧ numAt zs 8 ≤ 65536 ∧ numAt zs 12 ≤ numAt zs 8 ∧ zs.length = 16 + 4 * numAt zs 4 + numAt zs 12 := by
  unfold numsOk at h; exact of_decide_eq_true h

theorem new_cells1 (w : World) (o : Obj) (cs : Array Value) (t : TypeId) (xs : List Value) (h : cs.toList = xs) : ∀ j u, xs[j]? = some u → ((w.alloc o).alloc (.cells cs t)).cell? ((⟨w.heap.size + 1, 0, none⟩ : Addr).add j) = some u := by
  have := new_cells (w.alloc o) cs t xs h
  have e : (w.alloc o).heap.size = w.heap.size + 1 := by simp
  rw [e] at this
  exact this
theorem two_cell {w : World} {o1 o2 : Obj} {b k : Nat} {v : Value} (hb : b < w.heap.size) (h : w.cell? ⟨b, k, none⟩ = some v) : ((w.alloc o1).alloc o2).cell? ⟨b, k, none⟩ = some v := by
  rw [World.cell?_alloc_lt _ _ _ (by simp; omega), World.cell?_alloc_lt _ _ _ hb]; exact h
theorem two_frozen {w : World} {o1 o2 : Obj} {b k : Nat} {v : Bool} (hb : b < w.heap.size) (h : w.frozen? ⟨b, k, none⟩ = v) : ((w.alloc o1).alloc o2).frozen? ⟨b, k, none⟩ = v := by
  have h1 : Below (b + 1) w ((w.alloc o1).alloc o2) := ((Below.refl _ _).alloc (by omega) _).alloc (by simp; omega) _
  rw [h1.frozen (p := ⟨b, k, none⟩) (by show b < b + 1; omega)]; exact h
theorem below_cell {B : Nat} {x y : World} {b k : Nat} {v : Value} (h : Below B x y) (hb : b < B) (hv : x.cell? ⟨b, k, none⟩ = some v) : y.cell? ⟨b, k, none⟩ = some v := by
  rw [h.cell (p := ⟨b, k, none⟩) hb]; exact hv
theorem below_frozen {B : Nat} {x y : World} {b k : Nat} {v : Bool} (h : Below B x y) (hb : b < B) (hv : x.frozen? ⟨b, k, none⟩ = v) : y.frozen? ⟨b, k, none⟩ = v := by
  rw [h.frozen (p := ⟨b, k, none⟩) hb]; exact hv
theorem decoded_0 (zs : List Int) : decodedTo zs 0 = true := rfl

/-- What holds ahead of each round: j instructions are read. -/
structure RoundR (zs : List Int) (y wr : World) (PB : Nat) (j m : Nat) (v vd : Value) : Prop where
  kept : Kept y wr
  big : PB < wr.heap.size
  b0 : wr.cell? ⟨PB, 0, none⟩ = some v
  b1 : wr.cell? ⟨PB, 1, none⟩ = some (.int .i64 m)
  b2 : wr.cell? ⟨PB, 2, none⟩ = some vd
  free : wr.frozen? ⟨PB, 0, none⟩ = false
  own : wr.ownsRow (PB + 1) 41 5 v j (codeCells (codeTo zs j))
  done : decodedTo zs j = true

set_option maxHeartbeats 4000000 in
theorem refRead_main (A : Option Addr) (c : Nat) (zs : List Int) (w : World) (h : Row w w.heap.size 1 (.slice A zs.length c) zs.length (zs.map (Value.int .u8))) (hz : ∀ x ∈ zs, 0 ≤ x ∧ x ≤ 255) (hh : headOk zs = true) (hn : numsOk zs = true) :
    Calls Try.prog 12 #[.slice A zs.length c] w fun e w' => ∃ vc vd, e = .returned (.tuple #[.agg #[vc, .int .i64 (readP zs).size, vd], .int .i64 (readE zs)]) ∧ ProgV w' w'.heap.size vc vd (readP zs) ∧ Below w.heap.size w w' := by
  obtain ⟨i0, hi, hz0, hz1, hz2⟩ := info_parts info_u8
  have HZ2 := Lib.hid hz2
  clear hz2
  obtain ⟨i1, hi', hz0', hz1', hz2'⟩ := info_parts info_ins
  have HZ2' := Lib.hid hz2'
  clear hz2'
  have HNP := Lib.hid (nums_parts hn)
  have r4 := wordAt_range hz 4
  have r8 := wordAt_range hz 8
  have r12 := wordAt_range hz 12
  rw [numAt_eq hz] at r4 r8 r12
  obtain ⟨u1, u2⟩ := h.cap
  obtain ⟨hl, hf⟩ := head_parts hh
  obtain ⟨b, off, rfl, hb, _⟩ := h.at_ (by omega)
  have HZ := Lib.hid hz
  have cv := conv_row (P := Try.prog) (w.alloc (.cells #[.slice none 0 0, .int .i64 0, .slice none 0 0] 25)) 23 5 Try.underlying23 Try.underlying5 ((h.front (k := 4) (by omega)).alloc (Nat.le_refl _) _) 9 Try.underlying9
  have hs := head_eq hz
  rw [decide_eq_true hf] at hs
  have hR := h.alloc (Nat.le_refl _) (.cells #[.slice none 0 0, .int .i64 0, .slice none 0 0] 25)
  have g4 := Lib.hid (getR_yes (zs := zs) (k := 4) (by omega))
  have g8 := Lib.hid (getR_yes (zs := zs) (k := 8) (by omega))
  have g12 := Lib.hid (getR_yes (zs := zs) (k := 12) (by omega))
  have e4 := Lib.hid (numAt_eq hz 4)
  have e8 := Lib.hid (numAt_eq hz 8)
  have e12 := Lib.hid (numAt_eq hz 12)
  clear hf hz
  go_enter Try.func12, Try.ntmps12
  go_wp2_with fail
  refine (refGet_row hR HZ.out (4 : Nat)).mono ?_; rintro e w1 ⟨rfl, k1, rfl⟩
  rw [g4.out, e4.out]
  try dsimp only
  go_wp2_with fail
  refine (refGet_row (hR.drewN k1) HZ.out (8 : Nat)).mono ?_; rintro e w2 ⟨rfl, k2, rfl⟩
  rw [g8.out, e8.out]
  try dsimp only
  go_wp2_with fail
  refine (refGet_row (hR.drewN (k1 + k2)) HZ.out (12 : Nat)).mono ?_; rintro e w3 ⟨rfl, k3, rfl⟩
  rw [g12.out, e12.out]
  try dsimp only
  obtain ⟨n1, n2, n3, n4, n5⟩ := HNP.out
  clear HNP
  generalize hN : numAt zs 4 = n at *
  generalize hM : numAt zs 8 = m at *
  generalize hD : numAt zs 12 = d at *
  have HN := Lib.hid hN
  have HM := Lib.hid hM
  have HD := Lib.hid hD
  have HL := Lib.hid n5
  have hs2 : zs.length - (16 + 4 * n) = d := by omega
  have HS2 := Lib.hid hs2
  clear hN hM hD hs2 cv hs
  have hs0 : Row (((w.alloc (.cells #[.slice none 0 0, .int .i64 0, .slice none 0 0] 25)).drewN (k1 + k2)).drewN k3) w.heap.size 1 _ _ _ := ((Row.back (k := 16 + 4 * n) hR (by omega)).drewN (k1 + k2)).drewN k3
  have hr0 : Row (((w.alloc (.cells #[.slice none 0 0, .int .i64 0, .slice none 0 0] 25)).drewN (k1 + k2)).drewN k3) w.heap.size 1 _ _ _ := (hR.drewN (k1 + k2)).drewN k3
  have z0 : (((w.alloc (.cells #[.slice none 0 0, .int .i64 0, .slice none 0 0] 25)).drewN (k1 + k2)).drewN k3).cell? ⟨w.heap.size, 0, none⟩ = some (.slice none 0 0) := by go_simp
  have z1 : (((w.alloc (.cells #[.slice none 0 0, .int .i64 0, .slice none 0 0] 25)).drewN (k1 + k2)).drewN k3).cell? ⟨w.heap.size, 1, none⟩ = some (.int .i64 0) := by go_simp
  have z2 : (((w.alloc (.cells #[.slice none 0 0, .int .i64 0, .slice none 0 0] 25)).drewN (k1 + k2)).drewN k3).cell? ⟨w.heap.size, 2, none⟩ = some (.slice none 0 0) := by go_simp
  have zf : ∀ k, (((w.alloc (.cells #[.slice none 0 0, .int .i64 0, .slice none 0 0] 25)).drewN (k1 + k2)).drewN k3).frozen? ⟨w.heap.size, k, none⟩ = false := fun k => by go_simp
  have hW : Below w.heap.size w (((w.alloc (.cells #[.slice none 0 0, .int .i64 0, .slice none 0 0] 25)).drewN (k1 + k2)).drewN k3) := Below.drewN_ (Below.drewN_ ((Below.refl w.heap.size w).alloc (Nat.le_refl _) _) _) _
  have hWs : w.heap.size < (((w.alloc (.cells #[.slice none 0 0, .int .i64 0, .slice none 0 0] 25)).drewN (k1 + k2)).drewN k3).heap.size := by simp
  clear hR
  generalize (((w.alloc (.cells #[.slice none 0 0, .int .i64 0, .slice none 0 0] 25)).drewN (k1 + k2)).drewN k3) = W0 at *
  generalize hLL : zs.length = L at *
  have HLL := Lib.hid hLL
  clear hLL
  have n6 : (L : Int) = 16 + 4 * (n : Int) + (d : Int) := by omega
  have n7 : ((L : Int) != 16 + 4 * (n : Int) + (d : Int)) = false := by simp; omega
  have n8 : L - (16 + 4 * n) ≤ 65536 := by omega
  clear n5
  have hdrop : ∀ v, Row W0 W0.heap.size 1 v (L - (16 + 4 * n)) ((zs.drop (16 + 4 * n)).map (Value.int .u8)) → Row W0 W0.heap.size 1 v (L - (16 + 4 * n)) ((zs.drop (16 + 4 * n)).map (Value.int .u8)) := fun _ h => h
  by_cases hcc : c = 16 + 4 * n
  · have hd0 : d = 0 := by omega
    have hs1 : Row W0 W0.heap.size 1 (.slice (some ⟨b, off, none⟩) (L - (16 + 4 * n)) (c - (16 + 4 * n))) (L - (16 + 4 * n)) ((zs.drop (16 + 4 * n)).map (Value.int .u8)) := by
      have e : L - (16 + 4 * n) = 0 := by omega
      rw [e]
      refine ⟨?_, _, _, rfl, by omega, by omega, (fun h => by cases h), fun h => absurd rfl h⟩
      have := HLL.out
      simp; omega
    clear hs0 hd0 hdrop
    subst hcc
    go_wp2_with (at_builtin; refine wpList_append_row _ rfl (.const (.slice none 0 0)) (.tmp 81) 23 rfl W0.heap.size 5 i0 (.int .u8 0) 1 1 Try.underlying23 hi hz0 hz1 HZ2.out rfl (by omega) (.slice none 0 0) 0 [] rfl (World.ownsRow_nil _ _ _ _) W0.heap.size _ (L - (16 + 4 * n)) _ rfl hs1 (u8_one _) (by unfold maxLen; omega) (by omega) (Nat.le_refl _) ?_; intro v' y1 hown1 hg1; simp only [Nat.zero_add, List.nil_append, HS2.out] at hown1; obtain ⟨Av, cw, rfl⟩ := (Row.of_own hown1).form)
    have kY : Kept W0 y1 := Below.grown (Below.refl _ _) hg1 (Nat.le_refl _) (fun k hk => by simp [Value.ownBlock] at hk)
    have hP : RoundR zs y1 (y1.alloc (.cells #[.slice none 0 0, .int .i64 m, .slice Av d cw] 25)) y1.heap.size 0 m (.slice none 0 0) (.slice Av d cw) :=
      ⟨(Kept.refl y1).alloc _, by simp, by go_simp, by go_simp, by go_simp, by go_simp, World.ownsRow_nil _ _ _ _, decoded_0 zs⟩
    have HRow := Lib.hid (fun (x : World) (h : Kept y1 x) => (kY.trans h).row (hr0.more (Nat.le_of_lt hWs)))
    have HG := Lib.hid (fun (j : Nat) (hj : j < n) => getR_yes (zs := zs) (k := 16 + 4 * j) (by have := HLL.out; omega))
    have HWd := Lib.hid (fun (j : Nat) => wordAt_range HZ.out (16 + 4 * j))
    have hyw : w.heap.size < y1.heap.size := by have := kY.size; omega
    have Z0 := Lib.hid (fun (x : World) (h : Kept y1 x) => (kY.trans h).cell hWs z0)
    have Z1 := Lib.hid (fun (x : World) (h : Kept y1 x) => (kY.trans h).cell hWs z1)
    have Z2 := Lib.hid (fun (x : World) (h : Kept y1 x) => (kY.trans h).cell hWs z2)
    have ZF := Lib.hid (fun (x : World) (h : Kept y1 x) (k : Nat) => below_frozen (kY.trans h) hWs (zf k))
    have HBw := Lib.hid (hW.trans (Below.mono kY (Nat.le_of_lt hWs)))
    have HOwn := Lib.hid hown1
    generalize y1.alloc (.cells #[.slice none 0 0, .int .i64 m, .slice Av d cw] 25) = W1 at *
    clear z0 z1 z2 zf hW hr0 hown1 hg1 hs1
    go_loopw [14] (fun i wr => ∃ (j : Nat) (v : Value), j ≤ n ∧ i = .int .i64 j ∧ RoundR zs y1 wr y1.heap.size j m v (.slice Av d cw)) (fun i _ => n - (intOf i).toNat)
    case atStart => exact ⟨0, _, Nat.zero_le _, rfl, hP⟩
    case round =>
      obtain ⟨j, v, hj, rfl, hK⟩ := hrel
      by_cases hlt : j < n
      · have j0 : (0 : Int) ≤ j := by omega
        have j1 : (j : Int) < n := by omega
        have hg := Lib.hid (HG.out j hlt)
        have hw := HWd.out j
        go_wp2_with fail
        refine (refGet_row (HRow.out _ hK.kept) HZ.out ((16 + 4 * j : Nat) : Int)).mono ?_; rintro e x1 ⟨rfl, k4, rfl⟩
        rw [hg.out]
        try dsimp only
        go_wp2_with fail
        refine (refDecode_any (wordAt zs (16 + 4 * j)) _ hw.1 hw.2).mono ?_; rintro e x2 ⟨rfl, hb2⟩
        have hK2 := hK.kept.drewN k4
        have hK3 := hK2.to hb2
        have hbig : y1.heap.size < x2.heap.size := by have := hb2.size; have := hK.big; simp at *; omega
        have b0 := below_cell hb2 (by exact hK.big) hK.b0
        have b1 := below_cell hb2 (by exact hK.big) hK.b1
        have b2 := below_cell hb2 (by exact hK.big) hK.b2
        have bf := below_frozen hb2 (by exact hK.big) hK.free
        have hO2 := own_below (w := wr.drewN k4) hK.own hb2
        have hdone := Lib.hid hK.done
        have hB2 : Below w.heap.size w x2 := HBw.out.trans (hK3.mono (Nat.le_of_lt hyw))
        clear hb2 hK hK2
        cases hd : decB (wordAt zs (16 + 4 * j))
        · have hcode := Lib.hid (read_code hh hn (by rw [HN.out]; exact decoded_down hd hlt))
          have z0 := Z0.out _ hK3
          have z1 := Z1.out _ hK3
          have z2 := Z2.out _ hK3
          have f0 := ZF.out _ hK3 0
          have f1 := ZF.out _ hK3 1
          have f2 := ZF.out _ hK3 2
          have hzz : w.heap.size < x2.heap.size := by have := hK3.size; omega
          rw [decZ_no hd]
          dsimp only [noIns]
          go_wp2_with fail
          obtain ⟨q1, q2⟩ := hcode.out
          rw [q1, q2]
          refine bodyPost_ret (v := .tuple #[.agg #[.slice none 0 0, .int .i64 0, .slice none 0 0], .int .i64 3]) (by simp [results, Try.results12, go_sem, z0, z1, z2, hzz]; done) rfl ⟨.slice none 0 0, .slice none 0 0, rfl, ⟨Row.nil _ _ _, Row.nil _ _ _⟩, ?_⟩
          exact Below.alloc (((hB2.setCell (by simp) _).setCell (by simp) _).setCell (by simp) _) (by simpa using hB2.size) _
        · have hins : decZ (wordAt zs (16 + 4 * j)) = insAt zs j := decZ_yes hd
          rw [hins]
          have hdone2 := Lib.hid (show decodedTo zs (j + 1) = true by rw [decodedTo_succ, hdone.out]; exact hd)
          have hsucc := Lib.hid (codeTo_succ zs j)
          clear hins
          go_wp2_with (at_builtin; refine wpList_append_own _ rfl (.tmp 106) (.tmp 108) 22 rfl (y1.heap.size + 1) 41 i1 (.agg #[.int .i64 0, .int .i64 0, .int .i64 0, .int .i64 0, .int .i64 0]) 5 40 Try.underlying22 hi' hz0' hz1' HZ2'.out rfl (by omega) v j (codeCells (codeTo zs j)) rfl ((hO2.alloc _).alloc _) ⟨x2.heap.size + 1, 0, none⟩ 1 1 (insCells (insAt zs j)) rfl rfl (new_cells1 x2 _ _ _ _ rfl) (insCells_one _) (by unfold maxLen; omega) (by omega) (by simp; omega) ?_; intro v2 x3 hO3 hg3 _; obtain ⟨A2, cv2, rfl⟩ := (Row.of_own hO3).form; have hB3 := Below.grown (Below.refl (y1.heap.size + 1) _) hg3 (by simp; omega) (fun k hk => (hO2.lt k hk).1); have d0 := below_cell hB3 (Nat.lt_succ_self _) (two_cell hbig b0); have d1 := below_cell hB3 (Nat.lt_succ_self _) (two_cell hbig b1); have d2 := below_cell hB3 (Nat.lt_succ_self _) (two_cell hbig b2); have df := below_frozen hB3 (Nat.lt_succ_self _) (two_frozen hbig bf))
          have hK4 : Kept y1 x3 := ((hK3.alloc _).alloc _).up (hB3.mono (Nat.le_succ _))
          have hs4 : y1.heap.size < x3.heap.size := by have := hB3.size; simp at this; omega
          go_roundw
          case rel =>
            refine ⟨j + 1, .slice A2 (j + 1) cv2, by omega, by go_num, ⟨Below.setCell hK4 (Nat.le_refl _) _, by simpa using hs4, by go_simp, by go_simp, by go_simp, by go_simp, ?_, hdone2.out⟩⟩
            rw [hsucc.out, codeCells_append, codeCells_cons, codeCells_nil, List.append_nil]
            exact ownsRow_setCell_below hO3 (Nat.lt_succ_self _) _
          case measure => simp [intOf]; omega
      · have hjn : j = n := by omega
        subst hjn
        have b0 := hK.b0
        have b1 := hK.b1
        have b2 := hK.b2
        have hk := hK.kept
        have hown := hK.own
        have hdn := Lib.hid hK.done
        obtain ⟨A2, cv2, rfl⟩ := (Row.of_own hown).form
        have z0 := Z0.out _ hk
        have z1 := Z1.out _ hk
        have z2 := Z2.out _ hk
        have f0 := ZF.out _ hk 0
        have f1 := ZF.out _ hk 1
        have f2 := ZF.out _ hk 2
        have hT := refTargets_any A2 cv2 m (.slice Av d cw) (codeTo zs j) wr (by rw [codeTo_len]; exact Row.of_own hown) (by rw [codeTo_len]; omega)
        rw [codeTo_len] at hT
        have HT := Lib.hid hT
        have hbig := hK.big
        clear hT hK
        go_wp2_with fail
        refine HT.out.mono ?_; rintro e x2 ⟨rfl, hb2⟩
        have hK3 := hk.to hb2
        have hO2 := own_below hown hb2
        have b0 := below_cell hb2 hbig b0
        have b1 := below_cell hb2 hbig b1
        have b2 := below_cell hb2 hbig b2
        have hzz : w.heap.size < x2.heap.size := by have := hK3.size; omega
        have hww : w.heap.size < wr.heap.size := by omega
        have z0 := below_cell hb2 hww z0
        have z1 := below_cell hb2 hww z1
        have z2 := below_cell hb2 hww z2
        have f0 := below_frozen hb2 hww f0
        have f1 := below_frozen hb2 hww f1
        have f2 := below_frozen hb2 hww f2
        have hB2 : Below w.heap.size w x2 := HBw.out.trans (hK3.mono (Nat.le_of_lt hyw))
        clear hb2 hk hown
        cases ht : targetsOk j 0 (codeTo zs j)
        · have hcode := Lib.hid (read_targets hh hn (by rw [HN.out]; exact hdn.out) (by rw [HN.out]; exact ht))
          have e4 : errT false = 4 := rfl
          rw [e4]
          go_wp2_with fail
          obtain ⟨q1, q2⟩ := hcode.out
          rw [q1, q2]
          refine bodyPost_ret (v := .tuple #[.agg #[.slice none 0 0, .int .i64 0, .slice none 0 0], .int .i64 4]) (by simp [results, Try.results12, go_sem, z0, z1, z2]; done) rfl ⟨.slice none 0 0, .slice none 0 0, rfl, ⟨Row.nil _ _ _, Row.nil _ _ _⟩, ?_⟩
          exact ((hB2.setCell (by simp) _).setCell (by simp) _).setCell (by simp) _
        · have hcode := Lib.hid (read_yes hh hn (by rw [HN.out]; exact hdn.out) (by rw [HN.out]; exact ht))
          have e4 : errT true = 0 := rfl
          rw [e4]
          go_wp2_with fail
          obtain ⟨q1, q2⟩ := hcode.out
          rw [q1, q2]
          have hc : (readG zs).code = codeTo zs j := by show codeTo zs (numAt zs 4) = _; rw [HN.out]
          have hsz : (readG zs).size = (m : Int) := by show ((numAt zs 8 : Nat) : Int) = m; rw [HM.out]
          have hda : (readG zs).data = zs.drop (16 + 4 * j) := by show zs.drop (16 + 4 * numAt zs 4) = _; rw [HN.out]
          have hdl : (zs.drop (16 + 4 * j)).length = d := by rw [List.length_drop, HLL.out]; exact HS2.out
          have hne1 : (Value.slice A2 j cv2).ownBlock ≠ some w.heap.size := fun h => by have := (hO2.lt _ h).1; omega
          have hO9 := own_below HOwn.out hK3
          have hne2 : (Value.slice Av d cw).ownBlock ≠ some w.heap.size := fun h => by have := (hO9.lt _ h).1; omega
          rw [hsz]
          refine bodyPost_ret (v := .tuple #[.agg #[.slice A2 j cv2, .int .i64 m, .slice Av d cw], .int .i64 0]) (by simp [results, Try.results12, go_sem, z0, z1, z2]; done) rfl ⟨.slice A2 j cv2, .slice Av d cw, rfl, ⟨?_, ?_⟩, ?_⟩
          · rw [hc, codeTo_len]
            exact Row.of_own (ownsRow_setCell_other (ownsRow_setCell_other (ownsRow_setCell_other hO2 hne1 _) hne1 _) hne1 _)
          · rw [hda, hdl]
            exact Row.of_own (ownsRow_setCell_other (ownsRow_setCell_other (ownsRow_setCell_other hO9 hne2 _) hne2 _) hne2 _)
          · exact ((hB2.setCell (by simp) _).setCell (by simp) _).setCell (by simp) _
  · have hs1 := hs0.more (Nat.le_of_lt hWs)
    clear hs0 hdrop
    have hcc' : 16 + 4 * n < c := by omega
    clear hcc
    go_wp2_with (at_builtin; refine wpList_append_row _ rfl (.const (.slice none 0 0)) (.tmp 81) 23 rfl W0.heap.size 5 i0 (.int .u8 0) 1 1 Try.underlying23 hi hz0 hz1 HZ2.out rfl (by omega) (.slice none 0 0) 0 [] rfl (World.ownsRow_nil _ _ _ _) W0.heap.size _ (L - (16 + 4 * n)) _ rfl hs1 (u8_one _) (by unfold maxLen; omega) (by omega) (Nat.le_refl _) ?_; intro v' y1 hown1 hg1; simp only [Nat.zero_add, List.nil_append, HS2.out] at hown1; obtain ⟨Av, cw, rfl⟩ := (Row.of_own hown1).form)
    have kY : Kept W0 y1 := Below.grown (Below.refl _ _) hg1 (Nat.le_refl _) (fun k hk => by simp [Value.ownBlock] at hk)
    have hP : RoundR zs y1 (y1.alloc (.cells #[.slice none 0 0, .int .i64 m, .slice Av d cw] 25)) y1.heap.size 0 m (.slice none 0 0) (.slice Av d cw) :=
      ⟨(Kept.refl y1).alloc _, by simp, by go_simp, by go_simp, by go_simp, by go_simp, World.ownsRow_nil _ _ _ _, decoded_0 zs⟩
    have HRow := Lib.hid (fun (x : World) (h : Kept y1 x) => (kY.trans h).row (hr0.more (Nat.le_of_lt hWs)))
    have HG := Lib.hid (fun (j : Nat) (hj : j < n) => getR_yes (zs := zs) (k := 16 + 4 * j) (by have := HLL.out; omega))
    have HWd := Lib.hid (fun (j : Nat) => wordAt_range HZ.out (16 + 4 * j))
    have hyw : w.heap.size < y1.heap.size := by have := kY.size; omega
    have Z0 := Lib.hid (fun (x : World) (h : Kept y1 x) => (kY.trans h).cell hWs z0)
    have Z1 := Lib.hid (fun (x : World) (h : Kept y1 x) => (kY.trans h).cell hWs z1)
    have Z2 := Lib.hid (fun (x : World) (h : Kept y1 x) => (kY.trans h).cell hWs z2)
    have ZF := Lib.hid (fun (x : World) (h : Kept y1 x) (k : Nat) => below_frozen (kY.trans h) hWs (zf k))
    have HBw := Lib.hid (hW.trans (Below.mono kY (Nat.le_of_lt hWs)))
    have HOwn := Lib.hid hown1
    generalize y1.alloc (.cells #[.slice none 0 0, .int .i64 m, .slice Av d cw] 25) = W1 at *
    clear z0 z1 z2 zf hW hr0 hown1 hg1 hs1
    go_loopw [14] (fun i wr => ∃ (j : Nat) (v : Value), j ≤ n ∧ i = .int .i64 j ∧ RoundR zs y1 wr y1.heap.size j m v (.slice Av d cw)) (fun i _ => n - (intOf i).toNat)
    case atStart => exact ⟨0, _, Nat.zero_le _, rfl, hP⟩
    case round =>
      obtain ⟨j, v, hj, rfl, hK⟩ := hrel
      by_cases hlt : j < n
      · have j0 : (0 : Int) ≤ j := by omega
        have j1 : (j : Int) < n := by omega
        have hg := Lib.hid (HG.out j hlt)
        have hw := HWd.out j
        go_wp2_with fail
        refine (refGet_row (HRow.out _ hK.kept) HZ.out ((16 + 4 * j : Nat) : Int)).mono ?_; rintro e x1 ⟨rfl, k4, rfl⟩
        rw [hg.out]
        try dsimp only
        go_wp2_with fail
        refine (refDecode_any (wordAt zs (16 + 4 * j)) _ hw.1 hw.2).mono ?_; rintro e x2 ⟨rfl, hb2⟩
        have hK2 := hK.kept.drewN k4
        have hK3 := hK2.to hb2
        have hbig : y1.heap.size < x2.heap.size := by have := hb2.size; have := hK.big; simp at *; omega
        have b0 := below_cell hb2 (by exact hK.big) hK.b0
        have b1 := below_cell hb2 (by exact hK.big) hK.b1
        have b2 := below_cell hb2 (by exact hK.big) hK.b2
        have bf := below_frozen hb2 (by exact hK.big) hK.free
        have hO2 := own_below (w := wr.drewN k4) hK.own hb2
        have hdone := Lib.hid hK.done
        have hB2 : Below w.heap.size w x2 := HBw.out.trans (hK3.mono (Nat.le_of_lt hyw))
        clear hb2 hK hK2
        cases hd : decB (wordAt zs (16 + 4 * j))
        · have hcode := Lib.hid (read_code hh hn (by rw [HN.out]; exact decoded_down hd hlt))
          have z0 := Z0.out _ hK3
          have z1 := Z1.out _ hK3
          have z2 := Z2.out _ hK3
          have f0 := ZF.out _ hK3 0
          have f1 := ZF.out _ hK3 1
          have f2 := ZF.out _ hK3 2
          have hzz : w.heap.size < x2.heap.size := by have := hK3.size; omega
          rw [decZ_no hd]
          dsimp only [noIns]
          go_wp2_with fail
          obtain ⟨q1, q2⟩ := hcode.out
          rw [q1, q2]
          refine bodyPost_ret (v := .tuple #[.agg #[.slice none 0 0, .int .i64 0, .slice none 0 0], .int .i64 3]) (by simp [results, Try.results12, go_sem, z0, z1, z2, hzz]; done) rfl ⟨.slice none 0 0, .slice none 0 0, rfl, ⟨Row.nil _ _ _, Row.nil _ _ _⟩, ?_⟩
          exact Below.alloc (((hB2.setCell (by simp) _).setCell (by simp) _).setCell (by simp) _) (by simpa using hB2.size) _
        · have hins : decZ (wordAt zs (16 + 4 * j)) = insAt zs j := decZ_yes hd
          rw [hins]
          have hdone2 := Lib.hid (show decodedTo zs (j + 1) = true by rw [decodedTo_succ, hdone.out]; exact hd)
          have hsucc := Lib.hid (codeTo_succ zs j)
          clear hins
          go_wp2_with (at_builtin; refine wpList_append_own _ rfl (.tmp 106) (.tmp 108) 22 rfl (y1.heap.size + 1) 41 i1 (.agg #[.int .i64 0, .int .i64 0, .int .i64 0, .int .i64 0, .int .i64 0]) 5 40 Try.underlying22 hi' hz0' hz1' HZ2'.out rfl (by omega) v j (codeCells (codeTo zs j)) rfl ((hO2.alloc _).alloc _) ⟨x2.heap.size + 1, 0, none⟩ 1 1 (insCells (insAt zs j)) rfl rfl (new_cells1 x2 _ _ _ _ rfl) (insCells_one _) (by unfold maxLen; omega) (by omega) (by simp; omega) ?_; intro v2 x3 hO3 hg3 _; obtain ⟨A2, cv2, rfl⟩ := (Row.of_own hO3).form; have hB3 := Below.grown (Below.refl (y1.heap.size + 1) _) hg3 (by simp; omega) (fun k hk => (hO2.lt k hk).1); have d0 := below_cell hB3 (Nat.lt_succ_self _) (two_cell hbig b0); have d1 := below_cell hB3 (Nat.lt_succ_self _) (two_cell hbig b1); have d2 := below_cell hB3 (Nat.lt_succ_self _) (two_cell hbig b2); have df := below_frozen hB3 (Nat.lt_succ_self _) (two_frozen hbig bf))
          have hK4 : Kept y1 x3 := ((hK3.alloc _).alloc _).up (hB3.mono (Nat.le_succ _))
          have hs4 : y1.heap.size < x3.heap.size := by have := hB3.size; simp at this; omega
          go_roundw
          case rel =>
            refine ⟨j + 1, .slice A2 (j + 1) cv2, by omega, by go_num, ⟨Below.setCell hK4 (Nat.le_refl _) _, by simpa using hs4, by go_simp, by go_simp, by go_simp, by go_simp, ?_, hdone2.out⟩⟩
            rw [hsucc.out, codeCells_append, codeCells_cons, codeCells_nil, List.append_nil]
            exact ownsRow_setCell_below hO3 (Nat.lt_succ_self _) _
          case measure => simp [intOf]; omega
      · have hjn : j = n := by omega
        subst hjn
        have b0 := hK.b0
        have b1 := hK.b1
        have b2 := hK.b2
        have hk := hK.kept
        have hown := hK.own
        have hdn := Lib.hid hK.done
        obtain ⟨A2, cv2, rfl⟩ := (Row.of_own hown).form
        have z0 := Z0.out _ hk
        have z1 := Z1.out _ hk
        have z2 := Z2.out _ hk
        have f0 := ZF.out _ hk 0
        have f1 := ZF.out _ hk 1
        have f2 := ZF.out _ hk 2
        have hT := refTargets_any A2 cv2 m (.slice Av d cw) (codeTo zs j) wr (by rw [codeTo_len]; exact Row.of_own hown) (by rw [codeTo_len]; omega)
        rw [codeTo_len] at hT
        have HT := Lib.hid hT
        have hbig := hK.big
        clear hT hK
        go_wp2_with fail
        refine HT.out.mono ?_; rintro e x2 ⟨rfl, hb2⟩
        have hK3 := hk.to hb2
        have hO2 := own_below hown hb2
        have b0 := below_cell hb2 hbig b0
        have b1 := below_cell hb2 hbig b1
        have b2 := below_cell hb2 hbig b2
        have hzz : w.heap.size < x2.heap.size := by have := hK3.size; omega
        have hww : w.heap.size < wr.heap.size := by omega
        have z0 := below_cell hb2 hww z0
        have z1 := below_cell hb2 hww z1
        have z2 := below_cell hb2 hww z2
        have f0 := below_frozen hb2 hww f0
        have f1 := below_frozen hb2 hww f1
        have f2 := below_frozen hb2 hww f2
        have hB2 : Below w.heap.size w x2 := HBw.out.trans (hK3.mono (Nat.le_of_lt hyw))
        clear hb2 hk hown
        cases ht : targetsOk j 0 (codeTo zs j)
        · have hcode := Lib.hid (read_targets hh hn (by rw [HN.out]; exact hdn.out) (by rw [HN.out]; exact ht))
          have e4 : errT false = 4 := rfl
          rw [e4]
          go_wp2_with fail
          obtain ⟨q1, q2⟩ := hcode.out
          rw [q1, q2]
          refine bodyPost_ret (v := .tuple #[.agg #[.slice none 0 0, .int .i64 0, .slice none 0 0], .int .i64 4]) (by simp [results, Try.results12, go_sem, z0, z1, z2]; done) rfl ⟨.slice none 0 0, .slice none 0 0, rfl, ⟨Row.nil _ _ _, Row.nil _ _ _⟩, ?_⟩
          exact ((hB2.setCell (by simp) _).setCell (by simp) _).setCell (by simp) _
        · have hcode := Lib.hid (read_yes hh hn (by rw [HN.out]; exact hdn.out) (by rw [HN.out]; exact ht))
          have e4 : errT true = 0 := rfl
          rw [e4]
          go_wp2_with fail
          obtain ⟨q1, q2⟩ := hcode.out
          rw [q1, q2]
          have hc : (readG zs).code = codeTo zs j := by show codeTo zs (numAt zs 4) = _; rw [HN.out]
          have hsz : (readG zs).size = (m : Int) := by show ((numAt zs 8 : Nat) : Int) = m; rw [HM.out]
          have hda : (readG zs).data = zs.drop (16 + 4 * j) := by show zs.drop (16 + 4 * numAt zs 4) = _; rw [HN.out]
          have hdl : (zs.drop (16 + 4 * j)).length = d := by rw [List.length_drop, HLL.out]; exact HS2.out
          have hne1 : (Value.slice A2 j cv2).ownBlock ≠ some w.heap.size := fun h => by have := (hO2.lt _ h).1; omega
          have hO9 := own_below HOwn.out hK3
          have hne2 : (Value.slice Av d cw).ownBlock ≠ some w.heap.size := fun h => by have := (hO9.lt _ h).1; omega
          rw [hsz]
          refine bodyPost_ret (v := .tuple #[.agg #[.slice A2 j cv2, .int .i64 m, .slice Av d cw], .int .i64 0]) (by simp [results, Try.results12, go_sem, z0, z1, z2]; done) rfl ⟨.slice A2 j cv2, .slice Av d cw, rfl, ⟨?_, ?_⟩, ?_⟩
          · rw [hc, codeTo_len]
            exact Row.of_own (ownsRow_setCell_other (ownsRow_setCell_other (ownsRow_setCell_other hO2 hne1 _) hne1 _) hne1 _)
          · rw [hda, hdl]
            exact Row.of_own (ownsRow_setCell_other (ownsRow_setCell_other (ownsRow_setCell_other hO9 hne2 _) hne2 _) hne2 _)
          · exact ((hB2.setCell (by simp) _).setCell (by simp) _).setCell (by simp) _

theorem refRead_any (A : Option Addr) (c : Nat) (zs : List Int) (w : World) (h : Row w w.heap.size 1 (.slice A zs.length c) zs.length (zs.map (Value.int .u8))) (hz : ∀ x ∈ zs, 0 ≤ x ∧ x ≤ 255) :
    Calls Try.prog 12 #[.slice A zs.length c] w fun e w' => ∃ vc vd, e = .returned (.tuple #[.agg #[vc, .int .i64 (readP zs).size, vd], .int .i64 (readE zs)]) ∧ ProgV w' w'.heap.size vc vd (readP zs) ∧ Below w.heap.size w w' := by
  cases hh : headOk zs
  · obtain ⟨q1, q2⟩ := read_head hh
    rw [q1, q2]
    exact (refRead_head A c zs w h hz hh).mono fun e w' ⟨h1, h2⟩ => ⟨_, _, h1, ⟨Row.nil _ _ _, Row.nil _ _ _⟩, h2⟩
  cases hn : numsOk zs
  · obtain ⟨q1, q2⟩ := read_nums hn
    rw [q1, q2]
    exact (refRead_nums A c zs w h hz hh hn).mono fun e w' ⟨h1, h2⟩ => ⟨_, _, h1, ⟨Row.nil _ _ _, Row.nil _ _ _⟩, h2⟩
  · exact refRead_main A c zs w h hz hh hn
end Go.Proofs.Ythnimeibjannpaa.Words

/- Contracts of the document's own find, sent, and of its maker's regs. -/
import Derived.Test.YtcaibahniheohaaRefMaker
import Derived.LoopN
import Derived.Deep.Cut
namespace Go.Proofs.Ytcaibahniheohaa.Words
set_option maxRecDepth 100000
open Go.RowKit
set_option linter.unusedVariables false
set_option linter.unusedSimpArgs false

/-- In a region that draws its order: an operation that turns the world is not wanted. -/
theorem lin_void {P : Program} {ops : Array Oper} {Q : Exit → Act → World → Prop} {op : Oper} {rest : List (Option Oper × Bool)} {S : World → Prop} {a : Act} {w : World} (hS : S w)
    (hw : Region.wanted op (yielded ops a.tmps) = false) (h : wpLin P ops Q rest S (a.put op.dst undef) w) : wpLin P ops Q ((some op, false) :: rest) S a w :=
  ⟨S, fun _ h => h, hS, by unfold linStep; rw [if_neg (by rw [hw]; decide)]; exact ⟨hS, h⟩⟩

set_option maxHeartbeats 1000000 in
theorem refFind_any (A : Option Addr) (c n : Nat) (zs : List Int) (x : Int) (w : World) (hn : zs.length = n) (hr : Row w w.heap.size 1 (.slice A n c) n (zs.map (Value.int .i64))) (hs : n ≤ 100) :
    Calls Try.prog 29 #[.slice A n c, .int .i64 x] w fun e w' => (∃ k : Int, e = .returned (.int .i64 k) ∧ (k < 0 ↔ ¬ x ∈ zs)) ∧ w' = w := by
  have HN := Lib.hid hn
  have HR := Lib.hid hr
  have H0 := Lib.hid (show x ∈ zs ↔ x ∈ zs.drop 0 by rw [List.drop_zero])
  clear hr hn
  go_enter Try.func29, Try.ntmps29
  go_wp2_with fail
  go_loopw [5] (fun i wr => ∃ j : Nat, j ≤ n ∧ i = .int .i64 j ∧ wr = w ∧ (x ∈ zs ↔ x ∈ zs.drop j)) (fun i _ => n - (intOf i).toNat)
  case atStart => exact ⟨0, Nat.zero_le _, rfl, rfl, H0.out⟩
  case round =>
    obtain ⟨j, hj, rfl, rfl, hT⟩ := hrel
    have HT := Lib.hid hT
    clear hT
    by_cases hlt : j < n
    · have hl : j < zs.length := by rw [HN.out]; exact hlt
      obtain ⟨b, off, rfl, hb, hcells⟩ := HR.out.at_ (by omega)
      have d0 := hcells j _ (ints_get hl)
      have HS := Lib.hid (mem_step (x := x) hl)
      obtain ⟨r, hre⟩ : ∃ r, r = zs.getD j 0 := ⟨_, rfl⟩
      rw [← hre] at d0 HS
      clear hcells hre hl
      have k0 : (0 : Int) ≤ j := by omega
      have k1 : (j : Int) < n := by omega
      cases hq : (r == x)
      · have hne : ¬ x = r := fun e => by rw [e] at hq; simp at hq
        have HX := Lib.hid hne
        clear hne
        go_wp2_with fail
        go_roundw
        case rel => exact ⟨j + 1, by omega, by go_num, by first | rfl | trivial, by rw [HT.out, HS.out]; exact ⟨fun h => h.resolve_left HX.out, .inr⟩⟩
        case measure => simp only [intOf]; omega
      · have heq : x = r := by simp at hq; exact hq.symm
        have HX := Lib.hid heq
        clear heq
        go_wp2_with fail
        go_ret
        exact ⟨⟨_, rfl, ⟨fun h => by omega, fun h => absurd (by rw [HT.out, HS.out]; exact .inl HX.out) h⟩⟩, by first | rfl | trivial⟩
    · have HE := Lib.hid (show zs.drop j = [] from List.drop_eq_nil_of_le (by rw [HN.out]; omega))
      go_wp2_with fail
      go_ret
      exact ⟨⟨_, rfl, ⟨fun h c => (by rw [HT.out, HE.out] at c; cases c), fun h => by omega⟩⟩, by first | rfl | trivial⟩

set_option maxHeartbeats 2000000 in
theorem mkRegs_any {b B : Nat} {pc off : Int} {v : Value} {l : List Cel} (k : Int) (A : Option Addr) (c n : Nat) (zs : List Int) (w : World) (h : Mk b B pc off w v l) (hl : l.length ≤ 50)
    (hn : zs.length = n) (hr : Row w w.heap.size 1 (.slice A n c) n (zs.map (Value.int .i64))) (hA : ∀ a, A = some a → ¬ (a.block = b ∨ v.ownBlock = some a.block)) (hs : n ≤ 8) :
    Calls Try.prog 18 #[.pointer (some ⟨b, 0, none⟩), .int .i64 k, .slice A n c] w fun e w' => e = .returned (.tuple #[]) ∧ MkOut b B pc off v (l ++ regsC k pc off zs) w w' := by
  have HM0 := Lib.hid h
  have HL0 := Lib.hid hl
  have HN := Lib.hid hn
  have HR := Lib.hid hr
  have HAN := Lib.hid hA
  clear h hl hn hr hA
  go_enter Try.func18, Try.ntmps18
  go_wp2_with fail
  go_loopw [6] (fun ii wr => ∃ (j : Nat) (v' : Value), j ≤ n ∧ ii = .int .i64 j ∧ Mk b B pc off wr v' (l ++ regsC k pc off (zs.take j)) ∧ KeepS (fun j => j = b ∨ v.ownBlock = some j) w wr ∧ (∀ g, v'.ownBlock = some g → v.ownBlock = some g ∨ w.heap.size ≤ g)) (fun ii _ => n - (intOf ii).toNat)
  case atStart => exact ⟨0, v, Nat.zero_le _, rfl, by simpa [regsC] using HM0.out, KeepS.refl _ _, fun g e => .inl e⟩
  case round =>
    obtain ⟨j, v', hj, rfl, hM, hK, hV⟩ := hrel
    have HM := Lib.hid hM
    have HK := Lib.hid hK
    have HV := Lib.hid hV
    clear hM hK hV
    by_cases hlt : j < n
    · have hl : j < zs.length := by rw [HN.out]; exact hlt
      have HRr := Lib.hid (row_keepS HR.out (Nat.le_refl _) HK.out HAN.out)
      obtain ⟨g, o, rfl, hb, hcells⟩ := HRr.out.at_ (by omega)
      have d0 := hcells j _ (ints_get hl)
      have HT := Lib.hid (show zs.take (j + 1) = zs.take j ++ [zs.getD j 0] by rw [List.take_add_one, List.getElem?_eq_getElem hl, List.getD_eq_getElem?_getD, List.getElem?_eq_getElem hl]; rfl)
      obtain ⟨r, hre⟩ : ∃ r, r = zs.getD j 0 := ⟨_, rfl⟩
      rw [← hre] at d0 HT
      clear hcells hre hl
      have HLL : Hid ((l ++ regsC k pc off (zs.take j)).length ≤ 100) := by rw [List.length_append, regsC_len]; have := HL0.out; show _ ≤ _; simp; omega
      have k0 : (0 : Int) ≤ j := by omega
      have k1 : (j : Int) < n := by omega
      go_wp2_with fail
      refine (mkReg_any k r wr HM.out HLL.out).mono ?_; rintro e w2 ⟨rfl, v2, hM2, hK2, hV2⟩
      have HM2 := Lib.hid hM2
      have HK2 := Lib.hid (HK.out.on hK2 (fun q e => by
        rcases e with e | e
        · exact .inl (.inl e)
        · exact (HV.out q e).elim (fun c => .inl (.inr c)) .inr))
      have HV2 : Hid (∀ g, v2.ownBlock = some g → v.ownBlock = some g ∨ w.heap.size ≤ g) := fun g e => (hV2 g e).elim (HV.out g) (fun c => .inr (Nat.le_trans HK.out.size c))
      clear hM2 hK2 hV2
      go_wp2_with fail
      go_roundw
      case rel => exact ⟨j + 1, v2, by omega, by go_num, by rw [HT.out, regsC_append, ← List.append_assoc]; exact HM2.out, HK2.out, HV2.out⟩
      case measure => simp only [intOf]; omega
    · have HT := Lib.hid (show zs.take j = zs from List.take_of_length_le (by rw [HN.out]; omega))
      go_wp2_with fail
      have hE := HM.out
      rw [HT.out] at hE
      first | exact bodyPost_ret (v := .tuple #[]) (by simp [results, Try.results18, go_sem]) rfl ⟨rfl, v', hE, HK.out, HV.out⟩ | exact bodyPost_end (v := .tuple #[]) (by simp [results, Try.results18, go_sem]) rfl ⟨rfl, v', hE, HK.out, HV.out⟩

set_option maxHeartbeats 4000000 in
theorem refSent_any (i : Ins) (o : List Int) (w : World) (ho : o.length = 16) :
    Calls Try.prog 19 #[.agg #[.int .i64 i.op, .int .i64 i.d, .int .i64 i.a, .int .i64 i.b, .int .i64 i.imm], .agg (oV o).toArray] w (ListedN w (sentL o (readsZ i))) := by
  obtain ⟨W1, hW1⟩ : ∃ W1, W1 = w.alloc (.cells (insV i).toArray 23) := ⟨_, rfl⟩
  obtain ⟨W2, hW2⟩ : ∃ W2, W2 = W1.alloc (.cells (oV o).toArray 24) := ⟨_, rfl⟩
  have hz1 : W1.heap.size = w.heap.size + 1 := by rw [hW1]; simp
  have hz2 : W2.heap.size = w.heap.size + 2 := by rw [hW2]; simp [hz1]
  have HK0 : Hid (Below w.heap.size w W2) := by rw [hW2, hW1]; exact ((Below.refl w.heap.size w).alloc (Nat.le_refl _) _).alloc (by simp) _
  have HX0 : Hid (Box W2 w.heap.size (insV i)) := by rw [hW2, hW1]; exact (Box.new w (insV i) _).alloc _
  have HY0 : Hid (Box W2 (w.heap.size + 1) (oV o)) := by rw [hW2, ← hz1]; exact Box.new W1 (oV o) _
  have HOL := Lib.hid ho
  obtain ⟨i0, hi, hq0, hq1, hq2⟩ := info_parts info_int
  have HI := Lib.hid hi
  have HQ0 := Lib.hid hq0
  have HQ1 := Lib.hid hq1
  have HQ2 := Lib.hid hq2
  clear ho hi hq0 hq1 hq2
  go_enter Try.func19, Try.ntmps19
  go_upto_region 1 with (fail)
  change Code.wp _ _ _ _ ((w.alloc (.cells (insV i).toArray 23)).alloc (.cells (oV o).toArray 24))
  rw [← hW1, ← hW2]
  clear hW1 hW2 hz1
  go_wp2_with (first
    | (refine wpList_load_box rfl 23 (.tmp 2) rfl w.heap.size 0 rfl (insV i) (insV i) HX0.out whole_at _ Try.underlying23 rfl 5 size_ins5 rfl ?_))
  refine (refReadsN_any i _).mono ?_; rintro e w2 ⟨v, rfl, hrow, hnew, hb2⟩
  obtain ⟨A1, c1, rfl⟩ := hrow.form
  have HR := Lib.hid hrow
  have HNW : Hid (w.heap.size + 2 ≤ w2.heap.size) := by have := hb2.size; show _ ≤ _; omega
  have HY := Lib.hid (HY0.out.below hb2 (by omega))
  have HK := Lib.hid (HK0.out.trans (hb2.mono (by omega)))
  clear hrow hnew hb2 HX0 HY0 HK0
  obtain ⟨zs, hzs⟩ : ∃ zs, zs = readsZ i := ⟨_, rfl⟩
  have HZM : Hid (∀ r ∈ zs, 1 ≤ r ∧ r ≤ 15) := fun r hr => by have := reads_mem (i := i) (by rw [← hzs]; exact hr); omega
  have hzl : zs.length ≤ 2 := by rw [hzs]; exact reads_len i
  have HZS := Lib.hid hzs
  rw [← hzs] at HR ⊢
  clear hzs
  obtain ⟨n, hn⟩ : ∃ n, n = zs.length := ⟨_, rfl⟩
  rw [← hn] at HR hzl ⊢
  have HN := Lib.hid hn
  clear hn hz2
  go_wp2_with fail
  go_loopw [6, 7] (fun vo ii wr => ∃ j : Nat, j ≤ n ∧ ii = .int .i64 j ∧ wr.ownsRow w2.heap.size 3 1 vo (sentL o (zs.take j)).length ((sentL o (zs.take j)).map (Value.int .i64)) ∧ Below w2.heap.size w2 wr) (fun _ ii _ => n - (intOf ii).toNat)
  case atStart => exact ⟨0, Nat.zero_le _, rfl, by simpa [sentL] using World.ownsRow_nil _ _ _ _, Below.refl _ _⟩
  case round =>
    obtain ⟨j, hj, rfl, hO, hB⟩ := hrel
    obtain ⟨A2, c2, rfl⟩ := (Row.of_own hO).form
    have HO := Lib.hid hO
    have HB := Lib.hid hB
    have hwz := hB.size
    clear hO hB
    by_cases hlt : j < n
    · have hl : j < zs.length := by rw [← HN.out]; exact hlt
      obtain ⟨b, off, rfl, hb, hcells⟩ := HR.out.at_ (by omega)
      have d0 := hcells j _ (ints_get hl)
      have HST := Lib.hid (sent_step o (l := zs) (n := j) (r := zs.getD j 0) (by rw [List.getD_eq_getElem?_getD, List.getElem?_eq_getElem hl]; rfl))
      have HM := Lib.hid (HZM.out _ (getD_mem hl))
      have HSL := Lib.hid (show (sentL o (zs.take j)).length ≤ 2 from Nat.le_trans (sent_len _ _) (by simp; omega))
      have HSM := Lib.hid (sent_mem o (zs.take j) (zs.getD j 0))
      obtain ⟨r, hre⟩ : ∃ r, r = zs.getD j 0 := ⟨_, rfl⟩
      rw [← hre] at d0 HST HM HSM
      have HOW : Hid (ownedZ o r = atO o r) := by have := HM.out; show _ = _; unfold ownedZ; rw [if_neg (by omega)]
      have d1 : wr.cell? ⟨b, off + j, none⟩ = some (.int .i64 r) := (HB.out.cell (show b < w2.heap.size from hb)).trans d0
      have D := Lib.hid (fun (y : World) (h : Kept wr y) => h.cell (show b < wr.heap.size by omega) d1)
      have HYr := Lib.hid (HY.out.below HB.out (by have := HNW.out; omega))
      clear hcells hre hl d0
      obtain ⟨m, hm⟩ : ∃ m, m = (sentL o (zs.take j)).length := ⟨_, rfl⟩
      rw [← hm] at HO ⊢
      have HMM := Lib.hid hm
      have hm2 : m ≤ 2 := by rw [hm]; exact HSL.out
      clear hm
      have HCAP := Lib.hid (Row.of_own HO.out).cap
      have k0 : (0 : Int) ≤ j := by omega
      have k1 : (j : Int) < n := by omega
      go_wp2_with fail
      refine wp_region_lin [(0, true), (1, true), (2, true), (3, true), (4, true), (5, false), (6, true), (7, true), (8, true), (9, true), (10, true), (11, true), (12, true), (13, false), (14, true), (15, true)]
        (by kernel_rfl) (by kernel_rfl) rfl (by kernel_rfl) (Kept wr) ?_
      have k9 : Kept wr wr.drew := (Kept.refl wr).drew
      simp only [List.map_cons, List.map_nil, List.getElem?_toArray, List.getElem?_cons_succ, List.getElem?_cons_zero]
      refine lin_take_box k9 rfl 24 (.tmp 3) rfl (w.heap.size + 1) 0 rfl (oV o) (oV o) (fun y hy => HYr.out.kept hy) whole_at _ Try.underlying24 rfl 16 (by kernel_rfl) ((oV_len o).trans HOL.out) ?_
      simp only [Act.put, List.setIfInBounds_toArray, List.set_cons_zero, List.set_cons_succ]
      iterate 4 (refine lin_take (v := ?_) k9 (by rfl) ?_ ?_; rotate_left; (intro x hx; (try dsimp only at hx); (try have d0 := D.out x hx); go_simp; try (with_reducible rfl)); (try simp only [Act.put, List.setIfInBounds_toArray, List.set_cons_zero, List.set_cons_succ]))
      refine lin_call k9 (by rfl) (fun K hK => ?_)
      go_simp
      refine (refOwned_any o r _ HOL.out).mono ?_; rintro e w3 ⟨rfl, hb3⟩
      go_wp2_with fail
      have k10 := k9.to hb3
      refine hK.out _ _ k10 (fun _ => ?_)
      clear hK K hb3
      rw [HOW.out]
      try simp only [Act.put, List.setIfInBounds_toArray, List.set_cons_zero, List.set_cons_succ]
      by_cases h1 : atO o r = 1
      · have HA1 := Lib.hid h1
        have q1 : (atO o r == 1) = true := by simpa using h1
        clear h1
        iterate 7 (refine lin_take (v := ?_) k10 (by rfl) ?_ ?_; rotate_left; (intro x hx; (try dsimp only at hx); (try have d0 := D.out x hx); go_simp; try (with_reducible rfl)); (try simp only [Act.put, List.setIfInBounds_toArray, List.set_cons_zero, List.set_cons_succ]))
        refine lin_call k10 (by rfl) (fun K hK => ?_)
        go_simp
        refine (refFind_any A2 c2 m (sentL o (zs.take j)) r _ HMM.out.symm (by have h := (Row.of_own HO.out).below k10; exact h.more k10.size) (by omega)).mono ?_; rintro e w4 ⟨⟨k, rfl, hk⟩, rfl⟩
        have HK4 := Lib.hid hk
        clear hk
        go_wp2_with fail
        refine hK.out _ _ k10 (fun _ => ?_)
        clear hK K
        try simp only [Act.put, List.setIfInBounds_toArray, List.set_cons_zero, List.set_cons_succ]
        cases hq : decide (k < 0)
        · have HS0 := Lib.hid (HST.out.trans (if_neg (fun c => c.2 (by
            have h1 : r ∈ sentL o (zs.take j) := Classical.not_not.1 (fun h => (of_decide_eq_false hq) (HK4.out.2 h))
            exact (HSM.out.1 h1).1))))
          iterate 2 (refine lin_take (v := ?_) k10 (by rfl) ?_ ?_; rotate_left; (intro x hx; (try dsimp only at hx); go_simp; try (with_reducible rfl)); (try simp only [Act.put, List.setIfInBounds_toArray, List.set_cons_zero, List.set_cons_succ]))
          refine lin_done ?_
          have HBN := Lib.hid (HB.out.trans (k10.mono hwz))
          have HON : Hid (w4.ownsRow w2.heap.size 3 1 (.slice A2 m c2) m ((sentL o (zs.take j)).map (Value.int .i64))) := own_keepS HO.out (KeepS.of_below (S := fun _ => False) k10) (fun _ _ e => e)
          go_wp2_with fail
          go_roundw
          case rel => exact ⟨j + 1, by omega, by go_num, by rw [HS0.out, ← HMM.out]; exact HON.out, HBN.out⟩
          case measure => simp only [intOf]; omega
        · have HS1 := Lib.hid (HST.out.trans (if_pos ⟨HA1.out, fun c => (HK4.out.1 (of_decide_eq_true hq)) (HSM.out.2 ⟨c, HA1.out⟩)⟩))
          iterate 2 (refine lin_take (v := ?_) k10 (by rfl) ?_ ?_; rotate_left; (intro x hx; (try dsimp only at hx); go_simp; try (with_reducible rfl)); (try simp only [Act.put, List.setIfInBounds_toArray, List.set_cons_zero, List.set_cons_succ]))
          refine lin_done ?_
          have HBN := Lib.hid (HB.out.trans (k10.mono hwz))
          have HON : Hid (w4.ownsRow w2.heap.size 3 1 (.slice A2 m c2) m ((sentL o (zs.take j)).map (Value.int .i64))) := own_keepS HO.out (KeepS.of_below (S := fun _ => False) k10) (fun _ _ e => e)
          have hwz4 : w2.heap.size ≤ w4.heap.size := HBN.out.size
          have d2 := D.out _ k10
          clear k10 k9
          go_wp2_with (at_builtin; refine wpList_append_own _ rfl (.tmp 32) (.tmp 37) 34 rfl w2.heap.size 3 i0 (.int .i64 0) 1 8 Try.underlying34 HI.out HQ0.out HQ1.out HQ2.out rfl (by omega) (.slice A2 m c2) m ((sentL o (zs.take j)).map (Value.int .i64)) rfl (HON.out.alloc _) ⟨w4.heap.size, 0, none⟩ 1 1 [.int .i64 r] rfl rfl (new_cells w4 _ _ _ rfl) (one_int _) (by unfold maxLen; omega) (by omega) (by simp; omega) ?_; intro v3 w3 hown3 hg3 _)
          have HB3 : Hid (Below w2.heap.size w2 w3) := (HBN.out.alloc (by omega) _).grown hg3 (by simp; omega) (fun q hq => (HON.out.lt q hq).1)
          have HO3 := Lib.hid hown3
          clear hown3 hg3
          go_wp2_with fail
          go_roundw
          case rel => exact ⟨j + 1, by omega, by go_num, by rw [HS1.out, List.length_append, ← HMM.out, List.map_append]; exact HO3.out, HB3.out⟩
          case measure => simp only [intOf]; omega
      · have HS0 := Lib.hid (HST.out.trans (if_neg (fun c => h1 c.1)))
        have q1 : (atO o r == 1) = false := by simpa using h1
        clear h1
        iterate 2 (refine lin_take (v := ?_) k10 (by rfl) ?_ ?_; rotate_left; (intro x hx; (try dsimp only at hx); (try have d0 := D.out x hx); go_simp; try (with_reducible rfl)); (try simp only [Act.put, List.setIfInBounds_toArray, List.set_cons_zero, List.set_cons_succ]))
        iterate 5 (refine lin_skip k10 (by rfl) ?_; (try simp only [Act.put, List.setIfInBounds_toArray, List.set_cons_zero, List.set_cons_succ]))
        refine lin_void k10 (by rfl) ?_
        try simp only [Act.put, List.setIfInBounds_toArray, List.set_cons_zero, List.set_cons_succ]
        refine lin_skip k10 (by rfl) ?_
        try simp only [Act.put, List.setIfInBounds_toArray, List.set_cons_zero, List.set_cons_succ]
        iterate 1 (refine lin_take (v := ?_) k10 (by rfl) ?_ ?_; rotate_left; (intro x hx; (try dsimp only at hx); go_simp; try (with_reducible rfl)); (try simp only [Act.put, List.setIfInBounds_toArray, List.set_cons_zero, List.set_cons_succ]))
        refine lin_done ?_
        have HBN := Lib.hid (HB.out.trans (k10.mono hwz))
        have HON : Hid (w3.ownsRow w2.heap.size 3 1 (.slice A2 m c2) m ((sentL o (zs.take j)).map (Value.int .i64))) := own_keepS HO.out (KeepS.of_below (S := fun _ => False) k10) (fun _ _ e => e)
        go_wp2_with fail
        go_roundw
        case rel => exact ⟨j + 1, by omega, by go_num, by rw [HS0.out, ← HMM.out]; exact HON.out, HBN.out⟩
        case measure => simp only [intOf]; omega
    · have HT := Lib.hid (show zs.take j = zs from List.take_of_length_le (by rw [← HN.out]; omega))
      have HE : Hid (wr.ownsRow w2.heap.size 3 1 (.slice A2 (sentL o (zs.take j)).length c2) (sentL o zs).length ((sentL o zs).map (Value.int .i64))) := by have := HO.out; rw [HT.out] at this ⊢; exact this
      go_wp2_with fail
      go_ret
      exact ⟨_, rfl, by rw [← HZS.out]; exact Row.of_own HE.out, fun a q c hv => Nat.le_trans (by have := HNW.out; omega) (NewV.own HE.out a q c hv), HK.out.trans (HB.out.mono (by have := HNW.out; omega))⟩
end Go.Proofs.Ytcaibahniheohaa.Words

/- Several texts in one: RefSent, RefSameSpl, RefCert1, InsEq, CertSmall, CertApart, CertAll. -/
import Derived.Test.YteagglddgkjkmaaGreatG09
import Derived.LoopN
import Derived.Deep.Cut
import Derived.Test.YteagglddgkjkmaaGreatG04
import Derived.Test.YteagglddgkjkmaaGreatG05
import Derived.LoopTactic
import Derived.Test.YteagglddgkjkmaaGreatRows
import Derived.Test.YteagglddgkjkmaaGreatG00
import Derived.Test.YteagglddgkjkmaaGreatG06
import Derived.Test.YteagglddgkjkmaaGreatG03

/- Contracts of the document's own find, sent, and of its maker's regs. -/
namespace Go.Proofs.YteagglddgkjkmaaGreat.Words
set_option maxRecDepth 100000
open Go.RowKit
set_option linter.unusedVariables false
set_option linter.unusedSimpArgs false

/-- In a region that draws its order: an operation that turns the world is not wanted. -/
theorem lin_void {P : Program} {ops : Array Oper} {Q : Exit → Act → World → Prop} {op : Oper} {rest : List (Option Oper × Bool)} {S : World → Prop} {a : Act} {w : World} (hS : S w)
    (hw : Region.wanted op (yielded ops a.tmps) = false) (h : wpLin P ops Q rest S (a.put op.dst undef) w) : wpLin P ops Q ((some op, false) :: rest) S a w :=
  ⟨S, fun _ h => h, hS, by unfold linStep; rw [if_neg (by rw [hw]; decide)]; exact ⟨hS, h⟩⟩

set_option maxHeartbeats 1000000 in
theorem refFind_any (A : Option Addr) (c n : Nat) (zs : List Int) (x : Int) (w : World) (hn : zs.length = n) (hr : Row w w.heap.size 1 (.slice A n c) n (zs.map (Value.int .i64))) (hs : n ≤ 100) :
    Calls Tryz.prog 40 #[.slice A n c, .int .i64 x] w fun e w' => (∃ k : Int, e = .returned (.int .i64 k) ∧ (k < 0 ↔ ¬ x ∈ zs)) ∧ w' = w := by
  have HN := Lib.hid hn
  have HR := Lib.hid hr
  have H0 := Lib.hid (show x ∈ zs ↔ x ∈ zs.drop 0 by rw [List.drop_zero])
  clear hr hn
  go_enter Tryz.func40, Tryz.ntmps40
  go_wp2_with fail
  go_loopw [5] (fun i wr => ∃ j : Nat, j ≤ n ∧ i = .int .i64 j ∧ wr = w ∧ (x ∈ zs ↔ x ∈ zs.drop j)) (fun i _ => n - (intOf i).toNat)
  case atStart => exact ⟨0, Nat.zero_le _, rfl, rfl, H0.out⟩
  case round =>
    obtain ⟨j, hj, rfl, rfl, hT⟩ := hrel
    have HT := Lib.hid hT
    clear hT
    by_cases hlt : j < n
    · have hl : j < zs.length := by rw [HN.out]; exact hlt
      obtain ⟨b, off, rfl, hb, hcells⟩ := HR.out.at_ (by omega)
      have d0 := hcells j _ (ints_get hl)
      have HS := Lib.hid (mem_step (x := x) hl)
      obtain ⟨r, hre⟩ : ∃ r, r = zs.getD j 0 := ⟨_, rfl⟩
      rw [← hre] at d0 HS
      clear hcells hre hl
      have k0 : (0 : Int) ≤ j := by omega
      have k1 : (j : Int) < n := by omega
      cases hq : (r == x)
      · have hne : ¬ x = r := fun e => by rw [e] at hq; simp at hq
        have HX := Lib.hid hne
        clear hne
        go_wp2_with fail
        go_roundw
        case rel => exact ⟨j + 1, by omega, by go_num, by first | rfl | trivial, by rw [HT.out, HS.out]; exact ⟨fun h => h.resolve_left HX.out, .inr⟩⟩
        case measure => simp only [intOf]; omega
      · have heq : x = r := by simp at hq; exact hq.symm
        have HX := Lib.hid heq
        clear heq
        go_wp2_with fail
        go_ret
        exact ⟨⟨_, rfl, ⟨fun h => by omega, fun h => absurd (by rw [HT.out, HS.out]; exact .inl HX.out) h⟩⟩, by first | rfl | trivial⟩
    · have HE := Lib.hid (show zs.drop j = [] from List.drop_eq_nil_of_le (by rw [HN.out]; omega))
      go_wp2_with fail
      go_ret
      exact ⟨⟨_, rfl, ⟨fun h c => (by rw [HT.out, HE.out] at c; cases c), fun h => by omega⟩⟩, by first | rfl | trivial⟩

set_option maxHeartbeats 2000000 in
theorem mkRegs_any {b B : Nat} {pc off : Int} {v : Value} {l : List Cel} (k : Int) (A : Option Addr) (c n : Nat) (zs : List Int) (w : World) (h : Mk b B pc off w v l) (hl : l.length ≤ 50)
    (hn : zs.length = n) (hr : Row w w.heap.size 1 (.slice A n c) n (zs.map (Value.int .i64))) (hA : ∀ a, A = some a → ¬ (a.block = b ∨ v.ownBlock = some a.block)) (hs : n ≤ 8) :
    Calls Tryz.prog 72 #[.pointer (some ⟨b, 0, none⟩), .int .i64 k, .slice A n c] w fun e w' => e = .returned (.tuple #[]) ∧ MkOut b B pc off v (l ++ regsC k pc off zs) w w' := by
  have HM0 := Lib.hid h
  have HL0 := Lib.hid hl
  have HN := Lib.hid hn
  have HR := Lib.hid hr
  have HAN := Lib.hid hA
  clear h hl hn hr hA
  go_enter Tryz.func72, Tryz.ntmps72
  go_wp2_with fail
  go_loopw [6] (fun ii wr => ∃ (j : Nat) (v' : Value), j ≤ n ∧ ii = .int .i64 j ∧ Mk b B pc off wr v' (l ++ regsC k pc off (zs.take j)) ∧ KeepS (fun j => j = b ∨ v.ownBlock = some j) w wr ∧ (∀ g, v'.ownBlock = some g → v.ownBlock = some g ∨ w.heap.size ≤ g)) (fun ii _ => n - (intOf ii).toNat)
  case atStart => exact ⟨0, v, Nat.zero_le _, rfl, by simpa [regsC] using HM0.out, KeepS.refl _ _, fun g e => .inl e⟩
  case round =>
    obtain ⟨j, v', hj, rfl, hM, hK, hV⟩ := hrel
    have HM := Lib.hid hM
    have HK := Lib.hid hK
    have HV := Lib.hid hV
    clear hM hK hV
    by_cases hlt : j < n
    · have hl : j < zs.length := by rw [HN.out]; exact hlt
      have HRr := Lib.hid (row_keepS HR.out (Nat.le_refl _) HK.out HAN.out)
      obtain ⟨g, o, rfl, hb, hcells⟩ := HRr.out.at_ (by omega)
      have d0 := hcells j _ (ints_get hl)
      have HT := Lib.hid (show zs.take (j + 1) = zs.take j ++ [zs.getD j 0] by rw [List.take_add_one, List.getElem?_eq_getElem hl, List.getD_eq_getElem?_getD, List.getElem?_eq_getElem hl]; rfl)
      obtain ⟨r, hre⟩ : ∃ r, r = zs.getD j 0 := ⟨_, rfl⟩
      rw [← hre] at d0 HT
      clear hcells hre hl
      have HLL : Hid ((l ++ regsC k pc off (zs.take j)).length ≤ 100) := by rw [List.length_append, regsC_len]; have := HL0.out; show _ ≤ _; simp; omega
      have k0 : (0 : Int) ≤ j := by omega
      have k1 : (j : Int) < n := by omega
      go_wp2_with fail
      refine (mkReg_any k r wr HM.out HLL.out).mono ?_; rintro e w2 ⟨rfl, v2, hM2, hK2, hV2⟩
      have HM2 := Lib.hid hM2
      have HK2 := Lib.hid (HK.out.on hK2 (fun q e => by
        rcases e with e | e
        · exact .inl (.inl e)
        · exact (HV.out q e).elim (fun c => .inl (.inr c)) .inr))
      have HV2 : Hid (∀ g, v2.ownBlock = some g → v.ownBlock = some g ∨ w.heap.size ≤ g) := fun g e => (hV2 g e).elim (HV.out g) (fun c => .inr (Nat.le_trans HK.out.size c))
      clear hM2 hK2 hV2
      go_wp2_with fail
      go_roundw
      case rel => exact ⟨j + 1, v2, by omega, by go_num, by rw [HT.out, regsC_append, ← List.append_assoc]; exact HM2.out, HK2.out, HV2.out⟩
      case measure => simp only [intOf]; omega
    · have HT := Lib.hid (show zs.take j = zs from List.take_of_length_le (by rw [HN.out]; omega))
      go_wp2_with fail
      have hE := HM.out
      rw [HT.out] at hE
      first | exact bodyPost_ret (v := .tuple #[]) (by simp [results, Tryz.results72, go_sem]) rfl ⟨rfl, v', hE, HK.out, HV.out⟩ | exact bodyPost_end (v := .tuple #[]) (by simp [results, Tryz.results72, go_sem]) rfl ⟨rfl, v', hE, HK.out, HV.out⟩

set_option maxHeartbeats 4000000 in
theorem refSent_any (i : Ins) (o : List Int) (w : World) (ho : o.length = 16) :
    Calls Tryz.prog 73 #[.agg #[.int .i64 i.op, .int .i64 i.d, .int .i64 i.a, .int .i64 i.b, .int .i64 i.imm], .agg (oV o).toArray] w (ListedN w (sentL o (readsZ i))) := by
  obtain ⟨W1, hW1⟩ : ∃ W1, W1 = w.alloc (.cells (insV i).toArray 44) := ⟨_, rfl⟩
  obtain ⟨W2, hW2⟩ : ∃ W2, W2 = W1.alloc (.cells (oV o).toArray 30) := ⟨_, rfl⟩
  have hz1 : W1.heap.size = w.heap.size + 1 := by rw [hW1]; simp
  have hz2 : W2.heap.size = w.heap.size + 2 := by rw [hW2]; simp [hz1]
  have HK0 : Hid (Below w.heap.size w W2) := by rw [hW2, hW1]; exact ((Below.refl w.heap.size w).alloc (Nat.le_refl _) _).alloc (by simp) _
  have HX0 : Hid (Box W2 w.heap.size (insV i)) := by rw [hW2, hW1]; exact (Box.new w (insV i) _).alloc _
  have HY0 : Hid (Box W2 (w.heap.size + 1) (oV o)) := by rw [hW2, ← hz1]; exact Box.new W1 (oV o) _
  have HOL := Lib.hid ho
  obtain ⟨i0, hi, hq0, hq1, hq2⟩ := info_parts info_int
  have HI := Lib.hid hi
  have HQ0 := Lib.hid hq0
  have HQ1 := Lib.hid hq1
  have HQ2 := Lib.hid hq2
  clear ho hi hq0 hq1 hq2
  go_enter Tryz.func73, Tryz.ntmps73
  go_upto_region 1 with (fail)
  change Code.wp _ _ _ _ ((w.alloc (.cells (insV i).toArray 44)).alloc (.cells (oV o).toArray 30))
  rw [← hW1, ← hW2]
  clear hW1 hW2 hz1
  go_wp2_with (first
    | (refine wpList_load_box rfl 44 (.tmp 2) rfl w.heap.size 0 rfl (insV i) (insV i) HX0.out whole_at _ Tryz.underlying44 rfl 5 size_ins5 rfl ?_))
  refine (refReadsN_any i _).mono ?_; rintro e w2 ⟨v, rfl, hrow, hnew, hb2⟩
  obtain ⟨A1, c1, rfl⟩ := hrow.form
  have HR := Lib.hid hrow
  have HNW : Hid (w.heap.size + 2 ≤ w2.heap.size) := by have := hb2.size; show _ ≤ _; omega
  have HY := Lib.hid (HY0.out.below hb2 (by omega))
  have HK := Lib.hid (HK0.out.trans (hb2.mono (by omega)))
  clear hrow hnew hb2 HX0 HY0 HK0
  obtain ⟨zs, hzs⟩ : ∃ zs, zs = readsZ i := ⟨_, rfl⟩
  have HZM : Hid (∀ r ∈ zs, 1 ≤ r ∧ r ≤ 15) := fun r hr => by have := reads_mem (i := i) (by rw [← hzs]; exact hr); omega
  have hzl : zs.length ≤ 2 := by rw [hzs]; exact reads_len i
  have HZS := Lib.hid hzs
  rw [← hzs] at HR ⊢
  clear hzs
  obtain ⟨n, hn⟩ : ∃ n, n = zs.length := ⟨_, rfl⟩
  rw [← hn] at HR hzl ⊢
  have HN := Lib.hid hn
  clear hn hz2
  go_wp2_with fail
  go_loopw [6, 7] (fun vo ii wr => ∃ j : Nat, j ≤ n ∧ ii = .int .i64 j ∧ wr.ownsRow w2.heap.size 3 1 vo (sentL o (zs.take j)).length ((sentL o (zs.take j)).map (Value.int .i64)) ∧ Below w2.heap.size w2 wr) (fun _ ii _ => n - (intOf ii).toNat)
  case atStart => exact ⟨0, Nat.zero_le _, rfl, by simpa [sentL] using World.ownsRow_nil _ _ _ _, Below.refl _ _⟩
  case round =>
    obtain ⟨j, hj, rfl, hO, hB⟩ := hrel
    obtain ⟨A2, c2, rfl⟩ := (Row.of_own hO).form
    have HO := Lib.hid hO
    have HB := Lib.hid hB
    have hwz := hB.size
    clear hO hB
    by_cases hlt : j < n
    · have hl : j < zs.length := by rw [← HN.out]; exact hlt
      obtain ⟨b, off, rfl, hb, hcells⟩ := HR.out.at_ (by omega)
      have d0 := hcells j _ (ints_get hl)
      have HST := Lib.hid (sent_step o (l := zs) (n := j) (r := zs.getD j 0) (by rw [List.getD_eq_getElem?_getD, List.getElem?_eq_getElem hl]; rfl))
      have HM := Lib.hid (HZM.out _ (getD_mem hl))
      have HSL := Lib.hid (show (sentL o (zs.take j)).length ≤ 2 from Nat.le_trans (sent_len _ _) (by simp; omega))
      have HSM := Lib.hid (sent_mem o (zs.take j) (zs.getD j 0))
      obtain ⟨r, hre⟩ : ∃ r, r = zs.getD j 0 := ⟨_, rfl⟩
      rw [← hre] at d0 HST HM HSM
      have HOW : Hid (ownedZ o r = atO o r) := by have := HM.out; show _ = _; unfold ownedZ; rw [if_neg (by omega)]
      have d1 : wr.cell? ⟨b, off + j, none⟩ = some (.int .i64 r) := (HB.out.cell (show b < w2.heap.size from hb)).trans d0
      have D := Lib.hid (fun (y : World) (h : Kept wr y) => h.cell (show b < wr.heap.size by omega) d1)
      have HYr := Lib.hid (HY.out.below HB.out (by have := HNW.out; omega))
      clear hcells hre hl d0
      obtain ⟨m, hm⟩ : ∃ m, m = (sentL o (zs.take j)).length := ⟨_, rfl⟩
      rw [← hm] at HO ⊢
      have HMM := Lib.hid hm
      have hm2 : m ≤ 2 := by rw [hm]; exact HSL.out
      clear hm
      have HCAP := Lib.hid (Row.of_own HO.out).cap
      have k0 : (0 : Int) ≤ j := by omega
      have k1 : (j : Int) < n := by omega
      go_wp2_with fail
      refine wp_region_lin [(0, true), (1, true), (2, true), (3, true), (4, true), (5, false), (6, true), (7, true), (8, true), (9, true), (10, true), (11, true), (12, true), (13, false), (14, true), (15, true)]
        (by kernel_rfl) (by kernel_rfl) rfl (by kernel_rfl) (Kept wr) ?_
      have k9 : Kept wr wr.drew := (Kept.refl wr).drew
      simp only [List.map_cons, List.map_nil, List.getElem?_toArray, List.getElem?_cons_succ, List.getElem?_cons_zero]
      refine lin_take_box k9 rfl 30 (.tmp 3) rfl (w.heap.size + 1) 0 rfl (oV o) (oV o) (fun y hy => HYr.out.kept hy) whole_at _ Tryz.underlying30 rfl 16 (by kernel_rfl) ((oV_len o).trans HOL.out) ?_
      simp only [Act.put, List.setIfInBounds_toArray, List.set_cons_zero, List.set_cons_succ]
      iterate 4 (refine lin_take (v := ?_) k9 (by rfl) ?_ ?_; rotate_left; (intro x hx; (try dsimp only at hx); (try have d0 := D.out x hx); go_simp; try (with_reducible rfl)); (try simp only [Act.put, List.setIfInBounds_toArray, List.set_cons_zero, List.set_cons_succ]))
      refine lin_call k9 (by rfl) (fun K hK => ?_)
      go_simp
      refine (refOwned_any o r _ HOL.out).mono ?_; rintro e w3 ⟨rfl, hb3⟩
      go_wp2_with fail
      have k10 := k9.to hb3
      refine hK.out _ _ k10 (fun _ => ?_)
      clear hK K hb3
      rw [HOW.out]
      try simp only [Act.put, List.setIfInBounds_toArray, List.set_cons_zero, List.set_cons_succ]
      by_cases h1 : atO o r = 1
      · have HA1 := Lib.hid h1
        have q1 : (atO o r == 1) = true := by simpa using h1
        clear h1
        iterate 7 (refine lin_take (v := ?_) k10 (by rfl) ?_ ?_; rotate_left; (intro x hx; (try dsimp only at hx); (try have d0 := D.out x hx); go_simp; try (with_reducible rfl)); (try simp only [Act.put, List.setIfInBounds_toArray, List.set_cons_zero, List.set_cons_succ]))
        refine lin_call k10 (by rfl) (fun K hK => ?_)
        go_simp
        refine (refFind_any A2 c2 m (sentL o (zs.take j)) r _ HMM.out.symm (by have h := (Row.of_own HO.out).below k10; exact h.more k10.size) (by omega)).mono ?_; rintro e w4 ⟨⟨k, rfl, hk⟩, rfl⟩
        have HK4 := Lib.hid hk
        clear hk
        go_wp2_with fail
        refine hK.out _ _ k10 (fun _ => ?_)
        clear hK K
        try simp only [Act.put, List.setIfInBounds_toArray, List.set_cons_zero, List.set_cons_succ]
        cases hq : decide (k < 0)
        · have HS0 := Lib.hid (HST.out.trans (if_neg (fun c => c.2 (by
            have h1 : r ∈ sentL o (zs.take j) := Classical.not_not.1 (fun h => (of_decide_eq_false hq) (HK4.out.2 h))
            exact (HSM.out.1 h1).1))))
          iterate 2 (refine lin_take (v := ?_) k10 (by rfl) ?_ ?_; rotate_left; (intro x hx; (try dsimp only at hx); go_simp; try (with_reducible rfl)); (try simp only [Act.put, List.setIfInBounds_toArray, List.set_cons_zero, List.set_cons_succ]))
          refine lin_done ?_
          have HBN := Lib.hid (HB.out.trans (k10.mono hwz))
          have HON : Hid (w4.ownsRow w2.heap.size 3 1 (.slice A2 m c2) m ((sentL o (zs.take j)).map (Value.int .i64))) := own_keepS HO.out (KeepS.of_below (S := fun _ => False) k10) (fun _ _ e => e)
          go_wp2_with fail
          go_roundw
          case rel => exact ⟨j + 1, by omega, by go_num, by rw [HS0.out, ← HMM.out]; exact HON.out, HBN.out⟩
          case measure => simp only [intOf]; omega
        · have HS1 := Lib.hid (HST.out.trans (if_pos ⟨HA1.out, fun c => (HK4.out.1 (of_decide_eq_true hq)) (HSM.out.2 ⟨c, HA1.out⟩)⟩))
          iterate 2 (refine lin_take (v := ?_) k10 (by rfl) ?_ ?_; rotate_left; (intro x hx; (try dsimp only at hx); go_simp; try (with_reducible rfl)); (try simp only [Act.put, List.setIfInBounds_toArray, List.set_cons_zero, List.set_cons_succ]))
          refine lin_done ?_
          have HBN := Lib.hid (HB.out.trans (k10.mono hwz))
          have HON : Hid (w4.ownsRow w2.heap.size 3 1 (.slice A2 m c2) m ((sentL o (zs.take j)).map (Value.int .i64))) := own_keepS HO.out (KeepS.of_below (S := fun _ => False) k10) (fun _ _ e => e)
          have hwz4 : w2.heap.size ≤ w4.heap.size := HBN.out.size
          have d2 := D.out _ k10
          clear k10 k9
          go_wp2_with (at_builtin; refine wpList_append_own _ rfl (.tmp 32) (.tmp 37) 59 rfl w2.heap.size 3 i0 (.int .i64 0) 1 8 Tryz.underlying59 HI.out HQ0.out HQ1.out HQ2.out rfl (by omega) (.slice A2 m c2) m ((sentL o (zs.take j)).map (Value.int .i64)) rfl (HON.out.alloc _) ⟨w4.heap.size, 0, none⟩ 1 1 [.int .i64 r] rfl rfl (new_cells w4 _ _ _ rfl) (one_int _) (by unfold maxLen; omega) (by omega) (by simp; omega) ?_; intro v3 w3 hown3 hg3 _)
          have HB3 : Hid (Below w2.heap.size w2 w3) := (HBN.out.alloc (by omega) _).grown hg3 (by simp; omega) (fun q hq => (HON.out.lt q hq).1)
          have HO3 := Lib.hid hown3
          clear hown3 hg3
          go_wp2_with fail
          go_roundw
          case rel => exact ⟨j + 1, by omega, by go_num, by rw [HS1.out, List.length_append, ← HMM.out, List.map_append]; exact HO3.out, HB3.out⟩
          case measure => simp only [intOf]; omega
      · have HS0 := Lib.hid (HST.out.trans (if_neg (fun c => h1 c.1)))
        have q1 : (atO o r == 1) = false := by simpa using h1
        clear h1
        iterate 2 (refine lin_take (v := ?_) k10 (by rfl) ?_ ?_; rotate_left; (intro x hx; (try dsimp only at hx); (try have d0 := D.out x hx); go_simp; try (with_reducible rfl)); (try simp only [Act.put, List.setIfInBounds_toArray, List.set_cons_zero, List.set_cons_succ]))
        iterate 5 (refine lin_skip k10 (by rfl) ?_; (try simp only [Act.put, List.setIfInBounds_toArray, List.set_cons_zero, List.set_cons_succ]))
        refine lin_void k10 (by rfl) ?_
        try simp only [Act.put, List.setIfInBounds_toArray, List.set_cons_zero, List.set_cons_succ]
        refine lin_skip k10 (by rfl) ?_
        try simp only [Act.put, List.setIfInBounds_toArray, List.set_cons_zero, List.set_cons_succ]
        iterate 1 (refine lin_take (v := ?_) k10 (by rfl) ?_ ?_; rotate_left; (intro x hx; (try dsimp only at hx); go_simp; try (with_reducible rfl)); (try simp only [Act.put, List.setIfInBounds_toArray, List.set_cons_zero, List.set_cons_succ]))
        refine lin_done ?_
        have HBN := Lib.hid (HB.out.trans (k10.mono hwz))
        have HON : Hid (w3.ownsRow w2.heap.size 3 1 (.slice A2 m c2) m ((sentL o (zs.take j)).map (Value.int .i64))) := own_keepS HO.out (KeepS.of_below (S := fun _ => False) k10) (fun _ _ e => e)
        go_wp2_with fail
        go_roundw
        case rel => exact ⟨j + 1, by omega, by go_num, by rw [HS0.out, ← HMM.out]; exact HON.out, HBN.out⟩
        case measure => simp only [intOf]; omega
    · have HT := Lib.hid (show zs.take j = zs from List.take_of_length_le (by rw [← HN.out]; omega))
      have HE : Hid (wr.ownsRow w2.heap.size 3 1 (.slice A2 (sentL o (zs.take j)).length c2) (sentL o zs).length ((sentL o zs).map (Value.int .i64))) := by have := HO.out; rw [HT.out] at this ⊢; exact this
      go_wp2_with fail
      go_ret
      exact ⟨_, rfl, by rw [← HZS.out]; exact Row.of_own HE.out, fun a q c hv => Nat.le_trans (by have := HNW.out; omega) (NewV.own HE.out a q c hv), HK.out.trans (HB.out.mono (by have := HNW.out; omega))⟩
end Go.Proofs.YteagglddgkjkmaaGreat.Words

/- Contract of the document's own SameSplit: are two splits one? -/
namespace Go.Proofs.YteagglddgkjkmaaGreat.Words
set_option maxRecDepth 100000
open Go.RowKit
set_option linter.unusedVariables false

theorem spl_own {v : Value} {o : List Int} : ∀ j u, (o.map (Value.int .i64))[j]? = some u → (splV v o)[1 + j]? = some u := by
  intro j u hu
  rw [splV, Nat.add_comm, List.getElem?_cons_succ]; exact hu
theorem BlksV.at_ {w : World} {B n c b off : Nat} {l : List BlkC} (h : BlksV w B (.slice (some ⟨b, off, none⟩) n c) l) {k : Nat} {x : BlkC} (hx : l[k]? = some x) :
    ∃ A3 c3 A5 c5, w.cell? ⟨b, off + k * 6, none⟩ = some (.int .i64 x.from_) ∧ w.cell? ⟨b, off + k * 6 + 1, none⟩ = some (.int .i64 x.to) ∧ w.cell? ⟨b, off + k * 6 + 2, none⟩ = some (.int .i64 x.next) ∧ w.cell? ⟨b, off + k * 6 + 3, none⟩ = some (.int .i64 x.taken) ∧
      w.cell? ⟨b, off + k * 6 + 4, none⟩ = some (.slice A3 x.a.length c3) ∧ w.cell? ⟨b, off + k * 6 + 5, none⟩ = some (.slice A5 x.e.length c5) ∧ Row w B 9 (.slice A3 x.a.length c3) x.a.length (flat celCells x.a) ∧ Row w B 9 (.slice A5 x.e.length c5) x.e.length (flat celCells x.e) := by
  obtain ⟨rs, h1, h2, h3⟩ := h
  obtain ⟨A, c', e⟩ := h1.form
  injection e with e1 e2 e3
  subst e2
  have hlt : k < l.length := (List.getElem?_eq_some_iff.1 hx).1
  obtain ⟨r, hr⟩ : ∃ r, rs[k]? = some r := ⟨_, List.getElem?_eq_getElem (by omega)⟩
  obtain ⟨q0, q1, q2, q3, qa, qe⟩ := h3 k r x hr hx
  obtain ⟨A3, c3, ea⟩ := qa.form
  obtain ⟨A5, c5, ee⟩ := qe.form
  have g : ∀ j u, j < 6 → (blkRL r)[j]? = some u → w.cell? ⟨b, off + k * 6 + j, none⟩ = some u := fun j u hj hu => h1.flat_cell blkRL_len hr hj hu
  rw [ea] at qa
  rw [ee] at qe
  refine ⟨A3, c3, A5, c5, ?_, ?_, ?_, ?_, ?_, ?_, qa, qe⟩
  · rw [← q0]; exact g 0 _ (by omega) rfl
  · rw [← q1]; exact g 1 _ (by omega) rfl
  · rw [← q2]; exact g 2 _ (by omega) rfl
  · rw [← q3]; exact g 3 _ (by omega) rfl
  · rw [← ea]; exact g 4 _ (by omega) rfl
  · rw [← ee]; exact g 5 _ (by omega) rfl
theorem BlksV.spot {w : World} {B n c : Nat} {A : Option Addr} {l : List BlkC} (h : BlksV w B (.slice A n c) l) (hn : l.length ≠ 0) : ∃ b off, A = some ⟨b, off, none⟩ := by
  obtain ⟨rs, h1, h2, h3⟩ := h
  obtain ⟨A', c', e⟩ := h1.form
  injection e with e1 e2 e3
  subst e1 e2 e3
  obtain ⟨b, off, e, _⟩ := h1.at_ hn
  exact ⟨b, off, e⟩
theorem BlksV.cap {w : World} {B n c : Nat} {A : Option Addr} {l : List BlkC} (h : BlksV w B (.slice A n c) l) : l.length ≤ 9223372036854775807 := by
  obtain ⟨rs, h1, h2, h3⟩ := h
  obtain ⟨A', c', e⟩ := h1.form
  injection e with e1 e2 e3
  subst e1 e2 e3
  have := h1.cap; omega

set_option maxHeartbeats 4000000 in
theorem refSameSpl_any (A1 A2 : Option Addr) (c1 c2 : Nat) (l1 l2 : List BlkC) (o1 o2 : List Int) (w : World) (m1 : o1.length = 16) (m2 : o2.length = 16)
    (h1 : BlksV w w.heap.size (.slice A1 l1.length c1) l1) (h2 : BlksV w w.heap.size (.slice A2 l2.length c2) l2) :
    Calls Tryz.prog 32 #[.agg (splV (.slice A1 l1.length c1) o1).toArray, .agg (splV (.slice A2 l2.length c2) o2).toArray] w fun e w' => e = .returned (.bool (decide (l1 = l2 ∧ o1 = o2))) ∧ Below w.heap.size w w' := by
  have hK := Lib.hid (fun (x : World) (h : Kept ((w.alloc (.cells (splV (.slice A1 l1.length c1) o1).toArray 32)).alloc (.cells (splV (.slice A2 l2.length c2) o2).toArray 32)) x) => (((Below.refl w.heap.size w).alloc (Nat.le_refl _) (.cells (splV (.slice A1 l1.length c1) o1).toArray 32)).alloc (by simp) (.cells (splV (.slice A2 l2.length c2) o2).toArray 32)).trans (h.mono (by simp; omega)))
  have hW1 : w.heap.size < ((w.alloc (.cells (splV (.slice A1 l1.length c1) o1).toArray 32)).alloc (.cells (splV (.slice A2 l2.length c2) o2).toArray 32)).heap.size := by simp; omega
  have hW2 : w.heap.size + 1 < ((w.alloc (.cells (splV (.slice A1 l1.length c1) o1).toArray 32)).alloc (.cells (splV (.slice A2 l2.length c2) o2).toArray 32)).heap.size := by simp
  have X1 := Lib.hid ((Box.new w (splV (.slice A1 l1.length c1) o1) 32).alloc (.cells (splV (.slice A2 l2.length c2) o2).toArray 32))
  have X2 : Hid (Box ((w.alloc (.cells (splV (.slice A1 l1.length c1) o1).toArray 32)).alloc (.cells (splV (.slice A2 l2.length c2) o2).toArray 32)) (w.heap.size + 1) (splV (.slice A2 l2.length c2) o2)) := by
    have := Box.new (w.alloc (.cells (splV (.slice A1 l1.length c1) o1).toArray 32)) (splV (.slice A2 l2.length c2) o2) 32
    have e : (w.alloc (.cells (splV (.slice A1 l1.length c1) o1).toArray 32)).heap.size = w.heap.size + 1 := by simp
    rw [e] at this
    exact this
  have s1 : ((w.alloc (.cells (splV (.slice A1 l1.length c1) o1).toArray 32)).alloc (.cells (splV (.slice A2 l2.length c2) o2).toArray 32)).cell? ⟨w.heap.size, 0, none⟩ = some (.slice A1 l1.length c1) := X1.out.cell (k := 0) rfl
  have s2 : ((w.alloc (.cells (splV (.slice A1 l1.length c1) o1).toArray 32)).alloc (.cells (splV (.slice A2 l2.length c2) o2).toArray 32)).cell? ⟨w.heap.size + 1, 0, none⟩ = some (.slice A2 l2.length c2) := X2.out.cell (k := 0) rfl
  have q := eqIn_own o1 o2 ((w.alloc (.cells (splV (.slice A1 l1.length c1) o1).toArray 32)).alloc (.cells (splV (.slice A2 l2.length c2) o2).toArray 32)) m1 m2
  have u1 := h1.cap
  have u2 := h2.cap
  have V1 := Lib.hid (((h1.alloc (Nat.le_refl _) (.cells (splV (.slice A1 l1.length c1) o1).toArray 32)).alloc (by simp) (.cells (splV (.slice A2 l2.length c2) o2).toArray 32)).more (Nat.le_of_lt hW1))
  have V2 := Lib.hid (((h2.alloc (Nat.le_refl _) (.cells (splV (.slice A1 l1.length c1) o1).toArray 32)).alloc (by simp) (.cells (splV (.slice A2 l2.length c2) o2).toArray 32)).more (Nat.le_of_lt hW1))
  have m1 := Lib.hid m1
  have m2 := Lib.hid m2
  clear h1 h2
  go_enter Tryz.func32, Tryz.ntmps32
  by_cases ho : o1 = o2
  rotate_left
  · rw [decide_eq_false ho] at q
    have hres := Lib.hid (show decide (l1 = l2 ∧ o1 = o2) = false by rw [decide_eq_false_iff_not]; exact fun h => ho h.2)
    clear ho s1 s2
    go_wp2_with (first
  | (refine wpList_load_box rfl 30 (.tmp 8) rfl w.heap.size 1 rfl (splV (.slice A1 l1.length c1) o1) (o1.map (Value.int .i64)) X1.out (spl_own) _ Tryz.underlying30 rfl 16 (by kernel_rfl) (by simp [m1.out]) ?_)
  | (refine wpList_load_box rfl 30 (.tmp 10) rfl (w.heap.size + 1) 1 rfl (splV (.slice A2 l2.length c2) o2) (o2.map (Value.int .i64)) X2.out (spl_own) _ Tryz.underlying30 rfl 16 (by kernel_rfl) (by simp [m2.out]) ?_))
    go_ret
    exact ⟨ret_bool hres.out.symm, hK.out _ (Kept.refl _)⟩
  rw [decide_eq_true ho] at q
  have HO := Lib.hid ho
  clear ho
  by_cases hn : l1.length = l2.length
  rotate_left
  · have hres := Lib.hid (show decide (l1 = l2 ∧ o1 = o2) = false by rw [decide_eq_false_iff_not]; exact fun h => hn (by rw [h.1]))
    have hb : ((l1.length : Int) != l2.length) = true := by simp; omega
    clear hn
    go_wp2_with (first
  | (refine wpList_load_box rfl 30 (.tmp 8) rfl w.heap.size 1 rfl (splV (.slice A1 l1.length c1) o1) (o1.map (Value.int .i64)) X1.out (spl_own) _ Tryz.underlying30 rfl 16 (by kernel_rfl) (by simp [m1.out]) ?_)
  | (refine wpList_load_box rfl 30 (.tmp 10) rfl (w.heap.size + 1) 1 rfl (splV (.slice A2 l2.length c2) o2) (o2.map (Value.int .i64)) X2.out (spl_own) _ Tryz.underlying30 rfl 16 (by kernel_rfl) (by simp [m2.out]) ?_))
    go_ret
    exact ⟨ret_bool hres.out.symm, hK.out _ (Kept.refl _)⟩
  have hb : ((l1.length : Int) != l2.length) = false := by simp; omega
  have HNN := Lib.hid hn
  clear hn
  go_wp2_with (first
  | (refine wpList_load_box rfl 30 (.tmp 8) rfl w.heap.size 1 rfl (splV (.slice A1 l1.length c1) o1) (o1.map (Value.int .i64)) X1.out (spl_own) _ Tryz.underlying30 rfl 16 (by kernel_rfl) (by simp [m1.out]) ?_)
  | (refine wpList_load_box rfl 30 (.tmp 10) rfl (w.heap.size + 1) 1 rfl (splV (.slice A2 l2.length c2) o2) (o2.map (Value.int .i64)) X2.out (spl_own) _ Tryz.underlying30 rfl 16 (by kernel_rfl) (by simp [m2.out]) ?_))
  clear q hb
  have hn := HNN.out
  clear HNN
  generalize ((w.alloc (.cells (splV (.slice A1 l1.length c1) o1).toArray 32)).alloc (.cells (splV (.slice A2 l2.length c2) o2).toArray 32)) = W at *
  have S1 := Lib.hid (fun (x : World) (h : Kept W x) => h.cell hW1 s1)
  have S2 := Lib.hid (fun (x : World) (h : Kept W x) => h.cell hW2 s2)
  clear s1 s2 X1 X2 m1 m2
  have HA1 := Lib.hid (fun j (h : j < l1.length) => at_someG (l := l1) (j := j) h)
  have HA2 := Lib.hid (fun j (h : j < l1.length) => at_someG (l := l2) (j := j) (by omega))
  have HS := Lib.hid (fun (j : Nat) (x y : BlkC) (hx : l1[j]? = some x) (hy : l2[j]? = some y) => drop_eqG hx hy)
  have HE1 := Lib.hid (fun (k : Nat) (h : l1.length ≤ k) => (show l1.drop k = [] from List.drop_eq_nil_of_le (by omega)))
  have HE2 := Lib.hid (fun (k : Nat) (h : l1.length ≤ k) => (show l2.drop k = [] from List.drop_eq_nil_of_le (by omega)))
  have H0 := Lib.hid (show (l1 = l2) ↔ (l1.drop 0 = l2.drop 0) by rw [List.drop_zero, List.drop_zero])
  have HAt1 := Lib.hid (fun (x : World) (h : Kept W x) b off (e : A1 = some ⟨b, off, none⟩) k c (hc : l1[k]? = some c) => (e ▸ (V1.out.below (w' := x) h).more h.size : BlksV x x.heap.size (.slice (some ⟨b, off, none⟩) l1.length c1) l1).at_ hc)
  have HAt2 := Lib.hid (fun (x : World) (h : Kept W x) b off (e : A2 = some ⟨b, off, none⟩) k c (hc : l2[k]? = some c) => (e ▸ (V2.out.below (w' := x) h).more h.size : BlksV x x.heap.size (.slice (some ⟨b, off, none⟩) l2.length c2) l2).at_ hc)
  have HSp1 := Lib.hid (fun (h : l1.length ≠ 0) => V1.out.spot h)
  have HSp2 := Lib.hid (fun (h : l2.length ≠ 0) => V2.out.spot h)
  clear V1 V2
  generalize hN : l1.length = n at *
  have HN := Lib.hid hN
  have HM := Lib.hid hn
  rw [← hn] at HSp2 S2
  try rw [← hn] at HAt2
  clear hN hn u2
  go_loopw [5] (fun i wr => ∃ j : Nat, j ≤ n ∧ i = .int .i64 j ∧ Kept W wr ∧ ((l1 = l2) ↔ (l1.drop j = l2.drop j))) (fun i _ => n - (intOf i).toNat)
  case atStart => exact ⟨0, Nat.zero_le _, rfl, Kept.refl _, H0.out⟩
  case round =>
    obtain ⟨j, hj, rfl, hk, hT⟩ := hrel
    have HT := Lib.hid hT
    clear hT
    have s1 := S1.out _ hk
    have s2 := S2.out _ hk
    have hwz := hk.size
    by_cases hlt : j < n
    · obtain ⟨x, hx⟩ := HA1.out j hlt
      obtain ⟨y, hy⟩ := HA2.out j hlt
      obtain ⟨b1, o3, rfl⟩ := HSp1.out (by omega)
      obtain ⟨b2, o4, rfl⟩ := HSp2.out (by omega)
      have hs := Lib.hid (HS.out j x y hx hy)
      obtain ⟨A3, c3, A5, c5, a0, a1, a2, a3, a4, a5, RXA, RXE⟩ := HAt1.out _ hk _ _ rfl j x hx
      obtain ⟨A4, c4, A6, c6, b0, b1', b2', b3, b4, b5, RYA, RYE⟩ := HAt2.out _ hk _ _ rfl j y hy
      have k0 : (0 : Int) ≤ j := by omega
      have k1 : (j : Int) < n := by omega
      have k2 : (j : Int) < l2.length := by have := HM.out; omega
      have hz1 : w.heap.size < wr.heap.size := by omega
      have hz2 : w.heap.size + 1 < wr.heap.size := by omega
      have hb1 : b1 < wr.heap.size := World.block_lt_of_cell? _ _ a0
      have hb2 : b2 < wr.heap.size := World.block_lt_of_cell? _ _ b0
      have RXA := Lib.hid (fun (z : World) (h : Kept wr z) => h.row RXA)
      have RXE := Lib.hid (fun (z : World) (h : Kept wr z) => h.row RXE)
      have RYA := Lib.hid (fun (z : World) (h : Kept wr z) => h.row RYA)
      have RYE := Lib.hid (fun (z : World) (h : Kept wr z) => h.row RYE)
      clear hx hy
      by_cases h_from_ : x.from_ = y.from_
      rotate_left
      · have hb_from_ : (x.from_ != y.from_) = true := by simpa using h_from_
        have hres := Lib.hid (show decide (l1 = l2 ∧ o1 = o2) = false by rw [decide_eq_false_iff_not]; exact fun h => h_from_ (by rw [(hs.out.1 (HT.out.1 h.1)).1]))
        clear h_from_
        go_wp2_with fail
        go_ret
        exact ⟨ret_bool hres.out.symm, hK.out _ ((hk.alloc _).alloc _)⟩
      have hb_from_ : (x.from_ != y.from_) = false := by simpa using h_from_
      have H_from_ := Lib.hid h_from_
      clear h_from_
      by_cases h_to : x.to = y.to
      rotate_left
      · have hb_to : (x.to != y.to) = true := by simpa using h_to
        have hres := Lib.hid (show decide (l1 = l2 ∧ o1 = o2) = false by rw [decide_eq_false_iff_not]; exact fun h => h_to (by rw [(hs.out.1 (HT.out.1 h.1)).1]))
        clear h_to
        go_wp2_with fail
        go_ret
        exact ⟨ret_bool hres.out.symm, hK.out _ ((hk.alloc _).alloc _)⟩
      have hb_to : (x.to != y.to) = false := by simpa using h_to
      have H_to := Lib.hid h_to
      clear h_to
      by_cases h_next : x.next = y.next
      rotate_left
      · have hb_next : (x.next != y.next) = true := by simpa using h_next
        have hres := Lib.hid (show decide (l1 = l2 ∧ o1 = o2) = false by rw [decide_eq_false_iff_not]; exact fun h => h_next (by rw [(hs.out.1 (HT.out.1 h.1)).1]))
        clear h_next
        go_wp2_with fail
        go_ret
        exact ⟨ret_bool hres.out.symm, hK.out _ ((hk.alloc _).alloc _)⟩
      have hb_next : (x.next != y.next) = false := by simpa using h_next
      have H_next := Lib.hid h_next
      clear h_next
      by_cases h_taken : x.taken = y.taken
      rotate_left
      · have hb_taken : (x.taken != y.taken) = true := by simpa using h_taken
        have hres := Lib.hid (show decide (l1 = l2 ∧ o1 = o2) = false by rw [decide_eq_false_iff_not]; exact fun h => h_taken (by rw [(hs.out.1 (HT.out.1 h.1)).1]))
        clear h_taken
        go_wp2_with fail
        go_ret
        exact ⟨ret_bool hres.out.symm, hK.out _ ((hk.alloc _).alloc _)⟩
      have hb_taken : (x.taken != y.taken) = false := by simpa using h_taken
      have H_taken := Lib.hid h_taken
      clear h_taken
      go_wp2_with fail
      refine (refSameCells_any A3 A4 x.a.length y.a.length c3 c4 x.a y.a _ rfl rfl (RXA.out _ (((Kept.refl _).alloc _).alloc _)) (RYA.out _ (((Kept.refl _).alloc _).alloc _))).mono ?_; rintro e w3 ⟨rfl, q3, rfl⟩
      by_cases h_a : x.a = y.a
      rotate_left
      · rw [decide_eq_false h_a]
        have hres := Lib.hid (show decide (l1 = l2 ∧ o1 = o2) = false by rw [decide_eq_false_iff_not]; exact fun h => h_a (by rw [(hs.out.1 (HT.out.1 h.1)).1]))
        clear h_a
        go_wp2_with fail
        go_ret
        exact ⟨ret_bool hres.out.symm, hK.out _ (((hk.alloc _).alloc _).drewN q3)⟩
      rw [decide_eq_true h_a]
      have H_a := Lib.hid h_a
      clear h_a
      go_wp2_with fail
      refine (refSameCells_any A5 A6 x.e.length y.e.length c5 c6 x.e y.e _ rfl rfl (RXE.out _ ((((Kept.refl _).alloc _).alloc _).drewN q3)) (RYE.out _ ((((Kept.refl _).alloc _).alloc _).drewN q3))).mono ?_; rintro e w4 ⟨rfl, q4, rfl⟩
      by_cases h_e : x.e = y.e
      rotate_left
      · rw [decide_eq_false h_e]
        have hres := Lib.hid (show decide (l1 = l2 ∧ o1 = o2) = false by rw [decide_eq_false_iff_not]; exact fun h => h_e (by rw [(hs.out.1 (HT.out.1 h.1)).1]))
        clear h_e
        go_wp2_with fail
        go_ret
        exact ⟨ret_bool hres.out.symm, hK.out _ (((hk.alloc _).alloc _).drewN _)⟩
      rw [decide_eq_true h_e]
      have hxy : x = y := by
        have e1 := H_from_.out; have e2 := H_to.out; have e3 := H_next.out; have e4 := H_taken.out; have e5 := H_a.out
        cases x; cases y; simp at e1 e2 e3 e4 e5 h_e; simp [e1, e2, e3, e4, e5, h_e]
      have hres := Lib.hid (show (l1 = l2) ↔ (l1.drop (j + 1) = l2.drop (j + 1)) by rw [HT.out, hs.out]; simp [hxy])
      clear hxy h_e
      go_wp2_with fail
      go_roundw
      case rel => exact ⟨j + 1, by omega, by go_num, ((hk.alloc _).alloc _).drewN _, hres.out⟩
      case measure => simp [intOf]; omega
    · have hres := Lib.hid (show decide (l1 = l2 ∧ o1 = o2) = true by rw [decide_eq_true_iff]; exact ⟨by rw [HT.out, HE1.out j (by omega), HE2.out j (by omega)], HO.out⟩)
      go_wp2_with fail
      go_ret
      exact ⟨ret_bool hres.out.symm, hK.out _ hk⟩
end Go.Proofs.YteagglddgkjkmaaGreat.Words

/- Contracts of the document's own control, only, last, some, most, Most of chapter 14. -/
namespace Go.Proofs.YteagglddgkjkmaaGreat.Words
set_option maxRecDepth 100000
open Go.RowKit
set_option linter.unusedVariables false
set_option linter.unusedSimpArgs false

theorem ctlB_yes {k : Int} (h1 : 9 ≤ k) (h2 : k ≤ 12) : ctlB k = true := by unfold ctlB; simp [h1, h2]
theorem ctlB_lo {k : Int} (h1 : ¬ 9 ≤ k) : ctlB k = false := by unfold ctlB; simp [h1]
theorem ctlB_hi {k : Int} (h2 : ¬ k ≤ 12) : ctlB k = false := by unfold ctlB; simp [h2]
theorem refControl_any (k : Int) (w : World) : Calls Tryz.prog 39 #[.int .i64 k] w fun e w' => e = .returned (.bool (ctlB k)) ∧ w = w' := by
  by_cases h1 : 9 ≤ k
  · by_cases h2 : k ≤ 12
    · have hr := Lib.hid (ctlB_yes h1 h2)
      go_enter Tryz.func39, Tryz.ntmps39
      go_wp2_with fail
      go_ret
      exact ⟨ret_bool hr.out.symm, by first | rfl | trivial⟩
    · have hr := Lib.hid (ctlB_hi h2)
      go_enter Tryz.func39, Tryz.ntmps39
      go_wp2_with fail
      go_ret
      exact ⟨ret_bool hr.out.symm, by first | rfl | trivial⟩
  · have hr := Lib.hid (ctlB_lo h1)
    go_enter Tryz.func39, Tryz.ntmps39
    go_wp2_with fail
    go_ret
    exact ⟨ret_bool hr.out.symm, by first | rfl | trivial⟩
theorem only_step {ks : List Int} {l : List Cel} {j : Nat} {x : Cel} (hx : l[j]? = some x) : onlyZ ks (l.drop j) = if ctlB x.kind = true then (l.drop (j + 1)).isEmpty else ks.contains x.kind && onlyZ ks (l.drop (j + 1)) := by
  obtain ⟨h1, rfl⟩ := List.getElem?_eq_some_iff.1 hx
  rw [List.drop_eq_getElem_cons h1, onlyZ]
theorem last_at {l : List Cel} {j : Nat} {x : Cel} (hx : l[j]? = some x) (hj : j + 1 = l.length) : lastK l = if ctlB x.kind = true then x.kind else 0 := by
  unfold lastK
  rw [List.getLast?_eq_getElem?, show l.length - 1 = j by omega, hx]

set_option maxHeartbeats 2000000 in
theorem refOnly_any (A : Option Addr) (c n : Nat) (l : List Cel) (A2 : Option Addr) (c2 n2 : Nat) (ks : List Int) (w : World) (e1 : l.length = n) (h1 : Row w w.heap.size 9 (.slice A n c) n (flat celCells l))
    (e2 : ks.length = n2) (h2 : Row w w.heap.size 1 (.slice A2 n2 c2) n2 (ks.map (Value.int .i64))) (hs : n2 ≤ 100) :
    Calls Tryz.prog 26 #[.slice A n c, .slice A2 n2 c2] w fun e w' => e = .returned (.bool (onlyZ ks l)) ∧ w' = w := by
  have u1 := h1.cap
  have H1 := Lib.hid h1
  have HA := Lib.hid (fun j (h : j < n) => at_someG (l := l) (j := j) (by omega))
  have HF := Lib.hid (fun (x : Int) => refFind_any A2 c2 n2 ks x w e2 h2 hs)
  have H0 := Lib.hid (show onlyZ ks l = onlyZ ks (l.drop 0) by rw [List.drop_zero])
  have HST := Lib.hid (fun (j : Nat) (x : Cel) (hx : l[j]? = some x) => only_step (ks := ks) hx)
  have HE := Lib.hid (fun (k : Nat) (h : n ≤ k) => (show l.drop k = [] from List.drop_eq_nil_of_le (by omega)))
  have HNE := Lib.hid (fun (k : Nat) (h : k < n) => (show (l.drop k).isEmpty = false by rw [List.drop_eq_getElem_cons (by omega)]; rfl))
  clear h1 h2 e1 e2
  go_enter Tryz.func26, Tryz.ntmps26
  go_wp2_with fail
  go_loopw [5] (fun i wr => ∃ j : Nat, j ≤ n ∧ i = .int .i64 j ∧ wr = w ∧ onlyZ ks l = onlyZ ks (l.drop j)) (fun i _ => n - (intOf i).toNat)
  case atStart => exact ⟨0, Nat.zero_le _, rfl, rfl, H0.out⟩
  case round =>
    obtain ⟨j, hj, rfl, rfl, hT⟩ := hrel
    have HT := Lib.hid hT
    clear hT
    by_cases hlt : j < n
    · obtain ⟨x, hx⟩ := HA.out j hlt
      obtain ⟨b, off, rfl, hb, _⟩ := H1.out.at_ (by omega)
      have d0 := (H1.out.cel hx).1
      have HS := Lib.hid (HST.out j x hx)
      have k0 : (0 : Int) ≤ j := by omega
      have k1 : (j : Int) < n := by omega
      clear hx
      go_wp2_with fail
      refine (refControl_any x.kind _).mono ?_; rintro e _ ⟨rfl, rfl⟩
      cases hc : ctlB x.kind
      · try dsimp only
        go_wp2_with fail
        refine (HF.out x.kind).mono ?_; rintro e w2 ⟨⟨k, rfl, hk⟩, rfl⟩
        by_cases hkn : k < 0
        · have hres := Lib.hid (show onlyZ ks l = false by rw [HT.out, HS.out, if_neg (by rw [hc]; decide)]; rw [show ks.contains x.kind = false by simpa using hk.1 hkn]; rfl)
          clear hk hc
          try dsimp only
          go_wp2_with fail
          go_ret
          exact ⟨ret_bool hres.out.symm, by first | rfl | trivial⟩
        · have hin : x.kind ∈ ks := by
            rcases Classical.em (x.kind ∈ ks) with h | h
            · exact h
            · exact absurd (hk.2 h) hkn
          have hres := Lib.hid (show onlyZ ks l = onlyZ ks (l.drop (j + 1)) by rw [HT.out, HS.out, if_neg (by rw [hc]; decide)]; rw [show ks.contains x.kind = true by simpa using hin]; rfl)
          clear hk hc hin
          try dsimp only
          go_wp2_with fail
          go_roundw
          case rel => exact ⟨j + 1, by omega, by go_num, by first | rfl | trivial, hres.out⟩
          case measure => simp [intOf]; omega
      · by_cases hl2 : j + 1 < n
        · have hres := Lib.hid (show onlyZ ks l = false by rw [HT.out, HS.out, if_pos hc]; exact HNE.out (j + 1) hl2)
          have k2 : (j : Int) + 1 < n := by omega
          clear hc
          try dsimp only
          go_wp2_with fail
          go_ret
          exact ⟨ret_bool hres.out.symm, by first | rfl | trivial⟩
        · have hres := Lib.hid (show onlyZ ks l = onlyZ ks (l.drop (j + 1)) by rw [HT.out, HS.out, if_pos hc, HE.out (j + 1) (by omega)]; rfl)
          have k2 : ¬ (j : Int) + 1 < n := by omega
          clear hc
          try dsimp only
          go_wp2_with fail
          go_roundw
          case rel => exact ⟨j + 1, by omega, by go_num, by first | rfl | trivial, hres.out⟩
          case measure => simp [intOf]; omega
    · have hres := Lib.hid (show onlyZ ks l = true by rw [HT.out, HE.out j (by omega)]; rfl)
      go_wp2_with fail
      go_ret
      exact ⟨ret_bool hres.out.symm, by first | rfl | trivial⟩

set_option maxHeartbeats 2000000 in
theorem refLast_any (A : Option Addr) (c n : Nat) (l : List Cel) (w : World) (e1 : l.length = n) (h1 : Row w w.heap.size 9 (.slice A n c) n (flat celCells l)) :
    Calls Tryz.prog 28 #[.slice A n c] w fun e w' => e = .returned (.int .i64 (lastK l)) ∧ w' = w := by
  have u1 := h1.cap
  by_cases h0 : n = 0
  · have hz : l = [] := List.eq_nil_of_length_eq_zero (by omega)
    subst h0 hz
    clear h1 e1
    go_enter Tryz.func28, Tryz.ntmps28
    go_wp2_with fail
    go_ret
    exact ⟨by first | rfl | trivial, by first | rfl | trivial⟩
  obtain ⟨M, hM⟩ : ∃ M, M = n - 1 := ⟨_, rfl⟩
  obtain ⟨x, hx⟩ := at_someG (l := l) (j := M) (by omega)
  obtain ⟨b, off, rfl, hb, _⟩ := h1.at_ h0
  have d0 := (h1.cel hx).1
  have HL := Lib.hid (last_at hx (by omega))
  have hM1 : (n : Int) - 1 = (M : Int) := by omega
  have hM2 : IntKind.i64.wrap (M : Int) = M := IntWalk.i64_in _ ⟨by omega, by omega⟩
  have hM3 : (0 : Int) ≤ M := by omega
  have hM4 : (M : Int) < n := by omega
  have hne : ((n : Int) == 0) = false := by simp; omega
  clear h1 hx hM e1
  go_enter Tryz.func28, Tryz.ntmps28
  go_wp2_with fail
  refine (refControl_any x.kind _).mono ?_; rintro e _ ⟨rfl, rfl⟩
  cases hc : ctlB x.kind
  · have hres := Lib.hid (show lastK l = 0 by rw [HL.out, if_neg (by rw [hc]; decide)])
    clear hc
    try dsimp only
    go_wp2_with fail
    go_ret
    exact ⟨by rw [hres.out]; rfl, by first | rfl | trivial⟩
  · have hres := Lib.hid (show lastK l = x.kind by rw [HL.out, if_pos hc])
    clear hc
    try dsimp only
    go_wp2_with fail
    go_ret
    exact ⟨by rw [hres.out]; rfl, by first | rfl | trivial⟩
end Go.Proofs.YteagglddgkjkmaaGreat.Words

/- Two instructions compared. -/
namespace Go.Proofs.YteagglddgkjkmaaGreat.Words
set_option maxRecDepth 100000
open Go.RowKit
theorem eqFields_ins (i k : Ins) (w : World) : (Op.equalIn 10000 44 (.agg #[.int .i64 i.op, .int .i64 i.d, .int .i64 i.a, .int .i64 i.b, .int .i64 i.imm]) (.agg #[.int .i64 k.op, .int .i64 k.d, .int .i64 k.a, .int .i64 k.b, .int .i64 k.imm])).run Tryz.prog w = .ok (decide (i = k)) w := by
  have hS : Tryz.prog.underlying 44 = some (.struct (Tryz.prog.fieldsOf 44)) := by kernel_rfl
  have hp : Tryz.prog.stoodInHeld 44 = false := by kernel_rfl
  rw [show (10000 : Nat) = 9999 + 1 from rfl, run_equalIn_agg w 9999 44 _ _ hS hp]
  simp only [Program.fieldsOf, Tryz.underlying44]
  go_simp
  have e := Ins.eq_iff i k
  by_cases h1 : i.op = k.op <;> by_cases h2 : i.d = k.d <;> by_cases h3 : i.a = k.a <;> by_cases h4 : i.b = k.b <;> by_cases h5 : i.imm = k.imm <;> simp [h1, h2, h3, h4, h5, e]
theorem eql_ins (i k : Ins) (w : World) : (binOp .eql 44 (.agg #[.int .i64 i.op, .int .i64 i.d, .int .i64 i.a, .int .i64 i.b, .int .i64 i.imm]) (.agg #[.int .i64 k.op, .int .i64 k.d, .int .i64 k.a, .int .i64 k.b, .int .i64 k.imm])).run Tryz.prog w = .ok (.bool (decide (i = k))) w := by
  rw [run_eql_struct, eqFields_ins]; rfl
theorem neq_ins (i k : Ins) (w : World) : (binOp .neq 44 (.agg #[.int .i64 i.op, .int .i64 i.d, .int .i64 i.a, .int .i64 i.b, .int .i64 i.imm]) (.agg #[.int .i64 k.op, .int .i64 k.d, .int .i64 k.a, .int .i64 k.b, .int .i64 k.imm])).run Tryz.prog w = .ok (.bool (!decide (i = k))) w := by
  rw [run_neq_struct, eqFields_ins]; rfl

end Go.Proofs.YteagglddgkjkmaaGreat.Words

/- Contracts of package cert's small functions: which kinds end a block, which each side may have, which ends fit, which cells are alike. -/
namespace Go.Proofs.YteagglddgkjkmaaGreat.Words
set_option maxRecDepth 100000
open Go.RowKit
set_option linter.unusedVariables false
set_option linter.unusedSimpArgs false

theorem isCtl_any (k : Int) (w : World) : Calls Tryz.prog 36 #[.int .i64 k] w fun e w' => e = .returned (.bool (ctlB k)) ∧ w' = w := by
  by_cases h1 : 9 ≤ k
  · by_cases h2 : k ≤ 12
    · have hr := Lib.hid (ctlB_yes h1 h2)
      go_enter Tryz.func36, Tryz.ntmps36
      go_wp2_with fail
      go_ret
      exact ⟨ret_bool hr.out.symm, by first | rfl | trivial⟩
    · have hr := Lib.hid (ctlB_hi h2)
      go_enter Tryz.func36, Tryz.ntmps36
      go_wp2_with fail
      go_ret
      exact ⟨ret_bool hr.out.symm, by first | rfl | trivial⟩
  · have hr := Lib.hid (ctlB_lo h1)
    go_enter Tryz.func36, Tryz.ntmps36
    go_wp2_with fail
    go_ret
    exact ⟨ret_bool hr.out.symm, by first | rfl | trivial⟩
theorem mayA_any (k : Int) (w : World) : Calls Tryz.prog 19 #[.int .i64 k] w fun e w' => e = .returned (.bool (kindsA.contains k)) ∧ w' = w := by
  by_cases h1 : k = 1
  · subst h1
    go_enter Tryz.func19, Tryz.ntmps19
    go_wp2_with fail
    go_ret
    exact ⟨ret_bool (by decide), by first | rfl | trivial⟩
  by_cases h2 : k = 2
  · subst h2
    go_enter Tryz.func19, Tryz.ntmps19
    go_wp2_with fail
    go_ret
    exact ⟨ret_bool (by decide), by first | rfl | trivial⟩
  by_cases h3 : k = 3
  · subst h3
    go_enter Tryz.func19, Tryz.ntmps19
    go_wp2_with fail
    go_ret
    exact ⟨ret_bool (by decide), by first | rfl | trivial⟩
  by_cases h4 : k = 4
  · subst h4
    go_enter Tryz.func19, Tryz.ntmps19
    go_wp2_with fail
    go_ret
    exact ⟨ret_bool (by decide), by first | rfl | trivial⟩
  by_cases h5 : k = 5
  · subst h5
    go_enter Tryz.func19, Tryz.ntmps19
    go_wp2_with fail
    go_ret
    exact ⟨ret_bool (by decide), by first | rfl | trivial⟩
  have hr := Lib.hid (show kindsA.contains k = false by simp [kindsA, h1, h2, h3, h4, h5])
  have b1 : (k == 1) = false := by simpa using h1
  have b2 : (k == 2) = false := by simpa using h2
  have b3 : (k == 3) = false := by simpa using h3
  have b4 : (k == 4) = false := by simpa using h4
  have b5 : (k == 5) = false := by simpa using h5
  clear h1 h2 h3 h4 h5
  go_enter Tryz.func19, Tryz.ntmps19
  go_wp2_with fail
  go_ret
  exact ⟨ret_bool hr.out.symm, by first | rfl | trivial⟩
theorem mayE_any (k : Int) (w : World) : Calls Tryz.prog 20 #[.int .i64 k] w fun e w' => e = .returned (.bool (kindsE.contains k)) ∧ w' = w := by
  by_cases h1 : k = 1
  · subst h1
    go_enter Tryz.func20, Tryz.ntmps20
    go_wp2_with fail
    go_ret
    exact ⟨ret_bool (by decide), by first | rfl | trivial⟩
  by_cases h6 : k = 6
  · subst h6
    go_enter Tryz.func20, Tryz.ntmps20
    go_wp2_with fail
    go_ret
    exact ⟨ret_bool (by decide), by first | rfl | trivial⟩
  by_cases h7 : k = 7
  · subst h7
    go_enter Tryz.func20, Tryz.ntmps20
    go_wp2_with fail
    go_ret
    exact ⟨ret_bool (by decide), by first | rfl | trivial⟩
  by_cases h8 : k = 8
  · subst h8
    go_enter Tryz.func20, Tryz.ntmps20
    go_wp2_with fail
    go_ret
    exact ⟨ret_bool (by decide), by first | rfl | trivial⟩
  have hr := Lib.hid (show kindsE.contains k = false by simp [kindsE, h1, h6, h7, h8])
  have b1 : (k == 1) = false := by simpa using h1
  have b6 : (k == 6) = false := by simpa using h6
  have b7 : (k == 7) = false := by simpa using h7
  have b8 : (k == 8) = false := by simpa using h8
  clear h1 h6 h7 h8
  go_enter Tryz.func20, Tryz.ntmps20
  go_wp2_with fail
  go_ret
  exact ⟨ret_bool hr.out.symm, by first | rfl | trivial⟩
theorem endsMeet_any (p q : Int) (w : World) : Calls Tryz.prog 21 #[.int .i64 p, .int .i64 q] w fun e w' => e = .returned (.bool (joinB p q)) ∧ w' = w := by
  by_cases h9 : p = 9
  · subst h9
    go_enter Tryz.func21, Tryz.ntmps21
    go_wp2_with fail
    go_ret
    exact ⟨ret_bool (by rw [join_parts, if_pos rfl, Bool.eq_iff_iff]; simp), by first | rfl | trivial⟩
  by_cases h10 : p = 10
  · subst h10
    go_enter Tryz.func21, Tryz.ntmps21
    go_wp2_with fail
    go_ret
    exact ⟨ret_bool (by rw [join_parts, if_neg (by decide), if_pos rfl, Bool.eq_iff_iff]; simp), by first | rfl | trivial⟩
  have hr := Lib.hid (show joinB p q = (p == q) by rw [join_parts, if_neg h9, if_neg h10, Bool.eq_iff_iff]; simp)
  have b9 : (p == 9) = false := by simpa using h9
  have b10 : (p == 10) = false := by simpa using h10
  clear h9 h10
  go_enter Tryz.func21, Tryz.ntmps21
  go_wp2_with fail
  go_ret
  exact ⟨ret_bool hr.out.symm, by first | rfl | trivial⟩
theorem sameReg_any (x y : Cel) (w : World) : Calls Tryz.prog 24 #[celV x, celV y] w fun e w' => e = .returned (.bool (decide (x.reg = y.reg))) ∧ Below w.heap.size w w' := by
  have hb : Hid (Below w.heap.size w ((w.alloc (.cells (celCells x).toArray 49)).alloc (.cells (celCells y).toArray 49))) := ((Below.refl w.heap.size w).alloc (Nat.le_refl _) _).alloc (by simp) _
  have hr := Lib.hid (show decide (x.reg = y.reg) = (x.reg == y.reg) by rw [Bool.eq_iff_iff]; simp)
  unfold celV
  go_enter Tryz.func24, Tryz.ntmps24
  go_wp2_with fail
  go_ret
  exact ⟨ret_bool hr.out.symm, hb.out⟩
theorem sameIns_any (x y : Cel) (w : World) : Calls Tryz.prog 25 #[celV x, celV y] w fun e w' => e = .returned (.bool (decide (x.ins = y.ins))) ∧ Below w.heap.size w w' := by
  have hb : Hid (Below w.heap.size w ((w.alloc (.cells (celCells x).toArray 49)).alloc (.cells (celCells y).toArray 49))) := ((Below.refl w.heap.size w).alloc (Nat.le_refl _) _).alloc (by simp) _
  have hq := eql_ins x.ins y.ins
  unfold celV
  go_enter Tryz.func25, Tryz.ntmps25
  go_wp2_with fail
  go_ret
  exact ⟨by first | rfl | trivial, hb.out⟩
end Go.Proofs.YteagglddgkjkmaaGreat.Words

/- Contracts of package cert's apart and of its tests of all cells. -/
namespace Go.Proofs.YteagglddgkjkmaaGreat.Words
set_option maxRecDepth 100000
open Go.RowKit
set_option linter.unusedVariables false
set_option linter.unusedSimpArgs false

theorem Row.frontC {w : World} {B s n c k : Nat} {A : Option Addr} {xs : List Value} (h : Row w B s (.slice A n c) n xs) (hk : k ≤ n) (hn : n ≠ 0) : Row w B s (.slice A k c) k (xs.take (k * s)) := by
  obtain ⟨h0, A', c', h1, h2, h3, h4, h5⟩ := h
  injection h1 with e1 _ e2
  subst e1 e2
  obtain ⟨b, off, e, hb, hc⟩ := h5 hn
  refine ⟨by rw [List.length_take, h0]; exact Nat.min_eq_left (Nat.mul_le_mul_right _ hk), _, _, rfl, by omega, h3, h4, fun _ => ⟨b, off, e, hb, fun j u hu => hc j u ?_⟩⟩
  rw [List.getElem?_take] at hu
  split at hu
  · exact hu
  · cases hu
theorem flat_takeC {α : Type} {f : α → List Value} {s : Nat} (hf : ∀ x, (f x).length = s) (l : List α) (k : Nat) : (flat f l).take (k * s) = flat f (l.take k) := by
  induction l generalizing k with
  | nil => simp [flat]
  | cons x l ih =>
    cases k with
    | zero => simp [flat]
    | succ k =>
      rw [flat_cons, List.take_succ_cons, flat_cons, List.take_append, hf, List.take_of_length_le (by rw [hf, Nat.succ_mul]; omega), show (k + 1) * s - s = k * s by rw [Nat.succ_mul]; omega, ih]
/-- A side's cells ahead of its end read as they should. -/
theorem Row.body {w : World} {B n c : Nat} {A : Option Addr} {l : List Cel} (h : Row w B 9 (.slice A n c) n (flat celCells l)) (hn : l.length = n) : Row w B 9 (.slice A (bodyL l).length c) (bodyL l).length (flat celCells (bodyL l)) := by
  rcases Nat.eq_zero_or_pos n with h0 | h0
  · have : l = [] := List.eq_nil_of_length_eq_zero (by omega)
    subst this; subst hn; exact h
  · obtain ⟨x, hx⟩ : ∃ x, l[n - 1]? = some x := ⟨_, List.getElem?_eq_getElem (by omega)⟩
    have hb := body_at hx (by omega)
    rw [hb]
    by_cases hc : ctlB x.kind = true
    · rw [if_pos hc]
      have h2 := h.frontC (k := n - 1) (by omega) (by omega)
      rw [flat_takeC celCells_len] at h2
      rw [List.length_take, show min (n - 1) l.length = n - 1 by omega]
      exact h2
    · rw [if_neg hc, hn]; exact h

set_option maxHeartbeats 2000000 in
theorem apart_any (A : Option Addr) (c n : Nat) (l : List Cel) (w : World) (e1 : l.length = n) (h1 : Row w w.heap.size 9 (.slice A n c) n (flat celCells l)) :
    Calls Tryz.prog 17 #[.slice A n c] w fun e w' => e = .returned (.tuple #[.slice A (bodyL l).length c, .int .i64 (lastK l)]) ∧ ∃ q, w' = w.drewN q := by
  have u1 := h1.cap
  by_cases h0 : n = 0
  · have hz : l = [] := List.eq_nil_of_length_eq_zero (by omega)
    subst h0 hz
    clear h1 e1
    go_enter Tryz.func17, Tryz.ntmps17
    go_wp2_with fail
    exact bodyPost_ret (v := .tuple #[.slice A 0 c, .int .i64 0]) (by simp [results, Tryz.results17, go_sem]) rfl ⟨rfl, 0, rfl⟩
  obtain ⟨M, hM⟩ : ∃ M, M = n - 1 := ⟨_, rfl⟩
  obtain ⟨x, hx⟩ := at_someG (l := l) (j := M) (by omega)
  obtain ⟨b, off, rfl, hb, _⟩ := h1.at_ h0
  have d0 := (h1.cel hx).1
  have HL := Lib.hid (last_at hx (by omega))
  have HBd := Lib.hid (body_at hx (by omega))
  have HTk := Lib.hid (show (l.take M).length = M by rw [List.length_take]; omega)
  have HLn := Lib.hid e1
  have hM1 : (n : Int) - 1 = (M : Int) := by omega
  have hM2 : IntKind.i64.wrap (M : Int) = M := IntWalk.i64_in _ ⟨by omega, by omega⟩
  have hM3 : (0 : Int) ≤ M := by omega
  have hM4 : (M : Int) < n := by omega
  have hM5 : ¬ (M : Int) < 0 := by omega
  have hM6 : M ≤ c := by omega
  clear h1 hx hM e1
  go_enter Tryz.func17, Tryz.ntmps17
  go_wp2_with fail
  refine (isCtl_any x.kind _).mono ?_; rintro e _ ⟨rfl, rfl⟩
  cases hc : ctlB x.kind
  · have hres := Lib.hid (show lastK l = 0 by rw [HL.out, if_neg (by rw [hc]; decide)])
    have hrb := Lib.hid (show (bodyL l).length = n by rw [HBd.out, if_neg (by rw [hc]; decide), HLn.out])
    clear hc
    try dsimp only
    go_wp2_with fail
    exact bodyPost_ret (v := .tuple #[.slice (some ⟨b, off, none⟩) n c, .int .i64 0]) (by simp [results, Tryz.results17, go_sem]) rfl ⟨by rw [hres.out, hrb.out], 0, rfl⟩
  · have hres := Lib.hid (show lastK l = x.kind by rw [HL.out, if_pos hc])
    have hrb := Lib.hid (show (bodyL l).length = M by rw [HBd.out, if_pos hc, HTk.out])
    clear hc
    try dsimp only
    go_wp2_with fail
    go_quiet (fail)
    go_wp2_with fail
    exact bodyPost_ret (v := .tuple #[.slice (some ⟨b, off, none⟩) M c, .int .i64 x.kind]) (by simp [results, Tryz.results17, go_sem]) rfl ⟨by rw [hres.out, hrb.out], _, rfl⟩
end Go.Proofs.YteagglddgkjkmaaGreat.Words

/- Contracts of package cert's all, with slices.ContainsFunc and IndexFunc over cells: for both sides. -/
namespace Go.Proofs.YteagglddgkjkmaaGreat.Words
set_option maxRecDepth 100000
open Go.RowKit
set_option linter.unusedVariables false
set_option linter.unusedSimpArgs false

theorem allK_step {ks : List Int} {l : List Cel} {j : Nat} {x : Cel} (hx : l[j]? = some x) : allK ks (l.drop j) = (ks.contains x.kind && allK ks (l.drop (j + 1))) := by
  obtain ⟨h1, rfl⟩ := List.getElem?_eq_some_iff.1 hx
  unfold allK
  rw [List.drop_eq_getElem_cons h1, List.all_cons]

set_option maxHeartbeats 2000000 in
theorem cloA_any (b : Nat) (x : Cel) (w : World) (hb : w.cell? ⟨b, 0, none⟩ = some (.func (.func 19) #[] #[])) (hz : b < w.heap.size) :
    Calls Tryz.prog 38 #[celV x, .pointer (some ⟨b, 0, none⟩)] w fun e w' => e = .returned (.bool (!(kindsA.contains x.kind))) ∧ Below w.heap.size w w' := by
  have hB : Hid (Below w.heap.size w (w.alloc (.cells (celCells x).toArray 49))) := (Below.refl w.heap.size w).alloc (Nat.le_refl _) _
  have hmf : ∀ (fn : Fn) (first cap : Array Value) (w : World), (Instr.makeFunc fn first cap).run Tryz.prog w = .ok (.func fn first cap) w := fun _ _ _ _ => rfl
  unfold celV
  go_enter Tryz.func38, Tryz.ntmps38
  go_wp2_with fail
  refine (mayA_any x.kind _).mono ?_; rintro e w1 ⟨rfl, rfl⟩
  cases hc : kindsA.contains x.kind
  · have hr := Lib.hid (show (!(kindsA.contains x.kind)) = true by rw [hc]; rfl)
    try dsimp only
    go_wp2_with fail
    go_ret
    exact ⟨ret_bool (by first | exact hr.out.symm | (rw [hc]; rfl)), hB.out⟩
  · have hr := Lib.hid (show (!(kindsA.contains x.kind)) = false by rw [hc]; rfl)
    try dsimp only
    go_wp2_with fail
    go_ret
    exact ⟨ret_bool (by first | exact hr.out.symm | (rw [hc]; rfl)), hB.out⟩

set_option maxHeartbeats 2000000 in
theorem indexCelA_any (A : Option Addr) (c n : Nat) (l : List Cel) (b : Nat) (w : World) (e1 : l.length = n) (h1 : Row w w.heap.size 9 (.slice A n c) n (flat celCells l)) (hb : w.cell? ⟨b, 0, none⟩ = some (.func (.func 19) #[] #[])) (hz : b < w.heap.size) :
    Calls Tryz.prog 53 #[.slice A n c, .func (.func 38) #[] #[.pointer (some ⟨b, 0, none⟩)]] w fun e w' => (∃ k : Int, e = .returned (.int .i64 k) ∧ decide (0 ≤ k) = !(allK kindsA l)) ∧ Below w.heap.size w w' := by
  have u1 := h1.cap
  have H1 := Lib.hid h1
  have HB := Lib.hid hb
  have HZ := Lib.hid hz
  have HA := Lib.hid (fun j (h : j < n) => at_someG (l := l) (j := j) (by omega))
  have HST := Lib.hid (fun (j : Nat) (x : Cel) (hx : l[j]? = some x) => allK_step (ks := kindsA) hx)
  have HE := Lib.hid (fun (j : Nat) (h : n ≤ j) => (show l.drop j = [] from List.drop_eq_nil_of_le (by omega)))
  have H0 := Lib.hid (show allK kindsA l = allK kindsA (l.drop 0) by rw [List.drop_zero])
  clear h1 e1 hb hz
  go_enter Tryz.func53, Tryz.ntmps53
  go_wp2_with fail
  go_loopw [8] (fun i wr => ∃ j : Nat, j ≤ n ∧ i = .int .i64 j ∧ Kept w wr ∧ allK kindsA l = allK kindsA (l.drop j)) (fun i _ => n - (intOf i).toNat)
  case atStart => exact ⟨0, Nat.zero_le _, rfl, Kept.refl _, H0.out⟩
  case round =>
    obtain ⟨j, hj, rfl, hK, hT⟩ := hrel
    have HT := Lib.hid hT
    have HK := Lib.hid hK
    clear hT
    by_cases hlt : j < n
    · obtain ⟨x, hx⟩ := HA.out j hlt
      have hrow := H1.out.below (w' := wr) hK
      obtain ⟨g, off, rfl, hg, _⟩ := hrow.at_ (by omega)
      obtain ⟨d0, d1, d2, d3, d4, d5, d6, d7, d8⟩ := hrow.cel hx
      have HS := Lib.hid (HST.out j x hx)
      have k0 : (0 : Int) ≤ j := by omega
      have k1 : (j : Int) < n := by omega
      have HX := Lib.hid (cloA_any b x wr (hK.cell HZ.out HB.out) (Nat.lt_of_lt_of_le HZ.out hK.size))
      clear hx hrow hK
      go_wp2_with fail
      refine HX.out.mono ?_; rintro e w1 ⟨rfl, hb1⟩
      have HK1 := Lib.hid (HK.out.to hb1)
      clear hb1 d0 d1 d2 d3 d4 d5 d6 d7 d8 HX
      try dsimp only
      cases hq : kindsA.contains x.kind
      · rw [hq] at HS
        have hres := Lib.hid (show allK kindsA l = false by rw [HT.out, HS.out]; rfl)
        try dsimp only
        go_wp2_with fail
        go_ret
        exact ⟨⟨_, rfl, by rw [hres.out]; simp⟩, HK1.out⟩
      · rw [hq] at HS
        try dsimp only
        go_wp2_with fail
        go_roundw
        case rel => exact ⟨j + 1, by omega, by go_num, HK1.out, by rw [HT.out, HS.out]; rfl⟩
        case measure => simp only [intOf]; omega
    · have hres := Lib.hid (show allK kindsA l = true by rw [HT.out, HE.out j (by omega)]; rfl)
      go_wp2_with fail
      go_ret
      exact ⟨⟨_, rfl, by rw [hres.out]; rfl⟩, HK.out⟩

set_option maxHeartbeats 1000000 in
theorem containsCelA_any (A : Option Addr) (c n : Nat) (l : List Cel) (b : Nat) (w : World) (e1 : l.length = n) (h1 : Row w w.heap.size 9 (.slice A n c) n (flat celCells l)) (hb : w.cell? ⟨b, 0, none⟩ = some (.func (.func 19) #[] #[])) (hz : b < w.heap.size) :
    Calls Tryz.prog 37 #[.slice A n c, .func (.func 38) #[] #[.pointer (some ⟨b, 0, none⟩)]] w fun e w' => e = .returned (.bool (!(allK kindsA l))) ∧ Below w.heap.size w w' := by
  have HX := Lib.hid (indexCelA_any A c n l b w e1 h1 hb hz)
  clear e1 h1 hb hz
  go_enter Tryz.func37, Tryz.ntmps37
  go_wp2_with fail
  refine HX.out.mono ?_; rintro e w1 ⟨⟨k, rfl, hk⟩, hb1⟩
  have HK := Lib.hid hk
  have HB1 := Lib.hid hb1
  clear hk hb1 HX
  cases g : decide (0 ≤ k)
  · have HD := Lib.hid (show (!(allK kindsA l)) = false by rw [← HK.out, g])
    go_wp2_with fail
    go_ret
    exact ⟨ret_bool HD.out.symm, HB1.out⟩
  · have HD := Lib.hid (show (!(allK kindsA l)) = true by rw [← HK.out, g])
    go_wp2_with fail
    go_ret
    exact ⟨ret_bool HD.out.symm, HB1.out⟩

set_option maxHeartbeats 1000000 in
theorem allA_any (A : Option Addr) (c n : Nat) (l : List Cel) (w : World) (e1 : l.length = n) (h1 : Row w w.heap.size 9 (.slice A n c) n (flat celCells l)) :
    Calls Tryz.prog 18 #[.slice A n c, .func (.func 19) #[] #[]] w fun e w' => e = .returned (.bool (allK kindsA l)) ∧ Below w.heap.size w w' := by
  obtain ⟨W, hW⟩ : ∃ W, W = w.alloc (.cells #[.func (.func 19) #[] #[]] 53) := ⟨_, rfl⟩
  have hB0 : Below w.heap.size w W := by rw [hW]; exact (Below.refl w.heap.size w).alloc (Nat.le_refl _) _
  have XB : Box W w.heap.size [.func (.func 19) #[] #[]] := by rw [hW]; exact Box.new w _ _
  have HX := Lib.hid (containsCelA_any A c n l w.heap.size W e1 ((h1.below hB0).more hB0.size) (XB.cell (k := 0) rfl) XB.lt)
  have HB0 := Lib.hid hB0
  have hmf : ∀ (fn : Fn) (first cap : Array Value) (w : World), (Instr.makeFunc fn first cap).run Tryz.prog w = .ok (.func fn first cap) w := fun _ _ _ _ => rfl
  clear e1 h1 hB0 XB
  go_enter Tryz.func18, Tryz.ntmps18
  go_upto_region 1 with (fail)
  change Code.wp _ _ _ _ (w.alloc (.cells #[.func (.func 19) #[] #[]] 53))
  rw [← hW]
  clear hW
  go_wp2_with fail
  refine HX.out.mono ?_; rintro e w1 ⟨rfl, hb1⟩
  have HB1 := Lib.hid (HB0.out.trans (hb1.mono HB0.out.size))
  clear hb1 HX
  cases g : allK kindsA l
  all_goals
    try dsimp only
    go_wp2_with fail
    go_ret
    exact ⟨ret_bool (by first | rfl | exact g.symm | (rw [g]; rfl)), HB1.out⟩

set_option maxHeartbeats 2000000 in
theorem cloE_any (b : Nat) (x : Cel) (w : World) (hb : w.cell? ⟨b, 0, none⟩ = some (.func (.func 20) #[] #[])) (hz : b < w.heap.size) :
    Calls Tryz.prog 38 #[celV x, .pointer (some ⟨b, 0, none⟩)] w fun e w' => e = .returned (.bool (!(kindsE.contains x.kind))) ∧ Below w.heap.size w w' := by
  have hB : Hid (Below w.heap.size w (w.alloc (.cells (celCells x).toArray 49))) := (Below.refl w.heap.size w).alloc (Nat.le_refl _) _
  have hmf : ∀ (fn : Fn) (first cap : Array Value) (w : World), (Instr.makeFunc fn first cap).run Tryz.prog w = .ok (.func fn first cap) w := fun _ _ _ _ => rfl
  unfold celV
  go_enter Tryz.func38, Tryz.ntmps38
  go_wp2_with fail
  refine (mayE_any x.kind _).mono ?_; rintro e w1 ⟨rfl, rfl⟩
  cases hc : kindsE.contains x.kind
  · have hr := Lib.hid (show (!(kindsE.contains x.kind)) = true by rw [hc]; rfl)
    try dsimp only
    go_wp2_with fail
    go_ret
    exact ⟨ret_bool (by first | exact hr.out.symm | (rw [hc]; rfl)), hB.out⟩
  · have hr := Lib.hid (show (!(kindsE.contains x.kind)) = false by rw [hc]; rfl)
    try dsimp only
    go_wp2_with fail
    go_ret
    exact ⟨ret_bool (by first | exact hr.out.symm | (rw [hc]; rfl)), hB.out⟩

set_option maxHeartbeats 2000000 in
theorem indexCelE_any (A : Option Addr) (c n : Nat) (l : List Cel) (b : Nat) (w : World) (e1 : l.length = n) (h1 : Row w w.heap.size 9 (.slice A n c) n (flat celCells l)) (hb : w.cell? ⟨b, 0, none⟩ = some (.func (.func 20) #[] #[])) (hz : b < w.heap.size) :
    Calls Tryz.prog 53 #[.slice A n c, .func (.func 38) #[] #[.pointer (some ⟨b, 0, none⟩)]] w fun e w' => (∃ k : Int, e = .returned (.int .i64 k) ∧ decide (0 ≤ k) = !(allK kindsE l)) ∧ Below w.heap.size w w' := by
  have u1 := h1.cap
  have H1 := Lib.hid h1
  have HB := Lib.hid hb
  have HZ := Lib.hid hz
  have HA := Lib.hid (fun j (h : j < n) => at_someG (l := l) (j := j) (by omega))
  have HST := Lib.hid (fun (j : Nat) (x : Cel) (hx : l[j]? = some x) => allK_step (ks := kindsE) hx)
  have HE := Lib.hid (fun (j : Nat) (h : n ≤ j) => (show l.drop j = [] from List.drop_eq_nil_of_le (by omega)))
  have H0 := Lib.hid (show allK kindsE l = allK kindsE (l.drop 0) by rw [List.drop_zero])
  clear h1 e1 hb hz
  go_enter Tryz.func53, Tryz.ntmps53
  go_wp2_with fail
  go_loopw [8] (fun i wr => ∃ j : Nat, j ≤ n ∧ i = .int .i64 j ∧ Kept w wr ∧ allK kindsE l = allK kindsE (l.drop j)) (fun i _ => n - (intOf i).toNat)
  case atStart => exact ⟨0, Nat.zero_le _, rfl, Kept.refl _, H0.out⟩
  case round =>
    obtain ⟨j, hj, rfl, hK, hT⟩ := hrel
    have HT := Lib.hid hT
    have HK := Lib.hid hK
    clear hT
    by_cases hlt : j < n
    · obtain ⟨x, hx⟩ := HA.out j hlt
      have hrow := H1.out.below (w' := wr) hK
      obtain ⟨g, off, rfl, hg, _⟩ := hrow.at_ (by omega)
      obtain ⟨d0, d1, d2, d3, d4, d5, d6, d7, d8⟩ := hrow.cel hx
      have HS := Lib.hid (HST.out j x hx)
      have k0 : (0 : Int) ≤ j := by omega
      have k1 : (j : Int) < n := by omega
      have HX := Lib.hid (cloE_any b x wr (hK.cell HZ.out HB.out) (Nat.lt_of_lt_of_le HZ.out hK.size))
      clear hx hrow hK
      go_wp2_with fail
      refine HX.out.mono ?_; rintro e w1 ⟨rfl, hb1⟩
      have HK1 := Lib.hid (HK.out.to hb1)
      clear hb1 d0 d1 d2 d3 d4 d5 d6 d7 d8 HX
      try dsimp only
      cases hq : kindsE.contains x.kind
      · rw [hq] at HS
        have hres := Lib.hid (show allK kindsE l = false by rw [HT.out, HS.out]; rfl)
        try dsimp only
        go_wp2_with fail
        go_ret
        exact ⟨⟨_, rfl, by rw [hres.out]; simp⟩, HK1.out⟩
      · rw [hq] at HS
        try dsimp only
        go_wp2_with fail
        go_roundw
        case rel => exact ⟨j + 1, by omega, by go_num, HK1.out, by rw [HT.out, HS.out]; rfl⟩
        case measure => simp only [intOf]; omega
    · have hres := Lib.hid (show allK kindsE l = true by rw [HT.out, HE.out j (by omega)]; rfl)
      go_wp2_with fail
      go_ret
      exact ⟨⟨_, rfl, by rw [hres.out]; rfl⟩, HK.out⟩

set_option maxHeartbeats 1000000 in
theorem containsCelE_any (A : Option Addr) (c n : Nat) (l : List Cel) (b : Nat) (w : World) (e1 : l.length = n) (h1 : Row w w.heap.size 9 (.slice A n c) n (flat celCells l)) (hb : w.cell? ⟨b, 0, none⟩ = some (.func (.func 20) #[] #[])) (hz : b < w.heap.size) :
    Calls Tryz.prog 37 #[.slice A n c, .func (.func 38) #[] #[.pointer (some ⟨b, 0, none⟩)]] w fun e w' => e = .returned (.bool (!(allK kindsE l))) ∧ Below w.heap.size w w' := by
  have HX := Lib.hid (indexCelE_any A c n l b w e1 h1 hb hz)
  clear e1 h1 hb hz
  go_enter Tryz.func37, Tryz.ntmps37
  go_wp2_with fail
  refine HX.out.mono ?_; rintro e w1 ⟨⟨k, rfl, hk⟩, hb1⟩
  have HK := Lib.hid hk
  have HB1 := Lib.hid hb1
  clear hk hb1 HX
  cases g : decide (0 ≤ k)
  · have HD := Lib.hid (show (!(allK kindsE l)) = false by rw [← HK.out, g])
    go_wp2_with fail
    go_ret
    exact ⟨ret_bool HD.out.symm, HB1.out⟩
  · have HD := Lib.hid (show (!(allK kindsE l)) = true by rw [← HK.out, g])
    go_wp2_with fail
    go_ret
    exact ⟨ret_bool HD.out.symm, HB1.out⟩

set_option maxHeartbeats 1000000 in
theorem allE_any (A : Option Addr) (c n : Nat) (l : List Cel) (w : World) (e1 : l.length = n) (h1 : Row w w.heap.size 9 (.slice A n c) n (flat celCells l)) :
    Calls Tryz.prog 18 #[.slice A n c, .func (.func 20) #[] #[]] w fun e w' => e = .returned (.bool (allK kindsE l)) ∧ Below w.heap.size w w' := by
  obtain ⟨W, hW⟩ : ∃ W, W = w.alloc (.cells #[.func (.func 20) #[] #[]] 53) := ⟨_, rfl⟩
  have hB0 : Below w.heap.size w W := by rw [hW]; exact (Below.refl w.heap.size w).alloc (Nat.le_refl _) _
  have XB : Box W w.heap.size [.func (.func 20) #[] #[]] := by rw [hW]; exact Box.new w _ _
  have HX := Lib.hid (containsCelE_any A c n l w.heap.size W e1 ((h1.below hB0).more hB0.size) (XB.cell (k := 0) rfl) XB.lt)
  have HB0 := Lib.hid hB0
  have hmf : ∀ (fn : Fn) (first cap : Array Value) (w : World), (Instr.makeFunc fn first cap).run Tryz.prog w = .ok (.func fn first cap) w := fun _ _ _ _ => rfl
  clear e1 h1 hB0 XB
  go_enter Tryz.func18, Tryz.ntmps18
  go_upto_region 1 with (fail)
  change Code.wp _ _ _ _ (w.alloc (.cells #[.func (.func 20) #[] #[]] 53))
  rw [← hW]
  clear hW
  go_wp2_with fail
  refine HX.out.mono ?_; rintro e w1 ⟨rfl, hb1⟩
  have HB1 := Lib.hid (HB0.out.trans (hb1.mono HB0.out.size))
  clear hb1 HX
  cases g : allK kindsE l
  all_goals
    try dsimp only
    go_wp2_with fail
    go_ret
    exact ⟨ret_bool (by first | rfl | exact g.symm | (rw [g]; rfl)), HB1.out⟩
end Go.Proofs.YteagglddgkjkmaaGreat.Words

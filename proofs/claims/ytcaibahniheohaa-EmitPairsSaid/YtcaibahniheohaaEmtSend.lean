/- Contract of package emit's send: the cells by which E has what is on A. -/
import Derived.Test.YtcaibahniheohaaEmtFind
import Derived.Test.YtcaibahniheohaaEmtSmall
namespace Go.Proofs.Ytcaibahniheohaa.Words
set_option maxRecDepth 100000
open Go.RowKit
set_option linter.unusedVariables false
set_option linter.unusedSimpArgs false

theorem row_take {w : World} {B n c k : Nat} {A : Option Addr} {zs : List Int} (h : Row w B 1 (.slice A n c) n (zs.map (Value.int .i64))) (hk : k ≤ n) (hn : n ≠ 0) : Row w B 1 (.slice A k c) k ((zs.take k).map (Value.int .i64)) := by
  obtain ⟨h0, A', c', h1, h2, h3, h4, h5⟩ := h
  injection h1 with e1 _ e2
  subst e1 e2
  obtain ⟨b, off, e, hb, hc⟩ := h5 hn
  refine ⟨by simp at h0 ⊢; omega, _, _, rfl, by omega, h3, h4, fun _ => ⟨b, off, e, hb, fun j u hu => hc j u ?_⟩⟩
  rw [List.map_take, List.getElem?_take] at hu
  split at hu
  · exact hu
  · cases hu
theorem regsC_len (k pc off : Int) (l : List Int) : (regsC k pc off l).length = l.length := by simp [regsC]
set_option maxHeartbeats 4000000 in
theorem send_any {b : Nat} {i : Ins} {z : List Int} {pc off : Int} {S : Nat → Prop} {w0 : World} {va ve : Value} {la le : List Cel} (A : Option Addr) (c n : Nat) (zs : List Int) (w : World) (h : Em b i z pc off S w0 w va ve la le) (hla : la.length ≤ 50) (hle : le.length ≤ 50)
    (hn : zs.length = n) (hr : Row w w.heap.size 1 (.slice A n c) n (zs.map (Value.int .i64))) (hA : ∀ a, A = some a → ¬ (a.block = b ∨ va.ownBlock = some a.block ∨ ve.ownBlock = some a.block)) (hs : n ≤ 8) (hz : ∀ r ∈ zs, 0 ≤ r ∧ r ≤ 15) :
    Calls Try.prog 41 #[.pointer (some ⟨b, 0, none⟩), .slice A n c] w fun e w' => e = .returned (.tuple #[]) ∧ ∃ va' ve', Em b i z pc off S w0 w' va' ve' (la ++ regsC 5 pc off (sentL z zs)) (le ++ regsC 6 pc off (sentL z zs)) := by
  have HE0 := Lib.hid h
  have HF := Lib.hid h.from
  have HLA0 := Lib.hid hla
  have HLE0 := Lib.hid hle
  have HN := Lib.hid hn
  have HR := Lib.hid hr
  have HAN := Lib.hid hA
  have HZ := Lib.hid hz
  obtain ⟨u1, u2⟩ := hr.cap
  obtain ⟨i0, hi, hz0, hz1, hz2⟩ := info_parts info_cel
  have HI := Lib.hid hi
  have HZ0 := Lib.hid hz0
  have HZ1 := Lib.hid hz1
  have HZ2 := Lib.hid hz2
  clear hi hz0 hz1 hz2
  clear h hla hle hn hr hA hz
  go_enter Try.func41, Try.ntmps41
  go_wp2_with fail
  go_loopw [8] (fun ii wr => ∃ (j : Nat) (va' ve' : Value), j ≤ n ∧ ii = .int .i64 j ∧ Em b i z pc off (fun j => j = b ∨ va.ownBlock = some j ∨ ve.ownBlock = some j) w wr va' ve' (la ++ regsC 5 pc off (sentL z (zs.take j))) (le ++ regsC 6 pc off (sentL z (zs.take j)))) (fun ii _ => n - (intOf ii).toNat)
  case atStart => exact ⟨0, va, ve, Nat.zero_le _, rfl, by simpa [sentL, regsC] using HF.out⟩
  case round =>
    obtain ⟨j, va', ve', hj, rfl, hE⟩ := hrel
    have HEwr := Lib.hid hE
    clear hE
    by_cases hlt : j < n
    · have hl : j < zs.length := by rw [HN.out]; exact hlt
      have HRr := Lib.hid (row_keepS HR.out (Nat.le_refl _) HEwr.out.keep HAN.out)
      have HTK := Lib.hid (row_take HRr.out (Nat.le_of_lt hlt) (by omega))
      obtain ⟨g, o, rfl, hb, hcells⟩ := HRr.out.at_ (by omega)
      have d0 := hcells j _ (ints_get hl)
      have HST := Lib.hid (sent_step z (l := zs) (n := j) (r := zs.getD j 0) (by rw [List.getD_eq_getElem?_getD, List.getElem?_eq_getElem hl]; rfl))
      have HM := Lib.hid (HZ.out _ (getD_mem hl))
      have HSL := Lib.hid (show (sentL z (zs.take j)).length ≤ 8 from Nat.le_trans (sent_len _ _) (by simp; omega))
      obtain ⟨r, hre⟩ : ∃ r, r = zs.getD j 0 := ⟨_, rfl⟩
      rw [← hre] at d0 HST HM
      obtain ⟨x, hx, hx15⟩ := nat_of HM.out
      have d1 := HEwr.out.cellR hx15
      clear hcells hre hl
      subst hx
      have k0 : (0 : Int) ≤ j := by omega
      have k1 : (j : Int) < n := by omega
      have k2 : (x : Int) ≤ 15 := by omega
      have k4 : (j : Int) ≤ c := by omega
      have HLA : Hid ((la ++ regsC 5 pc off (sentL z (zs.take j))).length ≤ 100) := by rw [List.length_append, regsC_len]; have := HSL.out; have := HLA0.out; show _ ≤ _; omega
      have HLE : Hid ((le ++ regsC 6 pc off (sentL z (zs.take j))).length ≤ 100) := by rw [List.length_append, regsC_len]; have := HSL.out; have := HLE0.out; show _ ≤ _; omega
      have HSA := Lib.hid (fun (h : sentL z (zs.take (j + 1)) = sentL z (zs.take j) ++ [(x : Int)]) (k : Int) (l : List Cel) => (show l ++ regsC k pc off (sentL z (zs.take (j + 1))) = (l ++ regsC k pc off (sentL z (zs.take j))) ++ [regC k x pc off] by rw [h, regsC_append, List.append_assoc]; rfl))
      have HTL : Hid ((zs.take j).length = j) := by show _ = _; simp; have := HN.out; omega
      by_cases h1 : atO z x = 1
      · have q1 : (atO z x != 1) = false := by simpa using h1
        have HA1 := Lib.hid h1
        clear h1
        go_wp2_with fail
        refine (contains_any (some ⟨g, o, none⟩) c j (zs.take j) x _ HTL.out (HTK.out.more HEwr.out.keep.size) (by omega)).mono ?_; rintro e w9 ⟨rfl, rfl⟩
        try dsimp only
        cases hq : decide ((x : Int) ∈ zs.take j)
        · have HS1 := Lib.hid (HST.out.trans (if_pos ⟨HA1.out, of_decide_eq_false hq⟩))
          obtain ⟨LA, hLA⟩ : ∃ LA, LA = la ++ regsC 5 pc off (sentL z (zs.take j)) := ⟨_, rfl⟩
          obtain ⟨LE, hLE⟩ : ∃ LE, LE = le ++ regsC 6 pc off (sentL z (zs.take j)) := ⟨_, rfl⟩
          have HSA5 := Lib.hid (HSA.out HS1.out 5 la)
          have HSA6 := Lib.hid (HSA.out HS1.out 6 le)
          rw [← hLA] at HEwr HLA HSA5
          rw [← hLE] at HEwr HLE HSA6
          clear hLA hLE HSA d0 d1
          generalize hS' : (fun j => j = b ∨ va.ownBlock = some j ∨ ve.ownBlock = some j) = S' at HEwr
          have HS' := Lib.hid hS'
          clear hS'
          go_wp2_with fail
          have HEw9 := HEwr
          refine region_tree_ex (fun (act : Act) (B : Nat × Value) => ((((((((((((act.put (some 27) (.pointer (some ⟨b, 0, none⟩))).put (some 28) (.pointer (some ⟨b, 0, none⟩))).put (some 29) (.pointer (some ⟨b, 0, none⟩))).put (some 30) (.pointer (some ⟨b, 23, none⟩))).put (some 31) va').put (some 32) (.pointer (some ⟨b, 0, none⟩))).put (some 33) (.int .i64 x)).put (some 34) (.agg (celCells (regC 5 x pc off)).toArray)).put (some 35) (.slice (some ⟨B.1, 0, none⟩) 1 1)).put (some 36) B.2).put (some 37) (.pointer (some ⟨b, 0, none⟩))).put (some 38) (.pointer (some ⟨b, 23, none⟩))))
            (fun B y => Em b i z pc off S' w y B.2 ve' (LA ++ [regC 5 x pc off]) (LE))
            (LinT.of [(0, true), (1, true), (2, true), (3, true), (5, true), (6, true)] (.two 4 7 (LinT.of [(7, false), (8, false), (9, false), (10, true), (11, true), (12, false)] .nil) (LinT.of [] (.two 4 8 (LinT.of [(8, false), (9, false), (10, true), (11, true), (12, false)] .nil) (LinT.of [(4, false), (9, false), (10, true), (11, true), (12, false)] .nil)))))
            (by kernel_rfl) (by kernel_rfl) rfl (by kernel_rfl) (fun _ => True) ?_ ?_
          · simp only [LinT.of, LinT.look, List.getElem?_toArray, List.getElem?_cons_succ, List.getElem?_cons_zero]
            have cL : w9.drew.cell? ⟨b, 23, none⟩ = some va' := HEw9.out.cellA
            have cL2 : w9.cell? ⟨b, 23, none⟩ = some va' := HEw9.out.cellA
            iterate 6 (refine tree_take (v := ?_) trivial (by rfl) ?_ ?_; rotate_left; (intro x hx; (try dsimp only at hx); go_simp; try (with_reducible rfl)); (simp only [Act.put, List.setIfInBounds_toArray, List.set_cons_zero, List.set_cons_succ]))
            refine tree_two trivial (by rfl) (by rfl) (fun K hK => ?_) (fun K hK => ?_)
            · go_simp
              refine hK.out _ _ trivial (fun _ => ?_)
              clear hK K
              try (simp only [Act.put, List.setIfInBounds_toArray, List.set_cons_zero, List.set_cons_succ])
              refine tree_call trivial (by rfl) (fun K hK => ?_)
              go_simp
              refine (withReg_any 5 x _ HEw9.out.drew).mono ?_; rintro e y0 ⟨rfl, hb0⟩
              go_wp2_with fail
              have HE0 := Lib.hid ((HEw9.out.drew).below hb0)
              have cL0 := HE0.out.cellA
              refine hK.out _ _ trivial (fun _ => ?_)
              clear hK K hb0
              try (simp only [Act.put, List.setIfInBounds_toArray, List.set_cons_zero, List.set_cons_succ])
              refine tree_call trivial (by rfl) (fun K hK => ?_)
              go_simp
              try rw [fold_cel]
              refine hK.out _ _ trivial (fun _ => ?_)
              clear hK K
              change wpT _ _ _ _ _ _ _ (y0.alloc (.cells (celCells (regC 5 x pc off)).toArray 36))
              try (simp only [Act.put, List.setIfInBounds_toArray, List.set_cons_zero, List.set_cons_succ])
              refine tree_call trivial (by rfl) (fun K hK => ?_)
              refine wp_append_new _ (.tmp 31) (.tmp 35) 26 rfl (b + 1) 36 i0 _ 9 72 Try.underlying26 HI.out HZ0.out HZ1.out HZ2.out rfl (by omega) va' (LA).length (flat celCells (LA)) rfl (HE0.out.alloc _).oa _ (.slice (some ⟨y0.heap.size, 0, none⟩) 1 1) 1 (celCells (regC 5 x pc off)) rfl (row_new y0 (celCells (regC 5 x pc off)) 9 rfl (by omega) _) (celCells_one _) (by unfold maxLen; have := HLA.out; omega) (by have := HLA.out; omega) (by have := HE0.out.lt; simp; omega) ?_
              intro v1 y1 hO hg hn
              obtain ⟨hE1, q1, q2, q3, A1, k1, rfl⟩ := HE0.out.appA (c := regC 5 x pc off) hO hg hn
              have HE1 := Lib.hid hE1
              clear hO hg hn hE1
              refine hK.out _ _ trivial (fun _ => ?_)
              clear hK K
              try (simp only [Act.put, List.setIfInBounds_toArray, List.set_cons_zero, List.set_cons_succ])
              iterate 2 (refine tree_take (v := ?_) trivial (by rfl) ?_ ?_; rotate_left; (intro x hx; (try dsimp only at hx); go_simp; try (with_reducible rfl)); (simp only [Act.put, List.setIfInBounds_toArray, List.set_cons_zero, List.set_cons_succ]))
              refine tree_call trivial (by rfl) (fun K hK => ?_)
              go_simp
              refine hK.out _ _ trivial (fun _ => ?_)
              clear hK K
              exact tree_done ⟨(y0.heap.size, .slice A1 ((LA).length + 1) k1), rfl, HE1.out⟩
            · go_simp
              refine (withReg_any 5 x _ HEw9.out.drew).mono ?_; rintro e y0 ⟨rfl, hb0⟩
              go_wp2_with fail
              have HE0 := Lib.hid ((HEw9.out.drew).below hb0)
              have cL0 := HE0.out.cellA
              refine hK.out _ _ trivial (fun _ => ?_)
              clear hK K hb0
              try (simp only [Act.put, List.setIfInBounds_toArray, List.set_cons_zero, List.set_cons_succ])
              refine tree_two trivial (by rfl) (by rfl) (fun K hK => ?_) (fun K hK => ?_)
              · go_simp
                refine hK.out _ _ trivial (fun _ => ?_)
                clear hK K
                try (simp only [Act.put, List.setIfInBounds_toArray, List.set_cons_zero, List.set_cons_succ])
                refine tree_call trivial (by rfl) (fun K hK => ?_)
                go_simp
                try rw [fold_cel]
                refine hK.out _ _ trivial (fun _ => ?_)
                clear hK K
                change wpT _ _ _ _ _ _ _ (y0.alloc (.cells (celCells (regC 5 x pc off)).toArray 36))
                try (simp only [Act.put, List.setIfInBounds_toArray, List.set_cons_zero, List.set_cons_succ])
                refine tree_call trivial (by rfl) (fun K hK => ?_)
                refine wp_append_new _ (.tmp 31) (.tmp 35) 26 rfl (b + 1) 36 i0 _ 9 72 Try.underlying26 HI.out HZ0.out HZ1.out HZ2.out rfl (by omega) va' (LA).length (flat celCells (LA)) rfl (HE0.out.alloc _).oa _ (.slice (some ⟨y0.heap.size, 0, none⟩) 1 1) 1 (celCells (regC 5 x pc off)) rfl (row_new y0 (celCells (regC 5 x pc off)) 9 rfl (by omega) _) (celCells_one _) (by unfold maxLen; have := HLA.out; omega) (by have := HLA.out; omega) (by have := HE0.out.lt; simp; omega) ?_
                intro v1 y1 hO hg hn
                obtain ⟨hE1, q1, q2, q3, A1, k1, rfl⟩ := HE0.out.appA (c := regC 5 x pc off) hO hg hn
                have HE1 := Lib.hid hE1
                clear hO hg hn hE1
                refine hK.out _ _ trivial (fun _ => ?_)
                clear hK K
                try (simp only [Act.put, List.setIfInBounds_toArray, List.set_cons_zero, List.set_cons_succ])
                iterate 2 (refine tree_take (v := ?_) trivial (by rfl) ?_ ?_; rotate_left; (intro x hx; (try dsimp only at hx); go_simp; try (with_reducible rfl)); (simp only [Act.put, List.setIfInBounds_toArray, List.set_cons_zero, List.set_cons_succ]))
                refine tree_call trivial (by rfl) (fun K hK => ?_)
                go_simp
                refine hK.out _ _ trivial (fun _ => ?_)
                clear hK K
                exact tree_done ⟨(y0.heap.size, .slice A1 ((LA).length + 1) k1), rfl, HE1.out⟩
              · go_simp
                try rw [fold_cel]
                have cLa := (HE0.out.alloc (.cells (celCells (regC 5 x pc off)).toArray 36)).cellA
                refine hK.out _ _ trivial (fun _ => ?_)
                clear hK K
                change wpT _ _ _ _ _ _ _ (y0.alloc (.cells (celCells (regC 5 x pc off)).toArray 36))
                try (simp only [Act.put, List.setIfInBounds_toArray, List.set_cons_zero, List.set_cons_succ])
                refine tree_call trivial (by rfl) (fun K hK => ?_)
                go_simp
                refine hK.out _ _ trivial (fun _ => ?_)
                clear hK K
                try (simp only [Act.put, List.setIfInBounds_toArray, List.set_cons_zero, List.set_cons_succ])
                refine tree_call trivial (by rfl) (fun K hK => ?_)
                refine wp_append_new _ (.tmp 31) (.tmp 35) 26 rfl (b + 1) 36 i0 _ 9 72 Try.underlying26 HI.out HZ0.out HZ1.out HZ2.out rfl (by omega) va' (LA).length (flat celCells (LA)) rfl (HE0.out.alloc _).oa _ (.slice (some ⟨y0.heap.size, 0, none⟩) 1 1) 1 (celCells (regC 5 x pc off)) rfl (row_new y0 (celCells (regC 5 x pc off)) 9 rfl (by omega) _) (celCells_one _) (by unfold maxLen; have := HLA.out; omega) (by have := HLA.out; omega) (by have := HE0.out.lt; simp; omega) ?_
                intro v1 y1 hO hg hn
                obtain ⟨hE1, q1, q2, q3, A1, k1, rfl⟩ := HE0.out.appA (c := regC 5 x pc off) hO hg hn
                have HE1 := Lib.hid hE1
                clear hO hg hn hE1
                refine hK.out _ _ trivial (fun _ => ?_)
                clear hK K
                try (simp only [Act.put, List.setIfInBounds_toArray, List.set_cons_zero, List.set_cons_succ])
                iterate 2 (refine tree_take (v := ?_) trivial (by rfl) ?_ ?_; rotate_left; (intro x hx; (try dsimp only at hx); go_simp; try (with_reducible rfl)); (simp only [Act.put, List.setIfInBounds_toArray, List.set_cons_zero, List.set_cons_succ]))
                refine tree_call trivial (by rfl) (fun K hK => ?_)
                go_simp
                refine hK.out _ _ trivial (fun _ => ?_)
                clear hK K
                exact tree_done ⟨(y0.heap.size, .slice A1 ((LA).length + 1) k1), rfl, HE1.out⟩
          rintro ⟨B1, v1⟩ w1 hE1
          dsimp only at hE1
          have HEw1 := Lib.hid hE1
          clear hE1
          simp only [Act.put, List.setIfInBounds_toArray, List.set_cons_zero, List.set_cons_succ]
          go_wp2_with fail
          refine region_tree_ex (fun (act : Act) (B : Nat × Value) => ((((((((((((act.put (some 39) (.pointer (some ⟨b, 0, none⟩))).put (some 40) (.pointer (some ⟨b, 0, none⟩))).put (some 41) (.pointer (some ⟨b, 0, none⟩))).put (some 42) (.pointer (some ⟨b, 24, none⟩))).put (some 43) ve').put (some 44) (.pointer (some ⟨b, 0, none⟩))).put (some 45) (.int .i64 x)).put (some 46) (.agg (celCells (regC 6 x pc off)).toArray)).put (some 47) (.slice (some ⟨B.1, 0, none⟩) 1 1)).put (some 48) B.2).put (some 49) (.pointer (some ⟨b, 0, none⟩))).put (some 50) (.pointer (some ⟨b, 24, none⟩))))
            (fun B y => Em b i z pc off S' w y v1 B.2 (LA ++ [regC 5 x pc off]) (LE ++ [regC 6 x pc off]))
            (LinT.of [(0, true), (1, true), (2, true), (3, true), (5, true), (6, true)] (.two 4 7 (LinT.of [(7, false), (8, false), (9, false), (10, true), (11, true), (12, false)] .nil) (LinT.of [] (.two 4 8 (LinT.of [(8, false), (9, false), (10, true), (11, true), (12, false)] .nil) (LinT.of [(4, false), (9, false), (10, true), (11, true), (12, false)] .nil)))))
            (by kernel_rfl) (by kernel_rfl) rfl (by kernel_rfl) (fun _ => True) ?_ ?_
          · simp only [LinT.of, LinT.look, List.getElem?_toArray, List.getElem?_cons_succ, List.getElem?_cons_zero]
            have cL : w1.drew.cell? ⟨b, 24, none⟩ = some ve' := HEw1.out.cellE
            have cL2 : w1.cell? ⟨b, 24, none⟩ = some ve' := HEw1.out.cellE
            iterate 6 (refine tree_take (v := ?_) trivial (by rfl) ?_ ?_; rotate_left; (intro x hx; (try dsimp only at hx); go_simp; try (with_reducible rfl)); (simp only [Act.put, List.setIfInBounds_toArray, List.set_cons_zero, List.set_cons_succ]))
            refine tree_two trivial (by rfl) (by rfl) (fun K hK => ?_) (fun K hK => ?_)
            · go_simp
              refine hK.out _ _ trivial (fun _ => ?_)
              clear hK K
              try (simp only [Act.put, List.setIfInBounds_toArray, List.set_cons_zero, List.set_cons_succ])
              refine tree_call trivial (by rfl) (fun K hK => ?_)
              go_simp
              refine (withReg_any 6 x _ HEw1.out.drew).mono ?_; rintro e y0 ⟨rfl, hb0⟩
              go_wp2_with fail
              have HE0 := Lib.hid ((HEw1.out.drew).below hb0)
              have cL0 := HE0.out.cellE
              refine hK.out _ _ trivial (fun _ => ?_)
              clear hK K hb0
              try (simp only [Act.put, List.setIfInBounds_toArray, List.set_cons_zero, List.set_cons_succ])
              refine tree_call trivial (by rfl) (fun K hK => ?_)
              go_simp
              try rw [fold_cel]
              refine hK.out _ _ trivial (fun _ => ?_)
              clear hK K
              change wpT _ _ _ _ _ _ _ (y0.alloc (.cells (celCells (regC 6 x pc off)).toArray 36))
              try (simp only [Act.put, List.setIfInBounds_toArray, List.set_cons_zero, List.set_cons_succ])
              refine tree_call trivial (by rfl) (fun K hK => ?_)
              refine wp_append_new _ (.tmp 43) (.tmp 47) 26 rfl (b + 1) 36 i0 _ 9 72 Try.underlying26 HI.out HZ0.out HZ1.out HZ2.out rfl (by omega) ve' (LE).length (flat celCells (LE)) rfl (HE0.out.alloc _).oe _ (.slice (some ⟨y0.heap.size, 0, none⟩) 1 1) 1 (celCells (regC 6 x pc off)) rfl (row_new y0 (celCells (regC 6 x pc off)) 9 rfl (by omega) _) (celCells_one _) (by unfold maxLen; have := HLE.out; omega) (by have := HLE.out; omega) (by have := HE0.out.lt; simp; omega) ?_
              intro v1 y1 hO hg hn
              obtain ⟨hE1, q1, q2, q3, A1, k1, rfl⟩ := HE0.out.appE (c := regC 6 x pc off) hO hg hn
              have HE1 := Lib.hid hE1
              clear hO hg hn hE1
              refine hK.out _ _ trivial (fun _ => ?_)
              clear hK K
              try (simp only [Act.put, List.setIfInBounds_toArray, List.set_cons_zero, List.set_cons_succ])
              iterate 2 (refine tree_take (v := ?_) trivial (by rfl) ?_ ?_; rotate_left; (intro x hx; (try dsimp only at hx); go_simp; try (with_reducible rfl)); (simp only [Act.put, List.setIfInBounds_toArray, List.set_cons_zero, List.set_cons_succ]))
              refine tree_call trivial (by rfl) (fun K hK => ?_)
              go_simp
              refine hK.out _ _ trivial (fun _ => ?_)
              clear hK K
              exact tree_done ⟨(y0.heap.size, .slice A1 ((LE).length + 1) k1), rfl, HE1.out⟩
            · go_simp
              refine (withReg_any 6 x _ HEw1.out.drew).mono ?_; rintro e y0 ⟨rfl, hb0⟩
              go_wp2_with fail
              have HE0 := Lib.hid ((HEw1.out.drew).below hb0)
              have cL0 := HE0.out.cellE
              refine hK.out _ _ trivial (fun _ => ?_)
              clear hK K hb0
              try (simp only [Act.put, List.setIfInBounds_toArray, List.set_cons_zero, List.set_cons_succ])
              refine tree_two trivial (by rfl) (by rfl) (fun K hK => ?_) (fun K hK => ?_)
              · go_simp
                refine hK.out _ _ trivial (fun _ => ?_)
                clear hK K
                try (simp only [Act.put, List.setIfInBounds_toArray, List.set_cons_zero, List.set_cons_succ])
                refine tree_call trivial (by rfl) (fun K hK => ?_)
                go_simp
                try rw [fold_cel]
                refine hK.out _ _ trivial (fun _ => ?_)
                clear hK K
                change wpT _ _ _ _ _ _ _ (y0.alloc (.cells (celCells (regC 6 x pc off)).toArray 36))
                try (simp only [Act.put, List.setIfInBounds_toArray, List.set_cons_zero, List.set_cons_succ])
                refine tree_call trivial (by rfl) (fun K hK => ?_)
                refine wp_append_new _ (.tmp 43) (.tmp 47) 26 rfl (b + 1) 36 i0 _ 9 72 Try.underlying26 HI.out HZ0.out HZ1.out HZ2.out rfl (by omega) ve' (LE).length (flat celCells (LE)) rfl (HE0.out.alloc _).oe _ (.slice (some ⟨y0.heap.size, 0, none⟩) 1 1) 1 (celCells (regC 6 x pc off)) rfl (row_new y0 (celCells (regC 6 x pc off)) 9 rfl (by omega) _) (celCells_one _) (by unfold maxLen; have := HLE.out; omega) (by have := HLE.out; omega) (by have := HE0.out.lt; simp; omega) ?_
                intro v1 y1 hO hg hn
                obtain ⟨hE1, q1, q2, q3, A1, k1, rfl⟩ := HE0.out.appE (c := regC 6 x pc off) hO hg hn
                have HE1 := Lib.hid hE1
                clear hO hg hn hE1
                refine hK.out _ _ trivial (fun _ => ?_)
                clear hK K
                try (simp only [Act.put, List.setIfInBounds_toArray, List.set_cons_zero, List.set_cons_succ])
                iterate 2 (refine tree_take (v := ?_) trivial (by rfl) ?_ ?_; rotate_left; (intro x hx; (try dsimp only at hx); go_simp; try (with_reducible rfl)); (simp only [Act.put, List.setIfInBounds_toArray, List.set_cons_zero, List.set_cons_succ]))
                refine tree_call trivial (by rfl) (fun K hK => ?_)
                go_simp
                refine hK.out _ _ trivial (fun _ => ?_)
                clear hK K
                exact tree_done ⟨(y0.heap.size, .slice A1 ((LE).length + 1) k1), rfl, HE1.out⟩
              · go_simp
                try rw [fold_cel]
                have cLa := (HE0.out.alloc (.cells (celCells (regC 6 x pc off)).toArray 36)).cellE
                refine hK.out _ _ trivial (fun _ => ?_)
                clear hK K
                change wpT _ _ _ _ _ _ _ (y0.alloc (.cells (celCells (regC 6 x pc off)).toArray 36))
                try (simp only [Act.put, List.setIfInBounds_toArray, List.set_cons_zero, List.set_cons_succ])
                refine tree_call trivial (by rfl) (fun K hK => ?_)
                go_simp
                refine hK.out _ _ trivial (fun _ => ?_)
                clear hK K
                try (simp only [Act.put, List.setIfInBounds_toArray, List.set_cons_zero, List.set_cons_succ])
                refine tree_call trivial (by rfl) (fun K hK => ?_)
                refine wp_append_new _ (.tmp 43) (.tmp 47) 26 rfl (b + 1) 36 i0 _ 9 72 Try.underlying26 HI.out HZ0.out HZ1.out HZ2.out rfl (by omega) ve' (LE).length (flat celCells (LE)) rfl (HE0.out.alloc _).oe _ (.slice (some ⟨y0.heap.size, 0, none⟩) 1 1) 1 (celCells (regC 6 x pc off)) rfl (row_new y0 (celCells (regC 6 x pc off)) 9 rfl (by omega) _) (celCells_one _) (by unfold maxLen; have := HLE.out; omega) (by have := HLE.out; omega) (by have := HE0.out.lt; simp; omega) ?_
                intro v1 y1 hO hg hn
                obtain ⟨hE1, q1, q2, q3, A1, k1, rfl⟩ := HE0.out.appE (c := regC 6 x pc off) hO hg hn
                have HE1 := Lib.hid hE1
                clear hO hg hn hE1
                refine hK.out _ _ trivial (fun _ => ?_)
                clear hK K
                try (simp only [Act.put, List.setIfInBounds_toArray, List.set_cons_zero, List.set_cons_succ])
                iterate 2 (refine tree_take (v := ?_) trivial (by rfl) ?_ ?_; rotate_left; (intro x hx; (try dsimp only at hx); go_simp; try (with_reducible rfl)); (simp only [Act.put, List.setIfInBounds_toArray, List.set_cons_zero, List.set_cons_succ]))
                refine tree_call trivial (by rfl) (fun K hK => ?_)
                go_simp
                refine hK.out _ _ trivial (fun _ => ?_)
                clear hK K
                exact tree_done ⟨(y0.heap.size, .slice A1 ((LE).length + 1) k1), rfl, HE1.out⟩
          rintro ⟨B2, v2⟩ w2 hE2
          dsimp only at hE2
          have HEw2 := Lib.hid hE2
          clear hE2
          simp only [Act.put, List.setIfInBounds_toArray, List.set_cons_zero, List.set_cons_succ]
          go_wp2_with fail
          go_roundw
          case rel => exact ⟨j + 1, _, _, by omega, by go_num, by rw [HSA5.out, HSA6.out, HS'.out]; exact HEw2.out⟩
          case measure => simp only [intOf]; omega
        · have HS0 := Lib.hid (HST.out.trans (if_neg (fun c => c.2 (of_decide_eq_true hq))))
          go_wp2_with fail
          go_roundw
          case rel => exact ⟨j + 1, va', ve', by omega, by go_num, by rw [HS0.out]; exact HEwr.out⟩
          case measure => simp only [intOf]; omega
      · have HS0 := Lib.hid (HST.out.trans (if_neg (fun c => h1 c.1)))
        have q1 : (atO z x != 1) = true := by simpa using h1
        clear h1
        go_wp2_with fail
        go_roundw
        case rel => exact ⟨j + 1, va', ve', by omega, by go_num, by rw [HS0.out]; exact HEwr.out⟩
        case measure => simp only [intOf]; omega
    · have HT := Lib.hid (show zs.take j = zs from List.take_of_length_le (by rw [HN.out]; omega))
      go_wp2_with fail
      have hE := HEwr.out
      rw [HT.out] at hE
      first | exact bodyPost_ret (v := .tuple #[]) (by simp [results, Try.results41, go_sem]) rfl ⟨rfl, va', ve', HE0.out.to hE⟩ | exact bodyPost_end (v := .tuple #[]) (by simp [results, Try.results41, go_sem]) rfl ⟨rfl, va', ve', HE0.out.to hE⟩
end Go.Proofs.Ytcaibahniheohaa.Words

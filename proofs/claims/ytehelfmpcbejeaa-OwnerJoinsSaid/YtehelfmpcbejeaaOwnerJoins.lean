/- The walk of law 11's OwnerJoins. -/
import Derived.Test.YtehelfmpcbejeaaOwnerLeast
import Derived.Test.YtehelfmpcbejeaaOnrRefOwner
import Derived.Test.YtehelfmpcbejeaaOnrWith
import Derived.Test.YtehelfmpcbejeaaLinT
namespace Go.Proofs.Ytehelfmpcbejeaa.Words
set_option maxRecDepth 100000
open Go.RowKit
set_option linter.unusedVariables false
set_option linter.unusedSimpArgs false

theorem orO_len (x y : List Int) : (orO x y).length = 16 := funO_len _
theorem andO_len (x y : List Int) : (andO x y).length = 16 := funO_len _
section
variable {P : Program} {ops : Array Oper} {Q : Exit → Act → World → Prop} {R : Act → World → Prop}
theorem region_tree_at {id : Nat} {a : Act} {w : World} (F : Act → Nat → Act) (G : Nat → World → Prop) (t : LinT) (hm : P.follows .mixedOrders = true) (hs : Region.noSelect ops = true) (hl : t.size = ops.size)
    (hok : t.ok .any ops (Array.replicate ops.size false) = true) (S : World → Prop)
    (h : wpT P ops (NoPanic Q) (fun a' w' => ∃ B, a' = F a B ∧ G B w') (t.look ops) S a w.drew) (hR : ∀ B w', G B w' → Q .normal (F a B) w') : (Code.region id ops true).wp P Q a w :=
  wp_region_tree _ t hm hs hl hok S (fun a' w' hh => by obtain ⟨B, rfl, hg⟩ := hh; exact hR B w' hg) h
theorem tree_take_box {op : Oper} {rest : LinO} {S : World → Prop} {a : Act} {w : World} (hS : S w) (hw : Region.wanted op (yielded ops a.tmps) = true) (ty : TypeId) (x : Operand) (ho : op.op = .load ty x)
    (b k : Nat) (hx : a.eval x = .pointer (some ⟨b, k, none⟩)) (l cs : List Value) (hb : ∀ y, S y → Box y b l) (hc : ∀ j v, cs[j]? = some v → l[k + j]? = some v) (d : TypeDesc)
    (hu : P.underlying ty = some d) (hd : d.isRow = true) (n : Nat) (hi : (P.info? ty).map (·.size) = some n) (hn : cs.length = n)
    (h : wpT P ops Q R rest S (a.put op.dst (.agg cs.toArray)) w) : wpT P ops Q R (.one (some op) true rest) S a w :=
  ⟨S, fun _ h => h, hS, _, yieldsIf_load_mid hw ty x ho b k hx cs d (fun y hy => (hb y hy).range hc) hu hd (by rw [hn]; exact hi), h⟩
theorem tree_store_box {op : Oper} {rest : LinO} {S : World → Prop} {a : Act} {w : World} (hS : S w) (hw : Region.wanted op (yielded ops a.tmps) = true) (ty : TypeId) (x y : Operand) (ho : op.op = .store ty x y)
    (b k : Nat) (cs : List Value) (hx : a.eval x = .pointer (some ⟨b, k, none⟩)) (hy : a.eval y = .agg cs.toArray) (l : List Value) (hb : Box w b l) (hl : k + cs.length ≤ l.length)
    (n : Nat) (hi : (P.info? ty).map (·.size) = some n) (hn : cs.length = n) (h1 : ∀ v ∈ cs, v.oneCell' = true)
    (hT : ∀ w', Box w' b (splice l k cs) → w.grownBy w' (some b) → S w')
    (h : ∀ w', Box w' b (splice l k cs) → w.grownBy w' (some b) → wpT P ops Q R rest S (a.put op.dst undef) w') : wpT P ops Q R (.one (some op) false rest) S a w :=
  tree_call hS hw fun K hK => wp_store_mid ty x y ho b k cs.toArray hx hy (hb.there (by simpa using hl)) (by rw [hi]; simp [hn]) (all_oneCell_toArray h1) (hK.out _ _
    (hT _ (by simpa using hb.setCells hl) (by simpa using grown_setCells w b cs k hb.lt)) fun _ => h _ (by simpa using hb.setCells hl) (by simpa using grown_setCells w b cs k hb.lt))
end

set_option maxHeartbeats 8000000 in
theorem ownerJoins_walk (A : Option Addr) (c : Nat) (D : Option Addr) (d : Nat) (p : Prog) (a b : Int) (w : World) (hf : p.Fits) (hp : ProgV w w.heap.size (.slice A p.code.length c) (.slice D p.data.length d) p) (ha : -9223372036854775808 ≤ a ∧ a ≤ 9223372036854775807) (hb : -9223372036854775808 ≤ b ∧ b ≤ 9223372036854775807) :
    Calls Try.prog 5 #[.agg #[.slice A p.code.length c, .int .i64 p.size, .slice D p.data.length d], .int .i64 a, .int .i64 b] w fun e w' => e = .returned (.bool true) ∧ Below w.heap.size w w' := by
  obtain ⟨u1, u2⟩ := hp.code.cap
  obtain ⟨u3, u4⟩ := hp.data.cap
  obtain ⟨W, hW⟩ : ∃ W, W = w.alloc (.cells #[.slice A p.code.length c, .int .i64 p.size, .slice D p.data.length d] 25) := ⟨_, rfl⟩
  have hz0 : W.heap.size = w.heap.size + 1 := by rw [hW]; simp
  have b0 : Below w.heap.size w W := by rw [hW]; exact (Below.refl w.heap.size w).alloc (Nat.le_refl _) _
  have HP : Hid (Box W w.heap.size [.slice A p.code.length c, .int .i64 p.size, .slice D p.data.length d]) := by rw [hW]; exact Box.new w [.slice A p.code.length c, .int .i64 p.size, .slice D p.data.length d] _
  have HR : Hid (Row W W.heap.size 5 (.slice A p.code.length c) p.code.length (codeCells p.code)) := (hp.code.below b0).more (by omega)
  have HK := Lib.hid (fun (x : World) (h : Kept W x) => b0.trans (Below.mono h (by omega)))
  have hzW : w.heap.size < W.heap.size := by omega
  clear hz0 b0 hp
  go_enter Try.func5, Try.ntmps5
  go_wp2_with fail
  rw [← hW]
  clear hW
  have k0 := Kept.refl W
  refine (alive11_any _).mono ?_; rintro e w1 ⟨rfl, hb1⟩
  have k1 := k0.to hb1
  have HP1 := Lib.hid (HP.out.kept k1)
  clear hb1 k0
  go_wp2_with (first
    | (refine wpList_load_box rfl 25 (.tmp 3) rfl w.heap.size 0 rfl [.slice A p.code.length c, .int .i64 p.size, .slice D p.data.length d] [.slice A p.code.length c, .int .i64 p.size, .slice D p.data.length d] HP1.out whole_at _ Try.underlying25 rfl 3 (by kernel_rfl) rfl ?_))
  refine (few_any A D p.code.length c p.data.length d p.size _ (by omega) (by omega)).mono ?_; rintro e w2 ⟨rfl, hb2⟩
  have k2 := k1.to hb2
  have HP2 := Lib.hid (HP.out.kept k2)
  clear hb2 k1 HP1
  cases hfew : fewB p.code.length p.data.length
  · go_wp2_with fail
    go_ret
    exact ⟨rfl, HK.out _ k2⟩
  clear hfew
  go_wp2_with (first
    | (refine wpList_load_box rfl 25 (.tmp 3) rfl w.heap.size 0 rfl [.slice A p.code.length c, .int .i64 p.size, .slice D p.data.length d] [.slice A p.code.length c, .int .i64 p.size, .slice D p.data.length d] HP2.out whole_at _ Try.underlying25 rfl 3 (by kernel_rfl) rfl ?_))
  refine (refRight_any A c p.size D p.data.length d p.code _ (k2.row HR.out) u3 u4).mono ?_; rintro e w3 ⟨rfl, hb3⟩
  have k3 := k2.to hb3
  have HP3 := Lib.hid (HP.out.kept k3)
  clear hb3 k2 HP2
  cases hri : rightZ p.code p.size p.data.length
  · go_wp2_with fail
    go_ret
    exact ⟨rfl, HK.out _ k3⟩
  have HRI := Lib.hid hri
  clear hri
  go_wp2_with (first
    | (refine wpList_load_box rfl 25 (.tmp 3) rfl w.heap.size 0 rfl [.slice A p.code.length c, .int .i64 p.size, .slice D p.data.length d] [.slice A p.code.length c, .int .i64 p.size, .slice D p.data.length d] HP3.out whole_at _ Try.underlying25 rfl 3 (by kernel_rfl) rfl ?_))
  refine (refOwner_any A c p.size D p.data.length d p.code _ (k3.row HR.out) u3 u4).mono ?_; rintro e w4 ⟨rfl, hb4⟩
  have k4 := k3.to hb4
  clear hb4 k3 HP3
  obtain ⟨LO, hLO⟩ : ∃ LO, LO = ofZ p.code p.size p.data.length := ⟨_, rfl⟩
  have HLO := Lib.hid hLO
  rw [← hLO]
  have HLL : Hid (LO.length = 16) := by rw [hLO]; exact ofZ_len
  have HLK : Hid (OkO LO) := by rw [hLO]; unfold ofZ; rw [if_pos HRI.out]; exact least_ok _ (rightZ_parts HRI.out).2
  clear hLO
  have HNBL := Lib.hid (Box.new w4 (oV zeroO) 26)
  have HMBL : Hid (Below w4.heap.size w4 (w4.alloc (.cells (oV zeroO).toArray 26))) := (Below.refl _ _).alloc (Nat.le_refl _) _
  obtain ⟨BL, hBL⟩ : ∃ BL, BL = w4.heap.size := ⟨_, rfl⟩
  have HEBL := Lib.hid hBL
  clear hBL
  have HLBL : Hid ((oV LO).length = 16) := (oV_len _).trans HLL.out
  go_wp2_with (first
    | (refine wpList_store_box rfl 26 (.tmp 8) (.tmp 30) rfl w4.heap.size 0 (oV LO) rfl rfl (oV zeroO) HNBL.out (by rw [HLBL.out]; decide) 16 (by kernel_rfl) HLBL.out (oV_one _) ?_; intro w5 B4 hg4; rw [splice_whole _ _ (by rw [HLBL.out]; rfl)] at B4; have HXL := Lib.hid B4; have hk4 : Below w4.heap.size w4 w5 := HMBL.out.grown hg4 (by simp) (fun i hi => by injection hi with hi; omega); have k5 := Kept.to k4 hk4; clear B4 hg4 hk4; rw [← HEBL.out] at HXL ⊢))
  have k5d := Kept.refl w5
  refine region_tree_at (fun (act : Act) (B : Nat) => (((((act.put (some 31) (.agg (oV LO).toArray)).put (some 32) (.int .i64 a)).put (some 33) (.agg (oV (ownO a)).toArray)).put (some 34) (.agg (oV (orO LO (ownO a))).toArray)).put (some 9) (.pointer (some ⟨B, 0, none⟩))))
    (fun B y => Box y B (oV (orO LO (ownO a))) ∧ Kept w5 y ∧ w5.heap.size ≤ B)
    (LinT.of [(0, true), (1, true)] (.two 2 4 (LinT.of [] (.two 3 4 (LinT.of [(4, false), (5, false)] .nil) (LinT.of [(3, false), (5, false)] .nil))) (LinT.of [(2, false), (3, false), (5, false)] .nil)))
    (by kernel_rfl) (by kernel_rfl) rfl (by kernel_rfl) (Kept w5) ?_ ?_
  · obtain ⟨WR, hWR⟩ : ∃ WR, WR = w5 := ⟨_, rfl⟩
    have hkd : Kept w5 w5.drew := k5d.drew
    simp only [LinT.of, LinT.look, List.getElem?_toArray, List.getElem?_cons_succ, List.getElem?_cons_zero]
    refine tree_take_box hkd rfl 26 (.tmp 8) rfl BL 0 rfl (oV LO) (oV LO) (fun y hy => HXL.out.kept hy) whole_at _ Try.underlying26 rfl 16 (by kernel_rfl) ((oV_len LO).trans HLL.out) ?_
    simp only [Act.put, List.setIfInBounds_toArray, List.set_cons_zero, List.set_cons_succ]
    iterate 1 (refine tree_take (v := ?_) hkd (by rfl) ?_ ?_; rotate_left; (intro x hx; (try dsimp only at hx); go_simp; try (with_reducible rfl)); (try simp only [Act.put, List.setIfInBounds_toArray, List.set_cons_zero, List.set_cons_succ]))
    rw [← hWR] at hkd ⊢
    clear hWR
    refine tree_two hkd (by rfl) (by rfl) (fun K hK => ?_) (fun K hK => ?_)
    · go_simp
      refine (owners_make a _ ha).mono ?_; rintro e y0 ⟨rfl, hb⟩
      go_wp2_with fail
      have hkx := hkd.to hb
      refine hK.out _ _ hkx (fun _ => ?_)
      clear hK K hb
      (try simp only [Act.put, List.setIfInBounds_toArray, List.set_cons_zero, List.set_cons_succ])
      refine tree_two hkx (by rfl) (by rfl) (fun K hK => ?_) (fun K hK => ?_)
      · go_simp
        refine (with_any LO (ownO a) _ HLL.out (ownO_len a)).mono ?_; rintro e y0w ⟨rfl, hb⟩
        go_wp2_with fail
        have hkxx := hkx.to hb
        refine hK.out _ _ hkxx (fun _ => ?_)
        clear hK K hb
        (try simp only [Act.put, List.setIfInBounds_toArray, List.set_cons_zero, List.set_cons_succ])
        refine tree_call hkxx (by rfl) (fun K hK => ?_)
        go_simp
        have hkxxx : Kept WR ((y0w).alloc (.cells (oV zeroO).toArray 26)) := hkxx.alloc _
        have HBX := Lib.hid (Box.new (y0w) (oV zeroO) 26)
        obtain ⟨BQ, hB⟩ : ∃ BQ, BQ = (y0w).heap.size := ⟨_, rfl⟩
        have HBE := Lib.hid hB
        have HBS : Hid (WR.heap.size ≤ BQ) := by rw [hB]; exact hkxx.size
        clear hB
        refine hK.out _ _ hkxxx (fun _ => ?_)
        clear hK K
        rw [← HBE.out] at HBX ⊢
        change wpT _ _ _ _ _ _ _ ((y0w).alloc (.cells (oV zeroO).toArray 26))
        (try simp only [Act.put, List.setIfInBounds_toArray, List.set_cons_zero, List.set_cons_succ])
        generalize hYY : (y0w).alloc (.cells (oV zeroO).toArray 26) = YA at *
        clear hYY
        refine tree_store_box hkxxx (by rfl) 26 (.tmp 9) (.tmp 34) rfl BQ 0 (oV (orO LO (ownO a))) rfl rfl (oV zeroO) HBX.out (by rw [oV_len, orO_len]; decide) 16 (by kernel_rfl) ((oV_len _).trans (orO_len _ _)) (oV_one _) (fun y hy hg => Below.grown hkxxx hg hkxxx.size (fun i hi => by injection hi with hi; have := HBS.out; omega)) ?_
        intro yz hbz hgz
        rw [splice_whole _ _ (by rw [oV_len, orO_len]; rfl)] at hbz
        (try simp only [Act.put, List.setIfInBounds_toArray, List.set_cons_zero, List.set_cons_succ])
        refine tree_done ⟨BQ, rfl, hbz, Below.grown hkxxx hgz hkxxx.size (fun i hi => by injection hi with hi; have := HBS.out; omega), HBS.out⟩
      · go_simp
        have hkxx : Kept WR ((y0).alloc (.cells (oV zeroO).toArray 26)) := hkx.alloc _
        have HBX := Lib.hid (Box.new (y0) (oV zeroO) 26)
        obtain ⟨BQ, hB⟩ : ∃ BQ, BQ = (y0).heap.size := ⟨_, rfl⟩
        have HBE := Lib.hid hB
        have HBS : Hid (WR.heap.size ≤ BQ) := by rw [hB]; exact hkx.size
        clear hB
        refine hK.out _ _ hkxx (fun _ => ?_)
        clear hK K
        rw [← HBE.out] at HBX ⊢
        change wpT _ _ _ _ _ _ _ ((y0).alloc (.cells (oV zeroO).toArray 26))
        (try simp only [Act.put, List.setIfInBounds_toArray, List.set_cons_zero, List.set_cons_succ])
        generalize hYY : (y0).alloc (.cells (oV zeroO).toArray 26) = YA at *
        clear hYY
        refine tree_call hkxx (by rfl) (fun K hK => ?_)
        go_simp
        refine (with_any LO (ownO a) _ HLL.out (ownO_len a)).mono ?_; rintro e y1w ⟨rfl, hb⟩
        go_wp2_with fail
        have hkxxx := hkxx.to hb
        refine hK.out _ _ hkxxx (fun _ => ?_)
        have HBX := Lib.hid (HBX.out.below hb HBX.out.lt)
        clear hK K hb
        (try simp only [Act.put, List.setIfInBounds_toArray, List.set_cons_zero, List.set_cons_succ])
        refine tree_store_box hkxxx (by rfl) 26 (.tmp 9) (.tmp 34) rfl BQ 0 (oV (orO LO (ownO a))) rfl rfl (oV zeroO) HBX.out (by rw [oV_len, orO_len]; decide) 16 (by kernel_rfl) ((oV_len _).trans (orO_len _ _)) (oV_one _) (fun y hy hg => Below.grown hkxxx hg hkxxx.size (fun i hi => by injection hi with hi; have := HBS.out; omega)) ?_
        intro yz hbz hgz
        rw [splice_whole _ _ (by rw [oV_len, orO_len]; rfl)] at hbz
        (try simp only [Act.put, List.setIfInBounds_toArray, List.set_cons_zero, List.set_cons_succ])
        refine tree_done ⟨BQ, rfl, hbz, Below.grown hkxxx hgz hkxxx.size (fun i hi => by injection hi with hi; have := HBS.out; omega), HBS.out⟩
    · generalize WR.drew = WD at *
      go_simp
      have hkdx : Kept WR ((WD).alloc (.cells (oV zeroO).toArray 26)) := hkd.alloc _
      have HBX := Lib.hid (Box.new (WD) (oV zeroO) 26)
      obtain ⟨BQ, hB⟩ : ∃ BQ, BQ = (WD).heap.size := ⟨_, rfl⟩
      have HBE := Lib.hid hB
      have HBS : Hid (WR.heap.size ≤ BQ) := by rw [hB]; exact hkd.size
      clear hB
      refine hK.out _ _ hkdx (fun _ => ?_)
      clear hK K
      rw [← HBE.out] at HBX ⊢
      change wpT _ _ _ _ _ _ _ ((WD).alloc (.cells (oV zeroO).toArray 26))
      (try simp only [Act.put, List.setIfInBounds_toArray, List.set_cons_zero, List.set_cons_succ])
      generalize hYY : (WD).alloc (.cells (oV zeroO).toArray 26) = YA at *
      clear hYY
      refine tree_call hkdx (by rfl) (fun K hK => ?_)
      go_simp
      refine (owners_make a _ ha).mono ?_; rintro e y1o ⟨rfl, hb⟩
      go_wp2_with fail
      have hkdxx := hkdx.to hb
      refine hK.out _ _ hkdxx (fun _ => ?_)
      have HBX := Lib.hid (HBX.out.below hb HBX.out.lt)
      clear hK K hb
      (try simp only [Act.put, List.setIfInBounds_toArray, List.set_cons_zero, List.set_cons_succ])
      refine tree_call hkdxx (by rfl) (fun K hK => ?_)
      go_simp
      refine (with_any LO (ownO a) _ HLL.out (ownO_len a)).mono ?_; rintro e y2w ⟨rfl, hb⟩
      go_wp2_with fail
      have hkdxxx := hkdxx.to hb
      refine hK.out _ _ hkdxxx (fun _ => ?_)
      have HBX := Lib.hid (HBX.out.below hb HBX.out.lt)
      clear hK K hb
      (try simp only [Act.put, List.setIfInBounds_toArray, List.set_cons_zero, List.set_cons_succ])
      refine tree_store_box hkdxxx (by rfl) 26 (.tmp 9) (.tmp 34) rfl BQ 0 (oV (orO LO (ownO a))) rfl rfl (oV zeroO) HBX.out (by rw [oV_len, orO_len]; decide) 16 (by kernel_rfl) ((oV_len _).trans (orO_len _ _)) (oV_one _) (fun y hy hg => Below.grown hkdxxx hg hkdxxx.size (fun i hi => by injection hi with hi; have := HBS.out; omega)) ?_
      intro yz hbz hgz
      rw [splice_whole _ _ (by rw [oV_len, orO_len]; rfl)] at hbz
      (try simp only [Act.put, List.setIfInBounds_toArray, List.set_cons_zero, List.set_cons_succ])
      refine tree_done ⟨BQ, rfl, hbz, Below.grown hkdxxx hgz hkdxxx.size (fun i hi => by injection hi with hi; have := HBS.out; omega), HBS.out⟩
  intro BX w6 hBX
  obtain ⟨h1, h2, h3⟩ := hBX
  have HXX := Lib.hid h1
  have k6 := Kept.trans k5 h2
  have HSBX : Hid (w5.heap.size ≤ BX) := h3
  have HXL := Lib.hid (HXL.out.kept h2)
  have HKN := Lib.hid h2
  clear h1 h2 h3 k5d
  simp only [Act.put, List.setIfInBounds_toArray, List.set_cons_zero, List.set_cons_succ]
  go_wp2_with fail
  have k6d := Kept.refl w6
  refine region_tree_at (fun (act : Act) (B : Nat) => (((((act.put (some 35) (.agg (oV LO).toArray)).put (some 36) (.int .i64 b)).put (some 37) (.agg (oV (ownO b)).toArray)).put (some 38) (.agg (oV (orO LO (ownO b))).toArray)).put (some 10) (.pointer (some ⟨B, 0, none⟩))))
    (fun B y => Box y B (oV (orO LO (ownO b))) ∧ Kept w6 y ∧ w6.heap.size ≤ B)
    (LinT.of [(0, true), (1, true)] (.two 2 4 (LinT.of [] (.two 3 4 (LinT.of [(4, false), (5, false)] .nil) (LinT.of [(3, false), (5, false)] .nil))) (LinT.of [(2, false), (3, false), (5, false)] .nil)))
    (by kernel_rfl) (by kernel_rfl) rfl (by kernel_rfl) (Kept w6) ?_ ?_
  · obtain ⟨WR, hWR⟩ : ∃ WR, WR = w6 := ⟨_, rfl⟩
    have hkd : Kept w6 w6.drew := k6d.drew
    simp only [LinT.of, LinT.look, List.getElem?_toArray, List.getElem?_cons_succ, List.getElem?_cons_zero]
    refine tree_take_box hkd rfl 26 (.tmp 8) rfl BL 0 rfl (oV LO) (oV LO) (fun y hy => HXL.out.kept hy) whole_at _ Try.underlying26 rfl 16 (by kernel_rfl) ((oV_len LO).trans HLL.out) ?_
    simp only [Act.put, List.setIfInBounds_toArray, List.set_cons_zero, List.set_cons_succ]
    iterate 1 (refine tree_take (v := ?_) hkd (by rfl) ?_ ?_; rotate_left; (intro x hx; (try dsimp only at hx); go_simp; try (with_reducible rfl)); (try simp only [Act.put, List.setIfInBounds_toArray, List.set_cons_zero, List.set_cons_succ]))
    rw [← hWR] at hkd ⊢
    clear hWR
    refine tree_two hkd (by rfl) (by rfl) (fun K hK => ?_) (fun K hK => ?_)
    · go_simp
      refine (owners_make b _ hb).mono ?_; rintro e y0 ⟨rfl, hb⟩
      go_wp2_with fail
      have hkx := hkd.to hb
      refine hK.out _ _ hkx (fun _ => ?_)
      clear hK K hb
      (try simp only [Act.put, List.setIfInBounds_toArray, List.set_cons_zero, List.set_cons_succ])
      refine tree_two hkx (by rfl) (by rfl) (fun K hK => ?_) (fun K hK => ?_)
      · go_simp
        refine (with_any LO (ownO b) _ HLL.out (ownO_len b)).mono ?_; rintro e y0w ⟨rfl, hb⟩
        go_wp2_with fail
        have hkxx := hkx.to hb
        refine hK.out _ _ hkxx (fun _ => ?_)
        clear hK K hb
        (try simp only [Act.put, List.setIfInBounds_toArray, List.set_cons_zero, List.set_cons_succ])
        refine tree_call hkxx (by rfl) (fun K hK => ?_)
        go_simp
        have hkxxx : Kept WR ((y0w).alloc (.cells (oV zeroO).toArray 26)) := hkxx.alloc _
        have HBX := Lib.hid (Box.new (y0w) (oV zeroO) 26)
        obtain ⟨BQ, hB⟩ : ∃ BQ, BQ = (y0w).heap.size := ⟨_, rfl⟩
        have HBE := Lib.hid hB
        have HBS : Hid (WR.heap.size ≤ BQ) := by rw [hB]; exact hkxx.size
        clear hB
        refine hK.out _ _ hkxxx (fun _ => ?_)
        clear hK K
        rw [← HBE.out] at HBX ⊢
        change wpT _ _ _ _ _ _ _ ((y0w).alloc (.cells (oV zeroO).toArray 26))
        (try simp only [Act.put, List.setIfInBounds_toArray, List.set_cons_zero, List.set_cons_succ])
        generalize hYY : (y0w).alloc (.cells (oV zeroO).toArray 26) = YA at *
        clear hYY
        refine tree_store_box hkxxx (by rfl) 26 (.tmp 10) (.tmp 38) rfl BQ 0 (oV (orO LO (ownO b))) rfl rfl (oV zeroO) HBX.out (by rw [oV_len, orO_len]; decide) 16 (by kernel_rfl) ((oV_len _).trans (orO_len _ _)) (oV_one _) (fun y hy hg => Below.grown hkxxx hg hkxxx.size (fun i hi => by injection hi with hi; have := HBS.out; omega)) ?_
        intro yz hbz hgz
        rw [splice_whole _ _ (by rw [oV_len, orO_len]; rfl)] at hbz
        (try simp only [Act.put, List.setIfInBounds_toArray, List.set_cons_zero, List.set_cons_succ])
        refine tree_done ⟨BQ, rfl, hbz, Below.grown hkxxx hgz hkxxx.size (fun i hi => by injection hi with hi; have := HBS.out; omega), HBS.out⟩
      · go_simp
        have hkxx : Kept WR ((y0).alloc (.cells (oV zeroO).toArray 26)) := hkx.alloc _
        have HBX := Lib.hid (Box.new (y0) (oV zeroO) 26)
        obtain ⟨BQ, hB⟩ : ∃ BQ, BQ = (y0).heap.size := ⟨_, rfl⟩
        have HBE := Lib.hid hB
        have HBS : Hid (WR.heap.size ≤ BQ) := by rw [hB]; exact hkx.size
        clear hB
        refine hK.out _ _ hkxx (fun _ => ?_)
        clear hK K
        rw [← HBE.out] at HBX ⊢
        change wpT _ _ _ _ _ _ _ ((y0).alloc (.cells (oV zeroO).toArray 26))
        (try simp only [Act.put, List.setIfInBounds_toArray, List.set_cons_zero, List.set_cons_succ])
        generalize hYY : (y0).alloc (.cells (oV zeroO).toArray 26) = YA at *
        clear hYY
        refine tree_call hkxx (by rfl) (fun K hK => ?_)
        go_simp
        refine (with_any LO (ownO b) _ HLL.out (ownO_len b)).mono ?_; rintro e y1w ⟨rfl, hb⟩
        go_wp2_with fail
        have hkxxx := hkxx.to hb
        refine hK.out _ _ hkxxx (fun _ => ?_)
        have HBX := Lib.hid (HBX.out.below hb HBX.out.lt)
        clear hK K hb
        (try simp only [Act.put, List.setIfInBounds_toArray, List.set_cons_zero, List.set_cons_succ])
        refine tree_store_box hkxxx (by rfl) 26 (.tmp 10) (.tmp 38) rfl BQ 0 (oV (orO LO (ownO b))) rfl rfl (oV zeroO) HBX.out (by rw [oV_len, orO_len]; decide) 16 (by kernel_rfl) ((oV_len _).trans (orO_len _ _)) (oV_one _) (fun y hy hg => Below.grown hkxxx hg hkxxx.size (fun i hi => by injection hi with hi; have := HBS.out; omega)) ?_
        intro yz hbz hgz
        rw [splice_whole _ _ (by rw [oV_len, orO_len]; rfl)] at hbz
        (try simp only [Act.put, List.setIfInBounds_toArray, List.set_cons_zero, List.set_cons_succ])
        refine tree_done ⟨BQ, rfl, hbz, Below.grown hkxxx hgz hkxxx.size (fun i hi => by injection hi with hi; have := HBS.out; omega), HBS.out⟩
    · generalize WR.drew = WD at *
      go_simp
      have hkdx : Kept WR ((WD).alloc (.cells (oV zeroO).toArray 26)) := hkd.alloc _
      have HBX := Lib.hid (Box.new (WD) (oV zeroO) 26)
      obtain ⟨BQ, hB⟩ : ∃ BQ, BQ = (WD).heap.size := ⟨_, rfl⟩
      have HBE := Lib.hid hB
      have HBS : Hid (WR.heap.size ≤ BQ) := by rw [hB]; exact hkd.size
      clear hB
      refine hK.out _ _ hkdx (fun _ => ?_)
      clear hK K
      rw [← HBE.out] at HBX ⊢
      change wpT _ _ _ _ _ _ _ ((WD).alloc (.cells (oV zeroO).toArray 26))
      (try simp only [Act.put, List.setIfInBounds_toArray, List.set_cons_zero, List.set_cons_succ])
      generalize hYY : (WD).alloc (.cells (oV zeroO).toArray 26) = YA at *
      clear hYY
      refine tree_call hkdx (by rfl) (fun K hK => ?_)
      go_simp
      refine (owners_make b _ hb).mono ?_; rintro e y1o ⟨rfl, hb⟩
      go_wp2_with fail
      have hkdxx := hkdx.to hb
      refine hK.out _ _ hkdxx (fun _ => ?_)
      have HBX := Lib.hid (HBX.out.below hb HBX.out.lt)
      clear hK K hb
      (try simp only [Act.put, List.setIfInBounds_toArray, List.set_cons_zero, List.set_cons_succ])
      refine tree_call hkdxx (by rfl) (fun K hK => ?_)
      go_simp
      refine (with_any LO (ownO b) _ HLL.out (ownO_len b)).mono ?_; rintro e y2w ⟨rfl, hb⟩
      go_wp2_with fail
      have hkdxxx := hkdxx.to hb
      refine hK.out _ _ hkdxxx (fun _ => ?_)
      have HBX := Lib.hid (HBX.out.below hb HBX.out.lt)
      clear hK K hb
      (try simp only [Act.put, List.setIfInBounds_toArray, List.set_cons_zero, List.set_cons_succ])
      refine tree_store_box hkdxxx (by rfl) 26 (.tmp 10) (.tmp 38) rfl BQ 0 (oV (orO LO (ownO b))) rfl rfl (oV zeroO) HBX.out (by rw [oV_len, orO_len]; decide) 16 (by kernel_rfl) ((oV_len _).trans (orO_len _ _)) (oV_one _) (fun y hy hg => Below.grown hkdxxx hg hkdxxx.size (fun i hi => by injection hi with hi; have := HBS.out; omega)) ?_
      intro yz hbz hgz
      rw [splice_whole _ _ (by rw [oV_len, orO_len]; rfl)] at hbz
      (try simp only [Act.put, List.setIfInBounds_toArray, List.set_cons_zero, List.set_cons_succ])
      refine tree_done ⟨BQ, rfl, hbz, Below.grown hkdxxx hgz hkdxxx.size (fun i hi => by injection hi with hi; have := HBS.out; omega), HBS.out⟩
  intro BY w7 hBY
  obtain ⟨h1, h2, h3⟩ := hBY
  have HXY := Lib.hid h1
  have k7 := Kept.trans k6 h2
  have HSBY : Hid (w6.heap.size ≤ BY) := h3
  have HXL := Lib.hid (HXL.out.kept h2)
  have HKN := Lib.hid h2
  have HXX := Lib.hid (HXX.out.kept h2)
  clear h1 h2 h3 k6d
  simp only [Act.put, List.setIfInBounds_toArray, List.set_cons_zero, List.set_cons_succ]
  have hx16 := Lib.hid (orO_len LO (ownO a))
  have hy16 := Lib.hid (orO_len LO (ownO b))
  generalize orO LO (ownO a) = X at *
  generalize orO LO (ownO b) = Y at *
  go_wp2_with fail
  refine (owners_make 65534 _ (by omega)).mono ?_; rintro e w8 ⟨rfl, hb8⟩
  rw [ownO_all]
  have k8 := k7.to hb8
  have HXX := Lib.hid (HXX.out.below hb8 HXX.out.lt)
  have HXY := Lib.hid (HXY.out.below hb8 HXY.out.lt)
  clear hb8 HKN HXL
  have HNBA := Lib.hid (Box.new w8 (oV zeroO) 26)
  have HMBA : Hid (Below w8.heap.size w8 (w8.alloc (.cells (oV zeroO).toArray 26))) := (Below.refl _ _).alloc (Nat.le_refl _) _
  obtain ⟨BA, hBA⟩ : ∃ BA, BA = w8.heap.size := ⟨_, rfl⟩
  have HEBA := Lib.hid hBA
  clear hBA
  have HLBA : Hid ((oV allA).length = 16) := (oV_len _).trans rfl
  go_wp2_with (first
    | (refine wpList_load_box rfl 25 (.tmp 3) rfl w.heap.size 0 rfl [.slice A p.code.length c, .int .i64 p.size, .slice D p.data.length d] [.slice A p.code.length c, .int .i64 p.size, .slice D p.data.length d] HP9.out whole_at _ Try.underlying25 rfl 3 (by kernel_rfl) rfl ?_)
    | (refine wpList_store_box rfl 26 (.tmp 11) (.tmp 39) rfl w8.heap.size 0 (oV allA) rfl rfl (oV zeroO) HNBA.out (by rw [HLBA.out]; decide) 16 (by kernel_rfl) HLBA.out (oV_one _) ?_; intro w9 B4 hg4; rw [splice_whole _ _ (by rw [HLBA.out]; rfl)] at B4; have HXA := Lib.hid B4; have hk4 : Below w8.heap.size w8 w9 := HMBA.out.grown hg4 (by simp) (fun i hi => by injection hi with hi; omega); have k9 := Kept.to k8 hk4; have HXX := Lib.hid (HXX.out.below hk4 HXX.out.lt); have HXY := Lib.hid (HXY.out.below hk4 HXY.out.lt); have HP9 := Lib.hid (HP.out.kept k9); clear B4 hg4 hk4; rw [← HEBA.out] at HXA ⊢)
    | (refine wpList_load_box rfl 26 (.tmp 11) rfl BA 0 rfl (oV allA) (oV allA) HXA.out whole_at _ Try.underlying26 rfl 16 (by kernel_rfl) (by decide) ?_))
  refine (closed_any A c p.size D p.data.length d p.code allA _ (k9.row HR.out) u3 u4 rfl).mono ?_; rintro e w10 ⟨rfl, hb⟩
  have k10 := k9.to hb
  have HXX := Lib.hid (HXX.out.below hb HXX.out.lt)
  have HXY := Lib.hid (HXY.out.below hb HXY.out.lt)
  have HPx := Lib.hid (HP.out.kept k10)
  clear hb
  rw [show closedZ p.code p.size p.data.length allA = true from (closed_iff rfl).2 ⟨allA_ok, HRI.out, allA_all (rightZ_parts HRI.out).2⟩]
  go_wp2_with (first
    | (refine wpList_load_box rfl 25 (.tmp 3) rfl w.heap.size 0 rfl [.slice A p.code.length c, .int .i64 p.size, .slice D p.data.length d] [.slice A p.code.length c, .int .i64 p.size, .slice D p.data.length d] HPx.out whole_at _ Try.underlying25 rfl 3 (by kernel_rfl) rfl ?_)
    | (refine wpList_load_box rfl 26 (.tmp 9) rfl BX 0 rfl (oV X) (oV X) HXX.out whole_at _ Try.underlying26 rfl 16 (by kernel_rfl) ((oV_len X).trans hx16.out) ?_))
  refine (closed_any A c p.size D p.data.length d p.code X _ (k10.row HR.out) u3 u4 hx16.out).mono ?_; rintro e w11 ⟨rfl, hb⟩
  have k11 := k10.to hb
  have HXX := Lib.hid (HXX.out.below hb HXX.out.lt)
  have HXY := Lib.hid (HXY.out.below hb HXY.out.lt)
  have HPx := Lib.hid (HP.out.kept k11)
  clear hb
  have HKZ := Lib.hid (HK.out _ k11)
  cases hcx : closedZ p.code p.size p.data.length X
  · go_wp2_with fail
    go_ret
    exact ⟨rfl, HKZ.out⟩
  have HCX := Lib.hid ((closed_iff hx16.out).1 hcx)
  clear hcx
  go_wp2_with (first
    | (refine wpList_load_box rfl 25 (.tmp 3) rfl w.heap.size 0 rfl [.slice A p.code.length c, .int .i64 p.size, .slice D p.data.length d] [.slice A p.code.length c, .int .i64 p.size, .slice D p.data.length d] HPx.out whole_at _ Try.underlying25 rfl 3 (by kernel_rfl) rfl ?_)
    | (refine wpList_load_box rfl 26 (.tmp 10) rfl BY 0 rfl (oV Y) (oV Y) HXY.out whole_at _ Try.underlying26 rfl 16 (by kernel_rfl) ((oV_len Y).trans hy16.out) ?_))
  refine (closed_any A c p.size D p.data.length d p.code Y _ (k11.row HR.out) u3 u4 hy16.out).mono ?_; rintro e w12 ⟨rfl, hb⟩
  have k12 := k11.to hb
  have HXX := Lib.hid (HXX.out.below hb HXX.out.lt)
  have HXY := Lib.hid (HXY.out.below hb HXY.out.lt)
  have HPx := Lib.hid (HP.out.kept k12)
  clear hb
  have HKZ := Lib.hid (HK.out _ k12)
  cases hcy : closedZ p.code p.size p.data.length Y
  · go_wp2_with fail
    go_ret
    exact ⟨rfl, HKZ.out⟩
  have HCY := Lib.hid ((closed_iff hy16.out).1 hcy)
  clear hcy
  have hzu : W.heap.size ≤ w12.heap.size := k12.size
  have HNBU := Lib.hid (Box.new w12 (oV zeroO) 26)
  have HMBU : Hid (Below w12.heap.size w12 (w12.alloc (.cells (oV zeroO).toArray 26))) := (Below.refl _ _).alloc (Nat.le_refl _) _
  obtain ⟨BU, hBU⟩ : ∃ BU, BU = w12.heap.size := ⟨_, rfl⟩
  have HEBU := Lib.hid hBU
  clear hBU
  have HLBU : Hid ((oV X).length = 16) := (oV_len _).trans hx16.out
  have hbx : BX < BU := by rw [HEBU.out]; exact HXX.out.lt
  have hby : BY < BU := by rw [HEBU.out]; exact HXY.out.lt
  have hbw : W.heap.size ≤ BU := by rw [HEBU.out]; exact hzu
  have HLY : Hid ((oV X).length = 16) := HLBU.out
  go_wp2_with (first
    | (refine wpList_load_box rfl 26 (.tmp 9) rfl BX 0 rfl (oV X) (oV X) HXX.out whole_at _ Try.underlying26 rfl 16 (by kernel_rfl) ((oV_len X).trans hx16.out) ?_)
    | (refine wpList_store_box rfl 26 (.tmp 12) (.tmp 54) rfl w12.heap.size 0 (oV X) rfl rfl (oV zeroO) HNBU.out (by rw [HLBU.out]; decide) 16 (by kernel_rfl) HLBU.out (oV_one _) ?_; intro w13 B4 hg4; rw [splice_whole _ _ (by rw [HLBU.out]; rfl)] at B4; have HU := Lib.hid B4; have hk4 : Below w12.heap.size w12 w13 := HMBU.out.grown hg4 (by simp) (fun i hi => by injection hi with hi; omega); have k13 := Kept.to k12 hk4; have HXX := Lib.hid (HXX.out.below hk4 HXX.out.lt); have HXY := Lib.hid (HXY.out.below hk4 HXY.out.lt); clear B4 hg4 hk4; rw [← HEBU.out] at HU ⊢; have HNBV := Lib.hid (Box.new w13 (oV zeroO) 26); have HMBV : Hid (Below w13.heap.size w13 (w13.alloc (.cells (oV zeroO).toArray 26))) := (Below.refl _ _).alloc (Nat.le_refl _) _; obtain ⟨BV, hBV⟩ : ∃ BV, BV = w13.heap.size := ⟨_, rfl⟩; have HEBV := Lib.hid hBV; clear hBV)
    | (refine wpList_store_box rfl 26 (.tmp 13) (.tmp 55) rfl w13.heap.size 0 (oV X) rfl rfl (oV zeroO) HNBV.out (by rw [HLY.out]; decide) 16 (by kernel_rfl) HLY.out (oV_one _) ?_; intro w14 B5 hg5; rw [splice_whole _ _ (by rw [HLY.out]; rfl)] at B5; have HV := Lib.hid B5; have hk5 : Below w13.heap.size w13 w14 := HMBV.out.grown hg5 (by simp) (fun i hi => by injection hi with hi; omega); have k14 := Kept.to k13 hk5; have hbu := HU.out.lt; rw [← HEBV.out] at hbu; have HU := Lib.hid (HU.out.below hk5 HU.out.lt); have HXY := Lib.hid (HXY.out.below hk5 HXY.out.lt); clear B5 hg5 hk5; rw [← HEBV.out] at HV ⊢))
  clear HXX hbx hzu HNBU HMBU HLBU HNBV HMBV HPx
  rw [← orP_1 hx16.out Y] at HU
  rw [← andP_1 hx16.out Y] at HV
  have K14 := Lib.hid k14
  clear k14 k13 k12 k11 k10 k9 k8 k7 k6
  go_loopw [14] (fun ii wr => ∃ k : Nat, 1 ≤ k ∧ k ≤ 16 ∧ ii = .int .i64 k ∧ Box wr BU (oV (orP X Y k)) ∧ Box wr BV (oV (andP X Y k)) ∧ Below BU w14 wr) (fun ii _ => 16 - (intOf ii).toNat)
  case atStart => exact ⟨1, by omega, by omega, rfl, HU.out, HV.out, Below.refl _ _⟩
  case round =>
    obtain ⟨k, hk1, hk, rfl, hu, hv, hbl⟩ := hrel
    have HU := Lib.hid hu
    have HV := Lib.hid hv
    have HKY := Lib.hid hbl
    have hlu := hu.lt
    have hlv := hv.lt
    clear hu hv hbl
    by_cases hlt : k < 16
    · have HYW := Lib.hid (HXY.out.below HKY.out hby)
      have f3 := HYW.out.cell (oV_at hy16.out (n := k) (by omega))
      have g0 : (0 : Int) ≤ k := by omega
      have g1 : (k : Int) < 16 := by omega
      cases hq : (atO Y k == 1)
      · have HE := Lib.hid (orP_no (x := X) (y := Y) (k := k) (by simpa using hq))
        have HF := Lib.hid (andP_no (x := X) (y := Y) hk1 (by simpa using hq))
        have f1 := HV.out.cell (oV_at (funO_len _) (n := k) (by omega))
        have f2 := HV.out.frozen k
        have HN : Hid (Box (wr.setCell ⟨BV, k, none⟩ (.int .i64 2)) BV (oV (andP X Y (k + 1)))) := by
          have := HV.out.setCell k (.int .i64 2)
          rwa [oV_set, HF.out] at this
        have HUN := Lib.hid (HU.out.setCell_other (b' := BV) (by omega) k (.int .i64 2))
        have HKN : Hid (Below BU w14 (wr.setCell ⟨BV, k, none⟩ (.int .i64 2))) := HKY.out.setCell (p := ⟨BV, k, none⟩) (Nat.le_of_lt hbu) _
        go_wp2_with fail
        go_roundw
        case rel => exact ⟨k + 1, by omega, by omega, by go_num, by rw [HE.out]; exact HUN.out, HN.out, HKN.out⟩
        case measure => simp only [intOf]; omega
      · have HE := Lib.hid (andP_yes (x := X) (y := Y) (k := k) (by simpa using hq))
        have HF := Lib.hid (orP_yes (x := X) (y := Y) hk1 (show atO Y k = 1 by simpa using hq))
        have f1 := HU.out.cell (oV_at (funO_len _) (n := k) (by omega))
        have f2 := HU.out.frozen k
        have HN : Hid (Box (wr.setCell ⟨BU, k, none⟩ (.int .i64 1)) BU (oV (orP X Y (k + 1)))) := by
          have := HU.out.setCell k (.int .i64 1)
          rwa [oV_set, HF.out] at this
        have HVN := Lib.hid (HV.out.setCell_other (b' := BU) (by omega) k (.int .i64 1))
        have HKN : Hid (Below BU w14 (wr.setCell ⟨BU, k, none⟩ (.int .i64 1))) := HKY.out.setCell (p := ⟨BU, k, none⟩) (Nat.le_refl _) _
        go_wp2_with fail
        go_roundw
        case rel => exact ⟨k + 1, by omega, by omega, by go_num, HN.out, by rw [HE.out]; exact HVN.out, HKN.out⟩
        case measure => simp only [intOf]; omega
    · have HU : Hid (Box wr BU (oV (orO X Y))) := by rw [← orP_16, show 16 = k from by omega]; exact HU.out
      have HV : Hid (Box wr BV (oV (andO X Y))) := by rw [← andP_16, show 16 = k from by omega]; exact HV.out
      have hcu := (closed_iff (orO_len X Y)).2 ⟨orO_ok (y := Y) HCX.out.1, HRI.out, or_all (rightZ_parts HRI.out).2 HCX.out.1 HCY.out.1 HCX.out.2.2 HCY.out.2.2⟩
      have hcv := (closed_iff (andO_len X Y)).2 ⟨andO_ok (y := Y) HCX.out.1, HRI.out, and_all (rightZ_parts HRI.out).2 HCX.out.1 HCY.out.1 HCX.out.2.2 HCY.out.2.2⟩
      have k15 : Kept W wr := Below.trans K14.out (HKY.out.mono hbw)
      have HUL := Lib.hid (orO_len X Y)
      have HVL := Lib.hid (andO_len X Y)
      generalize orO X Y = U at *
      generalize andO X Y = V at *
      have HCU := Lib.hid hcu
      have HCV := Lib.hid hcv
      have HP15 := Lib.hid (HP.out.kept k15)
      have g1 : ¬ (k : Int) < 16 := by omega
      clear hcu hcv
      go_wp2_with (first
        | (refine wpList_load_box rfl 25 (.tmp 3) rfl w.heap.size 0 rfl [.slice A p.code.length c, .int .i64 p.size, .slice D p.data.length d] [.slice A p.code.length c, .int .i64 p.size, .slice D p.data.length d] HP15.out whole_at _ Try.underlying25 rfl 3 (by kernel_rfl) rfl ?_)
        | (refine wpList_load_box rfl 26 (.tmp 12) rfl BU 0 rfl (oV U) (oV U) HU.out whole_at _ Try.underlying26 rfl 16 (by kernel_rfl) ((oV_len U).trans HUL.out) ?_))
      refine (closed_any A c p.size D p.data.length d p.code U _ (k15.row HR.out) u3 u4 HUL.out).mono ?_; rintro e w16 ⟨rfl, hb⟩
      rw [HCU.out]
      have k16 := k15.to hb
      have HV := Lib.hid (HV.out.below hb HV.out.lt)
      have HP16 := Lib.hid (HP.out.kept k16)
      clear hb
      go_wp2_with (first
        | (refine wpList_load_box rfl 25 (.tmp 3) rfl w.heap.size 0 rfl [.slice A p.code.length c, .int .i64 p.size, .slice D p.data.length d] [.slice A p.code.length c, .int .i64 p.size, .slice D p.data.length d] HP16.out whole_at _ Try.underlying25 rfl 3 (by kernel_rfl) rfl ?_)
        | (refine wpList_load_box rfl 26 (.tmp 13) rfl BV 0 rfl (oV V) (oV V) HV.out whole_at _ Try.underlying26 rfl 16 (by kernel_rfl) ((oV_len V).trans HVL.out) ?_))
      refine (closed_any A c p.size D p.data.length d p.code V _ (k16.row HR.out) u3 u4 HVL.out).mono ?_; rintro e w17 ⟨rfl, hb⟩
      rw [HCV.out]
      have k17 := k16.to hb
      have HKZ := Lib.hid (HK.out _ k17)
      clear hb
      go_wp2_with fail
      go_ret
      exact ⟨rfl, HKZ.out⟩
end Go.Proofs.Ytehelfmpcbejeaa.Words

/- Several texts in one: RefAdvance, BnkGoOn, BnkSmall, BnkWaits. -/
import Derived.Test.YthhoigkmmlkfcaaG09
import Derived.Test.YthhoigkmmlkfcaaG04
import Derived.Test.YthhoigkmmlkfcaaG08
import Derived.Test.YthhoigkmmlkfcaaG07

/- Contract of the document's own Advance of chapter 18: a cycle of memory. -/
namespace Go.Proofs.Ythhoigkmmlkfcaa.Words
set_option maxRecDepth 100000
open Go.RowKit
set_option linter.unusedVariables false
set_option linter.unusedSimpArgs false

theorem adv_begun (c : Cfg) (sl sp : Value) (x : Sta) (v : Vs) (w : World) {W : World}
    (hW : W = (((w.alloc (.cells #[.int .i64 c.ldq, .int .i64 c.sdq, .int .i64 c.aeq, .int .i64 c.abq, .int .i64 c.ebq, .int .i64 c.saq, .int .i64 c.banks, .int .i64 c.flight, .int .i64 c.slip, .int .i64 c.lat, .int .i64 c.mul, .int .i64 c.div] 23)).alloc (.cells #[sl, sp] 26)).alloc (.cells (staL x v).toArray 44)).alloc (.cells Try.zeroCells44 44)) :
    Box W w.heap.size (cfgCells c) ∧ Box W (w.heap.size + 1) [sl, sp] ∧ Box W (w.heap.size + 2) (staL x v) ∧ Box W (w.heap.size + 3) Try.zeroCells44.toList ∧ Below w.heap.size w W ∧ W.heap.size = w.heap.size + 4 := by
  subst hW
  refine ⟨((((Box.new w (cfgCells c) _).alloc _).alloc _).alloc _), ?_, ?_, ?_, ((((Below.refl _ _).alloc (Nat.le_refl _) _).alloc (by simp) _).alloc (by simp; omega) _).alloc (by simp; omega) _, by simp⟩
  · have := ((Box.new (w.alloc (.cells #[.int .i64 c.ldq, .int .i64 c.sdq, .int .i64 c.aeq, .int .i64 c.abq, .int .i64 c.ebq, .int .i64 c.saq, .int .i64 c.banks, .int .i64 c.flight, .int .i64 c.slip, .int .i64 c.lat, .int .i64 c.mul, .int .i64 c.div] 23)) [sl, sp] 26).alloc (.cells (staL x v).toArray 44)).alloc (.cells Try.zeroCells44 44)
    simpa using this
  · have := (Box.new ((w.alloc (.cells #[.int .i64 c.ldq, .int .i64 c.sdq, .int .i64 c.aeq, .int .i64 c.abq, .int .i64 c.ebq, .int .i64 c.saq, .int .i64 c.banks, .int .i64 c.flight, .int .i64 c.slip, .int .i64 c.lat, .int .i64 c.mul, .int .i64 c.div] 23)).alloc (.cells #[sl, sp] 26)) (staL x v) 44).alloc (.cells Try.zeroCells44 44)
    simpa using this
  · have := Box.new (((w.alloc (.cells #[.int .i64 c.ldq, .int .i64 c.sdq, .int .i64 c.aeq, .int .i64 c.abq, .int .i64 c.ebq, .int .i64 c.saq, .int .i64 c.banks, .int .i64 c.flight, .int .i64 c.slip, .int .i64 c.lat, .int .i64 c.mul, .int .i64 c.div] 23)).alloc (.cells #[sl, sp] 26)).alloc (.cells (staL x v).toArray 44)) Try.zeroCells44.toList 44
    simpa using this
/-- What Advance answers. -/
def AdvOut (w : World) (x' : Sta) (e : Ending) (w' : World) : Prop := ∃ v', e = .returned (.agg (staL x' v').toArray) ∧ StaAt w' w.heap.size v' x' ∧ Below w.heap.size w w'
theorem AvS.out {w W Y : World} {c : Cfg} {sl sp : Value} {Z : List Value} {tb : Value} {x : Sta} {v : Vs} (h : AvS w c sl sp Z tb x v W) (hg : W.grownBy Y (some (w.heap.size + 3))) : AdvOut w x (.returned (.agg (staL x v).toArray)) Y := by
  have hk2 : KeepS (fun j => j = w.heap.size + 3) W Y := KeepS.of_grown hg (fun k e => by injection e with e; exact e.symm)
  exact ⟨v, rfl, ((h.own.keepS hk2 (fun j e => by omega)).less (by omega)).at_, Below.trans h.bl (hk2.below h.bl.size (fun k e => by omega))⟩
theorem av_first {w W Y : World} {c : Cfg} {sl sp : Value} {Z : List Value} {x : Sta} {v : Vs} (h0 : Box W w.heap.size (cfgCells c)) (h1 : Box W (w.heap.size + 1) [sl, sp]) (h2 : Box Y (w.heap.size + 2) (staL x v)) (h3 : Box W (w.heap.size + 3) Z) (h4 : Below w.heap.size w W) (h5 : StaOwn W (w.heap.size + 4) v x) (hg : W.grownBy Y (some (w.heap.size + 2))) : AvS w c sl sp Z v.table x v Y := by
  have hk2 : KeepS (fun j => j = w.heap.size + 2) W Y := KeepS.of_grown hg (fun k e => by injection e with e; exact e.symm)
  exact ⟨h0.keepS hk2 (by omega), h1.keepS hk2 (by omega), h2, h3.keepS hk2 (by omega), h5.keepS hk2 (fun j e => by omega), Below.trans h4 (hk2.below h4.size (fun k e => by omega)), rfl⟩

set_option maxHeartbeats 8000000 in
theorem refAdvance_nob (c : Cfg) (A B : Option Addr) (ca cb : Nat) (lats picks : List Int) (x : Sta) (v : Vs) (w : World) (hl : Row w w.heap.size 1 (.slice A lats.length ca) lats.length (lats.map (Value.int .i64))) (hp : Row w w.heap.size 1 (.slice B picks.length cb) picks.length (picks.map (Value.int .i64)))
    (hx : StaLim 0 x) (hv : StaV w w.heap.size v x) (hq : ∀ q ∈ x.table, q.Fits) (hnum : NumOk x) (h1 : withinB c.banks 16 = false) :
    Calls Try.prog 19 #[.agg #[.int .i64 c.ldq, .int .i64 c.sdq, .int .i64 c.aeq, .int .i64 c.abq, .int .i64 c.ebq, .int .i64 c.saq, .int .i64 c.banks, .int .i64 c.flight, .int .i64 c.slip, .int .i64 c.lat, .int .i64 c.mul, .int .i64 c.div], .agg #[.slice A lats.length ca, .slice B picks.length cb], .agg (staL x v).toArray] w (AdvOut w (advanceZ c lats picks x)) := by
  obtain ⟨W, hW⟩ : ∃ W, W = (((w.alloc (.cells #[.int .i64 c.ldq, .int .i64 c.sdq, .int .i64 c.aeq, .int .i64 c.abq, .int .i64 c.ebq, .int .i64 c.saq, .int .i64 c.banks, .int .i64 c.flight, .int .i64 c.slip, .int .i64 c.lat, .int .i64 c.mul, .int .i64 c.div] 23)).alloc (.cells #[.slice A lats.length ca, .slice B picks.length cb] 26)).alloc (.cells (staL x v).toArray 44)).alloc (.cells Try.zeroCells44 44) := ⟨_, rfl⟩
  obtain ⟨g0, g1, g2, g3, g4, g5⟩ := adv_begun c (.slice A lats.length ca) (.slice B picks.length cb) x v w hW
  obtain ⟨Z, hZ⟩ : ∃ Z, Z = Try.zeroCells44.toList := ⟨_, rfl⟩
  rw [← hZ] at g3
  have HZ : Hid (Z.length = 92) := by rw [hZ]; exact (by rw [Array.length_toList]; exact zero_size : Try.zeroCells44.toList.length = 92)
  clear hZ
  have HX := Lib.hid hx
  have HOK := Lib.hid hx.ok
  have HCP := Lib.hid (refCopy_any x v W hx.ok (hv.kept g4) (hx.few (by omega)))
  have HG0 := Lib.hid g0
  have HG1 := Lib.hid g1
  have HG2 := Lib.hid g2
  have HG3 := Lib.hid g3
  have HG4 := Lib.hid g4
  have HL := Lib.hid hl
  have HP := Lib.hid hp
  have HQ := Lib.hid hq
  have HNUM := Lib.hid hnum
  clear hx hv g0 g1 g2 g3 g4 hl hp hq hnum
  go_enter Try.func19, Try.ntmps19
  go_wp2_with (first
    | (rw [← hW]; clear hW)
    | (refine wpList_load_box rfl 44 (.tmp 5) rfl (w.heap.size + 2) 0 rfl (staL x v) (staL x v) HG2.out (fun j u hu => by rw [Nat.zero_add]; exact hu) _ Try.underlying44 rfl 92 sta_size (staL_len HOK.out) ?_))
  refine HCP.out.mono ?_
  rintro e y1 ⟨v1, rfl, o1, b1⟩
  have hsz := b1.size
  have K1 := Lib.hid (HG0.out.below b1 HG0.out.lt)
  have K2 := Lib.hid (HG1.out.below b1 HG1.out.lt)
  have K3 := Lib.hid (HG2.out.below b1 HG2.out.lt)
  have K4 := Lib.hid (HG3.out.below b1 HG3.out.lt)
  have K5 := Lib.hid (Below.trans HG4.out (b1.mono HG4.out.size))
  rw [g5] at o1 hsz
  have O1 := Lib.hid o1
  clear o1 b1
  go_wp2_with (first
    | (refine wpList_store_box rfl 44 (.tmp 5) (.tmp 17) rfl (w.heap.size + 2) 0 (staL x v1) rfl rfl (staL x v) K3.out (by rw [staL_len HOK.out, staL_len HOK.out]; exact Nat.le_refl _) 92 sta_size (staL_len HOK.out) O1.out.one ?_; intro y2 hb2 hg2; rw [splice_whole _ _ (by rw [staL_len HOK.out, staL_len HOK.out])] at hb2; have S0 := Lib.hid (av_first K1.out K2.out hb2 K4.out K5.out O1.out hg2); have hlt := S0.out.lt; have hz6 : y2.cell? ⟨w.heap.size, 6, none⟩ = some (.int .i64 c.banks) := S0.out.bc.cell rfl; have hz9 : y2.cell? ⟨w.heap.size, 9, none⟩ = some (.int .i64 c.lat) := S0.out.bc.cell rfl; clear hb2 hg2))
  have HE : Hid (advanceZ c lats picks x = x) := by
    have e : advanceZ c lats picks x = x := by unfold advanceZ runsB; rw [h1]; rfl
    exact e
  refine (refWithin_any _ _ _).mono ?_
  rintro e y3 ⟨rfl, rfl⟩
  rw [h1]
  go_wp2_with (first
    | (refine wpList_load_box rfl 44 (.tmp 5) rfl (w.heap.size + 2) 0 rfl (staL x v1) (staL x v1) S0.out.bx (fun j u hu => by rw [Nat.zero_add]; exact hu) _ Try.underlying44 rfl 92 sta_size (staL_len HOK.out) ?_)
    | (refine wpList_store_box rfl 44 (.tmp 6) (.tmp 28) rfl (w.heap.size + 3) 0 (staL x v1) rfl rfl Z S0.out.bz (by rw [HZ.out, staL_len HOK.out]; exact Nat.le_refl _) 92 sta_size (staL_len HOK.out) S0.out.own.one ?_; intro w9 hb9 hg9; rw [splice_whole _ _ (by rw [HZ.out, staL_len HOK.out])] at hb9; have X9 := Lib.hid hb9; have G9 := Lib.hid hg9; clear hb9 hg9))
  exact bodyPost_ret (v := .agg (staL x v1).toArray) (results_cell Try.results19 _ _ _ ⟨w.heap.size + 3, 0, none⟩ _ rfl (load_sta HOK.out X9.out)) rfl (by first | exact S0.out.out G9.out | (rw [HE.out]; exact S0.out.out G9.out))

set_option maxHeartbeats 8000000 in
theorem refAdvance_nol (c : Cfg) (A B : Option Addr) (ca cb : Nat) (lats picks : List Int) (x : Sta) (v : Vs) (w : World) (hl : Row w w.heap.size 1 (.slice A lats.length ca) lats.length (lats.map (Value.int .i64))) (hp : Row w w.heap.size 1 (.slice B picks.length cb) picks.length (picks.map (Value.int .i64)))
    (hx : StaLim 0 x) (hv : StaV w w.heap.size v x) (hq : ∀ q ∈ x.table, q.Fits) (hnum : NumOk x) (h1 : withinB c.banks 16 = true) (h2 : withinB c.lat 1000 = false) :
    Calls Try.prog 19 #[.agg #[.int .i64 c.ldq, .int .i64 c.sdq, .int .i64 c.aeq, .int .i64 c.abq, .int .i64 c.ebq, .int .i64 c.saq, .int .i64 c.banks, .int .i64 c.flight, .int .i64 c.slip, .int .i64 c.lat, .int .i64 c.mul, .int .i64 c.div], .agg #[.slice A lats.length ca, .slice B picks.length cb], .agg (staL x v).toArray] w (AdvOut w (advanceZ c lats picks x)) := by
  obtain ⟨W, hW⟩ : ∃ W, W = (((w.alloc (.cells #[.int .i64 c.ldq, .int .i64 c.sdq, .int .i64 c.aeq, .int .i64 c.abq, .int .i64 c.ebq, .int .i64 c.saq, .int .i64 c.banks, .int .i64 c.flight, .int .i64 c.slip, .int .i64 c.lat, .int .i64 c.mul, .int .i64 c.div] 23)).alloc (.cells #[.slice A lats.length ca, .slice B picks.length cb] 26)).alloc (.cells (staL x v).toArray 44)).alloc (.cells Try.zeroCells44 44) := ⟨_, rfl⟩
  obtain ⟨g0, g1, g2, g3, g4, g5⟩ := adv_begun c (.slice A lats.length ca) (.slice B picks.length cb) x v w hW
  obtain ⟨Z, hZ⟩ : ∃ Z, Z = Try.zeroCells44.toList := ⟨_, rfl⟩
  rw [← hZ] at g3
  have HZ : Hid (Z.length = 92) := by rw [hZ]; exact (by rw [Array.length_toList]; exact zero_size : Try.zeroCells44.toList.length = 92)
  clear hZ
  have HX := Lib.hid hx
  have HOK := Lib.hid hx.ok
  have HCP := Lib.hid (refCopy_any x v W hx.ok (hv.kept g4) (hx.few (by omega)))
  have HG0 := Lib.hid g0
  have HG1 := Lib.hid g1
  have HG2 := Lib.hid g2
  have HG3 := Lib.hid g3
  have HG4 := Lib.hid g4
  have HL := Lib.hid hl
  have HP := Lib.hid hp
  have HQ := Lib.hid hq
  have HNUM := Lib.hid hnum
  clear hx hv g0 g1 g2 g3 g4 hl hp hq hnum
  go_enter Try.func19, Try.ntmps19
  go_wp2_with (first
    | (rw [← hW]; clear hW)
    | (refine wpList_load_box rfl 44 (.tmp 5) rfl (w.heap.size + 2) 0 rfl (staL x v) (staL x v) HG2.out (fun j u hu => by rw [Nat.zero_add]; exact hu) _ Try.underlying44 rfl 92 sta_size (staL_len HOK.out) ?_))
  refine HCP.out.mono ?_
  rintro e y1 ⟨v1, rfl, o1, b1⟩
  have hsz := b1.size
  have K1 := Lib.hid (HG0.out.below b1 HG0.out.lt)
  have K2 := Lib.hid (HG1.out.below b1 HG1.out.lt)
  have K3 := Lib.hid (HG2.out.below b1 HG2.out.lt)
  have K4 := Lib.hid (HG3.out.below b1 HG3.out.lt)
  have K5 := Lib.hid (Below.trans HG4.out (b1.mono HG4.out.size))
  rw [g5] at o1 hsz
  have O1 := Lib.hid o1
  clear o1 b1
  go_wp2_with (first
    | (refine wpList_store_box rfl 44 (.tmp 5) (.tmp 17) rfl (w.heap.size + 2) 0 (staL x v1) rfl rfl (staL x v) K3.out (by rw [staL_len HOK.out, staL_len HOK.out]; exact Nat.le_refl _) 92 sta_size (staL_len HOK.out) O1.out.one ?_; intro y2 hb2 hg2; rw [splice_whole _ _ (by rw [staL_len HOK.out, staL_len HOK.out])] at hb2; have S0 := Lib.hid (av_first K1.out K2.out hb2 K4.out K5.out O1.out hg2); have hlt := S0.out.lt; have hz6 : y2.cell? ⟨w.heap.size, 6, none⟩ = some (.int .i64 c.banks) := S0.out.bc.cell rfl; have hz9 : y2.cell? ⟨w.heap.size, 9, none⟩ = some (.int .i64 c.lat) := S0.out.bc.cell rfl; clear hb2 hg2))
  have HE : Hid (advanceZ c lats picks x = x) := by
    have e : advanceZ c lats picks x = x := by unfold advanceZ runsB; rw [h1, h2]; rfl
    exact e
  refine (refWithin_any _ _ _).mono ?_
  rintro e y3 ⟨rfl, rfl⟩
  rw [h1]
  go_wp2_with fail
  refine (refWithin_any _ _ _).mono ?_
  rintro e y3 ⟨rfl, rfl⟩
  rw [h2]
  go_wp2_with (first
    | (refine wpList_load_box rfl 44 (.tmp 5) rfl (w.heap.size + 2) 0 rfl (staL x v1) (staL x v1) S0.out.bx (fun j u hu => by rw [Nat.zero_add]; exact hu) _ Try.underlying44 rfl 92 sta_size (staL_len HOK.out) ?_)
    | (refine wpList_store_box rfl 44 (.tmp 6) (.tmp 28) rfl (w.heap.size + 3) 0 (staL x v1) rfl rfl Z S0.out.bz (by rw [HZ.out, staL_len HOK.out]; exact Nat.le_refl _) 92 sta_size (staL_len HOK.out) S0.out.own.one ?_; intro w9 hb9 hg9; rw [splice_whole _ _ (by rw [HZ.out, staL_len HOK.out])] at hb9; have X9 := Lib.hid hb9; have G9 := Lib.hid hg9; clear hb9 hg9))
  exact bodyPost_ret (v := .agg (staL x v1).toArray) (results_cell Try.results19 _ _ _ ⟨w.heap.size + 3, 0, none⟩ _ rfl (load_sta HOK.out X9.out)) rfl (by first | exact S0.out.out G9.out | (rw [HE.out]; exact S0.out.out G9.out))
theorem parts_int : ∃ i, Try.prog.info? 3 = some i ∧ i.zero = some (.int .i64 0) ∧ i.size = 1 ∧ i.bytes = 8 := by
  have h : (Try.prog.info? 3).map (fun i => (i.zero, i.size, i.bytes)) = some (some (.int .i64 0), 1, 8) := by kernel_rfl
  cases hi : Try.prog.info? 3 with
  | none => rw [hi] at h; cases h
  | some i =>
    rw [hi] at h
    simp only [Option.map_some, Option.some.injEq, Prod.mk.injEq] at h
    exact ⟨i, rfl, h.1, h.2.1, h.2.2⟩
/-- The first loop's round. -/
structure AdvR (w : World) (c : Cfg) (sl sp : Value) (Z : List Value) (tb : Value) (x : Sta) (j : Nat) (u : Value) (W : World) : Prop where
  st : ∃ v, AvS w c sl sp Z tb (ticksZ x (x.table.take j)).1 v W
  lf : LefS w tb u (ticksZ x (x.table.take j)).2 W
theorem Row.rqs {w : World} {B n c b off : Nat} {l : List Rqs} (h : Row w B 8 (.slice (some ⟨b, off, none⟩) n c) n (flat rqsL l)) {k : Nat} {x : Rqs} (hx : l[k]? = some x) :
    w.cell? ⟨b, off + k * 8, none⟩ = some (.bool x.store) ∧ w.cell? ⟨b, off + k * 8 + 1, none⟩ = some (.int .i64 x.op) ∧ w.cell? ⟨b, off + k * 8 + 2, none⟩ = some (.int .i64 x.addr) ∧ w.cell? ⟨b, off + k * 8 + 3, none⟩ = some (.int .i64 x.size) ∧ w.cell? ⟨b, off + k * 8 + 4, none⟩ = some (.int .u32 x.val) ∧ w.cell? ⟨b, off + k * 8 + 5, none⟩ = some (.int .i64 x.left) ∧ w.cell? ⟨b, off + k * 8 + 6, none⟩ = some (.int .i64 x.reg) ∧ w.cell? ⟨b, off + k * 8 + 7, none⟩ = some (.int .i64 x.tag) :=
  ⟨h.flat_cell rqsL_len hx (j := 0) (by omega) rfl, h.flat_cell rqsL_len hx (j := 1) (by omega) rfl, h.flat_cell rqsL_len hx (j := 2) (by omega) rfl, h.flat_cell rqsL_len hx (j := 3) (by omega) rfl, h.flat_cell rqsL_len hx (j := 4) (by omega) rfl, h.flat_cell rqsL_len hx (j := 5) (by omega) rfl, h.flat_cell rqsL_len hx (j := 6) (by omega) rfl, h.flat_cell rqsL_len hx (j := 7) (by omega) rfl⟩

set_option maxHeartbeats 8000000 in
theorem refAdvance_run (c : Cfg) (A B : Option Addr) (ca cb : Nat) (lats picks : List Int) (x : Sta) (v : Vs) (w : World) (hl : Row w w.heap.size 1 (.slice A lats.length ca) lats.length (lats.map (Value.int .i64))) (hp : Row w w.heap.size 1 (.slice B picks.length cb) picks.length (picks.map (Value.int .i64)))
    (hx : StaLim 0 x) (hv : StaV w w.heap.size v x) (hq : ∀ q ∈ x.table, q.Fits) (hnum : NumOk x) (h1 : withinB c.banks 16 = true) (h2 : withinB c.lat 1000 = true) :
    Calls Try.prog 19 #[.agg #[.int .i64 c.ldq, .int .i64 c.sdq, .int .i64 c.aeq, .int .i64 c.abq, .int .i64 c.ebq, .int .i64 c.saq, .int .i64 c.banks, .int .i64 c.flight, .int .i64 c.slip, .int .i64 c.lat, .int .i64 c.mul, .int .i64 c.div], .agg #[.slice A lats.length ca, .slice B picks.length cb], .agg (staL x v).toArray] w (AdvOut w (advanceZ c lats picks x)) := by
  obtain ⟨W, hW⟩ : ∃ W, W = (((w.alloc (.cells #[.int .i64 c.ldq, .int .i64 c.sdq, .int .i64 c.aeq, .int .i64 c.abq, .int .i64 c.ebq, .int .i64 c.saq, .int .i64 c.banks, .int .i64 c.flight, .int .i64 c.slip, .int .i64 c.lat, .int .i64 c.mul, .int .i64 c.div] 23)).alloc (.cells #[.slice A lats.length ca, .slice B picks.length cb] 26)).alloc (.cells (staL x v).toArray 44)).alloc (.cells Try.zeroCells44 44) := ⟨_, rfl⟩
  obtain ⟨g0, g1, g2, g3, g4, g5⟩ := adv_begun c (.slice A lats.length ca) (.slice B picks.length cb) x v w hW
  obtain ⟨Z, hZ⟩ : ∃ Z, Z = Try.zeroCells44.toList := ⟨_, rfl⟩
  rw [← hZ] at g3
  have HZ : Hid (Z.length = 92) := by rw [hZ]; exact (by rw [Array.length_toList]; exact zero_size : Try.zeroCells44.toList.length = 92)
  clear hZ
  have HX := Lib.hid hx
  have HOK := Lib.hid hx.ok
  have HCP := Lib.hid (refCopy_any x v W hx.ok (hv.kept g4) (hx.few (by omega)))
  have HG0 := Lib.hid g0
  have HG1 := Lib.hid g1
  have HG2 := Lib.hid g2
  have HG3 := Lib.hid g3
  have HG4 := Lib.hid g4
  have HL := Lib.hid hl
  have HP := Lib.hid hp
  have HQ := Lib.hid hq
  have HNUM := Lib.hid hnum
  clear hx hv g0 g1 g2 g3 g4 hl hp hq hnum
  go_enter Try.func19, Try.ntmps19
  go_wp2_with (first
    | (rw [← hW]; clear hW)
    | (refine wpList_load_box rfl 44 (.tmp 5) rfl (w.heap.size + 2) 0 rfl (staL x v) (staL x v) HG2.out (fun j u hu => by rw [Nat.zero_add]; exact hu) _ Try.underlying44 rfl 92 sta_size (staL_len HOK.out) ?_))
  refine HCP.out.mono ?_
  rintro e y1 ⟨v1, rfl, o1, b1⟩
  have hsz := b1.size
  have K1 := Lib.hid (HG0.out.below b1 HG0.out.lt)
  have K2 := Lib.hid (HG1.out.below b1 HG1.out.lt)
  have K3 := Lib.hid (HG2.out.below b1 HG2.out.lt)
  have K4 := Lib.hid (HG3.out.below b1 HG3.out.lt)
  have K5 := Lib.hid (Below.trans HG4.out (b1.mono HG4.out.size))
  rw [g5] at o1 hsz
  have O1 := Lib.hid o1
  clear o1 b1
  go_wp2_with (first
    | (refine wpList_store_box rfl 44 (.tmp 5) (.tmp 17) rfl (w.heap.size + 2) 0 (staL x v1) rfl rfl (staL x v) K3.out (by rw [staL_len HOK.out, staL_len HOK.out]; exact Nat.le_refl _) 92 sta_size (staL_len HOK.out) O1.out.one ?_; intro y2 hb2 hg2; rw [splice_whole _ _ (by rw [staL_len HOK.out, staL_len HOK.out])] at hb2; have S0 := Lib.hid (av_first K1.out K2.out hb2 K4.out K5.out O1.out hg2); have hlt := S0.out.lt; have hz6 : y2.cell? ⟨w.heap.size, 6, none⟩ = some (.int .i64 c.banks) := S0.out.bc.cell rfl; have hz9 : y2.cell? ⟨w.heap.size, 9, none⟩ = some (.int .i64 c.lat) := S0.out.bc.cell rfl; clear hb2 hg2))
  refine (refWithin_any _ _ _).mono ?_
  rintro e y3 ⟨rfl, rfl⟩
  rw [h1]
  go_wp2_with fail
  refine (refWithin_any _ _ _).mono ?_
  rintro e y3 ⟨rfl, rfl⟩
  rw [h2]
  obtain ⟨A9, c9, e9⟩ := (Row.of_own O1.out.table).form
  have hnl := HX.out.table
  rw [e9] at S0
  obtain ⟨n, hn⟩ : ∃ n, n = x.table.length := ⟨_, rfl⟩
  rw [← hn] at S0 e9 hnl
  have HN := Lib.hid hn
  have t1 := S0.out.bx.cell (sta_table HOK.out)
  rw [e9] at t1
  clear hn
  obtain ⟨ir, hir, q0, q1, q2⟩ := parts_rqs
  have HIr := Lib.hid hir
  have HAr := Lib.hid q0
  have HBr := Lib.hid q1
  have HCr := Lib.hid q2
  clear hir q0 q1 q2
  go_wp2_with fail
  clear t1 hz6 hz9
  go_loopw [7, 9] (fun u i wr => ∃ j : Nat, j ≤ n ∧ i = .int .i64 j ∧ AdvR w c (.slice A lats.length ca) (.slice B picks.length cb) Z (.slice A9 n c9) x j u wr) (fun _ i _ => n - (intOf i).toNat)
  case atStart => exact ⟨0, Nat.zero_le _, rfl, ⟨⟨v1, S0.out⟩, ⟨World.ownsRow_nil _ _ _ _, .inl rfl⟩⟩⟩
  case round =>
    obtain ⟨j, hj, rfl, ⟨v2, hst⟩, hlf⟩ := hrel
    have hlim := ticks_lim (l := x.table) HX.out j
    have hlen := ticks_len x x.table j
    have HT := Lib.hid (fun q (h : x.table[j]? = some q) => ticks_step (x := x) h)
    obtain ⟨X, hX⟩ : ∃ X, X = ticksZ x (x.table.take j) := ⟨_, rfl⟩
    rw [← hX] at hst hlf hlim hlen HT
    have HXX := Lib.hid hX
    have ST := Lib.hid hst
    have LF := Lib.hid hlf
    have LIM := Lib.hid hlim.1
    have HTB := Lib.hid hlim.2
    obtain ⟨Au, cu, eu⟩ := (Row.of_own hlf.own).form
    subst eu
    clear hX hst hlf hlim
    by_cases hlt : j < n
    · obtain ⟨q, hq⟩ : ∃ q, x.table[j]? = some q := ⟨_, List.getElem?_eq_getElem (by rw [← HN.out]; exact hlt)⟩
      have HQF := Lib.hid (HQ.out q (List.mem_of_getElem? hq))
      have hrow := Row.of_own ST.out.own.table
      rw [ST.out.tb, HTB.out, ← HN.out] at hrow
      obtain ⟨g, o, rfl, hg, _⟩ := hrow.at_ (by omega)
      obtain ⟨d0, d1, d2, d3, d4, d5, d6, d7⟩ := hrow.rqs hq
      have HTS := Lib.hid (HT.out q hq)
      have k0 : (0 : Int) ≤ j := by omega
      have k1 : (j : Int) < n := by omega
      clear hrow hq
      by_cases hpos : 0 < q.left
      · by_cases hone : q.left = 1
        · have hlt4 := ST.out.lt
          have STA := Lib.hid (ST.out.below ((Below.refl wr.heap.size wr).alloc (Nat.le_refl _) (.cells #[.bool q.store, .int .i64 q.op, .int .i64 q.addr, .int .i64 q.size, .int .u32 q.val, .int .i64 0, .int .i64 q.reg, .int .i64 q.tag] 54)))
          have LFA := Lib.hid (LF.out.below ((Below.refl wr.heap.size wr).alloc (Nat.le_refl _) (.cells #[.bool q.store, .int .i64 q.op, .int .i64 q.addr, .int .i64 q.size, .int .u32 q.val, .int .i64 0, .int .i64 q.reg, .int .i64 q.tag] 54)))
          have HDN := Lib.hid (refDone_any X.1 v2 { q with left := 0 } (w.heap.size + 4) (wr.alloc (.cells #[.bool q.store, .int .i64 q.op, .int .i64 q.addr, .int .i64 q.size, .int .u32 q.val, .int .i64 0, .int .i64 q.reg, .int .i64 q.tag] 54)) LIM.out.ok STA.out.own (by have := STA.out.lt; omega) (LIM.out.few (by omega)) LIM.out.bytes ⟨HQF.out.1, HQF.out.2.1, HQF.out.2.2.1, HQF.out.2.2.2.1, by show (-9223372036854775808 : Int) ≤ 0 ∧ (0 : Int) ≤ 9223372036854775807; omega, HQF.out.2.2.2.2.2⟩)
          have HOKX := Lib.hid LIM.out.ok
          have HOKD := Lib.hid (done_ok { q with left := 0 } LIM.out.ok)
          have HTK := Lib.hid (tick_done (p := X) hone)
          have hq1 : q.left - 1 = 0 := by omega
          clear hlen
          rw [hone] at d5
          clear hpos hone hq1
          go_wp2_with (first
            | (refine wpList_load_box rfl 44 (.tmp 5) rfl (w.heap.size + 2) 0 rfl (staL X.1 v2) (staL X.1 v2) STA.out.bx (fun j u hu => by rw [Nat.zero_add]; exact hu) _ Try.underlying44 rfl 92 sta_size (staL_len HOKX.out) ?_))
          refine HDN.out.mono ?_
          rintro e y4 ⟨v4, rfl, o4, k4, e4⟩
          have O4 := Lib.hid o4
          have K4 := Lib.hid k4
          have E4 := Lib.hid e4
          have BX4 := Lib.hid (STA.out.called k4)
          have LF4 := Lib.hid (LFA.out.called STA.out k4)
          clear o4 k4 e4
          go_wp2_with (first
            | (refine wpList_store_box rfl 44 (.tmp 5) (.tmp 53) rfl (w.heap.size + 2) 0 (staL (doneZ X.1 { q with left := 0 }) v4) rfl rfl (staL X.1 v2) BX4.out (by rw [staL_len HOKX.out, staL_len HOKD.out]; exact Nat.le_refl _) 92 sta_size (staL_len HOKD.out) O4.out.one ?_; intro y5 hb5 hg5; rw [splice_whole _ _ (by rw [staL_len HOKX.out, staL_len HOKD.out])] at hb5; have ST5 := Lib.hid (STA.out.done K4.out O4.out E4.out hb5 hg5); have LF5 := Lib.hid (LF4.out.put hg5); clear hb5 hg5))
          go_roundw
          case rel =>
            refine ⟨j + 1, by omega, by go_num, ⟨v4, ?_⟩, ?_⟩
            · rw [HTS.out, HTK.out]; exact ST5.out
            · rw [HTS.out, HTK.out]; exact LF5.out
          case measure => simp [intOf]; omega
        · have HTK := Lib.hid (tick_less (p := X) hpos hone)
          have hne : (q.left - 1 == 0) = false := by rw [beq_eq_false_iff_ne]; omega
          have hb1 : -9223372036854775808 ≤ q.left - 1 := by omega
          have hb2 : q.left ≤ 9223372036854775807 := HQF.out.2.2.2.2.1.2
          have hlt4 := ST.out.lt
          have STA := Lib.hid ((ST.out.below ((Below.refl wr.heap.size wr).alloc (Nat.le_refl _) (.cells #[.bool q.store, .int .i64 q.op, .int .i64 q.addr, .int .i64 q.size, .int .u32 q.val, .int .i64 (q.left - 1), .int .i64 q.reg, .int .i64 q.tag] 54))).below ((Below.refl _ _).alloc (Nat.le_refl _) (.cells #[.bool q.store, .int .i64 q.op, .int .i64 q.addr, .int .i64 q.size, .int .u32 q.val, .int .i64 (q.left - 1), .int .i64 q.reg, .int .i64 q.tag] 54)))
          have LFA := Lib.hid ((LF.out.below ((Below.refl wr.heap.size wr).alloc (Nat.le_refl _) (.cells #[.bool q.store, .int .i64 q.op, .int .i64 q.addr, .int .i64 q.size, .int .u32 q.val, .int .i64 (q.left - 1), .int .i64 q.reg, .int .i64 q.tag] 54))).below ((Below.refl _ _).alloc (Nat.le_refl _) (.cells #[.bool q.store, .int .i64 q.op, .int .i64 q.addr, .int .i64 q.size, .int .u32 q.val, .int .i64 (q.left - 1), .int .i64 q.reg, .int .i64 q.tag] 54)))
          have RN : Hid (Row ((wr.alloc (.cells #[.bool q.store, .int .i64 q.op, .int .i64 q.addr, .int .i64 q.size, .int .u32 q.val, .int .i64 (q.left - 1), .int .i64 q.reg, .int .i64 q.tag] 54)).alloc (.cells #[.bool q.store, .int .i64 q.op, .int .i64 q.addr, .int .i64 q.size, .int .u32 q.val, .int .i64 (q.left - 1), .int .i64 q.reg, .int .i64 q.tag] 54)) (wr.heap.size + 2) 8 (.slice (some ⟨wr.heap.size + 1, 0, none⟩) 1 1) 1 (rqsL { q with left := q.left - 1 })) := by
            have h9 := row_new (wr.alloc (.cells #[.bool q.store, .int .i64 q.op, .int .i64 q.addr, .int .i64 q.size, .int .u32 q.val, .int .i64 (q.left - 1), .int .i64 q.reg, .int .i64 q.tag] 54)) (rqsL { q with left := q.left - 1 }) 8 rfl (by omega) 54
            have h10 : (wr.alloc (.cells #[.bool q.store, .int .i64 q.op, .int .i64 q.addr, .int .i64 q.size, .int .u32 q.val, .int .i64 (q.left - 1), .int .i64 q.reg, .int .i64 q.tag] 54)).heap.size = wr.heap.size + 1 := by simp
            rw [h10] at h9
            exact h9
          have HLE := Lib.hid hlen
          go_wp2_with (first
            | (refine wpList_append_new _ rfl (.tmp 54) (.tmp 56) 38 rfl (w.heap.size + 4) 54 ir _ 8 64 Try.underlying38 HIr.out HAr.out HBr.out HCr.out rfl (by omega) (.slice Au X.2.length cu) X.2.length (flat rqsL X.2) rfl LFA.out.own _ (.slice (some ⟨wr.heap.size + 1, 0, none⟩) 1 1) 1 (rqsL { q with left := q.left - 1 }) rfl RN.out (rqsL_one _) (by unfold maxLen; have := HLE.out; omega) (by have := HLE.out; omega) (by simp; omega) ?_; intro u2 w2 hO hg hn2; obtain ⟨Av, cv, rfl⟩ := (Row.of_own hO).form; have ST2 := Lib.hid (STA.out.grew LFA.out hg); have LF2 := Lib.hid (LFA.out.grew STA.out (l' := X.2 ++ [{ q with left := q.left - 1 }]) (by rw [List.length_append, flat_snoc]; exact hO) hn2); clear hO hg hn2))
          go_roundw
          case rel =>
            refine ⟨j + 1, by omega, by go_num, ⟨v2, ?_⟩, ?_⟩
            · rw [HTS.out, HTK.out]; exact ST2.out
            · rw [HTS.out, HTK.out]; exact LF2.out
          case measure => simp [intOf]; omega
      · have HTK := Lib.hid (tick_wait (p := X) hpos)
        have hlt4 := ST.out.lt
        have STA := Lib.hid ((ST.out.below ((Below.refl wr.heap.size wr).alloc (Nat.le_refl _) (.cells #[.bool q.store, .int .i64 q.op, .int .i64 q.addr, .int .i64 q.size, .int .u32 q.val, .int .i64 q.left, .int .i64 q.reg, .int .i64 q.tag] 54))).below ((Below.refl _ _).alloc (Nat.le_refl _) (.cells #[.bool q.store, .int .i64 q.op, .int .i64 q.addr, .int .i64 q.size, .int .u32 q.val, .int .i64 q.left, .int .i64 q.reg, .int .i64 q.tag] 54)))
        have LFA := Lib.hid ((LF.out.below ((Below.refl wr.heap.size wr).alloc (Nat.le_refl _) (.cells #[.bool q.store, .int .i64 q.op, .int .i64 q.addr, .int .i64 q.size, .int .u32 q.val, .int .i64 q.left, .int .i64 q.reg, .int .i64 q.tag] 54))).below ((Below.refl _ _).alloc (Nat.le_refl _) (.cells #[.bool q.store, .int .i64 q.op, .int .i64 q.addr, .int .i64 q.size, .int .u32 q.val, .int .i64 q.left, .int .i64 q.reg, .int .i64 q.tag] 54)))
        have RN : Hid (Row ((wr.alloc (.cells #[.bool q.store, .int .i64 q.op, .int .i64 q.addr, .int .i64 q.size, .int .u32 q.val, .int .i64 q.left, .int .i64 q.reg, .int .i64 q.tag] 54)).alloc (.cells #[.bool q.store, .int .i64 q.op, .int .i64 q.addr, .int .i64 q.size, .int .u32 q.val, .int .i64 q.left, .int .i64 q.reg, .int .i64 q.tag] 54)) (wr.heap.size + 2) 8 (.slice (some ⟨wr.heap.size + 1, 0, none⟩) 1 1) 1 (rqsL q)) := by
          have h9 := row_new (wr.alloc (.cells #[.bool q.store, .int .i64 q.op, .int .i64 q.addr, .int .i64 q.size, .int .u32 q.val, .int .i64 q.left, .int .i64 q.reg, .int .i64 q.tag] 54)) (rqsL q) 8 rfl (by omega) 54
          have h10 : (wr.alloc (.cells #[.bool q.store, .int .i64 q.op, .int .i64 q.addr, .int .i64 q.size, .int .u32 q.val, .int .i64 q.left, .int .i64 q.reg, .int .i64 q.tag] 54)).heap.size = wr.heap.size + 1 := by simp
          rw [h10] at h9
          exact h9
        have HLE := Lib.hid hlen
        go_wp2_with (first
          | (refine wpList_append_new _ rfl (.tmp 54) (.tmp 56) 38 rfl (w.heap.size + 4) 54 ir _ 8 64 Try.underlying38 HIr.out HAr.out HBr.out HCr.out rfl (by omega) (.slice Au X.2.length cu) X.2.length (flat rqsL X.2) rfl LFA.out.own _ (.slice (some ⟨wr.heap.size + 1, 0, none⟩) 1 1) 1 (rqsL q) rfl RN.out (rqsL_one _) (by unfold maxLen; have := HLE.out; omega) (by have := HLE.out; omega) (by simp; omega) ?_; intro u2 w2 hO hg hn2; obtain ⟨Av, cv, rfl⟩ := (Row.of_own hO).form; have ST2 := Lib.hid (STA.out.grew LFA.out hg); have LF2 := Lib.hid (LFA.out.grew STA.out (l' := X.2 ++ [q]) (by rw [List.length_append, flat_snoc]; exact hO) hn2); clear hO hg hn2))
        go_roundw
        case rel =>
          refine ⟨j + 1, by omega, by go_num, ⟨v2, ?_⟩, ?_⟩
          · rw [HTS.out, HTK.out]; exact ST2.out
          · rw [HTS.out, HTK.out]; exact LF2.out
        case measure => simp [intOf]; omega
    · have hjn : j = n := by omega
      have hTT : X = ticksZ x x.table := by rw [HXX.out, hjn, HN.out, List.take_length]
      have HFT := Lib.hid (fun y hy => ticks_fits (x := x) HQ.out y (by rw [← hTT]; exact hy))
      have HXT := Lib.hid hTT
      have HCB := Lib.hid h1
      have hbk : 1 ≤ c.banks ∧ c.banks ≤ 16 := by simpa [withinB] using h1
      have hlk : 1 ≤ c.lat ∧ c.lat ≤ 1000 := by simpa [withinB] using h2
      obtain ⟨m, hm⟩ : ∃ m, m = X.2.length := ⟨_, rfl⟩
      have hm2 : m ≤ 100000 := by omega
      have LF0 : Hid (LefS w (.slice A9 n c9) (.slice Au m cu) X.2 wr) := by rw [hm]; exact LF.out
      rw [← hm]
      have HMM := Lib.hid hm
      have z1 := ST.out.bc.cell (k := 6) rfl
      obtain ⟨ii, hii, q0, q1, q2⟩ := parts_int
      have HIi := Lib.hid hii
      have HAi := Lib.hid q0
      have HBi := Lib.hid q1
      have HCi := Lib.hid q2
      clear hii q0 q1 q2 hm hTT hlen hjn LF h1 h2
      go_wp2_with fail
      go_loopw [11] (fun ib wb => ∃ b : Nat, (b : Int) ≤ c.banks ∧ ib = .int .i64 b ∧ (∃ v, AvS w c (.slice A lats.length ca) (.slice B picks.length cb) Z (.slice A9 n c9) (beginsZ c lats picks X b).1 v wb) ∧ LefS w (.slice A9 n c9) (.slice Au m cu) (beginsZ c lats picks X b).2 wb) (fun ib _ => (c.banks - intOf ib).toNat)
      case atStart => exact ⟨0, by omega, rfl, ⟨v2, ST.out⟩, LF0.out⟩
      case round =>
        obtain ⟨b, hb, rfl, ⟨v3, hst3⟩, hlf3⟩ := hrel
        have hyl := begins_len c lats picks X b
        have hyf := begins_fits (c := c) (lats := lats) (picks := picks) (p := X) hlk.2 HFT.out b
        have hyo := begins_ok (c := c) (lats := lats) (picks := picks) (p := X) LIM.out.ok b
        have hnx : beginsZ c lats picks X (b + 1) = beginZ c lats picks (beginsZ c lats picks X b) b := rfl
        obtain ⟨Y, hY⟩ : ∃ Y, Y = beginsZ c lats picks X b := ⟨_, rfl⟩
        rw [← hY] at hst3 hlf3 hyl hyf hyo hnx
        rw [← HMM.out] at hyl
        have HYY := Lib.hid hY
        have HNX := Lib.hid hnx
        have S3 := Lib.hid hst3
        have L3 := Lib.hid hlf3
        have HYL := Lib.hid hyl
        have HYF := Lib.hid hyf
        have HYO := Lib.hid hyo
        have z3 := hst3.bc.cell (k := 6) (v := .int .i64 c.banks) rfl
        have hl3 := hst3.lt
        clear hY hst3 hlf3 hyl hyf hyo hnx
        obtain ⟨wb, hwb⟩ : ∃ wb, wb = wr := ⟨_, rfl⟩
        rw [← hwb] at S3 L3 z3 hl3 ⊢
        clear hwb
        by_cases hbb : (b : Int) < c.banks
        · have kb0 : (0 : Int) ≤ b := by omega
          go_wp2_with fail
          go_loopw [12, 13, 14] (fun vb vw vi wq => ∃ i : Nat, i ≤ m ∧ vi = .int .i64 i ∧ vb = .bool (busyTo c.banks b Y.2 i) ∧ wq.ownsRow wb.heap.size 3 1 vw (waitTo c.banks b Y.2 i).length (natV (waitTo c.banks b Y.2 i)) ∧ Below wb.heap.size wb wq) (fun _ _ vi _ => m - (intOf vi).toNat)
          case atStart => exact ⟨0, Nat.zero_le _, rfl, by rw [show busyTo c.banks b Y.2 0 = false by simp [busyTo, busyZ]], by rw [show waitTo c.banks b Y.2 0 = [] from rfl]; exact World.ownsRow_nil _ _ _ _, Below.refl _ _⟩
          case round =>
            obtain ⟨i, hi, rfl, rfl, hO, hB⟩ := hrel
            have hwl := waitTo_len c.banks b Y.2 i
            have HBT := Lib.hid (fun q (h : Y.2[i]? = some q) => busyTo_step (n := c.banks) (b := b) h)
            have HWT := Lib.hid (fun q (h : Y.2[i]? = some q) => waitTo_step (n := c.banks) (b := b) h)
            obtain ⟨bz, hbz⟩ : ∃ bz, bz = busyTo c.banks b Y.2 i := ⟨_, rfl⟩
            obtain ⟨wz, hwz⟩ : ∃ wz, wz = waitTo c.banks b Y.2 i := ⟨_, rfl⟩
            rw [← hbz] at HBT ⊢
            rw [← hwz] at hO hwl HWT
            have HBZ := Lib.hid hbz
            have HWZ := Lib.hid hwz
            have O5 := Lib.hid hO
            have B5 := Lib.hid hB
            obtain ⟨Aw, cw, rfl⟩ := (Row.of_own hO).form
            have hsz5 := hB.size
            clear hbz hwz hO hB
            by_cases hil : i < m
            · obtain ⟨q, hq⟩ : ∃ q, Y.2[i]? = some q := ⟨_, List.getElem?_eq_getElem (by rw [HYL.out]; exact hil)⟩
              have hqf := HYF.out q (List.mem_of_getElem? hq)
              have hrow := Row.of_own (L3.out.below B5.out).own
              rw [HYL.out] at hrow
              obtain ⟨g5, o5, rfl, hg5, _⟩ := hrow.at_ (by omega)
              obtain ⟨d0, d1, d2, d3, d4, d5, d6, d7⟩ := hrow.rqs hq
              have z5 := (S3.out.below B5.out).bc.cell (k := 6) (v := .int .i64 c.banks) rfl
              have hb1 := HBT.out q hq
              have hw1 := HWT.out q hq
              have hcf : -9223372036854775808 ≤ c.banks ∧ c.banks ≤ 9223372036854775807 := by omega
              have haf := hqf.2.1
              have k0 : (0 : Int) ≤ i := by omega
              have k1 : (i : Int) < m := by omega
              clear hrow hq d0 d1 d3 d4 d6 d7 z1 z3
              cases hbk2 : (bankZ q.addr c.banks == (b : Int))
              · have hab : atBank c.banks b q = false := decide_eq_false (by simpa using hbk2)
                rw [hab] at hb1
                simp only [Bool.false_and, Bool.or_false] at hb1
                rw [show waitB c.banks b q = false by unfold waitB; rw [hab]; rfl] at hw1
                simp only [Bool.false_eq_true, if_false, List.append_nil] at hw1
                have HB1 := Lib.hid hb1
                have HW1 := Lib.hid hw1
                clear hb1 hw1 hab
                go_wp2_with fail
                go_quiet ((go_at_call 11; refine quiet_mine17 (refBank_any _ _ _ haf hcf)))
                go_wp2_with fail
                go_roundw
                case rel => exact ⟨i + 1, by omega, by go_num, by rw [HB1.out], by rw [HW1.out]; exact own_below O5.out (Below.drewN_ (Below.refl _ _) _), Below.drewN_ B5.out _⟩
                case measure => simp [intOf]; omega
              · have hab : atBank c.banks b q = true := decide_eq_true (by simpa using hbk2)
                rw [hab] at hb1
                simp only [Bool.true_and] at hb1
                have hwb : waitB c.banks b q = decide (q.left = 0) := by unfold waitB; rw [hab]; rfl
                rw [hwb] at hw1
                clear hab hwb
                by_cases hpos : 0 < q.left
                · rw [decide_eq_true hpos, Bool.or_true] at hb1
                  rw [if_neg (by simp; omega), List.append_nil] at hw1
                  have hl0 : (q.left == 0) = false := by rw [beq_eq_false_iff_ne]; omega
                  have HB1 := Lib.hid hb1
                  have HW1 := Lib.hid hw1
                  clear hb1 hw1
                  go_wp2_with fail
                  go_quiet ((go_at_call 11; refine quiet_mine17 (refBank_any _ _ _ haf hcf)))
                  go_wp2_with fail
                  go_roundw
                  case rel => exact ⟨i + 1, by omega, by go_num, by rw [HB1.out], by rw [HW1.out]; exact own_below O5.out (Below.drewN_ (Below.refl _ _) _), Below.drewN_ B5.out _⟩
                  case measure => simp [intOf]; omega
                · rw [decide_eq_false hpos, Bool.or_false] at hb1
                  by_cases hz : q.left = 0
                  · rw [if_pos (by simp [hz])] at hw1
                    have hl0 : (q.left == 0) = true := by simpa using hz
                    have HB1 := Lib.hid hb1
                    have HW1 := Lib.hid hw1
                    have HWL := Lib.hid hwl
                    rw [hz] at d5
                    clear hb1 hw1 hz hl0 hpos hwl
                    go_wp2_with fail
                    go_quiet ((go_at_call 11; refine quiet_mine17 (refBank_any _ _ _ haf hcf)))
                    have hd : Below wr.heap.size wr (wr.drewN nq) := Below.drewN_ (Below.refl _ _) _
                    have O6 := Lib.hid (own_below (own_below O5.out hd) ((Below.refl (wr.drewN nq).heap.size (wr.drewN nq)).alloc (Nat.le_refl _) (.cells #[.int .i64 i] 3)))
                    have B6 := Lib.hid ((Below.drewN_ B5.out nq).alloc (Below.drewN_ B5.out nq).size (.cells #[.int .i64 i] 3))
                    have R6 := Lib.hid (row_new (wr.drewN nq) [.int .i64 i] 1 rfl (by omega) 3)
                    clear hd
                    go_wp2_with (first
                      | (refine wpList_append_new _ rfl (.tmp 92) (.tmp 94) 24 rfl wb.heap.size 3 ii _ 1 8 Try.underlying24 HIi.out HAi.out HBi.out HCi.out rfl (by omega) (.slice Aw wz.length cw) wz.length (natV wz) rfl O6.out _ (.slice (some ⟨wr.heap.size, 0, none⟩) 1 1) 1 [.int .i64 i] rfl R6.out (by simp [Value.oneCell']) (by unfold maxLen; have := HWL.out; omega) (by have := HWL.out; omega) (by simp; omega) ?_; intro u6 w6 hO hg hn2; obtain ⟨Ax, cx, rfl⟩ := (Row.of_own hO).form; have O7 := Lib.hid hO; have B7 : Hid (Below wb.heap.size wb w6) := Below.grown B6.out hg B6.out.size (fun q hq => (O6.out.lt q hq).1); clear hO hg hn2))
                    go_roundw
                    case rel => exact ⟨i + 1, by omega, by go_num, by rw [HB1.out], by rw [HW1.out, List.length_append, ← natV_app]; exact O7.out, B7.out⟩
                    case measure => simp [intOf]; omega
                  · rw [if_neg (by simp [hz]), List.append_nil] at hw1
                    have hl0 : (q.left == 0) = false := by rw [beq_eq_false_iff_ne]; exact hz
                    have HB1 := Lib.hid hb1
                    have HW1 := Lib.hid hw1
                    clear hb1 hw1
                    go_wp2_with fail
                    go_quiet ((go_at_call 11; refine quiet_mine17 (refBank_any _ _ _ haf hcf)))
                    go_wp2_with fail
                    go_roundw
                    case rel => exact ⟨i + 1, by omega, by go_num, by rw [HB1.out], by rw [HW1.out]; exact own_below O5.out (Below.drewN_ (Below.refl _ _) _), Below.drewN_ B5.out _⟩
                    case measure => simp [intOf]; omega
            · have him : i = m := by omega
              have hbf : busyZ c.banks b Y.2 = bz := by rw [busy_all, HYL.out, ← him, HBZ.out]
              have hwf : waitZ c.banks b Y.2 = wz := by rw [wait_all, HYL.out, ← him, HWZ.out]
              have HBF := Lib.hid hbf
              have HWF := Lib.hid hwf
              have S5 := Lib.hid (S3.out.below B5.out)
              have L5 := Lib.hid (L3.out.below B5.out)
              have HWM := Lib.hid (fun k (h : k ∈ wz) => waitTo_mem (by rw [← HWZ.out]; exact h))
              have HNY := Lib.hid (begins_num (c := c) (lats := lats) (picks := picks) (p := X) (by rw [HXT.out]; exact ticks_num _ HNUM.out) b)
              have hnb : b + 1 ≤ c.banks.toNat := by omega
              clear hbf hwf him hwl
              rw [← HYY.out] at HNY
              cases bz with
              | true =>
                have HSK := Lib.hid (HNX.out.trans (begin_skip (.inl HBF.out)))
                go_wp2_with fail
                go_roundw
                case rel => exact ⟨b + 1, by omega, by go_num, ⟨v3, by rw [HSK.out]; exact S5.out⟩, by rw [HSK.out]; exact L5.out⟩
                case measure => simp [intOf]; omega
              | false =>
                cases wz with
                | nil =>
                  have HSK := Lib.hid (HNX.out.trans (begin_skip (.inr (by rw [HWF.out]; rfl))))
                  go_wp2_with fail
                  go_roundw
                  case rel => exact ⟨b + 1, by omega, by go_num, ⟨v3, by rw [HSK.out]; exact S5.out⟩, by rw [HSK.out]; exact L5.out⟩
                  case measure => simp [intOf]; omega
                | cons p0 ps =>
                  obtain ⟨gw, kw, hvw, hgw0, hgw1⟩ := own_form O5.out (by simp)
                  injection hvw with hAw _ hCw
                  subst hAw hCw
                  obtain ⟨hp0, qp0, hq0, _⟩ := HWM.out p0 (by simp)
                  have ho5 := L5.out.own
                  rw [HYL.out] at ho5
                  obtain ⟨g5, c5, hv5, hg50, hg51⟩ := own_form ho5 (by omega)
                  clear ho5
                  have hg5b := (L3.out.own.lt g5 (by rw [(Value.slice.inj hv5).1]; rfl)).2
                  injection hv5 with hA5 _ hC5
                  subst hA5 hC5
                  have HOKY := Lib.hid HYO.out
                  cases ps with
                  | nil =>
                    obtain ⟨p, hpe⟩ : ∃ p, p = p0 := ⟨_, rfl⟩
                    rw [← hpe] at hp0 hq0 O5 HWF
                    clear hpe
                    have hgw : wr.cell? ⟨gw, 0, none⟩ = some (.int .i64 p) := by
                      have h9 := (Row.of_own O5.out).cells _ rfl 0 _ (natV_at (l := [p]) (k := 0) (by simp))
                      rw [add_spot] at h9
                      exact h9
                    have hgw2 : ¬ gw = g5 := by omega
                    have HQP := Lib.hid hq0
                    have hg7 : g5 < wr.heap.size := hg51
                    have HBN := Lib.hid (begin_one (c := c) (lats := lats) (picks := picks) (p := Y) HBF.out HWF.out)
                    clear hq0
                    have hbw := S5.out.lt
                    have kp0 : (0 : Int) ≤ p := by omega
                    have kp1 : (p : Int) < m := by omega
                    have HF1 := Lib.hid (fun (y : World) (h : KeepS (fun j => j = g5) wr y) => h.cell hgw1 hgw2 hgw)
                    have HF2 := Lib.hid (fun (y : World) (h : KeepS (fun j => j = g5) wr y) => h.cell (b := w.heap.size + 1) (by omega) (by omega) (S5.out.bs.cell (k := 0) (v := .slice A lats.length ca) rfl))
                    have HF3 := Lib.hid (fun (y : World) (h : KeepS (fun j => j = g5) wr y) => h.cell (b := w.heap.size + 1) (by omega) (by omega) (S5.out.bs.cell (k := 1) (v := .slice B picks.length cb) rfl))
                    have HF4 := Lib.hid (fun (y : World) (h : KeepS (fun j => j = g5) wr y) => h.cell (b := w.heap.size + 2) (by omega) (by omega) (show wr.cell? ⟨w.heap.size + 2, 89, none⟩ = some (.int .i64 Y.1.lats) from S5.out.bx.cell (sta_lats HOKY.out)))
                    have HF5 := Lib.hid (fun (y : World) (h : KeepS (fun j => j = g5) wr y) => h.cell (b := w.heap.size) (by omega) (by omega) (S5.out.bc.cell (k := 9) (v := .int .i64 c.lat) rfl))
                    have hS0 : KeepS (fun j => j = g5) wr wr.drew := (KeepS.refl _ _).drew
                    have SD := Lib.hid (S5.out.below (Below.refl _ _).drew)
                    have LD := Lib.hid (L5.out.below (Below.refl _ _).drew)
                    go_wp2_with fail
                    refine wp_region_lin [(0, true), (1, true), (2, true), (3, true), (4, true), (5, true), (6, true), (7, true), (8, true), (9, true), (10, false), (11, true), (12, true), (13, false)]
                      (by kernel_rfl) (by kernel_rfl) rfl (by kernel_rfl) (fun y : World => KeepS (fun j => j = g5) wr y) ?_
                    simp only [List.map_cons, List.map_nil, List.getElem?_toArray, List.getElem?_cons_succ, List.getElem?_cons_zero]
                    obtain ⟨Wd, hWd⟩ : ∃ Wd, Wd = wr.drew := ⟨_, rfl⟩
                    rw [← hWd] at hS0 SD LD ⊢
                    clear hWd
                    iterate 10 (refine lin_take (v := ?_) hS0 (by rfl) ?_ ?_; rotate_left; (intro y hy; have q1 := HF1.out y hy; have q2 := HF2.out y hy; have q3 := HF3.out y hy; have q4 := HF4.out y hy; have q5 := HF5.out y hy; go_simp; try (with_reducible rfl)); (try simp only [Act.put, List.setIfInBounds_toArray, List.set_cons_zero, List.set_cons_succ]))
                    refine lin_call hS0 (by rfl) (fun K hK => ?_)
                    go_simp
                    refine (refLat_any A B ca cb lats.length picks.length lats picks Y.1.lats c.lat Wd rfl ((HL.out.below SD.out.bl).more SD.out.bl.size) HNY.out.1 (by omega)).mono ?_
                    rintro e y9 ⟨rfl, b9⟩
                    have hS1 : KeepS (fun j => j = g5) wr y9 := hS0.trans (KeepS.of_below b9)
                    have S9 := Lib.hid (SD.out.below b9)
                    have L9 := Lib.hid (LD.out.below b9)
                    clear b9
                    go_wp2_with fail
                    refine hK.out _ _ hS1 (fun _ => ?_)
                    clear hK K hS0
                    try simp only [Act.put, List.setIfInBounds_toArray, List.set_cons_zero, List.set_cons_succ]
                    iterate 2 (refine lin_take (v := ?_) hS1 (by rfl) ?_ ?_; rotate_left; (intro y hy; go_simp; try (with_reducible rfl)); (try simp only [Act.put, List.setIfInBounds_toArray, List.set_cons_zero, List.set_cons_succ]))
                    have hrow9 := Row.of_own L9.out.own
                    rw [HYL.out] at hrow9
                    have c9x := (hrow9.rqs HQP.out).2.2.2.2.2.1
                    rw [Nat.zero_add] at c9x
                    have f9x := own_thaw (by have h9 := L9.out.own; rw [HYL.out] at h9; exact h9) (p * 8 + 5)
                    refine lin_set_cell hS1 (by rfl) 3 (.tmp 127) (.tmp 125) rfl g5 (p * 8 + 5) (.int .i64 (latsZ lats Y.1.lats c.lat)) _ (by go_simp) (by go_simp) rfl c9x f9x (by kernel_rfl) (hS1.setCell rfl _ _) ?_
                    have S10 := Lib.hid (S9.out.grew L9.out (grown_setCell y9 g5 (p * 8 + 5) (.int .i64 (latsZ lats Y.1.lats c.lat)) (Nat.lt_of_lt_of_le hg7 hS1.size)))
                    have L10 := Lib.hid (L9.out.mark HYL.out HQP.out (setLeft_at (latsZ lats Y.1.lats c.lat) HQP.out))
                    obtain ⟨y10, hy10⟩ : ∃ y10, y10 = y9.setCell ⟨g5, p * 8 + 5, none⟩ (.int .i64 (latsZ lats Y.1.lats c.lat)) := ⟨_, rfl⟩
                    rw [← hy10] at S10 L10 ⊢
                    clear hy10 c9x f9x hrow9 hS1
                    try simp only [Act.put, List.setIfInBounds_toArray, List.set_cons_zero, List.set_cons_succ]
                    refine lin_done ?_
                    have t9 : y10.cell? ⟨w.heap.size + 2, 89, none⟩ = some (.int .i64 Y.1.lats) := S10.out.bx.cell (sta_lats HOKY.out)
                    have hz10 := S10.out.bx.lt
                    go_wp2_with (first
                      | (refine wpList_put_cell rfl 3 _ _ rfl (w.heap.size + 2) 89 (.int .i64 (wrap64 (Y.1.lats + 1))) rfl rfl rfl _ S10.out.bx (by rw [staL_len HOKY.out]; omega) (by kernel_rfl) ?_; intro y11 hbx hg; rw [set_lats HOKY.out] at hbx; have S11 := Lib.hid (S10.out.put hbx hg (own_same S10.out.own rfl rfl rfl rfl rfl rfl rfl rfl rfl) S10.out.tb); have L11 := Lib.hid (L10.out.put hg); clear hbx hg))
                    go_roundw
                    case rel => exact ⟨b + 1, by omega, by go_num, ⟨v3, by rw [HNX.out, HBN.out]; exact S11.out⟩, by rw [HNX.out, HBN.out]; exact L11.out⟩
                    case measure => simp [intOf]; omega
                  | cons p1 ps =>
                    obtain ⟨wz, hwz⟩ : ∃ wz, wz = p0 :: p1 :: ps := ⟨_, rfl⟩
                    rw [← hwz] at O5 HWF HWM ⊢
                    obtain ⟨wn, hwn⟩ : ∃ wn, wn = wz.length := ⟨_, rfl⟩
                    have hwn1 : 1 < wn := by rw [hwn, hwz]; simp
                    have hwnm : wn ≤ m := by
                      have h9 := waitTo_len c.banks b Y.2 Y.2.length
                      rw [← wait_all, HWF.out, ← hwn, HYL.out] at h9
                      exact h9
                    obtain ⟨k, hk⟩ : ∃ k : Nat, pickZ picks Y.1.picks wn = k := ⟨(pickZ picks Y.1.picks wn).toNat, by have := (pickZ_range picks Y.1.picks wn (by omega)).1; omega⟩
                    have hkn : k < wn := by have := (pickZ_range picks Y.1.picks wn (by omega)).2; omega
                    obtain ⟨p, hpe⟩ : ∃ p, p = wz.getD k 0 := ⟨_, rfl⟩
                    have hpm : p ∈ wz := by rw [hpe, List.getD_eq_getElem?_getD, List.getElem?_eq_getElem (by omega)]; exact List.getElem_mem _
                    obtain ⟨hp0, qp, hq0, _⟩ := HWM.out p hpm
                    have HQP := Lib.hid hq0
                    have HBN := Lib.hid (begin_more (c := c) (lats := lats) (picks := picks) (p := Y) HBF.out HWF.out (by omega) (by rw [← hwn]; exact hk))
                    rw [← hpe] at HBN
                    have HPE := Lib.hid hpe
                    rw [← hwn] at O5 ⊢
                    have HWN := Lib.hid hwn
                    have HKK := Lib.hid hk
                    have z0 := S5.out.bs.cell (k := 0) (v := .slice A lats.length ca) rfl
                    have z1 := S5.out.bs.cell (k := 1) (v := .slice B picks.length cb) rfl
                    have z2 := S5.out.bx.cell (sta_picks HOKY.out)
                    have kw1 : (1 : Int) < wn := by omega
                    clear hwz hwn hpe hpm hq0 hk HWM
                    go_wp2_with fail
                    refine (refPick_any A B ca cb lats.length picks.length lats picks Y.1.picks wn wr rfl ((HP.out.below S5.out.bl).more S5.out.bl.size) HNY.out.2 (by omega)).mono ?_
                    rintro e y6 ⟨rfl, b6⟩
                    rw [HKK.out]
                    have S6 := Lib.hid (S5.out.below b6)
                    have L6 := Lib.hid (L5.out.below b6)
                    have O6 := Lib.hid (own_below O5.out b6)
                    have t6 := S6.out.bx.cell (sta_picks HOKY.out)
                    have hz6 := S6.out.bx.lt
                    have hsz6 := b6.size
                    clear b6 z0 z1 z2
                    have HOKP : Hid (Sta.Ok { Y.1 with picks := wrap64 (Y.1.picks + 1) }) := ⟨HOKY.out.a, HOKY.out.e⟩
                    go_wp2_with (first
                      | (refine wpList_put_cell rfl 3 _ _ rfl (w.heap.size + 2) 90 (.int .i64 (wrap64 (Y.1.picks + 1))) rfl rfl rfl _ S6.out.bx (by rw [staL_len HOKY.out]; omega) (by kernel_rfl) ?_; intro y7 hbx hg; rw [set_picks HOKY.out] at hbx; have S7 := Lib.hid (S6.out.put hbx hg (own_same S6.out.own rfl rfl rfl rfl rfl rfl rfl rfl rfl) S6.out.tb); have L7 := Lib.hid (L6.out.put hg); have O7 := Lib.hid (own_step O6.out hg (by omega)); have hgs := hg.size; clear hbx hg))
                    have hgw : y7.cell? ⟨gw, k, none⟩ = some (.int .i64 p) := by
                      have h9 := (Row.of_own O7.out).cells _ rfl k _ (natV_at (l := wz) (k := k) (by rw [← HWN.out]; exact hkn))
                      rw [add_spot, Nat.zero_add, ← HPE.out] at h9
                      exact h9
                    have hgw3 : gw < y7.heap.size := by omega
                    have hgw2 : ¬ gw = g5 := by omega
                    have hg7 : g5 < y7.heap.size := by omega
                    have kq0 : (0 : Int) ≤ k := by omega
                    have kq1 : (k : Int) < wn := by omega
                    clear t6
                    have hbw := S7.out.lt
                    have kp0 : (0 : Int) ≤ p := by omega
                    have kp1 : (p : Int) < m := by omega
                    have HF1 := Lib.hid (fun (y : World) (h : KeepS (fun j => j = g5) y7 y) => h.cell hgw3 hgw2 hgw)
                    have HF2 := Lib.hid (fun (y : World) (h : KeepS (fun j => j = g5) y7 y) => h.cell (b := w.heap.size + 1) (by omega) (by omega) (S7.out.bs.cell (k := 0) (v := .slice A lats.length ca) rfl))
                    have HF3 := Lib.hid (fun (y : World) (h : KeepS (fun j => j = g5) y7 y) => h.cell (b := w.heap.size + 1) (by omega) (by omega) (S7.out.bs.cell (k := 1) (v := .slice B picks.length cb) rfl))
                    have HF4 := Lib.hid (fun (y : World) (h : KeepS (fun j => j = g5) y7 y) => h.cell (b := w.heap.size + 2) (by omega) (by omega) (show y7.cell? ⟨w.heap.size + 2, 89, none⟩ = some (.int .i64 Y.1.lats) from S7.out.bx.cell (sta_lats HOKP.out)))
                    have HF5 := Lib.hid (fun (y : World) (h : KeepS (fun j => j = g5) y7 y) => h.cell (b := w.heap.size) (by omega) (by omega) (S7.out.bc.cell (k := 9) (v := .int .i64 c.lat) rfl))
                    have hS0 : KeepS (fun j => j = g5) y7 y7.drew := (KeepS.refl _ _).drew
                    have SD := Lib.hid (S7.out.below (Below.refl _ _).drew)
                    have LD := Lib.hid (L7.out.below (Below.refl _ _).drew)
                    go_wp2_with fail
                    refine wp_region_lin [(0, true), (1, true), (2, true), (3, true), (4, true), (5, true), (6, true), (7, true), (8, true), (9, true), (10, false), (11, true), (12, true), (13, false)]
                      (by kernel_rfl) (by kernel_rfl) rfl (by kernel_rfl) (fun y : World => KeepS (fun j => j = g5) y7 y) ?_
                    simp only [List.map_cons, List.map_nil, List.getElem?_toArray, List.getElem?_cons_succ, List.getElem?_cons_zero]
                    obtain ⟨Wd, hWd⟩ : ∃ Wd, Wd = y7.drew := ⟨_, rfl⟩
                    rw [← hWd] at hS0 SD LD ⊢
                    clear hWd
                    iterate 10 (refine lin_take (v := ?_) hS0 (by rfl) ?_ ?_; rotate_left; (intro y hy; have q1 := HF1.out y hy; have q2 := HF2.out y hy; have q3 := HF3.out y hy; have q4 := HF4.out y hy; have q5 := HF5.out y hy; go_simp; try (with_reducible rfl)); (try simp only [Act.put, List.setIfInBounds_toArray, List.set_cons_zero, List.set_cons_succ]))
                    refine lin_call hS0 (by rfl) (fun K hK => ?_)
                    go_simp
                    refine (refLat_any A B ca cb lats.length picks.length lats picks Y.1.lats c.lat Wd rfl ((HL.out.below SD.out.bl).more SD.out.bl.size) HNY.out.1 (by omega)).mono ?_
                    rintro e y9 ⟨rfl, b9⟩
                    have hS1 : KeepS (fun j => j = g5) y7 y9 := hS0.trans (KeepS.of_below b9)
                    have S9 := Lib.hid (SD.out.below b9)
                    have L9 := Lib.hid (LD.out.below b9)
                    clear b9
                    go_wp2_with fail
                    refine hK.out _ _ hS1 (fun _ => ?_)
                    clear hK K hS0
                    try simp only [Act.put, List.setIfInBounds_toArray, List.set_cons_zero, List.set_cons_succ]
                    iterate 2 (refine lin_take (v := ?_) hS1 (by rfl) ?_ ?_; rotate_left; (intro y hy; go_simp; try (with_reducible rfl)); (try simp only [Act.put, List.setIfInBounds_toArray, List.set_cons_zero, List.set_cons_succ]))
                    have hrow9 := Row.of_own L9.out.own
                    rw [HYL.out] at hrow9
                    have c9x := (hrow9.rqs HQP.out).2.2.2.2.2.1
                    rw [Nat.zero_add] at c9x
                    have f9x := own_thaw (by have h9 := L9.out.own; rw [HYL.out] at h9; exact h9) (p * 8 + 5)
                    refine lin_set_cell hS1 (by rfl) 3 (.tmp 127) (.tmp 125) rfl g5 (p * 8 + 5) (.int .i64 (latsZ lats Y.1.lats c.lat)) _ (by go_simp) (by go_simp) rfl c9x f9x (by kernel_rfl) (hS1.setCell rfl _ _) ?_
                    have S10 := Lib.hid (S9.out.grew L9.out (grown_setCell y9 g5 (p * 8 + 5) (.int .i64 (latsZ lats Y.1.lats c.lat)) (Nat.lt_of_lt_of_le hg7 hS1.size)))
                    have L10 := Lib.hid (L9.out.mark HYL.out HQP.out (setLeft_at (latsZ lats Y.1.lats c.lat) HQP.out))
                    obtain ⟨y10, hy10⟩ : ∃ y10, y10 = y9.setCell ⟨g5, p * 8 + 5, none⟩ (.int .i64 (latsZ lats Y.1.lats c.lat)) := ⟨_, rfl⟩
                    rw [← hy10] at S10 L10 ⊢
                    clear hy10 c9x f9x hrow9 hS1
                    try simp only [Act.put, List.setIfInBounds_toArray, List.set_cons_zero, List.set_cons_succ]
                    refine lin_done ?_
                    have t9 : y10.cell? ⟨w.heap.size + 2, 89, none⟩ = some (.int .i64 Y.1.lats) := S10.out.bx.cell (sta_lats HOKP.out)
                    have hz10 := S10.out.bx.lt
                    go_wp2_with (first
                      | (refine wpList_put_cell rfl 3 _ _ rfl (w.heap.size + 2) 89 (.int .i64 (wrap64 (Y.1.lats + 1))) rfl rfl rfl _ S10.out.bx (by rw [staL_len HOKP.out]; omega) (by kernel_rfl) ?_; intro y11 hbx hg; rw [set_lats HOKP.out] at hbx; have S11 := Lib.hid (S10.out.put hbx hg (own_same S10.out.own rfl rfl rfl rfl rfl rfl rfl rfl rfl) S10.out.tb); have L11 := Lib.hid (L10.out.put hg); clear hbx hg))
                    go_roundw
                    case rel => exact ⟨b + 1, by omega, by go_num, ⟨v3, by rw [HNX.out, HBN.out]; exact S11.out⟩, by rw [HNX.out, HBN.out]; exact L11.out⟩
                    case measure => simp [intOf]; omega
        · have hbe : b = c.banks.toNat := by omega
          have HE : Hid (advanceZ c lats picks x = { Y.1 with table := Y.2 }) := by
            have e : advanceZ c lats picks x = { Y.1 with table := Y.2 } := by
              unfold advanceZ
              rw [if_pos (show runsB c = true by unfold runsB; rw [HCB.out]; simpa [withinB] using hlk)]
              rw [← hbe, ← HXT.out, ← HYY.out]
            exact e
          have HOKY := Lib.hid HYO.out
          have HOKT : Hid (Sta.Ok { Y.1 with table := Y.2 }) := ⟨HYO.out.a, HYO.out.e⟩
          have hzb := S3.out.bx.lt
          have HOT := Lib.hid (own_table S3.out.own L3.out.own)
          clear hbe
          go_wp2_with (first
            | (refine wpList_put_cell rfl 38 _ _ rfl (w.heap.size + 2) 83 (.slice Au m cu) rfl rfl rfl _ S3.out.bx (by rw [staL_len HOKY.out]; omega) (by kernel_rfl) ?_; intro y11 hbx hg; rw [set_table HOKY.out] at hbx; have S11 := Lib.hid (S3.out.put2 (x' := { Y.1 with table := Y.2 }) (tb' := .slice Au m cu) hbx hg HOT.out rfl); clear hbx hg)
            | (refine wpList_load_box rfl 44 (.tmp 5) rfl (w.heap.size + 2) 0 rfl (staL { Y.1 with table := Y.2 } { v3 with table := .slice Au m cu }) (staL { Y.1 with table := Y.2 } { v3 with table := .slice Au m cu }) S11.out.bx (fun j u hu => by rw [Nat.zero_add]; exact hu) _ Try.underlying44 rfl 92 sta_size (staL_len HOKT.out) ?_)
            | (refine wpList_store_box rfl 44 (.tmp 6) (.tmp 134) rfl (w.heap.size + 3) 0 (staL { Y.1 with table := Y.2 } { v3 with table := .slice Au m cu }) rfl rfl Z S11.out.bz (by rw [HZ.out, staL_len HOKT.out]; exact Nat.le_refl _) 92 sta_size (staL_len HOKT.out) S11.out.own.one ?_; intro w9 hb9 hg9; rw [splice_whole _ _ (by rw [HZ.out, staL_len HOKT.out])] at hb9; have X9 := Lib.hid hb9; have G9 := Lib.hid hg9; clear hb9 hg9))
          exact bodyPost_ret (v := .agg (staL { Y.1 with table := Y.2 } { v3 with table := .slice Au m cu }).toArray) (results_cell Try.results19 _ _ _ ⟨w.heap.size + 3, 0, none⟩ _ rfl (load_sta HOKT.out X9.out)) rfl (by first | exact S11.out.out G9.out | (rw [HE.out]; exact S11.out.out G9.out))
theorem refAdvance_any (c : Cfg) (A B : Option Addr) (ca cb : Nat) (lats picks : List Int) (x : Sta) (v : Vs) (w : World) (hl : Row w w.heap.size 1 (.slice A lats.length ca) lats.length (lats.map (Value.int .i64))) (hp : Row w w.heap.size 1 (.slice B picks.length cb) picks.length (picks.map (Value.int .i64)))
    (hx : StaLim 0 x) (hv : StaV w w.heap.size v x) (hq : ∀ q ∈ x.table, q.Fits) (hnum : NumOk x) :
    Calls Try.prog 19 #[.agg #[.int .i64 c.ldq, .int .i64 c.sdq, .int .i64 c.aeq, .int .i64 c.abq, .int .i64 c.ebq, .int .i64 c.saq, .int .i64 c.banks, .int .i64 c.flight, .int .i64 c.slip, .int .i64 c.lat, .int .i64 c.mul, .int .i64 c.div], .agg #[.slice A lats.length ca, .slice B picks.length cb], .agg (staL x v).toArray] w (AdvOut w (advanceZ c lats picks x)) := by
  cases h1 : withinB c.banks 16 with
  | false => exact refAdvance_nob c A B ca cb lats picks x v w hl hp hx hv hq hnum h1
  | true =>
    cases h2 : withinB c.lat 1000 with
    | false => exact refAdvance_nol c A B ca cb lats picks x v w hl hp hx hv hq hnum h1 h2
    | true => exact refAdvance_run c A B ca cb lats picks x v w hl hp hx hv hq hnum h1 h2
end Go.Proofs.Ythhoigkmmlkfcaa.Words

/- Contract of package banks: goOn, a cycle for all that was begun. -/
namespace Go.Proofs.Ythhoigkmmlkfcaa.Words
set_option maxRecDepth 100000
open Go.RowKit
set_option linter.unusedVariables false
set_option linter.unusedSimpArgs false

/-- Those that are left, in a row of the call's own. -/
structure LefB (base ob : Nat) (vt u : Value) (l : List Rqs) (W : World) : Prop where
  own : W.ownsRow base 54 8 u l.length (flat rqsL l)
  ap : ∀ g, u.ownBlock = some g → vt.ownBlock ≠ some g
  off : u.ownBlock ≠ some ob
section
variable {W Y : World} {base ob : Nat} {vt u u' : Value} {l l' : List Rqs} {v : Vs} {x : Sta}
theorem LefB.below (h : LefB base ob vt u l W) (hb : Below W.heap.size W Y) : LefB base ob vt u l Y := ⟨own_below h.own hb, h.ap, h.off⟩
theorem LefB.put (h : LefB base ob vt u l W) (hg : W.grownBy Y (some ob)) : LefB base ob vt u l Y := ⟨own_grown h.own hg (fun g hg2 e => h.off (by rw [hg2]; exact e)), h.ap, h.off⟩
theorem LefB.done (h : LefB base ob vt u l W) (ho : OutS base ob v x W) (hk : KeepS (fun j => j = ob ∨ v.ws.ownBlock = some j) W Y) : LefB base ob vt u l Y :=
  ⟨own_keepS h.own hk (fun g hg e => by
    rcases e with rfl | e
    · exact h.off hg
    · exact own_apart h.own ho.own.ws (by decide) hg (by rw [hg, e])), h.ap, h.off⟩
theorem LefB.grew (h : LefB base ob vt u l W) (ho : Y.ownsRow base 54 8 u' l'.length (flat rqsL l')) (hn : ∀ g, u'.ownBlock = some g → u.ownBlock = some g ∨ W.heap.size ≤ g) (ht : ∀ g, vt.ownBlock = some g → g < W.heap.size) (hob : ob < W.heap.size) : LefB base ob vt u' l' Y :=
  ⟨ho, fun g hg e => by
    rcases hn g hg with h1 | h1
    · exact h.ap g h1 e
    · have := ht g e; omega, fun e => by
    rcases hn ob e with h1 | h1
    · exact h.off h1
    · omega⟩
theorem OutS.grew (h : OutS base ob v x W) (hl : LefB base ob v.table u l W) (hg : W.grownBy Y u.ownBlock) : OutS base ob v x Y :=
  h.keepS (S := fun k => u.ownBlock = some k) (KeepS.of_grown hg (fun k e => e)) hl.off (by
    intro y hy g hg2
    simp only [vsL, List.mem_cons, List.not_mem_nil, or_false] at hy
    rcases hy with rfl | rfl | rfl | rfl | rfl | rfl | rfl | rfl | rfl
    · exact fun e => own_apart h.own.ldq hl.own (by decide) hg2 (by rw [hg2, e])
    · exact fun e => own_apart h.own.sdq hl.own (by decide) hg2 (by rw [hg2, e])
    · exact fun e => own_apart h.own.aeq hl.own (by decide) hg2 (by rw [hg2, e])
    · exact fun e => own_apart h.own.abq hl.own (by decide) hg2 (by rw [hg2, e])
    · exact fun e => own_apart h.own.ebq hl.own (by decide) hg2 (by rw [hg2, e])
    · exact h.own.saq.apart hl.own (by decide) g hg2
    · exact fun e => hl.ap g e hg2
    · exact fun e => own_apart h.own.mem hl.own (by decide) hg2 (by rw [hg2, e])
    · exact fun e => own_apart h.own.ws hl.own (by decide) hg2 (by rw [hg2, e]))
end
/-- The loop's round. -/
structure GoR (w : World) (base ob : Nat) (vt : Value) (x : Sta) (j : Nat) (u : Value) (W : World) : Prop where
  st : ∃ v, OutS base ob v (ticksZ x (x.table.take j)).1 W ∧ v.table = vt
  lf : LefB base ob vt u (ticksZ x (x.table.take j)).2 W
  bl : Below base w W
/-- What goOn and begin leave. -/
def OnOut (w : World) (base ob : Nat) (x' : Sta) (e : Ending) (w' : World) : Prop :=
  e = .returned (.tuple #[]) ∧ ∃ v', OutS base ob v' x' w' ∧ Below base w w'
set_option maxHeartbeats 8000000 in
theorem goOn_any (x : Sta) (v : Vs) (base ob : Nat) (w : World) (hx : StaLim 0 x) (hO : OutS base ob v x w) (hb : base ≤ w.heap.size) (hq : ∀ q ∈ x.table, q.Fits) :
    Calls Try.prog 28 #[.pointer (some ⟨ob, 0, none⟩)] w (OnOut w base ob { (ticksZ x x.table).1 with table := (ticksZ x x.table).2 }) := by
  have HX := Lib.hid hx
  have HOK := Lib.hid hx.ok
  have HQ := Lib.hid hq
  have HO := Lib.hid hO
  have hob := hO.bx.lt
  have hnl := hx.table
  obtain ⟨A9, c9, e9⟩ := (Row.of_own hO.own.table).form
  obtain ⟨n, hn⟩ : ∃ n, n = x.table.length := ⟨_, rfl⟩
  rw [← hn] at e9 hnl
  have HN := Lib.hid hn
  have t1 := hO.bx.cell (sta_table hx.ok)
  rw [e9] at t1
  have HE9 := Lib.hid e9
  have HTL : Hid (∀ g, (Value.slice A9 n c9).ownBlock = some g → g < w.heap.size) := fun g hg => (hO.own.table.lt g (by rw [e9]; exact hg)).2
  clear hn hx hq hO e9
  obtain ⟨ir, hir, q0, q1, q2⟩ := parts_rqs
  have HIr := Lib.hid hir
  have HAr := Lib.hid q0
  have HBr := Lib.hid q1
  have HCr := Lib.hid q2
  clear hir q0 q1 q2
  go_enter Try.func28, Try.ntmps28
  go_wp2_with fail
  clear t1
  go_loopw [2, 11] (fun u i wr => ∃ j : Nat, j ≤ n ∧ i = .int .i64 j ∧ GoR w base ob (.slice A9 n c9) x j u wr) (fun _ i _ => n - (intOf i).toNat)
  case atStart => exact ⟨0, Nat.zero_le _, rfl, ⟨⟨v, HO.out, HE9.out⟩, ⟨World.ownsRow_nil _ _ _ _, (fun g hg => by cases hg), (fun e => by cases e)⟩, Below.refl _ _⟩⟩
  case round =>
    obtain ⟨j, hj, rfl, ⟨v2, hst, htb⟩, hlf, hbl⟩ := hrel
    have hlim := ticks_lim (l := x.table) HX.out j
    have hlen := ticks_len x x.table j
    have HT := Lib.hid (fun q (h : x.table[j]? = some q) => ticks_step (x := x) h)
    obtain ⟨X, hX⟩ : ∃ X, X = ticksZ x (x.table.take j) := ⟨_, rfl⟩
    rw [← hX] at hst hlf hlim hlen HT
    have HXX := Lib.hid hX
    have ST := Lib.hid hst
    have LF := Lib.hid hlf
    have BL := Lib.hid hbl
    have HVT := Lib.hid htb
    have LIM := Lib.hid hlim.1
    have HTB := Lib.hid hlim.2
    have hobr := hst.bx.lt
    have HTR : Hid (∀ g, (Value.slice A9 n c9).ownBlock = some g → g < wr.heap.size) := fun g hg => (hst.own.table.lt g (by rw [htb]; exact hg)).2
    have hbr : base ≤ wr.heap.size := by have := hst.hb; omega
    obtain ⟨Au, cu, eu⟩ := (Row.of_own hlf.own).form
    subst eu
    clear hX hst hlf hlim hbl htb
    by_cases hlt : j < n
    · obtain ⟨q, hq⟩ : ∃ q, x.table[j]? = some q := ⟨_, List.getElem?_eq_getElem (by rw [← HN.out]; exact hlt)⟩
      have HQF := Lib.hid (HQ.out q (List.mem_of_getElem? hq))
      have hrow := Row.of_own ST.out.own.table
      rw [HVT.out, HTB.out, ← HN.out] at hrow
      obtain ⟨g, o, rfl, hg, _⟩ := hrow.at_ (by omega)
      obtain ⟨d0, d1, d2, d3, d4, d5, d6, d7⟩ := hrow.rqs hq
      have HTS := Lib.hid (HT.out q hq)
      have k0 : (0 : Int) ≤ j := by omega
      have k1 : (j : Int) < n := by omega
      clear hrow hq
      by_cases hpos : 0 < q.left
      · by_cases hone : q.left = 1
        · obtain ⟨R, hR⟩ : ∃ R, R = wr.alloc (.cells #[.bool q.store, .int .i64 q.op, .int .i64 q.addr, .int .i64 q.size, .int .u32 q.val, .int .i64 0, .int .i64 q.reg, .int .i64 q.tag] 54) := ⟨_, rfl⟩
          have hbR : Below wr.heap.size wr R := by rw [hR]; exact (Below.refl _ _).alloc (Nat.le_refl _) _
          have BXR : Hid (Box R wr.heap.size (rqsL { q with left := 0 })) := by rw [hR]; exact Box.new wr (rqsL { q with left := 0 }) _
          have STA := Lib.hid (ST.out.below hbR)
          have LFA := Lib.hid (LF.out.below hbR)
          have HDN := Lib.hid (doB_any X.1 v2 { q with left := 0 } base ob R LIM.out.ok STA.out (Nat.le_trans hbr hbR.size) (LIM.out.few (by omega)) LIM.out.bytes ⟨HQF.out.1, HQF.out.2.1, HQF.out.2.2.1, HQF.out.2.2.2.1, by show (-9223372036854775808 : Int) ≤ 0 ∧ (0 : Int) ≤ 9223372036854775807; omega, HQF.out.2.2.2.2.2⟩)
          have HTK := Lib.hid (tick_done (p := X) hone)
          have BLR := Lib.hid (BL.out.trans (hbR.mono hbr))
          have hbR2 := hbR.size
          have t5 : R.cell? ⟨wr.heap.size, 5, none⟩ = some (.int .i64 0) := BXR.out.cell rfl
          have hRl := BXR.out.lt
          clear hlen hbR
          rw [hone] at d5
          clear hpos hone
          go_wp2_with (first
            | (rw [← hR]; clear hR)
            | (refine wpList_load_box rfl 54 (.tmp 4) rfl wr.heap.size 0 rfl (rqsL { q with left := 0 }) (rqsL { q with left := 0 }) BXR.out (fun j u hu => by rw [Nat.zero_add]; exact hu) _ Try.underlying54 rfl 8 (by kernel_rfl) rfl ?_))
          refine HDN.out.mono ?_
          rintro e y4 ⟨rfl, v4, o4, k4, e4⟩
          have O4 := Lib.hid o4
          have E4 := Lib.hid e4
          have LF4 := Lib.hid (LFA.out.done STA.out k4)
          have BL4 := Lib.hid (BLR.out.trans (k4.below (Nat.le_trans hbr hbR2) (fun k hk => by
            rcases hk with rfl | hk
            · exact STA.out.hb
            · exact (STA.out.own.ws.lt k hk).1)))
          clear o4 k4 e4
          go_wp2_with fail
          go_roundw
          case rel =>
            refine ⟨j + 1, by omega, by go_num, ⟨⟨v4, ?_, by rw [E4.out, HVT.out]⟩, ?_, BL4.out⟩⟩
            · rw [HTS.out, HTK.out]; exact O4.out
            · rw [HTS.out, HTK.out]; exact LF4.out
          case measure => simp [intOf]; omega
        · have HTK := Lib.hid (tick_less (p := X) hpos hone)
          have hne : (q.left - 1 == 0) = false := by rw [beq_eq_false_iff_ne]; omega
          have hb1 : -9223372036854775808 ≤ q.left - 1 := by omega
          have hb3 : q.left ≤ 9223372036854775807 := HQF.out.2.2.2.2.1.2
          have hb2 : Below wr.heap.size wr ((wr.alloc (.cells #[.bool q.store, .int .i64 q.op, .int .i64 q.addr, .int .i64 q.size, .int .u32 q.val, .int .i64 (q.left - 1), .int .i64 q.reg, .int .i64 q.tag] 54)).alloc (.cells #[.bool q.store, .int .i64 q.op, .int .i64 q.addr, .int .i64 q.size, .int .u32 q.val, .int .i64 (q.left - 1), .int .i64 q.reg, .int .i64 q.tag] 54)) := ((Below.refl _ _).alloc (Nat.le_refl _) _).alloc (by simp) _
          have STA := Lib.hid (ST.out.below hb2)
          have LFA := Lib.hid (LF.out.below hb2)
          have BLA := Lib.hid (BL.out.trans (hb2.mono hbr))
          have RN : Hid (Row ((wr.alloc (.cells #[.bool q.store, .int .i64 q.op, .int .i64 q.addr, .int .i64 q.size, .int .u32 q.val, .int .i64 (q.left - 1), .int .i64 q.reg, .int .i64 q.tag] 54)).alloc (.cells #[.bool q.store, .int .i64 q.op, .int .i64 q.addr, .int .i64 q.size, .int .u32 q.val, .int .i64 (q.left - 1), .int .i64 q.reg, .int .i64 q.tag] 54)) (wr.heap.size + 2) 8 (.slice (some ⟨wr.heap.size + 1, 0, none⟩) 1 1) 1 (rqsL { q with left := q.left - 1 })) := by
            have h9 := row_new (wr.alloc (.cells #[.bool q.store, .int .i64 q.op, .int .i64 q.addr, .int .i64 q.size, .int .u32 q.val, .int .i64 (q.left - 1), .int .i64 q.reg, .int .i64 q.tag] 54)) (rqsL { q with left := q.left - 1 }) 8 rfl (by omega) 54
            have h10 : (wr.alloc (.cells #[.bool q.store, .int .i64 q.op, .int .i64 q.addr, .int .i64 q.size, .int .u32 q.val, .int .i64 (q.left - 1), .int .i64 q.reg, .int .i64 q.tag] 54)).heap.size = wr.heap.size + 1 := by simp
            rw [h10] at h9
            exact h9
          have HTA : Hid (∀ g2, (Value.slice (some ⟨g, o, none⟩) n c9).ownBlock = some g2 → g2 < ((wr.alloc (.cells #[.bool q.store, .int .i64 q.op, .int .i64 q.addr, .int .i64 q.size, .int .u32 q.val, .int .i64 (q.left - 1), .int .i64 q.reg, .int .i64 q.tag] 54)).alloc (.cells #[.bool q.store, .int .i64 q.op, .int .i64 q.addr, .int .i64 q.size, .int .u32 q.val, .int .i64 (q.left - 1), .int .i64 q.reg, .int .i64 q.tag] 54)).heap.size) := fun g2 h2 => by have := HTR.out g2 h2; have := hb2.size; omega
          have hszA := hb2.size
          have HLE := Lib.hid hlen
          clear hb2
          go_wp2_with (first
            | (refine wpList_append_new _ rfl (.tmp 32) (.tmp 34) 38 rfl base 54 ir _ 8 64 Try.underlying38 HIr.out HAr.out HBr.out HCr.out rfl (by omega) (.slice Au X.2.length cu) X.2.length (flat rqsL X.2) rfl LFA.out.own _ (.slice (some ⟨wr.heap.size + 1, 0, none⟩) 1 1) 1 (rqsL { q with left := q.left - 1 }) rfl RN.out (rqsL_one _) (by unfold maxLen; have := HLE.out; omega) (by have := HLE.out; omega) (by omega) ?_; intro u2 w2 hO hg hn2; obtain ⟨Av, cv, rfl⟩ := (Row.of_own hO).form; have ST2 := Lib.hid (OutS.grew STA.out (by rw [HVT.out]; exact LFA.out) hg); have LF2 := Lib.hid (LefB.grew (l' := X.2 ++ [{ q with left := q.left - 1 }]) LFA.out (by rw [List.length_append, flat_append, flat_one]; exact hO) hn2 HTA.out STA.out.bx.lt); have BL2 := Lib.hid (Below.grown BLA.out hg (Nat.le_trans hb BLA.out.size) (fun z hz => (LFA.out.own.lt z hz).1)); clear hO hg hn2))
          go_roundw
          case rel =>
            refine ⟨j + 1, by omega, by go_num, ⟨⟨v2, ?_, HVT.out⟩, ?_, BL2.out⟩⟩
            · rw [HTS.out, HTK.out]; exact ST2.out
            · rw [HTS.out, HTK.out]; exact LF2.out
          case measure => simp [intOf]; omega
      · have HTK := Lib.hid (tick_wait (p := X) hpos)
        have hb2 : Below wr.heap.size wr ((wr.alloc (.cells #[.bool q.store, .int .i64 q.op, .int .i64 q.addr, .int .i64 q.size, .int .u32 q.val, .int .i64 q.left, .int .i64 q.reg, .int .i64 q.tag] 54)).alloc (.cells #[.bool q.store, .int .i64 q.op, .int .i64 q.addr, .int .i64 q.size, .int .u32 q.val, .int .i64 q.left, .int .i64 q.reg, .int .i64 q.tag] 54)) := ((Below.refl _ _).alloc (Nat.le_refl _) _).alloc (by simp) _
        have STA := Lib.hid (ST.out.below hb2)
        have LFA := Lib.hid (LF.out.below hb2)
        have BLA := Lib.hid (BL.out.trans (hb2.mono hbr))
        have RN : Hid (Row ((wr.alloc (.cells #[.bool q.store, .int .i64 q.op, .int .i64 q.addr, .int .i64 q.size, .int .u32 q.val, .int .i64 q.left, .int .i64 q.reg, .int .i64 q.tag] 54)).alloc (.cells #[.bool q.store, .int .i64 q.op, .int .i64 q.addr, .int .i64 q.size, .int .u32 q.val, .int .i64 q.left, .int .i64 q.reg, .int .i64 q.tag] 54)) (wr.heap.size + 2) 8 (.slice (some ⟨wr.heap.size + 1, 0, none⟩) 1 1) 1 (rqsL q)) := by
          have h9 := row_new (wr.alloc (.cells #[.bool q.store, .int .i64 q.op, .int .i64 q.addr, .int .i64 q.size, .int .u32 q.val, .int .i64 q.left, .int .i64 q.reg, .int .i64 q.tag] 54)) (rqsL q) 8 rfl (by omega) 54
          have h10 : (wr.alloc (.cells #[.bool q.store, .int .i64 q.op, .int .i64 q.addr, .int .i64 q.size, .int .u32 q.val, .int .i64 q.left, .int .i64 q.reg, .int .i64 q.tag] 54)).heap.size = wr.heap.size + 1 := by simp
          rw [h10] at h9
          exact h9
        have HTA : Hid (∀ g2, (Value.slice (some ⟨g, o, none⟩) n c9).ownBlock = some g2 → g2 < ((wr.alloc (.cells #[.bool q.store, .int .i64 q.op, .int .i64 q.addr, .int .i64 q.size, .int .u32 q.val, .int .i64 q.left, .int .i64 q.reg, .int .i64 q.tag] 54)).alloc (.cells #[.bool q.store, .int .i64 q.op, .int .i64 q.addr, .int .i64 q.size, .int .u32 q.val, .int .i64 q.left, .int .i64 q.reg, .int .i64 q.tag] 54)).heap.size) := fun g2 h2 => by have := HTR.out g2 h2; have := hb2.size; omega
        have hszA := hb2.size
        have HLE := Lib.hid hlen
        clear hb2
        go_wp2_with (first
          | (refine wpList_append_new _ rfl (.tmp 32) (.tmp 34) 38 rfl base 54 ir _ 8 64 Try.underlying38 HIr.out HAr.out HBr.out HCr.out rfl (by omega) (.slice Au X.2.length cu) X.2.length (flat rqsL X.2) rfl LFA.out.own _ (.slice (some ⟨wr.heap.size + 1, 0, none⟩) 1 1) 1 (rqsL q) rfl RN.out (rqsL_one _) (by unfold maxLen; have := HLE.out; omega) (by have := HLE.out; omega) (by omega) ?_; intro u2 w2 hO hg hn2; obtain ⟨Av, cv, rfl⟩ := (Row.of_own hO).form; have ST2 := Lib.hid (OutS.grew STA.out (by rw [HVT.out]; exact LFA.out) hg); have LF2 := Lib.hid (LefB.grew (l' := X.2 ++ [q]) LFA.out (by rw [List.length_append, flat_append, flat_one]; exact hO) hn2 HTA.out STA.out.bx.lt); have BL2 := Lib.hid (Below.grown BLA.out hg (Nat.le_trans hb BLA.out.size) (fun z hz => (LFA.out.own.lt z hz).1)); clear hO hg hn2))
        go_roundw
        case rel =>
          refine ⟨j + 1, by omega, by go_num, ⟨⟨v2, ?_, HVT.out⟩, ?_, BL2.out⟩⟩
          · rw [HTS.out, HTK.out]; exact ST2.out
          · rw [HTS.out, HTK.out]; exact LF2.out
        case measure => simp [intOf]; omega
    · have hjn : j = n := by omega
      have hTT : X = ticksZ x x.table := by rw [HXX.out, hjn, HN.out, List.take_length]
      have HTT := Lib.hid hTT
      have HOFF := Lib.hid LF.out.off
      clear hTT hjn
      go_wp2_with (first
        | (refine wpList_put_cell rfl 38 _ _ rfl ob 83 (.slice Au X.2.length cu) rfl rfl rfl _ ST.out.bx (by rw [staL_len LIM.out.ok]; omega) (by kernel_rfl) ?_; intro y5 hbx hg; rw [set_table LIM.out.ok] at hbx; have S5 := Lib.hid (ST.out.put (x' := { X.1 with table := X.2 }) (v' := { v2 with table := .slice Au X.2.length cu }) hbx hg (ST.out.own.set_table LF.out.own) (off_table ST.out.off HOFF.out)); have B5 := Lib.hid (Below.grown BL.out hg (Nat.le_trans hb BL.out.size) (fun z hz => by injection hz with hz; have := ST.out.hb; omega)); clear hbx hg))
      have HD2 : Hid (OnOut w base ob { (ticksZ x x.table).1 with table := (ticksZ x x.table).2 } (.returned (.tuple #[])) y5) := by rw [← HTT.out]; exact ⟨rfl, _, S5.out, B5.out⟩
      first | exact bodyPost_ret (v := .tuple #[]) (by simp [results, Try.results28, go_sem]) rfl HD2.out | exact bodyPost_end (v := .tuple #[]) (by simp [results, Try.results28, go_sem]) rfl HD2.out
end Go.Proofs.Ythhoigkmmlkfcaa.Words

/- Contracts of package banks: Bank, choice, Lat, Pick. -/
namespace Go.Proofs.Ythhoigkmmlkfcaa.Words
set_option maxRecDepth 100000
open Go.RowKit
set_option linter.unusedVariables false
set_option linter.unusedSimpArgs false

set_option maxHeartbeats 400000 in
theorem bank_any (addr n : Int) (w : World) (ha : -9223372036854775808 ≤ addr ∧ addr ≤ 9223372036854775807) (hn : -9223372036854775808 ≤ n ∧ n ≤ 9223372036854775807) :
    Calls Try.prog 10 #[.int .i64 addr, .int .i64 n] w fun e w' => e = .returned (.int .i64 (bankZ addr n)) ∧ w = w' := by
  by_cases h1 : addr < 0
  · have HE := Lib.hid (show bankZ addr n = 0 by unfold bankZ; rw [if_pos (.inl h1)])
    go_enter Try.func10, Try.ntmps10
    go_wp2_with fail
    go_ret
    exact ⟨ret_int HE.out.symm, rfl⟩
  · by_cases h2 : n < 1
    · have HE := Lib.hid (show bankZ addr n = 0 by unfold bankZ; rw [if_pos (.inr h2)])
      go_enter Try.func10, Try.ntmps10
      go_wp2_with fail
      go_ret
      exact ⟨ret_int HE.out.symm, rfl⟩
    · have HE := Lib.hid (show bankZ addr n = addr / 4 % n by unfold bankZ; rw [if_neg (by omega)])
      have k0 : 0 ≤ addr := by omega
      have k1 : 1 ≤ n := by omega
      have k2 : 0 ≤ addr / 4 := by omega
      go_enter Try.func10, Try.ntmps10
      go_wp2_with fail
      go_ret
      exact ⟨ret_int (by rw [HE.out]), rfl⟩
def choiceZ (l : List Int) (i n : Int) : Int := if n < 1 then 0 else ithZ l i % n
set_option maxHeartbeats 400000 in
theorem choice_any (A : Option Addr) (c n : Nat) (l : List Int) (i most : Int) (w : World) (hl : l.length = n) (h : Row w w.heap.size 1 (.slice A n c) n (l.map (Value.int .i64))) (hi : -9223372036854775808 ≤ i ∧ i ≤ 9223372036854775807) (hm : -9223372036854775808 ≤ most ∧ most ≤ 9223372036854775807) :
    Calls Try.prog 23 #[.slice A n c, .int .i64 i, .int .i64 most] w fun e w' => e = .returned (.int .i64 (choiceZ l i most)) ∧ w = w' := by
  have hcap := h.cap
  by_cases h1 : n = 0
  · have HE := Lib.hid (show choiceZ l i most = 0 by
      unfold choiceZ ithZ; rw [if_pos (Or.inl (by omega) : l.length = 0 ∨ i < 0)]; split
      · rfl
      · exact Int.zero_emod _)
    subst h1
    clear h hl
    go_enter Try.func23, Try.ntmps23
    go_wp2_with fail
    go_ret
    exact ⟨ret_int HE.out.symm, rfl⟩
  · have hn0 : ((n : Int) == 0) = false := by rw [beq_eq_false_iff_ne]; omega
    by_cases h2 : i < 0
    · have HE := Lib.hid (show choiceZ l i most = 0 by
        unfold choiceZ ithZ; rw [if_pos (Or.inr h2 : l.length = 0 ∨ i < 0)]; split
        · rfl
        · exact Int.zero_emod _)
      clear h hl
      go_enter Try.func23, Try.ntmps23
      go_wp2_with fail
      go_ret
      exact ⟨ret_int HE.out.symm, rfl⟩
    · by_cases h3 : most < 1
      · have HE := Lib.hid (show choiceZ l i most = 0 by unfold choiceZ; rw [if_pos h3])
        clear h hl
        go_enter Try.func23, Try.ntmps23
        go_wp2_with fail
        go_ret
        exact ⟨ret_int HE.out.symm, rfl⟩
      · obtain ⟨k, hk⟩ : ∃ k : Nat, i % n = k := ⟨(i % n).toNat, by have := Int.emod_nonneg i (show (n : Int) ≠ 0 by omega); omega⟩
        have hkn : k < n := by have := Int.emod_lt_of_pos i (show (0 : Int) < n by omega); omega
        have HE := Lib.hid (show choiceZ l i most = l.getD k 0 % 1073741824 % most by unfold choiceZ ithZ; rw [if_neg h3, if_neg (by omega), hl, hk]; rfl)
        obtain ⟨g, o, rfl, hg, _⟩ := h.at_ (by omega)
        have d0 := h.cells _ rfl k (.int .i64 (l.getD k 0)) (by rw [List.getElem?_map, List.getD_eq_getElem?_getD, List.getElem?_eq_getElem (by omega)]; rfl)
        rw [add_spot] at d0
        obtain ⟨x, hx⟩ : ∃ x, x = l.getD k 0 := ⟨_, rfl⟩
        rw [← hx] at d0 HE
        clear hx
        have a30 := and_30 x
        have k0 : 0 ≤ i := by omega
        have k1 : (0 : Int) < n := by omega
        have k2 : (0 : Int) ≤ k := by omega
        have k3 : (k : Int) < n := by omega
        have k4 : 1 ≤ most := by omega
        have k5 : 0 ≤ x % 1073741824 := by omega
        clear h hl
        go_enter Try.func23, Try.ntmps23
        go_wp2_with fail
        go_ret
        exact ⟨ret_int HE.out.symm, rfl⟩
set_option maxHeartbeats 400000 in
theorem lat_any (A B : Option Addr) (c d n m : Nat) (l p : List Int) (i most : Int) (w : World) (hl : l.length = n) (h : Row w w.heap.size 1 (.slice A n c) n (l.map (Value.int .i64))) (hi : -9223372036854775808 ≤ i ∧ i ≤ 9223372036854775807) (hm : -9223372036854775808 ≤ most ∧ most ≤ 9223372036854775807) :
    Calls Try.prog 12 #[.agg #[.slice A n c, .slice B m d], .int .i64 i, .int .i64 most] w fun e w' => e = .returned (.int .i64 (latsZ l i most)) ∧ Below w.heap.size w w' := by
  have HE := Lib.hid (show latsZ l i most = 1 + choiceZ l i most by unfold latsZ choiceZ; split <;> rfl)
  have HR := Lib.hid (fun (o : Obj) => (h.alloc (Nat.le_refl _) o).more (show w.heap.size ≤ (w.alloc o).heap.size by simp))
  have HC : 0 ≤ choiceZ l i most ∧ choiceZ l i most < 9223372036854775807 := by
    unfold choiceZ
    split
    · omega
    · have h1 := Int.emod_nonneg (ithZ l i) (show most ≠ 0 by omega)
      have h2 := Int.emod_lt_of_pos (ithZ l i) (show 0 < most by omega)
      omega
  have HL := Lib.hid hl
  clear h hl
  go_enter Try.func12, Try.ntmps12
  go_wp2_with fail
  refine (choice_any A c n l i most _ HL.out (HR.out _) hi hm).mono ?_
  rintro e w1 ⟨rfl, rfl⟩
  generalize choiceZ l i most = z at *
  go_wp2_with fail
  go_ret
  exact ⟨ret_int HE.out.symm, (Below.refl _ _).alloc (Nat.le_refl _) _⟩
set_option maxHeartbeats 400000 in
theorem pick_any (A B : Option Addr) (c d n m : Nat) (l p : List Int) (i most : Int) (w : World) (hl : p.length = m) (h : Row w w.heap.size 1 (.slice B m d) m (p.map (Value.int .i64))) (hi : -9223372036854775808 ≤ i ∧ i ≤ 9223372036854775807) (hm : -9223372036854775808 ≤ most ∧ most ≤ 9223372036854775807) :
    Calls Try.prog 14 #[.agg #[.slice A n c, .slice B m d], .int .i64 i, .int .i64 most] w fun e w' => e = .returned (.int .i64 (pickZ p i most)) ∧ Below w.heap.size w w' := by
  have HE := Lib.hid (show pickZ p i most = choiceZ p i most by unfold pickZ choiceZ; rfl)
  have HR := Lib.hid (fun (o : Obj) => (h.alloc (Nat.le_refl _) o).more (show w.heap.size ≤ (w.alloc o).heap.size by simp))
  have HL := Lib.hid hl
  clear h hl
  go_enter Try.func14, Try.ntmps14
  go_wp2_with fail
  refine (choice_any B d m p i most _ HL.out (HR.out _) hi hm).mono ?_
  rintro e w1 ⟨rfl, rfl⟩
  go_wp2_with fail
  go_ret
  exact ⟨ret_int HE.out.symm, (Below.refl _ _).alloc (Nat.le_refl _) _⟩
end Go.Proofs.Ythhoigkmmlkfcaa.Words

/- Contract of package banks: waits, the places of those that a bank may begin. -/
namespace Go.Proofs.Ythhoigkmmlkfcaa.Words
set_option maxRecDepth 100000
open Go.RowKit
set_option linter.unusedVariables false
set_option linter.unusedSimpArgs false

def placesZ (n : Int) (b : Nat) (l : List Rqs) : List Nat := if busyZ n b l = true then [] else waitZ n b l
theorem busy_at {n : Int} {b : Nat} {l : List Rqs} {i : Nat} {q : Rqs} (h : l[i]? = some q) (hb : atBank n b q = true) (hp : 0 < q.left) : placesZ n b l = [] := by
  unfold placesZ
  rw [if_pos]
  unfold busyZ
  rw [List.any_eq_true]
  exact ⟨q, List.mem_of_getElem? h, by rw [hb, decide_eq_true hp]; rfl⟩
set_option maxHeartbeats 4000000 in
theorem waits_any (A : Option Addr) (c m : Nat) (l : List Rqs) (b : Nat) (n : Int) (w : World) (hl : l.length = m) (hr : Row w w.heap.size 8 (.slice A m c) m (flat rqsL l)) (hm : m ≤ 100000) (hq : ∀ q ∈ l, q.Fits) (hn : -9223372036854775808 ≤ n ∧ n ≤ 9223372036854775807) (hb : b ≤ 1000) :
    Calls Try.prog 36 #[.slice A m c, .int .i64 b, .int .i64 n] w fun e w' => ∃ v', e = .returned v' ∧ w'.ownsRow w.heap.size 3 1 v' (placesZ n b l).length (natV (placesZ n b l)) ∧ Below w.heap.size w w' := by
  obtain ⟨ii, hii, q0, q1, q2⟩ := parts_int
  have HIi := Lib.hid hii
  have HAi := Lib.hid q0
  have HBi := Lib.hid q1
  have HCi := Lib.hid q2
  have HL := Lib.hid hl
  have HR := Lib.hid hr
  have HQ := Lib.hid hq
  have HN := Lib.hid hn
  have hcap := hr.cap
  have kb : (0 : Int) ≤ b := by omega
  clear hii q0 q1 q2 hl hr hq hn
  go_enter Try.func36, Try.ntmps36
  go_wp2_with fail
  go_loopw [7, 12] (fun vw vi wq => ∃ i : Nat, i ≤ m ∧ vi = .int .i64 i ∧ busyTo n b l i = false ∧ wq.ownsRow w.heap.size 3 1 vw (waitTo n b l i).length (natV (waitTo n b l i)) ∧ Below w.heap.size w wq) (fun _ vi _ => m - (intOf vi).toNat)
  case atStart => exact ⟨0, Nat.zero_le _, rfl, by simp [busyTo, busyZ], by rw [show waitTo n b l 0 = [] from rfl]; exact World.ownsRow_nil _ _ _ _, Below.refl _ _⟩
  case round =>
    obtain ⟨i, hi, rfl, hbz0, hO, hB⟩ := hrel
    have hwl := waitTo_len n b l i
    have HBT := Lib.hid (fun q (h : l[i]? = some q) => busyTo_step (n := n) (b := b) h)
    have HWT := Lib.hid (fun q (h : l[i]? = some q) => waitTo_step (n := n) (b := b) h)
    obtain ⟨wz, hwz⟩ : ∃ wz, wz = waitTo n b l i := ⟨_, rfl⟩
    rw [hbz0] at HBT
    rw [← hwz] at hO hwl HWT
    have HBZ := Lib.hid hbz0
    have HWZ := Lib.hid hwz
    have O5 := Lib.hid hO
    have B5 := Lib.hid hB
    obtain ⟨Aw, cw, rfl⟩ := (Row.of_own hO).form
    have hsz5 := hB.size
    clear hbz0 hwz hO hB
    by_cases hil : i < m
    · obtain ⟨q, hq⟩ : ∃ q, l[i]? = some q := ⟨_, List.getElem?_eq_getElem (by rw [HL.out]; exact hil)⟩
      have hqf := HQ.out q (List.mem_of_getElem? hq)
      have hrow := HR.out.below B5.out
      obtain ⟨g5, o5, rfl, hg5, _⟩ := hrow.at_ (by omega)
      obtain ⟨d0, d1, d2, d3, d4, d5, d6, d7⟩ := hrow.rqs hq
      have hb1 := HBT.out q hq
      have hw1 := HWT.out q hq
      have haf := hqf.2.1
      have k0 : (0 : Int) ≤ i := by omega
      have k1 : (i : Int) < m := by omega
      have HQI := Lib.hid hq
      have HQF := Lib.hid hqf
      clear hrow hq hqf
      have HB2 := Lib.hid (fun (o : Obj) => (Below.refl wr.heap.size wr).alloc (Nat.le_refl _) o)
      have hgw : g5 < wr.heap.size := Nat.lt_of_lt_of_le hg5 hsz5
      cases hbk2 : (bankZ q.addr n == (b : Int))
      · have hab : atBank n b q = false := decide_eq_false (by simpa using hbk2)
        rw [hab] at hb1
        simp only [Bool.false_and, Bool.or_false] at hb1
        rw [show waitB n b q = false by unfold waitB; rw [hab]; rfl] at hw1
        simp only [Bool.false_eq_true, if_false, List.append_nil] at hw1
        have HB1 := Lib.hid hb1
        have HW1 := Lib.hid hw1
        have hnb : ¬ bankZ q.addr n = (b : Int) := by simpa using hbk2
        clear hb1 hw1 hab
        go_wp2_with fail
        refine (bank_any q.addr n _ haf HN.out).mono ?_
        rintro e w2 ⟨rfl, rfl⟩
        go_wp2_with fail
        go_roundw
        case rel => exact ⟨i + 1, by omega, by go_num, HB1.out, by rw [HW1.out]; exact own_below O5.out (HB2.out _), B5.out.trans ((HB2.out _).mono hsz5)⟩
        case measure => simp [intOf]; omega
      · have hab : atBank n b q = true := decide_eq_true (by simpa using hbk2)
        have heb : bankZ q.addr n = (b : Int) := by simpa using hbk2
        by_cases hpos : 0 < q.left
        · have HPL := Lib.hid (busy_at HQI.out hab hpos)
          clear hb1 hw1 hab
          go_wp2_with fail
          refine (bank_any q.addr n _ haf HN.out).mono ?_
          rintro e w2 ⟨rfl, rfl⟩
          rw [heb]
          go_wp2_with fail
          refine bodyPost_ret (v := .slice none 0 0) (by simp [results, Try.results36, go_sem]) rfl ⟨_, rfl, ?_, B5.out.trans ((HB2.out _).mono hsz5)⟩
          rw [HPL.out]
          exact World.ownsRow_nil _ _ _ _
        · rw [hab] at hb1
          simp only [Bool.true_and] at hb1
          have hwb : waitB n b q = decide (q.left = 0) := by unfold waitB; rw [hab]; rfl
          rw [hwb] at hw1
          rw [decide_eq_false hpos, Bool.or_false] at hb1
          clear hab hwb
          by_cases hz : q.left = 0
          · rw [if_pos (by simp [hz])] at hw1
            have HB1 := Lib.hid hb1
            have HW1 := Lib.hid hw1
            have HWL := Lib.hid hwl
            rw [hz] at d5
            clear hb1 hw1 hz hpos hwl
            obtain ⟨R, hR⟩ : ∃ R, R = (wr.alloc (.cells #[.bool q.store, .int .i64 q.op, .int .i64 q.addr, .int .i64 q.size, .int .u32 q.val, .int .i64 0, .int .i64 q.reg, .int .i64 q.tag] 54)).alloc (.cells #[.int .i64 i] 3) := ⟨_, rfl⟩
            have hbR : Below wr.heap.size wr R := by rw [hR]; exact ((Below.refl _ _).alloc (Nat.le_refl _) _).alloc (by simp) _
            have O6 := Lib.hid (own_below O5.out hbR)
            have B6 := Lib.hid (B5.out.trans (hbR.mono hsz5))
            have R6 : Hid (Row R (wr.heap.size + 2) 1 (.slice (some ⟨wr.heap.size + 1, 0, none⟩) 1 1) 1 [.int .i64 i]) := by
              rw [hR]
              have h9 := row_new (wr.alloc (.cells #[.bool q.store, .int .i64 q.op, .int .i64 q.addr, .int .i64 q.size, .int .u32 q.val, .int .i64 0, .int .i64 q.reg, .int .i64 q.tag] 54)) [.int .i64 i] 1 rfl (by omega) 3
              have h10 : (wr.alloc (.cells #[.bool q.store, .int .i64 q.op, .int .i64 q.addr, .int .i64 q.size, .int .u32 q.val, .int .i64 0, .int .i64 q.reg, .int .i64 q.tag] 54)).heap.size = wr.heap.size + 1 := by simp
              rw [h10] at h9
              exact h9
            have hsR := B6.out.size
            clear hbR
            go_wp2_with fail
            refine (bank_any q.addr n _ haf HN.out).mono ?_
            rintro e w2 ⟨rfl, rfl⟩
            rw [heb]
            go_wp2_with (first
              | (rw [← hR]; clear hR)
              | (refine wpList_append_new _ rfl (.tmp 29) (.tmp 31) 24 rfl w.heap.size 3 ii _ 1 8 Try.underlying24 HIi.out HAi.out HBi.out HCi.out rfl (by omega) (.slice Aw wz.length cw) wz.length (natV wz) rfl O6.out _ (.slice (some ⟨wr.heap.size + 1, 0, none⟩) 1 1) 1 [.int .i64 i] rfl R6.out (by intro u hu; rw [List.mem_singleton.1 hu]; rfl) (by unfold maxLen; have := HWL.out; omega) (by have := HWL.out; omega) (by omega) ?_; intro v7 w7 hO hg hn2; obtain ⟨A7, c7, rfl⟩ := (Row.of_own hO).form; have O7 := Lib.hid hO; have B7 := Lib.hid (Below.grown B6.out hg B6.out.size (fun z hz => (O6.out.lt z hz).1)); clear hO hg hn2))
            go_roundw
            case rel => exact ⟨i + 1, by omega, by go_num, HB1.out, by rw [HW1.out, List.length_append, ← natV_app]; exact O7.out, B7.out⟩
            case measure => simp [intOf]; omega
          · rw [if_neg (by simp [hz]), List.append_nil] at hw1
            have hl0 : (q.left == 0) = false := by rw [beq_eq_false_iff_ne]; exact hz
            have HB1 := Lib.hid hb1
            have HW1 := Lib.hid hw1
            clear hb1 hw1
            go_wp2_with fail
            refine (bank_any q.addr n _ haf HN.out).mono ?_
            rintro e w2 ⟨rfl, rfl⟩
            rw [heb]
            go_wp2_with fail
            go_roundw
            case rel => exact ⟨i + 1, by omega, by go_num, HB1.out, by rw [HW1.out]; exact own_below O5.out (HB2.out _), B5.out.trans ((HB2.out _).mono hsz5)⟩
            case measure => simp [intOf]; omega
    · have him : i = m := by omega
      have HPL : Hid (placesZ n b l = wz) := by
        show placesZ n b l = wz
        unfold placesZ
        rw [busy_all, HL.out, ← him, if_neg (by rw [HBZ.out]; simp), wait_all, HL.out, ← him, HWZ.out]
      clear him
      go_wp2_with fail
      refine bodyPost_ret (v := .slice Aw wz.length cw) (by simp [results, Try.results36, go_sem]) rfl ⟨_, rfl, ?_, B5.out⟩
      rw [HPL.out]
      exact O5.out
end Go.Proofs.Ythhoigkmmlkfcaa.Words

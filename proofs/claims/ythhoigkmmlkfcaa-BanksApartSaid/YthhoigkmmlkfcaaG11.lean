/- Several texts in one: BnkBegin, BnkCopied, BanksAny, StaZero, BnkWork, BnkAnswer, BnkAlive. -/
import Derived.Test.YthhoigkmmlkfcaaG10
import Derived.Test.YthhoigkmmlkfcaaG04
import Derived.Test.YthhoigkmmlkfcaaG01
import Derived.Test.YthhoigkmmlkfcaaG09

/- Contract of package banks: begin, one bank. -/
namespace Go.Proofs.Ythhoigkmmlkfcaa.Words
set_option maxRecDepth 100000
open Go.RowKit
set_option linter.unusedVariables false
set_option linter.unusedSimpArgs false

theorem places_nil {c : Cfg} {lats picks : List Int} {x : Sta} {b : Nat} (h : placesZ c.banks b x.table = []) : beginZ c lats picks (x, x.table) b = (x, x.table) := by
  refine begin_skip ?_
  unfold placesZ at h
  split at h
  · rename_i hb; exact .inl hb
  · exact .inr (by rw [show waitZ c.banks b x.table = [] from h]; rfl)
theorem places_some {n : Int} {b : Nat} {l : List Rqs} {p : Nat} {ps : List Nat} (h : placesZ n b l = p :: ps) : busyZ n b l = false ∧ waitZ n b l = p :: ps := by
  unfold placesZ at h
  split at h
  · cases h
  · rename_i hb; exact ⟨by simpa using hb, h⟩
theorem places_mem {n : Int} {b : Nat} {l : List Rqs} {k : Nat} (h : k ∈ placesZ n b l) : k < l.length ∧ ∃ q, l[k]? = some q := by
  unfold placesZ at h
  split at h
  · cases h
  · rw [wait_all] at h
    obtain ⟨h1, q, h2, _⟩ := waitTo_mem h
    exact ⟨h1, q, h2⟩
theorem places_len (n : Int) (b : Nat) (l : List Rqs) : (placesZ n b l).length ≤ l.length := by
  unfold placesZ
  split
  · simp
  · rw [wait_all]; exact waitTo_len _ _ _ _
/-- One of the requests begins. -/
theorem OutS.mark {base ob : Nat} {v : Vs} {x : Sta} {W : World} {g m cap p : Nat} {q : Rqs} {n : Int} (h : OutS base ob v x W) (hv : v.table = .slice (some ⟨g, 0, none⟩) m cap) (hm : x.table.length = m) (hq : x.table[p]? = some q) :
    OutS base ob v { x with table := x.table.set p { q with left := n } } (W.setCell ⟨g, p * 8 + 5, none⟩ (.int .i64 n)) := by
  have hp := (List.getElem?_eq_some_iff.1 hq).1
  have ho := h.own.table
  rw [hm, hv] at ho
  have h1 := own_setAt ho (p * 8 + 5) (by omega) (.int .i64 n)
  rw [flat_setG (f := rqsL) rqsL_len x.table p q { q with left := n } 5 (.int .i64 n) hq rfl (by omega)] at h1
  have hk : KeepS (fun j => j = g) W (W.setCell ⟨g, p * 8 + 5, none⟩ (.int .i64 n)) := (KeepS.refl (fun j => j = g) W).setCell (b := g) rfl _ _
  have ap : ∀ {e2 : TypeId} {s2 n2 : Nat} {u : Value} {ys : List Value}, W.ownsRow base e2 s2 u n2 ys → 54 ≠ e2 → ∀ g2, u.ownBlock = some g2 → ¬ g2 = g := fun h2 hne g2 h3 e => own_apart ho h2 hne (g := g) rfl (by rw [h3, e]; rfl)
  have hgo : ¬ ob = g := fun e => h.off v.table (by simp [vsL]) (by rw [hv, e]; rfl)
  refine ⟨h.bx.keepS hk hgo, ⟨own_keepS h.own.ldq hk (ap h.own.ldq (by decide)), own_keepS h.own.sdq hk (ap h.own.sdq (by decide)), own_keepS h.own.aeq hk (ap h.own.aeq (by decide)), own_keepS h.own.abq hk (ap h.own.abq (by decide)), own_keepS h.own.ebq hk (ap h.own.ebq (by decide)), h.own.saq.keepS hk (fun g2 h3 e => h.own.saq.apart ho (by decide) g2 h3 (by rw [e]; rfl)), ?_, own_keepS h.own.mem hk (ap h.own.mem (by decide)), own_keepS h.own.ws hk (ap h.own.ws (by decide)), h.own.words, h.own.bools⟩, h.off, h.hb⟩
  show World.ownsRow _ base 54 8 v.table (x.table.set p { q with left := n }).length _
  rw [List.length_set, hm, hv]
  exact h1
set_option maxHeartbeats 8000000 in
theorem begin_any (c : Cfg) (A B : Option Addr) (ca cb : Nat) (lats picks : List Int) (x : Sta) (v : Vs) (b base ob : Nat) (w : World) (hx : x.Ok) (hO : OutS base ob v x w) (hb : base ≤ w.heap.size) (hl : Row w base 1 (.slice A lats.length ca) lats.length (lats.map (Value.int .i64))) (hp : Row w base 1 (.slice B picks.length cb) picks.length (picks.map (Value.int .i64)))
    (ht : x.table.length ≤ 100000) (hq : ∀ q ∈ x.table, q.Fits) (hnum : NumOk x) (hbk : 1 ≤ c.banks ∧ c.banks ≤ 16) (hlk : 1 ≤ c.lat ∧ c.lat ≤ 1000) (hb16 : b ≤ 1000) :
    Calls Try.prog 29 #[.pointer (some ⟨ob, 0, none⟩), .agg #[.int .i64 c.ldq, .int .i64 c.sdq, .int .i64 c.aeq, .int .i64 c.abq, .int .i64 c.ebq, .int .i64 c.saq, .int .i64 c.banks, .int .i64 c.flight, .int .i64 c.slip, .int .i64 c.lat, .int .i64 c.mul, .int .i64 c.div], .agg #[.slice A lats.length ca, .slice B picks.length cb], .int .i64 b] w (OnOut w base ob { (beginZ c lats picks (x, x.table) b).1 with table := (beginZ c lats picks (x, x.table) b).2 }) := by
  obtain ⟨W, hW⟩ : ∃ W, W = (w.alloc (.cells #[.int .i64 c.ldq, .int .i64 c.sdq, .int .i64 c.aeq, .int .i64 c.abq, .int .i64 c.ebq, .int .i64 c.saq, .int .i64 c.banks, .int .i64 c.flight, .int .i64 c.slip, .int .i64 c.lat, .int .i64 c.mul, .int .i64 c.div] 23)).alloc (.cells #[.slice A lats.length ca, .slice B picks.length cb] 26) := ⟨_, rfl⟩
  have hbW : Below w.heap.size w W := by rw [hW]; exact ((Below.refl _ _).alloc (Nat.le_refl _) _).alloc (by simp) _
  have HC : Hid (Box W w.heap.size (cfgCells c)) := by rw [hW]; exact (Box.new w (cfgCells c) _).alloc _
  have HS : Hid (Box W (w.heap.size + 1) [.slice A lats.length ca, .slice B picks.length cb]) := by
    rw [hW]
    have h9 := Box.new (w.alloc (.cells #[.int .i64 c.ldq, .int .i64 c.sdq, .int .i64 c.aeq, .int .i64 c.abq, .int .i64 c.ebq, .int .i64 c.saq, .int .i64 c.banks, .int .i64 c.flight, .int .i64 c.slip, .int .i64 c.lat, .int .i64 c.mul, .int .i64 c.div] 23)) [.slice A lats.length ca, .slice B picks.length cb] 26
    have h10 : (w.alloc (.cells #[.int .i64 c.ldq, .int .i64 c.sdq, .int .i64 c.aeq, .int .i64 c.abq, .int .i64 c.ebq, .int .i64 c.saq, .int .i64 c.banks, .int .i64 c.flight, .int .i64 c.slip, .int .i64 c.lat, .int .i64 c.mul, .int .i64 c.div] 23)).heap.size = w.heap.size + 1 := by simp
    rw [h10] at h9
    exact h9
  have HO := Lib.hid (hO.below hbW)
  have HBW := Lib.hid (hbW.mono hb)
  have HX := Lib.hid hx
  have HL := Lib.hid hl
  have HP := Lib.hid hp
  have HQ := Lib.hid hq
  have HT := Lib.hid ht
  have HNUM := Lib.hid hnum
  have hbl := hbW.size
  have HNB : Hid (ob < w.heap.size) := hO.bx.lt
  have hob : ob < W.heap.size := HO.out.bx.lt
  have hc0 : w.heap.size < W.heap.size := HC.out.lt
  have hs0 : w.heap.size + 1 < W.heap.size := HS.out.lt
  have hbs : base ≤ W.heap.size := Nat.le_trans hb hbl
  obtain ⟨A9, c9, e9⟩ := (Row.of_own HO.out.own.table).form
  obtain ⟨n, hn⟩ : ∃ n, n = x.table.length := ⟨_, rfl⟩
  rw [← hn] at e9
  have HN := Lib.hid hn
  have kb : (0 : Int) ≤ b := by omega
  have hcf : -9223372036854775808 ≤ c.banks ∧ c.banks ≤ 9223372036854775807 := by omega
  have hlf : -9223372036854775808 ≤ c.lat ∧ c.lat ≤ 9223372036854775807 := by omega
  clear hO hbW hx hl hp hq ht hnum hn
  go_enter Try.func29, Try.ntmps29
  go_wp2_with (first | (rw [← hW]; clear hW))
  have HF1 := Lib.hid (fun (y : World) (h : Kept W y) => h.cell hob (show W.cell? ⟨ob, 83, none⟩ = some (.slice A9 n c9) by rw [← e9]; exact HO.out.bx.cell (sta_table HX.out)))
  have HF2 := Lib.hid (fun (y : World) (h : Kept W y) => h.cell hc0 (HC.out.cell (k := 6) (v := .int .i64 c.banks) rfl))
  refine wp_region_lin [(0, true), (1, true), (2, true), (3, true), (4, true), (5, true), (6, true), (7, false), (8, true)]
    (by kernel_rfl) (by kernel_rfl) rfl (by kernel_rfl) (Kept W) ?_
  simp only [List.map_cons, List.map_nil, List.getElem?_toArray, List.getElem?_cons_succ, List.getElem?_cons_zero]
  have hS0 : Kept W W.drew := (Kept.refl W).drew
  iterate 7 (refine lin_take (v := ?_) hS0 (by rfl) ?_ ?_; rotate_left; (intro y hy; have q0 := HF1.out y hy; have q1 := HF2.out y hy; go_simp; try (with_reducible rfl)); (try simp only [Act.put, List.setIfInBounds_toArray, List.set_cons_zero, List.set_cons_succ]))
  refine lin_call hS0 (by rfl) (fun K hK => ?_)
  go_simp
  refine (waits_any A9 c9 n x.table b c.banks W.drew HN.out.symm (by have h9 := Row.of_own (HO.out.below (Y := W.drew) (Below.refl _ _).drew).own.table; rw [e9, ← HN.out] at h9; exact h9) (by have := HT.out; have := HN.out; omega) HQ.out hcf hb16).mono ?_
  rintro e y1 ⟨u1, rfl, o1, b1⟩
  have hS1 : Kept W y1 := hS0.to b1
  have O1 := Lib.hid ((HO.out.below (Y := W.drew) (Below.refl _ _).drew).below b1)
  have B1 := Lib.hid (HBW.out.trans (((Below.refl _ _).drew.trans b1).mono hbs))
  have HC1 := Lib.hid (HC.out.keptB hS1)
  have HS1 := Lib.hid (HS.out.keptB hS1)
  obtain ⟨PL, hPL⟩ : ∃ PL, PL = placesZ c.banks b x.table := ⟨_, rfl⟩
  rw [← hPL] at o1
  obtain ⟨Aw, cw, rfl⟩ := (Row.of_own o1).form
  have hpl := places_len c.banks b x.table
  rw [← hPL, ← HN.out] at hpl
  have hnl := HT.out
  rw [← HN.out] at hnl
  have N1 := Lib.hid o1
  have HPL := Lib.hid hPL
  clear b1 o1 hPL
  go_wp2_with fail
  refine hK.out _ _ hS1 (fun _ => ?_)
  clear hK K hS0
  try simp only [Act.put, List.setIfInBounds_toArray, List.set_cons_zero, List.set_cons_succ]
  iterate 1 (refine lin_take (v := ?_) hS1 (by rfl) ?_ ?_; rotate_left; (intro y hy; go_simp; try (with_reducible rfl)); (try simp only [Act.put, List.setIfInBounds_toArray, List.set_cons_zero, List.set_cons_succ]))
  refine lin_done ?_
  clear hS1 HF1 HF2
  have hy1 : w.heap.size + 1 < y1.heap.size := HS1.out.lt
  have hoy1 : ob < y1.heap.size := O1.out.bx.lt
  cases PL with
  | nil =>
    have HBN := Lib.hid (places_nil (c := c) (lats := lats) (picks := picks) HPL.out.symm)
    go_wp2_with fail
    have HE : Hid (OnOut w base ob { (beginZ c lats picks (x, x.table) b).1 with table := (beginZ c lats picks (x, x.table) b).2 } (.returned (.tuple #[])) y1) := by
      rw [HBN.out]
      exact ⟨rfl, _, O1.out, B1.out⟩
    first | exact bodyPost_ret (v := .tuple #[]) (by simp [results, Try.results29, go_sem]) rfl HE.out | exact bodyPost_end (v := .tuple #[]) (by simp [results, Try.results29, go_sem]) rfl HE.out
  | cons p ps =>
    obtain ⟨hbf, hwf⟩ := places_some HPL.out.symm
    have HBF := Lib.hid hbf
    have HWF := Lib.hid hwf
    obtain ⟨gw, hAw, hgw, hgwl⟩ := own_form0 N1.out (by simp)
    subst hAw
    have RW1 := Lib.hid (Row.of_own N1.out)
    have hw0 := RW1.out.cells _ rfl 0 (.int .i64 p) rfl
    rw [add_spot] at hw0
    clear hbf hwf
    cases ps with
    | nil =>
      obtain ⟨_, q, hq0⟩ := places_mem (n := c.banks) (b := b) (l := x.table) (k := p) (by rw [← HPL.out]; simp)
      have HQP := Lib.hid hq0
      have HBN := Lib.hid (begin_one (c := c) (lats := lats) (picks := picks) (p := (x, x.table)) HBF.out HWF.out)
      clear hq0
      dsimp only [List.length_singleton] at hw0 hpl ⊢
      have kpp : (0 : Int) ≤ p := by omega
      go_wp2_with fail
      clear hw0
      obtain ⟨g9, hA9, hg9, hgl9⟩ := own_form0 (by have h9 : y1.ownsRow base 54 8 v.table x.table.length (flat rqsL x.table) := O1.out.own.table; rw [e9, ← HN.out] at h9; exact h9) (by have := HN.out; have := (List.getElem?_eq_some_iff.1 HQP.out).1; omega)
      subst hA9
      have kp0 : (0 : Int) ≤ p := by omega
      have kp1 : ((p : Nat) : Int) < n := by have h8 := (List.getElem?_eq_some_iff.1 HQP.out).1; have := HN.out; omega
      have hc9 : w.heap.size < y1.heap.size := HC1.out.lt
      have hs9 : w.heap.size + 1 < y1.heap.size := HS1.out.lt
      have ho9 : ob < y1.heap.size := O1.out.bx.lt
      have HG1 := Lib.hid (fun (y : World) (h : Kept y1 y) => h.cell ho9 (show y1.cell? ⟨ob, 83, none⟩ = some (.slice (some ⟨g9, 0, none⟩) n c9) by rw [← e9]; exact O1.out.bx.cell (sta_table HX.out)))
      have HG2 := Lib.hid (fun (y : World) (h : Kept y1 y) => h.cell ho9 (show y1.cell? ⟨ob, 89, none⟩ = some (.int .i64 x.lats) from O1.out.bx.cell (sta_lats HX.out)))
      have HG3 := Lib.hid (fun (y : World) (h : Kept y1 y) => h.cell hc9 (HC1.out.cell (k := 9) (v := .int .i64 c.lat) rfl))
      refine wp_region_last [(0, true), (1, true), (2, true), (3, true), (4, true), (5, true), (6, true), (7, true), (8, true), (9, true), (10, true), (11, true), (12, false), (13, true), (14, true)] 15 []
        rfl (by kernel_rfl) (by kernel_rfl) rfl (by kernel_rfl) (by kernel_rfl) (by kernel_rfl) (by kernel_rfl) (Kept y1) ?_
      simp only [List.map_cons, List.map_nil, List.getElem?_toArray, List.getElem?_cons_succ, List.getElem?_cons_zero]
      have hU0 : Kept y1 y1.drew := (Kept.refl y1).drew
      iterate 5 (refine lin_take (v := ?_) hU0 (by rfl) ?_ ?_; rotate_left; (intro y hy; have q0 := HG1.out y hy; go_simp; try (with_reducible rfl)); (try simp only [Act.put, List.setIfInBounds_toArray, List.set_cons_zero, List.set_cons_succ]))
      refine lin_takeB hU0 (by rfl) 26 (.tmp 6) rfl (w.heap.size + 1) 0 rfl [.slice A lats.length ca, .slice B picks.length cb] [.slice A lats.length ca, .slice B picks.length cb] (fun y hy => HS1.out.keptB hy) wholeB _ Try.underlying26 rfl 2 (by kernel_rfl) rfl ?_
      (try simp only [Act.put, List.setIfInBounds_toArray, List.set_cons_zero, List.set_cons_succ])
      iterate 6 (refine lin_take (v := ?_) hU0 (by rfl) ?_ ?_; rotate_left; (intro y hy; have q0 := HG2.out y hy; have q1 := HG3.out y hy; go_simp; try (with_reducible rfl)); (try simp only [Act.put, List.setIfInBounds_toArray, List.set_cons_zero, List.set_cons_succ]))
      refine lin_call hU0 (by rfl) (fun K hK => ?_)
      go_simp
      refine (lat_any A B ca cb lats.length picks.length lats picks x.lats c.lat y1.drew rfl ((HL.out.below B1.out).more (by have := O1.out.hb; show base ≤ y1.heap.size; omega)) HNUM.out.1 hlf).mono ?_
      rintro e z1 ⟨rfl, bz⟩
      have hU1 : Kept y1 z1 := hU0.to bz
      have OZ := Lib.hid ((O1.out.below (Y := y1.drew) (Below.refl _ _).drew).below bz)
      have BZ := Lib.hid (B1.out.trans (((Below.refl _ _).drew.trans bz).mono (show base ≤ y1.heap.size by have := O1.out.hb; omega)))
      clear bz
      go_wp2_with fail
      refine hK.out _ _ hU1 (fun _ => ?_)
      clear hK K hU0
      (try simp only [Act.put, List.setIfInBounds_toArray, List.set_cons_zero, List.set_cons_succ])
      iterate 2 (refine lin_take (v := ?_) hU1 (by rfl) ?_ ?_; rotate_left; (intro y hy; go_simp; try (with_reducible rfl)); (try simp only [Act.put, List.setIfInBounds_toArray, List.set_cons_zero, List.set_cons_succ]))
      have hrow9 : Row z1 z1.heap.size 8 v.table x.table.length (flat rqsL x.table) := Row.of_own OZ.out.own.table
      rw [e9, ← HN.out] at hrow9
      have c9x := (Row.rqs hrow9 HQP.out).2.2.2.2.2.1
      rw [Nat.zero_add] at c9x
      have f9x := own_thaw (by have h9 : z1.ownsRow base 54 8 v.table x.table.length (flat rqsL x.table) := OZ.out.own.table; rw [e9, ← HN.out] at h9; exact h9) (p * 8 + 5)
      refine last_set_cell (by rfl) 3 _ _ rfl g9 (p * 8 + 5) (.int .i64 (latsZ lats x.lats c.lat)) _ (by go_simp) (by go_simp) rfl c9x f9x (by kernel_rfl) ?_
      have S10 := Lib.hid (OZ.out.mark (n := latsZ lats x.lats c.lat) e9 HN.out.symm HQP.out)
      have B10 := Lib.hid (BZ.out.setCell (p := ⟨g9, p * 8 + 5, none⟩) hg9 (.int .i64 (latsZ lats x.lats c.lat)))
      obtain ⟨z2, hz2⟩ : ∃ z2, z2 = z1.setCell ⟨g9, p * 8 + 5, none⟩ (.int .i64 (latsZ lats x.lats c.lat)) := ⟨_, rfl⟩
      rw [← hz2] at S10 B10 ⊢
      clear hz2 c9x f9x hrow9 hU1 HG1 HG2 HG3
      (try simp only [Act.put, List.setIfInBounds_toArray, List.set_cons_zero, List.set_cons_succ])
      have OK10 : Hid (Sta.Ok { x with table := x.table.set p { q with left := latsZ lats x.lats c.lat } }) := ⟨HX.out.a, HX.out.e⟩
      have t9 : z2.cell? ⟨ob, 89, none⟩ = some (.int .i64 x.lats) := S10.out.bx.cell (sta_lats OK10.out)
      have hz10 := S10.out.bx.lt
      go_wp2_with (first
        | (refine wpList_put_cell rfl 3 _ _ rfl ob 89 (.int .i64 (wrap64 (x.lats + 1))) rfl rfl rfl _ S10.out.bx (by rw [staL_len OK10.out]; omega) (by kernel_rfl) ?_; intro z3 hbx hg; rw [set_lats OK10.out] at hbx; have S11 := Lib.hid (S10.out.put (x' := { x with table := x.table.set p { q with left := latsZ lats x.lats c.lat }, lats := wrap64 (x.lats + 1) }) hbx hg (S10.out.own.same rfl rfl rfl rfl rfl rfl rfl rfl rfl) S10.out.off); have B11 := Lib.hid (Below.grown B10.out hg (by have := S10.out.hb; omega) (fun z hz => by injection hz with hz; have := S10.out.hb; omega)); clear hbx hg))
      have HE : Hid (OnOut w base ob { (beginZ c lats picks (x, x.table) b).1 with table := (beginZ c lats picks (x, x.table) b).2 } (.returned (.tuple #[])) z3) := by
        rw [HBN.out, setLeft_at _ HQP.out]
        exact ⟨rfl, _, S11.out, B11.out⟩
      first | exact bodyPost_ret (v := .tuple #[]) (by simp [results, Try.results29, go_sem]) rfl HE.out | exact bodyPost_end (v := .tuple #[]) (by simp [results, Try.results29, go_sem]) rfl HE.out
    | cons p1 ps =>
      obtain ⟨L, hL⟩ : ∃ L, L = p :: p1 :: ps := ⟨_, rfl⟩
      obtain ⟨wn, hwn⟩ : ∃ wn, wn = L.length := ⟨_, rfl⟩
      have hwn2 : 2 ≤ wn := by rw [hwn, hL]; simp
      rw [← hL] at HPL HWF N1 hpl RW1 ⊢
      rw [← hwn] at N1 hpl RW1 ⊢
      have HWN := Lib.hid hwn
      have hpk := pickZ_range picks x.picks wn (by omega)
      obtain ⟨k, hk⟩ : ∃ k : Nat, pickZ picks x.picks wn = k := ⟨(pickZ picks x.picks wn).toNat, by omega⟩
      have hkn : k < wn := by omega
      have hpm : L.getD k 0 ∈ L := by rw [List.getD_eq_getElem?_getD, List.getElem?_eq_getElem (by omega)]; exact List.getElem_mem _
      obtain ⟨hpn, q, hq0⟩ := places_mem (n := c.banks) (b := b) (l := x.table) (k := L.getD k 0) (by rw [← HPL.out]; exact hpm)
      have HBN := Lib.hid (begin_more (c := c) (lats := lats) (picks := picks) (p := (x, x.table)) HBF.out HWF.out (by rw [← hwn]; omega) (by rw [← hwn]; exact hk))
      have hw0b := RW1.out.cells _ rfl 0 (.int .i64 p) (by rw [hL]; rfl)
      rw [add_spot] at hw0b
      have hwk := RW1.out.cells _ rfl k (.int .i64 ((L.getD k 0 : Nat) : Int)) (natV_at (by omega))
      rw [add_spot, Nat.zero_add] at hwk
      obtain ⟨pk, hpk3⟩ : ∃ pk, pk = L.getD k 0 := ⟨_, rfl⟩
      rw [← hpk3] at hwk hq0 hpn HBN
      have HQP := Lib.hid hq0
      have HK := Lib.hid hk
      have HWK := Lib.hid hwk
      have kk0 : (0 : Int) ≤ k := by omega
      have kk1 : (k : Int) < wn := by omega
      have kn2 : (1 : Int) < wn := by omega
      have kw0 : ((wn : Int) == 0) = false := by rw [beq_eq_false_iff_ne]; omega
      clear hpm hpk3 hL hwn hq0 hk hpk hwk hw0
      try dsimp only
      go_wp2_with fail
      have HF3 := Lib.hid (fun (y : World) (h : Kept y1 y) => h.cell hoy1 (show y1.cell? ⟨ob, 90, none⟩ = some (.int .i64 x.picks) from O1.out.bx.cell (sta_picks HX.out)))
      have HF4 := Lib.hid (fun (y : World) (h : Kept y1 y) => h.cell hgwl HWK.out)
      refine wp_region_lin [(0, true), (1, true), (2, true), (3, true), (4, true), (5, true), (6, true), (7, true), (8, false), (9, true), (10, true), (11, true)]
        (by kernel_rfl) (by kernel_rfl) rfl (by kernel_rfl) (Kept y1) ?_
      simp only [List.map_cons, List.map_nil, List.getElem?_toArray, List.getElem?_cons_succ, List.getElem?_cons_zero]
      have hT0 : Kept y1 y1.drew := (Kept.refl y1).drew
      iterate 1 (refine lin_take (v := ?_) hT0 (by rfl) ?_ ?_; rotate_left; (intro y hy; go_simp; try (with_reducible rfl)); (try simp only [Act.put, List.setIfInBounds_toArray, List.set_cons_zero, List.set_cons_succ]))
      refine lin_takeB hT0 (by rfl) 26 (.tmp 6) rfl (w.heap.size + 1) 0 rfl [.slice A lats.length ca, .slice B picks.length cb] [.slice A lats.length ca, .slice B picks.length cb] (fun y hy => HS1.out.keptB hy) wholeB _ Try.underlying26 rfl 2 (by kernel_rfl) rfl ?_
      (try simp only [Act.put, List.setIfInBounds_toArray, List.set_cons_zero, List.set_cons_succ])
      iterate 6 (refine lin_take (v := ?_) hT0 (by rfl) ?_ ?_; rotate_left; (intro y hy; have q0 := HF3.out y hy; go_simp; try (with_reducible rfl)); (try simp only [Act.put, List.setIfInBounds_toArray, List.set_cons_zero, List.set_cons_succ]))
      refine lin_call hT0 (by rfl) (fun K hK => ?_)
      go_simp
      refine (pick_any A B ca cb lats.length picks.length lats picks x.picks wn y1.drew rfl ((HP.out.below B1.out).more (by have := O1.out.hb; show base ≤ y1.heap.size; omega)) HNUM.out.2 (by omega)).mono ?_
      rintro e y2 ⟨he2, b2⟩
      rw [HK.out] at he2
      subst he2
      have hT1 : Kept y1 y2 := hT0.to b2
      have O2 := Lib.hid ((O1.out.below (Y := y1.drew) (Below.refl _ _).drew).below b2)
      have B2 := Lib.hid (B1.out.trans (((Below.refl _ _).drew.trans b2).mono (show base ≤ y1.heap.size by have := O1.out.hb; omega)))
      have HC2 := Lib.hid (HC1.out.keptB hT1)
      have HS2 := Lib.hid (HS1.out.keptB hT1)
      clear b2
      go_wp2_with fail
      refine hK.out _ _ hT1 (fun _ => ?_)
      clear hK K hT0
      try simp only [Act.put, List.setIfInBounds_toArray, List.set_cons_zero, List.set_cons_succ]
      iterate 3 (refine lin_take (v := ?_) hT1 (by rfl) ?_ ?_; rotate_left; (intro y hy; have q0 := HF4.out y hy; go_simp; try (with_reducible rfl)); (try simp only [Act.put, List.setIfInBounds_toArray, List.set_cons_zero, List.set_cons_succ]))
      refine lin_done ?_
      have t8 : y2.cell? ⟨ob, 90, none⟩ = some (.int .i64 x.picks) := O2.out.bx.cell (sta_picks HX.out)
      have hoy2 : ob < y2.heap.size := O2.out.bx.lt
      clear hT1 HF3 HF4 hw0b
      go_wp2_with (first
        | (refine wpList_put_cell rfl 3 _ _ rfl ob 90 (.int .i64 (wrap64 (x.picks + 1))) rfl rfl rfl _ O2.out.bx (by rw [staL_len HX.out]; omega) (by kernel_rfl) ?_; intro y3 hbx hg; rw [set_picks HX.out] at hbx; have O3 := Lib.hid (O2.out.put (x' := { x with picks := wrap64 (x.picks + 1) }) hbx hg (O2.out.own.same rfl rfl rfl rfl rfl rfl rfl rfl rfl) O2.out.off); have B3 := Lib.hid (Below.grown B2.out hg (by have := O2.out.hb; omega) (fun z hz => by injection hz with hz; have := O2.out.hb; omega)); have HC3 := Lib.hid (HC2.out.grown hg (fun e => by injection e with e; have := HNB.out; omega)); have HS3 := Lib.hid (HS2.out.grown hg (fun e => by injection e with e; have := HNB.out; omega)); clear hbx hg t8))
      have OK3 : Hid (Sta.Ok { x with picks := wrap64 (x.picks + 1) }) := ⟨HX.out.a, HX.out.e⟩
      obtain ⟨g9, hA9, hg9, hgl9⟩ := own_form0 (by have h9 : y3.ownsRow base 54 8 v.table x.table.length (flat rqsL x.table) := O3.out.own.table; rw [e9, ← HN.out] at h9; exact h9) (by have := HN.out; have := (List.getElem?_eq_some_iff.1 HQP.out).1; omega)
      subst hA9
      have kp0 : (0 : Int) ≤ pk := by omega
      have kp1 : ((pk : Nat) : Int) < n := by have h8 := (List.getElem?_eq_some_iff.1 HQP.out).1; have := HN.out; omega
      have hc9 : w.heap.size < y3.heap.size := HC3.out.lt
      have hs9 : w.heap.size + 1 < y3.heap.size := HS3.out.lt
      have ho9 : ob < y3.heap.size := O3.out.bx.lt
      have HG1 := Lib.hid (fun (y : World) (h : Kept y3 y) => h.cell ho9 (show y3.cell? ⟨ob, 83, none⟩ = some (.slice (some ⟨g9, 0, none⟩) n c9) by rw [← e9]; exact O3.out.bx.cell (sta_table OK3.out)))
      have HG2 := Lib.hid (fun (y : World) (h : Kept y3 y) => h.cell ho9 (show y3.cell? ⟨ob, 89, none⟩ = some (.int .i64 x.lats) from O3.out.bx.cell (sta_lats OK3.out)))
      have HG3 := Lib.hid (fun (y : World) (h : Kept y3 y) => h.cell hc9 (HC3.out.cell (k := 9) (v := .int .i64 c.lat) rfl))
      refine wp_region_last [(0, true), (1, true), (2, true), (3, true), (4, true), (5, true), (6, true), (7, true), (8, true), (9, true), (10, true), (11, true), (12, false), (13, true), (14, true)] 15 []
        rfl (by kernel_rfl) (by kernel_rfl) rfl (by kernel_rfl) (by kernel_rfl) (by kernel_rfl) (by kernel_rfl) (Kept y3) ?_
      simp only [List.map_cons, List.map_nil, List.getElem?_toArray, List.getElem?_cons_succ, List.getElem?_cons_zero]
      have hU0 : Kept y3 y3.drew := (Kept.refl y3).drew
      iterate 5 (refine lin_take (v := ?_) hU0 (by rfl) ?_ ?_; rotate_left; (intro y hy; have q0 := HG1.out y hy; go_simp; try (with_reducible rfl)); (try simp only [Act.put, List.setIfInBounds_toArray, List.set_cons_zero, List.set_cons_succ]))
      refine lin_takeB hU0 (by rfl) 26 (.tmp 6) rfl (w.heap.size + 1) 0 rfl [.slice A lats.length ca, .slice B picks.length cb] [.slice A lats.length ca, .slice B picks.length cb] (fun y hy => HS3.out.keptB hy) wholeB _ Try.underlying26 rfl 2 (by kernel_rfl) rfl ?_
      (try simp only [Act.put, List.setIfInBounds_toArray, List.set_cons_zero, List.set_cons_succ])
      iterate 6 (refine lin_take (v := ?_) hU0 (by rfl) ?_ ?_; rotate_left; (intro y hy; have q0 := HG2.out y hy; have q1 := HG3.out y hy; go_simp; try (with_reducible rfl)); (try simp only [Act.put, List.setIfInBounds_toArray, List.set_cons_zero, List.set_cons_succ]))
      refine lin_call hU0 (by rfl) (fun K hK => ?_)
      go_simp
      refine (lat_any A B ca cb lats.length picks.length lats picks x.lats c.lat y3.drew rfl ((HL.out.below B3.out).more (by have := O3.out.hb; show base ≤ y3.heap.size; omega)) HNUM.out.1 hlf).mono ?_
      rintro e z1 ⟨rfl, bz⟩
      have hU1 : Kept y3 z1 := hU0.to bz
      have OZ := Lib.hid ((O3.out.below (Y := y3.drew) (Below.refl _ _).drew).below bz)
      have BZ := Lib.hid (B3.out.trans (((Below.refl _ _).drew.trans bz).mono (show base ≤ y3.heap.size by have := O3.out.hb; omega)))
      clear bz
      go_wp2_with fail
      refine hK.out _ _ hU1 (fun _ => ?_)
      clear hK K hU0
      (try simp only [Act.put, List.setIfInBounds_toArray, List.set_cons_zero, List.set_cons_succ])
      iterate 2 (refine lin_take (v := ?_) hU1 (by rfl) ?_ ?_; rotate_left; (intro y hy; go_simp; try (with_reducible rfl)); (try simp only [Act.put, List.setIfInBounds_toArray, List.set_cons_zero, List.set_cons_succ]))
      have hrow9 : Row z1 z1.heap.size 8 v.table x.table.length (flat rqsL x.table) := Row.of_own OZ.out.own.table
      rw [e9, ← HN.out] at hrow9
      have c9x := (Row.rqs hrow9 HQP.out).2.2.2.2.2.1
      rw [Nat.zero_add] at c9x
      have f9x := own_thaw (by have h9 : z1.ownsRow base 54 8 v.table x.table.length (flat rqsL x.table) := OZ.out.own.table; rw [e9, ← HN.out] at h9; exact h9) (pk * 8 + 5)
      refine last_set_cell (by rfl) 3 _ _ rfl g9 (pk * 8 + 5) (.int .i64 (latsZ lats x.lats c.lat)) _ (by go_simp) (by go_simp) rfl c9x f9x (by kernel_rfl) ?_
      have S10 := Lib.hid (OZ.out.mark (n := latsZ lats x.lats c.lat) e9 HN.out.symm HQP.out)
      have B10 := Lib.hid (BZ.out.setCell (p := ⟨g9, pk * 8 + 5, none⟩) hg9 (.int .i64 (latsZ lats x.lats c.lat)))
      obtain ⟨z2, hz2⟩ : ∃ z2, z2 = z1.setCell ⟨g9, pk * 8 + 5, none⟩ (.int .i64 (latsZ lats x.lats c.lat)) := ⟨_, rfl⟩
      rw [← hz2] at S10 B10 ⊢
      clear hz2 c9x f9x hrow9 hU1 HG1 HG2 HG3
      (try simp only [Act.put, List.setIfInBounds_toArray, List.set_cons_zero, List.set_cons_succ])
      have OK10 : Hid (Sta.Ok { { x with picks := wrap64 (x.picks + 1) } with table := { x with picks := wrap64 (x.picks + 1) }.table.set pk { q with left := latsZ lats x.lats c.lat } }) := ⟨OK3.out.a, OK3.out.e⟩
      have t9 : z2.cell? ⟨ob, 89, none⟩ = some (.int .i64 x.lats) := S10.out.bx.cell (sta_lats OK10.out)
      have hz10 := S10.out.bx.lt
      go_wp2_with (first
        | (refine wpList_put_cell rfl 3 _ _ rfl ob 89 (.int .i64 (wrap64 (x.lats + 1))) rfl rfl rfl _ S10.out.bx (by rw [staL_len OK10.out]; omega) (by kernel_rfl) ?_; intro z3 hbx hg; rw [set_lats OK10.out] at hbx; have S11 := Lib.hid (S10.out.put (x' := { { x with picks := wrap64 (x.picks + 1) } with table := { x with picks := wrap64 (x.picks + 1) }.table.set pk { q with left := latsZ lats x.lats c.lat }, lats := wrap64 (x.lats + 1) }) hbx hg (S10.out.own.same rfl rfl rfl rfl rfl rfl rfl rfl rfl) S10.out.off); have B11 := Lib.hid (Below.grown B10.out hg (by have := S10.out.hb; omega) (fun z hz => by injection hz with hz; have := S10.out.hb; omega)); clear hbx hg))
      have HE : Hid (OnOut w base ob { (beginZ c lats picks (x, x.table) b).1 with table := (beginZ c lats picks (x, x.table) b).2 } (.returned (.tuple #[])) z3) := by
        rw [HBN.out, setLeft_at _ HQP.out]
        exact ⟨rfl, _, S11.out, B11.out⟩
      first | exact bodyPost_ret (v := .tuple #[]) (by simp [results, Try.results29, go_sem]) rfl HE.out | exact bodyPost_end (v := .tuple #[]) (by simp [results, Try.results29, go_sem]) rfl HE.out
end Go.Proofs.Ythhoigkmmlkfcaa.Words

/- Contract of package banks: copied, a state of its own memory. -/
namespace Go.Proofs.Ythhoigkmmlkfcaa.Words
set_option maxRecDepth 100000
open Go.RowKit
set_option linter.unusedVariables false
set_option linter.unusedSimpArgs false

set_option maxHeartbeats 4000000 in
theorem copiedB_any (x : Sta) (v : Vs) (w : World) (hx : x.Ok) (hv : StaV w w.heap.size v x) (hs : StaFew x) :
    Calls Try.prog 27 #[.agg (staL x v).toArray] w fun e w' => ∃ v', e = .returned (.agg (staL x v').toArray) ∧ StaOwn w' w.heap.size v' x ∧ Below w.heap.size w w' := by
  obtain ⟨iu, hiu, q0, q1, q2⟩ := parts_u32
  have HIu := Lib.hid hiu
  have HAu := Lib.hid q0
  have HBu := Lib.hid q1
  have HCu := Lib.hid q2
  clear hiu q0 q1 q2
  obtain ⟨ib, hib, q0, q1, q2⟩ := parts_bool
  have HIb := Lib.hid hib
  have HAb := Lib.hid q0
  have HBb := Lib.hid q1
  have HCb := Lib.hid q2
  clear hib q0 q1 q2
  obtain ⟨ie, hie, q0, q1, q2⟩ := parts_ent
  have HIe := Lib.hid hie
  have HAe := Lib.hid q0
  have HBe := Lib.hid q1
  have HCe := Lib.hid q2
  clear hie q0 q1 q2
  obtain ⟨ir, hir, q0, q1, q2⟩ := parts_rqs
  have HIr := Lib.hid hir
  have HAr := Lib.hid q0
  have HBr := Lib.hid q1
  have HCr := Lib.hid q2
  clear hir q0 q1 q2
  obtain ⟨im, him, q0, q1, q2⟩ := parts_u8
  have HIm := Lib.hid him
  have HAm := Lib.hid q0
  have HBm := Lib.hid q1
  have HCm := Lib.hid q2
  clear him q0 q1 q2
  obtain ⟨iw, hiw, q0, q1, q2⟩ := parts_wri
  have HIw := Lib.hid hiw
  have HAw := Lib.hid q0
  have HBw := Lib.hid q1
  have HCw := Lib.hid q2
  clear hiw q0 q1 q2
  obtain ⟨is, his, q0, q1, q2⟩ := parts_slt
  have HIs := Lib.hid his
  have HAs := Lib.hid q0
  have HBs := Lib.hid q1
  have HCs := Lib.hid q2
  clear his q0 q1 q2
  obtain ⟨A0, c0, e0⟩ := hv.ldq.form
  have l0 := hs.ldq
  obtain ⟨A1, c1, e1⟩ := hv.sdq.form
  have l1 := hs.sdq
  obtain ⟨A2, c2, e2⟩ := hv.aeq.form
  have l2 := hs.aeq
  obtain ⟨A3, c3, e3⟩ := hv.abq.form
  have l3 := hs.abq
  obtain ⟨A4, c4, e4⟩ := hv.ebq.form
  have l4 := hs.ebq
  obtain ⟨A5, c5, e5⟩ := hv.saq.form
  have l5 := hs.saq
  obtain ⟨A6, c6, e6⟩ := hv.table.form
  have l6 := hs.table
  obtain ⟨A7, c7, e7⟩ := hv.mem.form
  have l7 := hs.mem
  obtain ⟨A8, c8, e8⟩ := hv.ws.form
  have l8 := hs.ws
  have HV := Lib.hid hv
  have HX := Lib.hid hx
  obtain ⟨W, hW⟩ : ∃ W, W = (w.alloc (.cells (staL x v).toArray 44)).alloc (.cells Try.zeroCells44 44) := ⟨_, rfl⟩
  obtain ⟨g1, g2, g3, g4⟩ := sta_begun x v w hW
  have S0 : Hid (CpS w x v v Try.zeroCells44.toList W) := ⟨g1, g2, g3, by omega⟩
  obtain ⟨Z, hZ⟩ : ∃ Z, Z = Try.zeroCells44.toList := ⟨_, rfl⟩
  rw [← hZ] at S0
  have HZ : Hid (Z.length = 92) := by rw [hZ]; exact (by rw [Array.length_toList]; exact zero_size : Try.zeroCells44.toList.length = 92)
  clear hZ g1 g2 g3 g4 hv hx hs
  have hsz := S0.out.hs
  have hlt := S0.out.bx.lt
  have d := S0.out.bx.cell (sta_ldq HX.out)
  rw [e0] at d
  go_enter Try.func27, Try.ntmps27
  go_wp2_with (first
    | (rw [← hW]; clear hW)
    | (refine wpList_append_new _ rfl (.const (.slice none 0 0)) (.tmp 4) 34 rfl (w.heap.size + 2) 58 is _ 3 16 Try.underlying34 HIs.out HAs.out HBs.out HCs.out rfl (by omega) (.slice none 0 0) 0 [] rfl (World.ownsRow_nil _ _ _ _) _ (.slice A0 x.ldq.length c0) x.ldq.length (flat sltL x.ldq) rfl (by have h9 := HV.out.ldq; rw [e0] at h9; exact h9.below S0.out.bl) (flat_oneC sltL_one _) (by unfold maxLen; omega) (by omega) (by omega) ?_; intro u0 y0 hO hg hn2; rw [Nat.zero_add, List.nil_append] at hO; obtain ⟨B0, k0, rfl⟩ := (Row.of_own hO).form; have T0 := Lib.hid (S0.out.grown hg); have O0 := Lib.hid hO; clear hO hg hn2 d)
    | (refine wpList_put_cell rfl 34 _ _ rfl w.heap.size 77 (.slice B0 x.ldq.length k0) rfl rfl rfl _ T0.out.bx (by rw [staL_len HX.out]; omega) (by kernel_rfl) ?_; intro z0 hb hg; rw [set_ldq HX.out] at hb; have S1 := Lib.hid (T0.out.put hb hg); have P00 := Lib.hid (own_step O0.out hg (by omega)); clear hb hg; have d := S1.out.bx.cell (sta_sdq HX.out); dsimp only at d; rw [e1] at d; have hlt := S1.out.bx.lt; have hsz := S1.out.hs)
    | (refine wpList_append_new _ rfl (.const (.slice none 0 0)) (.tmp 8) 35 rfl (w.heap.size + 2) 27 iu _ 1 4 Try.underlying35 HIu.out HAu.out HBu.out HCu.out rfl (by omega) (.slice none 0 0) 0 [] rfl (World.ownsRow_nil _ _ _ _) _ (.slice A1 x.sdq.length c1) x.sdq.length (w32 x.sdq) rfl (by have h9 := HV.out.sdq; rw [e1] at h9; exact h9.below S1.out.bl) (w32_one _) (by unfold maxLen; omega) (by omega) (by omega) ?_; intro u1 y1 hO hg hn2; rw [Nat.zero_add, List.nil_append] at hO; obtain ⟨B1, k1, rfl⟩ := (Row.of_own hO).form; have T1 := Lib.hid (S1.out.grown hg); have O1 := Lib.hid hO; have Q10 := Lib.hid (own_still P00.out hg); clear hO hg hn2 d)
    | (refine wpList_put_cell rfl 35 _ _ rfl w.heap.size 78 (.slice B1 x.sdq.length k1) rfl rfl rfl _ T1.out.bx (by rw [staL_len HX.out]; omega) (by kernel_rfl) ?_; intro z1 hb hg; rw [set_sdq HX.out] at hb; have S2 := Lib.hid (T1.out.put hb hg); have P10 := Lib.hid (own_step Q10.out hg (by omega)); have P11 := Lib.hid (own_step O1.out hg (by omega)); clear hb hg; have d := S2.out.bx.cell (sta_aeq HX.out); dsimp only at d; rw [e2] at d; have hlt := S2.out.bx.lt; have hsz := S2.out.hs)
    | (refine wpList_append_new _ rfl (.const (.slice none 0 0)) (.tmp 12) 35 rfl (w.heap.size + 2) 27 iu _ 1 4 Try.underlying35 HIu.out HAu.out HBu.out HCu.out rfl (by omega) (.slice none 0 0) 0 [] rfl (World.ownsRow_nil _ _ _ _) _ (.slice A2 x.aeq.length c2) x.aeq.length (w32 x.aeq) rfl (by have h9 := HV.out.aeq; rw [e2] at h9; exact h9.below S2.out.bl) (w32_one _) (by unfold maxLen; omega) (by omega) (by omega) ?_; intro u2 y2 hO hg hn2; rw [Nat.zero_add, List.nil_append] at hO; obtain ⟨B2, k2, rfl⟩ := (Row.of_own hO).form; have T2 := Lib.hid (S2.out.grown hg); have O2 := Lib.hid hO; have Q20 := Lib.hid (own_still P10.out hg); have Q21 := Lib.hid (own_still P11.out hg); have HWA := Lib.hid (own_elder P11.out hn2); clear hO hg hn2 d)
    | (refine wpList_put_cell rfl 35 _ _ rfl w.heap.size 79 (.slice B2 x.aeq.length k2) rfl rfl rfl _ T2.out.bx (by rw [staL_len HX.out]; omega) (by kernel_rfl) ?_; intro z2 hb hg; rw [set_aeq HX.out] at hb; have S3 := Lib.hid (T2.out.put hb hg); have P20 := Lib.hid (own_step Q20.out hg (by omega)); have P21 := Lib.hid (own_step Q21.out hg (by omega)); have P22 := Lib.hid (own_step O2.out hg (by omega)); clear hb hg; have d := S3.out.bx.cell (sta_abq HX.out); dsimp only at d; rw [e3] at d; have hlt := S3.out.bx.lt; have hsz := S3.out.hs)
    | (refine wpList_append_new _ rfl (.const (.slice none 0 0)) (.tmp 16) 36 rfl (w.heap.size + 2) 4 ib _ 1 1 Try.underlying36 HIb.out HAb.out HBb.out HCb.out rfl (by omega) (.slice none 0 0) 0 [] rfl (World.ownsRow_nil _ _ _ _) _ (.slice A3 x.abq.length c3) x.abq.length (boolsL x.abq) rfl (by have h9 := HV.out.abq; rw [e3] at h9; exact h9.below S3.out.bl) (boolsL_one _) (by unfold maxLen; omega) (by omega) (by omega) ?_; intro u3 y3 hO hg hn2; rw [Nat.zero_add, List.nil_append] at hO; obtain ⟨B3, k3, rfl⟩ := (Row.of_own hO).form; have T3 := Lib.hid (S3.out.grown hg); have O3 := Lib.hid hO; have Q30 := Lib.hid (own_still P20.out hg); have Q31 := Lib.hid (own_still P21.out hg); have Q32 := Lib.hid (own_still P22.out hg); clear hO hg hn2 d)
    | (refine wpList_put_cell rfl 36 _ _ rfl w.heap.size 80 (.slice B3 x.abq.length k3) rfl rfl rfl _ T3.out.bx (by rw [staL_len HX.out]; omega) (by kernel_rfl) ?_; intro z3 hb hg; rw [set_abq HX.out] at hb; have S4 := Lib.hid (T3.out.put hb hg); have P30 := Lib.hid (own_step Q30.out hg (by omega)); have P31 := Lib.hid (own_step Q31.out hg (by omega)); have P32 := Lib.hid (own_step Q32.out hg (by omega)); have P33 := Lib.hid (own_step O3.out hg (by omega)); clear hb hg; have d := S4.out.bx.cell (sta_ebq HX.out); dsimp only at d; rw [e4] at d; have hlt := S4.out.bx.lt; have hsz := S4.out.hs)
    | (refine wpList_append_new _ rfl (.const (.slice none 0 0)) (.tmp 20) 36 rfl (w.heap.size + 2) 4 ib _ 1 1 Try.underlying36 HIb.out HAb.out HBb.out HCb.out rfl (by omega) (.slice none 0 0) 0 [] rfl (World.ownsRow_nil _ _ _ _) _ (.slice A4 x.ebq.length c4) x.ebq.length (boolsL x.ebq) rfl (by have h9 := HV.out.ebq; rw [e4] at h9; exact h9.below S4.out.bl) (boolsL_one _) (by unfold maxLen; omega) (by omega) (by omega) ?_; intro u4 y4 hO hg hn2; rw [Nat.zero_add, List.nil_append] at hO; obtain ⟨B4, k4, rfl⟩ := (Row.of_own hO).form; have T4 := Lib.hid (S4.out.grown hg); have O4 := Lib.hid hO; have Q40 := Lib.hid (own_still P30.out hg); have Q41 := Lib.hid (own_still P31.out hg); have Q42 := Lib.hid (own_still P32.out hg); have Q43 := Lib.hid (own_still P33.out hg); have HBA := Lib.hid (own_elder P33.out hn2); clear hO hg hn2 d)
    | (refine wpList_put_cell rfl 36 _ _ rfl w.heap.size 81 (.slice B4 x.ebq.length k4) rfl rfl rfl _ T4.out.bx (by rw [staL_len HX.out]; omega) (by kernel_rfl) ?_; intro z4 hb hg; rw [set_ebq HX.out] at hb; have S5 := Lib.hid (T4.out.put hb hg); have P40 := Lib.hid (own_step Q40.out hg (by omega)); have P41 := Lib.hid (own_step Q41.out hg (by omega)); have P42 := Lib.hid (own_step Q42.out hg (by omega)); have P43 := Lib.hid (own_step Q43.out hg (by omega)); have P44 := Lib.hid (own_step O4.out hg (by omega)); clear hb hg; have d := S5.out.bx.cell (sta_saq HX.out); dsimp only at d; rw [e5] at d; have hlt := S5.out.bx.lt; have hsz := S5.out.hs)
    | (refine wpList_append_new _ rfl (.const (.slice none 0 0)) (.tmp 24) 37 rfl (w.heap.size + 2) 66 ie _ 5 32 Try.underlying37 HIe.out HAe.out HBe.out HCe.out rfl (by omega) (.slice none 0 0) 0 [] rfl (World.ownsRow_nil _ _ _ _) _ (.slice A5 x.saq.length c5) x.saq.length (flat entL x.saq) rfl (by have h9 := HV.out.saq; rw [e5] at h9; exact h9.below S5.out.bl) (flat_oneC entL_one _) (by unfold maxLen; omega) (by omega) (by omega) ?_; intro u5 y5 hO hg hn2; rw [Nat.zero_add, List.nil_append] at hO; obtain ⟨B5, k5, rfl⟩ := (Row.of_own hO).form; have T5 := Lib.hid (S5.out.grown hg); have O5 := Lib.hid hO; have Q50 := Lib.hid (own_still P40.out hg); have Q51 := Lib.hid (own_still P41.out hg); have Q52 := Lib.hid (own_still P42.out hg); have Q53 := Lib.hid (own_still P43.out hg); have Q54 := Lib.hid (own_still P44.out hg); clear hO hg hn2 d)
    | (refine wpList_put_cell rfl 37 _ _ rfl w.heap.size 82 (.slice B5 x.saq.length k5) rfl rfl rfl _ T5.out.bx (by rw [staL_len HX.out]; omega) (by kernel_rfl) ?_; intro z5 hb hg; rw [set_saq HX.out] at hb; have S6 := Lib.hid (T5.out.put hb hg); have P50 := Lib.hid (own_step Q50.out hg (by omega)); have P51 := Lib.hid (own_step Q51.out hg (by omega)); have P52 := Lib.hid (own_step Q52.out hg (by omega)); have P53 := Lib.hid (own_step Q53.out hg (by omega)); have P54 := Lib.hid (own_step Q54.out hg (by omega)); have P55 := Lib.hid (own_step O5.out hg (by omega)); clear hb hg; have d := S6.out.bx.cell (sta_table HX.out); dsimp only at d; rw [e6] at d; have hlt := S6.out.bx.lt; have hsz := S6.out.hs)
    | (refine wpList_append_new _ rfl (.const (.slice none 0 0)) (.tmp 28) 38 rfl (w.heap.size + 2) 54 ir _ 8 64 Try.underlying38 HIr.out HAr.out HBr.out HCr.out rfl (by omega) (.slice none 0 0) 0 [] rfl (World.ownsRow_nil _ _ _ _) _ (.slice A6 x.table.length c6) x.table.length (flat rqsL x.table) rfl (by have h9 := HV.out.table; rw [e6] at h9; exact h9.below S6.out.bl) (flat_oneC rqsL_one _) (by unfold maxLen; omega) (by omega) (by omega) ?_; intro u6 y6 hO hg hn2; rw [Nat.zero_add, List.nil_append] at hO; obtain ⟨B6, k6, rfl⟩ := (Row.of_own hO).form; have T6 := Lib.hid (S6.out.grown hg); have O6 := Lib.hid hO; have Q60 := Lib.hid (own_still P50.out hg); have Q61 := Lib.hid (own_still P51.out hg); have Q62 := Lib.hid (own_still P52.out hg); have Q63 := Lib.hid (own_still P53.out hg); have Q64 := Lib.hid (own_still P54.out hg); have Q65 := Lib.hid (own_still P55.out hg); clear hO hg hn2 d)
    | (refine wpList_put_cell rfl 38 _ _ rfl w.heap.size 83 (.slice B6 x.table.length k6) rfl rfl rfl _ T6.out.bx (by rw [staL_len HX.out]; omega) (by kernel_rfl) ?_; intro z6 hb hg; rw [set_table HX.out] at hb; have S7 := Lib.hid (T6.out.put hb hg); have P60 := Lib.hid (own_step Q60.out hg (by omega)); have P61 := Lib.hid (own_step Q61.out hg (by omega)); have P62 := Lib.hid (own_step Q62.out hg (by omega)); have P63 := Lib.hid (own_step Q63.out hg (by omega)); have P64 := Lib.hid (own_step Q64.out hg (by omega)); have P65 := Lib.hid (own_step Q65.out hg (by omega)); have P66 := Lib.hid (own_step O6.out hg (by omega)); clear hb hg; have d := S7.out.bx.cell (sta_mem HX.out); dsimp only at d; rw [e7] at d; have hlt := S7.out.bx.lt; have hsz := S7.out.hs)
    | (refine wpList_append_new _ rfl (.const (.slice none 0 0)) (.tmp 32) 39 rfl (w.heap.size + 2) 5 im _ 1 1 Try.underlying39 HIm.out HAm.out HBm.out HCm.out rfl (by omega) (.slice none 0 0) 0 [] rfl (World.ownsRow_nil _ _ _ _) _ (.slice A7 x.mem.length c7) x.mem.length (bytesL x.mem) rfl (by have h9 := HV.out.mem; rw [e7] at h9; exact h9.below S7.out.bl) (bytesL_one _) (by unfold maxLen; omega) (by omega) (by omega) ?_; intro u7 y7 hO hg hn2; rw [Nat.zero_add, List.nil_append] at hO; obtain ⟨B7, k7, rfl⟩ := (Row.of_own hO).form; have T7 := Lib.hid (S7.out.grown hg); have O7 := Lib.hid hO; have Q70 := Lib.hid (own_still P60.out hg); have Q71 := Lib.hid (own_still P61.out hg); have Q72 := Lib.hid (own_still P62.out hg); have Q73 := Lib.hid (own_still P63.out hg); have Q74 := Lib.hid (own_still P64.out hg); have Q75 := Lib.hid (own_still P65.out hg); have Q76 := Lib.hid (own_still P66.out hg); clear hO hg hn2 d)
    | (refine wpList_put_cell rfl 39 _ _ rfl w.heap.size 84 (.slice B7 x.mem.length k7) rfl rfl rfl _ T7.out.bx (by rw [staL_len HX.out]; omega) (by kernel_rfl) ?_; intro z7 hb hg; rw [set_mem HX.out] at hb; have S8 := Lib.hid (T7.out.put hb hg); have P70 := Lib.hid (own_step Q70.out hg (by omega)); have P71 := Lib.hid (own_step Q71.out hg (by omega)); have P72 := Lib.hid (own_step Q72.out hg (by omega)); have P73 := Lib.hid (own_step Q73.out hg (by omega)); have P74 := Lib.hid (own_step Q74.out hg (by omega)); have P75 := Lib.hid (own_step Q75.out hg (by omega)); have P76 := Lib.hid (own_step Q76.out hg (by omega)); have P77 := Lib.hid (own_step O7.out hg (by omega)); clear hb hg; have d := S8.out.bx.cell (sta_ws HX.out); dsimp only at d; rw [e8] at d; have hlt := S8.out.bx.lt; have hsz := S8.out.hs)
    | (refine wpList_append_new _ rfl (.const (.slice none 0 0)) (.tmp 36) 40 rfl (w.heap.size + 2) 68 iw _ 3 24 Try.underlying40 HIw.out HAw.out HBw.out HCw.out rfl (by omega) (.slice none 0 0) 0 [] rfl (World.ownsRow_nil _ _ _ _) _ (.slice A8 x.ws.length c8) x.ws.length (wsL x.ws) rfl (by have h9 := HV.out.ws; rw [e8] at h9; exact h9.below S8.out.bl) (wsL_one _) (by unfold maxLen; omega) (by omega) (by omega) ?_; intro u8 y8 hO hg hn2; rw [Nat.zero_add, List.nil_append] at hO; obtain ⟨B8, k8, rfl⟩ := (Row.of_own hO).form; have T8 := Lib.hid (S8.out.grown hg); have O8 := Lib.hid hO; have Q80 := Lib.hid (own_still P70.out hg); have Q81 := Lib.hid (own_still P71.out hg); have Q82 := Lib.hid (own_still P72.out hg); have Q83 := Lib.hid (own_still P73.out hg); have Q84 := Lib.hid (own_still P74.out hg); have Q85 := Lib.hid (own_still P75.out hg); have Q86 := Lib.hid (own_still P76.out hg); have Q87 := Lib.hid (own_still P77.out hg); clear hO hg hn2 d)
    | (refine wpList_put_cell rfl 40 _ _ rfl w.heap.size 85 (.slice B8 x.ws.length k8) rfl rfl rfl _ T8.out.bx (by rw [staL_len HX.out]; omega) (by kernel_rfl) ?_; intro z8 hb hg; rw [set_ws HX.out] at hb; have S9 := Lib.hid (T8.out.put hb hg); have P80 := Lib.hid (own_step Q80.out hg (by omega)); have P81 := Lib.hid (own_step Q81.out hg (by omega)); have P82 := Lib.hid (own_step Q82.out hg (by omega)); have P83 := Lib.hid (own_step Q83.out hg (by omega)); have P84 := Lib.hid (own_step Q84.out hg (by omega)); have P85 := Lib.hid (own_step Q85.out hg (by omega)); have P86 := Lib.hid (own_step Q86.out hg (by omega)); have P87 := Lib.hid (own_step Q87.out hg (by omega)); have P88 := Lib.hid (own_step O8.out hg (by omega)); clear hb hg; skip)
    | (refine wpList_load_box rfl 44 (.tmp 1) rfl w.heap.size 0 rfl (staL x { v with ldq := .slice B0 x.ldq.length k0, sdq := .slice B1 x.sdq.length k1, aeq := .slice B2 x.aeq.length k2, abq := .slice B3 x.abq.length k3, ebq := .slice B4 x.ebq.length k4, saq := .slice B5 x.saq.length k5, table := .slice B6 x.table.length k6, mem := .slice B7 x.mem.length k7, ws := .slice B8 x.ws.length k8 }) (staL x { v with ldq := .slice B0 x.ldq.length k0, sdq := .slice B1 x.sdq.length k1, aeq := .slice B2 x.aeq.length k2, abq := .slice B3 x.abq.length k3, ebq := .slice B4 x.ebq.length k4, saq := .slice B5 x.saq.length k5, table := .slice B6 x.table.length k6, mem := .slice B7 x.mem.length k7, ws := .slice B8 x.ws.length k8 }) S9.out.bx (fun j u hu => by rw [Nat.zero_add]; exact hu) _ Try.underlying44 rfl 92 sta_size (staL_len HX.out) ?_)
    | (refine wpList_store_box rfl 44 (.tmp 2) (.tmp 39) rfl (w.heap.size + 1) 0 (staL x { v with ldq := .slice B0 x.ldq.length k0, sdq := .slice B1 x.sdq.length k1, aeq := .slice B2 x.aeq.length k2, abq := .slice B3 x.abq.length k3, ebq := .slice B4 x.ebq.length k4, saq := .slice B5 x.saq.length k5, table := .slice B6 x.table.length k6, mem := .slice B7 x.mem.length k7, ws := .slice B8 x.ws.length k8 }) rfl rfl Z S9.out.bz (by rw [HZ.out, staL_len HX.out]; exact Nat.le_refl _) 92 sta_size (staL_len HX.out) (staL_one (by
        intro u hu
        simp only [vsL, List.mem_cons, List.not_mem_nil, or_false] at hu
        rcases hu with rfl | rfl | rfl | rfl | rfl | rfl | rfl | rfl | rfl <;> rfl)) ?_; intro w9 hb9 hg9; rw [splice_whole _ _ (by rw [HZ.out, staL_len HX.out])] at hb9; have X9 := Lib.hid hb9; have G9 := Lib.hid hg9; clear hb9 hg9))
  refine bodyPost_ret (v := .agg (staL x { v with ldq := .slice B0 x.ldq.length k0, sdq := .slice B1 x.sdq.length k1, aeq := .slice B2 x.aeq.length k2, abq := .slice B3 x.abq.length k3, ebq := .slice B4 x.ebq.length k4, saq := .slice B5 x.saq.length k5, table := .slice B6 x.table.length k6, mem := .slice B7 x.mem.length k7, ws := .slice B8 x.ws.length k8 }).toArray) (results_cell Try.results27 _ _ _ ⟨w.heap.size + 1, 0, none⟩ _ rfl (load_sta HX.out X9.out)) rfl ⟨_, rfl, ?_, ?_⟩
  · exact ⟨own_less (own_step P80.out G9.out (by omega)) (by omega), own_less (own_step P81.out G9.out (by omega)) (by omega), own_less (own_step P82.out G9.out (by omega)) (by omega), own_less (own_step P83.out G9.out (by omega)) (by omega), own_less (own_step P84.out G9.out (by omega)) (by omega), own_less (own_step P85.out G9.out (by omega)) (by omega), own_less (own_step P86.out G9.out (by omega)) (by omega), own_less (own_step P87.out G9.out (by omega)) (by omega), own_less (own_step P88.out G9.out (by omega)) (by omega), HWA.out, HBA.out⟩
  · exact Below.grown S9.out.bl G9.out S9.out.bl.size (fun q hq => by injection hq with hq; omega)
end Go.Proofs.Ythhoigkmmlkfcaa.Words

/- Contract of package banks: Advance, a cycle of memory. -/
namespace Go.Proofs.Ythhoigkmmlkfcaa.Words
set_option maxRecDepth 100000
open Go.RowKit
set_option linter.unusedVariables false
set_option linter.unusedSimpArgs false

theorem begin_sameT (c : Cfg) (lats picks : List Int) (P : Sta × List Rqs) (b : Nat) :
    ({ (beginZ c lats picks ({ P.1 with table := P.2 }, P.2) b).1 with table := (beginZ c lats picks ({ P.1 with table := P.2 }, P.2) b).2 } : Sta) = { (beginZ c lats picks P b).1 with table := (beginZ c lats picks P b).2 } := by
  unfold beginZ
  dsimp only
  by_cases h : busyZ c.banks b P.2 = true ∨ (waitZ c.banks b P.2).length = 0
  · rw [if_pos h, if_pos h]
  · rw [if_neg h, if_neg h]
    dsimp only
    by_cases h2 : 1 < (waitZ c.banks b P.2).length
    · simp only [if_pos h2]
    · simp only [if_neg h2]
theorem OutS.adv {w Y Z : World} {ob : Nat} {v : Vs} {x : Sta} (h : OutS (w.heap.size + 4) ob v x Y) (hb : Below w.heap.size w Y) (hg : Y.grownBy Z (some (w.heap.size + 3))) : AdvOut w x (.returned (.agg (staL x v).toArray)) Z := by
  have hk : KeepS (fun j => j = w.heap.size + 3) Y Z := KeepS.of_grown hg (fun k e => by injection e with e; exact e.symm)
  have hsz := h.bx.lt
  have h4 := h.hb
  exact ⟨v, rfl, (h.own.keepS hk (fun j e => by omega)).less (by omega), Below.trans hb (hk.below (by omega) (fun k e => by omega))⟩

set_option maxHeartbeats 8000000 in
theorem advance_any (c : Cfg) (hc : c.Fits) (A B : Option Addr) (ca cb : Nat) (lats picks : List Int) (x : Sta) (v : Vs) (w : World) (hl : Row w w.heap.size 1 (.slice A lats.length ca) lats.length (lats.map (Value.int .i64))) (hp : Row w w.heap.size 1 (.slice B picks.length cb) picks.length (picks.map (Value.int .i64)))
    (hx : StaLim 0 x) (hv : StaV w w.heap.size v x) (hq : ∀ q ∈ x.table, q.Fits) (hnum : NumOk x) :
    Calls Try.prog 17 #[.agg #[.int .i64 c.ldq, .int .i64 c.sdq, .int .i64 c.aeq, .int .i64 c.abq, .int .i64 c.ebq, .int .i64 c.saq, .int .i64 c.banks, .int .i64 c.flight, .int .i64 c.slip, .int .i64 c.lat, .int .i64 c.mul, .int .i64 c.div], .agg #[.slice A lats.length ca, .slice B picks.length cb], .agg (staL x v).toArray] w (AdvOut w (advanceZ c lats picks x)) := by
  obtain ⟨W, hW⟩ : ∃ W, W = (((w.alloc (.cells #[.int .i64 c.ldq, .int .i64 c.sdq, .int .i64 c.aeq, .int .i64 c.abq, .int .i64 c.ebq, .int .i64 c.saq, .int .i64 c.banks, .int .i64 c.flight, .int .i64 c.slip, .int .i64 c.lat, .int .i64 c.mul, .int .i64 c.div] 23)).alloc (.cells #[.slice A lats.length ca, .slice B picks.length cb] 26)).alloc (.cells (staL x v).toArray 44)).alloc (.cells Try.zeroCells44 44) := ⟨_, rfl⟩
  obtain ⟨g0, g1, g2, g3, g4, g5⟩ := adv_begun c (.slice A lats.length ca) (.slice B picks.length cb) x v w hW
  obtain ⟨Z, hZ⟩ : ∃ Z, Z = Try.zeroCells44.toList := ⟨_, rfl⟩
  rw [← hZ] at g3
  have HZ : Hid (Z.length = 92) := by rw [hZ]; exact (by rw [Array.length_toList]; exact zero_size : Try.zeroCells44.toList.length = 92)
  have HZA : Hid (Try.zeroCells44 = Z.toArray) := by rw [hZ]; exact (by simp : Try.zeroCells44 = Try.zeroCells44.toList.toArray)
  clear hZ
  have HX := Lib.hid hx
  have HOK := Lib.hid hx.ok
  have HCP := Lib.hid (copiedB_any x v W hx.ok (hv.kept g4) (hx.few (by omega)))
  have HG0 := Lib.hid g0
  have HG1 := Lib.hid g1
  have HG2 := Lib.hid g2
  have HG3 := Lib.hid g3
  have HG4 := Lib.hid g4
  have HL := Lib.hid hl
  have HP := Lib.hid hp
  have HQ := Lib.hid hq
  have HNUM := Lib.hid hnum
  have HCF := Lib.hid hc
  clear hx hv g0 g1 g2 g3 g4 hl hp hq hnum hc
  go_enter Try.func17, Try.ntmps17
  go_wp2_with (first
    | (rw [← hW]; clear hW)
    | (refine wpList_load_box rfl 44 (.tmp 5) rfl (w.heap.size + 2) 0 rfl (staL x v) (staL x v) HG2.out (fun j u hu => by rw [Nat.zero_add]; exact hu) _ Try.underlying44 rfl 92 sta_size (staL_len HOK.out) ?_))
  refine HCP.out.mono ?_
  rintro e y1 ⟨v1, rfl, o1, b1⟩
  have hsz := b1.size
  have K1 := Lib.hid (HG0.out.below b1 HG0.out.lt)
  have K2 := Lib.hid (HG1.out.below b1 HG1.out.lt)
  have K4 := Lib.hid (HG3.out.below b1 HG3.out.lt)
  have K5 := Lib.hid (Below.trans HG4.out (b1.mono HG4.out.size))
  rw [g5] at o1 hsz
  have O1 := Lib.hid o1
  clear o1 b1
  obtain ⟨Y, hY⟩ : ∃ Y, Y = y1.alloc (.cells Try.zeroCells44 44) := ⟨_, rfl⟩
  have hbY : Below y1.heap.size y1 Y := by rw [hY]; exact (Below.refl _ _).alloc (Nat.le_refl _) _
  have BZ : Hid (Box Y y1.heap.size Z) := by rw [hY, HZA.out]; exact Box.new y1 Z _
  have O2 := Lib.hid (O1.out.below hbY)
  have K12 := Lib.hid (K1.out.below hbY K1.out.lt)
  have K22 := Lib.hid (K2.out.below hbY K2.out.lt)
  have K42 := Lib.hid (K4.out.below hbY K4.out.lt)
  have K52 := Lib.hid (K5.out.trans (hbY.mono K5.out.size))
  have HOFF : Hid (∀ u ∈ vsL v1, u.ownBlock ≠ some y1.heap.size) := fun u hu e => by have := (O1.out.at_.lt u hu _ e).2; omega
  clear hbY
  by_cases hn1 : c.banks < 1
  · have HE : Hid (advanceZ c lats picks x = x) := by
      have hr : runsB c = false := by
        unfold runsB withinB
        rw [Bool.and_eq_false_iff]
        left; exact decide_eq_false (by omega)
      have e : advanceZ c lats picks x = x := by unfold advanceZ; rw [hr]; rfl
      exact e
    go_wp2_with (first
        | (rw [← hY]; clear hY)
        | (refine wpList_store_box rfl 44 (.tmp 7) (.tmp 10) rfl y1.heap.size 0 (staL x v1) rfl rfl Z BZ.out (by rw [HZ.out, staL_len HOK.out]; exact Nat.le_refl _) 92 sta_size (staL_len HOK.out) O1.out.one ?_; intro y2 hb2 hg2; rw [splice_whole _ _ (by rw [HZ.out, staL_len HOK.out])] at hb2; have S0 : Hid (OutS (w.heap.size + 4) y1.heap.size v1 x y2) := OutS.put' hsz hb2 hg2 O2.out.at_ HOFF.out; have hk2 : KeepS (fun j => j = y1.heap.size) Y y2 := KeepS.of_grown hg2 (fun k e => by injection e with e; exact e.symm); have hbk : Below (w.heap.size + 4) Y y2 := hk2.below (by have := K52.out.size; have := BZ.out.lt; omega) (fun k e => by omega); have C0 := Lib.hid (K12.out.below hbk (by omega)); have C1 := Lib.hid (K22.out.below hbk (by omega)); have C3 := Lib.hid (K42.out.below hbk (by omega)); have BB := Lib.hid (Below.trans K52.out (hbk.mono (by omega))); have hz6 : y2.cell? ⟨w.heap.size, 6, none⟩ = some (.int .i64 c.banks) := C0.out.cell rfl; have hz9 : y2.cell? ⟨w.heap.size, 9, none⟩ = some (.int .i64 c.lat) := C0.out.cell rfl; have hl2 := S0.out.bx.lt; clear hb2 hg2 hk2 hbk)
        | (refine wpList_load_box rfl 44 (.tmp 7) rfl y1.heap.size 0 rfl (staL x v1) (staL x v1) S0.out.bx (fun j u hu => by rw [Nat.zero_add]; exact hu) _ Try.underlying44 rfl 92 sta_size (staL_len HOK.out) ?_)
        | (refine wpList_store_box rfl 44 (.tmp 6) (.tmp 29) rfl (w.heap.size + 3) 0 (staL x v1) rfl rfl Z C3.out (by rw [HZ.out, staL_len HOK.out]; exact Nat.le_refl _) 92 sta_size (staL_len HOK.out) S0.out.own.one ?_; intro w9 hb9 hg9; rw [splice_whole _ _ (by rw [HZ.out, staL_len HOK.out])] at hb9; have X9 := Lib.hid hb9; have G9 := Lib.hid hg9; clear hb9 hg9))
    exact bodyPost_ret (v := .agg (staL x v1).toArray) (results_cell Try.results17 _ _ _ ⟨w.heap.size + 3, 0, none⟩ _ rfl (load_sta HOK.out X9.out)) rfl (by rw [HE.out]; exact S0.out.adv BB.out G9.out)
  by_cases hn2 : 16 < c.banks
  · have HE : Hid (advanceZ c lats picks x = x) := by
      have hr : runsB c = false := by
        unfold runsB withinB
        rw [Bool.and_eq_false_iff]
        left; exact decide_eq_false (by omega)
      have e : advanceZ c lats picks x = x := by unfold advanceZ; rw [hr]; rfl
      exact e
    go_wp2_with (first
        | (rw [← hY]; clear hY)
        | (refine wpList_store_box rfl 44 (.tmp 7) (.tmp 10) rfl y1.heap.size 0 (staL x v1) rfl rfl Z BZ.out (by rw [HZ.out, staL_len HOK.out]; exact Nat.le_refl _) 92 sta_size (staL_len HOK.out) O1.out.one ?_; intro y2 hb2 hg2; rw [splice_whole _ _ (by rw [HZ.out, staL_len HOK.out])] at hb2; have S0 : Hid (OutS (w.heap.size + 4) y1.heap.size v1 x y2) := OutS.put' hsz hb2 hg2 O2.out.at_ HOFF.out; have hk2 : KeepS (fun j => j = y1.heap.size) Y y2 := KeepS.of_grown hg2 (fun k e => by injection e with e; exact e.symm); have hbk : Below (w.heap.size + 4) Y y2 := hk2.below (by have := K52.out.size; have := BZ.out.lt; omega) (fun k e => by omega); have C0 := Lib.hid (K12.out.below hbk (by omega)); have C1 := Lib.hid (K22.out.below hbk (by omega)); have C3 := Lib.hid (K42.out.below hbk (by omega)); have BB := Lib.hid (Below.trans K52.out (hbk.mono (by omega))); have hz6 : y2.cell? ⟨w.heap.size, 6, none⟩ = some (.int .i64 c.banks) := C0.out.cell rfl; have hz9 : y2.cell? ⟨w.heap.size, 9, none⟩ = some (.int .i64 c.lat) := C0.out.cell rfl; have hl2 := S0.out.bx.lt; clear hb2 hg2 hk2 hbk)
        | (refine wpList_load_box rfl 44 (.tmp 7) rfl y1.heap.size 0 rfl (staL x v1) (staL x v1) S0.out.bx (fun j u hu => by rw [Nat.zero_add]; exact hu) _ Try.underlying44 rfl 92 sta_size (staL_len HOK.out) ?_)
        | (refine wpList_store_box rfl 44 (.tmp 6) (.tmp 29) rfl (w.heap.size + 3) 0 (staL x v1) rfl rfl Z C3.out (by rw [HZ.out, staL_len HOK.out]; exact Nat.le_refl _) 92 sta_size (staL_len HOK.out) S0.out.own.one ?_; intro w9 hb9 hg9; rw [splice_whole _ _ (by rw [HZ.out, staL_len HOK.out])] at hb9; have X9 := Lib.hid hb9; have G9 := Lib.hid hg9; clear hb9 hg9))
    exact bodyPost_ret (v := .agg (staL x v1).toArray) (results_cell Try.results17 _ _ _ ⟨w.heap.size + 3, 0, none⟩ _ rfl (load_sta HOK.out X9.out)) rfl (by rw [HE.out]; exact S0.out.adv BB.out G9.out)
  by_cases hn3 : c.lat < 1
  · have HE : Hid (advanceZ c lats picks x = x) := by
      have hr : runsB c = false := by
        unfold runsB withinB
        rw [Bool.and_eq_false_iff]
        right; exact decide_eq_false (by omega)
      have e : advanceZ c lats picks x = x := by unfold advanceZ; rw [hr]; rfl
      exact e
    go_wp2_with (first
        | (rw [← hY]; clear hY)
        | (refine wpList_store_box rfl 44 (.tmp 7) (.tmp 10) rfl y1.heap.size 0 (staL x v1) rfl rfl Z BZ.out (by rw [HZ.out, staL_len HOK.out]; exact Nat.le_refl _) 92 sta_size (staL_len HOK.out) O1.out.one ?_; intro y2 hb2 hg2; rw [splice_whole _ _ (by rw [HZ.out, staL_len HOK.out])] at hb2; have S0 : Hid (OutS (w.heap.size + 4) y1.heap.size v1 x y2) := OutS.put' hsz hb2 hg2 O2.out.at_ HOFF.out; have hk2 : KeepS (fun j => j = y1.heap.size) Y y2 := KeepS.of_grown hg2 (fun k e => by injection e with e; exact e.symm); have hbk : Below (w.heap.size + 4) Y y2 := hk2.below (by have := K52.out.size; have := BZ.out.lt; omega) (fun k e => by omega); have C0 := Lib.hid (K12.out.below hbk (by omega)); have C1 := Lib.hid (K22.out.below hbk (by omega)); have C3 := Lib.hid (K42.out.below hbk (by omega)); have BB := Lib.hid (Below.trans K52.out (hbk.mono (by omega))); have hz6 : y2.cell? ⟨w.heap.size, 6, none⟩ = some (.int .i64 c.banks) := C0.out.cell rfl; have hz9 : y2.cell? ⟨w.heap.size, 9, none⟩ = some (.int .i64 c.lat) := C0.out.cell rfl; have hl2 := S0.out.bx.lt; clear hb2 hg2 hk2 hbk)
        | (refine wpList_load_box rfl 44 (.tmp 7) rfl y1.heap.size 0 rfl (staL x v1) (staL x v1) S0.out.bx (fun j u hu => by rw [Nat.zero_add]; exact hu) _ Try.underlying44 rfl 92 sta_size (staL_len HOK.out) ?_)
        | (refine wpList_store_box rfl 44 (.tmp 6) (.tmp 29) rfl (w.heap.size + 3) 0 (staL x v1) rfl rfl Z C3.out (by rw [HZ.out, staL_len HOK.out]; exact Nat.le_refl _) 92 sta_size (staL_len HOK.out) S0.out.own.one ?_; intro w9 hb9 hg9; rw [splice_whole _ _ (by rw [HZ.out, staL_len HOK.out])] at hb9; have X9 := Lib.hid hb9; have G9 := Lib.hid hg9; clear hb9 hg9))
    exact bodyPost_ret (v := .agg (staL x v1).toArray) (results_cell Try.results17 _ _ _ ⟨w.heap.size + 3, 0, none⟩ _ rfl (load_sta HOK.out X9.out)) rfl (by rw [HE.out]; exact S0.out.adv BB.out G9.out)
  by_cases hn4 : 1000 < c.lat
  · have HE : Hid (advanceZ c lats picks x = x) := by
      have hr : runsB c = false := by
        unfold runsB withinB
        rw [Bool.and_eq_false_iff]
        right; exact decide_eq_false (by omega)
      have e : advanceZ c lats picks x = x := by unfold advanceZ; rw [hr]; rfl
      exact e
    go_wp2_with (first
        | (rw [← hY]; clear hY)
        | (refine wpList_store_box rfl 44 (.tmp 7) (.tmp 10) rfl y1.heap.size 0 (staL x v1) rfl rfl Z BZ.out (by rw [HZ.out, staL_len HOK.out]; exact Nat.le_refl _) 92 sta_size (staL_len HOK.out) O1.out.one ?_; intro y2 hb2 hg2; rw [splice_whole _ _ (by rw [HZ.out, staL_len HOK.out])] at hb2; have S0 : Hid (OutS (w.heap.size + 4) y1.heap.size v1 x y2) := OutS.put' hsz hb2 hg2 O2.out.at_ HOFF.out; have hk2 : KeepS (fun j => j = y1.heap.size) Y y2 := KeepS.of_grown hg2 (fun k e => by injection e with e; exact e.symm); have hbk : Below (w.heap.size + 4) Y y2 := hk2.below (by have := K52.out.size; have := BZ.out.lt; omega) (fun k e => by omega); have C0 := Lib.hid (K12.out.below hbk (by omega)); have C1 := Lib.hid (K22.out.below hbk (by omega)); have C3 := Lib.hid (K42.out.below hbk (by omega)); have BB := Lib.hid (Below.trans K52.out (hbk.mono (by omega))); have hz6 : y2.cell? ⟨w.heap.size, 6, none⟩ = some (.int .i64 c.banks) := C0.out.cell rfl; have hz9 : y2.cell? ⟨w.heap.size, 9, none⟩ = some (.int .i64 c.lat) := C0.out.cell rfl; have hl2 := S0.out.bx.lt; clear hb2 hg2 hk2 hbk)
        | (refine wpList_load_box rfl 44 (.tmp 7) rfl y1.heap.size 0 rfl (staL x v1) (staL x v1) S0.out.bx (fun j u hu => by rw [Nat.zero_add]; exact hu) _ Try.underlying44 rfl 92 sta_size (staL_len HOK.out) ?_)
        | (refine wpList_store_box rfl 44 (.tmp 6) (.tmp 29) rfl (w.heap.size + 3) 0 (staL x v1) rfl rfl Z C3.out (by rw [HZ.out, staL_len HOK.out]; exact Nat.le_refl _) 92 sta_size (staL_len HOK.out) S0.out.own.one ?_; intro w9 hb9 hg9; rw [splice_whole _ _ (by rw [HZ.out, staL_len HOK.out])] at hb9; have X9 := Lib.hid hb9; have G9 := Lib.hid hg9; clear hb9 hg9))
    exact bodyPost_ret (v := .agg (staL x v1).toArray) (results_cell Try.results17 _ _ _ ⟨w.heap.size + 3, 0, none⟩ _ rfl (load_sta HOK.out X9.out)) rfl (by rw [HE.out]; exact S0.out.adv BB.out G9.out)
  have hbk : 1 ≤ c.banks ∧ c.banks ≤ 16 := by omega
  have hlk : 1 ≤ c.lat ∧ c.lat ≤ 1000 := by omega
  have HRUN : Hid (runsB c = true) := by
    have hr : runsB c = true := by
      unfold runsB withinB
      rw [decide_eq_true hbk, decide_eq_true hlk]; rfl
    exact hr
  go_wp2_with (first
      | (rw [← hY]; clear hY)
      | (refine wpList_store_box rfl 44 (.tmp 7) (.tmp 10) rfl y1.heap.size 0 (staL x v1) rfl rfl Z BZ.out (by rw [HZ.out, staL_len HOK.out]; exact Nat.le_refl _) 92 sta_size (staL_len HOK.out) O1.out.one ?_; intro y2 hb2 hg2; rw [splice_whole _ _ (by rw [HZ.out, staL_len HOK.out])] at hb2; have S0 : Hid (OutS (w.heap.size + 4) y1.heap.size v1 x y2) := OutS.put' hsz hb2 hg2 O2.out.at_ HOFF.out; have hk2 : KeepS (fun j => j = y1.heap.size) Y y2 := KeepS.of_grown hg2 (fun k e => by injection e with e; exact e.symm); have hbk : Below (w.heap.size + 4) Y y2 := hk2.below (by have := K52.out.size; have := BZ.out.lt; omega) (fun k e => by omega); have C0 := Lib.hid (K12.out.below hbk (by omega)); have C1 := Lib.hid (K22.out.below hbk (by omega)); have C3 := Lib.hid (K42.out.below hbk (by omega)); have BB := Lib.hid (Below.trans K52.out (hbk.mono (by omega))); have hz6 : y2.cell? ⟨w.heap.size, 6, none⟩ = some (.int .i64 c.banks) := C0.out.cell rfl; have hz9 : y2.cell? ⟨w.heap.size, 9, none⟩ = some (.int .i64 c.lat) := C0.out.cell rfl; have hl2 := S0.out.bx.lt; clear hb2 hg2 hk2 hbk))
  refine (goOn_any x v1 (w.heap.size + 4) y1.heap.size y2 HX.out S0.out (by have := S0.out.hb; omega) HQ.out).mono ?_
  rintro e y3 ⟨rfl, v3, o3, b3⟩
  have C03 := Lib.hid (C0.out.below b3 (by omega))
  have C13 := Lib.hid (C1.out.below b3 (by omega))
  have C33 := Lib.hid (C3.out.below b3 (by omega))
  have BB3 := Lib.hid (BB.out.trans (b3.mono (by omega)))
  have O3 := Lib.hid o3
  have hl3 := o3.bx.lt
  have z6 : y3.cell? ⟨w.heap.size, 6, none⟩ = some (.int .i64 c.banks) := C03.out.cell rfl
  clear o3 b3 hz6 hz9
  have HFT := Lib.hid (ticks_fits (x := x) HQ.out)
  have HLT := Lib.hid (show (ticksZ x x.table).2.length ≤ 100000 by have h9 := ticks_len x x.table x.table.length; rw [List.take_length] at h9; have := HX.out.table; omega)
  have HTO := Lib.hid (show (ticksZ x x.table).1.Ok by have h9 := (ticks_lim (l := x.table) HX.out x.table.length).1.ok; rw [List.take_length] at h9; exact h9)
  have HTN := Lib.hid (ticks_num x.table HNUM.out)
  have HAD : Hid (advanceZ c lats picks x = { (beginsZ c lats picks (ticksZ x x.table) c.banks.toNat).1 with table := (beginsZ c lats picks (ticksZ x x.table) c.banks.toNat).2 }) := by
    have e : advanceZ c lats picks x = { (beginsZ c lats picks (ticksZ x x.table) c.banks.toNat).1 with table := (beginsZ c lats picks (ticksZ x x.table) c.banks.toNat).2 } := by unfold advanceZ; rw [HRUN.out]; rfl
    exact e
  rw [HAD.out]
  generalize ticksZ x x.table = T at *
  go_wp2_with fail
  clear z6
  go_loopw [33] (fun ib wb => ∃ b : Nat, (b : Int) ≤ c.banks ∧ ib = .int .i64 b ∧ (∃ v, OutS (w.heap.size + 4) y1.heap.size v { (beginsZ c lats picks T b).1 with table := (beginsZ c lats picks T b).2 } wb) ∧ Below (w.heap.size + 4) y3 wb) (fun ib _ => (c.banks - intOf ib).toNat)
  case atStart => exact ⟨0, by omega, rfl, ⟨v3, O3.out⟩, Below.refl _ _⟩
  case round =>
    obtain ⟨b, hb, rfl, ⟨v4, ho4⟩, hb4⟩ := hrel
    have hnx : ({ (beginsZ c lats picks T (b + 1)).1 with table := (beginsZ c lats picks T (b + 1)).2 } : Sta) = { (beginZ c lats picks ({ (beginsZ c lats picks T b).1 with table := (beginsZ c lats picks T b).2 }, (beginsZ c lats picks T b).2) b).1 with table := (beginZ c lats picks ({ (beginsZ c lats picks T b).1 with table := (beginsZ c lats picks T b).2 }, (beginsZ c lats picks T b).2) b).2 } := (begin_sameT c lats picks (beginsZ c lats picks T b) b).symm
    have hyl := begins_len c lats picks T b
    have hyf := begins_fits (c := c) (lats := lats) (picks := picks) (p := T) hlk.2 HFT.out b
    have hyo := begins_ok (c := c) (lats := lats) (picks := picks) (p := T) HTO.out b
    have hyn := begins_num (c := c) (lats := lats) (picks := picks) (p := T) HTN.out b
    have O4 := Lib.hid ho4
    have B4 := Lib.hid hb4
    have BB4 := Lib.hid (BB3.out.trans (hb4.mono (by omega)))
    have C04 := Lib.hid (C03.out.below hb4 (by omega))
    have C14 := Lib.hid (C13.out.below hb4 (by omega))
    have C34 := Lib.hid (C33.out.below hb4 (by omega))
    have hl4 := ho4.bx.lt
    have HNX := Lib.hid hnx
    have HYL := Lib.hid hyl
    have HYF := Lib.hid hyf
    have HYN := Lib.hid hyn
    have HYO : Hid (Sta.Ok { (beginsZ c lats picks T b).1 with table := (beginsZ c lats picks T b).2 }) := ⟨hyo.a, hyo.e⟩
    clear ho4 hb4 hnx hyl hyf hyo hyn
    by_cases hbb : (b : Int) < c.banks
    · have kb0 : (0 : Int) ≤ b := by omega
      go_wp2_with (first
        | (refine wpList_load_box rfl 23 (.tmp 3) rfl w.heap.size 0 rfl (cfgCells c) (cfgCells c) C04.out (fun j u hu => by rw [Nat.zero_add]; exact hu) _ Try.underlying23 rfl 12 (by kernel_rfl) rfl ?_)
        | (refine wpList_load_box rfl 26 (.tmp 4) rfl (w.heap.size + 1) 0 rfl [.slice A lats.length ca, .slice B picks.length cb] [.slice A lats.length ca, .slice B picks.length cb] C14.out (fun j u hu => by rw [Nat.zero_add]; exact hu) _ Try.underlying26 rfl 2 (by kernel_rfl) rfl ?_))
      refine (begin_any c A B ca cb lats picks { (beginsZ c lats picks T b).1 with table := (beginsZ c lats picks T b).2 } v4 b (w.heap.size + 4) y1.heap.size _ HYO.out O4.out (by have := O4.out.hb; omega) ((HL.out.below BB4.out).more (by omega)) ((HP.out.below BB4.out).more (by omega)) (by show (beginsZ c lats picks T b).2.length ≤ 100000; rw [HYL.out]; exact HLT.out) HYF.out ⟨HYN.out.1, HYN.out.2⟩ hbk hlk (by omega)).mono ?_
      rintro e y5 ⟨rfl, v5, o5, b5⟩
      have O5 := Lib.hid o5
      have B5 := Lib.hid (B4.out.trans b5)
      clear o5 b5
      go_wp2_with fail
      go_roundw
      case rel => exact ⟨b + 1, by omega, by go_num, ⟨v5, by rw [HNX.out]; exact O5.out⟩, B5.out⟩
      case measure => simp [intOf]; omega
    · have hbe : b = c.banks.toNat := by omega
      subst hbe
      go_wp2_with (first
        | (refine wpList_load_box rfl 44 (.tmp 7) rfl y1.heap.size 0 rfl (staL { (beginsZ c lats picks T c.banks.toNat).1 with table := (beginsZ c lats picks T c.banks.toNat).2 } v4) (staL { (beginsZ c lats picks T c.banks.toNat).1 with table := (beginsZ c lats picks T c.banks.toNat).2 } v4) O4.out.bx (fun j u hu => by rw [Nat.zero_add]; exact hu) _ Try.underlying44 rfl 92 sta_size (staL_len HYO.out) ?_)
        | (refine wpList_store_box rfl 44 (.tmp 6) (.tmp 41) rfl (w.heap.size + 3) 0 (staL { (beginsZ c lats picks T c.banks.toNat).1 with table := (beginsZ c lats picks T c.banks.toNat).2 } v4) rfl rfl Z C34.out (by rw [HZ.out, staL_len HYO.out]; exact Nat.le_refl _) 92 sta_size (staL_len HYO.out) O4.out.own.one ?_; intro w9 hb9 hg9; rw [splice_whole _ _ (by rw [HZ.out, staL_len HYO.out])] at hb9; have X9 := Lib.hid hb9; have G9 := Lib.hid hg9; clear hb9 hg9))
      exact bodyPost_ret (v := .agg (staL { (beginsZ c lats picks T c.banks.toNat).1 with table := (beginsZ c lats picks T c.banks.toNat).2 } v4).toArray) (results_cell Try.results17 _ _ _ ⟨w.heap.size + 3, 0, none⟩ _ rfl (load_sta HYO.out X9.out)) rfl (by first | exact O4.out.adv BB4.out G9.out | (rw [HAD.out]; exact O4.out.adv BB4.out G9.out))
end Go.Proofs.Ythhoigkmmlkfcaa.Words

/- A state that is written out: what it is as plain data. -/
namespace Go.Proofs.Ythhoigkmmlkfcaa.Words
set_option maxRecDepth 100000
open Go.RowKit
set_option linter.unusedVariables false
set_option linter.unusedSimpArgs false

def sid0 : Sid := ⟨List.replicate 16 0, List.replicate 16 0, 0, 0, 0, 0, false, 0⟩
def sta0 : Sta := ⟨0, sid0, sid0, [], [], [], [], [], [], [], [], [], 0, 0, 0, 0, 0, 0⟩
def nilV : Value := .slice none 0 0
def vs0 : Vs := ⟨nilV, nilV, nilV, nilV, nilV, nilV, nilV, nilV, nilV⟩
theorem sid0_ok : sid0.Ok := ⟨rfl, rfl⟩
theorem sta0_ok : sta0.Ok := ⟨sid0_ok, sid0_ok⟩
theorem built_table (A : Option Addr) (n c : Nat) : Try.prog.built 44 [(9, .slice A n c)] = some (staL sta0 { vs0 with table := .slice A n c }).toArray := by kernel_rfl
theorem built_mem (A : Option Addr) (n c : Nat) : Try.prog.built 44 [(10, .slice A n c)] = some (staL sta0 { vs0 with mem := .slice A n c }).toArray := by kernel_rfl
theorem built_ans (A B C : Option Addr) (n c m d k e : Nat) : Try.prog.built 44 [(10, .slice A n c), (3, .slice B m d), (9, .slice C k e)] = some (staL sta0 { vs0 with mem := .slice A n c, ldq := .slice B m d, table := .slice C k e }).toArray := by kernel_rfl
theorem zero_staV (w : World) (B : Nat) : StaV w B vs0 sta0 := ⟨Row.nil _ _ _, Row.nil _ _ _, Row.nil _ _ _, Row.nil _ _ _, Row.nil _ _ _, Row.nil _ _ _, Row.nil _ _ _, Row.nil _ _ _, Row.nil _ _ _⟩
theorem sta_len' {x : Sta} {v : Vs} (h : x.Ok) : (staL x v).length = 92 := by
  unfold staL sidL vsL endL
  simp [h.a.regs, h.a.ready, h.e.regs, h.e.ready]
theorem splice_all (l cs : List Value) (h : l.length = cs.length) : splice l 0 cs = cs := by
  unfold splice
  simp [h]
theorem box_storedS {w2 w3 : World} {v : List Value} {t : TypeId} (hg : (w2.alloc (.cells v.toArray t)).grownBy w3 (some w2.heap.size)) : Below w2.heap.size w2 w3 :=
  Below.grown ((Below.refl _ _).alloc (Nat.le_refl _) _) hg (by simp) (fun q hq => by injection hq with hq; omega)
theorem row_rqs (w : World) (x : Rqs) : Row (w.alloc (.cells #[.bool x.store, .int .i64 x.op, .int .i64 x.addr, .int .i64 x.size, .int .u32 x.val, .int .i64 x.left, .int .i64 x.reg, .int .i64 x.tag] 54)) (w.heap.size + 1) 8 (.slice (some ⟨w.heap.size, 0, none⟩) 1 1) 1 (flat rqsL [x]) := by
  rw [flat_one]; exact row_new w (rqsL x) 8 rfl (by omega) _
theorem row_int (w : World) (n : Int) : Row (w.alloc (.cells #[.int .i64 n] 3)) (w.heap.size + 1) 1 (.slice (some ⟨w.heap.size, 0, none⟩) 1 1) 1 ([n].map (Value.int .i64)) := row_new w [.int .i64 n] 1 rfl (by omega) _
theorem row_sltN (w : World) (x : Slt) : Row (w.alloc (.cells #[.int .i64 x.tag, .bool x.full, .int .u32 x.val] 58)) (w.heap.size + 1) 3 (.slice (some ⟨w.heap.size, 0, none⟩) 1 1) 1 (flat sltL [x]) := by
  rw [flat_one]; exact row_new w (sltL x) 3 rfl (by omega) _
theorem own_oneS {w : World} {B : Nat} {v : Vs} {x : Sta} (h : StaOwn w B v x) : ∀ u ∈ staL x v, u.oneCell' = true := h.one
/-- Where the rows of a state stand. -/
theorem StaOwn.row {w : World} {B : Nat} {v : Vs} {x : Sta} (h : StaOwn w B v x) : StaV w w.heap.size v x := h.read
end Go.Proofs.Ythhoigkmmlkfcaa.Words

/- What is left to do in memory, as a number that falls each cycle; each bank has at most one request under way. Plain mathematics. -/
namespace Go.Proofs.Ythhoigkmmlkfcaa.Words
set_option maxRecDepth 100000
open Go.RowKit
set_option linter.unusedVariables false
set_option linter.unusedSimpArgs false

/-- How long a request may still take, alone at its bank. -/
def workQ (lat : Int) (q : Rqs) : Int := if q.left = 0 then lat + 1 else q.left
def workT (lat : Int) : List Rqs → Int
  | [] => 0
  | q :: l => workQ lat q + workT lat l
theorem work_app (lat : Int) (l m : List Rqs) : workT lat (l ++ m) = workT lat l + workT lat m := by
  induction l with
  | nil => simp [workT]
  | cons q l ih => show workQ lat q + workT lat (l ++ m) = workQ lat q + workT lat l + workT lat m; omega
theorem work_pos {lat : Int} (hl : 1 ≤ lat) {q : Rqs} (h : 0 ≤ q.left) : 1 ≤ workQ lat q := by unfold workQ; split <;> omega
theorem workT_pos {lat : Int} (hl : 1 ≤ lat) {l : List Rqs} (h : ∀ q ∈ l, 0 ≤ q.left) : 0 ≤ workT lat l := by
  induction l with
  | nil => exact Int.le_refl 0
  | cons q l ih =>
    have := work_pos hl (h q (by simp))
    have := ih (fun r hr => h r (List.mem_cons_of_mem _ hr))
    show 0 ≤ workQ lat q + workT lat l; omega
theorem work_set {lat : Int} {l : List Rqs} {i : Nat} {q : Rqs} (h : l[i]? = some q) (q' : Rqs) : workT lat (l.set i q') = workT lat l - workQ lat q + workQ lat q' := by
  induction l generalizing i with
  | nil => simp at h
  | cons a l ih =>
    cases i with
    | zero => simp at h; subst h; show workQ lat q' + workT lat l = workQ lat a + workT lat l - workQ lat a + workQ lat q'; omega
    | succ i =>
      simp at h
      have := ih h
      show workQ lat a + workT lat (l.set i q') = workQ lat a + workT lat l - workQ lat q + workQ lat q'
      omega
/-- Requests a cycle on: each that is under way has one less. -/
theorem ticks_work {lat : Int} (hl : 1 ≤ lat) : ∀ (l : List Rqs) (y : Sta) (a : List Rqs), (∀ q ∈ l, 0 ≤ q.left) →
    workT lat (l.foldl tickZ (y, a)).2 ≤ workT lat a + workT lat l ∧ ((∃ q ∈ l, 0 < q.left) → workT lat (l.foldl tickZ (y, a)).2 < workT lat a + workT lat l) ∧ ((∀ q ∈ l, q.left = 0) → (l.foldl tickZ (y, a)).2 = a ++ l) := by
  intro l
  induction l with
  | nil => intro y a _; exact ⟨by show workT lat a ≤ workT lat a + 0; omega, fun ⟨q, hq, _⟩ => absurd hq List.not_mem_nil, fun _ => by simp⟩
  | cons q l ih =>
    intro y a h
    have hq := h q (by simp)
    have hr := fun r hr => h r (List.mem_cons_of_mem q hr)
    rw [List.foldl_cons]
    have hw : workT lat (q :: l) = workQ lat q + workT lat l := rfl
    by_cases h0 : 0 < q.left
    · have hwq : workQ lat q = q.left := by unfold workQ; rw [if_neg (by omega)]
      by_cases h1 : q.left = 1
      · rw [tick_done (p := (y, a)) h1]
        dsimp only
        obtain ⟨g1, g2, g3⟩ := ih (doneZ y { q with left := 0 }) a hr
        refine ⟨by omega, fun _ => by omega, fun hz => ?_⟩
        have := hz q (by simp); omega
      · rw [tick_less (p := (y, a)) h0 h1]
        dsimp only
        obtain ⟨g1, g2, g3⟩ := ih y (a ++ [{ q with left := q.left - 1 }]) hr
        have hw2 : workT lat (a ++ [{ q with left := q.left - 1 }]) = workT lat a + (q.left - 1) := by
          rw [work_app]
          show _ + (workQ lat { q with left := q.left - 1 } + 0) = _
          unfold workQ
          rw [if_neg (show ¬ q.left - 1 = 0 by omega)]
          show workT lat a + (q.left - 1 + 0) = _; omega
        refine ⟨by omega, fun _ => by omega, fun hz => ?_⟩
        have := hz q (by simp); omega
    · rw [tick_wait (p := (y, a)) h0]
      dsimp only
      obtain ⟨g1, g2, g3⟩ := ih y (a ++ [q]) hr
      have hw2 : workT lat (a ++ [q]) = workT lat a + workQ lat q := by rw [work_app]; show _ + (workQ lat q + 0) = _; omega
      refine ⟨by omega, fun ⟨r, hr1, hr2⟩ => ?_, fun hz => ?_⟩
      · rcases List.mem_cons.1 hr1 with d | d
        · rw [d] at hr2; omega
        · have := g2 ⟨r, d, hr2⟩; omega
      · rw [g3 (fun r hr' => hz r (List.mem_cons_of_mem _ hr')), List.append_assoc]; rfl
theorem waitZ_at {n : Int} {b : Nat} {l : List Rqs} {i : Nat} (h : i ∈ waitZ n b l) : ∃ q, l[i]? = some q ∧ waitB n b q = true := by
  unfold waitZ at h
  obtain ⟨h1, h2⟩ := List.mem_filter.1 h
  cases hq : l[i]? with
  | none => rw [hq] at h2; cases h2
  | some q => rw [hq] at h2; exact ⟨q, rfl, h2⟩
/-- A bank that begins a request has less to do. -/
theorem begin_work {c : Cfg} (hl : 1 ≤ c.lat ∧ c.lat ≤ 1000) (lats picks : List Int) (y : Sta) (tb : List Rqs) (b : Nat) : (beginZ c lats picks (y, tb) b).2 = tb ∧ (busyZ c.banks b tb = true ∨ (waitZ c.banks b tb).length = 0) ∨ workT c.lat (beginZ c lats picks (y, tb) b).2 < workT c.lat tb := by
  unfold beginZ
  simp only
  split
  · rename_i hb; exact .inl ⟨rfl, hb⟩
  · rename_i hb
    right
    have hw : (waitZ c.banks b tb).length ≠ 0 := fun e => hb (.inr e)
    obtain ⟨k, hk⟩ : ∃ k, k = (if 1 < (waitZ c.banks b tb).length then pickZ picks y.picks (waitZ c.banks b tb).length else 0) := ⟨_, rfl⟩
    have hkr : 0 ≤ k ∧ k < (waitZ c.banks b tb).length := by
      rw [hk]
      split
      · exact pickZ_range _ _ _ (by omega)
      · omega
    rw [← hk]
    have hkn : k.toNat < (waitZ c.banks b tb).length := by omega
    have hm : (waitZ c.banks b tb).getD k.toNat 0 ∈ waitZ c.banks b tb := by rw [List.getD_eq_getElem?_getD, List.getElem?_eq_getElem hkn]; exact List.getElem_mem hkn
    obtain ⟨q, hq, hwt⟩ := waitZ_at hm
    have hleft : q.left = 0 := by
      unfold waitB at hwt
      simp only [Bool.and_eq_true, decide_eq_true_eq] at hwt
      exact hwt.2
    have hr : 1 ≤ latsZ lats y.lats c.lat ∧ latsZ lats y.lats c.lat ≤ c.lat := by
      unfold latsZ
      rw [if_neg (by omega)]
      have h1 := Int.emod_nonneg (ithZ lats y.lats) (show c.lat ≠ 0 by omega)
      have h2 := Int.emod_lt_of_pos (ithZ lats y.lats) (show 0 < c.lat by omega)
      omega
    unfold setLeft
    rw [hq]
    simp only
    rw [work_set hq]
    have e1 : workQ c.lat q = c.lat + 1 := by unfold workQ; rw [if_pos hleft]
    have e2 : workQ c.lat { q with left := latsZ lats y.lats c.lat } = latsZ lats y.lats c.lat := by unfold workQ; rw [if_neg (show ¬ latsZ lats y.lats c.lat = 0 by omega)]
    omega
theorem begins_work {c : Cfg} (hl : 1 ≤ c.lat ∧ c.lat ≤ 1000) (lats picks : List Int) (y : Sta) (tb : List Rqs) (n : Nat) : ((beginsZ c lats picks (y, tb) n).2 = tb ∧ ∀ b, b < n → busyZ c.banks b tb = true ∨ (waitZ c.banks b tb).length = 0) ∨ workT c.lat (beginsZ c lats picks (y, tb) n).2 < workT c.lat tb := by
  induction n with
  | zero => exact .inl ⟨rfl, fun b hb => absurd hb (Nat.not_lt_zero _)⟩
  | succ n ih =>
    show ((beginZ c lats picks (beginsZ c lats picks (y, tb) n) n).2 = tb ∧ _) ∨ workT c.lat (beginZ c lats picks (beginsZ c lats picks (y, tb) n) n).2 < workT c.lat tb
    generalize beginsZ c lats picks (y, tb) n = w at *
    obtain ⟨y1, t1⟩ := w
    rcases ih with ⟨h1, h2⟩ | h1
    · have h1' : t1 = tb := h1
      subst h1'
      rcases begin_work hl lats picks y1 t1 n with ⟨g1, g2⟩ | g
      · refine .inl ⟨g1, fun b hb => ?_⟩
        by_cases e : b = n
        · rw [e]; exact g2
        · exact h2 b (by omega)
      · exact .inr g
    · have h1' : workT c.lat t1 < workT c.lat tb := h1
      right
      rcases begin_work hl lats picks y1 t1 n with ⟨g1, _⟩ | g
      · rw [g1]; exact h1'
      · omega
/-- Memory with something to do does something. -/
theorem advance_workR {c : Cfg} (hruns : runsB c = true) (lats picks : List Int) {x : Sta} (h : ∀ q ∈ x.table, 0 ≤ q.left) : workT c.lat (advanceZ c lats picks x).table ≤ workT c.lat x.table ∧ (x.table ≠ [] → workT c.lat (advanceZ c lats picks x).table < workT c.lat x.table) := by
  have hcc := hruns
  unfold runsB withinB at hcc
  simp only [Bool.and_eq_true, decide_eq_true_eq] at hcc
  have hlat : 1 ≤ c.lat ∧ c.lat ≤ 1000 := by omega
  obtain ⟨g1, g2, g3⟩ := ticks_work hlat.1 x.table x [] h
  have e0 : workT c.lat ([] : List Rqs) = 0 := rfl
  rw [e0] at g1 g2
  have e1 : List.foldl tickZ (x, []) x.table = ticksZ x x.table := rfl
  rw [e1] at g1 g2 g3
  unfold advanceZ
  rw [if_pos hruns]
  simp only
  generalize hw : ticksZ x x.table = w at *
  obtain ⟨y, tb⟩ := w
  have hb := begins_work hlat lats picks y tb c.banks.toNat
  have hle : workT c.lat (beginsZ c lats picks (y, tb) c.banks.toNat).2 ≤ workT c.lat tb := by
    rcases hb with ⟨a, _⟩ | a
    · rw [a]; exact Int.le_refl _
    · omega
  have g1' : workT c.lat tb ≤ 0 + workT c.lat x.table := g1
  refine ⟨by omega, fun hne => ?_⟩
  by_cases hz : ∃ q ∈ x.table, 0 < q.left
  · have g2' : workT c.lat tb < 0 + workT c.lat x.table := g2 hz
    omega
  · have hall : ∀ q ∈ x.table, q.left = 0 := fun q hq => by
      have := h q hq
      rcases Int.lt_or_le 0 q.left with d | d
      · exact absurd ⟨q, hq, d⟩ hz
      · omega
    have htb : tb = x.table := by have := g3 hall; rw [List.nil_append] at this; exact this
    rcases hb with ⟨_, a⟩ | a
    · exfalso
      subst htb
      cases hq : x.table with
      | nil => exact hne hq
      | cons q0 r =>
        have hbk : 0 ≤ bankZ q0.addr c.banks ∧ bankZ q0.addr c.banks < c.banks := by
          unfold bankZ
          split
          · omega
          · exact ⟨Int.emod_nonneg _ (by omega), Int.emod_lt_of_pos _ (by omega)⟩
        obtain ⟨b0, hb0⟩ : ∃ b0 : Nat, bankZ q0.addr c.banks = b0 := ⟨(bankZ q0.addr c.banks).toNat, by omega⟩
        rcases a b0 (by omega) with d | d
        · unfold busyZ at d
          obtain ⟨q', h1, h2⟩ := List.any_eq_true.1 d
          simp only [Bool.and_eq_true, decide_eq_true_eq] at h2
          have := hall q' h1
          omega
        · have hm : 0 ∈ waitZ c.banks b0 x.table := by
            unfold waitZ
            refine List.mem_filter.2 ⟨List.mem_range.2 (by rw [hq]; simp), ?_⟩
            rw [hq]
            show waitB c.banks b0 q0 = true
            unfold waitB atBank
            rw [hb0, decide_eq_true rfl, hall q0 (by rw [hq]; simp)]; rfl
          have := List.length_pos_of_mem hm
          omega
    · have a' : workT c.lat (beginsZ c lats picks (y, tb) c.banks.toNat).2 < workT c.lat tb := a
      rw [htb] at a' ⊢
      exact a'
/-- All that a table may have left. -/
theorem work_le {lat : Int} (hl : 1 ≤ lat) {l : List Rqs} (h : ∀ q ∈ l, q.left ≤ lat) : workT lat l ≤ (lat + 1) * l.length := by
  induction l with
  | nil => show (0 : Int) ≤ (lat + 1) * 0; omega
  | cons q l ih =>
    have h1 : workQ lat q ≤ lat + 1 := by
      have := h q (by simp)
      unfold workQ; split <;> omega
    have h2 := ih (fun r hr => h r (List.mem_cons_of_mem _ hr))
    show workQ lat q + workT lat l ≤ (lat + 1) * ((l.length + 1 : Nat) : Int)
    have : (lat + 1) * ((l.length + 1 : Nat) : Int) = (lat + 1) * l.length + (lat + 1) := by rw [Int.natCast_add, Int.mul_add]; simp
    omega
/-- Two requests under way are of different banks. -/
def apartB (n : Int) (q q' : Rqs) : Prop := 0 < q.left → 0 < q'.left → bankZ q.addr n ≠ bankZ q'.addr n
def OneB (n : Int) (l : List Rqs) : Prop := l.Pairwise (apartB n)
def tickQ (q : Rqs) : Option Rqs := if 0 < q.left then (if q.left = 1 then none else some { q with left := q.left - 1 }) else some q
theorem ticks_tb : ∀ (l : List Rqs) (y : Sta) (a : List Rqs), (l.foldl tickZ (y, a)).2 = a ++ l.filterMap tickQ := by
  intro l
  induction l with
  | nil => intro y a; exact (List.append_nil _).symm
  | cons q l ih =>
    intro y a
    rw [List.foldl_cons]
    by_cases h1 : 0 < q.left
    · by_cases h2 : q.left = 1
      · rw [show tickZ (y, a) q = (doneZ y { q with left := 0 }, a) by unfold tickZ; rw [if_pos h1, if_pos h2], ih, List.filterMap_cons_none (by unfold tickQ; rw [if_pos h1, if_pos h2])]
      · rw [show tickZ (y, a) q = (y, a ++ [{ q with left := q.left - 1 }]) by unfold tickZ; rw [if_pos h1, if_neg h2], ih, List.filterMap_cons_some (show tickQ q = some { q with left := q.left - 1 } by unfold tickQ; rw [if_pos h1, if_neg h2]), List.append_assoc]; rfl
    · rw [show tickZ (y, a) q = (y, a ++ [q]) by unfold tickZ; rw [if_neg h1], ih, List.filterMap_cons_some (show tickQ q = some q by unfold tickQ; rw [if_neg h1]), List.append_assoc]; rfl
theorem tickQ_of {q r : Rqs} (h : tickQ q = some r) : r.addr = q.addr ∧ (0 < r.left → 0 < q.left) := by
  unfold tickQ at h
  split at h
  · rename_i h1
    split at h
    · cases h
    · injection h with h; subst h; exact ⟨rfl, fun _ => h1⟩
  · injection h with h; subst h; exact ⟨rfl, id⟩
theorem ticks_one {n : Int} {l : List Rqs} (h : OneB n l) (y : Sta) : OneB n (ticksZ y l).2 := by
  unfold ticksZ OneB
  rw [ticks_tb, List.nil_append, List.pairwise_filterMap]
  refine List.Pairwise.imp ?_ h
  intro a a' hh b hb b' hb'
  obtain ⟨e1, e2⟩ := tickQ_of hb
  obtain ⟨f1, f2⟩ := tickQ_of hb'
  intro g1 g2
  rw [e1, f1]
  exact hh (e2 g1) (f2 g2)
theorem begin_oneB {c : Cfg} {lats picks : List Int} {p : Sta × List Rqs} {b : Nat} (h : OneB c.banks p.2) : OneB c.banks (beginZ c lats picks p b).2 := by
  unfold beginZ
  dsimp only
  split
  · exact h
  · rename_i hno
    have hbusy : busyZ c.banks b p.2 = false := by
      cases hv : busyZ c.banks b p.2
      · rfl
      · exact absurd (.inl hv) hno
    have hlen : (waitZ c.banks b p.2).length ≠ 0 := fun e => hno (.inr e)
    obtain ⟨i, hi⟩ : ∃ i, i = (waitZ c.banks b p.2).getD (if 1 < (waitZ c.banks b p.2).length then pickZ picks p.1.picks (waitZ c.banks b p.2).length else 0).toNat 0 := ⟨_, rfl⟩
    have him : i ∈ waitZ c.banks b p.2 := by
      have hk : (if 1 < (waitZ c.banks b p.2).length then pickZ picks p.1.picks (waitZ c.banks b p.2).length else 0).toNat < (waitZ c.banks b p.2).length := by
        split
        · have := pickZ_range picks p.1.picks ((waitZ c.banks b p.2).length : Int) (by omega)
          omega
        · show 0 < _; omega
      rw [hi, List.getD_eq_getElem?_getD, List.getElem?_eq_getElem hk]
      exact List.getElem_mem hk
    rw [← hi]
    obtain ⟨q, hq, hw⟩ := waitZ_at him
    show OneB c.banks (setLeft p.2 i _)
    unfold setLeft
    rw [hq]
    show OneB c.banks (p.2.set i { q with left := _ })
    unfold waitB atBank at hw
    simp only [Bool.and_eq_true, decide_eq_true_eq] at hw
    have hall : ∀ r ∈ p.2, 0 < r.left → bankZ r.addr c.banks ≠ b := by
      intro r hr h0 hb
      have : busyZ c.banks b p.2 = true := by
        unfold busyZ atBank
        rw [List.any_eq_true]
        exact ⟨r, hr, by simp [hb, h0]⟩
      rw [hbusy] at this; cases this
    unfold OneB at h ⊢
    rw [List.pairwise_iff_getElem] at h ⊢
    intro m k hm hk hmk
    rw [List.length_set] at hm hk
    rw [List.getElem_set, List.getElem_set]
    have hmem1 : p.2[m] ∈ p.2 := List.getElem_mem hm
    have hmem2 : p.2[k] ∈ p.2 := List.getElem_mem hk
    by_cases e1 : i = m
    · rw [if_pos e1, if_neg (by omega)]
      intro _ g2
      show bankZ q.addr c.banks ≠ _
      rw [hw.1]
      exact fun e => hall _ hmem2 g2 e.symm
    · rw [if_neg e1]
      by_cases e2 : i = k
      · rw [if_pos e2]
        intro g1 _
        show _ ≠ bankZ q.addr c.banks
        rw [hw.1]
        exact hall _ hmem1 g1
      · rw [if_neg e2]
        exact h m k hm hk hmk
theorem begins_one {c : Cfg} {lats picks : List Int} {p : Sta × List Rqs} (h : OneB c.banks p.2) : ∀ n, OneB c.banks (beginsZ c lats picks p n).2
  | 0 => h
  | n + 1 => begin_oneB (begins_one h n)
theorem advance_one {c : Cfg} {lats picks : List Int} {x : Sta} (h : OneB c.banks x.table) : OneB c.banks (advanceZ c lats picks x).table := by
  unfold advanceZ
  split
  · exact begins_one (ticks_one h x) _
  · exact h
end Go.Proofs.Ythhoigkmmlkfcaa.Words

/- A load that is alone in memory: what each cycle leaves. Plain mathematics. -/
namespace Go.Proofs.Ythhoigkmmlkfcaa.Words
set_option maxRecDepth 100000
open Go.RowKit
set_option linter.unusedVariables false
set_option linter.unusedSimpArgs false

theorem wait_nil (n : Int) (b : Nat) : waitZ n b [] = [] := rfl
theorem wait_single (n : Int) (b : Nat) (q : Rqs) : waitZ n b [q] = if waitB n b q = true then [0] else [] := by
  show List.filter _ [0] = _
  rw [List.filter_cons]
  show (if waitB n b q = true then 0 :: List.filter _ [] else List.filter _ []) = _
  rfl
theorem begins_nil (c : Cfg) (lats picks : List Int) (x : Sta) : ∀ b, beginsZ c lats picks (x, []) b = (x, [])
  | 0 => rfl
  | b + 1 => by
    show beginZ c lats picks (beginsZ c lats picks (x, []) b) b = _
    rw [begins_nil c lats picks x b]
    exact begin_skip (.inr rfl)
theorem begins_busy (c : Cfg) (lats picks : List Int) (x : Sta) (q : Rqs) (h : 0 < q.left) : ∀ b, beginsZ c lats picks (x, [q]) b = (x, [q])
  | 0 => rfl
  | b + 1 => by
    show beginZ c lats picks (beginsZ c lats picks (x, [q]) b) b = _
    rw [begins_busy c lats picks x q h b]
    refine begin_skip (.inr ?_)
    rw [wait_single, if_neg]
    · rfl
    · unfold waitB; simp only [Bool.and_eq_true, decide_eq_true_eq]; omega
theorem begins_free (c : Cfg) (lats picks : List Int) (x : Sta) (q : Rqs) (h0 : q.left = 0) (hl : 1 ≤ c.lat) : ∀ b : Nat,
    beginsZ c lats picks (x, [q]) b = if bankZ q.addr c.banks < b then ({ x with lats := wrap64 (x.lats + 1) }, [{ q with left := latsZ lats x.lats c.lat }]) else (x, [q])
  | 0 => by
    rw [if_neg]
    · rfl
    · have : 0 ≤ bankZ q.addr c.banks := by
        unfold bankZ
        split
        · omega
        · exact Int.emod_nonneg _ (by omega)
      omega
  | b + 1 => by
    show beginZ c lats picks (beginsZ c lats picks (x, [q]) b) b = _
    rw [begins_free c lats picks x q h0 hl b]
    have hL : 1 ≤ latsZ lats x.lats c.lat := by
      unfold latsZ
      rw [if_neg (by omega)]
      have h1 := Int.emod_nonneg (ithZ lats x.lats) (show c.lat ≠ 0 by omega)
      omega
    by_cases h1 : bankZ q.addr c.banks < b
    · rw [if_pos h1, if_pos (by omega)]
      refine begin_skip (.inr ?_)
      rw [wait_single, if_neg]
      · rfl
      · unfold waitB; simp only [Bool.and_eq_true, decide_eq_true_eq]; omega
    · rw [if_neg h1]
      by_cases h2 : bankZ q.addr c.banks = b
      · rw [if_pos (by omega)]
        have hw : waitZ c.banks b [q] = [0] := by
          rw [wait_single, if_pos]
          unfold waitB atBank
          rw [decide_eq_true h2, decide_eq_true h0]; rfl
        have hb : busyZ c.banks b [q] = false := by
          unfold busyZ
          simp only [List.any_cons, List.any_nil, Bool.or_false]
          rw [decide_eq_false (show ¬ 0 < q.left by omega), Bool.and_false]
        rw [begin_one hb hw]
        rfl
      · rw [if_neg (by omega)]
        refine begin_skip (.inr ?_)
        rw [wait_single, if_neg]
        · rfl
        · unfold waitB atBank; simp only [Bool.and_eq_true, decide_eq_true_eq]; exact fun h => h2 h.1
section
variable {c : Cfg} {lats picks : List Int} {x : Sta} {q : Rqs}
theorem runs_lat (hr : runsB c = true) : 1 ≤ c.lat ∧ c.lat ≤ 1000 ∧ 1 ≤ c.banks ∧ c.banks ≤ 16 := by
  unfold runsB withinB at hr
  simp only [Bool.and_eq_true, decide_eq_true_eq] at hr
  omega
theorem advance_begin1 (hr : runsB c = true) (ht : x.table = [q]) (h0 : q.left = 0) : advanceZ c lats picks x = { x with table := [{ q with left := latsZ lats x.lats c.lat }], lats := wrap64 (x.lats + 1) } := by
  have hl := runs_lat hr
  have hb : bankZ q.addr c.banks < (c.banks.toNat : Int) := by
    unfold bankZ
    split
    · omega
    · have := Int.emod_lt_of_pos (q.addr / 4) (show 0 < c.banks by omega)
      omega
  unfold advanceZ
  rw [if_pos hr, ht, show ticksZ x [q] = (x, [q]) from tick_wait (p := (x, [])) (by omega)]
  rw [begins_free c lats picks x q h0 hl.1, if_pos hb]
theorem advance_less1 (hr : runsB c = true) (ht : x.table = [q]) (h1 : 1 < q.left) : advanceZ c lats picks x = { x with table := [{ q with left := q.left - 1 }] } := by
  unfold advanceZ
  rw [if_pos hr, ht, show ticksZ x [q] = (x, [{ q with left := q.left - 1 }]) from tick_less (p := (x, [])) (by omega) (by omega)]
  rw [begins_busy c lats picks x _ (show 0 < q.left - 1 by omega)]
theorem advance_done1 (hr : runsB c = true) (ht : x.table = [q]) (h1 : q.left = 1) : advanceZ c lats picks x = { doneZ x { q with left := 0 } with table := [] } := by
  unfold advanceZ
  rw [if_pos hr, ht, show ticksZ x [q] = (doneZ x { q with left := 0 }, []) from tick_done (p := (x, [])) h1]
  rw [begins_nil]
/-- The states of a load that is alone: ahead of the first cycle, behind so many. -/
def ansZ (x : Sta) (q : Rqs) (n : Int) : Nat → Sta
  | 0 => { x with table := [q] }
  | i + 1 => { x with cycle := i + 1, lats := 1, table := [{ q with left := n - i }] }
theorem ans_step (hr : runsB c = true) (hx : x.cycle = 0) (hxl : x.lats = 0) (h0 : q.left = 0) {i : Nat} (hi : (i : Int) < latsZ lats 0 c.lat) :
    { advanceZ c lats picks (ansZ x q (latsZ lats 0 c.lat) i) with cycle := (i : Int) + 1 } = ansZ x q (latsZ lats 0 c.lat) (i + 1) := by
  cases i with
  | zero =>
    rw [advance_begin1 (q := q) hr rfl h0]
    show Sta.mk _ _ _ _ _ _ _ _ _ _ _ _ _ _ _ _ _ _ = _
    unfold ansZ
    simp only [hxl, Int.sub_zero, Int.natCast_zero, show wrap64 (0 + 1) = 1 by unfold wrap64; omega]
  | succ i =>
    rw [advance_less1 (q := { q with left := latsZ lats 0 c.lat - i }) hr rfl (by show 1 < latsZ lats 0 c.lat - i; omega)]
    unfold ansZ
    simp only [Int.natCast_add, Int.natCast_one]
    rw [show latsZ lats 0 c.lat - (i : Int) - 1 = latsZ lats 0 c.lat - ((i : Int) + 1) by omega]
theorem ans_end (hr : runsB c = true) (hx : x.cycle = 0) (hxl : x.lats = 0) (h0 : q.left = 0) {n : Nat} (hn : (n : Int) = latsZ lats 0 c.lat) :
    advanceZ c lats picks (ansZ x q n n) = { doneZ { x with cycle := (n : Int), lats := 1, table := [{ q with left := 1 }] } { q with left := 0 } with table := [] } := by
  have hl := (latsZ_range lats 0 c.lat (runs_lat hr).2.1).1
  obtain ⟨k, rfl⟩ : ∃ k, n = k + 1 := ⟨n - 1, by omega⟩
  rw [advance_done1 (q := { q with left := ((k + 1 : Nat) : Int) - k }) hr rfl (by show ((k + 1 : Nat) : Int) - k = 1; omega)]
  unfold ansZ
  simp only [show ((k + 1 : Nat) : Int) - (k : Int) = 1 by omega]
  rfl
end
end Go.Proofs.Ythhoigkmmlkfcaa.Words

/- A state that is written out: what it is as plain data; the example of chapter 18's law. -/
namespace Go.Proofs.Ythhoigkmmlkfcaa.Words
set_option maxRecDepth 100000
open Go.RowKit
set_option linter.unusedVariables false
set_option linter.unusedSimpArgs false

def exQ : Rqs := ⟨false, 26, 0, 4, 0, 0, 0, 0⟩
def exC : Cfg := ⟨0, 0, 0, 0, 0, 0, 1, 0, 0, 5, 0, 0⟩
theorem ex_adv : advanceZ exC [3] [] { sta0 with table := [exQ] } = { sta0 with table := [{ exQ with left := 4 }], lats := 1 } := by
  rw [advance_begin1 (q := exQ) (by rfl) rfl rfl]
  rw [show latsZ [3] ({ sta0 with table := [exQ] } : Sta).lats exC.lat = 4 by unfold latsZ ithZ exC sta0; simp, show wrap64 (({ sta0 with table := [exQ] } : Sta).lats + 1) = 1 by unfold wrap64 sta0; simp]
theorem ex_lim : StaLim 0 { sta0 with table := [exQ] } := by
  refine ⟨by decide, by decide, by decide, by decide, by decide, by decide, by decide, by decide, by decide, by simp [sta0], ⟨sid0_ok, sid0_ok⟩⟩
set_option maxHeartbeats 2000000 in
theorem alive18_any (w : World) : Calls Try.prog 8 #[] w fun e w' => e = .returned (.bool true) ∧ Below w.heap.size w w' := by
  go_enter Try.func8, Try.ntmps8
  obtain ⟨W1, hW1⟩ : ∃ W1, W1 = w.alloc (.cells #[.int .i64 3] 3) := ⟨_, rfl⟩
  obtain ⟨W2, hW2⟩ : ∃ W2, W2 = W1.alloc (.cells #[.bool false, .int .i64 26, .int .i64 0, .int .i64 4, .int .u32 0, .int .i64 0, .int .i64 0, .int .i64 0] 54) := ⟨_, rfl⟩
  have hb1 : Below w.heap.size w W1 := by rw [hW1]; exact (Below.refl _ _).alloc (Nat.le_refl _) _
  have hb2 : Below W1.heap.size W1 W2 := by rw [hW2]; exact (Below.refl _ _).alloc (Nat.le_refl _) _
  have hs1 : W1.heap.size = w.heap.size + 1 := by rw [hW1]; simp
  have hs2 : W2.heap.size = W1.heap.size + 1 := by rw [hW2]; simp
  have hl1 : Row W1 W1.heap.size 1 (.slice (some ⟨w.heap.size, 0, none⟩) 1 1) 1 ([3].map (Value.int .i64)) := by rw [hs1, hW1]; exact row_int w 3
  have hl : Row W2 W2.heap.size 1 (.slice (some ⟨w.heap.size, 0, none⟩) 1 1) 1 ([3].map (Value.int .i64)) := (hl1.below hb2).more hb2.size
  have ht : Row W2 W2.heap.size 8 (.slice (some ⟨W1.heap.size, 0, none⟩) 1 1) 1 (flat rqsL [exQ]) := by rw [hs2, hW2]; exact row_rqs W1 exQ
  have hadv := (advance_any exC (by unfold Cfg.Fits exC; simp) (some ⟨w.heap.size, 0, none⟩) none 1 0 [3] [] { sta0 with table := [exQ] } { vs0 with table := .slice (some ⟨W1.heap.size, 0, none⟩) 1 1 } W2 hl (Row.nil _ _ _) ex_lim
    ⟨Row.nil _ _ _, Row.nil _ _ _, Row.nil _ _ _, Row.nil _ _ _, Row.nil _ _ _, Row.nil _ _ _, ht, Row.nil _ _ _, Row.nil _ _ _⟩ (by intro q hq; simp only [List.mem_singleton] at hq; subst hq; unfold Rqs.Fits exQ; simp) ⟨by simp [sta0], by simp [sta0]⟩)
  have HB2 := Lib.hid (hb1.trans (hb2.mono hb1.size))
  rw [ex_adv, hs1] at hadv
  have HADV := Lib.hid hadv
  clear hb1 hb2 hl1 hl ht hadv
  go_wp2_with (first
    | (rw [← hW1])
    | (rw [← hW2])
    | (refine wpList_built_at _ rfl 44 _ rfl _ (by simp only [List.map_toArray, List.map_cons, List.map_nil]; exact built_table _ _ _) ?_))
  refine HADV.out.mono ?_
  rintro e w3 ⟨v', rfl, ho, hb⟩
  have HO := Lib.hid ho
  have HB3 := Lib.hid (HB2.out.trans (hb.mono HB2.out.size))
  have HOK : Hid (Sta.Ok { sta0 with table := [{ exQ with left := 4 }], lats := 1 }) := Lib.hid ⟨sid0_ok, sid0_ok⟩
  obtain ⟨TA, tc, htb⟩ := HO.out.row.table.form
  have HTB := Lib.hid htb
  clear ho hb htb HADV
  generalize hX : ({ sta0 with table := [{ exQ with left := 4 }], lats := 1 } : Sta) = X at *
  have HX := Lib.hid hX
  clear hX
  try dsimp only
  go_wp2_with (first
    | (refine wpList_store_box rfl 44 (.tmp 1) (.tmp 8) rfl w3.heap.size 0 (staL X v') rfl rfl _ (Box.new w3 Try.zeroCells44.toList 44) (by rw [sta_len' HOK.out, Array.length_toList, zero_size]; omega) 92 (by kernel_rfl) (sta_len' HOK.out) HO.out.one ?_; intro w4 hX2 hg2; rw [splice_all _ _ (by rw [sta_len' HOK.out, Array.length_toList, zero_size])] at hX2; have HB4 := Lib.hid (HB3.out.trans ((box_storedS hg2).mono HB3.out.size)); have HX4 := Lib.hid hX2; have R4 := Lib.hid (HO.out.row.kept (box_storedS hg2)); clear hX2 hg2))
  refine (bank_any 8 2 _ (by omega) (by omega)).mono ?_
  rintro e _ ⟨rfl, rfl⟩
  rw [show bankZ 8 2 = 0 from rfl]
  try dsimp only
  go_wp2_with fail
  refine (lat_any (some ⟨w4.heap.size, 0, none⟩) none 1 0 1 0 [7] [] 0 5 _ rfl (by simpa using row_int w4 7) (by omega) (by omega)).mono ?_
  rintro e w5 ⟨rfl, hb⟩
  rw [show latsZ [7] 0 5 = 3 by unfold latsZ ithZ; simp]
  have hb5 : Below w4.heap.size w4 w5 := ((Below.refl _ _).alloc (Nat.le_refl _) _).trans (hb.mono (by simp))
  have HB5 := Lib.hid (HB4.out.trans (hb5.mono HB4.out.size))
  have HX5 := Lib.hid (HX4.out.below hb5 HX4.out.lt)
  have R5 := Lib.hid (R4.out.kept hb5)
  clear hb hb5 HX4 R4
  try dsimp only
  go_wp2_with fail
  refine (pick_any none none 0 0 0 0 [] [] 0 5 _ rfl (Row.nil _ _ _) (by omega) (by omega)).mono ?_
  rintro e w6 ⟨rfl, hb⟩
  rw [show pickZ [] 0 5 = 0 by unfold pickZ ithZ; simp]
  have HB6 := Lib.hid (HB5.out.trans (hb.mono HB5.out.size))
  have HX6 := Lib.hid (HX5.out.below hb HX5.out.lt)
  have R6 := Lib.hid (R5.out.kept hb)
  clear hb HX5 R5
  have ct : w6.cell? ⟨w3.heap.size, 83, none⟩ = some v'.table := HX6.out.cell (sta_table HOK.out)
  have hrow := R6.out.table
  have hxt : X.table = [{ exQ with left := 4 }] := by rw [← HX.out]
  rw [hxt] at hrow
  have hv : v'.table = .slice TA 1 tc := by have := HTB.out; rw [hxt] at this; exact this
  rw [hv] at ct hrow
  obtain ⟨g, off, rfl, hg, _⟩ := hrow.at_ (by decide)
  have cl := hrow.flat_cell rqsL_len (k := 0) (x := { exQ with left := 4 }) rfl (j := 5) (by omega) rfl
  rw [Nat.zero_mul, Nat.add_zero] at cl
  clear hrow hxt hv
  try dsimp only
  go_wp2_with fail
  go_ret
  exact ⟨rfl, HB6.out⟩
end Go.Proofs.Ythhoigkmmlkfcaa.Words

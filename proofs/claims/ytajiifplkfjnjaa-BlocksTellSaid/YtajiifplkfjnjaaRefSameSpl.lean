/- Contract of the document's own SameSplit: are two splits one? -/
import Derived.Test.YtajiifplkfjnjaaSplData
namespace Go.Proofs.Ytajiifplkfjnjaa.Words
set_option maxRecDepth 100000
open Go.RowKit
set_option linter.unusedVariables false

theorem spl_own {v : Value} {o : List Int} : ∀ j u, (o.map (Value.int .i64))[j]? = some u → (splV v o)[1 + j]? = some u := by
  intro j u hu
  rw [splV, Nat.add_comm, List.getElem?_cons_succ]; exact hu
theorem BlksV.at_ {w : World} {B n c b off : Nat} {l : List BlkC} (h : BlksV w B (.slice (some ⟨b, off, none⟩) n c) l) {k : Nat} {x : BlkC} (hx : l[k]? = some x) :
    ∃ A3 c3 A5 c5, w.cell? ⟨b, off + k * 6, none⟩ = some (.int .i64 x.from_) ∧ w.cell? ⟨b, off + k * 6 + 1, none⟩ = some (.int .i64 x.to) ∧ w.cell? ⟨b, off + k * 6 + 2, none⟩ = some (.int .i64 x.next) ∧ w.cell? ⟨b, off + k * 6 + 3, none⟩ = some (.int .i64 x.taken) ∧
      w.cell? ⟨b, off + k * 6 + 4, none⟩ = some (.slice A3 x.a.length c3) ∧ w.cell? ⟨b, off + k * 6 + 5, none⟩ = some (.slice A5 x.e.length c5) ∧ Row w B 9 (.slice A3 x.a.length c3) x.a.length (flat celCells x.a) ∧ Row w B 9 (.slice A5 x.e.length c5) x.e.length (flat celCells x.e) := by
  obtain ⟨rs, h1, h2, h3⟩ := h
  obtain ⟨A, c', e⟩ := h1.form
  injection e with e1 e2 e3
  subst e2
  have hlt : k < l.length := (List.getElem?_eq_some_iff.1 hx).1
  obtain ⟨r, hr⟩ : ∃ r, rs[k]? = some r := ⟨_, List.getElem?_eq_getElem (by omega)⟩
  obtain ⟨q0, q1, q2, q3, qa, qe⟩ := h3 k r x hr hx
  obtain ⟨A3, c3, ea⟩ := qa.form
  obtain ⟨A5, c5, ee⟩ := qe.form
  have g : ∀ j u, j < 6 → (blkRL r)[j]? = some u → w.cell? ⟨b, off + k * 6 + j, none⟩ = some u := fun j u hj hu => h1.flat_cell blkRL_len hr hj hu
  rw [ea] at qa
  rw [ee] at qe
  refine ⟨A3, c3, A5, c5, ?_, ?_, ?_, ?_, ?_, ?_, qa, qe⟩
  · rw [← q0]; exact g 0 _ (by omega) rfl
  · rw [← q1]; exact g 1 _ (by omega) rfl
  · rw [← q2]; exact g 2 _ (by omega) rfl
  · rw [← q3]; exact g 3 _ (by omega) rfl
  · rw [← ea]; exact g 4 _ (by omega) rfl
  · rw [← ee]; exact g 5 _ (by omega) rfl
theorem BlksV.spot {w : World} {B n c : Nat} {A : Option Addr} {l : List BlkC} (h : BlksV w B (.slice A n c) l) (hn : l.length ≠ 0) : ∃ b off, A = some ⟨b, off, none⟩ := by
  obtain ⟨rs, h1, h2, h3⟩ := h
  obtain ⟨A', c', e⟩ := h1.form
  injection e with e1 e2 e3
  subst e1 e2 e3
  obtain ⟨b, off, e, _⟩ := h1.at_ hn
  exact ⟨b, off, e⟩
theorem BlksV.cap {w : World} {B n c : Nat} {A : Option Addr} {l : List BlkC} (h : BlksV w B (.slice A n c) l) : l.length ≤ 9223372036854775807 := by
  obtain ⟨rs, h1, h2, h3⟩ := h
  obtain ⟨A', c', e⟩ := h1.form
  injection e with e1 e2 e3
  subst e1 e2 e3
  have := h1.cap; omega

set_option maxHeartbeats 4000000 in
theorem refSameSpl_any (A1 A2 : Option Addr) (c1 c2 : Nat) (l1 l2 : List BlkC) (o1 o2 : List Int) (w : World) (m1 : o1.length = 16) (m2 : o2.length = 16)
    (h1 : BlksV w w.heap.size (.slice A1 l1.length c1) l1) (h2 : BlksV w w.heap.size (.slice A2 l2.length c2) l2) :
    Calls Try.prog 11 #[.agg (splV (.slice A1 l1.length c1) o1).toArray, .agg (splV (.slice A2 l2.length c2) o2).toArray] w fun e w' => e = .returned (.bool (decide (l1 = l2 ∧ o1 = o2))) ∧ Below w.heap.size w w' := by
  have hK := Lib.hid (fun (x : World) (h : Kept ((w.alloc (.cells (splV (.slice A1 l1.length c1) o1).toArray 35)).alloc (.cells (splV (.slice A2 l2.length c2) o2).toArray 35)) x) => (((Below.refl w.heap.size w).alloc (Nat.le_refl _) (.cells (splV (.slice A1 l1.length c1) o1).toArray 35)).alloc (by simp) (.cells (splV (.slice A2 l2.length c2) o2).toArray 35)).trans (h.mono (by simp; omega)))
  have hW1 : w.heap.size < ((w.alloc (.cells (splV (.slice A1 l1.length c1) o1).toArray 35)).alloc (.cells (splV (.slice A2 l2.length c2) o2).toArray 35)).heap.size := by simp; omega
  have hW2 : w.heap.size + 1 < ((w.alloc (.cells (splV (.slice A1 l1.length c1) o1).toArray 35)).alloc (.cells (splV (.slice A2 l2.length c2) o2).toArray 35)).heap.size := by simp
  have X1 := Lib.hid ((Box.new w (splV (.slice A1 l1.length c1) o1) 35).alloc (.cells (splV (.slice A2 l2.length c2) o2).toArray 35))
  have X2 : Hid (Box ((w.alloc (.cells (splV (.slice A1 l1.length c1) o1).toArray 35)).alloc (.cells (splV (.slice A2 l2.length c2) o2).toArray 35)) (w.heap.size + 1) (splV (.slice A2 l2.length c2) o2)) := by
    have := Box.new (w.alloc (.cells (splV (.slice A1 l1.length c1) o1).toArray 35)) (splV (.slice A2 l2.length c2) o2) 35
    have e : (w.alloc (.cells (splV (.slice A1 l1.length c1) o1).toArray 35)).heap.size = w.heap.size + 1 := by simp
    rw [e] at this
    exact this
  have s1 : ((w.alloc (.cells (splV (.slice A1 l1.length c1) o1).toArray 35)).alloc (.cells (splV (.slice A2 l2.length c2) o2).toArray 35)).cell? ⟨w.heap.size, 0, none⟩ = some (.slice A1 l1.length c1) := X1.out.cell (k := 0) rfl
  have s2 : ((w.alloc (.cells (splV (.slice A1 l1.length c1) o1).toArray 35)).alloc (.cells (splV (.slice A2 l2.length c2) o2).toArray 35)).cell? ⟨w.heap.size + 1, 0, none⟩ = some (.slice A2 l2.length c2) := X2.out.cell (k := 0) rfl
  have q := eqIn_own o1 o2 ((w.alloc (.cells (splV (.slice A1 l1.length c1) o1).toArray 35)).alloc (.cells (splV (.slice A2 l2.length c2) o2).toArray 35)) m1 m2
  have u1 := h1.cap
  have u2 := h2.cap
  have V1 := Lib.hid (((h1.alloc (Nat.le_refl _) (.cells (splV (.slice A1 l1.length c1) o1).toArray 35)).alloc (by simp) (.cells (splV (.slice A2 l2.length c2) o2).toArray 35)).more (Nat.le_of_lt hW1))
  have V2 := Lib.hid (((h2.alloc (Nat.le_refl _) (.cells (splV (.slice A1 l1.length c1) o1).toArray 35)).alloc (by simp) (.cells (splV (.slice A2 l2.length c2) o2).toArray 35)).more (Nat.le_of_lt hW1))
  have m1 := Lib.hid m1
  have m2 := Lib.hid m2
  clear h1 h2
  go_enter Try.func11, Try.ntmps11
  by_cases ho : o1 = o2
  rotate_left
  · rw [decide_eq_false ho] at q
    have hres := Lib.hid (show decide (l1 = l2 ∧ o1 = o2) = false by rw [decide_eq_false_iff_not]; exact fun h => ho h.2)
    clear ho s1 s2
    go_wp2_with (first
  | (refine wpList_load_box rfl 33 (.tmp 8) rfl w.heap.size 1 rfl (splV (.slice A1 l1.length c1) o1) (o1.map (Value.int .i64)) X1.out (spl_own) _ Try.underlying33 rfl 16 (by kernel_rfl) (by simp [m1.out]) ?_)
  | (refine wpList_load_box rfl 33 (.tmp 10) rfl (w.heap.size + 1) 1 rfl (splV (.slice A2 l2.length c2) o2) (o2.map (Value.int .i64)) X2.out (spl_own) _ Try.underlying33 rfl 16 (by kernel_rfl) (by simp [m2.out]) ?_))
    go_ret
    exact ⟨ret_bool hres.out.symm, hK.out _ (Kept.refl _)⟩
  rw [decide_eq_true ho] at q
  have HO := Lib.hid ho
  clear ho
  by_cases hn : l1.length = l2.length
  rotate_left
  · have hres := Lib.hid (show decide (l1 = l2 ∧ o1 = o2) = false by rw [decide_eq_false_iff_not]; exact fun h => hn (by rw [h.1]))
    have hb : ((l1.length : Int) != l2.length) = true := by simp; omega
    clear hn
    go_wp2_with (first
  | (refine wpList_load_box rfl 33 (.tmp 8) rfl w.heap.size 1 rfl (splV (.slice A1 l1.length c1) o1) (o1.map (Value.int .i64)) X1.out (spl_own) _ Try.underlying33 rfl 16 (by kernel_rfl) (by simp [m1.out]) ?_)
  | (refine wpList_load_box rfl 33 (.tmp 10) rfl (w.heap.size + 1) 1 rfl (splV (.slice A2 l2.length c2) o2) (o2.map (Value.int .i64)) X2.out (spl_own) _ Try.underlying33 rfl 16 (by kernel_rfl) (by simp [m2.out]) ?_))
    go_ret
    exact ⟨ret_bool hres.out.symm, hK.out _ (Kept.refl _)⟩
  have hb : ((l1.length : Int) != l2.length) = false := by simp; omega
  have HNN := Lib.hid hn
  clear hn
  go_wp2_with (first
  | (refine wpList_load_box rfl 33 (.tmp 8) rfl w.heap.size 1 rfl (splV (.slice A1 l1.length c1) o1) (o1.map (Value.int .i64)) X1.out (spl_own) _ Try.underlying33 rfl 16 (by kernel_rfl) (by simp [m1.out]) ?_)
  | (refine wpList_load_box rfl 33 (.tmp 10) rfl (w.heap.size + 1) 1 rfl (splV (.slice A2 l2.length c2) o2) (o2.map (Value.int .i64)) X2.out (spl_own) _ Try.underlying33 rfl 16 (by kernel_rfl) (by simp [m2.out]) ?_))
  clear q hb
  have hn := HNN.out
  clear HNN
  generalize ((w.alloc (.cells (splV (.slice A1 l1.length c1) o1).toArray 35)).alloc (.cells (splV (.slice A2 l2.length c2) o2).toArray 35)) = W at *
  have S1 := Lib.hid (fun (x : World) (h : Kept W x) => h.cell hW1 s1)
  have S2 := Lib.hid (fun (x : World) (h : Kept W x) => h.cell hW2 s2)
  clear s1 s2 X1 X2 m1 m2
  have HA1 := Lib.hid (fun j (h : j < l1.length) => at_someG (l := l1) (j := j) h)
  have HA2 := Lib.hid (fun j (h : j < l1.length) => at_someG (l := l2) (j := j) (by omega))
  have HS := Lib.hid (fun (j : Nat) (x y : BlkC) (hx : l1[j]? = some x) (hy : l2[j]? = some y) => drop_eqG hx hy)
  have HE1 := Lib.hid (fun (k : Nat) (h : l1.length ≤ k) => (show l1.drop k = [] from List.drop_eq_nil_of_le (by omega)))
  have HE2 := Lib.hid (fun (k : Nat) (h : l1.length ≤ k) => (show l2.drop k = [] from List.drop_eq_nil_of_le (by omega)))
  have H0 := Lib.hid (show (l1 = l2) ↔ (l1.drop 0 = l2.drop 0) by rw [List.drop_zero, List.drop_zero])
  have HAt1 := Lib.hid (fun (x : World) (h : Kept W x) b off (e : A1 = some ⟨b, off, none⟩) k c (hc : l1[k]? = some c) => (e ▸ (V1.out.below (w' := x) h).more h.size : BlksV x x.heap.size (.slice (some ⟨b, off, none⟩) l1.length c1) l1).at_ hc)
  have HAt2 := Lib.hid (fun (x : World) (h : Kept W x) b off (e : A2 = some ⟨b, off, none⟩) k c (hc : l2[k]? = some c) => (e ▸ (V2.out.below (w' := x) h).more h.size : BlksV x x.heap.size (.slice (some ⟨b, off, none⟩) l2.length c2) l2).at_ hc)
  have HSp1 := Lib.hid (fun (h : l1.length ≠ 0) => V1.out.spot h)
  have HSp2 := Lib.hid (fun (h : l2.length ≠ 0) => V2.out.spot h)
  clear V1 V2
  generalize hN : l1.length = n at *
  have HN := Lib.hid hN
  have HM := Lib.hid hn
  rw [← hn] at HSp2 S2
  try rw [← hn] at HAt2
  clear hN hn u2
  go_loopw [5] (fun i wr => ∃ j : Nat, j ≤ n ∧ i = .int .i64 j ∧ Kept W wr ∧ ((l1 = l2) ↔ (l1.drop j = l2.drop j))) (fun i _ => n - (intOf i).toNat)
  case atStart => exact ⟨0, Nat.zero_le _, rfl, Kept.refl _, H0.out⟩
  case round =>
    obtain ⟨j, hj, rfl, hk, hT⟩ := hrel
    have HT := Lib.hid hT
    clear hT
    have s1 := S1.out _ hk
    have s2 := S2.out _ hk
    have hwz := hk.size
    by_cases hlt : j < n
    · obtain ⟨x, hx⟩ := HA1.out j hlt
      obtain ⟨y, hy⟩ := HA2.out j hlt
      obtain ⟨b1, o3, rfl⟩ := HSp1.out (by omega)
      obtain ⟨b2, o4, rfl⟩ := HSp2.out (by omega)
      have hs := Lib.hid (HS.out j x y hx hy)
      obtain ⟨A3, c3, A5, c5, a0, a1, a2, a3, a4, a5, RXA, RXE⟩ := HAt1.out _ hk _ _ rfl j x hx
      obtain ⟨A4, c4, A6, c6, b0, b1', b2', b3, b4, b5, RYA, RYE⟩ := HAt2.out _ hk _ _ rfl j y hy
      have k0 : (0 : Int) ≤ j := by omega
      have k1 : (j : Int) < n := by omega
      have k2 : (j : Int) < l2.length := by have := HM.out; omega
      have hz1 : w.heap.size < wr.heap.size := by omega
      have hz2 : w.heap.size + 1 < wr.heap.size := by omega
      have hb1 : b1 < wr.heap.size := World.block_lt_of_cell? _ _ a0
      have hb2 : b2 < wr.heap.size := World.block_lt_of_cell? _ _ b0
      have RXA := Lib.hid (fun (z : World) (h : Kept wr z) => h.row RXA)
      have RXE := Lib.hid (fun (z : World) (h : Kept wr z) => h.row RXE)
      have RYA := Lib.hid (fun (z : World) (h : Kept wr z) => h.row RYA)
      have RYE := Lib.hid (fun (z : World) (h : Kept wr z) => h.row RYE)
      clear hx hy
      by_cases h_from_ : x.from_ = y.from_
      rotate_left
      · have hb_from_ : (x.from_ != y.from_) = true := by simpa using h_from_
        have hres := Lib.hid (show decide (l1 = l2 ∧ o1 = o2) = false by rw [decide_eq_false_iff_not]; exact fun h => h_from_ (by rw [(hs.out.1 (HT.out.1 h.1)).1]))
        clear h_from_
        go_wp2_with fail
        go_ret
        exact ⟨ret_bool hres.out.symm, hK.out _ ((hk.alloc _).alloc _)⟩
      have hb_from_ : (x.from_ != y.from_) = false := by simpa using h_from_
      have H_from_ := Lib.hid h_from_
      clear h_from_
      by_cases h_to : x.to = y.to
      rotate_left
      · have hb_to : (x.to != y.to) = true := by simpa using h_to
        have hres := Lib.hid (show decide (l1 = l2 ∧ o1 = o2) = false by rw [decide_eq_false_iff_not]; exact fun h => h_to (by rw [(hs.out.1 (HT.out.1 h.1)).1]))
        clear h_to
        go_wp2_with fail
        go_ret
        exact ⟨ret_bool hres.out.symm, hK.out _ ((hk.alloc _).alloc _)⟩
      have hb_to : (x.to != y.to) = false := by simpa using h_to
      have H_to := Lib.hid h_to
      clear h_to
      by_cases h_next : x.next = y.next
      rotate_left
      · have hb_next : (x.next != y.next) = true := by simpa using h_next
        have hres := Lib.hid (show decide (l1 = l2 ∧ o1 = o2) = false by rw [decide_eq_false_iff_not]; exact fun h => h_next (by rw [(hs.out.1 (HT.out.1 h.1)).1]))
        clear h_next
        go_wp2_with fail
        go_ret
        exact ⟨ret_bool hres.out.symm, hK.out _ ((hk.alloc _).alloc _)⟩
      have hb_next : (x.next != y.next) = false := by simpa using h_next
      have H_next := Lib.hid h_next
      clear h_next
      by_cases h_taken : x.taken = y.taken
      rotate_left
      · have hb_taken : (x.taken != y.taken) = true := by simpa using h_taken
        have hres := Lib.hid (show decide (l1 = l2 ∧ o1 = o2) = false by rw [decide_eq_false_iff_not]; exact fun h => h_taken (by rw [(hs.out.1 (HT.out.1 h.1)).1]))
        clear h_taken
        go_wp2_with fail
        go_ret
        exact ⟨ret_bool hres.out.symm, hK.out _ ((hk.alloc _).alloc _)⟩
      have hb_taken : (x.taken != y.taken) = false := by simpa using h_taken
      have H_taken := Lib.hid h_taken
      clear h_taken
      go_wp2_with fail
      refine (refSameCells_any A3 A4 x.a.length y.a.length c3 c4 x.a y.a _ rfl rfl (RXA.out _ (((Kept.refl _).alloc _).alloc _)) (RYA.out _ (((Kept.refl _).alloc _).alloc _))).mono ?_; rintro e w3 ⟨rfl, q3, rfl⟩
      by_cases h_a : x.a = y.a
      rotate_left
      · rw [decide_eq_false h_a]
        have hres := Lib.hid (show decide (l1 = l2 ∧ o1 = o2) = false by rw [decide_eq_false_iff_not]; exact fun h => h_a (by rw [(hs.out.1 (HT.out.1 h.1)).1]))
        clear h_a
        go_wp2_with fail
        go_ret
        exact ⟨ret_bool hres.out.symm, hK.out _ (((hk.alloc _).alloc _).drewN q3)⟩
      rw [decide_eq_true h_a]
      have H_a := Lib.hid h_a
      clear h_a
      go_wp2_with fail
      refine (refSameCells_any A5 A6 x.e.length y.e.length c5 c6 x.e y.e _ rfl rfl (RXE.out _ ((((Kept.refl _).alloc _).alloc _).drewN q3)) (RYE.out _ ((((Kept.refl _).alloc _).alloc _).drewN q3))).mono ?_; rintro e w4 ⟨rfl, q4, rfl⟩
      by_cases h_e : x.e = y.e
      rotate_left
      · rw [decide_eq_false h_e]
        have hres := Lib.hid (show decide (l1 = l2 ∧ o1 = o2) = false by rw [decide_eq_false_iff_not]; exact fun h => h_e (by rw [(hs.out.1 (HT.out.1 h.1)).1]))
        clear h_e
        go_wp2_with fail
        go_ret
        exact ⟨ret_bool hres.out.symm, hK.out _ (((hk.alloc _).alloc _).drewN _)⟩
      rw [decide_eq_true h_e]
      have hxy : x = y := by
        have e1 := H_from_.out; have e2 := H_to.out; have e3 := H_next.out; have e4 := H_taken.out; have e5 := H_a.out
        cases x; cases y; simp at e1 e2 e3 e4 e5 h_e; simp [e1, e2, e3, e4, e5, h_e]
      have hres := Lib.hid (show (l1 = l2) ↔ (l1.drop (j + 1) = l2.drop (j + 1)) by rw [HT.out, hs.out]; simp [hxy])
      clear hxy h_e
      go_wp2_with fail
      go_roundw
      case rel => exact ⟨j + 1, by omega, by go_num, ((hk.alloc _).alloc _).drewN _, hres.out⟩
      case measure => simp [intOf]; omega
    · have hres := Lib.hid (show decide (l1 = l2 ∧ o1 = o2) = true by rw [decide_eq_true_iff]; exact ⟨by rw [HT.out, HE1.out j (by omega), HE2.out j (by omega)], HO.out⟩)
      go_wp2_with fail
      go_ret
      exact ⟨ret_bool hres.out.symm, hK.out _ hk⟩
end Go.Proofs.Ytajiifplkfjnjaa.Words

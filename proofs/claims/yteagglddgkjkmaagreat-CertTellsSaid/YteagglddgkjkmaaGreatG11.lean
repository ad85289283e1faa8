/- Several texts in one: CertEqF, WithData, WithFill, BlkRefLeads, BlkRefCut. -/
import Derived.Test.YteagglddgkjkmaaGreatG10
import Derived.LoopN
import Derived.Test.YteagglddgkjkmaaGreatG05
import Derived.Test.YteagglddgkjkmaaGreatG06
import Derived.Test.YteagglddgkjkmaaGreatG01
import Derived.Test.YteagglddgkjkmaaGreatG04
import Derived.Test.YteagglddgkjkmaaGreatG02

/- Contracts of slices.EqualFunc over cells as package cert calls it: by registers, and by instructions. -/
namespace Go.Proofs.YteagglddgkjkmaaGreat.Words
set_option maxRecDepth 100000
open Go.RowKit
set_option linter.unusedVariables false
set_option linter.unusedSimpArgs false

theorem drop_eqM {α β : Type} {f : α → β} {l m : List α} {j : Nat} {x y : α} (hx : l[j]? = some x) (hy : m[j]? = some y) : ((l.drop j).map f = (m.drop j).map f) ↔ (f x = f y ∧ (l.drop (j + 1)).map f = (m.drop (j + 1)).map f) := by
  obtain ⟨h1, rfl⟩ := List.getElem?_eq_some_iff.1 hx
  obtain ⟨h2, rfl⟩ := List.getElem?_eq_some_iff.1 hy
  rw [List.drop_eq_getElem_cons h1, List.drop_eq_getElem_cons h2, List.map_cons, List.map_cons, List.cons.injEq]

set_option maxHeartbeats 4000000 in
theorem eqByReg_any (A1 A2 : Option Addr) (c1 c2 : Nat) (l1 l2 : List Cel) (w : World) (h1 : Row w w.heap.size 9 (.slice A1 l1.length c1) l1.length (flat celCells l1)) (h2 : Row w w.heap.size 9 (.slice A2 l2.length c2) l2.length (flat celCells l2)) :
    Calls Tryz.prog 22 #[.slice A1 l1.length c1, .slice A2 l2.length c2, .func (.func 24) #[] #[]] w fun e w' => e = .returned (.bool (decide (l1.map Cel.reg = l2.map Cel.reg))) ∧ Below w.heap.size w w' := by
  have u1 := h1.cap
  have u2 := h2.cap
  by_cases hn : l1.length = l2.length
  rotate_left
  · rw [decide_eq_false (fun h => hn (by have := congrArg List.length h; simpa using this))]
    have hb : ((l1.length : Int) != l2.length) = true := by simp; omega
    clear h1 h2
    go_enter Tryz.func22, Tryz.ntmps22
    go_wp2_with fail
    go_ret
    exact ⟨rfl, Below.refl _ _⟩
  have V1 := Lib.hid h1
  have V2 := Lib.hid h2
  have HS := Lib.hid (fun (j : Nat) (x y : Cel) (hx : l1[j]? = some x) (hy : l2[j]? = some y) => drop_eqM (f := Cel.reg) hx hy)
  have HA1 := Lib.hid (fun j (h : j < l1.length) => at_someG (l := l1) (j := j) h)
  have HA2 := Lib.hid (fun j (h : j < l2.length) => at_someG (l := l2) (j := j) h)
  have HE1 := Lib.hid (fun (k : Nat) (h : l1.length ≤ k) => (show l1.drop k = [] from List.drop_eq_nil_of_le h))
  have HE2 := Lib.hid (fun (k : Nat) (h : l2.length ≤ k) => (show l2.drop k = [] from List.drop_eq_nil_of_le h))
  have H0 := Lib.hid (show (l1.map Cel.reg = l2.map Cel.reg) ↔ ((l1.drop 0).map Cel.reg = (l2.drop 0).map Cel.reg) by rw [List.drop_zero, List.drop_zero])
  have hz2 : l2.length = 0 → l2 = [] := List.eq_nil_of_length_eq_zero
  have hz1 : l1.length = 0 → l1 = [] := List.eq_nil_of_length_eq_zero
  clear h1 h2
  rw [← hn] at V2 HA2 HE2 hz2 u2 ⊢
  clear hn
  generalize l1.length = n at *
  by_cases h0 : n = 0
  · subst h0
    rw [hz1 rfl, hz2 rfl]
    clear hz1 hz2 V1 V2 HS HA1 HA2 HE1 HE2 H0
    go_enter Tryz.func22, Tryz.ntmps22
    go_wp2_with fail
    refine wp_loop_rounds 1 ?_
    rw [rounds_succ]
    go_wp2_with fail
    go_ret
    exact ⟨rfl, Below.refl _ _⟩
  obtain ⟨b1, o1, rfl, q1, _⟩ := V1.out.at_ h0
  obtain ⟨b2, o2, rfl, q2, _⟩ := V2.out.at_ h0
  have HAt1 := Lib.hid (fun (y : World) (h : Kept w y) k c (hc : l1[k]? = some c) => (V1.out.below (w' := y) h).cel hc)
  have HAt2 := Lib.hid (fun (y : World) (h : Kept w y) k c (hc : l2[k]? = some c) => (V2.out.below (w' := y) h).cel hc)
  have Q1 := Lib.hid q1
  have Q2 := Lib.hid q2
  clear hz1 hz2 V1 V2 h0 q1 q2
  go_enter Tryz.func22, Tryz.ntmps22
  go_wp2_with fail
  go_loopw [17] (fun i wr => ∃ j : Nat, j ≤ n ∧ i = .int .i64 j ∧ Kept w wr ∧ ((l1.map Cel.reg = l2.map Cel.reg) ↔ ((l1.drop j).map Cel.reg = (l2.drop j).map Cel.reg))) (fun i _ => n - (intOf i).toNat)
  case atStart => exact ⟨0, Nat.zero_le _, rfl, Kept.refl _, H0.out⟩
  case round =>
    obtain ⟨j, hj, rfl, hk, hT⟩ := hrel
    have HT := Lib.hid hT
    have HK := Lib.hid hk
    clear hT
    by_cases hlt : j < n
    · obtain ⟨x, hx⟩ := HA1.out j hlt
      obtain ⟨y, hy⟩ := HA2.out j hlt
      have hs := Lib.hid (HS.out j x y hx hy)
      obtain ⟨a0, a1, a2, a3, a4, a5, a6, a7, a8⟩ := HAt1.out wr hk j x hx
      obtain ⟨d0, d1, d2, d3, d4, d5, d6, d7, d8⟩ := HAt2.out wr hk j y hy
      have k0 : (0 : Int) ≤ j := by omega
      have k1 : (j : Int) < n := by omega
      have z1 : b1 < wr.heap.size := Nat.lt_of_lt_of_le Q1.out hk.size
      have z2 : b2 < wr.heap.size := Nat.lt_of_lt_of_le Q2.out hk.size
      clear hx hy hk
      go_wp2_with fail
      refine (sameReg_any x y _).mono ?_; rintro e w5 ⟨rfl, hb5⟩
      have HK5 := Lib.hid (((HK.out.alloc (.cells (celCells x).toArray 49)).alloc (.cells (celCells y).toArray 49)).to hb5)
      clear hb5 a0 a1 a2 a3 a4 a5 a6 a7 a8 d0 d1 d2 d3 d4 d5 d6 d7 d8 z1 z2
      by_cases hxy : Cel.reg x = Cel.reg y
      · rw [decide_eq_true hxy]
        have hres := Lib.hid (show (l1.map Cel.reg = l2.map Cel.reg) ↔ ((l1.drop (j + 1)).map Cel.reg = (l2.drop (j + 1)).map Cel.reg) by rw [HT.out, hs.out]; simp [hxy])
        clear hxy
        go_wp2_with fail
        go_roundw
        case rel => exact ⟨j + 1, by omega, by go_num, HK5.out, hres.out⟩
        case measure => simp [intOf]; omega
      · rw [decide_eq_false hxy]
        have hres := Lib.hid (show decide (l1.map Cel.reg = l2.map Cel.reg) = false by rw [decide_eq_false_iff_not, HT.out, hs.out]; exact fun h => hxy h.1)
        clear hxy
        go_wp2_with fail
        go_ret
        exact ⟨ret_bool hres.out.symm, HK5.out⟩
    · have hres := Lib.hid (show decide (l1.map Cel.reg = l2.map Cel.reg) = true by rw [decide_eq_true_iff, HT.out, HE1.out j (by omega), HE2.out j (by omega)])
      go_wp2_with fail
      go_ret
      exact ⟨ret_bool hres.out.symm, HK.out⟩

set_option maxHeartbeats 4000000 in
theorem eqByIns_any (A1 A2 : Option Addr) (c1 c2 : Nat) (l1 l2 : List Cel) (w : World) (h1 : Row w w.heap.size 9 (.slice A1 l1.length c1) l1.length (flat celCells l1)) (h2 : Row w w.heap.size 9 (.slice A2 l2.length c2) l2.length (flat celCells l2)) :
    Calls Tryz.prog 22 #[.slice A1 l1.length c1, .slice A2 l2.length c2, .func (.func 25) #[] #[]] w fun e w' => e = .returned (.bool (decide (l1.map Cel.ins = l2.map Cel.ins))) ∧ Below w.heap.size w w' := by
  have u1 := h1.cap
  have u2 := h2.cap
  by_cases hn : l1.length = l2.length
  rotate_left
  · rw [decide_eq_false (fun h => hn (by have := congrArg List.length h; simpa using this))]
    have hb : ((l1.length : Int) != l2.length) = true := by simp; omega
    clear h1 h2
    go_enter Tryz.func22, Tryz.ntmps22
    go_wp2_with fail
    go_ret
    exact ⟨rfl, Below.refl _ _⟩
  have V1 := Lib.hid h1
  have V2 := Lib.hid h2
  have HS := Lib.hid (fun (j : Nat) (x y : Cel) (hx : l1[j]? = some x) (hy : l2[j]? = some y) => drop_eqM (f := Cel.ins) hx hy)
  have HA1 := Lib.hid (fun j (h : j < l1.length) => at_someG (l := l1) (j := j) h)
  have HA2 := Lib.hid (fun j (h : j < l2.length) => at_someG (l := l2) (j := j) h)
  have HE1 := Lib.hid (fun (k : Nat) (h : l1.length ≤ k) => (show l1.drop k = [] from List.drop_eq_nil_of_le h))
  have HE2 := Lib.hid (fun (k : Nat) (h : l2.length ≤ k) => (show l2.drop k = [] from List.drop_eq_nil_of_le h))
  have H0 := Lib.hid (show (l1.map Cel.ins = l2.map Cel.ins) ↔ ((l1.drop 0).map Cel.ins = (l2.drop 0).map Cel.ins) by rw [List.drop_zero, List.drop_zero])
  have hz2 : l2.length = 0 → l2 = [] := List.eq_nil_of_length_eq_zero
  have hz1 : l1.length = 0 → l1 = [] := List.eq_nil_of_length_eq_zero
  clear h1 h2
  rw [← hn] at V2 HA2 HE2 hz2 u2 ⊢
  clear hn
  generalize l1.length = n at *
  by_cases h0 : n = 0
  · subst h0
    rw [hz1 rfl, hz2 rfl]
    clear hz1 hz2 V1 V2 HS HA1 HA2 HE1 HE2 H0
    go_enter Tryz.func22, Tryz.ntmps22
    go_wp2_with fail
    refine wp_loop_rounds 1 ?_
    rw [rounds_succ]
    go_wp2_with fail
    go_ret
    exact ⟨rfl, Below.refl _ _⟩
  obtain ⟨b1, o1, rfl, q1, _⟩ := V1.out.at_ h0
  obtain ⟨b2, o2, rfl, q2, _⟩ := V2.out.at_ h0
  have HAt1 := Lib.hid (fun (y : World) (h : Kept w y) k c (hc : l1[k]? = some c) => (V1.out.below (w' := y) h).cel hc)
  have HAt2 := Lib.hid (fun (y : World) (h : Kept w y) k c (hc : l2[k]? = some c) => (V2.out.below (w' := y) h).cel hc)
  have Q1 := Lib.hid q1
  have Q2 := Lib.hid q2
  clear hz1 hz2 V1 V2 h0 q1 q2
  go_enter Tryz.func22, Tryz.ntmps22
  go_wp2_with fail
  go_loopw [17] (fun i wr => ∃ j : Nat, j ≤ n ∧ i = .int .i64 j ∧ Kept w wr ∧ ((l1.map Cel.ins = l2.map Cel.ins) ↔ ((l1.drop j).map Cel.ins = (l2.drop j).map Cel.ins))) (fun i _ => n - (intOf i).toNat)
  case atStart => exact ⟨0, Nat.zero_le _, rfl, Kept.refl _, H0.out⟩
  case round =>
    obtain ⟨j, hj, rfl, hk, hT⟩ := hrel
    have HT := Lib.hid hT
    have HK := Lib.hid hk
    clear hT
    by_cases hlt : j < n
    · obtain ⟨x, hx⟩ := HA1.out j hlt
      obtain ⟨y, hy⟩ := HA2.out j hlt
      have hs := Lib.hid (HS.out j x y hx hy)
      obtain ⟨a0, a1, a2, a3, a4, a5, a6, a7, a8⟩ := HAt1.out wr hk j x hx
      obtain ⟨d0, d1, d2, d3, d4, d5, d6, d7, d8⟩ := HAt2.out wr hk j y hy
      have k0 : (0 : Int) ≤ j := by omega
      have k1 : (j : Int) < n := by omega
      have z1 : b1 < wr.heap.size := Nat.lt_of_lt_of_le Q1.out hk.size
      have z2 : b2 < wr.heap.size := Nat.lt_of_lt_of_le Q2.out hk.size
      clear hx hy hk
      go_wp2_with fail
      refine (sameIns_any x y _).mono ?_; rintro e w5 ⟨rfl, hb5⟩
      have HK5 := Lib.hid (((HK.out.alloc (.cells (celCells x).toArray 49)).alloc (.cells (celCells y).toArray 49)).to hb5)
      clear hb5 a0 a1 a2 a3 a4 a5 a6 a7 a8 d0 d1 d2 d3 d4 d5 d6 d7 d8 z1 z2
      by_cases hxy : Cel.ins x = Cel.ins y
      · rw [decide_eq_true hxy]
        have hres := Lib.hid (show (l1.map Cel.ins = l2.map Cel.ins) ↔ ((l1.drop (j + 1)).map Cel.ins = (l2.drop (j + 1)).map Cel.ins) by rw [HT.out, hs.out]; simp [hxy])
        clear hxy
        go_wp2_with fail
        go_roundw
        case rel => exact ⟨j + 1, by omega, by go_num, HK5.out, hres.out⟩
        case measure => simp [intOf]; omega
      · rw [decide_eq_false hxy]
        have hres := Lib.hid (show decide (l1.map Cel.ins = l2.map Cel.ins) = false by rw [decide_eq_false_iff_not, HT.out, hs.out]; exact fun h => hxy h.1)
        clear hxy
        go_wp2_with fail
        go_ret
        exact ⟨ret_bool hres.out.symm, HK5.out⟩
    · have hres := Lib.hid (show decide (l1.map Cel.ins = l2.map Cel.ins) = true by rw [decide_eq_true_iff, HT.out, HE1.out j (by omega), HE2.out j (by omega)])
      go_wp2_with fail
      go_ret
      exact ⟨ret_bool hres.out.symm, HK.out⟩
end Go.Proofs.YteagglddgkjkmaaGreat.Words

/- A split while its blocks are filled: the blocks in a row of the call's own, their cells in rows behind it; one block's rows are the ones that grow. -/
namespace Go.Proofs.YteagglddgkjkmaaGreat.Words
set_option maxRecDepth 100000
open Go.RowKit
set_option linter.unusedVariables false

/-- A block whose cells lie behind lo. -/
structure BlkF (w : World) (lo hi : Nat) (r : BlkR) (c : BlkC) : Prop where
  v : BlkV w hi r c
  na : NewV lo r.va
  ne : NewV lo r.ve
/-- The blocks, each but the i-th finished below M; the i-th block's rows are of the call's own, behind M. -/
structure Fil (base bv cap n M i : Nat) (w : World) (rs : List BlkR) (cs : List BlkC) (va ve : Value) (la le : List Cel) : Prop where
  own : w.ownsRow base 24 6 (.slice (some ⟨bv, 0, none⟩) n cap) n (flat blkRL rs)
  len : rs.length = cs.length
  oth : ∀ (k : Nat) (r : BlkR) (c : BlkC), k ≠ i → rs[k]? = some r → cs[k]? = some c → BlkF w (bv + 1) M r c
  ri : ∃ r c, rs[i]? = some r ∧ cs[i]? = some c ∧ r.va = va ∧ r.ve = ve ∧ c.a = la ∧ c.e = le ∧ r.from_ = c.from_ ∧ r.to = c.to ∧ r.next = c.next ∧ r.taken = c.taken
  oa : w.ownsRow M 49 9 va la.length (flat celCells la)
  oe : w.ownsRow M 49 9 ve le.length (flat celCells le)
  ap : ∀ g, va.ownBlock = some g → ve.ownBlock ≠ some g
  hM : bv < M
  hz : M ≤ w.heap.size
section
variable {base bv cap n M i : Nat} {w w' : World} {rs : List BlkR} {cs : List BlkC} {va ve v' : Value} {la le : List Cel}
theorem row_keepN {S : Nat → Prop} {B s n : Nat} {v : Value} {xs : List Value} {lo : Nat} (h : Row w B s v n xs) (hn : NewV lo v) (hB : B ≤ w.heap.size) (hk : KeepS S w w') (hS : ∀ k, lo ≤ k → k < B → ¬ S k) : Row w' B s v n xs := by
  obtain ⟨h0, A, c, rfl, h2, h3, h4, h5⟩ := h
  refine ⟨h0, _, _, rfl, h2, h3, h4, fun hn' => ?_⟩
  obtain ⟨g, o, e, hb, hc⟩ := h5 hn'
  subst e
  exact ⟨g, o, rfl, hb, fun j u hu => hk.cell (Nat.lt_of_lt_of_le hb hB) (hS g (hn ⟨g, o, none⟩ _ _ rfl) hb) (hc j u hu)⟩
theorem BlkF.keepS {S : Nat → Prop} {lo hi : Nat} {r : BlkR} {c : BlkC} (h : BlkF w lo hi r c) (hB : hi ≤ w.heap.size) (hk : KeepS S w w') (hS : ∀ k, lo ≤ k → k < hi → ¬ S k) : BlkF w' lo hi r c :=
  ⟨⟨h.v.from_, h.v.to, h.v.next, h.v.taken, row_keepN h.v.a h.na hB hk hS, row_keepN h.v.e h.ne hB hk hS⟩, h.na, h.ne⟩
theorem BlkF.more {lo hi hi' : Nat} {r : BlkR} {c : BlkC} (h : BlkF w lo hi r c) (hh : hi ≤ hi') : BlkF w lo hi' r c := ⟨h.v.more hh, h.na, h.ne⟩
/-- A call that leaves all that was stands. -/
theorem Fil.below (h : Fil base bv cap n M i w rs cs va ve la le) (hb : Below w.heap.size w w') : Fil base bv cap n M i w' rs cs va ve la le := by
  have hk : KeepS (fun _ => False) w w' := KeepS.of_below hb
  exact ⟨own_keepS h.own hk (fun _ _ e => e), h.len, fun k r c h1 h2 h3 => (h.oth k r c h1 h2 h3).keepS h.hz hk (fun _ _ _ e => e), h.ri, own_keepS h.oa hk (fun _ _ e => e), own_keepS h.oe hk (fun _ _ e => e), h.ap, h.hM, Nat.le_trans h.hz hb.size⟩
theorem flat_set (l : List BlkR) (k : Nat) (r s : BlkR) (j : Nat) (u : Value) (h : l[k]? = some r) (hs : (blkRL r).set j u = blkRL s) (hj : j < 6) : (flat blkRL l).set (k * 6 + j) u = flat blkRL (l.set k s) := by
  induction l generalizing k with
  | nil => simp at h
  | cons x l ih =>
    cases k with
    | zero =>
      simp at h; subst h
      rw [flat_cons, List.set_cons_zero, flat_cons, Nat.zero_mul, Nat.zero_add, List.set_append_left _ _ (by rw [blkRL_len]; exact hj), hs]
    | succ k =>
      simp at h
      rw [flat_cons, List.set_cons_succ, flat_cons, List.set_append_right _ _ (by rw [blkRL_len]; omega), blkRL_len, show (k + 1) * 6 + j - 6 = k * 6 + j by omega, ih k h]
theorem at_set_ne {α : Type} {l : List α} {i k : Nat} {x y : α} (h : (l.set i x)[k]? = some y) (hk : k ≠ i) : l[k]? = some y := by
  rw [List.getElem?_set_ne (fun e => hk e.symm)] at h; exact h
/-- Cells more on A's side of the i-th block. -/
theorem Fil.appA (h : Fil base bv cap n M i w rs cs va ve la le) {x : List Cel} {m : Nat} (hm : m = x.length) (hO : w'.ownsRow M 49 9 v' (la.length + m) (flat celCells la ++ flat celCells x)) (hg : w.grownBy w' va.ownBlock)
    (hn : ∀ g, v'.ownBlock = some g → va.ownBlock = some g ∨ w.heap.size ≤ g) {c : BlkC} (hc : cs[i]? = some c) :
    ∃ rs', Fil base bv cap n M i (w'.setCell ⟨bv, i * 6 + 4, none⟩ v') rs' (cs.set i { c with a := la ++ x }) v' ve (la ++ x) le ∧ ∀ k, k ≠ i → rs'[k]? = rs[k]? := by
  obtain ⟨r, c', r1, r2, r3, r4, r5, r6, r7, r8, r9, r10⟩ := h.ri
  rw [hc] at r2; injection r2 with r2; subst r2
  have hM := h.hM
  have hz := h.hz
  have hbw : bv < w.heap.size := (h.own.lt bv rfl).2
  have hil : i < rs.length := (List.getElem?_eq_some_iff.1 r1).1
  have hil' : i < cs.length := by rw [← h.len]; exact hil
  have hvn : va.ownBlock ≠ some bv := fun e => by have := (h.oa.lt _ e).1; omega
  have hen : ve.ownBlock ≠ some bv := fun e => by have := (h.oe.lt _ e).1; omega
  have hvn' : v'.ownBlock ≠ some bv := fun e => by have := (hO.lt _ e).1; omega
  have kg : KeepS (fun j => M ≤ j) w w' := KeepS.of_grown hg (fun g e => (h.oa.lt g e).1)
  have kb : KeepS (fun j => j = bv) w' (w'.setCell ⟨bv, i * 6 + 4, none⟩ v') := (KeepS.refl (fun j => j = bv) w').setCell rfl _ _
  have o1 : w'.ownsRow base 24 6 (.slice (some ⟨bv, 0, none⟩) n cap) n (flat blkRL rs) := own_grown h.own hg (fun g e1 e2 => by
    have : g = bv := by simp only [Value.ownBlock, Option.some.injEq] at e1; exact e1.symm
    subst this; exact hvn e2.symm)
  have o2 := (o1.stored (i * 6 + 4) v').1
  rw [flat_set rs i r { r with va := v' } 4 v' r1 rfl (by omega)] at o2
  refine ⟨rs.set i { r with va := v' }, ⟨o2, by simp [h.len], ?_, ?_, ?_, ?_, ?_, hM, Nat.le_trans hz (Nat.le_trans kg.size kb.size)⟩, fun k hk => List.getElem?_set_ne (fun e => hk e.symm)⟩
  · intro k r' c' hk h1 h2
    have := h.oth k r' c' hk (at_set_ne h1 hk) (at_set_ne h2 hk)
    exact (this.keepS hz kg (fun j h1 h2 e => by omega)).keepS (Nat.le_trans hz kg.size) kb (fun j h1 h2 e => by omega)
  · exact ⟨_, _, List.getElem?_set_self hil, List.getElem?_set_self hil', rfl, r4, rfl, r6, r7, r8, r9, r10⟩
  · have := ownsRow_setCell_other (a := ⟨bv, i * 6 + 4, none⟩) hO hvn' v'
    rw [List.length_append, ← hm, flat_append]; exact this
  · exact ownsRow_setCell_other (own_grown h.oe hg (fun g e1 e2 => h.ap g e2.symm e1)) hen _
  · intro g hg1 hg2
    rcases hn g hg1 with e | e
    · exact h.ap g e hg2
    · have := (h.oe.lt g hg2).2; omega
/-- Cells more on E's side of the i-th block. -/
theorem Fil.appE (h : Fil base bv cap n M i w rs cs va ve la le) {x : List Cel} {m : Nat} (hm : m = x.length) (hO : w'.ownsRow M 49 9 v' (le.length + m) (flat celCells le ++ flat celCells x)) (hg : w.grownBy w' ve.ownBlock)
    (hn : ∀ g, v'.ownBlock = some g → ve.ownBlock = some g ∨ w.heap.size ≤ g) {c : BlkC} (hc : cs[i]? = some c) :
    ∃ rs', Fil base bv cap n M i (w'.setCell ⟨bv, i * 6 + 5, none⟩ v') rs' (cs.set i { c with e := le ++ x }) va v' la (le ++ x) ∧ ∀ k, k ≠ i → rs'[k]? = rs[k]? := by
  obtain ⟨r, c', r1, r2, r3, r4, r5, r6, r7, r8, r9, r10⟩ := h.ri
  rw [hc] at r2; injection r2 with r2; subst r2
  have hM := h.hM
  have hz := h.hz
  have hbw : bv < w.heap.size := (h.own.lt bv rfl).2
  have hil : i < rs.length := (List.getElem?_eq_some_iff.1 r1).1
  have hil' : i < cs.length := by rw [← h.len]; exact hil
  have hvn : va.ownBlock ≠ some bv := fun e => by have := (h.oa.lt _ e).1; omega
  have hen : ve.ownBlock ≠ some bv := fun e => by have := (h.oe.lt _ e).1; omega
  have hvn' : v'.ownBlock ≠ some bv := fun e => by have := (hO.lt _ e).1; omega
  have kg : KeepS (fun j => M ≤ j) w w' := KeepS.of_grown hg (fun g e => (h.oe.lt g e).1)
  have kb : KeepS (fun j => j = bv) w' (w'.setCell ⟨bv, i * 6 + 5, none⟩ v') := (KeepS.refl (fun j => j = bv) w').setCell rfl _ _
  have o1 : w'.ownsRow base 24 6 (.slice (some ⟨bv, 0, none⟩) n cap) n (flat blkRL rs) := own_grown h.own hg (fun g e1 e2 => by
    have : g = bv := by simp only [Value.ownBlock, Option.some.injEq] at e1; exact e1.symm
    subst this; exact hen e2.symm)
  have o2 := (o1.stored (i * 6 + 5) v').1
  rw [flat_set rs i r { r with ve := v' } 5 v' r1 rfl (by omega)] at o2
  refine ⟨rs.set i { r with ve := v' }, ⟨o2, by simp [h.len], ?_, ?_, ?_, ?_, ?_, hM, Nat.le_trans hz (Nat.le_trans kg.size kb.size)⟩, fun k hk => List.getElem?_set_ne (fun e => hk e.symm)⟩
  · intro k r' c' hk h1 h2
    have := h.oth k r' c' hk (at_set_ne h1 hk) (at_set_ne h2 hk)
    exact (this.keepS hz kg (fun j h1 h2 e => by omega)).keepS (Nat.le_trans hz kg.size) kb (fun j h1 h2 e => by omega)
  · exact ⟨_, _, List.getElem?_set_self hil, List.getElem?_set_self hil', r3, rfl, r5, rfl, r7, r8, r9, r10⟩
  · exact ownsRow_setCell_other (own_grown h.oa hg (fun g e1 e2 => h.ap g e1 e2.symm)) hvn _
  · have := ownsRow_setCell_other (a := ⟨bv, i * 6 + 5, none⟩) hO hvn' v'
    rw [List.length_append, ← hm, flat_append]; exact this
  · intro g hg1 hg2
    rcases hn g hg2 with e | e
    · exact h.ap g hg1 e
    · have := (h.oa.lt g hg1).2; omega
end
/-- All blocks at rest. -/
structure FilR (base bv cap n : Nat) (w : World) (rs : List BlkR) (cs : List BlkC) : Prop where
  own : w.ownsRow base 24 6 (.slice (some ⟨bv, 0, none⟩) n cap) n (flat blkRL rs)
  len : rs.length = cs.length
  all : ∀ (k : Nat) (r : BlkR) (c : BlkC), rs[k]? = some r → cs[k]? = some c → BlkF w (bv + 1) w.heap.size r c
section
variable {base bv cap n M i : Nat} {w w' : World} {rs : List BlkR} {cs : List BlkC} {va ve v' : Value} {la le : List Cel}
theorem Fil.rest (h : Fil base bv cap n M i w rs cs va ve la le) : FilR base bv cap n w rs cs := by
  refine ⟨h.own, h.len, fun k r c h1 h2 => ?_⟩
  by_cases hk : k = i
  · subst hk
    obtain ⟨r', c', r1, r2, r3, r4, r5, r6, r7, r8, r9, r10⟩ := h.ri
    rw [h1] at r1; injection r1 with r1; subst r1
    rw [h2] at r2; injection r2 with r2; subst r2
    have hM := h.hM
    refine ⟨⟨r7, r8, r9, r10, ?_, ?_⟩, ?_, ?_⟩
    · rw [r3, r5]; exact Row.of_own h.oa
    · rw [r4, r6]; exact Row.of_own h.oe
    · rw [r3]; intro a n c hv; exact Nat.le_trans hM (NewV.own h.oa a n c hv)
    · rw [r4]; intro a n c hv; exact Nat.le_trans hM (NewV.own h.oe a n c hv)
  · exact (h.oth k r c hk h1 h2).more h.hz
theorem FilR.blk (h : FilR base bv cap n w rs cs) {r : BlkR} {c : BlkC} (hr : rs[i]? = some r) (hc : cs[i]? = some c) (va0 : r.va = .slice none 0 0) (ve0 : r.ve = .slice none 0 0) (ca : c.a = []) (ce : c.e = []) :
    Fil base bv cap n w.heap.size i w rs cs (.slice none 0 0) (.slice none 0 0) [] [] := by
  have := h.all i r c hr hc
  exact ⟨h.own, h.len, fun k r' c' _ h1 h2 => h.all k r' c' h1 h2, ⟨r, c, hr, hc, va0, ve0, ca, ce, this.v.from_, this.v.to, this.v.next, this.v.taken⟩, World.ownsRow_nil _ _ _ _, World.ownsRow_nil _ _ _ _, (fun g h => by cases h), (h.own.lt bv rfl).2, Nat.le_refl _⟩
theorem FilR.blks (h : FilR base bv cap n w rs cs) (hn : n = cs.length) : BlksV w w.heap.size (.slice (some ⟨bv, 0, none⟩) n cap) cs := by
  refine ⟨rs, ?_, h.len, fun k r c h1 h2 => (h.all k r c h1 h2).v⟩
  rw [← hn]; exact Row.of_own h.own
end
end Go.Proofs.YteagglddgkjkmaaGreat.Words

/- The filling of a split's blocks, as both programs do it: what stands while the i-th block is filled, and between two blocks. -/
namespace Go.Proofs.YteagglddgkjkmaaGreat.Words
set_option maxRecDepth 100000
open Go.RowKit
set_option linter.unusedVariables false

/-- A block with the cells of its first p instructions on A's side, of q on E's. -/
def atB (z : List Int) (l : List Ins) (b : Blk) (p q : Nat) : BlkC := ⟨b.from_, b.to, b.next, b.taken, fillA z l b.from_.toNat p, fillE z l b.from_.toNat q⟩
theorem atB_zero (z : List Int) (l : List Ins) (b : Blk) : atB z l b 0 0 = bareB b := rfl
theorem atB_all (z : List Int) (l : List Ins) {b : Blk} {f t : Nat} (h1 : b.from_ = f) (h2 : b.to = t) : atB z l b (t - f) (t - f) = fillB z l b := (fillB_part z l h1 h2).symm
theorem flat_one9 (l : List Cel) : ∀ u ∈ flat celCells l, u.oneCell' = true := by
  intro u hu
  unfold flat at hu
  obtain ⟨c, _, h⟩ := List.mem_flatMap.1 hu
  exact celCells_one c u h
/-- While the i-th block is filled. -/
structure Fs (base bv cap : Nat) (z : List Int) (l : List Ins) (bs : List Blk) (i : Nat) (b : Blk) (p q M : Nat) (W w : World) (va ve : Value) : Prop where
  f : ∃ rs, Fil base bv cap bs.length M i w rs ((fillTo z l bs i).set i (atB z l b p q)) va ve (fillA z l b.from_.toNat p) (fillE z l b.from_.toNat q) ∧ ∀ j r, i < j → rs[j]? = some r → r.va = .slice none 0 0 ∧ r.ve = .slice none 0 0
  hb : bs[i]? = some b
  keep : KeepS (fun j => j = bv) W w
  hM : W.heap.size ≤ M
/-- Between two blocks: i are filled. -/
structure FsR (base bv cap : Nat) (z : List Int) (l : List Ins) (bs : List Blk) (i : Nat) (W w : World) : Prop where
  f : ∃ rs, FilR base bv cap bs.length w rs (fillTo z l bs i) ∧ ∀ j r, i ≤ j → rs[j]? = some r → r.va = .slice none 0 0 ∧ r.ve = .slice none 0 0
  keep : KeepS (fun j => j = bv) W w
section
variable {base bv cap i p q M : Nat} {z : List Int} {l : List Ins} {bs : List Blk} {b : Blk} {W w w' : World} {va ve v' : Value}
theorem Fs.at_ (h : Fs base bv cap z l bs i b p q M W w va ve) : ((fillTo z l bs i).set i (atB z l b p q))[i]? = some (atB z l b p q) := by
  have hl := (List.getElem?_eq_some_iff.1 h.hb).1
  rw [List.getElem?_set_self (by rw [fillTo_len z l bs (by omega)]; exact hl)]
theorem Fs.below (h : Fs base bv cap z l bs i b p q M W w va ve) (hb : Below w.heap.size w w') : Fs base bv cap z l bs i b p q M W w' va ve := by
  obtain ⟨rs, h1, h2⟩ := h.f
  exact ⟨⟨rs, h1.below hb, h2⟩, h.hb, h.keep.go hb, h.hM⟩
theorem Fs.alloc (h : Fs base bv cap z l bs i b p q M W w va ve) (o : Obj) : Fs base bv cap z l bs i b p q M W (w.alloc o) va ve := h.below ((Below.refl _ _).alloc (Nat.le_refl _) o)
theorem Fs.drew (h : Fs base bv cap z l bs i b p q M W w va ve) : Fs base bv cap z l bs i b p q M W w.drew va ve := h.below (Below.refl _ _).drew
theorem Fs.drewN (h : Fs base bv cap z l bs i b p q M W w va ve) (k : Nat) : Fs base bv cap z l bs i b p q M W (w.drewN k) va ve := h.below (Below.drewN_ (Below.refl _ _) k)
/-- The six cells of the i-th block. -/
theorem Fs.cells (h : Fs base bv cap z l bs i b p q M W w va ve) : w.cell? ⟨bv, i * 6, none⟩ = some (.int .i64 b.from_) ∧ w.cell? ⟨bv, i * 6 + 1, none⟩ = some (.int .i64 b.to) ∧ w.cell? ⟨bv, i * 6 + 4, none⟩ = some va ∧ w.cell? ⟨bv, i * 6 + 5, none⟩ = some ve := by
  obtain ⟨rs, h1, h2⟩ := h.f
  obtain ⟨r, c, r1, r2, r3, r4, r5, r6, r7, r8, r9, r10⟩ := h1.ri
  rw [h.at_] at r2; injection r2 with r2; subst r2
  have hr := Row.of_own h1.own
  have g := fun (j : Nat) (hj : j < 6) (u : Value) (hu : (blkRL r)[j]? = some u) => hr.flat_cell blkRL_len r1 (j := j) hj hu
  simp only [Nat.zero_add] at g
  exact ⟨by have := g 0 (by omega) _ rfl; rw [r7] at this; exact this, by have := g 1 (by omega) _ rfl; rw [r8] at this; exact this, by have := g 4 (by omega) _ rfl; rw [r3] at this; exact this, by have := g 5 (by omega) _ rfl; rw [r4] at this; exact this⟩
theorem Fs.frozen (h : Fs base bv cap z l bs i b p q M W w va ve) (k : Nat) : w.frozen? ⟨bv, k, none⟩ = false := by
  obtain ⟨rs, h1, h2⟩ := h.f
  exact h1.own.frozenAt k
theorem Fs.lt (h : Fs base bv cap z l bs i b p q M W w va ve) : bv < M ∧ M ≤ w.heap.size ∧ base ≤ bv := by
  obtain ⟨rs, h1, h2⟩ := h.f
  exact ⟨h1.hM, h1.hz, (h1.own.lt bv rfl).1⟩
theorem Fs.oa (h : Fs base bv cap z l bs i b p q M W w va ve) : w.ownsRow M 49 9 va (fillA z l b.from_.toNat p).length (flat celCells (fillA z l b.from_.toNat p)) := by
  obtain ⟨rs, h1, h2⟩ := h.f
  exact h1.oa
theorem Fs.oe (h : Fs base bv cap z l bs i b p q M W w va ve) : w.ownsRow M 49 9 ve (fillE z l b.from_.toNat q).length (flat celCells (fillE z l b.from_.toNat q)) := by
  obtain ⟨rs, h1, h2⟩ := h.f
  exact h1.oe
theorem Fs.forms (h : Fs base bv cap z l bs i b p q M W w va ve) : (∃ A k, va = .slice A (fillA z l b.from_.toNat p).length k) ∧ ∃ A k, ve = .slice A (fillE z l b.from_.toNat q).length k :=
  ⟨(Row.of_own h.oa).form, (Row.of_own h.oe).form⟩
/-- The first block of a row at rest is taken up. -/
theorem FsR.start (h : FsR base bv cap z l bs i W w) (hb : bs[i]? = some b) : Fs base bv cap z l bs i b 0 0 w.heap.size W w (.slice none 0 0) (.slice none 0 0) := by
  obtain ⟨rs, h1, h2⟩ := h.f
  have hl := (List.getElem?_eq_some_iff.1 hb).1
  have hn : rs.length = bs.length := h1.len.trans (fillTo_len z l bs (by omega))
  obtain ⟨r, hr⟩ : ∃ r, rs[i]? = some r := ⟨_, List.getElem?_eq_getElem (by omega)⟩
  have hc := fillTo_at z l hb
  obtain ⟨n1, n2⟩ := h2 i r (Nat.le_refl _) hr
  have e : (fillTo z l bs i).set i (atB z l b 0 0) = fillTo z l bs i := by
    apply List.ext_getElem?
    intro k
    by_cases hk : i = k
    · subst hk
      rw [List.getElem?_set_self (by rw [fillTo_len z l bs (by omega)]; exact hl), hc, atB_zero]
    · rw [List.getElem?_set_ne hk]
  exact ⟨⟨rs, by rw [e]; exact h1.blk hr hc n1 n2 rfl rfl, fun j r hj => h2 j r (by omega)⟩, hb, h.keep, h.keep.size⟩
theorem Fs.rest {f t : Nat} (h : Fs base bv cap z l bs i b p p M W w va ve) (h1 : b.from_ = f) (h2 : b.to = t) (hp : p = t - f) : FsR base bv cap z l bs (i + 1) W w := by
  obtain ⟨rs, g1, g2⟩ := h.f
  subst hp
  rw [atB_all z l h1 h2, fillTo_step z l h.hb] at g1
  exact ⟨⟨rs, g1.rest, fun j r hj => g2 j r (by omega)⟩, h.keep⟩
theorem KeepS.cellTo {w w' x : World} {row : Option Nat} (h : KeepS (fun j => j = bv) x w) (hg : w.grownBy w' row) (hr : ∀ g, row = some g → x.heap.size ≤ g) (k : Nat) (v : Value) : KeepS (fun j => j = bv) x (w'.setCell ⟨bv, k, none⟩ v) := by
  have k1 : KeepS (fun j => row = some j) w w' := KeepS.of_grown hg (fun g e => e)
  have k2 : KeepS (fun j => j = bv) w' (w'.setCell ⟨bv, k, none⟩ v) := (KeepS.refl (fun j => j = bv) w').setCell rfl _ _
  refine ⟨k2.os.trans (k1.os.trans h.os), k2.tape.trans (k1.tape.trans h.tape), k2.output.trans (k1.output.trans h.output), Nat.le_trans h.size (Nat.le_trans k1.size k2.size), fun j hj hn => ?_⟩
  have j1 := Nat.lt_of_lt_of_le hj h.size
  have j2 := Nat.lt_of_lt_of_le j1 k1.size
  exact (k2.block j j2 hn).trans ((k1.block j j1 (fun e => by have := hr j e; omega)).trans (h.block j hj hn))
/-- An instruction's cells more on A's side: f is where the block begins. -/
theorem Fs.appA {m f : Nat} (h : Fs base bv cap z l bs i b p q M W w va ve) (hf : b.from_ = f) (hm : m = (emitA z (insAtZ l (f + p)) ((f + p : Nat) : Int) (p : Int)).length)
    (hO : w'.ownsRow M 49 9 v' ((fillA z l b.from_.toNat p).length + m) (flat celCells (fillA z l b.from_.toNat p) ++ flat celCells (emitA z (insAtZ l (f + p)) ((f + p : Nat) : Int) (p : Int)))) (hg : w.grownBy w' va.ownBlock)
    (hn : ∀ g, v'.ownBlock = some g → va.ownBlock = some g ∨ w.heap.size ≤ g) :
    Fs base bv cap z l bs i b (p + 1) q M W (w'.setCell ⟨bv, i * 6 + 4, none⟩ v') v' ve ∧ w'.frozen? ⟨bv, i * 6 + 4, none⟩ = false ∧ (∃ u, w'.cell? ⟨bv, i * 6 + 4, none⟩ = some u) ∧ (∃ A k, v' = .slice A ((fillA z l b.from_.toNat p).length + m) k) := by
  obtain ⟨rs, g1, g2⟩ := h.f
  obtain ⟨rs', g3, g4⟩ := g1.appA hm hO hg hn h.at_
  have e1 : fillA z l b.from_.toNat (p + 1) = fillA z l b.from_.toNat p ++ emitA z (insAtZ l (f + p)) ((f + p : Nat) : Int) (p : Int) := by
    have : b.from_.toNat = f := by omega
    rw [this]; rfl
  have e2 : ((fillTo z l bs i).set i (atB z l b p q)).set i { atB z l b p q with a := fillA z l b.from_.toNat p ++ emitA z (insAtZ l (f + p)) ((f + p : Nat) : Int) (p : Int) } = (fillTo z l bs i).set i (atB z l b (p + 1) q) := by
    rw [List.set_set]; congr 1
    unfold atB; rw [e1]
  rw [e2, ← e1] at g3
  obtain ⟨r, c, r1, r2, _⟩ := g1.ri
  have hbv := (g1.own.lt bv rfl).2
  have hbw : bv < w'.heap.size := Nat.lt_of_lt_of_le hbv hg.size
  have hM := g1.hM
  have hne : va.ownBlock ≠ some bv := fun e => by have := (g1.oa.lt _ e).1; omega
  have o1 := own_grown g1.own hg (fun g e1 e2 => by
    have : g = bv := by simp only [Value.ownBlock, Option.some.injEq] at e1; exact e1.symm
    subst this; exact hne e2.symm)
  refine ⟨⟨⟨rs', g3, fun j r hj hr => ?_⟩, h.hb, h.keep.cellTo hg (fun g e => by have := (g1.oa.lt g e).1; have := h.hM; omega) _ _, h.hM⟩, o1.frozenAt _, ?_, ?_⟩
  · rw [g4 j (by omega)] at hr; exact g2 j r hj hr
  · exact ⟨_, (Row.of_own o1).flat_cell blkRL_len r1 (j := 4) (by omega) rfl |> (by simpa using ·)⟩
  · exact (Row.of_own hO).form
theorem Fs.appE {m f : Nat} (h : Fs base bv cap z l bs i b p q M W w va ve) (hf : b.from_ = f) (hm : m = (emitE z (insAtZ l (f + q)) ((f + q : Nat) : Int) (q : Int)).length)
    (hO : w'.ownsRow M 49 9 v' ((fillE z l b.from_.toNat q).length + m) (flat celCells (fillE z l b.from_.toNat q) ++ flat celCells (emitE z (insAtZ l (f + q)) ((f + q : Nat) : Int) (q : Int)))) (hg : w.grownBy w' ve.ownBlock)
    (hn : ∀ g, v'.ownBlock = some g → ve.ownBlock = some g ∨ w.heap.size ≤ g) :
    Fs base bv cap z l bs i b p (q + 1) M W (w'.setCell ⟨bv, i * 6 + 5, none⟩ v') va v' ∧ w'.frozen? ⟨bv, i * 6 + 5, none⟩ = false ∧ (∃ u, w'.cell? ⟨bv, i * 6 + 5, none⟩ = some u) ∧ (∃ A k, v' = .slice A ((fillE z l b.from_.toNat q).length + m) k) := by
  obtain ⟨rs, g1, g2⟩ := h.f
  obtain ⟨rs', g3, g4⟩ := g1.appE hm hO hg hn h.at_
  have e1 : fillE z l b.from_.toNat (q + 1) = fillE z l b.from_.toNat q ++ emitE z (insAtZ l (f + q)) ((f + q : Nat) : Int) (q : Int) := by
    have : b.from_.toNat = f := by omega
    rw [this]; rfl
  have e2 : ((fillTo z l bs i).set i (atB z l b p q)).set i { atB z l b p q with e := fillE z l b.from_.toNat q ++ emitE z (insAtZ l (f + q)) ((f + q : Nat) : Int) (q : Int) } = (fillTo z l bs i).set i (atB z l b p (q + 1)) := by
    rw [List.set_set]; congr 1
    unfold atB; rw [e1]
  rw [e2, ← e1] at g3
  obtain ⟨r, c, r1, r2, _⟩ := g1.ri
  have hbv := (g1.own.lt bv rfl).2
  have hbw : bv < w'.heap.size := Nat.lt_of_lt_of_le hbv hg.size
  have hM := g1.hM
  have hne : ve.ownBlock ≠ some bv := fun e => by have := (g1.oe.lt _ e).1; omega
  have o1 := own_grown g1.own hg (fun g e1 e2 => by
    have : g = bv := by simp only [Value.ownBlock, Option.some.injEq] at e1; exact e1.symm
    subst this; exact hne e2.symm)
  refine ⟨⟨⟨rs', g3, fun j r hj hr => ?_⟩, h.hb, h.keep.cellTo hg (fun g e => by have := (g1.oe.lt g e).1; have := h.hM; omega) _ _, h.hM⟩, o1.frozenAt _, ?_, ?_⟩
  · rw [g4 j (by omega)] at hr; exact g2 j r hj hr
  · exact ⟨_, (Row.of_own o1).flat_cell blkRL_len r1 (j := 5) (by omega) rfl |> (by simpa using ·)⟩
  · exact (Row.of_own hO).form
theorem FsR.below (h : FsR base bv cap z l bs i W w) (hb : Below w.heap.size w w') : FsR base bv cap z l bs i W w' := by
  obtain ⟨rs, h1, h2⟩ := h.f
  have hk : KeepS (fun _ => False) w w' := KeepS.of_below hb
  exact ⟨⟨rs, ⟨own_keepS h1.own hk (fun _ _ e => e), h1.len, fun k r c a1 a2 => ((h1.all k r c a1 a2).keepS (Nat.le_refl _) hk (fun _ _ _ e => e)).more hb.size⟩, h2⟩, h.keep.go hb⟩
theorem FsR.drewN (h : FsR base bv cap z l bs i W w) (k : Nat) : FsR base bv cap z l bs i W (w.drewN k) := h.below (Below.drewN_ (Below.refl _ _) k)
theorem FsR.drew (h : FsR base bv cap z l bs i W w) : FsR base bv cap z l bs i W w.drew := h.below (Below.refl _ _).drew
theorem FsR.lt (h : FsR base bv cap z l bs i W w) : bv < w.heap.size ∧ base ≤ bv := by
  obtain ⟨rs, h1, h2⟩ := h.f
  exact ⟨(h1.own.lt bv rfl).2, (h1.own.lt bv rfl).1⟩
/-- The row of blocks that Cut has made, bare. -/
theorem FsR.first (h : w.ownsRow base 24 6 (.slice (some ⟨bv, 0, none⟩) bs.length cap) bs.length (flat blkL bs)) : FsR base bv cap z l bs 0 w w := by
  refine ⟨⟨bs.map fun b => ⟨b.from_, b.to, b.next, b.taken, .slice none 0 0, .slice none 0 0⟩, ⟨?_, by simp [fillTo], fun k r c hr hc => ?_⟩, fun j r _ hr => ?_⟩, KeepS.refl _ _⟩
  · have : flat blkRL (bs.map fun b => (⟨b.from_, b.to, b.next, b.taken, .slice none 0 0, .slice none 0 0⟩ : BlkR)) = flat blkL bs := by
      unfold flat
      rw [List.flatMap_map]
      rfl
    rw [this]; exact h
  · rw [fillTo_0] at hc
    rw [List.getElem?_map] at hr hc
    cases hl : bs[k]? with
    | none => rw [hl] at hr; cases hr
    | some b =>
      rw [hl] at hr hc
      injection hr with hr
      injection hc with hc
      subst hr hc
      exact ⟨⟨rfl, rfl, rfl, rfl, Row.nil _ _ _, Row.nil _ _ _⟩, NewV.none _, NewV.none _⟩
  · rw [List.getElem?_map] at hr
    cases hl : bs[j]? with
    | none => rw [hl] at hr; cases hr
    | some b => rw [hl] at hr; injection hr with hr; subst hr; exact ⟨rfl, rfl⟩
theorem FsR.all (h : FsR base bv cap z l bs bs.length W w) : BlksV w w.heap.size (.slice (some ⟨bv, 0, none⟩) bs.length cap) (bs.map (fillB z l)) := by
  obtain ⟨rs, h1, h2⟩ := h.f
  rw [fillTo_all] at h1
  exact h1.blks (by simp)
end
end Go.Proofs.YteagglddgkjkmaaGreat.Words

/- Contract of the document's own Leaders. -/
namespace Go.Proofs.YteagglddgkjkmaaGreat.Words
set_option maxRecDepth 100000
open Go.RowKit
set_option linter.unusedVariables false

theorem targetZ_jump {n k : Nat} {i : Ins} (hj : isJump i = true) (h0 : 0 ≤ (k : Int) + i.imm) (h1 : (k : Int) + i.imm < n) (hn : n ≤ 8192) (hk : k < n) : targetZ n k i = (k : Int) + i.imm := targetZ_yes hj (by omega) (by omega) h0 h1
theorem set_none {m : List Bool} {k : Nat} (h : m.length ≤ k) : m.set k true = m := List.set_eq_of_length_le h

set_option maxHeartbeats 4000000 in
theorem refLeaders_any (A : Option Addr) (c : Nat) (sz : Int) (A' : Option Addr) (m c' : Nat) (l : List Ins) (w : World) (hr : Row w w.heap.size 5 (.slice A l.length c) l.length (codeCells l)) (hm : m ≤ c') (hc' : c' ≤ 9223372036854775807) :
    Calls Tryz.prog 67 #[.agg #[.slice A l.length c, .int .i64 sz, .slice A' m c']] w fun e w' => ∃ v, e = .returned v ∧ w'.ownsRow w.heap.size 3 1 v (leadsR l sz m).length (natL (leadsR l sz m)) ∧ Below w.heap.size w w' := by
  obtain ⟨i0, hi, hz0, hz1, hz2⟩ := info_parts info_bool
  have HZ2 := Lib.hid hz2
  clear hz2
  obtain ⟨i1, hi', hz0', hz1', hz2'⟩ := info_parts info_intB
  have HZ2' := Lib.hid hz2'
  clear hz2'
  obtain ⟨hcl, hcm⟩ := hr.cap
  have HK := Lib.hid (fun (x : World) (h : Kept (w.alloc (.cells #[.slice A l.length c, .int .i64 sz, .slice A' m c'] 28)) x) => ((Below.refl w.heap.size w).alloc (Nat.le_refl _) _).trans (h.mono (by simp)))
  have hB : w.heap.size < (w.alloc (.cells #[.slice A l.length c, .int .i64 sz, .slice A' m c'] 28)).heap.size := by simp
  have HR := Lib.hid (hr.alloc (Nat.le_refl _) (.cells #[.slice A l.length c, .int .i64 sz, .slice A' m c'] 28) |>.more (Nat.le_of_lt hB))
  have c0 : (w.alloc (.cells #[.slice A l.length c, .int .i64 sz, .slice A' m c'] 28)).cell? ⟨w.heap.size, 0, none⟩ = some (.slice A l.length c) := by go_simp
  have c1 : (w.alloc (.cells #[.slice A l.length c, .int .i64 sz, .slice A' m c'] 28)).cell? ⟨w.heap.size, 1, none⟩ = some (.int .i64 sz) := by go_simp
  have c2 : (w.alloc (.cells #[.slice A l.length c, .int .i64 sz, .slice A' m c'] 28)).cell? ⟨w.heap.size, 2, none⟩ = some (.slice A' m c') := by go_simp
  have HRP := Lib.hid (fun h => rightZ_parts (l := l) (sz := sz) (m := m) h)
  have hw0 : (w.alloc (.cells #[.slice A l.length c, .int .i64 sz, .slice A' m c'] 28)).heap.size = w.heap.size + 1 := by simp
  go_enter Tryz.func67, Tryz.ntmps67
  go_wp2_with fail
  generalize w.alloc (.cells #[.slice A l.length c, .int .i64 sz, .slice A' m c'] 28) = W at *
  have C0 := Lib.hid (fun (x : World) (h : Kept W x) => h.cell hB c0)
  have C1 := Lib.hid (fun (x : World) (h : Kept W x) => h.cell hB c1)
  have C2 := Lib.hid (fun (x : World) (h : Kept W x) => h.cell hB c2)
  have HX := Lib.hid (refRight_any A c sz A' m c' l W HR.out hm hc')
  clear c0 c1 c2 hr
  refine HX.out.mono ?_; rintro e w1 ⟨rfl, hb1⟩
  have k1 : Kept W w1 := hb1
  have c0 := C0.out _ k1
  have hs1 := hb1.size
  clear hb1
  cases hri : rightZ l sz m
  · go_wp2_with fail
    go_ret
    have hl : leadsR l sz m = [] := by unfold leadsR; rw [hri]; rfl
    rw [hl]
    exact ⟨_, rfl, World.ownsRow_nil _ _ _ _, HK.out _ k1⟩
  obtain ⟨⟨n0, n1⟩, hto⟩ := HRP.out hri
  have HL := Lib.hid (show leadsR l sz m = leadsTo l l.length l.length by unfold leadsR; rw [if_pos hri, leadsTo_all (Nat.le_refl _)])
  have HT := Lib.hid (fun (j : Nat) (i : Ins) (h : l[j]? = some i) (hj : isJump i = true) => (by have := target_in hto h hj; simpa using this : 0 ≤ (j : Int) + i.imm ∧ (j : Int) + i.imm < l.length))
  have HMS := Lib.hid (fun (j : Nat) (i : Ins) (h : l[j]? = some i) (m : List Bool) => marksF_step h m)
  have HA := Lib.hid (fun j h => at_some (l := l) (j := j) h)
  have HE := Lib.hid (fun (k : Nat) (h : l.length ≤ k) => List.drop_eq_nil_of_le h)
  have HD0 := Lib.hid (show l.drop 0 = l from rfl)
  have hn0 : l.length ≠ 0 := by omega
  obtain ⟨b, off, rfl, hbb, _⟩ := HR.out.at_ hn0
  have HC := Lib.hid (fun (x : World) (h : Kept W x) (k : Nat) (i : Ins) (hi : l[k]? = some i) => (h.row HR.out).ins hi)
  have HTG := Lib.hid (fun (x : World) (h : Kept W x) (k : Nat) (i : Ins) (hi : l[k]? = some i) => refTarget_any b off c k sz (.slice A' m c') l i x (h.row HR.out) hi (by omega))
  clear HR HX hto HRP hri
  have hne : w.heap.size < w1.heap.size := by omega
  go_wp2_with (at_make; refine wpList_make_full _ rfl _ _ 109 rfl W.heap.size 4 i0 (.bool false) 1 Tryz.underlying109 hi hz0 hz1 .i64 .i64 _ _ l.length rfl rfl (by omega) (by omega) (by rw [HZ2.out]; omega) (by unfold maxLen; omega) hs1 ?_; rotate_right; intro w2 hown hg2; rw [bools_made] at hown; have k2 := k1.trans (Below.grown (Below.refl _ _) hg2 (Nat.le_refl _) (fun k hk => nomatch hk)); have c0 := C0.out _ k2; have fz := hown.frozenAt 0; have cz := own_bcell (k := 0) hown (by simp; omega))
  have hg1 : W.heap.size ≤ w1.heap.size := hs1
  have hO1 := own_bset hown 0
  have hP : RoundM l W (w2.setCell ⟨w1.heap.size, 0, none⟩ (.bool true)) w1.heap.size l.length 0 ((List.replicate l.length false).set 0 true) :=
    ⟨Below.setCell k2 hg1 _, hO1, by simp, by rw [HD0.out]; rfl⟩
  clear cz fz hown hg2 k1 hO1 c0
  generalize hG : w1.heap.size = g at *
  clear hG
  generalize w2.setCell ⟨g, 0, none⟩ (.bool true) = w3 at *
  generalize hN : l.length = n at *
  have HN := Lib.hid hN
  clear hN k2
  go_loopw [4] (fun i wr => ∃ (j : Nat) (m : List Bool), j ≤ n ∧ i = .int .i64 j ∧ RoundM l W wr g n j m) (fun i _ => n - (intOf i).toNat)
  case atStart => exact ⟨0, _, Nat.zero_le _, rfl, hP⟩
  case round =>
    obtain ⟨j, ms, hj, rfl, hK⟩ := hrel
    have hk := hK.kept
    have hO := hK.own
    have hml := hK.len
    have HDN := Lib.hid hK.done
    clear hK hP
    have c0 := C0.out _ hk
    by_cases hlt : j < n
    · obtain ⟨i, hi⟩ := HA.out j hlt
      have HS := Lib.hid (fun m => HMS.out j i hi m)
      have HTT := Lib.hid (HT.out j i hi)
      have c1 := C1.out _ hk
      have c2 := C2.out _ hk
      have HTGx := Lib.hid (HTG.out _ hk j i hi)
      have j0 : (0 : Int) ≤ j := by omega
      have j1 : (j : Int) < n := by omega
      have hzg : g < wr.heap.size := (hO.lt _ rfl).2
      have HCi := Lib.hid (fun x hx => HC.out x hx j i hi)
      clear hi
      go_wp2_with fail
      refine HTGx.out.mono ?_; rintro e w4 ⟨rfl, hb4⟩
      have k4 := hk.to hb4
      have hO4 := own_below hO hb4
      have hzg4 : g < w4.heap.size := by have := hb4.size; omega
      clear hb4 hk hO hzg c0 c1 c2
      cases hjm : isJump i
      · obtain ⟨MJ, hMJ⟩ : ∃ MJ, MJ = ms := ⟨_, rfl⟩
        have MJH : markJ j i ms = MJ := by rw [markJ_no hjm, hMJ]
        have MJL : MJ.length = n := by rw [hMJ]; exact hml
        rw [← hMJ] at hO4
        have htz : targetZ n j i = -1 := targetZ_no (.inl hjm)
        rw [htz]
        clear hMJ htz
        have HCx := HCi.out _ k4
        obtain ⟨d0, d1, d2, d3, d4⟩ := HCx
        have c0 := C0.out _ k4
        go_wp2_with fail
        refine (refEnds_any i _).mono ?_; rintro e w5 ⟨rfl, hb5⟩
        have k5 := k4.to hb5
        have hO5 := own_below hO4 hb5
        have c0 := C0.out _ k5
        have hzg5 : g < w5.heap.size := (hO5.lt _ rfl).2
        clear hb5 d0 d1 d2 d3 d4
        cases he : isEnd i
        · have hres := Lib.hid (show marksN n l = marksF (j + 1) (l.drop (j + 1)) MJ by rw [HDN.out, HS.out, MJH, markE_no he])
          go_wp2_with fail
          go_roundw
          case rel => exact ⟨j + 1, _, by omega, by go_num, ⟨k5, hO5, MJL, hres.out⟩⟩
          case measure => simp [intOf]; omega
        · have HR0 := Lib.hid (show marksN n l = marksF (j + 1) (l.drop (j + 1)) (MJ.set (j + 1) true) by rw [HDN.out, HS.out, MJH, markE_yes he])
          by_cases hj2 : j + 1 < n
          · have fz := hO5.frozenAt (j + 1)
            have cz := own_bcell (k := j + 1) hO5 (by rw [MJL]; omega)
            have hO6 := Lib.hid (own_bset hO5 (j + 1))
            have j2 : (j : Int) + 1 < n := by omega
            go_wp2_with fail
            go_roundw
            case rel => exact ⟨j + 1, _, by omega, by go_num, ⟨Below.setCell k5 hg1 _, hO6.out, by simpa using MJL, HR0.out⟩⟩
            case measure => simp [intOf]; omega
          · have hres := Lib.hid (show marksN n l = marksF (j + 1) (l.drop (j + 1)) MJ by rw [HR0.out, set_none (by omega)])
            have j2 : ¬ (j : Int) + 1 < n := by omega
            go_wp2_with fail
            go_roundw
            case rel => exact ⟨j + 1, _, by omega, by go_num, ⟨k5, hO5, MJL, hres.out⟩⟩
            case measure => simp [intOf]; omega
      · obtain ⟨t0, t1⟩ := HTT.out hjm
        have htz : targetZ n j i = (j : Int) + i.imm := targetZ_jump hjm t0 t1 (by omega) hlt
        obtain ⟨T, hT⟩ : ∃ T : Nat, (j : Int) + i.imm = T := ⟨((j : Int) + i.imm).toNat, by omega⟩
        have HJY := Lib.hid (fun m => markJ_yes (m := m) hjm hT)
        have hTn : T < n := by omega
        have fz := hO4.frozenAt T
        have cz := own_bcell (k := T) hO4 (by omega)
        have hO4X := own_bset hO4 T
        have k4X : Kept W (w4.setCell ⟨g, T, none⟩ (.bool true)) := Below.setCell k4 hg1 _
        obtain ⟨MJ, hMJ⟩ : ∃ MJ, MJ = ms.set T true := ⟨_, rfl⟩
        have MJH : markJ j i ms = MJ := by rw [HJY.out, hMJ]
        have MJL : MJ.length = n := by rw [hMJ]; simpa using hml
        rw [← hMJ] at hO4X
        have hO4X := Lib.hid hO4X
        have k4X := Lib.hid k4X
        rw [htz, hT]
        have T0 : (0 : Int) ≤ T := by omega
        have T1 : (T : Int) < n := by omega
        obtain ⟨d0, d1, d2, d3, d4⟩ := HCi.out _ k4
        have c0 := C0.out _ k4
        have hbg : b < g := by omega
        have hwg : w.heap.size < g := by omega
        clear hMJ hO4 htz hT t0 t1
        go_wp2_with fail
        refine (refEnds_any i _).mono ?_; rintro e w5 ⟨rfl, hb5⟩
        have k5 := k4X.out.to hb5
        have hO5 := own_below hO4X.out hb5
        have c0 := C0.out _ k5
        have hzg5 : g < w5.heap.size := (hO5.lt _ rfl).2
        clear hb5 d0 d1 d2 d3 d4
        cases he : isEnd i
        · have hres := Lib.hid (show marksN n l = marksF (j + 1) (l.drop (j + 1)) MJ by rw [HDN.out, HS.out, MJH, markE_no he])
          go_wp2_with fail
          go_roundw
          case rel => exact ⟨j + 1, _, by omega, by go_num, ⟨k5, hO5, MJL, hres.out⟩⟩
          case measure => simp [intOf]; omega
        · have HR0 := Lib.hid (show marksN n l = marksF (j + 1) (l.drop (j + 1)) (MJ.set (j + 1) true) by rw [HDN.out, HS.out, MJH, markE_yes he])
          by_cases hj2 : j + 1 < n
          · have fz := hO5.frozenAt (j + 1)
            have cz := own_bcell (k := j + 1) hO5 (by rw [MJL]; omega)
            have hO6 := Lib.hid (own_bset hO5 (j + 1))
            have j2 : (j : Int) + 1 < n := by omega
            go_wp2_with fail
            go_roundw
            case rel => exact ⟨j + 1, _, by omega, by go_num, ⟨Below.setCell k5 hg1 _, hO6.out, by simpa using MJL, HR0.out⟩⟩
            case measure => simp [intOf]; omega
          · have hres := Lib.hid (show marksN n l = marksF (j + 1) (l.drop (j + 1)) MJ by rw [HR0.out, set_none (by omega)])
            have j2 : ¬ (j : Int) + 1 < n := by omega
            go_wp2_with fail
            go_roundw
            case rel => exact ⟨j + 1, _, by omega, by go_num, ⟨k5, hO5, MJL, hres.out⟩⟩
            case measure => simp [intOf]; omega
    · have hjn : j = n := by omega
      subst hjn
      have hms : ms = marksN j l := by rw [HDN.out, HE.out j (Nat.le_refl _)]; rfl
      have HMG := Lib.hid (fun k => congrArg (fun x : List Bool => x.getD k false) hms)
      have hP : RoundO l W wr g j 0 ms (.slice none 0 0) := ⟨hk, hO, World.ownsRow_nil _ _ _ _⟩
      clear hms HDN hk hO HT HMS HA HE HD0 HC HTG
      go_wp2_with fail
      go_loopw [6, 7] (fun v i wr => ∃ k : Nat, k ≤ j ∧ i = .int .i64 k ∧ RoundO l W wr g j k ms v) (fun _ i _ => j - (intOf i).toNat)
      case atStart => exact ⟨0, Nat.zero_le _, rfl, hP⟩
      case round =>
        obtain ⟨k, hkj, rfl, hK⟩ := hrel
        have hk := hK.kept
        have hM := hK.marks
        have hU := hK.out
        clear hK hP
        have HSU := Lib.hid (leadsTo_succ l j k)
        have hle := leadsTo_le l j k
        by_cases hlt : k < j
        · have cz := own_bcell (k := k) hM (by omega)
          have hG := Lib.hid (HMG.out k)
          have k0 : (0 : Int) ≤ k := by omega
          have k1 : (k : Int) < j := by omega
          cases hb : ms.getD k false
          · have hres := Lib.hid (show leadsTo l j (k + 1) = leadsTo l j k by rw [HSU.out, if_neg (by have := hG.out; rw [← this, hb]; simp)])
            rw [hb] at cz
            clear hb hle
            go_wp2_with fail
            go_roundw
            case rel => exact ⟨k + 1, by omega, by go_num, ⟨hk, hM, by rw [hres.out]; exact hU⟩⟩
            case measure => simp [intOf]; omega
          · have hres := Lib.hid (show leadsTo l j (k + 1) = leadsTo l j k ++ [k] by rw [HSU.out, if_pos (by have := hG.out; rw [← this, hb])])
            rw [hb] at cz
            have hUH := Lib.hid hU
            generalize hcnt : (leadsTo l j k).length = cnt at *
            have HCN := Lib.hid hcnt
            clear hb hU hcnt
            go_wp2_with (at_builtin; refine wpList_append_own _ rfl (.tmp 60) (.tmp 62) 59 rfl W.heap.size 3 i1 (.int .i64 0) 1 8 Tryz.underlying59 hi' hz0' hz1' HZ2'.out rfl (by omega) _ cnt (natL (leadsTo l j k)) rfl (hUH.out.alloc _) ⟨wr.heap.size, 0, none⟩ 1 1 (natL [k]) rfl rfl (new_cells wr _ _ _ rfl) (natL_one [k]) (by unfold maxLen; omega) (by omega) (by have := hk.size; simp; omega) ?_; intro v2 w5 hO5 hg5 _)
            have k5 : Kept W w5 := Below.grown (hk.alloc _) hg5 (by have := hk.size; simp; omega) (fun q hq => (hUH.out.lt q hq).1)
            have hM5 := own_grown (hM.alloc _) hg5 (fun q hq => by rw [← hq]; exact own_apart hM hUH.out (by decide) hq)
            clear hg5
            go_roundw
            case rel =>
              refine ⟨k + 1, by omega, by go_num, ⟨k5, hM5, ?_⟩⟩
              rw [hres.out, List.length_append, HCN.out, natL_snoc]
              exact hO5
            case measure => simp [intOf]; omega
        · have hkj2 : k = j := by omega
          subst hkj2
          go_wp2_with fail
          go_ret
          exact ⟨_, rfl, by rw [HL.out]; exact own_base hU (by omega), HK.out _ hk⟩
end Go.Proofs.YteagglddgkjkmaaGreat.Words

/- Contract of the document's own Cut. -/
namespace Go.Proofs.YteagglddgkjkmaaGreat.Words
set_option maxRecDepth 100000
open Go.RowKit
set_option linter.unusedVariables false

/-- A block's box. -/
structure BoxQ (x : World) (q : Nat) (b : Blk) : Prop where
  big : q < x.heap.size
  b0 : x.cell? ⟨q, 0, none⟩ = some (.int .i64 b.from_)
  b1 : x.cell? ⟨q, 1, none⟩ = some (.int .i64 b.to)
  b2 : x.cell? ⟨q, 2, none⟩ = some (.int .i64 b.next)
  b3 : x.cell? ⟨q, 3, none⟩ = some (.int .i64 b.taken)
  b4 : x.cell? ⟨q, 4, none⟩ = some (.slice none 0 0)
  b5 : x.cell? ⟨q, 5, none⟩ = some (.slice none 0 0)
  f1 : x.frozen? ⟨q, 1, none⟩ = false
  f2 : x.frozen? ⟨q, 2, none⟩ = false
  f3 : x.frozen? ⟨q, 3, none⟩ = false
theorem BoxQ.below {x y : World} {q : Nat} {b : Blk} (h : BoxQ x q b) (hb : Below x.heap.size x y) : BoxQ y q b := by
  obtain ⟨hc, hf⟩ := bcell hb
  have := hb.size
  have h0 := h.big
  exact ⟨by omega, (hc _ _ h0).trans h.b0, (hc _ _ h0).trans h.b1, (hc _ _ h0).trans h.b2, (hc _ _ h0).trans h.b3, (hc _ _ h0).trans h.b4, (hc _ _ h0).trans h.b5, (hf _ _ h0).trans h.f1, (hf _ _ h0).trans h.f2, (hf _ _ h0).trans h.f3⟩
theorem BoxQ.toTo {x : World} {q : Nat} {b : Blk} (h : BoxQ x q b) (n : Int) : BoxQ (x.setCell ⟨q, 1, none⟩ (.int .i64 n)) q { b with to := n } := by
  obtain ⟨h0, c0, c1, c2, c3, c4, c5, f1, f2, f3⟩ := h
  refine ⟨by simpa using h0, ?_, ?_, ?_, ?_, ?_, ?_, ?_, ?_, ?_⟩ <;> go_simp
theorem BoxQ.nextTo {x : World} {q : Nat} {b : Blk} (h : BoxQ x q b) (n : Int) : BoxQ (x.setCell ⟨q, 2, none⟩ (.int .i64 n)) q { b with next := n } := by
  obtain ⟨h0, c0, c1, c2, c3, c4, c5, f1, f2, f3⟩ := h
  refine ⟨by simpa using h0, ?_, ?_, ?_, ?_, ?_, ?_, ?_, ?_, ?_⟩ <;> go_simp
theorem BoxQ.takenTo {x : World} {q : Nat} {b : Blk} (h : BoxQ x q b) (n : Int) : BoxQ (x.setCell ⟨q, 3, none⟩ (.int .i64 n)) q { b with taken := n } := by
  obtain ⟨h0, c0, c1, c2, c3, c4, c5, f1, f2, f3⟩ := h
  refine ⟨by simpa using h0, ?_, ?_, ?_, ?_, ?_, ?_, ?_, ?_, ?_⟩ <;> go_simp
theorem BoxQ.made (w : World) (b : Blk) (t : TypeId) : BoxQ (w.alloc (.cells #[.int .i64 b.from_, .int .i64 b.to, .int .i64 b.next, .int .i64 b.taken, .slice none 0 0, .slice none 0 0] t)) w.heap.size b := by
  refine ⟨by simp, ?_, ?_, ?_, ?_, ?_, ?_, ?_, ?_, ?_⟩ <;> go_simp
theorem BoxQ.drew {x : World} {q : Nat} {b : Blk} (h : BoxQ x q b) : BoxQ x.drew q b := ⟨h.big, h.b0, h.b1, h.b2, h.b3, h.b4, h.b5, h.f1, h.f2, h.f3⟩
theorem BoxQ.alloc {x : World} {q : Nat} {b : Blk} (h : BoxQ x q b) (o : Obj) : BoxQ (x.alloc o) q b := h.below ((Below.refl _ _).alloc (Nat.le_refl _) _)
theorem goes_40 {i : Ins} (h : i.op = 40) : goesB i = false := by unfold goesB; simp [h]
theorem goes_41 {i : Ins} (h : i.op = 41) : goesB i = false := by unfold goesB; simp [h]
theorem goes_no {i : Ins} (h : i.op ≠ 40) (h' : i.op ≠ 41) : goesB i = true := by unfold goesB; simp [h, h']

set_option maxHeartbeats 8000000 in
theorem refCut_any (A : Option Addr) (c : Nat) (sz : Int) (A' : Option Addr) (m c' : Nat) (l : List Ins) (w : World) (hr : Row w w.heap.size 5 (.slice A l.length c) l.length (codeCells l)) (hm : m ≤ c') (hc' : c' ≤ 9223372036854775807) :
    Calls Tryz.prog 47 #[.agg #[.slice A l.length c, .int .i64 sz, .slice A' m c']] w fun e w' => ∃ v, e = .returned v ∧ w'.ownsRow w.heap.size 24 6 v (cutR l sz m).length (flat blkL (cutR l sz m)) ∧ Below w.heap.size w w' := by
  obtain ⟨i0, hi, hz0, hz1, hz2⟩ := info_parts info_block
  have HZ2 := Lib.hid hz2
  clear hz2
  obtain ⟨hcl, hcm⟩ := hr.cap
  have HK := Lib.hid (fun (x : World) (h : Kept (w.alloc (.cells #[.slice A l.length c, .int .i64 sz, .slice A' m c'] 28)) x) => ((Below.refl w.heap.size w).alloc (Nat.le_refl _) _).trans (h.mono (by simp)))
  have hB : w.heap.size < (w.alloc (.cells #[.slice A l.length c, .int .i64 sz, .slice A' m c'] 28)).heap.size := by simp
  have HR := Lib.hid (hr.alloc (Nat.le_refl _) (.cells #[.slice A l.length c, .int .i64 sz, .slice A' m c'] 28) |>.more (Nat.le_of_lt hB))
  have c0 : (w.alloc (.cells #[.slice A l.length c, .int .i64 sz, .slice A' m c'] 28)).cell? ⟨w.heap.size, 0, none⟩ = some (.slice A l.length c) := by go_simp
  have c1 : (w.alloc (.cells #[.slice A l.length c, .int .i64 sz, .slice A' m c'] 28)).cell? ⟨w.heap.size, 1, none⟩ = some (.int .i64 sz) := by go_simp
  have c2 : (w.alloc (.cells #[.slice A l.length c, .int .i64 sz, .slice A' m c'] 28)).cell? ⟨w.heap.size, 2, none⟩ = some (.slice A' m c') := by go_simp
  have hw0 : (w.alloc (.cells #[.slice A l.length c, .int .i64 sz, .slice A' m c'] 28)).heap.size = w.heap.size + 1 := by simp
  have HCR := Lib.hid (cutR_eq l sz m)
  have HLS := Lib.hid (leadsR_sorted l sz m)
  have HLT := Lib.hid (fun x h => leadsR_lt (l := l) (sz := sz) (m := m) (x := x) h)
  have HRP := Lib.hid (fun h => rightZ_parts (l := l) (sz := sz) (m := m) h)
  have HLN := Lib.hid (fun (h : leadsR l sz m ≠ []) => (show rightZ l sz m = true by
    cases hh : rightZ l sz m
    · exact absurd (by unfold leadsR; rw [hh]; rfl) h
    · rfl))
  go_enter Tryz.func47, Tryz.ntmps47
  go_wp2_with fail
  generalize w.alloc (.cells #[.slice A l.length c, .int .i64 sz, .slice A' m c'] 28) = W at *
  have C0 := Lib.hid (fun (x : World) (h : Kept W x) => h.cell hB c0)
  have C1 := Lib.hid (fun (x : World) (h : Kept W x) => h.cell hB c1)
  have C2 := Lib.hid (fun (x : World) (h : Kept W x) => h.cell hB c2)
  have HX := Lib.hid (refLeaders_any A c sz A' m c' l W HR.out hm hc')
  clear c0 c1 c2 hr
  refine HX.out.mono ?_; rintro e w1 ⟨vl, rfl, hown, hb1⟩
  have k1 : Kept W w1 := hb1
  have hs1 := hb1.size
  clear hb1 HX
  generalize hLL : leadsR l sz m = L at *
  have HLLE := Lib.hid (show L.length ≤ l.length by rw [← hLL]; exact leadsR_le l sz m)
  clear hLL
  by_cases hL0 : L.length = 0
  · have hL : L = [] := List.eq_nil_of_length_eq_zero hL0
    subst hL
    obtain ⟨AL, cl, rfl⟩ := (Row.of_own hown).form
    go_wp2_with fail
    refine wp_loop_rounds 1 ?_
    rw [rounds_succ]
    go_wp2_with fail
    go_ret
    rw [HCR.out]
    exact ⟨_, rfl, World.ownsRow_nil _ _ _ _, HK.out _ k1⟩
  obtain ⟨g, cl, rfl, hgb, hgs⟩ := own_form hown hL0
  have hri := HLN.out (fun h => hL0 (by rw [h]; rfl))
  obtain ⟨⟨n0, n1⟩, hto⟩ := HRP.out hri
  have HT := Lib.hid (fun (j : Nat) (i : Ins) (h : l[j]? = some i) (hj : isJump i = true) => (by have := target_in hto h hj; simpa using this : 0 ≤ (j : Int) + i.imm ∧ (j : Int) + i.imm < l.length))
  have HA := Lib.hid (fun j h => at_some (l := l) (j := j) h)
  have hn0 : l.length ≠ 0 := by omega
  obtain ⟨b, off, rfl, hbb, _⟩ := HR.out.at_ hn0
  have HC := Lib.hid (fun (x : World) (h : Kept W x) (k : Nat) (i : Ins) (hi : l[k]? = some i) => (h.row HR.out).ins hi)
  have HTG := Lib.hid (fun (x : World) (h : Kept W x) (k : Nat) (i : Ins) (hi : l[k]? = some i) => refTarget_any b off c k sz (.slice A' m c') l i x (h.row HR.out) hi (by omega))
  have HBT := Lib.hid (fun (k : Nat) (hk : k < L.length) => blkTo_range (n := l.length) HLS.out (fun x hx => HLT.out x hx) hk)
  have HLB := Lib.hid (fun (k : Nat) (hk : k < L.length) => HLT.out _ (leadD_mem hk))
  have hLle := HLLE.out
  have HNA := Lib.hid (fun (x : World) (y : Int) (h : x.ownsRow W.heap.size 3 1 (.slice (some ⟨g, 0, none⟩) L.length cl) L.length (natL L)) => find_any (some ⟨g, 0, none⟩) cl L y x (Row.of_own h) HLS.out (by omega))
  have HTO := Lib.hid (fun (k : Nat) (h : k + 1 < L.length) => (show blkToZ L l.length k = L.getD (k + 1) 0 by unfold blkToZ; rw [if_pos h]))
  have HTN := Lib.hid (fun (k : Nat) (h : ¬ k + 1 < L.length) => (show blkToZ L l.length k = l.length by unfold blkToZ; rw [if_neg h]))
  have HLC := Lib.hid (fun (x : World) (h : x.ownsRow W.heap.size 3 1 (.slice (some ⟨g, 0, none⟩) L.length cl) L.length (natL L)) (k : Nat) (hk : k < L.length) => (h.cellAt k (by rw [Nat.mul_one]; exact hk)).trans (natL_get hk))
  have HCS := Lib.hid (fun (k : Nat) => cutTo_succ l L k)
  have HCL := Lib.hid (fun (k : Nat) => cutTo_len l L k)
  have HBK := Lib.hid (fun (k : Nat) => (show blkZ l L k = ⟨(L.getD k 0 : Nat), (blkToZ L l.length k : Nat), if goesB (insAtZ l (blkToZ L l.length k - 1)) = true then numZ L (blkToZ L l.length k : Nat) else -1,
    if isJump (insAtZ l (blkToZ L l.length k - 1)) = true then numZ L ((blkToZ L l.length k : Nat) - 1 + (insAtZ l (blkToZ L l.length k - 1)).imm) else -1⟩ from rfl))
  have HIA := Lib.hid (fun (j : Nat) (i : Ins) (h : l[j]? = some i) => (show insAtZ l j = i by unfold insAtZ; rw [List.getD_eq_getElem?_getD, h]; rfl))
  have hP : RoundB l W w1 W.heap.size (.slice (some ⟨g, 0, none⟩) L.length cl) L 0 (.slice none 0 0) := ⟨k1, hown, World.ownsRow_nil _ _ _ _⟩
  have hWw : w.heap.size < W.heap.size := by omega
  clear HR hto HRP hri hown HLN HLT HLS hw0
  go_wp2_with fail
  generalize hN : L.length = n at *
  have HN := Lib.hid hN
  clear hN k1
  go_loopw [4, 5] (fun v i wr => ∃ k : Nat, k ≤ n ∧ i = .int .i64 k ∧ RoundB l W wr W.heap.size (.slice (some ⟨g, 0, none⟩) n cl) L k v) (fun _ i _ => n - (intOf i).toNat)
  case atStart => exact ⟨0, Nat.zero_le _, rfl, hP⟩
  case round =>
    obtain ⟨k, hkn, rfl, hK⟩ := hrel
    have hk := hK.kept
    have HRW := Lib.hid hK.rows
    clear hK hP
    have hwr := hk.size
    by_cases hlt : k < n
    · obtain ⟨r0, r1⟩ := HBT.out k hlt
      have hlead := HRW.out.lead
      rw [HN.out] at hlead
      have e0 := HLC.out _ hlead k hlt
      have hLk := HLB.out k hlt
      have HBKk := Lib.hid (HBK.out k)
      have HTOk := Lib.hid (HTO.out k)
      have HTNk := Lib.hid (HTN.out k)
      have HLCk := Lib.hid (fun (x : World) (hb : Below wr.heap.size wr x) => HLC.out x (own_below hlead hb))
      clear hlead
      obtain ⟨TO, hTO⟩ : ∃ TO, TO = blkToZ L l.length k := ⟨_, rfl⟩
      rw [← hTO] at r0 r1 HBKk HTOk HTNk
      obtain ⟨FR, hFR⟩ : ∃ FR, FR = L.getD k 0 := ⟨_, rfl⟩
      rw [← hFR] at r0 e0 hLk HBKk
      clear hTO hFR
      obtain ⟨P, rfl⟩ : ∃ P : Nat, TO = P + 1 := ⟨TO - 1, by omega⟩
      obtain ⟨i, hi2⟩ := HA.out P (by omega)
      rw [Nat.add_sub_cancel, HIA.out P i hi2] at HBKk
      have HTT := Lib.hid (HT.out P i hi2)
      have c0 := C0.out _ hk
      have j0 : (0 : Int) ≤ k := by omega
      have j1 : (k : Int) < n := by omega
      have p0 : (0 : Int) ≤ P := by omega
      have p1 : (P : Int) < l.length := by omega
      have hwz0 : w.heap.size < wr.heap.size := by omega
      have hgz0 : g < wr.heap.size := by have := (HRW.out.lead.lt g rfl).2; omega
      have hS0 : wr.drew.cell? ⟨g, k, none⟩ = some (.int .i64 FR) ∧ wr.drew.cell? ⟨w.heap.size, 0, none⟩ = some (.slice (some ⟨b, off, none⟩) l.length c) := ⟨e0, c0⟩
      have hS1 : (wr.drew.alloc (.cells #[.int .i64 0, .int .i64 0, .int .i64 0, .int .i64 0, .slice none 0 0, .slice none 0 0] 24)).cell? ⟨g, k, none⟩ = some (.int .i64 FR) ∧ (wr.drew.alloc (.cells #[.int .i64 0, .int .i64 0, .int .i64 0, .int .i64 0, .slice none 0 0, .slice none 0 0] 24)).cell? ⟨w.heap.size, 0, none⟩ = some (.slice (some ⟨b, off, none⟩) l.length c) :=
        ⟨one_cell (w := wr.drew) hgz0 e0, one_cell (w := wr.drew) hwz0 c0⟩
      have hS2 : (wr.drew.alloc (.cells #[.int .i64 FR, .int .i64 l.length, .int .i64 (-1), .int .i64 (-1), .slice none 0 0, .slice none 0 0] 24)).cell? ⟨g, k, none⟩ = some (.int .i64 FR) ∧ (wr.drew.alloc (.cells #[.int .i64 FR, .int .i64 l.length, .int .i64 (-1), .int .i64 (-1), .slice none 0 0, .slice none 0 0] 24)).cell? ⟨w.heap.size, 0, none⟩ = some (.slice (some ⟨b, off, none⟩) l.length c) :=
        ⟨one_cell (w := wr.drew) hgz0 e0, one_cell (w := wr.drew) hwz0 c0⟩
      have HS1 := Lib.hid hS1
      have HS2 := Lib.hid hS2
      clear hS1 hS2
      go_wp2_with fail
      refine wp_region_lin [(0, true), (1, true), (2, true), (3, true), (4, true), (5, true), (6, true), (7, true), (8, false), (9, false)]
        (by kernel_rfl) (by kernel_rfl) rfl (by kernel_rfl) (fun y => y.cell? ⟨g, k, none⟩ = some (.int .i64 FR) ∧ y.cell? ⟨w.heap.size, 0, none⟩ = some (.slice (some ⟨b, off, none⟩) l.length c)) ?_
      simp only [List.map_cons, List.map_nil, List.getElem?_toArray, List.getElem?_cons_succ, List.getElem?_cons_zero]
      iterate 8 (refine lin_take (v := ?_) (by assumption) (by rfl) ?_ ?_; rotate_left; (intro y hy; (try dsimp only at hy); obtain ⟨z0, z1⟩ := hy; go_simp; try (with_reducible rfl)); (try simp only [Act.put, List.setIfInBounds_toArray, List.set_cons_zero, List.set_cons_succ]))
      refine lin_call (by assumption) (by rfl) (fun K hK => ?_)
      go_simp
      go_wp2_with fail
      refine hK.out _ _ HS1.out (fun _ => ?_)
      clear hK K
      try simp only [Act.put, List.setIfInBounds_toArray, List.set_cons_zero, List.set_cons_succ]
      have hS1 := HS1.out
      refine lin_call (by assumption) (by rfl) (fun K hK => ?_)
      clear hS1
      go_simp
      go_wp2_with fail
      refine hK.out _ _ HS2.out (fun _ => ?_)
      clear hK K hS0 HS1 HS2
      try simp only [Act.put, List.setIfInBounds_toArray, List.set_cons_zero, List.set_cons_succ]
      refine lin_done ?_
      have BX := Lib.hid (BoxQ.drew (BoxQ.made wr ⟨FR, l.length, -1, -1⟩ 24))
      have RW0 := Lib.hid (RowsB.drewN (RowsB.alloc HRW.out (.cells #[.int .i64 FR, .int .i64 l.length, .int .i64 (-1), .int .i64 (-1), .slice none 0 0, .slice none 0 0] 24)) 1)
      have hb0 : Below wr.heap.size wr (wr.alloc (.cells #[.int .i64 FR, .int .i64 l.length, .int .i64 (-1), .int .i64 (-1), .slice none 0 0, .slice none 0 0] 24)).drew := Below.drew ((Below.refl _ _).alloc (Nat.le_refl _) _)
      have k0 := Lib.hid (hk.to hb0)
      have hsz : (wr.alloc (.cells #[.int .i64 FR, .int .i64 l.length, .int .i64 (-1), .int .i64 (-1), .slice none 0 0, .slice none 0 0] 24)).drew.heap.size = wr.heap.size + 1 := by show (wr.alloc (.cells #[.int .i64 FR, .int .i64 l.length, .int .i64 (-1), .int .i64 (-1), .slice none 0 0, .slice none 0 0] 24)).heap.size = _; simp
      have HLCy := Lib.hid (HLCk.out _ hb0)
      have hnl := Lib.hid (fun q (h : wr.heap.size ≤ q) => (show (Value.slice (some ⟨g, 0, none⟩) n cl).ownBlock ≠ some q from fun e => by have := (HRW.out.lead.lt q e).2; omega))
      have hno := Lib.hid (fun q (h : wr.heap.size ≤ q) e => (show False by have := (HRW.out.out.lt q e).2; omega))
      clear hb0 e0 c0 HRW HLCk
      change Hid (RowsB (wr.alloc (.cells #[.int .i64 FR, .int .i64 l.length, .int .i64 (-1), .int .i64 (-1), .slice none 0 0, .slice none 0 0] 24)).drew _ _ _ _ _ _) at RW0
      generalize (wr.alloc (.cells #[.int .i64 FR, .int .i64 l.length, .int .i64 (-1), .int .i64 (-1), .slice none 0 0, .slice none 0 0] 24)).drew = Y at *
      generalize wr.heap.size = Q at *
      obtain ⟨d0, d1, d2, d3, d4⟩ := HC.out _ k0.out P i hi2
      have HTGx := Lib.hid (fun x hx => HTG.out x hx P i hi2)
      have c0 := C0.out _ k0.out
      have c1 := C1.out _ k0.out
      have c2 := C2.out _ k0.out
      obtain ⟨_, u0, u1, u2, u3, u4, u5, f1, f2, f3⟩ := BX.out
      clear hi2
      by_cases hk1 : k + 1 < n
      · have e1 := HLCy.out (k + 1) hk1
        have hTOe := HTOk.out hk1
        rw [← hTOe, Int.natCast_add, Int.natCast_one] at e1
        have j2 : (k : Int) + 1 < n := by omega
        have BXP := Lib.hid (BX.out.toTo ((P : Int) + 1))
        have RWP := Lib.hid (RW0.out.set (g := Q) (o := 1) (.int .i64 ((P : Int) + 1)) (hnl.out _ (Nat.le_refl _)) (fun e => hno.out _ (Nat.le_refl _) e))
        have kP := Lib.hid (Kept.set k0.out (g := Q) (o := 1) (by omega) (.int .i64 ((P : Int) + 1)))
        clear hTOe
        have BXA := Lib.hid (BXP.out.alloc (.cells #[.int .i64 i.op, .int .i64 i.d, .int .i64 i.a, .int .i64 i.b, .int .i64 i.imm] 44))
        have RWA := Lib.hid (RWP.out.alloc (.cells #[.int .i64 i.op, .int .i64 i.d, .int .i64 i.a, .int .i64 i.b, .int .i64 i.imm] 44))
        have kA := Lib.hid (Kept.alloc kP.out (.cells #[.int .i64 i.op, .int .i64 i.d, .int .i64 i.a, .int .i64 i.b, .int .i64 i.imm] 44))
        by_cases h40 : i.op = 40
        · have hgo := goes_40 h40
          have hq40 : (i.op != 40) = false := by simp [h40]
          clear h40
          have HTX := Lib.hid (HTGx.out _ kA.out)
          go_wp2_with fail
          refine HTX.out.mono ?_; rintro e x3 ⟨rfl, hb3⟩
          have BX3 := Lib.hid (BoxQ.below BXA.out hb3)
          have RW3 := Lib.hid (RowsB.below RWA.out hb3)
          have k3 := Lib.hid (Kept.to kA.out hb3)
          clear hb3 u0 u1 u2 u3 u4 u5 f1 f2 f3
          cases hju : isJump i
          · rw [targetZ_no (n := l.length) (k := P) (.inl hju)]
            clear HTT
            obtain ⟨_, u0, u1, u2, u3, u4, u5, f1, f2, f3⟩ := BX3.out
            have hbs := Lib.hid (show blkZ l L k = ⟨FR, (P : Int) + 1, -1, -1⟩ by rw [HBKk.out]; simp [hgo, hju])
            have hwz := Lib.hid (show W.heap.size ≤ x3.heap.size from k3.out.size)
            go_wp2_with (at_builtin; refine wpList_append_own _ rfl (.tmp 67) (.tmp 69) 29 rfl W.heap.size 24 i0 (.agg #[.int .i64 0, .int .i64 0, .int .i64 0, .int .i64 0, .slice none 0 0, .slice none 0 0]) 6 80 Tryz.underlying29 hi hz0 hz1 HZ2.out rfl (by omega) _ k (flat blkL (cutTo l L k)) rfl (RW3.out.out.alloc _) _ 1 1 (blkL ⟨FR, (P : Int) + 1, -1, -1⟩) rfl rfl (new_cells_at _ _ (by simp) _ _ _ rfl) (blkL_one _) (by unfold maxLen; omega) (by omega) (by have := hwz.out; simp at this ⊢; omega) ?_; intro v2 x5 hO5 hg5 _)
            have k5 : Kept W x5 := Below.grown (Kept.alloc k3.out _) hg5 (by have := hwz.out; simp at this ⊢; omega) (fun q hq => (RW3.out.out.lt q hq).1)
            have hL5 := own_grown (RW3.out.lead.alloc _) hg5 (fun q hq => by rw [← hq]; exact own_apart RW3.out.lead RW3.out.out (by decide) hq)
            clear hg5
            go_roundw
            case rel =>
              refine ⟨k + 1, by omega, by go_num, k5, hL5, ?_⟩
              rw [HCS.out, flat_snoc, hbs.out]
              exact hO5
            case measure => simp [intOf]; omega
          · obtain ⟨t0, t1⟩ := HTT.out hju
            rw [targetZ_jump hju t0 t1 (by omega) (by omega)]
            obtain ⟨_, u0, u1, u2, u3, u4, u5, f1, f2, f3⟩ := BX3.out
            have hl9 := RW3.out.lead
            rw [HN.out] at hl9
            have HNX := Lib.hid (HNA.out _ ((P : Int) + i.imm) hl9)
            clear hl9
            go_wp2_with fail
            refine HNX.out.mono ?_; rintro e x4 ⟨rfl, rfl⟩
            have BX4 := Lib.hid (BX3.out.takenTo (numZ L ((P : Int) + i.imm)))
            have RW4 := Lib.hid (RW3.out.set (g := Q) (o := 3) (.int .i64 (numZ L ((P : Int) + i.imm))) (hnl.out _ (by omega)) (fun e => hno.out _ (by omega) e))
            have k4 := Lib.hid (Kept.set k3.out (g := Q) (o := 3) (by omega) (.int .i64 (numZ L ((P : Int) + i.imm))))
            have hbs := Lib.hid (show blkZ l L k = ⟨FR, (P : Int) + 1, -1, numZ L ((P : Int) + i.imm)⟩ by rw [HBKk.out]; simp [hgo, hju])
            have hwz := Lib.hid (show W.heap.size ≤ x3.heap.size from k3.out.size)
            go_wp2_with (at_builtin; refine wpList_append_own _ rfl (.tmp 67) (.tmp 69) 29 rfl W.heap.size 24 i0 (.agg #[.int .i64 0, .int .i64 0, .int .i64 0, .int .i64 0, .slice none 0 0, .slice none 0 0]) 6 80 Tryz.underlying29 hi hz0 hz1 HZ2.out rfl (by omega) _ k (flat blkL (cutTo l L k)) rfl (RW4.out.out.alloc _) _ 1 1 (blkL ⟨FR, (P : Int) + 1, -1, numZ L ((P : Int) + i.imm)⟩) rfl rfl (new_cells_at _ _ (by simp) _ _ _ rfl) (blkL_one _) (by unfold maxLen; omega) (by omega) (by have := hwz.out; simp at this ⊢; omega) ?_; intro v2 x5 hO5 hg5 _)
            have k5 : Kept W x5 := Below.grown (Kept.alloc k4.out _) hg5 (by have := hwz.out; simp at this ⊢; omega) (fun q hq => (RW4.out.out.lt q hq).1)
            have hL5 := own_grown (RW4.out.lead.alloc _) hg5 (fun q hq => by rw [← hq]; exact own_apart RW4.out.lead RW4.out.out (by decide) hq)
            clear hg5
            go_roundw
            case rel =>
              refine ⟨k + 1, by omega, by go_num, k5, hL5, ?_⟩
              rw [HCS.out, flat_snoc, hbs.out]
              exact hO5
            case measure => simp [intOf]; omega
        · by_cases h41 : i.op = 41
          · have hgo := goes_41 h41
            have hq40 : (i.op != 40) = true := by simpa using h40
            have hq41 : (i.op != 41) = false := by simp [h41]
            clear h40 h41
            have HTX := Lib.hid (HTGx.out _ kA.out)
            go_wp2_with fail
            refine HTX.out.mono ?_; rintro e x3 ⟨rfl, hb3⟩
            have BX3 := Lib.hid (BoxQ.below BXA.out hb3)
            have RW3 := Lib.hid (RowsB.below RWA.out hb3)
            have k3 := Lib.hid (Kept.to kA.out hb3)
            clear hb3 u0 u1 u2 u3 u4 u5 f1 f2 f3
            cases hju : isJump i
            · rw [targetZ_no (n := l.length) (k := P) (.inl hju)]
              clear HTT
              obtain ⟨_, u0, u1, u2, u3, u4, u5, f1, f2, f3⟩ := BX3.out
              have hbs := Lib.hid (show blkZ l L k = ⟨FR, (P : Int) + 1, -1, -1⟩ by rw [HBKk.out]; simp [hgo, hju])
              have hwz := Lib.hid (show W.heap.size ≤ x3.heap.size from k3.out.size)
              go_wp2_with (at_builtin; refine wpList_append_own _ rfl (.tmp 67) (.tmp 69) 29 rfl W.heap.size 24 i0 (.agg #[.int .i64 0, .int .i64 0, .int .i64 0, .int .i64 0, .slice none 0 0, .slice none 0 0]) 6 80 Tryz.underlying29 hi hz0 hz1 HZ2.out rfl (by omega) _ k (flat blkL (cutTo l L k)) rfl (RW3.out.out.alloc _) _ 1 1 (blkL ⟨FR, (P : Int) + 1, -1, -1⟩) rfl rfl (new_cells_at _ _ (by simp) _ _ _ rfl) (blkL_one _) (by unfold maxLen; omega) (by omega) (by have := hwz.out; simp at this ⊢; omega) ?_; intro v2 x5 hO5 hg5 _)
              have k5 : Kept W x5 := Below.grown (Kept.alloc k3.out _) hg5 (by have := hwz.out; simp at this ⊢; omega) (fun q hq => (RW3.out.out.lt q hq).1)
              have hL5 := own_grown (RW3.out.lead.alloc _) hg5 (fun q hq => by rw [← hq]; exact own_apart RW3.out.lead RW3.out.out (by decide) hq)
              clear hg5
              go_roundw
              case rel =>
                refine ⟨k + 1, by omega, by go_num, k5, hL5, ?_⟩
                rw [HCS.out, flat_snoc, hbs.out]
                exact hO5
              case measure => simp [intOf]; omega
            · obtain ⟨t0, t1⟩ := HTT.out hju
              rw [targetZ_jump hju t0 t1 (by omega) (by omega)]
              obtain ⟨_, u0, u1, u2, u3, u4, u5, f1, f2, f3⟩ := BX3.out
              have hl9 := RW3.out.lead
              rw [HN.out] at hl9
              have HNX := Lib.hid (HNA.out _ ((P : Int) + i.imm) hl9)
              clear hl9
              go_wp2_with fail
              refine HNX.out.mono ?_; rintro e x4 ⟨rfl, rfl⟩
              have BX4 := Lib.hid (BX3.out.takenTo (numZ L ((P : Int) + i.imm)))
              have RW4 := Lib.hid (RW3.out.set (g := Q) (o := 3) (.int .i64 (numZ L ((P : Int) + i.imm))) (hnl.out _ (by omega)) (fun e => hno.out _ (by omega) e))
              have k4 := Lib.hid (Kept.set k3.out (g := Q) (o := 3) (by omega) (.int .i64 (numZ L ((P : Int) + i.imm))))
              have hbs := Lib.hid (show blkZ l L k = ⟨FR, (P : Int) + 1, -1, numZ L ((P : Int) + i.imm)⟩ by rw [HBKk.out]; simp [hgo, hju])
              have hwz := Lib.hid (show W.heap.size ≤ x3.heap.size from k3.out.size)
              go_wp2_with (at_builtin; refine wpList_append_own _ rfl (.tmp 67) (.tmp 69) 29 rfl W.heap.size 24 i0 (.agg #[.int .i64 0, .int .i64 0, .int .i64 0, .int .i64 0, .slice none 0 0, .slice none 0 0]) 6 80 Tryz.underlying29 hi hz0 hz1 HZ2.out rfl (by omega) _ k (flat blkL (cutTo l L k)) rfl (RW4.out.out.alloc _) _ 1 1 (blkL ⟨FR, (P : Int) + 1, -1, numZ L ((P : Int) + i.imm)⟩) rfl rfl (new_cells_at _ _ (by simp) _ _ _ rfl) (blkL_one _) (by unfold maxLen; omega) (by omega) (by have := hwz.out; simp at this ⊢; omega) ?_; intro v2 x5 hO5 hg5 _)
              have k5 : Kept W x5 := Below.grown (Kept.alloc k4.out _) hg5 (by have := hwz.out; simp at this ⊢; omega) (fun q hq => (RW4.out.out.lt q hq).1)
              have hL5 := own_grown (RW4.out.lead.alloc _) hg5 (fun q hq => by rw [← hq]; exact own_apart RW4.out.lead RW4.out.out (by decide) hq)
              clear hg5
              go_roundw
              case rel =>
                refine ⟨k + 1, by omega, by go_num, k5, hL5, ?_⟩
                rw [HCS.out, flat_snoc, hbs.out]
                exact hO5
              case measure => simp [intOf]; omega
          · have hgo := goes_no h40 h41
            have hq40 : (i.op != 40) = true := by simpa using h40
            have hq41 : (i.op != 41) = true := by simpa using h41
            clear h40 h41
            have hl9 := RWA.out.lead
            rw [HN.out] at hl9
            have HNX := Lib.hid (HNA.out _ ((P : Int) + 1) hl9)
            clear hl9
            go_wp2_with fail
            refine HNX.out.mono ?_; rintro e x2 ⟨rfl, rfl⟩
            have BX2 := Lib.hid ((BXP.out.nextTo (numZ L ((P : Int) + 1))).alloc (.cells #[.int .i64 i.op, .int .i64 i.d, .int .i64 i.a, .int .i64 i.b, .int .i64 i.imm] 44))
            have RW2 := Lib.hid ((RWP.out.set (g := Q) (o := 2) (.int .i64 (numZ L ((P : Int) + 1))) (hnl.out _ (Nat.le_refl _)) (fun e => hno.out _ (Nat.le_refl _) e)).alloc (.cells #[.int .i64 i.op, .int .i64 i.d, .int .i64 i.a, .int .i64 i.b, .int .i64 i.imm] 44))
            have k2 := Lib.hid (Kept.alloc (Kept.set kP.out (g := Q) (o := 2) (by omega) (.int .i64 (numZ L ((P : Int) + 1)))) (.cells #[.int .i64 i.op, .int .i64 i.d, .int .i64 i.a, .int .i64 i.b, .int .i64 i.imm] 44))
            have HTX := Lib.hid (HTGx.out _ k2.out)
            go_wp2_with fail
            refine HTX.out.mono ?_; rintro e x3 ⟨rfl, hb3⟩
            have BX3 := Lib.hid (BoxQ.below BX2.out hb3)
            have RW3 := Lib.hid (RowsB.below RW2.out hb3)
            have k3 := Lib.hid (Kept.to k2.out hb3)
            clear hb3 u0 u1 u2 u3 u4 u5 f1 f2 f3
            cases hju : isJump i
            · rw [targetZ_no (n := l.length) (k := P) (.inl hju)]
              clear HTT
              obtain ⟨_, u0, u1, u2, u3, u4, u5, f1, f2, f3⟩ := BX3.out
              have hbs := Lib.hid (show blkZ l L k = ⟨FR, (P : Int) + 1, numZ L ((P : Int) + 1), -1⟩ by rw [HBKk.out]; simp [hgo, hju])
              have hwz := Lib.hid (show W.heap.size ≤ x3.heap.size from k3.out.size)
              go_wp2_with (at_builtin; refine wpList_append_own _ rfl (.tmp 67) (.tmp 69) 29 rfl W.heap.size 24 i0 (.agg #[.int .i64 0, .int .i64 0, .int .i64 0, .int .i64 0, .slice none 0 0, .slice none 0 0]) 6 80 Tryz.underlying29 hi hz0 hz1 HZ2.out rfl (by omega) _ k (flat blkL (cutTo l L k)) rfl (RW3.out.out.alloc _) _ 1 1 (blkL ⟨FR, (P : Int) + 1, numZ L ((P : Int) + 1), -1⟩) rfl rfl (new_cells_at _ _ (by simp) _ _ _ rfl) (blkL_one _) (by unfold maxLen; omega) (by omega) (by have := hwz.out; simp at this ⊢; omega) ?_; intro v2 x5 hO5 hg5 _)
              have k5 : Kept W x5 := Below.grown (Kept.alloc k3.out _) hg5 (by have := hwz.out; simp at this ⊢; omega) (fun q hq => (RW3.out.out.lt q hq).1)
              have hL5 := own_grown (RW3.out.lead.alloc _) hg5 (fun q hq => by rw [← hq]; exact own_apart RW3.out.lead RW3.out.out (by decide) hq)
              clear hg5
              go_roundw
              case rel =>
                refine ⟨k + 1, by omega, by go_num, k5, hL5, ?_⟩
                rw [HCS.out, flat_snoc, hbs.out]
                exact hO5
              case measure => simp [intOf]; omega
            · obtain ⟨t0, t1⟩ := HTT.out hju
              rw [targetZ_jump hju t0 t1 (by omega) (by omega)]
              obtain ⟨_, u0, u1, u2, u3, u4, u5, f1, f2, f3⟩ := BX3.out
              have hl9 := RW3.out.lead
              rw [HN.out] at hl9
              have HNX := Lib.hid (HNA.out _ ((P : Int) + i.imm) hl9)
              clear hl9
              go_wp2_with fail
              refine HNX.out.mono ?_; rintro e x4 ⟨rfl, rfl⟩
              have BX4 := Lib.hid (BX3.out.takenTo (numZ L ((P : Int) + i.imm)))
              have RW4 := Lib.hid (RW3.out.set (g := Q) (o := 3) (.int .i64 (numZ L ((P : Int) + i.imm))) (hnl.out _ (by omega)) (fun e => hno.out _ (by omega) e))
              have k4 := Lib.hid (Kept.set k3.out (g := Q) (o := 3) (by omega) (.int .i64 (numZ L ((P : Int) + i.imm))))
              have hbs := Lib.hid (show blkZ l L k = ⟨FR, (P : Int) + 1, numZ L ((P : Int) + 1), numZ L ((P : Int) + i.imm)⟩ by rw [HBKk.out]; simp [hgo, hju])
              have hwz := Lib.hid (show W.heap.size ≤ x3.heap.size from k3.out.size)
              go_wp2_with (at_builtin; refine wpList_append_own _ rfl (.tmp 67) (.tmp 69) 29 rfl W.heap.size 24 i0 (.agg #[.int .i64 0, .int .i64 0, .int .i64 0, .int .i64 0, .slice none 0 0, .slice none 0 0]) 6 80 Tryz.underlying29 hi hz0 hz1 HZ2.out rfl (by omega) _ k (flat blkL (cutTo l L k)) rfl (RW4.out.out.alloc _) _ 1 1 (blkL ⟨FR, (P : Int) + 1, numZ L ((P : Int) + 1), numZ L ((P : Int) + i.imm)⟩) rfl rfl (new_cells_at _ _ (by simp) _ _ _ rfl) (blkL_one _) (by unfold maxLen; omega) (by omega) (by have := hwz.out; simp at this ⊢; omega) ?_; intro v2 x5 hO5 hg5 _)
              have k5 : Kept W x5 := Below.grown (Kept.alloc k4.out _) hg5 (by have := hwz.out; simp at this ⊢; omega) (fun q hq => (RW4.out.out.lt q hq).1)
              have hL5 := own_grown (RW4.out.lead.alloc _) hg5 (fun q hq => by rw [← hq]; exact own_apart RW4.out.lead RW4.out.out (by decide) hq)
              clear hg5
              go_roundw
              case rel =>
                refine ⟨k + 1, by omega, by go_num, k5, hL5, ?_⟩
                rw [HCS.out, flat_snoc, hbs.out]
                exact hO5
              case measure => simp [intOf]; omega
      · have hTOe := HTNk.out hk1
        have hTOi : (l.length : Int) = (P : Int) + 1 := by omega
        rw [show (Blk.mk FR l.length (-1) (-1)) = Blk.mk FR ((P : Int) + 1) (-1) (-1) by rw [hTOi]] at BX
        have j2 : ¬ (k : Int) + 1 < n := by omega
        have BXP := BX
        have RWP := RW0
        have kP := k0
        clear hTOe
        have BXA := Lib.hid (BXP.out.alloc (.cells #[.int .i64 i.op, .int .i64 i.d, .int .i64 i.a, .int .i64 i.b, .int .i64 i.imm] 44))
        have RWA := Lib.hid (RWP.out.alloc (.cells #[.int .i64 i.op, .int .i64 i.d, .int .i64 i.a, .int .i64 i.b, .int .i64 i.imm] 44))
        have kA := Lib.hid (Kept.alloc kP.out (.cells #[.int .i64 i.op, .int .i64 i.d, .int .i64 i.a, .int .i64 i.b, .int .i64 i.imm] 44))
        by_cases h40 : i.op = 40
        · have hgo := goes_40 h40
          have hq40 : (i.op != 40) = false := by simp [h40]
          clear h40
          have HTX := Lib.hid (HTGx.out _ kA.out)
          go_wp2_with fail
          refine HTX.out.mono ?_; rintro e x3 ⟨rfl, hb3⟩
          have BX3 := Lib.hid (BoxQ.below BXA.out hb3)
          have RW3 := Lib.hid (RowsB.below RWA.out hb3)
          have k3 := Lib.hid (Kept.to kA.out hb3)
          clear hb3 u0 u1 u2 u3 u4 u5 f1 f2 f3
          cases hju : isJump i
          · rw [targetZ_no (n := l.length) (k := P) (.inl hju)]
            clear HTT
            obtain ⟨_, u0, u1, u2, u3, u4, u5, f1, f2, f3⟩ := BX3.out
            have hbs := Lib.hid (show blkZ l L k = ⟨FR, (P : Int) + 1, -1, -1⟩ by rw [HBKk.out]; simp [hgo, hju])
            have hwz := Lib.hid (show W.heap.size ≤ x3.heap.size from k3.out.size)
            go_wp2_with (at_builtin; refine wpList_append_own _ rfl (.tmp 67) (.tmp 69) 29 rfl W.heap.size 24 i0 (.agg #[.int .i64 0, .int .i64 0, .int .i64 0, .int .i64 0, .slice none 0 0, .slice none 0 0]) 6 80 Tryz.underlying29 hi hz0 hz1 HZ2.out rfl (by omega) _ k (flat blkL (cutTo l L k)) rfl (RW3.out.out.alloc _) _ 1 1 (blkL ⟨FR, (P : Int) + 1, -1, -1⟩) rfl rfl (new_cells_at _ _ (by simp) _ _ _ rfl) (blkL_one _) (by unfold maxLen; omega) (by omega) (by have := hwz.out; simp at this ⊢; omega) ?_; intro v2 x5 hO5 hg5 _)
            have k5 : Kept W x5 := Below.grown (Kept.alloc k3.out _) hg5 (by have := hwz.out; simp at this ⊢; omega) (fun q hq => (RW3.out.out.lt q hq).1)
            have hL5 := own_grown (RW3.out.lead.alloc _) hg5 (fun q hq => by rw [← hq]; exact own_apart RW3.out.lead RW3.out.out (by decide) hq)
            clear hg5
            go_roundw
            case rel =>
              refine ⟨k + 1, by omega, by go_num, k5, hL5, ?_⟩
              rw [HCS.out, flat_snoc, hbs.out]
              exact hO5
            case measure => simp [intOf]; omega
          · obtain ⟨t0, t1⟩ := HTT.out hju
            rw [targetZ_jump hju t0 t1 (by omega) (by omega)]
            obtain ⟨_, u0, u1, u2, u3, u4, u5, f1, f2, f3⟩ := BX3.out
            have hl9 := RW3.out.lead
            rw [HN.out] at hl9
            have HNX := Lib.hid (HNA.out _ ((P : Int) + i.imm) hl9)
            clear hl9
            go_wp2_with fail
            refine HNX.out.mono ?_; rintro e x4 ⟨rfl, rfl⟩
            have BX4 := Lib.hid (BX3.out.takenTo (numZ L ((P : Int) + i.imm)))
            have RW4 := Lib.hid (RW3.out.set (g := Q) (o := 3) (.int .i64 (numZ L ((P : Int) + i.imm))) (hnl.out _ (by omega)) (fun e => hno.out _ (by omega) e))
            have k4 := Lib.hid (Kept.set k3.out (g := Q) (o := 3) (by omega) (.int .i64 (numZ L ((P : Int) + i.imm))))
            have hbs := Lib.hid (show blkZ l L k = ⟨FR, (P : Int) + 1, -1, numZ L ((P : Int) + i.imm)⟩ by rw [HBKk.out]; simp [hgo, hju])
            have hwz := Lib.hid (show W.heap.size ≤ x3.heap.size from k3.out.size)
            go_wp2_with (at_builtin; refine wpList_append_own _ rfl (.tmp 67) (.tmp 69) 29 rfl W.heap.size 24 i0 (.agg #[.int .i64 0, .int .i64 0, .int .i64 0, .int .i64 0, .slice none 0 0, .slice none 0 0]) 6 80 Tryz.underlying29 hi hz0 hz1 HZ2.out rfl (by omega) _ k (flat blkL (cutTo l L k)) rfl (RW4.out.out.alloc _) _ 1 1 (blkL ⟨FR, (P : Int) + 1, -1, numZ L ((P : Int) + i.imm)⟩) rfl rfl (new_cells_at _ _ (by simp) _ _ _ rfl) (blkL_one _) (by unfold maxLen; omega) (by omega) (by have := hwz.out; simp at this ⊢; omega) ?_; intro v2 x5 hO5 hg5 _)
            have k5 : Kept W x5 := Below.grown (Kept.alloc k4.out _) hg5 (by have := hwz.out; simp at this ⊢; omega) (fun q hq => (RW4.out.out.lt q hq).1)
            have hL5 := own_grown (RW4.out.lead.alloc _) hg5 (fun q hq => by rw [← hq]; exact own_apart RW4.out.lead RW4.out.out (by decide) hq)
            clear hg5
            go_roundw
            case rel =>
              refine ⟨k + 1, by omega, by go_num, k5, hL5, ?_⟩
              rw [HCS.out, flat_snoc, hbs.out]
              exact hO5
            case measure => simp [intOf]; omega
        · by_cases h41 : i.op = 41
          · have hgo := goes_41 h41
            have hq40 : (i.op != 40) = true := by simpa using h40
            have hq41 : (i.op != 41) = false := by simp [h41]
            clear h40 h41
            have HTX := Lib.hid (HTGx.out _ kA.out)
            go_wp2_with fail
            refine HTX.out.mono ?_; rintro e x3 ⟨rfl, hb3⟩
            have BX3 := Lib.hid (BoxQ.below BXA.out hb3)
            have RW3 := Lib.hid (RowsB.below RWA.out hb3)
            have k3 := Lib.hid (Kept.to kA.out hb3)
            clear hb3 u0 u1 u2 u3 u4 u5 f1 f2 f3
            cases hju : isJump i
            · rw [targetZ_no (n := l.length) (k := P) (.inl hju)]
              clear HTT
              obtain ⟨_, u0, u1, u2, u3, u4, u5, f1, f2, f3⟩ := BX3.out
              have hbs := Lib.hid (show blkZ l L k = ⟨FR, (P : Int) + 1, -1, -1⟩ by rw [HBKk.out]; simp [hgo, hju])
              have hwz := Lib.hid (show W.heap.size ≤ x3.heap.size from k3.out.size)
              go_wp2_with (at_builtin; refine wpList_append_own _ rfl (.tmp 67) (.tmp 69) 29 rfl W.heap.size 24 i0 (.agg #[.int .i64 0, .int .i64 0, .int .i64 0, .int .i64 0, .slice none 0 0, .slice none 0 0]) 6 80 Tryz.underlying29 hi hz0 hz1 HZ2.out rfl (by omega) _ k (flat blkL (cutTo l L k)) rfl (RW3.out.out.alloc _) _ 1 1 (blkL ⟨FR, (P : Int) + 1, -1, -1⟩) rfl rfl (new_cells_at _ _ (by simp) _ _ _ rfl) (blkL_one _) (by unfold maxLen; omega) (by omega) (by have := hwz.out; simp at this ⊢; omega) ?_; intro v2 x5 hO5 hg5 _)
              have k5 : Kept W x5 := Below.grown (Kept.alloc k3.out _) hg5 (by have := hwz.out; simp at this ⊢; omega) (fun q hq => (RW3.out.out.lt q hq).1)
              have hL5 := own_grown (RW3.out.lead.alloc _) hg5 (fun q hq => by rw [← hq]; exact own_apart RW3.out.lead RW3.out.out (by decide) hq)
              clear hg5
              go_roundw
              case rel =>
                refine ⟨k + 1, by omega, by go_num, k5, hL5, ?_⟩
                rw [HCS.out, flat_snoc, hbs.out]
                exact hO5
              case measure => simp [intOf]; omega
            · obtain ⟨t0, t1⟩ := HTT.out hju
              rw [targetZ_jump hju t0 t1 (by omega) (by omega)]
              obtain ⟨_, u0, u1, u2, u3, u4, u5, f1, f2, f3⟩ := BX3.out
              have hl9 := RW3.out.lead
              rw [HN.out] at hl9
              have HNX := Lib.hid (HNA.out _ ((P : Int) + i.imm) hl9)
              clear hl9
              go_wp2_with fail
              refine HNX.out.mono ?_; rintro e x4 ⟨rfl, rfl⟩
              have BX4 := Lib.hid (BX3.out.takenTo (numZ L ((P : Int) + i.imm)))
              have RW4 := Lib.hid (RW3.out.set (g := Q) (o := 3) (.int .i64 (numZ L ((P : Int) + i.imm))) (hnl.out _ (by omega)) (fun e => hno.out _ (by omega) e))
              have k4 := Lib.hid (Kept.set k3.out (g := Q) (o := 3) (by omega) (.int .i64 (numZ L ((P : Int) + i.imm))))
              have hbs := Lib.hid (show blkZ l L k = ⟨FR, (P : Int) + 1, -1, numZ L ((P : Int) + i.imm)⟩ by rw [HBKk.out]; simp [hgo, hju])
              have hwz := Lib.hid (show W.heap.size ≤ x3.heap.size from k3.out.size)
              go_wp2_with (at_builtin; refine wpList_append_own _ rfl (.tmp 67) (.tmp 69) 29 rfl W.heap.size 24 i0 (.agg #[.int .i64 0, .int .i64 0, .int .i64 0, .int .i64 0, .slice none 0 0, .slice none 0 0]) 6 80 Tryz.underlying29 hi hz0 hz1 HZ2.out rfl (by omega) _ k (flat blkL (cutTo l L k)) rfl (RW4.out.out.alloc _) _ 1 1 (blkL ⟨FR, (P : Int) + 1, -1, numZ L ((P : Int) + i.imm)⟩) rfl rfl (new_cells_at _ _ (by simp) _ _ _ rfl) (blkL_one _) (by unfold maxLen; omega) (by omega) (by have := hwz.out; simp at this ⊢; omega) ?_; intro v2 x5 hO5 hg5 _)
              have k5 : Kept W x5 := Below.grown (Kept.alloc k4.out _) hg5 (by have := hwz.out; simp at this ⊢; omega) (fun q hq => (RW4.out.out.lt q hq).1)
              have hL5 := own_grown (RW4.out.lead.alloc _) hg5 (fun q hq => by rw [← hq]; exact own_apart RW4.out.lead RW4.out.out (by decide) hq)
              clear hg5
              go_roundw
              case rel =>
                refine ⟨k + 1, by omega, by go_num, k5, hL5, ?_⟩
                rw [HCS.out, flat_snoc, hbs.out]
                exact hO5
              case measure => simp [intOf]; omega
          · have hgo := goes_no h40 h41
            have hq40 : (i.op != 40) = true := by simpa using h40
            have hq41 : (i.op != 41) = true := by simpa using h41
            clear h40 h41
            have hl9 := RWA.out.lead
            rw [HN.out] at hl9
            have HNX := Lib.hid (HNA.out _ ((P : Int) + 1) hl9)
            clear hl9
            go_wp2_with fail
            refine HNX.out.mono ?_; rintro e x2 ⟨rfl, rfl⟩
            have BX2 := Lib.hid ((BXP.out.nextTo (numZ L ((P : Int) + 1))).alloc (.cells #[.int .i64 i.op, .int .i64 i.d, .int .i64 i.a, .int .i64 i.b, .int .i64 i.imm] 44))
            have RW2 := Lib.hid ((RWP.out.set (g := Q) (o := 2) (.int .i64 (numZ L ((P : Int) + 1))) (hnl.out _ (Nat.le_refl _)) (fun e => hno.out _ (Nat.le_refl _) e)).alloc (.cells #[.int .i64 i.op, .int .i64 i.d, .int .i64 i.a, .int .i64 i.b, .int .i64 i.imm] 44))
            have k2 := Lib.hid (Kept.alloc (Kept.set kP.out (g := Q) (o := 2) (by omega) (.int .i64 (numZ L ((P : Int) + 1)))) (.cells #[.int .i64 i.op, .int .i64 i.d, .int .i64 i.a, .int .i64 i.b, .int .i64 i.imm] 44))
            have HTX := Lib.hid (HTGx.out _ k2.out)
            go_wp2_with fail
            refine HTX.out.mono ?_; rintro e x3 ⟨rfl, hb3⟩
            have BX3 := Lib.hid (BoxQ.below BX2.out hb3)
            have RW3 := Lib.hid (RowsB.below RW2.out hb3)
            have k3 := Lib.hid (Kept.to k2.out hb3)
            clear hb3 u0 u1 u2 u3 u4 u5 f1 f2 f3
            cases hju : isJump i
            · rw [targetZ_no (n := l.length) (k := P) (.inl hju)]
              clear HTT
              obtain ⟨_, u0, u1, u2, u3, u4, u5, f1, f2, f3⟩ := BX3.out
              have hbs := Lib.hid (show blkZ l L k = ⟨FR, (P : Int) + 1, numZ L ((P : Int) + 1), -1⟩ by rw [HBKk.out]; simp [hgo, hju])
              have hwz := Lib.hid (show W.heap.size ≤ x3.heap.size from k3.out.size)
              go_wp2_with (at_builtin; refine wpList_append_own _ rfl (.tmp 67) (.tmp 69) 29 rfl W.heap.size 24 i0 (.agg #[.int .i64 0, .int .i64 0, .int .i64 0, .int .i64 0, .slice none 0 0, .slice none 0 0]) 6 80 Tryz.underlying29 hi hz0 hz1 HZ2.out rfl (by omega) _ k (flat blkL (cutTo l L k)) rfl (RW3.out.out.alloc _) _ 1 1 (blkL ⟨FR, (P : Int) + 1, numZ L ((P : Int) + 1), -1⟩) rfl rfl (new_cells_at _ _ (by simp) _ _ _ rfl) (blkL_one _) (by unfold maxLen; omega) (by omega) (by have := hwz.out; simp at this ⊢; omega) ?_; intro v2 x5 hO5 hg5 _)
              have k5 : Kept W x5 := Below.grown (Kept.alloc k3.out _) hg5 (by have := hwz.out; simp at this ⊢; omega) (fun q hq => (RW3.out.out.lt q hq).1)
              have hL5 := own_grown (RW3.out.lead.alloc _) hg5 (fun q hq => by rw [← hq]; exact own_apart RW3.out.lead RW3.out.out (by decide) hq)
              clear hg5
              go_roundw
              case rel =>
                refine ⟨k + 1, by omega, by go_num, k5, hL5, ?_⟩
                rw [HCS.out, flat_snoc, hbs.out]
                exact hO5
              case measure => simp [intOf]; omega
            · obtain ⟨t0, t1⟩ := HTT.out hju
              rw [targetZ_jump hju t0 t1 (by omega) (by omega)]
              obtain ⟨_, u0, u1, u2, u3, u4, u5, f1, f2, f3⟩ := BX3.out
              have hl9 := RW3.out.lead
              rw [HN.out] at hl9
              have HNX := Lib.hid (HNA.out _ ((P : Int) + i.imm) hl9)
              clear hl9
              go_wp2_with fail
              refine HNX.out.mono ?_; rintro e x4 ⟨rfl, rfl⟩
              have BX4 := Lib.hid (BX3.out.takenTo (numZ L ((P : Int) + i.imm)))
              have RW4 := Lib.hid (RW3.out.set (g := Q) (o := 3) (.int .i64 (numZ L ((P : Int) + i.imm))) (hnl.out _ (by omega)) (fun e => hno.out _ (by omega) e))
              have k4 := Lib.hid (Kept.set k3.out (g := Q) (o := 3) (by omega) (.int .i64 (numZ L ((P : Int) + i.imm))))
              have hbs := Lib.hid (show blkZ l L k = ⟨FR, (P : Int) + 1, numZ L ((P : Int) + 1), numZ L ((P : Int) + i.imm)⟩ by rw [HBKk.out]; simp [hgo, hju])
              have hwz := Lib.hid (show W.heap.size ≤ x3.heap.size from k3.out.size)
              go_wp2_with (at_builtin; refine wpList_append_own _ rfl (.tmp 67) (.tmp 69) 29 rfl W.heap.size 24 i0 (.agg #[.int .i64 0, .int .i64 0, .int .i64 0, .int .i64 0, .slice none 0 0, .slice none 0 0]) 6 80 Tryz.underlying29 hi hz0 hz1 HZ2.out rfl (by omega) _ k (flat blkL (cutTo l L k)) rfl (RW4.out.out.alloc _) _ 1 1 (blkL ⟨FR, (P : Int) + 1, numZ L ((P : Int) + 1), numZ L ((P : Int) + i.imm)⟩) rfl rfl (new_cells_at _ _ (by simp) _ _ _ rfl) (blkL_one _) (by unfold maxLen; omega) (by omega) (by have := hwz.out; simp at this ⊢; omega) ?_; intro v2 x5 hO5 hg5 _)
              have k5 : Kept W x5 := Below.grown (Kept.alloc k4.out _) hg5 (by have := hwz.out; simp at this ⊢; omega) (fun q hq => (RW4.out.out.lt q hq).1)
              have hL5 := own_grown (RW4.out.lead.alloc _) hg5 (fun q hq => by rw [← hq]; exact own_apart RW4.out.lead RW4.out.out (by decide) hq)
              clear hg5
              go_roundw
              case rel =>
                refine ⟨k + 1, by omega, by go_num, k5, hL5, ?_⟩
                rw [HCS.out, flat_snoc, hbs.out]
                exact hO5
              case measure => simp [intOf]; omega
    · have hkn2 : k = n := by omega
      subst hkn2
      go_wp2_with fail
      go_ret
      have hout := HRW.out.out
      rw [HCR.out]
      exact ⟨_, rfl, by rw [HCL.out]; exact own_base hout (by omega), HK.out _ hk⟩
end Go.Proofs.YteagglddgkjkmaaGreat.Words
